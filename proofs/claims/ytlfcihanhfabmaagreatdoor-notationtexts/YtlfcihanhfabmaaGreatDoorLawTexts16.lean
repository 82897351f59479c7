/-
  The statement NotationTexts, walked.
-/
import Derived.Test.YtlfcihanhfabmaaGreatDoorNtZ
import Derived.Test.YtlfcihanhfabmaaGreatDoorNtX
namespace Go.Proofs.YtlfcihanhfabmaaGreatDoor
open Go.RowKit
set_option maxRecDepth 8000
open L1 (S)
theorem copied16 {L : List Nd} (w : World) (al : Option Addr) (cl : Nat) (h1 : NRow w al L.length L) (ha : al = none → L.length = 0 ∧ cl = 0) (hn : L.length ≤ 4398046511104) :
    Calls Tryz.prog 9 #[.slice al L.length cl] w fun e w' => ∃ a c, e = .returned (.slice a L.length c) ∧ NRow w' a L.length L ∧ After w w' := by
  have H1 := hideIt h1
  have HA := hideIt ha
  have hn' : 0 + L.length ≤ maxLen := by unfold maxLen; omega
  clear h1 ha
  go_enter Tryz.func9, Tryz.ntmps9
  go_wp2_with (at_builtin; refine app_row (E := ndE) rfl (.tmp 4) (.tmp 5) 22 33 Tryz.underlying22 Tryz.infoNode rfl (by decide) rfl w.heap.size _ [] rfl (orow_nil ndE _ _ _) al L.length cl L rfl H1.out HA.out hn' (by simp; omega) (Nat.le_refl _) ?_; intro v' w1 hown hb; have HO := hideIt (And.intro hown hb); clear hown hb)
  go_ret
  obtain ⟨a, c, rfl, hr, -, -⟩ := ORow.row HO.out.1
  exact ⟨a, c, rfl, hr, But.mono HO.out.2 (fun i hi h => by cases h)⟩
theorem law_texts (L : List Nd) (w : World) (hl : Laid w) (a : Option Addr) (n c : Nat) (hr : NRow w a n L) (ha : a = none → n = 0 ∧ c = 0) (hz : n ≤ 4398046510976) :
    Calls Tryz.prog 3 #[.slice a n c] w fun e w' => e = .returned (.bool true) ∧ After w w' := by
  obtain rfl : L.length = n := hr.1
  have HL := hideIt hl
  have HR := hideIt hr
  have HC := hideIt (copied16 w a c hr ha (by omega))
  have HT := hideIt (fun W (b : After w W) a' c' (h : NRow W a' L.length L) => textA_any L W (hl.on b) a' c' h)
  have HF := hideIt (fun W (b : After w W) => refText_any L W a c (hr.after b))
  have HS := hideIt (fun W (b : After w W) a' c' (h : NRow W a' L.length L) => same_yes L (by omega) W a' a c' c h (hr.after b))
  generalize textV L = V at *
  generalize textE L = E at *
  generalize L.length = n at *
  clear hl hr ha hz
  go_enter Tryz.func3, Tryz.ntmps3
  go_wp2_with fail
  refine HC.out.mono ?_
  rintro e w1 ⟨a1, c1, rfl, r1, b1⟩
  have H1 := hideIt (And.intro r1 b1)
  clear r1 b1
  go_wp2_with fail
  refine (HT.out _ H1.out.2 a1 c1 H1.out.1).mono ?_
  rintro e w2 ⟨rfl, b2⟩
  have H2 := hideIt (And.intro (H1.out.1.after b2) (H1.out.2.trans b2))
  clear b2
  go_wp2_with fail
  refine (HF.out _ H2.out.2).mono ?_
  rintro e w3 ⟨rfl, b3⟩
  have H3 := hideIt (And.intro (H2.out.1.after b3) (H2.out.2.trans b3))
  clear b3
  go_wp2_with fail
  refine (HS.out _ H3.out.2 a1 c1 H3.out.1).mono ?_
  rintro e w4 ⟨rfl, b4⟩
  have H4 := hideIt (H3.out.2.trans b4)
  clear b4
  go_wp2_with fail
  refine (works_any _ (HL.out.on H4.out)).mono ?_
  rintro e w5 ⟨rfl, b5⟩
  have H5 := hideIt (H4.out.trans b5)
  clear b5
  go_wp2
  go_ret
  exact ⟨rfl, H5.out⟩
end Go.Proofs.YtlfcihanhfabmaaGreatDoor
