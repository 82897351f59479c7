/-
  The statements' own helpers: copied, same, reads, wrong, says, works.
-/
import Derived.Test.YtlfcihanhfabmaaGreatDoorNtW
import Derived.Test.YtlfcihanhfabmaaGreatDoorNtG
import Derived.Laws.StructEq
namespace Go.Proofs.YtlfcihanhfabmaaGreatDoor
open Go.RowKit
set_option maxRecDepth 8000
open L1 (S)
theorem neN_no (x y : Operand) (d : Nd) (w : World) : (do eqGuard .neq 33 x y d.val d.val; binOp .neq 33 d.val d.val : Sem Value).run Tryz.prog w = .ok (.bool false) w := by
  unfold Nd.val
  simp [go_sem, eqGuard]
set_option maxHeartbeats 400000 in
theorem same_yes (L : List Nd) (hm : L.length ≤ 4611686018427387904) (w : World) (a b : Option Addr) (c d : Nat) (h1 : NRow w a L.length L) (h2 : NRow w b L.length L) : Calls Tryz.prog 12 #[.slice a L.length c, .slice b L.length d] w fun e w' => e = .returned (.bool true) ∧ After w w' := by
  obtain ⟨n, hn⟩ : ∃ n, n = L.length := ⟨_, rfl⟩
  rw [← hn] at h1 h2 ⊢
  have H1 := hideIt h1
  have H2 := hideIt h2
  have hm' : (n : Int) ≤ 4611686018427387904 := by omega
  clear h1 h2 hn hm
  go_enter Tryz.func12, Tryz.ntmps12
  go_wp2_with fail
  go_loopw [5] (fun i wr => ∃ j : Nat, j ≤ n ∧ i = .int .i64 (j : Int) ∧ After w wr) (fun i _ => n - (intOf i).toNat)
  case atStart => exact ⟨0, Nat.zero_le _, rfl, After.rfl⟩
  case round =>
    obtain ⟨j, hj, rfl, aw⟩ := hrel
    have HA := hideIt aw
    by_cases hjn : j < n
    · have i1 : (j : Int) < (n : Int) := by omega
      obtain ⟨b1, o1, x, rfl, hb1, hx, p0, p1, p2, p3⟩ := nrow_at (H1.out.after aw) hjn
      obtain ⟨b2, o2, y, rfl, hb2, hy, q0, q1, q2, q3⟩ := nrow_at (H2.out.after aw) hjn
      rw [hx] at hy
      obtain rfl : x = y := by cases hy; rfl
      have hn2 := fun x1 y1 W => neN_no x1 y1 x W
      unfold Nd.val at hn2
      clear aw hj hx hy
      go_wp2
      go_quiet (fail)
      go_wp2
      go_roundw
      case rel => exact ⟨j + 1, by omega, by go_num, HA.out.draws nq⟩
      case measure => simp [intOf]; omega
    · have i1 : ¬ (j : Int) < (n : Int) := by omega
      clear aw hj
      go_wp2
      go_ret
      exact ⟨rfl, HA.out⟩
/-- What Parse hands back, as a slice. -/
theorem parse_slice (s : W8) (w : World) (hl : Laid w) (hz : s.length ≤ maxLen) : Calls Tryz.prog 14 #[.string (S s)] w fun e w' => ∃ a c, e = .returned (.tuple #[.slice a (parseA s).ns.length c, .int .i64 ((parseA s).at_ : Int), .int .i64 (parseA s).e]) ∧ ORow ndE 33 w' w.heap.size (.slice a (parseA s).ns.length c) (parseA s).ns ∧ NRow w' a (parseA s).ns.length (parseA s).ns ∧ After w w' := by
  refine (parse_is s w hl hz).mono ?_
  rintro e w' ⟨v, rfl, ho, ha⟩
  obtain ⟨a, c, rfl, hr, _⟩ := ho.row
  exact ⟨a, c, rfl, ho, hr, ha⟩
theorem reads_yes {s : W8} {L : List Nd} (hp : parseA s = ⟨L, 0, 0⟩) (w : World) (hl : Laid w) (hz : s.length ≤ 100000) (b : Option Addr) (d : Nat) (hr : NRow w b L.length L) (hm : L.length ≤ 32) : Calls Tryz.prog 19 #[.string (S s), .slice b L.length d] w fun e w' => e = .returned (.bool true) ∧ After w w' := by
  have HP := hideIt (parse_slice s w hl (by unfold maxLen; omega))
  rw [hp] at HP
  have HR := hideIt hr
  have HM := hideIt hm
  clear hp hl hz hr hm
  go_enter Tryz.func19, Tryz.ntmps19
  go_wp2_with fail
  refine HP.out.mono ?_
  rintro e w1 ⟨a, c, rfl, -, r1, a1⟩
  have HA := hideIt (And.intro r1 a1)
  clear r1 a1
  go_wp2_with fail
  refine (same_yes L (by have := HM.out; omega) _ a b c d HA.out.1 (HR.out.after HA.out.2)).mono ?_
  rintro e w2 ⟨rfl, a2⟩
  have HA2 := hideIt (HA.out.2.trans a2)
  clear a2
  go_wp2
  go_ret
  exact ⟨rfl, HA2.out⟩
theorem wrong_yes {s : W8} {p : Nat} (hp : parseA s = ⟨[], p, 4⟩) (w : World) (hl : Laid w) (hz : s.length ≤ 100000) : Calls Tryz.prog 22 #[.string (S s), .int .i64 (p : Int)] w fun e w' => e = .returned (.bool true) ∧ After w w' := by
  have HP := hideIt (parse_slice s w hl (by unfold maxLen; omega))
  rw [hp] at HP
  clear hp hl hz
  go_enter Tryz.func22, Tryz.ntmps22
  go_wp2_with fail
  refine HP.out.mono ?_
  rintro e w1 ⟨a, c, rfl, -, -, a1⟩
  have HA := hideIt a1
  clear a1
  go_wp2
  go_ret
  exact ⟨rfl, HA.out⟩
theorem says_yes {L : List Nd} (ht : textE L = 0) (w : World) (hl : Laid w) (a : Option Addr) (c : Nat) (hr : NRow w a L.length L) : Calls Tryz.prog 17 #[.slice a L.length c] w fun e w' => e = .returned (.string (S (textV L))) ∧ After w w' := by
  have HT := hideIt (textA_any L w hl a c hr)
  rw [ht] at HT
  clear ht hl hr
  go_enter Tryz.func17, Tryz.ntmps17
  go_wp2_with fail
  refine HT.out.mono ?_
  rintro e w1 ⟨rfl, a1⟩
  have HA := hideIt a1
  clear a1
  go_wp2
  go_ret
  exact ⟨rfl, HA.out⟩
theorem says_no {L : List Nd} (ht : ¬ textE L = 0) (w : World) (hl : Laid w) (a : Option Addr) (c : Nat) (hr : NRow w a L.length L) : Calls Tryz.prog 17 #[.slice a L.length c] w fun e w' => e = .returned (.string (S [63])) ∧ After w w' := by
  have hv : textV L = [] := by
    unfold textV
    unfold textE at ht
    split
    · split
      · rfl
      · rename_i h1 h2; rw [if_pos h1, if_neg h2] at ht; exact absurd rfl ht
    · rfl
  have HT := hideIt (textA_any L w hl a c hr)
  rw [hv] at HT
  obtain ⟨E, hE⟩ : ∃ E, E = textE L := ⟨_, rfl⟩
  rw [← hE] at HT ht
  have hb : (E == 0) = false := by simpa using ht
  have e1 : (⟨#[63]⟩ : ByteArray) ++ S [] = S [63] := L1.S_cat [63] []
  have z1 : (S []).size = 0 := rfl
  clear hl hr hv hE
  go_enter Tryz.func17, Tryz.ntmps17
  go_wp2_with fail
  refine HT.out.mono ?_
  rintro e w1 ⟨rfl, a1⟩
  have HA := hideIt a1
  clear a1
  go_wp2
  go_ret
  exact ⟨rfl, HA.out⟩
def wk1 : W8 := [99, 48, 32, 62, 32, 51, 54, 46, 54]
def wk2 : W8 := [111, 110, 99, 101, 32, 53, 32, 40, 99, 48, 32, 108, 111, 119, 32, 115, 105, 110, 99, 101, 32, 99, 50, 32, 60, 32, 45, 49, 41]
def wk3 : W8 := [116, 114, 117, 101, 32, 111, 114]
theorem wk1_is : parseA wk1 = ⟨[⟨1, 0, 0, 36600⟩], 0, 0⟩ := by kernel_rfl
theorem wk2_is : parseA wk2 = ⟨[⟨4, 0, 0, 0⟩, ⟨2, 2, 0, -1000⟩, ⟨12, 0, 1, 0⟩, ⟨10, 2, 0, 5⟩], 0, 0⟩ := by kernel_rfl
theorem wk3_is : parseA wk3 = ⟨[], 7, 4⟩ := by kernel_rfl
theorem wk4_is : textV [⟨0, 0, 0, 0⟩, ⟨6, 0, 0, 0⟩, ⟨8, 1, 0, 0⟩] = [110, 111, 116, 32, 116, 114, 117, 101, 32, 111, 114, 32, 116, 114, 117, 101] := by kernel_rfl
theorem wk4_e : textE [⟨0, 0, 0, 0⟩, ⟨6, 0, 0, 0⟩, ⟨8, 1, 0, 0⟩] = 0 := by kernel_rfl
set_option maxHeartbeats 1000000 in
theorem works_any (w : World) (hl : Laid w) : Calls Tryz.prog 13 #[] w fun e w' => e = .returned (.bool true) ∧ After w w' := by
  have HL := hideIt hl
  clear hl
  have e4 : ((S [110, 111, 116, 32, 116, 114, 117, 101, 32, 111, 114, 32, 116, 114, 117, 101]).toList == [110, 111, 116, 32, 116, 114, 117, 101, 32, 111, 114, 32, 116, 114, 117, 101]) = true := by rw [eq_L]; rfl
  go_enter Tryz.func13, Tryz.ntmps13
  go_wp2_with fail
  refine (reads_yes wk1_is _ (HL.out.on (After.rfl.alloc _)) (by decide) _ 1 (lit_row (heap_alloc_new w _) rfl rfl) (by decide)).mono ?_
  rintro e w1 ⟨rfl, a1⟩
  have HA1 := hideIt ((After.rfl.alloc _).trans a1)
  clear a1
  go_wp2_with fail
  refine (reads_yes wk2_is _ (HL.out.on (HA1.out.alloc _)) (by decide) _ 4 (lit_row (heap_alloc_new w1 _) rfl rfl) (by decide)).mono ?_
  rintro e w2 ⟨rfl, a2⟩
  have HA2 := hideIt ((HA1.out.alloc _).trans a2)
  clear a2
  go_wp2_with fail
  refine (says_yes wk4_e _ (HL.out.on (HA2.out.alloc _)) _ 3 (lit_row (heap_alloc_new w2 _) rfl rfl)).mono ?_
  rw [wk4_is]
  rintro e w3 ⟨rfl, a3⟩
  have HA3 := hideIt ((HA2.out.alloc _).trans a3)
  clear a3
  go_wp2_with fail
  refine (wrong_yes wk3_is _ (HL.out.on HA3.out) (by decide)).mono ?_
  rintro e w4 ⟨rfl, a4⟩
  have HA4 := hideIt (HA3.out.trans a4)
  clear a4
  go_wp2
  go_ret
  exact ⟨rfl, HA4.out⟩
end Go.Proofs.YtlfcihanhfabmaaGreatDoor
