/-
  The document's box: a kind, a length, and bytes.
-/
import Derived.Test.YtigiakhdaaoljaaRefFld
namespace Go.Proofs.Ytigiakhdaaoljaa
open Go.RowKit
set_option maxRecDepth 8000
theorem box_any (w : World) (k : Int) (a : Option Addr) (n c : Nat) (bs : List Int) (rb : Row w a n bs) (ha : a = none → n = 0 ∧ c = 0) (hn : n ≤ 1000000) :
    Calls Try.prog 31 #[.int .i64 k, .slice a n c] w fun e w' => Flds w w' e (wnNew 2 65535 k ++ wnNew 2 65535 n ++ bs) := by
  have HR := hideIt (And.intro rb (And.intro ha hn))
  have H1 := hideIt (refWrite_any w)
  clear rb ha hn
  go_enter Try.func31, Try.ntmps31
  go_wp2_with fail
  refine H1.out.mono ?_
  clear H1
  rintro e w1 ⟨rfl, r1, a1⟩
  have n1 : RwN w w1 w.heap.size [] := ⟨Nat.le_refl _, _, r1, (fun k h => by cases h), a1⟩
  obtain ⟨g, hg⟩ : ∃ g, w.heap.size = g := ⟨_, rfl⟩
  rw [hg] at n1 ⊢
  have H2 := hideIt (n_u16 w w1 g [] k n1 (by simp))
  have HG := hideIt hg
  clear r1 a1 n1 hg
  go_wp2_with fail
  refine H2.out.mono ?_
  clear H2
  rintro e w2 ⟨E2, rfl, n2⟩
  have H3 := hideIt (n_u16 w w2 g _ n n2 (by rw [List.nil_append]; have := wnNew_len 2 65535 k; omega))
  clear n2
  go_wp2_with fail
  refine H3.out.mono ?_
  clear H3
  rintro e w3 ⟨E3, rfl, n3⟩
  obtain ⟨v, cv, v', hv', ho, hbs, a3⟩ := RwN.ends After.rfl n3
  cases hv'
  obtain ⟨rb, ha, hn⟩ := HR.out
  rw [List.nil_append] at ho hbs
  have hl : (wnNew 2 65535 k ++ wnNew 2 65535 (n : Int)).length ≤ 4 := by rw [List.length_append]; have := wnNew_len 2 65535 k; have := wnNew_len 2 65535 (n : Int); omega
  obtain ⟨zs, hzs⟩ : ∃ zs, wnNew 2 65535 k ++ wnNew 2 65535 (n : Int) = zs := ⟨_, rfl⟩
  rw [hzs] at ho hbs hl
  have HZS := hideIt hzs
  obtain ⟨m, hm⟩ : ∃ m, zs.length = m := ⟨_, rfl⟩
  rw [hm] at ho hl
  have HO := hideIt ho
  have HRB := hideIt (rb.after a3)
  have HA := hideIt ha
  have hnm : m + n ≤ 140737488355328 := by omega
  have HSZ := hideIt a3.size
  have HZ := hideIt (And.intro a3 (And.intro hbs (And.intro rb hm)))
  clear ho rb ha hn hl hzs hbs a3 n3 HR hm
  go_wp2_with (at_builtin; refine app_row rfl (.tmp 17) (.tmp 18) rfl w.heap.size _ m zs rfl HO.out a n c bs rfl HRB.out HA.out hnm HSZ.out ?_; intro v6 w6 hown hgrow; have O6 := hideIt hown; have G6 := hideIt hgrow; clear hown hgrow)
  go_ret
  obtain ⟨a3, hbs, rb, hm⟩ := HZ.out
  rw [HZS.out]
  refine ⟨v6, rfl, ?_, hbs.append rb.2.1, a3.but.then G6.out (fun i hi h => by have := (HO.out.lt i h).1; omega)⟩
  rw [List.length_append, hm, rb.1]
  exact O6.out
end Go.Proofs.Ytigiakhdaaoljaa
