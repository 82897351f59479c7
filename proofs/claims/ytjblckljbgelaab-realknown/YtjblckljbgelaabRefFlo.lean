/-
  The document's Float, and same.
-/
import Derived.Test.YtjblckljbgelaabFlo
namespace Go.Proofs.Ytjblckljbgelaab
open Go.RowKit
open Fl (fl wUp wDn NaN)
theorem same_any (a b : Nat) (w : World) (h : Fl.Same a b) :
    Calls Try.prog 9 #[.float .f64 a, .float .f64 b] w fun x w' => x = .returned (.bool true) ∧ w' = w := by
  rcases h with ⟨ha, hb⟩ | ⟨rfl, hg, hz⟩
  · have oa : FloatKind.f64.format.order a a = none := Fl.nan_order ha
    have ob : FloatKind.f64.format.order b b = none := Fl.nan_order hb
    clear ha hb
    have na : (FloatKind.f64.format.order a a != some .eq) = true := by rw [oa]; rfl
    have nb : (FloatKind.f64.format.order b b != some .eq) = true := by rw [ob]; rfl
    clear oa ob
    go_enter Try.func9, Try.ntmps9
    go_wp2
    go_ret
    exact ⟨rfl, rfl⟩
  · have na : (FloatKind.f64.format.order a a != some .eq) = false := by rw [hg]; rfl
    have ea : (FloatKind.f64.format.order a a == some .eq) = true := by rw [hg]; rfl
    by_cases h0 : FloatKind.f64.format.order a 0 = some .eq
    · obtain ⟨q, hq, hqq⟩ := hz h0
      have nz : (FloatKind.f64.format.order a 0 != some .eq) = false := by rw [h0]; rfl
      have eq : (FloatKind.f64.format.order q q == some .eq) = true := by rw [hqq]; rfl
      have hop : ∀ t w, (binOp .quo t (.float .f64 4607182418800017408) (.float .f64 a)).run Try.prog w = .ok (.float .f64 q) w := fun t w => run_float_arith w .quo t .f64 _ _ _ hq
      clear hg h0 hz hqq hq
      go_enter Try.func9, Try.ntmps9
      go_wp2_with (simp only [hop])
      go_ret
      exact ⟨rfl, rfl⟩
    · have nz : (FloatKind.f64.format.order a 0 != some .eq) = true := by
        rw [bne_iff_ne]; exact h0
      clear hg h0 hz
      go_enter Try.func9, Try.ntmps9
      go_wp2
      go_ret
      exact ⟨rfl, rfl⟩
/-- Two answers of Float of the same real are the same. -/
theorem same_no {k m e : Int} {a b : Nat} (ha : FlNo k m e a) (hb : FlNo k m e b) : Fl.Same a b := by
  unfold FlNo at ha hb
  split at ha
  · rename_i hc
    rw [if_pos hc] at hb
    subst ha; subst hb
    rw [Fl.inf_word]
    exact Or.inr ⟨rfl, Fl.good_inf false⟩
  · rename_i hc
    rw [if_neg hc] at hb
    split at ha
    · rename_i hd
      rw [if_pos hd] at hb
      subst ha; subst hb
      rw [Fl.minf_word]
      exact Or.inr ⟨rfl, Fl.good_inf true⟩
    · rename_i hd
      rw [if_neg hd] at hb
      exact Or.inl ⟨ha, hb⟩
theorem same_yes {m e : Int} (hn : numB 0 m e = true) : Fl.Same (fl m e) (fl m e) := by
  obtain ⟨_, h1, h2, h3, h4⟩ := num_bd hn
  exact Or.inr ⟨rfl, Fl.good_fl h1 h2 h4⟩
end Go.Proofs.Ytjblckljbgelaab
