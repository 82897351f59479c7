/-
  New, Beat and Rate of the document's beats; Beat of package beats, said of all ticks that were taken.
-/
import Derived.Test.YtgapnimicaopcaaBtC
namespace Go.Proofs.Ytgapnimicaopcaa.L12
open Go.RowKit
set_option maxRecDepth 8000
/-- A beat, of all that were taken. -/
theorem btBeat_any {w : World} {p B n : Nat} {L : List Int} {v : Value} (x : BtX w p B n (lastN n L) v) (hBs : B ≤ w.heap.size) (t : Int) : Calls Try.prog 50 #[Ptr p, .int .i64 t] w fun e w' => e = .returned (.int .i64 (errT L t)) ∧ But (One p) w w' ∧ ∃ u, BtX w' p B n (lastN n (nxt L t)) u ∧ (u = v ∨ ∀ k, u.ownBlock = some k → w.heap.size ≤ k) := by
  have hn : 0 < n := by have := x.may; omega
  have hi : Fol (lastN n L) t ↔ Fol L t := by unfold Fol; rw [ear_last hn]
  by_cases h : Fol L t
  · rw [(nxt_yes h).1, (nxt_yes h).2]
    refine (btBeat_yes x hBs (hi.2 h)).mono ?_
    rintro e w' ⟨rfl, b, u, x', hu⟩
    rw [← last_kp hn] at x'
    exact ⟨rfl, b, u, x', .inr hu⟩
  · rw [(nxt_no h).1, (nxt_no h).2]
    refine (btBeat_no x (fun k => h (hi.1 k))).mono ?_
    rintro e w' ⟨rfl, d⟩
    exact ⟨rfl, d.after.but, v, x.after d.after, .inl rfl⟩
/-- One more behind ints of one's own: where they then lie. -/
theorem app_own {w : World} {ops : Array Oper} {rest : List Oper} {o : Oper} {act : Act} {Q : Exit → Act → World → Prop} (hgd : o.guard = none) (s x : Operand)
    (ho : o.op = .call { callee := .builtin .append, args := #[s, x], argTypes := #[75, 75] }) (B : Nat) (v : Value) (zs : List Int) (hs : act.eval s = v) (hown : OInts w B v zs)
    (ad : Addr) (y : Int) (hx : act.eval x = .slice (some ad) 1 1) (hr : IRow w (some ad) 1 [y]) (hb : zs.length + 1 ≤ 17592186044416) (hbase : B ≤ w.heap.size)
    (h : ∀ a' c w', OInts w' B (.slice a' (zs ++ [y]).length c) (zs ++ [y]) → But (fun k => v.ownBlock = some k) w w' → ((Value.slice a' (zs ++ [y]).length c).ownBlock = v.ownBlock ∨ (Value.slice a' (zs ++ [y]).length c).ownBlock = some w.heap.size) → wpList Try.prog ops Q rest (act.put o.dst (.slice a' (zs ++ [y]).length c)) w') : wpList Try.prog ops Q (o :: rest) act w := by
  obtain ⟨i0, hi, hz⟩ := Option.map_eq_some_iff.1 Try.infoInt
  simp only [Prod.mk.injEq] at hz
  obtain ⟨hz0, hz1, hz2⟩ := hz
  refine wpList_append_own_at w hgd s x 75 ho B 3 i0 (.int .i64 0) 1 8 Try.underlying75 hi hz0 hz1 hz2 rfl (by decide) v zs.length (i64s zs) hs hown ad 1 1 (i64s [y]) hx rfl (irow_news hr) (i64s_one _) (by unfold maxLen; omega) (by omega) hbase ?_
  intro v' w' h1 h2 _ h4
  rw [i64s_append] at h1
  have e : zs.length + 1 = (zs ++ [y]).length := by rw [List.length_append, List.length_singleton]
  rw [e] at h1
  obtain ⟨a', c, rfl⟩ := own_lit h1
  exact h a' c w' h1 (But.grown But.rfl h2 (fun k hk _ => hk)) h4
theorem fol_cases (L : List Int) (t : Int) : (¬ Fol L t ∧ t < 0) ∨ (¬ Fol L t ∧ ¬ t < 0 ∧ 2147483647 < t) ∨ (¬ Fol L t ∧ ¬ t < 0 ∧ ¬ 2147483647 < t ∧ 0 < L.length ∧ t ≤ L.getD (L.length - 1) 0) ∨ (Fol L t ∧ ¬ t < 0 ∧ ¬ 2147483647 < t ∧ L.length = 0) ∨ (Fol L t ∧ ¬ t < 0 ∧ ¬ 2147483647 < t ∧ 0 < L.length ∧ ¬ t ≤ L.getD (L.length - 1) 0) ∨ (0 < L.length ∧ L.getD (L.length - 1) 0 < 0) := by
  unfold Fol ear
  by_cases h : L.length = 0
  · rw [if_pos h]; omega
  · rw [if_neg h]; omega
end Go.Proofs.Ytgapnimicaopcaa.L12
