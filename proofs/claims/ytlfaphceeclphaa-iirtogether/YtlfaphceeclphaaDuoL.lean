/-
  Two rows of ints of one's own, apart from one another, to each of which a list is appended.
-/
import Derived.Test.YtlfaphceeclphaaDuo
namespace Go.Proofs.Ytlfaphceeclphaa
open Go.RowKit
set_option maxRecDepth 8000
/-- A list is appended to the first. -/
theorem app_duoL {w : World} {ops : Array Oper} {rest : List Oper} {o : Oper} {act : Act} {Q : Exit → Act → World → Prop} (hgd : o.guard = none) (s x : Operand)
    (ho : o.op = .call { callee := .builtin .append, args := #[s, x], argTypes := #[22, 22] }) (B : Nat) (v u : Value) (xs ys : List Int) (hs : act.eval s = v) (d : Duo w B v u xs ys)
    (a : Option Addr) (m c : Nat) (zs : List Int) (hx : act.eval x = .slice a m c) (hr : IRow w a m zs) (ha : a = none → m = 0 ∧ c = 0) (hb : xs.length + m ≤ 17592186044416) (hbase : B ≤ w.heap.size)
    (h : ∀ v' w', Duo w' B v' u (xs ++ zs) ys → But (From B) w w' → wpList Try.prog ops Q rest (act.put o.dst v') w') : wpList Try.prog ops Q (o :: rest) act w := by
  obtain ⟨i0, hi, hz⟩ := Option.map_eq_some_iff.1 Try.infoInt
  simp only [Prod.mk.injEq] at hz
  obtain ⟨hz0, hz1, hz2⟩ := hz
  cases a with
  | none =>
    obtain ⟨rfl, rfl⟩ := ha rfl
    have hz : zs = [] := List.length_eq_zero_iff.1 hr.1
    subst hz
    refine wpList_append_own_none hgd s x 22 ho B 3 i0 1 Try.underlying22 hi v xs.length (i64s xs) hs d.fst hx ?_
    refine h v w ?_ But.rfl
    rw [List.append_nil]; exact d
  | some ad =>
    have hl1 : (i64s zs).length = m * 1 := by simp [i64s, hr.1]
    refine wpList_append_own_at w hgd s x 22 ho B 3 i0 (.int .i64 0) 1 8 Try.underlying22 hi hz0 hz1 hz2 rfl (by decide) v xs.length (i64s xs) hs d.fst ad m c (i64s zs) hx hl1 (irow_news hr) (i64s_one _) (by unfold maxLen; omega) (by omega) hbase ?_
    intro v' w' h1 h2 _ h4
    rw [i64s_append] at h1
    have e : xs.length + m = (xs ++ zs).length := by rw [List.length_append, hr.1]
    rw [e] at h1
    have b1 : But (fun k => v.ownBlock = some k) w w' := But.grown But.rfl h2 (fun k hk _ => hk)
    refine h v' w' ⟨h1, own_but d.snd b1 (fun k hk t => d.apart k t hk), fun q hq hu => ?_⟩ (b1.mono (fun i _ t => (own_lt d.fst t).1))
    rcases h4 with h4 | h4
    · exact d.apart q (by rw [← h4]; exact hq) hu
    · rw [h4] at hq
      cases hq
      have := (own_lt d.snd hu).2
      omega
/-- A list is appended to the second. -/
theorem app_duoL2 {w : World} {ops : Array Oper} {rest : List Oper} {o : Oper} {act : Act} {Q : Exit → Act → World → Prop} (hgd : o.guard = none) (s x : Operand)
    (ho : o.op = .call { callee := .builtin .append, args := #[s, x], argTypes := #[22, 22] }) (B : Nat) (v u : Value) (xs ys : List Int) (hs : act.eval s = u) (d : Duo w B v u xs ys)
    (a : Option Addr) (m c : Nat) (zs : List Int) (hx : act.eval x = .slice a m c) (hr : IRow w a m zs) (ha : a = none → m = 0 ∧ c = 0) (hb : ys.length + m ≤ 17592186044416) (hbase : B ≤ w.heap.size)
    (h : ∀ u' w', Duo w' B v u' xs (ys ++ zs) → But (From B) w w' → wpList Try.prog ops Q rest (act.put o.dst u') w') : wpList Try.prog ops Q (o :: rest) act w :=
  app_duoL hgd s x ho B u v ys xs hs d.swap a m c zs hx hr ha hb hbase (fun v' w' d' b => h v' w' d'.swap b)
end Go.Proofs.Ytlfaphceeclphaa
