/-
  Two rows of ints of one's own, apart from one another, to each of which is appended.
-/
import Derived.Test.YtihflpoopdgcbaaBlk
namespace Go.Proofs.Ytihflpoopdgcbaa
open Go.RowKit
set_option maxRecDepth 8000
/-- Two rows of one's own, apart. -/
structure Duo (w : World) (B : Nat) (v u : Value) (xs ys : List Int) : Prop where
  fst : OInts w B v xs
  snd : OInts w B u ys
  apart : ∀ q, v.ownBlock = some q → u.ownBlock ≠ some q
theorem Duo.swap {w : World} {B : Nat} {v u : Value} {xs ys : List Int} (d : Duo w B v u xs ys) : Duo w B u v ys xs := ⟨d.snd, d.fst, fun q h k => d.apart q k h⟩
theorem Duo.nil (w : World) (B : Nat) : Duo w B (.slice none 0 0) (.slice none 0 0) [] [] := ⟨own_nil w B, own_nil w B, fun q h => by cases h⟩
theorem Duo.but {S : Nat → Prop} {w w' : World} {B : Nat} {v u : Value} {xs ys : List Int} (d : Duo w B v u xs ys) (b : But S w w') (h : ∀ k, B ≤ k → ¬ S k) : Duo w' B v u xs ys :=
  ⟨own_but d.fst b (fun k hk => h k (own_lt d.fst hk).1), own_but d.snd b (fun k hk => h k (own_lt d.snd hk).1), d.apart⟩
theorem Duo.after {w w' : World} {B : Nat} {v u : Value} {xs ys : List Int} (d : Duo w B v u xs ys) (a : After w w') : Duo w' B v u xs ys := d.but a (fun _ _ t => t)
/-- One int is appended to the first. -/
theorem app_duo {w : World} {ops : Array Oper} {rest : List Oper} {o : Oper} {act : Act} {Q : Exit → Act → World → Prop} (hgd : o.guard = none) (s x : Operand)
    (ho : o.op = .call { callee := .builtin .append, args := #[s, x], argTypes := #[22, 22] }) (B : Nat) (v u : Value) (xs ys : List Int) (hs : act.eval s = v) (d : Duo w B v u xs ys)
    (ad : Addr) (y : Int) (hx : act.eval x = .slice (some ad) 1 1) (hr : IRow w (some ad) 1 [y]) (hb : xs.length + 1 ≤ 17592186044416) (hbase : B ≤ w.heap.size)
    (h : ∀ v' w', Duo w' B v' u (xs ++ [y]) ys → But (From B) w w' → wpList Try.prog ops Q rest (act.put o.dst v') w') : wpList Try.prog ops Q (o :: rest) act w := by
  obtain ⟨i0, hi, hz⟩ := Option.map_eq_some_iff.1 Try.infoInt
  simp only [Prod.mk.injEq] at hz
  obtain ⟨hz0, hz1, hz2⟩ := hz
  refine wpList_append_own_at w hgd s x 22 ho B 3 i0 (.int .i64 0) 1 8 Try.underlying22 hi hz0 hz1 hz2 rfl (by decide) v xs.length (i64s xs) hs d.fst ad 1 1 (i64s [y]) hx rfl (irow_news hr) (i64s_one _) (by unfold maxLen; omega) (by omega) hbase ?_
  intro v' w' h1 h2 _ h4
  rw [i64s_append] at h1
  have e : xs.length + 1 = (xs ++ [y]).length := by rw [List.length_append, List.length_singleton]
  rw [e] at h1
  have b1 : But (fun k => v.ownBlock = some k) w w' := But.grown But.rfl h2 (fun k hk _ => hk)
  refine h v' w' ⟨h1, own_but d.snd b1 (fun k hk t => d.apart k t hk), fun q hq hu => ?_⟩ (b1.mono (fun i _ t => (own_lt d.fst t).1))
  rcases h4 with h4 | h4
  · exact d.apart q (by rw [← h4]; exact hq) hu
  · rw [h4] at hq
    cases hq
    have := (own_lt d.snd hu).2
    omega
/-- One int is appended to the second. -/
theorem app_duo2 {w : World} {ops : Array Oper} {rest : List Oper} {o : Oper} {act : Act} {Q : Exit → Act → World → Prop} (hgd : o.guard = none) (s x : Operand)
    (ho : o.op = .call { callee := .builtin .append, args := #[s, x], argTypes := #[22, 22] }) (B : Nat) (v u : Value) (xs ys : List Int) (hs : act.eval s = u) (d : Duo w B v u xs ys)
    (ad : Addr) (y : Int) (hx : act.eval x = .slice (some ad) 1 1) (hr : IRow w (some ad) 1 [y]) (hb : ys.length + 1 ≤ 17592186044416) (hbase : B ≤ w.heap.size)
    (h : ∀ u' w', Duo w' B v u' xs (ys ++ [y]) → But (From B) w w' → wpList Try.prog ops Q rest (act.put o.dst u') w') : wpList Try.prog ops Q (o :: rest) act w :=
  app_duo hgd s x ho B u v ys xs hs d.swap ad y hx hr hb hbase (fun v' w' d' b => h v' w' d'.swap b)
end Go.Proofs.Ytihflpoopdgcbaa
