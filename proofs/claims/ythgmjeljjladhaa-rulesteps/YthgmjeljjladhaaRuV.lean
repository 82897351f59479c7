/-
  For RuleWindow: sums of windows; rows cut at the front; single operations.
-/
import Derived.Test.YthgmjeljjladhaaLawRefused17
namespace Go.Proofs.Ythgmjeljjladhaa
open Go.RowKit
set_option maxRecDepth 8000
/-- The windows of the first k nodes, together, as they are summed up. -/
def longS (L : List Nd) : Nat → Int
  | 0 => 0
  | k + 1 => longS L k + (if (L.getD k Nd.none).op = 10 then max (min (L.getD k Nd.none).n 64) 0 else 0)
theorem longS_bound (L : List Nd) : ∀ k : Nat, 0 ≤ longS L k ∧ longS L k ≤ 64 * (k : Int)
  | 0 => by simp [longS]
  | k + 1 => by
    have := longS_bound L k
    unfold longS
    split <;> omega
theorem longS_wsum {L : List Nd} {n : Int} (h : okAll L n = true) : ∀ k : Nat, k ≤ L.length → (wsum L k : Int) ≤ longS L k
  | 0, _ => by simp [longS, wsum]
  | k + 1, hk => by
    have ih := longS_wsum h k (by omega)
    have ho := okAll_getD h (i := k) (by omega)
    unfold longS wsum
    split
    · have := okN_n ho (by omega)
      omega
    · omega
theorem longS_at {L : List Nd} {k : Nat} {x : Nd} (hx : L[k]? = some x) : longS L (k + 1) = longS L k + (if x.op = 10 then max (min x.n 64) 0 else 0) := by
  have e : L.getD k Nd.none = x := by simp [List.getD, hx]
  show longS L k + _ = _
  rw [e]
theorem GRow.drop {α : Type} {E : Enc α} {w : World} {b off n : Nat} {xs : List α} (h : GRow E w (some ⟨b, off, none⟩) n xs) {k : Nat} (hk : k ≤ n) : GRow E w (some ⟨b, off + k * E.k, none⟩) (n - k) (xs.drop k) :=
  ⟨by rw [List.length_drop, h.1], fun i hi => by
    obtain ⟨b', off', x, e, hb, hx, h1⟩ := h.2 (k + i) (by omega)
    cases e
    refine ⟨b, off + k * E.k, x, rfl, hb, by rw [List.getElem?_drop]; exact hx, fun j v hj => ?_⟩
    have := h1 j v hj
    rw [show off + k * E.k + i * E.k + j = off + (k + i) * E.k + j by rw [Nat.add_mul]; omega]
    exact this⟩
theorem bits_no {f : Nat → Bool} {n : Nat} : (bitsOf f (n + 1)) ≠ ⟨#[63]⟩ := by
  intro h
  have h0 : 0 < (bitsOf f (n + 1)).size := by rw [bitsOf_size]; omega
  have hg := bits_nat (f := f) (n := n + 1) rfl h0
  have hs : (bitsOf f (n + 1)).size = 1 := by rw [h]; rfl
  have e : ((bitsOf f (n + 1))[0]).toNat = 63 := by
    simp only [h]
    rfl
  rw [e] at hg
  split at hg <;> cases hg
theorem bytes_no {B : ByteArray} (h : B ≠ ⟨#[63]⟩) : (B.toList == [63]) = false := by
  rw [ByteArray.toList_eq]
  rcases he : (B.data.toList == [63]) with _ | _
  · rfl
  · exfalso
    rw [beq_iff_eq] at he
    apply h
    obtain ⟨d⟩ := B
    have e : d = #[63] := Array.toList_inj.1 he
    rw [e]
theorem fieldP17 (g : Nat) (w : World) (i : Nat) (hi : i < 2) : (Instr.fieldAt 26 (Ptr g) i).run Try.prog w = .ok (.pointer (some ⟨g, i, none⟩)) w := by
  unfold Ptr
  rcases (by omega : i = 0 ∨ i = 1) with rfl | rfl
  all_goals simp [go_sem]
theorem sliceF (w : World) (b off n c k : Nat) (hk : (k : Int) < (n : Int)) (hn : (n : Int) ≤ (c : Int)) : (Instr.sliceAt 24 (.slice (some ⟨b, off, none⟩) n c) (some (.int .i64 (k : Int))) Option.none Option.none).run Try.prog w = .ok (.slice (some ⟨b, off + k, none⟩) (n - k) (c - k)) w := by
  have h1 : (k : Int) ≤ (n : Int) := by omega
  have h2 : ¬ c = k := by omega
  simp [go_sem, h1, h2]
theorem wp_sliceFrom {o : Oper} {a : Act} {w : World} {K : Act → World → Prop} {Q : Exit → Act → World → Prop} {t : Nat} {x y : Operand} {p q v : Value} (ho : o.op = .slice t x (some y) Option.none Option.none) (hx : a.eval x = p) (hy : a.eval y = q) (hr : (Instr.sliceAt t p (some q) Option.none Option.none).run Try.prog w = .ok v w) (h : K (a.put o.dst v) w) : Oper.wp Try.prog o a w K Q := by
  refine wp_val (r := Instr.sliceAt t p (some q) Option.none Option.none) ?_ hr h
  unfold execOp
  simp [ho, hx, hy]
theorem buildP17 (u v : Value) (hu : ∃ a n c, u = .slice a n c) (hv : ∃ a n c, v = .slice a n c) (w : World) : (Instr.build 26 #[(0, u), (1, v)]).run Try.prog w = .ok (.agg #[u, v]) w := by
  obtain ⟨a, n, c, rfl⟩ := hu
  obtain ⟨a', n', c', rfl⟩ := hv
  simp [go_sem]
end Go.Proofs.Ythgmjeljjladhaa
