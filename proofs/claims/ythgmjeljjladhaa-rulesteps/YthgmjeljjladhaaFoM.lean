/-
  What was found, remembered in a map keyed by nodes and ticks.
-/
import Derived.Test.YthgmjeljjladhaaFoC
import Derived.DeepKeys4
import Derived.MapViews
import Derived.Lib.SmallJoins
import Derived.OpenShut
import Derived.ProofKit
namespace Go.Proofs.Ythgmjeljjladhaa
open Go.RowKit Go.Maps Go.ChangeShapes Go.WideShapes Go.ChangeAt
set_option maxRecDepth 100000
theorem laidOut : laidOutB Try.prog = true := by kernel_rfl
theorem rowM : (82 : TypeId) < Try.prog.types.size := of_decide_eq_true (by kernel_rfl)
theorem wideM : (match Try.prog.underlying 82 with | some (.array _ _) | some (.struct _) => true | _ => false) = true := by kernel_rfl
theorem deepM : Try.prog.keyTypeAt (Try.prog.types.size + 1) 82 = true := by kernel_rfl
theorem cellsM : Try.prog.cellsOf 82 = 2 := by kernel_rfl
theorem keyedM : Keyed Try.prog 82 := Keyed.of_law (deep_law_laid laidOut (m := 2) (by omega) rowM (by kernel_rfl) wideM)
theorem zeroA (w : World) : (zeroValue 85).run Try.prog w = .ok (.agg #[.bool false]) w := by kernel_rfl
/-- How an answer reads. -/
def ansElem : Value → Option (DataW Unit × List MemPlace)
  | .agg cs => match cs.toList with
    | [.bool b] => some (.agg [.lit (.bool b)], [])
    | _ => none
  | _ => none
theorem ansElem_mk (b : Bool) : ansElem (.agg #[.bool b]) = some (.agg [.lit (.bool b)], []) := rfl
theorem ansElem_inv {v : Value} {z : DataW Unit × List MemPlace} (h : ansElem v = some z) : ∃ b, v = .agg #[.bool b] ∧ z = (.agg [.lit (.bool b)], []) := by
  unfold ansElem at h
  split at h
  · rename_i cs
    split at h
    · rename_i b e
      cases h
      refine ⟨b, ?_, rfl⟩
      obtain ⟨l⟩ := cs
      simp at e
      rw [e]
    · cases h
  · cases h
abbrev keyV (i t : Int) : Value := .agg #[.int .i64 i, .int .i64 t]
def kl (i t : Nat) : Lit := (DataW.agg [.lit (.int .i64 (i : Int)), .lit (.int .i64 (t : Int))] : DataW Unit).asKey
theorem key_of {i t : Nat} (hi : i < 1000000) (ht : t < 1000000) : keyOf Try.prog 82 (keyV i t) = some (kl i t) := by
  have hd : DataW.Trod (fun _ => ()) Try.prog (World.settled Try.prog default) 0 (fun _ => true) true 82 (keyV i t) (DataW.agg [.lit (.int .i64 (i : Int)), .lit (.int .i64 (t : Int))]) [] :=
    _root_.Go.Joins.shut_agg2 (y0 := (.lit (.int .i64 (i : Int)), [])) (y1 := (.lit (.int .i64 (t : Int)), [])) Try.underlying82 (by kernel_rfl) cellsM ⟨1, trod_int_mk 0 Try.underlying3 (WalkArith.wf_i64 (by omega))⟩ ⟨1, trod_int_mk 0 Try.underlying3 (WalkArith.wf_i64 (by omega))⟩
  exact (keyOf_asKey deepM wideM (by simp [Value.formed, Try.underlying82, cellsM]) hd).1
theorem kl_inj {i t i' t' : Nat} (hi : i < 1000000) (ht : t < 1000000) (hi' : i' < 1000000) (ht' : t' < 1000000) (h : kl i t = kl i' t') : i = i' ∧ t = t' := by
  have := keyedM.inj (key_of hi ht) (h ▸ key_of hi' ht')
  simp [keyV] at this
  omega
theorem nodup_len : ∀ (n : Nat) (l : List Nat), l.Nodup → (∀ x ∈ l, x < n) → l.length ≤ n
  | 0, l, _, h => by
    cases l with
    | nil => exact Nat.le_refl _
    | cons x r => exact absurd (h x (by simp)) (by omega)
  | n + 1, l, hd, h => by
    have h1 : ∀ l : List Nat, l.Nodup → l.length ≤ (l.filter (fun x => x != n)).length + 1 := by
      intro l
      induction l with
      | nil => intro _; simp
      | cons x r ih =>
        intro hd
        obtain ⟨q1, q2⟩ := List.nodup_cons.1 hd
        by_cases hx : x = n
        · subst hx
          have e : r.filter (fun y => y != x) = r := List.filter_eq_self.2 (fun y hy => by
            have : y ≠ x := fun e => q1 (e ▸ hy)
            simp [this])
          simp [e]
        · have := ih q2
          simp [hx]
          simpa using this
    have h2 := nodup_len n (l.filter (fun x => x != n)) (hd.filter _) (fun x hx => by
      obtain ⟨q1, q2⟩ := List.mem_filter.1 hx
      have := h x q1
      simp at q2
      omega)
    have := h1 l hd
    omega
theorem pairs_len {M T : Nat} {ks : List (Nat × Nat)} (hd : ks.Nodup) (h : ∀ p ∈ ks, p.1 < M ∧ p.2 < T) : ks.length ≤ M * T := by
  have hi : ∀ p ∈ ks, ∀ q ∈ ks, p.1 * T + p.2 = q.1 * T + q.2 → p = q := by
    intro p hp q hq e
    have h1 := h p hp
    have h2 := h q hq
    have e1 : p.1 = q.1 := by
      have a1 : (p.1 * T + p.2) / T = p.1 := by
        rw [Nat.mul_comm, Nat.mul_add_div (by omega), Nat.div_eq_of_lt h1.2, Nat.add_zero]
      have a2 : (q.1 * T + q.2) / T = q.1 := by
        rw [Nat.mul_comm, Nat.mul_add_div (by omega), Nat.div_eq_of_lt h2.2, Nat.add_zero]
      rw [← a1, ← a2, e]
    have e2 : p.2 = q.2 := by rw [e1] at e; omega
    exact Prod.ext e1 e2
  have hn : (ks.map (fun p => p.1 * T + p.2)).Nodup := by
    unfold List.Nodup at hd ⊢
    rw [List.pairwise_map]
    exact hd.imp_of_mem (fun hp hq hne e => hne (hi _ hp _ hq e))
  have := nodup_len (M * T) _ hn (fun x hx => by
    obtain ⟨p, hp, rfl⟩ := List.mem_map.1 hx
    have h1 := h p hp
    have h2 : (p.1 + 1) * T ≤ M * T := Nat.mul_le_mul_right _ h1.1
    rw [Nat.add_mul] at h2
    omega)
  simpa using this
/-- Block g is a map that remembers of some nodes and ticks what V says of them. -/
def Memo (w : World) (g : Nat) (V : Nat → Nat → Bool) (M T : Nat) : Prop :=
  ∃ (D : DataW Unit) (ks : List (Nat × Nat)), w.ownsMap Try.prog 82 ansElem g ks.length D ∧ ks.Nodup ∧ (∀ p ∈ ks, p.1 < M ∧ p.2 < T) ∧ (∀ i t, i < M → t < T → (Maps.has D (kl i t) = true ↔ (i, t) ∈ ks)) ∧
    ∀ i t, i < M → t < T → Maps.has D (kl i t) = true → D.atKey (kl i t) (.agg [.lit (.bool false)]) = .agg [.lit (.bool (V i t))]
theorem Memo.map {w : World} {g : Nat} {V : Nat → Nat → Bool} {M T : Nat} (h : Memo w g V M T) : MapAt w g := by
  obtain ⟨D, ks, ⟨es, c, hb, _⟩, _⟩ := h
  exact ⟨es, c, hb⟩
theorem Memo.after {w w' : World} {g : Nat} {V : Nat → Nat → Bool} {M T : Nat} (h : Memo w g V M T) (a : After w w') : Memo w' g V M T := by
  obtain ⟨D, ks, ⟨es, c, hb, hf⟩, r⟩ := h
  exact ⟨D, ks, ⟨es, c, (a.block g (blk_lt hb) (fun t => t)).trans hb, hf⟩, r⟩
theorem Memo.new (w : World) (V : Nat → Nat → Bool) (M T : Nat) : Memo (w.alloc (.map #[] 0)) w.heap.size V M T := by
  refine ⟨.map [], [], World.ownsMap_made _ _ _ _, List.nodup_nil, fun p hp => (by cases hp), fun i t _ _ => ?_, fun i t _ _ h => ?_⟩
  · simp [Maps.has]
  · simp [Maps.has] at h
/-- What a look into it says. -/
theorem Memo.look {w : World} {g : Nat} {V : Nat → Nat → Bool} {M T : Nat} (h : Memo w g V M T) (hM : M ≤ 32) (hT : T ≤ 1000) {i t : Nat} (hi : i < M) (ht : t < T) :
    ∃ b ok, (Instr.lookup 80 (.map (some g)) (keyV i t) true).run Try.prog w = .ok (.tuple #[.agg #[.bool b], .bool ok]) w ∧ (ok = true → b = V i t) := by
  obtain ⟨D, ks, ho, _, _, _, hv⟩ := h
  obtain ⟨v, ps, hrun, hR⟩ := ho.look_ok keyedM Try.underlying80 (zeroA w) (ansElem_mk false) (key_of (i := i) (t := t) (by omega) (by omega))
  obtain ⟨b, rfl, hz⟩ := ansElem_inv hR
  refine ⟨b, _, hrun, fun hok => ?_⟩
  have := hv i t hi ht hok
  simp only [Prod.mk.injEq] at hz
  rw [this] at hz
  simpa using hz.1.symm
/-- .. and behind a store. -/
theorem Memo.put {w : World} {g : Nat} {V : Nat → Nat → Bool} {M T : Nat} (h : Memo w g V M T) (hM : M ≤ 32) (hT : T ≤ 1000) {i t : Nat} (hi : i < M) (ht : t < T) :
    ∃ w', (Instr.mapUpdate 80 (.map (some g)) (keyV i t) (.agg #[.bool (V i t)])).run Try.prog w = .ok () w' ∧ Memo w' g V M T ∧ But (One g) w w' := by
  obtain ⟨D, ks, ho, hd, hin, hk, hv⟩ := h
  have hlen : ks.length ≤ 32000 := by
    have h1 := pairs_len hd hin
    have h2 : M * T ≤ 32 * 1000 := Nat.mul_le_mul hM hT
    omega
  obtain ⟨w', hrun, how, ht2⟩ := ho.store keyedM Try.underlying80 (by unfold maxLen; omega) (key_of (i := i) (t := t) (by omega) (by omega)) (ansElem_mk (V i t))
  have hisM := ho.isMap
  have htd := ho.tidy keyedM
  have hkl : WideAt.IsKeyLit (kl i t) := keyedM.key (key_of (i := i) (t := t) (by omega) (by omega))
  have hg := ht2.grown
  refine ⟨w', hrun, ?_, ⟨hg.os, hg.tape, hg.output, hg.size, fun k hk hn => hg.block k hk (fun e => hn (by cases e; rfl))⟩⟩
  have ne : ∀ i' t', i' < M → t' < T → (i', t') ≠ (i, t) → kl i' t' ≠ kl i t := by
    intro i' t' h1 h2 hne e
    obtain ⟨rfl, rfl⟩ := kl_inj (by omega) (by omega) (by omega) (by omega) e
    exact hne rfl
  have hat : ∀ i' t', i' < M → t' < T → Maps.has (D.put (kl i t) (.agg [.lit (.bool (V i t))])) (kl i' t') = true → (D.put (kl i t) (.agg [.lit (.bool (V i t))])).atKey (kl i' t') (.agg [.lit (.bool false)]) = .agg [.lit (.bool (V i' t'))] := by
    intro i' t' h1 h2 h3
    by_cases he : (i', t') = (i, t)
    · cases he
      exact Maps.atKey_put_same hisM hkl _ _
    · have hne := ne i' t' h1 h2 he
      rw [Maps.has_put_other hne] at h3
      rw [Maps.atKey_put_other hne]
      exact hv i' t' h1 h2 h3
  by_cases hin2 : (i, t) ∈ ks
  · have hs : Maps.size (D.put (kl i t) (.agg [.lit (.bool (V i t))])) ≤ ks.length := by
      rw [Maps.size_put htd, if_pos ((hk i t hi ht).2 hin2)]
      exact ho.size_le
    refine ⟨_, ks, ?_, hd, hin, fun i' t' h1 h2 => ?_, hat⟩
    · obtain ⟨es, c, q1, q2, q3, q4⟩ := how
      refine ⟨es, c, q1, q2, ?_, q4⟩
      rw [q4] at hs
      simpa [Maps.size, length_sorted] using hs
    · by_cases he : (i', t') = (i, t)
      · cases he
        exact ⟨fun _ => hin2, fun _ => Maps.has_put_same hisM hkl _⟩
      · rw [Maps.has_put_other (ne i' t' h1 h2 he)]
        exact hk i' t' h1 h2
  · refine ⟨_, (i, t) :: ks, how, List.nodup_cons.2 ⟨hin2, hd⟩, fun p hp => ?_, fun i' t' h1 h2 => ?_, hat⟩
    · rcases List.mem_cons.1 hp with rfl | hp
      · exact ⟨hi, ht⟩
      · exact hin p hp
    · by_cases he : (i', t') = (i, t)
      · cases he
        exact ⟨fun _ => by simp, fun _ => Maps.has_put_same hisM hkl _⟩
      · rw [Maps.has_put_other (ne i' t' h1 h2 he), hk i' t' h1 h2, List.mem_cons]
        exact ⟨.inr, fun h => h.resolve_left he⟩
end Go.Proofs.Ythgmjeljjladhaa
