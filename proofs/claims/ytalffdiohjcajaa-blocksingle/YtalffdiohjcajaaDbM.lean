/-
  Package block: a map of sectors in memory; sectors as values.
-/
import Derived.Test.YtalffdiohjcajaaDbP
import Derived.Test.YtalffdiohjcajaaBlk
import Derived.Maps.RangeWalk
namespace Go.Proofs.Ytalffdiohjcajaa
open Go.RowKit Go.Maps Go.WideElems Go.MapKept Go.ChangeMaps
set_option maxRecDepth 8000
abbrev secV (b : List Int) : Value := .agg (u8s b).toArray
def u8sOf : List Value → Option (List Int)
  | [] => some []
  | .int .u8 z :: r => (u8sOf r).map (z :: ·)
  | _ => none
theorem u8sOf_mk (b : List Int) : u8sOf (u8s b) = some b := by
  induction b with
  | nil => rfl
  | cons z r ih =>
    show (u8sOf (u8s r)).map (z :: ·) = _
    rw [ih]; rfl
theorem u8sOf_inv : ∀ (l : List Value) (b : List Int), u8sOf l = some b → l = u8s b
  | [], b, h => by
    cases h; rfl
  | .int .u8 z :: r, b, h => by
    have h : (u8sOf r).map (z :: ·) = some b := h
    obtain ⟨c, hc, rfl⟩ := Option.map_eq_some_iff.1 h
    rw [u8sOf_inv r c hc]; rfl
  | v :: r, b, h => by
    unfold u8sOf at h
    split at h
    · rename_i e; cases e
    · rename_i z r' e
      cases e
      obtain ⟨c, hc, rfl⟩ := Option.map_eq_some_iff.1 h
      rw [u8sOf_inv r c hc]; rfl
    · cases h
/-- How a sector reads. -/
def secD (b : List Int) : DataW Unit := .agg (b.map fun z => .lit (.int .u8 z))
def secElem : Value → Option (DataW Unit × List MemPlace)
  | .agg cs => (u8sOf cs.toList).map fun b => (secD b, [])
  | _ => none
theorem secElem_mk (b : List Int) : secElem (secV b) = some (secD b, []) := by
  show (u8sOf (u8s b)).map _ = _
  rw [u8sOf_mk]; rfl
theorem secElem_inv {v : Value} {z : DataW Unit × List MemPlace} (h : secElem v = some z) : ∃ b, v = secV b ∧ z = (secD b, []) := by
  unfold secElem at h
  split at h
  · rename_i cs
    obtain ⟨b, hb, rfl⟩ := Option.map_eq_some_iff.1 h
    refine ⟨b, ?_, rfl⟩
    have := u8sOf_inv _ _ hb
    unfold secV
    rw [← this]
  · cases h
theorem secD_inj {a b : List Int} (h : secD a = secD b) : a = b := by
  unfold secD at h
  injection h with h
  induction a generalizing b with
  | nil => cases b with
    | nil => rfl
    | cons _ _ => cases h
  | cons x r ih => cases b with
    | nil => cases h
    | cons y s =>
      simp only [List.map_cons, List.cons.injEq] at h
      obtain ⟨h1, h2⟩ := h
      rw [ih h2]
      cases h1; rfl
theorem Try.zeroSec (w : World) : (zeroValue 66).run Try.prog w = .ok (secV sec0) w := by kernel_rfl
theorem Try.infoSec : (Try.prog.info? 66).map (·.size) = some 64 := by kernel_rfl
theorem keyedD : Keyed Try.prog 3 := int_keyed Try.underlying3
theorem keyOf_nat {i : Nat} (hi : i < 1000000) : keyOf Try.prog 3 (.int .i64 i) = some (.int .i64 i) := keyOf_int_mk Try.underlying3 (WalkArith.wf_i64 (by omega))
theorem nodup_lenD : ∀ (n : Nat) (l : List Nat), l.Nodup → (∀ x ∈ l, x < n) → l.length ≤ n
  | 0, l, _, h => by
    cases l with
    | nil => exact Nat.le_refl _
    | cons x r => exact absurd (h x (by simp)) (by omega)
  | n + 1, l, hd, h => by
    have h1 : ∀ l : List Nat, l.Nodup → l.length ≤ (l.filter (fun x => x != n)).length + 1 := by
      intro l
      induction l with
      | nil => intro _; simp
      | cons x r ih =>
        intro hd
        obtain ⟨q1, q2⟩ := List.nodup_cons.1 hd
        by_cases hx : x = n
        · subst hx
          have e : r.filter (fun y => y != x) = r := List.filter_eq_self.2 (fun y hy => by
            have : y ≠ x := fun e => q1 (e ▸ hy)
            simp [this])
          simp [e]
        · have := ih q2
          simp [hx]
          simpa using this
    have h2 := nodup_lenD n (l.filter (fun x => x != n)) (hd.filter _) (fun x hx => by
      obtain ⟨q1, q2⟩ := List.mem_filter.1 hx
      have := h x q1
      simp at q2
      omega)
    have := h1 l hd
    omega
/-- The datum of a map says what was written to sectors below n. -/
structure Says (D : DataW Unit) (ks : List Nat) (n : Nat) (wr : Nat → Option (List Int)) : Prop where
  nd : ks.Nodup
  lt : ∀ k ∈ ks, k < n
  mem : ∀ k, k ∈ ks ↔ ∃ b, wr k = some b
  has : ∀ z : Int, Maps.has D (.int .i64 z) = true ↔ ∃ k ∈ ks, z = (k : Nat)
  at_ : ∀ k b, wr k = some b → ∀ zd, D.atKey (.int .i64 (k : Nat)) zd = secD b
/-- Block g is a map of what was written. -/
def Wrs (w : World) (g n : Nat) (wr : Nat → Option (List Int)) : Prop := ∃ D ks, w.ownsMap Try.prog 3 secElem g ks.length D ∧ Says D ks n wr
theorem Wrs.lt {w : World} {g n : Nat} {wr} (h : Wrs w g n wr) : g < w.heap.size := by
  obtain ⟨D, ks, ho, _⟩ := h
  exact ho.lt
theorem Wrs.but {S : Nat → Prop} {w w' : World} {g n : Nat} {wr} (h : Wrs w g n wr) (b : But S w w') (hn : ¬ S g) : Wrs w' g n wr := by
  obtain ⟨D, ks, ⟨es, c, hb, hf⟩, r⟩ := h
  exact ⟨D, ks, ⟨es, c, (b.block g (blk_lt hb) hn).trans hb, hf⟩, r⟩
theorem says_none {n : Nat} : Says (.map []) [] n (fun _ => none) :=
  ⟨List.nodup_nil, fun _ h => (by cases h), fun k => ⟨fun h => (by cases h), fun ⟨b, h⟩ => (by cases h)⟩, fun z => ⟨fun h => by simp [Maps.has] at h, fun ⟨k, h, _⟩ => (by cases h)⟩, fun k b h => (by cases h)⟩
theorem Wrs.new (w : World) (n : Nat) : Wrs (w.alloc (.map #[] 0)) w.heap.size n (fun _ => none) := ⟨.map [], [], World.ownsMap_made _ _ _ _, says_none⟩
/-- A look into it. -/
theorem Wrs.look {w : World} {g n : Nat} {wr} (h : Wrs w g n wr) {i : Nat} (hi : i < 1000000) :
    ∃ b ok, (Instr.lookup 54 (.map (some g)) (.int .i64 i) true).run Try.prog w = .ok (.tuple #[secV b, .bool ok]) w ∧ ((ok = true ∧ wr i = some b) ∨ (ok = false ∧ wr i = none ∧ b = sec0)) := by
  obtain ⟨D, ks, ho, hs⟩ := h
  obtain ⟨v, ps, hrun, hR⟩ := ho.look_ok keyedD Try.underlying54 (Try.zeroSec w) (secElem_mk sec0) (keyOf_nat hi)
  obtain ⟨b, rfl, hz⟩ := secElem_inv hR
  refine ⟨b, _, hrun, ?_⟩
  have hz1 := congrArg Prod.fst hz
  dsimp only at hz1
  cases e : wr i with
  | none =>
    right
    have hno : Maps.has D (.int .i64 (i : Int)) = false := by
      cases hh : Maps.has D (.int .i64 (i : Int)) with
      | false => rfl
      | true =>
        obtain ⟨k, hk, hki⟩ := (hs.has _).1 hh
        obtain rfl : i = k := by omega
        obtain ⟨b, hb⟩ := (hs.mem i).1 hk
        rw [e] at hb; cases hb
    rw [Maps.atKey_of_not_has hno] at hz1
    exact ⟨hno, rfl, (secD_inj hz1).symm⟩
  | some c =>
    left
    rw [hs.at_ i c e] at hz1
    exact ⟨(hs.has _).2 ⟨i, (hs.mem i).2 ⟨c, e⟩, rfl⟩, by rw [secD_inj hz1]⟩
/-- A store. -/
theorem Wrs.put {w : World} {g n : Nat} {wr} (h : Wrs w g n wr) (hn : n ≤ 256) {i : Nat} (hi : i < n) (b : List Int) :
    ∃ w', (Instr.mapUpdate 54 (.map (some g)) (.int .i64 i) (secV b)).run Try.prog w = .ok () w' ∧ Wrs w' g n (fun j => if j = i then some b else wr j) ∧ But (One g) w w' := by
  obtain ⟨D, ks, ho, hs⟩ := h
  have hlen : ks.length ≤ 256 := Nat.le_trans (nodup_lenD n ks hs.nd hs.lt) hn
  obtain ⟨w', hrun, how, ht2⟩ := ho.store keyedD Try.underlying54 (by unfold maxLen; omega) (keyOf_nat (i := i) (by omega)) (secElem_mk b)
  have hisM := ho.isMap
  have htd := ho.tidy keyedD
  have hkl : WideAt.IsKeyLit (.int .i64 (i : Int)) := keyedD.key (keyOf_nat (i := i) (by omega))
  have hg := ht2.grown
  refine ⟨w', hrun, ?_, ⟨hg.os, hg.tape, hg.output, hg.size, fun k hk hn => hg.block k hk (fun e => hn (by cases e; rfl))⟩⟩
  have ne : ∀ z : Int, z ≠ (i : Int) → (Lit.int .i64 z) ≠ .int .i64 (i : Int) := fun z hz e => hz (by injection e)
  have hhas : ∀ z : Int, Maps.has (D.put (.int .i64 (i : Int)) (secD b)) (.int .i64 z) = true ↔ (z = (i : Int) ∨ ∃ k ∈ ks, z = (k : Nat)) := by
    intro z
    by_cases he : z = (i : Int)
    · subst he
      exact ⟨fun _ => .inl rfl, fun _ => Maps.has_put_same hisM hkl _⟩
    · rw [Maps.has_put_other (ne z he), hs.has]
      exact ⟨.inr, fun h => h.resolve_left he⟩
  have hat : ∀ k c, (if k = i then some b else wr k) = some c → ∀ zd, (D.put (.int .i64 (i : Int)) (secD b)).atKey (.int .i64 (k : Nat)) zd = secD c := by
    intro k c hc zd
    by_cases he : k = i
    · subst he
      rw [if_pos rfl] at hc
      cases hc
      exact Maps.atKey_put_same hisM hkl _ _
    · rw [if_neg he] at hc
      rw [Maps.atKey_put_other (ne _ (by omega))]
      exact hs.at_ k c hc zd
  by_cases hin : i ∈ ks
  · have hsz : Maps.size (D.put (.int .i64 (i : Int)) (secD b)) ≤ ks.length := by
      rw [Maps.size_put htd, if_pos ((hs.has _).2 ⟨i, hin, rfl⟩)]
      exact ho.size_le
    refine ⟨_, ks, ?_, hs.nd, hs.lt, fun k => ?_, fun z => ?_, hat⟩
    · obtain ⟨es, c, q1, q2, q3, q4⟩ := how
      refine ⟨es, c, q1, q2, ?_, q4⟩
      rw [q4] at hsz
      simpa [Maps.size, length_sorted] using hsz
    · show _ ↔ ∃ c, (if k = i then some b else wr k) = some c
      by_cases he : k = i
      · subst he
        exact ⟨fun _ => ⟨b, if_pos rfl⟩, fun _ => hin⟩
      · rw [if_neg he]; exact hs.mem k
    · rw [hhas]
      exact ⟨fun h => by
        rcases h with rfl | h
        · exact ⟨i, hin, rfl⟩
        · exact h, .inr⟩
  · refine ⟨_, i :: ks, how, List.nodup_cons.2 ⟨hin, hs.nd⟩, fun p hp => ?_, fun k => ?_, fun z => ?_, hat⟩
    · rcases List.mem_cons.1 hp with rfl | hp
      · exact hi
      · exact hs.lt p hp
    · show _ ↔ ∃ c, (if k = i then some b else wr k) = some c
      by_cases he : k = i
      · subst he
        exact ⟨fun _ => ⟨b, if_pos rfl⟩, fun _ => by simp⟩
      · rw [if_neg he, ← hs.mem k, List.mem_cons]
        exact ⟨fun h => h.resolve_left he, .inr⟩
    · rw [hhas]
      exact ⟨fun h => by
        rcases h with rfl | ⟨k, hk, e⟩
        · exact ⟨i, by simp, rfl⟩
        · exact ⟨k, by simp [hk], e⟩, fun ⟨k, hk, e⟩ => by
        rcases List.mem_cons.1 hk with rfl | hk
        · exact .inl e
        · exact .inr ⟨k, hk, e⟩⟩
/-- All are struck. -/
theorem Wrs.clear {w : World} {g n : Nat} {wr} (h : Wrs w g n wr) (ty : TypeId) :
    ∃ w', (Builtin.clear_ #[54] ty #[.map (some g)]).run Try.prog w = .ok (.tuple #[]) w' ∧ Wrs w' g n (fun _ => none) ∧ But (One g) w w' := by
  obtain ⟨D, ks, ⟨es, c, hb, hf, _, _⟩, _⟩ := h
  refine ⟨setBlock w g (.map #[] c), ?_, ⟨.map [], [], ⟨#[], c, heap_setBlock_same hb _, ⟨by simp, stamped_empty c, by simp⟩, Nat.le_refl _, rfl⟩, says_none⟩, ⟨rfl, rfl, rfl, by simp [setBlock], fun k _ hn => heap_setBlock_other hb _ (fun e => hn e)⟩⟩
  have hst : (setObj g (.map #[] c)).run Try.prog w = .ok () (setBlock w g (.map #[] c)) := by
    simp only [setObj, Sem.run]
    rw [hb]
    rfl
  simp [Builtin.clear_, run_underlying Try.underlying54, MapKept.run_getObj_map hb, Result.andThen, hst]
end Go.Proofs.Ytalffdiohjcajaa
