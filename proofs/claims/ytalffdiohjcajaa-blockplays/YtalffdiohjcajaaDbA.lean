/-
  Package block: a device in memory; New, isNone, check, hasSector, Sectors, Dead, Arm, Crash, powerLasts.
-/
import Derived.Test.YtalffdiohjcajaaDbM
import Derived.Test.YtalffdiohjcajaaFoA
import Derived.Laws.MakeOwn
import Derived.Laws.CopyRow
import Derived.Deep.MidRow
namespace Go.Proofs.Ytalffdiohjcajaa
open Go.RowKit
set_option maxRecDepth 8000
/-- Sectors in a row. -/
def KRow (w : World) (g n : Nat) (kp : Nat → List Int) : Prop := ∃ cs : Array Value, w.heap[g]? = some (.cells cs 66 (0, 0)) ∧ cs.size = n * 64 ∧ ∀ i, i < n → ∀ j v, (u8s (kp i))[j]? = some v → cs[i * 64 + j]? = some v
theorem KRow.lt {w : World} {g n : Nat} {kp} (h : KRow w g n kp) : g < w.heap.size := by
  obtain ⟨cs, h, _⟩ := h
  exact blk_lt h
theorem KRow.but {S : Nat → Prop} {w w' : World} {g n : Nat} {kp} (h : KRow w g n kp) (b : But S w w') (hn : ¬ S g) : KRow w' g n kp := by
  obtain ⟨cs, h, r⟩ := h
  exact ⟨cs, (b.block g (blk_lt h) hn).trans h, r⟩
theorem KRow.range {w : World} {g n : Nat} {kp} (h : KRow w g n kp) {i : Nat} (hi : i < n) : w.rangeAt g (i * 64) (u8s (kp i)) := by
  obtain ⟨cs, h, _, h2⟩ := h
  exact fun j v hj => blk_cell h (h2 i hi j v hj)
theorem splice_at (l m : List Value) (o j : Nat) (h : o + m.length ≤ l.length) : (l.take o ++ m ++ l.drop (o + m.length))[j]? = if o ≤ j ∧ j < o + m.length then m[j - o]? else l[j]? := by
  have e : (l.take o).length = o := by rw [List.length_take]; omega
  by_cases h1 : j < o
  · rw [if_neg (by omega), List.append_assoc, List.getElem?_append_left (by omega), List.getElem?_take_of_lt h1]
  · by_cases h2 : j < o + m.length
    · rw [if_pos (by omega), List.append_assoc, List.getElem?_append_right (by omega), e, List.getElem?_append_left (by omega)]
    · rw [if_neg (by omega), List.getElem?_append_right (by rw [List.length_append, e]; omega), List.length_append, e, List.getElem?_drop]
      congr 1
      omega
/-- A value of many cells is stored into the midst of a block. -/
theorem store_at (w : World) (g o : Nat) (t T : TypeId) (cur : Array Value) (cs : List Value) (hg : w.heap[g]? = some (.cells cur t (0, 0))) (hi : (Try.prog.info? T).map (·.size) = some cs.length) (hfit : o + cs.length ≤ cur.size) (h1 : ∀ v ∈ cs, v.oneCell' = true) :
    (Instr.storeAt T (.pointer (some ⟨g, o, none⟩)) (.agg cs.toArray)).run Try.prog w = .ok () (w.setRow g (cur.toList.take o ++ cs ++ cur.toList.drop (o + cs.length)).toArray) := by
  have := run_storeCells_at Try.prog g o t cs 0 cur w hg (by simpa using hfit) h1
  rw [Nat.add_zero] at this
  cases hq : Try.prog.info? T with
  | none => simp [hq] at hi
  | some i =>
    have hs : i.size = cs.length := by simp [hq] at hi; omega
    simp [Instr.storeAt, Instr.sureAddr, storeVar, sizeOf, typeInfo, hq, Value.cells, hs, this]
theorem but_row (w : World) (g : Nat) (cs : Array Value) : But (One g) w (w.setRow g cs) :=
  ⟨rfl, rfl, rfl, by simp, fun k _ hn => setRow_other w g k cs hn⟩
/-- A sector is written over. -/
theorem KRow.store {w : World} {g n : Nat} {kp} (h : KRow w g n kp) {i : Nat} (hi : i < n) (hk : ∀ i, (kp i).length = 64) {b : List Int} (hb : b.length = 64) :
    ∃ w', (Instr.storeAt 66 (.pointer (some ⟨g, i * 64, none⟩)) (secV b)).run Try.prog w = .ok () w' ∧ KRow w' g n (fun j => if j = i then b else kp j) ∧ But (One g) w w' ∧ w'.heap.size = w.heap.size := by
  obtain ⟨cs, h, h1, h2⟩ := h
  have hl : (u8s b).length = 64 := by rw [u8s_length]; exact hb
  have hfit : i * 64 + 64 ≤ cs.size := by
    rw [h1]
    have : (i + 1) * 64 ≤ n * 64 := Nat.mul_le_mul_right _ hi
    omega
  refine ⟨_, store_at w g (i * 64) _ 66 cs (u8s b) h (by rw [hl]; exact Try.infoSec) (by rw [hl]; exact hfit) (u8s_one b), ⟨_, setRow_heap w g cs _ _ _ h, ?_, fun k hkn j v hj0 => ?_⟩, but_row _ _ _, by simp⟩
  · simp only [List.size_toArray, List.length_append, List.length_take, List.length_drop, Array.length_toList, hl]
    omega
  · have hj : (u8s (if k = i then b else kp k))[j]? = some v := hj0
    have hj64 : j < 64 := by
      have h3 : j < (u8s (if k = i then b else kp k)).length := (List.getElem?_eq_some_iff.1 hj).1
      rw [u8s_length] at h3
      split at h3
      · rw [hb] at h3; exact h3
      · rw [hk] at h3; exact h3
    rw [List.getElem?_toArray, splice_at _ _ _ _ (by rw [hl, Array.length_toList]; exact hfit), hl]
    by_cases e : k = i
    · subst e
      rw [if_pos rfl] at hj
      rw [if_pos (by omega), show k * 64 + j - k * 64 = j by omega]
      exact hj
    · rw [if_neg e] at hj
      rw [if_neg (by omega), Array.getElem?_toList]
      exact h2 k hkn j v hj
/-- A sector alone in a block. -/
def SecAt (w : World) (g : Nat) (b : List Int) : Prop := w.heap[g]? = some (.cells (u8s b).toArray 66 (0, 0))
theorem SecAt.but {S : Nat → Prop} {w w' : World} {g : Nat} {b : List Int} (h : SecAt w g b) (x : But S w w') (hn : ¬ S g) : SecAt w' g b := (x.block g (blk_lt h) hn).trans h
theorem SecAt.range {w : World} {g : Nat} {b : List Int} (h : SecAt w g b) : w.rangeAt g 0 (u8s b) := fun j v hj => by
  rw [Nat.zero_add]
  exact blk_cell h (by rw [List.getElem?_toArray]; exact hj)
theorem SecAt.store {w : World} {g : Nat} {b : List Int} (h : SecAt w g b) (hb : b.length = 64) {c : List Int} (hc : c.length = 64) :
    ∃ w', (Instr.storeAt 66 (Ptr g) (secV c)).run Try.prog w = .ok () w' ∧ SecAt w' g c ∧ But (One g) w w' ∧ w'.heap.size = w.heap.size := by
  have hl : (u8s c).length = 64 := by rw [u8s_length]; exact hc
  have hl2 : (u8s b).length = 64 := by rw [u8s_length]; exact hb
  refine ⟨_, store_at w g 0 _ 66 (u8s b).toArray (u8s c) h (by rw [hl]; exact Try.infoSec) (by rw [hl]; simp [hl2]) (u8s_one c), ?_, but_row _ _ _, by simp⟩
  unfold SecAt
  rw [setRow_heap w g _ _ _ _ h]
  congr 3
  rw [List.take_zero, List.nil_append, Nat.zero_add, hl, List.drop_of_length_le (by simp [hl2]), List.append_nil]
theorem load_sec {w : World} {g o : Nat} {b : List Int} (h : w.rangeAt g o (u8s b)) (hb : b.length = 64) : (Instr.loadAt 66 (.pointer (some ⟨g, o, none⟩))).run Try.prog w = .ok (secV b) w :=
  run_loadAt_mid (P := Try.prog) w g o 66 (u8s b) _ h Try.underlying66 rfl (by rw [u8s_length, hb]; exact Try.infoSec)
/-- An armed number, as the pure device has it. -/
def lim (L : Int) : Int := if L < 0 then -1 else L
abbrev devC (g m n : Nat) (L : Int) (q : Bool) : Array Value := #[.slice (some ⟨g, 0, none⟩) n n, .map (some m), .int .i64 L, .bool q]
/-- A device lies at d, its sectors at g, what was written at m. -/
structure DvL (w : World) (d g m : Nat) (L : Int) (x : Dv) : Prop where
  ok : x.Ok
  lm : lim L = x.left
  l0 : -9223372036854775808 ≤ L
  l1 : L ≤ 9223372036854775807
  at0 : w.heap[d]? = some (.cells (devC g m x.n L x.dead) 56 (0, 0))
  row : KRow w g x.n x.kp
  map : Wrs w m x.n x.wr
  dg : d ≠ g
  dm : d ≠ m
  gm : g ≠ m
def DvX (w : World) (d g m : Nat) (x : Dv) : Prop := ∃ L, DvL w d g m L x
/-- Its blocks. -/
def InD (d g m : Nat) : Nat → Prop := fun k => k = d ∨ k = g ∨ k = m
theorem DvL.but {S : Nat → Prop} {w w' : World} {d g m : Nat} {L : Int} {x : Dv} (h : DvL w d g m L x) (b : But S w w') (h1 : ¬ S d) (h2 : ¬ S g) (h3 : ¬ S m) : DvL w' d g m L x :=
  { h with at0 := (b.block d (blk_lt h.at0) h1).trans h.at0, row := h.row.but b h2, map := h.map.but b h3 }
theorem DvX.but {S : Nat → Prop} {w w' : World} {d g m : Nat} {x : Dv} (h : DvX w d g m x) (b : But S w w') (hs : ∀ k, InD d g m k → ¬ S k) : DvX w' d g m x := by
  obtain ⟨L, h⟩ := h
  exact ⟨L, h.but b (hs _ (.inl rfl)) (hs _ (.inr (.inl rfl))) (hs _ (.inr (.inr rfl)))⟩
theorem DvX.after {w w' : World} {d g m : Nat} {x : Dv} (h : DvX w d g m x) (a : After w w') : DvX w' d g m x := h.but a (fun _ _ t => t)
theorem DvX.ok {w : World} {d g m : Nat} {x : Dv} (h : DvX w d g m x) : x.Ok := by
  obtain ⟨L, h⟩ := h
  exact h.ok
theorem DvX.lt {w : World} {d g m : Nat} {x : Dv} (h : DvX w d g m x) : ∀ k, InD d g m k → k < w.heap.size := by
  obtain ⟨L, h⟩ := h
  intro k hk
  rcases hk with rfl | rfl | rfl
  · exact blk_lt h.at0
  · exact h.row.lt
  · exact h.map.lt
theorem DvL.c0 {w : World} {d g m : Nat} {L : Int} {x : Dv} (h : DvL w d g m L x) : w.cell? ⟨d, 0, none⟩ = some (.slice (some ⟨g, 0, none⟩) x.n x.n) := blk_cell h.at0 (i := 0) rfl
theorem DvL.c1 {w : World} {d g m : Nat} {L : Int} {x : Dv} (h : DvL w d g m L x) : w.cell? ⟨d, 1, none⟩ = some (.map (some m)) := blk_cell h.at0 (i := 1) rfl
theorem DvL.c2 {w : World} {d g m : Nat} {L : Int} {x : Dv} (h : DvL w d g m L x) : w.cell? ⟨d, 2, none⟩ = some (.int .i64 L) := blk_cell h.at0 (i := 2) rfl
theorem DvL.c3 {w : World} {d g m : Nat} {L : Int} {x : Dv} (h : DvL w d g m L x) : w.cell? ⟨d, 3, none⟩ = some (.bool x.dead) := blk_cell h.at0 (i := 3) rfl
/-- Its own block is stored into: another number, dead or alive. -/
theorem DvL.setL {w : World} {d g m : Nat} {L : Int} {x : Dv} (h : DvL w d g m L x) {L' l' : Int} (hl : lim L' = l') (h0 : -9223372036854775808 ≤ L') (h1 : L' ≤ 9223372036854775807) : DvL (w.setCell ⟨d, 2, none⟩ (.int .i64 L')) d g m L' { x with left := l' } := by
  have hb := but_one w d 2 (.int .i64 L')
  have hlm : -1 ≤ l' ∧ l' ≤ 9223372036854775807 := by
    rw [← hl]; unfold lim
    split <;> omega
  exact ⟨⟨h.ok.n0, h.ok.n1, h.ok.k, h.ok.w, hlm.1, hlm.2⟩, hl, h0, h1, by rw [blk_put h.at0]; rfl, h.row.but hb (fun e => h.dg e.symm), h.map.but hb (fun e => h.dm e.symm), h.dg, h.dm, h.gm⟩
theorem DvL.setQ {w : World} {d g m : Nat} {L : Int} {x : Dv} (h : DvL w d g m L x) (q : Bool) : DvL (w.setCell ⟨d, 3, none⟩ (.bool q)) d g m L { x with dead := q } := by
  have hb := but_one w d 3 (.bool q)
  exact ⟨⟨h.ok.n0, h.ok.n1, h.ok.k, h.ok.w, h.ok.l0, h.ok.l1⟩, h.lm, h.l0, h.l1, by rw [blk_put h.at0]; rfl, h.row.but hb (fun e => h.dg e.symm), h.map.but hb (fun e => h.dm e.symm), h.dg, h.dm, h.gm⟩
theorem made_sec (n : Nat) : ∀ i, i < n → ∀ j v, (u8s sec0)[j]? = some v → (madeCells (u8s sec0).toArray (n * 64))[i * 64 + j]? = some v := by
  intro i hi j v hj
  have hj64 : j < 64 := by
    have := (List.getElem?_eq_some_iff.1 hj).1
    rw [u8s_length] at this
    exact this
  have hlt : i * 64 + j < n * 64 := by
    have : (i + 1) * 64 ≤ n * 64 := Nat.mul_le_mul_right _ hi
    omega
  have hs : (u8s sec0).length = 64 := by rw [u8s_length]; rfl
  unfold madeCells
  rw [Array.getElem?_map, Array.getElem?_range, if_pos hlt]
  simp only [Option.map_some, List.size_toArray, hs]
  rw [show (i * 64 + j) % 64 = j by omega]
  rw [← hj]
  have hj2 : j < (u8s sec0).toArray.size := by simp [hs]; exact hj64
  rw [getElem!_pos (u8s sec0).toArray j hj2]
  simp [hs, hj64]
theorem dvNew_no (w : World) (n : Int) (h : n < 1 ∨ 256 < n) : Calls Try.prog 8 #[.int .i64 n] w fun e w' => e = .returned (.tuple #[.pointer none, .int .i64 2]) ∧ w' = w := by
  by_cases a1 : n < 1
  · go_enter Try.func8, Try.ntmps8
    go_wp2
    go_ret2
    exact ⟨rfl, rfl⟩
  have a2 : 256 < n := by omega
  clear h
  go_enter Try.func8, Try.ntmps8
  go_wp2
  go_ret2
  exact ⟨rfl, rfl⟩
theorem Try.infoSec3 : (Try.prog.info? 66).map (fun i => (i.zero, i.size, i.bytes)) = some (some (secV sec0), 64, 64) := by kernel_rfl
theorem dvNew_ok (w : World) (n : Nat) (h0 : 1 ≤ n) (h1 : n ≤ 256) : Calls Try.prog 8 #[.int .i64 n] w fun e w' => e = .returned (.tuple #[Ptr (w.heap.size + 2), .int .i64 0]) ∧ DvX w' (w.heap.size + 2) w.heap.size (w.heap.size + 1) (Dv.new n) ∧ After w w' := by
  obtain ⟨i0, hi, hz0, hz1, hz2⟩ := info_parts Try.infoSec3
  have e1 : ((n : Int)).toNat = n := by omega
  have hm := run_make (P := Try.prog) w 53 66 i0 (secV sec0) Try.underlying53 hi hz0 .i64 .i64 n n (by omega) (by omega) (by rw [hz2]; omega) (by omega)
  rw [e1, hz1] at hm
  obtain ⟨V1, hV1⟩ : ∃ V, V = w.alloc (.cells (madeCells (secV sec0).cells (n * 64)) 66) := ⟨_, rfl⟩
  rw [← hV1] at hm
  have s1 : V1.heap.size = w.heap.size + 1 := by rw [hV1]; simp
  have k1 : V1.heap[w.heap.size]? = some (.cells (madeCells (u8s sec0).toArray (n * 64)) 66 (0, 0)) := by rw [hV1]; exact heap_alloc_new w _
  have a1 : After w V1 := by rw [hV1]; exact After.rfl.alloc _
  have hmm : (Instr.makeMap 54 none).run Try.prog V1 = .ok (.map (some V1.heap.size)) (V1.alloc (.map #[] 0)) := by
    simp [Instr.makeMap, go_sem]
  have HV := hideIt (And.intro s1 (And.intro k1 a1))
  clear hV1 s1 k1 a1 hi hz0 hz1 hz2 e1
  have i1 : (1 : Int) ≤ n := by omega
  have i2 : (n : Int) ≤ 256 := by omega
  go_enter Try.func8, Try.ntmps8
  go_wp2
  go_ret2
  obtain ⟨s1, k1, a1⟩ := HV.out
  rw [s1]
  have am : After V1 (V1.alloc (.map #[] 0)) := After.rfl.alloc _
  have w1 := Wrs.new V1 n
  rw [s1] at w1
  obtain ⟨V2, hV2⟩ : ∃ V, V = V1.alloc (.map #[] 0) := ⟨_, rfl⟩
  rw [← hV2] at am w1 ⊢
  have s2 : V2.heap.size = w.heap.size + 2 := by rw [hV2]; simp [s1]
  have a3 : After V2 (V2.alloc (.cells (devC w.heap.size (w.heap.size + 1) n (-1) false) 56)) := After.rfl.alloc _
  refine ⟨rfl, ⟨-1, new_ok h0 h1, rfl, by decide, by decide, by rw [← s2]; exact heap_alloc_new V2 _, ⟨_, ((am.trans a3).block _ (by omega) (fun t => t)).trans k1, size_madeCells _ _, made_sec n⟩, w1.but a3 (fun t => t), by omega, by omega, by omega⟩, a1.trans (am.trans a3)⟩
end Go.Proofs.Ytalffdiohjcajaa
