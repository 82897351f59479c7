/-
  Books of what was told, beside a bus: pure, and in memory.
-/
import Derived.Test.YtajjfklglnefkaaBuL
namespace Go.Proofs.Ytajjfklglnefkaa
open Go.RowKit
set_option maxRecDepth 8000
/-- A ring of sixteen holds the last of what a book says. -/
structure Kept (s : Sg) (B : List Int) : Prop where
  l : s.l = B.drop (B.length - 16)
  since : s.since = B.length - 16
theorem kept_new : Kept Sg.new [] := ⟨rfl, rfl⟩
theorem Kept.len {s : Sg} {B : List Int} (h : Kept s B) : s.l.length = B.length - (B.length - 16) := by rw [h.l, List.length_drop]
theorem Kept.put {s : Sg} {B : List Int} (h : Kept s B) (v : Int) : Kept (s.put 16 v) (B ++ [v]) := by
  have hl := h.len
  have e : (B ++ [v]).length = B.length + 1 := by rw [List.length_append, List.length_singleton]
  unfold Sg.put
  split
  · refine ⟨?_, ?_⟩
    · show s.l ++ [v] = _
      rw [e, h.l, show B.length - 16 = 0 by omega, show B.length + 1 - 16 = 0 by omega, List.drop_zero, List.drop_zero]
    · show s.since = _
      rw [e, h.since]; omega
  · refine ⟨?_, ?_⟩
    · show s.l.drop 1 ++ [v] = _
      rw [e, h.l, List.drop_drop, show B.length - 16 + 1 = B.length + 1 - 16 by omega, List.drop_append_of_le_length (by omega)]
    · show s.since + 1 = _
      rw [e, h.since]; omega
theorem Kept.nil {s : Sg} {B : List Int} (h : Kept s B) (e : s.l = []) : B = [] := by
  have h1 := h.len
  rw [e, List.length_nil] at h1
  exact List.length_eq_zero_iff.1 (by omega)
theorem Kept.gone {s : Sg} {B : List Int} (h : Kept s B) : s.gone = B.length - 16 := by
  unfold Sg.gone
  split
  · rename_i e
    rw [h.nil e]; rfl
  · exact h.since
theorem Kept.bare {s : Sg} {B : List Int} (h : Kept s B) : Kept s.bare [] := by
  unfold Sg.bare
  split
  · rename_i e
    have hB := h.nil e
    subst hB
    exact ⟨e, h.since⟩
  · exact ⟨rfl, rfl⟩
/-- The topics of the four listeners. -/
def tps : List Int := [0, 1, 1, 2]
def tp (k : Nat) : Int := tps.getD k 0
/-- The bus with the four. -/
def jn : Nat → Bz
  | 0 => Bz.new 3 1
  | j + 1 => (jn j).joinS (tp j)
theorem jn_says : ∀ j, j < 4 → (jn j).joinA (tp j) = ((j : Int), 0) := by
  intro j hj
  rcases (by omega : j = 0 ∨ j = 1 ∨ j = 2 ∨ j = 3) with rfl | rfl | rfl | rfl <;> decide
/-- What stands between a bus with the four and four books. -/
structure Says (b : Bz) (B : Nat → List Int) (m : Nat) : Prop where
  n : b.n = 3
  len : b.ls.length = 4
  rings : ∀ k, k < 4 → ∃ s, b.ls[k]? = some (tp k, s) ∧ Kept s (B k)
  upto : b.Upto m
  few : ∀ k, k < 4 → (B k).length ≤ m
theorem says_new : Says (jn 4) (fun _ => []) 0 := by
  refine ⟨by decide, by decide, fun k hk => ⟨Sg.new, ?_, kept_new⟩, joinS_upto (joinS_upto (joinS_upto (joinS_upto (new_upto 3 1 0) _) _) _) _, fun k hk => Nat.le_refl _⟩
  rcases (by omega : k = 0 ∨ k = 1 ∨ k = 2 ∨ k = 3) with rfl | rfl | rfl | rfl <;> rfl
def told (t v : Int) (B : Nat → List Int) : Nat → List Int := fun k => if tp k = t then B k ++ [v] else B k
theorem Says.fst {b : Bz} {B : Nat → List Int} {m : Nat} (h : Says b B m) : b.ls.map Prod.fst = tps := by
  refine List.ext_getElem? (fun k => ?_)
  rw [List.getElem?_map]
  by_cases hk : k < 4
  · obtain ⟨s, hs, _⟩ := h.rings k hk
    rw [hs]
    rcases (by omega : k = 0 ∨ k = 1 ∨ k = 2 ∨ k = 3) with rfl | rfl | rfl | rfl <;> rfl
  · rw [List.getElem?_eq_none (by rw [h.len]; omega), List.getElem?_eq_none (by show 4 ≤ k; omega)]
    rfl
theorem hits_map (t : Int) (l : List (Int × Sg)) : hits t l = (l.map Prod.fst).countP (fun x => x == t) := by
  unfold hits
  rw [List.countP_map]
  rfl
theorem Says.tellA {b : Bz} {B : Nat → List Int} {m : Nat} (h : Says b B m) {t : Nat} (ht : t < 3) : b.tellA (t : Int) = (if t = 1 then 2 else 1, 0) := by
  unfold Bz.tellA
  rw [if_neg (by rw [h.n]; omega), hits_map, h.fst]
  rcases (by omega : t = 0 ∨ t = 1 ∨ t = 2) with rfl | rfl | rfl <;> rfl
theorem Says.tell {b : Bz} {B : Nat → List Int} {m : Nat} (h : Says b B m) {t : Nat} (ht : t < 3) (v : Int) : Says (b.tellS (t : Int) v) (told (t : Int) v B) (m + 1) := by
  have e : b.tellS (t : Int) v = b.tell (t : Int) v := by
    unfold Bz.tellS
    rw [if_neg (by rw [h.n]; omega)]
  rw [e]
  refine ⟨h.n, by show (b.ls.map _).length = 4; rw [List.length_map]; exact h.len, fun k hk => ?_, tell_upto h.upto _ _, fun k hk => ?_⟩
  · obtain ⟨s, hs, hk'⟩ := h.rings k hk
    have h1 : (b.tell (t : Int) v).ls[k]? = some (tell1 (t : Int) v (tp k, s)) := by
      show (b.ls.map (tell1 (t : Int) v))[k]? = _
      rw [List.getElem?_map, hs]; rfl
    unfold told
    by_cases e : tp k = (t : Int)
    · rw [if_pos e]
      exact ⟨s.put 16 v, by rw [h1]; exact congrArg some (if_pos e), hk'.put v⟩
    · rw [if_neg e]
      exact ⟨s, by rw [h1]; exact congrArg some (if_neg e), hk'⟩
  · have := h.few k hk
    unfold told
    split
    · rw [List.length_append, List.length_singleton]; omega
    · omega
theorem Says.hearA {b : Bz} {B : Nat → List Int} {m : Nat} (h : Says b B m) {k : Nat} (hk : k < 4) : b.hearA (k : Int) = ((((B k).length - 16 : Nat) : Int), 0) ∧ b.hearL (k : Int) = (B k).drop ((B k).length - 16) := by
  obtain ⟨s, hs, hk'⟩ := h.rings k hk
  have hn : ¬ ((k : Int) < 0 ∨ (b.ls.length : Int) ≤ (k : Int)) := by rw [h.len]; omega
  have hr : b.ringOf (k : Int) = s := by
    unfold Bz.ringOf
    rw [Int.toNat_natCast, hs]
    rfl
  unfold Bz.hearA Bz.hearL
  rw [if_neg hn, if_neg hn, hr, hk'.gone, hk'.l]
  exact ⟨rfl, rfl⟩
def wiped (k : Nat) (B : Nat → List Int) : Nat → List Int := fun i => if i = k then [] else B i
theorem Says.hear {b : Bz} {B : Nat → List Int} {m : Nat} (h : Says b B m) {k : Nat} (hk : k < 4) : Says (b.hearS (k : Int)) (wiped k B) (m + 1) := by
  have hn : ¬ ((k : Int) < 0 ∨ (b.ls.length : Int) ≤ (k : Int)) := by rw [h.len]; omega
  have e : b.hearS (k : Int) = b.hear k := by
    unfold Bz.hearS
    rw [if_neg hn]; rfl
  rw [e]
  refine ⟨h.n, by show (b.ls.modify k hear1).length = 4; rw [List.length_modify]; exact h.len, fun i hi => ?_, (hear_upto h.upto k).mono (Nat.le_succ m), fun i hi => ?_⟩
  · obtain ⟨s, hs, hk'⟩ := h.rings i hi
    unfold wiped
    by_cases e : i = k
    · subst e
      rw [if_pos rfl]
      refine ⟨s.bare, ?_, hk'.bare⟩
      show (b.ls.modify i hear1)[i]? = _
      rw [List.getElem?_modify, hs]
      simp [hear1]
    · rw [if_neg e]
      refine ⟨s, ?_, hk'⟩
      show (b.ls.modify k hear1)[i]? = _
      rw [List.getElem?_modify, hs]
      simp [show ¬ k = i from fun h => e h.symm]
  · have := h.few i hi
    unfold wiped
    split
    · exact Nat.zero_le _
    · omega
/-- A bus that was made behind w0, beside four rows of ints in an array. -/
structure Hs (w0 W : World) (p g q : Nat) (ob : Obj) (b : Bz) (B : Nat → List Int) : Prop where
  aft : After w0 W
  two : ∃ (o L : Nat → Nat) (V : Nat → Value), Bu W p o b ∧ (∀ k, o k ≠ 0 → w0.heap.size ≤ k) ∧ (∀ k, L k ≠ 0 → w0.heap.size ≤ k ∧ k < W.heap.size) ∧ (∀ k, o k ≠ 0 → L k = 0) ∧ L g = 1 ∧ L q = 9 ∧ W.heap[q]? = some ob ∧ (∀ k, k < 4 → ∀ m, (V k).ownBlock = some m → L m = 2 + k) ∧
    (∃ cs, W.heap[g]? = some (.cells cs 37 (0, 0)) ∧ cs.size = 4 ∧ ∀ k, k < 4 → cs[k]? = some (V k)) ∧ ∀ k, k < 4 → ORow inE 3 W 0 (V k) (B k)
theorem Hs.goes {w0 W W' : World} {p g q : Nat} {ob : Obj} {b' : Bz} {B : Nat → List Int} {o o' L : Nat → Nat} {V : Nat → Value} (aft : After w0 W) (h1 : ∀ k, o k ≠ 0 → w0.heap.size ≤ k) (h2 : ∀ k, L k ≠ 0 → w0.heap.size ≤ k ∧ k < W.heap.size) (h3 : ∀ k, o k ≠ 0 → L k = 0) (h4 : L g = 1) (hq : L q = 9) (hq' : W.heap[q]? = some ob) (h5 : ∀ k, k < 4 → ∀ m, (V k).ownBlock = some m → L m = 2 + k)
    (h6 : ∃ cs, W.heap[g]? = some (.cells cs 37 (0, 0)) ∧ cs.size = 4 ∧ ∀ k, k < 4 → cs[k]? = some (V k)) (h7 : ∀ k, k < 4 → ORow inE 3 W 0 (V k) (B k)) (x' : Bu W' p o' b') (go : Goes W W' o o') : Hs w0 W' p g q ob b' B := by
  obtain ⟨cs, e1, e2, e3⟩ := h6
  have hn : ∀ k, L k ≠ 0 → o k = 0 := fun k hk => by
    rcases Nat.eq_zero_or_pos (o k) with e | e
    · exact e
    · exact absurd (h3 k (by omega)) hk
  refine ⟨aft.then go.but (fun k hk e => by have := h1 k e; omega), o', L, V, x', go.new aft.size h1, fun k hk => ⟨(h2 k hk).1, Nat.lt_of_lt_of_le (h2 k hk).2 go.but.size⟩, fun k hk => ?_, h4, hq, (go.but.block q (blk_lt hq') (fun t => t (hn q (by rw [hq]; decide)))).trans hq', h5, ⟨cs, (go.but.block g (blk_lt e1) (fun t => t (hn g (by rw [h4]; decide)))).trans e1, e2, e3⟩, fun k hk => own_but (h7 k hk) go.but (fun m hm t => t (hn m (by rw [h5 k hk m hm]; omega)))⟩
  rcases Nat.lt_or_ge k W.heap.size with hl | hl
  · rw [go.ext k hl] at hk; exact h3 k hk
  · rcases Nat.eq_zero_or_pos (L k) with e | e
    · exact e
    · have := (h2 k (by omega)).2; omega
theorem Hs.join {w0 W : World} {p g q : Nat} {ob : Obj} {b : Bz} {B : Nat → List Int} (h : Hs w0 W p g q ob b B) (t : Int) : Calls Try.prog 11 #[Ptr p, .int .i64 t] W fun e w' => e = .returned (.tuple #[.int .i64 (b.joinA t).1, .int .i64 (b.joinA t).2]) ∧ Hs w0 w' p g q ob (b.joinS t) B := by
  obtain ⟨o, L, V, x, h1, h2, h3, h4, hq, hq', h5, h6, h7⟩ := h.two
  exact (buJoin x t).mono (fun e w' ⟨e1, o', x2, go⟩ => ⟨e1, Hs.goes h.aft h1 h2 h3 h4 hq hq' h5 h6 h7 x2 go⟩)
theorem Hs.tell {w0 W : World} {p g q : Nat} {ob : Obj} {b : Bz} {B : Nat → List Int} (h : Hs w0 W p g q ob b B) (hu : b.Upto 999999) (t v : Int) : Calls Try.prog 12 #[Ptr p, .int .i64 t, .int .i64 v] W fun e w' => e = .returned (.tuple #[.int .i64 (b.tellA t).1, .int .i64 (b.tellA t).2]) ∧ Hs w0 w' p g q ob (b.tellS t v) B := by
  obtain ⟨o, L, V, x, h1, h2, h3, h4, hq, hq', h5, h6, h7⟩ := h.two
  exact (buTell x hu t v).mono (fun e w' ⟨e1, o', x2, go⟩ => ⟨e1, Hs.goes h.aft h1 h2 h3 h4 hq hq' h5 h6 h7 x2 go⟩)
theorem Hs.hear {w0 W : World} {p g q : Nat} {ob : Obj} {b : Bz} {B : Nat → List Int} (h : Hs w0 W p g q ob b B) (i : Int) : Calls Try.prog 14 #[Ptr p, .int .i64 i] W fun e w' => ∃ v, e = .returned (.tuple #[v, .int .i64 (b.hearA i).1, .int .i64 (b.hearA i).2]) ∧ OInts w' 0 v (b.hearL i) ∧ Hs w0 w' p g q ob (b.hearS i) B := by
  obtain ⟨o, L, V, x, h1, h2, h3, h4, hq, hq', h5, h6, h7⟩ := h.two
  exact (buHear x i).mono (fun e w' ⟨v, e1, r, x2, go⟩ => ⟨v, e1, own_base r (fun _ _ => Nat.zero_le _), Hs.goes h.aft h1 h2 h3 h4 hq hq' h5 h6 h7 x2 go⟩)
theorem Hs.after {w0 W W' : World} {p g q : Nat} {ob : Obj} {b : Bz} {B : Nat → List Int} (h : Hs w0 W p g q ob b B) (a : After W W') : Hs w0 W' p g q ob b B := by
  obtain ⟨o, L, V, x, h1, h2, h3, h4, hq, hq', h5, h6, h7⟩ := h.two
  exact Hs.goes h.aft h1 h2 h3 h4 hq hq' h5 h6 h7 (x.after a) (Goes.same a.but)
/-- What lies in the array. -/
theorem Hs.book {w0 W : World} {p g q : Nat} {ob : Obj} {b : Bz} {B : Nat → List Int} (h : Hs w0 W p g q ob b B) {k : Nat} (hk : k < 4) : ∃ a c, W.cell? ⟨g, k, none⟩ = some (.slice a (B k).length c) ∧ W.frozen? ⟨g, k, none⟩ = false ∧ IRow W a (B k).length (B k) ∧ (a = none → (B k).length = 0 ∧ c = 0) ∧ (B k).length ≤ c := by
  obtain ⟨o, L, V, x, h1, h2, h3, h4, hq, hq', h5, ⟨cs, e1, e2, e3⟩, h7⟩ := h.two
  have hr := h7 k hk
  have hi : OInts W 0 (V k) (B k) := by
    have e : inE.flat (B k) = i64s (B k) := by
      unfold Enc.flat i64s inE
      induction (B k) with
      | nil => rfl
      | cons y r ih => simp only [List.flatMap_cons, List.map_cons, ih]; rfl
    have := hr
    unfold ORow at this
    rw [e] at this
    exact this
  obtain ⟨a, c, ea, hi, hn, hc, _⟩ := own_irow hi
  have h8 := e3 k hk
  rw [ea] at h8
  exact ⟨a, c, blk_cell e1 h8, blk_soft e1 k, hi, hn, hc⟩
/-- A book is made anew. -/
theorem Hs.wipe {w0 W : World} {p g q : Nat} {ob : Obj} {b : Bz} {B : Nat → List Int} (h : Hs w0 W p g q ob b B) {k : Nat} (hk : k < 4) : Hs w0 (W.setCell ⟨g, k, none⟩ (.slice none 0 0)) p g q ob b (wiped k B) := by
  obtain ⟨o, L, V, x, h1, h2, h3, h4, hq, hq', h5, ⟨cs, e1, e2, e3⟩, h7⟩ := h.two
  have hb := but_one W g k (.slice none 0 0)
  have og : o g = 0 := by
    rcases Nat.eq_zero_or_pos (o g) with e | e
    · exact e
    · have := h3 g (by omega); omega
  refine ⟨h.aft.then hb (fun m hm e => by have e : m = g := e; have := (h2 g (by rw [h4]; decide)).1; omega), o, L, fun i => if i = k then .slice none 0 0 else V i, x.but hb (fun m hm e => by have e : m = g := e; rw [e] at hm; exact hm og), h1, fun m hm => ⟨(h2 m hm).1, Nat.lt_of_lt_of_le (h2 m hm).2 hb.size⟩, h3, h4, hq, (hb.block q (blk_lt hq') (fun e => by have e : q = g := e; rw [e, h4] at hq; cases hq)).trans hq', fun i hi m hm => ?_, ⟨_, blk_put e1 k _, by simp [e2], fun i hi => ?_⟩, fun i hi => ?_⟩
  · dsimp only at hm
    by_cases e : i = k
    · rw [if_pos e] at hm; cases hm
    · rw [if_neg e] at hm; exact h5 i hi m hm
  · by_cases e : i = k
    · subst e; rw [set_at (by omega)]; simp
    · rw [set_off (fun h => e h.symm)]; simp [e]; exact e3 i hi
  · unfold wiped
    by_cases e : i = k
    · simp only [if_pos e]; exact orow_nil inE _ _ _
    · simp only [if_neg e]
      exact own_but (h7 i hi) hb (fun m hm t => by have t : m = g := t; have := h5 i hi m hm; rw [t, h4] at this; omega)
def writ (k : Nat) (v : Int) (B : Nat → List Int) : Nat → List Int := fun i => if i = k then B i ++ [v] else B i
/-- A book is written on: what is known around the append. -/
theorem Hs.write {w0 W : World} {p g q : Nat} {ob : Obj} {b : Bz} {B : Nat → List Int} (h : Hs w0 W p g q ob b B) {k : Nat} (hk : k < 4) (v : Int) : ∃ a c, W.cell? ⟨g, k, none⟩ = some (.slice a (B k).length c) ∧ ORow inE 3 (W.alloc (.cells #[.int .i64 v] 3)) 0 (.slice a (B k).length c) (B k) ∧
    ∀ gg cap w', ORow inE 3 w' 0 (.slice (some ⟨gg, 0, none⟩) ((B k).length + 1) cap) (B k ++ [v]) → But (fun m => (Value.slice a (B k).length c).ownBlock = some m) (W.alloc (.cells #[.int .i64 v] 3)) w' → ((Value.slice a (B k).length c).ownBlock = some gg ∨ gg = (W.alloc (.cells #[.int .i64 v] 3)).heap.size) → gg < w'.heap.size →
      (∃ u, w'.cell? ⟨g, k, none⟩ = some u) ∧ w'.frozen? ⟨g, k, none⟩ = false ∧ Hs w0 (w'.setCell ⟨g, k, none⟩ (.slice (some ⟨gg, 0, none⟩) ((B k).length + 1) cap)) p g q ob b (writ k v B) := by
  have a1 := (After.rfl (w := W)).alloc (.cells #[.int .i64 v] 3)
  obtain ⟨o, L, V, x, h1, h2, h3, h4, hq, hq', h5, ⟨cs, e1, e2, e3⟩, h7⟩ := h.two
  obtain ⟨a, c, ea, _⟩ := ORow.row (h7 k hk)
  have h8 := e3 k hk
  rw [ea] at h8
  refine ⟨a, c, blk_cell e1 h8, by rw [← ea]; exact own_after (h7 k hk) a1, ?_⟩
  rw [← ea]
  intro gg cap w' row hb hat hlt
  have og : o g = 0 := by
    rcases Nat.eq_zero_or_pos (o g) with e | e
    · exact e
    · have := h3 g (by omega); omega
  have s1 := a1.size
  have hgl := blk_lt e1
  have hgv : ∀ i, i < 4 → ¬ (V i).ownBlock = some g := fun i hi e => by have := h5 i hi g e; omega
  have e1' := (hb.block g (Nat.lt_of_lt_of_le hgl s1) (hgv k hk)).trans ((a1.block g hgl (fun t => t)).trans e1)
  have hs := hb.size
  have hbs := but_one w' g k (.slice (some ⟨gg, 0, none⟩) ((B k).length + 1) cap)
  have hz : (w'.setCell ⟨g, k, none⟩ (.slice (some ⟨gg, 0, none⟩) ((B k).length + 1) cap)).heap.size = w'.heap.size := by simp [World.setCell]
  have hvk : ∀ m, (V k).ownBlock = some m → o m = 0 := fun m hm => by
    rcases Nat.eq_zero_or_pos (o m) with e | e
    · exact e
    · have h9 := h3 m (by omega); have := h5 k hk m hm; omega
  have hgg : gg ≠ g := fun e => by
    rcases hat with h' | h'
    · exact hgv k hk (by rw [h', e])
    · rw [e] at h'; omega
  have go : But (fun m => (V k).ownBlock = some m) W w' := a1.but.then hb (fun m _ e => e)
  have all : But (fun m => (V k).ownBlock = some m ∨ m = g) W (w'.setCell ⟨g, k, none⟩ (.slice (some ⟨gg, 0, none⟩) ((B k).length + 1) cap)) := (go.mono (fun m _ e => .inl e)).then hbs (fun m _ e => .inr e)
  have hS : ∀ m, ((V k).ownBlock = some m ∨ m = g) → L m ≠ 0 := fun m e => by
    rcases e with e | e
    · rw [h5 k hk m e]; omega
    · rw [e, h4]; decide
  have hob : ∀ m, (Value.slice (some ⟨gg, 0, none⟩) ((B k).length + 1) cap).ownBlock = some m → m = gg := fun m hm => by cases hm; rfl
  have L0 : ∀ m, m < W.heap.size → (fun m => if m < W.heap.size then L m else if m = gg then 2 + k else 0) m = L m := fun m hm => if_pos hm
  refine ⟨⟨_, blk_cell e1' h8⟩, blk_soft e1' k, h.aft.then all (fun m hm e => by have := (h2 m (hS m e)).1; omega), o, fun m => if m < W.heap.size then L m else if m = gg then 2 + k else 0, fun i => if i = k then .slice (some ⟨gg, 0, none⟩) ((B k).length + 1) cap else V i, x.but all (fun m hm e => hS m e (h3 m hm)), h1, fun m hm => ?_, fun m hm => ?_, (L0 g hgl).trans h4, (L0 q (blk_lt hq')).trans hq, (all.block q (blk_lt hq') (fun e => by rcases e with e | e; (have := h5 k hk q e; omega); (rw [e, h4] at hq; cases hq))).trans hq', fun i hi m hm => ?_, ⟨_, blk_put e1' k _, by simp [e2], fun i hi => ?_⟩, fun i hi => ?_⟩
  · dsimp only at hm
    by_cases e : m < W.heap.size
    · rw [if_pos e] at hm
      exact ⟨(h2 m hm).1, Nat.lt_of_lt_of_le e all.size⟩
    · rw [if_neg e] at hm
      by_cases e' : m = gg
      · subst e'
        exact ⟨Nat.le_trans h.aft.size (by omega), by rw [hz]; exact hlt⟩
      · rw [if_neg e'] at hm; exact absurd rfl hm
  · exact (L0 m (x.bnd m hm)).trans (h3 m hm)
  · dsimp only at hm
    by_cases e : i = k
    · subst e
      rw [if_pos rfl] at hm
      rw [hob m hm]
      by_cases e : gg < W.heap.size
      · rw [L0 gg e]
        rcases hat with h' | h'
        · exact h5 i hk gg h'
        · omega
      · show (if gg < W.heap.size then L gg else if gg = gg then 2 + i else 0) = 2 + i
        rw [if_neg e, if_pos rfl]
    · rw [if_neg e] at hm
      rw [L0 m ((h7 i hi).lt m hm).2]
      exact h5 i hi m hm
  · by_cases e : i = k
    · subst e; rw [set_at (by omega)]; simp
    · rw [set_off (fun h => e h.symm)]; simp [e]; exact e3 i hi
  · unfold writ
    by_cases e : i = k
    · subst e
      simp only [if_pos]
      show World.ownsRow _ 0 3 inE.k _ (B i ++ [v]).length (inE.flat (B i ++ [v]))
      exact own_but row hbs (fun m hm t => hgg (by rw [← hob m hm]; exact t))
    · simp only [if_neg e]
      exact own_but (h7 i hi) all (fun m hm t => by
        have h9 := h5 i hi m hm
        rcases t with t | t
        · have := h5 k hk m t; omega
        · rw [t, h4] at h9; omega)
theorem Hs.lie {w0 W : World} {p g q : Nat} {ob : Obj} {b : Bz} {B : Nat → List Int} (h : Hs w0 W p g q ob b B) : W.heap[q]? = some ob := by
  obtain ⟨o, L, V, x, h1, h2, h3, h4, hq, hq', _⟩ := h.two
  exact hq'
theorem Hs.same {w0 W : World} {p g q : Nat} {ob : Obj} {b : Bz} {B B' : Nat → List Int} (h : Hs w0 W p g q ob b B) (e : ∀ k, k < 4 → B k = B' k) : Hs w0 W p g q ob b B' := by
  obtain ⟨o, L, V, x, h1, h2, h3, h4, hq, hq', h5, h6, h7⟩ := h.two
  exact ⟨h.aft, o, L, V, x, h1, h2, h3, h4, hq, hq', h5, h6, fun k hk => by rw [← e k hk]; exact h7 k hk⟩
/-- The bus is new, and so are the topics and the books. -/
theorem hs_new {w0 W : World} {p : Nat} {b : Bz} (h : Sole w0 W p b) (cs : Array Value) {U : World} (hU : U = (W.alloc (.cells cs 3)).alloc (.cells #[.slice none 0 0, .slice none 0 0, .slice none 0 0, .slice none 0 0] 37)) : Hs w0 U p (W.heap.size + 1) W.heap.size (.cells cs 3 (0, 0)) b (fun _ => []) := by
  obtain ⟨o, x, ho⟩ := h.bus
  have a1 := (After.rfl (w := W)).alloc (.cells cs 3)
  have a2 := (After.rfl (w := W.alloc (.cells cs 3))).alloc (.cells #[.slice none 0 0, .slice none 0 0, .slice none 0 0, .slice none 0 0] 37)
  have s1 : (W.alloc (.cells cs 3)).heap.size = W.heap.size + 1 := by simp
  have s2 : U.heap.size = W.heap.size + 2 := by rw [hU]; simp
  have e1 := heap_alloc_new W (.cells cs 3)
  have e2 := heap_alloc_new (W.alloc (.cells cs 3)) (.cells #[.slice none 0 0, .slice none 0 0, .slice none 0 0, .slice none 0 0] 37)
  rw [s1, ← hU] at e2
  have e3 := (a2.block W.heap.size (by omega) (fun t => t)).trans e1
  rw [← hU] at e3
  have aU : After W U := by rw [hU]; exact a1.trans a2
  have hw := h.aft.size
  refine ⟨h.aft.trans aU, o, fun k => if k = W.heap.size then 9 else if k = W.heap.size + 1 then 1 else 0, fun _ => .slice none 0 0, x.after aU, ho, fun k hk => ?_, fun k hk => ?_, ?_, if_pos rfl, e3, fun k _ m hm => (by cases hm), ⟨_, e2, rfl, fun k hk => ?_⟩, fun k _ => orow_nil inE _ _ _⟩
  · dsimp only at hk
    by_cases c1 : k = W.heap.size
    · omega
    · rw [if_neg c1] at hk
      by_cases c2 : k = W.heap.size + 1
      · omega
      · rw [if_neg c2] at hk; exact absurd rfl hk
  · have := x.bnd k hk
    show (if k = W.heap.size then 9 else if k = W.heap.size + 1 then 1 else 0) = 0
    rw [if_neg (by omega), if_neg (by omega)]
  · show (if W.heap.size + 1 = W.heap.size then 9 else if W.heap.size + 1 = W.heap.size + 1 then 1 else 0) = 1
    rw [if_neg (by omega), if_pos rfl]
  · rcases (by omega : k = 0 ∨ k = 1 ∨ k = 2 ∨ k = 3) with rfl | rfl | rfl | rfl <;> rfl
theorem Says.same {b : Bz} {B B' : Nat → List Int} {m : Nat} (h : Says b B m) (e : ∀ k, k < 4 → B k = B' k) : Says b B' m :=
  ⟨h.n, h.len, fun k hk => by rw [← e k hk]; exact h.rings k hk, h.upto, fun k hk => by rw [← e k hk]; exact h.few k hk⟩
end Go.Proofs.Ytajjfklglnefkaa
