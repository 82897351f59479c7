/-
  Closures that ask bounds; links in memory; Get, Put.
-/
import Derived.Test.YtkjjjibglaffnaaExA
namespace Go.Proofs.Ytkjjjibglaffnaa
open Go.RowKit
set_option maxRecDepth 8000
theorem Enc.flat_set {α : Type} (E : Enc α) : ∀ (xs : List α) (i : Nat) (x : α), i < xs.length → ∀ j, (E.flat (xs.set i x))[j]? = if i * E.k ≤ j ∧ j < i * E.k + E.k then (E.enc x)[j - i * E.k]? else (E.flat xs)[j]?
  | [], _, _, h, _ => by simp at h
  | y :: r, 0, x, _, j => by
    rw [List.set_cons_zero, E.flat_cons, E.flat_cons, Nat.zero_mul, Nat.zero_add, Nat.sub_zero]
    by_cases hj : j < E.k
    · rw [if_pos ⟨Nat.zero_le _, hj⟩, List.getElem?_append_left (by rw [E.len]; exact hj)]
    · rw [if_neg (by omega), List.getElem?_append_right (by rw [E.len]; omega), List.getElem?_append_right (by rw [E.len]; omega), E.len, E.len]
  | y :: r, i + 1, x, h, j => by
    rw [List.set_cons_succ, E.flat_cons, E.flat_cons, Nat.add_mul, Nat.one_mul]
    by_cases hj : j < E.k
    · rw [if_neg (by omega), List.getElem?_append_left (by rw [E.len]; exact hj), List.getElem?_append_left (by rw [E.len]; exact hj)]
    · rw [List.getElem?_append_right (by rw [E.len]; omega), List.getElem?_append_right (by rw [E.len]; omega), E.len, Enc.flat_set E r i x (by simpa using h)]
      by_cases hc : i * E.k + E.k ≤ j ∧ j < i * E.k + E.k + E.k
      · rw [if_pos (by omega), if_pos hc, Nat.sub_sub, Nat.add_comm E.k]
      · rw [if_neg (by omega), if_neg hc]
/-- A link has another number. -/
theorem lk_put {w : World} {g n c i : Nat} {L : List Lk} {l : Lk} (h : ORow lkE 83 w 0 (.slice (some ⟨g, 0, none⟩) n c) L) (hl : L[i]? = some l) (v : Int) :
    ORow lkE 83 ((w.setCell ⟨g, i * 4 + 2, none⟩ (.int .i64 v)).setCell ⟨g, i * 4 + 3, none⟩ (.bool true)) 0 (.slice (some ⟨g, 0, none⟩) n c) (L.set i { l with o := some v }) := by
  have hi := (List.getElem?_eq_some_iff.1 hl).1
  rcases h.2 with ⟨hv, _⟩ | ⟨g', cap, cur, hv, h1, h2, h3, h4, h5, h6⟩
  · cases hv
  cases hv
  have hlen : (lkE.flat L).length = L.length * 4 := lkE.flat_length L
  have h6' : ∀ j, j < L.length * 4 → cur[j]? = (lkE.flat L)[j]? := fun j hj => by
    have : (cur.toList.take (L.length * lkE.k))[j]? = cur.toList[j]? := List.getElem?_take_of_lt hj
    rw [← h6, this, Array.getElem?_toList]
  have k2 := blk_put (blk_put h2 (i * 4 + 2) (.int .i64 v)) (i * 4 + 3) (.bool true)
  refine ⟨by rw [lkE.flat_length], .inr ⟨g, c, _, by rw [List.length_set], h1, k2, by rw [List.length_set]; exact h3, h4, by simpa using h5, ?_⟩⟩
  rw [List.length_set]
  refine List.ext_getElem? (fun j => ?_)
  have hc : lkE.k = 4 := rfl
  by_cases hj : j < L.length * 4
  · rw [List.getElem?_take_of_lt (show j < L.length * lkE.k from hj), Array.getElem?_toList, lkE.flat_set L i _ hi j, hc]
    have hsz : L.length * 4 ≤ cur.size := by
      have e : cur.size = c * 4 := h5
      have := Nat.mul_le_mul_right 4 h3
      omega
    rw [Array.getElem?_setIfInBounds, Array.size_setIfInBounds, Array.getElem?_setIfInBounds]
    by_cases c3 : i * 4 + 3 = j
    · subst c3
      rw [if_pos rfl, if_pos (by omega), if_pos (by omega), show i * 4 + 3 - i * 4 = 3 by omega]; rfl
    rw [if_neg c3]
    by_cases c2 : i * 4 + 2 = j
    · subst c2
      rw [if_pos rfl, if_pos (by omega), if_pos (by omega), show i * 4 + 2 - i * 4 = 2 by omega]; rfl
    rw [if_neg c2]
    by_cases c1 : i * 4 ≤ j ∧ j < i * 4 + 4
    · have q := lkE.flat_at L i l hl (j - i * 4) (by rw [hc]; omega)
      rw [hc, show i * 4 + (j - i * 4) = j by omega] at q
      rw [if_pos c1, h6' j hj, q]
      rcases (by omega : j - i * 4 = 0 ∨ j - i * 4 = 1) with e | e <;> rw [e] <;> rfl
    · rw [if_neg c1]; exact h6' j hj
  · rw [List.getElem?_eq_none (by rw [List.length_take]; exact Nat.le_trans (Nat.min_le_left _ _) (by rw [hc]; omega)), List.getElem?_eq_none (by rw [lkE.flat_length, List.length_set, hc]; omega)]
theorem lk_at {w : World} {g n c i : Nat} {L : List Lk} {l : Lk} (h : ORow lkE 83 w 0 (.slice (some ⟨g, 0, none⟩) n c) L) (hl : L[i]? = some l) :
    g < w.heap.size ∧ w.cell? ⟨g, i * 4, none⟩ = some (.int .i64 l.f) ∧ w.cell? ⟨g, i * 4 + 1, none⟩ = some (.int .i64 l.t) ∧ w.cell? ⟨g, i * 4 + 2, none⟩ = some (.int .i64 (l.o.getD 0)) ∧ w.cell? ⟨g, i * 4 + 3, none⟩ = some (.bool l.o.isSome) ∧ w.frozen? ⟨g, i * 4 + 2, none⟩ = false ∧ w.frozen? ⟨g, i * 4 + 3, none⟩ = false := by
  have hi := (List.getElem?_eq_some_iff.1 hl).1
  obtain ⟨a, c', e, hr, _⟩ := h.row
  obtain ⟨b, off, x, e2, hb, hx, h1⟩ := hr.2 i hi
  cases e
  cases e2
  rw [hl] at hx
  cases hx
  have q : ∀ j v, (lkE.enc l)[j]? = some v → w.cell? ⟨g, i * 4 + j, none⟩ = some v := fun j v hv => by
    have := h1 j v hv
    rw [Nat.zero_add] at this
    exact this
  rcases h.2 with ⟨hv, _⟩ | ⟨g', cap, cur, hv, _, h2, _⟩
  · cases hv
  cases hv
  exact ⟨hb, q 0 _ rfl, q 1 _ rfl, q 2 _ rfl, q 3 _ rfl, blk_soft h2 _, blk_soft h2 _⟩
/-- A closure that asks whether a number is outside two bounds. -/
def Bey (w : World) (v : Value) (lo hi : Int) : Prop := ∃ a b, v = .func (.func 38) #[] #[Ptr a, Ptr b] ∧ w.heap[a]? = some (.cells #[.int .i64 lo] 3 (0, 0)) ∧ w.heap[b]? = some (.cells #[.int .i64 hi] 3 (0, 0))
theorem Bey.but {S : Nat → Prop} {w w' : World} {v : Value} {lo hi : Int} (x : Bey w v lo hi) (h : But S w w') (hs : ∀ k, k < w.heap.size → ¬ S k) : Bey w' v lo hi := by
  obtain ⟨a, b, e, h1, h2⟩ := x
  exact ⟨a, b, e, (h.block a (blk_lt h1) (hs a (blk_lt h1))).trans h1, (h.block b (blk_lt h2) (hs b (blk_lt h2))).trans h2⟩
theorem Bey.after {w w' : World} {v : Value} {lo hi : Int} (x : Bey w v lo hi) (h : After w w') : Bey w' v lo hi := x.but h (fun _ _ t => t)
theorem beyond_any (w : World) (lo hi : Int) : Calls Try.prog 31 #[.int .i64 lo, .int .i64 hi] w fun e w' => ∃ v, e = .returned v ∧ Bey w' v lo hi ∧ After w w' := by
  have hmf : ∀ (fn : Fn) (first cap : Array Value) (w : World), (Instr.makeFunc fn first cap).run Try.prog w = .ok (.func fn first cap) w := fun _ _ _ _ => rfl
  go_enter Try.func31, Try.ntmps31
  go_wp2
  go_ret
  refine ⟨_, rfl, ⟨w.heap.size, w.heap.size + 1, rfl, ?_, ?_⟩, (After.rfl.alloc _).alloc _⟩
  · rw [Below.heap_alloc _ _ _ (by simp)]; exact heap_alloc_new w _
  · have := heap_alloc_new (w.alloc (.cells #[.int .i64 lo] 3)) (.cells #[.int .i64 hi] 3)
    rw [World.size_alloc] at this; exact this
theorem bey_any {w : World} {a b : Nat} {lo hi : Int} (h1 : w.heap[a]? = some (.cells #[.int .i64 lo] 3 (0, 0))) (h2 : w.heap[b]? = some (.cells #[.int .i64 hi] 3 (0, 0))) (n : Int) :
    Calls Try.prog 38 #[.int .i64 n, Ptr a, Ptr b] w fun e w' => e = .returned (.bool (decide (n < lo) || decide (hi < n))) ∧ w' = w := by
  have c1 := blk_cell h1 (i := 0) rfl
  have c2 := blk_cell h2 (i := 0) rfl
  clear h1 h2
  by_cases h : n < lo
  · rw [decide_eq_true h]
    go_enter Try.func38, Try.ntmps38
    go_wp2
    go_ret
    exact ⟨rfl, rfl⟩
  · rw [decide_eq_false h]
    go_enter Try.func38, Try.ntmps38
    go_wp2
    go_ret
    exact ⟨rfl, rfl⟩
/-- Where a link lies. -/
def lkP (lv : Value) (i : Int) : Value := match lv with
  | .slice (some x) _ _ => .pointer (some ⟨x.block, i.toNat * 4, none⟩)
  | _ => .pointer none
theorem lk_len {w : World} {lv : Value} {L : List Lk} (h : ORow lkE 83 w 0 lv L) : ∃ a c, lv = .slice a L.length c := by
  obtain ⟨a, c, e, _⟩ := h.row
  exact ⟨a, c, e⟩
theorem lkAt_none {L : List Lk} {i : Int} (h : lkAt L i = none) : i < 0 ∨ (L.length : Int) ≤ i := by
  unfold lkAt at h
  split at h
  · have := List.getElem?_eq_none_iff.1 h; omega
  · omega
theorem link_none {w : World} {b : Nat} {p : Int} {t : Tn} {s : Int} {lv : Value} {en : Bool} {L : List Lk} (x : w.heap[b]? = some (.cells (tuC p t s lv en) 105 (0, 0))) (hL : ORow lkE 83 w 0 lv L) (hb : L.length ≤ 16) {i : Int} (h : lkAt L i = none) :
    Calls Try.prog 36 #[Ptr b, .int .i64 i] w fun e w' => e = .returned (.pointer none) ∧ After w w' := by
  obtain ⟨a, cc, rfl⟩ := lk_len hL
  have h' := lkAt_none h
  have c5 := blk_cell x (i := 5) rfl
  have H := hideIt (beyond_any w 0 ((L.length : Int) - 1))
  have HD := hideIt (show (decide (i < 0) || decide ((L.length : Int) - 1 < i)) = true by
    rcases h' with h' | h'
    · rw [decide_eq_true h']; rfl
    · rw [decide_eq_true (show (L.length : Int) - 1 < i by omega), Bool.or_true])
  clear x hL h h'
  go_enter Try.func36, Try.ntmps36
  go_wp2_with fail
  refine H.out.mono ?_
  rintro e w1 ⟨v, rfl, ⟨a1, b1, rfl, k1, k2⟩, af⟩
  have HB := hideIt (bey_any k1 k2 i)
  have AF := hideIt af
  clear k1 k2 af c5
  go_wp2_with fail
  refine HB.out.mono ?_
  rintro e w2 ⟨rfl, rfl⟩
  rw [HD.out]
  go_wp2_with fail
  go_ret
  exact ⟨rfl, AF.out⟩
theorem link_some {w : World} {b : Nat} {p : Int} {t : Tn} {s : Int} {lv : Value} {en : Bool} {L : List Lk} (x : w.heap[b]? = some (.cells (tuC p t s lv en) 105 (0, 0))) (hL : ORow lkE 83 w 0 lv L) (hb : L.length ≤ 16) {i : Int} {l : Lk} (h : lkAt L i = some l) :
    Calls Try.prog 36 #[Ptr b, .int .i64 i] w fun e w' => e = .returned (lkP lv i) ∧ After w w' := by
  obtain ⟨a, cc, e, hr, hn, _⟩ := hL.row
  subst e
  obtain ⟨h0, h1, h2⟩ := lkAt_nat h
  obtain ⟨k, rfl⟩ : ∃ k : Nat, i = (k : Int) := ⟨i.toNat, by omega⟩
  rw [Int.toNat_natCast] at h1 h2
  obtain ⟨g, off, y, e, hb, _⟩ := hr.2 k h2
  subst e
  have e0 : off = 0 := by
    rcases hL.2 with ⟨hv, _⟩ | ⟨g', cap, cur, hv, _⟩
    · cases hv
    · cases hv; rfl
  subst e0
  have c5 := blk_cell x (i := 5) rfl
  have H := hideIt (beyond_any w 0 ((L.length : Int) - 1))
  have HD := hideIt (show (decide ((k : Int) < 0) || decide ((L.length : Int) - 1 < (k : Int))) = false by
    rw [decide_eq_false (show ¬ (k : Int) < 0 by omega), decide_eq_false (show ¬ (L.length : Int) - 1 < (k : Int) by omega)]; rfl)
  have HX := hideIt x
  have i1 : (k : Int) < (L.length : Int) := by omega
  clear x hL h hr hn h0 h1
  go_enter Try.func36, Try.ntmps36
  go_wp2_with fail
  refine H.out.mono ?_
  rintro e w1 ⟨v, rfl, ⟨a1, b1, rfl, k1, k2⟩, af⟩
  have HB := hideIt (bey_any k1 k2 (k : Int))
  have AF := hideIt af
  have c5' := blk_cell ((af.block _ (blk_lt HX.out) (fun t => t)).trans HX.out) (i := 5) rfl
  clear k1 k2 af c5
  go_wp2_with fail
  refine HB.out.mono ?_
  rintro e w2 ⟨rfl, rfl⟩
  rw [HD.out]
  go_wp2_with fail
  go_ret
  exact ⟨by simp [lkP], AF.out⟩
theorem get_none {w : World} {v : Value} (x : NoneC w v) (i : Int) : Calls Try.prog 28 #[v, .int .i64 i] w fun e w' => e = .returned (.tuple #[.int .i64 0, .bool false]) ∧ w' = w := by
  have H := hideIt (isNone_yes x)
  clear x
  go_enter Try.func28, Try.ntmps28
  go_wp2_with (go_at_call 35; refine H.out.mono ?_; rintro e w' ⟨rfl, rfl⟩)
  go_ret2
  exact ⟨rfl, rfl⟩
theorem put_none {w : World} {v : Value} (x : NoneC w v) (i n : Int) : Calls Try.prog 30 #[v, .int .i64 i, .int .i64 n] w fun e w' => e = .returned (.bool false) ∧ w' = w := by
  have H := hideIt (isNone_yes x)
  clear x
  go_enter Try.func30, Try.ntmps30
  go_wp2_with (go_at_call 35; refine H.out.mono ?_; rintro e w' ⟨rfl, rfl⟩)
  go_ret
  exact ⟨rfl, rfl⟩
theorem lkP_some {w : World} {lv : Value} {L : List Lk} (hL : ORow lkE 83 w 0 lv L) {i : Int} {l : Lk} (h : lkAt L i = some l) : ∃ g c, lv = .slice (some ⟨g, 0, none⟩) L.length c ∧ lkP lv i = .pointer (some ⟨g, i.toNat * 4, none⟩) := by
  rcases hL.2 with ⟨_, hn⟩ | ⟨g, cap, cur, hv, _⟩
  · have := (lkAt_nat h).2.2; omega
  · subst hv
    exact ⟨g, cap, rfl, rfl⟩
set_option maxHeartbeats 1000000 in
theorem get_any {w : World} {c b : Nat} {p : Int} {t : Tn} {s : Int} {lv : Value} {L : List Lk} (x : Cl w c b p t s lv false) (hL : ORow lkE 83 w 0 lv L) (hb : L.length ≤ 16) (i : Int) :
    Calls Try.prog 28 #[Ptr c, .int .i64 i] w fun e w' => e = .returned (.tuple #[.int .i64 (getA L p i).v, .bool (getA L p i).is]) ∧ After w w' := by
  have H := hideIt (isNone_no x)
  have c0 := blk_cell x.c0 (i := 0) rfl
  rcases hl : lkAt L i with _ | l
  · have e1 : getA L p i = ⟨0, false⟩ := by unfold getA; rw [hl]
    have HL := hideIt (link_none x.t0 hL hb hl)
    rw [e1]
    clear hL hl e1 x
    go_enter Try.func28, Try.ntmps28
    go_wp2_with (go_at_call 35; refine H.out.mono ?_; rintro e w' ⟨rfl, rfl⟩)
    refine HL.out.mono ?_
    rintro e w1 ⟨rfl, af⟩
    have AF := hideIt af
    clear af c0
    go_wp2_with fail
    go_quiet (fail)
    go_wp2_with fail
    go_ret2
    exact ⟨rfl, AF.out.draws _⟩
  · have HL := hideIt (link_some x.t0 hL hb hl)
    obtain ⟨g, cc, e, eP⟩ := lkP_some hL hl
    rw [eP] at HL
    have HX := hideIt x
    subst e
    have HO := hideIt (And.intro hL (lkAt_nat hl).2.1)
    by_cases hp : l.t = p
    · have e1 : getA L p i = ⟨l.o.getD 0, l.o.isSome⟩ := by unfold getA; rw [hl]; exact if_pos hp
      rw [e1]
      have hne : (l.t != p) = false := by simp [hp]
      clear hL hl e1 x eP hp
      generalize i.toNat = k at *
      go_enter Try.func28, Try.ntmps28
      go_wp2_with (go_at_call 35; refine H.out.mono ?_; rintro e w' ⟨rfl, rfl⟩)
      refine HL.out.mono ?_
      rintro e w1 ⟨rfl, af⟩
      obtain ⟨_, d0, d1, d2, d3, _, _⟩ := lk_at (own_after HO.out.1 af) HO.out.2
      have c0' := blk_cell (HX.out.after af).c0 (i := 0) rfl
      have c1' := blk_cell (HX.out.after af).t0 (i := 0) rfl
      have AF := hideIt af
      clear af c0
      go_wp2_with fail
      go_quiet (fail)
      go_wp2_with fail
      go_region
      go_wp2_with fail
      go_ret2
      exact ⟨rfl, AF.out.draws _⟩
    · have e1 : getA L p i = ⟨0, false⟩ := by unfold getA; rw [hl]; exact if_neg hp
      rw [e1]
      have hne : (l.t != p) = true := by simpa using hp
      clear hL hl e1 x eP hp
      generalize i.toNat = k at *
      go_enter Try.func28, Try.ntmps28
      go_wp2_with (go_at_call 35; refine H.out.mono ?_; rintro e w' ⟨rfl, rfl⟩)
      refine HL.out.mono ?_
      rintro e w1 ⟨rfl, af⟩
      obtain ⟨_, d0, d1, d2, d3, _, _⟩ := lk_at (own_after HO.out.1 af) HO.out.2
      have c0' := blk_cell (HX.out.after af).c0 (i := 0) rfl
      have c1' := blk_cell (HX.out.after af).t0 (i := 0) rfl
      have AF := hideIt af
      clear af c0
      go_wp2_with fail
      go_quiet (fail)
      go_wp2_with fail
      go_ret2
      exact ⟨rfl, AF.out.draws _⟩
theorem own_farT {α : Type} {E : Enc α} {t : TypeId} {w : World} {B : Nat} {v : Value} {xs : List α} (h : ORow E t w B v xs) {g : Nat} {cs : Array Value} {t' : TypeId} (ht : t' ≠ t) (hb : w.heap[g]? = some (.cells cs t' (0, 0))) : v.ownBlock ≠ some g := by
  intro e
  rcases h.2 with ⟨rfl, _⟩ | ⟨g', cap, cur, rfl, _, hg, _⟩
  · cases e
  · have : g' = g := by simpa [Value.ownBlock] using e
    subst this
    rw [hb] at hg
    simp at hg
    exact ht hg.2
/-- What Put leaves behind. -/
def Putted (w : World) (c b : Nat) (p : Int) (t : Tn) (s : Int) (lv : Value) (L : List Lk) (w' : World) : Prop := Cl w' c b p t s lv false ∧ ORow lkE 83 w' 0 lv L ∧ But (fun k => lv.ownBlock = some k) w w'
theorem put_same {w w' : World} {c b : Nat} {p : Int} {t : Tn} {s : Int} {lv : Value} {L : List Lk} (x : Cl w c b p t s lv false) (hL : ORow lkE 83 w 0 lv L) (a : After w w') : Putted w c b p t s lv L w' := ⟨x.after a, own_after hL a, a.but⟩
set_option maxHeartbeats 1000000 in
theorem put_any {w : World} {c b : Nat} {p : Int} {t : Tn} {s : Int} {lv : Value} {L : List Lk} (x : Cl w c b p t s lv false) (hL : ORow lkE 83 w 0 lv L) (hb : L.length ≤ 16) (i v : Int) :
    Calls Try.prog 30 #[Ptr c, .int .i64 i, .int .i64 v] w fun e w' => e = .returned (.bool (putA L p t i)) ∧ Putted w c b p t s lv (putL L p t i v) w' := by
  have H := hideIt (isNone_no x)
  have HS := hideIt (isStopped_any x.t0)
  have c0 := blk_cell x.c0 (i := 0) rfl
  by_cases hst : t.stop = true
  · have e1 : putA L p t i = false := by unfold putA; split <;> simp [hst]
    have e2 : putL L p t i v = L := by unfold putL; split <;> simp [hst]
    rw [e1, e2]
    rw [hst] at HS
    have HX := hideIt (And.intro x hL)
    clear x hL e1 e2 hst
    go_enter Try.func30, Try.ntmps30
    go_wp2_with (first | (go_at_call 35; refine H.out.mono ?_; rintro e w' ⟨rfl, rfl⟩) | (go_at_call 37; refine HS.out.mono ?_; rintro e w' ⟨rfl, rfl⟩))
    go_ret
    exact ⟨rfl, put_same HX.out.1 HX.out.2 After.rfl⟩
  have hst : t.stop = false := by simpa using hst
  rw [hst] at HS
  rcases hl : lkAt L i with _ | l
  · have e1 : putA L p t i = false := by unfold putA; rw [hl]
    have e2 : putL L p t i v = L := by unfold putL; rw [hl]
    have HL := hideIt (link_none x.t0 hL hb hl)
    rw [e1, e2]
    have HX := hideIt (And.intro x hL)
    clear hL hl e1 e2 x hst
    go_enter Try.func30, Try.ntmps30
    go_wp2_with (first | (go_at_call 35; refine H.out.mono ?_; rintro e w' ⟨rfl, rfl⟩) | (go_at_call 37; refine HS.out.mono ?_; rintro e w' ⟨rfl, rfl⟩))
    refine HL.out.mono ?_
    rintro e w1 ⟨rfl, af⟩
    have AF := hideIt af
    clear af c0
    go_wp2_with fail
    go_quiet (fail)
    go_wp2_with fail
    go_ret
    exact ⟨rfl, put_same HX.out.1 HX.out.2 (AF.out.draws _)⟩
  · have HL := hideIt (link_some x.t0 hL hb hl)
    obtain ⟨g, cc, e, eP⟩ := lkP_some hL hl
    rw [eP] at HL
    have HX := hideIt x
    subst e
    have HO := hideIt (And.intro hL (lkAt_nat hl).2.1)
    by_cases hp : l.f = p
    · have e1 : putA L p t i = true := by unfold putA; rw [hl]; simp [hp, hst]
      have e2 : putL L p t i v = L.set i.toNat { l with o := some v } := by unfold putL; rw [hl]; simp [hp, hst]
      rw [e1, e2]
      have hne : (l.f != p) = false := by simp [hp]
      clear hL hl e1 e2 x eP hp hst
      generalize i.toNat = k at *
      go_enter Try.func30, Try.ntmps30
      go_wp2_with (first | (go_at_call 35; refine H.out.mono ?_; rintro e w' ⟨rfl, rfl⟩) | (go_at_call 37; refine HS.out.mono ?_; rintro e w' ⟨rfl, rfl⟩))
      refine HL.out.mono ?_
      rintro e w1 ⟨rfl, af⟩
      obtain ⟨_, d0, d1, d2, d3, f2, f3⟩ := lk_at (own_after HO.out.1 af) HO.out.2
      have c0' := blk_cell (HX.out.after af).c0 (i := 0) rfl
      have c1' := blk_cell (HX.out.after af).t0 (i := 0) rfl
      have AF := hideIt af
      clear af c0
      go_wp2_with fail
      go_quiet (fail)
      go_wp2_with fail
      go_ret
      have a1 := AF.out.draws nq
      have o1 := own_after HO.out.1 a1
      have x1 := HX.out.after a1
      have b2 : But (One g) (w1.drewN nq) (((w1.drewN nq).setCell ⟨g, k * 4 + 2, none⟩ (.int .i64 v)).setCell ⟨g, k * 4 + 3, none⟩ (.bool true)) := (but_one _ g _ _).trans (but_one _ g _ _)
      exact ⟨rfl, x1.but b2 (fun e => own_farT o1 (by decide) x1.c0 (by rw [show c = g from e]; rfl)) (fun e => own_farT o1 (by decide) x1.t0 (by rw [show b = g from e]; rfl)), lk_put o1 HO.out.2 v, a1.but.trans (b2.mono (fun k _ e => by rw [show k = g from e]; rfl))⟩
    · have e1 : putA L p t i = false := by unfold putA; rw [hl]; simp [hp]
      have e2 : putL L p t i v = L := by unfold putL; rw [hl]; simp [hp]
      rw [e1, e2]
      have hne : (l.f != p) = true := by simpa using hp
      clear hL hl e1 e2 x eP hp hst
      generalize i.toNat = k at *
      go_enter Try.func30, Try.ntmps30
      go_wp2_with (first | (go_at_call 35; refine H.out.mono ?_; rintro e w' ⟨rfl, rfl⟩) | (go_at_call 37; refine HS.out.mono ?_; rintro e w' ⟨rfl, rfl⟩))
      refine HL.out.mono ?_
      rintro e w1 ⟨rfl, af⟩
      obtain ⟨_, d0, d1, d2, d3, _, _⟩ := lk_at (own_after HO.out.1 af) HO.out.2
      have c0' := blk_cell (HX.out.after af).c0 (i := 0) rfl
      have c1' := blk_cell (HX.out.after af).t0 (i := 0) rfl
      have AF := hideIt af
      clear af c0
      go_wp2_with fail
      go_quiet (fail)
      go_wp2_with fail
      go_ret
      exact ⟨rfl, put_same HX.out HO.out.1 (AF.out.draws _)⟩
end Go.Proofs.Ytkjjjibglaffnaa
