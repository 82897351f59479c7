/-
  Tell, takeAll, Hear.
-/
import Derived.Test.YtajjfklglnefkaaBuC
namespace Go.Proofs.Ytajjfklglnefkaa
open Go.RowKit
set_option maxRecDepth 8000
theorem flat_set (xs : List Ln) (j : Nat) (x : Ln) (s : Sg) (h : xs[j]? = some x) : liE.flat (xs.set j { x with s := s }) = liE.flat xs := by
  unfold Enc.flat
  induction xs generalizing j with
  | nil => rfl
  | cons y r ih =>
    cases j with
    | zero => simp at h; subst h; rfl
    | succ j =>
      simp only [List.set_cons_succ, List.flatMap_cons]
      rw [ih j (by simpa using h)]
/-- A ring has gone on. -/
theorem bu_ring {w w' : World} {p : Nat} {o : Nat → Nat} {b : Bz} {cs : Array Value} {v : Value} {xs : List Ln} (x : BuX w p o b cs v xs) {j : Nat} {y : Ln} (hy : xs[j]? = some y) {s : Sg} (r : Rg w' y.p 16 s) (hb : But (One y.p) w w') :
    BuX w' p o { b with ls := b.ls.set j (y.t, s) } cs v (xs.set j { y with s := s }) := by
  have l := (x.rings j y hy).2
  have hne : ∀ k, k = y.p → o k = 4 + j := fun k e => by rw [e]; exact l
  refine { x with
    at0 := (hb.block p (blk_lt x.at0) (fun e => by have := hne p e; rw [x.lp] at this; omega)).trans x.at0
    own := ?_
    ls := ?_
    rings := fun i z hz => ?_
    bnd := fun k hk => Nat.lt_of_lt_of_le (x.bnd k hk) hb.size
    ok := ⟨x.ok.n1, x.ok.n2, x.ok.f1, x.ok.f2, x.ok.c1, x.ok.c2, by show (b.ls.set j _).length ≤ 8; rw [List.length_set]; exact x.ok.len, x.ok.lks⟩ }
  · unfold ORow
    rw [flat_set xs j y s hy, List.length_set]
    exact own_but x.own hb (fun k hk e => by have h1 := hne k e; rw [x.lv k hk] at h1; omega)
  · show b.ls.set j (y.t, s) = _
    rw [List.map_set, x.ls]
  · rw [List.getElem?_set] at hz
    split at hz
    · rename_i e
      subst e
      split at hz
      · cases hz; exact ⟨r, l⟩
      · cases hz
    · rename_i e
      obtain ⟨r', l'⟩ := x.rings i z hz
      exact ⟨r'.but hb (fun h => by have := hne _ h; omega), l'⟩
/-- The first j of them were told. -/
def tellTo (t v : Int) (j : Nat) (l : List (Int × Sg)) : List (Int × Sg) := (l.take j).map (tell1 t v) ++ l.drop j
theorem tellTo_zero (t v : Int) (l : List (Int × Sg)) : tellTo t v 0 l = l := by simp [tellTo]
theorem tellTo_all (t v : Int) (l : List (Int × Sg)) : tellTo t v l.length l = l.map (tell1 t v) := by simp [tellTo]
theorem tellTo_at (t v : Int) {j : Nat} {l : List (Int × Sg)} {x : Int × Sg} (h : (tellTo t v j l)[j]? = some x) : l[j]? = some x := by
  unfold tellTo at h
  have hl : ((l.take j).map (tell1 t v)).length = min j l.length := by simp
  rcases Nat.lt_or_ge j l.length with hj | hj
  · rw [List.getElem?_append_right (by omega), hl, List.getElem?_drop] at h
    rw [← h]; congr 1; omega
  · rw [List.getElem?_eq_none (by simp; omega)] at h; cases h
theorem tellTo_succ (t v : Int) {j : Nat} {l : List (Int × Sg)} {x : Int × Sg} (h : l[j]? = some x) : tellTo t v (j + 1) l = (tellTo t v j l).set j (tell1 t v x) := by
  obtain ⟨hj, e⟩ := List.getElem?_eq_some_iff.1 h
  unfold tellTo
  have hl : ((l.take j).map (tell1 t v)).length = j := by simp; omega
  rw [List.set_append_right _ _ (by omega), hl, Nat.sub_self, List.drop_eq_getElem_cons hj, List.set_cons_zero, List.take_succ_eq_append_getElem hj, List.map_append, e]
  simp
theorem list_set_same {α : Type} {l : List α} {j : Nat} {x : α} (h : l[j]? = some x) : l.set j x = l := by
  refine List.ext_getElem? (fun i => ?_)
  rw [List.getElem?_set]
  split
  · rename_i e
    subst e
    split
    · exact h.symm
    · rename_i hn
      exact absurd (List.getElem?_eq_some_iff.1 h).1 hn
  · rfl
theorem hits_succ {t : Int} {j : Nat} {l : List (Int × Sg)} {x : Int × Sg} (h : l[j]? = some x) : hits t (l.take (j + 1)) = hits t (l.take j) + (if x.1 = t then 1 else 0) := by
  obtain ⟨hj, e⟩ := List.getElem?_eq_some_iff.1 h
  unfold hits
  rw [List.take_succ_eq_append_getElem hj, List.countP_append, e]
  congr 1
  simp [List.countP_cons]
theorem tell_none {w : World} {u : Value} (h : NoneB w u) (t v : Int) : Calls Try.prog 12 #[u, .int .i64 t, .int .i64 v] w fun e w' => e = .returned (.tuple #[.int .i64 0, .int .i64 1]) ∧ w' = w := by
  have H := hideIt (topic_none h t)
  clear h
  go_enter Try.func12, Try.ntmps12
  go_wp2_with (go_at_call 25; refine H.out.mono ?_; rintro e w' ⟨rfl, rfl⟩)
  go_ret2
  exact ⟨rfl, rfl⟩
theorem tell_no {w : World} {p : Nat} {o : Nat → Nat} {b : Bz} (x : Bu w p o b) {t : Int} (h : t < 0 ∨ b.n ≤ t) (v : Int) : Calls Try.prog 12 #[Ptr p, .int .i64 t, .int .i64 v] w fun e w' => e = .returned (.tuple #[.int .i64 0, .int .i64 200]) ∧ w' = w := by
  have H := hideIt (topic_no x h)
  clear x h
  go_enter Try.func12, Try.ntmps12
  go_wp2_with (go_at_call 25; refine H.out.mono ?_; rintro e w' ⟨rfl, rfl⟩)
  go_ret2
  exact ⟨rfl, rfl⟩
theorem lrow_at {w : World} {a : Option Addr} {n : Nat} {xs : List Ln} (h : GRow liE w a n xs) {i : Nat} (hi : i < n) : ∃ b off x, a = some ⟨b, off, none⟩ ∧ b < w.heap.size ∧ xs[i]? = some x ∧ w.cell? ⟨b, off + i * 2, none⟩ = some (Ptr x.p) ∧ w.cell? ⟨b, off + i * 2 + 1, none⟩ = some (.int .i64 x.t) := by
  obtain ⟨b, off, x, e, hb, hx, h1⟩ := h.2 i hi
  exact ⟨b, off, x, e, hb, hx, h1 0 _ rfl, h1 1 _ rfl⟩
set_option maxHeartbeats 2000000 in
theorem tell_yes {w : World} {p : Nat} {o : Nat → Nat} {b : Bz} (x : Bu w p o b) {t : Int} (h1 : 0 ≤ t) (h2 : t < b.n) (hu : b.Upto 999999) (v : Int) : Calls Try.prog 12 #[Ptr p, .int .i64 t, .int .i64 v] w fun e w' => e = .returned (.tuple #[.int .i64 (hits t b.ls : Int), .int .i64 0]) ∧ Bu w' p o (b.tell t v) ∧ Goes w w' o o := by
  have H := hideIt (topic_ok x h1 h2)
  have hok := x.ok
  obtain ⟨cs, u, xs, x⟩ := x
  have hlen := x.len
  have hl8 := x.ok.len
  obtain ⟨a, c, e, _⟩ := ORow.row x.own
  subst e
  have c1 := blk_cell x.at0 x.c1
  obtain ⟨N, hN⟩ : ∃ N : Nat, N = xs.length := ⟨_, rfl⟩
  rw [← hN] at c1
  have x0 : BuX w p o { b with ls := tellTo t v 0 b.ls } cs (.slice a N c) xs := by rw [tellTo_zero, hN]; exact x
  have n8 : (N : Int) ≤ 8 := by omega
  have HN := hideIt (show b.ls.length = N by omega)
  have HX := hideIt x0
  have HU := hideIt hu
  clear x x0 h1 h2 hl8 hlen hu hok hN
  go_enter Try.func12, Try.ntmps12
  go_wp2_with fail
  refine H.out.mono ?_
  rintro e w0 ⟨rfl, hw0⟩
  obtain rfl := hw0.symm
  go_wp2_with fail
  go_loopw [9, 23] (fun i k wr => ∃ (j : Nat) (ys : List Ln), j ≤ N ∧ k = .int .i64 j ∧ i = .int .i64 (hits t (b.ls.take j) : Int) ∧ BuX wr p o { b with ls := tellTo t v j b.ls } cs (.slice a N c) ys ∧ But (fun k => o k ≠ 0) w wr) (fun _ k _ => N - (intOf k).toNat)
  case atStart => exact ⟨0, xs, Nat.zero_le _, rfl, rfl, HX.out, But.rfl⟩
  case round =>
    obtain ⟨j, ys, hj, rfl, rfl, x, bw⟩ := hrel
    obtain ⟨a', c', e, hr, _⟩ := ORow.row x.own
    simp only [Value.slice.injEq] at e
    obtain ⟨rfl, hN, rfl⟩ := e
    rw [← hN] at hr
    clear HX
    by_cases hgo : j < N
    · have i1 : (j : Int) < (N : Int) := by omega
      obtain ⟨bb, off, y, rfl, hb, hy, d0, d1⟩ := lrow_at hr hgo
      have hyl : (tellTo t v j b.ls)[j]? = some (y.t, y.s) := by
        have h : tellTo t v j b.ls = ys.map (fun x => (x.t, x.s)) := x.ls
        rw [h, List.getElem?_map, hy]; rfl
      have hbl := tellTo_at t v hyl
      have hall := HU.out _ (List.mem_of_getElem? hbl)
      have HX := hideIt (And.intro x (And.intro bw (And.intro hy (And.intro hyl (And.intro hbl (And.intro hN hj))))))
      have HP := hideIt (rgPut_any ((x.after (After.rfl.alloc (.cells #[Ptr y.p, .int .i64 y.t] 65))).rings j y hy).1 (by have : y.s.all ≤ 999999 := hall; omega) v)
      have hh : (hits t (b.ls.take j) : Int) ≤ 8 := by
        have h1 := hits_le t (b.ls.take j)
        have h2 := List.length_take_le j b.ls
        have h3 := HN.out
        omega
      clear x bw hr hy hyl hbl hN hj hb hall
      by_cases g : y.t = t
      · have gb : (y.t == t) = true := by simpa using g
        have G := hideIt g
        clear g
        go_wp2_with fail
        refine HP.out.mono ?_
        rintro e w3 ⟨rfl, r3, b3⟩
        have H3 := hideIt (And.intro r3 b3)
        clear r3 b3 HP
        go_wp2_with fail
        go_roundw
        case rel =>
          obtain ⟨x, bw, hy, hyl, hbl, hN, hj⟩ := HX.out
          obtain ⟨r3, b3⟩ := H3.out
          have aU := (After.rfl (w := wr)).alloc (.cells #[Ptr y.p, .int .i64 y.t] 65)
          have l := (x.rings j y hy).2
          refine ⟨j + 1, ys.set j { y with s := y.s.put 16 v }, hgo, by go_num, ?_, ?_, ?_⟩
          · rw [hits_succ hbl, if_pos G.out]; rfl
          · rw [tellTo_succ t v hbl, show tell1 t v (y.t, y.s) = (y.t, y.s.put 16 v) from if_pos G.out]
            exact bu_ring (x.after aU) hy r3 b3
          · exact (bw.trans aU.but).then b3 (fun i _ e => by have : i = y.p := e; rw [this, l]; omega)
        case measure => simp [intOf]; omega
      · have gb : (y.t == t) = false := by simpa using g
        have G := hideIt g
        clear g
        go_wp2_with fail
        go_roundw
        case rel =>
          obtain ⟨x, bw, hy, hyl, hbl, hN, hj⟩ := HX.out
          have aU := (After.rfl (w := wr)).alloc (.cells #[Ptr y.p, .int .i64 y.t] 65)
          refine ⟨j + 1, ys, hgo, by go_num, ?_, ?_, ?_⟩
          · rw [hits_succ hbl, if_neg G.out]; rfl
          · rw [tellTo_succ t v hbl, show tell1 t v (y.t, y.s) = (y.t, y.s) from if_neg G.out, list_set_same hyl]
            exact x.after aU
          · exact bw.trans aU.but
        case measure => simp [intOf]; omega
    · obtain rfl : j = N := by omega
      have i1 : ¬ (j : Int) < (j : Int) := by omega
      have HX := hideIt (And.intro x bw)
      clear x bw hr hgo hN
      go_wp2_with fail
      go_ret2
      obtain ⟨x, bw⟩ := HX.out
      have hl := HN.out
      subst hl
      rw [List.take_length]
      rw [tellTo_all] at x
      exact ⟨rfl, ⟨cs, _, ys, x⟩, Goes.same bw⟩
end Go.Proofs.Ytajjfklglnefkaa
