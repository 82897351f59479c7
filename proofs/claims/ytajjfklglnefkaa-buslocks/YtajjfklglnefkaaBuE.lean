/-
  takeAll, Hear.
-/
import Derived.Test.YtajjfklglnefkaaBuD
namespace Go.Proofs.Ytajjfklglnefkaa
open Go.RowKit
set_option maxRecDepth 8000
/-- What was lost ahead of the j-th Take, and what it tells. -/
def lostTo (s : Sg) (j : Nat) : Nat := if j = 0 then 0 else s.since
def leftTo (s : Sg) (j : Nat) : Nat := if j = 0 then s.since else 0
theorem lost_left (s : Sg) (j : Nat) : lostTo s j + leftTo s j = lostTo s (j + 1) := by
  unfold lostTo leftTo
  rw [if_neg (Nat.succ_ne_zero j)]
  split <;> omega
theorem left_succ (s : Sg) (j : Nat) : leftTo s (j + 1) = 0 := if_neg (Nat.succ_ne_zero j)
theorem lost_end (s : Sg) : lostTo s s.l.length = s.gone := by
  unfold lostTo Sg.gone
  rcases s with ⟨l, a, b⟩
  cases l <;> simp
theorem left_end (s : Sg) : (Sg.mk (s.l.drop s.l.length) (leftTo s s.l.length) s.all) = s.bare := by
  unfold leftTo Sg.bare
  rcases s with ⟨l, a, b⟩
  cases l <;> simp
theorem drop_at {l : List Int} {j : Nat} {y : Int} (h : l[j]? = some y) : l.drop j = y :: l.drop (j + 1) := by
  obtain ⟨hj, e⟩ := List.getElem?_eq_some_iff.1 h
  rw [List.drop_eq_getElem_cons hj, e]
theorem take_at {l : List Int} {j : Nat} {y : Int} (h : l[j]? = some y) : l.take (j + 1) = l.take j ++ [y] := by
  obtain ⟨hj, e⟩ := List.getElem?_eq_some_iff.1 h
  rw [List.take_succ_eq_append_getElem hj, e]
theorem Rg.since {w : World} {p n : Nat} {s : Sg} (x : Rg w p n s) : s.since ≤ 1000000 := by
  obtain ⟨cs, f, t, x⟩ := x
  have := x.ht
  have := x.hall
  omega
theorem Rg.len {w : World} {p n : Nat} {s : Sg} (x : Rg w p n s) : s.l.length ≤ n := by
  obtain ⟨cs, f, t, x⟩ := x
  exact x.hl
set_option maxHeartbeats 2000000 in
theorem takeAll_any {w : World} {q : Nat} {s : Sg} (r : Rg w q 16 s) (t : Int) : Calls Try.prog 29 #[.agg #[Ptr q, .int .i64 t]] w fun e w' => ∃ v, e = .returned (.tuple #[v, .int .i64 (s.gone : Int)]) ∧ OInts w' w.heap.size v s.l ∧ Rg w' q 16 s.bare ∧ But (One q) w w' := by
  obtain ⟨U, hU⟩ : ∃ U, U = w.alloc (.cells #[Ptr q, .int .i64 t] 65) := ⟨_, rfl⟩
  have hb := two_new w 65 (Ptr q) (.int .i64 t)
  rw [← hU] at hb
  have aU : After w U := by rw [hU]; exact After.rfl.alloc _
  have hq := r.lt
  have hs := r.since
  have hln := r.len
  have rU := r.but aU (fun t => t)
  obtain ⟨hlt0, k0, _, _, _⟩ := two_at hb
  have HL := hideIt (rgLen_any rU)
  obtain ⟨n, hn⟩ : ∃ n : Nat, n = s.l.length := ⟨_, rfl⟩
  rw [← hn] at HL
  have n16 : (n : Int) ≤ 16 := by omega
  have h0 : OInts U (w.heap.size + 1) (.slice none 0 0) (s.l.take 0) := by rw [List.take_zero]; exact own_nil _ _
  have r0 : Rg U q 16 ⟨s.l.drop 0, leftTo s 0, s.all⟩ := by rw [List.drop_zero]; exact rU
  have HX := hideIt (And.intro r0 (And.intro h0 (And.intro hb (And.intro aU (And.intro hq (And.intro hn hs))))))
  have HU := hideIt hU
  have hUs : U.heap.size = w.heap.size + 1 := by rw [hU]; simp
  have HS := hideIt hUs
  clear r hb aU hq hs hln rU hn h0 r0 hU hUs
  go_enter Try.func29, Try.ntmps29
  go_wp2_with fail
  rw [← HU.out]
  go_wp2_with (go_at_call 43; refine HL.out.mono ?_; rintro e w0 ⟨rfl, hw0⟩; obtain rfl := hw0.symm)
  go_loopw [2, 3, 10] (fun av lv kv wr => ∃ (j : Nat), j ≤ n ∧ kv = .int .i64 j ∧ lv = .int .i64 (lostTo s j : Int) ∧ OInts wr (w.heap.size + 1) av (s.l.take j) ∧ Rg wr q 16 ⟨s.l.drop j, leftTo s j, s.all⟩ ∧ But (One q) U wr) (fun _ _ kv _ => n - (intOf kv).toNat)
  case atStart => exact ⟨0, Nat.zero_le _, rfl, rfl, HX.out.2.1, HX.out.1, But.rfl⟩
  case round =>
    obtain ⟨j, hj, rfl, rfl, hown, r, bw⟩ := hrel
    have hqlt := HX.out.2.2.2.2.1
    by_cases hgo : j < n
    · have i1 : (j : Int) < (n : Int) := by omega
      obtain ⟨y, hy⟩ : ∃ y, s.l[j]? = some y := ⟨_, List.getElem?_eq_getElem (by rw [← HX.out.2.2.2.2.2.1]; exact hgo)⟩
      rw [drop_at hy] at r
      have hbw : wr.heap[w.heap.size]? = some (.cells #[Ptr q, .int .i64 t] 65 (0, 0)) := (bw.block _ (by rw [HS.out]; omega) (fun e => by have : w.heap.size = q := e; omega)).trans HX.out.2.2.1
      obtain ⟨_, k0, _, _, _⟩ := two_at hbw
      have HT := hideIt (rgTake_some r)
      have hsum := lost_left s j
      have hs := HX.out.2.2.2.2.2.2
      have l1 : (lostTo s j : Int) ≤ 1000000 := by unfold lostTo; split <;> omega
      have l2 : (leftTo s j : Int) ≤ 1000000 := by unfold leftTo; split <;> omega
      have HO := hideIt (And.intro hown (And.intro bw (And.intro hy (And.intro hsum r.lt))))
      clear hown bw hy hsum hs r hbw hqlt hj
      generalize hA : leftTo s j = A at *
      generalize hB : lostTo s j = B at *
      have HAB := hideIt (And.intro hA hB)
      clear hA hB
      go_wp2_with fail
      refine HT.out.mono ?_
      rintro e w3 ⟨rfl, r3, b3⟩
      have hown3 := own_but HO.out.1 b3 (fun k hk e => by have := (own_lt HO.out.1 hk).1; have : k = q := e; have := HX.out.2.2.2.2.1; omega)
      have H3 := hideIt (And.intro r3 (And.intro (HO.out.2.1.trans b3) hown3))
      have hl17 : (s.l.take j).length + 1 ≤ 17592186044416 := by have := HX.out.2.2.2.2.2.1; rw [List.length_take]; omega
      have HZ := hideIt hl17
      clear r3 b3 hown3 HT hl17
      go_wp2_with (at_builtin; refine app_ints rfl (.tmp 19) (.tmp 21) rfl (w.heap.size + 1) _ (s.l.take j) rfl (own_after H3.out.2.2 (After.rfl.alloc _)) (some ⟨w3.heap.size, 0, none⟩) 1 1 [y] rfl (lit_irow (heap_alloc_new w3 _) rfl rfl) (fun h => by cases h) HZ.out (by have := H3.out.2.1.size; have := HS.out; have := ((After.rfl (w := w3)).alloc (.cells #[.int .i64 y] 3)).size; omega) ?_)
      intro v4 w4 o4 b4
      rw [← take_at HO.out.2.2.1] at o4
      have hown := HO.out.1
      have b5 : But (fun k => w.heap.size + 1 ≤ k) w3 w4 := (After.rfl.alloc _).but.then b4 (fun k _ hk => (own_lt hown hk).1)
      have H4 := hideIt (And.intro o4 (And.intro (H3.out.1.but b5 (fun e => by have : w.heap.size + 1 ≤ q := e; have := HX.out.2.2.2.2.1; omega)) (H3.out.2.1.then b5 (fun i hi e => by have : w.heap.size + 1 ≤ i := e; have := HS.out; omega))))
      clear o4 b4 b5 hown H3
      have hw2 : IntKind.i64.wrap ((B : Int) + (A : Int)) = (B : Int) + (A : Int) := wrap_small _ (by omega) (by omega)
      go_wp2_with fail
      go_roundw
      case rel =>
        obtain ⟨eA, eB⟩ := HAB.out
        subst eA
        subst eB
        refine ⟨j + 1, hgo, by go_num, ?_, H4.out.1, ?_, H4.out.2.2⟩
        · rw [← HO.out.2.2.2.1]; go_num
        · rw [left_succ]; exact H4.out.2.1
      case measure => simp [intOf]; omega
    · obtain rfl : j = n := by omega
      have i1 : ¬ (j : Int) < (j : Int) := by omega
      have HO := hideIt (And.intro hown (And.intro r bw))
      clear hown r bw hgo hj
      go_wp2_with fail
      go_ret2
      obtain ⟨hown, r, bw⟩ := HO.out
      obtain ⟨_, _, _, aU, _, hn, _⟩ := HX.out
      subst hn
      rw [lost_end]
      rw [left_end] at r
      rw [List.take_length] at hown
      exact ⟨_, rfl, own_base hown (fun k hk => by have := (own_lt hown hk).1; omega), r, aU.but.trans bw⟩
theorem modify_at {α : Type} {l : List α} {i : Nat} {x : α} (f : α → α) (h : l[i]? = some x) : l.modify i f = l.set i (f x) := by
  refine List.ext_getElem? (fun k => ?_)
  rw [List.getElem?_modify, List.getElem?_set]
  split
  · rename_i e
    subst e
    rw [h, if_pos (List.getElem?_eq_some_iff.1 h).1]; rfl
  · cases l[k]? <;> rfl
theorem hear_none {w : World} {u : Value} (h : NoneB w u) (i : Int) : Calls Try.prog 14 #[u, .int .i64 i] w fun e w' => e = .returned (.tuple #[.slice none 0 0, .int .i64 0, .int .i64 1]) ∧ w' = w := by
  unfold NoneB at h
  have H := hideIt h
  clear h
  go_enter Try.func14, Try.ntmps14
  go_wp2_with (go_at_call 28; refine H.out.mono ?_; rintro e w' ⟨rfl, rfl⟩)
  go_ret3
  exact ⟨rfl, rfl⟩
theorem hear_no {w : World} {p : Nat} {o : Nat → Nat} {b : Bz} (x : Bu w p o b) {i : Int} (h : i < 0 ∨ (b.ls.length : Int) ≤ i) : Calls Try.prog 14 #[Ptr p, .int .i64 i] w fun e w' => e = .returned (.tuple #[.slice none 0 0, .int .i64 0, .int .i64 2]) ∧ w' = w := by
  have H := hideIt (buNone_no x)
  obtain ⟨cs, v, xs, x⟩ := x
  rw [x.len] at h
  obtain ⟨a, c, e, _⟩ := ORow.row x.own
  subst e
  have c1 := blk_cell x.at0 x.c1
  clear x
  by_cases g1 : i < 0
  · clear h
    go_enter Try.func14, Try.ntmps14
    go_wp2_with (go_at_call 28; refine H.out.mono ?_; rintro e w' ⟨rfl, rfl⟩)
    go_ret3
    exact ⟨rfl, rfl⟩
  · have g2 : (xs.length : Int) ≤ i := by omega
    clear h
    go_enter Try.func14, Try.ntmps14
    go_wp2_with (go_at_call 28; refine H.out.mono ?_; rintro e w' ⟨rfl, rfl⟩)
    go_ret3
    exact ⟨rfl, rfl⟩
set_option maxHeartbeats 1000000 in
theorem hear_yes {w : World} {p : Nat} {o : Nat → Nat} {b : Bz} (x : Bu w p o b) {i : Nat} {T : Int} {s : Sg} (hi : b.ls[i]? = some (T, s)) : Calls Try.prog 14 #[Ptr p, .int .i64 (i : Int)] w fun e w' => ∃ v, e = .returned (.tuple #[v, .int .i64 (s.gone : Int), .int .i64 0]) ∧ OInts w' w.heap.size v s.l ∧ Bu w' p o (b.hear i) ∧ But (fun k => o k ≠ 0) w w' := by
  have H := hideIt (buNone_no x)
  obtain ⟨cs, v, xs, x⟩ := x
  obtain ⟨a, c, e, hr, _⟩ := ORow.row x.own
  subst e
  have c1 := blk_cell x.at0 x.c1
  have hlt : i < xs.length := by rw [← x.len]; exact (List.getElem?_eq_some_iff.1 hi).1
  obtain ⟨bb, off, y, rfl, hb, hy, d0, d1⟩ := lrow_at hr hlt
  have hys : (y.t, y.s) = (T, s) := by
    rw [x.ls, List.getElem?_map, hy] at hi
    exact Option.some.inj hi
  cases hys
  have r := (x.rings i y hy).1
  have l := (x.rings i y hy).2
  have HT := hideIt (takeAll_any r y.t)
  have HX := hideIt (And.intro x (And.intro hy (And.intro hi l)))
  have i1 : (0 : Int) ≤ (i : Int) := by omega
  have i2 : (i : Int) < (xs.length : Int) := by omega
  have i3 : ¬ (i : Int) < 0 := by omega
  have i4 : ¬ (xs.length : Int) ≤ (i : Int) := by omega
  clear x hr hlt hb hy r l hi
  go_enter Try.func14, Try.ntmps14
  go_wp2_with (go_at_call 28; refine H.out.mono ?_; rintro e w0 ⟨rfl, hw0⟩; obtain rfl := hw0.symm)
  refine HT.out.mono ?_
  rintro e w3 ⟨v, rfl, o3, r3, b3⟩
  have H3 := hideIt (And.intro o3 (And.intro r3 b3))
  clear o3 r3 b3 HT
  go_wp2_with fail
  go_ret3
  obtain ⟨o3, r3, b3⟩ := H3.out
  obtain ⟨x, hy, hi, l⟩ := HX.out
  have x3 := bu_ring x hy r3 b3
  rw [show b.ls.set i (y.t, y.s.bare) = b.ls.modify i hear1 from (modify_at hear1 hi).symm] at x3
  exact ⟨_, rfl, o3, ⟨cs, _, _, x3⟩, b3.mono (fun k _ e => by have : k = y.p := e; rw [this, l]; omega)⟩
end Go.Proofs.Ytajjfklglnefkaa
