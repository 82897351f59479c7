/-
  A reader and a writer beside one another; awake.
-/
import Derived.Test.YtojgkhinddjmaaaWrO
import Derived.Test.YtojgkhinddjmaaaHelp
namespace Go.Proofs.Ytojgkhinddjmaaa
open Go.RowKit
theorem RdAt.hlt {w : World} {g h : Nat} {zs : List Int} (r : RdAt w g h zs) : h < w.heap.size := by
  have hg := r.lt
  obtain ⟨a, n, c, h1, h2, h3, h4, h5⟩ := r
  rcases h5 with ⟨_, _, _, e⟩ | ⟨off, e, hne, hl⟩
  · omega
  · exact hl
/-- A reader at g, a writer at k, apart; made since the world w0. -/
structure Pair (w0 w : World) (g h : Nat) (zs : List Int) (k : Nat) (v : Value) (ys : List Int) : Prop where
  rd : RdAt w g h zs
  wr : WrAt w k v ys
  gk : g ≠ k
  hk : h ≠ k
  own : ∀ j, v.ownBlock = some j → j ≠ g ∧ j ≠ h ∧ w0.heap.size ≤ j
  aft : After w0 w
  g0 : w0.heap.size ≤ g
  h0 : w0.heap.size ≤ h
  k0 : w0.heap.size ≤ k
theorem Pair.after {w0 w w' : World} {g h k : Nat} {zs ys : List Int} {v : Value} (p : Pair w0 w g h zs k v ys) (a : After w w') : Pair w0 w' g h zs k v ys :=
  ⟨p.rd.after a, p.wr.after a, p.gk, p.hk, p.own, p.aft.trans a, p.g0, p.h0, p.k0⟩
theorem Pair.read {w0 w w' : World} {g h k : Nat} {zs ys xs : List Int} {v : Value} (p : Pair w0 w g h zs k v ys) (r : RdAt w' g h xs) (b : But (One g) w w') : Pair w0 w' g h xs k v ys :=
  ⟨r, p.wr.but b (fun e => p.gk (Eq.symm e)) (fun j hj e => (p.own j hj).1 e), p.gk, p.hk, p.own, p.aft.then b (fun i hi t => by have t2 : i = g := t; have := p.g0; omega), p.g0, p.h0, p.k0⟩
theorem Pair.write {w0 w w' : World} {g h k : Nat} {zs ys xs : List Int} {v : Value} (p : Pair w0 w g h zs k v ys) (t : WrTo w w' k v xs) : ∃ v', Pair w0 w' g h zs k v' xs := by
  obtain ⟨v', r, b, gr⟩ := t
  refine ⟨v', p.rd.but b ?_ ?_, r, p.gk, p.hk, fun j hj => ?_, p.aft.then b ?_, p.g0, p.h0, p.k0⟩
  · rintro (e | e)
    · exact p.gk e
    · exact (p.own g e).1 rfl
  · rintro (e | e)
    · exact p.hk e
    · exact (p.own h e).2.1 rfl
  · rcases gr with e | ⟨i, e, hi⟩
    · exact p.own j (by rw [← e]; exact hj)
    · rw [e] at hj; cases hj
      have h1 := p.rd.lt
      have h2 := p.rd.hlt
      have h3 := p.aft.size
      omega
  · intro i hi t
    rcases t with e | e
    · have := p.k0; omega
    · have := (p.own i e).2.2; omega
theorem Pair.new {w0 w w' : World} {g h : Nat} {zs : List Int} (r : RdAt w g h zs) (a0 : After w0 w) (g0 : w0.heap.size ≤ g) (h0 : w0.heap.size ≤ h) (a : After w w') (q : WrAt w' w.heap.size (.slice none 0 0) []) : Pair w0 w' g h zs w.heap.size (.slice none 0 0) [] :=
  ⟨r.after a, q, by have := r.lt; omega, by have := r.hlt; omega, (fun j hj => by cases hj), a0.trans a, g0, h0, a0.size⟩
/-- A list of bytes that is written out. -/
theorem lit_row (w : World) (zs : List Int) (cs : Array Value) (n : Nat) (hc : cs.toList = u8s zs) (hn : zs.length = n) (hb : Bs zs) : Row (w.alloc (.cells cs 5)) (some ⟨w.heap.size, 0, none⟩) n zs := by
  refine ⟨hn, hb, fun i hi => ⟨w.heap.size, 0, rfl, by simp, ?_⟩⟩
  have h := World.news_of_block (heap_alloc_new w (.cells cs 5)) i (.int .u8 (zs.getD i 0)) (by rw [hc]; simp [u8s, show i < zs.length by omega])
  have e : (⟨w.heap.size, 0, none⟩ : Addr).add i = ⟨w.heap.size, 0 + i, none⟩ := by
    by_cases h0 : i = 0
    · subst h0; simp [Addr.add]
    · simp [Addr.add, h0]
  rw [e] at h; exact h
theorem bs_of (zs : List Int) (h : zs.all (fun z => decide (0 ≤ z) && decide (z ≤ 255)) = true) : Bs zs := fun z hz => by
  have := List.all_eq_true.1 h z hz
  simp at this
  exact this
set_option maxRecDepth 100000 in
set_option maxHeartbeats 1000000 in
theorem awake_any (w : World) : Calls Try.prog 23 #[] w fun e w' => e = .returned (.bool true) ∧ After w w' := by
  go_enter Try.func23, Try.ntmps23
  go_wp2_with fail
  refine (new_any _ 8 8 [1, 2, 3, 4, 5, 6, 7, 8] _ (lit_row w _ _ 8 rfl rfl (bs_of _ (by decide))) (fun e => by cases e) (by decide)).mono ?_
  rintro e w1 ⟨g, h, rfl, r1, l1, l2, a1⟩
  have R1 := hideIt r1
  have L1 := hideIt (show w.heap.size ≤ g ∧ w.heap.size ≤ h by simp at l1 l2; omega)
  have A1 := hideIt ((After.rfl.alloc _).trans a1)
  clear r1 l1 l2 a1
  go_wp2_with fail
  refine (write_any _).mono ?_
  rintro e w2 ⟨rfl, q2, a2⟩
  have P2 := hideIt (Pair.new R1.out A1.out L1.out.1 L1.out.2 a2 q2)
  obtain ⟨k, hk⟩ : ∃ k, w1.heap.size = k := ⟨_, rfl⟩
  rw [hk] at P2 ⊢
  clear q2 a2 R1 A1 hk L1
  go_wp2_with fail
  refine (u8_any _ _ _ _ P2.out.rd).mono ?_
  rintro e w3 ⟨rfl, r3, b3⟩
  have P3 := hideIt (P2.out.read r3 b3)
  rw [show rdVal 1 [1, 2, 3, 4, 5, 6, 7, 8] = 1 from by decide, show rdErr 1 [1, 2, 3, 4, 5, 6, 7, 8] = 0 from by decide]
  rw [show rdRest 1 [1, 2, 3, 4, 5, 6, 7, 8] = [2, 3, 4, 5, 6, 7, 8] from by decide] at P3
  clear r3 b3 P2
  go_wp2_with fail
  refine (u16_any _ _ _ _ P3.out.rd).mono ?_
  rintro e w4 ⟨rfl, r4, b4⟩
  have P4 := hideIt (P3.out.read r4 b4)
  rw [show rdVal 2 [2, 3, 4, 5, 6, 7, 8] = 515 from by decide, show rdErr 2 [2, 3, 4, 5, 6, 7, 8] = 0 from by decide]
  rw [show rdRest 2 [2, 3, 4, 5, 6, 7, 8] = [4, 5, 6, 7, 8] from by decide] at P4
  clear r4 b4 P3
  go_wp2_with fail
  refine (u32_any _ _ _ _ P4.out.rd).mono ?_
  rintro e w5 ⟨rfl, r5, b5⟩
  have P5 := hideIt (P4.out.read r5 b5)
  rw [show rdVal 4 [4, 5, 6, 7, 8] = 67438087 from by decide, show rdErr 4 [4, 5, 6, 7, 8] = 0 from by decide]
  rw [show rdRest 4 [4, 5, 6, 7, 8] = [8] from by decide] at P5
  clear r5 b5 P4
  go_wp2_with fail
  refine (u16_any _ _ _ _ P5.out.rd).mono ?_
  rintro e w6 ⟨rfl, r6, b6⟩
  have P6 := hideIt (P5.out.read r6 b6)
  rw [show rdVal 2 [8] = 0 from by decide, show rdErr 2 [8] = 3 from by decide]
  rw [show rdRest 2 [8] = [8] from by decide] at P6
  clear r6 b6 P5
  go_wp2_with fail
  refine (wU8_any _ _ _ _ 255 P6.out.wr (by decide)).mono ?_
  rintro e w7 ⟨rfl, t7⟩
  obtain ⟨v7, p7⟩ := P6.out.write t7
  rw [show wnErr 255 255 = 0 from by decide]
  rw [show ([] : List Int) ++ wnNew 1 255 255 = [255] from by decide] at p7
  have P7 := hideIt p7
  clear p7 t7 P6
  go_wp2_with fail
  refine (wU8_any _ _ _ _ 256 P7.out.wr (by decide)).mono ?_
  rintro e w8 ⟨rfl, t8⟩
  obtain ⟨v8, p8⟩ := P7.out.write t8
  rw [show wnErr 255 256 = 2 from by decide]
  rw [show [255] ++ wnNew 1 255 256 = [255] from by decide] at p8
  have P8 := hideIt p8
  clear p8 t8 P7
  go_wp2_with fail
  refine (wOctets_any _ _ _ _ _ 1 1 [7] (P8.out.after (After.rfl.alloc _)).wr (lit_row w8 _ _ 1 rfl rfl (bs_of _ (by decide))) (fun e => by cases e) (fun y hy _ t => ?_) (by decide) (by decide)).mono ?_
  · cases hy
    rcases t with t | t
    · have t2 : w8.heap.size = k := t
      have := (two_at P8.out.wr.1).1
      omega
    · have t2 : w8.heap.size < w8.heap.size := (P8.out.wr.2.1.lt _ t).2
      omega
  rintro e w9 ⟨rfl, t9⟩
  obtain ⟨v9, p9⟩ := (P8.out.after (After.rfl.alloc _)).write t9
  rw [show woErr [7] = 0 from by decide]
  rw [show [255] ++ woNew [7] = [255, 0, 1, 7] from by decide] at p9
  have P9 := hideIt p9
  clear p9 t9 P8
  go_wp2_with fail
  refine (left_any _ _ _ _ P9.out.rd).mono ?_
  rintro e wa ⟨rfl, rfl⟩
  rw [show (([8] : List Int).length : Int) = 1 from rfl]
  go_wp2_with fail
  refine (wBytes_any _ _ _ _ P9.out.wr (by decide)).mono ?_
  rintro e wb ⟨x, rfl, ob, ab⟩
  obtain ⟨a, c, rfl, rb, _⟩ := own_row ob (bs_of _ (by decide))
  rw [show ([255, 0, 1, 7] : List Int).length = 4 from rfl] at rb ⊢
  have RB := hideIt rb
  have AB := hideIt (P9.out.aft.trans ab)
  clear rb ab ob P9
  go_wp2_with fail
  refine (eqBytes_same _ _ 4 _ _ [255, 0, 1, 7] _ (RB.out.after (After.rfl.alloc _)) (lit_row wb _ _ 4 rfl rfl (bs_of _ (by decide))) (by decide)).mono ?_
  rintro e wc ⟨rfl, ac⟩
  have AC := hideIt ((AB.out.alloc _).trans ac)
  clear ac
  go_wp2
  go_ret
  exact ⟨rfl, AC.out⟩
end Go.Proofs.Ytojgkhinddjmaaa
