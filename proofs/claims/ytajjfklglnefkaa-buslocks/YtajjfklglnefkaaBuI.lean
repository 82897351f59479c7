/-
  The document's Tell.
-/
import Derived.Test.YtajjfklglnefkaaBuH
import Derived.Test.YtajjfklglnefkaaBuD
namespace Go.Proofs.Ytajjfklglnefkaa
open Go.RowKit
set_option maxRecDepth 8000
theorem Rf.here {w : World} {S : Nat → Prop} {g n : Nat} {s : Sg} (x : Rf w S g n s) : Rf w (fun k => S k ∧ k < w.heap.size) g n s := by
  obtain ⟨a, c, x⟩ := x
  exact ⟨a, c, { x with
    inS := ⟨x.inS, blk_lt x.at0⟩
    que := ⟨x.que.len, x.que.le, x.que.nil, fun hc => by
      obtain ⟨b, off, cs, h1, h2, h3, h4⟩ := x.que.blk hc
      exact ⟨b, off, cs, h1, ⟨⟨h2.1, blk_lt h3⟩, h2.2⟩, h3, h4⟩⟩ }⟩
/-- The new blocks are those of one ring. -/
def grownL (o : Nat → Nat) (n n' m : Nat) : Nat → Nat := fun k => if k < n then o k else if k < n' then m else 0
/-- A ring has gone on. -/
theorem rb_ring {w w' : World} {g : Nat} {o o' : Nat → Nat} {b : Bz} {cs : Array Value} {vt vr : Value} {ts : List Int} {ps : List Nat} (x : RbX w g o b cs vt vr ts ps) {j q : Nat} {T : Int} {s0 s : Sg} (hq : ps[j]? = some q) (hs : b.ls[j]? = some (T, s0))
    (hb : But (fun k => o k = 4 + j) w w') (he : ∀ k, k < w.heap.size → o' k = o k) (hbn : ∀ k, o' k ≠ 0 → k < w'.heap.size) (r : Rf w' (fun k => o' k = 4 + j) q 16 s) :
    RbX w' g o' { b with ls := b.ls.set j (T, s) } cs vt vr ts ps := by
  have hlt := (List.getElem?_eq_some_iff.1 hs).1
  have h0 : ∀ k, o k ≠ 0 → o' k = o k := fun k hk => he k (x.bnd k hk)
  refine { x with
    at0 := (hb.block g (blk_lt x.at0) (fun e => by rw [x.lp] at e; omega)).trans x.at0
    hts := ?_
    ownT := own_but x.ownT hb (fun k hk e => by have := x.lt k hk; omega)
    ownR := own_but x.ownR hb (fun k hk e => by have := x.lr k hk; omega)
    len := by show ps.length = (b.ls.set j (T, s)).length; rw [List.length_set]; exact x.len
    rings := fun i q' y hq' hy => ?_
    lp := by rw [h0 g (by rw [x.lp]; decide)]; exact x.lp
    lt := fun k hk => by have := x.lt k hk; rw [h0 k (by omega)]; exact this
    lr := fun k hk => by have := x.lr k hk; rw [h0 k (by omega)]; exact this
    bnd := hbn
    ok := ⟨x.ok.n1, x.ok.n2, x.ok.f1, x.ok.f2, x.ok.c1, x.ok.c2, by show (b.ls.set j _).length ≤ 8; rw [List.length_set]; exact x.ok.len, x.ok.lks⟩ }
  · show ts = (b.ls.set j (T, s)).map Prod.fst
    rw [List.map_set, x.hts]
    exact (list_set_same (by rw [List.getElem?_map, hs]; rfl)).symm
  · have hy1 : (b.ls.set j (T, s))[i]? = some y := hy
    clear hy
    by_cases e : j = i
    · subst e
      rw [List.getElem?_set_self hlt] at hy1
      cases hy1
      rw [hq] at hq'
      cases hq'
      exact r
    · rw [List.getElem?_set_ne e] at hy1
      refine ((x.rings i q' y hq' hy1).but hb (fun k hk h => ?_)).mono (fun k hk => ?_)
      · have hk : o k = 4 + i := hk
        have h : o k = 4 + j := h
        omega
      · have hk : o k = 4 + i := hk
        show o' k = 4 + i
        rw [h0 k (by omega)]; exact hk
theorem tellTo_fst (t v : Int) (j : Nat) (l : List (Int × Sg)) : (tellTo t v j l).map Prod.fst = l.map Prod.fst := by
  unfold tellTo
  rw [List.map_append, List.map_map, show Prod.fst ∘ tell1 t v = Prod.fst from funext (fun x => by show (tell1 t v x).1 = x.1; unfold tell1; split <;> rfl), ← List.map_append, List.take_append_drop]
theorem tellTo_still (t v : Int) {j : Nat} {l : List (Int × Sg)} {x : Int × Sg} (h : l[j]? = some x) : (tellTo t v j l)[j]? = some x := by
  unfold tellTo
  have hl : ((l.take j).map (tell1 t v)).length = j := by have := (List.getElem?_eq_some_iff.1 h).1; simp; omega
  rw [List.getElem?_append_right (by omega), hl, List.getElem?_drop, ← h]
  congr 1
  omega
theorem rtell_no {w : World} {g : Nat} {o : Nat → Nat} {b : Bz} (x : Rb w g o b) {t : Int} (h : t < 0 ∨ b.n ≤ t) (v : Int) : Calls Try.prog 20 #[Ptr g, .int .i64 t, .int .i64 v] w fun e w' => e = .returned (.tuple #[.int .i64 0, .int .i64 200]) ∧ w' = w := by
  obtain ⟨cs, vt, vr, ts, ps, x⟩ := x
  have c := blk_cell x.at0 x.c0
  clear x
  by_cases g1 : t < 0
  · clear h
    go_enter Try.func20, Try.ntmps20
    go_wp2
    go_ret2
    exact ⟨rfl, rfl⟩
  · have g2 : b.n ≤ t := by omega
    clear h
    go_enter Try.func20, Try.ntmps20
    go_wp2
    go_ret2
    exact ⟨rfl, rfl⟩
theorem irow_at {w : World} {a : Option Addr} {n : Nat} {xs : List Int} (h : GRow inE w a n xs) {i : Nat} (hi : i < n) : ∃ b off x, a = some ⟨b, off, none⟩ ∧ b < w.heap.size ∧ xs[i]? = some x ∧ w.cell? ⟨b, off + i, none⟩ = some (.int .i64 x) := by
  obtain ⟨b, off, x, e, hb, hx, h1⟩ := h.2 i hi
  have h2 := h1 0 _ rfl
  rw [show inE.k = 1 from rfl, Nat.mul_one, Nat.add_zero] at h2
  exact ⟨b, off, x, e, hb, hx, h2⟩
theorem prow_at {w : World} {a : Option Addr} {n : Nat} {xs : List Nat} (h : GRow ptE w a n xs) {i : Nat} (hi : i < n) : ∃ b off x, a = some ⟨b, off, none⟩ ∧ b < w.heap.size ∧ xs[i]? = some x ∧ w.cell? ⟨b, off + i, none⟩ = some (Ptr x) := by
  obtain ⟨b, off, x, e, hb, hx, h1⟩ := h.2 i hi
  have h2 := h1 0 _ rfl
  rw [show ptE.k = 1 from rfl, Nat.mul_one, Nat.add_zero] at h2
  exact ⟨b, off, x, e, hb, hx, h2⟩
set_option maxHeartbeats 2000000 in
theorem rtell_yes {w : World} {g : Nat} {o : Nat → Nat} {b : Bz} (x : Rb w g o b) {t : Int} (h1 : 0 ≤ t) (h2 : t < b.n) (hu : b.Upto 999999) (v : Int) : Calls Try.prog 20 #[Ptr g, .int .i64 t, .int .i64 v] w fun e w' => e = .returned (.tuple #[.int .i64 (hits t b.ls : Int), .int .i64 0]) ∧ ∃ o', Rb w' g o' (b.tell t v) ∧ Goes w w' o o' := by
  obtain ⟨cs, vt, vr, ts, ps, x⟩ := x
  have hln := x.tlen
  have hpl := x.len
  have hl8 := x.ok.len
  have c0 := blk_cell x.at0 x.c0
  obtain ⟨a, c, e, _⟩ := ORow.row x.ownT
  obtain ⟨a', c', e', _⟩ := ORow.row x.ownR
  obtain ⟨N, hN⟩ : ∃ N : Nat, N = ts.length := ⟨_, rfl⟩
  obtain ⟨M, hM⟩ : ∃ M : Nat, M = ps.length := ⟨_, rfl⟩
  have n8 : (N : Int) ≤ 8 := by omega
  have g1 : ¬ t < 0 := by omega
  have g2 : ¬ b.n ≤ t := by omega
  rw [← hN] at e
  rw [← hM] at e'
  have x0 : RbX w g o { b with ls := tellTo t v 0 b.ls } cs vt vr ts ps := by rw [tellTo_zero]; exact x
  have HN := hideIt (And.intro hN (And.intro hM (And.intro hln (And.intro hpl (And.intro e e')))))
  have HX := hideIt x0
  have HU := hideIt hu
  clear x x0 h1 h2 hl8 hln hpl hu hN hM e e'
  go_enter Try.func20, Try.ntmps20
  go_wp2_with fail
  go_loopw [8, 9] (fun nv iv wr => ∃ (j : Nat) (o1 : Nat → Nat), j ≤ N ∧ iv = .int .i64 j ∧ nv = .int .i64 (hits t (b.ls.take j) : Int) ∧ RbX wr g o1 { b with ls := tellTo t v j b.ls } cs vt vr ts ps ∧ Goes w wr o o1) (fun _ iv _ => N - (intOf iv).toNat)
  case atStart => exact ⟨0, o, Nat.zero_le _, rfl, rfl, HX.out, Goes.rfl⟩
  case round =>
    obtain ⟨j, o1, hj, rfl, rfl, x, go⟩ := hrel
    clear HX
    obtain ⟨hN, hM, hln, hpl, e, e'⟩ := HN.out
    have c2 := blk_cell x.at0 x.c2
    have c3 := blk_cell x.at0 x.c3
    rw [e] at c2
    rw [e'] at c3
    by_cases hgo : j < N
    · have i1 : (j : Int) < (N : Int) := by omega
      have i2 : (j : Int) < (M : Int) := by omega
      obtain ⟨_, _, e1, hr, _⟩ := ORow.row x.ownT
      rw [e] at e1
      simp only [Value.slice.injEq] at e1
      obtain ⟨rfl, h1, rfl⟩ := e1
      rw [← h1] at hr
      obtain ⟨_, _, e1, hr', _⟩ := ORow.row x.ownR
      rw [e'] at e1
      simp only [Value.slice.injEq] at e1
      obtain ⟨rfl, h2, rfl⟩ := e1
      rw [← h2] at hr'
      obtain ⟨bb, off, y, rfl, _, hy, d0⟩ := irow_at hr hgo
      obtain ⟨bb', off', q, rfl, _, hq, d1⟩ := prow_at hr' (show j < M by omega)
      obtain ⟨s, hbl⟩ : ∃ s, b.ls[j]? = some (y, s) := by
        have h3 := x.hts
        rw [show ({ b with ls := tellTo t v j b.ls } : Bz).ls = tellTo t v j b.ls from rfl, tellTo_fst] at h3
        rw [h3, List.getElem?_map] at hy
        obtain ⟨z, hz, rfl⟩ := Option.map_eq_some_iff.1 hy
        exact ⟨z.2, hz⟩
      have hyl := tellTo_still t v hbl
      have hall := HU.out _ (List.mem_of_getElem? hbl)
      have HP := hideIt (rfPut_any (x.rings j q _ hq hyl) (by have : s.all ≤ 999999 := hall; show s.all < 1000000; omega) v)
      have hh : (hits t (b.ls.take j) : Int) ≤ 8 := by
        have h1 := hits_le t (b.ls.take j)
        have h2 := List.length_take_le j b.ls
        omega
      have HX := hideIt (And.intro x (And.intro go (And.intro hq (And.intro hyl (And.intro hbl hj)))))
      clear x go hr hr' hq hyl hbl hj hall hy h1 h2 e e' hN hM hln hpl
      by_cases g3 : y = t
      · have gb : (y == t) = true := by simpa using g3
        have G := hideIt g3
        clear g3
        go_wp2_with fail
        refine HP.out.mono ?_
        rintro e w3 ⟨rfl, r3, b3⟩
        have H3 := hideIt (And.intro r3 b3)
        clear r3 b3 HP
        go_wp2_with fail
        go_roundw
        case rel =>
          obtain ⟨x, go, hq, hyl, hbl, hj⟩ := HX.out
          obtain ⟨r3, b3⟩ := H3.out
          have r4 := r3.here
          have hr5 : Rf w3 (fun k => grownL o1 wr.heap.size w3.heap.size (4 + j) k = 4 + j) q 16 (s.put 16 v) := r4.mono (fun k hk => by
            show grownL o1 wr.heap.size w3.heap.size (4 + j) k = 4 + j
            unfold grownL
            obtain ⟨h1, h2⟩ := hk
            rcases h1 with h1 | h1
            · have h1 : o1 k = 4 + j := h1
              rw [if_pos (x.bnd k (by omega))]; exact h1
            · rw [if_neg (by omega), if_pos h2])
          have he : ∀ k, k < wr.heap.size → grownL o1 wr.heap.size w3.heap.size (4 + j) k = o1 k := fun k hk => if_pos hk
          have hbn : ∀ k, grownL o1 wr.heap.size w3.heap.size (4 + j) k ≠ 0 → k < w3.heap.size := fun k hk => by
            unfold grownL at hk
            by_cases c1 : k < wr.heap.size
            · exact Nat.lt_of_lt_of_le c1 b3.size
            rw [if_neg c1] at hk
            by_cases c2 : k < w3.heap.size
            · exact c2
            · rw [if_neg c2] at hk
              exact absurd rfl hk
          have x5 := rb_ring x hq hyl b3 he hbn hr5
          refine ⟨j + 1, _, hgo, by go_num, ?_, ?_, go.trans ⟨b3.mono (fun k _ h => by have h : o1 k = 4 + j := h; show o1 k ≠ 0; omega), he⟩⟩
          · rw [hits_succ hbl, if_pos G.out]; rfl
          · rw [tellTo_succ t v hbl, show tell1 t v (y, s) = (y, s.put 16 v) from if_pos G.out]
            exact x5
        case measure => simp [intOf]; omega
      · have gb : (y == t) = false := by simpa using g3
        have G := hideIt g3
        clear g3
        go_wp2_with fail
        go_roundw
        case rel =>
          obtain ⟨x, go, hq, hyl, hbl, hj⟩ := HX.out
          refine ⟨j + 1, o1, hgo, by go_num, ?_, ?_, go⟩
          · rw [hits_succ hbl, if_neg G.out]; rfl
          · rw [tellTo_succ t v hbl, show tell1 t v (y, s) = (y, s) from if_neg G.out, list_set_same hyl]
            exact x
        case measure => simp [intOf]; omega
    · obtain rfl : j = N := by omega
      have i1 : ¬ (j : Int) < (j : Int) := by omega
      have HX := hideIt (And.intro x (And.intro go (And.intro hN hln)))
      clear x go hgo hN hM hln hpl e e' hj c3
      go_wp2_with fail
      go_ret2
      obtain ⟨x, go, hN, hln⟩ := HX.out
      obtain rfl : j = b.ls.length := by omega
      rw [List.take_length]
      rw [tellTo_all] at x
      exact ⟨rfl, o1, ⟨cs, vt, vr, ts, ps, x⟩, go⟩
end Go.Proofs.Ytajjfklglnefkaa
