/-
  AlarmKnown.
-/
import Derived.Test.YthggkpmhcdmalaaAlH
import Derived.Deep.RegionHeld3
namespace Go.Proofs.Ythggkpmhcdmalaa
open Go.RowKit
set_option maxRecDepth 8000
abbrev kSpecs : Array Value := #[.int .i64 0, .bool false, .int .i64 0, .int .i64 4, .bool false, .int .i64 0, .int .i64 (-1), .bool false, .int .i64 0, .int .i64 1, .bool false, .int .i64 (-1), .int .i64 3, .bool false, .int .i64 10001, .int .i64 3, .bool false, .int .i64 10000, .int .i64 1, .bool false, .int .i64 0]
abbrev kGood : Array Value := #[.int .i64 0, .int .i64 0, .int .i64 0, .int .i64 0, .int .i64 0, .int .i64 0, .int .i64 0, .int .i64 6000, .int .i64 1, .int .i64 2, .int .i64 4, .int .i64 0, .int .i64 1, .int .i64 3, .int .i64 0, .int .i64 0, .int .i64 2, .int .i64 3, .int .i64 0, .int .i64 0, .int .i64 3, .int .i64 2, .int .i64 0, .int .i64 1]
abbrev kBad : Array Value := #[.int .i64 0, .int .i64 1, .int .i64 0, .int .i64 0, .int .i64 0, .int .i64 0, .int .i64 1, .int .i64 0, .int .i64 0, .int .i64 0, .int .i64 0, .int .i64 (-1), .int .i64 0, .int .i64 0, .int .i64 0, .int .i64 6001, .int .i64 1, .int .i64 1, .int .i64 0, .int .i64 0, .int .i64 1, .int .i64 4, .int .i64 0, .int .i64 0, .int .i64 1, .int .i64 2, .int .i64 5, .int .i64 0, .int .i64 1, .int .i64 2, .int .i64 (-1), .int .i64 0, .int .i64 1, .int .i64 3, .int .i64 1, .int .i64 0, .int .i64 2, .int .i64 2, .int .i64 1, .int .i64 0, .int .i64 4, .int .i64 2, .int .i64 0, .int .i64 0, .int .i64 (-1), .int .i64 0, .int .i64 0, .int .i64 0]
theorem k_specs {w V : World} {g : Nat} (h : w.heap[g]? = some (.cells kSpecs 23 (0, 0))) (a : After w V) {j : Nat} (hj : j < 7) : ∃ s : Sp, V.cell? ⟨g, j * 3, none⟩ = some (.int .i64 s.pr) ∧ V.cell? ⟨g, j * 3 + 1, none⟩ = some (.bool s.la) ∧ V.cell? ⟨g, j * 3 + 2, none⟩ = some (.int .i64 s.es) ∧ ((j < 5 ∧ ¬ s.May) ∨ (¬ j < 5 ∧ s.May)) := by
  have h' := (a.block g (blk_lt h) (fun t => t)).trans h
  rcases (by omega : j = 0 ∨ j = 1 ∨ j = 2 ∨ j = 3 ∨ j = 4 ∨ j = 5 ∨ j = 6) with rfl | rfl | rfl | rfl | rfl | rfl | rfl
  · exact ⟨⟨0, false, 0⟩, blk_cell h' rfl, blk_cell h' rfl, blk_cell h' rfl, .inl ⟨by decide, by decide⟩⟩
  · exact ⟨⟨4, false, 0⟩, blk_cell h' rfl, blk_cell h' rfl, blk_cell h' rfl, .inl ⟨by decide, by decide⟩⟩
  · exact ⟨⟨(-1), false, 0⟩, blk_cell h' rfl, blk_cell h' rfl, blk_cell h' rfl, .inl ⟨by decide, by decide⟩⟩
  · exact ⟨⟨1, false, (-1)⟩, blk_cell h' rfl, blk_cell h' rfl, blk_cell h' rfl, .inl ⟨by decide, by decide⟩⟩
  · exact ⟨⟨3, false, 10001⟩, blk_cell h' rfl, blk_cell h' rfl, blk_cell h' rfl, .inl ⟨by decide, by decide⟩⟩
  · exact ⟨⟨3, false, 10000⟩, blk_cell h' rfl, blk_cell h' rfl, blk_cell h' rfl, .inr ⟨by decide, by decide⟩⟩
  · exact ⟨⟨1, false, 0⟩, blk_cell h' rfl, blk_cell h' rfl, blk_cell h' rfl, .inr ⟨by decide, by decide⟩⟩
theorem k_good {w V : World} {g : Nat} (h : w.heap[g]? = some (.cells kGood 25 (0, 0))) (a : After w V) {j : Nat} (hj : j < 6) : ∃ x : As, V.cell? ⟨g, j * 4, none⟩ = some (.int .i64 x.ph) ∧ V.cell? ⟨g, j * 4 + 1, none⟩ = some (.int .i64 x.pr) ∧ V.cell? ⟨g, j * 4 + 2, none⟩ = some (.int .i64 x.si) ∧ V.cell? ⟨g, j * 4 + 3, none⟩ = some (.int .i64 x.pa) ∧ Sp.Stands ⟨2, true, 5⟩ x := by
  have h' := (a.block g (blk_lt h) (fun t => t)).trans h
  rcases (by omega : j = 0 ∨ j = 1 ∨ j = 2 ∨ j = 3 ∨ j = 4 ∨ j = 5) with rfl | rfl | rfl | rfl | rfl | rfl
  · exact ⟨⟨0, 0, 0, 0⟩, blk_cell h' rfl, blk_cell h' rfl, blk_cell h' rfl, blk_cell h' rfl, by decide⟩
  · exact ⟨⟨0, 0, 0, 6000⟩, blk_cell h' rfl, blk_cell h' rfl, blk_cell h' rfl, blk_cell h' rfl, by decide⟩
  · exact ⟨⟨1, 2, 4, 0⟩, blk_cell h' rfl, blk_cell h' rfl, blk_cell h' rfl, blk_cell h' rfl, by decide⟩
  · exact ⟨⟨1, 3, 0, 0⟩, blk_cell h' rfl, blk_cell h' rfl, blk_cell h' rfl, blk_cell h' rfl, by decide⟩
  · exact ⟨⟨2, 3, 0, 0⟩, blk_cell h' rfl, blk_cell h' rfl, blk_cell h' rfl, blk_cell h' rfl, by decide⟩
  · exact ⟨⟨3, 2, 0, 1⟩, blk_cell h' rfl, blk_cell h' rfl, blk_cell h' rfl, blk_cell h' rfl, by decide⟩
theorem k_bad {w V : World} {g : Nat} (h : w.heap[g]? = some (.cells kBad 25 (0, 0))) (a : After w V) {j : Nat} (hj : j < 12) : ∃ x : As, V.cell? ⟨g, j * 4, none⟩ = some (.int .i64 x.ph) ∧ V.cell? ⟨g, j * 4 + 1, none⟩ = some (.int .i64 x.pr) ∧ V.cell? ⟨g, j * 4 + 2, none⟩ = some (.int .i64 x.si) ∧ V.cell? ⟨g, j * 4 + 3, none⟩ = some (.int .i64 x.pa) ∧ ¬ Sp.Stands ⟨2, true, 5⟩ x := by
  have h' := (a.block g (blk_lt h) (fun t => t)).trans h
  rcases (by omega : j = 0 ∨ j = 1 ∨ j = 2 ∨ j = 3 ∨ j = 4 ∨ j = 5 ∨ j = 6 ∨ j = 7 ∨ j = 8 ∨ j = 9 ∨ j = 10 ∨ j = 11) with rfl | rfl | rfl | rfl | rfl | rfl | rfl | rfl | rfl | rfl | rfl | rfl
  · exact ⟨⟨0, 1, 0, 0⟩, blk_cell h' rfl, blk_cell h' rfl, blk_cell h' rfl, blk_cell h' rfl, by decide⟩
  · exact ⟨⟨0, 0, 1, 0⟩, blk_cell h' rfl, blk_cell h' rfl, blk_cell h' rfl, blk_cell h' rfl, by decide⟩
  · exact ⟨⟨0, 0, 0, (-1)⟩, blk_cell h' rfl, blk_cell h' rfl, blk_cell h' rfl, blk_cell h' rfl, by decide⟩
  · exact ⟨⟨0, 0, 0, 6001⟩, blk_cell h' rfl, blk_cell h' rfl, blk_cell h' rfl, blk_cell h' rfl, by decide⟩
  · exact ⟨⟨1, 1, 0, 0⟩, blk_cell h' rfl, blk_cell h' rfl, blk_cell h' rfl, blk_cell h' rfl, by decide⟩
  · exact ⟨⟨1, 4, 0, 0⟩, blk_cell h' rfl, blk_cell h' rfl, blk_cell h' rfl, blk_cell h' rfl, by decide⟩
  · exact ⟨⟨1, 2, 5, 0⟩, blk_cell h' rfl, blk_cell h' rfl, blk_cell h' rfl, blk_cell h' rfl, by decide⟩
  · exact ⟨⟨1, 2, (-1), 0⟩, blk_cell h' rfl, blk_cell h' rfl, blk_cell h' rfl, blk_cell h' rfl, by decide⟩
  · exact ⟨⟨1, 3, 1, 0⟩, blk_cell h' rfl, blk_cell h' rfl, blk_cell h' rfl, blk_cell h' rfl, by decide⟩
  · exact ⟨⟨2, 2, 1, 0⟩, blk_cell h' rfl, blk_cell h' rfl, blk_cell h' rfl, blk_cell h' rfl, by decide⟩
  · exact ⟨⟨4, 2, 0, 0⟩, blk_cell h' rfl, blk_cell h' rfl, blk_cell h' rfl, blk_cell h' rfl, by decide⟩
  · exact ⟨⟨(-1), 0, 0, 0⟩, blk_cell h' rfl, blk_cell h' rfl, blk_cell h' rfl, blk_cell h' rfl, by decide⟩
theorem new_none (w : World) (s : Sp) (hs : ¬ s.May) : Calls Try.prog 11 #[.agg #[.int .i64 s.pr, .bool s.la, .int .i64 s.es]] w fun e w' => e = .returned (.tuple #[.pointer none, .int .i64 2]) ∧ After w w' := new_no w s hs
/-- What the tail meets: a spec's box, good and bad states. -/
structure KW (w : World) (g : Nat) (W : World) : Prop where
  sp : W.heap[g]? = some (.cells #[.int .i64 2, .bool true, .int .i64 5] 23 (0, 0))
  gd : W.heap[g + 1]? = some (.cells kGood 25 (0, 0))
  bd : W.heap[g + 1 + 1]? = some (.cells kBad 25 (0, 0))
  aft : After w W
theorem KW.after {w W W' : World} {g : Nat} (h : KW w g W) (a : After W W') : KW w g W' :=
  ⟨(a.block _ (blk_lt h.sp) (fun t => t)).trans h.sp, (a.block _ (blk_lt h.gd) (fun t => t)).trans h.gd, (a.block _ (blk_lt h.bd) (fun t => t)).trans h.bd, h.aft.trans a⟩
theorem kw_new (w V W : World) (a : After w V) (h : W = ((V.alloc (.cells #[.int .i64 2, .bool true, .int .i64 5] 23)).alloc (.cells kGood 25)).alloc (.cells kBad 25)) : KW w V.heap.size W := by
  subst h
  have e1 : (V.alloc (.cells #[.int .i64 2, .bool true, .int .i64 5] 23)).heap.size = V.heap.size + 1 := by simp
  have e2 : ((V.alloc (.cells #[.int .i64 2, .bool true, .int .i64 5] 23)).alloc (.cells kGood 25)).heap.size = V.heap.size + 1 + 1 := by simp
  have h0 := heap_alloc_new V (.cells #[.int .i64 2, .bool true, .int .i64 5] 23)
  have h1 := heap_alloc_new (V.alloc (.cells #[.int .i64 2, .bool true, .int .i64 5] 23)) (.cells kGood 25)
  have h2 := heap_alloc_new ((V.alloc (.cells #[.int .i64 2, .bool true, .int .i64 5] 23)).alloc (.cells kGood 25)) (.cells kBad 25)
  rw [e1] at h1
  rw [e2] at h2
  exact ⟨(((After.rfl.alloc _).alloc _ : After _ _).block _ (blk_lt h0) (fun t => t)).trans h0, ((After.rfl.alloc _ : After _ _).block _ (blk_lt h1) (fun t => t)).trans h1, h2, ((a.alloc _).alloc _).alloc _⟩
theorem KW.spec {w W : World} {g : Nat} (h : KW w g W) : W.cell? ⟨g, 0, none⟩ = some (.int .i64 2) ∧ W.cell? ⟨g, 1, none⟩ = some (.bool true) ∧ W.cell? ⟨g, 2, none⟩ = some (.int .i64 5) :=
  ⟨blk_cell h.sp rfl, blk_cell h.sp rfl, blk_cell h.sp rfl⟩
set_option maxHeartbeats 8000000 in
theorem law_known18 (w : World) : Calls Try.prog 8 #[] w fun e w' => e = .returned (.bool true) ∧ After w w' := by
  obtain ⟨w1, hw1⟩ : ∃ w1, w1 = w.alloc (.cells kSpecs 23) := ⟨_, rfl⟩
  have h1 : w1.heap[w.heap.size]? = some (.cells kSpecs 23 (0, 0)) := by rw [hw1]; exact heap_alloc_new w _
  have H1 := hideIt h1
  have A1 := hideIt (show After w w1 by rw [hw1]; exact After.rfl.alloc _)
  clear h1
  go_enter Try.func8, Try.ntmps8
  go_upto_region 2 with fail
  rw [← hw1]
  clear hw1
  go_wp2_with fail
  go_loopw [2] (fun i wr => ∃ (j : Nat), i = .int .i64 j ∧ j ≤ 7 ∧ After w1 wr) (fun i _ => 7 - (intOf i).toNat)
  case atStart => exact ⟨0, rfl, by omega, After.rfl⟩
  case round =>
    obtain ⟨j, rfl, hj, af⟩ := hrel
    have AF := hideIt af
    clear af
    by_cases hj7 : j < 7
    · have i1 : (j : Int) < 7 := by omega
      obtain ⟨s, c0, c1, c2, H⟩ := k_specs H1.out AF.out hj7
      rcases H with ⟨h5, hm⟩ | ⟨h5, hm⟩
      · have HN := hideIt (new_no wr s hm)
        have i2 : ¬ (4 : Int) < (j : Int) := by omega
        have i3 : (j : Int) < 5 := by omega
        clear hm h5
        go_wp2_with fail
        refine HN.out.mono ?_
        rintro e w2 ⟨rfl, a2⟩
        have A2 := hideIt (AF.out.trans a2)
        clear a2 HN c0 c1 c2
        go_wp2
        go_roundw
        case rel => exact ⟨j + 1, by go_num, by omega, A2.out⟩
        case measure => simp [intOf]; omega
      · have HN := hideIt (new_ok wr s hm)
        have i2 : (4 : Int) < (j : Int) := by omega
        have i3 : ¬ (j : Int) < 5 := by omega
        clear hm h5
        go_wp2_with fail
        refine HN.out.mono ?_
        rintro e w2 ⟨p, rfl, -, -, a2⟩
        have A2 := hideIt (AF.out.trans a2)
        clear a2 HN c0 c1 c2
        go_wp2
        go_roundw
        case rel => exact ⟨j + 1, by go_num, by omega, A2.out⟩
        case measure => simp [intOf]; omega
    · have i1 : ¬ (j : Int) < 7 := by omega
      obtain ⟨W, hW⟩ : ∃ W, W = ((wr.alloc (.cells #[.int .i64 2, .bool true, .int .i64 5] 23)).alloc (.cells kGood 25)).alloc (.cells kBad 25) := ⟨_, rfl⟩
      have K := hideIt (kw_new w wr W (A1.out.trans AF.out) hW)
      go_upto_region 11 with fail
      rw [← hW]
      clear hW i1
      generalize wr.heap.size = g at *
      go_wp2_with fail
      go_loopw [8] (fun i V => ∃ (k : Nat), i = .int .i64 k ∧ k ≤ 6 ∧ KW w g V) (fun i _ => 6 - (intOf i).toNat)
      case atStart => exact ⟨0, rfl, by omega, K.out⟩
      case round =>
        obtain ⟨k, rfl, hk, kw⟩ := hrel
        have KK := hideIt kw
        clear kw K
        by_cases hk6 : k < 6
        · have i1 : (k : Int) < 6 := by omega
          obtain ⟨x, d0, d1, d2, d3, hx⟩ := k_good KK.out.gd After.rfl hk6
          obtain ⟨c0, c1, c2⟩ := KK.out.spec
          have HG := hideIt (fun V => again_ok V ⟨2, true, 5⟩ x (by decide) hx)
          unfold Sp.v As.v at HG
          dsimp only at HG
          have HKC := hideIt (fun V (a : After wr V) => (show (V.cell? ⟨g, 0, none⟩ = some (.int .i64 2) ∧ V.cell? ⟨g, 1, none⟩ = some (.bool true) ∧ V.cell? ⟨g, 2, none⟩ = some (.int .i64 5)) ∧ V.cell? ⟨g + 1, k * 4, none⟩ = some (.int .i64 x.ph) ∧ V.cell? ⟨g + 1, k * 4 + 1, none⟩ = some (.int .i64 x.pr) ∧ V.cell? ⟨g + 1, k * 4 + 2, none⟩ = some (.int .i64 x.si) ∧ V.cell? ⟨g + 1, k * 4 + 3, none⟩ = some (.int .i64 x.pa) from ⟨(KK.out.after a).spec, (a.cell (blk_lt KK.out.gd) _).trans d0, (a.cell (blk_lt KK.out.gd) _).trans d1, (a.cell (blk_lt KK.out.gd) _).trans d2, (a.cell (blk_lt KK.out.gd) _).trans d3⟩))
          clear hx
          go_wp2_with fail
          go_region_held3 (fun U => U.cell? ⟨g, 0, none⟩ = some (.int .i64 2) ∧ U.cell? ⟨g, 1, none⟩ = some (.bool true) ∧ U.cell? ⟨g, 2, none⟩ = some (.int .i64 5) ∧ U.cell? ⟨g + 1, k * 4, none⟩ = some (.int .i64 x.ph) ∧ U.cell? ⟨g + 1, k * 4 + 1, none⟩ = some (.int .i64 x.pr) ∧ U.cell? ⟨g + 1, k * 4 + 2, none⟩ = some (.int .i64 x.si) ∧ U.cell? ⟨g + 1, k * 4 + 3, none⟩ = some (.int .i64 x.pa)) (first | go_keep | exact ⟨y0, y1, y2, y3, y4, y5, y6⟩)
            (first
              | (go_at_call 9; refine (HG.out _).mono ?_; rintro e w5 ⟨p, rfl, x5, h5, a5⟩; have A5 := hideIt ((After.rfl.draws 1).trans a5); have X5 := hideIt x5; obtain ⟨⟨y0, y1, y2⟩, y3, y4, y5, y6⟩ := HKC.out _ A5.out; clear a5 x5 h5))
          clear y0 y1 y2 y3 y4 y5 y6 c0 c1 c2 d0 d1 d2 d3 HG
          obtain ⟨⟨c0, c1, c2⟩, d0, d1, d2, d3⟩ := HKC.out _ A5.out
          have HT := hideIt (fun V (a : After w5 V) => state_any (X5.out.after a))
          unfold As.v at HT
          have r1 : (x.ph == x.ph) = true := by simp
          have r2 : (x.pr == x.pr) = true := by simp
          have r3 : (x.si == x.si) = true := by simp
          have r4 : (x.pa == x.pa) = true := by simp
          go_wp2_with fail
          go_region_held3 (fun U => U.cell? ⟨g, 0, none⟩ = some (.int .i64 2) ∧ U.cell? ⟨g, 1, none⟩ = some (.bool true) ∧ U.cell? ⟨g, 2, none⟩ = some (.int .i64 5) ∧ U.cell? ⟨g + 1, k * 4, none⟩ = some (.int .i64 x.ph) ∧ U.cell? ⟨g + 1, k * 4 + 1, none⟩ = some (.int .i64 x.pr) ∧ U.cell? ⟨g + 1, k * 4 + 2, none⟩ = some (.int .i64 x.si) ∧ U.cell? ⟨g + 1, k * 4 + 3, none⟩ = some (.int .i64 x.pa)) (first | go_keep | exact ⟨y0, y1, y2, y3, y4, y5, y6⟩)
            (first
              | (go_at_call 17; refine (HT.out _ (After.rfl.draws 1)).mono ?_; rintro e w6 ⟨rfl, a6⟩; have A6 := hideIt ((After.rfl.draws 1).trans a6); obtain ⟨⟨y0, y1, y2⟩, y3, y4, y5, y6⟩ := HKC.out _ (A5.out.trans A6.out); clear a6))
          clear y0 y1 y2 y3 y4 y5 y6 c0 c1 c2 d0 d1 d2 d3 HT
          go_wp2
          go_roundw
          case rel => exact ⟨k + 1, by go_num, by omega, KK.out.after (A5.out.trans A6.out)⟩
          case measure => simp [intOf]; omega
        · have i1 : ¬ (k : Int) < 6 := by omega
          go_wp2_with fail
          clear i1
          go_loopw [11] (fun i V => ∃ (m : Nat), i = .int .i64 m ∧ m ≤ 12 ∧ KW w g V) (fun i _ => 12 - (intOf i).toNat)
          case atStart => exact ⟨0, rfl, by omega, KK.out⟩
          case round =>
            obtain ⟨m, rfl, hm, kw⟩ := hrel
            have K3 := hideIt kw
            clear kw KK
            by_cases hm12 : m < 12
            · have i1 : (m : Int) < 12 := by omega
              obtain ⟨x, d0, d1, d2, d3, hx⟩ := k_bad K3.out.bd After.rfl hm12
              obtain ⟨c0, c1, c2⟩ := K3.out.spec
              have HG := hideIt (fun V => again_no V ⟨2, true, 5⟩ x (fun h => hx h.2))
              unfold Sp.v As.v at HG
              dsimp only at HG
              have HKC := hideIt (fun V (a : After wr V) => (show (V.cell? ⟨g, 0, none⟩ = some (.int .i64 2) ∧ V.cell? ⟨g, 1, none⟩ = some (.bool true) ∧ V.cell? ⟨g, 2, none⟩ = some (.int .i64 5)) ∧ V.cell? ⟨g + 1 + 1, m * 4, none⟩ = some (.int .i64 x.ph) ∧ V.cell? ⟨g + 1 + 1, m * 4 + 1, none⟩ = some (.int .i64 x.pr) ∧ V.cell? ⟨g + 1 + 1, m * 4 + 2, none⟩ = some (.int .i64 x.si) ∧ V.cell? ⟨g + 1 + 1, m * 4 + 3, none⟩ = some (.int .i64 x.pa) from ⟨(K3.out.after a).spec, (a.cell (blk_lt K3.out.bd) _).trans d0, (a.cell (blk_lt K3.out.bd) _).trans d1, (a.cell (blk_lt K3.out.bd) _).trans d2, (a.cell (blk_lt K3.out.bd) _).trans d3⟩))
              clear hx
              go_wp2_with fail
              go_region_held3 (fun U => U.cell? ⟨g, 0, none⟩ = some (.int .i64 2) ∧ U.cell? ⟨g, 1, none⟩ = some (.bool true) ∧ U.cell? ⟨g, 2, none⟩ = some (.int .i64 5) ∧ U.cell? ⟨g + 1 + 1, m * 4, none⟩ = some (.int .i64 x.ph) ∧ U.cell? ⟨g + 1 + 1, m * 4 + 1, none⟩ = some (.int .i64 x.pr) ∧ U.cell? ⟨g + 1 + 1, m * 4 + 2, none⟩ = some (.int .i64 x.si) ∧ U.cell? ⟨g + 1 + 1, m * 4 + 3, none⟩ = some (.int .i64 x.pa)) (first | go_keep | exact ⟨y0, y1, y2, y3, y4, y5, y6⟩)
                (first
                  | (go_at_call 9; refine (HG.out _).mono ?_; rintro e w5 ⟨rfl, a5⟩; have A5 := hideIt ((After.rfl.draws 1).trans a5); obtain ⟨⟨y0, y1, y2⟩, y3, y4, y5, y6⟩ := HKC.out _ A5.out; clear a5))
              clear y0 y1 y2 y3 y4 y5 y6 c0 c1 c2 d0 d1 d2 d3 HG
              go_wp2
              go_roundw
              case rel => exact ⟨m + 1, by go_num, by omega, K3.out.after A5.out⟩
              case measure => simp [intOf]; omega
            · have i1 : ¬ (m : Int) < 12 := by omega
              have AK := hideIt K3.out.aft
              clear K3
              have HT := hideIt (again_no wr ⟨2, false, 0⟩ ⟨3, 2, 0, 0⟩ (by decide))
              try dsimp only [Sp.v, As.v, As.zero] at HT
              go_wp2_with fail
              refine HT.out.mono ?_
              rintro e t1 ⟨rfl, a⟩
              have AK := hideIt (AK.out.trans a)
              clear a HT
              have HT := hideIt (again_no t1 ⟨2, false, 0⟩ ⟨1, 3, 0, 0⟩ (by decide))
              try dsimp only [Sp.v, As.v, As.zero] at HT
              go_wp2_with fail
              refine HT.out.mono ?_
              rintro e t2 ⟨rfl, a⟩
              have AK := hideIt (AK.out.trans a)
              clear a HT
              obtain ⟨u0, hu0⟩ : ∃ u0, u0 = t2.alloc (.cells #[.int .i64 0, .bool false, .int .i64 0, .int .i64 0, .int .i64 0, .int .i64 0, .int .i64 0] 57) := ⟨_, rfl⟩
              have hz : u0.heap[t2.heap.size]? = some (.cells (alC ⟨0, false, 0⟩ As.zero) 57 (0, 0)) := by rw [hu0]; exact heap_alloc_new t2 _
              have ZN := hideIt (none_zero hz (by decide))
              have AU := hideIt (show After t2 u0 by rw [hu0]; exact After.rfl.alloc _)
              have AK := hideIt (AK.out.trans AU.out)
              have ZZ := hideIt (fun V (a : After u0 V) => (show NoneA V (Ptr t2.heap.size) from fun U b => ZN.out U (a.trans b)))
              clear hz ZN AU
              go_upto_region 27 with fail
              rw [← hu0]
              clear hu0
              have AZ := hideIt (After.rfl (w := u0))
              have HT := hideIt (step_none (none_nil u0) true)
              try dsimp only [Sp.v, As.v, As.zero] at HT
              go_wp2_with fail
              refine HT.out.mono ?_
              rintro e t3 ⟨rfl, a⟩
              have AK := hideIt (AK.out.trans a)
              have AZ := hideIt (AZ.out.trans a)
              clear a HT
              have HT := hideIt (step_none (ZZ.out t3 AZ.out) true)
              try dsimp only [Sp.v, As.v, As.zero] at HT
              go_wp2_with fail
              refine HT.out.mono ?_
              rintro e t4 ⟨rfl, a⟩
              have AK := hideIt (AK.out.trans a)
              have AZ := hideIt (AZ.out.trans a)
              clear a HT
              have HT := hideIt (ack_none (none_nil t4))
              try dsimp only [Sp.v, As.v, As.zero] at HT
              go_wp2_with fail
              refine HT.out.mono ?_
              rintro e t5 ⟨rfl, a⟩
              have AK := hideIt (AK.out.trans a)
              have AZ := hideIt (AZ.out.trans a)
              clear a HT
              have HT := hideIt (ack_none (ZZ.out t5 AZ.out))
              try dsimp only [Sp.v, As.v, As.zero] at HT
              go_wp2_with fail
              refine HT.out.mono ?_
              rintro e t6 ⟨rfl, a⟩
              have AK := hideIt (AK.out.trans a)
              have AZ := hideIt (AZ.out.trans a)
              clear a HT
              have HT := hideIt (pause_none (none_nil t6) 0)
              try dsimp only [Sp.v, As.v, As.zero] at HT
              go_wp2_with fail
              refine HT.out.mono ?_
              rintro e t7 ⟨rfl, a⟩
              have AK := hideIt (AK.out.trans a)
              have AZ := hideIt (AZ.out.trans a)
              clear a HT
              have HT := hideIt (pause_none (ZZ.out t7 AZ.out) 1)
              try dsimp only [Sp.v, As.v, As.zero] at HT
              go_wp2_with fail
              refine HT.out.mono ?_
              rintro e t8 ⟨rfl, a⟩
              have AK := hideIt (AK.out.trans a)
              have AZ := hideIt (AZ.out.trans a)
              clear a HT
              have HT := hideIt (state_none (none_nil t8))
              try dsimp only [Sp.v, As.v, As.zero] at HT
              go_wp2_with fail
              refine HT.out.mono ?_
              rintro e t9 ⟨rfl, a⟩
              have AK := hideIt (AK.out.trans a)
              have AZ := hideIt (AZ.out.trans a)
              clear a HT
              have HT := hideIt (state_none (ZZ.out t9 AZ.out))
              try dsimp only [Sp.v, As.v, As.zero] at HT
              go_wp2_with fail
              refine HT.out.mono ?_
              rintro e t10 ⟨rfl, a⟩
              have AK := hideIt (AK.out.trans a)
              clear a HT
              clear ZZ AZ
              have HT := hideIt (wk_new t10 ⟨3, false, 0⟩ (by decide))
              try dsimp only [Sp.v, As.v, As.zero] at HT
              go_wp2_with fail
              refine HT.out.mono ?_
              rintro e v0 ⟨p, rfl, x0⟩
              have X := hideIt (show Wk t10 v0 p ⟨3, false, 0⟩ As.zero from x0)
              clear x0 HT
              have HR := hideIt (X.out.pause 0 ⟨0, 0, 0, 0⟩ 9 (by decide) rfl)
              go_wp2_with fail
              refine HR.out.mono ?_
              rintro e z0 ⟨rfl, x0⟩
              have X := hideIt x0
              clear x0 HR
              have HR := hideIt (X.out.pause 6001 ⟨0, 0, 0, 0⟩ 9 (by decide) rfl)
              go_wp2_with fail
              refine HR.out.mono ?_
              rintro e z1 ⟨rfl, x1⟩
              have X := hideIt x1
              clear x1 HR
              have HR := hideIt (X.out.pause 2 ⟨0, 0, 0, 2⟩ 0 (by decide) rfl)
              go_wp2_with fail
              refine HR.out.mono ?_
              rintro e z2 ⟨rfl, x2⟩
              have X := hideIt x2
              clear x2 HR
              have HR := hideIt (X.out.nil false 0 0 0 ⟨0, 0, 0, 1⟩ (by decide) rfl rfl rfl rfl)
              go_wp2_with fail
              refine HR.out.mono ?_
              rintro e z3 ⟨rfl, x3⟩
              have X := hideIt x3
              clear x3 HR
              have HR := hideIt (X.out.state)
              dsimp only [As.v] at HR
              have hfi : ∀ w, (Instr.field 25 (.agg #[.int .i64 0, .int .i64 0, .int .i64 0, .int .i64 1]) 3).run Try.prog w = .ok (.int .i64 1) w := fun _ => by kernel_rfl
              go_wp2_with fail
              refine HR.out.mono ?_
              rintro e z4 ⟨rfl, x4⟩
              have X := hideIt x4
              clear x4 HR
              have HR := hideIt (X.out.lit true 1 3 0 ⟨1, 3, 0, 0⟩ #[.int .i64 4, .int .i64 1] [4, 1] 2 rfl rfl (by decide) rfl rfl rfl rfl)
              go_wp2_with fail
              refine HR.out.mono ?_
              rintro e z5 ⟨rfl, x5⟩
              have X := hideIt x5
              clear x5 HR
              have HR := hideIt (X.out.nil true 1 3 0 ⟨1, 3, 0, 0⟩ (by decide) rfl rfl rfl rfl)
              go_wp2_with fail
              refine HR.out.mono ?_
              rintro e z6 ⟨rfl, x6⟩
              have X := hideIt x6
              clear x6 HR
              have HR := hideIt (X.out.lit false 0 0 0 ⟨0, 0, 0, 0⟩ #[.int .i64 2] [2] 1 rfl rfl (by decide) rfl rfl rfl rfl)
              go_wp2_with fail
              refine HR.out.mono ?_
              rintro e z7 ⟨rfl, x7⟩
              have X := hideIt x7
              clear x7 HR
              have HR := hideIt (works_any z7)
              go_wp2_with fail
              refine HR.out.mono ?_
              rintro e z8 ⟨rfl, a8⟩
              go_wp2
              go_ret
              exact ⟨rfl, (AK.out.trans X.out.aft).trans a8⟩
end Go.Proofs.Ythggkpmhcdmalaa
