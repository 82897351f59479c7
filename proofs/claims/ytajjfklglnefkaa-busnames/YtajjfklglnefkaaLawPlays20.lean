/-
  BusPlays: what a bus answers, call by call, is the document's.
-/
import Derived.Test.YtajjfklglnefkaaBuO
namespace Go.Proofs.Ytajjfklglnefkaa
open Go.RowKit
set_option maxRecDepth 8000
theorem pr_new {w0 w W : World} {n fr : Int} (h1 : 1 ≤ n) (h2 : n ≤ 8) (h3 : 1 ≤ fr) (h4 : fr ≤ 100) (a : After w0 w) {q : Nat} {ob : Obj} (hq : w.heap[q]? = some ob) (hW : W = (w.alloc (.cells (busC n fr) 58)).alloc (.cells (rbC n fr) 62)) :
    Pr w0 W w.heap.size (w.heap.size + 1) q ob (Bz.new n fr) (Bz.new n fr) nov [] := by
  subst hW
  have hs : (w.alloc (.cells (busC n fr) 58)).heap.size = w.heap.size + 1 := by simp
  have a1 := (After.rfl (w := w)).alloc (.cells (busC n fr) 58)
  have a2 := (After.rfl (w := w.alloc (.cells (busC n fr) 58))).alloc (.cells (rbC n fr) 62)
  have hw := a.size
  have hql := blk_lt hq
  have hg := heap_alloc_new (w.alloc (.cells (busC n fr) 58)) (.cells (rbC n fr) 62)
  rw [hs] at hg
  refine ⟨a.trans (a1.trans a2), ((a1.trans a2).block q hql (fun t => t)).trans hq, own_nil _ _, lone w.heap.size, lone (w.heap.size + 1), (bu_new (heap_alloc_new w _) h1 h2 h3 h4).after a2, rb_new hg h1 h2 h3 h4, fun k hk => ?_, fun k hk => ?_, fun k hk => ?_, ?_, ?_, fun k hk => by cases hk⟩
  · have := lone_ne hk; omega
  · have := lone_ne hk; omega
  · have := lone_ne hk
    exact if_neg (by omega)
  · exact if_neg (by omega)
  · exact if_neg (by omega)
theorem drow3_at {w : World} {a : Option Addr} {n : Nat} {xs : List Dx} (h : GRow dxE w a n xs) {i : Nat} (hi : i < n) : ∃ b off x, a = some ⟨b, off, none⟩ ∧ b < w.heap.size ∧ xs[i]? = some x ∧ w.cell? ⟨b, off + i * 3, none⟩ = some (.int .i64 x.k) ∧ w.cell? ⟨b, off + i * 3 + 1, none⟩ = some (.int .i64 x.a) ∧ w.cell? ⟨b, off + i * 3 + 2, none⟩ = some (.int .i64 x.b) := by
  obtain ⟨b, off, x, e, hb, hx, h1⟩ := h.2 i hi
  exact ⟨b, off, x, e, hb, hx, h1 0 _ rfl, h1 1 _ rfl, h1 2 _ rfl⟩
set_option maxHeartbeats 2000000 in
theorem law_plays20 (w : World) (n fr : Int) (a : Option Addr) (k c : Nat) (xs : List Dx) (hx : GRow dxE w a k xs) (hin : ∀ x ∈ xs, x.In) :
    Calls Try.prog 3 #[.agg #[.int .i64 n, .int .i64 fr], .slice a k c] w fun e w' => e = .returned (.bool true) ∧ After w w' := by
  obtain ⟨W0, hW0⟩ : ∃ W0, W0 = w.alloc (.cells #[.int .i64 n, .int .i64 fr] 22) := ⟨_, rfl⟩
  have a0 : After w W0 := by rw [hW0]; exact After.rfl.alloc _
  have hb0 := two_new w 22 (.int .i64 n) (.int .i64 fr)
  rw [← hW0] at hb0
  obtain ⟨_, c0, c1, _, _⟩ := two_at hb0
  have HW0 := hideIt hW0
  have HL := hideIt (And.intro hx hin)
  by_cases hok : 1 ≤ n ∧ n ≤ 8 ∧ 1 ≤ fr ∧ fr ≤ 100
  · obtain ⟨h1, h2, h3, h4⟩ := hok
    have HN := hideIt (buNew_ok W0 n fr h1 h2 h3 h4)
    obtain ⟨W1, hW1⟩ : ∃ W1, W1 = W0.alloc (.cells (busC n fr) 58) := ⟨_, rfl⟩
    have a1 : After W0 W1 := by rw [hW1]; exact After.rfl.alloc _
    have hs1 : W1.heap.size = W0.heap.size + 1 := by rw [hW1]; simp
    have HM := hideIt (rbNew_ok W1 n fr h1 h2 h3 h4)
    rw [hs1] at HM
    have HP := hideIt (pr_new (W := W1.alloc (.cells (rbC n fr) 62)) h1 h2 h3 h4 a0 hb0 (by rw [hW1]))
    have hb1 := (a1.block _ (blk_lt hb0) (fun t => t)).trans hb0
    have HB := hideIt hb1
    have HW1 := hideIt hW1
    clear hx hin h1 h2 h3 h4 a0 hb0 a1 hs1 hb1 hW0 hW1
    go_enter Try.func3, Try.ntmps3
    go_wp2_with fail
    rw [← HW0.out]
    go_wp2_with fail
    refine HN.out.mono ?_
    rintro e w1 ⟨rfl, hw1⟩
    rw [← HW1.out] at hw1
    obtain rfl := hw1.symm
    obtain ⟨_, d0, d1, _, _⟩ := two_at HB.out
    clear c0 c1 HN
    go_wp2_with fail
    refine HM.out.mono ?_
    rintro e w2 ⟨rfl, hw2⟩
    rw [← hw2] at HP
    clear hw2 d0 d1 HM
    go_wp2_with fail
    go_loopw [9] (fun iv wr => ∃ (j : Nat) (b : Bz) (q : Nat) (ob : Obj) (v : Value) (zs : List Int), j ≤ k ∧ j ≤ 300 ∧ iv = .int .i64 j ∧ b.Upto j ∧ Pr w wr W0.heap.size (W0.heap.size + 1) q ob b b v zs) (fun iv _ => 300 - (intOf iv).toNat)
    case atStart => exact ⟨0, Bz.new n fr, _, _, _, _, Nat.zero_le _, Nat.zero_le _, rfl, new_upto n fr 0, HP.out⟩
    case round =>
      obtain ⟨j, b, q, ob, v, zs, hj, hj3, rfl, hu, x⟩ := hrel
      clear HP
      by_cases hgo : j < k ∧ j < 300
      · obtain ⟨hjk, hj300⟩ := hgo
        have i1 : (j : Int) < (k : Int) := by omega
        have i2 : (j : Int) < 300 := by omega
        obtain ⟨bb, off, d, rfl, hb, hd, e0, e1, e2⟩ := drow3_at (HL.out.1.after x.aft) hjk
        have HS := hideIt (step_any x (hu.mono (by omega)) d (HL.out.2 d (List.mem_of_getElem? hd)))
        have HU := hideIt (And.intro hu (And.intro hjk hj300))
        obtain ⟨dk, da, db⟩ := d
        dsimp only at e0 e1 e2
        clear x hb hd hu hj hj3
        go_wp2_with fail
        refine HS.out.mono ?_
        rintro e w3 ⟨rfl, b2, hb2, x3⟩
        have X3 := hideIt (And.intro hb2 x3)
        clear hb2 x3 HS e0 e1 e2
        go_wp2_with fail
        go_roundw
        case rel =>
          obtain ⟨hb2, q, ob, v, zs, x3⟩ := X3.out
          exact ⟨j + 1, b2, q, ob, v, zs, HU.out.2.1, HU.out.2.2, by go_num, hb2 j HU.out.1, x3⟩
        case measure => simp [intOf]; omega
      · have HA := hideIt (awake_any wr)
        have AF := hideIt x.aft
        have hdd : (j < k ∧ ¬ j < 300) ∨ ¬ j < k := by omega
        clear x hgo hu
        rcases hdd with ⟨q1, q2⟩ | q1
        · have i1 : (j : Int) < (k : Int) := by omega
          have i2 : ¬ (j : Int) < 300 := by omega
          go_wp2_with fail
          refine HA.out.mono ?_
          rintro e w3 ⟨rfl, a3⟩
          have A3 := hideIt a3
          clear a3
          go_wp2_with fail
          go_ret
          exact ⟨rfl, AF.out.trans A3.out⟩
        · have i1 : ¬ (j : Int) < (k : Int) := by omega
          go_wp2_with fail
          refine HA.out.mono ?_
          rintro e w3 ⟨rfl, a3⟩
          have A3 := hideIt a3
          clear a3
          go_wp2_with fail
          go_ret
          exact ⟨rfl, AF.out.trans A3.out⟩
  · have hno : n < 1 ∨ 8 < n ∨ fr < 1 ∨ 100 < fr := by omega
    have HN := hideIt (buNew_no W0 n fr hno)
    have HM := hideIt (rbNew_no W0 n fr hno)
    have HA := hideIt (awake_any W0)
    have A0 := hideIt a0
    clear hx hin hok hno a0 hb0 hW0
    go_enter Try.func3, Try.ntmps3
    go_wp2_with fail
    rw [← HW0.out]
    go_wp2_with fail
    refine HN.out.mono ?_
    rintro e w1 ⟨rfl, hw1⟩
    obtain rfl := hw1.symm
    go_wp2_with fail
    refine HM.out.mono ?_
    rintro e w2 ⟨rfl, hw2⟩
    obtain rfl := hw2.symm
    clear c0 c1 HN HM
    go_wp2_with fail
    go_loopw [9] (fun iv wr => iv = .int .i64 0 ∧ wr = W0) (fun iv _ => 0)
    case atStart => exact ⟨rfl, rfl⟩
    case round =>
      obtain ⟨rfl, hwr⟩ := hrel
      obtain rfl := hwr.symm
      by_cases hk : 0 < k
      · have i1 : (0 : Int) < (k : Int) := by omega
        go_wp2_with fail
        refine HA.out.mono ?_
        rintro e w3 ⟨rfl, a3⟩
        have A3 := hideIt a3
        clear a3
        go_wp2_with fail
        go_ret
        exact ⟨rfl, A0.out.trans A3.out⟩
      · have i1 : ¬ (0 : Int) < (k : Int) := by omega
        go_wp2_with fail
        refine HA.out.mono ?_
        rintro e w3 ⟨rfl, a3⟩
        have A3 := hideIt a3
        clear a3
        go_wp2_with fail
        go_ret
        exact ⟨rfl, A0.out.trans A3.out⟩
end Go.Proofs.Ytajjfklglnefkaa
