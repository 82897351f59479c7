/-
  RingPlays.
-/
import Derived.Test.YtdoplmanpbeffaaRngE
namespace Go.Proofs.Ytdoplmanpbeffaa
open Go.RowKit
set_option maxRecDepth 8000
/-- Calls that are handed in. -/
def DoRow (w : World) (a : Option Addr) (k : Nat) : Prop := ∀ i, i < k → ∃ b off, ∃ (tk : Bool) (v : Int), a = some ⟨b, off, none⟩ ∧ b < w.heap.size ∧ w.cell? ⟨b, off + i * 2, none⟩ = some (.bool tk) ∧ w.cell? ⟨b, off + i * 2 + 1, none⟩ = some (.int .i64 v)
/-- Both rings, side by side. -/
structure Pair (w W : World) (n : Nat) (s : Sg) : Prop where
  rg : Rg W w.heap.size n s
  rf : Rf W (w.heap.size + 1) n s
  aft : After w W
/-- The one ahead of the other. -/
structure Mid (w W : World) (n : Nat) (s s' : Sg) : Prop where
  rg : Rg W w.heap.size n s'
  rf : Rf W (w.heap.size + 1) n s
  aft : After w W
theorem Pair.one {w W W' : World} {n : Nat} {s : Sg} (h : Pair w W n s) {s' : Sg} (x : Rg W' w.heap.size n s') (b : But (One w.heap.size) W W') : Mid w W' n s s' :=
  ⟨x, h.rf.but b (fun k hk e => by have : k = w.heap.size := e; omega), h.aft.then b (fun i hi e => by have : i = w.heap.size := e; omega)⟩
theorem Mid.two {w W W' : World} {n : Nat} {s s' : Sg} (h : Mid w W n s s') (y : Rf W' (w.heap.size + 1) n s') (b : But (From (w.heap.size + 1)) W W') : Pair w W' n s' :=
  ⟨h.rg.but b (fun e => by have : w.heap.size + 1 ≤ w.heap.size := e; omega), y, h.aft.then b (fun i hi e => by have : w.heap.size + 1 ≤ i := e; omega)⟩
theorem pair_put {w W : World} {n : Nat} {s : Sg} (h : Pair w W n s) (hb : s.all < 1000000) (v : Int) : Calls Try.prog 12 #[Ptr w.heap.size, .int .i64 v] W fun e w' => e = .returned (.int .i64 0) ∧ Mid w w' n s (s.put n v) :=
  (rgPut_any h.rg hb v).mono (fun _ _ q => ⟨q.1, h.one q.2.1 q.2.2⟩)
theorem mid_put {w W : World} {n : Nat} {s : Sg} {v : Int} (h : Mid w W n s (s.put n v)) (hb : s.all < 1000000) : Calls Try.prog 13 #[Ptr (w.heap.size + 1), .int .i64 v] W fun e w' => e = .returned (.int .i64 0) ∧ Pair w w' n (s.put n v) :=
  (rfPut_any h.rf hb v).mono (fun _ _ q => ⟨q.1, h.two q.2.1 q.2.2⟩)
/-- What both Takes answer. -/
structure Tk where
  v : Int
  lost : Nat
  e : Int
  s : Sg
def Sg.take (s : Sg) : Tk := match s.l with
  | [] => ⟨0, 0, 8, s⟩
  | y :: r => ⟨y, s.since, 0, ⟨r, 0, s.all⟩⟩
theorem rgTake_any {w : World} {p n : Nat} {s : Sg} (x : Rg w p n s) : Calls Try.prog 10 #[Ptr p] w fun e w' => e = .returned (.tuple #[.int .i64 s.take.v, .int .i64 (s.take.lost : Int), .int .i64 s.take.e]) ∧ Rg w' p n s.take.s ∧ But (One p) w w' := by
  obtain ⟨l, a, b⟩ := s
  cases l with
  | nil => exact (rgTake_empty x).mono (fun _ _ q => ⟨q.1, by rw [q.2]; exact x, by rw [q.2]; exact But.rfl⟩)
  | cons y r => exact rgTake_some x
theorem rfTake_any {w : World} {g n : Nat} {s : Sg} (x : Rf w g n s) : Calls Try.prog 11 #[Ptr g] w fun e w' => e = .returned (.tuple #[.int .i64 s.take.v, .int .i64 (s.take.lost : Int), .int .i64 s.take.e]) ∧ Rf w' g n s.take.s ∧ But (From g) w w' := by
  obtain ⟨l, a, b⟩ := s
  cases l with
  | nil => exact (rfTake_empty x).mono (fun _ _ q => ⟨q.1, by rw [q.2]; exact x, by rw [q.2]; exact But.rfl⟩)
  | cons y r => exact rfTake_some x
theorem pair_take {w W : World} {n : Nat} {s : Sg} (h : Pair w W n s) : Calls Try.prog 10 #[Ptr w.heap.size] W fun e w' => e = .returned (.tuple #[.int .i64 s.take.v, .int .i64 (s.take.lost : Int), .int .i64 s.take.e]) ∧ Mid w w' n s s.take.s :=
  (rgTake_any h.rg).mono (fun _ _ q => ⟨q.1, h.one q.2.1 q.2.2⟩)
theorem mid_take {w W : World} {n : Nat} {s : Sg} (h : Mid w W n s s.take.s) : Calls Try.prog 11 #[Ptr (w.heap.size + 1)] W fun e w' => e = .returned (.tuple #[.int .i64 s.take.v, .int .i64 (s.take.lost : Int), .int .i64 s.take.e]) ∧ Pair w w' n s.take.s :=
  (rfTake_any h.rf).mono (fun _ _ q => ⟨q.1, h.two q.2.1 q.2.2⟩)
theorem take_all (s : Sg) : s.take.s.all = s.all := by
  unfold Sg.take
  split <;> rfl
def SaysI (f p : Nat) (W : World) (z : Int) : Prop := Calls Try.prog f #[Ptr p] W fun e w' => e = .returned (.int .i64 z) ∧ w' = W
theorem Pair.asks {w W : World} {n : Nat} {s : Sg} (h : Pair w W n s) : SaysI 14 w.heap.size W (s.l.length : Int) ∧ SaysI 15 (w.heap.size + 1) W (s.l.length : Int) ∧ SaysI 16 w.heap.size W (s.all : Int) ∧ SaysI 17 (w.heap.size + 1) W (s.all : Int) :=
  ⟨rgLen_any h.rg, rfLen_any h.rf, rgLost_any h.rg, rfLost_any h.rf⟩
theorem put_all (n : Nat) (s : Sg) (v : Int) : (s.put n v).all ≤ s.all + 1 := by
  unfold Sg.put
  split
  · exact Nat.le_succ _
  · exact Nat.le_refl _
theorem Pair.draws {w W : World} {n : Nat} {s : Sg} (h : Pair w W n s) (k : Nat) : Pair w (W.drewN k) n s := ⟨h.rg.but (S := Non) (But.rfl.draws k) (fun t => t), h.rf.but (S := Non) (But.rfl.draws k) (fun _ _ t => t), h.aft.draws k⟩
set_option maxHeartbeats 2000000 in
theorem law_playsR (w : World) (n : Int) (a : Option Addr) (k c : Nat) (hl : DoRow w a k) :
    Calls Try.prog 3 #[.int .i64 n, .slice a k c] w fun e w' => e = .returned (.bool true) ∧ After w w' := by
  by_cases hn : 1 ≤ n ∧ n ≤ 16
  · obtain ⟨hn1, hn2⟩ := hn
    obtain ⟨N, rfl⟩ : ∃ N : Nat, n = (N : Int) := ⟨n.toNat, by omega⟩
    have HN := hideIt (rgNew_ok w N hn1 hn2)
    have HM := hideIt (rfNew_ok (w.alloc (.cells (zeroC N) 45)) N hn1 hn2)
    have x0 : Pair w ((w.alloc (.cells (zeroC N) 45)).alloc (.cells #[.int .i64 (N : Int), .slice none 0 0, .int .i64 0, .int .i64 0] 47)) N Sg.new := by
      refine ⟨rg_new ?_ (by omega) (by omega), rf_new ?_ (by omega) (by omega), (After.rfl.alloc _).alloc _⟩
      · rw [Below.heap_alloc _ _ _ (by simp)]; exact heap_alloc_new w _
      · have := heap_alloc_new (w.alloc (.cells (zeroC N) 45)) (.cells #[.int .i64 (N : Int), .slice none 0 0, .int .i64 0, .int .i64 0] 47)
        simpa using this
    have hsz : (w.alloc (.cells (zeroC N) 45)).heap.size = w.heap.size + 1 := by simp
    rw [hsz] at HM
    clear hsz
    generalize w.alloc (.cells (zeroC N) 45) = w1 at HN HM x0
    generalize w1.alloc (.cells #[.int .i64 (N : Int), .slice none 0 0, .int .i64 0, .int .i64 0] 47) = w2 at HM x0
    have HX := hideIt x0
    have HL := hideIt hl
    clear x0 hl
    go_enter Try.func3, Try.ntmps3
    go_wp2_with fail
    refine HN.out.mono ?_
    rintro e w' ⟨rfl, rfl⟩
    go_wp2_with fail
    refine HM.out.mono ?_
    rintro e w'' ⟨rfl, rfl⟩
    clear HN HM
    go_wp2_with fail
    go_loopw [9] (fun i wr => ∃ (j : Nat) (s : Sg), j ≤ k ∧ j ≤ 200 ∧ i = .int .i64 j ∧ s.all ≤ j ∧ Pair w wr N s) (fun i _ => 200 - (intOf i).toNat)
    case atStart => exact ⟨0, Sg.new, Nat.zero_le _, Nat.zero_le _, rfl, Nat.zero_le _, HX.out⟩
    case round =>
      obtain ⟨j, s, hjk, hj2, rfl, hall, x⟩ := hrel
      clear HX
      by_cases hgo : j < k ∧ j < 200
      · obtain ⟨hjk', hj'⟩ := hgo
        have i1 : (j : Int) < (k : Int) := by omega
        have i2 : (j : Int) < 200 := by omega
        obtain ⟨b, off, tk, v, rfl, hb, d0, d1⟩ := HL.out j hjk'
        have hkeep : ∀ W, After w W → W.cell? ⟨b, off + j * 2, none⟩ = some (.bool tk) ∧ W.cell? ⟨b, off + j * 2 + 1, none⟩ = some (.int .i64 v) := fun W h => ⟨(h.cell hb _).trans d0, (h.cell hb _).trans d1⟩
        have e0 := (hkeep wr x.aft).1
        have e1 := (hkeep wr x.aft).2
        have HKP := hideIt hkeep
        clear d0 d1 hkeep
        cases tk
        · -- a Put
          have hs : s.all < 1000000 := Nat.lt_of_le_of_lt hall (by omega)
          have HP := hideIt (fun m => pair_put (x.draws m) hs v)
          have HF := hideIt (fun W h => mid_put (w := w) (W := W) (n := N) (s := s) (v := v) h hs)
          clear x
          go_wp2_with fail
          go_region_with (first | (go_at_call 12; refine (HP.out 1).mono ?_; rintro e w3 ⟨rfl, x3⟩; (have e1b := (HKP.out _ x3.aft).2)) | (go_at_call 13; refine (HF.out _ (by assumption)).mono ?_; rintro e w4 ⟨rfl, x4⟩))
          all_goals
            simp only [Act.put, List.getElem_toArray, List.getElem_cons_succ, List.getElem_cons_zero, List.setIfInBounds_toArray, List.set_cons_succ, List.set_cons_zero]
            have HQ := hideIt x4.asks
            have X4 := hideIt x4
            have h1 : ((((s.put N v).l.length : Nat) : Int) != (((s.put N v).l.length : Nat) : Int)) = false := by simp
            have h2 : ((((s.put N v).all : Nat) : Int) != (((s.put N v).all : Nat) : Int)) = false := by simp
            have h3 := put_all N s v
            have h3 : (s.put N v).all ≤ j + 1 := by omega
            have H3 := hideIt h3
            clear x4 h3 hs HP HF hall
            generalize s.put N v = s' at *
            go_wp2_with (first | (go_at_call 14; refine HQ.out.1.mono ?_; rintro e w' ⟨rfl, rfl⟩) | (go_at_call 15; refine HQ.out.2.1.mono ?_; rintro e w' ⟨rfl, rfl⟩) | (go_at_call 16; refine HQ.out.2.2.1.mono ?_; rintro e w' ⟨rfl, rfl⟩) | (go_at_call 17; refine HQ.out.2.2.2.mono ?_; rintro e w' ⟨rfl, rfl⟩))
            go_roundw
            case rel => exact ⟨j + 1, s', by omega, by omega, by go_num, H3.out, X4.out⟩
            case measure => simp [intOf]; omega
        · -- a Take
          have HT := hideIt (pair_take x)
          have h3 : s.take.s.all ≤ j + 1 := by rw [take_all]; omega
          have H3 := hideIt h3
          have HF := hideIt (fun W h => mid_take (w := w) (W := W) (n := N) (s := s) h)
          clear x h3 hall
          generalize s.take = t at *
          obtain ⟨tv, tl, te, s'⟩ := t
          dsimp only at HT HF H3
          have h4 : (tv != tv) = false := by simp
          have h5 : ((tl : Int) != (tl : Int)) = false := by simp
          have h6 : (te != te) = false := by simp
          go_wp2_with fail
          refine HT.out.mono ?_
          rintro e w3 ⟨rfl, x3⟩
          have X3 := hideIt x3
          clear x3 HT
          go_wp2_with fail
          refine (HF.out _ X3.out).mono ?_
          rintro e w4 ⟨rfl, x4⟩
          have HQ := hideIt x4.asks
          have X4 := hideIt x4
          have h1 : (((s'.l.length : Nat) : Int) != ((s'.l.length : Nat) : Int)) = false := by simp
          have h2 : (((s'.all : Nat) : Int) != ((s'.all : Nat) : Int)) = false := by simp
          clear x4 HF X3
          go_wp2_with (first | (go_at_call 14; refine HQ.out.1.mono ?_; rintro e w' ⟨rfl, rfl⟩) | (go_at_call 15; refine HQ.out.2.1.mono ?_; rintro e w' ⟨rfl, rfl⟩) | (go_at_call 16; refine HQ.out.2.2.1.mono ?_; rintro e w' ⟨rfl, rfl⟩) | (go_at_call 17; refine HQ.out.2.2.2.mono ?_; rintro e w' ⟨rfl, rfl⟩))
          go_roundw
          case rel => exact ⟨j + 1, s', by omega, by omega, by go_num, H3.out, X4.out⟩
          case measure => simp [intOf]; omega
      · have HA := hideIt (awakeR_any wr)
        have AF := hideIt x.aft
        have hdd : (j < k ∧ ¬ j < 200) ∨ ¬ j < k := by omega
        clear x hgo hall
        rcases hdd with ⟨q1, q2⟩ | q1
        · have i1 : (j : Int) < (k : Int) := by omega
          have i2 : ¬ (j : Int) < 200 := by omega
          go_wp2_with fail
          refine HA.out.mono ?_
          rintro e w3 ⟨rfl, a3⟩
          have A3 := hideIt a3
          clear a3
          go_wp2_with fail
          go_ret
          exact ⟨rfl, AF.out.trans A3.out⟩
        · have i1 : ¬ (j : Int) < (k : Int) := by omega
          go_wp2_with fail
          refine HA.out.mono ?_
          rintro e w3 ⟨rfl, a3⟩
          have A3 := hideIt a3
          clear a3
          go_wp2_with fail
          go_ret
          exact ⟨rfl, AF.out.trans A3.out⟩
  · have hn' : n < 1 ∨ 16 < n := by omega
    have HN := hideIt (rgNew_no w n hn')
    have HM := hideIt (rfNew_no w n hn')
    have HA := hideIt (awakeR_any w)
    clear hn hn' hl
    go_enter Try.func3, Try.ntmps3
    go_wp2_with fail
    refine HN.out.mono ?_
    rintro e w' ⟨rfl, rfl⟩
    go_wp2_with fail
    refine HM.out.mono ?_
    rintro e w'' ⟨rfl, rfl⟩
    go_wp2_with fail
    refine HA.out.mono ?_
    rintro e w3 ⟨rfl, a3⟩
    have A3 := hideIt a3
    clear a3
    go_wp2_with fail
    go_ret
    exact ⟨rfl, A3.out⟩
end Go.Proofs.Ytdoplmanpbeffaa
