/-
  RingOrder.
-/
import Derived.Test.YtdoplmanpbeffaaRngF
namespace Go.Proofs.Ytdoplmanpbeffaa
open Go.RowKit
set_option maxRecDepth 8000
/-- Bools that are handed in. -/
def BoolRow (w : World) (a : Option Addr) (k : Nat) : Prop := ∀ i, i < k → ∃ b off, ∃ tk : Bool, a = some ⟨b, off, none⟩ ∧ b < w.heap.size ∧ w.cell? ⟨b, off + i, none⟩ = some (.bool tk)
/-- The numbers that are in are the last ones of those below pt; nx is the one behind the last that was taken. -/
structure Inv (s : Sg) (nx pt : Nat) : Prop where
  run : ∀ i x, s.l[i]? = some x → x = ((nx + s.since + i : Nat) : Int)
  sum : nx + s.since + s.l.length = pt
  ne : s.l = [] → s.since = 0
theorem Inv.new : Inv Sg.new 0 0 := ⟨fun i x h => by simp [Sg.new] at h, rfl, fun _ => rfl⟩
theorem Inv.put {s : Sg} {nx pt : Nat} (h : Inv s nx pt) {n : Nat} (hn : 0 < n) : Inv (s.put n (pt : Int)) nx (pt + 1) := by
  have hs := h.sum
  by_cases hr : s.l.length < n
  · rw [put_room hr]
    refine ⟨fun i x hx => ?_, by show nx + s.since + (s.l ++ [(pt : Int)]).length = pt + 1; rw [List.length_append, List.length_singleton]; omega, fun e => by simp at e⟩
    have hx : (s.l ++ [(pt : Int)])[i]? = some x := hx
    have hil := (List.getElem?_eq_some_iff.1 hx).1
    rw [List.length_append, List.length_singleton] at hil
    by_cases e : i = s.l.length
    · subst e
      simp at hx
      rw [← hx]
      show (pt : Int) = ((nx + s.since + s.l.length : Nat) : Int)
      omega
    · exact h.run i x (by rwa [List.getElem?_append_left (by omega)] at hx)
  · obtain ⟨l, a, b⟩ := s
    cases l with
    | nil => exact absurd hn hr
    | cons y r =>
      rw [put_full hr]
      dsimp only [List.length_cons] at hs
      refine ⟨fun i x hx => ?_, by show nx + (a + 1) + (r ++ [(pt : Int)]).length = pt + 1; rw [List.length_append, List.length_singleton]; omega, fun e => by simp at e⟩
      have hx : (r ++ [(pt : Int)])[i]? = some x := hx
      have hil := (List.getElem?_eq_some_iff.1 hx).1
      rw [List.length_append, List.length_singleton] at hil
      show x = ((nx + (a + 1) + i : Nat) : Int)
      by_cases e : i = r.length
      · subst e
        simp at hx
        omega
      · have := h.run (i + 1) x (by simpa using (by rwa [List.getElem?_append_left (by omega)] at hx : r[i]? = some x))
        dsimp only at this
        omega
theorem Inv.take {y : Int} {r : List Int} {a b nx pt : Nat} (h : Inv ⟨y :: r, a, b⟩ nx pt) : y = ((nx + a : Nat) : Int) ∧ Inv ⟨r, 0, b⟩ (nx + a + 1) pt ∧ nx + a < pt := by
  have hs := h.sum
  dsimp only [List.length_cons] at hs
  refine ⟨h.run 0 y rfl, ⟨fun i x hx => ?_, by show nx + a + 1 + 0 + r.length = pt; omega, fun _ => rfl⟩, by omega⟩
  have := h.run (i + 1) x (by simpa using hx)
  dsimp only at this ⊢
  omega
theorem Inv.last {a b nx pt : Nat} (h : Inv ⟨[], a, b⟩ nx pt) : a = 0 ∧ nx = pt := by
  have h1 : a = 0 := h.ne rfl
  have h2 : nx + a + 0 = pt := h.sum
  omega
/-- A ring of one's own. -/
structure Sole (w W : World) (n p : Nat) (s : Sg) : Prop where
  rg : Rg W p n s
  aft : After w W
  hp : w.heap.size ≤ p
theorem sole_put {w W : World} {n p : Nat} {s : Sg} (h : Sole w W n p s) (hb : s.all < 1000000) (v : Int) : Calls Try.prog 12 #[Ptr p, .int .i64 v] W fun e w' => e = .returned (.int .i64 0) ∧ Sole w w' n p (s.put n v) :=
  (rgPut_any h.rg hb v).mono (fun _ _ q => ⟨q.1, q.2.1, h.aft.then q.2.2 (fun i hi e => by have : i = p := e; have := h.hp; omega), h.hp⟩)
theorem sole_take {w W : World} {n p : Nat} {s : Sg} (h : Sole w W n p s) : Calls Try.prog 10 #[Ptr p] W fun e w' => e = .returned (.tuple #[.int .i64 s.take.v, .int .i64 (s.take.lost : Int), .int .i64 s.take.e]) ∧ Sole w w' n p s.take.s :=
  (rgTake_any h.rg).mono (fun _ _ q => ⟨q.1, q.2.1, h.aft.then q.2.2 (fun i hi e => by have : i = p := e; have := h.hp; omega), h.hp⟩)
theorem Sole.asks {w W : World} {n p : Nat} {s : Sg} (h : Sole w W n p s) : SaysI 14 p W (s.l.length : Int) ∧ SaysI 16 p W (s.all : Int) := ⟨rgLen_any h.rg, rgLost_any h.rg⟩
theorem Rg.le {w : World} {p n : Nat} {s : Sg} (x : Rg w p n s) : s.l.length ≤ n ∧ 0 < n := by
  obtain ⟨cs, f, t, x⟩ := x
  have := x.hf
  exact ⟨x.hl, by omega⟩
set_option maxHeartbeats 2000000 in
theorem law_orderR (w : World) (n : Int) (h1 : -9223372036854775808 ≤ n) (h2 : n ≤ 9223372036854775807) (a : Option Addr) (k c : Nat) (hl : BoolRow w a k) :
    Calls Try.prog 4 #[.int .i64 n, .slice a k c] w fun e w' => e = .returned (.bool true) ∧ After w w' := by
  have HA := hideIt (awakeR_any w)
  have HB := hideIt (fun W => bring_any n 16 W h1 h2 (by omega) (by omega))
  have hlt := broughtTo_lt n (show 0 < 16 by omega)
  generalize broughtTo n 16 = M at HB hlt
  have HL := hideIt hl
  clear hl h1 h2
  have HNW := hideIt (fun W => rgNew_ok W ((1 : Int) + (M : Int)) (by omega) (by omega))
  have m0 : (0 : Int) ≤ (M : Int) := by omega
  have m1 : (M : Int) < 16 := by omega
  go_enter Try.func4, Try.ntmps4
  go_wp2_with fail
  refine HA.out.mono ?_
  rintro e w0 ⟨rfl, a0⟩
  have A0 := hideIt a0
  clear a0 HA
  go_wp2_with (go_at_call 18; refine (HB.out _).mono ?_; rintro e w' ⟨rfl, rfl⟩)
  refine (HNW.out _).mono ?_
  rintro e w1 ⟨rfl, hw1⟩
  have x0 : Sole w w1 (M + 1) w'.heap.size Sg.new := by
    rw [hw1]
    refine ⟨rg_new ?_ (by omega) (by omega), A0.out.trans (After.rfl.alloc _), A0.out.size⟩
    have e1 : (((M + 1 : Nat)) : Int) = 1 + (M : Int) := by omega
    rw [e1]
    exact heap_alloc_new _ _
  have X0 := hideIt x0
  clear x0 hw1 A0 HNW
  generalize w'.heap.size = p at *
  clear w'
  go_wp2_with fail
  go_loopw [7, 8, 9] (fun pv nv i wr => ∃ (j nx pt : Nat) (s : Sg), j ≤ k ∧ j ≤ 300 ∧ pt ≤ j ∧ i = .int .i64 j ∧ nv = .int .i64 nx ∧ pv = .int .i64 pt ∧ s.all ≤ j ∧ Inv s nx pt ∧ Sole w wr (M + 1) p s) (fun _ _ i _ => 300 - (intOf i).toNat)
  case atStart => exact ⟨0, 0, 0, Sg.new, Nat.zero_le _, Nat.zero_le _, Nat.zero_le _, rfl, rfl, rfl, Nat.zero_le _, Inv.new, X0.out⟩
  case round =>
    obtain ⟨j, nx, pt, s, hjk, hj2, hpt, rfl, rfl, rfl, hall, inv, x⟩ := hrel
    clear X0
    have hnx : nx ≤ pt := by have := inv.sum; omega
    by_cases hgo : j < k ∧ j < 300
    · obtain ⟨hjk', hj'⟩ := hgo
      have i1 : (j : Int) < (k : Int) := by omega
      have i2 : (j : Int) < 300 := by omega
      obtain ⟨b, off, tk, rfl, hb, d0⟩ := HL.out j hjk'
      have e0 := (x.aft.cell hb _).trans d0
      clear d0
      cases tk
      · -- a Put
        have hs : s.all < 1000000 := Nat.lt_of_le_of_lt hall (by omega)
        have HP := hideIt (sole_put x hs (pt : Int))
        have h3 := put_all (M + 1) s (pt : Int)
        have H3 := hideIt (And.intro (inv.put (n := M + 1) (by omega)) (show (s.put (M + 1) (pt : Int)).all ≤ j + 1 by omega))
        clear x inv hs hall h3
        generalize s.put (M + 1) (pt : Int) = s' at *
        go_wp2_with fail
        refine HP.out.mono ?_
        rintro e w3 ⟨rfl, x3⟩
        have HQ := hideIt x3.asks
        have q1 : ¬ (1 : Int) + (M : Int) < (s'.l.length : Int) := by have := x3.rg.le; omega
        have q2 : ¬ (pt : Int) + 1 - (nx : Int) < (s'.l.length : Int) := by have := H3.out.1.sum; omega
        have q3 : ¬ (s'.all : Int) < 0 := by omega
        have q4 : (pt : Int) ≤ 300 := by omega
        have q5 : (nx : Int) ≤ (pt : Int) := by omega
        have X3 := hideIt x3
        clear x3 HP
        go_wp2_with (first | (go_at_call 14; refine HQ.out.1.mono ?_; rintro e w' ⟨rfl, rfl⟩) | (go_at_call 16; refine HQ.out.2.mono ?_; rintro e w' ⟨rfl, rfl⟩) | (go_at_call 18; refine (HB.out _).mono ?_; rintro e w' ⟨rfl, rfl⟩))
        go_roundw
        case rel => exact ⟨j + 1, nx, pt + 1, s', by omega, by omega, by omega, by go_num, rfl, by go_num, H3.out.2, H3.out.1, X3.out⟩
        case measure => simp [intOf]; omega
      · -- a Take
        have HT := hideIt (sole_take x)
        obtain ⟨l, sa, sb⟩ := s
        cases l with
        | nil =>
          obtain ⟨rfl, rfl⟩ := inv.last
          have HI := hideIt inv
          dsimp only [Sg.take] at HT
          dsimp only at hall
          clear x inv
          go_wp2_with fail
          refine HT.out.mono ?_
          rintro e w3 ⟨rfl, x3⟩
          have HQ := hideIt x3.asks
          have q1 : ¬ (1 : Int) + (M : Int) < 0 := by omega
          have q3 : ¬ (sb : Int) < 0 := by omega
          have q4 : (nx : Int) ≤ 300 := by omega
          have X3 := hideIt x3
          dsimp only [List.length_nil] at HQ
          clear x3 HT
          go_wp2_with (first | (go_at_call 14; refine HQ.out.1.mono ?_; rintro e w' ⟨rfl, rfl⟩) | (go_at_call 16; refine HQ.out.2.mono ?_; rintro e w' ⟨rfl, rfl⟩) | (go_at_call 18; refine (HB.out _).mono ?_; rintro e w' ⟨rfl, rfl⟩))
          go_roundw
          case rel => exact ⟨j + 1, nx, nx, ⟨[], 0, sb⟩, by omega, by omega, by omega, by go_num, rfl, rfl, by show sb ≤ j + 1; omega, HI.out, X3.out⟩
          case measure => simp [intOf]; omega
        | cons y r =>
          obtain ⟨rfl, inv', hlt'⟩ := inv.take
          dsimp only [Sg.take] at HT
          dsimp only at hall
          have HI := hideIt inv'
          have q0 : (nx : Int) < (pt : Int) := by omega
          have i3 : ((nx + sa : Nat) : Int) = (nx : Int) + (sa : Int) := by omega
          rw [i3] at HT
          clear x inv i3
          have q6 : (((nx : Int) + (sa : Int)) != ((nx : Int) + (sa : Int))) = false := by simp
          have q7 : ¬ (sa : Int) < 0 := by omega
          have q8 : (nx : Int) + (sa : Int) < (pt : Int) := by omega
          have q9 : (pt : Int) ≤ 300 := by omega
          go_wp2_with fail
          refine HT.out.mono ?_
          rintro e w3 ⟨rfl, x3⟩
          have HQ := hideIt x3.asks
          have q1 : ¬ (1 : Int) + (M : Int) < (r.length : Int) := by have := x3.rg.le; dsimp only at this; omega
          have q2 : ¬ (pt : Int) - ((nx : Int) + (sa : Int) + 1) < (r.length : Int) := by have := inv'.sum; dsimp only at this; omega
          have q3 : ¬ (sb : Int) < 0 := by omega
          have X3 := hideIt x3
          dsimp only at HQ
          clear x3 HT inv'
          go_wp2_with (first | (go_at_call 14; refine HQ.out.1.mono ?_; rintro e w' ⟨rfl, rfl⟩) | (go_at_call 16; refine HQ.out.2.mono ?_; rintro e w' ⟨rfl, rfl⟩) | (go_at_call 18; refine (HB.out _).mono ?_; rintro e w' ⟨rfl, rfl⟩))
          go_roundw
          case rel => exact ⟨j + 1, nx + sa + 1, pt, ⟨r, 0, sb⟩, by omega, by omega, by omega, by go_num, by go_num, rfl, by show sb ≤ j + 1; omega, HI.out, X3.out⟩
          case measure => simp [intOf]; omega
    · have hdd : ((j : Int) < (k : Int) ∧ ¬ (j : Int) < 300) ∨ (¬ (j : Int) < (k : Int) ∧ (0 : Int) ≤ 0) := by omega
      have X := hideIt (And.intro x inv)
      clear x hgo inv
      rcases hdd with ⟨i1, i2⟩ | ⟨i1, i2⟩
      all_goals
        go_wp2_with fail
        go_loopw [8] (fun nv wr => ∃ (nx : Nat) (s : Sg), nx ≤ pt ∧ nv = .int .i64 nx ∧ Inv s nx pt ∧ Sole w wr (M + 1) p s) (fun nv _ => pt - (intOf nv).toNat)
        case atStart => exact ⟨nx, s, hnx, rfl, X.out.2, X.out.1⟩
        case round =>
          obtain ⟨nx, s, hnx, rfl, inv, x⟩ := hrel
          obtain ⟨l, sa, sb⟩ := s
          cases l with
          | nil =>
            obtain ⟨rfl, rfl⟩ := inv.last
            have HQ := hideIt x.asks
            have AF := hideIt x.aft
            dsimp only [List.length_nil] at HQ
            have q0 : ((nx : Int) == (nx : Int)) = true := by simp
            clear x inv X
            go_wp2_with (go_at_call 14; refine HQ.out.1.mono ?_; rintro e w' ⟨rfl, rfl⟩)
            go_ret
            exact ⟨rfl, AF.out⟩
          | cons y r =>
            have HQ := hideIt x.asks
            have HT := hideIt (sole_take x)
            obtain ⟨rfl, inv', hlt'⟩ := inv.take
            dsimp only [Sg.take] at HT
            have HI := hideIt inv'
            have hpos : (0 : Int) < (((((nx + sa : Nat) : Int) :: r).length : Nat) : Int) := by rw [List.length_cons]; omega
            dsimp only at HQ
            generalize (((((nx + sa : Nat) : Int) :: r).length : Nat) : Int) = L at HQ hpos
            have i3 : ((nx + sa : Nat) : Int) = (nx : Int) + (sa : Int) := by omega
            rw [i3] at HT
            clear x inv i3 inv'
            have q6 : (((nx : Int) + (sa : Int)) != ((nx : Int) + (sa : Int))) = false := by simp
            have q8 : (nx : Int) + (sa : Int) < (pt : Int) := by omega
            have q9 : (pt : Int) ≤ 300 := by omega
            go_wp2_with (go_at_call 14; refine HQ.out.1.mono ?_; rintro e w' ⟨rfl, rfl⟩)
            refine HT.out.mono ?_
            rintro e w3 ⟨rfl, x3⟩
            have X3 := hideIt x3
            clear x3 HT HQ
            go_wp2_with fail
            go_roundw
            case rel => exact ⟨nx + sa + 1, ⟨r, 0, sb⟩, by omega, by go_num, HI.out, X3.out⟩
            case measure => simp [intOf]; omega
end Go.Proofs.Ytdoplmanpbeffaa
