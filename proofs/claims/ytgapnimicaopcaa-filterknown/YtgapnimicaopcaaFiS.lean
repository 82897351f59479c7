/-
  A step of a task; New and Check.
-/
import Derived.Test.YtgapnimicaopcaaFiR
namespace Go.Proofs.Ytgapnimicaopcaa
open Go.RowKit
set_option maxRecDepth 8000
/-- Behind j of what was heard. -/
def Ts.upto (c : Cf) (t : Int) (s : Ts) (l : List Rl) (j : Nat) : Ts := (l.take j).foldl (Ts.hear c t) (s.opn c t)
theorem Ts.upto_zero (c : Cf) (t : Int) (s : Ts) (l : List Rl) : s.upto c t l 0 = s.opn c t := by simp [Ts.upto]
theorem Ts.upto_succ (c : Cf) (t : Int) (s : Ts) {l : List Rl} {j : Nat} {x : Rl} (h : l[j]? = some x) : s.upto c t l (j + 1) = (s.upto c t l j).hear c t x := by
  unfold Ts.upto
  rw [List.take_add_one, h, List.foldl_append]
  rfl
theorem Ts.upto_all (c : Cf) (t : Int) (s : Ts) (l : List Rl) : s.upto c t l l.length = s.hears c t l := by
  unfold Ts.upto Ts.hears
  rw [List.take_length]
/-- A task lies at p: its blocks are within S. -/
def Tk (w : World) (p : Nat) (S : Nat → Prop) (c : Cf) (s : Ts) : Prop := ∃ q v S1, TkX w p q v S1 c s ∧ ∀ i, S i ↔ Ta p q S1 i
theorem Tk.lt {w : World} {p : Nat} {S : Nat → Prop} {c : Cf} {s : Ts} (x : Tk w p S c s) : ∀ i, S i → i < w.heap.size := by
  obtain ⟨q, v, S1, x, hs⟩ := x
  intro i hi
  rcases (hs i).1 hi with rfl | rfl | h
  · exact x.lt
  · exact x.lap.lt
  · exact x.ins.lt i h
theorem Tk.but {T : Nat → Prop} {w w' : World} {p : Nat} {S : Nat → Prop} {c : Cf} {s : Ts} (x : Tk w p S c s) (b : But T w w') (hn : ∀ i, S i → ¬ T i) : Tk w' p S c s := by
  obtain ⟨q, v, S1, x, hs⟩ := x
  exact ⟨q, v, S1, x.but b (hn p ((hs p).2 (.inl rfl))) (hn q ((hs q).2 (.inr (.inl rfl)))) (fun i hi => hn i ((hs i).2 (.inr (.inr hi)))), hs⟩
theorem Tk.after {w w' : World} {p : Nat} {S : Nat → Prop} {c : Cf} {s : Ts} (x : Tk w p S c s) (a : After w w') : Tk w' p S c s := x.but a (fun _ _ t => t)
theorem Tk.ok {w : World} {p : Nat} {S : Nat → Prop} {c : Cf} {s : Ts} (x : Tk w p S c s) : c.Ok := by
  obtain ⟨q, v, S1, x, _⟩ := x
  exact x.ok
theorem TkX.goes_ {w : World} {p q : Nat} {v : Value} {S : Nat → Prop} {c : Cf} {s : Ts} (x : TkX w p q v S c s) {t : Int} (h1 : 0 ≤ t) (h2 : t ≤ 2147483647) : TkX (w.setCell ⟨p, 7, none⟩ (.int .i64 (t + 1))) p q v S c (s.goes t) :=
  { at0 := blk_put x.at0 7 _, lap := x.lap.but (but_one w p 7 _) (fun e => x.ne e.symm), ins := x.ins.but (but_one w p 7 _) (fun i hi e => by cases e; exact x.np hi), ok := x.ok, ne := x.ne, np := x.np, nq := x.nq, lo := by show 0 ≤ t + 1; omega, hi := by show t + 1 ≤ 2147483648; omega }
theorem Ts.err_cases (s : Ts) (t : Int) (l : List Rl) : (s.err t l = 0 ∧ s.next ≤ t ∧ t ≤ 2147483647 ∧ l.length ≤ 64 ∧ mays l = true) ∨ s.err t l = 9 ∨ s.err t l = 6 ∨ s.err t l = 2 := by
  unfold Ts.err
  split
  · exact .inr (.inl rfl)
  · split
    · exact .inr (.inr (.inl rfl))
    · split
      · rename_i h
        exact .inl ⟨rfl, by omega, by omega, by omega, h⟩
      · exact .inr (.inr (.inr rfl))
/-- A step that is refused. -/
theorem stepX_no {w : World} {p q : Nat} {v : Value} {S : Nat → Prop} {c : Cf} {s : Ts} (x : TkX w p q v S c s) (t : Int) (a : Option Addr) (n d : Nat) (l : List Rl) (hr : RRow w a n l) (he : s.err t l ≠ 0) : Calls Try.prog 14 #[Ptr p, .int .i64 t, .slice a n d] w fun e w' => e = .returned (.tuple #[.agg #[.int .i64 0, .int .i64 0], .int .i64 (s.err t l)]) ∧ After w w' := by
  have H := hideIt (fun W (a1 : After w W) => check_any (x.after a1) t a n d l (hr.after a1))
  clear hr x
  rcases s.err_cases t l with ⟨h, _⟩ | h | h | h
  · exact absurd h he
  all_goals
    rw [h] at H
    rw [h]
    clear h he
    go_enter Try.func14, Try.ntmps14
    go_wp2_with fail
    refine (H.out _ (After.rfl.alloc _)).mono ?_
    rintro e w1 ⟨rfl, a1⟩
    have hg := (a1.block w.heap.size (by simp) (fun t => t)).trans (heap_alloc_new w _)
    obtain ⟨hg0, e0, e1, e2, e3⟩ := two_at hg
    have HA := hideIt ((After.rfl.alloc _).trans a1)
    have HG := hideIt hg
    clear hg a1
    go_wp2_with fail
    obtain ⟨_, q0, q1, _, _⟩ := two_at (two_set1 (two_set0 HG.out (.int .i64 0)) (.int .i64 0))
    exact bodyPost_ret (v := .tuple #[.agg #[.int .i64 0, .int .i64 0], .int .i64 _]) (by simp [results, Try.results14, go_sem, q0, q1]) rfl ⟨rfl, (HA.out.set ⟨w.heap.size, 0, none⟩ (Nat.le_refl _) _).set ⟨w.heap.size, 1, none⟩ (Nat.le_refl _) _⟩
/-- How it stands between two steps' parts. -/
def Mid (w1 : World) (p q : Nat) (S : Nat → Prop) (c : Cf) (s : Ts) (w3 : World) : Prop := ∃ v' S', TkX w3 p q v' S' c s ∧ (∀ i, S' i → S i ∨ w1.heap.size ≤ i) ∧ But (Ta p q S) w1 w3
theorem TkX.not_in {w : World} {p q : Nat} {v : Value} {S : Nat → Prop} {c : Cf} {s : Ts} (x : TkX w p q v S c s) : ¬ Ta p q S w.heap.size := fun h => by
  rcases h with h | h | h
  · have := x.lt; omega
  · have := x.lap.lt; omega
  · have := x.ins.lt _ h; omega
theorem Mid.fin {w w1 w6 w7 : World} {p q : Nat} {v v6 : Value} {S S6 : Nat → Prop} {c : Cf} {s s6 s9 : Ts} (aw : After w w1) (hg : w.heap.size < w1.heap.size) (x : TkX w p q v S c s) (h : TkX w6 p q v6 S6 c s6 ∧ (∀ i, S6 i → S i ∨ w1.heap.size ≤ i) ∧ But (Ta p q S) w1 w6) (a7 : After w6 w7) (hs : s6 = s9) (y z : Value) :
    ∃ v' S', TkX ((w7.setCell ⟨w.heap.size, 0, none⟩ y).setCell ⟨w.heap.size, 1, none⟩ z) p q v' S' c s9 ∧ (∀ i, S' i → S i ∨ w.heap.size ≤ i) ∧ But (Ta p q S) w ((w7.setCell ⟨w.heap.size, 0, none⟩ y).setCell ⟨w.heap.size, 1, none⟩ z) := by
  obtain ⟨x6, hS, b6⟩ := h
  subst hs
  have b8 : But (One w.heap.size) w7 ((w7.setCell ⟨w.heap.size, 0, none⟩ y).setCell ⟨w.heap.size, 1, none⟩ z) := (but_one w7 _ 0 _).trans (but_one _ _ 1 _)
  have hn := x.not_in
  refine ⟨v6, S6, (x6.after a7).but b8 (fun e => hn (.inl e.symm)) (fun e => hn (.inr (.inl e.symm))) (fun i hi e => ?_), fun i hi => (hS i hi).imp id (fun h => Nat.le_trans aw.size h), ?_⟩
  · cases e
    rcases hS _ hi with h | h
    · exact hn (.inr (.inr h))
    · omega
  · exact ((aw.but.then b6 (fun _ _ e => e)).then a7 (fun _ _ e => e.elim)).then b8 (fun i hi e => by cases e; omega)
theorem Mid.anew {w1 w3 w4 : World} {p q : Nat} {v' : Value} {S S' : Nat → Prop} {c : Cf} {s : Ts} (b : But (Ta p q S) w1 w3) (h : TkX w4 p q v' S' c s.anew ∧ (∀ i, S' i → w3.heap.size ≤ i) ∧ But (One p) w3 w4) : Mid w1 p q S c s.anew w4 :=
  ⟨v', S', h.1, fun i hi => .inr (Nat.le_trans b.size (h.2.1 i hi)), b.then h.2.2 (fun _ _ e => .inl e)⟩
theorem Mid.hear {w1 w3 w4 : World} {p q : Nat} {v' : Value} {S S' : Nat → Prop} {c : Cf} {s : Ts} (hS : ∀ i, S' i → S i ∨ w1.heap.size ≤ i) (b : But (Ta p q S) w1 w3) (h : ∃ S'', TkX w4 p q v' S'' c s ∧ (∀ i, S'' i → S' i ∨ w3.heap.size ≤ i) ∧ But (Ta p q S') w3 w4) : Mid w1 p q S c s w4 := by
  obtain ⟨S'', x, h1, h2⟩ := h
  refine ⟨v', S'', x, fun i hi => ?_, b.then h2 (fun i hi e => ?_)⟩
  · rcases h1 i hi with h | h
    · exact hS i h
    · exact .inr (Nat.le_trans b.size h)
  · rcases e with e | e | e
    · exact .inl e
    · exact .inr (.inl e)
    · rcases hS i e with h | h
      · exact .inr (.inr h)
      · omega
set_option maxHeartbeats 1000000 in
theorem stepX_yes {w : World} {p q : Nat} {v : Value} {S : Nat → Prop} {c : Cf} {s : Ts} (x : TkX w p q v S c s) (t : Int) (a : Option Addr) (n d : Nat) (l : List Rl) (hr : RRow w a n l) (hna : ∀ y, a = some y → 0 < n → ¬ Ta p q S y.block) (he : s.err t l = 0) : Calls Try.prog 14 #[Ptr p, .int .i64 t, .slice a n d] w fun e w' => e = .returned (.tuple #[.agg #[.int .i64 (s.read c t l).s, .int .i64 (s.read c t l).v], .int .i64 0]) ∧ ∃ v' S', TkX w' p q v' S' c (s.step c t l) ∧ (∀ i, S' i → S i ∨ w.heap.size ≤ i) ∧ But (Ta p q S) w w' := by
  have H := hideIt (fun W (a1 : After w W) => check_any (x.after a1) t a n d l (hr.after a1))
  have hb := s.err_cases t l
  rw [he] at H hb
  have ht0 : 0 ≤ t := by have := x.lo; omega
  have ht1 : t ≤ 2147483647 := by omega
  have hln := hr.1
  have HL := hideIt hln
  have h64 : (n : Int) ≤ 64 := by omega
  have HX := hideIt (And.intro x (And.intro hr hna))
  obtain ⟨R, hR⟩ : ∃ R, s.read c t l = R := ⟨_, rfl⟩
  have HRD := hideIt hR
  obtain ⟨s9, hs9⟩ : ∃ s9, s.step c t l = s9 := ⟨_, rfl⟩
  have HST := hideIt hs9
  rw [hR, hs9]
  clear hR hs9 hr hna hb he x hln
  by_cases hA : s.at_ c t = 3
  · have hop : s.upto c t l 0 = (s.goes t).anew := by rw [Ts.upto_zero]; unfold Ts.opn; rw [if_pos hA]
    have HOP := hideIt hop
    have HST0 : Hid (∀ W v' S', TkX W p q v' S' c (s.goes t) → Calls Try.prog 27 #[Ptr p, .int .i64 t] W fun e w' => e = .returned (.int .i64 3) ∧ w' = W) := by
      intro W v' S' x
      have := state_any x t
      rw [show (s.goes t).at_ c t = s.at_ c t from rfl, hA] at this
      exact this
    clear hop hA
    go_enter Try.func14, Try.ntmps14
    go_wp2_with fail
    refine (H.out _ (After.rfl.alloc _)).mono ?_
    rintro e w1 ⟨rfl, a1⟩
    have hg := (a1.block w.heap.size (by simp) (fun t => t)).trans (heap_alloc_new w _)
    have aw := (After.rfl.alloc _).trans a1
    have x1 := HX.out.1.after aw
    have c7 := blk_cell x1.at0 (i := 7) rfl
    have s7 := blk_soft x1.at0 7
    have x2 := x1.goes_ ht0 ht1
    have HX2 := hideIt (And.intro x2 (But.mono (T := Ta p q S) (but_one w1 p 7 (.int .i64 (t + 1))) (fun _ _ e => .inl e)))
    have HG := hideIt (And.intro hg (And.intro aw HX.out.1.not_in))
    clear x1 x2 hg aw a1 H
    have i1 : wrap64 (t + 1) = t + 1 := by unfold wrap64; omega
    go_wp2_with fail
    refine (HST0.out _ _ _ HX2.out.1).mono ?_
    rintro e w3 ⟨rfl, rfl⟩
    clear c7 s7
    have HB := hideIt (anew_any HX2.out.1)
    go_wp2_with fail
    refine HB.out.mono ?_
    rintro e w3 ⟨rfl, v3, S3, hx3⟩
    have hm3 := Mid.anew HX2.out.2 hx3
    rw [← HOP.out] at hm3
    have HM := hideIt hm3
    clear hm3 hx3 HB HST0
    clear HX2
    go_wp2_with fail
    go_loopw [33] (fun i wr => ∃ j : Nat, j ≤ n ∧ i = .int .i64 j ∧ Mid w1 p q S c (s.upto c t l j) wr) (fun i _ => n - (intOf i).toNat)
    case atStart => exact ⟨0, Nat.zero_le _, rfl, HM.out⟩
    case round =>
      obtain ⟨j, hj, rfl, hm⟩ := hrel
      clear HM HOP
      by_cases hjn : j < n
      · have i2 : (j : Int) < (n : Int) := by omega
        obtain ⟨v3, S3, x3, hS3, b3⟩ := hm
        have rr := (HX.out.2.1.after HG.out.2.1).but b3 (fun y hy h0 => HX.out.2.2 y hy h0)
        obtain ⟨b, off, r, rfl, hbl, hx, k0, k1, k2⟩ := rr.at_ hjn
        have HM2 := hideIt (And.intro hx (And.intro hS3 b3))
        have HH := hideIt (hear_any (x3.after (After.rfl.alloc (.cells #[.int .i64 r.k, .int .i64 r.m, .int .i64 r.e] 37))) t r)
        clear rr x3 hS3 b3 hx
        go_wp2_with fail
        refine HH.out.mono ?_
        rintro e w4 ⟨rfl, h4⟩
        have hm4 := Mid.hear HM2.out.2.1 (HM2.out.2.2.alloc _) h4
        rw [← Ts.upto_succ c t s HM2.out.1] at hm4
        have HM4 := hideIt hm4
        clear hm4 h4 HH HM2 k0 k1 k2
        go_wp2_with fail
        go_roundw
        case rel => exact ⟨j + 1, by omega, by go_num, HM4.out⟩
        case measure => simp [intOf]; omega
      · have i2 : ¬ (j : Int) < (n : Int) := by omega
        have hjn' : j = n := by omega
        rw [hjn', ← HL.out, Ts.upto_all] at hm
        clear hjn'
        obtain ⟨v3, S3, x3, hS3, b3⟩ := hm
        have HQ := hideIt (state_any x3 t)
        have hng : ¬ Ta p q S w.heap.size := HG.out.2.2
        obtain ⟨A, hA⟩ : ∃ A, (s.hears c t l).at_ c t = A := ⟨_, rfl⟩
        rw [hA] at HQ
        have HRD2 : Hid (R = (s.step c t l).rd A) := by
          have := HRD.out
          unfold Ts.read at this
          rw [hA] at this
          exact this.symm
        have HRX : Hid (∀ W v' S', TkX W p q v' S' c (s.step c t l) → Calls Try.prog 30 #[Ptr p, .int .i64 A] W fun e w' => e = .returned (.agg #[.int .i64 R.s, .int .i64 R.v]) ∧ After W w') := by
          intro W v' S' x
          have := reading_any x A
          rw [← HRD2.out] at this
          exact this
        have HM3 := hideIt (And.intro x3 (And.intro hS3 (And.intro b3 hng)))
        have HAA := hideIt hA
        by_cases h34 : A = 3 ∨ A = 4
        · have hst : s.step c t l = (s.hears c t l).anew := by unfold Ts.step Ts.shut; rw [hA, if_pos h34]
          have HS5 := hideIt hst
          rcases h34 with rfl | rfl
          all_goals
            have HB := hideIt (anew_any x3)
            clear hst hA hng x3 hS3 b3 HAA
            go_wp2_with fail
            refine HQ.out.mono ?_
            rintro e w4 ⟨rfl, rfl⟩
            go_wp2_with fail
            refine HB.out.mono ?_
            rintro e w5 ⟨rfl, v5, S5, x5, hS5, b5⟩
            have hm5 := Mid.anew HM3.out.2.2.1 ⟨x5, hS5, b5⟩
            rw [← HS5.out] at hm5
            obtain ⟨v6, S6, x6, hS6, b6⟩ := hm5
            have HE := hideIt (HRX.out _ _ _ x6)
            have HM6 := hideIt (And.intro x6 (And.intro hS6 b6))
            clear x5 hS5 b5 x6 hS6 b6 HB HQ
            go_wp2_with fail
            refine HE.out.mono ?_
            rintro e w7 ⟨rfl, a7⟩
            obtain ⟨x6, hS6, b6⟩ := HM6.out
            have hg7 := (a7.block w.heap.size (Nat.lt_of_lt_of_le (blk_lt HG.out.1) b6.size) (fun t => t)).trans ((b6.block w.heap.size (blk_lt HG.out.1) HM3.out.2.2.2).trans HG.out.1)
            obtain ⟨_, e0, e1, e2, e3⟩ := two_at hg7
            have HG7 := hideIt (And.intro hg7 a7)
            clear hg7 a7 x6 hS6 b6 HE
            go_wp2_with fail
            obtain ⟨_, q0, q1, _, _⟩ := two_at (two_set1 (two_set0 HG7.out.1 (.int .i64 R.s)) (.int .i64 R.v))
            exact bodyPost_ret (v := .tuple #[.agg #[.int .i64 R.s, .int .i64 R.v], .int .i64 0]) (by simp [results, Try.results14, go_sem, q0, q1]) rfl ⟨rfl, Mid.fin HG.out.2.1 (blk_lt HG.out.1) HX.out.1 HM6.out HG7.out.2 HST.out _ _⟩
        · have hst : s.step c t l = s.hears c t l := by unfold Ts.step Ts.shut; rw [hA, if_neg h34]
          have n3 : (A == 3) = false := by simp; omega
          have n4 : (A == 4) = false := by simp; omega
          rw [← hst] at x3
          have HE := hideIt (HRX.out _ _ _ x3)
          have HM6 := hideIt (And.intro x3 (And.intro hS3 b3))
          clear hst hA hng x3 hS3 b3 h34 HAA
          go_wp2_with fail
          refine HQ.out.mono ?_
          rintro e w4 ⟨rfl, rfl⟩
          go_wp2_with fail
          refine HE.out.mono ?_
          rintro e w7 ⟨rfl, a7⟩
          obtain ⟨x6, hS6, b6⟩ := HM6.out
          have hg7 := (a7.block w.heap.size (Nat.lt_of_lt_of_le (blk_lt HG.out.1) b6.size) (fun t => t)).trans ((b6.block w.heap.size (blk_lt HG.out.1) HM3.out.2.2.2).trans HG.out.1)
          obtain ⟨_, e0, e1, e2, e3⟩ := two_at hg7
          have HG7 := hideIt (And.intro hg7 a7)
          clear hg7 a7 x6 hS6 b6 HE
          go_wp2_with fail
          obtain ⟨_, q0, q1, _, _⟩ := two_at (two_set1 (two_set0 HG7.out.1 (.int .i64 R.s)) (.int .i64 R.v))
          exact bodyPost_ret (v := .tuple #[.agg #[.int .i64 R.s, .int .i64 R.v], .int .i64 0]) (by simp [results, Try.results14, go_sem, q0, q1]) rfl ⟨rfl, Mid.fin HG.out.2.1 (blk_lt HG.out.1) HX.out.1 HM6.out HG7.out.2 HST.out _ _⟩
  · have hop : s.upto c t l 0 = s.goes t := by rw [Ts.upto_zero]; unfold Ts.opn; rw [if_neg hA]
    have HOP := hideIt hop
    obtain ⟨A0, hA0⟩ : ∃ A0, s.at_ c t = A0 := ⟨_, rfl⟩
    have HST0 : Hid (∀ W v' S', TkX W p q v' S' c (s.goes t) → Calls Try.prog 27 #[Ptr p, .int .i64 t] W fun e w' => e = .returned (.int .i64 A0) ∧ w' = W) := by
      intro W v' S' x
      have := state_any x t
      rw [show (s.goes t).at_ c t = s.at_ c t from rfl, hA0] at this
      exact this
    have nA : (A0 == 3) = false := by rw [← hA0]; simp [hA]
    clear hop hA hA0
    go_enter Try.func14, Try.ntmps14
    go_wp2_with fail
    refine (H.out _ (After.rfl.alloc _)).mono ?_
    rintro e w1 ⟨rfl, a1⟩
    have hg := (a1.block w.heap.size (by simp) (fun t => t)).trans (heap_alloc_new w _)
    have aw := (After.rfl.alloc _).trans a1
    have x1 := HX.out.1.after aw
    have c7 := blk_cell x1.at0 (i := 7) rfl
    have s7 := blk_soft x1.at0 7
    have x2 := x1.goes_ ht0 ht1
    have HX2 := hideIt (And.intro x2 (But.mono (T := Ta p q S) (but_one w1 p 7 (.int .i64 (t + 1))) (fun _ _ e => .inl e)))
    have HG := hideIt (And.intro hg (And.intro aw HX.out.1.not_in))
    clear x1 x2 hg aw a1 H
    have i1 : wrap64 (t + 1) = t + 1 := by unfold wrap64; omega
    go_wp2_with fail
    refine (HST0.out _ _ _ HX2.out.1).mono ?_
    rintro e w3 ⟨rfl, rfl⟩
    clear c7 s7
    have hm3 : Mid w1 p q S c (s.goes t) (w1.setCell ⟨p, 7, none⟩ (.int .i64 (t + 1))) := ⟨v, S, HX2.out.1, fun _ h => .inl h, HX2.out.2⟩
    rw [← HOP.out] at hm3
    have HM := hideIt hm3
    clear hm3 HST0
    clear HX2
    go_wp2_with fail
    go_loopw [33] (fun i wr => ∃ j : Nat, j ≤ n ∧ i = .int .i64 j ∧ Mid w1 p q S c (s.upto c t l j) wr) (fun i _ => n - (intOf i).toNat)
    case atStart => exact ⟨0, Nat.zero_le _, rfl, HM.out⟩
    case round =>
      obtain ⟨j, hj, rfl, hm⟩ := hrel
      clear HM HOP
      by_cases hjn : j < n
      · have i2 : (j : Int) < (n : Int) := by omega
        obtain ⟨v3, S3, x3, hS3, b3⟩ := hm
        have rr := (HX.out.2.1.after HG.out.2.1).but b3 (fun y hy h0 => HX.out.2.2 y hy h0)
        obtain ⟨b, off, r, rfl, hbl, hx, k0, k1, k2⟩ := rr.at_ hjn
        have HM2 := hideIt (And.intro hx (And.intro hS3 b3))
        have HH := hideIt (hear_any (x3.after (After.rfl.alloc (.cells #[.int .i64 r.k, .int .i64 r.m, .int .i64 r.e] 37))) t r)
        clear rr x3 hS3 b3 hx
        go_wp2_with fail
        refine HH.out.mono ?_
        rintro e w4 ⟨rfl, h4⟩
        have hm4 := Mid.hear HM2.out.2.1 (HM2.out.2.2.alloc _) h4
        rw [← Ts.upto_succ c t s HM2.out.1] at hm4
        have HM4 := hideIt hm4
        clear hm4 h4 HH HM2 k0 k1 k2
        go_wp2_with fail
        go_roundw
        case rel => exact ⟨j + 1, by omega, by go_num, HM4.out⟩
        case measure => simp [intOf]; omega
      · have i2 : ¬ (j : Int) < (n : Int) := by omega
        have hjn' : j = n := by omega
        rw [hjn', ← HL.out, Ts.upto_all] at hm
        clear hjn'
        obtain ⟨v3, S3, x3, hS3, b3⟩ := hm
        have HQ := hideIt (state_any x3 t)
        have hng : ¬ Ta p q S w.heap.size := HG.out.2.2
        obtain ⟨A, hA⟩ : ∃ A, (s.hears c t l).at_ c t = A := ⟨_, rfl⟩
        rw [hA] at HQ
        have HRD2 : Hid (R = (s.step c t l).rd A) := by
          have := HRD.out
          unfold Ts.read at this
          rw [hA] at this
          exact this.symm
        have HRX : Hid (∀ W v' S', TkX W p q v' S' c (s.step c t l) → Calls Try.prog 30 #[Ptr p, .int .i64 A] W fun e w' => e = .returned (.agg #[.int .i64 R.s, .int .i64 R.v]) ∧ After W w') := by
          intro W v' S' x
          have := reading_any x A
          rw [← HRD2.out] at this
          exact this
        have HM3 := hideIt (And.intro x3 (And.intro hS3 (And.intro b3 hng)))
        have HAA := hideIt hA
        by_cases h34 : A = 3 ∨ A = 4
        · have hst : s.step c t l = (s.hears c t l).anew := by unfold Ts.step Ts.shut; rw [hA, if_pos h34]
          have HS5 := hideIt hst
          rcases h34 with rfl | rfl
          all_goals
            have HB := hideIt (anew_any x3)
            clear hst hA hng x3 hS3 b3 HAA
            go_wp2_with fail
            refine HQ.out.mono ?_
            rintro e w4 ⟨rfl, rfl⟩
            go_wp2_with fail
            refine HB.out.mono ?_
            rintro e w5 ⟨rfl, v5, S5, x5, hS5, b5⟩
            have hm5 := Mid.anew HM3.out.2.2.1 ⟨x5, hS5, b5⟩
            rw [← HS5.out] at hm5
            obtain ⟨v6, S6, x6, hS6, b6⟩ := hm5
            have HE := hideIt (HRX.out _ _ _ x6)
            have HM6 := hideIt (And.intro x6 (And.intro hS6 b6))
            clear x5 hS5 b5 x6 hS6 b6 HB HQ
            go_wp2_with fail
            refine HE.out.mono ?_
            rintro e w7 ⟨rfl, a7⟩
            obtain ⟨x6, hS6, b6⟩ := HM6.out
            have hg7 := (a7.block w.heap.size (Nat.lt_of_lt_of_le (blk_lt HG.out.1) b6.size) (fun t => t)).trans ((b6.block w.heap.size (blk_lt HG.out.1) HM3.out.2.2.2).trans HG.out.1)
            obtain ⟨_, e0, e1, e2, e3⟩ := two_at hg7
            have HG7 := hideIt (And.intro hg7 a7)
            clear hg7 a7 x6 hS6 b6 HE
            go_wp2_with fail
            obtain ⟨_, q0, q1, _, _⟩ := two_at (two_set1 (two_set0 HG7.out.1 (.int .i64 R.s)) (.int .i64 R.v))
            exact bodyPost_ret (v := .tuple #[.agg #[.int .i64 R.s, .int .i64 R.v], .int .i64 0]) (by simp [results, Try.results14, go_sem, q0, q1]) rfl ⟨rfl, Mid.fin HG.out.2.1 (blk_lt HG.out.1) HX.out.1 HM6.out HG7.out.2 HST.out _ _⟩
        · have hst : s.step c t l = s.hears c t l := by unfold Ts.step Ts.shut; rw [hA, if_neg h34]
          have n3 : (A == 3) = false := by simp; omega
          have n4 : (A == 4) = false := by simp; omega
          rw [← hst] at x3
          have HE := hideIt (HRX.out _ _ _ x3)
          have HM6 := hideIt (And.intro x3 (And.intro hS3 b3))
          clear hst hA hng x3 hS3 b3 h34 HAA
          go_wp2_with fail
          refine HQ.out.mono ?_
          rintro e w4 ⟨rfl, rfl⟩
          go_wp2_with fail
          refine HE.out.mono ?_
          rintro e w7 ⟨rfl, a7⟩
          obtain ⟨x6, hS6, b6⟩ := HM6.out
          have hg7 := (a7.block w.heap.size (Nat.lt_of_lt_of_le (blk_lt HG.out.1) b6.size) (fun t => t)).trans ((b6.block w.heap.size (blk_lt HG.out.1) HM3.out.2.2.2).trans HG.out.1)
          obtain ⟨_, e0, e1, e2, e3⟩ := two_at hg7
          have HG7 := hideIt (And.intro hg7 a7)
          clear hg7 a7 x6 hS6 b6 HE
          go_wp2_with fail
          obtain ⟨_, q0, q1, _, _⟩ := two_at (two_set1 (two_set0 HG7.out.1 (.int .i64 R.s)) (.int .i64 R.v))
          exact bodyPost_ret (v := .tuple #[.agg #[.int .i64 R.s, .int .i64 R.v], .int .i64 0]) (by simp [results, Try.results14, go_sem, q0, q1]) rfl ⟨rfl, Mid.fin HG.out.2.1 (blk_lt HG.out.1) HX.out.1 HM6.out HG7.out.2 HST.out _ _⟩
end Go.Proofs.Ytgapnimicaopcaa
