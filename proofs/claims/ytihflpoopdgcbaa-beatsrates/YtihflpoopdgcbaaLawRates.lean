/-
  BeatsRates.
-/
import Derived.Test.YtihflpoopdgcbaaBtT
import Derived.Test.YtihflpoopdgcbaaBtU
import Derived.Deep.RegionWith
namespace Go.Proofs.Ytihflpoopdgcbaa
open Go.RowKit
set_option maxRecDepth 8000
/-- Beats, the document's and others, of whatever worlds: what they answer. -/
structure Four (w : World) (zs : List Int) (va vb : Value) (o : Nat) (X Y : Nat → Int) (Z : Nat → Bool) (S0 S1 S2 S3 : Nat → World → Prop) : Prop where
  o : ∀ j W y, S0 j W → Calls Try.prog 10 #[Ptr o, .int .i64 y] W fun e w' => (∃ z, e = .returned (.int .i64 z)) ∧ S1 j w'
  a : ∀ j W, j < zs.length → S1 j W → Calls Try.prog 10 #[va, .int .i64 (zs.getD j 0)] W fun e w' => e = .returned (.int .i64 (X j)) ∧ S2 j w'
  b : ∀ j W, j < zs.length → S2 j W → Calls Try.prog 11 #[vb, .int .i64 (zs.getD j 0)] W fun e w' => e = .returned (.int .i64 (X j)) ∧ S3 j w'
  ra : ∀ j W, j < zs.length → S3 j W → Calls Try.prog 12 #[va] W fun e w' => e = .returned (.tuple #[.int .i64 (Y j), .bool (Z j)]) ∧ S3 j w'
  rb : ∀ j W, j < zs.length → S3 j W → Calls Try.prog 13 #[vb] W fun e w' => e = .returned (.tuple #[.int .i64 (Y j), .bool (Z j)]) ∧ S0 (j + 1) w'
  aft0 : ∀ j W, S0 j W → After w W
  aft1 : ∀ j W, S1 j W → After w W
  aft2 : ∀ j W, S2 j W → After w W
  dr1 : ∀ j W m, S1 j W → S1 j (W.drewN m)
structure SokX (w W : World) (p N : Nat) (la lb lo : List Int) (va vb vo : Value) : Prop where
  aft : After w W
  wp : w.heap.size ≤ p
  sz : p + 3 ≤ W.heap.size
  a : BtX W p (p + 3) N (lastN N la) va
  b : RbX W (p + 1) (p + 3) N lb vb
  o : BtX W (p + 2) (p + 3) 3 (lastN 3 lo) vo
  ab : ∀ k, vb.ownBlock = some k → va.ownBlock ≠ some k ∧ vo.ownBlock ≠ some k
def Sok (w W : World) (p N : Nat) (la lb : List Int) : Prop := ∃ lo va vb vo, SokX w W p N la lb lo va vb vo
theorem SokX.after {w W W' : World} {p N : Nat} {la lb lo : List Int} {va vb vo : Value} (x : SokX w W p N la lb lo va vb vo) (h : After W W') : SokX w W' p N la lb lo va vb vo :=
  ⟨x.aft.trans h, x.wp, Nat.le_trans x.sz h.size, x.a.after h, x.b.after h, x.o.after h, x.ab⟩
theorem Sok.after {w W W' : World} {p N : Nat} {la lb : List Int} (x : Sok w W p N la lb) (h : After W W') : Sok w W' p N la lb := by
  obtain ⟨lo, va, vb, vo, x⟩ := x
  exact ⟨lo, va, vb, vo, x.after h⟩
structure Sno (w W : World) (o : Nat) : Prop where
  aft : After w W
  wp : w.heap.size ≤ o
  sz : o + 1 ≤ W.heap.size
  ot : ∃ t v, BtX W o (o + 1) 3 (lastN 3 t) v
theorem Sno.after {w W W' : World} {o : Nat} (x : Sno w W o) (h : After W W') : Sno w W' o := by
  obtain ⟨t, v, ot⟩ := x.ot
  exact ⟨x.aft.trans h, x.wp, Nat.le_trans x.sz h.size, t, v, ot.after h⟩
theorem four_ok {w : World} {p N : Nat} {zs : List Int} (hz : zs.length ≤ 17592186043904) : Four w zs (Ptr p) (Ptr (p + 1)) (p + 2) (fun j => errT (tkn zs j) (zs.getD j 0)) (fun j => rv (lastN N (tkn zs (j + 1)))) (fun j => ris (lastN N (tkn zs (j + 1))))
    (fun j W => Sok w W p N (tkn zs j) (tkn zs j)) (fun j W => Sok w W p N (tkn zs j) (tkn zs j)) (fun j W => Sok w W p N (tkn zs (j + 1)) (tkn zs j)) (fun j W => Sok w W p N (tkn zs (j + 1)) (tkn zs (j + 1))) where
  o := fun j W y x => by
    obtain ⟨lo, va, vb, vo, x⟩ := x
    have hsz := x.sz
    refine (btBeat_any x.o x.sz y).mono ?_
    rintro e w' ⟨rfl, b, u, o', hu⟩
    refine ⟨⟨_, rfl⟩, _, va, vb, u, x.aft.then b (fun i hi t => ?_), x.wp, Nat.le_trans x.sz b.size, x.a.but b (fun t => ?_) (fun k hk t => ?_), x.b.but b (fun t => ?_) (fun k hk t => ?_), o', fun k hk => ⟨(x.ab k hk).1, fun h => ?_⟩⟩
    · have : i = p + 2 := t
      have := x.wp; omega
    · have : p = p + 2 := t
      omega
    · have : k = p + 2 := t
      have := (own_lt x.a.own hk).1; omega
    · have : p + 1 = p + 2 := t
      omega
    · have : k = p + 2 := t
      have := (own_lt x.b.own hk).1; omega
    · rcases hu with rfl | hu
      · exact (x.ab k hk).2 h
      · have := hu k h
        have := (own_lt x.b.own hk).2; omega
  a := fun j W hj x => by
    obtain ⟨lo, va, vb, vo, x⟩ := x
    have hsz := x.sz
    refine (btBeat_any x.a x.sz (zs.getD j 0)).mono ?_
    rintro e w' ⟨rfl, b, u, a', hu⟩
    refine ⟨rfl, lo, u, vb, vo, x.aft.then b (fun i hi t => ?_), x.wp, Nat.le_trans x.sz b.size, a', x.b.but b (fun t => ?_) (fun k hk t => ?_), x.o.but b (fun t => ?_) (fun k hk t => ?_), fun k hk => ⟨fun h => ?_, (x.ab k hk).2⟩⟩
    · have : i = p := t
      have := x.wp; omega
    · have : p + 1 = p := t
      omega
    · have : k = p := t
      have := (own_lt x.b.own hk).1; omega
    · have : p + 2 = p := t
      omega
    · have : k = p := t
      have := (own_lt x.o.own hk).1; omega
    · rcases hu with rfl | hu
      · exact (x.ab k hk).1 h
      · have := hu k h
        have := (own_lt x.b.own hk).2; omega
  b := fun j W hj x => by
    obtain ⟨lo, va, vb, vo, x⟩ := x
    have hsz := x.sz
    have hl := tkn_length zs j
    refine (rbBeat_any x.b x.sz (by omega) (zs.getD j 0)).mono ?_
    rintro e w' ⟨rfl, b, u, b', hu⟩
    refine ⟨rfl, lo, va, u, vo, x.aft.then b (fun i hi t => ?_), x.wp, Nat.le_trans x.sz b.size, x.a.but b (fun t => ?_) (fun k hk t => ?_), b', x.o.but b (fun t => ?_) (fun k hk t => ?_), fun k hk => ?_⟩
    · have := x.wp
      rcases t with t | t
      · omega
      · have := (own_lt x.b.own t).1; omega
    · rcases t with t | t
      · omega
      · have := (own_lt x.b.own t).1; omega
    · rcases t with t | t
      · have := (own_lt x.a.own hk).1; omega
      · exact (x.ab k t).1 hk
    · rcases t with t | t
      · omega
      · have := (own_lt x.b.own t).1; omega
    · rcases t with t | t
      · have := (own_lt x.o.own hk).1; omega
      · exact (x.ab k t).2 hk
    · rcases hu with hu | hu
      · rw [hu] at hk
        exact x.ab k hk
      · have h1 := hu k hk
        exact ⟨fun h => by have := (own_lt x.a.own h).2; omega, fun h => by have := (own_lt x.o.own h).2; omega⟩
  ra := fun j W hj x => by
    obtain ⟨lo, va, vb, vo, x⟩ := x
    refine (btRate_any x.a).mono ?_
    rintro e w' ⟨rfl, d⟩
    exact ⟨rfl, lo, va, vb, vo, x.after d.after⟩
  rb := fun j W hj x => by
    obtain ⟨lo, va, vb, vo, x⟩ := x
    have hl := tkn_length zs (j + 1)
    refine (rbRate_any x.b (by omega)).mono ?_
    rintro e w' ⟨rfl, d⟩
    exact ⟨rfl, lo, va, vb, vo, x.after d.after⟩
  aft0 := fun _ _ x => by obtain ⟨_, _, _, _, x⟩ := x; exact x.aft
  aft1 := fun _ _ x => by obtain ⟨_, _, _, _, x⟩ := x; exact x.aft
  aft2 := fun _ _ x => by obtain ⟨_, _, _, _, x⟩ := x; exact x.aft
  dr1 := fun _ _ m x => x.after (After.rfl.draws m)
theorem four_no {w : World} {o : Nat} {zs : List Int} : Four w zs (.pointer none) (.pointer none) o (fun _ => 1) (fun _ => 0) (fun _ => false) (fun _ W => Sno w W o) (fun _ W => Sno w W o) (fun _ W => Sno w W o) (fun _ W => Sno w W o) where
  o := fun j W y x => by
    obtain ⟨t, v, ot⟩ := x.ot
    refine (btBeat_any ot x.sz y).mono ?_
    rintro e w' ⟨rfl, b, u, o', hu⟩
    refine ⟨⟨_, rfl⟩, x.aft.then b (fun i hi t => ?_), x.wp, Nat.le_trans x.sz b.size, _, _, o'⟩
    have : i = o := t
    have := x.wp; omega
  a := fun j W hj x => (btBeat_none (btNone_nil W) _).mono (fun e w' q => ⟨q.1, by rw [q.2]; exact x⟩)
  b := fun j W hj x => (rbBeat_nil W _).mono (fun e w' q => ⟨q.1, by rw [q.2]; exact x⟩)
  ra := fun j W hj x => (btRate_none (btNone_nil W)).mono (fun e w' q => ⟨q.1, by rw [q.2]; exact x⟩)
  rb := fun j W hj x => (rbRate_nil W).mono (fun e w' q => ⟨q.1, by rw [q.2]; exact x⟩)
  aft0 := fun _ _ x => x.aft
  aft1 := fun _ _ x => x.aft
  aft2 := fun _ _ x => x.aft
  dr1 := fun _ _ m x => x.after (After.rfl.draws m)
/-- What the three calls of New answer. -/
structure Born (w W : World) (K : Int) (va vb : Value) (o : Nat) (E : Int) (W1 W2 W3 : World) : Prop where
  a : Calls Try.prog 8 #[.int .i64 K] W fun e w' => e = .returned (.tuple #[va, .int .i64 E]) ∧ w' = W1
  b : Calls Try.prog 9 #[.int .i64 K] W1 fun e w' => e = .returned (.tuple #[vb, .int .i64 E]) ∧ w' = W2
  c : Calls Try.prog 8 #[.int .i64 3] W2 fun e w' => e = .returned (.tuple #[Ptr o, .int .i64 0]) ∧ w' = W3
theorem born {w W : World} (h : After w W) (K : Int) (zs : List Int) (hz : zs.length ≤ 17592186043904) :
    (∃ p W1 W2 W3 X Y Z S0 S1 S2 S3, Born w W K (Ptr p) (Ptr (p + 1)) (p + 2) 0 W1 W2 W3 ∧ Four w zs (Ptr p) (Ptr (p + 1)) (p + 2) X Y Z S0 S1 S2 S3 ∧ S0 0 W3) ∨
    (∃ o W1 W2 W3 X Y Z S0 S1 S2 S3, Born w W K (.pointer none) (.pointer none) o 2 W1 W2 W3 ∧ Four w zs (.pointer none) (.pointer none) o X Y Z S0 S1 S2 S3 ∧ S0 0 W3) := by
  by_cases hm : May K
  · left
    obtain ⟨N, rfl⟩ : ∃ N : Nat, K = (N : Int) := ⟨K.toNat, by have := hm.1; omega⟩
    have h1 : 2 ≤ N ∧ N ≤ 8 := by have := hm.1; have := hm.2; omega
    have z1 : (W.alloc (.cells #[.int .i64 (N : Int), .slice none 0 0] 42)).heap.size = W.heap.size + 1 := by simp
    have z2 : ((W.alloc (.cells #[.int .i64 (N : Int), .slice none 0 0] 42)).alloc (.cells #[.int .i64 N, .slice none 0 0] 44)).heap.size = W.heap.size + 2 := by simp
    have y1 : (W.alloc (.cells #[.int .i64 (N : Int), .slice none 0 0] 42)).heap[W.heap.size]? = _ := heap_alloc_new W _
    have y2 := heap_alloc_new (W.alloc (.cells #[.int .i64 (N : Int), .slice none 0 0] 42)) (.cells #[.int .i64 N, .slice none 0 0] 44)
    have y3 := heap_alloc_new ((W.alloc (.cells #[.int .i64 (N : Int), .slice none 0 0] 42)).alloc (.cells #[.int .i64 N, .slice none 0 0] 44)) (.cells #[.int .i64 3, .slice none 0 0] 42)
    have c1 := btNew_ok W N hm
    have c2 := rbNew_ok (W.alloc (.cells #[.int .i64 (N : Int), .slice none 0 0] 42)) N hm
    have c3 := btNew_ok ((W.alloc (.cells #[.int .i64 (N : Int), .slice none 0 0] 42)).alloc (.cells #[.int .i64 N, .slice none 0 0] 44)) 3 (by unfold May; omega)
    rw [z1] at y2 c2
    rw [z2] at y3 c3
    refine ⟨W.heap.size, _, _, _, _, _, _, _, _, _, _, ⟨c1, c2, c3⟩, four_ok (w := w) (p := W.heap.size) (N := N) hz, ?_⟩
    have e0 : tkn zs 0 = [] := rfl
    have e1 : ∀ n, lastN n [] = [] := fun n => by simp [lastN]
    refine ⟨[], .slice none 0 0, .slice none 0 0, .slice none 0 0, ((h.alloc _).alloc _).alloc _, h.size, by simp, ?_, ?_, ?_, fun k hk => by cases hk⟩
    · rw [e0, e1]
      refine bt_new (by omega) ?_ h1.1 h1.2
      rw [Below.heap_alloc _ _ _ (by rw [z2]; omega), Below.heap_alloc _ _ _ (by rw [z1]; omega)]
      exact y1
    · rw [e0]
      refine rb_new (by omega) ?_ h1.1 h1.2
      rw [Below.heap_alloc _ _ _ (by rw [z2]; omega)]
      exact y2
    · rw [e1]
      exact bt_new (by omega) y3 (by omega) (by omega)
  · right
    have c1 := btNew_no W K hm
    have c2 := rbNew_no W K hm
    have c3 := btNew_ok W 3 (by unfold May; omega)
    refine ⟨W.heap.size, _, _, _, _, _, _, _, _, _, _, ⟨c1, c2, c3⟩, four_no (w := w) (o := W.heap.size), ?_⟩
    exact ⟨h.alloc _, h.size, by simp, [], _, bt_new (by omega) (heap_alloc_new W _) (by omega) (by omega)⟩
set_option maxHeartbeats 4000000 in
theorem law_rates (w : World) (n : Int) (a : Option Addr) (k c : Nat) (zs : List Int) (hl : IRow w a k zs) (hk : k ≤ 17592186043904) :
    Calls Try.prog 3 #[.int .i64 n, .slice a k c] w fun e w' => e = .returned (.bool true) ∧ After w w' := by
  have hlen := hl.1
  have HL := hideIt hl
  have HN := hideIt hlen
  have HZ := hideIt (show zs.length ≤ 17592186043904 by omega)
  have k0 : (k : Int) ≤ 17592186043904 := by omega
  clear hl hlen hk
  go_enter Try.func3, Try.ntmps3
  go_wp2_with fail
  go_loopw [5] (fun i wr => ∃ j : Nat, j ≤ 8 ∧ i = .int .i64 j ∧ After w wr) (fun i _ => 8 - (intOf i).toNat)
  case atStart => exact ⟨0, Nat.zero_le _, rfl, After.rfl⟩
  case round =>
    obtain ⟨j, hj, rfl, af⟩ := hrel
    by_cases hj9 : j < 8
    · have i1 : (j : Int) < 8 := by omega
      obtain ⟨K, hK⟩ : ∃ K : Int, K = (if 0 < j then 1 + (j : Int) else n) := ⟨_, rfl⟩
      have hb := born af K zs HZ.out
      clear af
      rcases hb with ⟨p, W1, W2, W3, X, Y, Z, S0, S1, S2, S3, bn, th, st⟩ | ⟨p, W1, W2, W3, X, Y, Z, S0, S1, S2, S3, bn, th, st⟩
      all_goals
        have BN := hideIt bn
        have TH := hideIt th
        have ST := hideIt st
        clear bn th st
        rcases (by omega : (0 < j ∧ (0 : Int) < (j : Int)) ∨ (¬ 0 < j ∧ ¬ (0 : Int) < (j : Int))) with ⟨hjp, i2⟩ | ⟨hjp, i2⟩
        all_goals
          first | rw [if_pos hjp] at hK | rw [if_neg hjp] at hK
          subst hK
          clear hjp
          go_wp2_with fail
          refine BN.out.a.mono ?_
          rintro e w' ⟨rfl, rfl⟩
          go_wp2_with fail
          refine BN.out.b.mono ?_
          rintro e w' ⟨rfl, rfl⟩
          go_wp2_with fail
          refine BN.out.c.mono ?_
          rintro e w' ⟨rfl, rfl⟩
          clear BN
          go_wp2_with fail
          go_loopw [13] (fun i wr => ∃ q : Nat, q ≤ k ∧ i = .int .i64 q ∧ S0 q wr) (fun i _ => k - (intOf i).toNat)
          case atStart => exact ⟨0, Nat.zero_le _, rfl, ST.out⟩
          case round =>
            obtain ⟨q, hq, rfl, s0⟩ := hrel
            clear ST
            by_cases hqk : q < k
            · have i3 : (q : Int) < (k : Int) := by omega
              have hqz : q < zs.length := by have := HN.out; omega
              obtain ⟨b, off, rfl, hb, e0⟩ := HL.out.cellAt hqk
              have HE := hideIt (fun W (h : After w W) => (h.cell hb (off + q)).trans e0)
              have HO := hideIt (fun y => TH.out.o q _ y s0)
              have HA := hideIt (fun W m (s : S1 q W) => TH.out.a q _ hqz (TH.out.dr1 q W m s))
              have HBB := hideIt (fun W (s : S2 q W) => TH.out.b q W hqz s)
              have HRA := hideIt (fun W (s : S3 q W) => TH.out.ra q W hqz s)
              have HRB := hideIt (fun W (s : S3 q W) => TH.out.rb q W hqz s)
              have hx : (X q != X q) = false := by simp
              have hy : (Y q != Y q) = false := by simp
              have hzz : (Z q != Z q) = false := by simp
              clear e0 s0
              generalize zs.getD q 0 = z at *
              go_wp2_with fail
              refine (HO.out _).mono ?_
              rintro e w4 ⟨⟨zz, rfl⟩, s1⟩
              have f1 := HE.out _ (TH.out.aft1 _ _ s1)
              have HA1 := hideIt (fun m => HA.out _ m s1)
              clear s1 HO HA
              go_wp2_with fail
              go_region_with (first | (go_at_call 10; refine (HA1.out 1).mono ?_; rintro e w5 ⟨rfl, s2⟩; (have f2 := HE.out _ (TH.out.aft2 _ _ s2))) | (go_at_call 11; refine (HBB.out _ (by assumption)).mono ?_; rintro e w6 ⟨rfl, s3⟩))
              all_goals
                simp only [Act.put, List.getElem_toArray, List.getElem_cons_succ, List.getElem_cons_zero, List.setIfInBounds_toArray, List.set_cons_succ, List.set_cons_zero]
                have HR := hideIt (HRA.out _ s3)
                clear s3 f1 f2 HA1 HBB HRA
                go_wp2_with fail
                refine HR.out.mono ?_
                rintro e w7 ⟨rfl, s4⟩
                have HR2 := hideIt (HRB.out _ s4)
                clear s4 HR HRB
                go_wp2_with fail
                refine HR2.out.mono ?_
                rintro e w8 ⟨rfl, s5⟩
                have S5 := hideIt s5
                clear s5 HR2
                go_wp2
                go_roundw
                case rel => exact ⟨q + 1, by omega, by go_num, S5.out⟩
                case measure => simp [intOf]; omega
            · have i3 : ¬ (q : Int) < (k : Int) := by omega
              have AF := hideIt (TH.out.aft0 _ _ s0)
              clear s0
              go_wp2
              go_roundw
              case rel => exact ⟨j + 1, by omega, by go_num, AF.out⟩
              case measure => simp [intOf]; omega
    · have i1 : ¬ (j : Int) < 8 := by omega
      have HW := hideIt (works_any wr)
      have AF := hideIt af
      clear af
      go_wp2_with fail
      refine HW.out.mono ?_
      rintro e w2 ⟨rfl, a2⟩
      have HF := hideIt (AF.out.trans a2)
      clear a2 HW
      go_wp2
      go_ret
      exact ⟨rfl, HF.out⟩
end Go.Proofs.Ytihflpoopdgcbaa
