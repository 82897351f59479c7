/-
  The contract of the document's answer 'Text'.
-/
import Derived.Test.YtlfcihanhfabmaaGreatDoorX1RefDig
import Derived.Test.YtlfcihanhfabmaaGreatDoorX1Ref
namespace Go.Proofs.YtlfcihanhfabmaaGreatDoor.L1
open Go.RowKit
set_option maxRecDepth 8000
theorem S_at (l : List UInt8) (k : Nat) (h : k < (S l).size) : (((S l)[k]'h).toNat : Int) = bt l k := bt_at (S l) k h
theorem S_cut (l : List UInt8) (k : Nat) : (S l).extract 0 k = S (l.take k) := by
  rw [Lib.extract_eq, S_list, List.drop_zero, Nat.sub_zero]; rfl
def mStr : Value → Nat
  | .string s => s.size
  | _ => 0
theorem mStr_S (l : List UInt8) : mStr (.string (S l)) = l.length := rfl
theorem digits1_int (n : Int) (h0 : 0 ≤ n) (h1 : n ≤ 2147483647) (w : World) :
    Calls Tryz.prog 71 #[.int .i64 n, .int .i64 1] w fun e w' => e = .returned (.string (S (Lib.itoa n))) ∧ After w w' := by
  have h := digits1_any n.toNat (by omega) w
  have e : ((n.toNat : Nat) : Int) = n := by omega
  have e2 : Lib.itoa n = Lib.decDigits n.toNat := by unfold Lib.itoa; rw [if_neg (by omega)]
  rw [e] at h
  rw [e2]
  exact h
set_option maxRecDepth 100000 in
set_option maxHeartbeats 1000000 in
theorem refText_pos_z (v n u : Int) (w : World) (hv : cl v = n) (n0 : 0 ≤ n) (n1 : n ≤ 2147483647) (hp : n % 1000 = 0) (hu : n / 1000 = u) (u0 : 0 ≤ u) (u1 : u ≤ 2147483647) (hT : textL v = Lib.itoa u) :
    Calls Tryz.prog 46 #[.int .i64 v] w fun e w' => e = .returned (.string (S (textL v))) ∧ After w w' := by
  have HT := hideIt hT
  have i1 := itoa_len u u0 u1
  have z1 : (S (Lib.itoa u)).size ≤ 10 := i1
  have HZ : Hid ((S (Lib.itoa u)).size ≤ 10) := by
    show (Lib.itoa u).length ≤ 10
    exact i1
  clear hT i1
  go_enter Tryz.func46, Tryz.ntmps46
  go_wp2_with fail
  refine (refClamp_any v _).mono ?_
  rintro e w' ⟨rfl, rfl⟩
  have k1 : (⟨#[]⟩ : ByteArray) ++ S (Lib.itoa u) = S (Lib.itoa u) := S_cat [] (Lib.itoa u)
  have k2 : S (Lib.itoa u) ++ (⟨#[]⟩ : ByteArray) = S (textL v) := by
    rw [HT.out]; exact (S_cat _ []).trans (by rw [List.append_nil])
  have z5 : (S (Lib.itoa u)).size ≤ 10 := HZ.out
  go_wp2_with fail
  refine (digits1_int u u0 u1 _).mono ?_
  rintro e w2 ⟨rfl, hb2⟩
  go_wp2
  go_ret
  exact ⟨rfl, hb2⟩
set_option maxRecDepth 100000 in
set_option maxHeartbeats 1000000 in
theorem refText_pos (v n p u : Int) (w : World) (hv : cl v = n) (n0 : 0 ≤ n) (n1 : n ≤ 2147483647) (hp : n % 1000 = p) (hu : n / 1000 = u) (p0 : 0 < p) (p1 : p < 1000) (u0 : 0 ≤ u) (u1 : u ≤ 2147483647) (hT : textL v = (Lib.itoa u) ++ partL p) :
    Calls Tryz.prog 46 #[.int .i64 v] w fun e w' => e = .returned (.string (S (textL v))) ∧ After w w' := by
  obtain ⟨q, hq⟩ : ∃ q, q = p / 100 := ⟨_, rfl⟩
  obtain ⟨r, hr⟩ : ∃ q, q = p % 100 / 10 := ⟨_, rfl⟩
  obtain ⟨t, ht⟩ : ∃ q, q = p % 10 := ⟨_, rfl⟩
  have b1 : 0 ≤ q := by omega
  have b2 : q ≤ 9 := by omega
  have b3 : 0 ≤ r := by omega
  have b4 : r ≤ 9 := by omega
  have b5 : 0 ≤ t := by omega
  have b6 : t ≤ 9 := by omega
  have HP : Hid (partL p = if t = 0 then (if r = 0 then [46, dgB q] else [46, dgB q, dgB r]) else [46, dgB q, dgB r, dgB t]) := by
    show partL p = _
    unfold partL
    rw [if_neg (by omega), ← hq, ← hr, ← ht]
    by_cases c1 : t = 0
    · rw [if_pos c1, if_pos c1]
      by_cases c2 : r = 0
      · rw [if_pos (by omega), if_pos c2]
      · rw [if_neg (by omega), if_neg c2]
    · rw [if_neg c1, if_neg (by omega), if_neg c1]
  have hd3 := fun w => digits3_any p (by omega) p1 w
  rw [← hq, ← hr, ← ht] at hd3
  have HD := hideIt hd3
  have HQ : Hid (r = 0 → t = 0 → q ≠ 0) := by intro h1 h2; omega
  have HT := hideIt hT
  have i1 := itoa_len u u0 u1
  have z1 : (S (Lib.itoa u)).size ≤ 10 := i1
  have HZ : Hid ((S (Lib.itoa u)).size ≤ 10) := by
    show (Lib.itoa u).length ≤ 10
    exact i1
  have k0 : (⟨#[46]⟩ : ByteArray) ++ S [dgB q, dgB r, dgB t] = S [46, dgB q, dgB r, dgB t] := S_cat [46] [dgB q, dgB r, dgB t]
  have z2 : (S [dgB q, dgB r, dgB t]).size = 3 := rfl
  have hpn : (p == 0) = false := by rw [beq_eq_false_iff_ne]; omega
  clear hq hr ht hd3 hT i1
  go_enter Tryz.func46, Tryz.ntmps46
  go_wp2_with fail
  refine (refClamp_any v _).mono ?_
  rintro e w' ⟨rfl, rfl⟩
  go_wp2_with fail
  refine (HD.out _).mono ?_
  rintro e w1 ⟨rfl, hb1⟩
  have HB1 := hideIt hb1
  clear hb1
  go_wp2
  go_loop [4] (fun part => part = .string (S [46, dgB q, dgB r, dgB t]) ∨ (t = 0 ∧ part = .string (S [46, dgB q, dgB r])) ∨ (t = 0 ∧ r = 0 ∧ part = .string (S [46, dgB q]))) (fun part => mStr part)
  case atStart => exact Or.inl rfl
  case round =>
    obtain rfl | ⟨ht0, rfl⟩ | ⟨ht0, hr0, rfl⟩ := hrel
    · have z4 : (S [46, dgB q, dgB r, dgB t]).size = 4 := rfl
      have hc := S_at [46, dgB q, dgB r, dgB t] 3 (by rw [z4]; decide)
      have hc' : bt [46, dgB q, dgB r, dgB t] 3 = 48 + t := dgB_val t b5 b6
      rw [hc'] at hc
      have hx' : (S [46, dgB q, dgB r, dgB t]).extract 0 3 = S [46, dgB q, dgB r] := S_cut [46, dgB q, dgB r, dgB t] 3
      clear hc'
      by_cases ht0 : t = 0
      · subst ht0
        go_wp2
        go_round
        case rel => exact Or.inr (Or.inl ⟨trivial, rfl⟩)
        case measure => rw [mStr_S, mStr_S]; simp
      · have hne : (48 + t == 48) = false := by rw [beq_eq_false_iff_ne]; omega
        have HX : Hid (partL p = [46, dgB q, dgB r, dgB t]) := by
          show partL p = _
          rw [HP.out, if_neg ht0]
        have k1 : (⟨#[]⟩ : ByteArray) ++ S (Lib.itoa u) = S (Lib.itoa u) := S_cat [] (Lib.itoa u)
        have k2 : S (Lib.itoa u) ++ S [46, dgB q, dgB r, dgB t] = S (textL v) := by
          rw [HT.out]; rw [HX.out]; exact S_cat _ _
        have z5 : (S (Lib.itoa u)).size ≤ 10 := HZ.out
        go_wp2_with fail
        refine (digits1_int u u0 u1 _).mono ?_
        rintro e w2 ⟨rfl, hb2⟩
        go_wp2
        go_ret
        exact ⟨rfl, After.trans HB1.out hb2⟩
    · have z4 : (S [46, dgB q, dgB r]).size = 3 := rfl
      have hc := S_at [46, dgB q, dgB r] 2 (by rw [z4]; decide)
      have hc' : bt [46, dgB q, dgB r] 2 = 48 + r := dgB_val r b3 b4
      rw [hc'] at hc
      have hx' : (S [46, dgB q, dgB r]).extract 0 2 = S [46, dgB q] := S_cut [46, dgB q, dgB r] 2
      clear hc'
      by_cases hr0 : r = 0
      · subst hr0
        go_wp2
        go_round
        case rel => exact Or.inr (Or.inr ⟨ht0, trivial, rfl⟩)
        case measure => rw [mStr_S, mStr_S]; simp
      · have hne : (48 + r == 48) = false := by rw [beq_eq_false_iff_ne]; omega
        have HX : Hid (partL p = [46, dgB q, dgB r]) := by
          show partL p = _
          rw [HP.out, if_pos ht0, if_neg hr0]
        clear ht0
        have k1 : (⟨#[]⟩ : ByteArray) ++ S (Lib.itoa u) = S (Lib.itoa u) := S_cat [] (Lib.itoa u)
        have k2 : S (Lib.itoa u) ++ S [46, dgB q, dgB r] = S (textL v) := by
          rw [HT.out]; rw [HX.out]; exact S_cat _ _
        have z5 : (S (Lib.itoa u)).size ≤ 10 := HZ.out
        go_wp2_with fail
        refine (digits1_int u u0 u1 _).mono ?_
        rintro e w2 ⟨rfl, hb2⟩
        go_wp2
        go_ret
        exact ⟨rfl, After.trans HB1.out hb2⟩
    · have z4 : (S [46, dgB q]).size = 2 := rfl
      have hc := S_at [46, dgB q] 1 (by rw [z4]; decide)
      have hc' : bt [46, dgB q] 1 = 48 + q := dgB_val q b1 b2
      rw [hc'] at hc
      clear hc'
      have hq0 := HQ.out hr0 ht0
      have hne : (48 + q == 48) = false := by rw [beq_eq_false_iff_ne]; omega
      have HX : Hid (partL p = [46, dgB q]) := by
        show partL p = _
        rw [HP.out, if_pos ht0, if_pos hr0]
      clear ht0 hr0 hq0
      have k1 : (⟨#[]⟩ : ByteArray) ++ S (Lib.itoa u) = S (Lib.itoa u) := S_cat [] (Lib.itoa u)
      have k2 : S (Lib.itoa u) ++ S [46, dgB q] = S (textL v) := by
        rw [HT.out]; rw [HX.out]; exact S_cat _ _
      have z5 : (S (Lib.itoa u)).size ≤ 10 := HZ.out
      go_wp2_with fail
      refine (digits1_int u u0 u1 _).mono ?_
      rintro e w2 ⟨rfl, hb2⟩
      go_wp2
      go_ret
      exact ⟨rfl, After.trans HB1.out hb2⟩
set_option maxRecDepth 100000 in
set_option maxHeartbeats 1000000 in
theorem refText_neg_z (v n u : Int) (w : World) (hv : cl v = -n) (n0 : 0 < n) (n1 : n ≤ 2147483647) (hp : n % 1000 = 0) (hu : n / 1000 = u) (u0 : 0 ≤ u) (u1 : u ≤ 2147483647) (hT : textL v = 45 :: Lib.itoa u) :
    Calls Tryz.prog 46 #[.int .i64 v] w fun e w' => e = .returned (.string (S (textL v))) ∧ After w w' := by
  have HT := hideIt hT
  have i1 := itoa_len u u0 u1
  have z1 : (S (Lib.itoa u)).size ≤ 10 := i1
  have HZ : Hid ((S (45 :: Lib.itoa u)).size ≤ 11) := by
    show (45 :: Lib.itoa u).length ≤ 11
    simp; omega
  clear hT i1
  go_enter Tryz.func46, Tryz.ntmps46
  go_wp2_with fail
  refine (refClamp_any v _).mono ?_
  rintro e w' ⟨rfl, rfl⟩
  have k1 : (⟨#[45]⟩ : ByteArray) ++ S (Lib.itoa u) = S (45 :: Lib.itoa u) := S_cat [45] (Lib.itoa u)
  have k2 : S (45 :: Lib.itoa u) ++ (⟨#[]⟩ : ByteArray) = S (textL v) := by
    rw [HT.out]; exact (S_cat _ []).trans (by rw [List.append_nil])
  have z5 : (S (45 :: Lib.itoa u)).size ≤ 11 := HZ.out
  go_wp2_with fail
  refine (digits1_int u u0 u1 _).mono ?_
  rintro e w2 ⟨rfl, hb2⟩
  go_wp2
  go_ret
  exact ⟨rfl, hb2⟩
set_option maxRecDepth 100000 in
set_option maxHeartbeats 1000000 in
theorem refText_neg (v n p u : Int) (w : World) (hv : cl v = -n) (n0 : 0 < n) (n1 : n ≤ 2147483647) (hp : n % 1000 = p) (hu : n / 1000 = u) (p0 : 0 < p) (p1 : p < 1000) (u0 : 0 ≤ u) (u1 : u ≤ 2147483647) (hT : textL v = (45 :: Lib.itoa u) ++ partL p) :
    Calls Tryz.prog 46 #[.int .i64 v] w fun e w' => e = .returned (.string (S (textL v))) ∧ After w w' := by
  obtain ⟨q, hq⟩ : ∃ q, q = p / 100 := ⟨_, rfl⟩
  obtain ⟨r, hr⟩ : ∃ q, q = p % 100 / 10 := ⟨_, rfl⟩
  obtain ⟨t, ht⟩ : ∃ q, q = p % 10 := ⟨_, rfl⟩
  have b1 : 0 ≤ q := by omega
  have b2 : q ≤ 9 := by omega
  have b3 : 0 ≤ r := by omega
  have b4 : r ≤ 9 := by omega
  have b5 : 0 ≤ t := by omega
  have b6 : t ≤ 9 := by omega
  have HP : Hid (partL p = if t = 0 then (if r = 0 then [46, dgB q] else [46, dgB q, dgB r]) else [46, dgB q, dgB r, dgB t]) := by
    show partL p = _
    unfold partL
    rw [if_neg (by omega), ← hq, ← hr, ← ht]
    by_cases c1 : t = 0
    · rw [if_pos c1, if_pos c1]
      by_cases c2 : r = 0
      · rw [if_pos (by omega), if_pos c2]
      · rw [if_neg (by omega), if_neg c2]
    · rw [if_neg c1, if_neg (by omega), if_neg c1]
  have hd3 := fun w => digits3_any p (by omega) p1 w
  rw [← hq, ← hr, ← ht] at hd3
  have HD := hideIt hd3
  have HQ : Hid (r = 0 → t = 0 → q ≠ 0) := by intro h1 h2; omega
  have HT := hideIt hT
  have i1 := itoa_len u u0 u1
  have z1 : (S (Lib.itoa u)).size ≤ 10 := i1
  have HZ : Hid ((S (45 :: Lib.itoa u)).size ≤ 11) := by
    show (45 :: Lib.itoa u).length ≤ 11
    simp; omega
  have k0 : (⟨#[46]⟩ : ByteArray) ++ S [dgB q, dgB r, dgB t] = S [46, dgB q, dgB r, dgB t] := S_cat [46] [dgB q, dgB r, dgB t]
  have z2 : (S [dgB q, dgB r, dgB t]).size = 3 := rfl
  have hpn : (p == 0) = false := by rw [beq_eq_false_iff_ne]; omega
  clear hq hr ht hd3 hT i1
  go_enter Tryz.func46, Tryz.ntmps46
  go_wp2_with fail
  refine (refClamp_any v _).mono ?_
  rintro e w' ⟨rfl, rfl⟩
  go_wp2_with fail
  refine (HD.out _).mono ?_
  rintro e w1 ⟨rfl, hb1⟩
  have HB1 := hideIt hb1
  clear hb1
  go_wp2
  go_loop [4] (fun part => part = .string (S [46, dgB q, dgB r, dgB t]) ∨ (t = 0 ∧ part = .string (S [46, dgB q, dgB r])) ∨ (t = 0 ∧ r = 0 ∧ part = .string (S [46, dgB q]))) (fun part => mStr part)
  case atStart => exact Or.inl rfl
  case round =>
    obtain rfl | ⟨ht0, rfl⟩ | ⟨ht0, hr0, rfl⟩ := hrel
    · have z4 : (S [46, dgB q, dgB r, dgB t]).size = 4 := rfl
      have hc := S_at [46, dgB q, dgB r, dgB t] 3 (by rw [z4]; decide)
      have hc' : bt [46, dgB q, dgB r, dgB t] 3 = 48 + t := dgB_val t b5 b6
      rw [hc'] at hc
      have hx' : (S [46, dgB q, dgB r, dgB t]).extract 0 3 = S [46, dgB q, dgB r] := S_cut [46, dgB q, dgB r, dgB t] 3
      clear hc'
      by_cases ht0 : t = 0
      · subst ht0
        go_wp2
        go_round
        case rel => exact Or.inr (Or.inl ⟨trivial, rfl⟩)
        case measure => rw [mStr_S, mStr_S]; simp
      · have hne : (48 + t == 48) = false := by rw [beq_eq_false_iff_ne]; omega
        have HX : Hid (partL p = [46, dgB q, dgB r, dgB t]) := by
          show partL p = _
          rw [HP.out, if_neg ht0]
        have k1 : (⟨#[45]⟩ : ByteArray) ++ S (Lib.itoa u) = S (45 :: Lib.itoa u) := S_cat [45] (Lib.itoa u)
        have k2 : S (45 :: Lib.itoa u) ++ S [46, dgB q, dgB r, dgB t] = S (textL v) := by
          rw [HT.out]; rw [HX.out]; exact S_cat _ _
        have z5 : (S (45 :: Lib.itoa u)).size ≤ 11 := HZ.out
        go_wp2_with fail
        refine (digits1_int u u0 u1 _).mono ?_
        rintro e w2 ⟨rfl, hb2⟩
        go_wp2
        go_ret
        exact ⟨rfl, After.trans HB1.out hb2⟩
    · have z4 : (S [46, dgB q, dgB r]).size = 3 := rfl
      have hc := S_at [46, dgB q, dgB r] 2 (by rw [z4]; decide)
      have hc' : bt [46, dgB q, dgB r] 2 = 48 + r := dgB_val r b3 b4
      rw [hc'] at hc
      have hx' : (S [46, dgB q, dgB r]).extract 0 2 = S [46, dgB q] := S_cut [46, dgB q, dgB r] 2
      clear hc'
      by_cases hr0 : r = 0
      · subst hr0
        go_wp2
        go_round
        case rel => exact Or.inr (Or.inr ⟨ht0, trivial, rfl⟩)
        case measure => rw [mStr_S, mStr_S]; simp
      · have hne : (48 + r == 48) = false := by rw [beq_eq_false_iff_ne]; omega
        have HX : Hid (partL p = [46, dgB q, dgB r]) := by
          show partL p = _
          rw [HP.out, if_pos ht0, if_neg hr0]
        clear ht0
        have k1 : (⟨#[45]⟩ : ByteArray) ++ S (Lib.itoa u) = S (45 :: Lib.itoa u) := S_cat [45] (Lib.itoa u)
        have k2 : S (45 :: Lib.itoa u) ++ S [46, dgB q, dgB r] = S (textL v) := by
          rw [HT.out]; rw [HX.out]; exact S_cat _ _
        have z5 : (S (45 :: Lib.itoa u)).size ≤ 11 := HZ.out
        go_wp2_with fail
        refine (digits1_int u u0 u1 _).mono ?_
        rintro e w2 ⟨rfl, hb2⟩
        go_wp2
        go_ret
        exact ⟨rfl, After.trans HB1.out hb2⟩
    · have z4 : (S [46, dgB q]).size = 2 := rfl
      have hc := S_at [46, dgB q] 1 (by rw [z4]; decide)
      have hc' : bt [46, dgB q] 1 = 48 + q := dgB_val q b1 b2
      rw [hc'] at hc
      clear hc'
      have hq0 := HQ.out hr0 ht0
      have hne : (48 + q == 48) = false := by rw [beq_eq_false_iff_ne]; omega
      have HX : Hid (partL p = [46, dgB q]) := by
        show partL p = _
        rw [HP.out, if_pos ht0, if_pos hr0]
      clear ht0 hr0 hq0
      have k1 : (⟨#[45]⟩ : ByteArray) ++ S (Lib.itoa u) = S (45 :: Lib.itoa u) := S_cat [45] (Lib.itoa u)
      have k2 : S (45 :: Lib.itoa u) ++ S [46, dgB q] = S (textL v) := by
        rw [HT.out]; rw [HX.out]; exact S_cat _ _
      have z5 : (S (45 :: Lib.itoa u)).size ≤ 11 := HZ.out
      go_wp2_with fail
      refine (digits1_int u u0 u1 _).mono ?_
      rintro e w2 ⟨rfl, hb2⟩
      go_wp2
      go_ret
      exact ⟨rfl, After.trans HB1.out hb2⟩
/-- ref.Text writes what Text writes. -/
theorem refText_any (v : Int) (w : World) : Calls Tryz.prog 46 #[.int .i64 v] w fun e w' => e = .returned (.string (S (textL v))) ∧ After w w' := by
  have c1 := cl_lo v; have c2 := cl_hi v
  have a0 : 0 ≤ ab (cl v) := by rw [ab_def]; omega
  have a1 : ab (cl v) ≤ 2147483647 := by rw [ab_def]; omega
  by_cases hn : cl v < 0
  · have ev : cl v = - ab (cl v) := by rw [ab_def]; omega
    have et : textL v = (45 :: Lib.itoa (ab (cl v) / 1000)) ++ partL (ab (cl v) % 1000) := by unfold textL; rw [if_pos hn]; rfl
    by_cases hp : ab (cl v) % 1000 = 0
    · exact refText_neg_z v (ab (cl v)) _ w ev (by omega) a1 hp rfl (by omega) (by omega) (by rw [et, hp]; exact List.append_nil _)
    · exact refText_neg v (ab (cl v)) _ _ w ev (by omega) a1 rfl rfl (by omega) (by omega) (by omega) (by omega) et
  · have ev : cl v = ab (cl v) := by rw [ab_def]; omega
    have et : textL v = (Lib.itoa (ab (cl v) / 1000)) ++ partL (ab (cl v) % 1000) := by unfold textL; rw [if_neg hn]; rfl
    by_cases hp : ab (cl v) % 1000 = 0
    · exact refText_pos_z v (ab (cl v)) _ w ev (by omega) a1 hp rfl (by omega) (by omega) (by rw [et, hp]; exact List.append_nil _)
    · exact refText_pos v (ab (cl v)) _ _ w ev (by omega) a1 rfl rfl (by omega) (by omega) (by omega) (by omega) et
end Go.Proofs.YtlfcihanhfabmaaGreatDoor.L1
