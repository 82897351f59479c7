/-
  look of package frame: what stands at the front of bytes.
-/
import Derived.Test.YtmdbpoknehafaaaPairs
import Derived.Test.YtmdbpoknehafaaaFr
import Derived.BigQuiet
import Derived.Deep.RegionHeld3
namespace Go.Proofs.Ytmdbpoknehafaaa
open Go.RowKit
theorem i64_or_nat (a b : Nat) (ha : a < 9223372036854775808) (hb : b < 9223372036854775808) : bits .or .i64 (a : Int) (b : Int) = ((a ||| b : Nat) : Int) := by
  have hx : a ||| b < 2 ^ 63 := Nat.or_lt_two_pow (n := 63) (by omega) (by omega)
  have e63 : (2 : Nat) ^ 63 = 9223372036854775808 := by decide
  show IntKind.i64.wrap (((BitVec.ofInt 64 (a : Int) ||| BitVec.ofInt 64 (b : Int)).toNat : Nat) : Int) = _
  have o1 : (BitVec.ofInt 64 (a : Int)).toNat = a := ofInt_u64 a (by omega)
  have o2 : (BitVec.ofInt 64 (b : Int)).toNat = b := ofInt_u64 b (by omega)
  rw [BitVec.toNat_or, o1, o2]
  exact wrap64_id _ (by omega)
theorem or_byte (x y : Nat) (hx : x < 256) (hy : y < 256) : bits .or .i64 ((x : Int) * 256) (y : Int) = ((x * 256 + y : Nat) : Int) := by
  have e := i64_or_nat (x * 256) y (by omega) (by omega)
  have e2 : x * 256 ||| y = x * 256 + y := by
    have := Nat.two_pow_add_eq_or_of_lt (i := 8) (b := y) (by simpa using hy) x
    have e3 : 2 ^ 8 * x = x * 256 := by omega
    rw [e3] at this
    exact this.symm
  rw [e2] at e
  rw [← e]; rfl
/-- The first three bytes of some, and the length that they say. -/
theorem front {w : World} {b off n : Nat} {zs : List Int} (hr : Row w (some ⟨b, off, none⟩) n zs) (h : 3 ≤ n) : ∃ x1 x2 : Nat, x1 < 256 ∧ x2 < 256 ∧ w.cell? ⟨b, off + 1, none⟩ = some (.int .u8 x1) ∧ w.cell? ⟨b, off + 2, none⟩ = some (.int .u8 x2) ∧ lenOf zs = x1 * 256 + x2 := by
  obtain ⟨b1, o1, x1, e1, _, l1, z1, c1⟩ := hr.at (i := 1) (by omega)
  obtain ⟨b2, o2, x2, e2, _, l2, z2, c2⟩ := hr.at (i := 2) (by omega)
  cases e1
  cases e2
  exact ⟨x1, x2, l1, l2, c1, c2, by unfold lenOf; rw [z1, z2, Int.toNat_natCast, Int.toNat_natCast]⟩
/-- How many bytes look tells. -/
def sizeOf2 (zs : List Int) : Nat := if kindOf zs = 2 then lenOf zs + 5 else 0
theorem two_inj {u v : Nat} (h : two u = two v) : u = v := by
  simp only [two, List.cons.injEq, and_true] at h
  omega
theorem said_two {zs : List Int} (hb : Bs zs) (h : lenOf zs + 5 ≤ zs.length) : (zs.drop (lenOf zs + 3)).take 2 = two (saidOf zs) ∧ saidOf zs < 65536 := by
  have b1 := hb.at (i := lenOf zs + 3) (by omega)
  have b2 := hb.at (i := lenOf zs + 4) (by omega)
  have e1 : zs.drop (lenOf zs + 3) = zs.getD (lenOf zs + 3) 0 :: zs.drop (lenOf zs + 4) := by
    rw [List.drop_eq_getElem_cons (show lenOf zs + 3 < zs.length by omega)]
    simp [List.getD_eq_getElem?_getD, show lenOf zs + 3 < zs.length by omega]
  have e2 : zs.drop (lenOf zs + 4) = zs.getD (lenOf zs + 4) 0 :: zs.drop (lenOf zs + 5) := by
    rw [List.drop_eq_getElem_cons (show lenOf zs + 4 < zs.length by omega)]
    simp [List.getD_eq_getElem?_getD, show lenOf zs + 4 < zs.length by omega]
  rw [e1, e2]
  unfold saidOf two
  generalize zs.getD (lenOf zs + 3) 0 = p at *
  generalize zs.getD (lenOf zs + 4) 0 = q at *
  refine ⟨?_, by omega⟩
  simp only [List.take_succ_cons, List.take_zero, List.cons.injEq, and_true]
  omega
set_option maxRecDepth 100000 in
set_option maxHeartbeats 400000 in
theorem look_sum (b off n c m sd du x1 x2 : Nat) (w : World) (c0 : w.cell? ⟨b, off, none⟩ = some (.int .u8 126)) (c1 : w.cell? ⟨b, off + 1, none⟩ = some (.int .u8 x1)) (c2 : w.cell? ⟨b, off + 2, none⟩ = some (.int .u8 x2))
    (ho : bits .or .i64 ((x1 : Int) * 256) (x2 : Int) = (m : Int)) (hc : n ≤ c) (hn : n ≤ 140737488355328) (l1 : x1 < 256) (l2 : x2 < 256) (d3 : 1 ≤ m) (d4 : m ≤ 256) (d5 : m + 5 ≤ n)
    (HQ : Hid (∀ g W, After w W → Row W (some ⟨g, 0, none⟩) 2 (two du) → Calls Try.prog 32 #[.slice (some ⟨b, off + (m + 3), none⟩) 2 (c - (m + 3)), .slice (some ⟨g, 0, none⟩) 2 2] W fun e w' => e = .returned (.bool (decide (sd = du))) ∧ w' = W))
    (HC : Hid (∀ W, After w W → Calls Try.prog 29 #[.slice (some ⟨b, off, none⟩) (m + 3) c] W fun e w' => ∃ g, e = .returned (.slice (some ⟨g, 0, none⟩) 2 2) ∧ Row w' (some ⟨g, 0, none⟩) 2 (two du) ∧ After W w' ∧ W.heap.size ≤ g)) :
    Calls Try.prog 25 #[.slice (some ⟨b, off, none⟩) n c] w fun e w' => e = .returned (.tuple #[.int .i64 ((if du ≠ sd then 1 else 2 : Nat) : Int), .int .i64 ((if du ≠ sd then 0 else m + 5 : Nat) : Int)]) ∧ After w w' := by
  obtain ⟨p, hp⟩ : ∃ p, p = m + 3 := ⟨_, rfl⟩
  rw [← hp] at HQ HC
  obtain ⟨r, hr0⟩ : ∃ r, r = p + 2 := ⟨_, rfl⟩
  have q1 : (3 : Int) + (m : Int) = (p : Int) := by omega
  have q0 : p ≤ 300 := by omega
  have q2 : (p : Int) + 2 = (r : Int) := by omega
  have q3 : (r : Int) - 2 = (p : Int) := by omega
  have q5 : ¬ c = p := by omega
  have q6 : (p : Int) ≤ (c : Int) := by omega
  have q7 : (r : Int) ≤ (c : Int) := by omega
  have q8 : (r : Int) ≤ (n : Int) := by omega
  have q9 : (p : Int) ≤ (r : Int) := by omega
  have q10 : r - p = 2 := by omega
  have q11 : r ≤ 302 := by omega
  have qa : IntKind.i64.wrap (p : Int) = (p : Int) := by rw [IntKind.wrap_i64]; omega
  obtain ⟨kk, hkk⟩ : ∃ kk : Nat, kk = if du ≠ sd then 1 else 2 := ⟨_, rfl⟩
  obtain ⟨ss, hss⟩ : ∃ ss : Nat, ss = if du ≠ sd then 0 else m + 5 := ⟨_, rfl⟩
  rw [← hkk, ← hss]
  have HK : Hid (sd = du → kk = 2 ∧ ss = r) := fun e => ⟨by rw [hkk, if_neg (by simp [e])], by rw [hss, if_neg (by simp [e])]; omega⟩
  have HL : Hid (sd ≠ du → kk = 1 ∧ ss = 0) := fun e => ⟨by rw [hkk, if_pos (Ne.symm e)], by rw [hss, if_pos (Ne.symm e)]⟩
  clear hp hr0 hkk hss
  go_enter Try.func25, Try.ntmps25
  go_wp2_with fail
  go_quiet (fail)
  go_wp2_with fail
  clear c0 c1 c2 ho l1 l2 q0 q1 q2
  go_region_held3 (fun W => After w W) (first | exact But.drew (After.rfl.draws _) | exact After.rfl | assumption | exact After.trans (by assumption) ha)
    (first
      | (go_at_call 29; refine (HC.out _ (After.rfl.draws _)).mono ?_; rintro e wc ⟨g, rfl, hg, ha, hgl⟩)
      | (go_at_call 32; refine (HQ.out _ _ (After.trans (After.rfl.draws _) ha) hg).mono ?_; rintro e wd ⟨rfl, rfl⟩))
  have HA := hideIt (After.trans (After.rfl.draws _) ha)
  clear hg ha hgl HC HQ
  by_cases e : sd = du
  · obtain ⟨e1, e2⟩ := HK.out e
    have E1 := hideIt e1
    have E2 := hideIt e2
    subst e
    clear e1 e2
    go_wp2
    go_ret2
    exact ⟨by rw [E1.out, E2.out]; rfl, HA.out⟩
  · obtain ⟨e1, e2⟩ := HL.out e
    have E1 := hideIt e1
    have E2 := hideIt e2
    clear e1 e2
    rw [show decide (sd = du) = false from decide_eq_false e]
    go_wp2
    go_ret2
    exact ⟨by rw [E1.out, E2.out]; rfl, HA.out⟩
set_option maxRecDepth 100000 in
set_option maxHeartbeats 400000 in
theorem look_any (b off n c : Nat) (zs : List Int) (w : World) (hr : Row w (some ⟨b, off, none⟩) n zs) (h1 : 1 ≤ n) (hc : n ≤ c) (hn : n ≤ 140737488355328) :
    Calls Try.prog 25 #[.slice (some ⟨b, off, none⟩) n c] w fun e w' => e = .returned (.tuple #[.int .i64 (kindOf zs : Nat), .int .i64 (sizeOf2 zs : Nat)]) ∧ After w w' := by
  have hl := hr.1
  obtain ⟨b0, o0, x0, e0, _, l0, z0, c0⟩ := hr.at (i := 0) (by omega)
  cases e0
  rw [Nat.add_zero] at c0
  by_cases d1 : x0 = 126
  · subst d1
    by_cases d2 : n < 3
    · have hk : kindOf zs = 0 := by unfold kindOf; rw [if_neg (by omega), if_neg (by rw [z0]; simp), if_pos (by omega)]
      have hs : sizeOf2 zs = 0 := by unfold sizeOf2; rw [hk]; rfl
      rw [hk, hs]
      clear hr hk hs l0 z0 hl
      go_enter Try.func25, Try.ntmps25
      go_wp2
      go_ret2
      exact ⟨rfl, After.rfl⟩
    · obtain ⟨x1, x2, l1, l2, c1, c2, he⟩ := front hr (by omega)
      have ho := or_byte x1 x2 l1 l2
      rw [← he] at ho
      have hle : lenOf zs < 65536 := by omega
      by_cases d3 : lenOf zs < 1 ∨ 256 < lenOf zs
      · have hk : kindOf zs = 1 := by unfold kindOf; rw [if_neg (by omega), if_neg (by rw [z0]; simp), if_neg (by omega), if_pos d3]
        have hs : sizeOf2 zs = 0 := by unfold sizeOf2; rw [hk]; rfl
        rw [hk, hs]
        generalize lenOf zs = m at *
        clear hr hk hs l0 z0 hl he
        go_enter Try.func25, Try.ntmps25
        go_wp2_with fail
        go_quiet (fail)
        rcases d3 with d3 | d3
        · obtain rfl : m = 0 := by omega
          go_wp2
          go_ret2
          exact ⟨rfl, After.rfl.draws _⟩
        · go_wp2
          go_ret2
          exact ⟨rfl, After.rfl.draws _⟩
      · by_cases d4 : n < lenOf zs + 5
        · have hk : kindOf zs = 0 := by unfold kindOf; rw [if_neg (by omega), if_neg (by rw [z0]; simp), if_neg (by omega), if_neg d3, if_pos (by omega)]
          have hs : sizeOf2 zs = 0 := by unfold sizeOf2; rw [hk]; rfl
          rw [hk, hs]
          generalize lenOf zs = m at *
          clear hr hk hs l0 z0 hl he
          go_enter Try.func25, Try.ntmps25
          go_wp2_with fail
          go_quiet (fail)
          go_wp2
          go_ret2
          exact ⟨rfl, After.rfl.draws _⟩
        · have hr1 := hr.take (k := lenOf zs + 3) (by omega)
          have hr2 := (hr.drop (k := lenOf zs + 3) (by omega)).take (k := 2) (by omega)
          obtain ⟨sa1, sa2⟩ := said_two hr.2.1 (by omega)
          have hdue : sum16 ((zs.take (lenOf zs + 3)).drop 1) = dueOf zs := by
            unfold dueOf; rw [List.drop_take]; rfl
          have hk : kindOf zs = if dueOf zs ≠ saidOf zs then 1 else 2 := by unfold kindOf; rw [if_neg (by omega), if_neg (by rw [z0]; simp), if_neg (by omega), if_neg d3, if_neg (by omega)]
          have hs : sizeOf2 zs = if dueOf zs ≠ saidOf zs then 0 else lenOf zs + 5 := by
            unfold sizeOf2; rw [hk]
            by_cases e : dueOf zs ≠ saidOf zs
            · rw [if_pos e, if_pos e]; rfl
            · rw [if_neg e, if_neg e]; rfl
          have HQ : Hid (∀ g W, After w W → Row W (some ⟨g, 0, none⟩) 2 (two (dueOf zs)) → Calls Try.prog 32 #[.slice (some ⟨b, off + (lenOf zs + 3), none⟩) 2 (c - (lenOf zs + 3)), .slice (some ⟨g, 0, none⟩) 2 2] W fun e w' => e = .returned (.bool (decide (saidOf zs = dueOf zs))) ∧ w' = W) := fun g W ha hg => by
            rw [sa1] at hr2
            refine (equal_any b (off + (lenOf zs + 3)) g 0 2 (c - (lenOf zs + 3)) 2 2 _ _ W (hr2.after ha) hg).mono ?_
            rintro e w' ⟨rfl, rfl⟩
            refine ⟨ret_bool ?_, rfl⟩
            by_cases e : saidOf zs = dueOf zs
            · simp [e]
            · have : two (saidOf zs) ≠ two (dueOf zs) := fun k => e (two_inj k)
              simp [e, this]
          have HC : Hid (∀ W, After w W → Calls Try.prog 29 #[.slice (some ⟨b, off, none⟩) (lenOf zs + 3) c] W fun e w' => ∃ g, e = .returned (.slice (some ⟨g, 0, none⟩) 2 2) ∧ Row w' (some ⟨g, 0, none⟩) 2 (two (dueOf zs)) ∧ After W w' ∧ W.heap.size ≤ g) := fun W ha => by
            rw [← hdue]
            exact checkOf_any b off (lenOf zs + 3) c _ W (hr1.after ha) (by omega) (by omega) (by omega)
          rw [hk, hs]
          exact look_sum b off n c (lenOf zs) (saidOf zs) (dueOf zs) x1 x2 w c0 c1 c2 ho hc hn l1 l2 (by omega) (by omega) (by omega) HQ HC
  · have hk : kindOf zs = 1 := by unfold kindOf; rw [if_neg (by omega), if_pos (by rw [z0]; omega)]
    have hs : sizeOf2 zs = 0 := by unfold sizeOf2; rw [hk]; rfl
    rw [hk, hs]
    have d1i : ¬ (x0 : Int) = 126 := by omega
    clear hr hk hs l0 z0 hl
    go_enter Try.func25, Try.ntmps25
    go_wp2
    go_ret2
    exact ⟨rfl, After.rfl⟩
end Go.Proofs.Ytmdbpoknehafaaa
