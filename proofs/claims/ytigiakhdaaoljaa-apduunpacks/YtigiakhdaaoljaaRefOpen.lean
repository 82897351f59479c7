/-
  The document's open: a kind, and the bytes that follow.
-/
import Derived.Test.YtigiakhdaaoljaaRefRd
namespace Go.Proofs.Ytigiakhdaaoljaa
open Go.RowKit
set_option maxRecDepth 8000
def openF (zs : List Int) : Except Int ((Int × List Int) × List Int) := thn (num false 2 65535 0 zs) fun k z1 => thn (oct false [] z1) fun b r => if r.length = 0 then .ok ((k, b), []) else .error 4
def OutP (w w' : World) (n : Nat) (e : Ending) (r : Except Int ((Int × List Int) × List Int)) : Prop :=
  After w w' ∧ Ends r (fun p _ => ∃ a' n' c', e = .returned (.tuple #[.int .i64 p.1, .slice a' n' c', .int .i64 0]) ∧ Row w' a' n' p.2 ∧ (a' = none → n' = 0 ∧ c' = 0) ∧ n' ≤ n ∧ n' ≤ c') (fun c => c ≠ 0 ∧ e = .returned (.tuple #[.int .i64 0, .slice none 0 0, .int .i64 c]))
theorem openF_two {zs : List Int} (h1 : 2 ≤ zs.length) (h2 : 2 ≤ (zs.drop 2).length) : openF zs = if ocN (zs.drop 2) ≤ (zs.drop 2).length - 2 then (if ((zs.drop 2).drop 2).length = ocN (zs.drop 2) then .ok ((be (zs.take 2), (zs.drop 2).drop 2), []) else .error 4) else .error 3 := by
  unfold openF
  rw [thn_ok (num_r h1)]
  by_cases hn : ocN (zs.drop 2) ≤ (zs.drop 2).length - 2
  · rw [thn_ok (oct_r (ocIs_yes h2 hn)), if_pos hn]
    obtain ⟨e1, _, e3, _⟩ := oc_yes h2 hn
    rw [e1, e3]
    have hl : ((zs.drop 2).drop 2).length = (zs.drop 2).length - 2 := List.length_drop ..
    by_cases hr : ((zs.drop 2).drop 2).length = ocN (zs.drop 2)
    · have e9 : ((zs.drop 2).drop 2).take (ocN (zs.drop 2)) = (zs.drop 2).drop 2 := List.take_of_length_le (by omega)
      rw [if_pos hr, if_pos (by rw [List.length_drop]; omega), e9]
    · rw [if_neg hr, if_neg (by rw [List.length_drop]; omega)]
  · rw [if_neg hn, thn_bad (oct_rn (by rw [ocIs_no (fun h => hn h.2)]; decide))]
set_option maxHeartbeats 1000000 in
theorem open_any (w : World) (a : Option Addr) (n c : Nat) (zs : List Int) (hr : Row w a n zs) (ha : a = none → n = 0 ∧ c = 0) (hn : n ≤ 140737488355328) (hnc : n ≤ c) :
    Calls Try.prog 36 #[.slice a n c] w fun e w' => OutP w w' n e (openF zs) := by
  have H1 := hideIt (refNew_any a n c zs w hr ha hn)
  have HR := hideIt (And.intro hr (And.intro hn hnc))
  clear hr ha hn hnc
  go_enter Try.func36, Try.ntmps36
  go_wp2_with fail
  refine H1.out.mono ?_
  clear H1
  rintro e w1 ⟨g, h, rfl, r1, hg, hh, a1⟩
  have HG := hideIt (And.intro hg (And.intro hh a1))
  clear hg hh a1
  by_cases h1 : 2 ≤ zs.length
  rotate_left
  · have H2 := hideIt (refU16_any w1 g h zs r1)
    rw [rdVal_no h1, rdErr_no h1] at H2
    have HO := hideIt (show openF zs = .error 3 from by unfold openF; rw [thn_bad (num_rn h1)])
    clear r1 h1
    go_wp2_with fail
    refine H2.out.mono ?_
    clear H2
    rintro e w2 ⟨rfl, _, b2⟩
    have HB := hideIt b2
    clear b2
    go_wp2_with fail
    refine bodyPost_ret (v := .tuple #[.int .i64 0, .slice none 0 0, .int .i64 3]) (by simp [results, Try.results36, go_sem]) rfl ⟨?_, Ends.bad HO.out ⟨by decide, rfl⟩⟩
    exact HG.out.2.2.but.then HB.out (fun i hi t => by have t' : i = g := t; have := HG.out.1; omega)
  have H2 := hideIt (refU16_any w1 g h zs r1)
  have hbz := r1.bs
  rw [rdVal_yes h1, rdErr_yes h1, rdRest_yes h1] at H2
  obtain ⟨kd, hkd⟩ : ∃ kd, be (zs.take 2) = kd := ⟨_, rfl⟩
  rw [hkd] at H2
  have HKD := hideIt (And.intro hkd (And.intro h1 hbz))
  clear r1 h1 hkd hbz
  go_wp2_with fail
  refine H2.out.mono ?_
  clear H2
  rintro e w2 ⟨rfl, r2, b2⟩
  have HB := hideIt b2
  clear b2
  by_cases h2 : 2 ≤ (zs.drop 2).length
  rotate_left
  · have H3 := hideIt (refU16_any w2 g h _ r2)
    rw [rdVal_no h2, rdErr_no h2] at H3
    have HO := hideIt (show openF zs = .error 3 from by unfold openF; rw [thn_ok (num_r HKD.out.2.1), thn_bad (oct_rn (by rw [ocIs_no (fun h => h2 h.1)]; decide))])
    clear r2 h2
    go_wp2_with fail
    refine H3.out.mono ?_
    clear H3
    rintro e w3 ⟨rfl, _, b3⟩
    have HB3 := hideIt b3
    clear b3
    go_wp2_with fail
    refine bodyPost_ret (v := .tuple #[.int .i64 0, .slice none 0 0, .int .i64 3]) (by simp [results, Try.results36, go_sem]) rfl ⟨?_, Ends.bad HO.out ⟨by decide, rfl⟩⟩
    exact HG.out.2.2.but.then (HB.out.trans HB3.out) (fun i hi t => by have t' : i = g := t; have := HG.out.1; omega)
  have H3 := hideIt (refU16_any w2 g h _ r2)
  rw [rdVal_yes h2, rdErr_yes h2, rdRest_yes h2] at H3
  have hN := ocN_int (HKD.out.2.2.drop 2) h2
  rw [hN.1] at H3
  have hO := openF_two HKD.out.2.1 h2
  rw [HKD.out.1] at hO
  have hl2 : ((zs.drop 2).drop 2).length = (zs.drop 2).length - 2 := List.length_drop ..
  have hl0 : ((zs.drop 2).drop 2).length = zs.length - 4 := by rw [List.length_drop, List.length_drop]; omega
  have hl4 : 4 ≤ zs.length := by rw [List.length_drop] at h2; omega
  rw [← hl2] at hO
  obtain ⟨N, hNN⟩ : ∃ N, ocN (zs.drop 2) = N := ⟨_, rfl⟩
  obtain ⟨z2, hz2⟩ : ∃ z2, (zs.drop 2).drop 2 = z2 := ⟨_, rfl⟩
  rw [hNN] at H3 hO
  rw [hz2] at H3 hO hl0
  obtain ⟨L, hL⟩ : ∃ L, z2.length = L := ⟨_, rfl⟩
  rw [hL] at hO hl0
  have HO := hideIt hO
  have HZ := hideIt (And.intro hz2 (And.intro hL (And.intro hl0 hl4)))
  clear r2 h2 hN hO hl2 hl0 hl4 hNN hz2 hL
  go_wp2_with fail
  refine H3.out.mono ?_
  clear H3
  rintro e w3 ⟨rfl, r3, b3⟩
  have HB3 := hideIt (HB.out.trans b3)
  have HLF := hideIt (fun W (t : After w3 W) => refLeft_any W g h z2 (r3.after t))
  rw [HZ.out.2.1] at HLF
  clear r3 b3 HB
  have HAA := hideIt (show ∀ W, After w3 W → After w W from fun W t => (HG.out.2.2.but.then HB3.out (fun i hi t => by have t' : i = g := t; have := HG.out.1; omega)).trans t)
  by_cases hlt : (L : Int) < (N : Int)
  · have hO := hideIt (HO.out.trans (if_neg (by omega)))
    clear HO
    go_wp2_with fail
    refine (HLF.out _ After.rfl).mono ?_
    rintro e w4 ⟨rfl, a4⟩
    have HA4 := hideIt a4
    clear a4
    go_wp2_with fail
    refine bodyPost_ret (v := .tuple #[.int .i64 0, .slice none 0 0, .int .i64 3]) (by simp [results, Try.results36, go_sem]) rfl ⟨HAA.out _ HA4.out, Ends.bad hO.out ⟨by decide, rfl⟩⟩
  by_cases hgt : (N : Int) < (L : Int)
  · have hO := hideIt (HO.out.trans ((if_pos (by omega)).trans (if_neg (by omega))))
    clear HO
    go_wp2_with fail
    refine (HLF.out _ After.rfl).mono ?_
    rintro e w4 ⟨rfl, a4⟩
    have HA4 := hideIt a4
    clear a4
    go_wp2_with fail
    refine (HLF.out _ HA4.out).mono ?_
    rintro e w5 ⟨rfl, a5⟩
    have HA5 := hideIt a5
    clear a5
    go_wp2_with fail
    refine bodyPost_ret (v := .tuple #[.int .i64 0, .slice none 0 0, .int .i64 4]) (by simp [results, Try.results36, go_sem]) rfl ⟨HAA.out _ (HA4.out.trans HA5.out), Ends.bad hO.out ⟨by decide, rfl⟩⟩
  obtain rfl : L = N := by omega
  have hO := hideIt (HO.out.trans ((if_pos (Nat.le_refl _)).trans (if_pos rfl)))
  clear HO hlt hgt
  obtain ⟨hrow, hn, hnc⟩ := HR.out
  obtain ⟨b0, off, hab, hbl, _⟩ := hrow.2.2 0 (by have := HZ.out.2.2.2; have := hrow.1; omega)
  subst hab
  have hn4 : (4 : Int) ≤ (n : Int) := by have := HZ.out.2.2.2; have := hrow.1; omega
  have hc4 : (n : Int) ≤ (c : Int) := by omega
  have HRW := hideIt (And.intro hrow (And.intro hn hnc))
  clear hrow hn hnc hbl HR
  by_cases hce : c = 4
  · subst hce
    obtain rfl : n = 4 := by omega
    go_wp2_with fail
    refine (HLF.out _ After.rfl).mono ?_
    rintro e w4 ⟨rfl, a4⟩
    have HA4 := hideIt a4
    clear a4
    go_wp2_with fail
    refine (HLF.out _ HA4.out).mono ?_
    rintro e w5 ⟨rfl, a5⟩
    have HA5 := hideIt a5
    clear a5
    go_wp2_with fail
    go_region
    go_wp2_with fail
    have aw := HAA.out _ (HA4.out.trans HA5.out)
    obtain ⟨hz2, hL, hl0, hl4⟩ := HZ.out
    obtain ⟨hrow, hn, hnc⟩ := HRW.out
    have hz0 : z2 = [] := List.length_eq_zero_iff.1 (by have := hrow.1; omega)
    refine bodyPost_ret (v := .tuple #[.int .i64 kd, .slice (some ⟨b0, off, none⟩) 0 0, .int .i64 0]) (by simp [results, Try.results36, go_sem]) rfl ⟨aw.trans (After.rfl.draws 1), Ends.ok hO.out ⟨some ⟨b0, off, none⟩, 0, 0, rfl, ?_, (fun h => by cases h), Nat.zero_le _, Nat.le_refl _⟩⟩
    rw [hz0]
    exact Row.nil _ _
  · have hce' : ¬ (c : Int) = 4 := by omega
    go_wp2_with fail
    refine (HLF.out _ After.rfl).mono ?_
    rintro e w4 ⟨rfl, a4⟩
    have HA4 := hideIt a4
    clear a4
    go_wp2_with fail
    refine (HLF.out _ HA4.out).mono ?_
    rintro e w5 ⟨rfl, a5⟩
    have HA5 := hideIt a5
    clear a5
    go_wp2_with fail
    go_region
    go_wp2_with fail
    have aw := HAA.out _ (HA4.out.trans HA5.out)
    obtain ⟨hz2, hL, hl0, hl4⟩ := HZ.out
    obtain ⟨hrow, hn, hnc⟩ := HRW.out
    have hzd : z2 = zs.drop 4 := by rw [← hz2, List.drop_drop]
    refine bodyPost_ret (v := .tuple #[.int .i64 kd, .slice (some ⟨b0, off + 4, none⟩) (n - 4) (c - 4), .int .i64 0]) (by simp [results, Try.results36, go_sem]) rfl ⟨aw.trans (After.rfl.draws 1), Ends.ok hO.out ⟨some ⟨b0, off + 4, none⟩, n - 4, c - 4, rfl, ?_, (fun h => by cases h), by omega, by omega⟩⟩
    refine Row.after (w := w) ?_ (aw.trans (After.rfl.draws 1))
    refine ⟨by rw [hL, hl0, hrow.1], by rw [hzd]; exact hrow.2.1.drop 4, fun i hi => ?_⟩
    obtain ⟨b1, o1, e1, hl, hc⟩ := hrow.2.2 (4 + i) (by omega)
    cases e1
    refine ⟨b0, off + 4, rfl, hl, ?_⟩
    rw [hzd, show off + 4 + i = off + (4 + i) by omega, hc]
    rw [getD_drop]
end Go.Proofs.Ytigiakhdaaoljaa
