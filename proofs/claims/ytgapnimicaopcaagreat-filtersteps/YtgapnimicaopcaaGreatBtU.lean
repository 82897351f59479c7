/-
  Beat and Rate of the document's beats.
-/
import Derived.Test.YtgapnimicaopcaaGreatBtS
namespace Go.Proofs.YtgapnimicaopcaaGreat.L12
open Go.RowKit
set_option maxRecDepth 8000
set_option maxHeartbeats 1000000 in
theorem rbBeat_yes {w : World} {g B n : Nat} {L : List Int} {v : Value} (x : RbX w g B n L v) (hBs : B ≤ w.heap.size) (hl : L.length < 17592186044416) {t : Int} (hf : Fol L t) : Calls Tryz.prog 48 #[Ptr g, .int .i64 t] w fun e w' => e = .returned (.int .i64 0) ∧ But (fun k => k = g ∨ v.ownBlock = some k) w w' ∧ ∃ u, RbX w' g B n (L ++ [t]) u ∧ (u.ownBlock = v.ownBlock ∨ ∀ k, u.ownBlock = some k → w.heap.size ≤ k) := by
  obtain ⟨hlt, c0, c1, -, -⟩ := two_at x.at0
  have hn0 : ¬ (n : Int) = 0 := by have := x.may; omega
  have hb0 : ((n : Int) == 0) = false := by simpa using hn0
  have hcs := fol_cases L t
  have HX := hideIt x
  have HFo := hideIt hf
  have HBs := hideIt hBs
  have HZ := hideIt (show L.length + 1 ≤ 17592186044416 by omega)
  have HC := hideIt (fun W (a : After w W) => two_at ((a.block g hlt (fun t => t)).trans x.at0))
  have HC2 := hideIt (fun W W2 (a : After w W) (b : But (fun k => v.ownBlock = some k) W W2) => two_at ((b.block g (Nat.lt_of_lt_of_le hlt a.size) (fun t => by have := (own_lt x.own t).1; have := x.hB; omega)).trans ((a.block g hlt (fun t => t)).trans x.at0)))
  obtain ⟨a, c, hv, ir, -, -, -⟩ := own_irow x.own
  rcases hcs with ⟨h, -⟩ | ⟨h, -⟩ | ⟨h, -⟩ | ⟨-, g1, g2, g3⟩ | ⟨-, g1, g2, g3, g4⟩ | ⟨g3, g4⟩
  · exact absurd hf h
  · exact absurd hf h
  · exact absurd hf h
  · have d1 := decide_eq_false g1
    have d2 := decide_eq_false g2
    obtain ⟨k, hk⟩ : ∃ k, k = L.length := ⟨_, rfl⟩
    rw [← hk] at hv g3
    subst hv
    have HK := hideIt hk
    have d3 : decide (0 < k) = false := decide_eq_false (by omega)
    have d5 : decide ((0 : Int) < (k : Int)) = false := decide_eq_false (by omega)
    clear x hf hl ir g1 g2 hlt hBs hk g3
    go_enter Tryz.func48, Tryz.ntmps48
    go_wp2
    go_quiet (fail)
    obtain ⟨W, hW⟩ : ∃ W, W = w.drewN nq := ⟨_, rfl⟩
    rw [← hW]
    have aW : After w W := by rw [hW]; exact After.rfl.draws _
    obtain ⟨-, -, c1, -, -⟩ := HC.out W aW
    have HO := hideIt (((HX.out.after aW).after (After.rfl.alloc (.cells #[.int .i64 t] 3))).own)
    have HY := hideIt (show IRow (W.alloc (.cells #[.int .i64 t] 3)) (some ⟨W.heap.size, 0, none⟩) 1 [t] from lit_irow (heap_alloc_new W _) rfl rfl)
    have HB := hideIt (show B ≤ (W.alloc (.cells #[.int .i64 t] 3)).heap.size by have := HBs.out; have := aW.size; simp; omega)
    have HAW := hideIt (aW.alloc (.cells #[.int .i64 t] 3))
    clear hW aW
    go_wp2_with (at_builtin; refine app_own rfl (.tmp 48) (.tmp 50) rfl B _ L rfl HO.out ⟨_, 0, none⟩ t rfl HY.out HZ.out HB.out ?_)
    intro a' c' w3 o3 b3 hu
    have hcc := HC2.out _ _ HAW.out b3
    obtain ⟨-, -, e1, -, f1⟩ := hcc
    have hf := rb_store HX.out HFo.out HAW.out o3 b3 (by simpa using hu)
    have HF := hideIt hf
    clear hf o3 b3 hu HAW HO HY HB c1
    generalize L.length = m at *
    go_wp2
    go_ret
    exact ⟨rfl, HF.out.2.1, _, HF.out.1, HF.out.2.2⟩
  · obtain ⟨b, off, rfl, -, ec⟩ := ir.2 (L.length - 1) (by omega)
    generalize L.getD (L.length - 1) 0 = y at *
    have d1 := decide_eq_false g1
    have d2 := decide_eq_false g2
    have d4 := decide_eq_false g4
    obtain ⟨q, hq⟩ : ∃ q : Nat, q = L.length - 1 := ⟨_, rfl⟩
    rw [← hq] at ec
    obtain ⟨k, hk⟩ : ∃ k, k = L.length := ⟨_, rfl⟩
    rw [← hk] at hv g3 hq hl
    subst hv
    have HK := hideIt hk
    have d3 : decide (0 < k) = true := decide_eq_true g3
    have d5 : decide ((0 : Int) < (k : Int)) = true := decide_eq_true (by omega)
    have i1 : (k : Int) - 1 = (q : Int) := by omega
    have i2 : (q : Int) < (k : Int) := by omega
    have i4 : (k : Int) ≤ 17592186044416 := by omega
    have w1 : IntKind.i64.wrap (q : Int) = (q : Int) := IntWalk.i64_in _ (by omega)
    clear x hf hl ir g1 g2 g4 hlt hBs hk hq
    go_enter Tryz.func48, Tryz.ntmps48
    go_wp2
    go_quiet (fail)
    obtain ⟨W, hW⟩ : ∃ W, W = w.drewN nq := ⟨_, rfl⟩
    rw [← hW]
    have aW : After w W := by rw [hW]; exact After.rfl.draws _
    obtain ⟨-, -, c1, -, -⟩ := HC.out W aW
    have HO := hideIt (((HX.out.after aW).after (After.rfl.alloc (.cells #[.int .i64 t] 3))).own)
    have HY := hideIt (show IRow (W.alloc (.cells #[.int .i64 t] 3)) (some ⟨W.heap.size, 0, none⟩) 1 [t] from lit_irow (heap_alloc_new W _) rfl rfl)
    have HB := hideIt (show B ≤ (W.alloc (.cells #[.int .i64 t] 3)).heap.size by have := HBs.out; have := aW.size; simp; omega)
    have HAW := hideIt (aW.alloc (.cells #[.int .i64 t] 3))
    clear hW aW ec
    go_wp2_with (at_builtin; refine app_own rfl (.tmp 48) (.tmp 50) rfl B _ L rfl HO.out ⟨_, 0, none⟩ t rfl HY.out HZ.out HB.out ?_)
    intro a' c' w3 o3 b3 hu
    have hcc := HC2.out _ _ HAW.out b3
    obtain ⟨-, -, e1, -, f1⟩ := hcc
    have hf := rb_store HX.out HFo.out HAW.out o3 b3 (by simpa using hu)
    have HF := hideIt hf
    clear hf o3 b3 hu HAW HO HY HB c1
    generalize L.length = m at *
    go_wp2
    go_ret
    exact ⟨rfl, HF.out.2.1, _, HF.out.1, HF.out.2.2⟩
  · have := x.rise.lo (L.length - 1) (by omega)
    omega
/-- A beat of the document's, of all that were taken. -/
theorem rbBeat_any {w : World} {g B n : Nat} {L : List Int} {v : Value} (x : RbX w g B n L v) (hBs : B ≤ w.heap.size) (hl : L.length < 17592186044416) (t : Int) : Calls Tryz.prog 48 #[Ptr g, .int .i64 t] w fun e w' => e = .returned (.int .i64 (errT L t)) ∧ But (fun k => k = g ∨ v.ownBlock = some k) w w' ∧ ∃ u, RbX w' g B n (nxt L t) u ∧ (u.ownBlock = v.ownBlock ∨ ∀ k, u.ownBlock = some k → w.heap.size ≤ k) := by
  by_cases h : Fol L t
  · rw [(nxt_yes h).1, (nxt_yes h).2]
    exact rbBeat_yes x hBs hl h
  · rw [(nxt_no h).1, (nxt_no h).2]
    refine (rbBeat_no x hl h).mono ?_
    rintro e w' ⟨rfl, d⟩
    exact ⟨rfl, d.after.but, v, x.after d.after, .inl rfl⟩
set_option maxHeartbeats 1000000 in
theorem rbRate_any {w : World} {g B n : Nat} {L : List Int} {v : Value} (x : RbX w g B n L v) (hl : L.length < 17592186044416) : Calls Tryz.prog 49 #[Ptr g] w fun e w' => e = .returned (.tuple #[.int .i64 (rv (lastN n L)), .bool (ris (lastN n L))]) ∧ Dr w w' := by
  obtain ⟨-, c0, c1, -, -⟩ := two_at x.at0
  obtain ⟨hm1, hm2⟩ := x.may
  have hll := lastN_length n L
  obtain ⟨a, c, rfl, ir, -, hc, -⟩ := own_irow x.own
  by_cases h0 : L.length < 2
  · have e1 : rv (lastN n L) = 0 := by unfold rv; rw [if_pos (by omega)]
    have e2 : ris (lastN n L) = false := by unfold ris; exact decide_eq_false (by omega)
    rw [e1, e2]
    have h1 : (L.length : Int) < 2 := by omega
    clear x ir e1 e2 hll
    generalize L.length = k at *
    go_enter Tryz.func49, Tryz.ntmps49
    go_wp2
    go_ret2
    exact ⟨rfl, Dr.rfl⟩
  · have e1 : rv (lastN n L) = rt (lastN n L) := by unfold rv; rw [if_neg (by omega)]
    have e2 : ris (lastN n L) = true := by unfold ris; exact decide_eq_true (by omega)
    rw [e1, e2]
    have hlr := Rise.drop x.rise (L.length - n)
    have hle : L.drop (L.length - n) = lastN n L := rfl
    rw [hle] at hlr
    have hlg := hlr.long (by omega)
    have r1 := hlr.lo 0 (by omega)
    have r2 := hlr.hi 0 (by omega)
    have r3 := hlr.lo ((lastN n L).length - 1) (by omega)
    have r4 := hlr.hi ((lastN n L).length - 1) (by omega)
    obtain ⟨b, off, rfl, -, -⟩ := ir.2 0 (by omega)
    have hdr := ir.drop (k := L.length - n) (by omega)
    rw [hle] at hdr
    obtain ⟨b', off', ee, -, z0⟩ := hdr.2 0 (by omega)
    cases ee
    obtain ⟨b', off', ee, -, z1⟩ := hdr.2 ((lastN n L).length - 1) (by omega)
    cases ee
    unfold rt
    rw [Nat.add_zero] at z0
    generalize (lastN n L).getD 0 0 = f at *
    generalize (lastN n L).getD ((lastN n L).length - 1) 0 = y at *
    obtain ⟨q, hq⟩ : ∃ q : Nat, q = (lastN n L).length - 1 := ⟨_, rfl⟩
    rw [← hq] at hlg z1 ⊢
    rw [hll] at hq
    clear x ir e1 e2 hll hlr hle hdr
    generalize L.length = m at *
    obtain ⟨P, hP⟩ : ∃ P : Nat, P = m - n := ⟨_, rfl⟩
    rw [← hP] at z0 z1
    obtain ⟨d, hd⟩ : ∃ d : Nat, y - f = (d : Int) := ⟨(y - f).toNat, by omega⟩
    rw [hd]
    have hmx : max ((m : Int) - (n : Int)) 0 = (P : Int) := by omega
    have p1 : (P : Int) < (m : Int) := by omega
    have p2 : (m : Int) ≤ (c : Int) := by omega
    have p3 : (m : Int) ≤ 17592186044416 := by omega
    have p4 : (n : Int) ≤ 8 := by omega
    have p5 : ¬ c = P := by omega
    have p6 : (2 : Int) ≤ (n : Int) := by omega
    have p7 : (m : Int) - (P : Int) = ((m - P : Nat) : Int) := by omega
    have p8 : (c : Int) - (P : Int) = ((c - P : Nat) : Int) := by omega
    have p9 : P < m := by omega
    have p10 : m ≤ c := by omega
    have p11 : P ≤ m := by omega
    have p12 : IntKind.i64.wrap ((m : Int) - (n : Int)) = (m : Int) - (n : Int) := IntWalk.i64_in _ (by omega)
    have p13 : IntKind.i64.wrap (m : Int) = (m : Int) := IntWalk.i64_in _ (by omega)
    have h1 : ¬ (m : Int) < 2 := by omega
    obtain ⟨M, hM⟩ : ∃ M : Nat, M = m - P := ⟨_, rfl⟩
    rw [← hM] at p7
    have i1 : (M : Int) - 1 = (q : Int) := by omega
    have i2 : (q : Int) < (M : Int) := by omega
    have i3 : (0 : Int) < (M : Int) := by omega
    have i4 : (M : Int) ≤ 8 := by omega
    have i5 : q < M := by omega
    have w1 : IntKind.i64.wrap (q : Int) = (q : Int) := IntWalk.i64_in _ (by omega)
    have w2 : IntKind.i64.wrap (d : Int) = (d : Int) := IntWalk.i64_in _ (by omega)
    have d1 : (0 : Int) < (d : Int) := by omega
    have d2 : (d : Int) ≤ 2147483647 := by omega
    have d3 : ¬ 2 * (d : Int) = 0 := by omega
    have HR := hideIt (show (1200000 * (q : Int) + (d : Int)) / (2 * (d : Int)) = rd q d from rfl)
    have HM := hideIt hM
    clear hq hc hP h0 hlg hm1 hm2 hM
    go_enter Tryz.func49, Tryz.ntmps49
    go_wp2
    go_quiet (fail)
    obtain ⟨W, hW⟩ : ∃ W, W = w.drewN nq := ⟨_, rfl⟩
    rw [← hW]
    have aW : After w W := by rw [hW]; exact After.rfl.draws _
    have y0 : W.cell? ⟨b, off + P, none⟩ = some (.int .i64 f) := by rw [hW]; exact z0
    have y1 : W.cell? ⟨b, off + P + q, none⟩ = some (.int .i64 y) := by rw [hW]; exact z1
    have HW := hideIt (show Dr w W from ⟨_, hW⟩)
    rw [← HM.out]
    clear hW aW z0 z1 c0 c1 HM p7 p8 p9 p10 p11 p12 p13 p1 p2 p3 p5 hmx
    go_wp2_with fail
    go_quiet (fail)
    go_wp2
    go_ret2
    refine ⟨?_, HW.out.trans ⟨_, rfl⟩⟩
    rw [HR.out]
    rfl
end Go.Proofs.YtgapnimicaopcaaGreat.L12
