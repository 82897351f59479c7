/-
  kept, Beat and Rate of package beats.
-/
import Derived.Test.YtgapnimicaopcaaGreatBtB
namespace Go.Proofs.YtgapnimicaopcaaGreat.L12
open Go.RowKit
set_option maxRecDepth 8000
set_option maxHeartbeats 1000000 in
theorem btKept_any {w : World} {p B n : Nat} {s : List Int} {v : Value} (x : BtX w p B n s v) : Calls Tryz.prog 72 #[Ptr p] w fun e w' => ∃ a, e = .returned (.slice a (kp n s).length (kp n s).length) ∧ IRow w a (kp n s).length (kp n s) ∧ (a = none → (kp n s).length = 0) ∧ Dr w w' := by
  obtain ⟨_, c0, c1, _, _⟩ := two_at x.at0
  have hle := x.le
  have hm1 := x.may.1
  have hm2 := x.may.2
  have hkl := kp_length (n := n) (by omega) s
  by_cases h0 : s.length = 0
  · have hv := x.nil h0
    subst hv
    have hk0 : kp n s = [] := List.length_eq_zero_iff.1 (by omega)
    rw [hk0]
    have m1 : (2 : Int) ≤ (n : Int) := by omega
    have m2 : (n : Int) ≤ 8 := by omega
    have e1 : max (0 - (n : Int) + 1) 0 = 0 := by omega
    have e2 : max (-(n : Int) + 1) 0 = 0 := by omega
    have w1 : IntKind.i64.wrap (0 - (n : Int)) = 0 - (n : Int) := IntWalk.i64_in _ (by omega)
    have w2 : IntKind.i64.wrap (0 - (n : Int) + 1) = 0 - (n : Int) + 1 := IntWalk.i64_in _ (by omega)
    have w3 : IntKind.i64.wrap (-(n : Int)) = -(n : Int) := IntWalk.i64_in _ (by omega)
    have w4 : IntKind.i64.wrap (-(n : Int) + 1) = -(n : Int) + 1 := IntWalk.i64_in _ (by omega)
    clear x h0 hk0 hkl hle hm1 hm2
    go_enter Tryz.func72, Tryz.ntmps72
    go_wp2
    go_quiet (fail)
    go_wp2
    go_ret
    exact ⟨none, rfl, IRow.nil w none, by simp, _, rfl⟩
  · obtain ⟨a, c, rfl, ir, -, hc, -⟩ := own_irow x.own
    obtain ⟨b, off, rfl, -, -⟩ := ir.2 0 (by omega)
    have hdr := ir.drop (k := s.length + 1 - n) (by omega)
    have hkp : s.drop (s.length + 1 - n) = kp n s := rfl
    rw [hkp] at hdr
    rw [show (kp n s).length = s.length - (s.length + 1 - n) by omega]
    have HD := hideIt hdr
    clear hdr hkp hkl ir x
    generalize kp n s = R at *
    generalize s.length = k at *
    obtain ⟨P, hP⟩ : ∃ P : Nat, P = k + 1 - n := ⟨_, rfl⟩
    rw [← hP] at HD ⊢
    have e1 : max ((k : Int) - (n : Int) + 1) 0 = (P : Int) := by omega
    have w1 : IntKind.i64.wrap ((k : Int) - (n : Int)) = (k : Int) - (n : Int) := IntWalk.i64_in _ (by omega)
    have w2 : IntKind.i64.wrap ((k : Int) - (n : Int) + 1) = (k : Int) - (n : Int) + 1 := IntWalk.i64_in _ (by omega)
    have p1 : (P : Int) < (k : Int) := by omega
    have p2 : (k : Int) ≤ (c : Int) := by omega
    have p3 : (k : Int) ≤ 8 := by omega
    have p4 : (k : Int) - (P : Int) = ((k - P : Nat) : Int) := by omega
    have p5 : P < k := by omega
    have p6 : P ≤ k := by omega
    have p7 : k ≤ c := by omega
    have p8 : ¬ k = P := by omega
    have p9 : IntKind.i64.wrap (k : Int) = (k : Int) := IntWalk.i64_in _ (by omega)
    have p10 : (2 : Int) ≤ (n : Int) := by omega
    have p11 : (n : Int) ≤ 8 := by omega
    have HZ := hideIt (show ¬ k - P = 0 by omega)
    clear hP hle hm1 hm2 h0 hc
    go_enter Tryz.func72, Tryz.ntmps72
    go_wp2
    go_quiet (fail)
    go_wp2
    go_ret
    exact ⟨some ⟨b, off + P, none⟩, rfl, HD.out, (fun h => by cases h), _, rfl⟩
theorem own_lit {w : World} {B : Nat} {v : Value} {zs : List Int} (h : OInts w B v zs) : ∃ a c, v = .slice a zs.length c := by
  obtain ⟨a, c, e, -⟩ := own_irow h
  exact ⟨a, c, e⟩
/-- Ticks behind which one more is put, without room: in new memory. -/
theorem app_new {w : World} {ops : Array Oper} {rest : List Oper} {o : Oper} {act : Act} {Q : Exit → Act → World → Prop} (hgd : o.guard = none) (s x : Operand)
    (ho : o.op = .call { callee := .builtin .append, args := #[s, x], argTypes := #[107, 107] }) (a : Option Addr) (k : Nat) (zs : List Int) (hs : act.eval s = .slice a k k) (hr : IRow w a k zs) (hn : a = none → k = 0)
    (ad : Addr) (y : Int) (hx : act.eval x = .slice (some ad) 1 1) (hy : IRow w (some ad) 1 [y]) (hb : k ≤ 1000)
    (h : ∀ a' c w', OInts w' w.heap.size (.slice a' (zs ++ [y]).length c) (zs ++ [y]) → After w w' → wpList Tryz.prog ops Q rest (act.put o.dst (.slice a' (zs ++ [y]).length c)) w') : wpList Tryz.prog ops Q (o :: rest) act w := by
  obtain ⟨i0, hi, hz⟩ := Option.map_eq_some_iff.1 Tryz.infoInt
  simp only [Prod.mk.injEq] at hz
  obtain ⟨hz0, hz1, hz2⟩ := hz
  refine wpList_append_grows w hgd s x 107 ho 3 i0 (.int .i64 0) 1 8 Tryz.underlying107 hi hz0 hz1 hz2 rfl (by decide) a k k (i64s zs) hs (fun e => ⟨hn e, hn e⟩) (by rw [i64s_length, hr.1]; omega) (fun b e j u hj => ?_) ad 1 1 (i64s [y]) hx rfl (irow_news hy) (i64s_one _) (by omega) (by unfold maxLen; omega) (by omega) ?_
  · subst e
    exact irow_news hr j u hj
  · intro v' w' hown hgrow
    rw [i64s_append] at hown
    have e : k + 1 = (zs ++ [y]).length := by rw [List.length_append, List.length_singleton, hr.1]
    rw [e] at hown
    obtain ⟨a', c, rfl⟩ := own_lit hown
    exact h a' c w' hown (But.grown But.rfl hgrow (fun k hk => by cases hk))
theorem bt_store {w w1 w2 : World} {p B n : Nat} {s : List Int} {v u : Value} {t : Int} (x : BtX w p B n s v) (hBs : B ≤ w.heap.size) (ht : Fol s t) (a1 : After w w1) (hown : OInts w2 w1.heap.size u (kp n s ++ [t])) (a2 : After w1 w2) :
    BtX (w2.setCell ⟨p, 1, none⟩ u) p B n (kp n s ++ [t]) u ∧ But (One p) w (w2.setCell ⟨p, 1, none⟩ u) ∧ ∀ k, u.ownBlock = some k → w.heap.size ≤ k := by
  have a3 : After w w2 := a1.trans a2
  have hp := x.lt
  have hm := x.may
  have hs1 := a1.size
  have h0 : w2.heap[p]? = _ := (a3.block p hp (fun t => t)).trans x.at0
  have hk : ∀ k, u.ownBlock = some k → w.heap.size ≤ k := fun k hk => by have := (own_lt hown hk).1; omega
  refine ⟨⟨two_set1 h0 _, ?_, fun h => absurd h (by simp), x.hB, hm, ?_, kp_rise hm.1 x.rise ht⟩, a3.but.trans (but_one _ _ _ _), hk⟩
  · refine own_base (own_but hown (but_one _ _ _ _) (fun k h t => ?_)) (fun k h => ?_)
    · have h1 := hk k h
      have h2 : k = p := t
      omega
    · have := hk k h; omega
  · rw [List.length_append, kp_length (by omega), List.length_singleton]
    omega
set_option maxHeartbeats 1000000 in
theorem btBeat_yes {w : World} {p B n : Nat} {s : List Int} {v : Value} (x : BtX w p B n s v) (hBs : B ≤ w.heap.size) {t : Int} (ht : Fol s t) : Calls Tryz.prog 67 #[Ptr p, .int .i64 t] w fun e w' => e = .returned (.int .i64 0) ∧ But (One p) w w' ∧ ∃ u, BtX w' p B n (kp n s ++ [t]) u ∧ ∀ k, u.ownBlock = some k → w.heap.size ≤ k := by
  have HN := hideIt (btNone_no x)
  have HE := hideIt (btEar_any x)
  have HK := hideIt (fun W (a : After w W) => btKept_any (x.after a))
  have HX := hideIt x
  have HT := hideIt ht
  have HB := hideIt hBs
  have HL := hideIt (show (kp n s).length ≤ 1000 by have := x.may; have := x.le; rw [kp_length (by omega)]; omega)
  have hc := two_at x.at0
  obtain ⟨hlt, -, c1, -, f1⟩ := hc
  have HC := hideIt (fun W (a : After w W) => two_at ((a.block p hlt (fun t => t)).trans x.at0))
  obtain ⟨t1, t2⟩ := ht
  have t3 : ¬ t < ear s := by omega
  have t4 : ¬ 2147483647 < t := by omega
  generalize ear s = E at *
  clear x hBs t1 t2 hlt c1 f1
  go_enter Tryz.func67, Tryz.ntmps67
  go_wp2_with fail
  refine HN.out.mono ?_
  rintro e w' ⟨rfl, hw⟩
  subst w'
  clear HN
  go_wp2_with fail
  refine HE.out.mono ?_
  rintro e w1 ⟨rfl, d1⟩
  have D1 := hideIt d1.after
  have HK1 := hideIt (HK.out _ d1.after)
  clear d1 HE HK
  go_wp2_with fail
  refine HK1.out.mono ?_
  rintro e w2 ⟨a, rfl, ir, hn, d2⟩
  have D2 := hideIt (D1.out.trans d2.after)
  have IR := hideIt ((ir.after d2.after).after (After.rfl.alloc (.cells #[.int .i64 t] 3)))
  have HY := hideIt (show IRow (w2.alloc (.cells #[.int .i64 t] 3)) (some ⟨w2.heap.size, 0, none⟩) 1 [t] from lit_irow (heap_alloc_new w2 _) rfl rfl)
  have HNN := hideIt hn
  clear ir hn d2 HK1 D1
  obtain ⟨R, hR⟩ : ∃ R, R = kp n s := ⟨_, rfl⟩
  rw [← hR] at IR HL HNN ⊢
  have HR := hideIt hR
  clear hR
  go_wp2_with (at_builtin; refine app_new rfl (.tmp 17) (.tmp 19) rfl a R.length R rfl IR.out HNN.out ⟨_, 0, none⟩ t rfl HY.out HL.out ?_)
  intro a' c w3 o3 a3
  have hR := HR.out
  subst hR
  rw [show w2.heap.size + 1 = (w2.alloc (.cells #[.int .i64 t] 3)).heap.size by simp] at o3
  have hf := bt_store HX.out HB.out HT.out (D2.out.alloc _) o3 a3
  have hcc := HC.out _ ((D2.out.alloc _).trans a3)
  obtain ⟨-, -, c1, -, f1⟩ := hcc
  have HF := hideIt hf
  clear hf o3 a3 IR HY HNN HL HR D2
  generalize (kp n s).length = m at *
  go_wp2
  go_ret
  exact ⟨rfl, HF.out.2.1, _, HF.out.1, HF.out.2.2⟩
set_option maxHeartbeats 1000000 in
theorem btBeat_no {w : World} {p B n : Nat} {s : List Int} {v : Value} (x : BtX w p B n s v) {t : Int} (ht : ¬ Fol s t) : Calls Tryz.prog 67 #[Ptr p, .int .i64 t] w fun e w' => e = .returned (.int .i64 9) ∧ Dr w w' := by
  have HN := hideIt (btNone_no x)
  have HE := hideIt (btEar_any x)
  have hh : t < ear s ∨ (¬ t < ear s ∧ 2147483647 < t) := by unfold Fol at ht; omega
  generalize ear s = E at *
  clear x ht
  rcases hh with t1 | ⟨t1, t2⟩
  all_goals
    go_enter Tryz.func67, Tryz.ntmps67
    go_wp2_with fail
    refine HN.out.mono ?_
    rintro e w' ⟨rfl, hw⟩
    subst w'
    clear HN
    go_wp2_with fail
    refine HE.out.mono ?_
    rintro e w1 ⟨rfl, d1⟩
    have D1 := hideIt d1
    clear d1 HE
    go_wp2
    go_ret
    exact ⟨rfl, D1.out⟩
set_option maxHeartbeats 1000000 in
theorem btRate_any {w : World} {p B n : Nat} {s : List Int} {v : Value} (x : BtX w p B n s v) : Calls Tryz.prog 68 #[Ptr p] w fun e w' => e = .returned (.tuple #[.int .i64 (rv s), .bool (ris s)]) ∧ Dr w w' := by
  have HN := hideIt (btNone_no x)
  obtain ⟨_, _, c1, _, _⟩ := two_at x.at0
  have hle := x.le
  have hm := x.may.2
  obtain ⟨a, c, rfl, ir, -, hc, -⟩ := own_irow x.own
  by_cases h0 : s.length < 2
  · have e1 : rv s = 0 := by unfold rv; rw [if_pos h0]
    have e2 : ris s = false := by unfold ris; exact decide_eq_false (by omega)
    rw [e1, e2]
    have h1 : (s.length : Int) < 2 := by omega
    clear x ir e1 e2
    generalize s.length = k at *
    go_enter Tryz.func68, Tryz.ntmps68
    go_wp2_with (go_at_call 70; refine HN.out.mono ?_; rintro e w' ⟨rfl, rfl⟩)
    go_ret2
    exact ⟨rfl, Dr.rfl⟩
  · have e1 : rv s = rt s := by unfold rv; rw [if_neg h0]
    have e2 : ris s = true := by unfold ris; exact decide_eq_true (by omega)
    rw [e1, e2]
    have hl := x.rise.long (by omega)
    have r1 := x.rise.lo 0 (by omega)
    have r2 := x.rise.hi 0 (by omega)
    have r3 := x.rise.lo (s.length - 1) (by omega)
    have r4 := x.rise.hi (s.length - 1) (by omega)
    obtain ⟨b, off, rfl, -, z0⟩ := ir.2 0 (by omega)
    obtain ⟨b', off', ee, -, z1⟩ := ir.2 (s.length - 1) (by omega)
    cases ee
    unfold rt
    obtain ⟨q, hq⟩ : ∃ q : Nat, q = s.length - 1 := ⟨_, rfl⟩
    rw [← hq] at hl r3 r4 z1 ⊢
    generalize s.getD q 0 = y at *
    generalize s.getD 0 0 = f at *
    obtain ⟨d, hd⟩ : ∃ d : Nat, y - f = (d : Int) := ⟨(y - f).toNat, by omega⟩
    have HS := hideIt (fun W => scale_any q d (by omega) (by omega) (by omega) W)
    rw [hd]
    rw [Nat.add_zero] at z0
    generalize rd (q : Int) (d : Int) = X at *
    generalize s.length = k at *
    have h1 : ¬ (k : Int) < 2 := by omega
    have i1 : (k : Int) - 1 = (q : Int) := by omega
    have i2 : (q : Int) < (k : Int) := by omega
    have i3 : (0 : Int) < (k : Int) := by omega
    have i5 : 0 < k := by omega
    have i4 : (k : Int) ≤ 8 := by omega
    have w1 : IntKind.i64.wrap (q : Int) = (q : Int) := IntWalk.i64_in _ (by omega)
    have w2 : IntKind.i64.wrap (d : Int) = (d : Int) := IntWalk.i64_in _ (by omega)
    clear x ir e1 e2 hq hle hm hl hc h0
    go_enter Tryz.func68, Tryz.ntmps68
    go_wp2_with (go_at_call 70; refine HN.out.mono ?_; rintro e w' ⟨rfl, rfl⟩)
    go_quiet (first | (go_at_call 57; refine Calls.quiet_of (HS.out _)))
    go_wp2
    go_ret2
    exact ⟨rfl, _, rfl⟩
end Go.Proofs.YtgapnimicaopcaaGreat.L12
