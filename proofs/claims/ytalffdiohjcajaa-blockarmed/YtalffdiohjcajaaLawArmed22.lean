/-
  BlockArmed: armed with n, just n operations are done.
-/
import Derived.Test.YtalffdiohjcajaaDbK
namespace Go.Proofs.Ytalffdiohjcajaa
open Go.RowKit
set_option maxRecDepth 8000
/-- A device of four sectors that was armed with n, dn operations done. -/
def Amd (x : Dv) (n : Int) (dn : Nat) : Prop := x.n = 4 ∧ ((n < 0 ∧ x.left = -1 ∧ x.dead = false) ∨ (0 ≤ n ∧ (dn : Int) ≤ n ∧ x.left = n - dn ∧ (x.dead = true → (dn : Int) = n)))
theorem Amd.start (n : Int) : Amd ((Dv.new 4).armS n) n 0 := by
  unfold Dv.armS
  rw [show (Dv.new 4).dead = false from rfl, if_neg (by decide)]
  refine ⟨rfl, ?_⟩
  by_cases h : n < 0
  · exact .inl ⟨h, if_pos h, rfl⟩
  · exact .inr ⟨by omega, by omega, (if_neg h).trans (by omega), fun e => by cases e⟩
theorem Amd.parts {x : Dv} {n : Int} {dn : Nat} (h : Amd x n dn) : (x.dead = true ∧ 0 ≤ n ∧ (dn : Int) = n) ∨ (x.dead = false ∧ x.left = 0 ∧ 0 ≤ n ∧ (dn : Int) = n) ∨ (x.dead = false ∧ x.left ≠ 0 ∧ n < 0) ∨ (x.dead = false ∧ x.left ≠ 0 ∧ 0 ≤ n ∧ (dn : Int) < n) := by
  rcases h.2 with ⟨h0, h1, h2⟩ | ⟨h0, h1, h2, h3⟩
  · exact .inr (.inr (.inl ⟨h2, by omega, h0⟩))
  · cases hd : x.dead with
    | true => exact .inl ⟨rfl, h0, h3 hd⟩
    | false =>
      by_cases hl : x.left = 0
      · exact .inr (.inl ⟨rfl, hl, h0, by omega⟩)
      · exact .inr (.inr (.inr ⟨rfl, hl, h0, by omega⟩))
theorem go_zero {x : Dv} (h : x.left = 0) : x.go = { x with dead := true } := by unfold Dv.go; rw [if_pos h]
theorem Amd.dies {x : Dv} {n : Int} {dn : Nat} (h : Amd x n dn) (hl : x.left = 0) : Amd x.go n dn ∧ x.go.dead = true := by
  rw [go_zero hl]
  refine ⟨⟨h.1, ?_⟩, rfl⟩
  rcases h.2 with ⟨h0, h1, h2⟩ | ⟨h0, h1, h2, h3⟩
  · rw [hl] at h1; cases h1
  · exact .inr ⟨h0, h1, h2, fun _ => by omega⟩
theorem Amd.goes {x : Dv} {n : Int} {dn : Nat} (h : Amd x n dn) (hd : x.dead = false) (hl : x.left ≠ 0) : Amd x.go n (dn + 1) ∧ x.go.dead = false := by
  unfold Dv.go
  rw [if_neg hl]
  rcases h.2 with ⟨h0, h1, h2⟩ | ⟨h0, h1, h2, h3⟩
  · rw [if_neg (by omega)]
    exact ⟨⟨h.1, .inl ⟨h0, h1, h2⟩⟩, hd⟩
  · rw [if_pos (by omega)]
    exact ⟨⟨h.1, .inr ⟨h0, by omega, by show x.left - 1 = _; omega, fun e => by have e : x.dead = true := e; rw [hd] at e; cases e⟩⟩, hd⟩
/-- What an operation answers, and what it leaves: by what the device was. -/
structure Does (x x' : Dv) (N : Int) (dn dn' : Nat) (q : Bool) : Prop where
  am : Amd x' N dn'
  de : x'.dead = q
theorem shr2 (z : Int) (w : World) (t1 : Operand) : (do eqGuard .shr 3 t1 (.const (.int .u64 2)) (.int .i64 z) (.int .u64 2); binOp .shr 3 (.int .i64 z) (.int .u64 2) : Sem Value).run Try.prog w = .ok (.int .i64 (z / 4)) w := by
  simp [go_sem]
theorem and3b (z : Int) (k : Nat) (h : Go.bits .and .i64 z 3 = (k : Int)) (w : World) (t1 : Operand) : (do eqGuard .and 3 t1 (.const (.int .i64 3)) (.int .i64 z) (.int .i64 3); binOp .and 3 (.int .i64 z) (.int .i64 3) : Sem Value).run Try.prog w = .ok (.int .i64 k) w := by
  simp [go_sem, h]
theorem indexI (w : World) (b off : Nat) {j n c : Nat} (hj : j < n) : (Instr.indexAt 32 (.slice (some ⟨b, off, none⟩) n c) (.int .i64 j)).run Try.prog w = .ok (.pointer (some ⟨b, off + j, none⟩)) w := by
  have : (j : Int) < n := by omega
  simp [go_sem, this]
theorem loadI22 {w : World} {a : Addr} {z : Int} (h : w.cell? a = some (.int .i64 z)) : (Instr.loadAt 3 (.pointer (some a))).run Try.prog w = .ok (.int .i64 z) w := by
  simp [go_sem, h]
theorem sliceFrom1 (w : World) (q : Nat) : (Instr.sliceAt 38 (.slice (some ⟨q, 0, none⟩) 64 64) (some (.int .i64 1)) none none).run Try.prog w = .ok (.slice (some ⟨q, 1, none⟩) 63 63) w := by
  simp [go_sem]
theorem pw_assign {o : Oper} {a : Act} {w : World} {K : Act → World → Prop} {Q : Exit → Act → World → Prop} {x : Operand} {v : Value} (ho : o.op = .assign x) (hx : a.eval x = v) (h : K (a.put o.dst v) w) : Oper.wp Try.prog o a w K Q := by
  unfold Oper.wp execOp
  simp only [ho]
  rw [hx]
  exact h
set_option maxHeartbeats 4000000 in
theorem law_armed22 (w : World) (N : Int) (hN0 : -9223372036854775808 ≤ N) (hN1 : N ≤ 9223372036854775807) (a : Option Addr) (n c : Nat) (zs : List Int) (hz : IRow w a n zs) :
    Calls Try.prog 5 #[.int .i64 N, .slice a n c] w fun e w' => e = .returned (.bool true) ∧ After w w' := by
  have HA := hideIt (awakeB_any w)
  have HZ := hideIt hz
  have HN := hideIt (fun W => sole_new W 4 (by omega) (by omega))
  have HM := hideIt (fun W W' d g m (s : Sole W W' d g m (Dv.new 4)) => s.arm N hN0 hN1)
  have HC0 := hideIt (show (Dv.new 4).chk = 0 from rfl)
  clear hz hN0 hN1
  go_enter Try.func5, Try.ntmps5
  go_wp2_with fail
  refine HA.out.mono ?_
  rintro e w1 ⟨rfl, a1⟩
  have A1 := hideIt a1
  clear a1 HA
  go_wp2_with fail
  refine (HN.out w1).mono ?_
  rintro e w2 ⟨d, g, m, rfl, s2⟩
  have S2 := hideIt (HM.out _ _ _ _ _ s2)
  rw [HC0.out] at S2
  clear s2 HN HM HC0
  go_wp2_with fail
  refine S2.out.mono ?_
  rintro e w3 ⟨rfl, s3⟩
  have S3 := hideIt (And.intro s3 (Amd.start N))
  clear s3 S2
  generalize (Dv.new 4).armS N = x0 at *
  go_wp2_with fail
  go_loopw [7, 8] (fun dv iv wr => ∃ (j dn : Nat) (x : Dv), j ≤ n ∧ j ≤ 100 ∧ dn ≤ j ∧ dv = .int .i64 dn ∧ iv = .int .i64 j ∧ Sole w1 wr d g m x ∧ Amd x N dn) (fun _ iv _ => 100 - (intOf iv).toNat)
  case atStart => exact ⟨0, 0, x0, Nat.zero_le _, Nat.zero_le _, Nat.le_refl _, rfl, rfl, S3.out.1, S3.out.2⟩
  case round =>
    obtain ⟨j, dn, x, hj, hj2, hdn, rfl, rfl, s, am⟩ := hrel
    clear S3 x0
    by_cases hgo : j < n ∧ j < 100
    · obtain ⟨hjn, hj100⟩ := hgo
      have i1 : (j : Int) < (n : Int) := by omega
      have i2 : (j : Int) < 100 := by omega
      have dn1 : (dn : Int) ≤ 100 := by omega
      obtain ⟨bb, off, rfl, hb, d0⟩ := HZ.out.2 j hjn
      have hb1 := Nat.lt_of_lt_of_le hb A1.out.size
      have HC := hideIt (fun V (a : After w1 V) => (a.cell hb1 (off + j)).trans ((A1.out.cell hb (off + j)).trans d0))
      have e1 := HC.out wr s.af
      clear d0 hb hb1
      generalize zs.getD j 0 = z at *
      obtain ⟨K, hK, eK, hKz⟩ := and3D z
      obtain ⟨k, hk, ek, hkz⟩ := and3D (z / 4)
      clear hKz hkz
      have hd := am.parts
      have HX := hideIt (And.intro s (And.intro am (And.intro hk hdn)))
      have hK4 : K = 0 ∨ K = 1 ∨ K = 2 ∨ K = 3 := by omega
      have HDE := hideIt (show ∀ q, x.dead = q → Calls Try.prog 16 #[Ptr d] wr fun e w' => e = .returned (.bool q) ∧ w' = wr from fun q hq => by rw [← hq]; exact s.dead)
      clear s am hK
      rcases hd with ⟨hd, n0, n1⟩ | ⟨hd, hl, n0, n1⟩ | ⟨hd, hl, n0⟩ | ⟨hd, hl, n0, n1⟩
      · rcases hK4 with rfl | rfl | rfl | rfl
        · have eK : Go.bits .and .i64 z 3 = 0 := eK
          have m1 : N ≤ (dn : Int) := by omega
          have m2 : ¬ (dn : Int) < N := by omega
          have m3 : ¬ N < 0 := by omega
          have m4 : decide (N < 0) = false := decide_eq_false m3
          have m5 : decide ((dn : Int) < N) = false := decide_eq_false m2
          have m6 : (decide (N < 0) || decide ((dn : Int) < N)) = false := by rw [m4, m5]; rfl
          clear n1
          have HQ := hideIt (HDE.out true hd)
          have hE : x.writeE k (allB j) = 220 := by unfold Dv.writeE; rw [hd]; rfl
          have hS : x.writeS k (allB j) = x := by unfold Dv.writeS; rw [hd]; rfl
          have HDO := hideIt (show Does x x N dn dn true from ⟨HX.out.2.1, hd⟩)
          have hW := fun V q (s : Sole w1 V d g m x) (r : Row V (some ⟨q, 0, none⟩) 64 (allB j)) (hq : q ≠ d) => s.write k _ 64 64 _ r (fun y hy => by cases hy; exact hq)
          rw [hE, hS] at hW
          have HW := hideIt hW
          clear hW hE hS hd
          clear HDE
          go_upto_region 18 with (first | (go_at_call 16; refine HQ.out.mono ?_; rintro e W4 ⟨rfl, hW4⟩; obtain rfl := hW4.symm) | fail)
          clear e1
          refine region_phase (by kernel_rfl) (fun i => ([Ptr d, .slice (some ⟨bb, off, none⟩) n c, .int .i64 j, .pointer (some ⟨bb, off + j, none⟩), .int .i64 z, .int .i64 (z / 4), .int .i64 k, .int .i64 j, .slice (some ⟨wr.heap.size, 0, none⟩) 64 64, .int .i64 220]).getD i undef) 78 10 (Ph2 8 9 (fun V => After wr V ∧ V.heap.size = wr.heap.size) (fun V => After wr V ∧ Row V (some ⟨wr.heap.size, 0, none⟩) 64 (allB j)) (fun V => Sole w1 V d g m x)) _ rfl rfl (Nat.le_of_ble_eq_true rfl) (.inl ⟨rfl, rfl, But.drew After.rfl, rfl⟩) ?_ rfl rfl 12 rfl ?_
          · exact ⟨ph_move rfl rfl rfl rfl rfl (Ph2.keep (by decide) (by decide)),
              ph_move rfl rfl rfl rfl rfl (Ph2.keep (by decide) (by decide)),
              ph_move rfl rfl rfl rfl rfl (Ph2.keep (by decide) (by decide)),
              ph_index rfl rfl rfl rfl rfl rfl (fun V => indexI V _ _ hjn) (Ph2.keep (by decide) (by decide)),
              ph_load rfl rfl rfl rfl rfl (fun L V h => loadI22 (HC.out V (h.any (fun x => HX.out.1.af.trans x.1) (fun x => HX.out.1.af.trans x.1) (fun x => x.af)))) (Ph2.keep (by decide) (by decide)),
              ph_bin rfl rfl rfl rfl rfl rfl (fun V => shr2 z V _) (Ph2.keep (by decide) (by decide)),
              ph_bin rfl rfl rfl rfl rfl rfl (fun V => and3b (z / 4) k ek V _) (Ph2.keep (by decide) (by decide)),
              ph_move rfl rfl rfl rfl rfl (Ph2.keep (by decide) (by decide)),
              ph_call (vs := [.int .i64 j]) rfl rfl rfl rfl (enterP Try.func13 (by kernel_rfl) (by kernel_rfl)) rfl (fun L V hd hl h => (all_at V j).mono (fun e w' q => ⟨by rw [q.1, (h.first hl).1.2]; rfl, Ph2.done1 (by decide) (h.first hl).2 ⟨(h.first hl).1.1.trans q.2.2, by have := q.2.1; rw [(h.first hl).1.2] at this; exact this⟩⟩)),
              ph_call (vs := [Ptr d, .int .i64 k, .slice (some ⟨wr.heap.size, 0, none⟩) 64 64]) rfl rfl rfl rfl (enterP Try.func12 (by kernel_rfl) (by kernel_rfl)) rfl (fun L V hd hl h => (HW.out V _ (HX.out.1.after (h.second (hd 8 rfl) hl).1) (h.second (hd 8 rfl) hl).2 (fun e => by have := HX.out.1.dv.lt d (.inl rfl); omega)).mono (fun e w' q => ⟨q.1, Ph2.done2 (by decide) (hd 8 rfl) q.2⟩)),
              trivial⟩
          intro w5 Ls hL h K' hK'
          simp only [puts, List.getD_cons_succ, List.getD_cons_zero, List.setIfInBounds_toArray, List.set_cons_succ, List.set_cons_zero, Nat.reduceAdd]
          refine pw_assign rfl (v := .int .i64 220) rfl (hK' _ _ ?_)
          have X5 := hideIt (h.end (hL 9 (by decide)))
          clear h hL hK' HW
          simp only [Act.put, List.getElem_toArray, List.getElem_cons_succ, List.getElem_cons_zero, List.setIfInBounds_toArray, List.set_cons_succ, List.set_cons_zero]
          have HD5 := hideIt X5.out.dead
          rw [HDO.out.de] at HD5
          go_wp2_with (first | (go_at_call 16; refine HD5.out.mono ?_; rintro e W6 ⟨rfl, hW6⟩; obtain rfl := hW6.symm) | fail)
          exact ⟨⟨j + 1, dn, x, by omega, by omega, by omega, rfl, by simp, X5.out, HDO.out.am⟩, by simp [intOf]; omega⟩
        · have eK : Go.bits .and .i64 z 3 = 1 := eK
          have m1 : N ≤ (dn : Int) := by omega
          have m2 : ¬ (dn : Int) < N := by omega
          have m3 : ¬ N < 0 := by omega
          have m4 : decide (N < 0) = false := decide_eq_false m3
          have m5 : decide ((dn : Int) < N) = false := decide_eq_false m2
          have m6 : (decide (N < 0) || decide ((dn : Int) < N)) = false := by rw [m4, m5]; rfl
          clear n1
          have HQ := hideIt (HDE.out true hd)
          have hE : x.flushE = 220 := by unfold Dv.flushE; rw [hd]; rfl
          have hS : x.flushS = x := by unfold Dv.flushS; rw [hd]; rfl
          have HDO := hideIt (show Does x x N dn dn true from ⟨HX.out.2.1, hd⟩)
          have hW := HX.out.1.flush
          rw [hE, hS] at hW
          have HW := hideIt hW
          clear hW hE hS hd
          clear HDE
          go_wp2_with (first | (go_at_call 16; refine HQ.out.mono ?_; rintro e W4 ⟨rfl, hW4⟩; obtain rfl := hW4.symm) | (go_at_call 14; refine HW.out.mono ?_; rintro e w5 ⟨rfl, s5⟩; have X5 := hideIt s5; have HD5 := hideIt s5.dead; rw [HDO.out.de] at HD5; clear s5 HW) | (go_at_call 16; refine HD5.out.mono ?_; rintro e W6 ⟨rfl, hW6⟩; obtain rfl := hW6.symm) | fail)
          exact ⟨⟨j + 1, dn, x, by omega, by omega, by omega, rfl, by simp, X5.out, HDO.out.am⟩, by simp [intOf]; omega⟩
        · have eK : Go.bits .and .i64 z 3 = 2 := eK
          have m1 : N ≤ (dn : Int) := by omega
          have m2 : ¬ (dn : Int) < N := by omega
          have m3 : ¬ N < 0 := by omega
          have m4 : decide (N < 0) = false := decide_eq_false m3
          have m5 : decide ((dn : Int) < N) = false := decide_eq_false m2
          have m6 : (decide (N < 0) || decide ((dn : Int) < N)) = false := by rw [m4, m5]; rfl
          clear n1
          have HQ := hideIt (HDE.out true hd)
          have hE : x.writeE k ((allB j).drop 1) = 220 := by unfold Dv.writeE; rw [hd]; rfl
          have hS : x.writeS k ((allB j).drop 1) = x := by unfold Dv.writeS; rw [hd]; rfl
          have hW := fun V q (s : Sole w1 V d g m x) (r : Row V (some ⟨q, 1, none⟩) 63 ((allB j).drop 1)) (hq : q ≠ d) => s.write k _ 63 63 _ r (fun y hy => by cases hy; exact hq)
          rw [hE, hS] at hW
          have HW := hideIt hW
          clear hW hE hS hd
          clear HDE
          go_upto_region 24 with (first | (go_at_call 16; refine HQ.out.mono ?_; rintro e W4 ⟨rfl, hW4⟩; obtain rfl := hW4.symm) | fail)
          clear e1
          refine region_phase (by kernel_rfl) (fun i => ([Ptr d, .slice (some ⟨bb, off, none⟩) n c, .int .i64 j, .pointer (some ⟨bb, off + j, none⟩), .int .i64 z, .int .i64 (z / 4), .int .i64 k, .int .i64 j, .slice (some ⟨wr.heap.size, 0, none⟩) 64 64, .slice (some ⟨wr.heap.size, 1, none⟩) 63 63, .int .i64 220]).getD i undef) 94 11 (Ph2 8 10 (fun V => After wr V ∧ V.heap.size = wr.heap.size) (fun V => After wr V ∧ Row V (some ⟨wr.heap.size, 0, none⟩) 64 (allB j)) (fun V => Sole w1 V d g m x)) _ rfl rfl (Nat.le_of_ble_eq_true rfl) (.inl ⟨rfl, rfl, But.drew After.rfl, rfl⟩) ?_ rfl rfl 12 rfl ?_
          · exact ⟨ph_move rfl rfl rfl rfl rfl (Ph2.keep (by decide) (by decide)),
              ph_move rfl rfl rfl rfl rfl (Ph2.keep (by decide) (by decide)),
              ph_move rfl rfl rfl rfl rfl (Ph2.keep (by decide) (by decide)),
              ph_index rfl rfl rfl rfl rfl rfl (fun V => indexI V _ _ hjn) (Ph2.keep (by decide) (by decide)),
              ph_load rfl rfl rfl rfl rfl (fun L V h => loadI22 (HC.out V (h.any (fun x => HX.out.1.af.trans x.1) (fun x => HX.out.1.af.trans x.1) (fun x => x.af)))) (Ph2.keep (by decide) (by decide)),
              ph_bin rfl rfl rfl rfl rfl rfl (fun V => shr2 z V _) (Ph2.keep (by decide) (by decide)),
              ph_bin rfl rfl rfl rfl rfl rfl (fun V => and3b (z / 4) k ek V _) (Ph2.keep (by decide) (by decide)),
              ph_move rfl rfl rfl rfl rfl (Ph2.keep (by decide) (by decide)),
              ph_call (vs := [.int .i64 j]) rfl rfl rfl rfl (enterP Try.func13 (by kernel_rfl) (by kernel_rfl)) rfl (fun L V hd hl h => (all_at V j).mono (fun e w' q => ⟨by rw [q.1, (h.first hl).1.2]; rfl, Ph2.done1 (by decide) (h.first hl).2 ⟨(h.first hl).1.1.trans q.2.2, by have := q.2.1; rw [(h.first hl).1.2] at this; exact this⟩⟩)),
              ph_slice (l := some (.int .i64 1)) (h := none) rfl rfl rfl rfl rfl rfl rfl (fun V => sliceFrom1 V _) (Ph2.keep (by decide) (by decide)),
              ph_call (vs := [Ptr d, .int .i64 k, .slice (some ⟨wr.heap.size, 1, none⟩) 63 63]) rfl rfl rfl rfl (enterP Try.func12 (by kernel_rfl) (by kernel_rfl)) rfl (fun L V hd hl h => (HW.out V _ (HX.out.1.after (h.second (hd 8 rfl) hl).1) (by have := (h.second (hd 8 rfl) hl).2.drop (k := 1) (by omega); rw [Nat.zero_add] at this; exact this) (fun e => by have := HX.out.1.dv.lt d (.inl rfl); omega)).mono (fun e w' q => ⟨q.1, Ph2.done2 (by decide) (hd 8 rfl) q.2⟩)),
              trivial⟩
          intro w5 Ls hL h K' hK'
          simp only [puts, List.getD_cons_succ, List.getD_cons_zero, List.setIfInBounds_toArray, List.set_cons_succ, List.set_cons_zero, Nat.reduceAdd]
          refine pw_assign rfl (v := .int .i64 220) rfl (hK' _ _ ?_)
          have X5 := hideIt (h.end (hL 10 (by decide)))
          clear h hL hK' HW
          simp only [Act.put, List.getElem_toArray, List.getElem_cons_succ, List.getElem_cons_zero, List.setIfInBounds_toArray, List.set_cons_succ, List.set_cons_zero]
          go_wp2_with fail
          exact ⟨⟨j + 1, dn, x, by omega, by omega, by omega, rfl, by simp, X5.out, HX.out.2.1⟩, by simp [intOf]; omega⟩
        · have eK : Go.bits .and .i64 z 3 = 3 := eK
          have m1 : N ≤ (dn : Int) := by omega
          have m2 : ¬ (dn : Int) < N := by omega
          have m3 : ¬ N < 0 := by omega
          have m4 : decide (N < 0) = false := decide_eq_false m3
          have m5 : decide ((dn : Int) < N) = false := decide_eq_false m2
          have m6 : (decide (N < 0) || decide ((dn : Int) < N)) = false := by rw [m4, m5]; rfl
          clear n1
          have HQ := hideIt (HDE.out true hd)
          have hE : x.readE k = 220 := by unfold Dv.readE; rw [hd]; rfl
          have hW := HX.out.1.read k
          rw [hE] at hW
          have HW := hideIt hW
          clear hW hE hd
          clear HDE
          go_wp2_with (first | (go_at_call 16; refine HQ.out.mono ?_; rintro e W4 ⟨rfl, hW4⟩; obtain rfl := hW4.symm) | (go_at_call 18; refine HW.out.mono ?_; rintro e w5 ⟨v5, rfl, _, _, s5⟩; have X5 := hideIt s5; clear s5 HW) | fail)
          exact ⟨⟨j + 1, dn, x, by omega, by omega, by omega, rfl, by simp, X5.out, HX.out.2.1⟩, by simp [intOf]; omega⟩
      · rcases hK4 with rfl | rfl | rfl | rfl
        · have eK : Go.bits .and .i64 z 3 = 0 := eK
          have m1 : N ≤ (dn : Int) := by omega
          have m2 : ¬ (dn : Int) < N := by omega
          have m3 : ¬ N < 0 := by omega
          have m4 : decide (N < 0) = false := decide_eq_false m3
          have m5 : decide ((dn : Int) < N) = false := decide_eq_false m2
          have m6 : (decide (N < 0) || decide ((dn : Int) < N)) = false := by rw [m4, m5]; rfl
          clear n1
          have HQ := hideIt (HDE.out false hd)
          have hm : x.may k (allB j) := ⟨by omega, by have := HX.out.2.1.1; have := HX.out.2.2.1; omega, (allB_sec _).1⟩
          have hE : x.writeE k (allB j) = 220 := by rw [writeE_live hd, if_pos hm, if_pos hl]
          have hS : x.writeS k (allB j) = x.go := by rw [writeS_live hd, if_pos hm, if_pos hl]
          have HDO := hideIt (show Does x x.go N dn dn true from ⟨(HX.out.2.1.dies hl).1, (HX.out.2.1.dies hl).2⟩)
          clear hm
          have hW := fun V q (s : Sole w1 V d g m x) (r : Row V (some ⟨q, 0, none⟩) 64 (allB j)) (hq : q ≠ d) => s.write k _ 64 64 _ r (fun y hy => by cases hy; exact hq)
          rw [hE, hS] at hW
          have HW := hideIt hW
          clear hW hE hS hd hl
          generalize x.go = x' at HW HDO
          clear HDE
          go_upto_region 18 with (first | (go_at_call 16; refine HQ.out.mono ?_; rintro e W4 ⟨rfl, hW4⟩; obtain rfl := hW4.symm) | fail)
          clear e1
          refine region_phase (by kernel_rfl) (fun i => ([Ptr d, .slice (some ⟨bb, off, none⟩) n c, .int .i64 j, .pointer (some ⟨bb, off + j, none⟩), .int .i64 z, .int .i64 (z / 4), .int .i64 k, .int .i64 j, .slice (some ⟨wr.heap.size, 0, none⟩) 64 64, .int .i64 220]).getD i undef) 78 10 (Ph2 8 9 (fun V => After wr V ∧ V.heap.size = wr.heap.size) (fun V => After wr V ∧ Row V (some ⟨wr.heap.size, 0, none⟩) 64 (allB j)) (fun V => Sole w1 V d g m x')) _ rfl rfl (Nat.le_of_ble_eq_true rfl) (.inl ⟨rfl, rfl, But.drew After.rfl, rfl⟩) ?_ rfl rfl 12 rfl ?_
          · exact ⟨ph_move rfl rfl rfl rfl rfl (Ph2.keep (by decide) (by decide)),
              ph_move rfl rfl rfl rfl rfl (Ph2.keep (by decide) (by decide)),
              ph_move rfl rfl rfl rfl rfl (Ph2.keep (by decide) (by decide)),
              ph_index rfl rfl rfl rfl rfl rfl (fun V => indexI V _ _ hjn) (Ph2.keep (by decide) (by decide)),
              ph_load rfl rfl rfl rfl rfl (fun L V h => loadI22 (HC.out V (h.any (fun x => HX.out.1.af.trans x.1) (fun x => HX.out.1.af.trans x.1) (fun x => x.af)))) (Ph2.keep (by decide) (by decide)),
              ph_bin rfl rfl rfl rfl rfl rfl (fun V => shr2 z V _) (Ph2.keep (by decide) (by decide)),
              ph_bin rfl rfl rfl rfl rfl rfl (fun V => and3b (z / 4) k ek V _) (Ph2.keep (by decide) (by decide)),
              ph_move rfl rfl rfl rfl rfl (Ph2.keep (by decide) (by decide)),
              ph_call (vs := [.int .i64 j]) rfl rfl rfl rfl (enterP Try.func13 (by kernel_rfl) (by kernel_rfl)) rfl (fun L V hd hl h => (all_at V j).mono (fun e w' q => ⟨by rw [q.1, (h.first hl).1.2]; rfl, Ph2.done1 (by decide) (h.first hl).2 ⟨(h.first hl).1.1.trans q.2.2, by have := q.2.1; rw [(h.first hl).1.2] at this; exact this⟩⟩)),
              ph_call (vs := [Ptr d, .int .i64 k, .slice (some ⟨wr.heap.size, 0, none⟩) 64 64]) rfl rfl rfl rfl (enterP Try.func12 (by kernel_rfl) (by kernel_rfl)) rfl (fun L V hd hl h => (HW.out V _ (HX.out.1.after (h.second (hd 8 rfl) hl).1) (h.second (hd 8 rfl) hl).2 (fun e => by have := HX.out.1.dv.lt d (.inl rfl); omega)).mono (fun e w' q => ⟨q.1, Ph2.done2 (by decide) (hd 8 rfl) q.2⟩)),
              trivial⟩
          intro w5 Ls hL h K' hK'
          simp only [puts, List.getD_cons_succ, List.getD_cons_zero, List.setIfInBounds_toArray, List.set_cons_succ, List.set_cons_zero, Nat.reduceAdd]
          refine pw_assign rfl (v := .int .i64 220) rfl (hK' _ _ ?_)
          have X5 := hideIt (h.end (hL 9 (by decide)))
          clear h hL hK' HW
          simp only [Act.put, List.getElem_toArray, List.getElem_cons_succ, List.getElem_cons_zero, List.setIfInBounds_toArray, List.set_cons_succ, List.set_cons_zero]
          have HD5 := hideIt X5.out.dead
          rw [HDO.out.de] at HD5
          go_wp2_with (first | (go_at_call 16; refine HD5.out.mono ?_; rintro e W6 ⟨rfl, hW6⟩; obtain rfl := hW6.symm) | fail)
          exact ⟨⟨j + 1, dn, x', by omega, by omega, by omega, rfl, by simp, X5.out, HDO.out.am⟩, by simp [intOf]; omega⟩
        · have eK : Go.bits .and .i64 z 3 = 1 := eK
          have m1 : N ≤ (dn : Int) := by omega
          have m2 : ¬ (dn : Int) < N := by omega
          have m3 : ¬ N < 0 := by omega
          have m4 : decide (N < 0) = false := decide_eq_false m3
          have m5 : decide ((dn : Int) < N) = false := decide_eq_false m2
          have m6 : (decide (N < 0) || decide ((dn : Int) < N)) = false := by rw [m4, m5]; rfl
          clear n1
          have HQ := hideIt (HDE.out false hd)
          have hE : x.flushE = 220 := by rw [flushE_live hd, if_pos hl]
          have hS : x.flushS = x.go := by rw [flushS_live hd, if_pos hl]
          have HDO := hideIt (show Does x x.go N dn dn true from ⟨(HX.out.2.1.dies hl).1, (HX.out.2.1.dies hl).2⟩)
          have hW := HX.out.1.flush
          rw [hE, hS] at hW
          have HW := hideIt hW
          clear hW hE hS hd hl
          generalize x.go = x' at HW HDO
          clear HDE
          go_wp2_with (first | (go_at_call 16; refine HQ.out.mono ?_; rintro e W4 ⟨rfl, hW4⟩; obtain rfl := hW4.symm) | (go_at_call 14; refine HW.out.mono ?_; rintro e w5 ⟨rfl, s5⟩; have X5 := hideIt s5; have HD5 := hideIt s5.dead; rw [HDO.out.de] at HD5; clear s5 HW) | (go_at_call 16; refine HD5.out.mono ?_; rintro e W6 ⟨rfl, hW6⟩; obtain rfl := hW6.symm) | fail)
          exact ⟨⟨j + 1, dn, x', by omega, by omega, by omega, rfl, by simp, X5.out, HDO.out.am⟩, by simp [intOf]; omega⟩
        · have eK : Go.bits .and .i64 z 3 = 2 := eK
          have m1 : N ≤ (dn : Int) := by omega
          have m2 : ¬ (dn : Int) < N := by omega
          have m3 : ¬ N < 0 := by omega
          have m4 : decide (N < 0) = false := decide_eq_false m3
          have m5 : decide ((dn : Int) < N) = false := decide_eq_false m2
          have m6 : (decide (N < 0) || decide ((dn : Int) < N)) = false := by rw [m4, m5]; rfl
          clear n1
          have HQ := hideIt (HDE.out false hd)
          have hm : ¬ x.may k ((allB j).drop 1) := fun h => by have := h.2.2; rw [List.length_drop, (allB_sec _).1] at this; cases this
          have hE : x.writeE k ((allB j).drop 1) = 2 := by rw [writeE_live hd, if_neg hm]
          have hS : x.writeS k ((allB j).drop 1) = x := by rw [writeS_live hd, if_neg hm]
          clear hm
          have hW := fun V q (s : Sole w1 V d g m x) (r : Row V (some ⟨q, 1, none⟩) 63 ((allB j).drop 1)) (hq : q ≠ d) => s.write k _ 63 63 _ r (fun y hy => by cases hy; exact hq)
          rw [hE, hS] at hW
          have HW := hideIt hW
          clear hW hE hS hd hl
          clear HDE
          go_upto_region 24 with (first | (go_at_call 16; refine HQ.out.mono ?_; rintro e W4 ⟨rfl, hW4⟩; obtain rfl := hW4.symm) | fail)
          clear e1
          refine region_phase (by kernel_rfl) (fun i => ([Ptr d, .slice (some ⟨bb, off, none⟩) n c, .int .i64 j, .pointer (some ⟨bb, off + j, none⟩), .int .i64 z, .int .i64 (z / 4), .int .i64 k, .int .i64 j, .slice (some ⟨wr.heap.size, 0, none⟩) 64 64, .slice (some ⟨wr.heap.size, 1, none⟩) 63 63, .int .i64 2]).getD i undef) 94 11 (Ph2 8 10 (fun V => After wr V ∧ V.heap.size = wr.heap.size) (fun V => After wr V ∧ Row V (some ⟨wr.heap.size, 0, none⟩) 64 (allB j)) (fun V => Sole w1 V d g m x)) _ rfl rfl (Nat.le_of_ble_eq_true rfl) (.inl ⟨rfl, rfl, But.drew After.rfl, rfl⟩) ?_ rfl rfl 12 rfl ?_
          · exact ⟨ph_move rfl rfl rfl rfl rfl (Ph2.keep (by decide) (by decide)),
              ph_move rfl rfl rfl rfl rfl (Ph2.keep (by decide) (by decide)),
              ph_move rfl rfl rfl rfl rfl (Ph2.keep (by decide) (by decide)),
              ph_index rfl rfl rfl rfl rfl rfl (fun V => indexI V _ _ hjn) (Ph2.keep (by decide) (by decide)),
              ph_load rfl rfl rfl rfl rfl (fun L V h => loadI22 (HC.out V (h.any (fun x => HX.out.1.af.trans x.1) (fun x => HX.out.1.af.trans x.1) (fun x => x.af)))) (Ph2.keep (by decide) (by decide)),
              ph_bin rfl rfl rfl rfl rfl rfl (fun V => shr2 z V _) (Ph2.keep (by decide) (by decide)),
              ph_bin rfl rfl rfl rfl rfl rfl (fun V => and3b (z / 4) k ek V _) (Ph2.keep (by decide) (by decide)),
              ph_move rfl rfl rfl rfl rfl (Ph2.keep (by decide) (by decide)),
              ph_call (vs := [.int .i64 j]) rfl rfl rfl rfl (enterP Try.func13 (by kernel_rfl) (by kernel_rfl)) rfl (fun L V hd hl h => (all_at V j).mono (fun e w' q => ⟨by rw [q.1, (h.first hl).1.2]; rfl, Ph2.done1 (by decide) (h.first hl).2 ⟨(h.first hl).1.1.trans q.2.2, by have := q.2.1; rw [(h.first hl).1.2] at this; exact this⟩⟩)),
              ph_slice (l := some (.int .i64 1)) (h := none) rfl rfl rfl rfl rfl rfl rfl (fun V => sliceFrom1 V _) (Ph2.keep (by decide) (by decide)),
              ph_call (vs := [Ptr d, .int .i64 k, .slice (some ⟨wr.heap.size, 1, none⟩) 63 63]) rfl rfl rfl rfl (enterP Try.func12 (by kernel_rfl) (by kernel_rfl)) rfl (fun L V hd hl h => (HW.out V _ (HX.out.1.after (h.second (hd 8 rfl) hl).1) (by have := (h.second (hd 8 rfl) hl).2.drop (k := 1) (by omega); rw [Nat.zero_add] at this; exact this) (fun e => by have := HX.out.1.dv.lt d (.inl rfl); omega)).mono (fun e w' q => ⟨q.1, Ph2.done2 (by decide) (hd 8 rfl) q.2⟩)),
              trivial⟩
          intro w5 Ls hL h K' hK'
          simp only [puts, List.getD_cons_succ, List.getD_cons_zero, List.setIfInBounds_toArray, List.set_cons_succ, List.set_cons_zero, Nat.reduceAdd]
          refine pw_assign rfl (v := .int .i64 2) rfl (hK' _ _ ?_)
          have X5 := hideIt (h.end (hL 10 (by decide)))
          clear h hL hK' HW
          simp only [Act.put, List.getElem_toArray, List.getElem_cons_succ, List.getElem_cons_zero, List.setIfInBounds_toArray, List.set_cons_succ, List.set_cons_zero]
          go_wp2_with fail
          exact ⟨⟨j + 1, dn, x, by omega, by omega, by omega, rfl, by simp, X5.out, HX.out.2.1⟩, by simp [intOf]; omega⟩
        · have eK : Go.bits .and .i64 z 3 = 3 := eK
          have m1 : N ≤ (dn : Int) := by omega
          have m2 : ¬ (dn : Int) < N := by omega
          have m3 : ¬ N < 0 := by omega
          have m4 : decide (N < 0) = false := decide_eq_false m3
          have m5 : decide ((dn : Int) < N) = false := decide_eq_false m2
          have m6 : (decide (N < 0) || decide ((dn : Int) < N)) = false := by rw [m4, m5]; rfl
          clear n1
          have HQ := hideIt (HDE.out false hd)
          have hE : x.readE k = 0 := by rw [readE_live hd, if_pos ⟨by omega, by have := HX.out.2.1.1; have := HX.out.2.2.1; omega⟩]
          have hW := HX.out.1.read k
          rw [hE] at hW
          have HW := hideIt hW
          clear hW hE hd hl
          clear HDE
          go_wp2_with (first | (go_at_call 16; refine HQ.out.mono ?_; rintro e W4 ⟨rfl, hW4⟩; obtain rfl := hW4.symm) | (go_at_call 18; refine HW.out.mono ?_; rintro e w5 ⟨v5, rfl, _, _, s5⟩; have X5 := hideIt s5; clear s5 HW) | fail)
          exact ⟨⟨j + 1, dn, x, by omega, by omega, by omega, rfl, by simp, X5.out, HX.out.2.1⟩, by simp [intOf]; omega⟩
      · rcases hK4 with rfl | rfl | rfl | rfl
        · have eK : Go.bits .and .i64 z 3 = 0 := eK
          have m0 : ¬ 0 ≤ N := by omega
          have HQ := hideIt (HDE.out false hd)
          have hm : x.may k (allB j) := ⟨by omega, by have := HX.out.2.1.1; have := HX.out.2.2.1; omega, (allB_sec _).1⟩
          have hE : x.writeE k (allB j) = 0 := by rw [writeE_live hd, if_pos hm, if_neg hl]
          have hS : x.writeS k (allB j) = x.go.put k (allB j) := by rw [writeS_live hd, if_pos hm, if_neg hl, Int.toNat_natCast]
          have HDO := hideIt (show Does x (x.go.put k (allB j)) N dn (dn + 1) false from ⟨(HX.out.2.1.goes hd hl).1, (HX.out.2.1.goes hd hl).2⟩)
          clear hm
          have hW := fun V q (s : Sole w1 V d g m x) (r : Row V (some ⟨q, 0, none⟩) 64 (allB j)) (hq : q ≠ d) => s.write k _ 64 64 _ r (fun y hy => by cases hy; exact hq)
          rw [hE, hS] at hW
          have HW := hideIt hW
          clear hW hE hS hd hl
          generalize (x.go.put k (allB j)) = x' at HW HDO
          clear HDE
          go_upto_region 18 with (first | (go_at_call 16; refine HQ.out.mono ?_; rintro e W4 ⟨rfl, hW4⟩; obtain rfl := hW4.symm) | fail)
          clear e1
          refine region_phase (by kernel_rfl) (fun i => ([Ptr d, .slice (some ⟨bb, off, none⟩) n c, .int .i64 j, .pointer (some ⟨bb, off + j, none⟩), .int .i64 z, .int .i64 (z / 4), .int .i64 k, .int .i64 j, .slice (some ⟨wr.heap.size, 0, none⟩) 64 64, .int .i64 0]).getD i undef) 78 10 (Ph2 8 9 (fun V => After wr V ∧ V.heap.size = wr.heap.size) (fun V => After wr V ∧ Row V (some ⟨wr.heap.size, 0, none⟩) 64 (allB j)) (fun V => Sole w1 V d g m x')) _ rfl rfl (Nat.le_of_ble_eq_true rfl) (.inl ⟨rfl, rfl, But.drew After.rfl, rfl⟩) ?_ rfl rfl 12 rfl ?_
          · exact ⟨ph_move rfl rfl rfl rfl rfl (Ph2.keep (by decide) (by decide)),
              ph_move rfl rfl rfl rfl rfl (Ph2.keep (by decide) (by decide)),
              ph_move rfl rfl rfl rfl rfl (Ph2.keep (by decide) (by decide)),
              ph_index rfl rfl rfl rfl rfl rfl (fun V => indexI V _ _ hjn) (Ph2.keep (by decide) (by decide)),
              ph_load rfl rfl rfl rfl rfl (fun L V h => loadI22 (HC.out V (h.any (fun x => HX.out.1.af.trans x.1) (fun x => HX.out.1.af.trans x.1) (fun x => x.af)))) (Ph2.keep (by decide) (by decide)),
              ph_bin rfl rfl rfl rfl rfl rfl (fun V => shr2 z V _) (Ph2.keep (by decide) (by decide)),
              ph_bin rfl rfl rfl rfl rfl rfl (fun V => and3b (z / 4) k ek V _) (Ph2.keep (by decide) (by decide)),
              ph_move rfl rfl rfl rfl rfl (Ph2.keep (by decide) (by decide)),
              ph_call (vs := [.int .i64 j]) rfl rfl rfl rfl (enterP Try.func13 (by kernel_rfl) (by kernel_rfl)) rfl (fun L V hd hl h => (all_at V j).mono (fun e w' q => ⟨by rw [q.1, (h.first hl).1.2]; rfl, Ph2.done1 (by decide) (h.first hl).2 ⟨(h.first hl).1.1.trans q.2.2, by have := q.2.1; rw [(h.first hl).1.2] at this; exact this⟩⟩)),
              ph_call (vs := [Ptr d, .int .i64 k, .slice (some ⟨wr.heap.size, 0, none⟩) 64 64]) rfl rfl rfl rfl (enterP Try.func12 (by kernel_rfl) (by kernel_rfl)) rfl (fun L V hd hl h => (HW.out V _ (HX.out.1.after (h.second (hd 8 rfl) hl).1) (h.second (hd 8 rfl) hl).2 (fun e => by have := HX.out.1.dv.lt d (.inl rfl); omega)).mono (fun e w' q => ⟨q.1, Ph2.done2 (by decide) (hd 8 rfl) q.2⟩)),
              trivial⟩
          intro w5 Ls hL h K' hK'
          simp only [puts, List.getD_cons_succ, List.getD_cons_zero, List.setIfInBounds_toArray, List.set_cons_succ, List.set_cons_zero, Nat.reduceAdd]
          refine pw_assign rfl (v := .int .i64 0) rfl (hK' _ _ ?_)
          have X5 := hideIt (h.end (hL 9 (by decide)))
          clear h hL hK' HW
          simp only [Act.put, List.getElem_toArray, List.getElem_cons_succ, List.getElem_cons_zero, List.setIfInBounds_toArray, List.set_cons_succ, List.set_cons_zero]
          have HD5 := hideIt X5.out.dead
          rw [HDO.out.de] at HD5
          go_wp2_with (first | (go_at_call 16; refine HD5.out.mono ?_; rintro e W6 ⟨rfl, hW6⟩; obtain rfl := hW6.symm) | fail)
          exact ⟨⟨j + 1, (dn + 1), x', by omega, by omega, by omega, by simp, by simp, X5.out, HDO.out.am⟩, by simp [intOf]; omega⟩
        · have eK : Go.bits .and .i64 z 3 = 1 := eK
          have m0 : ¬ 0 ≤ N := by omega
          have HQ := hideIt (HDE.out false hd)
          have hE : x.flushE = 0 := by rw [flushE_live hd, if_neg hl]
          have hS : x.flushS = x.go.flushed := by rw [flushS_live hd, if_neg hl]
          have HDO := hideIt (show Does x x.go.flushed N dn (dn + 1) false from ⟨(HX.out.2.1.goes hd hl).1, (HX.out.2.1.goes hd hl).2⟩)
          have hW := HX.out.1.flush
          rw [hE, hS] at hW
          have HW := hideIt hW
          clear hW hE hS hd hl
          generalize x.go.flushed = x' at HW HDO
          clear HDE
          go_wp2_with (first | (go_at_call 16; refine HQ.out.mono ?_; rintro e W4 ⟨rfl, hW4⟩; obtain rfl := hW4.symm) | (go_at_call 14; refine HW.out.mono ?_; rintro e w5 ⟨rfl, s5⟩; have X5 := hideIt s5; have HD5 := hideIt s5.dead; rw [HDO.out.de] at HD5; clear s5 HW) | (go_at_call 16; refine HD5.out.mono ?_; rintro e W6 ⟨rfl, hW6⟩; obtain rfl := hW6.symm) | fail)
          exact ⟨⟨j + 1, (dn + 1), x', by omega, by omega, by omega, by simp, by simp, X5.out, HDO.out.am⟩, by simp [intOf]; omega⟩
        · have eK : Go.bits .and .i64 z 3 = 2 := eK
          have m0 : ¬ 0 ≤ N := by omega
          have HQ := hideIt (HDE.out false hd)
          have hm : ¬ x.may k ((allB j).drop 1) := fun h => by have := h.2.2; rw [List.length_drop, (allB_sec _).1] at this; cases this
          have hE : x.writeE k ((allB j).drop 1) = 2 := by rw [writeE_live hd, if_neg hm]
          have hS : x.writeS k ((allB j).drop 1) = x := by rw [writeS_live hd, if_neg hm]
          clear hm
          have hW := fun V q (s : Sole w1 V d g m x) (r : Row V (some ⟨q, 1, none⟩) 63 ((allB j).drop 1)) (hq : q ≠ d) => s.write k _ 63 63 _ r (fun y hy => by cases hy; exact hq)
          rw [hE, hS] at hW
          have HW := hideIt hW
          clear hW hE hS hd hl
          clear HDE
          go_upto_region 24 with (first | (go_at_call 16; refine HQ.out.mono ?_; rintro e W4 ⟨rfl, hW4⟩; obtain rfl := hW4.symm) | fail)
          clear e1
          refine region_phase (by kernel_rfl) (fun i => ([Ptr d, .slice (some ⟨bb, off, none⟩) n c, .int .i64 j, .pointer (some ⟨bb, off + j, none⟩), .int .i64 z, .int .i64 (z / 4), .int .i64 k, .int .i64 j, .slice (some ⟨wr.heap.size, 0, none⟩) 64 64, .slice (some ⟨wr.heap.size, 1, none⟩) 63 63, .int .i64 2]).getD i undef) 94 11 (Ph2 8 10 (fun V => After wr V ∧ V.heap.size = wr.heap.size) (fun V => After wr V ∧ Row V (some ⟨wr.heap.size, 0, none⟩) 64 (allB j)) (fun V => Sole w1 V d g m x)) _ rfl rfl (Nat.le_of_ble_eq_true rfl) (.inl ⟨rfl, rfl, But.drew After.rfl, rfl⟩) ?_ rfl rfl 12 rfl ?_
          · exact ⟨ph_move rfl rfl rfl rfl rfl (Ph2.keep (by decide) (by decide)),
              ph_move rfl rfl rfl rfl rfl (Ph2.keep (by decide) (by decide)),
              ph_move rfl rfl rfl rfl rfl (Ph2.keep (by decide) (by decide)),
              ph_index rfl rfl rfl rfl rfl rfl (fun V => indexI V _ _ hjn) (Ph2.keep (by decide) (by decide)),
              ph_load rfl rfl rfl rfl rfl (fun L V h => loadI22 (HC.out V (h.any (fun x => HX.out.1.af.trans x.1) (fun x => HX.out.1.af.trans x.1) (fun x => x.af)))) (Ph2.keep (by decide) (by decide)),
              ph_bin rfl rfl rfl rfl rfl rfl (fun V => shr2 z V _) (Ph2.keep (by decide) (by decide)),
              ph_bin rfl rfl rfl rfl rfl rfl (fun V => and3b (z / 4) k ek V _) (Ph2.keep (by decide) (by decide)),
              ph_move rfl rfl rfl rfl rfl (Ph2.keep (by decide) (by decide)),
              ph_call (vs := [.int .i64 j]) rfl rfl rfl rfl (enterP Try.func13 (by kernel_rfl) (by kernel_rfl)) rfl (fun L V hd hl h => (all_at V j).mono (fun e w' q => ⟨by rw [q.1, (h.first hl).1.2]; rfl, Ph2.done1 (by decide) (h.first hl).2 ⟨(h.first hl).1.1.trans q.2.2, by have := q.2.1; rw [(h.first hl).1.2] at this; exact this⟩⟩)),
              ph_slice (l := some (.int .i64 1)) (h := none) rfl rfl rfl rfl rfl rfl rfl (fun V => sliceFrom1 V _) (Ph2.keep (by decide) (by decide)),
              ph_call (vs := [Ptr d, .int .i64 k, .slice (some ⟨wr.heap.size, 1, none⟩) 63 63]) rfl rfl rfl rfl (enterP Try.func12 (by kernel_rfl) (by kernel_rfl)) rfl (fun L V hd hl h => (HW.out V _ (HX.out.1.after (h.second (hd 8 rfl) hl).1) (by have := (h.second (hd 8 rfl) hl).2.drop (k := 1) (by omega); rw [Nat.zero_add] at this; exact this) (fun e => by have := HX.out.1.dv.lt d (.inl rfl); omega)).mono (fun e w' q => ⟨q.1, Ph2.done2 (by decide) (hd 8 rfl) q.2⟩)),
              trivial⟩
          intro w5 Ls hL h K' hK'
          simp only [puts, List.getD_cons_succ, List.getD_cons_zero, List.setIfInBounds_toArray, List.set_cons_succ, List.set_cons_zero, Nat.reduceAdd]
          refine pw_assign rfl (v := .int .i64 2) rfl (hK' _ _ ?_)
          have X5 := hideIt (h.end (hL 10 (by decide)))
          clear h hL hK' HW
          simp only [Act.put, List.getElem_toArray, List.getElem_cons_succ, List.getElem_cons_zero, List.setIfInBounds_toArray, List.set_cons_succ, List.set_cons_zero]
          go_wp2_with fail
          exact ⟨⟨j + 1, dn, x, by omega, by omega, by omega, rfl, by simp, X5.out, HX.out.2.1⟩, by simp [intOf]; omega⟩
        · have eK : Go.bits .and .i64 z 3 = 3 := eK
          have m0 : ¬ 0 ≤ N := by omega
          have HQ := hideIt (HDE.out false hd)
          have hE : x.readE k = 0 := by rw [readE_live hd, if_pos ⟨by omega, by have := HX.out.2.1.1; have := HX.out.2.2.1; omega⟩]
          have hW := HX.out.1.read k
          rw [hE] at hW
          have HW := hideIt hW
          clear hW hE hd hl
          clear HDE
          go_wp2_with (first | (go_at_call 16; refine HQ.out.mono ?_; rintro e W4 ⟨rfl, hW4⟩; obtain rfl := hW4.symm) | (go_at_call 18; refine HW.out.mono ?_; rintro e w5 ⟨v5, rfl, _, _, s5⟩; have X5 := hideIt s5; clear s5 HW) | fail)
          exact ⟨⟨j + 1, dn, x, by omega, by omega, by omega, rfl, by simp, X5.out, HX.out.2.1⟩, by simp [intOf]; omega⟩
      · rcases hK4 with rfl | rfl | rfl | rfl
        · have eK : Go.bits .and .i64 z 3 = 0 := eK
          have m1 : ¬ N ≤ (dn : Int) := by omega
          have m3 : ¬ N < 0 := by omega
          have HQ := hideIt (HDE.out false hd)
          have hm : x.may k (allB j) := ⟨by omega, by have := HX.out.2.1.1; have := HX.out.2.2.1; omega, (allB_sec _).1⟩
          have hE : x.writeE k (allB j) = 0 := by rw [writeE_live hd, if_pos hm, if_neg hl]
          have hS : x.writeS k (allB j) = x.go.put k (allB j) := by rw [writeS_live hd, if_pos hm, if_neg hl, Int.toNat_natCast]
          have HDO := hideIt (show Does x (x.go.put k (allB j)) N dn (dn + 1) false from ⟨(HX.out.2.1.goes hd hl).1, (HX.out.2.1.goes hd hl).2⟩)
          clear hm
          have hW := fun V q (s : Sole w1 V d g m x) (r : Row V (some ⟨q, 0, none⟩) 64 (allB j)) (hq : q ≠ d) => s.write k _ 64 64 _ r (fun y hy => by cases hy; exact hq)
          rw [hE, hS] at hW
          have HW := hideIt hW
          clear hW hE hS hd hl
          generalize (x.go.put k (allB j)) = x' at HW HDO
          clear HDE
          go_upto_region 18 with (first | (go_at_call 16; refine HQ.out.mono ?_; rintro e W4 ⟨rfl, hW4⟩; obtain rfl := hW4.symm) | fail)
          clear e1
          refine region_phase (by kernel_rfl) (fun i => ([Ptr d, .slice (some ⟨bb, off, none⟩) n c, .int .i64 j, .pointer (some ⟨bb, off + j, none⟩), .int .i64 z, .int .i64 (z / 4), .int .i64 k, .int .i64 j, .slice (some ⟨wr.heap.size, 0, none⟩) 64 64, .int .i64 0]).getD i undef) 78 10 (Ph2 8 9 (fun V => After wr V ∧ V.heap.size = wr.heap.size) (fun V => After wr V ∧ Row V (some ⟨wr.heap.size, 0, none⟩) 64 (allB j)) (fun V => Sole w1 V d g m x')) _ rfl rfl (Nat.le_of_ble_eq_true rfl) (.inl ⟨rfl, rfl, But.drew After.rfl, rfl⟩) ?_ rfl rfl 12 rfl ?_
          · exact ⟨ph_move rfl rfl rfl rfl rfl (Ph2.keep (by decide) (by decide)),
              ph_move rfl rfl rfl rfl rfl (Ph2.keep (by decide) (by decide)),
              ph_move rfl rfl rfl rfl rfl (Ph2.keep (by decide) (by decide)),
              ph_index rfl rfl rfl rfl rfl rfl (fun V => indexI V _ _ hjn) (Ph2.keep (by decide) (by decide)),
              ph_load rfl rfl rfl rfl rfl (fun L V h => loadI22 (HC.out V (h.any (fun x => HX.out.1.af.trans x.1) (fun x => HX.out.1.af.trans x.1) (fun x => x.af)))) (Ph2.keep (by decide) (by decide)),
              ph_bin rfl rfl rfl rfl rfl rfl (fun V => shr2 z V _) (Ph2.keep (by decide) (by decide)),
              ph_bin rfl rfl rfl rfl rfl rfl (fun V => and3b (z / 4) k ek V _) (Ph2.keep (by decide) (by decide)),
              ph_move rfl rfl rfl rfl rfl (Ph2.keep (by decide) (by decide)),
              ph_call (vs := [.int .i64 j]) rfl rfl rfl rfl (enterP Try.func13 (by kernel_rfl) (by kernel_rfl)) rfl (fun L V hd hl h => (all_at V j).mono (fun e w' q => ⟨by rw [q.1, (h.first hl).1.2]; rfl, Ph2.done1 (by decide) (h.first hl).2 ⟨(h.first hl).1.1.trans q.2.2, by have := q.2.1; rw [(h.first hl).1.2] at this; exact this⟩⟩)),
              ph_call (vs := [Ptr d, .int .i64 k, .slice (some ⟨wr.heap.size, 0, none⟩) 64 64]) rfl rfl rfl rfl (enterP Try.func12 (by kernel_rfl) (by kernel_rfl)) rfl (fun L V hd hl h => (HW.out V _ (HX.out.1.after (h.second (hd 8 rfl) hl).1) (h.second (hd 8 rfl) hl).2 (fun e => by have := HX.out.1.dv.lt d (.inl rfl); omega)).mono (fun e w' q => ⟨q.1, Ph2.done2 (by decide) (hd 8 rfl) q.2⟩)),
              trivial⟩
          intro w5 Ls hL h K' hK'
          simp only [puts, List.getD_cons_succ, List.getD_cons_zero, List.setIfInBounds_toArray, List.set_cons_succ, List.set_cons_zero, Nat.reduceAdd]
          refine pw_assign rfl (v := .int .i64 0) rfl (hK' _ _ ?_)
          have X5 := hideIt (h.end (hL 9 (by decide)))
          clear h hL hK' HW
          simp only [Act.put, List.getElem_toArray, List.getElem_cons_succ, List.getElem_cons_zero, List.setIfInBounds_toArray, List.set_cons_succ, List.set_cons_zero]
          have HD5 := hideIt X5.out.dead
          rw [HDO.out.de] at HD5
          go_wp2_with (first | (go_at_call 16; refine HD5.out.mono ?_; rintro e W6 ⟨rfl, hW6⟩; obtain rfl := hW6.symm) | fail)
          exact ⟨⟨j + 1, (dn + 1), x', by omega, by omega, by omega, by simp, by simp, X5.out, HDO.out.am⟩, by simp [intOf]; omega⟩
        · have eK : Go.bits .and .i64 z 3 = 1 := eK
          have m1 : ¬ N ≤ (dn : Int) := by omega
          have m3 : ¬ N < 0 := by omega
          have HQ := hideIt (HDE.out false hd)
          have hE : x.flushE = 0 := by rw [flushE_live hd, if_neg hl]
          have hS : x.flushS = x.go.flushed := by rw [flushS_live hd, if_neg hl]
          have HDO := hideIt (show Does x x.go.flushed N dn (dn + 1) false from ⟨(HX.out.2.1.goes hd hl).1, (HX.out.2.1.goes hd hl).2⟩)
          have hW := HX.out.1.flush
          rw [hE, hS] at hW
          have HW := hideIt hW
          clear hW hE hS hd hl
          generalize x.go.flushed = x' at HW HDO
          clear HDE
          go_wp2_with (first | (go_at_call 16; refine HQ.out.mono ?_; rintro e W4 ⟨rfl, hW4⟩; obtain rfl := hW4.symm) | (go_at_call 14; refine HW.out.mono ?_; rintro e w5 ⟨rfl, s5⟩; have X5 := hideIt s5; have HD5 := hideIt s5.dead; rw [HDO.out.de] at HD5; clear s5 HW) | (go_at_call 16; refine HD5.out.mono ?_; rintro e W6 ⟨rfl, hW6⟩; obtain rfl := hW6.symm) | fail)
          exact ⟨⟨j + 1, (dn + 1), x', by omega, by omega, by omega, by simp, by simp, X5.out, HDO.out.am⟩, by simp [intOf]; omega⟩
        · have eK : Go.bits .and .i64 z 3 = 2 := eK
          have m1 : ¬ N ≤ (dn : Int) := by omega
          have m3 : ¬ N < 0 := by omega
          have HQ := hideIt (HDE.out false hd)
          have hm : ¬ x.may k ((allB j).drop 1) := fun h => by have := h.2.2; rw [List.length_drop, (allB_sec _).1] at this; cases this
          have hE : x.writeE k ((allB j).drop 1) = 2 := by rw [writeE_live hd, if_neg hm]
          have hS : x.writeS k ((allB j).drop 1) = x := by rw [writeS_live hd, if_neg hm]
          clear hm
          have hW := fun V q (s : Sole w1 V d g m x) (r : Row V (some ⟨q, 1, none⟩) 63 ((allB j).drop 1)) (hq : q ≠ d) => s.write k _ 63 63 _ r (fun y hy => by cases hy; exact hq)
          rw [hE, hS] at hW
          have HW := hideIt hW
          clear hW hE hS hd hl
          clear HDE
          go_upto_region 24 with (first | (go_at_call 16; refine HQ.out.mono ?_; rintro e W4 ⟨rfl, hW4⟩; obtain rfl := hW4.symm) | fail)
          clear e1
          refine region_phase (by kernel_rfl) (fun i => ([Ptr d, .slice (some ⟨bb, off, none⟩) n c, .int .i64 j, .pointer (some ⟨bb, off + j, none⟩), .int .i64 z, .int .i64 (z / 4), .int .i64 k, .int .i64 j, .slice (some ⟨wr.heap.size, 0, none⟩) 64 64, .slice (some ⟨wr.heap.size, 1, none⟩) 63 63, .int .i64 2]).getD i undef) 94 11 (Ph2 8 10 (fun V => After wr V ∧ V.heap.size = wr.heap.size) (fun V => After wr V ∧ Row V (some ⟨wr.heap.size, 0, none⟩) 64 (allB j)) (fun V => Sole w1 V d g m x)) _ rfl rfl (Nat.le_of_ble_eq_true rfl) (.inl ⟨rfl, rfl, But.drew After.rfl, rfl⟩) ?_ rfl rfl 12 rfl ?_
          · exact ⟨ph_move rfl rfl rfl rfl rfl (Ph2.keep (by decide) (by decide)),
              ph_move rfl rfl rfl rfl rfl (Ph2.keep (by decide) (by decide)),
              ph_move rfl rfl rfl rfl rfl (Ph2.keep (by decide) (by decide)),
              ph_index rfl rfl rfl rfl rfl rfl (fun V => indexI V _ _ hjn) (Ph2.keep (by decide) (by decide)),
              ph_load rfl rfl rfl rfl rfl (fun L V h => loadI22 (HC.out V (h.any (fun x => HX.out.1.af.trans x.1) (fun x => HX.out.1.af.trans x.1) (fun x => x.af)))) (Ph2.keep (by decide) (by decide)),
              ph_bin rfl rfl rfl rfl rfl rfl (fun V => shr2 z V _) (Ph2.keep (by decide) (by decide)),
              ph_bin rfl rfl rfl rfl rfl rfl (fun V => and3b (z / 4) k ek V _) (Ph2.keep (by decide) (by decide)),
              ph_move rfl rfl rfl rfl rfl (Ph2.keep (by decide) (by decide)),
              ph_call (vs := [.int .i64 j]) rfl rfl rfl rfl (enterP Try.func13 (by kernel_rfl) (by kernel_rfl)) rfl (fun L V hd hl h => (all_at V j).mono (fun e w' q => ⟨by rw [q.1, (h.first hl).1.2]; rfl, Ph2.done1 (by decide) (h.first hl).2 ⟨(h.first hl).1.1.trans q.2.2, by have := q.2.1; rw [(h.first hl).1.2] at this; exact this⟩⟩)),
              ph_slice (l := some (.int .i64 1)) (h := none) rfl rfl rfl rfl rfl rfl rfl (fun V => sliceFrom1 V _) (Ph2.keep (by decide) (by decide)),
              ph_call (vs := [Ptr d, .int .i64 k, .slice (some ⟨wr.heap.size, 1, none⟩) 63 63]) rfl rfl rfl rfl (enterP Try.func12 (by kernel_rfl) (by kernel_rfl)) rfl (fun L V hd hl h => (HW.out V _ (HX.out.1.after (h.second (hd 8 rfl) hl).1) (by have := (h.second (hd 8 rfl) hl).2.drop (k := 1) (by omega); rw [Nat.zero_add] at this; exact this) (fun e => by have := HX.out.1.dv.lt d (.inl rfl); omega)).mono (fun e w' q => ⟨q.1, Ph2.done2 (by decide) (hd 8 rfl) q.2⟩)),
              trivial⟩
          intro w5 Ls hL h K' hK'
          simp only [puts, List.getD_cons_succ, List.getD_cons_zero, List.setIfInBounds_toArray, List.set_cons_succ, List.set_cons_zero, Nat.reduceAdd]
          refine pw_assign rfl (v := .int .i64 2) rfl (hK' _ _ ?_)
          have X5 := hideIt (h.end (hL 10 (by decide)))
          clear h hL hK' HW
          simp only [Act.put, List.getElem_toArray, List.getElem_cons_succ, List.getElem_cons_zero, List.setIfInBounds_toArray, List.set_cons_succ, List.set_cons_zero]
          go_wp2_with fail
          exact ⟨⟨j + 1, dn, x, by omega, by omega, by omega, rfl, by simp, X5.out, HX.out.2.1⟩, by simp [intOf]; omega⟩
        · have eK : Go.bits .and .i64 z 3 = 3 := eK
          have m1 : ¬ N ≤ (dn : Int) := by omega
          have m3 : ¬ N < 0 := by omega
          have HQ := hideIt (HDE.out false hd)
          have hE : x.readE k = 0 := by rw [readE_live hd, if_pos ⟨by omega, by have := HX.out.2.1.1; have := HX.out.2.2.1; omega⟩]
          have hW := HX.out.1.read k
          rw [hE] at hW
          have HW := hideIt hW
          clear hW hE hd hl
          clear HDE
          go_wp2_with (first | (go_at_call 16; refine HQ.out.mono ?_; rintro e W4 ⟨rfl, hW4⟩; obtain rfl := hW4.symm) | (go_at_call 18; refine HW.out.mono ?_; rintro e w5 ⟨v5, rfl, _, _, s5⟩; have X5 := hideIt s5; clear s5 HW) | fail)
          exact ⟨⟨j + 1, dn, x, by omega, by omega, by omega, rfl, by simp, X5.out, HX.out.2.1⟩, by simp [intOf]; omega⟩
    · have HX := hideIt (And.intro s am)
      have HB := hideIt (s.boot (.slice none 0 0) [] ⟨none, 0, rfl, Nat.le_refl _, fun q hq => absurd hq (by simp)⟩)
      have hbr : Runs (x.boot []) 4 := ⟨rfl, rfl, am.1⟩
      clear s am
      have HR := hideIt hbr
      generalize x.boot [] = x' at *
      clear hbr
      have hor : (j < n ∧ ¬ j < 100) ∨ ¬ j < n := by omega
      rcases hor with ⟨h1, h2⟩ | h1
      · have i1 : (j : Int) < (n : Int) := by omega
        have i2 : ¬ (j : Int) < 100 := by omega
        go_wp2_with fail
        refine HB.out.mono ?_
        rintro e w5 ⟨rfl, s5⟩
        have S5 := hideIt s5
        have HD5 := hideIt s5.dead
        rw [HR.out.d] at HD5
        clear s5 HB
        go_wp2_with fail
        refine HD5.out.mono ?_
        rintro e w6 ⟨rfl, rfl⟩
        clear HD5
        go_wp2_with fail
        refine (all_any w6 1).mono ?_
        rintro e w7 ⟨q7, rfl, r7, n7, a7⟩
        have X7 := hideIt (And.intro r7 (And.intro (S5.out.after a7) (show q7 ≠ d by have := S5.out.dv.lt d (.inl rfl); omega)))
        clear r7 n7 a7
        go_wp2_with fail
        refine (X7.out.2.1.writes HR.out (k := 0) (by omega) q7 64 _ X7.out.1 X7.out.2.2).mono ?_
        rintro e w8 ⟨rfl, s8, _⟩
        have A8 := hideIt s8.af
        clear s8 X7
        go_wp2_with fail
        go_ret
        exact ⟨rfl, A1.out.trans A8.out⟩
      · have i1 : ¬ (j : Int) < (n : Int) := by omega
        go_wp2_with fail
        refine HB.out.mono ?_
        rintro e w5 ⟨rfl, s5⟩
        have S5 := hideIt s5
        have HD5 := hideIt s5.dead
        rw [HR.out.d] at HD5
        clear s5 HB
        go_wp2_with fail
        refine HD5.out.mono ?_
        rintro e w6 ⟨rfl, rfl⟩
        clear HD5
        go_wp2_with fail
        refine (all_any w6 1).mono ?_
        rintro e w7 ⟨q7, rfl, r7, n7, a7⟩
        have X7 := hideIt (And.intro r7 (And.intro (S5.out.after a7) (show q7 ≠ d by have := S5.out.dv.lt d (.inl rfl); omega)))
        clear r7 n7 a7
        go_wp2_with fail
        refine (X7.out.2.1.writes HR.out (k := 0) (by omega) q7 64 _ X7.out.1 X7.out.2.2).mono ?_
        rintro e w8 ⟨rfl, s8, _⟩
        have A8 := hideIt s8.af
        clear s8 X7
        go_wp2_with fail
        go_ret
        exact ⟨rfl, A1.out.trans A8.out⟩
end Go.Proofs.Ytalffdiohjcajaa
