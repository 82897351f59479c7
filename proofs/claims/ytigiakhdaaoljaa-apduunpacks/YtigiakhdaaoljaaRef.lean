/-
  The document's reader: New, number, U8, U16, U32, Octets, Left.
-/
import Derived.Test.YtigiakhdaaoljaaClone
import Derived.BigQuiet
import Derived.Deep.RegionHeld3
import Derived.Deep.DrawnRows
namespace Go.Proofs.Ytigiakhdaaoljaa
set_option maxRecDepth 8000
open Go.RowKit
attribute [local go_sem ↓] Go.wp_at_zero Go.wp_at_succ
/-- At block g there is the document's reader, at the place k of the bytes fs, which lie in block h (g itself: nowhere). -/
def RfX (w : World) (g h : Nat) (a : Option Addr) (n c k : Nat) (fs : List Int) : Prop :=
  w.heap[g]? = some (.cells #[.slice a n c, .int .i64 (k : Nat)] 103 (0, 0)) ∧ Row w a n fs ∧ n ≤ c ∧ n ≤ 140737488355328 ∧ k ≤ n ∧ ((a = none ∧ n = 0 ∧ c = 0 ∧ h = g) ∨ ∃ off, a = some ⟨h, off, none⟩ ∧ h ≠ g ∧ h < w.heap.size)
/-- The bytes zs are left to it. -/
def RfAt (w : World) (g h : Nat) (zs : List Int) : Prop := ∃ a n c k fs, RfX w g h a n c k fs ∧ zs = fs.drop k
theorem RfX.but {S : Nat → Prop} {w w' : World} {g h : Nat} {a : Option Addr} {n c k : Nat} {fs : List Int} (r : RfX w g h a n c k fs) (b : But S w w') (hg : ¬ S g) (hh : ¬ S h) : RfX w' g h a n c k fs := by
  obtain ⟨h1, h2, h3, h4, h6, h5⟩ := r
  refine ⟨(b.block g (two_at h1).1 hg).trans h1, h2.but b (fun x hx => ?_), h3, h4, h6, h5.imp_right (fun ⟨off, e, hne, hl⟩ => ⟨off, e, hne, Nat.lt_of_lt_of_le hl b.size⟩)⟩
  rcases h5 with ⟨e, _⟩ | ⟨off, e, _⟩
  · rw [e] at hx; cases hx
  · rw [e] at hx; cases hx; exact hh
theorem RfAt.but {S : Nat → Prop} {w w' : World} {g h : Nat} {zs : List Int} (r : RfAt w g h zs) (b : But S w w') (hg : ¬ S g) (hh : ¬ S h) : RfAt w' g h zs := by
  obtain ⟨a, n, c, k, fs, r, e⟩ := r
  exact ⟨a, n, c, k, fs, r.but b hg hh, e⟩
theorem RfAt.after {w w' : World} {g h : Nat} {zs : List Int} (r : RfAt w g h zs) (b : After w w') : RfAt w' g h zs := r.but b (fun t => t) (fun t => t)
theorem RfAt.bs {w : World} {g h : Nat} {zs : List Int} (r : RfAt w g h zs) : Bs zs := by
  obtain ⟨a, n, c, k, fs, ⟨h1, h2, h3, h4, h6, h5⟩, h7⟩ := r
  rw [h7]; exact h2.2.1.drop k
theorem RfAt.lt {w : World} {g h : Nat} {zs : List Int} (r : RfAt w g h zs) : g < w.heap.size := by
  obtain ⟨a, n, c, k, fs, ⟨h1, _⟩, _⟩ := r
  exact (two_at h1).1
theorem rf_new {w w1 : World} {v : Value} {n : Nat} {zs : List Int} (ho : w1.ownsRow w.heap.size 5 1 v n (u8s zs)) (hb : Bs zs) (ha : After w w1) (hn : n ≤ 140737488355328) :
    ∃ h, RfAt (w1.alloc (.cells #[v, .int .i64 0] 103)) w1.heap.size h zs ∧ w.heap.size ≤ h ∧ After w (w1.alloc (.cells #[v, .int .i64 0] 103)) := by
  obtain ⟨a, c, rfl, r1, r2, r3, r4⟩ := own_row ho hb
  have hal : After w1 (w1.alloc (.cells #[.slice a n c, .int .i64 0] 103)) := After.rfl.alloc _
  cases a with
  | none =>
    obtain ⟨rfl, rfl⟩ := r2 rfl
    exact ⟨w1.heap.size, ⟨none, 0, 0, 0, zs, ⟨two_new _ _ _ _, r1.after hal, Nat.le_refl _, by omega, Nat.le_refl _, .inl ⟨rfl, rfl, rfl, rfl⟩⟩, rfl⟩, ha.size, ha.trans hal⟩
  | some x =>
    obtain ⟨e1, e2⟩ := r4 x rfl
    obtain ⟨l1, l2⟩ := ho.lt _ e1
    exact ⟨x.block, ⟨some x, n, c, 0, zs, ⟨two_new _ _ _ _, r1.after hal, r3, hn, Nat.zero_le _, .inr ⟨0, by rw [← e2], by omega, Nat.lt_of_lt_of_le l2 hal.size⟩⟩, rfl⟩, l1, ha.trans hal⟩
theorem refNew_any (a : Option Addr) (n c : Nat) (zs : List Int) (w : World) (hr : Row w a n zs) (ha : a = none → n = 0 ∧ c = 0) (hn : n ≤ 140737488355328) :
    Calls Try.prog 56 #[.slice a n c] w fun e w' => ∃ g h, e = .returned (Ptr g) ∧ RfAt w' g h zs ∧ w.heap.size ≤ g ∧ w.heap.size ≤ h ∧ After w w' := by
  have HC := hideIt (copy_any a n c zs w hr ha hn)
  have HB := hideIt hr.2.1
  clear hr ha
  go_enter Try.func56, Try.ntmps56
  go_wp2_with fail
  refine HC.out.mono ?_
  rintro e w1 ⟨v, rfl, ho, ha⟩
  obtain ⟨a1, c1, rfl, _⟩ := own_row ho HB.out
  have HR := hideIt (rf_new ho HB.out ha hn)
  have HS := hideIt ha.size
  clear ho ha
  go_wp2
  go_ret
  obtain ⟨h, r1, r2, r3⟩ := HR.out
  exact ⟨_, h, rfl, r1, HS.out, r2, r3⟩
theorem refLeft_any (w : World) (g h : Nat) (zs : List Int) (r : RfAt w g h zs) :
    Calls Try.prog 58 #[Ptr g] w fun e w' => e = .returned (.int .i64 zs.length) ∧ After w w' := by
  obtain ⟨a, n, c, k, fs, ⟨h1, h2, h3, h4, h6, h5⟩, h7⟩ := r
  obtain ⟨_, hc0, hc1, hf0, hf1⟩ := two_at h1
  have HL := hideIt (show ((n : Int) - (k : Int)) = ((zs.length : Nat) : Int) by rw [h7, List.length_drop, h2.1]; omega)
  have k1 : (k : Int) ≤ (n : Int) := by omega
  have k2 : (n : Int) ≤ 140737488355328 := by omega
  clear h1 h2 h3 h5 h4 h6 h7
  go_enter Try.func58, Try.ntmps58
  go_wp2_with fail
  go_quiet (fail)
  go_wp2
  go_ret
  exact ⟨ret_int HL.out, After.rfl.draws _⟩
theorem getD_drop' (zs : List Int) (k i : Nat) : zs.getD (k + i) 0 = (zs.drop k).getD i 0 := (getD_drop zs k i).symm
/-- Behind the store of the place. -/
theorem rf_store {w : World} {g h n c k : Nat} {a : Option Addr} {fs : List Int} (r : RfX w g h a n c k fs) (m : Nat) (hm : m ≤ n) (q : Int) (hq : q = ((m : Nat) : Int)) :
    RfX (w.setCell ⟨g, 1, none⟩ (.int .i64 q)) g h a n c m fs ∧ But (One g) w (w.setCell ⟨g, 1, none⟩ (.int .i64 q)) := by
  have hb : But (One g) w (w.setCell ⟨g, 1, none⟩ (.int .i64 q)) := But.own1 _ _ _ _
  obtain ⟨h1, h2, h3, h4, h6, h5⟩ := r
  subst hq
  refine ⟨⟨two_set1 h1 _, h2.but hb (fun x hx => ?_), h3, h4, hm, h5.imp_right (fun ⟨off, e, hne, hl⟩ => ⟨off, e, hne, Nat.lt_of_lt_of_le hl hb.size⟩)⟩, hb⟩
  rcases h5 with ⟨e, _⟩ | ⟨off, e, hne, _⟩
  · rw [e] at hx; cases hx
  · rw [e] at hx; cases hx; exact hne
set_option maxRecDepth 100000 in
set_option maxHeartbeats 1000000 in
theorem refNumber_x (w : World) (g h m : Nat) (a : Option Addr) (n c k : Nat) (fs zs : List Int) (r : RfX w g h a n c k fs) (hm : m ≤ 4) (h0 : 0 < m) (h7 : zs = fs.drop k) (hl : m ≤ zs.length) :
    Calls Try.prog 71 #[Ptr g, .int .i64 m] w fun e w' => e = .returned (.tuple #[.int .i64 (be (zs.take m)), .int .i64 0]) ∧ RfX w' g h a n c (k + m) fs ∧ But (One g) w w' := by
  have HX := hideIt r
  obtain ⟨h1, h2, h3, h4, h6, h5⟩ := r
  have hbs : Bs zs := by rw [h7]; exact h2.2.1.drop k
  obtain ⟨_, hc0, hc1, hf0, hf1⟩ := two_at h1
  have hz : zs.length = n - k := by rw [h7, List.length_drop, h2.1]
  have k1 : (k : Int) + (m : Int) ≤ (n : Int) := by omega
  have k2 : (n : Int) ≤ 140737488355328 := by omega
  have k3 : (m : Int) ≤ 4 := by omega
  have hS : ∀ nq, RfX ((w.drewN nq).setCell ⟨g, 1, none⟩ (.int .i64 ((k : Int) + (m : Int)))) g h a n c (k + m) fs ∧ But (One g) (w.drewN nq) ((w.drewN nq).setCell ⟨g, 1, none⟩ (.int .i64 ((k : Int) + (m : Int)))) := fun nq =>
    rf_store (HX.out.but (After.rfl.draws nq) (fun t => t) (fun t => t)) (k + m) (by omega) _ (by simp)
  have HS := hideIt hS
  have H2 := hideIt h2
  have HB := hideIt hbs
  have HL := hideIt hl
  have HM := hideIt hm
  have H0 := hideIt h0
  have H7 := hideIt h7
  have HZ := hideIt hz
  have Z0 := hideIt (be_zero zs).symm
  clear h1 h2 h3 h4 h5 h6 h7 hbs hl hm h0 hS hz
  go_enter Try.func71, Try.ntmps71
  go_wp2_with fail
  go_quiet (fail)
  go_wp2_with fail
  go_loopw [6, 7] (fun s i W => ∃ j nq : Nat, j ≤ m ∧ i = .int .i64 j ∧ s = .int .i64 (be (zs.take j)) ∧ W = w.drewN nq) (fun _ i _ => m - (intOf i).toNat)
  case atStart => exact ⟨0, nq, by omega, rfl, congrArg (fun x : Int => Value.int .i64 x) Z0.out, rfl⟩
  case round =>
    obtain ⟨j, nq2, hj, rfl, rfl, rfl⟩ := hrel
    by_cases hlt : j < m
    · obtain ⟨b, off, x, rfl, hbl, hx, hzx, hcx⟩ := H2.out.at (i := k + j) (by omega)
      rw [getD_drop', ← H7.out] at hzx
      have hmm := be_more (zs := zs) (i := j) (by have := HL.out; omega)
      have hbd := be_below HB.out hlt HM.out HL.out
      rw [hzx] at hmm
      obtain ⟨v, hv⟩ := Int.eq_ofNat_of_zero_le hbd.1
      rw [hv] at hmm hbd ⊢
      have HMM := hideIt hmm
      have k4 : (v : Int) < 16777216 := by omega
      have k5 : (x : Int) < 256 := by omega
      have k6 : (k : Int) + (j : Int) < (n : Int) := by omega
      have k7 : (j : Int) < (m : Int) := by omega
      have hcx2 : w.cell? ⟨b, off + (k + j), none⟩ = some (.int .u8 x) := hcx
      clear H2 HB HL Z0 hmm hv hzx hbd HS hcx hx hlt
      go_wp2_with fail
      go_quiet (fail)
      go_wp2
      go_roundw
      case rel => exact ⟨j + 1, nq2 + nq, by omega, by go_num, congrArg (fun x : Int => Value.int .i64 x) HMM.out.symm, rfl⟩
      case measure => simp [intOf]; omega
    · obtain rfl : j = m := by omega
      obtain ⟨s1, s2⟩ := HS.out nq2
      have S1 := hideIt s1
      have S2 := hideIt ((After.but (S := One g) (After.rfl.draws nq2)).trans s2)
      clear s1 s2 HS
      go_wp2
      go_ret2
      exact ⟨rfl, S1.out, S2.out⟩
theorem refNumber_yes (w : World) (g h m : Nat) (zs : List Int) (r : RfAt w g h zs) (hm : m ≤ 4) (h0 : 0 < m) (hl : m ≤ zs.length) :
    Calls Try.prog 71 #[Ptr g, .int .i64 m] w fun e w' => e = .returned (.tuple #[.int .i64 (be (zs.take m)), .int .i64 0]) ∧ RfAt w' g h (zs.drop m) ∧ But (One g) w w' := by
  obtain ⟨a, n, c, k, fs, r, h7⟩ := r
  refine (refNumber_x w g h m a n c k fs zs r hm h0 h7 hl).mono ?_
  rintro e w' ⟨rfl, h1, h2⟩
  exact ⟨rfl, ⟨a, n, c, k + m, fs, h1, by rw [h7, List.drop_drop]⟩, h2⟩
theorem refNumber_no (w : World) (g h m : Nat) (zs : List Int) (r : RfAt w g h zs) (hm : m ≤ 4) (hl : ¬ m ≤ zs.length) :
    Calls Try.prog 71 #[Ptr g, .int .i64 m] w fun e w' => e = .returned (.tuple #[.int .i64 0, .int .i64 3]) ∧ After w w' := by
  obtain ⟨a, n, c, k, fs, ⟨h1, h2, h3, h4, h6, h5⟩, h7⟩ := r
  obtain ⟨_, hc0, hc1, hf0, hf1⟩ := two_at h1
  have hz : zs.length = n - k := by rw [h7, List.length_drop, h2.1]
  have k1 : (n : Int) - (k : Int) < (m : Int) := by omega
  have k0 : (k : Int) ≤ (n : Int) := by omega
  have k2 : (n : Int) ≤ 140737488355328 := by omega
  have k3 : (m : Int) ≤ 4 := by omega
  clear h1 h2 h3 h4 h5 h6 h7 hl hm hz
  go_enter Try.func71, Try.ntmps71
  go_wp2_with fail
  go_quiet (fail)
  go_wp2
  go_ret2
  exact ⟨rfl, After.rfl.draws _⟩
theorem refNumber_any (w : World) (g h m : Nat) (zs : List Int) (r : RfAt w g h zs) (hm : m ≤ 4) (h0 : 0 < m) :
    Calls Try.prog 71 #[Ptr g, .int .i64 m] w fun e w' => e = .returned (.tuple #[.int .i64 (rdVal m zs), .int .i64 (rdErr m zs)]) ∧ RfAt w' g h (rdRest m zs) ∧ But (One g) w w' := by
  by_cases hl : m ≤ zs.length
  · rw [rdVal_yes hl, rdErr_yes hl, rdRest_yes hl]
    exact refNumber_yes w g h m zs r hm h0 hl
  · rw [rdVal_no hl, rdErr_no hl, rdRest_no hl]
    refine (refNumber_no w g h m zs r hm hl).mono ?_
    rintro e w' ⟨rfl, ha⟩
    exact ⟨rfl, r.after ha, ha.but⟩
theorem refU8_any (w : World) (g h : Nat) (zs : List Int) (r : RfAt w g h zs) :
    Calls Try.prog 85 #[Ptr g] w fun e w' => e = .returned (.tuple #[.int .i64 (rdVal 1 zs), .int .i64 (rdErr 1 zs)]) ∧ RfAt w' g h (rdRest 1 zs) ∧ But (One g) w w' := by
  have HT := hideIt (refNumber_any w g h 1 zs r (by decide) (by decide))
  generalize rdVal 1 zs = v at *
  generalize rdErr 1 zs = q at *
  generalize rdRest 1 zs = ys at *
  clear r
  go_enter Try.func85, Try.ntmps85
  go_wp2_with (go_at_call 71; refine HT.out.mono ?_; rintro e w1 ⟨rfl, hr, hb⟩; have HR := hideIt hr; have HB := hideIt hb; clear hr hb)
  go_ret2
  exact ⟨rfl, HR.out, HB.out⟩
theorem refU16_any (w : World) (g h : Nat) (zs : List Int) (r : RfAt w g h zs) :
    Calls Try.prog 57 #[Ptr g] w fun e w' => e = .returned (.tuple #[.int .i64 (rdVal 2 zs), .int .i64 (rdErr 2 zs)]) ∧ RfAt w' g h (rdRest 2 zs) ∧ But (One g) w w' := by
  have HT := hideIt (refNumber_any w g h 2 zs r (by decide) (by decide))
  generalize rdVal 2 zs = v at *
  generalize rdErr 2 zs = q at *
  generalize rdRest 2 zs = ys at *
  clear r
  go_enter Try.func57, Try.ntmps57
  go_wp2_with (go_at_call 71; refine HT.out.mono ?_; rintro e w1 ⟨rfl, hr, hb⟩; have HR := hideIt hr; have HB := hideIt hb; clear hr hb)
  go_ret2
  exact ⟨rfl, HR.out, HB.out⟩
end Go.Proofs.Ytigiakhdaaoljaa
