/-
  Package block: Read, Write.
-/
import Derived.Test.YtalffdiohjcajaaDbO
namespace Go.Proofs.Ytalffdiohjcajaa
open Go.RowKit
set_option maxRecDepth 8000
theorem SecAt.row {w : World} {g : Nat} {b : List Int} (h : SecAt w g b) (hb : Sec b) : Row w (some ⟨g, 0, none⟩) 64 b :=
  ⟨hb.1, hb.2, fun i hi => ⟨g, 0, rfl, h.lt, by
    rw [Nat.zero_add]
    refine blk_cell h ?_
    have hi' : i < b.length := by rw [hb.1]; exact hi
    simp [u8s, hi']⟩⟩
theorem dvRead_no {w : World} {d g m : Nat} {x : Dv} (h : DvX w d g m x) (i : Int) (hE : x.readE i ≠ 0) : Calls Try.prog 18 #[Ptr d, .int .i64 i] w fun e w' => e = .returned (.tuple #[.slice none 0 0, .int .i64 (x.readE i)]) ∧ w' = w := by
  obtain ⟨L, h⟩ := h
  have HN := dvCheck h
  have HI := hideIt (dvHas h i)
  clear h
  cases hd : x.dead with
  | true =>
    have hc : x.chk = 220 := by unfold Dv.chk; rw [hd]; rfl
    have he : x.readE i = 220 := by unfold Dv.readE; rw [hd]; rfl
    rw [hc] at HN
    rw [he]
    clear hE hc he hd HI
    go_enter Try.func18, Try.ntmps18
    go_wp2_with (go_at_call 33; refine HN.mono ?_; rintro e w' ⟨rfl, rfl⟩)
    go_ret2
    exact ⟨rfl, rfl⟩
  | false =>
    have hc : x.chk = 0 := by unfold Dv.chk; rw [hd]; rfl
    by_cases hi : 0 ≤ i ∧ i < x.n
    · exact absurd (by unfold Dv.readE; rw [hd, if_pos hi]; rfl) hE
    · have he : x.readE i = 2 := by unfold Dv.readE; rw [hd, if_neg hi]; rfl
      have hb : hasB x i = false := decide_eq_false hi
      rw [hc] at HN
      rw [he]
      rw [hb] at HI
      clear hE hc he hd hi hb
      go_enter Try.func18, Try.ntmps18
      go_wp2_with (first
        | (go_at_call 33; refine HN.mono ?_; rintro e w' ⟨rfl, rfl⟩)
        | (go_at_call 34; refine HI.out.mono ?_; rintro e w' ⟨rfl, rfl⟩))
      go_ret2
      exact ⟨rfl, rfl⟩
theorem dvRead_yes {w : World} {d g m : Nat} {x : Dv} (h : DvX w d g m x) (hd : x.dead = false) {i : Nat} (hi : i < x.n) : Calls Try.prog 18 #[Ptr d, .int .i64 i] w fun e w' => ∃ q, e = .returned (.tuple #[.slice (some ⟨q, 0, none⟩) 64 64, .int .i64 0]) ∧ SecAt w' q (x.last i) ∧ w.heap.size ≤ q ∧ After w w' := by
  obtain ⟨L, h⟩ := h
  have HN := dvCheck h
  have HI := dvHas h (i : Int)
  have HL := hideIt (dvLast h hi)
  have hl := (h.ok.s i).1
  clear h
  have hc : x.chk = 0 := by unfold Dv.chk; rw [hd]; rfl
  have hb : hasB x i = true := decide_eq_true ⟨by omega, by omega⟩
  rw [hc] at HN
  rw [hb] at HI
  clear hc hd hi hb
  generalize x.last i = R at *
  go_enter Try.func18, Try.ntmps18
  go_wp2_with (first
    | (go_at_call 33; refine HN.mono ?_; rintro e w' ⟨rfl, rfl⟩)
    | (go_at_call 34; refine HI.mono ?_; rintro e w' ⟨rfl, rfl⟩)
    | (go_at_call 39; refine HL.out.mono ?_; rintro e w1 ⟨rfl, a1⟩; have A1 := hideIt a1; clear a1)
    | (show wpList _ _ _ (_ :: _) _ _; refine wl_asec rfl rfl ?_; intro W2 k2 a2 s2; have K2 := hideIt (And.intro k2 (And.intro a2 s2)); clear k2 a2 s2)
    | (show wpList _ _ _ (_ :: _) _ _; refine wl_ssec _ _ rfl rfl rfl _ rfl K2.out.1 rfl hl ?_; intro W3 k3 b3 s3; have K3 := hideIt (And.intro k3 (And.intro b3 s3)); clear k3 b3 s3)
    | fail)
  go_ret2
  exact ⟨_, rfl, K3.out.1, A1.out.size, (A1.out.trans K2.out.2.1).then K3.out.2.1 (fun k hk e => by have := A1.out.size; have e : k = w1.heap.size := e; omega)⟩
/-- What may not be written. -/
theorem dvWrite_no {w : World} {d g m : Nat} {x : Dv} (h : DvX w d g m x) (i : Int) (a : Option Addr) (n c : Nat) (b : List Int) (hbn : b.length = n) (hE : x.dead = true ∨ ¬ x.may i b) : Calls Try.prog 12 #[Ptr d, .int .i64 i, .slice a n c] w fun e w' => e = .returned (.int .i64 (x.writeE i b)) ∧ w' = w := by
  obtain ⟨L, h⟩ := h
  have HN := dvCheck h
  have HI := hideIt (dvHas h i)
  clear h
  cases hd : x.dead with
  | true =>
    have hc : x.chk = 220 := by unfold Dv.chk; rw [hd]; rfl
    have he : x.writeE i b = 220 := by unfold Dv.writeE; rw [hd]; rfl
    rw [hc] at HN
    rw [he]
    clear hE hc he hd HI
    go_enter Try.func12, Try.ntmps12
    go_wp2_with (go_at_call 33; refine HN.mono ?_; rintro e w' ⟨rfl, rfl⟩)
    go_ret
    exact ⟨rfl, rfl⟩
  | false =>
    have hc : x.chk = 0 := by unfold Dv.chk; rw [hd]; rfl
    have hm : ¬ x.may i b := by
      rcases hE with h | h
      · rw [hd] at h; cases h
      · exact h
    have he : x.writeE i b = 2 := by unfold Dv.writeE; rw [hd, if_neg hm]; rfl
    rw [hc] at HN
    rw [he]
    unfold Dv.may at hm
    by_cases hi : 0 ≤ i ∧ i < x.n
    · have hb : hasB x i = true := decide_eq_true hi
      have hn : ¬ n = 64 := fun e => hm ⟨hi.1, hi.2, hbn.trans e⟩
      have hn2 : ((n : Int) != 64) = true := by simp; omega
      rw [hb] at HI
      clear hE hc he hd hi hb hm hbn hn
      go_enter Try.func12, Try.ntmps12
      go_wp2_with (first
        | (go_at_call 33; refine HN.mono ?_; rintro e w' ⟨rfl, rfl⟩)
        | (go_at_call 34; refine HI.out.mono ?_; rintro e w' ⟨rfl, rfl⟩))
      go_ret
      exact ⟨rfl, rfl⟩
    · have hb : hasB x i = false := decide_eq_false hi
      rw [hb] at HI
      clear hE hc he hd hi hb hm hbn
      go_enter Try.func12, Try.ntmps12
      go_wp2_with (first
        | (go_at_call 33; refine HN.mono ?_; rintro e w' ⟨rfl, rfl⟩)
        | (go_at_call 34; refine HI.out.mono ?_; rintro e w' ⟨rfl, rfl⟩))
      go_ret
      exact ⟨rfl, rfl⟩
/-- The power goes. -/
theorem dvWrite_die {w : World} {d g m : Nat} {x : Dv} (h : DvX w d g m x) {i : Nat} (hi : i < x.n) (hd : x.dead = false) (hl : x.left = 0) (a : Option Addr) (c : Nat) : Calls Try.prog 12 #[Ptr d, .int .i64 i, .slice a 64 c] w fun e w' => e = .returned (.int .i64 220) ∧ DvX w' d g m x.go ∧ But (One d) w w' := by
  obtain ⟨L, h⟩ := h
  have HN := dvCheck h
  have HI := dvHas h (i : Int)
  have HP := dvPower h hd
  clear h
  have hc : x.chk = 0 := by unfold Dv.chk; rw [hd]; rfl
  have hb : hasB x i = true := decide_eq_true ⟨by omega, by omega⟩
  rw [hc] at HN
  rw [hb] at HI
  rw [show decide (x.left ≠ 0) = false by rw [hl]; rfl] at HP
  clear hc hd hi hb hl
  have HQ := hideIt HP
  clear HP
  go_enter Try.func12, Try.ntmps12
  go_wp2_with (first
    | (go_at_call 33; refine HN.mono ?_; rintro e w' ⟨rfl, rfl⟩)
    | (go_at_call 34; refine HI.mono ?_; rintro e w' ⟨rfl, rfl⟩)
    | (go_at_call 35; refine HQ.out.mono ?_; rintro e w1 ⟨rfl, x1, b1⟩; have X1 := hideIt (And.intro x1 b1); clear x1 b1))
  go_ret
  exact ⟨rfl, X1.out.1, X1.out.2⟩
theorem dvWrite_yes {w : World} {d g m : Nat} {x : Dv} (h : DvX w d g m x) {i : Nat} (hi : i < x.n) (hd : x.dead = false) (hl : ¬ x.left = 0) (q off : Nat) (c : Nat) (b : List Int) (hb : Row w (some ⟨q, off, none⟩) 64 b) (hq : q ≠ d) : Calls Try.prog 12 #[Ptr d, .int .i64 i, .slice (some ⟨q, off, none⟩) 64 c] w fun e w' => e = .returned (.int .i64 0) ∧ DvX w' d g m (x.go.put i b) ∧ But (Two d m) w w' := by
  obtain ⟨L, h⟩ := h
  have HN := dvCheck h
  have HI := dvHas h (i : Int)
  have HP := dvPower h hd
  clear h
  have hc : x.chk = 0 := by unfold Dv.chk; rw [hd]; rfl
  have hb2 : hasB x i = true := decide_eq_true ⟨by omega, by omega⟩
  rw [hc] at HN
  rw [hb2] at HI
  rw [show decide (x.left ≠ 0) = true from decide_eq_true hl] at HP
  have HX := hideIt (show i < x.go.n by rw [go_n]; exact hi)
  have HB := hideIt hb
  clear hc hd hi hb2 hl hb
  have HQ := hideIt HP
  clear HP
  go_enter Try.func12, Try.ntmps12
  go_upto_region 8 with (first
    | (go_at_call 33; refine HN.mono ?_; rintro e w' ⟨rfl, rfl⟩)
    | (go_at_call 34; refine HI.mono ?_; rintro e w' ⟨rfl, rfl⟩)
    | (go_at_call 35; refine HQ.out.mono ?_; rintro e w1 ⟨rfl, x1, b1⟩; have X1 := hideIt (And.intro x1 b1); clear x1 b1))
  obtain ⟨⟨L', x2⟩, b2⟩ := X1.out
  have hq1 : q < w'.heap.size := by
    obtain ⟨b', off', e, hlt, _⟩ := HB.out.2.2 0 (by omega)
    cases e
    exact hlt
  have hr : w1.rangeAt q off (u8s b) := by
    refine range_but (fun j v hj => ?_) b2 hq1 (fun e => hq e)
    have := row_news HB.out j v hj
    rw [add_off] at this
    exact this
  have hbl := HB.out.1
  have hlt := x2.map.lt
  have cm := x2.c1
  obtain ⟨w3, hrun, hw3, hb3⟩ := x2.map.put x2.ok.n1 HX.out b
  have HC : ∀ V, After w1 V → V.cell? ⟨d, 1, none⟩ = some (.map (some m)) ∧ V.rangeAt q off (u8s b) := fun V a => ⟨(a.cell (blk_lt x2.at0) _).trans cm, range_but hr a (Nat.lt_of_lt_of_le hq1 b2.size) (fun t => t)⟩
  have H := hideIt (And.intro x2 (And.intro b2 hbl))
  clear hr hrun hw3 hb3 x2 b2 X1 cm hlt
  refine region_phase (by kernel_rfl) (fun k' => ([Ptr d, Ptr d, .pointer (some ⟨d, 1, none⟩), .map (some m), .int .i64 i, .slice (some ⟨q, off, none⟩) 64 c, .pointer (some ⟨q, off, none⟩), secV b]).getD k' undef) 25 8 (fun _ V => After w1 V) _ rfl rfl (Nat.le_of_ble_eq_true rfl) (But.drew After.rfl) ?_ rfl rfl 12 rfl ?_
  · exact ⟨ph_move rfl rfl rfl rfl rfl (fun _ _ h => h),
      ph_nil rfl rfl rfl rfl rfl rfl (fun _ _ h => h),
      ph_field rfl rfl rfl rfl rfl (fun w => fieldDv1 w _) (fun _ _ h => h),
      ph_load rfl rfl rfl rfl rfl (fun _ V h => loadDv1 (HC V h).1) (fun _ _ h => h),
      ph_move rfl rfl rfl rfl rfl (fun _ _ h => h),
      ph_move rfl rfl rfl rfl rfl (fun _ _ h => h),
      ph_toArr rfl rfl rfl rfl rfl (fun w => arrSec w _ _ _) (fun _ _ h => h),
      ph_load rfl rfl rfl rfl rfl (fun _ V h => load_sec (HC V h).2 H.out.2.2) (fun _ _ h => h),
      trivial⟩
  intro w4 Ls hL h K' hK'
  simp only [puts, List.getD_cons_succ, List.getD_cons_zero, List.setIfInBounds_toArray, List.set_cons_succ, List.set_cons_zero, Nat.reduceAdd]
  have x4 := H.out.1.but h (fun t => t) (fun t => t) (fun t => t)
  obtain ⟨w5, hrun, hw5, hb5⟩ := x4.map.put x4.ok.n1 HX.out b
  refine pw_update rfl rfl rfl rfl rfl hrun (hK' _ _ ?_)
  have HE := hideIt (show DvL w5 d g m L' (x.go.put i b) ∧ But (Two d m) w' w5 from ⟨⟨put_ok x4.ok HX.out ⟨H.out.2.2, HB.out.2.1⟩, x4.lm, x4.l0, x4.l1, (hb5.block d (blk_lt x4.at0) (fun e => x4.dm e)).trans x4.at0, x4.row.but hb5 (fun e => x4.gm e), hw5, x4.dg, x4.dm, x4.gm⟩, ((H.out.2.1.mono (fun k _ e => .inl e)).trans (h.but)).trans (hb5.mono (fun k _ e => .inr e))⟩)
  clear hrun hw5 hb5 x4 h
  go_wp2
  go_ret
  exact ⟨rfl, ⟨L', HE.out.1⟩, HE.out.2⟩
end Go.Proofs.Ytalffdiohjcajaa
