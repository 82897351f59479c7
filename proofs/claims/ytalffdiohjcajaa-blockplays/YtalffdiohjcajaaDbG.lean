/-
  Package block: Boot.
-/
import Derived.Test.YtalffdiohjcajaaDbE
import Derived.Test.YtalffdiohjcajaaDbF
namespace Go.Proofs.Ytalffdiohjcajaa
open Go.RowKit Go.Maps
set_option maxRecDepth 8000
/-- What the sectors keep behind the first k. -/
def curK (x : Dv) (ch : List Int) (k j : Nat) : List Int := if j < k then bootK x ch j else x.kp j
theorem curK_len {x : Dv} (h : x.Ok) (ch : List Int) (k j : Nat) : (curK x ch k j).length = 64 := by
  unfold curK
  split
  · exact ((boot_ok h ch).k j).1
  · exact (h.k j).1
theorem curK_at (x : Dv) (ch : List Int) (k : Nat) : curK x ch k k = x.kp k := by unfold curK; rw [if_neg (by omega)]
theorem curK_none {x : Dv} (ch : List Int) {k : Nat} (h : x.wr k = none) (j : Nat) : curK x ch k j = curK x ch (k + 1) j := by
  unfold curK
  by_cases e : j = k
  · subst e
    rw [if_neg (by omega), if_pos (by omega), boot_none h]
  · by_cases e2 : j < k
    · rw [if_pos e2, if_pos (by omega)]
    · rw [if_neg e2, if_neg (by omega)]
theorem curK_some {x : Dv} (ch : List Int) {k : Nat} {b : List Int} (h : x.wr k = some b) (j : Nat) : (if j = k then settle (x.kp k) b (ch.getD (cntW x.wr k) 0) else curK x ch k j) = curK x ch (k + 1) j := by
  unfold curK
  by_cases e : j = k
  · subst e
    rw [if_pos rfl, if_pos (by omega), boot_some h]
  · rw [if_neg e]
    by_cases e2 : j < k
    · rw [if_pos e2, if_pos (by omega)]
    · rw [if_neg e2, if_neg (by omega)]
/-- The choices that are left, in a slot. -/
def Lft (w : World) (g : Nat) (v : Value) (ch : List Int) (j : Nat) : Prop := ∃ a c, v = .slice a (ch.length - j) c ∧ ch.length - j ≤ c ∧ ∀ q, j + q < ch.length → ∃ b off, a = some ⟨b, off, none⟩ ∧ b ≠ g ∧ b < w.heap.size ∧ w.cell? ⟨b, off + q, none⟩ = some (.int .i64 (ch.getD (j + q) 0))
theorem Lft.but {w w' : World} {g : Nat} {v : Value} {ch : List Int} {j : Nat} (h : Lft w g v ch j) (x : But (One g) w w') : Lft w' g v ch j := by
  obtain ⟨a, c, e, hc, h⟩ := h
  refine ⟨a, c, e, hc, fun q hq => ?_⟩
  obtain ⟨b, off, ea, hb, hl, hcell⟩ := h q hq
  exact ⟨b, off, ea, hb, Nat.lt_of_lt_of_le hl x.size, (x.cell hl (fun e => hb e) _).trans hcell⟩
theorem first_any (w : World) (g : Nat) (v : Value) (ch : List Int) (j : Nat) (h : Lft w g v ch j) : Calls Try.prog 37 #[v] w fun e w' => ∃ v', e = .returned (.tuple #[.int .i64 (ch.getD j 0), v']) ∧ Lft w' g v' ch (j + 1) ∧ After w w' := by
  obtain ⟨a, c, rfl, hc, h⟩ := h
  by_cases hj : j < ch.length
  · obtain ⟨b, off, rfl, hb, hl, hcell⟩ := h 0 (by omega)
    refine (first_yes w b off (ch.length - j) c _ hcell (by omega) hc).mono ?_
    rintro e w' ⟨a, rfl, ha, af⟩
    refine ⟨_, rfl, ⟨a, c - 1, by rw [Nat.sub_sub], by omega, fun q hq => ?_⟩, af⟩
    obtain ⟨b', off', e', _, _, hq'⟩ := h (q + 1) (by omega)
    cases e'
    refine ⟨b, off + 1, ha (by omega), hb, Nat.lt_of_lt_of_le hl af.size, ?_⟩
    rw [show off + 1 + q = off + (q + 1) by omega, show j + 1 + q = j + (q + 1) by omega]
    exact (af.cell hl _).trans hq'
  · have e : ch.length - j = 0 := by omega
    rw [e]
    refine (first_no w a c).mono ?_
    rintro e w' ⟨rfl, rfl⟩
    refine ⟨_, ?_, ⟨none, 0, by rw [show ch.length - (j + 1) = 0 by omega], by omega, fun q hq => absurd hq (by omega)⟩, After.rfl⟩
    rw [show ch.getD j 0 = 0 by simp [List.getD_eq_getElem?_getD, List.getElem?_eq_none (show ch.length ≤ j by omega)]]
set_option maxHeartbeats 1000000 in
theorem dvBoot {w : World} {d g m : Nat} {x : Dv} (h : DvX w d g m x) (v : Value) (ch : List Int) (hv : Lft w g v ch 0) : Calls Try.prog 17 #[Ptr d, v] w fun e w' => e = .returned (.int .i64 0) ∧ DvX w' d g m (x.boot ch) ∧ But (InD d g m) w w' := by
  obtain ⟨L, h⟩ := h
  have HN := hideIt (dvNone_no h)
  have c0 := h.c0
  have H := hideIt h
  have HV := hideIt hv
  have hn0 := h.ok.n0
  have hn1 : (x.n : Int) ≤ 256 := by have := h.ok.n1; omega
  clear h hv
  go_enter Try.func17, Try.ntmps17
  go_wp2_with (go_at_call 36; refine HN.out.mono ?_; rintro e w' ⟨rfl, rfl⟩)
  go_loopw [1, 17] (fun u i wr => ∃ j : Nat, j ≤ x.n ∧ i = .int .i64 j ∧ Lft wr g u ch (cntW x.wr j) ∧ KRow wr g x.n (curK x ch j) ∧ But (One g) w' wr) (fun _ i _ => x.n - (intOf i).toNat)
  case atStart => exact ⟨0, Nat.zero_le _, rfl, HV.out, H.out.row.congr (fun i _ => by unfold curK; rw [if_neg (by omega)]), But.rfl⟩
  case round =>
    obtain ⟨j, hj, rfl, hu, hk, hb⟩ := hrel
    have hd0 : d < w'.heap.size := blk_lt H.out.at0
    have hm0 : m < w'.heap.size := H.out.map.lt
    have e0 := (hb.cell hd0 (fun e => H.out.dg e) 0).trans c0
    have e1 := (hb.cell hd0 (fun e => H.out.dg e) 1).trans H.out.c1
    have hmap := H.out.map.but hb (fun e => H.out.gm e.symm)
    have hdr : d < wr.heap.size := Nat.lt_of_lt_of_le hd0 hb.size
    have hgr : g < wr.heap.size := hk.lt
    have HR := hideIt (And.intro hu (And.intro hk (And.intro hb hmap)))
    clear hu hk hb
    by_cases hjn : j < x.n
    · have i1 : (j : Int) < (x.n : Int) := by omega
      have i0 : (0 : Int) ≤ (j : Int) := by omega
      have hrg := HR.out.2.1.range hjn
      rw [curK_at] at hrg
      have hkl := (H.out.ok.k j).1
      go_upto_region 6 with (first
        | (show wpList _ _ _ (_ :: _) _ _; refine wl_lsec _ rfl rfl rfl (x.kp j) hrg hkl ?_)
        | (show wpList _ _ _ (_ :: _) _ _; refine wl_asec rfl rfl ?_; intro W1 k1 a1 s1; have K1 := hideIt (And.intro k1 (And.intro a1 s1)); clear k1 a1 s1)
        | (show wpList _ _ _ (_ :: _) _ _; refine wl_ssec _ _ rfl rfl rfl _ rfl K1.out.1 rfl hkl ?_; intro W2 k2 b2 s2; have K2 := hideIt (And.intro k2 (And.intro b2 s2)); clear k2 b2 s2)
        | fail)
      have a2 : After wr W2 := K1.out.2.1.then K2.out.2.1 (fun k hk e => by have e : k = wr.heap.size := e; omega)
      have e0' := (a2.cell hdr 0).trans e0
      have e1' := (a2.cell hdr 1).trans e1
      have hmap2 := HR.out.2.2.2.but a2 (fun t => t)
      have s2 : W2.heap.size = wr.heap.size + 1 := by rw [K2.out.2.2, K1.out.2.2]
      obtain ⟨b, ok, hrun, hcase⟩ := hmap2.look (i := j) (by have := H.out.ok.n1; omega)
      have HW := hideIt (And.intro K2.out.1 (And.intro a2 s2))
      clear e0 e1 hrg K1 K2 a2 s2
      rcases hcase with ⟨rfl, hw⟩ | ⟨rfl, hw, rfl⟩
      · have hbs := (H.out.ok.w j b hw).2
        have hbl := hbs.1
        have HB := hideIt (And.intro hw hbs)
        obtain ⟨z, hz⟩ : ∃ z, ch.getD (cntW x.wr j) 0 = z := ⟨_, rfl⟩
        have hfa := fun V u (h : Lft V g u ch (cntW x.wr j)) => first_any V g u ch _ h
        rw [hz] at hfa
        have HF := hideIt hfa
        have HZ := hideIt hz
        clear hw hbs hfa hz
        go_upto_region 10 with (first
          | (show wpList _ _ _ (_ :: _) _ _; refine wl_asec rfl rfl ?_; intro W3 k3 a3 s3; have K3 := hideIt (And.intro k3 (And.intro a3 s3)); clear k3 a3 s3)
          | (show wpList _ _ _ (_ :: _) _ _; refine wl_ssec _ _ rfl rfl rfl _ rfl K3.out.1 rfl hbl ?_; intro W4 k4 b4 s4; have K4 := hideIt (And.intro k4 (And.intro b4 s4)); clear k4 b4 s4; have HU := hideIt (HR.out.1.but ((HW.out.2.1.trans K3.out.2.1).then K4.out.2.1 (fun k hk e => by have e : k = W2.heap.size := e; have := HW.out.2.2; omega)).but))
          | (go_at_call 37; refine (HF.out _ _ HU.out).mono ?_; rintro e W5 ⟨v5, rfl, hv5, a5⟩; have K5 := hideIt (And.intro hv5 a5); clear hv5 a5)
          | fail)
        have l2 := HW.out.2.2
        have q2 : W2.heap.size < W4.heap.size := K4.out.1.lt
        have a4 : After wr W4 := (HW.out.2.1.trans K3.out.2.1).then K4.out.2.1 (fun k hk e => by have e : k = W2.heap.size := e; omega)
        have a5 : After wr W5 := a4.trans K5.out.2
        have p6 : SecAt W5 wr.heap.size (x.kp j) := ((HW.out.1.after K3.out.2.1).but K4.out.2.1 (fun e => by have e : wr.heap.size = W2.heap.size := e; omega)).after K5.out.2
        have p7 : SecAt W5 W2.heap.size b := K4.out.1.after K5.out.2
        have cd5 := (a5.cell hdr 0).trans ((HR.out.2.2.1.cell hd0 (fun e => H.out.dg e) 0).trans c0)
        have HC : ∀ V, After W5 V → V.cell? ⟨d, 0, none⟩ = some (.slice (some ⟨g, 0, none⟩) x.n x.n) ∧ V.rangeAt wr.heap.size 0 (u8s (x.kp j)) ∧ V.rangeAt W2.heap.size 0 (u8s b) := fun V a => ⟨(a.cell (Nat.lt_of_lt_of_le hdr a5.size) _).trans cd5, (p6.after a).range, (p7.after a).range⟩
        have HT := hideIt (fun V => settle_any V (x.kp j) b (H.out.ok.k j) HB.out.2 z)
        have hsl := (settle_sec (H.out.ok.k j) HB.out.2 z).1
        have HX := hideIt (show settle (x.kp j) b z = settle (x.kp j) b (ch.getD (cntW x.wr j) 0) by rw [HZ.out])
        have HA := hideIt a5
        clear p6 p7 cd5 a4 a5
        refine region_phase (by kernel_rfl) (fun k' => ([Ptr d, Ptr d, Ptr d, .slice (some ⟨g, 0, none⟩) x.n x.n, .int .i64 j, secV (x.kp j), secV b, .int .i64 z, secV (settle (x.kp j) b z), .pointer (some ⟨g, j * 64, none⟩)]).getD k' undef) 37 10 (fun _ V => After W5 V) _ rfl rfl (Nat.le_of_ble_eq_true rfl) (But.drew After.rfl) ?_ rfl rfl 12 rfl ?_
        · exact ⟨ph_move rfl rfl rfl rfl rfl (fun _ _ h => h),
            ph_nil rfl rfl rfl rfl rfl rfl (fun _ _ h => h),
            ph_field rfl rfl rfl rfl rfl (fun w => fieldDv0 w _) (fun _ _ h => h),
            ph_load rfl rfl rfl rfl rfl (fun _ V h => loadDv0 (HC V h).1) (fun _ _ h => h),
            ph_move rfl rfl rfl rfl rfl (fun _ _ h => h),
            ph_load rfl rfl rfl rfl rfl (fun _ V h => load_sec (HC V h).2.1 hkl) (fun _ _ h => h),
            ph_load rfl rfl rfl rfl rfl (fun _ V h => load_sec (HC V h).2.2 hbl) (fun _ _ h => h),
            ph_move rfl rfl rfl rfl rfl (fun _ _ h => h),
            ph_call (vs := [secV (x.kp j), secV b, .int .i64 z]) rfl rfl rfl rfl (enterP Try.func38 (by kernel_rfl) (by kernel_rfl)) rfl (fun _ V _ _ h => (HT.out V).mono (fun e w' q => ⟨q.1, h.trans q.2⟩)),
            ph_index rfl rfl rfl rfl rfl rfl (fun V => indexSec V _ hjn) (fun _ _ h => h),
            trivial⟩
        intro w6 Ls hL h K' hK'
        simp only [puts, List.getD_cons_succ, List.getD_cons_zero, List.setIfInBounds_toArray, List.set_cons_succ, List.set_cons_zero, Nat.reduceAdd]
        obtain ⟨w7, hrun7, kr7, b7, s7⟩ := (HR.out.2.1.but (HA.out.trans h) (fun t => t)).store hjn (fun i => curK_len H.out.ok ch j i) hsl
        refine pw_store rfl rfl rfl rfl hrun7 (hK' _ _ ?_)
        have kr8 := kr7.congr (fun i _ => (by rw [HX.out]; exact curK_some ch HB.out.1 i : _ = curK x ch (j + 1) i))
        have HE := hideIt (And.intro kr8 (And.intro ((HR.out.2.2.1.trans (HA.out.trans h).but).trans b7) ((K5.out.1.but h.but).but b7)))
        clear hL hK' h hrun7 kr7 kr8 b7 s7 HC
        go_wp2
        refine ⟨⟨j + 1, by omega, by simp, ?_, HE.out.1, HE.out.2.1⟩, by simp [intOf]; omega⟩
        rw [cnt_some HB.out.1]
        exact HE.out.2.2
      · have HB := hideIt hw
        clear hw
        go_wp2_with (first
          | (show wpList _ _ _ (_ :: _) _ _; refine wl_asec rfl rfl ?_; intro W3 k3 a3 s3; have K3 := hideIt (And.intro k3 (And.intro a3 s3)); clear k3 a3 s3)
          | (show wpList _ _ _ (_ :: _) _ _; refine wl_ssec _ _ rfl rfl rfl _ rfl K3.out.1 rfl rfl ?_; intro W4 k4 b4 s4; have K4 := hideIt (And.intro k4 (And.intro b4 s4)); clear k4 b4 s4)
          | fail)
        have a4 : After wr W4 := (HW.out.2.1.trans K3.out.2.1).then K4.out.2.1 (fun k hk e => by have e : k = W2.heap.size := e; have := HW.out.2.2; omega)
        refine ⟨⟨j + 1, by omega, by simp, ?_, (HR.out.2.1.but a4 (fun t => t)).congr (fun i _ => curK_none ch HB.out i), HR.out.2.2.1.trans a4.but⟩, by simp [intOf]; omega⟩
        rw [cnt_none HB.out]
        exact HR.out.1.but a4.but
    · obtain rfl : j = x.n := by omega
      have hk : KRow wr g x.n (bootK x ch) := HR.out.2.1.congr (fun i hi => by unfold curK; rw [if_pos hi])
      have hb := HR.out.2.2.1
      have f2 : wr.frozen? ⟨d, 2, none⟩ = false := blk_soft ((hb.block d hd0 (fun e => H.out.dg e)).trans H.out.at0) 2
      have x0 : DvL wr d g m L { x with kp := bootK x ch } := ⟨⟨H.out.ok.n0, H.out.ok.n1, (boot_ok H.out.ok ch).k, H.out.ok.w, H.out.ok.l0, H.out.ok.l1⟩, H.out.lm, H.out.l0, H.out.l1, (hb.block d hd0 (fun e => H.out.dg e)).trans H.out.at0, hk, HR.out.2.2.2, H.out.dg, H.out.dm, H.out.gm⟩
      have HX := hideIt (And.intro x0 (And.intro hb hmap))
      clear hk hb x0 hmap f2
      have HC := hideIt (fun W (h : But (One m) wr W) => And.intro (blk_cell (i := 3) ((h.block d hdr (fun e => H.out.dm e)).trans HX.out.1.at0) rfl) (And.intro (blk_cell (i := 2) ((h.block d hdr (fun e => H.out.dm e)).trans HX.out.1.at0) rfl) (And.intro (blk_soft ((h.block d hdr (fun e => H.out.dm e)).trans HX.out.1.at0) 3) (blk_soft ((h.block d hdr (fun e => H.out.dm e)).trans HX.out.1.at0) 2))))
      go_wp2_with (first
        | (refine wl_clear _ rfl rfl rfl HX.out.2.2 ?_; intro w5 hw5 hb5; have H5 := hideIt (And.intro hw5 hb5); obtain ⟨y0, y1, y2, y3⟩ := HC.out _ hb5; clear hw5 hb5)
        | fail)
      go_ret
      have x5 : DvL w5 d g m L { x with kp := bootK x ch, wr := fun _ => none } := ⟨⟨H.out.ok.n0, H.out.ok.n1, (boot_ok H.out.ok ch).k, (fun _ _ h => by cases h), H.out.ok.l0, H.out.ok.l1⟩, H.out.lm, H.out.l0, H.out.l1, (H5.out.2.block d hdr (fun e => H.out.dm e)).trans HX.out.1.at0, HX.out.1.row.but H5.out.2 (fun e => H.out.gm e), H5.out.1, H.out.dg, H.out.dm, H.out.gm⟩
      have x6 := (x5.setQ false).setL (L' := -1) (l' := -1) rfl (by decide) (by decide)
      refine ⟨rfl, ⟨-1, x6⟩, ?_⟩
      exact (((HX.out.2.1.mono (fun k _ e => .inr (.inl e))).trans (H5.out.2.mono (fun k _ e => .inr (.inr e)))).trans ((but_one _ _ _ _).mono (fun k _ e => .inl e))).trans ((but_one _ _ _ _).mono (fun k _ e => .inl e))
end Go.Proofs.Ytalffdiohjcajaa
