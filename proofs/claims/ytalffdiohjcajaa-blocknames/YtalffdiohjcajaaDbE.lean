/-
  Package block: Flush.
-/
import Derived.Test.YtalffdiohjcajaaDbO
import Derived.Maps.RangeWalk
namespace Go.Proofs.Ytalffdiohjcajaa
open Go.RowKit Go.Maps
set_option maxRecDepth 8000
theorem But.gb {g : Nat} {w w' : World} (h : But (One g) w w') : w.grownBy w' (some g) := ⟨h.os, h.tape, h.output, h.size, fun k hk hn => h.block k hk (fun e => hn (by rw [show k = g from e]))⟩
theorem After.gb {w w' : World} (h : After w w') : w.grownBy w' none := ⟨h.os, h.tape, h.output, h.size, fun k hk _ => h.block k hk (fun t => t)⟩
theorem but_gb {g : Nat} {w w' : World} (h : w.grownBy w' (some g)) : But (One g) w w' := ⟨h.os, h.tape, h.output, h.size, fun k hk hn => h.block k hk (fun e => hn (by cases e; rfl))⟩
theorem after_gb {w w' : World} (h : w.grownBy w' none) : After w w' := ⟨h.os, h.tape, h.output, h.size, fun k hk _ => h.block k hk (fun e => by cases e)⟩
theorem KRow.congr {w : World} {g n : Nat} {kp kp' : Nat → List Int} (h : KRow w g n kp) (e : ∀ i, i < n → kp i = kp' i) : KRow w g n kp' := by
  obtain ⟨cs, h, h1, h2⟩ := h
  exact ⟨cs, h, h1, fun i hi j v hj => h2 i hi j v (by rw [e i hi]; exact hj)⟩
/-- What is kept while some are still to come. -/
def kpL (x : Dv) (lf : Lit → Bool) (i : Nat) : List Int := if lf (.int .i64 (i : Nat)) = true then x.kp i else x.last i
theorem kpL_start {x : Dv} {D : DataW Unit} {ks : List Nat} (h : Says D ks x.n x.wr) (i : Nat) : x.kp i = kpL x (Maps.has D) i := by
  unfold kpL
  by_cases e : Maps.has D (.int .i64 (i : Nat)) = true
  · rw [if_pos e]
  · rw [if_neg e]
    have hw : x.wr i = none := by
      cases hw : x.wr i with
      | none => rfl
      | some b => exact absurd ((h.has _).2 ⟨i, (h.mem i).2 ⟨b, hw⟩, rfl⟩) e
    unfold Dv.last
    rw [last_none hw]
theorem kpL_len {x : Dv} (h : x.Ok) (lf : Lit → Bool) (i : Nat) : (kpL x lf i).length = 64 := by
  unfold kpL
  split
  · exact (h.k i).1
  · exact (h.s i).1
theorem kpL_end (x : Dv) {lf : Lit → Bool} (h : ∀ kl, lf kl = false) (i : Nat) : kpL x lf i = x.last i := by
  unfold kpL
  rw [h, if_neg (by decide)]
theorem kpL_step {x : Dv} {lf : Lit → Bool} {k : Nat} {b : List Int} (hk : x.wr k = some b) (i : Nat) : (if i = k then b else kpL x lf i) = kpL x (fun z => lf z && !z.sameKey (.int .i64 (k : Nat))) i := by
  unfold kpL
  by_cases e : i = k
  · subst e
    rw [if_pos rfl]
    have : (Lit.int .i64 (i : Nat)).sameKey (.int .i64 (i : Nat)) = true := by simp [Lit.sameKey]
    show b = if (lf (Lit.int .i64 (i : Nat)) && !(Lit.int .i64 (i : Nat)).sameKey (.int .i64 (i : Nat))) = true then x.kp i else x.last i
    rw [this, Bool.not_true, Bool.and_false, if_neg (by decide)]
    unfold Dv.last
    rw [last_some hk]
  · rw [if_neg e]
    have : (Lit.int .i64 (i : Nat)).sameKey (.int .i64 (k : Nat)) = false := by
      simp [Lit.sameKey]
      omega
    show _ = if (lf (Lit.int .i64 (i : Nat)) && !(Lit.int .i64 (i : Nat)).sameKey (.int .i64 (k : Nat))) = true then x.kp i else x.last i
    rw [this, Bool.not_false, Bool.and_true]
theorem wl_clear {ops : Array Oper} {rest : List Oper} {o : Oper} {a : Act} {w : World} {Q : Exit → Act → World → Prop} (x : Operand) (hgd : o.guard = none) (ho : o.op = .call { callee := .builtin .clear, args := #[x], argTypes := #[54] }) {g n : Nat} {wr : Nat → Option (List Int)} (hx : a.eval x = .map (some g)) (hw : Wrs w g n wr)
    (h : ∀ w', Wrs w' g n (fun _ => none) → But (One g) w w' → wpList Try.prog ops Q rest (a.put o.dst (.tuple #[])) w') : wpList Try.prog ops Q (o :: rest) a w := by
  refine wpList_plain hgd fun K hK => ?_
  obtain ⟨w', hrun, h1, h2⟩ := hw.clear o.type
  unfold Oper.wp
  simp [execOp, ho, resolve, invoke, builtin, hx, hrun, Result.andThen]
  exact hK _ _ (h w' h1 h2)
theorem dvFlush_dead {w : World} {d g m : Nat} {x : Dv} (h : DvX w d g m x) (hd : x.dead = true) : Calls Try.prog 14 #[Ptr d] w fun e w' => e = .returned (.int .i64 220) ∧ w' = w := by
  obtain ⟨L, h⟩ := h
  have HN := dvCheck h
  clear h
  have hc : x.chk = 220 := by unfold Dv.chk; rw [hd]; rfl
  rw [hc] at HN
  clear hc hd
  go_enter Try.func14, Try.ntmps14
  go_wp2_with (go_at_call 33; refine HN.mono ?_; rintro e w' ⟨rfl, rfl⟩)
  go_ret
  exact ⟨rfl, rfl⟩
theorem dvFlush_die {w : World} {d g m : Nat} {x : Dv} (h : DvX w d g m x) (hd : x.dead = false) (hl : x.left = 0) : Calls Try.prog 14 #[Ptr d] w fun e w' => e = .returned (.int .i64 220) ∧ DvX w' d g m x.go ∧ But (One d) w w' := by
  obtain ⟨L, h⟩ := h
  have HN := dvCheck h
  have HP := dvPower h hd
  clear h
  have hc : x.chk = 0 := by unfold Dv.chk; rw [hd]; rfl
  rw [hc] at HN
  rw [show decide (x.left ≠ 0) = false by rw [hl]; rfl] at HP
  clear hc hd hl
  have HQ := hideIt HP
  clear HP
  go_enter Try.func14, Try.ntmps14
  go_wp2_with (first
    | (go_at_call 33; refine HN.mono ?_; rintro e w' ⟨rfl, rfl⟩)
    | (go_at_call 35; refine HQ.out.mono ?_; rintro e w1 ⟨rfl, x1, b1⟩; have X1 := hideIt (And.intro x1 b1); clear x1 b1))
  go_ret
  exact ⟨rfl, X1.out.1, X1.out.2⟩
theorem dvFlush_yes {w : World} {d g m : Nat} {x : Dv} (h : DvX w d g m x) (hd : x.dead = false) (hl : ¬ x.left = 0) : Calls Try.prog 14 #[Ptr d] w fun e w' => e = .returned (.int .i64 0) ∧ DvX w' d g m x.go.flushed ∧ But (InD d g m) w w' := by
  obtain ⟨L, h⟩ := h
  have HN := dvCheck h
  have HP := dvPower h hd
  clear h
  have hc : x.chk = 0 := by unfold Dv.chk; rw [hd]; rfl
  rw [hc] at HN
  rw [show decide (x.left ≠ 0) = true from decide_eq_true hl] at HP
  clear hc hd hl
  have HQ := hideIt HP
  clear HP
  generalize x.go = y at *
  go_enter Try.func14, Try.ntmps14
  go_upto_region 6 with (first
    | (go_at_call 33; refine HN.mono ?_; rintro e w' ⟨rfl, rfl⟩)
    | (go_at_call 35; refine HQ.out.mono ?_; rintro e w1 ⟨rfl, x1, b1⟩; have X1 := hideIt (And.intro x1 b1); clear x1 b1))
  obtain ⟨⟨L', y1⟩, b1⟩ := X1.out
  clear X1 HN HQ L
  have c1 := y1.c1
  have HY := hideIt (And.intro y1 b1)
  obtain ⟨D, ks, ho, hs⟩ := y1.map
  have HS := hideIt hs
  clear b1 y1 hs
  go_wp2_with (first | (at_range; refine wpList_range_own _ rfl _ 54 rfl 3 66 keyedD Try.underlying54 secElem m ks.length D rfl ho ?_; intro w0 hrg0 hg0 hs0; have A0 := hideIt (And.intro hrg0 (And.intro (after_gb hg0) hs0)); clear hrg0 hg0 hs0) | fail)
  go_frame
  have hrm : w1.heap.size ≠ m := by have := HY.out.1.map.lt; omega
  have hrg : w1.heap.size ≠ g := by have := HY.out.1.row.lt; omega
  have hrd : w1.heap.size ≠ d := by have := blk_lt HY.out.1.at0; omega
  go_loopw [4] (fun _ wr => ∃ lf cnt, wr.ranges Try.prog 3 secElem m w1.heap.size ks.length D lf cnt ∧ KRow wr g y.n (kpL y lf) ∧ But (fun k => k = g ∨ k = w1.heap.size) w0 wr) (fun _ wr => wr.rangeLeft m w1.heap.size)
  case atStart => exact ⟨_, _, A0.out.1, (HY.out.1.row.but A0.out.2.1 (fun t => t)).congr (fun i _ => kpL_start HS.out i), But.rfl⟩
  case round =>
    obtain ⟨lf, cnt, hrg1, hkr, hbw⟩ := hrel
    have hd0 : d < w0.heap.size := by have := blk_lt HY.out.1.at0; have := A0.out.2.2; omega
    have yr := HY.out.1.but A0.out.2.1 (fun t => t) (fun t => t) (fun t => t)
    have c0 := (hbw.cell hd0 (fun e => Or.elim e (fun e => HY.out.1.dg e) (fun e => hrd e.symm)) 0).trans yr.c0
    have c1 := (hbw.cell hd0 (fun e => Or.elim e (fun e => HY.out.1.dg e) (fun e => hrd e.symm)) 1).trans yr.c1
    have HR := hideIt (And.intro hrg1 (And.intro hkr hbw))
    clear yr hrg1 hkr hbw
    go_upto_region 9 with (first
      | (at_next; refine wpList_next_ranges _ rfl _ rfl 3 keyedD secElem (Value.int .i64) secV (fun key kl hk => (by obtain ⟨z, hz, _⟩ := Maps.keyOf_int_inv Try.underlying3 hk; exact ⟨z, hz⟩)) (fun v z hv => (by obtain ⟨b, hb, _⟩ := secElem_inv hv; exact ⟨b, hb⟩)) m w1.heap.size ks.length D lf cnt rfl HR.out.1 ?_ ?_)
      | fail)
    · intro _ hl0
      obtain ⟨hrg1, hkr, hbw⟩ := HR.out
      have hwr : Wrs wr m y.n y.wr := ⟨D, ks, hrg1.owns, HS.out⟩
      have hk : KRow wr g y.n y.last := hkr.congr (fun i _ => kpL_end y hl0 i)
      have f0 := HY.out.1
      have hmg : ¬ (m = g) := fun e => f0.gm e.symm
      have H2 := hideIt (And.intro hwr (And.intro hk hbw))
      clear HR hrg1 hkr hbw hwr hk
      go_wp2_with (first
        | (refine wl_clear _ rfl rfl rfl H2.out.1 ?_; intro w5 hw5 hb5; have H5 := hideIt (And.intro hw5 hb5); clear hw5 hb5)
        | fail)
      go_ret
      have b0 : But (InD d g m) w1 wr := (A0.out.2.1.but).then H2.out.2.2 (fun k hk e => Or.elim e (fun e => .inr (.inl e)) (fun e => by omega))
      have b1 : But (InD d g m) w' w5 := ((HY.out.2.mono (fun k _ e => .inl e)).trans b0).trans (H5.out.2.mono (fun k _ e => .inr (.inr e)))
      have hda := blk_lt f0.at0
      have ez : w5.heap[d]? = some (.cells (devC g m y.n L' y.dead) 56 (0, 0)) := ((H5.out.2.block d (Nat.lt_of_lt_of_le hd0 H2.out.2.2.size) (fun e => f0.dm e)).trans ((H2.out.2.2.block d hd0 (fun e => Or.elim e (fun e => f0.dg e) (fun e => hrd e.symm))).trans (A0.out.2.1.block d hda (fun t => t)))).trans f0.at0
      exact ⟨rfl, ⟨L', flushed_ok f0.ok, f0.lm, f0.l0, f0.l1, ez, H2.out.2.1.but H5.out.2 (fun e => f0.gm e), H5.out.1, f0.dg, f0.dm, f0.gm⟩, b1⟩
    · intro z b kl yd yp w2 cnt2 hkey hlk hv hat hrg2 hlt hg2 hs2 hen
      obtain ⟨k, hk, rfl⟩ : ∃ k ∈ ks, z = (k : Nat) := by
        have h1 : Maps.has D kl = true := by
          cases hh : Maps.has D kl with
          | true => rfl
          | false =>
            have := hat .nil
            have e2 := hat (.lit (.bool true))
            rw [Maps.atKey_of_not_has hh] at this e2
            rw [← this] at e2
            cases e2
        obtain ⟨z', ez, rfl, _⟩ := Maps.keyOf_int_inv Try.underlying3 hkey
        cases ez
        exact (HS.out.has _).1 h1
      obtain ⟨z', ez, rfl, _⟩ := Maps.keyOf_int_inv Try.underlying3 hkey
      cases ez
      obtain ⟨b', hb'⟩ := (HS.out.mem k).1 hk
      have hkn := HS.out.lt k hk
      have hbb : b = b' := by
        have h1 := hat .nil
        rw [HS.out.at_ k b' hb'] at h1
        obtain ⟨b2, e1, e2⟩ := secElem_inv hv
        have h3 : u8s b = u8s b2 := by
          have := e1
          unfold secV at this
          injection this with this
          simpa using this
        have h4 : b = b2 := by
          have := congrArg u8sOf h3
          rw [u8sOf_mk, u8sOf_mk] at this
          exact Option.some.inj this
        subst h4
        have h5 : yd = secD b := congrArg Prod.fst e2
        rw [h5] at h1
        exact (secD_inj h1).symm
      subst hbb
      have hbl := (HY.out.1.ok.w k b hb').2.1
      have HG := hideIt (And.intro hrg2 (And.intro hlt (And.intro (but_gb hg2) hs2)))
      have HB := hideIt hb'
      clear hkey hv hat hrg2 hlt hg2 hs2 hk hb'
      have c0' := (HG.out.2.2.1.cell (Nat.lt_of_lt_of_le hd0 HR.out.2.2.size) (fun e => hrd e.symm) 0).trans c0
      have hd2 : d < w2.heap.size := Nat.lt_of_lt_of_le hd0 (Nat.le_trans HR.out.2.2.size HG.out.2.2.1.size)
      clear c0 c1
      go_upto_region 9 with (first
        | (show wpList _ _ _ (_ :: _) _ _; refine wl_asec rfl rfl ?_; intro W3 k3 a3 s3; have K3 := hideIt (And.intro k3 (And.intro a3 s3)); clear k3 a3 s3)
        | (show wpList _ _ _ (_ :: _) _ _; refine wl_ssec _ _ rfl rfl rfl _ rfl K3.out.1 rfl hbl ?_; intro W4 k4 b4 s4; have K4 := hideIt (And.intro k4 (And.intro b4 s4)); clear k4 b4 s4)
        | fail)
      have hx2 : w2.heap.size = wr.heap.size := HG.out.2.2.2
      have hm2 : m < w2.heap.size := HG.out.1.owns.lt
      have hr2 : w1.heap.size < w2.heap.size := HG.out.1.lt
      have hg2 : g < wr.heap.size := HR.out.2.1.lt
      have kr2 : KRow w2 g y.n (kpL y lf) := HR.out.2.1.but HG.out.2.2.1 (fun e => hrg e.symm)
      have kr4 : KRow W4 g y.n (kpL y lf) := (kr2.but K3.out.2.1 (fun t => t)).but K4.out.2.1 (fun e => by have e : g = w2.heap.size := e; omega)
      have rg3 := HG.out.1.kept (After.gb K3.out.2.1) (fun e => by cases e) (fun e => by cases e)
      have rg4 := rg3.kept (But.gb K4.out.2.1) (fun e => by cases e; omega) (fun e => by injection e; omega)
      have cd4 := (K4.out.2.1.cell (Nat.lt_of_lt_of_le hd2 K3.out.2.1.size) (fun e => by have e : d = w2.heap.size := e; omega) 0).trans ((K3.out.2.1.cell hd2 0).trans c0')
      have hd4 : d < W4.heap.size := Nat.lt_of_lt_of_le hd2 (Nat.le_trans K3.out.2.1.size K4.out.2.1.size)
      have b4 : But (fun k => k = g ∨ k = w1.heap.size) w0 W4 := by
        have q1 := HR.out.2.2.trans (HG.out.2.2.1.mono (fun k _ e => .inr e))
        have q2 := q1.trans (K3.out.2.1.but)
        exact q2.then K4.out.2.1 (fun k hk e => by
          have e : k = w2.heap.size := e
          have := q1.size
          omega)
      have HC : ∀ V, After W4 V → V.cell? ⟨d, 0, none⟩ = some (.slice (some ⟨g, 0, none⟩) y.n y.n) ∧ V.rangeAt w2.heap.size 0 (u8s b) := fun V a => ⟨(a.cell hd4 _).trans cd4, (K4.out.1.after a).range⟩
      have HZ := hideIt (And.intro kr4 (And.intro rg4 b4))
      clear kr2 kr4 rg3 rg4 cd4 b4 c0'
      go_frame
      refine region_phase (by kernel_rfl) (fun k' => ([Ptr d, Ptr d, Ptr d, .slice (some ⟨g, 0, none⟩) y.n y.n, .int .i64 k, secV b, .pointer (some ⟨g, k * 64, none⟩)]).getD k' undef) 24 7 (fun _ V => After W4 V) _ rfl rfl (Nat.le_of_ble_eq_true rfl) (But.drew After.rfl) ?_ rfl rfl 12 rfl ?_
      · exact ⟨ph_move rfl rfl rfl rfl rfl (fun _ _ h => h),
          ph_nil rfl rfl rfl rfl rfl rfl (fun _ _ h => h),
          ph_field rfl rfl rfl rfl rfl (fun w => fieldDv0 w _) (fun _ _ h => h),
          ph_load rfl rfl rfl rfl rfl (fun _ V h => loadDv0 (HC V h).1) (fun _ _ h => h),
          ph_move rfl rfl rfl rfl rfl (fun _ _ h => h),
          ph_load rfl rfl rfl rfl rfl (fun _ V h => load_sec (HC V h).2 hbl) (fun _ _ h => h),
          ph_index rfl rfl rfl rfl rfl rfl (fun V => indexSec V _ hkn) (fun _ _ h => h),
          trivial⟩
      intro w6 Ls hL h K' hK'
      simp only [puts, List.getD_cons_succ, List.getD_cons_zero, List.setIfInBounds_toArray, List.set_cons_succ, List.set_cons_zero, Nat.reduceAdd]
      obtain ⟨w7, hrun, kr7, b7, s7⟩ := (HZ.out.1.but h (fun t => t)).store hkn (fun i => kpL_len HY.out.1.ok lf i) hbl
      refine pw_store rfl rfl rfl rfl hrun (hK' _ _ ?_)
      have rg7 := (HZ.out.2.1.kept (After.gb h) (fun e => by cases e) (fun e => by cases e)).kept (But.gb b7) (fun e => by injection e with e; exact HY.out.1.gm e.symm) (fun e => by injection e with e; exact hrg e)
      have HE := hideIt (And.intro rg7 (And.intro (kr7.congr (fun i _ => kpL_step HB.out i)) ((HZ.out.2.2.trans h.but).trans (b7.mono (fun k _ e => .inl e)))))
      clear hL hK' h hrun kr7 b7 s7 rg7 HC
      go_wp2
      refine ⟨⟨_, _, HE.out.1, HE.out.2.1, HE.out.2.2⟩, ?_⟩
      rw [HE.out.1.left_eq, HR.out.1.left_eq]
      exact HG.out.2.1
end Go.Proofs.Ytalffdiohjcajaa
