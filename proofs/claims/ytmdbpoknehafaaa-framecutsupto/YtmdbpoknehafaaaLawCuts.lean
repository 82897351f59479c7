/-
  FrameCuts, walked.
-/
import Derived.Test.YtmdbpoknehafaaaJoins
namespace Go.Proofs.Ytmdbpoknehafaaa
open Go.RowKit
theorem fed_room2 {zs : List Int} (h : zs.length ≤ 1049000) : (frs zs).length * 24 ≤ 140737488355328 := by
  have := frs_length zs
  omega
/-- What follows of a cut. -/
theorem cut_fed {us rs : List Int} (q : Nat) : frs (us ++ rs) = frs (us ++ rs.take q) ++ frs (rst (us ++ rs.take q) ++ rs.drop q) ∧ drp (us ++ rs) = drp (us ++ rs.take q) + drp (rst (us ++ rs.take q) ++ rs.drop q) ∧ rst (us ++ rs) = rst (rst (us ++ rs.take q) ++ rs.drop q) := by
  have e : us ++ rs = (us ++ rs.take q) ++ rs.drop q := by rw [List.append_assoc, List.take_append_drop]
  have h := fed_append (rs.drop q) (us ++ rs.take q)
  rw [← e] at h
  exact h
set_option maxRecDepth 100000 in
set_option maxHeartbeats 4000000 in
theorem cuts_walk (a : Option Addr) (n c : Nat) (zs : List Int) (a' : Option Addr) (n' c' : Nat) (is : List Int) (w : World) (hr : Row w a n zs) (ha : a = none → n = 0 ∧ c = 0) (hn : n ≤ 1048576) (hc : n ≤ c) (hI : RowI w a' n' is) (hn' : n' ≤ 1048576) :
    Calls Try.prog 5 #[.slice a n c, .slice a' n' c'] w fun e w' => e = .returned (.bool true) ∧ After w w' := by
  have HR := hideIt hr
  have HNO := hideIt ha
  have HC := hideIt hc
  have HI := hideIt hI
  have hl := hr.1
  have HZL := hideIt (show zs.length ≤ 1048576 by omega)
  clear hr ha hI hc
  go_enter Try.func5, Try.ntmps5
  go_wp2_with fail
  refine (awake_any _).mono ?_
  rintro e w1 ⟨rfl, a1⟩
  have A1 := hideIt a1
  clear a1
  go_wp2_with fail
  refine (new_any _).mono ?_
  rintro e w2 ⟨rfl, d2, a2⟩
  have D2 := hideIt d2
  have A2 := hideIt (A1.out.trans a2)
  have G2 := hideIt (show w.heap.size ≤ w1.heap.size from A1.out.size)
  clear d2 a2
  generalize w1.heap.size = g at *
  go_wp2_with fail
  refine (new_any _).mono ?_
  rintro e w3 ⟨rfl, d3, a3⟩
  have D3 := hideIt d3
  have X3 := hideIt (D2.out.after a3)
  have A3 := hideIt (A2.out.trans a3)
  have G3 := hideIt (show g < w2.heap.size from D2.out.lt.1)
  clear d3 a3 A1 A2 D2
  generalize w2.heap.size = g' at *
  have HF := hideIt (feed_any w3 g g [] a n c zs X3.out (HR.out.after A3.out) HNO.out (by simp; omega) (fed_room2 (by have := HZL.out; simp; omega)))
  rw [List.nil_append] at HF
  go_wp2_with fail
  refine HF.out.mono ?_
  rintro e wb ⟨vx, hx, rfl, fx, dx, ⟨M, _, lm, lx⟩, bx⟩
  have hgg : g ≠ g' := by have := G3.out; omega
  have hwb := bx.size
  have hg3 := D3.out.lt
  have FX := hideIt fx
  have DX := hideIt dx
  have DY := hideIt (D3.out.but bx (fun t => hgg (Eq.symm t)) (fun t => hgg (Eq.symm t)))
  have AB := hideIt (A3.out.then bx (fun i hi t => by have t2 : i = g := t; have := G2.out; omega))
  have HXG := hideIt (show hx ≠ g' by rcases lx with e | e <;> omega)
  have GB := hideIt (show g' < wb.heap.size ∧ g' < w3.heap.size ∧ w3.heap.size ≤ wb.heap.size by omega)
  have GW := hideIt (show w.heap.size ≤ g' by have h1 := G2.out; have h2 := G3.out; omega)
  obtain ⟨xsx, fxa, _⟩ := fx
  obtain ⟨px, qx, rfl⟩ := own_slice fxa
  clear fxa dx lm lx bx HF X3 D3 hg3 hwb A3
  obtain ⟨FZ, hFZ⟩ : ∃ FZ, FZ = (frs zs).length := ⟨_, rfl⟩
  rw [← hFZ]
  obtain ⟨DZ, hDZ⟩ : ∃ DZ, DZ = drp zs := ⟨_, rfl⟩
  rw [← hDZ]
  have HFZ := hideIt hFZ
  have HDZ := hideIt hDZ
  clear hFZ hDZ
  go_wp2_with fail
  go_loopw [10, 11, 12, 13] (fun v d l i W => ∃ (k h D : Nat) (p : Option Addr) (m q : Nat) (us rs : List Int) (fs : List (List Int)), k ≤ n' ∧ k ≤ 100 ∧ i = .int .i64 k ∧ d = .int .i64 D ∧ l = .slice p m q ∧ Row w p m rs ∧ (p = none → m = 0 ∧ q = 0) ∧ m ≤ q ∧ m ≤ 1048576 ∧ DfAt W g' h us ∧ us.length ≤ 260 ∧ Frs W wb.heap.size v fs ∧ (∀ j, v.ownBlock = some j → j ≠ h) ∧ frs zs = fs ++ frs (us ++ rs) ∧ drp zs = D + drp (us ++ rs) ∧ rst zs = rst (us ++ rs) ∧ But (One g') wb W) (fun _ _ _ i _ => 100 - (intOf i).toNat)
  case atStart => exact ⟨0, g', 0, a, n, c, [], zs, [], by omega, by omega, rfl, rfl, rfl, HR.out, HNO.out, HC.out, hn, DY.out, by simp, Frs.nil _ _, (fun j hj => by cases hj), rfl, by simp, rfl, But.rfl⟩
  case round =>
    obtain ⟨k, h, D, p, m, q, us, rs, fs, hk, hk1, rfl, rfl, rfl, hr, hno, hmq, hm, hd, hu, hf, hj, e1, e2, e3, hB⟩ := hrel
    have hrl := hr.1
    have hA : After w wr := AB.out.then hB (fun i hi t => by have t2 : i = g' := t; have := GW.out; omega)
    by_cases hlt : k < n'
    · by_cases hl1 : k < 100
      · obtain ⟨bi, oi, rfl, gi, ci, i1, i2⟩ := HI.out k hlt
        have ci2 : wr.cell? ⟨bi, oi + k, none⟩ = some (.int .i64 (is.getD k 0)) := by rw [hA.cell gi]; exact ci
        obtain ⟨t, ht⟩ : ∃ t, t = broughtTo (is.getD k 0) (m + 1) := ⟨_, rfl⟩
        have htm : t ≤ m := by have := brought_lt (is.getD k 0) (show 0 < m + 1 by omega); omega
        have HBR : Hid (∀ W, Calls Try.prog 21 #[.int .i64 (is.getD k 0), .int .i64 ((m : Int) + 1)] W fun e w' => e = .returned (.int .i64 (t : Nat)) ∧ w' = W) := fun W => by
          have := bring_any (is.getD k 0) (m + 1) W i1 i2 (by omega) (by omega)
          rw [← ht] at this
          exact this
        have HF := hideIt (feed_any wr g' h us p t q (rs.take t) hd ((hr.after hA).take htm) (fun e => by have := hno e; omega) (by omega) (fed_room2 (by rw [List.length_append, List.length_take]; omega)))
        obtain ⟨c1, c2, c3⟩ := cut_fed (us := us) (rs := rs) t
        obtain ⟨T, hT⟩ : ∃ T, T = us ++ rs.take t := ⟨_, rfl⟩
        rw [← hT] at HF c1 c2 c3
        have hfb : (fs.length + (frs T).length) * 24 ≤ 140737488355328 := by
          have h1 := frs_length zs
          rw [e1, c1, List.length_append, List.length_append] at h1
          have h2 := HZL.out
          omega
        have hDT : D + drp T ≤ 1048576 := by
          have h1 := drp_le zs
          rw [e2, c2] at h1
          have h2 := HZL.out
          omega
        have HRST := hideIt (rst_len T)
        have HFB := hideIt hfb
        have E1 := hideIt e1
        have E2 := hideIt e2
        have E3 := hideIt e3
        have C1 := hideIt c1
        have C2 := hideIt c2
        have C3 := hideIt c3
        have HFR := hideIt hf
        have SB := hideIt hB.size
        have HB := hideIt hB
        have HR2 := hideIt hr
        have hki : (k : Int) < (n' : Int) := by omega
        have hk100 : (k : Int) < 100 := by omega
        generalize is.getD k 0 = ik at *
        obtain ⟨DT, hdt⟩ : ∃ DT, DT = drp T := ⟨_, rfl⟩
        rw [← hdt] at HF hDT
        have HDT := hideIt hdt
        clear e1 e2 e3 c1 c2 c3 hf hj hB hr hd hT hfb hA hdt ht
        cases p with
        | none =>
          obtain ⟨rfl, rfl⟩ := hno rfl
          obtain rfl : t = 0 := by omega
          clear hno
          go_wp2_with fail
          refine (HBR.out _).mono ?_
          rintro e wc ⟨rfl, rfl⟩
          go_wp2_with fail
          refine HF.out.mono ?_
          rintro e w5 ⟨v5, h5, rfl, f5, d5, ⟨M5, _, lm5, l5⟩, b5⟩
          have fb : Frs w5 wb.heap.size u10 fs := HFR.out.but b5 (fun i hi t => by have t2 : i = g' := t; have := GB.out.1; omega)
          have FB := hideIt fb
          have F5 := hideIt (f5.base (C := wb.heap.size) SB.out)
          have D5 := hideIt d5
          have B5 := hideIt (HB.out.trans b5)
          have L5 : Hid (∀ j, u10.ownBlock = some j → j ≠ h5 ∧ wb.heap.size ≤ j) := fun j hjj => by
            obtain ⟨xs, o, _⟩ := HFR.out
            have h1 := o.lt j hjj
            have h2 := GB.out.1
            rcases l5 with e | e
            · omega
            · omega
          have S5 := hideIt (show wb.heap.size ≤ w5.heap.size by have h1 := SB.out; have h2 := b5.size; omega)
          clear fb f5 d5 l5 lm5 b5 HF
          go_wp2_with (at_builtin; refine app_frs rfl (.tmp 65) (.tmp 66) rfl wb.heap.size u10 fs rfl FB.out v5 _ rfl F5.out HFB.out S5.out ?_; intro v6 w6 hf6 hb6 hat6; have F6 := hideIt hf6; have B6 := hideIt hb6; have AT6 := hideIt hat6; clear hf6 hb6 hat6)
          go_roundw
          case rel =>
            refine ⟨k + 1, h5, D + DT, _, 0, 0, rst T, rs.drop 0, fs ++ frs T, by omega, by omega, by go_num, by go_num, rfl, (by rw [List.drop_zero]; exact HR2.out), (fun _ => ⟨rfl, rfl⟩), by omega, by omega, D5.out.but B6.out (fun e => ?_) (fun e => ?_), by have := HRST.out; omega, F6.out, fun j hjj => ?_, ?_, ?_, ?_, B5.out.then B6.out (fun i hi e => ?_)⟩
            · have h1 := L5.out _ e
              have h2 := GB.out.1
              omega
            · exact (L5.out _ e).1 rfl
            · rcases AT6.out with e | e
              · rw [e] at hjj
                exact (L5.out j hjj).1
              · rw [e] at hjj
                cases hjj
                have := D5.out.lt.2
                omega
            · rw [E1.out, C1.out, List.append_assoc]
            · rw [E2.out, C2.out, HDT.out]; omega
            · rw [E3.out, C3.out]
            · have h1 := (L5.out i e).2
              omega
          case measure => simp [intOf]; omega
        | some x =>
          clear hno
          by_cases hm0 : m = 0
          · subst hm0
            obtain rfl : t = 0 := by omega
            have hrs : rs = [] := List.length_eq_zero_iff.1 hrl
            subst hrs
            have hq0 : (0 : Int) ≤ (q : Int) := by omega
            go_wp2_with fail
            refine (HBR.out _).mono ?_
            rintro e wc ⟨rfl, rfl⟩
            go_wp2_with fail
            refine HF.out.mono ?_
            rintro e w5 ⟨v5, h5, rfl, f5, d5, ⟨M5, _, lm5, l5⟩, b5⟩
            have fb : Frs w5 wb.heap.size u10 fs := HFR.out.but b5 (fun i hi t => by have t2 : i = g' := t; have := GB.out.1; omega)
            have FB := hideIt fb
            have F5 := hideIt (f5.base (C := wb.heap.size) SB.out)
            have D5 := hideIt d5
            have B5 := hideIt (HB.out.trans b5)
            have L5 : Hid (∀ j, u10.ownBlock = some j → j ≠ h5 ∧ wb.heap.size ≤ j) := fun j hjj => by
              obtain ⟨xs, o, _⟩ := HFR.out
              have h1 := o.lt j hjj
              have h2 := GB.out.1
              rcases l5 with e | e
              · omega
              · omega
            have S5 := hideIt (show wb.heap.size ≤ w5.heap.size by have h1 := SB.out; have h2 := b5.size; omega)
            clear fb f5 d5 l5 lm5 b5 HF
            go_wp2_with (at_builtin; refine app_frs rfl (.tmp 65) (.tmp 66) rfl wb.heap.size u10 fs rfl FB.out v5 _ rfl F5.out HFB.out S5.out ?_; intro v6 w6 hf6 hb6 hat6; have F6 := hideIt hf6; have B6 := hideIt hb6; have AT6 := hideIt hat6; clear hf6 hb6 hat6)
            go_roundw
            case rel =>
              refine ⟨k + 1, h5, D + DT, _, 0, _, rst T, ([] : List Int).drop 0, fs ++ frs T, by omega, by omega, by go_num, by go_num, rfl, (by rw [List.drop_zero]; exact Row.nil _ _), (fun e => by first | cases e | exact (cut_some e).elim), by omega, by omega, D5.out.but B6.out (fun e => ?_) (fun e => ?_), by have := HRST.out; omega, F6.out, fun j hjj => ?_, ?_, ?_, ?_, B5.out.then B6.out (fun i hi e => ?_)⟩
              · have h1 := L5.out _ e
                have h2 := GB.out.1
                omega
              · exact (L5.out _ e).1 rfl
              · rcases AT6.out with e | e
                · rw [e] at hjj
                  exact (L5.out j hjj).1
                · rw [e] at hjj
                  cases hjj
                  have := D5.out.lt.2
                  omega
              · rw [E1.out, C1.out, List.append_assoc]
              · rw [E2.out, C2.out, HDT.out]; omega
              · rw [E3.out, C3.out]
              · have h1 := (L5.out i e).2
                omega
            case measure => simp [intOf]; omega
          · obtain ⟨bp, op, ex, _⟩ := HR2.out.2.2 0 (by omega)
            cases ex
            have q1 : (t : Int) ≤ (m : Int) := by omega
            have q2 : (m : Int) ≤ (q : Int) := by omega
            have q3 : (t : Int) ≤ (q : Int) := by omega
            go_wp2_with fail
            refine (HBR.out _).mono ?_
            rintro e wc ⟨rfl, rfl⟩
            go_wp2_with fail
            refine HF.out.mono ?_
            rintro e w5 ⟨v5, h5, rfl, f5, d5, ⟨M5, _, lm5, l5⟩, b5⟩
            have fb : Frs w5 wb.heap.size u10 fs := HFR.out.but b5 (fun i hi t => by have t2 : i = g' := t; have := GB.out.1; omega)
            have FB := hideIt fb
            have F5 := hideIt (f5.base (C := wb.heap.size) SB.out)
            have D5 := hideIt d5
            have B5 := hideIt (HB.out.trans b5)
            have L5 : Hid (∀ j, u10.ownBlock = some j → j ≠ h5 ∧ wb.heap.size ≤ j) := fun j hjj => by
              obtain ⟨xs, o, _⟩ := HFR.out
              have h1 := o.lt j hjj
              have h2 := GB.out.1
              rcases l5 with e | e
              · omega
              · omega
            have S5 := hideIt (show wb.heap.size ≤ w5.heap.size by have h1 := SB.out; have h2 := b5.size; omega)
            clear fb f5 d5 l5 lm5 b5 HF
            go_wp2_with (at_builtin; refine app_frs rfl (.tmp 65) (.tmp 66) rfl wb.heap.size u10 fs rfl FB.out v5 _ rfl F5.out HFB.out S5.out ?_; intro v6 w6 hf6 hb6 hat6; have F6 := hideIt hf6; have B6 := hideIt hb6; have AT6 := hideIt hat6; clear hf6 hb6 hat6)
            go_roundw
            case rel =>
              refine ⟨k + 1, h5, D + DT, _, m - t, _, rst T, rs.drop t, fs ++ frs T, by omega, by omega, by go_num, by go_num, rfl, row_cut HR2.out htm hmq, (fun e => (cut_some e).elim), by omega, by omega, D5.out.but B6.out (fun e => ?_) (fun e => ?_), by have := HRST.out; omega, F6.out, fun j hjj => ?_, ?_, ?_, ?_, B5.out.then B6.out (fun i hi e => ?_)⟩
              · have h1 := L5.out _ e
                have h2 := GB.out.1
                omega
              · exact (L5.out _ e).1 rfl
              · rcases AT6.out with e | e
                · rw [e] at hjj
                  exact (L5.out j hjj).1
                · rw [e] at hjj
                  cases hjj
                  have := D5.out.lt.2
                  omega
              · rw [E1.out, C1.out, List.append_assoc]
              · rw [E2.out, C2.out, HDT.out]; omega
              · rw [E3.out, C3.out]
              · have h1 := (L5.out i e).2
                omega
            case measure => simp [intOf]; omega
      · have hk100 : ¬ (k : Int) < 100 := by omega
        have HF := hideIt (feed_any wr g' h us p m q rs hd (hr.after hA) hno (by omega) (fed_room2 (by rw [List.length_append]; omega)))
        obtain ⟨T, hT⟩ : ∃ T, T = us ++ rs := ⟨_, rfl⟩
        rw [← hT] at HF e1 e2 e3
        have hfb : (fs.length + (frs T).length) * 24 ≤ 140737488355328 := by
          have h1 := frs_length zs
          rw [e1, List.length_append] at h1
          have h2 := HZL.out
          omega
        obtain ⟨DT, hdt⟩ : ∃ DT, DT = drp T := ⟨_, rfl⟩
        rw [← hdt] at HF e2
        have hDZ : (D : Int) + (DT : Int) = (DZ : Int) := by have := HDZ.out; omega
        have hDZ2 : DZ ≤ 1048576 := by have h1 := drp_le zs; have h2 := HZL.out; have h3 := HDZ.out; omega
        rw [← e3] at HF
        have HRZ := hideIt (rst_len zs)
        have HBOD := hideIt (fed_bodies zs)
        have HFB := hideIt hfb
        have E1 := hideIt e1
        have HFR := hideIt hf
        have SB := hideIt hB.size
        have HB := hideIt hB
        have HJ := hideIt hj
        have HFZL := hideIt (show FZ ≤ 140737488355328 by have h1 := frs_length zs; have h2 := HZL.out; have h3 := HFZ.out; omega)
        clear e1 e2 e3 hf hB hr hd hT hfb hA hdt hno hj HI
        go_wp2_with fail
        refine HF.out.mono ?_
        rintro e w5 ⟨v5, h5, rfl, f5, d5, ⟨M5, _, lm5, l5⟩, b5⟩
        have fb : Frs w5 wb.heap.size u10 fs := HFR.out.but b5 (fun i hi t => by have t2 : i = g' := t; have := GB.out.1; omega)
        have FB := hideIt fb
        have F5 := hideIt (f5.base (C := wb.heap.size) SB.out)
        have D5 := hideIt d5
        have B5 := hideIt (HB.out.trans b5)
        have L5 : Hid (∀ j, u10.ownBlock = some j → j ≠ h5 ∧ wb.heap.size ≤ j) := fun j hjj => by
          obtain ⟨xs, o, _⟩ := HFR.out
          have h1 := o.lt j hjj
          have h2 := GB.out.1
          rcases l5 with e | e
          · omega
          · omega
        have HH5 := hideIt (show h5 = g' ∨ wb.heap.size ≤ h5 by have h1 := SB.out; rcases l5 with e | e <;> omega)
        have S5 := hideIt (show wb.heap.size ≤ w5.heap.size by have h1 := SB.out; have h2 := b5.size; omega)
        clear fb f5 d5 l5 lm5 b5 HF
        go_wp2_with (at_builtin; refine app_frs rfl (.tmp 81) (.tmp 82) rfl wb.heap.size u10 fs rfl FB.out v5 _ rfl F5.out HFB.out S5.out ?_; intro v6 w6 hf6 hb6 hat6; rw [← E1.out] at hf6; have F6 := hideIt hf6; have B6 := hideIt (B5.out.then hb6 (S := One g') (fun i hi e => by have h1 := (L5.out i e).2; omega)); have D6 := hideIt (D5.out.but hb6 (fun e => by have h1 := L5.out _ e; have h2 := GB.out.1; omega) (fun e => (L5.out _ e).1 rfl)); obtain ⟨xs6, o6, _⟩ := hf6; obtain ⟨p6, q6, rfl⟩ := own_slice o6; rw [← HFZ.out] at F6; clear hb6 hat6 o6)
        rw [← HFZ.out]
        have hX6 : DfAt w6 g hx (rst zs) := DX.out.but B6.out (fun t => hgg t) (fun t => HXG.out t)
        have hFX6 : Frs w6 w3.heap.size (.slice px FZ qx) (frs zs) := by
          rw [HFZ.out]
          exact FX.out.but B6.out (fun i hi t => by have t2 : i = g' := t; have := GB.out.2.1; omega)
        have hA6 : After w w6 := AB.out.then B6.out (fun i hi t => by have t2 : i = g' := t; have := GW.out; omega)
        have X6 := hideIt hX6
        have A6 := hideIt hA6
        obtain ⟨pa, qa, ea, la⟩ := (hFX6.gat (fun f hf => by have := HBOD.out f hf; omega)).lst
        rw [← HFZ.out] at ea la
        cases ea
        obtain ⟨pb, qb, eb, lb⟩ := (F6.out.gat (fun f hf => by have := HBOD.out f hf; omega)).lst
        rw [← HFZ.out] at eb lb
        cases eb
        have HSA := hideIt (same_any px p6 FZ qx q6 _ w6 la lb HFZL.out)
        clear hX6 hFX6 hA6 la lb F6 FB F5 D5 B5 HB HFR
        obtain ⟨RZ, hRZ⟩ : ∃ RZ, RZ = rst zs := ⟨_, rfl⟩
        rw [← hRZ] at X6 D6 HRZ
        clear hRZ
        go_wp2_with fail
        refine HSA.out.mono ?_
        rintro e w7 ⟨rfl, a7⟩
        have X7 := hideIt (X6.out.after a7)
        have Y7 := hideIt (D6.out.after a7)
        have A7 := hideIt (A6.out.trans a7)
        clear a7 X6 D6 A6 HSA
        have hmk := make_300
        go_wp2_with fail
        refine (pending_any _ _ _ _ X7.out).mono ?_
        rintro e w8 ⟨rfl, rfl⟩
        go_wp2_with fail
        refine (pending_any _ _ _ _ Y7.out).mono ?_
        rintro e w9 ⟨rfl, rfl⟩
        have hRL := HRZ.out
        have HF2 := hideIt (feed_any (w9.alloc (.cells (mc 300) 5)) g hx RZ (some ⟨w9.heap.size, 0, none⟩) 300 300 (nils 300) (X7.out.after (After.rfl.alloc _)) (mc_row (heap_alloc_new w9 _)) (fun e => by cases e) (by omega) (fed_room2 (by rw [List.length_append, nils_length]; omega)))
        generalize hRR : RZ.length = R at *
        go_wp2_with fail
        refine HF2.out.mono ?_
        rintro e wx ⟨v8, h8, rfl, f8, d8, ⟨M8, _, lm8, l8⟩, b8⟩
        have hgy : g' < w9.heap.size ∧ h5 < w9.heap.size := Y7.out.lt
        have hgx := X7.out.lt
        have Y8 := hideIt ((Y7.out.after (After.rfl.alloc (.cells (mc 300) 5))).but b8 (fun t => hgg (Eq.symm t)) (fun t => by have t2 : h5 = g := t; have h1 := HH5.out; have h2 := GB.out; have h3 := G3.out; omega))
        have T8 := hideIt (Row.but (mc_row (n := 300) (heap_alloc_new w9 (.cells (mc 300) 5))) b8 (fun x hx t => by cases hx; have t2 : w9.heap.size = g := t; omega))
        have A8 := hideIt ((A7.out.alloc (.cells (mc 300) 5)).then b8 (fun i hi t => by have t2 : i = g := t; have := G2.out; omega))
        have F8 := hideIt f8
        have X8 := hideIt d8
        have HX8 := hideIt (show h8 ≠ g' by rcases l8 with e | e <;> (simp at lm8; omega))
        have GL8 := hideIt (show g' < (w9.alloc (.cells (mc 300) 5)).heap.size by simp; omega)
        have HF3 := hideIt (feed_any wx g' h5 RZ (some ⟨w9.heap.size, 0, none⟩) 300 300 (nils 300) Y8.out T8.out (fun e => by cases e) (by omega) (fed_room2 (by rw [List.length_append, nils_length]; omega)))
        have HD8 := hideIt (show drp (RZ ++ nils 300) ≤ 140737488355328 by have h1 := drp_le (RZ ++ nils 300); rw [List.length_append, nils_length] at h1; omega)
        have HL8 := hideIt (show (frs (RZ ++ nils 300)).length ≤ 140737488355328 by have h1 := frs_length (RZ ++ nils 300); rw [List.length_append, nils_length] at h1; omega)
        obtain ⟨T2, hT2⟩ : ∃ T2, T2 = RZ ++ nils 300 := ⟨_, rfl⟩
        rw [← hT2] at HF3 HD8 HL8 F8 X8
        have HBD2 := hideIt (fed_bodies T2)
        obtain ⟨xs8, o8, _⟩ := f8
        obtain ⟨p8, q8, rfl⟩ := own_slice o8
        rw [← hT2] at F8 ⊢
        clear o8 d8 l8 lm8 b8 HF2 Y7 X7 hgy hgx hT2
        generalize hDD : drp T2 = D2 at *
        obtain ⟨F2, hF2⟩ : ∃ F2, F2 = frs T2 := ⟨_, rfl⟩
        rw [← hF2] at F8 HF3 HL8 HBD2 ⊢
        obtain ⟨N2, hN2⟩ : ∃ N2, N2 = F2.length := ⟨_, rfl⟩
        have HN2 := hideIt hN2
        rw [← hN2] at F8 HL8 ⊢
        clear hF2 hN2
        go_wp2_with fail
        refine HF3.out.mono ?_
        rintro e wy ⟨v9, h9, rfl, f9, d9, ⟨M9, _, lm9, l9⟩, b9⟩
        have A9 := hideIt (A8.out.then b9 (fun i hi t => by have t2 : i = g' := t; have := GW.out; omega))
        have X9 := hideIt (X8.out.but b9 (fun t => hgg t) (fun t => HX8.out t))
        have Y9 := hideIt d9
        have f8b := F8.out.but b9 (fun i hi t => by have t2 : i = g' := t; have := GL8.out; omega)
        obtain ⟨pa, qa, ea, la⟩ := (f8b.gat (fun f hf => by have := HBD2.out f hf; omega)).lst
        rw [← HN2.out] at ea la
        cases ea
        obtain ⟨pb, qb, rfl, lb⟩ := (f9.gat (fun f hf => by have := HBD2.out f hf; omega)).lst
        rw [← HN2.out] at lb ⊢
        have HSA := hideIt (same_any p8 pb N2 q8 qb _ wy la lb HL8.out)
        clear f8b f9 d9 lm9 l9 b9 la lb HF3 F8 X8 Y8 A8 T8
        go_wp2_with fail
        refine HSA.out.mono ?_
        rintro e wz ⟨rfl, az⟩
        have X10 := hideIt (X9.out.after az)
        have Y10 := hideIt (Y9.out.after az)
        have A10 := hideIt (A9.out.trans az)
        clear az
        go_wp2_with fail
        refine (pending_any _ _ _ _ X10.out).mono ?_
        rintro e wz1 ⟨rfl, rfl⟩
        go_wp2_with fail
        refine (pending_any _ _ _ _ Y10.out).mono ?_
        rintro e wz2 ⟨rfl, rfl⟩
        go_wp2
        go_ret
        exact ⟨rfl, A10.out⟩
    · have hki : ¬ (k : Int) < (n' : Int) := by omega
      have HF := hideIt (feed_any wr g' h us p m q rs hd (hr.after hA) hno (by omega) (fed_room2 (by rw [List.length_append]; omega)))
      obtain ⟨T, hT⟩ : ∃ T, T = us ++ rs := ⟨_, rfl⟩
      rw [← hT] at HF e1 e2 e3
      have hfb : (fs.length + (frs T).length) * 24 ≤ 140737488355328 := by
        have h1 := frs_length zs
        rw [e1, List.length_append] at h1
        have h2 := HZL.out
        omega
      obtain ⟨DT, hdt⟩ : ∃ DT, DT = drp T := ⟨_, rfl⟩
      rw [← hdt] at HF e2
      have hDZ : (D : Int) + (DT : Int) = (DZ : Int) := by have := HDZ.out; omega
      have hDZ2 : DZ ≤ 1048576 := by have h1 := drp_le zs; have h2 := HZL.out; have h3 := HDZ.out; omega
      rw [← e3] at HF
      have HRZ := hideIt (rst_len zs)
      have HBOD := hideIt (fed_bodies zs)
      have HFB := hideIt hfb
      have E1 := hideIt e1
      have HFR := hideIt hf
      have SB := hideIt hB.size
      have HB := hideIt hB
      have HJ := hideIt hj
      have HFZL := hideIt (show FZ ≤ 140737488355328 by have h1 := frs_length zs; have h2 := HZL.out; have h3 := HFZ.out; omega)
      clear e1 e2 e3 hf hB hr hd hT hfb hA hdt hno hj HI
      go_wp2_with fail
      refine HF.out.mono ?_
      rintro e w5 ⟨v5, h5, rfl, f5, d5, ⟨M5, _, lm5, l5⟩, b5⟩
      have fb : Frs w5 wb.heap.size u10 fs := HFR.out.but b5 (fun i hi t => by have t2 : i = g' := t; have := GB.out.1; omega)
      have FB := hideIt fb
      have F5 := hideIt (f5.base (C := wb.heap.size) SB.out)
      have D5 := hideIt d5
      have B5 := hideIt (HB.out.trans b5)
      have L5 : Hid (∀ j, u10.ownBlock = some j → j ≠ h5 ∧ wb.heap.size ≤ j) := fun j hjj => by
        obtain ⟨xs, o, _⟩ := HFR.out
        have h1 := o.lt j hjj
        have h2 := GB.out.1
        rcases l5 with e | e
        · omega
        · omega
      have HH5 := hideIt (show h5 = g' ∨ wb.heap.size ≤ h5 by have h1 := SB.out; rcases l5 with e | e <;> omega)
      have S5 := hideIt (show wb.heap.size ≤ w5.heap.size by have h1 := SB.out; have h2 := b5.size; omega)
      clear fb f5 d5 l5 lm5 b5 HF
      go_wp2_with (at_builtin; refine app_frs rfl (.tmp 81) (.tmp 82) rfl wb.heap.size u10 fs rfl FB.out v5 _ rfl F5.out HFB.out S5.out ?_; intro v6 w6 hf6 hb6 hat6; rw [← E1.out] at hf6; have F6 := hideIt hf6; have B6 := hideIt (B5.out.then hb6 (S := One g') (fun i hi e => by have h1 := (L5.out i e).2; omega)); have D6 := hideIt (D5.out.but hb6 (fun e => by have h1 := L5.out _ e; have h2 := GB.out.1; omega) (fun e => (L5.out _ e).1 rfl)); obtain ⟨xs6, o6, _⟩ := hf6; obtain ⟨p6, q6, rfl⟩ := own_slice o6; rw [← HFZ.out] at F6; clear hb6 hat6 o6)
      rw [← HFZ.out]
      have hX6 : DfAt w6 g hx (rst zs) := DX.out.but B6.out (fun t => hgg t) (fun t => HXG.out t)
      have hFX6 : Frs w6 w3.heap.size (.slice px FZ qx) (frs zs) := by
        rw [HFZ.out]
        exact FX.out.but B6.out (fun i hi t => by have t2 : i = g' := t; have := GB.out.2.1; omega)
      have hA6 : After w w6 := AB.out.then B6.out (fun i hi t => by have t2 : i = g' := t; have := GW.out; omega)
      have X6 := hideIt hX6
      have A6 := hideIt hA6
      obtain ⟨pa, qa, ea, la⟩ := (hFX6.gat (fun f hf => by have := HBOD.out f hf; omega)).lst
      rw [← HFZ.out] at ea la
      cases ea
      obtain ⟨pb, qb, eb, lb⟩ := (F6.out.gat (fun f hf => by have := HBOD.out f hf; omega)).lst
      rw [← HFZ.out] at eb lb
      cases eb
      have HSA := hideIt (same_any px p6 FZ qx q6 _ w6 la lb HFZL.out)
      clear hX6 hFX6 hA6 la lb F6 FB F5 D5 B5 HB HFR
      obtain ⟨RZ, hRZ⟩ : ∃ RZ, RZ = rst zs := ⟨_, rfl⟩
      rw [← hRZ] at X6 D6 HRZ
      clear hRZ
      go_wp2_with fail
      refine HSA.out.mono ?_
      rintro e w7 ⟨rfl, a7⟩
      have X7 := hideIt (X6.out.after a7)
      have Y7 := hideIt (D6.out.after a7)
      have A7 := hideIt (A6.out.trans a7)
      clear a7 X6 D6 A6 HSA
      have hmk := make_300
      go_wp2_with fail
      refine (pending_any _ _ _ _ X7.out).mono ?_
      rintro e w8 ⟨rfl, rfl⟩
      go_wp2_with fail
      refine (pending_any _ _ _ _ Y7.out).mono ?_
      rintro e w9 ⟨rfl, rfl⟩
      have hRL := HRZ.out
      have HF2 := hideIt (feed_any (w9.alloc (.cells (mc 300) 5)) g hx RZ (some ⟨w9.heap.size, 0, none⟩) 300 300 (nils 300) (X7.out.after (After.rfl.alloc _)) (mc_row (heap_alloc_new w9 _)) (fun e => by cases e) (by omega) (fed_room2 (by rw [List.length_append, nils_length]; omega)))
      generalize hRR : RZ.length = R at *
      go_wp2_with fail
      refine HF2.out.mono ?_
      rintro e wx ⟨v8, h8, rfl, f8, d8, ⟨M8, _, lm8, l8⟩, b8⟩
      have hgy : g' < w9.heap.size ∧ h5 < w9.heap.size := Y7.out.lt
      have hgx := X7.out.lt
      have Y8 := hideIt ((Y7.out.after (After.rfl.alloc (.cells (mc 300) 5))).but b8 (fun t => hgg (Eq.symm t)) (fun t => by have t2 : h5 = g := t; have h1 := HH5.out; have h2 := GB.out; have h3 := G3.out; omega))
      have T8 := hideIt (Row.but (mc_row (n := 300) (heap_alloc_new w9 (.cells (mc 300) 5))) b8 (fun x hx t => by cases hx; have t2 : w9.heap.size = g := t; omega))
      have A8 := hideIt ((A7.out.alloc (.cells (mc 300) 5)).then b8 (fun i hi t => by have t2 : i = g := t; have := G2.out; omega))
      have F8 := hideIt f8
      have X8 := hideIt d8
      have HX8 := hideIt (show h8 ≠ g' by rcases l8 with e | e <;> (simp at lm8; omega))
      have GL8 := hideIt (show g' < (w9.alloc (.cells (mc 300) 5)).heap.size by simp; omega)
      have HF3 := hideIt (feed_any wx g' h5 RZ (some ⟨w9.heap.size, 0, none⟩) 300 300 (nils 300) Y8.out T8.out (fun e => by cases e) (by omega) (fed_room2 (by rw [List.length_append, nils_length]; omega)))
      have HD8 := hideIt (show drp (RZ ++ nils 300) ≤ 140737488355328 by have h1 := drp_le (RZ ++ nils 300); rw [List.length_append, nils_length] at h1; omega)
      have HL8 := hideIt (show (frs (RZ ++ nils 300)).length ≤ 140737488355328 by have h1 := frs_length (RZ ++ nils 300); rw [List.length_append, nils_length] at h1; omega)
      obtain ⟨T2, hT2⟩ : ∃ T2, T2 = RZ ++ nils 300 := ⟨_, rfl⟩
      rw [← hT2] at HF3 HD8 HL8 F8 X8
      have HBD2 := hideIt (fed_bodies T2)
      obtain ⟨xs8, o8, _⟩ := f8
      obtain ⟨p8, q8, rfl⟩ := own_slice o8
      rw [← hT2] at F8 ⊢
      clear o8 d8 l8 lm8 b8 HF2 Y7 X7 hgy hgx hT2
      generalize hDD : drp T2 = D2 at *
      obtain ⟨F2, hF2⟩ : ∃ F2, F2 = frs T2 := ⟨_, rfl⟩
      rw [← hF2] at F8 HF3 HL8 HBD2 ⊢
      obtain ⟨N2, hN2⟩ : ∃ N2, N2 = F2.length := ⟨_, rfl⟩
      have HN2 := hideIt hN2
      rw [← hN2] at F8 HL8 ⊢
      clear hF2 hN2
      go_wp2_with fail
      refine HF3.out.mono ?_
      rintro e wy ⟨v9, h9, rfl, f9, d9, ⟨M9, _, lm9, l9⟩, b9⟩
      have A9 := hideIt (A8.out.then b9 (fun i hi t => by have t2 : i = g' := t; have := GW.out; omega))
      have X9 := hideIt (X8.out.but b9 (fun t => hgg t) (fun t => HX8.out t))
      have Y9 := hideIt d9
      have f8b := F8.out.but b9 (fun i hi t => by have t2 : i = g' := t; have := GL8.out; omega)
      obtain ⟨pa, qa, ea, la⟩ := (f8b.gat (fun f hf => by have := HBD2.out f hf; omega)).lst
      rw [← HN2.out] at ea la
      cases ea
      obtain ⟨pb, qb, rfl, lb⟩ := (f9.gat (fun f hf => by have := HBD2.out f hf; omega)).lst
      rw [← HN2.out] at lb ⊢
      have HSA := hideIt (same_any p8 pb N2 q8 qb _ wy la lb HL8.out)
      clear f8b f9 d9 lm9 l9 b9 la lb HF3 F8 X8 Y8 A8 T8
      go_wp2_with fail
      refine HSA.out.mono ?_
      rintro e wz ⟨rfl, az⟩
      have X10 := hideIt (X9.out.after az)
      have Y10 := hideIt (Y9.out.after az)
      have A10 := hideIt (A9.out.trans az)
      clear az
      go_wp2_with fail
      refine (pending_any _ _ _ _ X10.out).mono ?_
      rintro e wz1 ⟨rfl, rfl⟩
      go_wp2_with fail
      refine (pending_any _ _ _ _ Y10.out).mono ?_
      rintro e wz2 ⟨rfl, rfl⟩
      go_wp2
      go_ret
      exact ⟨rfl, A10.out⟩
end Go.Proofs.Ytmdbpoknehafaaa
