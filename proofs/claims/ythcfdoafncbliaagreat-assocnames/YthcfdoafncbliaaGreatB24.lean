/-
  Laid together: RgA, RgB.
-/
import Derived.Test.YthcfdoafncbliaaGreatB09
import Derived.Test.YthcfdoafncbliaaGreatB10
import Derived.Maps.AppendAt
/-
  The document's manager: where it lies; New, alone, scan.
-/
namespace Go.Proofs.YthcfdoafncbliaaGreat
open Go.RowKit Go.Maps
set_option maxRecDepth 8000
structure RgX (w : World) (P : Nat → Prop) (g : Nat) (st : Mg) (c : Int) (oa : Option Addr) (oc : Nat) : Prop where
  at0 : w.heap[g]? = some (.cells #[.int .i64 st.state, .int .i64 c, .slice oa st.objs.length oc] 41 (0, 0))
  cc : st.state = 1 → c = st.config
  gp : P g
  or : RowT w oa st.objs.length (st.objs.map Ob.t3)
  on : oa = none → st.objs.length = 0 ∧ oc = 0
  op : ∀ y, oa = some y → 0 < st.objs.length → P y.block
  ol : st.objs.length ≤ 16
  no : st.state ≠ 2 → st.objs = []
def RgAt (w : World) (P : Nat → Prop) (g : Nat) (st : Mg) : Prop := ∃ c oa oc, RgX w P g st c oa oc
theorem RgX.but {S P : Nat → Prop} {w w' : World} {g : Nat} {st : Mg} {c : Int} {oa : Option Addr} {oc : Nat} (x : RgX w P g st c oa oc) (b : But S w w') (hn : ∀ k, P k → ¬ S k) : RgX w' P g st c oa oc :=
  ⟨(b.block g (Array.getElem?_eq_some_iff.1 x.at0).1 (hn _ x.gp)).trans x.at0, x.cc, x.gp, x.or.but b (fun y hy h0 => hn _ (x.op y hy h0)), x.on, x.op, x.ol, x.no⟩
theorem RgX.mono {P T : Nat → Prop} {w : World} {g : Nat} {st : Mg} {c : Int} {oa : Option Addr} {oc : Nat} (x : RgX w P g st c oa oc) (h : ∀ k, P k → T k) : RgX w T g st c oa oc :=
  ⟨x.at0, x.cc, h _ x.gp, x.or, x.on, fun y hy h0 => h _ (x.op y hy h0), x.ol, x.no⟩
theorem RgX.lt {P : Nat → Prop} {w : World} {g : Nat} {st : Mg} {c : Int} {oa : Option Addr} {oc : Nat} (x : RgX w P g st c oa oc) : g < w.heap.size := (Array.getElem?_eq_some_iff.1 x.at0).1
theorem RgAt.but {S P : Nat → Prop} {w w' : World} {g : Nat} {st : Mg} (x : RgAt w P g st) (b : But S w w') (hn : ∀ k, P k → ¬ S k) : RgAt w' P g st := by
  obtain ⟨c, oa, oc, x⟩ := x
  exact ⟨c, oa, oc, x.but b hn⟩
theorem RgAt.after {P : Nat → Prop} {w w' : World} {g : Nat} {st : Mg} (x : RgAt w P g st) (b : After w w') : RgAt w' P g st := x.but b (fun _ _ t => t)
theorem RgAt.mono {P T : Nat → Prop} {w : World} {g : Nat} {st : Mg} (x : RgAt w P g st) (h : ∀ k, P k → T k) : RgAt w T g st := by
  obtain ⟨c, oa, oc, x⟩ := x
  exact ⟨c, oa, oc, x.mono h⟩
abbrev rgC : Array Value := #[.int .i64 0, .int .i64 0, .slice none 0 0]
theorem rg_new {w : World} {g : Nat} (h : w.heap[g]? = some (.cells rgC 41 (0, 0))) {P : Nat → Prop} (hp : P g) : RgAt w P g Mg.new :=
  ⟨0, none, 0, h, fun _ => rfl, hp, RowT.nil _ _, fun _ => ⟨rfl, rfl⟩, (fun y hy => by cases hy), Nat.zero_le _, fun _ => rfl⟩
theorem rgNew_any (w : World) : Calls Tryz.prog 6 #[] w fun e w' => e = .returned (Ptr w.heap.size) ∧ w' = w.alloc (.cells rgC 41) := by
  go_enter Tryz.func6, Tryz.ntmps6
  go_wp2
  go_ret
  exact ⟨rfl, rfl⟩
theorem rgAlone_any {w : World} {P : Nat → Prop} {g : Nat} {st : Mg} (x : RgAt w P g st) :
    Calls Tryz.prog 28 #[Ptr g] w fun e w' => e = .returned (.tuple #[]) ∧ w'.heap[g]? = some (.cells rgC 41 (0, 0)) ∧ But (One g) w w' := by
  obtain ⟨c, oa, oc, x⟩ := x
  obtain ⟨hg, ⟨d0, d1, d2⟩, f0, f1, f2⟩ := tri_at x.at0
  have H1 := hideIt x.at0
  clear x
  go_enter Tryz.func28, Tryz.ntmps28
  go_wp2
  go_end0
  exact ⟨rfl, tri_set H1.out _ _ _, ((but_one _ _ _ _).trans (but_one _ _ _ _)).trans (but_one _ _ _ _)⟩
/-- Samples, owned. -/
theorem own_sm {w : World} {B : Nat} {v : Value} {n : Nat} {l : List Sm} (h : w.ownsRow B 69 4 v n (cells4 (l.map Sm.t4))) : SmAt w B v l := by
  have hl : l.length = n := by have := h.1; rw [cells4_length, List.length_map] at this; omega
  rcases h.2 with ⟨e, rfl⟩ | ⟨g, cap, cur, e, hb, hg, hnc, _, hcs, htk⟩
  · obtain rfl : l = [] := List.length_eq_zero_iff.1 hl
    exact ⟨none, 0, e, (fun i s h => by simp at h), fun _ => ⟨rfl, rfl⟩, (fun y hy => by cases hy)⟩
  · refine ⟨some ⟨g, 0, none⟩, cap, by rw [hl]; exact e, fun i s hs => ?_, (fun h => by cases h), (fun y hy => by cases hy; exact hb)⟩
    have hi : i < l.length := by
      rcases Nat.lt_or_ge i l.length with h' | h'
      · exact h'
      · rw [List.getElem?_eq_none h'] at hs; cases hs
    obtain ⟨e0, e1, e2, e3⟩ := cells4_at (l.map Sm.t4) i s.t4 (by rw [List.getElem?_map, hs]; rfl)
    have hc : ∀ j, j < n * 4 → w.cell? ⟨g, j, none⟩ = (cells4 (l.map Sm.t4))[j]? := by
      intro j hj
      rw [← htk, List.getElem?_take_of_lt hj]
      have hg' : w.heap[g]? = some (.cells cur.toList.toArray 69 (0, 0)) := by rw [hg]
      exact cell_blk hg'
    refine ⟨g, 0, rfl, (Array.getElem?_eq_some_iff.1 hg).1, ?_, ?_, ?_, ?_⟩
    · rw [Nat.zero_add, hc _ (by omega)]; exact e0
    · rw [Nat.zero_add, hc _ (by omega)]; exact e1
    · rw [Nat.zero_add, hc _ (by omega)]; exact e2
    · rw [Nat.zero_add, hc _ (by omega)]; exact e3
end Go.Proofs.YthcfdoafncbliaaGreat
/-
  The document's scan.
-/
namespace Go.Proofs.YthcfdoafncbliaaGreat
open Go.RowKit Go.Maps
set_option maxRecDepth 8000
theorem sm_h (o : Bi) : (smOf o).h = o.h := by unfold smOf; split <;> rfl
theorem smF2 (oh obt : Int) : (smOf ⟨oh, false, obt⟩).k = shK (obt % 65536) ∧ (smOf ⟨oh, false, obt⟩).m = shM (obt % 65536) ∧ (smOf ⟨oh, false, obt⟩).e = shE (obt % 65536) := ⟨rfl, rfl, rfl⟩
theorem smT2 (oh obt : Int) : (smOf ⟨oh, true, obt⟩).k = loK obt ∧ (smOf ⟨oh, true, obt⟩).m = loM obt ∧ (smOf ⟨oh, true, obt⟩).e = loE obt := ⟨rfl, rfl, rfl⟩
theorem any_more {l : List Ob} {q : Nat} {pp : Ob} {o : Bi} (h : l[q]? = some pp) : hasO (l.take (q + 1)) o = (hasO (l.take q) o || decide (pp.h = o.h ∧ pp.l = o.l)) := by
  unfold hasO
  rw [List.take_add_one, h, List.any_append]
  simp
/-- What a scan comes to. -/
def Scans (w w' : World) (e : Ending) (l : List Bi) (ob : List Ob) : Prop := After w w' ∧ ((l.all (hasO ob) = true ∧ ∃ v, e = .returned (.tuple #[v, .bool true]) ∧ SmAt w' w.heap.size v (l.map smOf)) ∨ (l.all (hasO ob) = false ∧ e = .returned (.tuple #[.slice none 0 0, .bool false])))
theorem own_sl {w : World} {B : Nat} {T : TypeId} {sz n : Nat} {v : Value} {xs : List Value} (h : w.ownsRow B T sz v n xs) : ∃ a c, v = .slice a n c := by
  rcases h.2 with ⟨e, rfl⟩ | ⟨g, cap, cur, e, _⟩
  · exact ⟨none, 0, e⟩
  · exact ⟨_, _, e⟩
set_option maxHeartbeats 2000000 in
theorem rgScan_any {w : World} {P : Nat → Prop} {g : Nat} {st : Mg} (x : RgAt w P g st) (a : Option Addr) (n c : Nat) (l : List Bi) (hr : RowT w a n (l.map Bi.t3)) (hn : n ≤ 64) (hb : ∀ o ∈ l, 0 ≤ o.b ∧ o.b < 4294967296) :
    Calls Tryz.prog 29 #[Ptr g, .slice a n c] w fun e w' => Scans w w' e l st.objs := by
  obtain ⟨cc, oa, oc, x⟩ := x
  have hl : l.length = n := by have := hr.1; simpa using this
  obtain ⟨hgl, ⟨d0, d1, d2⟩, _⟩ := tri_at x.at0
  have hol := x.ol
  have HX := hideIt (And.intro x.or (And.intro hr (And.intro hb (And.intro hl x.at0))))
  clear x hr hb hl
  generalize hno : st.objs.length = m at *
  have HNO := hideIt hno
  clear hno
  obtain ⟨s, cf, ob⟩ := st
  dsimp only at *
  go_enter Tryz.func29, Tryz.ntmps29
  go_wp2_with fail
  go_loopw [6, 7] (fun v i W => ∃ k : Nat, k ≤ n ∧ i = .int .i64 k ∧ (l.take k).all (hasO ob) = true ∧ W.ownsRow w.heap.size 69 4 v k (cells4 (((l.take k).map smOf).map Sm.t4)) ∧ After w W) (fun _ i _ => n - (intOf i).toNat)
  case atStart => exact ⟨0, Nat.zero_le _, rfl, rfl, World.ownsRow_nil _ _ _ _, After.rfl⟩
  case round =>
    obtain ⟨k, hk, rfl, hall, hown, aw⟩ := hrel
    obtain ⟨ro, hr, hb, hl, hat⟩ := HX.out
    by_cases hkn : k < n
    · have ik : (k : Int) < (n : Int) := by omega
      obtain ⟨b, off, z, rfl, hbl, hz, c0, c1, c2⟩ := hr.2 k hkn
      obtain ⟨o, ho, rfl⟩ : ∃ o, l[k]? = some o ∧ z = o.t3 := by
        rw [List.getElem?_map] at hz
        obtain ⟨o, h1, h2⟩ := Option.map_eq_some_iff.1 hz
        exact ⟨o, h1, h2.symm⟩
      have hmem := List.mem_of_getElem? ho
      have hbit := hb o hmem
      unfold Bi.t3 at c0 c1 c2
      dsimp only at c0 c1 c2
      have HY := hideIt (And.intro hall (And.intro hown (And.intro aw (And.intro ho (And.intro hmem (And.intro hbit (And.intro c0 (And.intro c1 (And.intro c2 (And.intro ro hat))))))))))
      have hbl' : b < wr.heap.size := Nat.lt_of_lt_of_le hbl aw.size
      rw [← aw.cell hgl] at d2
      clear hall hown aw ho hmem hbit hz c0 c1 c2 hr hb ro hat
      go_wp2_with fail
      go_loopw [8, 9] (fun v i W => ∃ q : Nat, q ≤ m ∧ i = .int .i64 q ∧ v = .bool (hasO (ob.take q) o) ∧ After wr W) (fun _ i _ => m - (intOf i).toNat)
      case atStart => exact ⟨0, Nat.zero_le _, rfl, rfl, After.rfl⟩
      case round =>
        obtain ⟨q, hq, rfl, rfl, aq⟩ := hrel
        obtain ⟨hall, hown, aw, ho, hmem, hbit, c0, c1, c2, ro, hat⟩ := HY.out
        by_cases hqm : q < m
        · have iq : (q : Int) < (m : Int) := by omega
          obtain ⟨b3, o3, pt, rfl, l3, hpt, g0, g1, g2⟩ := (ro.after (aw.trans aq)).2 q (by have := HNO.out; omega)
          obtain ⟨pp, hpp, rfl⟩ : ∃ pp, ob[q]? = some pp ∧ pt = pp.t3 := by
            rw [List.getElem?_map] at hpt
            obtain ⟨pp, h1, h2⟩ := Option.map_eq_some_iff.1 hpt
            exact ⟨pp, h1, h2.symm⟩
          unfold Ob.t3 at g0 g1 g2
          dsimp only at g0 g1 g2
          have hmo := any_more (o := o) hpp
          rw [← (aw.trans aq).cell hbl] at c0 c1 c2
          have hbq : b < wr.heap.size := Nat.lt_of_lt_of_le hbl (aw.trans aq).size
          have hgq : g < wr.heap.size := Nat.lt_of_lt_of_le hgl (aw.trans aq).size
          obtain ⟨_, ⟨_, _, e2⟩, _⟩ := tri_at (keep3 hat (aw.trans aq))
          have HQ := hideIt (And.intro hmo aq)
          clear hmo aq hall hown aw ho hmem hbit ro hat hpt hpp d2
          obtain ⟨oh, ol, obt⟩ := o
          dsimp only at c0 c1 c2
          generalize hasO (ob.take q) ⟨oh, ol, obt⟩ = vb at *
          cases vb with
          | true =>
            go_wp2_with fail
            go_quiet (fail)
            have AW2 := hideIt (HQ.out.2.draws nq)
            generalize wr.drewN nq = W9 at *
            clear c0 c1 c2 g0 g1 g2 e2
            go_wp2_with fail
            go_roundw
            case rel => exact ⟨q + 1, by omega, by go_num, by rw [HQ.out.1]; rfl, AW2.out⟩
            case measure => simp [intOf]; omega
          | false =>
            by_cases hph : pp.h = oh
            · have hpb : (pp.h == oh) = true := by simpa using hph
              obtain ⟨vl, hvl⟩ : ∃ vl, (pp.l == ol) = vl := ⟨_, rfl⟩
              have hvv : (false || decide (pp.h = oh ∧ pp.l = ol)) = vl := by
                rw [← hvl]
                cases h1 : pp.l <;> cases h2 : ol <;> simp [hph]
              have HV := hideIt (HQ.out.1.trans hvv)
              clear hph hvv
              go_wp2_with fail
              go_quiet (fail)
              have AW2 := hideIt (HQ.out.2.draws nq)
              generalize wr.drewN nq = W9 at *
              clear c0 c1 c2 g0 g1 g2 e2 hvl
              go_wp2_with fail
              go_roundw
              case rel => exact ⟨q + 1, by omega, by go_num, by rw [HV.out], AW2.out⟩
              case measure => simp [intOf]; omega
            · have hpb : (pp.h == oh) = false := by simpa using hph
              have hvv : (false || decide (pp.h = oh ∧ pp.l = ol)) = false := by simp [hph]
              have HV := hideIt (HQ.out.1.trans hvv)
              clear hph hvv
              go_wp2_with fail
              go_quiet (fail)
              have AW2 := hideIt (HQ.out.2.draws nq)
              generalize wr.drewN nq = W9 at *
              clear c0 c1 c2 g0 g1 g2 e2
              go_wp2_with fail
              go_roundw
              case rel => exact ⟨q + 1, by omega, by go_num, by rw [HV.out], AW2.out⟩
              case measure => simp [intOf]; omega
        · obtain rfl : q = m := by omega
          have iq : ¬ (q : Int) < (q : Int) := by omega
          have hlo : (ob.take q) = ob := List.take_of_length_le (by have := HNO.out; omega)
          rw [hlo]
          obtain ⟨_, ⟨_, _, e2⟩, _⟩ := tri_at (keep3 hat (aw.trans aq))
          have hgq : g < wr.heap.size := Nat.lt_of_lt_of_le hgl (aw.trans aq).size
          cases hho : hasO ob o with
          | false =>
            have HA := hideIt (aw.trans aq)
            have hno : l.all (hasO ob) = false := by
              apply Bool.eq_false_iff.2
              intro h
              have := List.all_eq_true.1 h o hmem
              rw [hho] at this
              cases this
            have HNN := hideIt hno
            clear hall hown aw ho hmem hbit c0 c1 c2 ro hat aq hno hho hlo d2
            go_wp2_with fail
            go_ret2
            exact ⟨HA.out, .inr ⟨HNN.out, rfl⟩⟩
          | true =>
            have hall2 := all_take hall ho hho
            have htk : cells4 (((l.take (k + 1)).map smOf).map Sm.t4) = cells4 (((l.take k).map smOf).map Sm.t4) ++ [.int .i64 (smOf o).h, .int .i64 (smOf o).k, .int .i64 (smOf o).m, .int .i64 (smOf o).e] := by
              rw [List.take_add_one, ho, List.map_append, List.map_append, cells4_append]
              rfl
            obtain ⟨va, vc, rfl⟩ := own_sl hown
            have bq : b < wr.heap.size := Nat.lt_of_lt_of_le hbl (aw.trans aq).size
            rw [← (aw.trans aq).cell hbl] at c0 c1 c2
            have HZ := hideIt (And.intro hall2 (And.intro htk (And.intro (own_after hown aq) (aw.trans aq))))
            have hs0 : w.heap.size ≤ wr.heap.size := (aw.trans aq).size
            clear hall hall2 htk hown aw ho hmem ro hat aq hho hlo d2 HY
            obtain ⟨oh, ol, obt⟩ := o
            dsimp only at c0 c1 c2 hbit
            have HC := hideIt (And.intro c0 (And.intro c1 c2))
            obtain ⟨w2, hw2⟩ : ∃ w2, wr.alloc (.cells #[.int .i64 oh, .int .i64 0, .int .i64 0, .int .i64 0] 69) = w2 := ⟨_, rfl⟩
            have a2 : After wr w2 := by rw [← hw2]; exact After.rfl.alloc _
            have V2 : w2.heap[wr.heap.size]? = some (.cells #[.int .i64 oh, .int .i64 0, .int .i64 0, .int .i64 0] 69 (0, 0)) := by rw [← hw2]; exact new1 _ _
            have c1' := c1
            have c2' := c2
            rw [← a2.cell bq] at c1' c2'
            have bq2 : b < w2.heap.size := Nat.lt_of_lt_of_le bq a2.size
            have hwr : IntKind.u16.wrap obt = obt % 65536 := rfl
            have HL := hideIt (refLong_any obt w2 hbit.1 (by omega))
            have HSh := hideIt (refShort_any (obt % 65536) w2 (by omega) (by omega))
            have HV := hideIt (And.intro a2 V2)
            have HW2 := hideIt hw2
            clear a2 V2 hw2 c1' c2'
            cases ol with
            | true =>
              go_wp2_with fail
              rw [HW2.out]
              refine HL.out.mono ?_
              rintro e w3 ⟨rfl, a3⟩
              obtain ⟨a2, V2⟩ := HV.out
              have V3 := keep3 V2 a3
              obtain ⟨lv, ⟨x0, x1, x2, x3⟩, y0, y1, y2, y3⟩ := four_at V3
              obtain ⟨hall2, htk, hown, awq⟩ := HZ.out
              rw [sm_h, (smT2 oh obt).1, (smT2 oh obt).2.1, (smT2 oh obt).2.2] at htk
              have a23 := a2.trans a3
              clear a2 a3 V2 HV HL HSh c0 c1 c2 HC hwr e2 HZ HW2
              generalize loK obt = t1 at *
              generalize loM obt = t2 at *
              generalize loE obt = t3 at *
              obtain ⟨xs, hxs⟩ : ∃ xs, cells4 (((l.take k).map smOf).map Sm.t4) = xs := ⟨_, rfl⟩
              rw [hxs] at hown htk
              clear hxs
              generalize hsb : wr.heap.size = sb at *
              have A4 : After wr (((w3.setCell ⟨sb, 1, none⟩ (.int .i64 t1)).setCell ⟨sb, 2, none⟩ (.int .i64 t2)).setCell ⟨sb, 3, none⟩ (.int .i64 t3)) := ((a23.set ⟨sb, 1, none⟩ (by show wr.heap.size ≤ sb; omega) _).set ⟨sb, 2, none⟩ (by show wr.heap.size ≤ sb; omega) _).set ⟨sb, 3, none⟩ (by show wr.heap.size ≤ sb; omega) _
              have A5 := A4.alloc (.cells #[.int .i64 oh, .int .i64 t1, .int .i64 t2, .int .i64 t3] 69)
              have OW := hideIt (own_after hown A5)
              have NW := hideIt (show ∀ jj u, [Value.int .i64 oh, Value.int .i64 t1, Value.int .i64 t2, Value.int .i64 t3][jj]? = some u → ((((w3.setCell ⟨sb, 1, none⟩ (.int .i64 t1)).setCell ⟨sb, 2, none⟩ (.int .i64 t2)).setCell ⟨sb, 3, none⟩ (.int .i64 t3)).alloc (.cells #[.int .i64 oh, .int .i64 t1, .int .i64 t2, .int .i64 t3] 69)).cell? ((⟨w3.heap.size, 0, none⟩ : Addr).add jj) = some u from fun jj u hu => by
                have hnb := new1 (((w3.setCell ⟨sb, 1, none⟩ (.int .i64 t1)).setCell ⟨sb, 2, none⟩ (.int .i64 t2)).setCell ⟨sb, 3, none⟩ (.int .i64 t3)) (.cells #[.int .i64 oh, .int .i64 t1, .int .i64 t2, .int .i64 t3] 69)
                rw [World.size_setCell, World.size_setCell, World.size_setCell] at hnb
                rw [add_off, Nat.zero_add]
                rw [cell_blk (A := [Value.int .i64 oh, Value.int .i64 t1, Value.int .i64 t2, Value.int .i64 t3]) hnb]
                exact hu)
              obtain ⟨i0, hi', hz0, hz1, hz2⟩ := info_parts Tryz.info69
              have HSZ := hideIt (show w.heap.size ≤ ((((w3.setCell ⟨sb, 1, none⟩ (.int .i64 t1)).setCell ⟨sb, 2, none⟩ (.int .i64 t2)).setCell ⟨sb, 3, none⟩ (.int .i64 t3)).alloc (.cells #[.int .i64 oh, .int .i64 t1, .int .i64 t2, .int .i64 t3] 69)).heap.size from by have := A5.size; omega)
              have HT := hideIt (And.intro hall2 (And.intro htk (And.intro (awq.trans A5) hown)))
              clear a23 V3 hall2 htk hown awq A4 A5
              go_wp2_with (at_builtin; refine wpList_append_own _ rfl (.tmp 87) (.tmp 89) 33 rfl w.heap.size 69 i0 (.agg #[.int .i64 0, .int .i64 0, .int .i64 0, .int .i64 0]) 4 32 Tryz.underlying33 hi' hz0 hz1 hz2 rfl (by decide) (.slice va k vc) k xs rfl OW.out ⟨w3.heap.size, 0, none⟩ 1 1 [.int .i64 oh, .int .i64 t1, .int .i64 t2, .int .i64 t3] rfl rfl NW.out (fun u hu => by simp at hu; rcases hu with rfl | rfl | rfl | rfl <;> rfl) (by unfold maxLen; omega) (by omega) HSZ.out ?_; intro v10 w10 hown hgrow _; have OW10 := hideIt hown; have GR10 := hideIt hgrow; clear hown hgrow)
              go_roundw
              case rel =>
                obtain ⟨hall2, htk, awA, hown⟩ := HT.out
                refine ⟨k + 1, by omega, by go_num, hall2, ?_, But.grown awA GR10.out (fun j hj hlt => absurd hlt (Nat.not_lt.2 (hown.lt j hj).1))⟩
                rw [htk]
                exact OW10.out
              case measure => simp [intOf]; omega
            | false =>
              go_wp2_with fail
              rw [HW2.out]
              refine HSh.out.mono ?_
              rintro e w3 ⟨rfl, a3⟩
              obtain ⟨a2, V2⟩ := HV.out
              have V3 := keep3 V2 a3
              obtain ⟨lv, ⟨x0, x1, x2, x3⟩, y0, y1, y2, y3⟩ := four_at V3
              obtain ⟨hall2, htk, hown, awq⟩ := HZ.out
              rw [sm_h, (smF2 oh obt).1, (smF2 oh obt).2.1, (smF2 oh obt).2.2] at htk
              have a23 := a2.trans a3
              clear a2 a3 V2 HV HL HSh c0 c1 c2 HC hwr e2 HZ HW2
              generalize shK (obt % 65536) = t1 at *
              generalize shM (obt % 65536) = t2 at *
              generalize shE (obt % 65536) = t3 at *
              obtain ⟨xs, hxs⟩ : ∃ xs, cells4 (((l.take k).map smOf).map Sm.t4) = xs := ⟨_, rfl⟩
              rw [hxs] at hown htk
              clear hxs
              generalize hsb : wr.heap.size = sb at *
              have A4 : After wr (((w3.setCell ⟨sb, 1, none⟩ (.int .i64 t1)).setCell ⟨sb, 2, none⟩ (.int .i64 t2)).setCell ⟨sb, 3, none⟩ (.int .i64 t3)) := ((a23.set ⟨sb, 1, none⟩ (by show wr.heap.size ≤ sb; omega) _).set ⟨sb, 2, none⟩ (by show wr.heap.size ≤ sb; omega) _).set ⟨sb, 3, none⟩ (by show wr.heap.size ≤ sb; omega) _
              have A5 := A4.alloc (.cells #[.int .i64 oh, .int .i64 t1, .int .i64 t2, .int .i64 t3] 69)
              have OW := hideIt (own_after hown A5)
              have NW := hideIt (show ∀ jj u, [Value.int .i64 oh, Value.int .i64 t1, Value.int .i64 t2, Value.int .i64 t3][jj]? = some u → ((((w3.setCell ⟨sb, 1, none⟩ (.int .i64 t1)).setCell ⟨sb, 2, none⟩ (.int .i64 t2)).setCell ⟨sb, 3, none⟩ (.int .i64 t3)).alloc (.cells #[.int .i64 oh, .int .i64 t1, .int .i64 t2, .int .i64 t3] 69)).cell? ((⟨w3.heap.size, 0, none⟩ : Addr).add jj) = some u from fun jj u hu => by
                have hnb := new1 (((w3.setCell ⟨sb, 1, none⟩ (.int .i64 t1)).setCell ⟨sb, 2, none⟩ (.int .i64 t2)).setCell ⟨sb, 3, none⟩ (.int .i64 t3)) (.cells #[.int .i64 oh, .int .i64 t1, .int .i64 t2, .int .i64 t3] 69)
                rw [World.size_setCell, World.size_setCell, World.size_setCell] at hnb
                rw [add_off, Nat.zero_add]
                rw [cell_blk (A := [Value.int .i64 oh, Value.int .i64 t1, Value.int .i64 t2, Value.int .i64 t3]) hnb]
                exact hu)
              obtain ⟨i0, hi', hz0, hz1, hz2⟩ := info_parts Tryz.info69
              have HSZ := hideIt (show w.heap.size ≤ ((((w3.setCell ⟨sb, 1, none⟩ (.int .i64 t1)).setCell ⟨sb, 2, none⟩ (.int .i64 t2)).setCell ⟨sb, 3, none⟩ (.int .i64 t3)).alloc (.cells #[.int .i64 oh, .int .i64 t1, .int .i64 t2, .int .i64 t3] 69)).heap.size from by have := A5.size; omega)
              have HT := hideIt (And.intro hall2 (And.intro htk (And.intro (awq.trans A5) hown)))
              clear a23 V3 hall2 htk hown awq A4 A5
              go_wp2_with (at_builtin; refine wpList_append_own _ rfl (.tmp 87) (.tmp 89) 33 rfl w.heap.size 69 i0 (.agg #[.int .i64 0, .int .i64 0, .int .i64 0, .int .i64 0]) 4 32 Tryz.underlying33 hi' hz0 hz1 hz2 rfl (by decide) (.slice va k vc) k xs rfl OW.out ⟨w3.heap.size, 0, none⟩ 1 1 [.int .i64 oh, .int .i64 t1, .int .i64 t2, .int .i64 t3] rfl rfl NW.out (fun u hu => by simp at hu; rcases hu with rfl | rfl | rfl | rfl <;> rfl) (by unfold maxLen; omega) (by omega) HSZ.out ?_; intro v10 w10 hown hgrow _; have OW10 := hideIt hown; have GR10 := hideIt hgrow; clear hown hgrow)
              go_roundw
              case rel =>
                obtain ⟨hall2, htk, awA, hown⟩ := HT.out
                refine ⟨k + 1, by omega, by go_num, hall2, ?_, But.grown awA GR10.out (fun j hj hlt => absurd hlt (Nat.not_lt.2 (hown.lt j hj).1))⟩
                rw [htk]
                exact OW10.out
              case measure => simp [intOf]; omega
    · obtain rfl : k = n := by omega
      have ik : ¬ (k : Int) < (k : Int) := by omega
      rw [List.take_of_length_le (by omega)] at hall hown
      have HF := hideIt (And.intro hall (And.intro hown aw))
      clear hall hown aw ro hr hb hat d2
      go_wp2_with fail
      go_ret2
      obtain ⟨hall, hown, aw⟩ := HF.out
      exact ⟨aw, .inl ⟨hall, _, rfl, own_sm hown⟩⟩
end Go.Proofs.YthcfdoafncbliaaGreat
