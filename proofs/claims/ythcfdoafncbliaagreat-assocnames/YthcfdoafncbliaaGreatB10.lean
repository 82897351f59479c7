/-
  Laid together: MgF, MgG, MgH.
-/
import Derived.Test.YthcfdoafncbliaaGreatB09
/-
  scanned of package assoc.
-/
namespace Go.Proofs.YthcfdoafncbliaaGreat
open Go.RowKit Go.Maps
set_option maxRecDepth 8000
/-- What a step answers. -/
def Says (w w' : World) (e : Ending) (o : Out) : Prop := ∃ v1 v2, e = .returned (.tuple #[v1, v2, .int .i64 o.er]) ∧ AnsAt w' w.heap.size v1 o.an ∧ SmAt w' w.heap.size v2 o.sm
theorem all_take {l : List Bi} {f : Bi → Bool} {k : Nat} {o : Bi} (h : (l.take k).all f = true) (ho : l[k]? = some o) (hf : f o = true) : (l.take (k + 1)).all f = true := by
  rw [List.take_add_one, ho, List.all_append, h]
  simp [hf]
set_option maxHeartbeats 2000000 in
theorem scanned_any {w : World} {P T : Nat → Prop} {g : Nat} {st : Mg} (x : MgAt w P g st) (hs : st.state = 2) (M : Msg) (sa : Option Addr) (sc : Nat) (oa : Option Addr) (oc : Nat) (ba : Option Addr) (bc : Nat) (y : MsgX w T M sa sc oa oc ba bc) (hl : M.obs.length ≤ 64) (hh : ∀ o ∈ M.obs, 0 ≤ o.h ∧ o.h ≤ 65535) :
    Calls Tryz.prog 46 #[Ptr g, M.val sa sc oa oc ba bc] w fun e w' => Says w w' e (scanF st M) ∧ After w w' := by
  obtain ⟨w0, hw0⟩ : ∃ w0, w.alloc (.cells #[.int .i64 M.kind, .slice sa M.sys.length sc, .int .i64 M.config, .int .i64 M.result, .int .i64 M.reason, .slice oa M.objs.length oc, .slice ba M.obs.length bc] 31) = w0 := ⟨_, rfl⟩
  have hA : After w w0 := by rw [← hw0]; exact After.rfl.alloc _
  have hB : w0.heap[w.heap.size]? = some (.cells #[.int .i64 M.kind, .slice sa M.sys.length sc, .int .i64 M.config, .int .i64 M.result, .int .i64 M.reason, .slice oa M.objs.length oc, .slice ba M.obs.length bc] 31 (0, 0)) := by rw [← hw0]; exact new1 _ _
  obtain ⟨_, ⟨_, _, _, _, _, _, k6⟩, _⟩ := seven_at hB
  have x0 := x.after hA
  have y0 := (y.after hA).br
  have ybb := y.bb
  have HV := hideIt (show M.val sa sc oa oc ba bc = .agg #[.int .i64 M.kind, .slice sa M.sys.length sc, .int .i64 M.config, .int .i64 M.result, .int .i64 M.reason, .slice oa M.objs.length oc, .slice ba M.obs.length bc] from rfl)
  have hF1 : M.obs.all (hasO st.objs) = true → scanF st M = ⟨st, none, M.obs.map smOf, 0⟩ := fun h => if_pos h
  have hF2 : ¬ M.obs.all (hasO st.objs) = true → scanF st M = ⟨st, none, [], 70⟩ := fun h => if_neg h
  generalize scanF st M = SF at *
  obtain ⟨mk, ms, mc, mr, mq, mo, mb⟩ := M
  dsimp only at *
  have HX := hideIt (And.intro x0 (And.intro y0 (And.intro ybb (And.intro hl (And.intro hh (And.intro hA hB))))))
  have HF1 := hideIt hF1
  have HF2 := hideIt hF2
  have HN := hideIt (y.bn)
  clear x0 y0 ybb hl hh hA hB hF1 hF2 x y
  rw [HV.out]
  clear HV
  generalize hs1 : ms.length = n1 at *
  generalize hs2 : mo.length = n2 at *
  generalize hs3 : mb.length = n at *
  have HL := hideIt hs3
  clear hs1 hs2 hs3
  go_enter Tryz.func46, Tryz.ntmps46
  go_wp2_with fail
  go_loopw [15] (fun i W => ∃ k : Nat, k ≤ n ∧ i = .int .i64 k ∧ (mb.take k).all (hasO st.objs) = true ∧ After w0 W) (fun i _ => n - (intOf i).toNat)
  case atStart => exact ⟨0, Nat.zero_le _, rfl, rfl, After.rfl⟩
  case round =>
    obtain ⟨k, hk, rfl, hall, hA⟩ := hrel
    obtain ⟨x0, y0, ybb, hl, hh, hA0, hB⟩ := HX.out
    by_cases hlt : k < n
    · have hkn : (k : Int) < (n : Int) := by omega
      obtain ⟨b, off, z, rfl, hb, hz, c0, c1, c2⟩ := y0.2 k hlt
      obtain ⟨o, ho, rfl⟩ : ∃ o, mb[k]? = some o ∧ z = o.t3 := by
        rw [List.getElem?_map] at hz
        obtain ⟨o, h1, h2⟩ := Option.map_eq_some_iff.1 hz
        exact ⟨o, h1, h2.symm⟩
      have hmem := List.mem_of_getElem? ho
      rw [← hA.cell hb] at c0 c1 c2
      unfold Bi.t3 at c0 c1 c2
      dsimp only at c0 c1 c2
      obtain ⟨w2, hw2⟩ : ∃ w2, wr.alloc (.cells #[.int .i64 o.h, .bool o.l, .int .u32 o.b] 54) = w2 := ⟨_, rfl⟩
      have a2 : After wr w2 := by rw [← hw2]; exact After.rfl.alloc _
      obtain ⟨_, ⟨e0, e1, e2⟩, _⟩ := tri_at (show w2.heap[wr.heap.size]? = some (.cells #[.int .i64 o.h, .bool o.l, .int .u32 o.b] 54 (0, 0)) by rw [← hw2]; exact new1 _ _)
      have H1 := hideIt (has_any ((x0.after hA).after a2) hs o (hh o hmem))
      have HY := hideIt (And.intro hall (And.intro hA (And.intro a2 (And.intro ho (And.intro hmem hA0)))))
      unfold Bi.val at H1
      clear hall hA x0 y0 ybb hh hA0 hB hz ho hmem a2 hb
      have hbl : b < wr.heap.size := by
        rcases Nat.lt_or_ge b wr.heap.size with h' | h'
        · exact h'
        · unfold World.cell? at c0
          simp [Array.getElem?_eq_none h'] at c0
      cases hq : hasO st.objs o with
      | true =>
        rw [hq] at H1
        go_wp2_with (go_at_call 68; refine H1.out.mono ?_; rintro e w3 ⟨rfl, h3⟩; have H3 := hideIt h3; clear h3)
        go_roundw
        case rel =>
          obtain ⟨hall, hA, a2, ho, _, _⟩ := HY.out
          exact ⟨k + 1, by omega, by go_num, all_take hall ho hq, hA.trans (a2.trans H3.out)⟩
        case measure => simp [intOf]; omega
      | false =>
        rw [hq] at H1
        go_wp2_with (go_at_call 68; refine H1.out.mono ?_; rintro e w3 ⟨rfl, h3⟩; have H3 := hideIt h3; clear h3)
        go_ret3
        obtain ⟨hall, hA, a2, ho, hmem, hA0⟩ := HY.out
        rw [HF2.out (fun h => by have := List.all_eq_true.1 h o hmem; rw [hq] at this; cases this)]
        exact ⟨⟨_, _, rfl, rfl, SmAt.nil _ _⟩, hA0.trans (hA.trans (a2.trans H3.out))⟩
    · obtain rfl : k = n := by omega
      have hkn : ¬ (k : Int) < (k : Int) := by omega
      have hmk := makeS k hl
      have hml := HL.out
      rw [List.take_of_length_le (by omega)] at hall
      have HE := hideIt (HF1.out hall)
      obtain ⟨q0, ⟨_, _, _, _, _, _, p6⟩, _⟩ := seven_at (keep3 hB hA)
      have HY := hideIt (And.intro hA (And.intro hA0 (And.intro y0 (And.intro ybb (And.intro hB hml)))))
      clear hA hA0 y0 ybb hB hall x0 hh HF1 HF2 HX hlt hml q0 k6
      have c6 : (wr.alloc (.cells (cells4 ((List.replicate k smZ).map Sm.t4)).toArray 69)).cell? ⟨w.heap.size, 6, none⟩ = some (.slice ba k bc) := by
        obtain ⟨hA, _, _, _, hB, _⟩ := HY.out
        obtain ⟨_, ⟨_, _, _, _, _, _, p6'⟩, _⟩ := seven_at (keep3 hB (hA.trans (After.rfl.alloc (.cells (cells4 ((List.replicate k smZ).map Sm.t4)).toArray 69))))
        exact p6'
      have HM := hideIt (new1 wr (.cells (cells4 ((List.replicate k smZ).map Sm.t4)).toArray 69))
      have HMA := hideIt (show After wr (wr.alloc (.cells (cells4 ((List.replicate k smZ).map Sm.t4)).toArray 69)) from After.rfl.alloc _)
      obtain ⟨wm, hwm⟩ : ∃ wm, wr.alloc (.cells (cells4 ((List.replicate k smZ).map Sm.t4)).toArray 69) = wm := ⟨_, rfl⟩
      rw [hwm] at c6 HM HMA
      have hmk' : (Instr.makeSlice 33 (.int .i64 (k : Int)) (.int .i64 (k : Int))).run Tryz.prog wr = .ok (.slice (some ⟨wr.heap.size, 0, none⟩) k k) wm := by rw [← hwm]; exact hmk wr
      clear hmk hwm
      have HS := hideIt (show w.heap.size ≤ wr.heap.size from by have := HY.out.1.size; have := HY.out.2.1.size; omega)
      generalize hgb : wr.heap.size = gb at *
      have HG := hideIt hgb
      clear hgb
      go_wp2_with fail
      go_loopw [31] (fun i W => ∃ j : Nat, j ≤ k ∧ i = .int .i64 j ∧ W.heap[gb]? = some (.cells (cells4 (((mb.take j).map smOf ++ List.replicate (k - j) smZ).map Sm.t4)).toArray 69 (0, 0)) ∧ But (One gb) wm W) (fun i _ => k - (intOf i).toNat)
      case atStart => exact ⟨0, Nat.zero_le _, rfl, HM.out, But.rfl⟩
      case round =>
        obtain ⟨j, hj, rfl, hblk, hbut⟩ := hrel
        obtain ⟨hA, hA0, y0, ybb, hB, hml⟩ := HY.out
        have hsg := hA.size
        rw [HG.out] at hsg
        by_cases hlt : j < k
        · have hjk : (j : Int) < (k : Int) := by omega
          obtain ⟨b, off, z, rfl, hb, hz, c0, c1, c2⟩ := y0.2 j hlt
          obtain ⟨o, ho, rfl⟩ : ∃ o, mb[j]? = some o ∧ z = o.t3 := by
            rw [List.getElem?_map] at hz
            obtain ⟨o, h1, h2⟩ := Option.map_eq_some_iff.1 hz
            exact ⟨o, h1, h2.symm⟩
          have hmem := List.mem_of_getElem? ho
          have BW : But (One gb) w0 wr := (hA.but.trans HMA.out.but).trans hbut
          have hnb : ¬ One gb b := fun e => by cases e; omega
          rw [← BW.cell hb hnb] at c0 c1 c2
          unfold Bi.t3 at c0 c1 c2
          dsimp only at c0 c1 c2
          have hbl : b < wr.heap.size := Nat.lt_of_lt_of_le hb BW.size
          have hgl : gb < wr.heap.size := (Array.getElem?_eq_some_iff.1 hblk).1
          obtain ⟨w2, hw2⟩ : ∃ w2, wr.alloc (.cells #[.int .i64 o.h, .bool o.l, .int .u32 o.b] 54) = w2 := ⟨_, rfl⟩
          have a2 : After wr w2 := by rw [← hw2]; exact After.rfl.alloc _
          obtain ⟨_, ⟨e0, e1, e2⟩, _⟩ := tri_at (show w2.heap[wr.heap.size]? = some (.cells #[.int .i64 o.h, .bool o.l, .int .u32 o.b] 54 (0, 0)) by rw [← hw2]; exact new1 _ _)
          have H1 := hideIt (sampleOf_any w2 o (ybb o hmem))
          have hset : (((mb.take j).map smOf ++ List.replicate (k - j) smZ).map Sm.t4).set j (smOf o).t4 = ((mb.take (j + 1)).map smOf ++ List.replicate (k - (j + 1)) smZ).map Sm.t4 := by
            have hlen : ((mb.take j).map smOf).length = j := by rw [List.length_map, List.length_take]; omega
            have hrep : List.replicate (k - j) smZ = smZ :: List.replicate (k - (j + 1)) smZ := by
              rw [show k - j = (k - (j + 1)) + 1 by omega]; rfl
            rw [hrep, List.take_add_one, ho, List.map_append, List.map_append, List.map_append, List.map_append]
            rw [List.set_append_right _ _ (by rw [List.length_map, hlen]; exact Nat.le_refl _), List.length_map, hlen, Nat.sub_self]
            simp
          have HQ := hideIt (And.intro hblk (And.intro hbut (And.intro a2 hset)))
          unfold Bi.val at H1
          clear hblk hbut a2 hset hA hA0 y0 ybb hB hz ho hmem BW hnb hb hml c6 p6
          generalize smOf o = s at *
          obtain ⟨sh, sk, sm, se⟩ := s
          unfold Sm.val at H1
          dsimp only at H1
          go_wp2_with fail
          refine H1.out.mono ?_
          rintro e w3 ⟨rfl, a3⟩
          obtain ⟨hblk, hbut, a2, hset⟩ := HQ.out
          have q3 := keep3 hblk (a2.trans a3)
          obtain ⟨t, ht⟩ : ∃ t, (((mb.take j).map smOf ++ List.replicate (k - j) smZ).map Sm.t4)[j]? = some t := by
            have hh := HL.out
            exact ⟨_, List.getElem?_eq_getElem (by rw [List.length_map, List.length_append, List.length_map, List.length_take, List.length_replicate]; omega)⟩
          obtain ⟨t0, t1, t2, t3⟩ := cells4_at _ j t ht
          rw [← cell_blk q3] at t0 t1 t2 t3
          have z0 := frozen_blk q3 (j * 4)
          have z1 := frozen_blk q3 (j * 4 + 1)
          have z2 := frozen_blk q3 (j * 4 + 2)
          have z3 := frozen_blk q3 (j * 4 + 3)
          have hg3 : gb < w3.heap.size := (Array.getElem?_eq_some_iff.1 q3).1
          have HZ := hideIt (And.intro q3 (And.intro hset ((hbut.trans a2.but).trans a3.but)))
          obtain ⟨u0, u1, u2, u3⟩ := t
          dsimp only at t0 t1 t2 t3
          clear q3 hset hbut a2 a3 hblk HQ ht H1 e0 e1 e2 c0 c1 c2 hw2
          go_wp2_with fail
          go_roundw
          case rel =>
            obtain ⟨q3, hset, hb3⟩ := HZ.out
            have q4 := blk_set4 (i := j) q3 (.int .i64 sh) (.int .i64 sk) (.int .i64 sm) (.int .i64 se)
            rw [show ((Value.int .i64 sh, Value.int .i64 sk, Value.int .i64 sm, Value.int .i64 se) : T4) = Sm.t4 ⟨sh, sk, sm, se⟩ from rfl, hset] at q4
            exact ⟨j + 1, by omega, by go_num, q4, hb3.trans ((((but_one _ gb _ _).trans (but_one _ gb _ _)).trans (but_one _ gb _ _)).trans (but_one _ gb _ _))⟩
          case measure => simp [intOf]; omega
        · obtain rfl : j = k := by omega
          have hjk : ¬ (j : Int) < (j : Int) := by omega
          rw [Nat.sub_self, List.replicate_zero, List.append_nil, List.take_of_length_le (by omega)] at hblk
          have HQ := hideIt (And.intro hblk (And.intro hbut (And.intro hA (And.intro hA0 hml))))
          clear hblk hbut hA hA0 hml y0 ybb hB c6 p6
          go_wp2_with fail
          go_ret3
          obtain ⟨hblk, hbut, hA, hA0, hml⟩ := HQ.out
          have hrow := rowQ_of hblk
          refine ⟨?_, ((hA0.trans hA).trans HMA.out).but.then hbut (fun i hi e => by cases e; exact absurd hi (by have := HS.out; omega))⟩
          rw [HE.out]
          have hlen : (mb.map smOf).length = j := by rw [List.length_map, hml]
          exact ⟨_, _, rfl, rfl, some ⟨gb, 0, none⟩, j, by rw [hlen]; rfl, hrow, (fun h => by cases h), fun y hy => by cases hy; exact HS.out⟩
end Go.Proofs.YthcfdoafncbliaaGreat
/-
  The steps of package assoc, and which one a message leads to.
-/
namespace Go.Proofs.YthcfdoafncbliaaGreat
open Go.RowKit Go.Maps
set_option maxRecDepth 8000
/-- All that is behind a step: the manager, what is answered, the world. -/
def Steps (w w' : World) (P : Nat → Prop) (g : Nat) (e : Ending) (o : Out) : Prop := Says w w' e o ∧ MgAt w' (fun k => P k ∨ w.heap.size ≤ k) g o.st ∧ But (One g) w w'
theorem leave_then {w w' : World} {P : Nat → Prop} {g : Nat} (hg : P g) (h : w'.heap[g]? = some (.cells newC 51 (0, 0))) : MgAt w' (fun k => P k ∨ w.heap.size ≤ k) g Mg.new := mg_new h (.inl hg)
theorem aborted_any {w : World} {P : Nat → Prop} {g : Nat} {st : Mg} (x : MgAt w P g st) (x0 x1 x2 x3 x4 x5 x6 : Value) :
    Calls Tryz.prog 43 #[Ptr g, .agg #[x0, x1, x2, x3, x4, x5, x6]] w fun e w' => Steps w w' P g e abtF := by
  obtain ⟨w0, hw0⟩ : ∃ w0, w.alloc (.cells #[x0, x1, x2, x3, x4, x5, x6] 31) = w0 := ⟨_, rfl⟩
  have hA : After w w0 := by rw [← hw0]; exact After.rfl.alloc _
  have hP : P g := by obtain ⟨_, _, _, x⟩ := x; exact x.gp
  have H1 := hideIt (mgLeave_any (x.after hA))
  have HX := hideIt (And.intro hA hP)
  clear hA x hP
  go_enter Tryz.func43, Tryz.ntmps43
  go_wp2_with (go_at_call 65; refine H1.out.mono ?_; rintro e w1 ⟨rfl, h1⟩; have H2 := hideIt h1; clear h1)
  go_ret3
  exact ⟨⟨_, _, rfl, rfl, SmAt.nil _ _⟩, leave_then HX.out.2 H2.out.1, HX.out.1.but.trans H2.out.2⟩
theorem breakOff_any {w : World} {P : Nat → Prop} {g : Nat} {st : Mg} (x : MgAt w P g st) (x0 x1 x2 x3 x4 x5 x6 : Value) :
    Calls Tryz.prog 48 #[Ptr g, .agg #[x0, x1, x2, x3, x4, x5, x6]] w fun e w' => Steps w w' P g e brk := by
  obtain ⟨w0, hw0⟩ : ∃ w0, w.alloc (.cells #[x0, x1, x2, x3, x4, x5, x6] 31) = w0 := ⟨_, rfl⟩
  have hA : After w w0 := by rw [← hw0]; exact After.rfl.alloc _
  have hP : P g := by obtain ⟨_, _, _, x⟩ := x; exact x.gp
  have H1 := hideIt (mgLeave_any (x.after hA))
  have HX := hideIt (And.intro hA hP)
  have HO := hideIt (fun W => mgOne_any W ⟨58880, 0, 0, 0⟩)
  unfold An.cells at HO
  dsimp only at HO
  clear hA x hP
  go_enter Tryz.func48, Tryz.ntmps48
  go_wp2_with (first | (go_at_call 65; refine H1.out.mono ?_; rintro e w1 ⟨rfl, h1⟩; have H2 := hideIt h1; clear h1) | (go_at_call 66; refine (HO.out _).mono ?_; rintro e w2 ⟨v, rfl, h2⟩; have H3 := hideIt h2; clear h2))
  go_ret3
  obtain ⟨hA, hP⟩ := HX.out
  obtain ⟨h3, a3⟩ := H3.out
  exact ⟨⟨_, _, rfl, h3.mono (by have := hA.size; have := H2.out.2.size; omega), SmAt.nil _ _⟩, leave_then hP (keep3 H2.out.1 a3), (hA.but.trans H2.out.2).trans a3.but⟩
theorem released_any {w : World} {P : Nat → Prop} {g : Nat} {st : Mg} (x : MgAt w P g st) (x0 x1 x2 x3 x5 x6 : Value) (r : Int) (M : Msg) (hM : M.reason = r) :
    Calls Tryz.prog 47 #[Ptr g, .agg #[x0, x1, x2, x3, .int .i64 r, x5, x6]] w fun e w' => Steps w w' P g e (relF M) := by
  have HF : Hid (relF M = ⟨Mg.new, some ⟨58624, 0, 0, r⟩, [], 0⟩) := by rw [← hM]; exact rfl
  obtain ⟨w0, hw0⟩ : ∃ w0, w.alloc (.cells #[x0, x1, x2, x3, .int .i64 r, x5, x6] 31) = w0 := ⟨_, rfl⟩
  have hA : After w w0 := by rw [← hw0]; exact After.rfl.alloc _
  have hB : w0.heap[w.heap.size]? = some (.cells #[x0, x1, x2, x3, .int .i64 r, x5, x6] 31 (0, 0)) := by rw [← hw0]; exact new1 _ _
  have hP : P g ∧ g < w.heap.size := by obtain ⟨_, _, _, x⟩ := x; exact ⟨x.gp, x.lt⟩
  have H1 := hideIt (mgLeave_any (x.after hA))
  have HX := hideIt (And.intro hA (And.intro hB hP))
  have HO := hideIt (fun W => mgOne_any W ⟨58624, 0, 0, r⟩)
  unfold An.cells at HO
  dsimp only at HO
  clear hA x hP hB hM
  go_enter Tryz.func47, Tryz.ntmps47
  go_wp2_with fail
  refine H1.out.mono ?_
  rintro e w1 ⟨rfl, h1⟩
  obtain ⟨hA, hB, hP, hlt⟩ := HX.out
  obtain ⟨_, ⟨_, _, _, _, k4, _, _⟩, _⟩ := seven_at ((h1.2.block _ (Array.getElem?_eq_some_iff.1 hB).1 (fun e => by have e' : w.heap.size = g := e; omega)).trans hB)
  have H2 := hideIt h1
  clear h1 H1 hA hB hP hlt
  go_wp2_with (go_at_call 66; refine (HO.out _).mono ?_; rintro e w2 ⟨v, rfl, h2⟩; have H3 := hideIt h2; clear h2)
  go_ret3
  obtain ⟨hA, _, hP, _⟩ := HX.out
  obtain ⟨h3, a3⟩ := H3.out
  rw [HF.out]
  exact ⟨⟨_, _, rfl, h3.mono (by have := hA.size; have := H2.out.2.size; omega), SmAt.nil _ _⟩, leave_then hP (keep3 H2.out.1 a3), (hA.but.trans H2.out.2).trans a3.but⟩
end Go.Proofs.YthcfdoafncbliaaGreat
/-
  asked and configured of package assoc.
-/
namespace Go.Proofs.YthcfdoafncbliaaGreat
open Go.RowKit Go.Maps
set_option maxRecDepth 8000
set_option maxHeartbeats 1000000 in
theorem asked_any {w : World} {P : Nat → Prop} {g : Nat} {st : Mg} (x : MgAt w P g st) (hs : st.state = 0) (x0 x1 x3 x4 x5 x6 : Value) (c : Int) (M : Msg) (hM : M.config = c) :
    Calls Tryz.prog 44 #[Ptr g, .agg #[x0, x1, .int .i64 c, x3, x4, x5, x6]] w fun e w' => Steps w w' P g e (askF st M) := by
  obtain ⟨w0, hw0⟩ : ∃ w0, w.alloc (.cells #[x0, x1, .int .i64 c, x3, x4, x5, x6] 31) = w0 := ⟨_, rfl⟩
  have hA : After w w0 := by rw [← hw0]; exact After.rfl.alloc _
  have hB : w0.heap[w.heap.size]? = some (.cells #[x0, x1, .int .i64 c, x3, x4, x5, x6] 31 (0, 0)) := by rw [← hw0]; exact new1 _ _
  obtain ⟨_, ⟨_, _, k2, _, _, _, _⟩, _⟩ := seven_at hB
  by_cases hc : c = 0
  · subst hc
    have HF : Hid (askF st M = ⟨st, some ⟨58112, 0, 1, 0⟩, [], 0⟩) := if_pos hM
    have HO := hideIt (fun W => mgOne_any W ⟨58112, 0, 1, 0⟩)
    unfold An.cells at HO
    dsimp only at HO
    have HX := hideIt (And.intro x hA)
    clear x hA hB hM hs
    go_enter Tryz.func44, Tryz.ntmps44
    go_wp2_with (go_at_call 66; refine (HO.out _).mono ?_; rintro e w2 ⟨v, rfl, h2⟩; have H3 := hideIt h2; clear h2)
    go_ret3
    obtain ⟨x, hA⟩ := HX.out
    obtain ⟨h3, a3⟩ := H3.out
    rw [HF.out]
    exact ⟨⟨_, _, rfl, h3.mono (by have := hA.size; omega), SmAt.nil _ _⟩, (x.after (hA.trans a3)).mono (fun k h => .inl h), (hA.trans a3).but⟩
  · have HF : Hid (askF st M = ⟨⟨1, c, []⟩, some ⟨58112, c, 3, 0⟩, [], 0⟩) := by unfold askF; rw [hM, if_neg hc]; rfl
    have hcb : (c == 0) = false := by simpa using hc
    have HO := hideIt (fun W => mgOne_any W ⟨58112, c, 3, 0⟩)
    unfold An.cells at HO
    dsimp only at HO
    obtain ⟨oa, oc, pv, x⟩ := x
    have ho : st.objs = [] := x.no (by rw [hs]; decide)
    obtain ⟨s0, s1, s2⟩ := st
    dsimp only at ho
    subst ho
    have x0' := x.but (S := Non) hA (fun _ _ t => t)
    obtain ⟨hgl, ⟨d0, d1, d2, d3, d4⟩, f0, f1, f2, f3, f4⟩ := five_at x0'.at0
    have hne : g ≠ w.heap.size := by have := x.lt; omega
    have hne' : w.heap.size ≠ g := fun e => hne e.symm
    have HX := hideIt (And.intro x (And.intro x0' (And.intro hA hB)))
    clear x x0' hA hB hM hs hc
    go_enter Tryz.func44, Tryz.ntmps44
    go_wp2_with fail
    go_region
    obtain ⟨W1, hW1⟩ : ∃ W1, ((w0.setCell ⟨g, 1, none⟩ (.int .i64 1)).setCell ⟨g, 2, none⟩ (.int .i64 c)).drew = W1 := ⟨_, rfl⟩
    obtain ⟨x, x1', hA, hB⟩ := HX.out
    have B1 : But (One g) w0 W1 := by rw [← hW1]; exact (((but_one w0 g 1 _).trans (but_one _ g 2 _))).drew
    have G1 : W1.heap[g]? = some (.cells #[.bool true, .int .i64 1, .int .i64 c, .slice oa 0 oc, pv] 51 (0, 0)) := by
      rw [← hW1]
      exact (blk_setA (i := 2) (blk_setA (i := 1) x1'.at0 (.int .i64 1)) (.int .i64 c)).trans rfl
    obtain ⟨_, ⟨_, _, m2, _, _, _, _⟩, _⟩ := seven_at ((B1.block _ (Array.getElem?_eq_some_iff.1 hB).1 hne').trans hB)
    rw [hW1]
    have HY := hideIt (And.intro B1 G1)
    clear hW1 B1 G1 x x1' hA hB k2 d0 d1 d2 d3 d4 f0 f1 f2 f3 f4
    go_wp2_with (go_at_call 66; refine (HO.out _).mono ?_; rintro e w2 ⟨v, rfl, h2⟩; have H3 := hideIt h2; clear h2)
    go_ret3
    obtain ⟨x, x1', hA, hB⟩ := HX.out
    obtain ⟨B1, G1⟩ := HY.out
    obtain ⟨h3, a3⟩ := H3.out
    rw [HF.out]
    exact ⟨⟨_, _, rfl, h3.mono (by have := hA.size; have := B1.size; omega), SmAt.nil _ _⟩, ⟨oa, oc, pv, keep3 G1 a3, .inl x.gp, RowT.nil _ _, x.on, (fun y hy h0 => absurd h0 (Nat.lt_irrefl 0)), Nat.zero_le _, List.Pairwise.nil, (fun h => by cases h), .inr (.inl rfl), fun _ => rfl⟩, (hA.but.trans B1).trans a3.but⟩
set_option maxHeartbeats 1000000 in
theorem configured_any {w : World} {P T : Nat → Prop} {g : Nat} {st : Mg} (x : MgAt w P g st) (_hs : st.state = 1) (M : Msg) (sa : Option Addr) (sc : Nat) (oa : Option Addr) (oc : Nat) (ba : Option Addr) (bc : Nat) (y : MsgX w T M sa sc oa oc ba bc) (hT : ¬ T g) (hl : M.objs.length ≤ 16) (hp : M.objs.Pairwise (fun a b => a.h ≠ b.h)) (hh : ∀ o ∈ M.objs, 0 ≤ o.h ∧ o.h ≤ 65535) :
    Calls Tryz.prog 45 #[Ptr g, M.val sa sc oa oc ba bc] w fun e w' => Steps w w' P g e (cfgF st M) := by
  obtain ⟨w0, hw0⟩ : ∃ w0, w.alloc (.cells #[.int .i64 M.kind, .slice sa M.sys.length sc, .int .i64 M.config, .int .i64 M.result, .int .i64 M.reason, .slice oa M.objs.length oc, .slice ba M.obs.length bc] 31) = w0 := ⟨_, rfl⟩
  have hA : After w w0 := by rw [← hw0]; exact After.rfl.alloc _
  have hB : w0.heap[w.heap.size]? = some (.cells #[.int .i64 M.kind, .slice sa M.sys.length sc, .int .i64 M.config, .int .i64 M.result, .int .i64 M.reason, .slice oa M.objs.length oc, .slice ba M.obs.length bc] 31 (0, 0)) := by rw [← hw0]; exact new1 _ _
  obtain ⟨_, ⟨_, _, k2, _, _, k5, _⟩, _⟩ := seven_at hB
  have x0 := x.after hA
  have H1 := hideIt (fun W (aW : After w W) => operate_any (x.after aW) oa M.objs.length oc M.objs (y.after aW).or y.on hl (fun z hz h0 e => hT (by rw [← e]; exact y.op z hz h0)) hp hh)
  have HV := hideIt (show M.val sa sc oa oc ba bc = .agg #[.int .i64 M.kind, .slice sa M.sys.length sc, .int .i64 M.config, .int .i64 M.result, .int .i64 M.reason, .slice oa M.objs.length oc, .slice ba M.obs.length bc] from rfl)
  have hF1 : M.config = st.config → cfgF st M = ⟨⟨2, 0, M.objs⟩, some ⟨3357, M.config, 0, 0⟩, [], 0⟩ := fun h => if_pos h
  have hF2 : ¬ M.config = st.config → cfgF st M = ⟨st, some ⟨3357, M.config, 1, 0⟩, [], 0⟩ := fun h => if_neg h
  generalize cfgF st M = SF at *
  obtain ⟨mk, ms, c, mr, mq, mo, mb⟩ := M
  dsimp only at *
  have xx := x0
  obtain ⟨ma, mc, pv, xx⟩ := xx
  obtain ⟨hgl, ⟨_, _, d2, _, _⟩, _⟩ := five_at xx.at0
  have hgw : g < w.heap.size := by obtain ⟨_, _, _, x⟩ := x; exact x.lt
  have HX := hideIt (And.intro x (And.intro x0 (And.intro hA (And.intro hB hgw))))
  have HF1 := hideIt hF1
  have HF2 := hideIt hF2
  rw [HV.out]
  clear x x0 xx hA hB y hl hp hh hF1 hF2 HV _hs hT hgw
  generalize ms.length = n1 at *
  generalize mo.length = n2 at *
  generalize mb.length = n3 at *
  obtain ⟨s0, sc0, s2⟩ := st
  dsimp only at *
  by_cases hc : c = sc0
  · subst hc
    have hcb : (c != c) = false := by simp
    have HO := hideIt (fun W => mgOne_any W ⟨3357, c, 0, 0⟩)
    unfold An.cells at HO
    dsimp only at HO
    have HE := hideIt (HF1.out rfl)
    go_enter Tryz.func45, Tryz.ntmps45
    go_wp2_with fail
    go_quiet (fail)
    obtain ⟨W1, hW1⟩ : ∃ W1, w0.drewN nq = W1 := ⟨_, rfl⟩
    have A1 : After w0 W1 := by rw [← hW1]; exact After.rfl.draws _
    rw [hW1]
    obtain ⟨x, x0, hA, hB, hgw⟩ := HX.out
    have B1 := keep3 hB A1
    clear k2 k5 d2 hW1
    obtain ⟨_, ⟨_, _, k2, _, _, k5, _⟩, _⟩ := seven_at B1
    have H2 := hideIt (H1.out W1 (hA.trans A1))
    have HY := hideIt (And.intro x (And.intro (hA.trans A1) (And.intro B1 hgw)))
    clear H1 x x0 hA hB hgw A1 B1 HX
    go_wp2_with fail
    refine H2.out.mono ?_
    rintro e w2 ⟨rfl, h2, b2⟩
    obtain ⟨x, hA, hB, hgw⟩ := HY.out
    clear k2 k5
    obtain ⟨_, ⟨_, _, k2, _, _, k5, _⟩, _⟩ := seven_at ((b2.block _ (Array.getElem?_eq_some_iff.1 hB).1 (fun e => by have e' : w.heap.size = g := e; omega)).trans hB)
    have HZ := hideIt (And.intro h2 b2)
    clear h2 b2 x hA hB hgw H2
    go_wp2_with (go_at_call 66; refine (HO.out _).mono ?_; rintro e w3 ⟨v, rfl, h3⟩; have H3 := hideIt h3; clear h3)
    go_ret3
    obtain ⟨x, hA, hB, hgw⟩ := HY.out
    obtain ⟨h2, b2⟩ := HZ.out
    obtain ⟨h3, a3⟩ := H3.out
    rw [HE.out]
    have hP : P g := by obtain ⟨_, _, _, x⟩ := x; exact x.gp
    exact ⟨⟨_, _, rfl, h3.mono (by have := hA.size; have := b2.size; omega), SmAt.nil _ _⟩, (h2.after a3).mono (fun k hk => by rcases hk with rfl | hk; exact .inl hP; exact .inr (Nat.le_trans hA.size hk)), (hA.but.trans b2).trans a3.but⟩
  · have hcb : (c != sc0) = true := by simpa using hc
    have HO := hideIt (fun W => mgOne_any W ⟨3357, c, 1, 0⟩)
    unfold An.cells at HO
    dsimp only at HO
    have HE := hideIt (HF2.out hc)
    clear H1
    go_enter Tryz.func45, Tryz.ntmps45
    go_wp2_with fail
    go_quiet (fail)
    obtain ⟨W1, hW1⟩ : ∃ W1, w0.drewN nq = W1 := ⟨_, rfl⟩
    have A1 : After w0 W1 := by rw [← hW1]; exact After.rfl.draws _
    rw [hW1]
    obtain ⟨x, x0, hA, hB, hgw⟩ := HX.out
    have B1 := keep3 hB A1
    clear k2 k5 d2 hW1
    obtain ⟨_, ⟨_, _, k2, _, _, k5, _⟩, _⟩ := seven_at B1
    have HY := hideIt (And.intro x (hA.trans A1))
    clear x x0 hA hB hgw A1 B1 HX
    go_wp2_with (go_at_call 66; refine (HO.out _).mono ?_; rintro e w3 ⟨v, rfl, h3⟩; have H3 := hideIt h3; clear h3)
    go_ret3
    obtain ⟨x, hA⟩ := HY.out
    obtain ⟨h3, a3⟩ := H3.out
    rw [HE.out]
    exact ⟨⟨_, _, rfl, h3.mono (by have := hA.size; omega), SmAt.nil _ _⟩, (x.after (hA.trans a3)).mono (fun k h => .inl h), (hA.trans a3).but⟩
end Go.Proofs.YthcfdoafncbliaaGreat
