/-
  Laid together: RgE, CopyF.
-/
import Derived.Test.YthcfdoafncbliaaGreatB26
import Derived.Test.YthcfdoafncbliaaGreatB27
import Derived.Deep.Cut
import Derived.Maps.AppendAt
import Derived.Test.YthcfdoafncbliaaGreatB20
import Derived.Test.YthcfdoafncbliaaGreatB09
/-
  The document's Handle: a configuration that is taken; all ways.
-/
namespace Go.Proofs.YthcfdoafncbliaaGreat
open Go.RowKit Go.Maps
set_option maxRecDepth 8000
/-- Appended to none. -/
theorem wp_app_objs {w : World} {o : Oper} {act : Act} {K : Act → World → Prop} {Q : Exit → Act → World → Prop} (s x : Operand)
    (ho : o.op = .call { callee := .builtin .append, args := #[s, x], argTypes := #[28, 28] }) (hs : act.eval s = .slice none 0 0)
    (a : Option Addr) (m c : Nat) (l : List Ob) (hx : act.eval x = .slice a m c) (hr : RowT w a m (l.map Ob.t3)) (ha : a = none → m = 0 ∧ c = 0) (hb : m * 24 ≤ 140737488355328)
    (h : ∀ a' c' w', RowT w' a' m (l.map Ob.t3) → (a' = none → m = 0 ∧ c' = 0) → (∀ y, a' = some y → w.heap.size ≤ y.block) → After w w' → K (act.put o.dst (.slice a' m c')) w') :
    Oper.wp Tryz.prog o act w K Q := by
  obtain ⟨i0, hi, hz0, hz1, hz2⟩ := info_parts Tryz.info46
  unfold Oper.wp execOp
  cases a with
  | none =>
    obtain ⟨rfl, rfl⟩ := ha rfl
    have hrun := run_append_owned_none (P := Tryz.prog) (w := w) w.heap.size 28 o.type 46 i0 3 Tryz.underlying28 hi (.slice none 0 0) 0 [] (World.ownsRow_nil _ _ _ _)
    simp only [ho, resolve, invoke, builtin, Sem.run_bind, Sem.run_pure, Result.andThen_ok, List.map_toArray, List.map_cons, List.map_nil, hs, hx, hrun]
    exact h none 0 w hr (fun _ => ⟨rfl, rfl⟩) (fun y hy => by cases hy) After.rfl
  | some ad =>
    have hl1 : (cells3 (l.map Ob.t3)).length = m * 3 := by rw [cells3_length, hr.1]
    obtain ⟨v', w', hrun, h1, h2, _, _⟩ := run_append_own_at (P := Tryz.prog) w w.heap.size 28 o.type 46 i0 (.agg #[.int .i64 0, .int .i64 0, .bool false]) 3 24 Tryz.underlying28 hi hz0 hz1 hz2 rfl (by decide) (.slice none 0 0) 0 [] (World.ownsRow_nil _ _ _ _) ad m c (cells3 (l.map Ob.t3)) hl1 (rowT_news hr) (cells3_one (fun y hy => by obtain ⟨o, _, rfl⟩ := List.mem_map.1 hy; exact o.one3)) (by unfold maxLen; omega) (by omega) (Nat.le_refl _)
    simp only [ho, resolve, invoke, builtin, Sem.run_bind, Sem.run_pure, Result.andThen_ok, List.map_toArray, List.map_cons, List.map_nil, hs, hx, hrun]
    rw [Nat.zero_add, List.nil_append] at h1
    obtain ⟨a', c', rfl, r1, r2, r3⟩ := own_rowT h1
    exact h a' c' w' r1 r2 r3 (But.grown After.rfl h2 (fun k hk => by cases hk))
theorem wp_store_objs {w : World} {o : Oper} {a : Act} {K : Act → World → Prop} {Q : Exit → Act → World → Prop} {x y : Operand} {g i : Nat} {p : Option Addr} {n c : Nat} {u : Value} (ho : o.op = .store 28 x y) (hd : o.dst = none) (hx : a.eval x = .pointer (some ⟨g, i, none⟩)) (hy : a.eval y = .slice p n c) (hc : w.cell? ⟨g, i, none⟩ = some u) (hf : w.frozen? ⟨g, i, none⟩ = false) (h : K a (w.setCell ⟨g, i, none⟩ (.slice p n c))) : Oper.wp Tryz.prog o a w K Q := by
  unfold Oper.wp execOp
  simp only [ho, hx, hy]
  simp [go_sem, hc, hf, Oper.upon, hd]
  exact h
theorem field_msg5 (w : World) (g : Nat) : (Instr.fieldAt 31 (Ptr g) 5).run Tryz.prog w = .ok (.pointer (some ⟨g, 5, none⟩)) w := by
  unfold Ptr
  simp [go_sem]
/-- What the slots of the document's 'm.Objects = append(m.Objects, a.Objects...)' hold. -/
def t18 (B n : Nat) (l : List T3) (vals : List Value) (i : Nat) (v : Value) (w : World) : Prop := if i = 7 then ∃ a c, v = .slice a n c ∧ RowT w a n l ∧ (a = none → n = 0 ∧ c = 0) ∧ ∀ y, a = some y → B ≤ y.block else v = vals.getD i undef
theorem t18_after {B n : Nat} {l : List T3} {vals : List Value} {i : Nat} {v : Value} {w w' : World} (h : t18 B n l vals i v w) (hA : After w w') : t18 B n l vals i v w' := by
  unfold t18 at h ⊢
  split at h
  · rename_i e
    rw [if_pos e]
    obtain ⟨a1, c1, e1, r1, r2⟩ := h
    exact ⟨a1, c1, e1, r1.after hA, r2⟩
  · rename_i e
    rw [if_neg e]
    exact h
/-- The frame of the document's Handle. -/
def Hf (g gm : Nat) (a : Act) : Prop := a.tmps.size = 131 ∧ a.defers = [] ∧ a.tmps.getD 0 undef = Ptr g ∧ a.tmps.getD 3 undef = Ptr gm
theorem Hf.put {g gm : Nat} {a : Act} {s : Nat} {v : Value} (h : Hf g gm a) (hs : 3 < s ∧ s < 131) : Hf g gm (a.put (some s) v) := by
  obtain ⟨h1, h2, h3, h4⟩ := h
  have hz : s < a.tmps.size := by omega
  refine ⟨by show (a.tmps.setIfInBounds s v).size = 131; rw [Array.size_setIfInBounds]; exact h1, h2, ?_, ?_⟩
  all_goals
    rw [getD_put hz, if_neg (by omega)]
    assumption
set_option maxRecDepth 100000 in
theorem Hf.lit {g gm : Nat} {a : Act} (h : Hf g gm a) : ∃ u : Nat → Value, a = ⟨#[Ptr g, u 1, u 2, Ptr gm, u 4, u 5, u 6, u 7, u 8, u 9, u 10, u 11, u 12, u 13, u 14, u 15, u 16, u 17, u 18, u 19, u 20, u 21, u 22, u 23, u 24, u 25, u 26, u 27, u 28, u 29, u 30, u 31, u 32, u 33, u 34, u 35, u 36, u 37, u 38, u 39, u 40, u 41, u 42, u 43, u 44, u 45, u 46, u 47, u 48, u 49, u 50, u 51, u 52, u 53, u 54, u 55, u 56, u 57, u 58, u 59, u 60, u 61, u 62, u 63, u 64, u 65, u 66, u 67, u 68, u 69, u 70, u 71, u 72, u 73, u 74, u 75, u 76, u 77, u 78, u 79, u 80, u 81, u 82, u 83, u 84, u 85, u 86, u 87, u 88, u 89, u 90, u 91, u 92, u 93, u 94, u 95, u 96, u 97, u 98, u 99, u 100, u 101, u 102, u 103, u 104, u 105, u 106, u 107, u 108, u 109, u 110, u 111, u 112, u 113, u 114, u 115, u 116, u 117, u 118, u 119, u 120, u 121, u 122, u 123, u 124, u 125, u 126, u 127, u 128, u 129, u 130], []⟩ := by
  obtain ⟨t, d⟩ := a
  obtain ⟨h1, h2, h3, h4⟩ := h
  dsimp only at h1 h2 h3 h4
  subst h2
  refine ⟨fun i => t.getD i undef, ?_⟩
  rw [← h3, ← h4]
  have e : t = ((List.range 131).map (fun i => t.getD i undef)).toArray := by
    apply Array.ext
    · simp [h1]
    · intro i h1 h2
      simp [Array.getD, h1]
  refine congrArg (fun t' => Act.mk t' []) (e.trans ?_)
  rfl
set_option maxHeartbeats 2000000 in
theorem rg_cfg1 {w : World} {P : Nat → Prop} {g : Nat} {st : Mg} (x : RgAt w P g st) (mk mc mr mq : Int) (sa : Option Addr) (n1 sc : Nat) (oa : Option Addr) (n2 oc : Nat) (ba : Option Addr) (n3 bc : Nat) (hpk : ∀ W, After w W → Okays W (.agg #[.int .i64 mk, .slice sa n1 sc, .int .i64 mc, .int .i64 mr, .int .i64 mq, .slice oa n2 oc, .slice ba n3 bc])) (l : List Ob) (hr : RowT w oa n2 (l.map Ob.t3)) (hon : oa = none → n2 = 0 ∧ oc = 0) (hn : n2 ≤ 16) (hfar : ∀ y, oa = some y → 0 < n2 → y.block ≠ g) (hk : mk = 3356) (hs : st.state = 1) (hc : mc = st.config) :
    Calls Tryz.prog 9 #[Ptr g, .agg #[.int .i64 mk, .slice sa n1 sc, .int .i64 mc, .int .i64 mr, .int .i64 mq, .slice oa n2 oc, .slice ba n3 bc]] w fun e w' => RSteps w w' P g e ((⟨⟨2, 0, l⟩, some ⟨3357, mc, 0, 0⟩, [], 0⟩ : Out)) := by
  obtain ⟨w0, hw0⟩ : ∃ w0, w.alloc (.cells #[.int .i64 mk, .slice sa n1 sc, .int .i64 mc, .int .i64 mr, .int .i64 mq, .slice oa n2 oc, .slice ba n3 bc] 31) = w0 := ⟨_, rfl⟩
  have hA : After w w0 := by rw [← hw0]; exact After.rfl.alloc _
  have hB : w0.heap[w.heap.size]? = some (.cells #[.int .i64 mk, .slice sa n1 sc, .int .i64 mc, .int .i64 mr, .int .i64 mq, .slice oa n2 oc, .slice ba n3 bc] 31 (0, 0)) := by rw [← hw0]; exact new1 _ _
  obtain ⟨_, ⟨k0, k1, k2, k3, k4, k5, k6⟩, _⟩ := seven_at hB
  have HPK := hideIt (hpk w0 hA)
  unfold Okays at HPK
  have hgl : g < w.heap.size := by obtain ⟨_, _, _, xx⟩ := x; exact xx.lt
  have hP : P g := by obtain ⟨_, _, _, xx⟩ := x; exact xx.gp
  have HX := hideIt (And.intro x (And.intro hA (And.intro hB hP)))
  clear x hA hB hpk hP
  subst hk
  have HH := hideIt (And.intro hr (And.intro hon (And.intro hn (And.intro hfar hc))))
  clear hr hon hn hfar hc
  go_enter Tryz.func9, Tryz.ntmps9
  go_wp2_with fail
  refine HPK.out.mono ?_
  rintro e w1 ⟨a1, pa, nz, pc, rfl⟩
  obtain ⟨x, hA, hB, hP⟩ := HX.out
  have x1 := x.after (hA.trans a1)
  have hB1 := keep3 hB a1
  clear k0 k1 k2 k3 k4 k5 k6 HPK hw0
  obtain ⟨_, ⟨k0, k1, k2, k3, k4, k5, k6⟩, _⟩ := seven_at hB1
  obtain ⟨hr, hon, hn, hfar, hc⟩ := HH.out
  have HY := hideIt (hA.trans a1)
  obtain ⟨c9, oa9, oc9, xx⟩ := x1
  have hcc := xx.cc hs
  have hno := xx.no (by rw [hs]; decide)
  have G1 := xx.at0
  rw [hs, hno] at G1
  dsimp only [List.length_nil] at G1
  have G1' := G1
  obtain ⟨hg1, ⟨d0, d1, d2⟩, f0, f1, f2⟩ := tri_at G1
  have hcb : (mc != c9) = false := by rw [hc, hcc]; simp
  have hne : g ≠ w.heap.size := by omega
  have hne' : w.heap.size ≠ g := fun e => hne e.symm
  have HR := hideIt (show ∀ W, But (One g) w1 W → RowT W oa n2 (l.map Ob.t3) from fun W t => (hr.after (hA.trans a1)).but t (fun y hy h0 e => hfar y hy h0 e))
  have HB1 := hideIt (And.intro hB1 (And.intro G1' (And.intro hon hn)))
  have hll : l.length = n2 := by have := hr.1; simpa using this
  have HLL := hideIt hll
  clear x hA hB a1 hB1 xx hcc hc hno G1 G1' hr hfar hon hn hll HH
  go_wp2_with fail
  go_quiet (fail)
  have AW2 := hideIt (After.rfl.draws (a := w1) nq)
  generalize w1.drewN nq = W9 at *
  clear k0 k1 k2 k3 k4 k5 k6 d0 d1 d2 f0 f1 f2
  obtain ⟨_, ⟨k0, k1, k2, k3, k4, k5, k6⟩, _⟩ := seven_at (keep3 HB1.out.1 AW2.out)
  obtain ⟨hg9, ⟨d0, d1, d2⟩, f0, f1, f2⟩ := tri_at (keep3 HB1.out.2.1 AW2.out)
  have HG9 := hideIt (And.intro (keep3 HB1.out.2.1 AW2.out) (keep3 HB1.out.1 AW2.out))
  go_upto_region 18 with fail
  obtain ⟨W2, hW2⟩ : ∃ W2, (W9.setCell ⟨g, 0, none⟩ (.int .i64 2)).setCell ⟨g, 2, none⟩ (.slice none 0 0) = W2 := ⟨_, rfl⟩
  rw [hW2]
  have G2 : W2.heap[g]? = some (.cells #[.int .i64 2, .int .i64 c9, .slice none 0 0] 41 (0, 0)) := by rw [← hW2]; exact (blk_setA (i := 2) (blk_setA (i := 0) HG9.out.1 (.int .i64 2)) (.slice none 0 0)).trans rfl
  have M2 : W2.heap[w.heap.size]? = some (.cells #[.int .i64 3356, .slice sa n1 sc, .int .i64 mc, .int .i64 mr, .int .i64 mq, .slice oa n2 oc, .slice ba n3 bc] 31 (0, 0)) := by rw [← hW2]; exact set_far (set_far HG9.out.2 hne') hne'
  have B2 : But (One g) w1 W2 := by rw [← hW2]; exact (AW2.out.but.trans (but_one _ _ _ _)).trans (but_one _ _ _ _)
  have R2 := HR.out W2 B2
  obtain ⟨hon, hn16⟩ := HB1.out.2.2
  clear hW2 k0 k1 k2 k3 k4 k5 k6 d0 d1 d2 f0 f1 f2 HG9 HR HB1
  refine wp_cut (fun a W => Hf g w.heap.size a ∧ ∃ a5 c5, RowT W a5 n2 (l.map Ob.t3) ∧ (a5 = none → n2 = 0 ∧ c5 = 0) ∧ (∀ y, a5 = some y → w1.heap.size ≤ y.block) ∧ W.heap[g]? = some (.cells #[.int .i64 2, .int .i64 c9, .slice a5 n2 c5] 41 (0, 0)) ∧ W.heap[w.heap.size]? = some (.cells #[.int .i64 3356, .slice sa n1 sc, .int .i64 mc, .int .i64 mr, .int .i64 mq, .slice oa n2 oc, .slice ba n3 bc] 31 (0, 0)) ∧ But (One g) w1 W) ?rest ?first
  case first =>
    intro J K' h1 h2
    have hq : ∀ a2 W, (Hf g w.heap.size a2 ∧ ∃ a5 c5, RowT W a5 n2 (l.map Ob.t3) ∧ (a5 = none → n2 = 0 ∧ c5 = 0) ∧ (∀ y, a5 = some y → w1.heap.size ≤ y.block) ∧ W.heap[g]? = some (.cells #[.int .i64 2, .int .i64 c9, .slice a5 n2 c5] 41 (0, 0)) ∧ W.heap[w.heap.size]? = some (.cells #[.int .i64 3356, .slice sa n1 sc, .int .i64 mc, .int .i64 mr, .int .i64 mq, .slice oa n2 oc, .slice ba n3 bc] 31 (0, 0)) ∧ But (One g) w1 W) → K' a2 W := fun a2 W hb => h2 _ _ (h1 _ _ hb)
    clear h1 h2
    refine region_one (by kernel_rfl) (t18 w1.heap.size n2 (l.map Ob.t3) [Ptr g, Ptr g, Ptr g, .pointer (some ⟨g, 2, none⟩), .slice none 0 0, .pointer (some ⟨w.heap.size, 5, none⟩), .slice oa n2 oc, undef, Ptr g, .pointer (some ⟨g, 2, none⟩)]) (DD 77) (fun a W => Hf g w.heap.size a ∧ After W2 W) 10 131 _ rfl rfl rfl (fun i v w w' h hA => t18_after h hA) (fun i j _ _ h => by unfold DD at h; omega) (fun i hi => by unfold DD; omega) (fun a w k v w' _ hb hk hA => ⟨hb.1.put (by unfold DD; omega), hb.2.trans hA⟩) ⟨⟨rfl, rfl, rfl, rfl⟩, But.drew After.rfl⟩ ?_ rfl rfl 6 rfl ?_
    · exact ⟨op_mk rfl rfl (.inl rfl) (fun a W K Q _ hb hk => wp_move rfl (hk _ _ hb.1.2.2.1 After.rfl)),
        op_mk rfl rfl (.inl rfl) (fun a W K Q _ hb hk => wp_move rfl (hk _ _ hb.1.2.2.1 After.rfl)),
        op_mk rfl rfl (.inl rfl) (fun a W K Q hd _ hk => wp_nil rfl (hd 1 rfl) (hk _ _ rfl After.rfl)),
        op_mk rfl rfl (.inl rfl) (fun a W K Q hd _ hk => wp_field rfl (hd 2 rfl) (field_rg2 W g) (hk _ _ rfl After.rfl)),
        op_mk rfl rfl (.inl rfl) (fun a W K Q hd hb hk => wp_load rfl (hd 3 rfl) (load_objs (tri_at (keep3 G2 hb.2)).2.1.2.2) (hk _ _ rfl After.rfl)),
        op_mk rfl rfl (.inl rfl) (fun a W K Q _ hb hk => wp_field rfl hb.1.2.2.2 (field_msg5 W w.heap.size) (hk _ _ rfl After.rfl)),
        op_mk rfl rfl (.inl rfl) (fun a W K Q hd hb hk => wp_load rfl (hd 5 rfl) (load_objs (seven_at (keep3 M2 hb.2)).2.1.2.2.2.2.2.1) (hk _ _ rfl After.rfl)),
        op_mk rfl rfl (.inl rfl) (fun a W K Q hd hb hk => wp_app_objs _ _ rfl (hd 4 rfl) oa n2 oc l (hd 6 rfl) (R2.after hb.2) hon (by omega) (fun a5 c5 w5 r1 r2 r3 r4 => hk _ _ ⟨a5, c5, rfl, r1, r2, fun y hy => Nat.le_trans (Nat.le_trans B2.size hb.2.size) (r3 y hy)⟩ r4)),
        op_mk rfl rfl (.inl rfl) (fun a W K Q hd _ hk => wp_nil rfl (hd 0 rfl) (hk _ _ rfl After.rfl)),
        op_mk rfl rfl (.inl rfl) (fun a W K Q hd _ hk => wp_field rfl (hd 8 rfl) (field_rg2 W g) (hk _ _ rfl After.rfl)),
        trivial⟩
    · intro a' W hs hT hb K hK
      obtain ⟨a5, c5, e5, r1, r2, r3⟩ := hT 7 (by decide)
      obtain ⟨hg5, ⟨e0, e1, e2⟩, q0, q1, q2⟩ := tri_at (keep3 G2 hb.2)
      refine wp_store_objs rfl rfl (hT 9 (by decide)) e5 e2 q2 (hK _ _ (hq _ _ ⟨hb.1, a5, c5, r1.but (but_one _ _ _ _) (fun y hy _ e => by have e' : y.block = g := e; have := r3 y hy; omega), r2, r3, (blk_setA (i := 2) (keep3 G2 hb.2) _).trans rfl, set_far (keep3 M2 hb.2) hne', (B2.trans hb.2.but).trans (but_one _ _ _ _)⟩))
  case rest =>
    rintro a2 W ⟨hf, a5, c5, r1, r2, r3, G5, M5, B5⟩
    obtain ⟨u, rfl⟩ := hf.lit
    obtain ⟨_, ⟨k0, k1, k2, k3, k4, k5, k6⟩, _⟩ := seven_at M5
    have HZ := hideIt (And.intro r1 (And.intro r2 (And.intro r3 (And.intro G5 B5))))
    clear hf r1 r2 r3 G5 M5 B5 G2 M2 B2 R2
    go_wp2_with fail
    go_ret3
    obtain ⟨r1, r2, r3, G5, B5⟩ := HZ.out
    have hs1 := HY.out.size
    have hs2 := B5.size
    refine ⟨⟨_, _, rfl, ⟨_, rfl, by omega, new1 _ _⟩, SmAt.nil _ _⟩, ⟨c9, a5, c5, ?_, (fun h => by cases h), .inl hP, ?_, ?_, ?_, ?_, fun h => absurd rfl h⟩, (HY.out.but.trans B5).trans (After.rfl.alloc _).but⟩
    · show (W.alloc _).heap[g]? = some (.cells #[.int .i64 2, .int .i64 c9, .slice a5 l.length c5] 41 (0, 0))
      rw [HLL.out]
      exact new_past _ _ G5
    · show RowT _ a5 l.length _
      rw [HLL.out]
      exact r1.after (After.rfl.alloc _)
    · show a5 = none → l.length = 0 ∧ c5 = 0
      rw [HLL.out]
      exact r2
    · exact fun y hy _ => .inr (Nat.le_trans hs1 (r3 y hy))
    · show l.length ≤ 16
      rw [HLL.out]
      exact hn16
theorem rgHandle_any {w : World} {P T : Nat → Prop} {g : Nat} {st : Mg} (x : RgAt w P g st) (hsv : st.state = 0 ∨ st.state = 1 ∨ st.state = 2) (M : Msg) (sa : Option Addr) (sc : Nat) (oa : Option Addr) (oc : Nat) (ba : Option Addr) (bc : Nat) (y : MsgX w T M sa sc oa oc ba bc) (hT : ¬ T g) :
    Calls Tryz.prog 9 #[Ptr g, M.val sa sc oa oc ba bc] w fun e w' => RSteps w w' P g e (handle st M) := by
  cases hok : okB M with
  | false => exact rgHandle_bad x M sa sc oa oc ba bc y hok
  | true =>
    obtain ⟨_, h16, h64, _⟩ := ok_inv y.bb hok
    obtain ⟨zs, hp⟩ := ok_pack hok
    have hpk : ∀ W, After w W → Okays W (.agg #[.int .i64 M.kind, .slice sa M.sys.length sc, .int .i64 M.config, .int .i64 M.result, .int .i64 M.reason, .slice oa M.objs.length oc, .slice ba M.obs.length bc]) := by
      intro W aW
      have h := rpack_any W T M sa sc oa oc ba bc (y.after aW)
      rw [hp] at h
      refine h.mono ?_
      rintro e w' ⟨a1, _, _, pa, pc, rfl, _⟩
      exact ⟨a1, pa, _, pc, rfl⟩
    have e : handle st M = handF st M := by unfold handle; rw [hok]; rfl
    rw [e]
    rw [show M.val sa sc oa oc ba bc = .agg #[.int .i64 M.kind, .slice sa M.sys.length sc, .int .i64 M.config, .int .i64 M.result, .int .i64 M.reason, .slice oa M.objs.length oc, .slice ba M.obs.length bc] from rfl]
    unfold handF
    by_cases h1 : M.kind = 58880
    · rw [if_pos h1]
      exact rg_abt x _ _ _ _ _ _ _ _ _ _ _ _ _ hpk h1
    rw [if_neg h1]
    by_cases h2 : M.kind = 57856 ∧ st.state = 0
    · rw [if_pos h2]
      unfold askF
      by_cases hc : M.config = 0
      · rw [if_pos hc]
        exact rg_ask0 x _ _ _ _ _ _ _ _ _ _ _ _ _ hpk h2.1 h2.2 hc
      · rw [if_neg hc]
        exact rg_ask x _ _ _ _ _ _ _ _ _ _ _ _ _ hpk h2.1 h2.2 (by simpa using hc)
    rw [if_neg h2]
    by_cases h3 : M.kind = 3356 ∧ st.state = 1
    · rw [if_pos h3]
      unfold cfgF
      by_cases hc : M.config = st.config
      · rw [if_pos hc]
        exact rg_cfg1 x _ _ _ _ _ _ _ _ _ _ _ _ _ hpk M.objs y.or y.on h16 (fun z hz h0 e => hT (by have := y.op z hz h0; rw [e] at this; exact this)) h3.1 h3.2 hc
      · rw [if_neg hc]
        exact rg_cfg2 x _ _ _ _ _ _ _ _ _ _ _ _ _ hpk h3.1 h3.2 hc
    rw [if_neg h3]
    by_cases h4 : M.kind = 3358 ∧ st.state = 2
    · rw [if_pos h4]
      exact rg_scan x _ _ _ _ _ _ _ _ _ _ _ _ _ hpk M.obs y.br h64 y.bb h4.1 h4.2 M rfl
    rw [if_neg h4]
    by_cases h5 : M.kind = 58368 ∧ st.state ≠ 0
    · rw [if_pos h5]
      exact rg_rel x _ _ _ _ _ _ _ _ _ _ _ _ _ hpk h5.1 (by rcases hsv with h | h | h; exact absurd h h5.2; exact .inl h; exact .inr h)
    rw [if_neg h5]
    refine rg_brk x _ _ _ _ _ _ _ _ _ _ _ _ _ hpk (by simpa using h1) ?_
    rcases hsv with h | h | h
    · exact .inl ⟨h, by simpa using fun e => h2 ⟨e, h⟩⟩
    · exact .inr (.inl ⟨h, by simpa using fun e => h3 ⟨e, h⟩, by simpa using fun e => h5 ⟨e, by omega⟩⟩)
    · exact .inr (.inr ⟨h, by simpa using fun e => h4 ⟨e, h⟩, by simpa using fun e => h5 ⟨e, by omega⟩⟩)
end Go.Proofs.YthcfdoafncbliaaGreat
/-
  The document's Copy: a message in memory of its own that may be written into.
-/
namespace Go.Proofs.YthcfdoafncbliaaGreat
open Go.RowKit
set_option maxRecDepth 8000
/-- A block that may be written into. -/
def Soft (w : World) (b : Nat) : Prop := ∃ cs T, w.heap[b]? = some (.cells cs T (0, 0))
theorem Soft.but {S : Nat → Prop} {w w' : World} {b : Nat} (h : Soft w b) (t : But S w w') (hn : ¬ S b) : Soft w' b := by
  obtain ⟨cs, T, e⟩ := h
  exact ⟨cs, T, (t.block b (Array.getElem?_eq_some_iff.1 e).1 hn).trans e⟩
theorem Soft.set {w : World} {b : Nat} (h : Soft w b) (o : Nat) (x : Value) : Soft (w.setCell ⟨b, o, none⟩ x) b := by
  obtain ⟨cs, T, e⟩ := h
  exact ⟨_, T, blk_setA (i := o) e x⟩
theorem Soft.free {w : World} {b : Nat} (h : Soft w b) (o : Nat) : w.frozen? ⟨b, o, none⟩ = false := by
  obtain ⟨cs, T, e⟩ := h
  simp [World.frozen?, e]
theorem own_soft {w : World} {B : Nat} {T : TypeId} {sz : Nat} {v : Value} {n : Nat} {xs : List Value} (h : w.ownsRow B T sz v n xs) : ∀ y m c, v = .slice (some y) m c → Soft w y.block := by
  intro y m c hv
  rcases h.2 with ⟨e, _⟩ | ⟨g, cap, cur, e, _, hg, _⟩
  · rw [hv] at e; cases e
  · rw [hv] at e; cases e; exact ⟨_, _, hg⟩
/-- Appended to none: in memory of its own. -/
theorem app_objsF {w : World} {ops : Array Oper} {rest : List Oper} {o : Oper} {act : Act} {Q : Exit → Act → World → Prop} (hgd : o.guard = none) (s x : Operand)
    (ho : o.op = .call { callee := .builtin .append, args := #[s, x], argTypes := #[28, 28] }) (hs : act.eval s = .slice none 0 0)
    (a : Option Addr) (m c : Nat) (l : List Ob) (hx : act.eval x = .slice a m c) (hr : RowT w a m (l.map Ob.t3)) (ha : a = none → m = 0 ∧ c = 0) (hb : m * 24 ≤ 140737488355328)
    (h : ∀ a' c' w', RowT w' a' m (l.map Ob.t3) → (a' = none → m = 0 ∧ c' = 0) → (∀ y, a' = some y → w.heap.size ≤ y.block) → After w w' → (∀ y, a' = some y → Soft w' y.block) → wpList Tryz.prog ops Q rest (act.put o.dst (.slice a' m c')) w') : wpList Tryz.prog ops Q (o :: rest) act w := by
  obtain ⟨i0, hi, hz0, hz1, hz2⟩ := info_parts Tryz.info46
  cases a with
  | none =>
    obtain ⟨rfl, rfl⟩ := ha rfl
    refine wpList_append_own_none hgd s x 28 ho w.heap.size 46 i0 3 Tryz.underlying28 hi (.slice none 0 0) 0 [] hs (World.ownsRow_nil _ _ _ _) hx ?_
    exact h none 0 w hr (fun _ => ⟨rfl, rfl⟩) (fun y hy => by cases hy) After.rfl (fun y hy => by cases hy)
  | some ad =>
    have hl1 : (cells3 (l.map Ob.t3)).length = m * 3 := by rw [cells3_length, hr.1]
    refine wpList_append_own w hgd s x 28 ho w.heap.size 46 i0 (.agg #[.int .i64 0, .int .i64 0, .bool false]) 3 24 Tryz.underlying28 hi hz0 hz1 hz2 rfl (by decide) (.slice none 0 0) 0 [] hs (World.ownsRow_nil _ _ _ _) ad m c (cells3 (l.map Ob.t3)) hx hl1 (rowT_news hr) (cells3_one (fun y hy => by obtain ⟨o, _, rfl⟩ := List.mem_map.1 hy; exact o.one3)) (by unfold maxLen; omega) (by omega) (Nat.le_refl _) ?_
    intro v' w' h1 h2 _
    rw [Nat.zero_add, List.nil_append] at h1
    have s1 := own_soft h1
    obtain ⟨a', c', rfl, r1, r2, r3⟩ := own_rowT h1
    exact h a' c' w' r1 r2 r3 (But.grown After.rfl h2 (fun k hk => by cases hk)) (fun y hy => s1 _ _ _ (by rw [hy]))
set_option maxHeartbeats 2000000 in
theorem copy_msgF (w : World) (P : Nat → Prop) (M : Msg) (sa : Option Addr) (sc : Nat) (oa : Option Addr) (oc : Nat) (ba : Option Addr) (bc : Nat) (x : MsgX w P M sa sc oa oc ba bc) (hob : M.objs.length * 24 ≤ 140737488355328) (hbb : M.obs.length * 16 ≤ 140737488355328) :
    Calls Tryz.prog 7 #[M.val sa sc oa oc ba bc] w fun e w' => ∃ sa' sc' oa' oc' ba' bc', e = .returned (M.val sa' sc' oa' oc' ba' bc') ∧ MsgX w' (fun k => w.heap.size ≤ k) M sa' sc' oa' oc' ba' bc' ∧ After w w' ∧ ∀ y, oa' = some y → Soft w' y.block ∧ w.heap.size ≤ y.block := by
  obtain ⟨k, ms, c, r, q, mo, mb⟩ := M
  dsimp only at hob hbb
  obtain ⟨w1, hw1⟩ : ∃ w1, ((w.alloc (.cells #[.int .i64 k, .slice sa ms.length sc, .int .i64 c, .int .i64 r, .int .i64 q, .slice oa mo.length oc, .slice ba mb.length bc] 31)).alloc (.cells #[.int .i64 0, .slice none 0 0, .int .i64 0, .int .i64 0, .int .i64 0, .slice none 0 0, .slice none 0 0] 31)).alloc (.cells #[.int .i64 k, .slice sa ms.length sc, .int .i64 c, .int .i64 r, .int .i64 q, .slice oa mo.length oc, .slice ba mb.length bc] 31) = w1 := ⟨_, rfl⟩
  have hA : After w w1 := by rw [← hw1]; exact ((After.rfl.alloc _).alloc _).alloc _
  obtain ⟨b0, b1, b2⟩ := new3 w (.cells #[.int .i64 k, .slice sa ms.length sc, .int .i64 c, .int .i64 r, .int .i64 q, .slice oa mo.length oc, .slice ba mb.length bc] 31) (.cells #[.int .i64 0, .slice none 0 0, .int .i64 0, .int .i64 0, .int .i64 0, .slice none 0 0, .slice none 0 0] 31) (.cells #[.int .i64 k, .slice sa ms.length sc, .int .i64 c, .int .i64 r, .int .i64 q, .slice oa mo.length oc, .slice ba mb.length bc] 31)
  rw [hw1] at b0 b1 b2
  have hsz : w1.heap.size = w.heap.size + 3 := by rw [← hw1, World.size_alloc, World.size_alloc, World.size_alloc]
  have H1 := hideIt (copy_any sa ms.length sc ms w1 (x.sr.after hA) x.sn x.sl)
  have HX := hideIt (And.intro hA (And.intro b0 (And.intro b1 (And.intro b2 (And.intro hsz (x.upto.after hA))))))
  have HW := hideIt hw1
  have HBO := hideIt (And.intro hob hbb)
  have hsl := x.sl
  dsimp only at hsl
  have HSL := hideIt hsl
  unfold Msg.val
  dsimp only
  clear x hA b0 b1 b2 hsz hw1 hob hbb hsl
  generalize hms : ms.length = s at H1 HX HW HSL ⊢
  generalize hmo : mo.length = o at HX HW HBO ⊢
  generalize hmb : mb.length = b at HX HW HBO ⊢
  have HS := hideIt (And.intro hms (And.intro hmo hmb))
  clear hms hmo hmb
  go_enter Tryz.func7, Tryz.ntmps7
  go_wp2_with fail
  rw [HW.out]
  refine H1.out.mono ?_
  clear H1
  rintro e w2 ⟨v2, rfl, o2, a2⟩
  obtain ⟨hA, b0, b1, b2, hsz, x1⟩ := HX.out
  obtain ⟨ya, yc, rfl⟩ := own_slice o2
  have d0 := keep2 b0 a2
  have d1 := keep2 b1 a2
  have d2 := keep2 b2 a2
  obtain ⟨_, ⟨p0, p1, p2, p3, p4, p5, p6⟩, _⟩ := seven_at d0
  obtain ⟨_, ⟨q0, q1, q2, q3, q4, q5, q6⟩, ⟨z0, z1, z2, z3, z4, z5, z6⟩⟩ := seven_at d2
  have HRO := hideIt (show ∀ W, But (One (w.heap.size + 1 + 1)) w2 W → RowT W oa o (mo.map Ob.t3) from fun W t => by
    have h := (x1.after a2).or.but t (fun y hy h0 e => by have e' : y.block = w.heap.size + 1 + 1 := e; have := (x1.op y hy h0).2; omega)
    rw [show (⟨k, ms, c, r, q, mo, mb⟩ : Msg).objs.length = o from HS.out.2.1] at h
    exact h)
  have HRB := hideIt (show ∀ W, But (One (w.heap.size + 1 + 1)) w2 W → RowT W ba b (mb.map Bi.t3) from fun W t => by
    have h := (x1.after a2).br.but t (fun y hy h0 e => by have e' : y.block = w.heap.size + 1 + 1 := e; have := (x1.bp y hy h0).2; omega)
    rw [show (⟨k, ms, c, r, q, mo, mb⟩ : Msg).obs.length = b from HS.out.2.2] at h
    exact h)
  have HNO := hideIt (show oa = none → o = 0 ∧ oc = 0 from fun h => by have := x1.on h; rw [show (⟨k, ms, c, r, q, mo, mb⟩ : Msg).objs.length = o from HS.out.2.1] at this; exact this)
  have HNB := hideIt (show ba = none → b = 0 ∧ bc = 0 from fun h => by have := x1.bn h; rw [show (⟨k, ms, c, r, q, mo, mb⟩ : Msg).obs.length = b from HS.out.2.2] at this; exact this)
  have hob := HBO.out.1
  have hbb := HBO.out.2
  have HD := hideIt (And.intro d0 (And.intro d1 d2))
  have HY := hideIt (And.intro (hA.trans a2) (And.intro o2 (And.intro x1.sr.2.1 (And.intro x1.bb (And.intro (show w.heap.size + 3 ≤ w2.heap.size by have := a2.size; omega) hsz)))))
  clear hA b0 b1 b2 hsz x1 a2 o2 d0 d1 d2 HX HBO HW
  go_wp2_with (first | (at_builtin; refine app_objsF rfl (.tmp 11) (.tmp 13) rfl rfl oa o oc mo rfl (HRO.out _ (But.set (S := One (w.heap.size + 1 + 1)) (But.set (S := One (w.heap.size + 1 + 1)) But.rfl ⟨w.heap.size + 1 + 1, 1, none⟩ (fun _ => Eq.refl _) _) ⟨w.heap.size + 1 + 1, 5, none⟩ (fun _ => Eq.refl _) _)) HNO.out hob ?_; intro a5 c5 w3 hr5 hn5 hp5 ha5 hf5; have HF5 := hideIt hf5; clear hf5; have HB3 := hideIt (show But (One (w.heap.size + 1 + 1)) w2 w3 from (But.set (S := One (w.heap.size + 1 + 1)) (But.set (S := One (w.heap.size + 1 + 1)) But.rfl ⟨w.heap.size + 1 + 1, 1, none⟩ (fun _ => Eq.refl _) _) ⟨w.heap.size + 1 + 1, 5, none⟩ (fun _ => Eq.refl _) _).trans ha5.but); have H5 := hideIt (And.intro hr5 (And.intro hn5 (And.intro hp5 ha5))); have f0 := keep2 (set_far (g := w.heap.size + 1 + 1) (o := 5) (x := .slice none 0 0) (set_far (g := w.heap.size + 1 + 1) (o := 1) (x := .slice ya s yc) HD.out.1 (by omega)) (by omega)) ha5; have f1 := keep2 (set_far (g := w.heap.size + 1 + 1) (o := 5) (x := .slice none 0 0) (set_far (g := w.heap.size + 1 + 1) (o := 1) (x := .slice ya s yc) HD.out.2.1 (by omega)) (by omega)) ha5; have f2 := keep2 (blk_setA (i := 5) (blk_setA (i := 1) HD.out.2.2 (.slice ya s yc)) (.slice none 0 0)) ha5; simp only [List.setIfInBounds_toArray, List.set_cons_zero, List.set_cons_succ] at f2; clear hr5 hn5 hp5 ha5 p0 p1 p2 p3 p4 p5 p6 q0 q1 q2 q3 q4 q5 q6 z0 z1 z2 z3 z4 z5 z6; obtain ⟨_, ⟨p0, p1, p2, p3, p4, p5, p6⟩, _⟩ := seven_at f0; obtain ⟨_, ⟨q0, q1, q2, q3, q4, q5, q6⟩, ⟨z0, z1, z2, z3, z4, z5, z6⟩⟩ := seven_at f2; have HF := hideIt (And.intro f1 f2); clear f0 f1 f2) | (at_builtin; refine app_obs rfl (.tmp 18) (.tmp 20) rfl rfl ba b bc mb rfl (HRB.out _ (But.set (S := One (w.heap.size + 1 + 1)) (But.set (S := One (w.heap.size + 1 + 1)) HB3.out ⟨w.heap.size + 1 + 1, 5, none⟩ (fun _ => Eq.refl _) _) ⟨w.heap.size + 1 + 1, 6, none⟩ (fun _ => Eq.refl _) _)) HNB.out hbb ?_; intro a6 c6 w4 hr6 hn6 hp6 ha6; have H6 := hideIt (And.intro hr6 (And.intro hn6 (And.intro hp6 ha6))); have f1 := keep2 (set_far (g := w.heap.size + 1 + 1) (o := 6) (x := .slice none 0 0) (set_far (g := w.heap.size + 1 + 1) (o := 5) (x := .slice a5 o c5) HF.out.1 (by omega)) (by omega)) ha6; have f2 := keep2 (blk_setA (i := 6) (blk_setA (i := 5) HF.out.2 (.slice a5 o c5)) (.slice none 0 0)) ha6; simp only [List.setIfInBounds_toArray, List.set_cons_zero, List.set_cons_succ] at f2; clear hr6 hn6 hp6 ha6 p0 p1 p2 p3 p4 p5 p6 q0 q1 q2 q3 q4 q5 q6 z0 z1 z2 z3 z4 z5 z6; obtain ⟨_, ⟨p0, p1, p2, p3, p4, p5, p6⟩, ⟨y0, y1, y2, y3, y4, y5, y6⟩⟩ := seven_at f1; obtain ⟨_, ⟨q0, q1, q2, q3, q4, q5, q6⟩, ⟨z0, z1, z2, z3, z4, z5, z6⟩⟩ := seven_at f2; clear f1 f2))
  obtain ⟨aw, o2, hsb, hbb2, hsz, hsz1⟩ := HY.out
  obtain ⟨r5, n5, l5, a5'⟩ := H5.out
  obtain ⟨r6, n6, l6, a6'⟩ := H6.out
  have t3 : But (fun k => k = w.heap.size + 1 ∨ k = w.heap.size + 1 + 1) w2 w3 := HB3.out.mono (fun k _ h => .inr h)
  have t4 : But (fun k => k = w.heap.size + 1 ∨ k = w.heap.size + 1 + 1) w3 w4 := (But.set (S := (fun k => k = w.heap.size + 1 ∨ k = w.heap.size + 1 + 1)) (But.set (S := (fun k => k = w.heap.size + 1 ∨ k = w.heap.size + 1 + 1)) But.rfl ⟨w.heap.size + 1 + 1, 5, none⟩ (fun _ => .inr rfl) _) ⟨w.heap.size + 1 + 1, 6, none⟩ (fun _ => .inr rfl) _).trans a6'.but
  have t5 : But (fun k => k = w.heap.size + 1 ∨ k = w.heap.size + 1 + 1) w4 ((((((((w4.setCell ⟨w.heap.size + 1 + 1, 6, none⟩ (.slice a6 b c6)).setCell ⟨w.heap.size + 1, 0, none⟩ (.int .i64 k)).setCell ⟨w.heap.size + 1, 1, none⟩ (.slice ya s yc)).setCell ⟨w.heap.size + 1, 2, none⟩ (.int .i64 c)).setCell ⟨w.heap.size + 1, 3, none⟩ (.int .i64 r)).setCell ⟨w.heap.size + 1, 4, none⟩ (.int .i64 q)).setCell ⟨w.heap.size + 1, 5, none⟩ (.slice a5 o c5)).setCell ⟨w.heap.size + 1, 6, none⟩ (.slice a6 b c6)) := by
    iterate 7 refine But.set (S := (fun k => k = w.heap.size + 1 ∨ k = w.heap.size + 1 + 1)) ?_ ⟨w.heap.size + 1, _, none⟩ (fun _ => .inl rfl) _
    exact But.set (S := (fun k => k = w.heap.size + 1 ∨ k = w.heap.size + 1 + 1)) But.rfl ⟨w.heap.size + 1 + 1, 6, none⟩ (fun _ => .inr rfl) _
  rw [World.size_setCell, World.size_setCell] at l5 l6
  obtain ⟨ya', yc', hq, ry, rn, _, rb⟩ := own_row o2 hsb
  cases hq
  have s3 := t3.size
  have hs := HS.out.1
  have ho := HS.out.2.1
  have hb := HS.out.2.2
  refine bodyPost_ret (v := .agg #[.int .i64 k, .slice ya s yc, .int .i64 c, .int .i64 r, .int .i64 q, .slice a5 o c5, .slice a6 b c6]) (by simp [results, Tryz.results7, go_sem, p0, p1, p2, p3, p4, p5, p6]) rfl ⟨ya, yc, a5, c5, a6, c6, rfl, ⟨?_, ?_, ?_, ?_, ?_, ?_, ?_, ?_, ?_, ?_, hbb2⟩, ?_, fun y hy => ?_⟩
  · show Row _ ya ms.length ms
    rw [hs]
    exact ry.but2 (t3.trans (t4.trans t5)) (fun y hy h0 e => by have h1 := (rb y hy).1; have := (o2.lt _ h1).1; rcases e with e | e <;> omega)
  · show ya = none → ms.length = 0 ∧ yc = 0
    rw [hs]
    exact rn
  · exact fun y hy _ => by have h1 := (rb y hy).1; have := (o2.lt _ h1).1; omega
  · show ms.length ≤ _
    rw [hs]
    exact HSL.out
  · show RowT _ a5 mo.length (mo.map Ob.t3)
    rw [ho]
    exact r5.but (t4.trans t5) (fun y hy h0 e => by have := l5 y hy; rcases e with e | e <;> omega)
  · show a5 = none → mo.length = 0 ∧ c5 = 0
    rw [ho]
    exact n5
  · exact fun y hy _ => by have := l5 y hy; omega
  · show RowT _ a6 mb.length (mb.map Bi.t3)
    rw [hb]
    exact r6.but t5 (fun y hy h0 e => by have := l6 y hy; rcases e with e | e <;> omega)
  · show a6 = none → mb.length = 0 ∧ c6 = 0
    rw [hb]
    exact n6
  · exact fun y hy _ => by have := l6 y hy; omega
  · exact aw.but.then (t3.trans (t4.trans t5)) (fun i hi h => by rcases h with h | h <;> omega)
  · exact ⟨(HF5.out y hy).but (t4.trans t5) (fun e => by have := l5 y hy; rcases e with e | e <;> omega), by have := l5 y hy; omega⟩
end Go.Proofs.YthcfdoafncbliaaGreat
