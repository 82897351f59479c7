/-
  Laid together: NamesS, LawBack, LawOnce.
-/
import Derived.Test.YtigiakhdaaoljaaB29
import Derived.Test.YtigiakhdaaoljaaB17
/-
  ApduNames: what is known between its regions.
-/
namespace Go.Proofs.Ytigiakhdaaoljaa
open Go.RowKit
set_option maxRecDepth 8000
/-- The frame of ApduNames, and what some of its slots hold. -/
def Bas (W0 : World) (F : List (Nat × (Nat × Nat))) (a : Act) (w : World) : Prop := a.tmps.size = 157 ∧ a.defers = [] ∧ After W0 w ∧ ∀ f ∈ F, Holds W0.heap.size f.2 (a.tmps.getD f.1 undef) w
theorem Bas.put {W0 : World} {F : List (Nat × (Nat × Nat))} {a : Act} {w w' : World} {s : Nat} {v : Value} (h : Bas W0 F a w) (hs : s < 157) (hf : ∀ f ∈ F, f.1 ≠ s) (hA : After w w') : Bas W0 F (a.put (some s) v) w' := by
  obtain ⟨h1, h2, h3, h4⟩ := h
  refine ⟨by show (a.tmps.setIfInBounds s v).size = 157; rw [Array.size_setIfInBounds]; exact h1, h2, h3.trans hA, fun f hm => ?_⟩
  rw [getD_put (by omega), if_neg (hf f hm)]
  exact (h4 f hm).after hA
theorem Bas.base {W0 : World} {F : List (Nat × (Nat × Nat))} (a : Act) (w : World) (h : Bas W0 F a w) : W0.heap.size ≤ w.heap.size := h.2.2.1.size
theorem Bas.drew {W0 : World} {F : List (Nat × (Nat × Nat))} {a : Act} {w : World} (h : Bas W0 F a w) : Bas W0 F a w.drew := ⟨h.1, h.2.1, But.drew h.2.2.1, fun f hf => (h.2.2.2 f hf).after (But.drew After.rfl)⟩
theorem Bas.sub {W0 : World} {F G : List (Nat × (Nat × Nat))} {a : Act} {w : World} (h : Bas W0 F a w) (hs : ∀ f ∈ G, f ∈ F) : Bas W0 G a w := ⟨h.1, h.2.1, h.2.2.1, fun f hf => h.2.2.2 f (hs f hf)⟩
section
variable {W0 w : World} {a : Act} {o1 o2 : Oper} {Q : Exit → Act → World → Prop} {n m s u e : Nat}
theorem app_end (hb : Bas W0 [(1, (0, 8)), (2, (1, 17)), (4, (6, n))] a w) (hs : LM W0.heap.size w (a.tmps.getD s undef) n) (hu : LM W0.heap.size w (a.tmps.getD u undef) m) (hm : 0 < m) (hnm : n + m ≤ 1000)
    (ho1 : o1.op = .call { callee := .builtin .append, args := #[.tmp s, .tmp u], argTypes := #[43, 43] }) (hd1 : o1.dst = some e) (he : 4 < e ∧ e < 157) (ho2 : o2.op = .assign (.tmp e)) (hd2 : o2.dst = some 4)
    (hq : ∀ a2 w2, Bas W0 [(1, (0, 8)), (2, (1, 17)), (4, (6, n + m))] a2 w2 → Q .normal a2 w2) :
    ∀ K : Act → World → Prop, (∀ a1 w1, (∀ K2 : Act → World → Prop, (∀ a2 w2, Q .normal a2 w2 → K2 a2 w2) → Oper.wp Try.prog o2 a1 w1 K2 Q) → K a1 w1) → Oper.wp Try.prog o1 a w K Q := by
  intro K hK
  obtain ⟨h1, h2, h3, h4⟩ := hb
  obtain ⟨v', w', hr, hv, hB⟩ := app_lm o1.type hs hu hm hnm h3.size
  obtain ⟨vs, _, _, own⟩ := hs
  have hh := own_hard own (.inl rfl)
  refine wp_append ho1 hr (hK _ _ (fun K2 hK2 => wp_assign ho2 (hK2 _ _ (hq _ _ ?_))))
  rw [hd1, hd2]
  have z1 : (a.put (some e) v').tmps.size = 157 := by show (a.tmps.setIfInBounds e v').size = 157; rw [Array.size_setIfInBounds]; exact h1
  have ev : (a.put (some e) v').eval (.tmp e) = v' := by
    show (a.put (some e) v').tmps.getD e undef = v'
    rw [getD_put (by omega), if_pos rfl]
  rw [ev]
  refine ⟨by show ((a.put (some e) v').tmps.setIfInBounds 4 v').size = 157; rw [Array.size_setIfInBounds]; exact z1, h2, h3.then hB (fun i hi t => ?_), fun f hf => ?_⟩
  · have := (own.lt i t).1; omega
  · simp only [List.mem_cons, List.not_mem_nil, or_false] at hf
    rw [getD_put (by omega)]
    rcases hf with rfl | rfl | rfl
    · rw [if_neg (by decide), getD_put (by omega), if_neg (by dsimp only; omega)]
      exact KBy.but (show KBy w (a.tmps.getD 1 undef) 8 from h4 (1, (0, 8)) List.mem_cons_self) hB hh
    · rw [if_neg (by decide), getD_put (by omega), if_neg (by dsimp only; omega)]
      exact KOs.but (show KOs w (a.tmps.getD 2 undef) 17 from h4 (2, (1, 17)) (List.mem_cons_of_mem _ List.mem_cons_self)) hB hh
    · rw [if_pos rfl]; exact hv
theorem app_endB (hb : Bas W0 [(6, (7, n))] a w) (hs : LB W0.heap.size w (a.tmps.getD s undef) n) (hu : LB W0.heap.size w (a.tmps.getD u undef) m) (hm : 0 < m) (hnm : n + m ≤ 1000)
    (ho1 : o1.op = .call { callee := .builtin .append, args := #[.tmp s, .tmp u], argTypes := #[47, 47] }) (hd1 : o1.dst = some e) (he : 6 < e ∧ e < 157) (ho2 : o2.op = .assign (.tmp e)) (hd2 : o2.dst = some 6)
    (hq : ∀ a2 w2, Bas W0 [(6, (7, n + m))] a2 w2 → Q .normal a2 w2) :
    ∀ K : Act → World → Prop, (∀ a1 w1, (∀ K2 : Act → World → Prop, (∀ a2 w2, Q .normal a2 w2 → K2 a2 w2) → Oper.wp Try.prog o2 a1 w1 K2 Q) → K a1 w1) → Oper.wp Try.prog o1 a w K Q := by
  intro K hK
  obtain ⟨h1, h2, h3, h4⟩ := hb
  obtain ⟨v', w', hr, hv, hB⟩ := app_lb o1.type hs hu hm hnm h3.size
  obtain ⟨vs, _, _, own⟩ := hs
  refine wp_append ho1 hr (hK _ _ (fun K2 hK2 => wp_assign ho2 (hK2 _ _ (hq _ _ ?_))))
  rw [hd1, hd2]
  have z1 : (a.put (some e) v').tmps.size = 157 := by show (a.tmps.setIfInBounds e v').size = 157; rw [Array.size_setIfInBounds]; exact h1
  have ev : (a.put (some e) v').eval (.tmp e) = v' := by
    show (a.put (some e) v').tmps.getD e undef = v'
    rw [getD_put (by omega), if_pos rfl]
  rw [ev]
  refine ⟨by show ((a.put (some e) v').tmps.setIfInBounds 6 v').size = 157; rw [Array.size_setIfInBounds]; exact z1, h2, h3.then hB (fun i hi t => ?_), fun f hf => ?_⟩
  · have := (own.lt i t).1; omega
  · simp only [List.mem_cons, List.not_mem_nil, or_false] at hf
    rw [getD_put (by omega)]
    subst hf
    rw [if_pos rfl]; exact hv
/-- A list that is new, laid into its slot. -/
theorem new_end {F : List (Nat × (Nat × Nat))} {kd : Nat × Nat} {t : Nat} (ht : t < 157) (hf : ∀ f ∈ F, f.1 ≠ t ∧ f.1 ≠ e) (he : e < 157) (hd1 : o1.dst = some e) (ho2 : o2.op = .assign (.tmp e)) (hd2 : o2.dst = some t)
    (hb : Bas W0 F a w) (hq : ∀ a2 w2, Bas W0 ((t, kd) :: F) a2 w2 → Q .normal a2 w2) {K : Act → World → Prop} (hK : ∀ a1 w1, (∀ K2 : Act → World → Prop, (∀ a2 w2, Q .normal a2 w2 → K2 a2 w2) → Oper.wp Try.prog o2 a1 w1 K2 Q) → K a1 w1)
    (v : Value) (w' : World) (hv : Holds W0.heap.size kd v w') (hA : After w w') : K (a.put o1.dst v) w' := by
  refine hK _ _ (fun K2 hK2 => wp_assign ho2 (hK2 _ _ (hq _ _ ?_)))
  rw [hd1, hd2]
  have b1 := hb.put (s := e) (v := v) he (fun f hm => (hf f hm).2) hA
  have ev : (a.put (some e) v).eval (.tmp e) = v := by
    show (a.put (some e) v).tmps.getD e undef = v
    rw [getD_put (by rw [hb.1]; exact he), if_pos rfl]
  rw [ev]
  have b2 := b1.put (s := t) (v := v) ht (fun f hm => (hf f hm).1) After.rfl
  refine ⟨b2.1, b2.2.1, b2.2.2.1, fun f hm => ?_⟩
  rcases List.mem_cons.1 hm with rfl | hm
  · rw [getD_put (by rw [b1.1]; exact ht), if_pos rfl]; exact hv
  · exact b2.2.2.2 f hm
end
theorem lit157 (a : Act) (h : a.tmps.size = 157) (hd : a.defers = []) : ∃ u : Nat → Value, (∀ i, u i = a.tmps.getD i undef) ∧ a = ⟨#[u 0, u 1, u 2, u 3, u 4, u 5, u 6, u 7, u 8, u 9, u 10, u 11, u 12, u 13, u 14, u 15, u 16, u 17, u 18, u 19, u 20, u 21, u 22, u 23, u 24, u 25, u 26, u 27, u 28, u 29, u 30, u 31, u 32, u 33, u 34, u 35, u 36, u 37, u 38, u 39, u 40, u 41, u 42, u 43, u 44, u 45, u 46, u 47, u 48, u 49, u 50, u 51, u 52, u 53, u 54, u 55, u 56, u 57, u 58, u 59, u 60, u 61, u 62, u 63, u 64, u 65, u 66, u 67, u 68, u 69, u 70, u 71, u 72, u 73, u 74, u 75, u 76, u 77, u 78, u 79, u 80, u 81, u 82, u 83, u 84, u 85, u 86, u 87, u 88, u 89, u 90, u 91, u 92, u 93, u 94, u 95, u 96, u 97, u 98, u 99, u 100, u 101, u 102, u 103, u 104, u 105, u 106, u 107, u 108, u 109, u 110, u 111, u 112, u 113, u 114, u 115, u 116, u 117, u 118, u 119, u 120, u 121, u 122, u 123, u 124, u 125, u 126, u 127, u 128, u 129, u 130, u 131, u 132, u 133, u 134, u 135, u 136, u 137, u 138, u 139, u 140, u 141, u 142, u 143, u 144, u 145, u 146, u 147, u 148, u 149, u 150, u 151, u 152, u 153, u 154, u 155, u 156], []⟩ := by
  refine ⟨fun i => a.tmps.getD i undef, fun _ => rfl, ?_⟩
  obtain ⟨t, d⟩ := a
  dsimp only at h hd
  subst hd
  have e : t = ((List.range 157).map (fun i => t.getD i undef)).toArray := by
    apply Array.ext
    · simp [h]
    · intro i h1 h2
      simp [Array.getD, h1]
  refine congrArg (fun t' => Act.mk t' []) (e.trans ?_)
  rfl
theorem Bas.lit {W0 : World} {F : List (Nat × (Nat × Nat))} {a : Act} {w : World} (h : Bas W0 F a w) : ∃ u : Nat → Value, a = ⟨#[u 0, u 1, u 2, u 3, u 4, u 5, u 6, u 7, u 8, u 9, u 10, u 11, u 12, u 13, u 14, u 15, u 16, u 17, u 18, u 19, u 20, u 21, u 22, u 23, u 24, u 25, u 26, u 27, u 28, u 29, u 30, u 31, u 32, u 33, u 34, u 35, u 36, u 37, u 38, u 39, u 40, u 41, u 42, u 43, u 44, u 45, u 46, u 47, u 48, u 49, u 50, u 51, u 52, u 53, u 54, u 55, u 56, u 57, u 58, u 59, u 60, u 61, u 62, u 63, u 64, u 65, u 66, u 67, u 68, u 69, u 70, u 71, u 72, u 73, u 74, u 75, u 76, u 77, u 78, u 79, u 80, u 81, u 82, u 83, u 84, u 85, u 86, u 87, u 88, u 89, u 90, u 91, u 92, u 93, u 94, u 95, u 96, u 97, u 98, u 99, u 100, u 101, u 102, u 103, u 104, u 105, u 106, u 107, u 108, u 109, u 110, u 111, u 112, u 113, u 114, u 115, u 116, u 117, u 118, u 119, u 120, u 121, u 122, u 123, u 124, u 125, u 126, u 127, u 128, u 129, u 130, u 131, u 132, u 133, u 134, u 135, u 136, u 137, u 138, u 139, u 140, u 141, u 142, u 143, u 144, u 145, u 146, u 147, u 148, u 149, u 150, u 151, u 152, u 153, u 154, u 155, u 156], []⟩ ∧ After W0 w ∧ ∀ f ∈ F, Holds W0.heap.size f.2 (u f.1) w := by
  obtain ⟨u, hu, e⟩ := lit157 a h.1 h.2.1
  exact ⟨u, e, h.2.2.1, fun f hf => by rw [hu]; exact h.2.2.2 f hf⟩
end Go.Proofs.Ytigiakhdaaoljaa
/-
  ApduBack.
-/
namespace Go.Proofs.Ytigiakhdaaoljaa
open Go.RowKit
set_option maxRecDepth 8000
set_option maxHeartbeats 1000000 in
theorem law_back (w : World) (P : Nat → Prop) (M : Msg) (sa : Option Addr) (sc : Nat) (oa : Option Addr) (oc : Nat) (ba : Option Addr) (bc : Nat) (x : MsgX w P M sa sc oa oc ba bc) :
    Calls Try.prog 5 #[M.val sa sc oa oc ba bc] w fun e w' => e = .returned (.bool true) ∧ After w w' := by
  obtain ⟨w0, hw0⟩ : ∃ w0, w.alloc (.cells (M.cells sa sc oa oc ba bc) 26) = w0 := ⟨_, rfl⟩
  have hA : After w w0 := by rw [← hw0]; exact After.rfl.alloc _
  have b0 : w0.heap[w.heap.size]? = some (.cells (M.cells sa sc oa oc ba bc) 26 (0, 0)) := by rw [← hw0]; exact new1 _ _
  have H1 := hideIt (awake_any w0)
  unfold Msg.cells at hw0 b0
  have HW := hideIt hw0
  have HX := hideIt (And.intro hA (And.intro b0 x))
  clear hA b0 x hw0
  have HV := hideIt (show M.val sa sc oa oc ba bc = .agg #[.int .i64 M.kind, .slice sa M.sys.length sc, .int .i64 M.config, .int .i64 M.result, .int .i64 M.reason, .slice oa M.objs.length oc, .slice ba M.obs.length bc] from rfl)
  rw [HV.out]
  generalize hk : M.kind = k at HW HX HV ⊢
  generalize hs : M.sys.length = s at HW HX HV ⊢
  generalize hc : M.config = c at HW HX HV ⊢
  generalize hre : M.result = r at HW HX HV ⊢
  generalize hq : M.reason = q at HW HX HV ⊢
  generalize ho : M.objs.length = o at HW HX HV ⊢
  generalize hb : M.obs.length = b at HW HX HV ⊢
  clear hk hs hc hre hq ho hb
  go_enter Try.func5, Try.ntmps5
  go_wp2_with fail
  rw [HW.out]
  refine H1.out.mono ?_
  clear H1 HW
  rintro e w1 ⟨rfl, a1⟩
  obtain ⟨hA, b0, x⟩ := HX.out
  have b1 := keep2 b0 a1
  obtain ⟨_, ⟨y0, y1, y2, y3, y4, y5, y6⟩, _⟩ := seven_at b1
  have x1 := (x.after (hA.trans a1)).upto
  have H2 := hideIt (pack_any w1 _ M sa sc oa oc ba bc x1 (fun k h => h.2))
  rw [HV.out] at H2
  have HY := hideIt (And.intro (hA.trans a1) (And.intro b1 x1))
  clear hA b0 x a1 b1 x1 HX
  go_wp2_with fail
  refine H2.out.mono ?_
  clear H2
  rintro e w2 ⟨a2, h2⟩
  obtain ⟨hA, b1, x1⟩ := HY.out
  rcases h2.split with ⟨c9, e1, rfl, hc9⟩ | ⟨_, us, e1, hbs, hl, pa, pc, rfl, o2⟩
  · have HZ := hideIt (hA.trans a2)
    clear h2 e1 a2 hA b1 x1 HY HV
    rcases hc9 with rfl | rfl
    all_goals
      go_wp2_with fail
      go_ret
      exact ⟨rfl, HZ.out⟩
  · obtain ⟨hu, _, _⟩ := back_unpack e1
    obtain ⟨_, hol, hbl⟩ := pack_inv e1
    obtain ⟨pa', pc', hq', r2, rn2, _, _⟩ := own_row o2 hbs
    cases hq'
    have b2 := keep2 b1 a2
    obtain ⟨_, ⟨z0, z1, z2, z3, z4, z5, z6⟩, _⟩ := seven_at b2
    have H3 := hideIt (unpack_any w2 pa us.length pc us r2 rn2 (by omega))
    rw [hu] at H3
    have HZ := hideIt (And.intro (hA.trans a2) (And.intro b2 (And.intro (x1.after a2) (And.intro hol hbl))))
    clear h2 e1 a2 hA b1 x1 HY hu hol hbl o2 hbs r2 rn2 b2 y0 y1 y2 y3 y4 y5 y6 hl
    generalize us.length = nu at H3 ⊢
    go_wp2_with fail
    refine H3.out.mono ?_
    clear H3
    rintro e w3 ⟨a3, v, rfl, xa, xc, ya, yc, za, zc, rfl, x3, _⟩
    obtain ⟨hA, b2, x2, hol, hbl⟩ := HZ.out
    obtain ⟨w4, hw4⟩ : ∃ w4, w3.alloc (.cells (M.cells xa xc ya yc za zc) 26) = w4 := ⟨_, rfl⟩
    have a4 : After w3 w4 := by rw [← hw4]; exact After.rfl.alloc _
    have HS := hideIt (same18 w4 _ _ M M xa xc ya yc za zc sa sc oa oc ba bc (x3.after a4) (x2.after (a3.trans a4)) (fun _ => rfl) (fun _ => rfl) (fun _ => rfl) (by omega) (by omega))
    have b3 := keep2 b2 a3
    obtain ⟨_, ⟨v0, v1, v2, v3, v4, v5, v6⟩, _⟩ := seven_at b3
    rw [HV.out] at HS
    rw [show eqM M M = true from decide_eq_true ⟨rfl, rfl, rfl, rfl, rfl, rfl, rfl⟩] at HS
    unfold Msg.val at HS
    unfold Msg.cells at hw4
    have HW := hideIt hw4
    have HU := hideIt (hA.trans (a3.trans a4))
    clear hA b2 x2 hol hbl a3 a4 x3 b3 hw4 HZ HV z0 z1 z2 z3 z4 z5 z6
    unfold Msg.val
    obtain ⟨Xk, Xs, Xc, Xr, Xq, Xo, Xb⟩ := M
    dsimp only at HS HW ⊢
    generalize Xs.length = n1 at HS HW ⊢
    generalize Xo.length = n2 at HS HW ⊢
    generalize Xb.length = n3 at HS HW ⊢
    go_wp2_with (go_at_call 18; rw [HW.out]; refine HS.out.mono ?_; rintro e w5 ⟨rfl, h5⟩; have H5 := hideIt h5; clear h5)
    go_ret
    exact ⟨rfl, HU.out.trans H5.out⟩
end Go.Proofs.Ytigiakhdaaoljaa
/-
  ApduOnce.
-/
namespace Go.Proofs.Ytigiakhdaaoljaa
open Go.RowKit
set_option maxRecDepth 8000
set_option maxHeartbeats 1000000 in
theorem law_once (w : World) (a : Option Addr) (n c : Nat) (bs : List Int) (hr : Row w a n bs) (ha : a = none → n = 0 ∧ c = 0) (hn : n ≤ 140737488355328) :
    Calls Try.prog 6 #[.slice a n c] w fun e w' => e = .returned (.bool true) ∧ After w w' := by
  have H1 := hideIt (awake_any w)
  have HR := hideIt (And.intro hr (And.intro ha hn))
  clear hr ha hn
  go_enter Try.func6, Try.ntmps6
  go_wp2_with fail
  refine H1.out.mono ?_
  clear H1
  rintro e w1 ⟨rfl, a1⟩
  obtain ⟨hr, ha, hn⟩ := HR.out
  have H2 := hideIt (unpack_any w1 a n c bs (hr.after a1) ha hn)
  have HA := hideIt a1
  clear a1 hr ha hn
  go_wp2_with fail
  refine H2.out.mono ?_
  clear H2
  rintro e w2 ⟨a2, h2⟩
  have hA2 := HA.out.trans a2
  rcases h2.split with ⟨c9, e1, hc, rfl⟩ | ⟨X, us, e1, v, rfl, xa, xc, ya, yc, za, zc, rfl, x2, _⟩
  · have hc9 := msg_errr e1
    have hcb : (c9 != 0) = true := by simpa using hc
    unfold Msg.val Msg.zero
    dsimp only [List.length_nil]
    obtain ⟨w3, hw3⟩ : ∃ w3, w2.alloc (.cells #[.int .i64 0, .slice none 0 0, .int .i64 0, .int .i64 0, .int .i64 0, .slice none 0 0, .slice none 0 0] 26) = w3 := ⟨_, rfl⟩
    have a3 : After w2 w3 := by rw [← hw3]; exact After.rfl.alloc _
    have HS := hideIt (same18 w3 (fun _ => True) (fun _ => True) (Msg.zero 0) (Msg.zero 0) none 0 none 0 none 0 none 0 none 0 none 0 (MsgX.nils _ _ _ _ _ _) (MsgX.nils _ _ _ _ _ _) (fun _ => rfl) (fun _ => rfl) (fun _ => rfl) (by decide) (by decide))
    have HX := hideIt (And.intro hA2 a3)
    have HW := hideIt hw3
    clear hA2 a3 h2 e1 hc a2 HA HR hw3
    rcases hc9 with rfl | rfl | rfl
    all_goals
      go_wp2_with (go_at_call 18; rw [HW.out]; refine HS.out.mono ?_; rintro e w4 ⟨rfl, h4⟩; rw [show eqM (Msg.zero 0) (Msg.zero 0) = true from rfl]; have H4 := hideIt h4; clear h4)
      go_ret
      exact ⟨rfl, HX.out.1.trans (HX.out.2.trans H4.out)⟩
  · obtain ⟨hr, ha, hn⟩ := HR.out
    obtain ⟨hp, _⟩ := once_pack hr.2.1 e1
    obtain ⟨w3, hw3⟩ : ∃ w3, w2.alloc (.cells (X.cells xa xc ya yc za zc) 26) = w3 := ⟨_, rfl⟩
    have a3 : After w2 w3 := by rw [← hw3]; exact After.rfl.alloc _
    have H3 := hideIt (pack_any w3 _ X xa xc ya yc za zc (x2.after a3).upto (fun k h => h.2))
    rw [hp] at H3
    have HX := hideIt (And.intro (hA2.trans a3) (And.intro hr hn))
    unfold Msg.cells at hw3
    have HW := hideIt hw3
    clear hA2 a3 h2 e1 a2 HA HR hw3 x2 hr ha hn hp
    unfold Msg.val
    unfold Msg.val at H3
    obtain ⟨Xk, Xs, Xc, Xr, Xq, Xo, Xb⟩ := X
    dsimp only at H3 HW ⊢
    generalize Xs.length = n1 at H3 HW ⊢
    generalize Xo.length = n2 at H3 HW ⊢
    generalize Xb.length = n3 at H3 HW ⊢
    go_wp2_with fail
    rw [HW.out]
    refine H3.out.mono ?_
    clear H3
    rintro e w4 ⟨a4, hbs, hl, pa, pc, rfl, o4⟩
    obtain ⟨pa', pc', hq, r4, _, _, _⟩ := own_row o4 hbs
    cases hq
    obtain ⟨hA, hr, hn⟩ := HX.out
    have hbn := hr.1
    rw [hbn] at r4 ⊢
    have HE := hideIt (eqBytes_same pa a n pc c bs w4 r4 (hr.after (hA.trans a4)) hn)
    have HZ := hideIt (hA.trans a4)
    clear hA a4 o4 hbs hl r4 hr hn HX hbn
    go_wp2_with (go_at_call 12; refine HE.out.mono ?_; rintro e w5 ⟨rfl, h5⟩; have H5 := hideIt h5; clear h5)
    go_ret
    exact ⟨rfl, HZ.out.trans H5.out⟩
end Go.Proofs.Ytigiakhdaaoljaa
