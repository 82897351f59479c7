/-
  Laid together: CopyM, LawPacks, Frame.
-/
import Derived.Test.YtigiakhdaaoljaaB17
import Derived.Test.YtigiakhdaaoljaaB20
import Derived.Test.YtigiakhdaaoljaaRows
import Derived.ProofKit
import Derived.OpenShut
import Derived.ChangeOld
import Derived.Below
import Derived.SizedLaws
/-
  The document's Copy: a message in memory of its own.
-/
namespace Go.Proofs.Ytigiakhdaaoljaa
open Go.RowKit
set_option maxRecDepth 8000
theorem add_off (b off i : Nat) : (⟨b, off, none⟩ : Addr).add i = ⟨b, off + i, none⟩ := by
  by_cases h0 : i = 0
  · subst h0; simp [Addr.add]
  · simp [Addr.add, h0]
theorem rowT_news {w : World} {x : Addr} {n : Nat} {xs : List T3} (h : RowT w (some x) n xs) : ∀ j u, (cells3 xs)[j]? = some u → w.cell? (x.add j) = some u := by
  intro j u hu
  have hl := cells3_length xs
  have hj : j < xs.length * 3 := by
    rcases Nat.lt_or_ge j (xs.length * 3) with h' | h'
    · exact h'
    · rw [List.getElem?_eq_none (by omega)] at hu; cases hu
  have hn := h.1
  obtain ⟨b, off, y, e, _, hy, c0, c1, c2⟩ := h.2 (j / 3) (by omega)
  cases e
  obtain ⟨e0, e1, e2⟩ := cells3_at xs (j / 3) y hy
  rw [add_off]
  have hm : j = j / 3 * 3 ∨ j = j / 3 * 3 + 1 ∨ j = j / 3 * 3 + 2 := by omega
  rcases hm with hm | hm | hm
  · rw [← hm] at e0
    rw [e0] at hu
    rw [← hu, ← c0]
    congr 2
    omega
  · rw [← hm] at e1
    rw [e1] at hu
    rw [← hu, ← c1]
    congr 2
    omega
  · rw [← hm] at e2
    rw [e2] at hu
    rw [← hu, ← c2]
    congr 2
    omega
theorem own_rowT {w : World} {B : Nat} {T : TypeId} {v : Value} {n : Nat} {xs : List T3} (h : w.ownsRow B T 3 v n (cells3 xs)) : ∃ a c, v = .slice a n c ∧ RowT w a n xs ∧ (a = none → n = 0 ∧ c = 0) ∧ (∀ y, a = some y → B ≤ y.block) := by
  have hl : xs.length = n := by have := h.1; rw [cells3_length] at this; omega
  rcases h.2 with ⟨e, rfl⟩ | ⟨g, cap, cur, e, hb, hg, hnc, _, hcs, htk⟩
  · obtain rfl : xs = [] := List.length_eq_zero_iff.1 hl
    exact ⟨none, 0, e, RowT.nil _ _, fun _ => ⟨rfl, rfl⟩, (fun y hy => by cases hy)⟩
  · refine ⟨some ⟨g, 0, none⟩, cap, e, ⟨hl, fun i hi => ?_⟩, (fun h => by cases h), (fun y hy => by cases hy; exact hb)⟩
    obtain ⟨x, hx⟩ : ∃ x, xs[i]? = some x := ⟨xs[i], List.getElem?_eq_getElem (by omega)⟩
    obtain ⟨e0, e1, e2⟩ := cells3_at xs i x hx
    have hc : ∀ j, j < n * 3 → w.cell? ⟨g, j, none⟩ = (cells3 xs)[j]? := by
      intro j hj
      rw [← htk, List.getElem?_take_of_lt hj]
      have hg' : w.heap[g]? = some (.cells cur.toList.toArray T (0, 0)) := by rw [hg]
      exact cell_blk hg'
    refine ⟨g, 0, x, rfl, (Array.getElem?_eq_some_iff.1 hg).1, hx, ?_, ?_, ?_⟩
    · rw [Nat.zero_add, hc _ (by omega)]; exact e0
    · rw [Nat.zero_add, hc _ (by omega)]; exact e1
    · rw [Nat.zero_add, hc _ (by omega)]; exact e2
/-- Appended to none: in memory of its own. -/
theorem app_objs {w : World} {ops : Array Oper} {rest : List Oper} {o : Oper} {act : Act} {Q : Exit → Act → World → Prop} (hgd : o.guard = none) (s x : Operand)
    (ho : o.op = .call { callee := .builtin .append, args := #[s, x], argTypes := #[23, 23] }) (hs : act.eval s = .slice none 0 0)
    (a : Option Addr) (m c : Nat) (l : List Ob) (hx : act.eval x = .slice a m c) (hr : RowT w a m (l.map Ob.t3)) (ha : a = none → m = 0 ∧ c = 0) (hb : m * 24 ≤ 140737488355328)
    (h : ∀ a' c' w', RowT w' a' m (l.map Ob.t3) → (a' = none → m = 0 ∧ c' = 0) → (∀ y, a' = some y → w.heap.size ≤ y.block) → After w w' → wpList Try.prog ops Q rest (act.put o.dst (.slice a' m c')) w') : wpList Try.prog ops Q (o :: rest) act w := by
  obtain ⟨i0, hi, hz0, hz1, hz2⟩ := info_parts Try.info42
  cases a with
  | none =>
    obtain ⟨rfl, rfl⟩ := ha rfl
    refine wpList_append_own_none hgd s x 23 ho w.heap.size 42 i0 3 Try.underlying23 hi (.slice none 0 0) 0 [] hs (World.ownsRow_nil _ _ _ _) hx ?_
    exact h none 0 w hr (fun _ => ⟨rfl, rfl⟩) (fun y hy => by cases hy) After.rfl
  | some ad =>
    have hl1 : (cells3 (l.map Ob.t3)).length = m * 3 := by rw [cells3_length, hr.1]
    refine wpList_append_own w hgd s x 23 ho w.heap.size 42 i0 (.agg #[.int .i64 0, .int .i64 0, .bool false]) 3 24 Try.underlying23 hi hz0 hz1 hz2 rfl (by decide) (.slice none 0 0) 0 [] hs (World.ownsRow_nil _ _ _ _) ad m c (cells3 (l.map Ob.t3)) hx hl1 (rowT_news hr) (cells3_one (fun y hy => by obtain ⟨o, _, rfl⟩ := List.mem_map.1 hy; exact o.one3)) (by unfold maxLen; omega) (by omega) (Nat.le_refl _) ?_
    intro v' w' h1 h2 _
    rw [Nat.zero_add, List.nil_append] at h1
    obtain ⟨a', c', rfl, r1, r2, r3⟩ := own_rowT h1
    exact h a' c' w' r1 r2 r3 (But.grown After.rfl h2 (fun k hk => by cases hk))
/-- Appended to none: in memory of its own. -/
theorem app_obs {w : World} {ops : Array Oper} {rest : List Oper} {o : Oper} {act : Act} {Q : Exit → Act → World → Prop} (hgd : o.guard = none) (s x : Operand)
    (ho : o.op = .call { callee := .builtin .append, args := #[s, x], argTypes := #[24, 24] }) (hs : act.eval s = .slice none 0 0)
    (a : Option Addr) (m c : Nat) (l : List Bi) (hx : act.eval x = .slice a m c) (hr : RowT w a m (l.map Bi.t3)) (ha : a = none → m = 0 ∧ c = 0) (hb : m * 16 ≤ 140737488355328)
    (h : ∀ a' c' w', RowT w' a' m (l.map Bi.t3) → (a' = none → m = 0 ∧ c' = 0) → (∀ y, a' = some y → w.heap.size ≤ y.block) → After w w' → wpList Try.prog ops Q rest (act.put o.dst (.slice a' m c')) w') : wpList Try.prog ops Q (o :: rest) act w := by
  obtain ⟨i0, hi, hz0, hz1, hz2⟩ := info_parts Try.info46
  cases a with
  | none =>
    obtain ⟨rfl, rfl⟩ := ha rfl
    refine wpList_append_own_none hgd s x 24 ho w.heap.size 46 i0 3 Try.underlying24 hi (.slice none 0 0) 0 [] hs (World.ownsRow_nil _ _ _ _) hx ?_
    exact h none 0 w hr (fun _ => ⟨rfl, rfl⟩) (fun y hy => by cases hy) After.rfl
  | some ad =>
    have hl1 : (cells3 (l.map Bi.t3)).length = m * 3 := by rw [cells3_length, hr.1]
    refine wpList_append_own w hgd s x 24 ho w.heap.size 46 i0 (.agg #[.int .i64 0, .bool false, .int .u32 0]) 3 16 Try.underlying24 hi hz0 hz1 hz2 rfl (by decide) (.slice none 0 0) 0 [] hs (World.ownsRow_nil _ _ _ _) ad m c (cells3 (l.map Bi.t3)) hx hl1 (rowT_news hr) (cells3_one (fun y hy => by obtain ⟨o, _, rfl⟩ := List.mem_map.1 hy; exact o.one3)) (by unfold maxLen; omega) (by omega) (Nat.le_refl _) ?_
    intro v' w' h1 h2 _
    rw [Nat.zero_add, List.nil_append] at h1
    obtain ⟨a', c', rfl, r1, r2, r3⟩ := own_rowT h1
    exact h a' c' w' r1 r2 r3 (But.grown After.rfl h2 (fun k hk => by cases hk))
set_option maxHeartbeats 2000000 in
theorem copy_msg (w : World) (P : Nat → Prop) (M : Msg) (sa : Option Addr) (sc : Nat) (oa : Option Addr) (oc : Nat) (ba : Option Addr) (bc : Nat) (x : MsgX w P M sa sc oa oc ba bc) (hob : M.objs.length * 24 ≤ 140737488355328) (hbb : M.obs.length * 16 ≤ 140737488355328) :
    Calls Try.prog 9 #[M.val sa sc oa oc ba bc] w fun e w' => ∃ sa' sc' oa' oc' ba' bc', e = .returned (M.val sa' sc' oa' oc' ba' bc') ∧ MsgX w' (fun k => w.heap.size ≤ k) M sa' sc' oa' oc' ba' bc' ∧ After w w' := by
  obtain ⟨k, ms, c, r, q, mo, mb⟩ := M
  dsimp only at hob hbb
  obtain ⟨w1, hw1⟩ : ∃ w1, ((w.alloc (.cells #[.int .i64 k, .slice sa ms.length sc, .int .i64 c, .int .i64 r, .int .i64 q, .slice oa mo.length oc, .slice ba mb.length bc] 26)).alloc (.cells #[.int .i64 0, .slice none 0 0, .int .i64 0, .int .i64 0, .int .i64 0, .slice none 0 0, .slice none 0 0] 26)).alloc (.cells #[.int .i64 k, .slice sa ms.length sc, .int .i64 c, .int .i64 r, .int .i64 q, .slice oa mo.length oc, .slice ba mb.length bc] 26) = w1 := ⟨_, rfl⟩
  have hA : After w w1 := by rw [← hw1]; exact ((After.rfl.alloc _).alloc _).alloc _
  obtain ⟨b0, b1, b2⟩ := new3 w (.cells #[.int .i64 k, .slice sa ms.length sc, .int .i64 c, .int .i64 r, .int .i64 q, .slice oa mo.length oc, .slice ba mb.length bc] 26) (.cells #[.int .i64 0, .slice none 0 0, .int .i64 0, .int .i64 0, .int .i64 0, .slice none 0 0, .slice none 0 0] 26) (.cells #[.int .i64 k, .slice sa ms.length sc, .int .i64 c, .int .i64 r, .int .i64 q, .slice oa mo.length oc, .slice ba mb.length bc] 26)
  rw [hw1] at b0 b1 b2
  have hsz : w1.heap.size = w.heap.size + 3 := by rw [← hw1, World.size_alloc, World.size_alloc, World.size_alloc]
  have H1 := hideIt (copy_any sa ms.length sc ms w1 (x.sr.after hA) x.sn x.sl)
  have HX := hideIt (And.intro hA (And.intro b0 (And.intro b1 (And.intro b2 (And.intro hsz (x.upto.after hA))))))
  have HW := hideIt hw1
  have HBO := hideIt (And.intro hob hbb)
  have hsl := x.sl
  dsimp only at hsl
  have HSL := hideIt hsl
  unfold Msg.val
  dsimp only
  clear x hA b0 b1 b2 hsz hw1 hob hbb hsl
  generalize hms : ms.length = s at H1 HX HW HSL ⊢
  generalize hmo : mo.length = o at HX HW HBO ⊢
  generalize hmb : mb.length = b at HX HW HBO ⊢
  have HS := hideIt (And.intro hms (And.intro hmo hmb))
  clear hms hmo hmb
  go_enter Try.func9, Try.ntmps9
  go_wp2_with fail
  rw [HW.out]
  refine H1.out.mono ?_
  clear H1
  rintro e w2 ⟨v2, rfl, o2, a2⟩
  obtain ⟨hA, b0, b1, b2, hsz, x1⟩ := HX.out
  obtain ⟨ya, yc, rfl⟩ := own_slice o2
  have d0 := keep2 b0 a2
  have d1 := keep2 b1 a2
  have d2 := keep2 b2 a2
  obtain ⟨_, ⟨p0, p1, p2, p3, p4, p5, p6⟩, _⟩ := seven_at d0
  obtain ⟨_, ⟨q0, q1, q2, q3, q4, q5, q6⟩, ⟨z0, z1, z2, z3, z4, z5, z6⟩⟩ := seven_at d2
  have HRO := hideIt (show ∀ W, But (One (w.heap.size + 1 + 1)) w2 W → RowT W oa o (mo.map Ob.t3) from fun W t => by
    have h := (x1.after a2).or.but t (fun y hy h0 e => by have e' : y.block = w.heap.size + 1 + 1 := e; have := (x1.op y hy h0).2; omega)
    rw [show (⟨k, ms, c, r, q, mo, mb⟩ : Msg).objs.length = o from HS.out.2.1] at h
    exact h)
  have HRB := hideIt (show ∀ W, But (One (w.heap.size + 1 + 1)) w2 W → RowT W ba b (mb.map Bi.t3) from fun W t => by
    have h := (x1.after a2).br.but t (fun y hy h0 e => by have e' : y.block = w.heap.size + 1 + 1 := e; have := (x1.bp y hy h0).2; omega)
    rw [show (⟨k, ms, c, r, q, mo, mb⟩ : Msg).obs.length = b from HS.out.2.2] at h
    exact h)
  have HNO := hideIt (show oa = none → o = 0 ∧ oc = 0 from fun h => by have := x1.on h; rw [show (⟨k, ms, c, r, q, mo, mb⟩ : Msg).objs.length = o from HS.out.2.1] at this; exact this)
  have HNB := hideIt (show ba = none → b = 0 ∧ bc = 0 from fun h => by have := x1.bn h; rw [show (⟨k, ms, c, r, q, mo, mb⟩ : Msg).obs.length = b from HS.out.2.2] at this; exact this)
  have hob := HBO.out.1
  have hbb := HBO.out.2
  have HD := hideIt (And.intro d0 (And.intro d1 d2))
  have HY := hideIt (And.intro (hA.trans a2) (And.intro o2 (And.intro x1.sr.2.1 (And.intro x1.bb (And.intro (show w.heap.size + 3 ≤ w2.heap.size by have := a2.size; omega) hsz)))))
  clear hA b0 b1 b2 hsz x1 a2 o2 d0 d1 d2 HX HBO HW
  go_wp2_with (first | (at_builtin; refine app_objs rfl (.tmp 11) (.tmp 13) rfl rfl oa o oc mo rfl (HRO.out _ (But.set (S := One (w.heap.size + 1 + 1)) (But.set (S := One (w.heap.size + 1 + 1)) But.rfl ⟨w.heap.size + 1 + 1, 1, none⟩ (fun _ => Eq.refl _) _) ⟨w.heap.size + 1 + 1, 5, none⟩ (fun _ => Eq.refl _) _)) HNO.out hob ?_; intro a5 c5 w3 hr5 hn5 hp5 ha5; have HB3 := hideIt (show But (One (w.heap.size + 1 + 1)) w2 w3 from (But.set (S := One (w.heap.size + 1 + 1)) (But.set (S := One (w.heap.size + 1 + 1)) But.rfl ⟨w.heap.size + 1 + 1, 1, none⟩ (fun _ => Eq.refl _) _) ⟨w.heap.size + 1 + 1, 5, none⟩ (fun _ => Eq.refl _) _).trans ha5.but); have H5 := hideIt (And.intro hr5 (And.intro hn5 (And.intro hp5 ha5))); have f0 := keep2 (set_far (g := w.heap.size + 1 + 1) (o := 5) (x := .slice none 0 0) (set_far (g := w.heap.size + 1 + 1) (o := 1) (x := .slice ya s yc) HD.out.1 (by omega)) (by omega)) ha5; have f1 := keep2 (set_far (g := w.heap.size + 1 + 1) (o := 5) (x := .slice none 0 0) (set_far (g := w.heap.size + 1 + 1) (o := 1) (x := .slice ya s yc) HD.out.2.1 (by omega)) (by omega)) ha5; have f2 := keep2 (blk_setA (i := 5) (blk_setA (i := 1) HD.out.2.2 (.slice ya s yc)) (.slice none 0 0)) ha5; simp only [List.setIfInBounds_toArray, List.set_cons_zero, List.set_cons_succ] at f2; clear hr5 hn5 hp5 ha5 p0 p1 p2 p3 p4 p5 p6 q0 q1 q2 q3 q4 q5 q6 z0 z1 z2 z3 z4 z5 z6; obtain ⟨_, ⟨p0, p1, p2, p3, p4, p5, p6⟩, _⟩ := seven_at f0; obtain ⟨_, ⟨q0, q1, q2, q3, q4, q5, q6⟩, ⟨z0, z1, z2, z3, z4, z5, z6⟩⟩ := seven_at f2; have HF := hideIt (And.intro f1 f2); clear f0 f1 f2) | (at_builtin; refine app_obs rfl (.tmp 18) (.tmp 20) rfl rfl ba b bc mb rfl (HRB.out _ (But.set (S := One (w.heap.size + 1 + 1)) (But.set (S := One (w.heap.size + 1 + 1)) HB3.out ⟨w.heap.size + 1 + 1, 5, none⟩ (fun _ => Eq.refl _) _) ⟨w.heap.size + 1 + 1, 6, none⟩ (fun _ => Eq.refl _) _)) HNB.out hbb ?_; intro a6 c6 w4 hr6 hn6 hp6 ha6; have H6 := hideIt (And.intro hr6 (And.intro hn6 (And.intro hp6 ha6))); have f1 := keep2 (set_far (g := w.heap.size + 1 + 1) (o := 6) (x := .slice none 0 0) (set_far (g := w.heap.size + 1 + 1) (o := 5) (x := .slice a5 o c5) HF.out.1 (by omega)) (by omega)) ha6; have f2 := keep2 (blk_setA (i := 6) (blk_setA (i := 5) HF.out.2 (.slice a5 o c5)) (.slice none 0 0)) ha6; simp only [List.setIfInBounds_toArray, List.set_cons_zero, List.set_cons_succ] at f2; clear hr6 hn6 hp6 ha6 p0 p1 p2 p3 p4 p5 p6 q0 q1 q2 q3 q4 q5 q6 z0 z1 z2 z3 z4 z5 z6; obtain ⟨_, ⟨p0, p1, p2, p3, p4, p5, p6⟩, ⟨y0, y1, y2, y3, y4, y5, y6⟩⟩ := seven_at f1; obtain ⟨_, ⟨q0, q1, q2, q3, q4, q5, q6⟩, ⟨z0, z1, z2, z3, z4, z5, z6⟩⟩ := seven_at f2; clear f1 f2))
  obtain ⟨aw, o2, hsb, hbb2, hsz, hsz1⟩ := HY.out
  obtain ⟨r5, n5, l5, a5'⟩ := H5.out
  obtain ⟨r6, n6, l6, a6'⟩ := H6.out
  have t3 : But (fun k => k = w.heap.size + 1 ∨ k = w.heap.size + 1 + 1) w2 w3 := HB3.out.mono (fun k _ h => .inr h)
  have t4 : But (fun k => k = w.heap.size + 1 ∨ k = w.heap.size + 1 + 1) w3 w4 := (But.set (S := (fun k => k = w.heap.size + 1 ∨ k = w.heap.size + 1 + 1)) (But.set (S := (fun k => k = w.heap.size + 1 ∨ k = w.heap.size + 1 + 1)) But.rfl ⟨w.heap.size + 1 + 1, 5, none⟩ (fun _ => .inr rfl) _) ⟨w.heap.size + 1 + 1, 6, none⟩ (fun _ => .inr rfl) _).trans a6'.but
  have t5 : But (fun k => k = w.heap.size + 1 ∨ k = w.heap.size + 1 + 1) w4 ((((((((w4.setCell ⟨w.heap.size + 1 + 1, 6, none⟩ (.slice a6 b c6)).setCell ⟨w.heap.size + 1, 0, none⟩ (.int .i64 k)).setCell ⟨w.heap.size + 1, 1, none⟩ (.slice ya s yc)).setCell ⟨w.heap.size + 1, 2, none⟩ (.int .i64 c)).setCell ⟨w.heap.size + 1, 3, none⟩ (.int .i64 r)).setCell ⟨w.heap.size + 1, 4, none⟩ (.int .i64 q)).setCell ⟨w.heap.size + 1, 5, none⟩ (.slice a5 o c5)).setCell ⟨w.heap.size + 1, 6, none⟩ (.slice a6 b c6)) := by
    iterate 7 refine But.set (S := (fun k => k = w.heap.size + 1 ∨ k = w.heap.size + 1 + 1)) ?_ ⟨w.heap.size + 1, _, none⟩ (fun _ => .inl rfl) _
    exact But.set (S := (fun k => k = w.heap.size + 1 ∨ k = w.heap.size + 1 + 1)) But.rfl ⟨w.heap.size + 1 + 1, 6, none⟩ (fun _ => .inr rfl) _
  rw [World.size_setCell, World.size_setCell] at l5 l6
  obtain ⟨ya', yc', hq, ry, rn, _, rb⟩ := own_row o2 hsb
  cases hq
  have s3 := t3.size
  have hs := HS.out.1
  have ho := HS.out.2.1
  have hb := HS.out.2.2
  refine bodyPost_ret (v := .agg #[.int .i64 k, .slice ya s yc, .int .i64 c, .int .i64 r, .int .i64 q, .slice a5 o c5, .slice a6 b c6]) (by simp [results, Try.results9, go_sem, p0, p1, p2, p3, p4, p5, p6]) rfl ⟨ya, yc, a5, c5, a6, c6, rfl, ⟨?_, ?_, ?_, ?_, ?_, ?_, ?_, ?_, ?_, ?_, hbb2⟩, ?_⟩
  · show Row _ ya ms.length ms
    rw [hs]
    exact ry.but2 (t3.trans (t4.trans t5)) (fun y hy h0 e => by have h1 := (rb y hy).1; have := (o2.lt _ h1).1; rcases e with e | e <;> omega)
  · show ya = none → ms.length = 0 ∧ yc = 0
    rw [hs]
    exact rn
  · exact fun y hy _ => by have h1 := (rb y hy).1; have := (o2.lt _ h1).1; omega
  · show ms.length ≤ _
    rw [hs]
    exact HSL.out
  · show RowT _ a5 mo.length (mo.map Ob.t3)
    rw [ho]
    exact r5.but (t4.trans t5) (fun y hy h0 e => by have := l5 y hy; rcases e with e | e <;> omega)
  · show a5 = none → mo.length = 0 ∧ c5 = 0
    rw [ho]
    exact n5
  · exact fun y hy _ => by have := l5 y hy; omega
  · show RowT _ a6 mb.length (mb.map Bi.t3)
    rw [hb]
    exact r6.but t5 (fun y hy h0 e => by have := l6 y hy; rcases e with e | e <;> omega)
  · show a6 = none → mb.length = 0 ∧ c6 = 0
    rw [hb]
    exact n6
  · exact fun y hy _ => by have := l6 y hy; omega
  · exact aw.but.then (t3.trans (t4.trans t5)) (fun i hi h => by rcases h with h | h <;> omega)
end Go.Proofs.Ytigiakhdaaoljaa
/-
  ApduPacks.
-/
namespace Go.Proofs.Ytigiakhdaaoljaa
open Go.RowKit
set_option maxRecDepth 8000
set_option maxHeartbeats 2000000 in
theorem law_packs (w : World) (P : Nat → Prop) (M : Msg) (sa : Option Addr) (sc : Nat) (oa : Option Addr) (oc : Nat) (ba : Option Addr) (bc : Nat) (x : MsgX w P M sa sc oa oc ba bc) (hob : M.objs.length * 24 ≤ 140737488355328) (hbb : M.obs.length * 16 ≤ 140737488355328) :
    Calls Try.prog 3 #[M.val sa sc oa oc ba bc] w fun e w' => e = .returned (.bool true) ∧ After w w' := by
  obtain ⟨w0, hw0⟩ : ∃ w0, w.alloc (.cells (M.cells sa sc oa oc ba bc) 26) = w0 := ⟨_, rfl⟩
  have hA : After w w0 := by rw [← hw0]; exact After.rfl.alloc _
  have b0 : w0.heap[w.heap.size]? = some (.cells (M.cells sa sc oa oc ba bc) 26 (0, 0)) := by rw [← hw0]; exact new1 _ _
  have H1 := hideIt (copy_msg w0 P M sa sc oa oc ba bc (x.after hA) hob hbb)
  unfold Msg.cells at hw0 b0
  have HW := hideIt hw0
  have HX := hideIt (And.intro hA (And.intro b0 x))
  have HL := hideIt (And.intro hob hbb)
  clear hA b0 x hw0 hob hbb
  have HV := hideIt (show M.val sa sc oa oc ba bc = .agg #[.int .i64 M.kind, .slice sa M.sys.length sc, .int .i64 M.config, .int .i64 M.result, .int .i64 M.reason, .slice oa M.objs.length oc, .slice ba M.obs.length bc] from rfl)
  have HV2 := hideIt (show ∀ sa' sc' oa' oc' ba' bc', M.val sa' sc' oa' oc' ba' bc' = .agg #[.int .i64 M.kind, .slice sa' M.sys.length sc', .int .i64 M.config, .int .i64 M.result, .int .i64 M.reason, .slice oa' M.objs.length oc', .slice ba' M.obs.length bc'] from fun _ _ _ _ _ _ => rfl)
  rw [HV.out] at H1 ⊢
  generalize hk : M.kind = k at HW HX HV HV2 H1 ⊢
  generalize hs : M.sys.length = s at HW HX HV HV2 H1 ⊢
  generalize hc : M.config = c at HW HX HV HV2 H1 ⊢
  generalize hre : M.result = r at HW HX HV HV2 H1 ⊢
  generalize hq : M.reason = q at HW HX HV HV2 H1 ⊢
  generalize ho : M.objs.length = o at HW HX HV HV2 H1 HL ⊢
  generalize hb : M.obs.length = b at HW HX HV HV2 H1 HL ⊢
  have HLL := hideIt (And.intro ho hb)
  clear hk hs hc hre hq ho hb
  go_enter Try.func3, Try.ntmps3
  go_wp2_with fail
  rw [HW.out]
  refine H1.out.mono ?_
  clear H1 HW
  rintro e w1 ⟨ta, tc, ua, uc, va, vc, rfl, x1, a1⟩
  rw [HV2.out]
  obtain ⟨hA, b0, x⟩ := HX.out
  obtain ⟨w2, hw2⟩ : ∃ w2, w1.alloc (.cells #[.int .i64 k, .slice ta s tc, .int .i64 c, .int .i64 r, .int .i64 q, .slice ua o uc, .slice va b vc] 26) = w2 := ⟨_, rfl⟩
  have a2 : After w1 w2 := by rw [← hw2]; exact After.rfl.alloc _
  have d1 : w2.heap[w1.heap.size]? = some (.cells #[.int .i64 k, .slice ta s tc, .int .i64 c, .int .i64 r, .int .i64 q, .slice ua o uc, .slice va b vc] 26 (0, 0)) := by rw [← hw2]; exact new1 _ _
  have d0 := keep2 b0 (a1.trans a2)
  have x2 := (x1.after a2).upto
  have H2 := hideIt (pack_any w2 _ M ta tc ua uc va vc x2 (fun k h => h.2))
  rw [HV2.out] at H2
  have HW := hideIt hw2
  have HY := hideIt (And.intro (hA.trans (a1.trans a2)) (And.intro d0 (And.intro d1 (And.intro x2 (x.after (hA.trans (a1.trans a2)))))))
  clear hA b0 x a1 a2 d0 d1 x1 x2 hw2 HX
  go_wp2_with fail
  rw [HW.out]
  refine H2.out.mono ?_
  clear H2 HW
  rintro e w3 ⟨a3, h3⟩
  obtain ⟨hA, d0, d1, x2, x⟩ := HY.out
  have f0 := keep2 d0 a3
  have f1 := keep2 d1 a3
  obtain ⟨_, ⟨y0, y1, y2, y3, y4, y5, y6⟩, _⟩ := seven_at f0
  have x3 := (x.after a3)
  have H3 := hideIt (rpack_any w3 _ M sa sc oa oc ba bc x3)
  rw [HV.out] at H3
  have HZ := hideIt (And.intro (hA.trans a3) (And.intro f0 (And.intro f1 (And.intro (x2.after a3) x3))))
  have hlo : M.objs.length ≤ 140737488355328 ∧ M.obs.length ≤ 140737488355328 := by have := HL.out; have := HLL.out; omega
  have HLO := hideIt hlo
  clear hA d0 d1 x2 x a3 f0 f1 x3 HY hlo HL HLL
  have HFIN : Hid (∀ w5, After w3 w5 → Calls Try.prog 13 #[.agg #[.int .i64 k, .slice ta s tc, .int .i64 c, .int .i64 r, .int .i64 q, .slice ua o uc, .slice va b vc], .agg #[.int .i64 k, .slice sa s sc, .int .i64 c, .int .i64 r, .int .i64 q, .slice oa o oc, .slice ba b bc]] w5 fun e w6 => e = .returned (.bool true) ∧ After w5 w6) := fun w5 a5 => by
    obtain ⟨_, _, _, xa, xb⟩ := HZ.out
    have h := same13 w5 _ _ M M ta tc ua uc va vc sa sc oa oc ba bc (xa.after a5) (xb.after a5) (fun _ => rfl) (fun _ => rfl) (fun _ => rfl) HLO.out.1 HLO.out.2
    rw [HV2.out, HV.out, show eqM M M = true from decide_eq_true ⟨rfl, rfl, rfl, rfl, rfl, rfl, rfl⟩] at h
    exact h
  rcases h3.split with ⟨c9, e1, rfl, _⟩ | ⟨_, us, e1, hbs, hl, pa, pc, rfl, o3⟩
  · rw [e1] at H3
    clear h3 e1
    go_wp2_with fail
    refine H3.out.mono ?_
    clear H3
    rintro e w4 ⟨a4, rfl⟩
    obtain ⟨hA, f0, f1, _, _⟩ := HZ.out
    have g0 := keep2 f0 a4
    have g1 := keep2 f1 a4
    obtain ⟨_, ⟨p0, p1, p2, p3, p4, p5, p6⟩, _⟩ := seven_at g0
    obtain ⟨_, ⟨q0, q1, q2, q3, q4, q5, q6⟩, _⟩ := seven_at g1
    have HE := hideIt (eqBytes_same none none 0 0 0 [] w4 (Row.nil _ _) (Row.nil _ _) (by decide))
    have HA4 := hideIt (And.intro hA (And.intro a4 (And.intro g0 g1)))
    clear hA f0 f1 g0 g1 a4 HZ y0 y1 y2 y3 y4 y5 y6
    go_wp2_with (first
      | (go_at_call 12; refine HE.out.mono ?_; rintro e w5 ⟨rfl, h5⟩; obtain ⟨_, ⟨r0, r1, r2, r3, r4, r5, r6⟩, _⟩ := seven_at (keep2 HA4.out.2.2.1 h5); obtain ⟨_, ⟨s0, s1, s2, s3, s4, s5, s6⟩, _⟩ := seven_at (keep2 HA4.out.2.2.2 h5); have H5 := hideIt h5; clear h5)
      | (go_at_call 13; refine (HFIN.out _ (HA4.out.2.1.trans H5.out)).mono ?_; rintro e w6 ⟨rfl, h6⟩; have H6 := hideIt h6; clear h6)
      | (go_at_call 14; refine (awake_any _).mono ?_; rintro e w7 ⟨rfl, h7⟩; have H7 := hideIt h7; clear h7))
    go_ret
    exact ⟨rfl, HA4.out.1.trans (HA4.out.2.1.trans (H5.out.trans (H6.out.trans H7.out)))⟩
  · rw [e1] at H3
    obtain ⟨pa', pc', hq', r3, _, _, _⟩ := own_row o3 hbs
    cases hq'
    have HP := hideIt (And.intro r3 (And.intro hbs hl))
    clear h3 e1 o3 r3 hbs hl
    generalize hnu : us.length = nu at HP ⊢
    have HNU := hideIt hnu
    clear hnu
    go_wp2_with fail
    refine H3.out.mono ?_
    clear H3
    rintro e w4 ⟨a4, hbs, _, qa, qc, rfl, o4⟩
    obtain ⟨qa', qc', hq', r4, _, _, _⟩ := own_row o4 hbs
    cases hq'
    obtain ⟨hA, f0, f1, _, _⟩ := HZ.out
    have g0 := keep2 f0 a4
    have g1 := keep2 f1 a4
    obtain ⟨_, ⟨p0, p1, p2, p3, p4, p5, p6⟩, _⟩ := seven_at g0
    obtain ⟨_, ⟨q0, q1, q2, q3, q4, q5, q6⟩, _⟩ := seven_at g1
    rw [HNU.out] at r4 ⊢
    have HE := hideIt (eqBytes_same pa qa nu pc qc us w4 (HP.out.1.after a4) r4 (by have := HP.out.2.2; omega))
    have HA4 := hideIt (And.intro hA (And.intro a4 (And.intro g0 g1)))
    clear hA f0 f1 g0 g1 a4 HZ y0 y1 y2 y3 y4 y5 y6 o4 hbs r4
    go_wp2_with (first
      | (go_at_call 12; refine HE.out.mono ?_; rintro e w5 ⟨rfl, h5⟩; obtain ⟨_, ⟨r0, r1, r2, r3, r4, r5, r6⟩, _⟩ := seven_at (keep2 HA4.out.2.2.1 h5); obtain ⟨_, ⟨s0, s1, s2, s3, s4, s5, s6⟩, _⟩ := seven_at (keep2 HA4.out.2.2.2 h5); have H5 := hideIt h5; clear h5)
      | (go_at_call 13; refine (HFIN.out _ (HA4.out.2.1.trans H5.out)).mono ?_; rintro e w6 ⟨rfl, h6⟩; have H6 := hideIt h6; clear h6)
      | (go_at_call 14; refine (awake_any _).mono ?_; rintro e w7 ⟨rfl, h7⟩; have H7 := hideIt h7; clear h7))
    go_ret
    exact ⟨rfl, HA4.out.1.trans (HA4.out.2.1.trans (H5.out.trans (H6.out.trans H7.out)))⟩
end Go.Proofs.Ytigiakhdaaoljaa
/-
  What every row of this seat shares: bytes that are handed in, opened.
-/
namespace Go.Proofs.Ytigiakhdaaoljaa
open Go.ChangeShapes Go.WideShapes Go.ChangeAt Go.RowKit
set_option maxRecDepth 100000
theorem own : ownKnob Try.prog.godebug = none := by kernel_rfl
theorem laidOut : laidOutB Try.prog = true := by kernel_rfl
theorem c5 : Try.prog.cellsOf 5 = 1 := by kernel_rfl
theorem b5 : Try.prog.bytesOf 5 = 1 := by kernel_rfl
theorem c3 : Try.prog.cellsOf 3 = 1 := by kernel_rfl
theorem b3 : Try.prog.bytesOf 3 = 8 := by kernel_rfl
section
variable {H : Type} {enc : TypeId × Value → H} {W : World} {base : Nat} {held : Bool}
/-- How long what is handed in is, by what it reads as. -/
def Shape (d : DataW H) (len : Nat) : Prop := len = 0 ∨ ∃ es sp, d = .slice es sp ∧ es.length = len
theorem open_bytes {r : Reach} {b0 : Nat} {v : Value} {d : DataW H} {p : List MemPlace} (hv : Value.okWide Try.prog W r b0 22 v) (h : DataW.Trod enc Try.prog W base (fun _ => true) held 22 v d p) :
    ∃ a len cap zs, v = .slice a len cap ∧ Row W a len zs ∧ (a = none → len = 0 ∧ cap = 0) ∧ Shape d len ∧ len ≤ cap := by
  obtain ⟨a, len, cap, rfl⟩ := okWide_slice Try.underlying22 hv
  obtain ⟨fuel, hf⟩ := h
  rcases open_ints Try.underlying22 Try.underlying5 c5 hf with ⟨hcs, _⟩ | ⟨x, l, c, zs, hcs, _, hl, hm, hz, hx, hcell, hwz⟩
  · simp [Value.cells] at hcs
    obtain ⟨rfl, rfl, rfl⟩ := hcs
    exact ⟨none, 0, 0, [], rfl, ⟨rfl, fun z hz => by simp at hz, fun i hi => absurd hi (by omega)⟩, fun _ => ⟨rfl, rfl⟩, .inl rfl, Nat.le_refl _⟩
  · simp [Value.cells] at hcs
    obtain ⟨rfl, rfl, rfl⟩ := hcs
    have hz' : zs.length = cap := by simpa using hz
    refine ⟨some x, len, cap, zs.take len, rfl, ⟨by rw [List.length_take]; omega, fun z hz => ?_, fun i hi => ?_⟩, (fun h => by cases h), .inr ⟨_, _, congrArg Prod.fst hx, by simp [lits]; omega⟩, hl⟩
    · have hb := bounds_u8 (hwz z (List.mem_of_mem_take hz))
      omega
    · have hc := hcell i (by omega)
      have hd := hcell 0 (by omega)
      obtain ⟨b, off, spot⟩ := x
      have hspot : spot = none := by simpa [Addr.add] using World.cell?_spot hd
      subst hspot
      have e : (⟨b, off, none⟩ : Addr).add i = ⟨b, off + i, none⟩ := by
        by_cases h0 : i = 0
        · subst h0; simp [Addr.add]
        · simp [Addr.add, h0]
      have hc0 : W.cell? ⟨b, off + i, none⟩ = some (.int .u8 (zs.getD i 0)) := by rw [← e]; exact hc
      have hlt : b < W.heap.size := by
        rcases Nat.lt_or_ge b W.heap.size with h' | h'
        · exact h'
        · unfold World.cell? at hc0
          simp [Array.getElem?_eq_none h'] at hc0
      refine ⟨b, off, rfl, hlt, ?_⟩
      rw [hc0]
      have e : (zs.take len).getD i 0 = zs.getD i 0 := by
        simp [hi]
      rw [e]
theorem sized {ts : List TypeId} {ds : List (DataW H)} {d : DataW H} {len : Nat} (h : (DataW.weightsEach Try.prog ts ds).all (· ≤ reachBytes) = true) (j : Nat) (ht : ts[j]? = some 22) (hd : ds[j]? = some d) (hs : Shape d len) : len ≤ 140737488351232 := by
  rcases hs with rfl | ⟨es, sp, rfl, rfl⟩
  · omega
  · have := sized_slice h ht hd Try.underlying22
    rw [b5] at this
    simp only [reachBytes] at this
    omega
end
end Go.Proofs.Ytigiakhdaaoljaa
