/-
  Feed, New and Pending of the document's deframer.
-/
import Derived.Test.YtmdbpoknehafaaaFeed
import Derived.Test.YtmdbpoknehafaaaStepR
namespace Go.Proofs.Ytmdbpoknehafaaa
open Go.RowKit
/-- Bytes that are appended to bytes of one's own. -/
theorem app_row {w : World} {ops : Array Oper} {rest : List Oper} {o : Oper} {act : Act} {Q : Exit → Act → World → Prop} (hgd : o.guard = none) (s x : Operand)
    (ho : o.op = .call { callee := .builtin .append, args := #[s, x], argTypes := #[27, 27] }) (B : Nat) (v : Value) (n : Nat) (zs : List Int) (hs : act.eval s = v) (hown : w.ownsRow B 5 1 v n (u8s zs))
    (a : Option Addr) (m c : Nat) (ys : List Int) (hx : act.eval x = .slice a m c) (hr : Row w a m ys) (ha : a = none → m = 0 ∧ c = 0) (hb : n + m ≤ 140737488355328) (hbase : B ≤ w.heap.size)
    (h : ∀ v' w', w'.ownsRow B 5 1 v' (n + m) (u8s (zs ++ ys)) → But (fun k => v.ownBlock = some k) w w' → wpList Try.prog ops Q rest (act.put o.dst v') w') : wpList Try.prog ops Q (o :: rest) act w := by
  obtain ⟨i0, hi, hz0, hz1, hz2⟩ := info_parts Try.info5
  cases a with
  | none =>
    obtain ⟨rfl, rfl⟩ := ha rfl
    have hz : ys = [] := List.length_eq_zero_iff.1 hr.1
    subst hz
    refine wpList_append_own_none hgd s x 27 ho B 5 i0 1 Try.underlying27 hi v n (u8s zs) hs hown hx ?_
    refine h v w ?_ But.rfl
    rw [List.append_nil]; exact hown
  | some ad =>
    have hl1 : (u8s ys).length = m * 1 := by simp [u8s, hr.1]
    refine wpList_append_own w hgd s x 27 ho B 5 i0 (.int .u8 0) 1 1 Try.underlying27 hi hz0 hz1 hz2 rfl (by decide) v n (u8s zs) hs hown ad m c (u8s ys) hx hl1 (row_news hr) (u8s_one _) (by unfold maxLen; omega) (by omega) hbase ?_
    intro v' w' h1 h2 _
    rw [u8s_append] at h1
    exact h v' w' h1 (But.grown But.rfl h2 (fun k hk _ => hk))
theorem cut_three {p : Prop} [Decidable p] {b o o' B C g : Nat} {x : Addr} (h : (if p then some (⟨b, o, none⟩ : Addr) else some ⟨b, o', none⟩) = some x) (h1 : b < B) (h2 : b ≠ g) (h3 : C ≤ b) : x.block < B ∧ x.block ≠ g ∧ C ≤ x.block ∧ x = ⟨x.block, x.off, none⟩ := by
  split at h <;> (cases h; exact ⟨h1, h2, h3, rfl⟩)
/-- How long the slice is that lies at the head of a block. -/
def lenAt (g : Nat) (W : World) : Nat := match W.cell? ⟨g, 0, none⟩ with
  | some v => lenV v
  | none => 0
theorem lenAt_of {g n c : Nat} {a : Option Addr} {T : TypeId} {W : World} (h : W.heap[g]? = some (.cells #[.slice a n c] T (0, 0))) : lenAt g W = n := by
  unfold lenAt; rw [(one_at h).2.1]; rfl
set_option maxRecDepth 100000 in
set_option maxHeartbeats 400000 in
theorem refFeed_any (w : World) (g h : Nat) (zs : List Int) (a : Option Addr) (n c : Nat) (ys : List Int) (r : RfAt w g h zs) (hr : Row w a n ys) (ha : a = none → n = 0 ∧ c = 0) (hl : zs.length + n ≤ 140737488355328) (hf : (frs (zs ++ ys)).length * 24 ≤ 140737488355328) :
    Calls Try.prog 13 #[Ptr g, .slice a n c] w fun e w' => ∃ v h', e = .returned (.tuple #[v, .int .i64 (drp (zs ++ ys) : Nat), .int .i64 0]) ∧ Frs w' w.heap.size v (frs (zs ++ ys)) ∧ RfAt w' g h' (rst (zs ++ ys)) ∧ (h' = g ∨ w.heap.size ≤ h') ∧ But (One g) w w' := by
  obtain ⟨i0, hi, hz0, hz1, hz2⟩ := info_parts Try.info27
  obtain ⟨a0, n0, c0, r1, r2, r3, r4, r5⟩ := r
  have R1 := hideIt r1
  obtain ⟨hgl, hc0, hf0⟩ := one_at r1
  have hl0 := r2.1
  have hl1 := hr.1
  obtain ⟨T, hT⟩ : ∃ T, T = zs ++ ys := ⟨_, rfl⟩
  rw [← hT] at hf ⊢
  have HT : Hid (T.length ≤ 140737488355328) := by unfold Hid; rw [hT, List.length_append]; omega
  have HBT := hideIt (r2.2.1.append hr.2.1)
  rw [← hT] at HBT
  have HD := hideIt (drp_le T)
  have HF := hideIt hf
  have HTT := hideIt hT
  have HY := hideIt hr
  have HNO := hideIt ha
  have hnn : n0 + n ≤ 140737488355328 := by omega
  have HCP := hideIt (copy_any a0 n0 c0 zs w r2 r4 (by omega))
  clear r1 r2 r3 r4 r5 hr ha hl hf hl0 hl1 hT
  go_enter Try.func13, Try.ntmps13
  go_wp2_with fail
  refine HCP.out.mono ?_
  rintro e w1 ⟨v1, rfl, o1, a1⟩
  have O1 := hideIt o1
  have A1 := hideIt a1
  have Y1 := hideIt (HY.out.after a1)
  have hg1 : w1.heap[g]? = some (.cells #[.slice a0 n0 c0] 47 (0, 0)) := by rw [a1.block g hgl (fun t => t)]; exact R1.out
  clear o1 a1 HCP hc0 hf0
  go_wp2_with (at_builtin; refine app_row rfl (.tmp 16) (.tmp 17) rfl w.heap.size v1 n0 zs rfl O1.out a n c ys rfl Y1.out HNO.out hnn A1.out.size ?_; intro v2 w2 hown hgrow; rw [← HTT.out] at hown; obtain ⟨a2, c2, rfl⟩ := own_slice hown; have hg2 : w2.heap[g]? = some (.cells #[.slice a0 n0 c0] 47 (0, 0)) := (by rw [hgrow.block g (Nat.lt_of_lt_of_le hgl A1.out.size) (fun t => by have := (O1.out.lt g t).1; omega)]; exact hg1); obtain ⟨_, k0, kf0⟩ := one_at hg2; have HG2 := hideIt hg2; have O2 := hideIt hown; have G2 := hideIt (But.then A1.out hgrow (S := Non) (fun i hi t => by have := (O1.out.lt i t).1; omega)); clear hown hgrow hg2 hg1)
  obtain ⟨w3, hw3⟩ : ∃ w3, w3 = w2.setCell ⟨g, 0, none⟩ (.slice a2 (n0 + n) c2) := ⟨_, rfl⟩
  rw [← hw3]
  have hg3 : w3.heap[g]? = some (.cells #[.slice a2 (n0 + n) c2] 47 (0, 0)) := by rw [hw3]; exact one_set HG2.out _
  have b3 : But (One g) w2 w3 := by rw [hw3]; exact But.own1 w2 g 0 _
  obtain ⟨a2', c2', e2', q1, q2, q3, q4⟩ := own_row O2.out HBT.out
  cases e2'
  have hq5 : ∀ x, a2 = some x → x.block < w3.heap.size ∧ x.block ≠ g ∧ w.heap.size ≤ x.block ∧ x = ⟨x.block, x.off, none⟩ := fun x hx => by
    have h1 := O2.out.lt _ (q4 x hx).1
    have h2 := b3.size
    refine ⟨by omega, by omega, by omega, ?_⟩
    rw [(q4 x hx).2]
  have HQ := hideIt (q1.but b3 (fun x hx t => (hq5 x hx).2.1 t))
  have HQ2 := hideIt q2
  have HQ3 := hideIt q3
  have HQ5 := hideIt hq5
  have HG3 := hideIt hg3
  have B3 := hideIt ((After.but G2.out).then b3 (S := One g) (fun _ _ t => t))
  clear hw3 hg3 b3 q1 q2 q3 q4 hq5 k0 kf0 O1 A1 Y1 HG2 O2 G2 HBT HY HNO
  go_wp2_with fail
  go_loopw [7, 8] (fun v d W => ∃ (fs : List (List Int)) (k : Nat) (a : Option Addr) (n c : Nat) (us : List Int), d = .int .i64 k ∧ W.heap[g]? = some (.cells #[.slice a n c] 47 (0, 0)) ∧ Row W a n us ∧ n ≤ c ∧ (a = none → n = 0 ∧ c = 0) ∧ n ≤ 140737488355328 ∧ (∀ x, a = some x → x.block < w3.heap.size ∧ x.block ≠ g ∧ w.heap.size ≤ x.block ∧ x = ⟨x.block, x.off, none⟩) ∧ Frs W w3.heap.size v fs ∧ frs T = fs ++ frs us ∧ drp T = k + drp us ∧ rst T = rst us ∧ But (One g) w3 W) (fun _ _ W => lenAt g W)
  case atStart => exact ⟨[], 0, a2, n0 + n, c2, T, rfl, HG3.out, HQ.out, HQ3.out, HQ2.out, hnn, HQ5.out, Frs.nil _ _, rfl, by omega, rfl, But.rfl⟩
  case round =>
    obtain ⟨fs, k, a3, n2, c3, us, rfl, hgr, hr, hc, hno, hn, hbb, hfr, e1, e2, e3, hB⟩ := hrel
    have hul := hr.1
    have hgw : g < w3.heap.size := Nat.lt_of_lt_of_le hgl B3.out.size
    have hB3 : w3.heap.size ≤ wr.heap.size := hB.size
    have HR := hideIt hr
    have HB := hideIt hB
    have HFR := hideIt hfr
    have HBB := hideIt hbb
    have HNO := hideIt hno
    have E1 := hideIt e1
    have E2 := hideIt e2
    have E3 := hideIt e3
    have HGR := hideIt hgr
    obtain ⟨hgl2, gc0, gf0⟩ := one_at hgr
    have hku : k + drp us ≤ 140737488355328 := by have h1 := HD.out; have h2 := HT.out; omega
    have HST := hideIt (step_any a3 n2 c3 us wr hr hc hn)
    have HL := hideIt (lenAt_of hgr)
    clear hr hB hfr e1 e2 e3 hbb hno hgr HQ HQ2 HQ3 HQ5 HG3
    go_wp2_with fail
    refine HST.out.mono ?_
    rintro e w4 ⟨x, rfl, x1, x2, x3⟩
    have A4 := hideIt x3
    have hg4 : w4.heap[g]? = some (.cells #[.slice a3 n2 c3] 47 (0, 0)) := by rw [x3.block g hgl2 (fun t => t)]; exact HGR.out
    obtain ⟨hgl4, hc4, hf4⟩ := one_at hg4
    have HG4 := hideIt hg4
    have HR4 := hideIt (HR.out.after x3)
    have HFR4 := hideIt (HFR.out.after x3)
    have HB4 := hideIt (HB.out.then (x3.but (S := One g)) (fun _ _ t => t))
    clear HST HR HFR HB HGR x3 hg4 gc0 gf0
    have hkl := kind_lt us
    by_cases k0 : kindOf us = 0
    · obtain ⟨f1, f2, f3⟩ := fed_none k0
      have F1 := hideIt f1
      have F2 := hideIt f2
      have F3 := hideIt f3
      rw [x1 (by omega), show goneOf us = 0 by unfold goneOf; rw [if_pos k0]]
      clear f1 f2 f3 k0 hkl x1 x2
      go_wp2
      go_ret3
      have hb : But (One g) w w4 := B3.out.trans HB4.out
      have hd : ∃ h', RfAt w4 g h' us ∧ (h' = g ∨ w.heap.size ≤ h') := by
        cases a3 with
        | none => exact ⟨g, ⟨none, n2, c3, HG4.out, HR4.out, hc, HNO.out, .inl ⟨rfl, rfl⟩⟩, .inl rfl⟩
        | some y =>
          obtain ⟨l1, l2, l3, l4⟩ := HBB.out y rfl
          exact ⟨y.block, ⟨_, n2, c3, HG4.out, HR4.out, hc, HNO.out, .inr ⟨y.off, by rw [← l4], l2, Nat.lt_of_lt_of_le l1 HB4.out.size⟩⟩, .inr l3⟩
      obtain ⟨h', d1, d2⟩ := hd
      refine ⟨u7, h', ?_, ?_, ?_, d2, hb⟩
      · rw [E2.out, F2.out]; rfl
      · rw [E1.out, F1.out, List.append_nil]; exact HFR4.out.base (Nat.le_trans (But.size B3.out) (Nat.le_refl _))
      · rw [E3.out, F3.out]; exact d1
    · have hpos := kind_pos k0
      obtain ⟨b, off, rfl, _⟩ := HR4.out.2.2 0 (by omega)
      obtain ⟨l1, l2, l3, _⟩ := HBB.out _ rfl
      have L1 : b < w3.heap.size := l1
      have L2 : b ≠ g := l2
      have L3 : w.heap.size ≤ b := l3
      have hcn : (n2 : Int) ≤ (c3 : Int) := by omega
      have HR5 : Hid (∀ q a5 c5, q ≤ n2 → Row (w4.setCell ⟨g, 0, none⟩ (.slice a5 (n2 - q) c5)) (some ⟨b, off, none⟩) n2 us ∧ But (One g) w3 (w4.setCell ⟨g, 0, none⟩ (.slice a5 (n2 - q) c5)) ∧ (w4.setCell ⟨g, 0, none⟩ (.slice a5 (n2 - q) c5)).heap[g]? = some (.cells #[.slice a5 (n2 - q) c5] 47 (0, 0)) ∧ Frs (w4.setCell ⟨g, 0, none⟩ (.slice a5 (n2 - q) c5)) w3.heap.size u7 fs) := fun q a5 c5 hq => by
        have b5 : But (One g) w4 (w4.setCell ⟨g, 0, none⟩ (.slice a5 (n2 - q) c5)) := But.own1 w4 g 0 _
        refine ⟨HR4.out.but b5 (fun y hy t => by cases hy; exact L2 t), HB4.out.trans b5, one_set HG4.out _, HFR4.out.but b5 (fun i hi t => ?_)⟩
        have t2 : i = g := t
        omega
      clear l1 l2 l3 HBB HNO
      by_cases k1 : kindOf us = 1
      · obtain ⟨f1, f2, f3⟩ := fed_drop k1
        rw [x1 (by omega), show goneOf us = 1 by unfold goneOf; rw [if_neg k0, if_pos k1]]
        have G1 : Hid (frs T = fs ++ frs (us.drop 1)) := by unfold Hid; rw [E1.out, f1]
        have G2 : Hid (drp T = k + 1 + drp (us.drop 1)) := by unfold Hid; rw [E2.out, f2]; omega
        have G3 : Hid (rst T = rst (us.drop 1)) := by unfold Hid; rw [E3.out, f3]
        have hk1 : k + 1 ≤ 140737488355328 := by omega
        have hc1 : (1 : Int) ≤ (n2 : Int) := by omega
        have hq := fun W => Lib.run_eql_slice_nil (P := Try.prog) W 27 5 none 0 0 0 0 Try.underlying27
        clear f1 f2 f3 k0 k1 hkl hku E1 E2 E3 x1 x2 HR4 HB4 HFR4
        go_wp2
        go_roundw
        case rel =>
          obtain ⟨y1, y2, y3, y4⟩ := HR5.out 1 (if c3 = 1 then some ⟨b, off, none⟩ else some ⟨b, off + 1, none⟩) (c3 - 1) (by omega)
          exact ⟨fs, k + 1, _, n2 - 1, c3 - 1, us.drop 1, by go_num, y3, row_cut y1 (by omega) hc, by omega, fun h => (cut_some h).elim, by omega, fun y hy => cut_three hy L1 L2 L3, y4, G1.out, G2.out, G3.out, y2⟩
        case measure =>
          obtain ⟨y1, y2, y3, y4⟩ := HR5.out 1 (if c3 = 1 then some ⟨b, off, none⟩ else some ⟨b, off + 1, none⟩) (c3 - 1) (by omega)
          rw [lenAt_of y3, HL.out]; omega
      · have k2 : kindOf us = 2 := by omega
        obtain ⟨f1, f2, f3⟩ := fed_frame k2
        obtain ⟨_, m1, m2, m3, _⟩ := kind_two k2
        have hbl := body_length k2
        have o2 := x2 k2
        rw [show goneOf us = lenOf us + 5 by unfold goneOf; rw [if_neg k0, if_neg k1]]
        have G1 : Hid (frs T = fs ++ [bodyOf us] ++ frs (us.drop (lenOf us + 5))) := by unfold Hid; rw [E1.out, f1, List.append_assoc]; rfl
        have G2 : Hid (drp T = k + drp (us.drop (lenOf us + 5))) := by unfold Hid; rw [E2.out, f2]
        have G3 : Hid (rst T = rst (us.drop (lenOf us + 5))) := by unfold Hid; rw [E3.out, f3]
        have hfl : fs.length + 1 ≤ (frs T).length := by rw [G1.out, List.length_append, List.length_append]; simp
        have hfl2 : (fs.length + 1) * 24 ≤ 140737488355328 := by have := HF.out; omega
        have hbb : Bs (bodyOf us) := (HR4.out.2.1.drop 3).take _
        have hlt : lenOf us + 5 ≤ n2 := by omega
        obtain ⟨gx, cx, rfl, rx, lx, bx, sx⟩ := own_some o2 hbb (by omega)
        have HX := hideIt (show OwnB w4 w3.heap.size (.slice (some ⟨gx, 0, none⟩) (lenOf us) cx) (bodyOf us) from ⟨by rw [hbl]; exact own_base o2 (fun j hj => by have h1 := (o2.lt j hj).1; have h2 := HB4.out.size; have h3 := A4.out.size; have h4 := hB3; omega), hbb⟩)
        clear f1 f2 f3 k0 k1 k2 hkl hku E1 E2 E3 hbl m3 hfl x1 x2 o2 hbb rx
        obtain ⟨us2, hus2⟩ : ∃ us2, us2 = us.drop (lenOf us + 5) := ⟨_, rfl⟩
        rw [← hus2] at G1 G2 G3
        generalize bodyOf us = body at *
        generalize lenOf us = m at *
        obtain ⟨r, hr0⟩ : ∃ r, r = m + 5 := ⟨_, rfl⟩
        rw [← hr0] at hlt hus2 ⊢
        have HRD := hideIt hus2
        have j6 : (r : Int) ≤ (n2 : Int) := by omega
        have j8 : r ≤ 261 := by omega
        have j9 : 6 ≤ r := by omega
        have HRM := hideIt hr0
        clear hr0 hus2
        have hq := fun W => Lib.run_eql_slice_nil (P := Try.prog) W 27 5 (some ⟨gx, 0, none⟩) m cx 0 0 Try.underlying27
        obtain ⟨y1, y2, y3, y4⟩ := HR5.out r (if c3 = r then some ⟨b, off, none⟩ else some ⟨b, off + r, none⟩) (c3 - r) hlt
        have b5 : But (One g) w4 (w4.setCell ⟨g, 0, none⟩ (.slice (if c3 = r then some ⟨b, off, none⟩ else some ⟨b, off + r, none⟩) (n2 - r) (c3 - r))) := But.own1 w4 g 0 _
        have HX5 := hideIt (HX.out.but b5 (fun i hi t => by have t2 : i = g := t; omega))
        obtain ⟨w5, hw5⟩ : ∃ w5, w5 = w4.setCell ⟨g, 0, none⟩ (.slice (if c3 = r then some ⟨b, off, none⟩ else some ⟨b, off + r, none⟩) (n2 - r) (c3 - r)) := ⟨_, rfl⟩
        rw [← hw5] at y1 y2 y3 y4 HX5
        obtain ⟨xs, fx1, fx2⟩ := y4
        have HO5 := hideIt (own_after fx1 (After.rfl.alloc (.cells #[.slice (some ⟨gx, 0, none⟩) m cx] 27)))
        have HF1 := hideIt fx1
        have HE := hideIt fx2
        have Y1 := hideIt y1
        have Y2 := hideIt y2
        have Y3 := hideIt y3
        have HNW := hideIt (World.news_of_block (heap_alloc_new w5 (.cells #[.slice (some ⟨gx, 0, none⟩) m cx] 27)))
        have hs5 : w3.heap.size ≤ w5.heap.size := y2.size
        rw [show w5.heap.size = w4.heap.size by rw [hw5]; simp [World.setCell]] at HNW
        have HW5 := hideIt hw5
        clear HR4 HB4 HFR4 HR5 y1 y2 y3 fx1 fx2 b5 hw5 HX
        go_wp2_with (at_builtin; rw [← HW5.out]; refine wpList_append_own _ rfl (.tmp 46) (.tmp 48) 22 rfl w3.heap.size 27 i0 (.slice none 0 0) 1 24 Try.underlying22 hi hz0 hz1 hz2 rfl (by decide) _ fs.length xs rfl HO5.out _ 1 1 [.slice (some ⟨gx, 0, none⟩) m cx] rfl rfl HNW.out (by simp [Value.oneCell']) (by unfold maxLen; omega) hfl2 (by simp; omega) ?_; intro v6 w6 hown hgrow hnil; have HG6 := hideIt hgrow; have HO6 := hideIt hown; clear hown hgrow hnil)
        have B56 : But (fun q => u7.ownBlock = some q) w5 w6 := But.grown (After.rfl.alloc (.cells #[.slice (some ⟨gx, 0, none⟩) m cx] 27)).but HG6.out (fun q hq _ => hq)
        have HB6 := hideIt (Y2.out.then B56 (fun i hi t => absurd (HO5.out.lt i t).1 (by omega)))
        have HR6 := hideIt (Y1.out.but B56 (fun y hy t => by cases hy; have := (HO5.out.lt b t).1; omega))
        have HG7 := hideIt ((B56.block g (Nat.lt_of_lt_of_le hgw hs5) (fun t => by have := (HO5.out.lt g t).1; omega)).trans Y3.out)
        have HFN := hideIt (Frs.more HF1.out HE.out (HX5.out.but (After.rfl.alloc (.cells #[.slice (some ⟨gx, 0, none⟩) m cx] 27)) (fun _ _ t => t)) (After.rfl.alloc _) HG6.out HO6.out (row_type HF1.out (After.rfl.alloc _)))
        obtain ⟨a6, c6, rfl⟩ := own_slice HO6.out
        clear B56 HO5 HF1 HE Y1 Y2 Y3 HNW HX5 HG6 HO6
        go_wp2
        go_roundw
        case rel => exact ⟨fs ++ [body], k, _, n2 - r, _, us2, rfl, HG7.out, by
            rw [HRD.out]; exact row_cut HR6.out (by omega) hc, by omega, fun h => (cut_some h).elim, by omega, fun y hy => cut_three hy L1 L2 L3, HFN.out, G1.out, G2.out, G3.out, HB6.out⟩
        case measure => rw [lenAt_of HG7.out, HL.out]; omega
theorem refNew_any (w : World) : Calls Try.prog 10 #[] w fun e w' => e = .returned (Ptr w.heap.size) ∧ RfAt w' w.heap.size w.heap.size [] ∧ After w w' := by
  have hd : RfAt (w.alloc (.cells #[.slice none 0 0] 47)) w.heap.size w.heap.size [] := ⟨none, 0, 0, heap_alloc_new w _, Row.nil _ _, Nat.le_refl _, fun _ => ⟨rfl, rfl⟩, .inl ⟨rfl, rfl⟩⟩
  have HD := hideIt hd
  clear hd
  go_enter Try.func10, Try.ntmps10
  go_wp2
  go_ret
  exact ⟨rfl, HD.out, After.rfl.alloc _⟩
theorem refPending_any (w : World) (g h : Nat) (zs : List Int) (r : RfAt w g h zs) : Calls Try.prog 16 #[Ptr g] w fun e w' => e = .returned (.int .i64 (zs.length : Nat)) ∧ w' = w := by
  obtain ⟨a0, n0, c0, r1, r2, r3, r4, r5⟩ := r
  obtain ⟨hgl, hc0, hf0⟩ := one_at r1
  rw [r2.1]
  clear r1 r2 r3 r4 r5
  go_enter Try.func16, Try.ntmps16
  go_wp2
  go_ret
  exact ⟨rfl, rfl⟩
end Go.Proofs.Ytmdbpoknehafaaa
