/-
  Laid together: Clone, Ref, RefO.
-/
import Derived.Test.YtigiakhdaaoljaaB01
import Derived.Lib.SliceRun
import Derived.BigQuiet
import Derived.Deep.RegionHeld3
import Derived.Deep.DrawnRows
/-
  bytes.Clone, CopyBytes; New and Octets of package mder.
-/
namespace Go.Proofs.Ytigiakhdaaoljaa
open Go.RowKit
theorem copy_any (a : Option Addr) (n c : Nat) (zs : List Int) (w : World) (hr : Row w a n zs) (ha : a = none → n = 0 ∧ c = 0) (hn : n ≤ 140737488355328) :
    Calls Try.prog 15 #[.slice a n c] w fun e w' => ∃ v, e = .returned v ∧ w'.ownsRow w.heap.size 5 1 v n (u8s zs) ∧ After w w' := by
  obtain ⟨i0, hi, hz0, hz1, hz2⟩ := info_parts Try.info5
  cases a with
  | none =>
    obtain ⟨rfl, rfl⟩ := ha rfl
    have hz : zs = [] := List.length_eq_zero_iff.1 hr.1
    subst hz
    clear hr
    go_enter Try.func15, Try.ntmps15
    go_wp2_with (at_builtin; refine wpList_append_own_none rfl (.tmp 4) (.tmp 5) 22 rfl w.heap.size 5 i0 1 Try.underlying22 hi _ 0 [] rfl (World.ownsRow_nil _ _ _ _) rfl ?_)
    go_ret
    exact ⟨_, rfl, World.ownsRow_nil _ _ _ _, After.rfl⟩
  | some x =>
    have hl : (u8s zs).length = n * 1 := by simp [u8s, hr.1]
    have hnews := row_news hr
    have HL := hideIt hl
    have HW := hideIt hnews
    clear hr ha hl hnews
    go_enter Try.func15, Try.ntmps15
    go_wp2_with (at_builtin; refine wpList_append_own _ rfl (.tmp 4) (.tmp 5) 22 rfl w.heap.size 5 i0 (.int .u8 0) 1 1 Try.underlying22 hi hz0 hz1 hz2 rfl (by decide) _ 0 [] rfl (World.ownsRow_nil _ _ _ _) x n c (u8s zs) rfl HL.out HW.out (u8s_one _) (by unfold maxLen; omega) (by omega) (Nat.le_refl _) ?_; intro v' w1 hown hgrow hnil; rw [Nat.zero_add, List.nil_append] at hown; have HO := hideIt hown; have HG := hideIt hgrow; clear hown hgrow hnil)
    go_ret
    exact ⟨_, rfl, HO.out, But.grown But.rfl HG.out (fun k hk => by cases hk)⟩
theorem clone_any (a : Option Addr) (n c : Nat) (zs : List Int) (w : World) (hr : Row w a n zs) (ha : a = none → n = 0 ∧ c = 0) (hn : n ≤ 140737488355328) :
    Calls Try.prog 46 #[.slice a n c] w fun e w' => ∃ v, e = .returned v ∧ w'.ownsRow w.heap.size 5 1 v n (u8s zs) ∧ After w w' := by
  obtain ⟨i0, hi, hz0, hz1, hz2⟩ := info_parts Try.info5
  cases a with
  | none =>
    obtain ⟨rfl, rfl⟩ := ha rfl
    have hz : zs = [] := List.length_eq_zero_iff.1 hr.1
    subst hz
    clear hr
    have hq := fun W => Lib.run_eql_slice_nil (P := Try.prog) W 22 5 none 0 0 0 0 Try.underlying22
    go_enter Try.func46, Try.ntmps46
    go_wp2
    go_ret
    exact ⟨_, rfl, World.ownsRow_nil _ _ _ _, After.rfl⟩
  | some x =>
    have hl : (u8s zs).length = n * 1 := by simp [u8s, hr.1]
    have HL := hideIt hl
    have HO1 := hideIt (World.ownsRow_lit (base := w.heap.size) (e := 5) (size := 1) w #[] 0 (Nat.le_refl _) (by decide) rfl)
    have HW := hideIt (row_news (hr.after (After.rfl.alloc (.cells #[] 5))))
    clear hr ha hl
    have hq := fun W => Lib.run_eql_slice_nil (P := Try.prog) W 22 5 (some x) n c 0 0 Try.underlying22
    go_enter Try.func46, Try.ntmps46
    go_wp2_with (at_builtin; refine wpList_append_own _ rfl (.tmp 5) (.tmp 6) 22 rfl w.heap.size 5 i0 (.int .u8 0) 1 1 Try.underlying22 hi hz0 hz1 hz2 rfl (by decide) _ 0 [] rfl HO1.out x n c (u8s zs) rfl HL.out HW.out (u8s_one _) (by unfold maxLen; omega) (by omega) (by simp) ?_; intro v' w1 hown hgrow hnil; rw [Nat.zero_add, List.nil_append] at hown; have HO := hideIt hown; have HG := hideIt hgrow; clear hown hgrow hnil)
    go_ret
    refine ⟨_, rfl, HO.out, But.grown (But.rfl.alloc _) HG.out (fun k hk hl => ?_)⟩
    have hk2 : some w.heap.size = some k := hk
    injection hk2 with e
    omega
/-- A reader that is made. -/
theorem rd_new {w w1 : World} {v : Value} {n : Nat} {zs : List Int} (ho : w1.ownsRow w.heap.size 5 1 v n (u8s zs)) (hb : Bs zs) (ha : After w w1) (hn : n ≤ 140737488355328) :
    ∃ h, RdAt (w1.alloc (.cells #[.bool true, v] 101)) w1.heap.size h zs ∧ w.heap.size ≤ h ∧ After w (w1.alloc (.cells #[.bool true, v] 101)) := by
  obtain ⟨a, c, rfl, r1, r2, r3, r4⟩ := own_row ho hb
  have hal : After w1 (w1.alloc (.cells #[.bool true, .slice a n c] 101)) := After.rfl.alloc _
  cases a with
  | none =>
    obtain ⟨rfl, rfl⟩ := r2 rfl
    exact ⟨w1.heap.size, ⟨none, 0, 0, two_new _ _ _ _, r1.after hal, Nat.le_refl _, by omega, .inl ⟨rfl, rfl, rfl, rfl⟩⟩, ha.size, ha.trans hal⟩
  | some x =>
    obtain ⟨e1, e2⟩ := r4 x rfl
    obtain ⟨l1, l2⟩ := ho.lt _ e1
    exact ⟨x.block, ⟨some x, n, c, two_new _ _ _ _, r1.after hal, r3, hn, .inr ⟨0, by rw [← e2], by omega, Nat.lt_of_lt_of_le l2 hal.size⟩⟩, l1, ha.trans hal⟩
theorem new_any (a : Option Addr) (n c : Nat) (zs : List Int) (w : World) (hr : Row w a n zs) (ha : a = none → n = 0 ∧ c = 0) (hn : n ≤ 140737488355328) :
    Calls Try.prog 55 #[.slice a n c] w fun e w' => ∃ g h, e = .returned (Ptr g) ∧ RdAt w' g h zs ∧ w.heap.size ≤ g ∧ w.heap.size ≤ h ∧ After w w' := by
  have HC := hideIt (clone_any a n c zs w hr ha hn)
  have HB := hideIt hr.2.1
  clear hr ha
  go_enter Try.func55, Try.ntmps55
  go_wp2_with fail
  refine HC.out.mono ?_
  rintro e w1 ⟨v, rfl, ho, ha⟩
  obtain ⟨a1, c1, rfl, _⟩ := own_row ho HB.out
  have HR := hideIt (rd_new ho HB.out ha hn)
  have HS := hideIt ha.size
  clear ho ha
  go_wp2
  go_ret
  obtain ⟨h, r1, r2, r3⟩ := HR.out
  exact ⟨_, h, rfl, r1, HS.out, r2, r3⟩
/-- A copy of a reader. -/
theorem rd_ahead {w : World} {g h : Nat} {zs : List Int} {a : Option Addr} {n c : Nat} (h2 : Row w a n zs) (h3 : n ≤ c) (h4 : n ≤ 140737488355328) (h5 : (a = none ∧ n = 0 ∧ c = 0 ∧ h = g) ∨ ∃ off, a = some ⟨h, off, none⟩ ∧ h ≠ g ∧ h < w.heap.size) :
    ∃ h', RdAt (w.alloc (.cells #[.bool true, .slice a n c] 101)) w.heap.size h' zs ∧ (0 < zs.length → h' = h ∧ h ≠ g ∧ h < w.heap.size) := by
  have hal : After w (w.alloc (.cells #[.bool true, .slice a n c] 101)) := After.rfl.alloc _
  have hl := h2.1
  rcases h5 with ⟨rfl, rfl, rfl, rfl⟩ | ⟨off, rfl, hne, hhl⟩
  · exact ⟨w.heap.size, ⟨none, 0, 0, two_new _ _ _ _, h2.after hal, h3, h4, .inl ⟨rfl, rfl, rfl, rfl⟩⟩, fun h => absurd h (by omega)⟩
  · exact ⟨h, ⟨_, n, c, two_new _ _ _ _, h2.after hal, h3, h4, .inr ⟨off, rfl, by omega, Nat.lt_of_lt_of_le hhl hal.size⟩⟩, fun _ => ⟨rfl, hne, hhl⟩⟩
/-- A reader whose cells are stored anew. -/
theorem rd_back {w : World} {g h : Nat} {zs : List Int} {a : Option Addr} {n c : Nat} (h2 : Row w a n zs) (h3 : n ≤ c) (h4 : n ≤ 140737488355328) (off : Nat) (ha : a = some ⟨h, off, none⟩) (hne : h ≠ g) (hhl : h < w.heap.size) (W : World) (hW : W.heap[g]? = some (.cells #[.bool true, .slice a n c] 101 (0, 0))) (hb : But (One g) w W) : RdAt W g h zs :=
  ⟨a, n, c, hW, h2.but hb (fun x hx => by rw [ha] at hx; cases hx; exact hne), h3, h4, .inr ⟨off, ha, hne, Nat.lt_of_lt_of_le hhl hb.size⟩⟩
set_option maxHeartbeats 1000000 in
theorem octets_short (w : World) (g h : Nat) (zs : List Int) (r : RdAt w g h zs) (hz : ¬ 2 ≤ zs.length) :
    Calls Try.prog 77 #[Ptr g] w fun e w' => e = .returned (.tuple #[.slice none 0 0, .int .i64 3]) ∧ After w w' := by
  obtain ⟨a, n, c, h1, h2, h3, h4, h5⟩ := r
  have HN := hideIt (isNone_no h1)
  obtain ⟨_, hc0, hc1, hf0, hf1⟩ := two_at h1
  obtain ⟨h', ra, _⟩ := rd_ahead h2 h3 h4 h5
  have HU := hideIt (u16_any _ _ _ _ ra)
  have HE := hideIt (rdErr_no hz)
  clear h1 h2 h3 h4 h5 ra hz
  go_enter Try.func77, Try.ntmps77
  go_wp2_with (first
    | (go_at_call 79; refine HN.out.mono ?_; rintro e w' ⟨rfl, rfl⟩)
    | (go_at_call 74; refine HU.out.mono ?_; rintro e w1 ⟨rfl, _, hb⟩; rw [HE.out]; have HB := hideIt hb; clear hb))
  go_ret2
  refine ⟨rfl, After.then (After.rfl.alloc _) HB.out (fun i hi t => ?_)⟩
  have t2 : i = w'.heap.size := t
  omega
set_option maxHeartbeats 1000000 in
theorem octets_long (w : World) (g h : Nat) (zs : List Int) (r : RdAt w g h zs) (hz : 2 ≤ zs.length) (hl : ¬ ocN zs ≤ zs.length - 2) :
    Calls Try.prog 77 #[Ptr g] w fun e w' => e = .returned (.tuple #[.slice none 0 0, .int .i64 3]) ∧ After w w' := by
  have hbs := r.bs
  obtain ⟨a, n, c, h1, h2, h3, h4, h5⟩ := r
  have HN := hideIt (isNone_no h1)
  obtain ⟨_, hc0, hc1, hf0, hf1⟩ := two_at h1
  obtain ⟨h', ra, _⟩ := rd_ahead h2 h3 h4 h5
  have HU := hideIt (u16_any _ _ _ _ ra)
  have HE := hideIt (rdErr_yes hz)
  have HV := hideIt ((rdVal_yes hz).trans (ocN_int hbs hz).1)
  have HR := hideIt (rdRest_yes hz)
  have HL := hideIt (show ¬ ocN zs ≤ (zs.drop 2).length by rw [List.length_drop]; exact hl)
  clear h1 h2 h3 h4 h5 ra hz hl
  go_enter Try.func77, Try.ntmps77
  go_wp2_with (first
    | (go_at_call 79; refine HN.out.mono ?_; rintro e w' ⟨rfl, rfl⟩)
    | (go_at_call 74; refine HU.out.mono ?_; rintro e w1 ⟨rfl, hq, hb⟩; rw [HE.out, HV.out]; rw [HR.out] at hq; have HB := hideIt hb; have HQ := hideIt (take_no _ _ _ _ _ hq HL.out); clear hb hq; generalize ocN zs = k at *)
    | (go_at_call 88; refine HQ.out.mono ?_; rintro e w2 ⟨rfl, rfl⟩))
  go_ret2
  refine ⟨rfl, After.then (After.rfl.alloc _) HB.out (fun i hi t => ?_)⟩
  have t2 : i = w'.heap.size := t
  omega
set_option maxHeartbeats 1000000 in
theorem octets_yes (w : World) (g h k : Nat) (zs : List Int) (r : RdAt w g h zs) (hz : 2 ≤ zs.length) (hk : ocN zs = k) (hl : k ≤ zs.length - 2) :
    Calls Try.prog 77 #[Ptr g] w fun e w' => ∃ v, e = .returned (.tuple #[v, .int .i64 0]) ∧ w'.ownsRow w.heap.size 5 1 v k (u8s ((zs.drop 2).take k)) ∧ RdAt w' g h ((zs.drop 2).drop k) ∧ But (One g) w w' := by
  have hbs := r.bs
  obtain ⟨a, n, c, h1, h2, h3, h4, h5⟩ := r
  have HN := hideIt (isNone_no h1)
  obtain ⟨hgl, hc0, hc1, hf0, hf1⟩ := two_at h1
  have H1 := hideIt h1
  obtain ⟨h', ra, hh⟩ := rd_ahead h2 h3 h4 h5
  obtain ⟨rfl, hne, hhl⟩ := hh (by omega)
  have HU := hideIt (u16_any _ _ _ _ ra)
  have HE := hideIt (rdErr_yes hz)
  have hv := (rdVal_yes hz).trans (ocN_int hbs hz).1
  have hk2 := (ocN_int hbs hz).2
  rw [hk] at hv hk2
  have HV := hideIt hv
  have HR := hideIt (rdRest_yes hz)
  have HL := hideIt (show k ≤ (zs.drop 2).length by rw [List.length_drop]; exact hl)
  have HK := hideIt hk2
  clear h1 h2 h3 h4 h5 ra hz hl hh hk hv hk2
  go_enter Try.func77, Try.ntmps77
  go_wp2_with (first
    | (go_at_call 79; refine HN.out.mono ?_; rintro e w' ⟨rfl, rfl⟩)
    | (go_at_call 74; refine HU.out.mono ?_; rintro e w1 ⟨rfl, hq, hb⟩; rw [HE.out, HV.out]; rw [HR.out] at hq; have HB := hideIt hb; have HQ := hideIt (take_yes _ _ _ _ _ hq HL.out); clear hb hq HU HE HV HR))
  refine HQ.out.mono ?_
  rintro e w2 ⟨a2, rfl, r2, d2, b2, o2, n2⟩
  obtain ⟨off2, rfl⟩ := o2 (by omega)
  obtain ⟨a3, n3, c3, p1, p2, p3, p4, p5⟩ := d2
  have hB := HB.out.then b2 (fun _ _ t => t)
  have hg2 : w2.heap[g]? = some (.cells #[.bool true, .slice a n c] 101 (0, 0)) := by
    rw [hB.block g (by simp; omega) (fun t => by have t2 : g = w'.heap.size := t; omega), Below.heap_alloc _ _ _ hgl]; exact H1.out
  have hA2 : After w' w2 := After.then (After.rfl.alloc _) hB (fun i hi t => by have t2 : i = w'.heap.size := t; omega)
  obtain ⟨_, q0, q1, qf0, qf1⟩ := two_at p1
  obtain ⟨_, s0, s1, sf0, sf1⟩ := two_at hg2
  have e3 : ∃ off, a3 = some ⟨h', off, none⟩ := by
    rcases p5 with ⟨_, _, _, e⟩ | ⟨off, e, _⟩
    · omega
    · exact ⟨off, e⟩
  obtain ⟨off3, rfl⟩ := e3
  have b3 : But (One g) w2 ((w2.setCell ⟨g, 0, none⟩ (.bool true)).setCell ⟨g, 1, none⟩ (.slice (some ⟨h', off3, none⟩) n3 c3)) := (But.own1 _ _ _ _).trans (But.own1 _ _ _ _)
  have r3 := rd_back (g := g) p2 p3 p4 off3 rfl hne (Nat.lt_of_lt_of_le hhl hA2.size) _ (two_set1 (two_set0 hg2 _) _) b3
  have HC := hideIt (clone_any _ k k _ _ (r2.but b3 (fun x hx => by cases hx; exact hne)) (fun hx => by cases hx) (by have := HK.out; omega))
  have H3 := hideIt r3
  have HA2 := hideIt hA2
  have HB3 := hideIt b3
  clear p1 p2 p3 p4 p5 hB hg2 hA2 b3 r3 HQ HB r2 b2 o2 n2 hc0 hc1 hf0 hf1 hbs
  go_wp2_with fail
  refine HC.out.mono ?_
  rintro e w4 ⟨v, rfl, o4, a4⟩
  have HO := hideIt (own_base o4 (C := w'.heap.size) (fun j hj => by have h1 := (o4.lt j hj).1; have h2 := HA2.out.size; have h3 := HB3.out.size; omega))
  have HR4 := hideIt (H3.out.after a4)
  have HB4 := hideIt (((HA2.out.but (S := One g)).trans HB3.out).trans a4.but)
  clear o4 a4
  go_wp2
  go_ret2
  exact ⟨_, rfl, HO.out, HR4.out, HB4.out⟩
theorem octets_any (w : World) (g h : Nat) (zs : List Int) (r : RdAt w g h zs) :
    Calls Try.prog 77 #[Ptr g] w fun e w' => ∃ v, e = .returned (.tuple #[v, .int .i64 (ocErr zs)]) ∧ w'.ownsRow w.heap.size 5 1 v (ocVal zs).length (u8s (ocVal zs)) ∧ RdAt w' g h (ocRest zs) ∧ But (One g) w w' := by
  by_cases hy : 2 ≤ zs.length ∧ ocN zs ≤ zs.length - 2
  · obtain ⟨e1, e2, e3, e4⟩ := oc_yes hy.1 hy.2
    refine (octets_yes w g h _ zs r hy.1 rfl hy.2).mono ?_
    rintro e w' ⟨v, rfl, h1, h2, h3⟩
    rw [e4, e1, e2, e3]
    exact ⟨v, rfl, h1, h2, h3⟩
  · obtain ⟨e1, e2, e3⟩ := oc_no hy
    rw [e1, e2, e3]
    by_cases hz : 2 ≤ zs.length
    · refine (octets_long w g h zs r hz (fun hl => hy ⟨hz, hl⟩)).mono ?_
      rintro e w' ⟨rfl, ha⟩
      exact ⟨_, rfl, World.ownsRow_nil _ _ _ _, r.after ha, ha.but⟩
    · refine (octets_short w g h zs r hz).mono ?_
      rintro e w' ⟨rfl, ha⟩
      exact ⟨_, rfl, World.ownsRow_nil _ _ _ _, r.after ha, ha.but⟩
end Go.Proofs.Ytigiakhdaaoljaa
/-
  The document's reader: New, number, U8, U16, U32, Octets, Left.
-/
namespace Go.Proofs.Ytigiakhdaaoljaa
set_option maxRecDepth 8000
open Go.RowKit
attribute [local go_sem ↓] Go.wp_at_zero Go.wp_at_succ
/-- At block g there is the document's reader, at the place k of the bytes fs, which lie in block h (g itself: nowhere). -/
def RfX (w : World) (g h : Nat) (a : Option Addr) (n c k : Nat) (fs : List Int) : Prop :=
  w.heap[g]? = some (.cells #[.slice a n c, .int .i64 (k : Nat)] 103 (0, 0)) ∧ Row w a n fs ∧ n ≤ c ∧ n ≤ 140737488355328 ∧ k ≤ n ∧ ((a = none ∧ n = 0 ∧ c = 0 ∧ h = g) ∨ ∃ off, a = some ⟨h, off, none⟩ ∧ h ≠ g ∧ h < w.heap.size)
/-- The bytes zs are left to it. -/
def RfAt (w : World) (g h : Nat) (zs : List Int) : Prop := ∃ a n c k fs, RfX w g h a n c k fs ∧ zs = fs.drop k
theorem RfX.but {S : Nat → Prop} {w w' : World} {g h : Nat} {a : Option Addr} {n c k : Nat} {fs : List Int} (r : RfX w g h a n c k fs) (b : But S w w') (hg : ¬ S g) (hh : ¬ S h) : RfX w' g h a n c k fs := by
  obtain ⟨h1, h2, h3, h4, h6, h5⟩ := r
  refine ⟨(b.block g (two_at h1).1 hg).trans h1, h2.but b (fun x hx => ?_), h3, h4, h6, h5.imp_right (fun ⟨off, e, hne, hl⟩ => ⟨off, e, hne, Nat.lt_of_lt_of_le hl b.size⟩)⟩
  rcases h5 with ⟨e, _⟩ | ⟨off, e, _⟩
  · rw [e] at hx; cases hx
  · rw [e] at hx; cases hx; exact hh
theorem RfAt.but {S : Nat → Prop} {w w' : World} {g h : Nat} {zs : List Int} (r : RfAt w g h zs) (b : But S w w') (hg : ¬ S g) (hh : ¬ S h) : RfAt w' g h zs := by
  obtain ⟨a, n, c, k, fs, r, e⟩ := r
  exact ⟨a, n, c, k, fs, r.but b hg hh, e⟩
theorem RfAt.after {w w' : World} {g h : Nat} {zs : List Int} (r : RfAt w g h zs) (b : After w w') : RfAt w' g h zs := r.but b (fun t => t) (fun t => t)
theorem RfAt.bs {w : World} {g h : Nat} {zs : List Int} (r : RfAt w g h zs) : Bs zs := by
  obtain ⟨a, n, c, k, fs, ⟨h1, h2, h3, h4, h6, h5⟩, h7⟩ := r
  rw [h7]; exact h2.2.1.drop k
theorem RfAt.lt {w : World} {g h : Nat} {zs : List Int} (r : RfAt w g h zs) : g < w.heap.size := by
  obtain ⟨a, n, c, k, fs, ⟨h1, _⟩, _⟩ := r
  exact (two_at h1).1
theorem rf_new {w w1 : World} {v : Value} {n : Nat} {zs : List Int} (ho : w1.ownsRow w.heap.size 5 1 v n (u8s zs)) (hb : Bs zs) (ha : After w w1) (hn : n ≤ 140737488355328) :
    ∃ h, RfAt (w1.alloc (.cells #[v, .int .i64 0] 103)) w1.heap.size h zs ∧ w.heap.size ≤ h ∧ After w (w1.alloc (.cells #[v, .int .i64 0] 103)) := by
  obtain ⟨a, c, rfl, r1, r2, r3, r4⟩ := own_row ho hb
  have hal : After w1 (w1.alloc (.cells #[.slice a n c, .int .i64 0] 103)) := After.rfl.alloc _
  cases a with
  | none =>
    obtain ⟨rfl, rfl⟩ := r2 rfl
    exact ⟨w1.heap.size, ⟨none, 0, 0, 0, zs, ⟨two_new _ _ _ _, r1.after hal, Nat.le_refl _, by omega, Nat.le_refl _, .inl ⟨rfl, rfl, rfl, rfl⟩⟩, rfl⟩, ha.size, ha.trans hal⟩
  | some x =>
    obtain ⟨e1, e2⟩ := r4 x rfl
    obtain ⟨l1, l2⟩ := ho.lt _ e1
    exact ⟨x.block, ⟨some x, n, c, 0, zs, ⟨two_new _ _ _ _, r1.after hal, r3, hn, Nat.zero_le _, .inr ⟨0, by rw [← e2], by omega, Nat.lt_of_lt_of_le l2 hal.size⟩⟩, rfl⟩, l1, ha.trans hal⟩
theorem refNew_any (a : Option Addr) (n c : Nat) (zs : List Int) (w : World) (hr : Row w a n zs) (ha : a = none → n = 0 ∧ c = 0) (hn : n ≤ 140737488355328) :
    Calls Try.prog 56 #[.slice a n c] w fun e w' => ∃ g h, e = .returned (Ptr g) ∧ RfAt w' g h zs ∧ w.heap.size ≤ g ∧ w.heap.size ≤ h ∧ After w w' := by
  have HC := hideIt (copy_any a n c zs w hr ha hn)
  have HB := hideIt hr.2.1
  clear hr ha
  go_enter Try.func56, Try.ntmps56
  go_wp2_with fail
  refine HC.out.mono ?_
  rintro e w1 ⟨v, rfl, ho, ha⟩
  obtain ⟨a1, c1, rfl, _⟩ := own_row ho HB.out
  have HR := hideIt (rf_new ho HB.out ha hn)
  have HS := hideIt ha.size
  clear ho ha
  go_wp2
  go_ret
  obtain ⟨h, r1, r2, r3⟩ := HR.out
  exact ⟨_, h, rfl, r1, HS.out, r2, r3⟩
theorem refLeft_any (w : World) (g h : Nat) (zs : List Int) (r : RfAt w g h zs) :
    Calls Try.prog 58 #[Ptr g] w fun e w' => e = .returned (.int .i64 zs.length) ∧ After w w' := by
  obtain ⟨a, n, c, k, fs, ⟨h1, h2, h3, h4, h6, h5⟩, h7⟩ := r
  obtain ⟨_, hc0, hc1, hf0, hf1⟩ := two_at h1
  have HL := hideIt (show ((n : Int) - (k : Int)) = ((zs.length : Nat) : Int) by rw [h7, List.length_drop, h2.1]; omega)
  have k1 : (k : Int) ≤ (n : Int) := by omega
  have k2 : (n : Int) ≤ 140737488355328 := by omega
  clear h1 h2 h3 h5 h4 h6 h7
  go_enter Try.func58, Try.ntmps58
  go_wp2_with fail
  go_quiet (fail)
  go_wp2
  go_ret
  exact ⟨ret_int HL.out, After.rfl.draws _⟩
theorem getD_drop' (zs : List Int) (k i : Nat) : zs.getD (k + i) 0 = (zs.drop k).getD i 0 := (getD_drop zs k i).symm
/-- Behind the store of the place. -/
theorem rf_store {w : World} {g h n c k : Nat} {a : Option Addr} {fs : List Int} (r : RfX w g h a n c k fs) (m : Nat) (hm : m ≤ n) (q : Int) (hq : q = ((m : Nat) : Int)) :
    RfX (w.setCell ⟨g, 1, none⟩ (.int .i64 q)) g h a n c m fs ∧ But (One g) w (w.setCell ⟨g, 1, none⟩ (.int .i64 q)) := by
  have hb : But (One g) w (w.setCell ⟨g, 1, none⟩ (.int .i64 q)) := But.own1 _ _ _ _
  obtain ⟨h1, h2, h3, h4, h6, h5⟩ := r
  subst hq
  refine ⟨⟨two_set1 h1 _, h2.but hb (fun x hx => ?_), h3, h4, hm, h5.imp_right (fun ⟨off, e, hne, hl⟩ => ⟨off, e, hne, Nat.lt_of_lt_of_le hl hb.size⟩)⟩, hb⟩
  rcases h5 with ⟨e, _⟩ | ⟨off, e, hne, _⟩
  · rw [e] at hx; cases hx
  · rw [e] at hx; cases hx; exact hne
set_option maxRecDepth 100000 in
set_option maxHeartbeats 1000000 in
theorem refNumber_x (w : World) (g h m : Nat) (a : Option Addr) (n c k : Nat) (fs zs : List Int) (r : RfX w g h a n c k fs) (hm : m ≤ 4) (h0 : 0 < m) (h7 : zs = fs.drop k) (hl : m ≤ zs.length) :
    Calls Try.prog 71 #[Ptr g, .int .i64 m] w fun e w' => e = .returned (.tuple #[.int .i64 (be (zs.take m)), .int .i64 0]) ∧ RfX w' g h a n c (k + m) fs ∧ But (One g) w w' := by
  have HX := hideIt r
  obtain ⟨h1, h2, h3, h4, h6, h5⟩ := r
  have hbs : Bs zs := by rw [h7]; exact h2.2.1.drop k
  obtain ⟨_, hc0, hc1, hf0, hf1⟩ := two_at h1
  have hz : zs.length = n - k := by rw [h7, List.length_drop, h2.1]
  have k1 : (k : Int) + (m : Int) ≤ (n : Int) := by omega
  have k2 : (n : Int) ≤ 140737488355328 := by omega
  have k3 : (m : Int) ≤ 4 := by omega
  have hS : ∀ nq, RfX ((w.drewN nq).setCell ⟨g, 1, none⟩ (.int .i64 ((k : Int) + (m : Int)))) g h a n c (k + m) fs ∧ But (One g) (w.drewN nq) ((w.drewN nq).setCell ⟨g, 1, none⟩ (.int .i64 ((k : Int) + (m : Int)))) := fun nq =>
    rf_store (HX.out.but (After.rfl.draws nq) (fun t => t) (fun t => t)) (k + m) (by omega) _ (by simp)
  have HS := hideIt hS
  have H2 := hideIt h2
  have HB := hideIt hbs
  have HL := hideIt hl
  have HM := hideIt hm
  have H0 := hideIt h0
  have H7 := hideIt h7
  have HZ := hideIt hz
  have Z0 := hideIt (be_zero zs).symm
  clear h1 h2 h3 h4 h5 h6 h7 hbs hl hm h0 hS hz
  go_enter Try.func71, Try.ntmps71
  go_wp2_with fail
  go_quiet (fail)
  go_wp2_with fail
  go_loopw [6, 7] (fun s i W => ∃ j nq : Nat, j ≤ m ∧ i = .int .i64 j ∧ s = .int .i64 (be (zs.take j)) ∧ W = w.drewN nq) (fun _ i _ => m - (intOf i).toNat)
  case atStart => exact ⟨0, nq, by omega, rfl, congrArg (fun x : Int => Value.int .i64 x) Z0.out, rfl⟩
  case round =>
    obtain ⟨j, nq2, hj, rfl, rfl, rfl⟩ := hrel
    by_cases hlt : j < m
    · obtain ⟨b, off, x, rfl, hbl, hx, hzx, hcx⟩ := H2.out.at (i := k + j) (by omega)
      rw [getD_drop', ← H7.out] at hzx
      have hmm := be_more (zs := zs) (i := j) (by have := HL.out; omega)
      have hbd := be_below HB.out hlt HM.out HL.out
      rw [hzx] at hmm
      obtain ⟨v, hv⟩ := Int.eq_ofNat_of_zero_le hbd.1
      rw [hv] at hmm hbd ⊢
      have HMM := hideIt hmm
      have k4 : (v : Int) < 16777216 := by omega
      have k5 : (x : Int) < 256 := by omega
      have k6 : (k : Int) + (j : Int) < (n : Int) := by omega
      have k7 : (j : Int) < (m : Int) := by omega
      have hcx2 : w.cell? ⟨b, off + (k + j), none⟩ = some (.int .u8 x) := hcx
      clear H2 HB HL Z0 hmm hv hzx hbd HS hcx hx hlt
      go_wp2_with fail
      go_quiet (fail)
      go_wp2
      go_roundw
      case rel => exact ⟨j + 1, nq2 + nq, by omega, by go_num, congrArg (fun x : Int => Value.int .i64 x) HMM.out.symm, rfl⟩
      case measure => simp [intOf]; omega
    · obtain rfl : j = m := by omega
      obtain ⟨s1, s2⟩ := HS.out nq2
      have S1 := hideIt s1
      have S2 := hideIt ((After.but (S := One g) (After.rfl.draws nq2)).trans s2)
      clear s1 s2 HS
      go_wp2
      go_ret2
      exact ⟨rfl, S1.out, S2.out⟩
theorem refNumber_yes (w : World) (g h m : Nat) (zs : List Int) (r : RfAt w g h zs) (hm : m ≤ 4) (h0 : 0 < m) (hl : m ≤ zs.length) :
    Calls Try.prog 71 #[Ptr g, .int .i64 m] w fun e w' => e = .returned (.tuple #[.int .i64 (be (zs.take m)), .int .i64 0]) ∧ RfAt w' g h (zs.drop m) ∧ But (One g) w w' := by
  obtain ⟨a, n, c, k, fs, r, h7⟩ := r
  refine (refNumber_x w g h m a n c k fs zs r hm h0 h7 hl).mono ?_
  rintro e w' ⟨rfl, h1, h2⟩
  exact ⟨rfl, ⟨a, n, c, k + m, fs, h1, by rw [h7, List.drop_drop]⟩, h2⟩
theorem refNumber_no (w : World) (g h m : Nat) (zs : List Int) (r : RfAt w g h zs) (hm : m ≤ 4) (hl : ¬ m ≤ zs.length) :
    Calls Try.prog 71 #[Ptr g, .int .i64 m] w fun e w' => e = .returned (.tuple #[.int .i64 0, .int .i64 3]) ∧ After w w' := by
  obtain ⟨a, n, c, k, fs, ⟨h1, h2, h3, h4, h6, h5⟩, h7⟩ := r
  obtain ⟨_, hc0, hc1, hf0, hf1⟩ := two_at h1
  have hz : zs.length = n - k := by rw [h7, List.length_drop, h2.1]
  have k1 : (n : Int) - (k : Int) < (m : Int) := by omega
  have k0 : (k : Int) ≤ (n : Int) := by omega
  have k2 : (n : Int) ≤ 140737488355328 := by omega
  have k3 : (m : Int) ≤ 4 := by omega
  clear h1 h2 h3 h4 h5 h6 h7 hl hm hz
  go_enter Try.func71, Try.ntmps71
  go_wp2_with fail
  go_quiet (fail)
  go_wp2
  go_ret2
  exact ⟨rfl, After.rfl.draws _⟩
theorem refNumber_any (w : World) (g h m : Nat) (zs : List Int) (r : RfAt w g h zs) (hm : m ≤ 4) (h0 : 0 < m) :
    Calls Try.prog 71 #[Ptr g, .int .i64 m] w fun e w' => e = .returned (.tuple #[.int .i64 (rdVal m zs), .int .i64 (rdErr m zs)]) ∧ RfAt w' g h (rdRest m zs) ∧ But (One g) w w' := by
  by_cases hl : m ≤ zs.length
  · rw [rdVal_yes hl, rdErr_yes hl, rdRest_yes hl]
    exact refNumber_yes w g h m zs r hm h0 hl
  · rw [rdVal_no hl, rdErr_no hl, rdRest_no hl]
    refine (refNumber_no w g h m zs r hm hl).mono ?_
    rintro e w' ⟨rfl, ha⟩
    exact ⟨rfl, r.after ha, ha.but⟩
theorem refU8_any (w : World) (g h : Nat) (zs : List Int) (r : RfAt w g h zs) :
    Calls Try.prog 85 #[Ptr g] w fun e w' => e = .returned (.tuple #[.int .i64 (rdVal 1 zs), .int .i64 (rdErr 1 zs)]) ∧ RfAt w' g h (rdRest 1 zs) ∧ But (One g) w w' := by
  have HT := hideIt (refNumber_any w g h 1 zs r (by decide) (by decide))
  generalize rdVal 1 zs = v at *
  generalize rdErr 1 zs = q at *
  generalize rdRest 1 zs = ys at *
  clear r
  go_enter Try.func85, Try.ntmps85
  go_wp2_with (go_at_call 71; refine HT.out.mono ?_; rintro e w1 ⟨rfl, hr, hb⟩; have HR := hideIt hr; have HB := hideIt hb; clear hr hb)
  go_ret2
  exact ⟨rfl, HR.out, HB.out⟩
theorem refU16_any (w : World) (g h : Nat) (zs : List Int) (r : RfAt w g h zs) :
    Calls Try.prog 57 #[Ptr g] w fun e w' => e = .returned (.tuple #[.int .i64 (rdVal 2 zs), .int .i64 (rdErr 2 zs)]) ∧ RfAt w' g h (rdRest 2 zs) ∧ But (One g) w w' := by
  have HT := hideIt (refNumber_any w g h 2 zs r (by decide) (by decide))
  generalize rdVal 2 zs = v at *
  generalize rdErr 2 zs = q at *
  generalize rdRest 2 zs = ys at *
  clear r
  go_enter Try.func57, Try.ntmps57
  go_wp2_with (go_at_call 71; refine HT.out.mono ?_; rintro e w1 ⟨rfl, hr, hb⟩; have HR := hideIt hr; have HB := hideIt hb; clear hr hb)
  go_ret2
  exact ⟨rfl, HR.out, HB.out⟩
end Go.Proofs.Ytigiakhdaaoljaa
/-
  The document's Octets.
-/
namespace Go.Proofs.Ytigiakhdaaoljaa
set_option maxRecDepth 8000
open Go.RowKit
attribute [local go_sem ↓] Go.wp_at_zero Go.wp_at_succ
theorem refOctets_short (w : World) (g h : Nat) (zs : List Int) (r : RfAt w g h zs) (hz : ¬ 2 ≤ zs.length) :
    Calls Try.prog 59 #[Ptr g] w fun e w' => e = .returned (.tuple #[.slice none 0 0, .int .i64 3]) ∧ After w w' := by
  have HT := hideIt (refNumber_no w g h 2 zs r (by decide) hz)
  obtain ⟨a, n, c, k, fs, ⟨h1, h2, h3, h4, h6, h5⟩, h7⟩ := r
  obtain ⟨_, hc0, hc1, hf0, hf1⟩ := two_at h1
  clear h1 h2 h3 h4 h5 h6 h7 hz
  go_enter Try.func59, Try.ntmps59
  go_wp2_with (go_at_call 71; refine HT.out.mono ?_; rintro e w1 ⟨rfl, ha⟩; have HA := hideIt ha; clear ha)
  go_ret2
  exact ⟨rfl, HA.out⟩
set_option maxHeartbeats 1000000 in
theorem refOctets_long (w : World) (g h q : Nat) (zs : List Int) (r : RfAt w g h zs) (hz : 2 ≤ zs.length) (hq : ocN zs = q) (hl : ¬ q ≤ zs.length - 2) :
    Calls Try.prog 59 #[Ptr g] w fun e w' => e = .returned (.tuple #[.slice none 0 0, .int .i64 3]) ∧ RfAt w' g h zs ∧ But (One g) w w' := by
  have hbs := r.bs
  obtain ⟨a, n, c, k, fs, r, h7⟩ := r
  have HT := hideIt (refNumber_x w g h 2 a n c k fs zs r (by decide) (by decide) h7 hz)
  have hv := (ocN_int hbs hz).1
  have hv2 := (ocN_int hbs hz).2
  rw [hq] at hv hv2
  have HV := hideIt hv
  have H7 := hideIt h7
  obtain ⟨h1, h2, h3, h4, h6, h5⟩ := r
  obtain ⟨_, hc0, hc1, hf0, hf1⟩ := two_at h1
  have hzl : zs.length = n - k := by rw [h7, List.length_drop, h2.1]
  have k1 : (n : Int) - ((k : Int) + 2) < (q : Int) := by omega
  have k0 : (k : Int) + 2 ≤ (n : Int) := by omega
  have k2 : (n : Int) ≤ 140737488355328 := by omega
  have k3 : (q : Int) < 65536 := by omega
  clear h1 h2 h3 h4 h5 h6 h7 hl hz hzl hv hv2 hq hbs
  go_enter Try.func59, Try.ntmps59
  go_wp2_with (go_at_call 71; refine HT.out.mono ?_; rintro e w1 ⟨rfl, hr, hb⟩; rw [HV.out]; have HR := hideIt hr; have HB := hideIt hb; clear hr hb hc0 hc1 hf0 hf1; obtain ⟨_, hc0, hc1, hf0, hf1⟩ := two_at HR.out.1)
  go_quiet (fail)
  obtain ⟨s1, s2⟩ := rf_store (HR.out.but (S := Non) (After.rfl.draws nq) (fun t => t) (fun t => t)) k (by omega) (k : Int) rfl
  have S1 := hideIt s1
  have S2 := hideIt ((HB.out.draws nq).trans s2)
  clear s1 s2
  go_wp2
  go_ret2
  exact ⟨rfl, ⟨a, n, c, k, fs, S1.out, H7.out⟩, S2.out⟩
/-- What is behind the call of the copy. -/
theorem rf_cut {W : World} {g h off n c p q : Nat} {fs : List Int} (r : RfX W g h (some ⟨h, off, none⟩) n c p fs) (hp : p + q ≤ n) (o' c' : Nat) (ho : o' = off + p ∨ (o' = off ∧ q = 0)) :
    Calls Try.prog 15 #[.slice (some ⟨h, o', none⟩) q c'] W fun e w' => ∃ v, e = .returned v ∧ w'.ownsRow W.heap.size 5 1 v q (u8s ((fs.drop p).take q)) ∧ After W w' := by
  obtain ⟨h1, h2, h3, h4, h6, h5⟩ := r
  refine copy_any _ q _ _ _ ?_ (fun e => by cases e) (by omega)
  rcases ho with rfl | ⟨rfl, rfl⟩
  · exact (h2.drop (k := p) (by omega)).take (by omega)
  · rw [List.take_zero]; exact Row.nil _ _
set_option maxRecDepth 100000 in
set_option maxHeartbeats 1000000 in
theorem refOctets_yes (w : World) (g h q : Nat) (zs : List Int) (r : RfAt w g h zs) (hz : 2 ≤ zs.length) (hq : ocN zs = q) (hl : q ≤ zs.length - 2) :
    Calls Try.prog 59 #[Ptr g] w fun e w' => ∃ v, e = .returned (.tuple #[v, .int .i64 0]) ∧ w'.ownsRow w.heap.size 5 1 v q (u8s ((zs.drop 2).take q)) ∧ RfAt w' g h ((zs.drop 2).drop q) ∧ But (One g) w w' := by
  have hbs := r.bs
  obtain ⟨a, n, c, k, fs, r, h7⟩ := r
  have hT := refNumber_x w g h 2 a n c k fs zs r (by decide) (by decide) h7 hz
  have hv := (ocN_int hbs hz).1
  have hv2 := (ocN_int hbs hz).2
  rw [hq] at hv hv2
  have HV := hideIt hv
  obtain ⟨h1, h2, h3, h4, h6, h5⟩ := r
  obtain ⟨_, hc0, hc1, hf0, hf1⟩ := two_at h1
  have hzl : zs.length = n - k := by rw [h7, List.length_drop, h2.1]
  have e5 : ∃ off, a = some ⟨h, off, none⟩ := by
    rcases h5 with ⟨_, e, _⟩ | ⟨off, e, _⟩
    · omega
    · exact ⟨off, e⟩
  obtain ⟨off, rfl⟩ := e5
  obtain ⟨p, hp⟩ : ∃ p, k + 2 = p := ⟨_, rfl⟩
  rw [hp] at hT
  have HT := hideIt hT
  have H7 := hideIt (show zs.drop 2 = fs.drop p by rw [h7, List.drop_drop, hp])
  have k1 : (p : Int) + (q : Int) ≤ (n : Int) := by omega
  have k2 : (n : Int) ≤ 140737488355328 := by omega
  have k3 : (q : Int) < 65536 := by omega
  have k4 : (p : Int) + (q : Int) ≤ (c : Int) := by omega
  have k5 : decide ((n : Int) - (p : Int) < (q : Int)) = false := by rw [decide_eq_false_iff_not]; omega
  have k6 : (p : Int) ≤ (p : Int) + (q : Int) := by omega
  have k7 : IntKind.i64.wrap ((p : Int) + (q : Int)) = (p : Int) + (q : Int) := by simp [IntKind.wrap, IntKind.signed, IntKind.bits]; omega
  clear h1 h2 h4 h5 h6 h7 hl hz hzl hv hv2 hq hbs hT hp
  by_cases k8 : c = p
  · obtain rfl : q = 0 := by omega
    subst k8
    have k9 : IntKind.i64.wrap (c : Int) = (c : Int) := by simp [IntKind.wrap, IntKind.signed, IntKind.bits]; omega
    clear h3 k6 k7 k4
    go_enter Try.func59, Try.ntmps59
    go_wp2_with (go_at_call 71; refine HT.out.mono ?_; rintro e w1 ⟨rfl, hr, hb⟩; rw [HV.out]; have HR := hideIt hr; have HB := hideIt hb; clear hr hb hc0 hc1 hf0 hf1; obtain ⟨_, hc0, hc1, hf0, hf1⟩ := two_at HR.out.1)
    go_quiet (fail)
    go_wp2_with fail
    have HC := hideIt (fun j => rf_cut (HR.out.but (S := Non) (After.rfl.draws j) (fun t => t) (fun t => t)) (show c + 0 ≤ n by omega) (off) (0) (.inr ⟨rfl, rfl⟩))
    go_region_held3 (fun W => W.cell? ⟨g, 0, none⟩ = some (.slice (some ⟨h, off, none⟩) n c) ∧ W.cell? ⟨g, 1, none⟩ = some (.int .i64 (c : Int))) (first | go_keep | exact ⟨x0, x1⟩)
      (first | (go_at_call 15; refine (HC.out _).mono ?_; rintro e w3 ⟨v, rfl, o3, a3⟩; have HO3 := hideIt o3; have HA3 := hideIt ((After.rfl.draws (nq + 1)).trans a3); have x0 := (HA3.out.cell (g := g) (by assumption) 0).trans hc0; have x1 := (HA3.out.cell (g := g) (by assumption) 1).trans hc1; have x2 := two_at ((HR.out.but HA3.out (fun t => t) (fun t => t)).1); clear o3 a3))
    obtain ⟨_, _, _, y1, y2⟩ := x2
    obtain ⟨s1, s2⟩ := rf_store (HR.out.but HA3.out (fun t => t) (fun t => t)) (c + 0) (by omega) (c : Int) (by simp)
    have S1 := hideIt s1
    have S2 := hideIt ((HB.out.trans (HA3.out.but)).trans s2)
    have S3 := hideIt (own_but (own_base HO3.out (C := w.heap.size) (fun j hj => by have h1 := (HO3.out.lt j hj).1; have h2 := HB.out.size; have h3 : (w1.drewN (nq + 1)).heap.size = w1.heap.size := rfl; omega)) s2 (fun j hj t => by have h1 := (HO3.out.lt j hj).1; have h3 : (w1.drewN (nq + 1)).heap.size = w1.heap.size := rfl; have h4 : j = g := t; omega))
    clear s1 s2
    go_wp2
    go_ret2
    refine ⟨_, rfl, ?_, ⟨_, n, c, c + 0, fs, S1.out, ?_⟩, S2.out⟩
    · rw [H7.out]; exact S3.out
    · rw [H7.out, List.drop_drop]
  · have k9 : ((p : Int) + (q : Int)).toNat - p = q := by omega
    clear h3
    go_enter Try.func59, Try.ntmps59
    go_wp2_with (go_at_call 71; refine HT.out.mono ?_; rintro e w1 ⟨rfl, hr, hb⟩; rw [HV.out]; have HR := hideIt hr; have HB := hideIt hb; clear hr hb hc0 hc1 hf0 hf1; obtain ⟨_, hc0, hc1, hf0, hf1⟩ := two_at HR.out.1)
    go_quiet (fail)
    go_wp2_with fail
    have HC := hideIt (fun j => rf_cut (HR.out.but (S := Non) (After.rfl.draws j) (fun t => t) (fun t => t)) (show p + q ≤ n by omega) (off + p) (c - p) (.inl rfl))
    go_region_held3 (fun W => W.cell? ⟨g, 0, none⟩ = some (.slice (some ⟨h, off, none⟩) n c) ∧ W.cell? ⟨g, 1, none⟩ = some (.int .i64 (p : Int))) (first | go_keep | exact ⟨x0, x1⟩)
      (first | (go_at_call 15; refine (HC.out _).mono ?_; rintro e w3 ⟨v, rfl, o3, a3⟩; have HO3 := hideIt o3; have HA3 := hideIt ((After.rfl.draws (nq + 1)).trans a3); have x0 := (HA3.out.cell (g := g) (by assumption) 0).trans hc0; have x1 := (HA3.out.cell (g := g) (by assumption) 1).trans hc1; have x2 := two_at ((HR.out.but HA3.out (fun t => t) (fun t => t)).1); clear o3 a3))
    obtain ⟨_, _, _, y1, y2⟩ := x2
    obtain ⟨s1, s2⟩ := rf_store (HR.out.but HA3.out (fun t => t) (fun t => t)) (p + q) (by omega) ((p : Int) + (q : Int)) (by simp)
    have S1 := hideIt s1
    have S2 := hideIt ((HB.out.trans (HA3.out.but)).trans s2)
    have S3 := hideIt (own_but (own_base HO3.out (C := w.heap.size) (fun j hj => by have h1 := (HO3.out.lt j hj).1; have h2 := HB.out.size; have h3 : (w1.drewN (nq + 1)).heap.size = w1.heap.size := rfl; omega)) s2 (fun j hj t => by have h1 := (HO3.out.lt j hj).1; have h3 : (w1.drewN (nq + 1)).heap.size = w1.heap.size := rfl; have h4 : j = g := t; omega))
    clear s1 s2
    go_wp2
    go_ret2
    refine ⟨_, rfl, ?_, ⟨_, n, c, p + q, fs, S1.out, ?_⟩, S2.out⟩
    · rw [H7.out]; exact S3.out
    · rw [H7.out, List.drop_drop]
theorem refOctets_any (w : World) (g h : Nat) (zs : List Int) (r : RfAt w g h zs) :
    Calls Try.prog 59 #[Ptr g] w fun e w' => ∃ v, e = .returned (.tuple #[v, .int .i64 (ocErr zs)]) ∧ w'.ownsRow w.heap.size 5 1 v (ocVal zs).length (u8s (ocVal zs)) ∧ RfAt w' g h (ocRest zs) ∧ But (One g) w w' := by
  by_cases hy : 2 ≤ zs.length ∧ ocN zs ≤ zs.length - 2
  · obtain ⟨e1, e2, e3, e4⟩ := oc_yes hy.1 hy.2
    refine (refOctets_yes w g h _ zs r hy.1 rfl hy.2).mono ?_
    rintro e w' ⟨v, rfl, h1, h2, h3⟩
    rw [e4, e1, e2, e3]
    exact ⟨v, rfl, h1, h2, h3⟩
  · obtain ⟨e1, e2, e3⟩ := oc_no hy
    rw [e1, e2, e3]
    by_cases hz : 2 ≤ zs.length
    · refine (refOctets_long w g h _ zs r hz rfl (fun hl => hy ⟨hz, hl⟩)).mono ?_
      rintro e w' ⟨rfl, hr, hb⟩
      exact ⟨_, rfl, World.ownsRow_nil _ _ _ _, hr, hb⟩
    · refine (refOctets_short w g h zs r hz).mono ?_
      rintro e w' ⟨rfl, ha⟩
      exact ⟨_, rfl, World.ownsRow_nil _ _ _ _, r.after ha, ha.but⟩
end Go.Proofs.Ytigiakhdaaoljaa
