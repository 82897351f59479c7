/-
  Laid together: Clone, Ref, RefO, Put, Wr, WrO.
-/
import Derived.Test.YthcfdoafncbliaaGreatB01
import Derived.Lib.SliceRun
import Derived.BigQuiet
import Derived.Deep.RegionHeld3
import Derived.Deep.DrawnRows
import Derived.Deep.AppendLies
import Derived.Deep.RegionLaw
/-
  bytes.Clone, CopyBytes; New and Octets of package mder.
-/
namespace Go.Proofs.YthcfdoafncbliaaGreat
open Go.RowKit
theorem copy_any (a : Option Addr) (n c : Nat) (zs : List Int) (w : World) (hr : Row w a n zs) (ha : a = none → n = 0 ∧ c = 0) (hn : n ≤ 140737488355328) :
    Calls Tryz.prog 23 #[.slice a n c] w fun e w' => ∃ v, e = .returned v ∧ w'.ownsRow w.heap.size 5 1 v n (u8s zs) ∧ After w w' := by
  obtain ⟨i0, hi, hz0, hz1, hz2⟩ := info_parts Tryz.info5
  cases a with
  | none =>
    obtain ⟨rfl, rfl⟩ := ha rfl
    have hz : zs = [] := List.length_eq_zero_iff.1 hr.1
    subst hz
    clear hr
    go_enter Tryz.func23, Tryz.ntmps23
    go_wp2_with (at_builtin; refine wpList_append_own_none rfl (.tmp 4) (.tmp 5) 27 rfl w.heap.size 5 i0 1 Tryz.underlying27 hi _ 0 [] rfl (World.ownsRow_nil _ _ _ _) rfl ?_)
    go_ret
    exact ⟨_, rfl, World.ownsRow_nil _ _ _ _, After.rfl⟩
  | some x =>
    have hl : (u8s zs).length = n * 1 := by simp [u8s, hr.1]
    have hnews := row_news hr
    have HL := hideIt hl
    have HW := hideIt hnews
    clear hr ha hl hnews
    go_enter Tryz.func23, Tryz.ntmps23
    go_wp2_with (at_builtin; refine wpList_append_own _ rfl (.tmp 4) (.tmp 5) 27 rfl w.heap.size 5 i0 (.int .u8 0) 1 1 Tryz.underlying27 hi hz0 hz1 hz2 rfl (by decide) _ 0 [] rfl (World.ownsRow_nil _ _ _ _) x n c (u8s zs) rfl HL.out HW.out (u8s_one _) (by unfold maxLen; omega) (by omega) (Nat.le_refl _) ?_; intro v' w1 hown hgrow hnil; rw [Nat.zero_add, List.nil_append] at hown; have HO := hideIt hown; have HG := hideIt hgrow; clear hown hgrow hnil)
    go_ret
    exact ⟨_, rfl, HO.out, But.grown But.rfl HG.out (fun k hk => by cases hk)⟩
theorem clone_any (a : Option Addr) (n c : Nat) (zs : List Int) (w : World) (hr : Row w a n zs) (ha : a = none → n = 0 ∧ c = 0) (hn : n ≤ 140737488355328) :
    Calls Tryz.prog 64 #[.slice a n c] w fun e w' => ∃ v, e = .returned v ∧ w'.ownsRow w.heap.size 5 1 v n (u8s zs) ∧ After w w' := by
  obtain ⟨i0, hi, hz0, hz1, hz2⟩ := info_parts Tryz.info5
  cases a with
  | none =>
    obtain ⟨rfl, rfl⟩ := ha rfl
    have hz : zs = [] := List.length_eq_zero_iff.1 hr.1
    subst hz
    clear hr
    have hq := fun W => Lib.run_eql_slice_nil (P := Tryz.prog) W 27 5 none 0 0 0 0 Tryz.underlying27
    go_enter Tryz.func64, Tryz.ntmps64
    go_wp2
    go_ret
    exact ⟨_, rfl, World.ownsRow_nil _ _ _ _, After.rfl⟩
  | some x =>
    have hl : (u8s zs).length = n * 1 := by simp [u8s, hr.1]
    have HL := hideIt hl
    have HO1 := hideIt (World.ownsRow_lit (base := w.heap.size) (e := 5) (size := 1) w #[] 0 (Nat.le_refl _) (by decide) rfl)
    have HW := hideIt (row_news (hr.after (After.rfl.alloc (.cells #[] 5))))
    clear hr ha hl
    have hq := fun W => Lib.run_eql_slice_nil (P := Tryz.prog) W 27 5 (some x) n c 0 0 Tryz.underlying27
    go_enter Tryz.func64, Tryz.ntmps64
    go_wp2_with (at_builtin; refine wpList_append_own _ rfl (.tmp 5) (.tmp 6) 27 rfl w.heap.size 5 i0 (.int .u8 0) 1 1 Tryz.underlying27 hi hz0 hz1 hz2 rfl (by decide) _ 0 [] rfl HO1.out x n c (u8s zs) rfl HL.out HW.out (u8s_one _) (by unfold maxLen; omega) (by omega) (by simp) ?_; intro v' w1 hown hgrow hnil; rw [Nat.zero_add, List.nil_append] at hown; have HO := hideIt hown; have HG := hideIt hgrow; clear hown hgrow hnil)
    go_ret
    refine ⟨_, rfl, HO.out, But.grown (But.rfl.alloc _) HG.out (fun k hk hl => ?_)⟩
    have hk2 : some w.heap.size = some k := hk
    injection hk2 with e
    omega
/-- A reader that is made. -/
theorem rd_new {w w1 : World} {v : Value} {n : Nat} {zs : List Int} (ho : w1.ownsRow w.heap.size 5 1 v n (u8s zs)) (hb : Bs zs) (ha : After w w1) (hn : n ≤ 140737488355328) :
    ∃ h, RdAt (w1.alloc (.cells #[.bool true, v] 129)) w1.heap.size h zs ∧ w.heap.size ≤ h ∧ After w (w1.alloc (.cells #[.bool true, v] 129)) := by
  obtain ⟨a, c, rfl, r1, r2, r3, r4⟩ := own_row ho hb
  have hal : After w1 (w1.alloc (.cells #[.bool true, .slice a n c] 129)) := After.rfl.alloc _
  cases a with
  | none =>
    obtain ⟨rfl, rfl⟩ := r2 rfl
    exact ⟨w1.heap.size, ⟨none, 0, 0, two_new _ _ _ _, r1.after hal, Nat.le_refl _, by omega, .inl ⟨rfl, rfl, rfl, rfl⟩⟩, ha.size, ha.trans hal⟩
  | some x =>
    obtain ⟨e1, e2⟩ := r4 x rfl
    obtain ⟨l1, l2⟩ := ho.lt _ e1
    exact ⟨x.block, ⟨some x, n, c, two_new _ _ _ _, r1.after hal, r3, hn, .inr ⟨0, by rw [← e2], by omega, Nat.lt_of_lt_of_le l2 hal.size⟩⟩, l1, ha.trans hal⟩
theorem new_any (a : Option Addr) (n c : Nat) (zs : List Int) (w : World) (hr : Row w a n zs) (ha : a = none → n = 0 ∧ c = 0) (hn : n ≤ 140737488355328) :
    Calls Tryz.prog 95 #[.slice a n c] w fun e w' => ∃ g h, e = .returned (Ptr g) ∧ RdAt w' g h zs ∧ w.heap.size ≤ g ∧ w.heap.size ≤ h ∧ After w w' := by
  have HC := hideIt (clone_any a n c zs w hr ha hn)
  have HB := hideIt hr.2.1
  clear hr ha
  go_enter Tryz.func95, Tryz.ntmps95
  go_wp2_with fail
  refine HC.out.mono ?_
  rintro e w1 ⟨v, rfl, ho, ha⟩
  obtain ⟨a1, c1, rfl, _⟩ := own_row ho HB.out
  have HR := hideIt (rd_new ho HB.out ha hn)
  have HS := hideIt ha.size
  clear ho ha
  go_wp2
  go_ret
  obtain ⟨h, r1, r2, r3⟩ := HR.out
  exact ⟨_, h, rfl, r1, HS.out, r2, r3⟩
/-- A copy of a reader. -/
theorem rd_ahead {w : World} {g h : Nat} {zs : List Int} {a : Option Addr} {n c : Nat} (h2 : Row w a n zs) (h3 : n ≤ c) (h4 : n ≤ 140737488355328) (h5 : (a = none ∧ n = 0 ∧ c = 0 ∧ h = g) ∨ ∃ off, a = some ⟨h, off, none⟩ ∧ h ≠ g ∧ h < w.heap.size) :
    ∃ h', RdAt (w.alloc (.cells #[.bool true, .slice a n c] 129)) w.heap.size h' zs ∧ (0 < zs.length → h' = h ∧ h ≠ g ∧ h < w.heap.size) := by
  have hal : After w (w.alloc (.cells #[.bool true, .slice a n c] 129)) := After.rfl.alloc _
  have hl := h2.1
  rcases h5 with ⟨rfl, rfl, rfl, rfl⟩ | ⟨off, rfl, hne, hhl⟩
  · exact ⟨w.heap.size, ⟨none, 0, 0, two_new _ _ _ _, h2.after hal, h3, h4, .inl ⟨rfl, rfl, rfl, rfl⟩⟩, fun h => absurd h (by omega)⟩
  · exact ⟨h, ⟨_, n, c, two_new _ _ _ _, h2.after hal, h3, h4, .inr ⟨off, rfl, by omega, Nat.lt_of_lt_of_le hhl hal.size⟩⟩, fun _ => ⟨rfl, hne, hhl⟩⟩
/-- A reader whose cells are stored anew. -/
theorem rd_back {w : World} {g h : Nat} {zs : List Int} {a : Option Addr} {n c : Nat} (h2 : Row w a n zs) (h3 : n ≤ c) (h4 : n ≤ 140737488355328) (off : Nat) (ha : a = some ⟨h, off, none⟩) (hne : h ≠ g) (hhl : h < w.heap.size) (W : World) (hW : W.heap[g]? = some (.cells #[.bool true, .slice a n c] 129 (0, 0))) (hb : But (One g) w W) : RdAt W g h zs :=
  ⟨a, n, c, hW, h2.but hb (fun x hx => by rw [ha] at hx; cases hx; exact hne), h3, h4, .inr ⟨off, ha, hne, Nat.lt_of_lt_of_le hhl hb.size⟩⟩
set_option maxHeartbeats 1000000 in
theorem octets_short (w : World) (g h : Nat) (zs : List Int) (r : RdAt w g h zs) (hz : ¬ 2 ≤ zs.length) :
    Calls Tryz.prog 93 #[Ptr g] w fun e w' => e = .returned (.tuple #[.slice none 0 0, .int .i64 3]) ∧ After w w' := by
  obtain ⟨a, n, c, h1, h2, h3, h4, h5⟩ := r
  have HN := hideIt (isNone_no h1)
  obtain ⟨_, hc0, hc1, hf0, hf1⟩ := two_at h1
  obtain ⟨h', ra, _⟩ := rd_ahead h2 h3 h4 h5
  have HU := hideIt (u16_any _ _ _ _ ra)
  have HE := hideIt (rdErr_no hz)
  clear h1 h2 h3 h4 h5 ra hz
  go_enter Tryz.func93, Tryz.ntmps93
  go_wp2_with (first
    | (go_at_call 96; refine HN.out.mono ?_; rintro e w' ⟨rfl, rfl⟩)
    | (go_at_call 90; refine HU.out.mono ?_; rintro e w1 ⟨rfl, _, hb⟩; rw [HE.out]; have HB := hideIt hb; clear hb))
  go_ret2
  refine ⟨rfl, After.then (After.rfl.alloc _) HB.out (fun i hi t => ?_)⟩
  have t2 : i = w'.heap.size := t
  omega
set_option maxHeartbeats 1000000 in
theorem octets_long (w : World) (g h : Nat) (zs : List Int) (r : RdAt w g h zs) (hz : 2 ≤ zs.length) (hl : ¬ ocN zs ≤ zs.length - 2) :
    Calls Tryz.prog 93 #[Ptr g] w fun e w' => e = .returned (.tuple #[.slice none 0 0, .int .i64 3]) ∧ After w w' := by
  have hbs := r.bs
  obtain ⟨a, n, c, h1, h2, h3, h4, h5⟩ := r
  have HN := hideIt (isNone_no h1)
  obtain ⟨_, hc0, hc1, hf0, hf1⟩ := two_at h1
  obtain ⟨h', ra, _⟩ := rd_ahead h2 h3 h4 h5
  have HU := hideIt (u16_any _ _ _ _ ra)
  have HE := hideIt (rdErr_yes hz)
  have HV := hideIt ((rdVal_yes hz).trans (ocN_int hbs hz).1)
  have HR := hideIt (rdRest_yes hz)
  have HL := hideIt (show ¬ ocN zs ≤ (zs.drop 2).length by rw [List.length_drop]; exact hl)
  clear h1 h2 h3 h4 h5 ra hz hl
  go_enter Tryz.func93, Tryz.ntmps93
  go_wp2_with (first
    | (go_at_call 96; refine HN.out.mono ?_; rintro e w' ⟨rfl, rfl⟩)
    | (go_at_call 90; refine HU.out.mono ?_; rintro e w1 ⟨rfl, hq, hb⟩; rw [HE.out, HV.out]; rw [HR.out] at hq; have HB := hideIt hb; have HQ := hideIt (take_no _ _ _ _ _ hq HL.out); clear hb hq; generalize ocN zs = k at *)
    | (go_at_call 104; refine HQ.out.mono ?_; rintro e w2 ⟨rfl, rfl⟩))
  go_ret2
  refine ⟨rfl, After.then (After.rfl.alloc _) HB.out (fun i hi t => ?_)⟩
  have t2 : i = w'.heap.size := t
  omega
set_option maxHeartbeats 1000000 in
theorem octets_yes (w : World) (g h k : Nat) (zs : List Int) (r : RdAt w g h zs) (hz : 2 ≤ zs.length) (hk : ocN zs = k) (hl : k ≤ zs.length - 2) :
    Calls Tryz.prog 93 #[Ptr g] w fun e w' => ∃ v, e = .returned (.tuple #[v, .int .i64 0]) ∧ w'.ownsRow w.heap.size 5 1 v k (u8s ((zs.drop 2).take k)) ∧ RdAt w' g h ((zs.drop 2).drop k) ∧ But (One g) w w' := by
  have hbs := r.bs
  obtain ⟨a, n, c, h1, h2, h3, h4, h5⟩ := r
  have HN := hideIt (isNone_no h1)
  obtain ⟨hgl, hc0, hc1, hf0, hf1⟩ := two_at h1
  have H1 := hideIt h1
  obtain ⟨h', ra, hh⟩ := rd_ahead h2 h3 h4 h5
  obtain ⟨rfl, hne, hhl⟩ := hh (by omega)
  have HU := hideIt (u16_any _ _ _ _ ra)
  have HE := hideIt (rdErr_yes hz)
  have hv := (rdVal_yes hz).trans (ocN_int hbs hz).1
  have hk2 := (ocN_int hbs hz).2
  rw [hk] at hv hk2
  have HV := hideIt hv
  have HR := hideIt (rdRest_yes hz)
  have HL := hideIt (show k ≤ (zs.drop 2).length by rw [List.length_drop]; exact hl)
  have HK := hideIt hk2
  clear h1 h2 h3 h4 h5 ra hz hl hh hk hv hk2
  go_enter Tryz.func93, Tryz.ntmps93
  go_wp2_with (first
    | (go_at_call 96; refine HN.out.mono ?_; rintro e w' ⟨rfl, rfl⟩)
    | (go_at_call 90; refine HU.out.mono ?_; rintro e w1 ⟨rfl, hq, hb⟩; rw [HE.out, HV.out]; rw [HR.out] at hq; have HB := hideIt hb; have HQ := hideIt (take_yes _ _ _ _ _ hq HL.out); clear hb hq HU HE HV HR))
  refine HQ.out.mono ?_
  rintro e w2 ⟨a2, rfl, r2, d2, b2, o2, n2⟩
  obtain ⟨off2, rfl⟩ := o2 (by omega)
  obtain ⟨a3, n3, c3, p1, p2, p3, p4, p5⟩ := d2
  have hB := HB.out.then b2 (fun _ _ t => t)
  have hg2 : w2.heap[g]? = some (.cells #[.bool true, .slice a n c] 129 (0, 0)) := by
    rw [hB.block g (by simp; omega) (fun t => by have t2 : g = w'.heap.size := t; omega), Below.heap_alloc _ _ _ hgl]; exact H1.out
  have hA2 : After w' w2 := After.then (After.rfl.alloc _) hB (fun i hi t => by have t2 : i = w'.heap.size := t; omega)
  obtain ⟨_, q0, q1, qf0, qf1⟩ := two_at p1
  obtain ⟨_, s0, s1, sf0, sf1⟩ := two_at hg2
  have e3 : ∃ off, a3 = some ⟨h', off, none⟩ := by
    rcases p5 with ⟨_, _, _, e⟩ | ⟨off, e, _⟩
    · omega
    · exact ⟨off, e⟩
  obtain ⟨off3, rfl⟩ := e3
  have b3 : But (One g) w2 ((w2.setCell ⟨g, 0, none⟩ (.bool true)).setCell ⟨g, 1, none⟩ (.slice (some ⟨h', off3, none⟩) n3 c3)) := (But.own1 _ _ _ _).trans (But.own1 _ _ _ _)
  have r3 := rd_back (g := g) p2 p3 p4 off3 rfl hne (Nat.lt_of_lt_of_le hhl hA2.size) _ (two_set1 (two_set0 hg2 _) _) b3
  have HC := hideIt (clone_any _ k k _ _ (r2.but b3 (fun x hx => by cases hx; exact hne)) (fun hx => by cases hx) (by have := HK.out; omega))
  have H3 := hideIt r3
  have HA2 := hideIt hA2
  have HB3 := hideIt b3
  clear p1 p2 p3 p4 p5 hB hg2 hA2 b3 r3 HQ HB r2 b2 o2 n2 hc0 hc1 hf0 hf1 hbs
  go_wp2_with fail
  refine HC.out.mono ?_
  rintro e w4 ⟨v, rfl, o4, a4⟩
  have HO := hideIt (own_base o4 (C := w'.heap.size) (fun j hj => by have h1 := (o4.lt j hj).1; have h2 := HA2.out.size; have h3 := HB3.out.size; omega))
  have HR4 := hideIt (H3.out.after a4)
  have HB4 := hideIt (((HA2.out.but (S := One g)).trans HB3.out).trans a4.but)
  clear o4 a4
  go_wp2
  go_ret2
  exact ⟨_, rfl, HO.out, HR4.out, HB4.out⟩
theorem octets_any (w : World) (g h : Nat) (zs : List Int) (r : RdAt w g h zs) :
    Calls Tryz.prog 93 #[Ptr g] w fun e w' => ∃ v, e = .returned (.tuple #[v, .int .i64 (ocErr zs)]) ∧ w'.ownsRow w.heap.size 5 1 v (ocVal zs).length (u8s (ocVal zs)) ∧ RdAt w' g h (ocRest zs) ∧ But (One g) w w' := by
  by_cases hy : 2 ≤ zs.length ∧ ocN zs ≤ zs.length - 2
  · obtain ⟨e1, e2, e3, e4⟩ := oc_yes hy.1 hy.2
    refine (octets_yes w g h _ zs r hy.1 rfl hy.2).mono ?_
    rintro e w' ⟨v, rfl, h1, h2, h3⟩
    rw [e4, e1, e2, e3]
    exact ⟨v, rfl, h1, h2, h3⟩
  · obtain ⟨e1, e2, e3⟩ := oc_no hy
    rw [e1, e2, e3]
    by_cases hz : 2 ≤ zs.length
    · refine (octets_long w g h zs r hz (fun hl => hy ⟨hz, hl⟩)).mono ?_
      rintro e w' ⟨rfl, ha⟩
      exact ⟨_, rfl, World.ownsRow_nil _ _ _ _, r.after ha, ha.but⟩
    · refine (octets_short w g h zs r hz).mono ?_
      rintro e w' ⟨rfl, ha⟩
      exact ⟨_, rfl, World.ownsRow_nil _ _ _ _, r.after ha, ha.but⟩
end Go.Proofs.YthcfdoafncbliaaGreat
/-
  The document's reader: New, number, U8, U16, U32, Octets, Left.
-/
namespace Go.Proofs.YthcfdoafncbliaaGreat
set_option maxRecDepth 8000
open Go.RowKit
attribute [local go_sem ↓] Go.wp_at_zero Go.wp_at_succ
theorem getD_drop' (zs : List Int) (k i : Nat) : zs.getD (k + i) 0 = (zs.drop k).getD i 0 := (getD_drop zs k i).symm
end Go.Proofs.YthcfdoafncbliaaGreat
/-
  The document's Octets.
-/
namespace Go.Proofs.YthcfdoafncbliaaGreat
set_option maxRecDepth 8000
open Go.RowKit
attribute [local go_sem ↓] Go.wp_at_zero Go.wp_at_succ
end Go.Proofs.YthcfdoafncbliaaGreat
/-
  A writer of package mder: what it has; isNone, put.
-/
namespace Go.Proofs.YthcfdoafncbliaaGreat
open Go.RowKit
attribute [local go_sem ↓] Go.wp_at_zero Go.wp_at_succ
/-- At block g there is a writer, it has written zs, which lie where v leads. -/
def WrAt (w : World) (g : Nat) (v : Value) (zs : List Int) : Prop :=
  w.heap[g]? = some (.cells #[.bool true, v] 100 (0, 0)) ∧ w.ownsRow 0 5 1 v zs.length (u8s zs) ∧ v.ownBlock ≠ some g ∧ Bs zs
theorem WrAt.but {S : Nat → Prop} {w w' : World} {g : Nat} {v : Value} {zs : List Int} (r : WrAt w g v zs) (b : But S w w') (hg : ¬ S g) (hh : ∀ k, v.ownBlock = some k → ¬ S k) : WrAt w' g v zs :=
  ⟨(b.block g (two_at r.1).1 hg).trans r.1, own_but r.2.1 b hh, r.2.2⟩
theorem WrAt.after {w w' : World} {g : Nat} {v : Value} {zs : List Int} (r : WrAt w g v zs) (b : After w w') : WrAt w' g v zs := r.but b (fun t => t) (fun _ _ t => t)
/-- A value that leads to where v leads, or to what is new. -/
def Grew (w : World) (v v' : Value) : Prop := v'.ownBlock = v.ownBlock ∨ ∃ k, v'.ownBlock = some k ∧ w.heap.size ≤ k
theorem Grew.rfl {w : World} {v : Value} : Grew w v v := .inl (Eq.refl _)
theorem Grew.trans {w w1 : World} {v v1 v2 : Value} (h : Grew w v v1) (h2 : Grew w1 v1 v2) (hs : w.heap.size ≤ w1.heap.size) : Grew w v v2 := by
  rcases h2 with e | ⟨k, e, hk⟩
  · rcases h with e1 | ⟨k, e1, hk⟩
    · exact .inl (e.trans e1)
    · exact .inr ⟨k, e.trans e1, hk⟩
  · exact .inr ⟨k, e, Nat.le_trans hs hk⟩
theorem Own.back {w : World} {g : Nat} {v v1 : Value} (h : Grew w v v1) : ∀ i, i < w.heap.size → Own g v1 i → Own g v i := by
  intro i hi t
  rcases t with t | t
  · exact .inl t
  · rcases h with e | ⟨k, e, hk⟩
    · exact .inr (e ▸ t)
    · rw [e] at t; cases t; omega
/-- A writer that went on. -/
def WrTo (w w' : World) (g : Nat) (v : Value) (zs : List Int) : Prop := ∃ v', WrAt w' g v' zs ∧ But (Own g v) w w' ∧ Grew w v v'
theorem WrTo.trans {w w1 w2 : World} {g : Nat} {v v1 : Value} {zs : List Int} (b : But (Own g v) w w1) (hg : Grew w v v1) (h : WrTo w1 w2 g v1 zs) : WrTo w w2 g v zs := by
  obtain ⟨v2, r, b2, g2⟩ := h
  exact ⟨v2, r, b.then b2 (Own.back hg), hg.trans g2 b.size⟩
theorem wIsNone_no {w : World} {g : Nat} {T : TypeId} {y : Value} (h : w.heap[g]? = some (.cells #[.bool true, y] T (0, 0))) :
    Calls Tryz.prog 63 #[Ptr g] w fun e w' => e = .returned (.bool false) ∧ w' = w := by
  obtain ⟨_, hc0, hc1, hf0, hf1⟩ := two_at h
  clear h
  go_enter Tryz.func63, Tryz.ntmps63
  go_wp2
  go_ret
  exact ⟨rfl, rfl⟩
theorem wIsNone_nil (w : World) : Calls Tryz.prog 63 #[.pointer none] w fun e w' => e = .returned (.bool true) ∧ w' = w := by
  go_enter Tryz.func63, Tryz.ntmps63
  go_wp2
  go_ret
  exact ⟨rfl, rfl⟩
theorem wIsNone_zero {w : World} {g : Nat} {T : TypeId} {y : Value} (h : w.heap[g]? = some (.cells #[.bool false, y] T (0, 0))) :
    Calls Tryz.prog 63 #[Ptr g] w fun e w' => e = .returned (.bool true) ∧ w' = w := by
  obtain ⟨_, hc0, hc1, hf0, hf1⟩ := two_at h
  clear h
  go_enter Tryz.func63, Tryz.ntmps63
  go_wp2
  go_ret
  exact ⟨rfl, rfl⟩
/-- Behind an append to what was written, and its store. -/
theorem wr_set {w W w2 : World} {g n : Nat} {v v' : Value} {zs ys : List Int} (r : WrAt W g v zs) (hb : After W w) (hgrow : w.grownBy w2 v.ownBlock) (ho : w2.ownsRow 0 5 1 v' n (u8s zs ++ u8s ys)) (hn : n = zs.length + ys.length) (hat : Grew W v v') (hy : Bs ys) :
    WrTo W (w2.setCell ⟨g, 1, none⟩ v') g v (zs ++ ys) := by
  obtain ⟨r1, r2, r3, r4⟩ := r
  have hgl := (two_at r1).1
  have e : v'.ownBlock ≠ some g := fun e => by
    rcases hat with h | ⟨k, h, hk⟩
    · exact r3 (by rw [← h, e])
    · rw [h] at e; cases e; omega
  have b1 : But (Own g v) W w2 := But.grown hb.but hgrow (fun k hk _ => .inr hk)
  have hg2 : w2.heap[g]? = some (.cells #[.bool true, v] 100 (0, 0)) := by
    rw [hgrow.block g (Nat.lt_of_lt_of_le hgl hb.size) (fun e => r3 e.symm), hb.block g hgl (fun t => t)]; exact r1
  have b2 : But (Own g v) w2 (w2.setCell ⟨g, 1, none⟩ v') := (But.own1 w2 g 1 _).mono (fun i _ t => .inl t)
  refine ⟨v', ⟨two_set1 hg2 _, ?_, e, r4.append hy⟩, b1.trans b2, hat⟩
  rw [u8s_append] at ho
  rw [List.length_append, ← hn]
  exact own_but ho (But.own1 w2 g 1 _) (fun k hk t => by
    have h2 : k = g := t
    exact e (by rw [hk, h2]))
theorem wr_store {w W w2 : World} {g gg cap n : Nat} {v : Value} {zs ys : List Int} (r : WrAt W g v zs) (hb : After W w) (hgrow : w.grownBy w2 v.ownBlock) (ho : w2.ownsRow 0 5 1 (.slice (some ⟨gg, 0, none⟩) n cap) n (u8s zs ++ u8s ys)) (hn : n = zs.length + ys.length) (hat : v.ownBlock = some gg ∨ W.heap.size ≤ gg) (hy : Bs ys) :
    WrTo W (w2.setCell ⟨g, 1, none⟩ (.slice (some ⟨gg, 0, none⟩) n cap)) g v (zs ++ ys) :=
  wr_set r hb hgrow ho hn (hat.imp (fun h => h.symm) (fun h => ⟨gg, rfl, h⟩)) hy
theorem byte_bs (x : Int) : Bs [IntKind.u8.wrap x] := fun z hz => by
  rw [List.mem_singleton.1 hz, IntKind.wrap_u8]; omega
theorem byte_at0 (x : Nat) : [IntKind.u8.wrap (x : Int)] ++ bytesOf 0 x = bytesOf (0 + 1) x := by
  rw [IntKind.wrap_u8]; show [_] = [(x : Int) / 1 % 256]; rw [Int.ediv_one]
theorem byte_at1 (x : Nat) : [IntKind.u8.wrap ((x : Int) / 256)] ++ bytesOf 1 x = bytesOf (1 + 1) x := by rw [IntKind.wrap_u8]; rfl
theorem byte_at2 (x : Nat) : [IntKind.u8.wrap ((x : Int) / 65536)] ++ bytesOf 2 x = bytesOf (2 + 1) x := by rw [IntKind.wrap_u8]; rfl
theorem byte_at3 (x : Nat) : [IntKind.u8.wrap ((x : Int) / 16777216)] ++ bytesOf 3 x = bytesOf (3 + 1) x := by rw [IntKind.wrap_u8]; rfl
set_option maxRecDepth 100000 in
set_option maxHeartbeats 1000000 in
theorem put_any (w : World) (g m : Nat) (v : Value) (zs : List Int) (x : Nat) (r : WrAt w g v zs) (hm : m ≤ 4) (hx : x < 4294967296) (hl : zs.length + 4 ≤ 1099511627776) :
    Calls Tryz.prog 103 #[Ptr g, .int .u32 x, .int .i64 m] w fun e w' => e = .returned (.tuple #[]) ∧ WrTo w w' g v (zs ++ bytesOf m x) := by
  obtain ⟨i0, hi, hz0, hz1, hz2⟩ := info_parts Tryz.info5
  have m4 : (m : Int) ≤ 4 := by omega
  have HR := hideIt r
  have HX := hideIt hx
  have HL := hideIt hl
  have HM := hideIt hm
  clear r hx hl hm
  go_enter Tryz.func103, Tryz.ntmps103
  go_wp2_with fail
  go_loopw [6] (fun p W => ∃ (j : Nat) (q : Int) (v' : Value) (ys : List Int), j ≤ m ∧ p = .int .i64 q ∧ q + 1 = j ∧ WrAt W g v' (zs ++ ys) ∧ ys ++ bytesOf j x = bytesOf m x ∧ But (Own g v) w W ∧ Grew w v v') (fun p _ => (intOf p + 1).toNat)
  case atStart => exact ⟨m, _, v, [], Nat.le_refl _, rfl, by omega, by rw [List.append_nil]; exact HR.out, rfl, But.rfl, Grew.rfl⟩
  case round =>
    obtain ⟨j, q, v', ys, hj, rfl, hq, hw, hy, hb, hg⟩ := hrel
    cases j with
    | zero =>
      obtain rfl : q = -1 := by omega
      have HF := hideIt (show WrTo w wr g v (zs ++ bytesOf m x) by
        have e : ys = bytesOf m x := by rw [← hy]; exact (List.append_nil ys).symm
        rw [← e]; exact ⟨v', hw, hb, hg⟩)
      clear hw hy hb hg
      go_wp2
      exact bodyPost_end (v := .tuple #[]) (by simp [results, Tryz.results103, go_sem]) rfl ⟨rfl, HF.out⟩
    | succ p =>
      obtain ⟨_, hc0, hc1, hf0, hf1⟩ := two_at hw.1
      have ne : v'.ownBlock ≠ some g := hw.2.2.1
      have HW := hideIt hw
      have HY := hideIt hy
      have HB := hideIt hb
      have HG := hideIt hg
      have HJ := hideIt hj
      have lz : (zs ++ ys).length ≤ 1099511627776 := by
        have h1 := congrArg List.length hy
        rw [List.length_append, bytesOf_length, bytesOf_length] at h1
        rw [List.length_append]; have := HL.out; have := HM.out; omega
      have HZ := hideIt lz
      obtain ⟨us, hus⟩ : ∃ us, us = zs ++ ys := ⟨_, rfl⟩
      rw [← hus] at HW HZ
      have HU := hideIt hus
      clear hw hy hb hg lz hus
      have hp : p = 0 ∨ p = 1 ∨ p = 2 ∨ p = 3 := by have := HM.out; omega
      clear hj
      have hfa : ∀ o, (wr.alloc o).drew.frozen? ⟨g, 1, none⟩ = false := fun o => by
        have h := World.frozen?_of_block (w := wr) (w' := (wr.alloc o).drew) (a := ⟨g, 1, none⟩) (Below.heap_alloc _ _ _ (by assumption))
        rw [h]; exact hf1
      have hca : ∀ o, (wr.alloc o).drew.cell? ⟨g, 1, none⟩ = some v' := fun o => by
        have h := World.cell?_of_block (w := wr) (w' := (wr.alloc o).drew) (a := ⟨g, 1, none⟩) (Below.heap_alloc _ _ _ (by assumption))
        rw [h]; exact hc1
      rcases hp with rfl | rfl | rfl | rfl
      · obtain rfl : q = 0 := by omega
        clear hq
        have wq : IntKind.i64.wrap 0 = 0 := by decide
        have hyb := byte_at0 x
        have HYB := hideIt hyb
        clear hyb
        go_wp2_with fail
        go_region_law
          ((refine step_append_lies _ (by rfl) _ _ _ (by rfl) 0 5 i0 _ 1 1 Tryz.underlying27 hi hz0 hz1 hz2 rfl (by omega) v' us.length (u8s us) (by rfl) ((HW.out.2.1.alloc _).drew)
                ⟨wr.heap.size, 0, none⟩ 1 1 [_] (by rfl) (by rfl) (World.news_of_block (cs := #[_]) (t := 5) (fr := (0, 0)) (heap_alloc_new wr _)) (by simp [Value.oneCell'])
                (by omega) (by have := HZ.out; unfold maxLen; omega) (by have := HZ.out; omega) (Nat.zero_le _) (wr.heap.size + 1) (by simp) ?_; intro gg cap w2 hown1 hgrow hat hlt2; have x1 := (hgrow.cell_far ⟨g, 1, none⟩ (by simp; omega) (Ne.symm ne)).trans (hca _); have x2 := (hgrow.frozen_far ⟨g, 1, none⟩ (by simp; omega) (Ne.symm ne)).trans (hfa _)))
        all_goals
          have HF := hideIt (wr_store (ys := [(IntKind.u8.wrap (x : Int))]) HW.out (But.drew (After.rfl.alloc _)) hgrow hown1 rfl (hat.imp_right (fun h => by omega)) (byte_bs _))
          clear hown1 hgrow hat hlt2 x1 x2
          go_wp2
          go_roundw
          case rel =>
            obtain ⟨v2, r2, b2, g2⟩ := WrTo.trans HB.out HG.out HF.out
            refine ⟨0, _, v2, ys ++ [(IntKind.u8.wrap (x : Int))], by have := HJ.out; omega, rfl, by omega, ?_, ?_, b2, g2⟩
            · rw [← List.append_assoc, ← HU.out]; exact r2
            · rw [List.append_assoc, HYB.out]; exact HY.out
          case measure => simp [intOf]
      · obtain rfl : q = 1 := by omega
        clear hq
        have wq : IntKind.i64.wrap 8 = 8 := by decide
        have hyb := byte_at1 x
        have HYB := hideIt hyb
        clear hyb
        go_wp2_with fail
        go_region_law
          ((refine step_append_lies _ (by rfl) _ _ _ (by rfl) 0 5 i0 _ 1 1 Tryz.underlying27 hi hz0 hz1 hz2 rfl (by omega) v' us.length (u8s us) (by rfl) ((HW.out.2.1.alloc _).drew)
                ⟨wr.heap.size, 0, none⟩ 1 1 [_] (by rfl) (by rfl) (World.news_of_block (cs := #[_]) (t := 5) (fr := (0, 0)) (heap_alloc_new wr _)) (by simp [Value.oneCell'])
                (by omega) (by have := HZ.out; unfold maxLen; omega) (by have := HZ.out; omega) (Nat.zero_le _) (wr.heap.size + 1) (by simp) ?_; intro gg cap w2 hown1 hgrow hat hlt2; have x1 := (hgrow.cell_far ⟨g, 1, none⟩ (by simp; omega) (Ne.symm ne)).trans (hca _); have x2 := (hgrow.frozen_far ⟨g, 1, none⟩ (by simp; omega) (Ne.symm ne)).trans (hfa _)))
        all_goals
          have HF := hideIt (wr_store (ys := [(IntKind.u8.wrap ((x : Int) / 256))]) HW.out (But.drew (After.rfl.alloc _)) hgrow hown1 rfl (hat.imp_right (fun h => by omega)) (byte_bs _))
          clear hown1 hgrow hat hlt2 x1 x2
          go_wp2
          go_roundw
          case rel =>
            obtain ⟨v2, r2, b2, g2⟩ := WrTo.trans HB.out HG.out HF.out
            refine ⟨1, _, v2, ys ++ [(IntKind.u8.wrap ((x : Int) / 256))], by have := HJ.out; omega, rfl, by omega, ?_, ?_, b2, g2⟩
            · rw [← List.append_assoc, ← HU.out]; exact r2
            · rw [List.append_assoc, HYB.out]; exact HY.out
          case measure => simp [intOf]
      · obtain rfl : q = 2 := by omega
        clear hq
        have wq : IntKind.i64.wrap 16 = 16 := by decide
        have hyb := byte_at2 x
        have HYB := hideIt hyb
        clear hyb
        go_wp2_with fail
        go_region_law
          ((refine step_append_lies _ (by rfl) _ _ _ (by rfl) 0 5 i0 _ 1 1 Tryz.underlying27 hi hz0 hz1 hz2 rfl (by omega) v' us.length (u8s us) (by rfl) ((HW.out.2.1.alloc _).drew)
                ⟨wr.heap.size, 0, none⟩ 1 1 [_] (by rfl) (by rfl) (World.news_of_block (cs := #[_]) (t := 5) (fr := (0, 0)) (heap_alloc_new wr _)) (by simp [Value.oneCell'])
                (by omega) (by have := HZ.out; unfold maxLen; omega) (by have := HZ.out; omega) (Nat.zero_le _) (wr.heap.size + 1) (by simp) ?_; intro gg cap w2 hown1 hgrow hat hlt2; have x1 := (hgrow.cell_far ⟨g, 1, none⟩ (by simp; omega) (Ne.symm ne)).trans (hca _); have x2 := (hgrow.frozen_far ⟨g, 1, none⟩ (by simp; omega) (Ne.symm ne)).trans (hfa _)))
        all_goals
          have HF := hideIt (wr_store (ys := [(IntKind.u8.wrap ((x : Int) / 65536))]) HW.out (But.drew (After.rfl.alloc _)) hgrow hown1 rfl (hat.imp_right (fun h => by omega)) (byte_bs _))
          clear hown1 hgrow hat hlt2 x1 x2
          go_wp2
          go_roundw
          case rel =>
            obtain ⟨v2, r2, b2, g2⟩ := WrTo.trans HB.out HG.out HF.out
            refine ⟨2, _, v2, ys ++ [(IntKind.u8.wrap ((x : Int) / 65536))], by have := HJ.out; omega, rfl, by omega, ?_, ?_, b2, g2⟩
            · rw [← List.append_assoc, ← HU.out]; exact r2
            · rw [List.append_assoc, HYB.out]; exact HY.out
          case measure => simp [intOf]
      · obtain rfl : q = 3 := by omega
        clear hq
        have wq : IntKind.i64.wrap 24 = 24 := by decide
        have hyb := byte_at3 x
        have HYB := hideIt hyb
        clear hyb
        go_wp2_with fail
        go_region_law
          ((refine step_append_lies _ (by rfl) _ _ _ (by rfl) 0 5 i0 _ 1 1 Tryz.underlying27 hi hz0 hz1 hz2 rfl (by omega) v' us.length (u8s us) (by rfl) ((HW.out.2.1.alloc _).drew)
                ⟨wr.heap.size, 0, none⟩ 1 1 [_] (by rfl) (by rfl) (World.news_of_block (cs := #[_]) (t := 5) (fr := (0, 0)) (heap_alloc_new wr _)) (by simp [Value.oneCell'])
                (by omega) (by have := HZ.out; unfold maxLen; omega) (by have := HZ.out; omega) (Nat.zero_le _) (wr.heap.size + 1) (by simp) ?_; intro gg cap w2 hown1 hgrow hat hlt2; have x1 := (hgrow.cell_far ⟨g, 1, none⟩ (by simp; omega) (Ne.symm ne)).trans (hca _); have x2 := (hgrow.frozen_far ⟨g, 1, none⟩ (by simp; omega) (Ne.symm ne)).trans (hfa _)))
        all_goals
          have HF := hideIt (wr_store (ys := [(IntKind.u8.wrap ((x : Int) / 16777216))]) HW.out (But.drew (After.rfl.alloc _)) hgrow hown1 rfl (hat.imp_right (fun h => by omega)) (byte_bs _))
          clear hown1 hgrow hat hlt2 x1 x2
          go_wp2
          go_roundw
          case rel =>
            obtain ⟨v2, r2, b2, g2⟩ := WrTo.trans HB.out HG.out HF.out
            refine ⟨3, _, v2, ys ++ [(IntKind.u8.wrap ((x : Int) / 16777216))], by have := HJ.out; omega, rfl, by omega, ?_, ?_, b2, g2⟩
            · rw [← List.append_assoc, ← HU.out]; exact r2
            · rw [List.append_assoc, HYB.out]; exact HY.out
          case measure => simp [intOf]
end Go.Proofs.YthcfdoafncbliaaGreat
/-
  The writer's calls of package mder: Write, U8, U16, U32, Octets, Bytes.
-/
namespace Go.Proofs.YthcfdoafncbliaaGreat
open Go.RowKit
/-- What a number that may be from 0 to m writes. -/
def wnErr (m : Nat) (x : Int) : Int := if 0 ≤ x ∧ x ≤ m then 0 else 2
def wnNew (k m : Nat) (x : Int) : List Int := if 0 ≤ x ∧ x ≤ m then bytesOf k x else []
theorem wn_yes {k m : Nat} {x : Int} (h : 0 ≤ x ∧ x ≤ m) : wnErr m x = 0 ∧ wnNew k m x = bytesOf k x := ⟨if_pos h, if_pos h⟩
theorem wn_no {k m : Nat} {x : Int} (h : ¬ (0 ≤ x ∧ x ≤ m)) : wnErr m x = 2 ∧ wnNew k m x = [] := ⟨if_neg h, if_neg h⟩
/-- What octets write. -/
def woErr (bs : List Int) : Int := if bs.length ≤ 65535 then 0 else 5
def woNew (bs : List Int) : List Int := if bs.length ≤ 65535 then bytesOf 2 bs.length ++ bs else []
theorem wo_yes {bs : List Int} (h : bs.length ≤ 65535) : woErr bs = 0 ∧ woNew bs = bytesOf 2 bs.length ++ bs := ⟨if_pos h, if_pos h⟩
theorem wo_no {bs : List Int} (h : ¬ bs.length ≤ 65535) : woErr bs = 5 ∧ woNew bs = [] := ⟨if_neg h, if_neg h⟩
theorem WrTo.rfl {w : World} {g : Nat} {v : Value} {zs : List Int} (r : WrAt w g v zs) : WrTo w w g v (zs ++ []) := by
  rw [List.append_nil]; exact ⟨v, r, But.rfl, Grew.rfl⟩
theorem write_any (w : World) : Calls Tryz.prog 56 #[] w fun e w' => e = .returned (Ptr w.heap.size) ∧ WrAt w' w.heap.size (.slice none 0 0) [] ∧ After w w' := by
  go_enter Tryz.func56, Tryz.ntmps56
  go_wp2
  go_ret
  exact ⟨rfl, ⟨two_new _ _ _ _, World.ownsRow_nil _ _ _ _, (fun h => by cases h), Bs.nil⟩, After.rfl.alloc _⟩
theorem wU8_any (w : World) (g : Nat) (v : Value) (zs : List Int) (x : Int) (r : WrAt w g v zs) (hl : zs.length + 4 ≤ 1099511627776) :
    Calls Tryz.prog 111 #[Ptr g, .int .i64 x] w fun e w' => e = .returned (.int .i64 (wnErr 255 x)) ∧ WrTo w w' g v (zs ++ wnNew 1 255 x) := by
  have HN := hideIt (wIsNone_no r.1)
  by_cases hx : 0 ≤ x ∧ x ≤ (255 : Nat)
  · obtain ⟨e1, e2⟩ := wn_yes (k := 1) hx
    rw [e1, e2]
    obtain ⟨y, rfl⟩ := Int.eq_ofNat_of_zero_le hx.1
    have HP := hideIt (put_any w g 1 v zs y r (by decide) (by omega) hl)
    have k1 : (y : Int) ≤ 255 := hx.2
    have k2 : IntKind.u32.wrap (y : Int) = (y : Int) := by rw [IntKind.wrap_u32]; omega
    clear r hl e1 e2 hx
    go_enter Tryz.func111, Tryz.ntmps111
    go_wp2_with (first
      | (go_at_call 63; refine HN.out.mono ?_; rintro e w' ⟨rfl, rfl⟩)
      | (go_at_call 103; refine HP.out.mono ?_; rintro e w1 ⟨rfl, h1⟩; have H1 := hideIt h1; clear h1))
    go_ret
    exact ⟨rfl, H1.out⟩
  · obtain ⟨e1, e2⟩ := wn_no (k := 1) hx
    rw [e1, e2]
    have HR := hideIt r
    have hx2 : x < 0 ∨ 255 < x := by omega
    clear r hl e1 e2 hx
    rcases hx2 with hx | hx
    all_goals
      go_enter Tryz.func111, Tryz.ntmps111
      go_wp2_with (go_at_call 63; refine HN.out.mono ?_; rintro e w' ⟨rfl, rfl⟩)
      go_ret
      exact ⟨rfl, WrTo.rfl HR.out⟩
theorem wU16_any (w : World) (g : Nat) (v : Value) (zs : List Int) (x : Int) (r : WrAt w g v zs) (hl : zs.length + 4 ≤ 1099511627776) :
    Calls Tryz.prog 91 #[Ptr g, .int .i64 x] w fun e w' => e = .returned (.int .i64 (wnErr 65535 x)) ∧ WrTo w w' g v (zs ++ wnNew 2 65535 x) := by
  have HN := hideIt (wIsNone_no r.1)
  by_cases hx : 0 ≤ x ∧ x ≤ (65535 : Nat)
  · obtain ⟨e1, e2⟩ := wn_yes (k := 2) hx
    rw [e1, e2]
    obtain ⟨y, rfl⟩ := Int.eq_ofNat_of_zero_le hx.1
    have HP := hideIt (put_any w g 2 v zs y r (by decide) (by omega) hl)
    have k1 : (y : Int) ≤ 65535 := hx.2
    have k2 : IntKind.u32.wrap (y : Int) = (y : Int) := by rw [IntKind.wrap_u32]; omega
    clear r hl e1 e2 hx
    go_enter Tryz.func91, Tryz.ntmps91
    go_wp2_with (first
      | (go_at_call 63; refine HN.out.mono ?_; rintro e w' ⟨rfl, rfl⟩)
      | (go_at_call 103; refine HP.out.mono ?_; rintro e w1 ⟨rfl, h1⟩; have H1 := hideIt h1; clear h1))
    go_ret
    exact ⟨rfl, H1.out⟩
  · obtain ⟨e1, e2⟩ := wn_no (k := 2) hx
    rw [e1, e2]
    have HR := hideIt r
    have hx2 : x < 0 ∨ 65535 < x := by omega
    clear r hl e1 e2 hx
    rcases hx2 with hx | hx
    all_goals
      go_enter Tryz.func91, Tryz.ntmps91
      go_wp2_with (go_at_call 63; refine HN.out.mono ?_; rintro e w' ⟨rfl, rfl⟩)
      go_ret
      exact ⟨rfl, WrTo.rfl HR.out⟩
theorem wU32_any (w : World) (g : Nat) (v : Value) (zs : List Int) (x : Int) (r : WrAt w g v zs) (hl : zs.length + 4 ≤ 1099511627776) (h0 : 0 ≤ x) (h1 : x < 4294967296) :
    Calls Tryz.prog 109 #[Ptr g, .int .u32 x] w fun e w' => e = .returned (.int .i64 0) ∧ WrTo w w' g v (zs ++ bytesOf 4 x) := by
  have HN := hideIt (wIsNone_no r.1)
  obtain ⟨y, rfl⟩ := Int.eq_ofNat_of_zero_le h0
  have HP := hideIt (put_any w g 4 v zs y r (by decide) (by omega) hl)
  clear r hl h0 h1
  go_enter Tryz.func109, Tryz.ntmps109
  go_wp2_with (first
    | (go_at_call 63; refine HN.out.mono ?_; rintro e w' ⟨rfl, rfl⟩)
    | (go_at_call 103; refine HP.out.mono ?_; rintro e w1 ⟨rfl, h1⟩; have H1 := hideIt h1; clear h1))
  go_ret
  exact ⟨rfl, H1.out⟩
theorem wBytes_any (w : World) (g : Nat) (v : Value) (zs : List Int) (r : WrAt w g v zs) (hl : zs.length ≤ 1099511627776) :
    Calls Tryz.prog 42 #[Ptr g] w fun e w' => ∃ x, e = .returned x ∧ w'.ownsRow w.heap.size 5 1 x zs.length (u8s zs) ∧ After w w' := by
  have HN := hideIt (wIsNone_no r.1)
  obtain ⟨a, c, rfl, r1, r2, r3, r4⟩ := own_row r.2.1 r.2.2.2
  obtain ⟨_, hc0, hc1, hf0, hf1⟩ := two_at r.1
  have HC := hideIt (clone_any a _ c zs w r1 r2 (by omega))
  clear r r1 r2 r3 r4
  go_enter Tryz.func42, Tryz.ntmps42
  go_wp2_with (first
    | (go_at_call 63; refine HN.out.mono ?_; rintro e w' ⟨rfl, rfl⟩)
    | (go_at_call 64; refine HC.out.mono ?_; rintro e w1 ⟨x, rfl, ho, ha⟩; have HO := hideIt ho; have HA := hideIt ha; clear ho ha))
  go_ret
  exact ⟨_, rfl, HO.out, HA.out⟩
end Go.Proofs.YthcfdoafncbliaaGreat
/-
  Octets that a writer of package mder writes.
-/
namespace Go.Proofs.YthcfdoafncbliaaGreat
open Go.RowKit
theorem own_slice {w : World} {B : Nat} {e : TypeId} {sz : Nat} {v : Value} {n : Nat} {xs : List Value} (h : w.ownsRow B e sz v n xs) : ∃ a c, v = .slice a n c := by
  rcases h.2 with ⟨rfl, rfl⟩ | ⟨g, cap, cur, rfl, _⟩
  · exact ⟨_, _, rfl⟩
  · exact ⟨_, _, rfl⟩
set_option maxRecDepth 8000 in
theorem wOctets_any (w : World) (g : Nat) (v : Value) (zs : List Int) (a : Option Addr) (n c : Nat) (bs : List Int) (r : WrAt w g v zs) (rb : Row w a n bs) (ha : a = none → n = 0 ∧ c = 0) (hs : ∀ y, a = some y → 0 < n → ¬ Own g v y.block) (hn : n ≤ 140737488355328) (hl : zs.length + 65541 ≤ 1099511627776) :
    Calls Tryz.prog 94 #[Ptr g, .slice a n c] w fun e w' => e = .returned (.int .i64 (woErr bs)) ∧ WrTo w w' g v (zs ++ woNew bs) := by
  have HN := hideIt (wIsNone_no r.1)
  have hbl := rb.1
  by_cases hx : bs.length ≤ 65535
  · obtain ⟨e1, e2⟩ := wo_yes hx
    rw [e1, e2, hbl]
    have HP := hideIt (put_any w g 2 v zs n r (by decide) (by omega) (by omega))
    have k1 : (n : Int) ≤ 65535 := by omega
    have k2 : IntKind.u32.wrap (n : Int) = (n : Int) := by rw [IntKind.wrap_u32]; omega
    have HB := hideIt rb
    have HS := hideIt hs
    have HL := hideIt hl
    have HK := hideIt (show n ≤ 65535 by omega)
    obtain ⟨i0, hi, hz0, hz1, hz2⟩ := info_parts Tryz.info5
    clear r hl e1 e2 hx rb hs hn hbl
    cases a with
    | none =>
      obtain ⟨rfl, rfl⟩ := ha rfl
      clear ha
      go_enter Tryz.func94, Tryz.ntmps94
      go_wp2_with (go_at_call 63; refine HN.out.mono ?_; rintro e w' ⟨rfl, rfl⟩)
      refine HP.out.mono ?_
      rintro e w1 ⟨rfl, v1, r1, b1, g1⟩
      obtain ⟨us, hus⟩ : ∃ us, zs ++ bytesOf 2 ((0 : Nat) : Int) = us := ⟨_, rfl⟩
      have HU := hideIt hus
      rw [hus] at r1
      clear hus
      obtain ⟨a1, c1, rfl⟩ := own_slice r1.2.1
      obtain ⟨_, hc0, hc1, hf0, hf1⟩ := two_at r1.1
      have HR1 := hideIt r1
      have HF := hideIt (WrTo.trans b1 g1 (wr_set (ys := []) r1 After.rfl (w2 := w1) ⟨rfl, rfl, rfl, Nat.le_refl _, fun _ _ _ => rfl⟩ (by show w1.ownsRow 0 5 1 _ _ (u8s _ ++ []); rw [List.append_nil]; exact r1.2.1) (Nat.add_zero _).symm Grew.rfl Bs.nil))
      clear r1 b1 g1 HP
      have hb : bs = [] := List.length_eq_zero_iff.1 HB.out.1
      subst hb
      go_wp2_with (at_builtin; refine wpList_append_own_none rfl (.tmp 21) (.tmp 22) 27 rfl 0 5 i0 1 Tryz.underlying27 hi _ _ _ rfl HR1.out.2.1 rfl ?_)
      go_ret
      exact ⟨rfl, by rw [← List.append_assoc, HU.out]; exact HF.out⟩
    | some y =>
      clear ha
      go_enter Tryz.func94, Tryz.ntmps94
      go_wp2_with (go_at_call 63; refine HN.out.mono ?_; rintro e w' ⟨rfl, rfl⟩)
      refine HP.out.mono ?_
      rintro e w1 ⟨rfl, v1, r1, b1, g1⟩
      obtain ⟨hgl, hc0, hc1, hf0, hf1⟩ := two_at r1.1
      have hb1 := HB.out.but2 b1 HS.out
      have ne : v1.ownBlock ≠ some g := r1.2.2.1
      have HR1 := hideIt r1
      have HB1 := hideIt b1
      have HG1 := hideIt g1
      have HD := hideIt hb1
      have HZ := hideIt (show (zs ++ bytesOf 2 (n : Int)).length ≤ zs.length + 2 by rw [List.length_append, bytesOf_length]; omega)
      obtain ⟨us, hus⟩ : ∃ us, zs ++ bytesOf 2 (n : Int) = us := ⟨_, rfl⟩
      have HU := hideIt hus
      rw [hus] at HR1 HZ
      clear hus
      clear r1 b1 g1 hb1
      go_wp2_with (at_builtin; refine wpList_append_own_at _ rfl (.tmp 21) (.tmp 22) 27 rfl 0 5 i0 (.int .u8 0) 1 1 Tryz.underlying27 hi hz0 hz1 hz2 rfl (by decide) v1 _ _ rfl HR1.out.2.1 y n c (u8s bs) rfl (by rw [u8s_length, HD.out.1, Nat.mul_one]) (row_news HD.out) (u8s_one _) (by have := HZ.out; have := HL.out; have := HK.out; unfold maxLen; omega) (by have := HZ.out; have := HL.out; have := HK.out; omega) (Nat.zero_le _) ?_; intro v2 w2 hown hgrow _ hat; obtain ⟨a2, c2, rfl⟩ := own_slice hown; have x1 := (hgrow.cell_far ⟨g, 1, none⟩ hgl (Ne.symm ne)).trans hc1; have x2 := (hgrow.frozen_far ⟨g, 1, none⟩ hgl (Ne.symm ne)).trans hf1; have HF := hideIt (WrTo.trans HB1.out HG1.out (wr_set HR1.out After.rfl hgrow hown (by rw [HD.out.1]) (hat.imp_right (fun h => ⟨_, h, Nat.le_refl _⟩)) HB.out.2.1)); clear hown hgrow hat)
      go_ret
      exact ⟨rfl, by rw [← List.append_assoc, HU.out]; exact HF.out⟩
  · obtain ⟨e1, e2⟩ := wo_no hx
    rw [e1, e2]
    have HR := hideIt r
    have k1 : (65535 : Int) < n := by omega
    clear r hl e1 e2 hx rb hs ha hbl
    go_enter Tryz.func94, Tryz.ntmps94
    go_wp2_with (go_at_call 63; refine HN.out.mono ?_; rintro e w' ⟨rfl, rfl⟩)
    go_ret
    exact ⟨rfl, WrTo.rfl HR.out⟩
end Go.Proofs.YthcfdoafncbliaaGreat
