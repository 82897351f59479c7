/-
  bytes.Clone, CopyBytes; New and Octets of package mder.
-/
import Derived.Test.YtigiakhdaaoljaaNumb
import Derived.Lib.SliceRun
namespace Go.Proofs.Ytigiakhdaaoljaa
open Go.RowKit
theorem copy_any (a : Option Addr) (n c : Nat) (zs : List Int) (w : World) (hr : Row w a n zs) (ha : a = none → n = 0 ∧ c = 0) (hn : n ≤ 140737488355328) :
    Calls Try.prog 15 #[.slice a n c] w fun e w' => ∃ v, e = .returned v ∧ w'.ownsRow w.heap.size 5 1 v n (u8s zs) ∧ After w w' := by
  obtain ⟨i0, hi, hz0, hz1, hz2⟩ := info_parts Try.info5
  cases a with
  | none =>
    obtain ⟨rfl, rfl⟩ := ha rfl
    have hz : zs = [] := List.length_eq_zero_iff.1 hr.1
    subst hz
    clear hr
    go_enter Try.func15, Try.ntmps15
    go_wp2_with (at_builtin; refine wpList_append_own_none rfl (.tmp 4) (.tmp 5) 22 rfl w.heap.size 5 i0 1 Try.underlying22 hi _ 0 [] rfl (World.ownsRow_nil _ _ _ _) rfl ?_)
    go_ret
    exact ⟨_, rfl, World.ownsRow_nil _ _ _ _, After.rfl⟩
  | some x =>
    have hl : (u8s zs).length = n * 1 := by simp [u8s, hr.1]
    have hnews := row_news hr
    have HL := hideIt hl
    have HW := hideIt hnews
    clear hr ha hl hnews
    go_enter Try.func15, Try.ntmps15
    go_wp2_with (at_builtin; refine wpList_append_own _ rfl (.tmp 4) (.tmp 5) 22 rfl w.heap.size 5 i0 (.int .u8 0) 1 1 Try.underlying22 hi hz0 hz1 hz2 rfl (by decide) _ 0 [] rfl (World.ownsRow_nil _ _ _ _) x n c (u8s zs) rfl HL.out HW.out (u8s_one _) (by unfold maxLen; omega) (by omega) (Nat.le_refl _) ?_; intro v' w1 hown hgrow hnil; rw [Nat.zero_add, List.nil_append] at hown; have HO := hideIt hown; have HG := hideIt hgrow; clear hown hgrow hnil)
    go_ret
    exact ⟨_, rfl, HO.out, But.grown But.rfl HG.out (fun k hk => by cases hk)⟩
theorem clone_any (a : Option Addr) (n c : Nat) (zs : List Int) (w : World) (hr : Row w a n zs) (ha : a = none → n = 0 ∧ c = 0) (hn : n ≤ 140737488355328) :
    Calls Try.prog 46 #[.slice a n c] w fun e w' => ∃ v, e = .returned v ∧ w'.ownsRow w.heap.size 5 1 v n (u8s zs) ∧ After w w' := by
  obtain ⟨i0, hi, hz0, hz1, hz2⟩ := info_parts Try.info5
  cases a with
  | none =>
    obtain ⟨rfl, rfl⟩ := ha rfl
    have hz : zs = [] := List.length_eq_zero_iff.1 hr.1
    subst hz
    clear hr
    have hq := fun W => Lib.run_eql_slice_nil (P := Try.prog) W 22 5 none 0 0 0 0 Try.underlying22
    go_enter Try.func46, Try.ntmps46
    go_wp2
    go_ret
    exact ⟨_, rfl, World.ownsRow_nil _ _ _ _, After.rfl⟩
  | some x =>
    have hl : (u8s zs).length = n * 1 := by simp [u8s, hr.1]
    have HL := hideIt hl
    have HO1 := hideIt (World.ownsRow_lit (base := w.heap.size) (e := 5) (size := 1) w #[] 0 (Nat.le_refl _) (by decide) rfl)
    have HW := hideIt (row_news (hr.after (After.rfl.alloc (.cells #[] 5))))
    clear hr ha hl
    have hq := fun W => Lib.run_eql_slice_nil (P := Try.prog) W 22 5 (some x) n c 0 0 Try.underlying22
    go_enter Try.func46, Try.ntmps46
    go_wp2_with (at_builtin; refine wpList_append_own _ rfl (.tmp 5) (.tmp 6) 22 rfl w.heap.size 5 i0 (.int .u8 0) 1 1 Try.underlying22 hi hz0 hz1 hz2 rfl (by decide) _ 0 [] rfl HO1.out x n c (u8s zs) rfl HL.out HW.out (u8s_one _) (by unfold maxLen; omega) (by omega) (by simp) ?_; intro v' w1 hown hgrow hnil; rw [Nat.zero_add, List.nil_append] at hown; have HO := hideIt hown; have HG := hideIt hgrow; clear hown hgrow hnil)
    go_ret
    refine ⟨_, rfl, HO.out, But.grown (But.rfl.alloc _) HG.out (fun k hk hl => ?_)⟩
    have hk2 : some w.heap.size = some k := hk
    injection hk2 with e
    omega
/-- A reader that is made. -/
theorem rd_new {w w1 : World} {v : Value} {n : Nat} {zs : List Int} (ho : w1.ownsRow w.heap.size 5 1 v n (u8s zs)) (hb : Bs zs) (ha : After w w1) (hn : n ≤ 140737488355328) :
    ∃ h, RdAt (w1.alloc (.cells #[.bool true, v] 101)) w1.heap.size h zs ∧ w.heap.size ≤ h ∧ After w (w1.alloc (.cells #[.bool true, v] 101)) := by
  obtain ⟨a, c, rfl, r1, r2, r3, r4⟩ := own_row ho hb
  have hal : After w1 (w1.alloc (.cells #[.bool true, .slice a n c] 101)) := After.rfl.alloc _
  cases a with
  | none =>
    obtain ⟨rfl, rfl⟩ := r2 rfl
    exact ⟨w1.heap.size, ⟨none, 0, 0, two_new _ _ _ _, r1.after hal, Nat.le_refl _, by omega, .inl ⟨rfl, rfl, rfl, rfl⟩⟩, ha.size, ha.trans hal⟩
  | some x =>
    obtain ⟨e1, e2⟩ := r4 x rfl
    obtain ⟨l1, l2⟩ := ho.lt _ e1
    exact ⟨x.block, ⟨some x, n, c, two_new _ _ _ _, r1.after hal, r3, hn, .inr ⟨0, by rw [← e2], by omega, Nat.lt_of_lt_of_le l2 hal.size⟩⟩, l1, ha.trans hal⟩
theorem new_any (a : Option Addr) (n c : Nat) (zs : List Int) (w : World) (hr : Row w a n zs) (ha : a = none → n = 0 ∧ c = 0) (hn : n ≤ 140737488355328) :
    Calls Try.prog 55 #[.slice a n c] w fun e w' => ∃ g h, e = .returned (Ptr g) ∧ RdAt w' g h zs ∧ w.heap.size ≤ g ∧ w.heap.size ≤ h ∧ After w w' := by
  have HC := hideIt (clone_any a n c zs w hr ha hn)
  have HB := hideIt hr.2.1
  clear hr ha
  go_enter Try.func55, Try.ntmps55
  go_wp2_with fail
  refine HC.out.mono ?_
  rintro e w1 ⟨v, rfl, ho, ha⟩
  obtain ⟨a1, c1, rfl, _⟩ := own_row ho HB.out
  have HR := hideIt (rd_new ho HB.out ha hn)
  have HS := hideIt ha.size
  clear ho ha
  go_wp2
  go_ret
  obtain ⟨h, r1, r2, r3⟩ := HR.out
  exact ⟨_, h, rfl, r1, HS.out, r2, r3⟩
/-- A copy of a reader. -/
theorem rd_ahead {w : World} {g h : Nat} {zs : List Int} {a : Option Addr} {n c : Nat} (h2 : Row w a n zs) (h3 : n ≤ c) (h4 : n ≤ 140737488355328) (h5 : (a = none ∧ n = 0 ∧ c = 0 ∧ h = g) ∨ ∃ off, a = some ⟨h, off, none⟩ ∧ h ≠ g ∧ h < w.heap.size) :
    ∃ h', RdAt (w.alloc (.cells #[.bool true, .slice a n c] 101)) w.heap.size h' zs ∧ (0 < zs.length → h' = h ∧ h ≠ g ∧ h < w.heap.size) := by
  have hal : After w (w.alloc (.cells #[.bool true, .slice a n c] 101)) := After.rfl.alloc _
  have hl := h2.1
  rcases h5 with ⟨rfl, rfl, rfl, rfl⟩ | ⟨off, rfl, hne, hhl⟩
  · exact ⟨w.heap.size, ⟨none, 0, 0, two_new _ _ _ _, h2.after hal, h3, h4, .inl ⟨rfl, rfl, rfl, rfl⟩⟩, fun h => absurd h (by omega)⟩
  · exact ⟨h, ⟨_, n, c, two_new _ _ _ _, h2.after hal, h3, h4, .inr ⟨off, rfl, by omega, Nat.lt_of_lt_of_le hhl hal.size⟩⟩, fun _ => ⟨rfl, hne, hhl⟩⟩
/-- A reader whose cells are stored anew. -/
theorem rd_back {w : World} {g h : Nat} {zs : List Int} {a : Option Addr} {n c : Nat} (h2 : Row w a n zs) (h3 : n ≤ c) (h4 : n ≤ 140737488355328) (off : Nat) (ha : a = some ⟨h, off, none⟩) (hne : h ≠ g) (hhl : h < w.heap.size) (W : World) (hW : W.heap[g]? = some (.cells #[.bool true, .slice a n c] 101 (0, 0))) (hb : But (One g) w W) : RdAt W g h zs :=
  ⟨a, n, c, hW, h2.but hb (fun x hx => by rw [ha] at hx; cases hx; exact hne), h3, h4, .inr ⟨off, ha, hne, Nat.lt_of_lt_of_le hhl hb.size⟩⟩
set_option maxHeartbeats 1000000 in
theorem octets_short (w : World) (g h : Nat) (zs : List Int) (r : RdAt w g h zs) (hz : ¬ 2 ≤ zs.length) :
    Calls Try.prog 77 #[Ptr g] w fun e w' => e = .returned (.tuple #[.slice none 0 0, .int .i64 3]) ∧ After w w' := by
  obtain ⟨a, n, c, h1, h2, h3, h4, h5⟩ := r
  have HN := hideIt (isNone_no h1)
  obtain ⟨_, hc0, hc1, hf0, hf1⟩ := two_at h1
  obtain ⟨h', ra, _⟩ := rd_ahead h2 h3 h4 h5
  have HU := hideIt (u16_any _ _ _ _ ra)
  have HE := hideIt (rdErr_no hz)
  clear h1 h2 h3 h4 h5 ra hz
  go_enter Try.func77, Try.ntmps77
  go_wp2_with (first
    | (go_at_call 79; refine HN.out.mono ?_; rintro e w' ⟨rfl, rfl⟩)
    | (go_at_call 74; refine HU.out.mono ?_; rintro e w1 ⟨rfl, _, hb⟩; rw [HE.out]; have HB := hideIt hb; clear hb))
  go_ret2
  refine ⟨rfl, After.then (After.rfl.alloc _) HB.out (fun i hi t => ?_)⟩
  have t2 : i = w'.heap.size := t
  omega
set_option maxHeartbeats 1000000 in
theorem octets_long (w : World) (g h : Nat) (zs : List Int) (r : RdAt w g h zs) (hz : 2 ≤ zs.length) (hl : ¬ ocN zs ≤ zs.length - 2) :
    Calls Try.prog 77 #[Ptr g] w fun e w' => e = .returned (.tuple #[.slice none 0 0, .int .i64 3]) ∧ After w w' := by
  have hbs := r.bs
  obtain ⟨a, n, c, h1, h2, h3, h4, h5⟩ := r
  have HN := hideIt (isNone_no h1)
  obtain ⟨_, hc0, hc1, hf0, hf1⟩ := two_at h1
  obtain ⟨h', ra, _⟩ := rd_ahead h2 h3 h4 h5
  have HU := hideIt (u16_any _ _ _ _ ra)
  have HE := hideIt (rdErr_yes hz)
  have HV := hideIt ((rdVal_yes hz).trans (ocN_int hbs hz).1)
  have HR := hideIt (rdRest_yes hz)
  have HL := hideIt (show ¬ ocN zs ≤ (zs.drop 2).length by rw [List.length_drop]; exact hl)
  clear h1 h2 h3 h4 h5 ra hz hl
  go_enter Try.func77, Try.ntmps77
  go_wp2_with (first
    | (go_at_call 79; refine HN.out.mono ?_; rintro e w' ⟨rfl, rfl⟩)
    | (go_at_call 74; refine HU.out.mono ?_; rintro e w1 ⟨rfl, hq, hb⟩; rw [HE.out, HV.out]; rw [HR.out] at hq; have HB := hideIt hb; have HQ := hideIt (take_no _ _ _ _ _ hq HL.out); clear hb hq; generalize ocN zs = k at *)
    | (go_at_call 88; refine HQ.out.mono ?_; rintro e w2 ⟨rfl, rfl⟩))
  go_ret2
  refine ⟨rfl, After.then (After.rfl.alloc _) HB.out (fun i hi t => ?_)⟩
  have t2 : i = w'.heap.size := t
  omega
set_option maxHeartbeats 1000000 in
theorem octets_yes (w : World) (g h k : Nat) (zs : List Int) (r : RdAt w g h zs) (hz : 2 ≤ zs.length) (hk : ocN zs = k) (hl : k ≤ zs.length - 2) :
    Calls Try.prog 77 #[Ptr g] w fun e w' => ∃ v, e = .returned (.tuple #[v, .int .i64 0]) ∧ w'.ownsRow w.heap.size 5 1 v k (u8s ((zs.drop 2).take k)) ∧ RdAt w' g h ((zs.drop 2).drop k) ∧ But (One g) w w' := by
  have hbs := r.bs
  obtain ⟨a, n, c, h1, h2, h3, h4, h5⟩ := r
  have HN := hideIt (isNone_no h1)
  obtain ⟨hgl, hc0, hc1, hf0, hf1⟩ := two_at h1
  have H1 := hideIt h1
  obtain ⟨h', ra, hh⟩ := rd_ahead h2 h3 h4 h5
  obtain ⟨rfl, hne, hhl⟩ := hh (by omega)
  have HU := hideIt (u16_any _ _ _ _ ra)
  have HE := hideIt (rdErr_yes hz)
  have hv := (rdVal_yes hz).trans (ocN_int hbs hz).1
  have hk2 := (ocN_int hbs hz).2
  rw [hk] at hv hk2
  have HV := hideIt hv
  have HR := hideIt (rdRest_yes hz)
  have HL := hideIt (show k ≤ (zs.drop 2).length by rw [List.length_drop]; exact hl)
  have HK := hideIt hk2
  clear h1 h2 h3 h4 h5 ra hz hl hh hk hv hk2
  go_enter Try.func77, Try.ntmps77
  go_wp2_with (first
    | (go_at_call 79; refine HN.out.mono ?_; rintro e w' ⟨rfl, rfl⟩)
    | (go_at_call 74; refine HU.out.mono ?_; rintro e w1 ⟨rfl, hq, hb⟩; rw [HE.out, HV.out]; rw [HR.out] at hq; have HB := hideIt hb; have HQ := hideIt (take_yes _ _ _ _ _ hq HL.out); clear hb hq HU HE HV HR))
  refine HQ.out.mono ?_
  rintro e w2 ⟨a2, rfl, r2, d2, b2, o2, n2⟩
  obtain ⟨off2, rfl⟩ := o2 (by omega)
  obtain ⟨a3, n3, c3, p1, p2, p3, p4, p5⟩ := d2
  have hB := HB.out.then b2 (fun _ _ t => t)
  have hg2 : w2.heap[g]? = some (.cells #[.bool true, .slice a n c] 101 (0, 0)) := by
    rw [hB.block g (by simp; omega) (fun t => by have t2 : g = w'.heap.size := t; omega), Below.heap_alloc _ _ _ hgl]; exact H1.out
  have hA2 : After w' w2 := After.then (After.rfl.alloc _) hB (fun i hi t => by have t2 : i = w'.heap.size := t; omega)
  obtain ⟨_, q0, q1, qf0, qf1⟩ := two_at p1
  obtain ⟨_, s0, s1, sf0, sf1⟩ := two_at hg2
  have e3 : ∃ off, a3 = some ⟨h', off, none⟩ := by
    rcases p5 with ⟨_, _, _, e⟩ | ⟨off, e, _⟩
    · omega
    · exact ⟨off, e⟩
  obtain ⟨off3, rfl⟩ := e3
  have b3 : But (One g) w2 ((w2.setCell ⟨g, 0, none⟩ (.bool true)).setCell ⟨g, 1, none⟩ (.slice (some ⟨h', off3, none⟩) n3 c3)) := (But.own1 _ _ _ _).trans (But.own1 _ _ _ _)
  have r3 := rd_back (g := g) p2 p3 p4 off3 rfl hne (Nat.lt_of_lt_of_le hhl hA2.size) _ (two_set1 (two_set0 hg2 _) _) b3
  have HC := hideIt (clone_any _ k k _ _ (r2.but b3 (fun x hx => by cases hx; exact hne)) (fun hx => by cases hx) (by have := HK.out; omega))
  have H3 := hideIt r3
  have HA2 := hideIt hA2
  have HB3 := hideIt b3
  clear p1 p2 p3 p4 p5 hB hg2 hA2 b3 r3 HQ HB r2 b2 o2 n2 hc0 hc1 hf0 hf1 hbs
  go_wp2_with fail
  refine HC.out.mono ?_
  rintro e w4 ⟨v, rfl, o4, a4⟩
  have HO := hideIt (own_base o4 (C := w'.heap.size) (fun j hj => by have h1 := (o4.lt j hj).1; have h2 := HA2.out.size; have h3 := HB3.out.size; omega))
  have HR4 := hideIt (H3.out.after a4)
  have HB4 := hideIt (((HA2.out.but (S := One g)).trans HB3.out).trans a4.but)
  clear o4 a4
  go_wp2
  go_ret2
  exact ⟨_, rfl, HO.out, HR4.out, HB4.out⟩
theorem octets_any (w : World) (g h : Nat) (zs : List Int) (r : RdAt w g h zs) :
    Calls Try.prog 77 #[Ptr g] w fun e w' => ∃ v, e = .returned (.tuple #[v, .int .i64 (ocErr zs)]) ∧ w'.ownsRow w.heap.size 5 1 v (ocVal zs).length (u8s (ocVal zs)) ∧ RdAt w' g h (ocRest zs) ∧ But (One g) w w' := by
  by_cases hy : 2 ≤ zs.length ∧ ocN zs ≤ zs.length - 2
  · obtain ⟨e1, e2, e3, e4⟩ := oc_yes hy.1 hy.2
    refine (octets_yes w g h _ zs r hy.1 rfl hy.2).mono ?_
    rintro e w' ⟨v, rfl, h1, h2, h3⟩
    rw [e4, e1, e2, e3]
    exact ⟨v, rfl, h1, h2, h3⟩
  · obtain ⟨e1, e2, e3⟩ := oc_no hy
    rw [e1, e2, e3]
    by_cases hz : 2 ≤ zs.length
    · refine (octets_long w g h zs r hz (fun hl => hy ⟨hz, hl⟩)).mono ?_
      rintro e w' ⟨rfl, ha⟩
      exact ⟨_, rfl, World.ownsRow_nil _ _ _ _, r.after ha, ha.but⟩
    · refine (octets_short w g h zs r hz).mono ?_
      rintro e w' ⟨rfl, ha⟩
      exact ⟨_, rfl, World.ownsRow_nil _ _ _ _, r.after ha, ha.but⟩
end Go.Proofs.Ytigiakhdaaoljaa
