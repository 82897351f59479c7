/-
  The statements' helpers: spec, do.
-/
import Derived.Test.YthggkpmhcdmalaaAlG
import Derived.Test.YthggkpmhcdmalaaAlM
import Derived.Test.YthggkpmhcdmalaaAlO
import Derived.Deep.Cut
namespace Go.Proofs.Ythggkpmhcdmalaa
open Go.RowKit
set_option maxRecDepth 8000
theorem bring3 (i : Int) (w : World) (h1 : -9223372036854775808 ≤ i) (h2 : i ≤ 9223372036854775807) : Calls Try.prog 18 #[.int .i64 i, .int .i64 3] w fun e w' => e = .returned (.int .i64 (broughtTo i 3 : Nat)) ∧ w' = w := bring_any i 3 w h1 h2 (by omega) (by omega)
theorem bring12 (i : Int) (w : World) (h1 : -9223372036854775808 ≤ i) (h2 : i ≤ 9223372036854775807) : Calls Try.prog 18 #[.int .i64 i, .int .i64 12] w fun e w' => e = .returned (.int .i64 (broughtTo i 12 : Nat)) ∧ w' = w := bring_any i 12 w h1 h2 (by omega) (by omega)
theorem bring6k (i : Int) (w : World) (h1 : -9223372036854775808 ≤ i) (h2 : i ≤ 9223372036854775807) : Calls Try.prog 18 #[.int .i64 i, .int .i64 6000] w fun e w' => e = .returned (.int .i64 (broughtTo i 6000 : Nat)) ∧ w' = w := bring_any i 6000 w h1 h2 (by omega) (by omega)
theorem bring60 (i : Int) (w : World) (h1 : -9223372036854775808 ≤ i) (h2 : i ≤ 9223372036854775807) : Calls Try.prog 18 #[.int .i64 i, .int .i64 60] w fun e w' => e = .returned (.int .i64 (broughtTo i 60 : Nat)) ∧ w' = w := bring_any i 60 w h1 h2 (by omega) (by omega)
/-- One that may be, out of any. -/
def spc (s : Sp) : Sp := ⟨1 + (broughtTo s.pr 3 : Nat), s.la, (broughtTo s.es 12 : Nat)⟩
theorem spc_may (s : Sp) : (spc s).May := by
  have h1 := broughtTo_lt s.pr (m := 3) (by omega)
  have h2 := broughtTo_lt s.es (m := 12) (by omega)
  unfold spc Sp.May
  dsimp only
  omega
/-- Ints that may be. -/
def Sp.In (s : Sp) : Prop := -9223372036854775808 ≤ s.pr ∧ s.pr ≤ 9223372036854775807 ∧ -9223372036854775808 ≤ s.es ∧ s.es ≤ 9223372036854775807
set_option maxHeartbeats 1000000 in
theorem spec_any (w : World) (s : Sp) (hs : s.In) : Calls Try.prog 15 #[s.v] w fun e w' => e = .returned (spc s).v ∧ After w w' := by
  have H1 := hideIt (fun V => bring3 s.pr V hs.1 hs.2.1)
  have H2 := hideIt (fun V => bring12 s.es V hs.2.2.1 hs.2.2.2)
  obtain ⟨w0, hw0⟩ : ∃ w0, w0 = (w.alloc (.cells s.cs 23)).alloc (.cells #[.int .i64 0, .bool false, .int .i64 0] 23) := ⟨_, rfl⟩
  have a0 : After w w0 := by rw [hw0]; exact (After.rfl.alloc _).alloc _
  have h0 : w0.heap[w.heap.size]? = some (.cells s.cs 23 (0, 0)) := by
    have h : (w.alloc (.cells s.cs 23)).heap[w.heap.size]? = some (.cells s.cs 23 (0, 0)) := heap_alloc_new w _
    rw [hw0]
    exact ((After.rfl.alloc _ : After _ _).block _ (blk_lt h) (fun t => t)).trans h
  have h1 : w0.heap[w.heap.size + 1]? = some (.cells #[.int .i64 0, .bool false, .int .i64 0] 23 (0, 0)) := by
    rw [hw0]
    have := heap_alloc_new (w.alloc (.cells s.cs 23)) (.cells #[.int .i64 0, .bool false, .int .i64 0] 23)
    simpa using this
  have hc : ∀ V, V = w0.drew → V.cell? ⟨w.heap.size, 0, none⟩ = some (.int .i64 s.pr) ∧ V.cell? ⟨w.heap.size, 1, none⟩ = some (.bool s.la) ∧ V.cell? ⟨w.heap.size, 2, none⟩ = some (.int .i64 s.es) := fun V e => by subst e; exact spec_at h0 (But.drew After.rfl)
  have HC := hideIt hc
  have HB := hideIt h1
  have A0 := hideIt a0
  have l1 := broughtTo_lt s.pr (m := 3) (by omega)
  have l2 := broughtTo_lt s.es (m := 12) (by omega)
  have hv : (spc s).v = .agg #[.int .i64 (1 + (broughtTo s.pr 3 : Nat)), .bool s.la, .int .i64 (broughtTo s.es 12 : Nat)] := rfl
  rw [hv]
  have hw : IntKind.i64.wrap (1 + ((broughtTo s.pr 3 : Nat) : Int)) = 1 + ((broughtTo s.pr 3 : Nat) : Int) := IntWalk.i64_in _ (by omega)
  clear hs h0 h1 hv a0 hc hw
  generalize broughtTo s.pr 3 = B1 at *
  generalize broughtTo s.es 12 = B2 at *
  go_enter Try.func15, Try.ntmps15
  go_upto_region 1 with fail
  rw [← hw0]
  clear hw0
  refine region_phase (by kernel_rfl) (fun i => ([.pointer (some ⟨w.heap.size, 0, none⟩), .int .i64 s.pr, .int .i64 (B1 : Int), .int .i64 (1 + (B1 : Int)), .pointer (some ⟨w.heap.size, 1, none⟩), .bool s.la, .pointer (some ⟨w.heap.size, 2, none⟩), .int .i64 s.es, .int .i64 (B2 : Int), .agg #[.int .i64 (1 + (B1 : Int)), .bool s.la, .int .i64 (B2 : Int)]]).getD i undef) 3 10 (fun _ V => V = w0.drew) _ rfl rfl (Nat.le_of_ble_eq_true rfl) rfl ?_ rfl rfl 12 rfl ?_
  · exact ⟨ph_field rfl rfl rfl rfl rfl (fun w => fieldSp0 w _ _) (fun _ _ h => h),
      ph_load rfl rfl rfl rfl rfl (fun L V h => loadI (HC.out V h).1) (fun _ _ h => h),
      ph_call (vs := [.int .i64 s.pr, .int .i64 3]) rfl rfl rfl rfl (enterP Try.func18 (by kernel_rfl) (by kernel_rfl)) rfl (fun L V hd hl h => (H1.out V).mono (fun e w' q => ⟨q.1, by rw [q.2]; exact h⟩)),
      ph_bin rfl rfl rfl rfl rfl rfl (fun V => addI _ _ _ _ (by omega) (by omega) (by omega) (by omega) V) (fun _ _ h => h),
      ph_field rfl rfl rfl rfl rfl (fun w => fieldSp1 w _ _) (fun _ _ h => h),
      ph_load rfl rfl rfl rfl rfl (fun L V h => loadB (HC.out V h).2.1) (fun _ _ h => h),
      ph_field rfl rfl rfl rfl rfl (fun w => fieldSp2 w _ _) (fun _ _ h => h),
      ph_load rfl rfl rfl rfl rfl (fun L V h => loadI (HC.out V h).2.2) (fun _ _ h => h),
      ph_call (vs := [.int .i64 s.es, .int .i64 12]) rfl rfl rfl rfl (enterP Try.func18 (by kernel_rfl) (by kernel_rfl)) rfl (fun L V hd hl h => (H2.out V).mono (fun e w' q => ⟨q.1, by rw [q.2]; exact h⟩)),
      ph_build3 rfl rfl rfl rfl rfl rfl rfl (fun V => build_spec _ _ _ V) (fun _ _ h => h),
      trivial⟩
  intro w1 L hL h K' hK'
  subst h
  simp only [puts, List.getD_cons_succ, List.getD_cons_zero, List.setIfInBounds_toArray, List.set_cons_succ, List.set_cons_zero, Nat.reduceAdd]
  have hb : w0.drew.heap[w.heap.size + 1]? = some (.cells #[.int .i64 0, .bool false, .int .i64 0] 23 (0, 0)) := HB.out
  have h9 := blk_put (blk_put (blk_put hb 0 (.int .i64 (1 + (B1 : Int)))) 1 (.bool s.la)) 2 (.int .i64 (B2 : Int))
  have a8 : After w w0.drew := But.drew A0.out
  have a9 := ((After.set a8 ⟨w.heap.size + 1, 0, none⟩ (Nat.le_succ _) (.int .i64 (1 + (B1 : Int)))).set ⟨w.heap.size + 1, 1, none⟩ (Nat.le_succ _) (.bool s.la)).set ⟨w.heap.size + 1, 2, none⟩ (Nat.le_succ _) (.int .i64 (B2 : Int))
  refine pw_store rfl rfl (p := Ptr (w.heap.size + 1)) (v := .agg #[.int .i64 (1 + (B1 : Int)), .bool s.la, .int .i64 (B2 : Int)]) rfl rfl (run_storeSpec hb _ _ _) (hK' _ _ ?_)
  generalize ((w0.drew.setCell ⟨w.heap.size + 1, 0, none⟩ (.int .i64 (1 + (B1 : Int)))).setCell ⟨w.heap.size + 1, 1, none⟩ (.bool s.la)).setCell ⟨w.heap.size + 1, 2, none⟩ (.int .i64 (B2 : Int)) = w9 at *
  have p0 := blk_cell (i := 0) (v := .int .i64 (1 + (B1 : Int))) h9 rfl
  have p1 := blk_cell (i := 1) (v := .bool s.la) h9 rfl
  have p2 := blk_cell (i := 2) (v := .int .i64 (B2 : Int)) h9 rfl
  have A9 := hideIt a9
  clear hL hK' hb h9 a8 a9 HB A0 HC H1 H2
  go_wp2
  exact bodyPost_ret (v := .agg #[.int .i64 (1 + (B1 : Int)), .bool s.la, .int .i64 (B2 : Int)]) (by simp [results, Try.results15, go_sem, p0, p1, p2]) rfl ⟨rfl, A9.out⟩
/-- What a deed does: a step, an acknowledgement, a pause. -/
abbrev Dd.v (d : Dd) : Value := .agg #[.int .i64 d.k, .bool d.act, .int .i64 d.n]
abbrev Dd.kd (d : Dd) : Nat := broughtTo d.k 3
abbrev Dd.ps (d : Dd) : Int := 1 + (broughtTo d.n 6000 : Nat)
def doS (s : Sp) (x : As) (d : Dd) : As := if d.kd = 0 then stS s x d.act else if d.kd = 1 then akS x else psS x d.ps
def doE (s : Sp) (x : As) (d : Dd) : List Int := if d.kd = 0 then stE s x d.act else []
theorem doE_few (s : Sp) (x : As) (d : Dd) : (doE s x d).length ≤ 2 := by
  unfold doE
  split
  · exact st_few s x d.act
  · simp
theorem do_stands {s : Sp} (hs : s.May) {x : As} (h : s.Stands x) (d : Dd) : s.Stands (doS s x d) := by
  unfold doS
  split
  · exact st_stands hs h d.act
  · split
    · exact ak_stands h
    · exact ps_stands h _
theorem ps_ok (d : Dd) : psE d.ps = 0 := by
  have := broughtTo_lt d.n (m := 6000) (by omega)
  unfold psE
  rw [if_pos (by unfold Dd.ps; omega)]
theorem do_any {w : World} {p : Nat} {s : Sp} {x : As} (h : Al w p s x) (d : Dd) (hd : d.In) : Calls Try.prog 16 #[Ptr p, d.v] w fun e w' => ∃ v, e = .returned (.tuple #[v, .bool true]) ∧ OInts w' w.heap.size v (doE s x d) ∧ Al w' p s (doS s x d) ∧ But (One p) w w' := by
  have a0 : After w (w.alloc (.cells #[.int .i64 d.k, .bool d.act, .int .i64 d.n] 38)) := After.rfl.alloc _
  have A0 := hideIt a0
  have HB := hideIt (fun V => bring3 d.k V hd.1 hd.2.1)
  have HP := hideIt (fun V => bring6k d.n V hd.2.2.1 hd.2.2.2)
  have hk3 := broughtTo_lt d.k (m := 3) (by omega)
  have hp6 := broughtTo_lt d.n (m := 6000) (by omega)
  have HX := hideIt h
  have hw : IntKind.i64.wrap (1 + ((broughtTo d.n 6000 : Nat) : Int)) = 1 + ((broughtTo d.n 6000 : Nat) : Int) := IntWalk.i64_in _ (by omega)
  have size_le := a0.size
  have HZ := hideIt size_le
  rcases (by omega : broughtTo d.k 3 = 0 ∨ broughtTo d.k 3 = 1 ∨ broughtTo d.k 3 = 2) with e | e | e
  · have q1 : doS s x d = stS s x d.act := by unfold doS; rw [if_pos e]
    have q2 : doE s x d = stE s x d.act := by unfold doE; rw [if_pos e]
    rw [q1, q2]
    rw [e] at HB
    have HS := hideIt (step_any (h.after a0) d.act)
    clear h hd q1 q2 e hk3 hp6 hw HP a0 size_le
    go_enter Try.func16, Try.ntmps16
    go_wp2_with fail
    refine (HB.out _).mono ?_
    rintro e w1 ⟨rfl, rfl⟩
    clear HB
    go_wp2_with fail
    refine HS.out.mono ?_
    rintro e w2 ⟨v, rfl, own, x2, b2⟩
    have H := hideIt (And.intro own (And.intro x2 b2))
    clear own x2 b2 HS
    go_wp2
    go_ret2
    exact ⟨v, rfl, own_base H.out.1 (fun k hk => Nat.le_trans HZ.out (own_lt H.out.1 hk).1), H.out.2.1, But.trans A0.out.but H.out.2.2⟩
  · have q1 : doS s x d = akS x := by unfold doS; rw [if_neg (by rw [show d.kd = 1 from e]; decide), if_pos e]
    have q2 : doE s x d = [] := by unfold doE; rw [if_neg (by unfold Dd.kd; omega)]
    rw [q1, q2]
    rw [e] at HB
    have HS := hideIt (ack_any (h.after a0))
    have HQ : akE x = 0 ∨ akE x = 70 := by unfold akE; split; exact .inl rfl; split; exact .inl rfl; exact .inr rfl
    clear h hd q1 q2 e hk3 hp6 hw HP a0 size_le
    generalize akE x = q at *
    go_enter Try.func16, Try.ntmps16
    go_wp2_with fail
    refine (HB.out _).mono ?_
    rintro e w1 ⟨rfl, rfl⟩
    clear HB
    go_wp2_with fail
    refine HS.out.mono ?_
    rintro e w2 ⟨rfl, x2, b2⟩
    have H := hideIt (And.intro x2 b2)
    clear x2 b2 HS
    rcases HQ with rfl | rfl
    all_goals
      go_wp2
      go_ret2
      exact ⟨_, rfl, own_nil _ _, H.out.1, But.trans A0.out.but H.out.2⟩
  · have q1 : doS s x d = psS x d.ps := by unfold doS; rw [if_neg (by rw [show d.kd = 2 from e]; decide), if_neg (by rw [show d.kd = 2 from e]; decide)]
    have q2 : doE s x d = [] := by unfold doE; rw [if_neg (by unfold Dd.kd; omega)]
    rw [q1, q2]
    rw [e] at HB
    have HS := hideIt (pause_any (h.after a0) d.ps)
    rw [ps_ok] at HS
    unfold Dd.ps at HS
    unfold Dd.ps
    clear h hd q1 q2 e hk3 hp6 a0 size_le
    generalize broughtTo d.n 6000 = B at *
    go_enter Try.func16, Try.ntmps16
    go_wp2_with fail
    refine (HB.out _).mono ?_
    rintro e w1 ⟨rfl, rfl⟩
    clear HB
    go_wp2_with fail
    refine (HP.out _).mono ?_
    rintro e w1 ⟨rfl, rfl⟩
    clear HP
    go_wp2_with fail
    refine HS.out.mono ?_
    rintro e w2 ⟨rfl, x2, b2⟩
    have H := hideIt (And.intro x2 b2)
    clear x2 b2 HS
    go_wp2
    go_ret2
    exact ⟨_, rfl, own_nil _ _, H.out.1, But.trans A0.out.but H.out.2⟩
end Go.Proofs.Ythggkpmhcdmalaa
