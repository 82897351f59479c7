/-
  PanelGraver: Graver answers as the chapter says, of all vectors.
-/
import Derived.Test.YtaiagijepnaalaaLawTop19
namespace Go.Proofs.Ytaiagijepnaalaa
open Go.RowKit
set_option maxRecDepth 8000
theorem eqlB (x y : Operand) (b : Bool) (w : World) : (do eqGuard .eql 4 x y (.bool b) (.bool b); binOp .eql 4 (.bool b) (.bool b) : Sem Value).run Try.prog w = .ok (.bool true) w := by
  simp [go_sem, eqGuard]
theorem law_graver (w : World) (u v : Vec) (hu : u.Ok) (hv : v.Ok) : Calls Try.prog 4 #[u.v, v.v] w fun e w' => e = .returned (.bool true) ∧ After w w' := by
  have H := two_vec w u v
  have G1 := fun V => graver_any V u v hu hv
  have G2 := fun V => refGraver_any V u v hu hv
  have G3 := fun V => graver_any V v u hv hu
  have G4 := fun V => refGraver_any V v u hv hu
  generalize grv u v = P at *
  generalize grv v u = Q at *
  have S := hideIt (And.intro G1 (And.intro G2 (And.intro G3 G4)))
  have K := hideIt (And.intro hu hv)
  clear G1 G2 G3 G4 hu hv
  obtain ⟨w0, h0⟩ : ∃ w0, w0 = (w.alloc (.cells u.cs.toArray 29)).alloc (.cells v.cs.toArray 29) := ⟨_, rfl⟩
  rw [← h0] at H
  have A := hideIt H
  clear H
  unfold Vec.v at *
  generalize hc1 : u.cs.toArray = C1 at *
  generalize hc2 : v.cs.toArray = C2 at *
  have L1 : ∀ V, After w0 V → (Instr.loadAt 29 (Ptr w.heap.size)).run Try.prog V = .ok (.agg C1) V := fun V h => by have := loadVec (A.out.1.after h) K.out.1; unfold Vec.v at this; rw [hc1] at this; exact this
  have L2 : ∀ V, After w0 V → (Instr.loadAt 29 (Ptr (w.heap.size + 1))).run Try.prog V = .ok (.agg C2) V := fun V h => by have := loadVec (A.out.2.1.after h) K.out.2; unfold Vec.v at this; rw [hc2] at this; exact this
  have L := hideIt (And.intro L1 L2)
  clear L1 L2
  go_enter Try.func4, Try.ntmps4
  go_upto_region 1 with fail
  rw [← h0]
  clear h0
  refine region_phase (by kernel_rfl) (fun i => ([.agg C1, .agg C2, .bool P, .agg C1, .agg C2, .bool P, .bool true, .bool true, .agg C2, .agg C1, .bool Q, .agg C2, .agg C1, .bool Q, .bool true, .bool true, .bool true, .bool true, .bool true]).getD i undef) 5 19 (fun _ V => After w0 V) _ rfl rfl (Nat.le_of_ble_eq_true rfl) (But.drew After.rfl) ?_ rfl rfl 19 rfl ?_
  · exact ⟨ph_load rfl rfl rfl rfl rfl (fun _ V h => L.out.1 V h) (fun _ _ h => h),
      ph_load rfl rfl rfl rfl rfl (fun _ V h => L.out.2 V h) (fun _ _ h => h),
      ph_call (vs := [.agg C1, .agg C2]) rfl rfl rfl rfl (enterP Try.func14 (by kernel_rfl) (by kernel_rfl)) rfl (fun _ V _ _ h => (S.out.1 V).mono (fun e w' q => ⟨q.1, h.trans q.2⟩)),
      ph_load rfl rfl rfl rfl rfl (fun _ V h => L.out.1 V h) (fun _ _ h => h),
      ph_load rfl rfl rfl rfl rfl (fun _ V h => L.out.2 V h) (fun _ _ h => h),
      ph_call (vs := [.agg C1, .agg C2]) rfl rfl rfl rfl (enterP Try.func15 (by kernel_rfl) (by kernel_rfl)) rfl (fun _ V _ _ h => (S.out.2.1 V).mono (fun e w' q => ⟨q.1, h.trans q.2⟩)),
      ph_bin rfl rfl rfl rfl rfl rfl (fun V => eqlB _ _ P V) (fun _ _ h => h),
      ph_move rfl rfl rfl rfl rfl (fun _ _ h => h),
      ph_load rfl rfl rfl rfl rfl (fun _ V h => L.out.2 V h) (fun _ _ h => h),
      ph_load rfl rfl rfl rfl rfl (fun _ V h => L.out.1 V h) (fun _ _ h => h),
      ph_call (vs := [.agg C2, .agg C1]) rfl rfl rfl rfl (enterP Try.func14 (by kernel_rfl) (by kernel_rfl)) rfl (fun _ V _ _ h => (S.out.2.2.1 V).mono (fun e w' q => ⟨q.1, h.trans q.2⟩)),
      ph_load rfl rfl rfl rfl rfl (fun _ V h => L.out.2 V h) (fun _ _ h => h),
      ph_load rfl rfl rfl rfl rfl (fun _ V h => L.out.1 V h) (fun _ _ h => h),
      ph_call (vs := [.agg C2, .agg C1]) rfl rfl rfl rfl (enterP Try.func15 (by kernel_rfl) (by kernel_rfl)) rfl (fun _ V _ _ h => (S.out.2.2.2 V).mono (fun e w' q => ⟨q.1, h.trans q.2⟩)),
      ph_bin rfl rfl rfl rfl rfl rfl (fun V => eqlB _ _ Q V) (fun _ _ h => h),
      ph_pick (q := true) rfl rfl rfl rfl rfl rfl rfl (fun _ _ h => h),
      ph_move rfl rfl rfl rfl rfl (fun _ _ h => h),
      ph_call (vs := []) rfl rfl rfl rfl (enterP Try.func13 (by kernel_rfl) (by kernel_rfl)) rfl (fun _ V _ _ h => (works_any V).mono (fun e w' q => ⟨q.1, h.trans q.2⟩)),
      ph_pick (q := true) rfl rfl rfl rfl rfl rfl rfl (fun _ _ h => h),
      trivial⟩
  intro w4 Ls hL h K' hK'
  simp only [puts, List.getD_cons_succ, List.getD_cons_zero, List.setIfInBounds_toArray, List.set_cons_succ, List.set_cons_zero, Nat.reduceAdd]
  refine pw_assign rfl rfl (hK' _ _ ?_)
  have E := hideIt (A.out.2.2.trans h)
  clear hL hK' h S A K L
  go_wp2
  go_ret
  exact ⟨rfl, E.out⟩
end Go.Proofs.Ytaiagijepnaalaa
