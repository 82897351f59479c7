/-
  What Unpack does with a coder: the message is read into a variable.
-/
import Derived.Test.YtigiakhdaaoljaaMess
import Derived.Test.YtigiakhdaaoljaaCatch
namespace Go.Proofs.Ytigiakhdaaoljaa
open Go.RowKit
set_option maxRecDepth 8000
/-- A variable that holds a message that was read. -/
def Read (w w' : World) (g : Nat) (X : Msg) : Prop :=
  ∃ sa sc oa oc ba bc, w'.heap[g]? = some (.cells (X.cells sa sc oa oc ba bc) 26 (0, 0)) ∧ MsgX w' (fun k => w.heap.size ≤ k) X sa sc oa oc ba bc ∧ w'.ownsRow w.heap.size 5 1 (.slice sa X.sys.length sc) X.sys.length (u8s X.sys)
set_option maxHeartbeats 1000000 in
theorem unp1 (w : World) (ga gc : Nat) (p : Option Addr) (zs : List Int) (S : Nat → Prop) (ka : Keeps w S ga (.cells ((Msg.zero 0).cells none 0 none 0 none 0) 26 (0, 0))) (kc : Keeps w S gc (.cells #[.pointer p, .pointer none] 52 (0, 0))) (cd : Cod w p none false zs S) :
    Calls Try.prog 35 #[Ptr gc, Ptr ga] w fun e w' => Ends (msgF false (Msg.zero 0) zs) (fun X _ => e = .returned (.tuple #[]) ∧ Read w w' ga X ∧ But (fun k => S k ∨ k = ga) w w') (fun c => e = .panicked (Halt c) ∧ But S w w') := by
  have HM := hideIt (c_message w p none false zs S (fun _ => False) (Msg.zero 0) none 0 none 0 none 0 cd (MsgX.nils w _ 0 0 0 0) (fun k hk => hk.elim) (fun h => by cases h))
  unfold Msg.zero Msg.cells at ka
  obtain ⟨_, ⟨g0, g1, g2, g3, g4, g5, g6⟩, _⟩ := seven_at ka.at0
  obtain ⟨_, d0, d1, _, _⟩ := two_at kc.at0
  have HK := hideIt (And.intro ka kc)
  clear ka kc cd
  generalize hR : msgF false (Msg.zero 0) zs = R at HM ⊢
  clear hR
  go_enter Try.func35, Try.ntmps35
  go_wp2_with fail
  refine HM.out.mono ?_
  clear HM
  intro e w1 h1
  rcases h1.split with ⟨c9, e1, rfl, t⟩ | ⟨X, us, e1, ⟨xa, xc, ya, yc, za, zc, rfl, hv⟩, S', k', s'⟩
  · exact ⟨rfl, Ends.bad e1 ⟨rfl, t⟩⟩
  have ka1 := HK.out.1.step s'
  have hlt := HK.out.1.lt
  obtain ⟨_, ⟨y0, y1, y2, y3, y4, y5, y6⟩, ⟨z0, z1, z2, z3, z4, z5, z6⟩⟩ := seven_at ka1.at0
  have HV := hideIt (And.intro e1 (And.intro (hv rfl) (And.intro ka1 (And.intro s'.but hlt))))
  clear h1 e1 hv ka1 s' k' hlt g0 g1 g2 g3 g4 g5 g6 d0 d1 HK
  unfold Msg.val
  obtain ⟨Xk, Xs, Xc, Xr, Xq, Xo, Xb⟩ := X
  dsimp only
  go_wp2_with fail
  obtain ⟨e1, ⟨hx, ho⟩, ka1, sb, hlt⟩ := HV.out
  first | go_end0 | refine bodyPost_ret (results_none rfl _ _ _) rfl ?_
  refine Ends.ok e1 ⟨rfl, ⟨xa, xc, ya, yc, za, zc, seven_sets ka1.at0 _ _ _ _ _ _ _, ?_, ?_⟩, ?_⟩
  · refine (hx.but (T := One ga) ?_ (fun k hk e => by have e' : k = ga := e; rcases hk with h | h; exact h.elim; omega)).mono (fun k hk => hk.elim False.elim id)
    iterate 7 refine But.set (S := One ga) ?_ ⟨ga, _, none⟩ (fun _ => Eq.refl _) _
    exact But.rfl
  · refine own_but (S := One ga) ho ?_ (fun k hk e => by have e' : k = ga := e; have := (ho.lt k hk).1; omega)
    iterate 7 refine But.set (S := One ga) ?_ ⟨ga, _, none⟩ (fun _ => Eq.refl _) _
    exact But.rfl
  · iterate 7 refine But.set ?_ ⟨ga, _, none⟩ (fun _ => .inr rfl) _
    exact sb.mono (fun _ _ h => .inl h)
end Go.Proofs.Ytigiakhdaaoljaa
