/-
  A message is read, or what is thrown is caught.
-/
import Derived.Test.YtigiakhdaaoljaaUnp1
import Derived.Test.YtigiakhdaaoljaaPack1
namespace Go.Proofs.Ytigiakhdaaoljaa
open Go.RowKit
set_option maxRecDepth 8000
theorem in35 (c : Array Value) (w : World) : (callFunc 35 c).run Try.prog w = .ok (.enter 35 c) w := by simp [go_sem]
theorem in24 (c : Array Value) (w : World) : (callFunc 24 c).run Try.prog w = .ok (.enter 24 c) w := by simp [go_sem]
theorem caught35 (w : World) (ga gc : Nat) (p : Option Addr) (zs : List Int) (S : Nat → Prop) (ka : Keeps w S ga (.cells ((Msg.zero 0).cells none 0 none 0 none 0) 26 (0, 0))) (kc : Keeps w S gc (.cells #[.pointer p, .pointer none] 52 (0, 0))) (cd : Cod w p none false zs S) :
    Calls Try.prog 23 #[.func (.func 35) #[] #[Ptr gc, Ptr ga]] w fun e w' => Ends (msgF false (Msg.zero 0) zs) (fun X _ => e = .returned (.int .i64 0) ∧ Read w w' ga X ∧ But (fun k => S k ∨ k = ga) w w') (fun c => e = .returned (.int .i64 c) ∧ But S w w') := by
  have hA : After w (w.alloc (.cells #[.int .i64 0] 28)) := After.rfl.alloc _
  have hsz : (w.alloc (.cells #[.int .i64 0] 28)).heap.size = w.heap.size + 1 := World.size_alloc _ _
  have hb := new1 w (.cells #[.int .i64 0] 28)
  refine (caught_any w 35 #[Ptr gc, Ptr ga] (fun w1 => ∃ X us, msgF false (Msg.zero 0) zs = .ok (X, us) ∧ Read (w.alloc (.cells #[.int .i64 0] 28)) w1 ga X ∧ But (fun k => S k ∨ k = ga) (w.alloc (.cells #[.int .i64 0] 28)) w1) (fun c w1 => msgF false (Msg.zero 0) zs = .error c ∧ But S (w.alloc (.cells #[.int .i64 0] 28)) w1) in35 ?_).mono ?_
  · refine (unp1 _ ga gc p zs S (ka.after hA) (kc.after hA) (cd.after hA)).mono ?_
    intro e w1 h1
    rcases h1.split with ⟨c9, e1, rfl, t⟩ | ⟨X, us, e1, rfl, hr, t⟩
    · exact ⟨(t.block _ (by omega) (fun h => by have := cd.lt _ h; omega)).trans hb, .inr ⟨c9, rfl, e1, t⟩⟩
    · exact ⟨(t.block _ (by omega) (fun h => h.elim (fun h => by have := cd.lt _ h; omega) (fun h => by have := ka.lt; omega))).trans hb, .inl ⟨rfl, X, us, e1, hr, t⟩⟩
  · rintro e w2 ⟨w1, ⟨rfl, ⟨X, us, e1, ⟨sa, sc, oa, oc, ba, bc, h1, h2, h3⟩, t⟩, rfl⟩ | ⟨c, rfl, ⟨e1, t⟩, rfl⟩⟩
    · have bs : But (One w.heap.size) w1 (w1.setCell ⟨w.heap.size, 0, none⟩ (.int .i64 0)) := But.set (S := One w.heap.size) But.rfl ⟨w.heap.size, 0, none⟩ (fun _ => Eq.refl _) _
      refine Ends.ok e1 ⟨rfl, ⟨sa, sc, oa, oc, ba, bc, set_far h1 (by have := ka.lt; omega), (h2.but bs (fun k hk e => by have e' : k = w.heap.size := e; omega)).mono (fun k hk => by omega), own_base (own_but h3 bs (fun k hk e => by have e' : k = w.heap.size := e; have := (h3.lt k hk).1; omega)) (fun k hk => Nat.le_trans (by omega) (h3.lt k hk).1)⟩, ?_⟩
      exact (hA.but.trans t).new (Nat.le_refl _) _ _
    · exact Ends.bad e1 ⟨rfl, ((hA.but.trans t).trans (After.rfl.alloc _).but).new (Nat.le_refl _) _ _⟩
theorem caught24 (w : World) (ga gc : Nat) (q : Option Addr) (S P : Nat → Prop) (M : Msg) (sa : Option Addr) (sc : Nat) (oa : Option Addr) (oc : Nat) (ba : Option Addr) (bc : Nat) (ka : Keeps w S ga (.cells (M.cells sa sc oa oc ba bc) 26 (0, 0))) (kc : Keeps w S gc (.cells #[.pointer none, .pointer q] 52 (0, 0))) (cd : Cod w none q true [] S) (x : MsgX w P M sa sc oa oc ba bc) (hP : ∀ k, P k → ¬ S k ∧ k < w.heap.size) :
    Calls Try.prog 23 #[.func (.func 24) #[] #[Ptr ga, Ptr gc]] w fun e w' => Ends (packF M) (fun _ zs => e = .returned (.int .i64 0) ∧ Went w w' none q true S zs) (fun c => e = .returned (.int .i64 c) ∧ But S w w') := by
  have hA : After w (w.alloc (.cells #[.int .i64 0] 28)) := After.rfl.alloc _
  have hsz : (w.alloc (.cells #[.int .i64 0] 28)).heap.size = w.heap.size + 1 := World.size_alloc _ _
  have hb := new1 w (.cells #[.int .i64 0] 28)
  refine (caught_any w 24 #[Ptr ga, Ptr gc] (fun w1 => ∃ zs, packF M = .ok ((), zs) ∧ Went (w.alloc (.cells #[.int .i64 0] 28)) w1 none q true S zs) (fun c w1 => packF M = .error c ∧ But S (w.alloc (.cells #[.int .i64 0] 28)) w1) in24 ?_).mono ?_
  · refine (pack1 _ ga gc q S P M sa sc oa oc ba bc (ka.after hA) (kc.after hA) (cd.after hA) (x.after hA) (fun k hk => ⟨(hP k hk).1, by have := (hP k hk).2; omega⟩)).mono ?_
    intro e w1 h1
    rcases h1.split with ⟨c9, e1, rfl, t⟩ | ⟨X, us, e1, rfl, S', k', s'⟩
    · exact ⟨(t.block _ (by omega) (fun h => by have := cd.lt _ h; omega)).trans hb, .inr ⟨c9, rfl, e1, t⟩⟩
    · exact ⟨(s'.but.block _ (by omega) (fun h => by have := cd.lt _ h; omega)).trans hb, .inl ⟨rfl, us, e1, S', k', s'⟩⟩
  · rintro e w2 ⟨w1, ⟨rfl, ⟨us, e1, S', k', s'⟩, rfl⟩ | ⟨c, rfl, ⟨e1, t⟩, rfl⟩⟩
    · refine Ends.ok e1 ⟨rfl, S', k'.set (fun h => (s'.new _ h).elim (fun h => by have := cd.lt _ h; omega) (fun h => by omega)) _ _, (Stp.behind hA s').newly (Nat.le_refl _) _ _⟩
    · exact Ends.bad e1 ⟨rfl, ((hA.but.trans t).trans (After.rfl.alloc _).but).new (Nat.le_refl _) _ _⟩
end Go.Proofs.Ytigiakhdaaoljaa
