/-
  A turn is given: a task is called, what is deferred ends the turn.
-/
import Derived.Test.YtkjjjibglaffnaaExE
import Derived.Defers
import Derived.Recover
namespace Go.Proofs.Ytkjjjibglaffnaa
open Go.RowKit
set_option maxRecDepth 8000
/-- What is deferred, behind a task that came back. -/
theorem give_out {w : World} {gk gt b : Nat} {p : Int} {t : Tn} {s : Int} {lv : Value} (hk : w.heap[gk]? = some (.cells #[.bool true] 4 (0, 0))) (ht : w.heap[gt]? = some (.cells #[Ptr b] 75 (0, 0))) (hb : w.heap[b]? = some (.cells (tuC p t s lv false) 105 (0, 0))) :
    CallsD Try.prog 42 #[Ptr gk, Ptr gt] .returning w fun e u' w' => e = .returned (.tuple #[]) ∧ u' = .returning ∧ w' = w.setCell ⟨b, 6, none⟩ (.bool true) := by
  have c0 := blk_cell hk (i := 0) rfl
  have c1 := blk_cell ht (i := 0) rfl
  have c6 := blk_cell hb (i := 6) rfl
  have s6 := blk_soft hb 6
  refine callsD_of_wpS Try.func42 rfl fun c₀ cs hu => ?_
  apply wpS_seq
  apply wpS_region
  simp [wpOpsS, go_sem, recoverD, hu, Try.ntmps42, Exit.thenS]
  refine wpS_of_wp ?_
  clear hk ht hb
  go_wp2
  cases c₀
  simp_all [bodyPostS, results, Try.results42]
/-- What giving a turn leaves behind: w1 the world behind the task. -/
def Gave (w w1 w' : World) (b : Nat) (p : Int) (t : Tn) (s : Int) (lv : Value) : Prop :=
  ∃ gk q, w.heap.size ≤ gk ∧ w'.heap[b]? = some (.cells (tuC p t s lv true) 105 (0, 0)) ∧ But (fun k => k = gk ∨ k = b) w1 w' ∧ w1.heap[gk]? = some (.cells #[.bool q] 4 (0, 0))
theorem gave_of {w w1 w' : World} {gk b : Nat} {q : Bool} {p : Int} {t : Tn} {s : Int} {lv : Value} (hq : w1.heap[gk]? = some (.cells #[.bool q] 4 (0, 0))) (hg : w.heap.size ≤ gk) (hb : w1.heap[b]? = some (.cells (tuC p t s lv false) 105 (0, 0))) (hne : b ≠ gk) (h : w' = (w1.setCell ⟨gk, 0, none⟩ (.bool true)).setCell ⟨b, 6, none⟩ (.bool true)) : Gave w w1 w' b p t s lv := by
  subst h
  have b1 := but_one w1 gk 0 (.bool true)
  refine ⟨gk, q, hg, blk_put ((b1.block b (blk_lt hb) (fun e => hne e)).trans hb) 6 (.bool true), (b1.mono (fun _ _ h => .inl h)).then (but_one _ b 6 (.bool true)) (fun _ _ h => .inr h), hq⟩
theorem two_blocks (w : World) (b : Nat) (q : Bool) : ((w.alloc (.cells #[Ptr b] 75)).alloc (.cells #[.bool q] 4)).heap[w.heap.size]? = some (.cells #[Ptr b] 75 (0, 0)) ∧ ((w.alloc (.cells #[Ptr b] 75)).alloc (.cells #[.bool q] 4)).heap[w.heap.size + 1]? = some (.cells #[.bool q] 4 (0, 0)) := by
  refine ⟨?_, ?_⟩
  · rw [Below.heap_alloc _ _ _ (by simp)]; exact heap_alloc_new w _
  · have := heap_alloc_new (w.alloc (.cells #[Ptr b] 75)) (.cells #[.bool q] 4)
    rw [World.size_alloc] at this; exact this
set_option maxHeartbeats 1000000 in
theorem give_nil {w : World} {b : Nat} {p : Int} {t : Tn} {s : Int} {lv : Value} (x : w.heap[b]? = some (.cells (tuC p t s lv false) 105 (0, 0))) :
    Calls Try.prog 34 #[Ptr b, .nilIface] w fun e w' => e = .returned (.tuple #[]) ∧ ∃ w1, After w w1 ∧ Gave w w1 w' b p t s lv := by
  have hmf : ∀ (fn : Fn) (first cap : Array Value) (w : World), (Instr.makeFunc fn first cap).run Try.prog w = .ok (.func fn first cap) w := fun _ _ _ _ => rfl
  obtain ⟨h1, h2⟩ := two_blocks w b true
  have a1 : After w ((w.alloc (.cells #[Ptr b] 75)).alloc (.cells #[.bool true] 4)) := (After.rfl.alloc _).alloc _
  have HX := hideIt (And.intro h1 (And.intro h2 (And.intro ((a1.block b (blk_lt x) (fun t => t)).trans x) (And.intro a1 (blk_lt x)))))
  clear x h1 h2 a1
  go_enter_defers Try.func34, Try.ntmps34
  go_wp2_with fail
  refine leaves_cons (f := 42) (args := #[Ptr (w.heap.size + 1), Ptr w.heap.size]) (by simp) (by simp [go_sem]) ?_
  refine (give_out HX.out.2.1 HX.out.1 HX.out.2.2.1).mono ?_
  rintro e u' w'' ⟨rfl, rfl, rfl⟩
  simp only [Leaves, settle]
  refine ⟨.tuple #[], by simp [results, Try.results34, go_sem], rfl, _, HX.out.2.2.2.1, w.heap.size + 1, true, by omega, blk_put HX.out.2.2.1 6 _, (but_one _ b 6 _).mono (fun _ _ h => .inr h), HX.out.2.1⟩
/-- What is known when a task is called with its cell. -/
structure Met (w : World) (b : Nat) (p : Int) (t : Tn) (s : Int) (lv : Value) (gt gk c : Nat) (W : World) : Prop where
  aft : After w W
  cl : Cl W c b p t s lv false
  kt : W.heap[gt]? = some (.cells #[Ptr b] 75 (0, 0))
  kk : W.heap[gk]? = some (.cells #[.bool false] 4 (0, 0))
  nt : w.heap.size ≤ gt
  nk : w.heap.size ≤ gk
  nc : w.heap.size ≤ c
set_option maxHeartbeats 1000000 in
theorem give_task {w : World} {b : Nat} {p : Int} {t : Tn} {s : Int} {lv : Value} (x : w.heap[b]? = some (.cells (tuC p t s lv false) 105 (0, 0))) {T f : Nat} {u : Value}
    (hme : ∀ w, (method 230 T u "Run").run Try.prog w = .ok (f, u) w) (hf : ∀ args W, (callFunc f args).run Try.prog W = .ok (.enter f args) W) (K : Nat → Tn → World → Prop)
    (hrun : ∀ gt gk c W, Met w b p t s lv gt gk c W → Calls Try.prog f #[u, Ptr c] W fun e w1 => e = .returned (.tuple #[]) ∧ ∃ t', w1.heap[b]? = some (.cells (tuC p t' s lv false) 105 (0, 0)) ∧ w1.heap[gt]? = W.heap[gt]? ∧ w1.heap[gk]? = W.heap[gk]? ∧ K c t' w1) :
    Calls Try.prog 34 #[Ptr b, .iface T u] w fun e w' => e = .returned (.tuple #[]) ∧ ∃ w1 t' c, K c t' w1 ∧ Gave w w1 w' b p t' s lv ∧ w'.heap[c]? = w1.heap[c]? := by
  have hmf : ∀ (fn : Fn) (first cap : Array Value) (w : World), (Instr.makeFunc fn first cap).run Try.prog w = .ok (.func fn first cap) w := fun _ _ _ _ => rfl
  obtain ⟨h1, h2⟩ := two_blocks w b false
  have lb := blk_lt x
  obtain ⟨W, hW⟩ : ∃ W, W = ((w.alloc (.cells #[Ptr b] 75)).alloc (.cells #[.bool false] 4)).alloc (.cells #[Ptr b] 77) := ⟨_, rfl⟩
  have a3 : After ((w.alloc (.cells #[Ptr b] 75)).alloc (.cells #[.bool false] 4)) W := by rw [hW]; exact After.rfl.alloc _
  have a1 : After w W := ((After.rfl.alloc _).alloc _).trans a3
  have h3 : W.heap[w.heap.size + 2]? = some (.cells #[Ptr b] 77 (0, 0)) := by
    rw [hW]
    have := heap_alloc_new ((w.alloc (.cells #[Ptr b] 75)).alloc (.cells #[.bool false] 4)) (.cells #[Ptr b] 77)
    rw [World.size_alloc, World.size_alloc] at this; exact this
  have HM : Hid (Met w b p t s lv w.heap.size (w.heap.size + 1) (w.heap.size + 2) W) := hideIt ⟨a1, ⟨h3, (a1.block b lb (fun t => t)).trans x⟩, (a3.block _ (by simp; omega) (fun t => t)).trans h1, (a3.block _ (by simp) (fun t => t)).trans h2, Nat.le_refl _, by omega, by omega⟩
  have HR := hideIt (hrun _ _ _ _ HM.out)
  have HL := hideIt lb
  have HW := hideIt hW
  have HC := hideIt (show ∀ w1 : World, ((w1.setCell ⟨w.heap.size + 1, 0, none⟩ (.bool true)).setCell ⟨b, 6, none⟩ (.bool true)).heap[w.heap.size + 2]? = w1.heap[w.heap.size + 2]? from fun w1 => by
    have e1 := Below.heap_setCell w1 ⟨w.heap.size + 1, 0, none⟩ (.bool true) (w.heap.size + 2) (by show w.heap.size + 2 ≠ w.heap.size + 1; omega)
    have e2 := Below.heap_setCell (w1.setCell ⟨w.heap.size + 1, 0, none⟩ (.bool true)) ⟨b, 6, none⟩ (.bool true) (w.heap.size + 2) (by show w.heap.size + 2 ≠ b; omega)
    exact e2.trans e1)
  clear x h1 h2 h3 a3 a1 lb hW hrun
  go_enter_defers Try.func34, Try.ntmps34
  go_wp2_with fail
  rw [← HW.out]
  refine HR.out.mono ?_
  rintro e w1 ⟨rfl, t', hb, ht, hk, hK⟩
  have hk2 := hk.trans HM.out.kk
  have ht2 := ht.trans HM.out.kt
  have ck := blk_cell hk2 (i := 0) rfl
  have sk := blk_soft hk2 0
  have lk := blk_lt hk2
  have HH := hideIt (And.intro hb (And.intro ht2 (And.intro hk2 hK)))
  clear hb ht hk hK hk2 ht2
  go_wp2_with fail
  have hb := HH.out.1
  have hne : b ≠ w.heap.size + 1 := fun e => by have := HL.out; omega
  have b1 := but_one w1 (w.heap.size + 1) 0 (.bool true)
  refine leaves_cons (f := 42) (args := #[Ptr (w.heap.size + 1), Ptr w.heap.size]) (by simp) (by simp [go_sem]) ?_
  refine (give_out (blk_put HH.out.2.2.1 0 (.bool true)) ((b1.block _ (blk_lt HH.out.2.1) (fun e => by have : w.heap.size = w.heap.size + 1 := e; omega)).trans HH.out.2.1) ((b1.block b (blk_lt hb) (fun e => hne e)).trans hb)).mono ?_
  rintro e u' w'' ⟨rfl, rfl, rfl⟩
  simp only [Leaves, settle]
  exact ⟨.tuple #[], by simp [results, Try.results34, go_sem], rfl, w1, t', _, HH.out.2.2.2, gave_of HH.out.2.2.1 (by omega) hb hne rfl, HC.out w1⟩
end Go.Proofs.Ytkjjjibglaffnaa
