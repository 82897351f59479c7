/-
  What was thrown is caught.
-/
import Derived.Test.YtigiakhdaaoljaaHalt
import Derived.Defers
import Derived.Recover
namespace Go.Proofs.Ytigiakhdaaoljaa
open Go.RowKit
set_option maxRecDepth 8000
theorem catch_idle (p : Addr) (w : World) :
    CallsD Try.prog 39 #[.pointer (some p)] .returning w fun e u' w' => e = .returned (.tuple #[]) ∧ u' = .returning ∧ w' = w := by
  refine callsD_of_wpS Try.func39 rfl fun c₀ cs hu => ?_
  apply wpS_seq
  apply wpS_region
  simp [wpOpsS, go_sem, recoverD, hu, Try.ntmps39, Exit.thenS]
  refine wpS_of_wp ?_
  go_wp2
  cases c₀
  simp_all [bodyPostS, results, Try.results39]
theorem set_there {w : World} {g : Nat} {x v : Value} {T : TypeId} (h : w.heap[g]? = some (.cells #[x] T (0, 0))) : (w.setCell ⟨g, 0, none⟩ v).cell? ⟨g, 0, none⟩ = some v := by
  simp [World.setCell, World.cell?, Array.getElem?_modify, h]
theorem is_halt (c : Int) (w : World) : (Instr.typeAssert (.iface 68 (.agg #[.int .i64 c])) 20 68 true).run Try.prog w = .ok (.tuple #[.agg #[.int .i64 c], .bool true]) w := by
  simp [Instr.typeAssert, go_sem]
set_option maxHeartbeats 400000 in
theorem catch_halt (g : Nat) (x c : Int) (w : World) (hg : g < w.heap.size) (hc : w.cell? ⟨g, 0, none⟩ = some (.int .i64 x)) (hz : w.frozen? ⟨g, 0, none⟩ = false) :
    CallsD Try.prog 39 #[.pointer (some ⟨g, 0, none⟩)] (.panicking (Halt c)) w fun e u' w' =>
      e = .returned (.tuple #[]) ∧ u' = .panicking [{ v := .iface 68 (.agg #[.int .i64 c]), recovered := true }] ∧ w' = (w.alloc (.cells #[.int .i64 c] 68)).setCell ⟨g, 0, none⟩ (.int .i64 c) := by
  refine callsD_of_wpS Try.func39 rfl fun c₀ cs hu => ?_
  apply wpS_seq
  apply wpS_region
  unfold Halt at hu
  simp [wpOpsS, go_sem, recoverD, hu, Try.ntmps39, Exit.thenS]
  refine wpS_of_wp (Code.wp_mono (Q := fun e a w' => e = .normal ∧ a.defers = [] ∧ w' = (w.alloc (.cells #[.int .i64 c] 68)).setCell ⟨g, 0, none⟩ (.int .i64 c)) ?_ ?_)
  · rintro e a w' ⟨rfl, hd, rfl⟩
    exact ⟨hd, _, rfl, .tuple #[], by simp [results, Try.results39], rfl, rfl, rfl⟩
  clear hu
  rw [show (#[Value.pointer (some ⟨g, 0, none⟩)] ++ (Array.replicate 11 undef).setIfInBounds 3 (Value.iface 68 (Value.agg #[Value.int IntKind.i64 c]))) = #[Value.pointer (some ⟨g, 0, none⟩), undef, undef, undef, Value.iface 68 (Value.agg #[Value.int IntKind.i64 c]), undef, undef, undef, undef, undef, undef, undef] from rfl]
  have hne : ¬ g = w.heap.size := by omega
  go_wp2
  rw [is_halt]
  go_wp2
theorem caught_any (w : World) (f : Nat) (cap : Array Value) (R : World → Prop) (B : Int → World → Prop) (hin : ∀ (c : Array Value) (w : World), (callFunc f c).run Try.prog w = .ok (.enter f c) w) (H : Calls Try.prog f cap (w.alloc (.cells #[.int .i64 0] 28)) fun e w' => w'.heap[w.heap.size]? = some (.cells #[.int .i64 0] 28 (0, 0)) ∧ (e = .returned (.tuple #[]) ∧ R w' ∨ ∃ c, e = .panicked (Halt c) ∧ B c w')) :
    Calls Try.prog 23 #[.func (.func f) #[] cap] w fun e w' => ∃ w1, (e = .returned (.int .i64 0) ∧ R w1 ∧ w' = w1.setCell ⟨w.heap.size, 0, none⟩ (.int .i64 0)) ∨ ∃ c, e = .returned (.int .i64 c) ∧ B c w1 ∧ w' = (w1.alloc (.cells #[.int .i64 c] 68)).setCell ⟨w.heap.size, 0, none⟩ (.int .i64 c) := by
  have hmf : ∀ (fn : Fn) (first cap : Array Value) (w : World), (Instr.makeFunc fn first cap).run Try.prog w = .ok (.func fn first cap) w := fun _ _ _ _ => rfl
  have H1 := hideIt H
  clear H
  go_enter_defers Try.func23, Try.ntmps23
  go_wp2_with (simp only [hin])
  refine H1.out.mono ?_
  clear H1
  rintro e w1 ⟨hb, ⟨rfl, hR⟩ | ⟨c, rfl, hB⟩⟩
  · have HR := hideIt (show ∃ w', w' = w1 ∧ R w' from ⟨w1, rfl, hR⟩)
    have hc0 : w1.cell? ⟨w.heap.size, 0, none⟩ = some (.int .i64 0) := by simp [World.cell?, hb]
    have hf0 : w1.frozen? ⟨w.heap.size, 0, none⟩ = false := by simp [World.frozen?, hb]
    clear hb hR
    go_wp2
    refine leaves_cons (f := 39) (args := #[.pointer (some ⟨w.heap.size, 0, none⟩)]) (by simp) (by simp [go_sem]) ?_
    refine (catch_idle ⟨w.heap.size, 0, none⟩ _).mono ?_
    rintro e u' w'' ⟨rfl, rfl, rfl⟩
    obtain ⟨_, rfl, hR⟩ := HR.out
    simp only [Leaves, settle]
    exact ⟨.int .i64 0, by simp [results, Try.results23, go_sem, hc0], _, .inl ⟨rfl, hR, rfl⟩⟩
  · have hc0 : w1.cell? ⟨w.heap.size, 0, none⟩ = some (.int .i64 0) := by simp [World.cell?, hb]
    have hf0 : w1.frozen? ⟨w.heap.size, 0, none⟩ = false := by simp [World.frozen?, hb]
    refine leaves_cons (f := 39) (args := #[.pointer (some ⟨w.heap.size, 0, none⟩)]) (by simp) (by simp [go_sem]) ?_
    refine (catch_halt w.heap.size 0 c _ (Array.getElem?_eq_some_iff.1 hb).1 hc0 hf0).mono ?_
    rintro e u' w'' ⟨rfl, rfl, rfl⟩
    simp only [settle, List.dropWhile_nil, Leaves]
    exact ⟨.int .i64 c, by simp [results, Try.results23, go_sem, set_there ((But.block (After.rfl.alloc (.cells #[.int .i64 c] 68)) w.heap.size (Array.getElem?_eq_some_iff.1 hb).1 (fun t => t)).trans hb)], _, .inr ⟨c, rfl, hB, rfl⟩⟩
end Go.Proofs.Ytigiakhdaaoljaa
