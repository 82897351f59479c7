/-
  What stands in a message, by a coder: its kind is one that may be, and its fields.
-/
import Derived.Test.YtigiakhdaaoljaaFields
import Derived.Test.YtigiakhdaaoljaaTaken
namespace Go.Proofs.Ytigiakhdaaoljaa
open Go.RowKit
set_option maxRecDepth 8000
def alone (k : Int) : Bool := decide (k = 57856 ∨ k = 58112 ∨ k = 58368 ∨ k = 58624 ∨ k = 58880)
def inData (k : Int) : Bool := decide (k = 3356 ∨ k = 3357 ∨ k = 3358)
theorem alone_any (w : World) (k : Int) : Calls Try.prog 20 #[.int .i64 k] w fun e w' => e = .returned (.bool (alone k)) ∧ w' = w := by
  by_cases h : k = 57856 ∨ k = 58112 ∨ k = 58368 ∨ k = 58624 ∨ k = 58880
  · rw [show alone k = true from decide_eq_true h]
    rcases h with rfl | rfl | rfl | rfl | rfl
    all_goals
      go_enter Try.func20, Try.ntmps20
      go_wp2_with fail
      go_ret
      exact ⟨rfl, rfl⟩
  · rw [show alone k = false from decide_eq_false h]
    have n1 : (k == 57856) = false := by simpa using fun e => h (.inl e)
    have n2 : (k == 58112) = false := by simpa using fun e => h (.inr (.inl e))
    have n3 : (k == 58368) = false := by simpa using fun e => h (.inr (.inr (.inl e)))
    have n4 : (k == 58624) = false := by simpa using fun e => h (.inr (.inr (.inr (.inl e))))
    have n5 : (k == 58880) = false := by simpa using fun e => h (.inr (.inr (.inr (.inr e))))
    clear h
    go_enter Try.func20, Try.ntmps20
    go_wp2_with fail
    go_ret
    exact ⟨rfl, rfl⟩
theorem inData_any (w : World) (k : Int) : Calls Try.prog 21 #[.int .i64 k] w fun e w' => e = .returned (.bool (inData k)) ∧ w' = w := by
  by_cases h : k = 3356 ∨ k = 3357 ∨ k = 3358
  · rw [show inData k = true from decide_eq_true h]
    rcases h with rfl | rfl | rfl
    all_goals
      go_enter Try.func21, Try.ntmps21
      go_wp2_with fail
      go_ret
      exact ⟨rfl, rfl⟩
  · rw [show inData k = false from decide_eq_false h]
    have n1 : (k == 3356) = false := by simpa using fun e => h (.inl e)
    have n2 : (k == 3357) = false := by simpa using fun e => h (.inr (.inl e))
    have n3 : (k == 3358) = false := by simpa using fun e => h (.inr (.inr e))
    clear h
    go_enter Try.func21, Try.ntmps21
    go_wp2_with fail
    go_ret
    exact ⟨rfl, rfl⟩
theorem fields_any (w : World) (p q : Option Addr) (m : Bool) (zs : List Int) (S P : Nat → Prop) (k : Int) (M : Msg) (sa : Option Addr) (sc : Nat) (oa : Option Addr) (oc : Nat) (ba : Option Addr) (bc : Nat) (cd : Cod w p q m zs S) (x : MsgX w P M sa sc oa oc ba bc) (hP : ∀ k, P k → ¬ S k ∧ k < w.heap.size) (hl : m = true → zs.length ≤ 900000000) (hk : alone k = true ∨ inData k = true) :
    Calls Try.prog 43 #[Co p q, .int .i64 k, M.val sa sc oa oc ba bc] w fun e w' => Ends (fieldsF m k M zs) (fun X us => Msgs w w' m e P X ∧ Went w w' p q m S us) (fun c => e = .panicked (Halt c) ∧ But S w w') := by
  rcases hk.imp of_decide_eq_true of_decide_eq_true with (rfl | rfl | rfl | rfl | rfl) | (rfl | rfl | rfl)
  · exact f_57856 w p q m zs S P M sa sc oa oc ba bc cd x hP hl
  · exact f_58112 w p q m zs S P M sa sc oa oc ba bc cd x hP hl
  · exact f_58368 w p q m zs S P M sa sc oa oc ba bc cd x hP hl
  · exact f_58624 w p q m zs S P M sa sc oa oc ba bc cd x hP hl
  · exact f_58880 w p q m zs S P M sa sc oa oc ba bc cd x hP hl
  · exact f_3356 w p q m zs S P M sa sc oa oc ba bc cd x hP hl
  · exact f_3357 w p q m zs S P M sa sc oa oc ba bc cd x hP hl
  · exact f_3358 w p q m zs S P M sa sc oa oc ba bc cd x hP hl
/-- The cells of a message. -/
def Msg.cells (M : Msg) (sa : Option Addr) (sc : Nat) (oa : Option Addr) (oc : Nat) (ba : Option Addr) (bc : Nat) : Array Value :=
  #[.int .i64 M.kind, .slice sa M.sys.length sc, .int .i64 M.config, .int .i64 M.result, .int .i64 M.reason, .slice oa M.objs.length oc, .slice ba M.obs.length bc]
/-- A variable holds a message that was gone through. -/
def Vars (w w' : World) (m : Bool) (g : Nat) (P : Nat → Prop) (X : Msg) : Prop :=
  ∃ sa sc oa oc ba bc, w'.heap[g]? = some (.cells (X.cells sa sc oa oc ba bc) 26 (0, 0)) ∧ MsgX w' (fun k => P k ∨ w.heap.size ≤ k) X sa sc oa oc ba bc ∧ (m = false → w'.ownsRow w.heap.size 5 1 (.slice sa X.sys.length sc) X.sys.length (u8s X.sys))
/-- A coder has gone on, and a variable was stored into. -/
structure StpV (S : Nat → Prop) (g : Nat) (w : World) (S' : Nat → Prop) (w' : World) : Prop where
  but : But (fun k => S k ∨ k = g) w w'
  new : ∀ k, S' k → S k ∨ w.heap.size ≤ k
def insF (m : Bool) (ok : Int → Bool) (k : Int) (M : Msg) (zs : List Int) : Except Int (Msg × List Int) :=
  if ok k = true then fieldsF m k M zs else .error (stp m 4)
theorem seven_sets {w : World} {g : Nat} {T : TypeId} {y0 y1 y2 y3 y4 y5 y6 : Value} (h : w.heap[g]? = some (.cells #[y0, y1, y2, y3, y4, y5, y6] T (0, 0))) (x0 x1 x2 x3 x4 x5 x6 : Value) :
    (((((((w.setCell ⟨g, 0, none⟩ x0).setCell ⟨g, 1, none⟩ x1).setCell ⟨g, 2, none⟩ x2).setCell ⟨g, 3, none⟩ x3).setCell ⟨g, 4, none⟩ x4).setCell ⟨g, 5, none⟩ x5).setCell ⟨g, 6, none⟩ x6).heap[g]? = some (.cells #[x0, x1, x2, x3, x4, x5, x6] T (0, 0)) := by
  have h0 : (w.setCell ⟨g, 0, none⟩ x0).heap[g]? = some (.cells #[x0, y1, y2, y3, y4, y5, y6] T (0, 0)) := blk_setA h x0
  have h1 : ((w.setCell ⟨g, 0, none⟩ x0).setCell ⟨g, 1, none⟩ x1).heap[g]? = some (.cells #[x0, x1, y2, y3, y4, y5, y6] T (0, 0)) := blk_setA h0 x1
  have h2 : (((w.setCell ⟨g, 0, none⟩ x0).setCell ⟨g, 1, none⟩ x1).setCell ⟨g, 2, none⟩ x2).heap[g]? = some (.cells #[x0, x1, x2, y3, y4, y5, y6] T (0, 0)) := blk_setA h1 x2
  have h3 : ((((w.setCell ⟨g, 0, none⟩ x0).setCell ⟨g, 1, none⟩ x1).setCell ⟨g, 2, none⟩ x2).setCell ⟨g, 3, none⟩ x3).heap[g]? = some (.cells #[x0, x1, x2, x3, y4, y5, y6] T (0, 0)) := blk_setA h2 x3
  have h4 : (((((w.setCell ⟨g, 0, none⟩ x0).setCell ⟨g, 1, none⟩ x1).setCell ⟨g, 2, none⟩ x2).setCell ⟨g, 3, none⟩ x3).setCell ⟨g, 4, none⟩ x4).heap[g]? = some (.cells #[x0, x1, x2, x3, x4, y5, y6] T (0, 0)) := blk_setA h3 x4
  have h5 : ((((((w.setCell ⟨g, 0, none⟩ x0).setCell ⟨g, 1, none⟩ x1).setCell ⟨g, 2, none⟩ x2).setCell ⟨g, 3, none⟩ x3).setCell ⟨g, 4, none⟩ x4).setCell ⟨g, 5, none⟩ x5).heap[g]? = some (.cells #[x0, x1, x2, x3, x4, x5, y6] T (0, 0)) := blk_setA h4 x5
  have h6 : (((((((w.setCell ⟨g, 0, none⟩ x0).setCell ⟨g, 1, none⟩ x1).setCell ⟨g, 2, none⟩ x2).setCell ⟨g, 3, none⟩ x3).setCell ⟨g, 4, none⟩ x4).setCell ⟨g, 5, none⟩ x5).setCell ⟨g, 6, none⟩ x6).heap[g]? = some (.cells #[x0, x1, x2, x3, x4, x5, x6] T (0, 0)) := blk_setA h5 x6
  exact h6
end Go.Proofs.Ytigiakhdaaoljaa
