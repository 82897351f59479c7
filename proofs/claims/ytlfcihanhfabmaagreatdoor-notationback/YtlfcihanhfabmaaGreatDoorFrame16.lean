/-
  What the statements of layer 16 have in common: a start that fits the listed variables, and what they lay.
-/
import Derived.Test.YtlfcihanhfabmaaGreatDoorNtX
import Derived.Test.YtlfcihanhfabmaaGreatDoorTie
import Derived.Test.YtlfcihanhfabmaaGreatDoorCards
import Derived.ProofKit
import Derived.LaidMore
import Derived.OpenShut
import Derived.Stop.Joined
import Derived.Stop.LaidErr
import Derived.SevenTiedAt
namespace Go.Proofs.YtlfcihanhfabmaaGreatDoor
open Go.ChangeShapes Go.WideShapes Go.ChangeAt Go.WideMaps Go.WideElems Go.RowKit
theorem own16 : ownKnob Tryz.prog.godebug = none := by kernel_rfl
/-- The list of laid variables that every row of this seat bears. -/
def laid5 : List (String × DataW Unit) := Rows.notationTextsRow.laid
theorem gPow : Tryz.prog.globalNamed "internal/strconv.uint64pow10" = some 1 := by kernel_rfl
theorem tPow : (Tryz.prog.globals[1]?).map (·.type) = some 132 := by kernel_rfl
theorem gRng : Tryz.prog.globalNamed "strconv.ErrRange" = some 5 := by kernel_rfl
theorem tRng : (Tryz.prog.globals[5]?).map (·.type) = some 76 := by kernel_rfl
theorem gSyn : Tryz.prog.globalNamed "strconv.ErrSyntax" = some 4 := by kernel_rfl
theorem tSyn : (Tryz.prog.globals[4]?).map (·.type) = some 76 := by kernel_rfl
theorem c64 : Tryz.prog.cellsOf 92 = 1 := by kernel_rfl
theorem cPow : Tryz.prog.cellsOf 132 = 20 := by kernel_rfl
theorem cErr : Tryz.prog.cellsOf 160 = 1 := by kernel_rfl
theorem cStr : Tryz.prog.cellsOf 9 = 1 := by kernel_rfl
theorem pow_data : (Rows.laid_internal_strconv_uint64pow10 : DataW Unit) = Lib.tabData .u64 Lib.pow10Tab := by kernel_rfl
/-- The door's own heap meets the condition. -/
theorem door_met (os : Os) (args : Array Value) : laidMetH Tryz.prog laid5 ((World.doorLaid Tryz.prog 400 os).forCall (fun _ _ => 0) ⟨#[], args, []⟩).memory :=
  laidMetH_of_parts3 (fuel := 8) (laidMet_of_run' 8 (by kernel_rfl) (by kernel_rfl)) (by kernel_rfl) (by kernel_rfl)
theorem star : "*errors.errorString" = "*" ++ "errors.errorString" := by decide
theorem rowErr (u : TypeId) (h : Tryz.prog.typeName? 3 u = some "*errors.errorString") : u = 158 :=
  typeName_ptr_named (nm := "errors.errorString") (by rw [← star]; kernel_rfl) (by kernel_rfl) (by decide) u (by rw [← star]; exact h)
/-- How long a string that is handed in is. -/
theorem weight_str {H : Type} {ts : List TypeId} {ds : List (DataW H)} {l : List UInt8} (h : (DataW.weightsEach Tryz.prog ts ds).all (· ≤ reachBytes) = true) (j : Nat) {t : TypeId} (ht : ts[j]? = some t) (hd : ds[j]? = some (.lit (.string l))) : l.length ≤ 140737488351232 := by
  have key : ∀ (ts : List TypeId) (ds : List (DataW H)) (j : Nat), (DataW.weightsEach Tryz.prog ts ds).all (· ≤ reachBytes) = true → ts[j]? = some t → ds[j]? = some (.lit (.string l)) → l.length ≤ 140737488351232 := by
    intro ts
    induction ts with
    | nil => intro ds j _ h2 _; simp at h2
    | cons t0 ts ih =>
      intro ds j h h2 h3
      cases ds with
      | nil => simp at h3
      | cons d ds =>
        simp only [DataW.weightsEach, List.all_append, Bool.and_eq_true] at h
        cases j with
        | zero =>
          simp at h3
          subst h3
          have h5 : ([l.length].all (· ≤ reachBytes)) = true := h.1
          simp only [List.all_cons, List.all_nil, Bool.and_true, decide_eq_true_eq] at h5
          simp only [reachBytes] at h5
          omega
        | succ j => exact ih ds j h.2 (by simpa using h2) (by simpa using h3)
  exact key ts ds j h ht hd
/-- What the row lists is laid. -/
theorem laid_of {W : World} (h : laidMetH Tryz.prog laid5 W) : Laid W := by
  rw [MakeChecks.laidMetH_plain _ _ _ (by kernel_rfl)] at h
  have h3 := h.tail.tail
  have h4 := h3.tail
  have h5 := h4.tail
  rw [show (("internal/strconv.uint64pow10", Rows.laid_internal_strconv_uint64pow10) : String × DataW Unit) = ("internal/strconv.uint64pow10", Lib.tabData .u64 Lib.pow10Tab) from by rw [pow_data]] at h3
  refine ⟨Lib.tabIs_of_head gPow tPow Tryz.underlying132 Tryz.underlying92 c64 cPow h3, ?_, ?_⟩
  · obtain ⟨a1, s1, hv1, _⟩ := laid_sentinel h5 gSyn tSyn Tryz.underlying76 rowErr Tryz.underlying158 Tryz.underlying160 rfl rfl Tryz.underlying9 cErr cStr
    exact ⟨_, by simpa using World.var?_cell gSyn hv1 0, .inr ⟨_, _, rfl⟩⟩
  · obtain ⟨a1, s1, hv1, _⟩ := laid_sentinel h4 gRng tRng Tryz.underlying76 rowErr Tryz.underlying158 Tryz.underlying160 rfl rfl Tryz.underlying9 cErr cStr
    exact ⟨_, by simpa using World.var?_cell gRng hv1 0, .inr ⟨_, _, rfl⟩⟩
end Go.Proofs.YtlfcihanhfabmaaGreatDoor
