/-
  Single operations of a region whose order is drawn: nil checks, whatever runs one step, indexes, slices.
-/
import Derived.Test.YtalffdiohjcajaaDbC
namespace Go.Proofs.Ytalffdiohjcajaa
open Go.RowKit
set_option maxRecDepth 8000
section
variable {ops : Array Oper} {V : Nat → Value} {d : Nat} {b : Act} {I : (Nat → Bool) → World → Prop} {k : Nat} {o : Oper}
theorem ph_nil {x : Operand} {p : Addr} (ho : o.op = .nilCheck x) (h1 : o.dst = some (d + k)) (h2 : o.after.toList.all (fun e => decide (e.on < k)) = true) (h3 : guardB V o = true) (hx : valP V d b o x = some (.pointer (some p))) (hV : V k = .pointer (some p)) (keep : ∀ L w, I L w → I (more L k) w) : PhOk Try.prog ops V d b I k o :=
  ph_mk h1 h2 h3 (fun a w L K Q _ hv _ hi hk => by
    have e := hv _ _ hx
    have h := hk w (keep L w hi)
    rw [hV] at h
    unfold Oper.wp execOp
    simp only [ho, e]
    simp [Oper.upon]
    exact h)
theorem ph_toArr {x : Operand} {t : Nat} {p : Value} (ho : o.op = .sliceToArrayPointer t x) (h1 : o.dst = some (d + k)) (h2 : o.after.toList.all (fun e => decide (e.on < k)) = true) (h3 : guardB V o = true) (hx : valP V d b o x = some p) (hr : ∀ w, (Instr.arrayAt t p).run Try.prog w = .ok (V k) w) (keep : ∀ L w, I L w → I (more L k) w) : PhOk Try.prog ops V d b I k o :=
  ph_mk h1 h2 h3 (fun a w L K Q _ hv _ hi hk => by
    refine pw_val (by unfold execOp; rw [ho]) ?_ (hk w (keep L w hi))
    rw [hv _ _ hx]
    exact hr w)
theorem ph_slice {x : Operand} {lo hi : Option Operand} {l h : Option Value} {t : Nat} {p : Value} (ho : o.op = .slice t x lo hi none) (h1 : o.dst = some (d + k)) (h2 : o.after.toList.all (fun e => decide (e.on < k)) = true) (h3 : guardB V o = true) (hx : valP V d b o x = some p)
    (hl : lo.map (valP V d b o) = l.map some) (hh : hi.map (valP V d b o) = h.map some) (hr : ∀ w, (Instr.sliceAt t p l h none).run Try.prog w = .ok (V k) w) (keep : ∀ L w, I L w → I (more L k) w) : PhOk Try.prog ops V d b I k o :=
  ph_mk h1 h2 h3 (fun a w L K Q _ hv _ hi' hk => by
    refine pw_val (r := Instr.sliceAt t p l h none) ?_ (hr w) (hk w (keep L w hi'))
    have el : lo.map a.eval = l := by
      cases lo with
      | none => cases l with
        | none => rfl
        | some _ => cases hl
      | some y => cases l with
        | none => cases hl
        | some z =>
          have : valP V d b o y = some z := by simpa using hl
          simp [hv _ _ this]
    have eh : hi.map a.eval = h := by
      cases hi with
      | none => cases h with
        | none => rfl
        | some _ => cases hh
      | some y => cases h with
        | none => cases hh
        | some z =>
          have : valP V d b o y = some z := by simpa using hh
          simp [hv _ _ this]
    unfold execOp
    rw [ho]
    simp only [hv _ _ hx, el, eh, Option.map_none])
end
theorem pw_store {o : Oper} {a : Act} {w w' : World} {K : Act → World → Prop} {Q : Exit → Act → World → Prop} {t : Nat} {x y : Operand} {p v : Value} (ho : o.op = .store t x y) (hd : o.dst = none) (hx : a.eval x = p) (hy : a.eval y = v) (hr : (Instr.storeAt t p v).run Try.prog w = .ok () w') (h : K a w') : Oper.wp Try.prog o a w K Q := by
  unfold Oper.wp execOp
  simp only [ho]
  rw [hx, hy]
  simp [hr, Oper.upon]
  rw [hd]
  exact h
theorem pw_update {o : Oper} {a : Act} {w w' : World} {K : Act → World → Prop} {Q : Exit → Act → World → Prop} {t : Nat} {m x y : Operand} {p u v : Value} (ho : o.op = .mapUpdate t m x y) (hd : o.dst = none) (hm : a.eval m = p) (hx : a.eval x = u) (hy : a.eval y = v) (hr : (Instr.mapUpdate t p u v).run Try.prog w = .ok () w') (h : K a w') : Oper.wp Try.prog o a w K Q := by
  unfold Oper.wp execOp
  simp only [ho]
  rw [hm, hx, hy]
  simp [hr, Oper.upon]
  rw [hd]
  exact h
theorem fieldDv0 (w : World) (d : Nat) : (Instr.fieldAt 56 (Ptr d) 0).run Try.prog w = .ok (Ptr d) w := by
  simp [go_sem]
theorem fieldDv1 (w : World) (d : Nat) : (Instr.fieldAt 56 (Ptr d) 1).run Try.prog w = .ok (.pointer (some ⟨d, 1, none⟩)) w := by
  simp [go_sem]
theorem loadDv0 {w : World} {d : Nat} {v : Value} (h : w.cell? ⟨d, 0, none⟩ = some v) : (Instr.loadAt 53 (Ptr d)).run Try.prog w = .ok v w := by
  simp [go_sem, h]
theorem loadDv1 {w : World} {d : Nat} {v : Value} (h : w.cell? ⟨d, 1, none⟩ = some v) : (Instr.loadAt 54 (.pointer (some ⟨d, 1, none⟩))).run Try.prog w = .ok v w := by
  simp [go_sem, h]
theorem arrSec (w : World) (q off c : Nat) : (Instr.arrayAt 66 (.slice (some ⟨q, off, none⟩) 64 c)).run Try.prog w = .ok (.pointer (some ⟨q, off, none⟩)) w := by
  simp [Instr.arrayAt, go_sem]
theorem indexSec (w : World) (g : Nat) {j n : Nat} (hj : j < n) : (Instr.indexAt 53 (.slice (some ⟨g, 0, none⟩) n n) (.int .i64 j)).run Try.prog w = .ok (.pointer (some ⟨g, j * 64, none⟩)) w := by
  have : (j : Int) < n := by omega
  simp [go_sem, this]
end Go.Proofs.Ytalffdiohjcajaa
