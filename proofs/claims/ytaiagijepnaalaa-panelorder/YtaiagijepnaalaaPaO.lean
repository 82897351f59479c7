/-
  Single operations on vectors, views, signals and states, in a region that draws or not.
-/
import Derived.Test.YtaiagijepnaalaaPhaseO
import Derived.Test.YtaiagijepnaalaaPaC
namespace Go.Proofs.Ytaiagijepnaalaa
open Go.RowKit
set_option maxRecDepth 8000
theorem fieldVw (w : World) (b off : Nat) : (Instr.fieldAt 50 (.pointer (some ⟨b, off, none⟩)) 0).run Try.prog w = .ok (.pointer (some ⟨b, off, none⟩)) w := by
  simp [go_sem]
theorem fieldV0 (w : World) (b : Nat) : (Instr.fieldAt 29 (Ptr b) 0).run Try.prog w = .ok (Ptr b) w := by
  simp [go_sem]
theorem fieldV3 (w : World) (b : Nat) : (Instr.fieldAt 29 (Ptr b) 3).run Try.prog w = .ok (.pointer (some ⟨b, 80, none⟩)) w := by
  simp [go_sem]
theorem indexSt (w : World) (b off : Nat) {j : Nat} (hj : j < 26) : (Instr.indexAt 48 (.pointer (some ⟨b, off, none⟩)) (.int .i64 j)).run Try.prog w = .ok (.pointer (some ⟨b, off + j * 2, none⟩)) w := by
  have : (j : Int) < 26 := by omega
  simp [go_sem, this]
theorem indexSg (w : World) (b off : Nat) {j : Nat} (hj : j < 26) : (Instr.indexAt 26 (.pointer (some ⟨b, off, none⟩)) (.int .i64 j)).run Try.prog w = .ok (.pointer (some ⟨b, off + j * 3, none⟩)) w := by
  have : (j : Int) < 26 := by omega
  simp [go_sem, this]
theorem indexAs (w : World) (b off : Nat) {j n c : Nat} (hj : j < n) : (Instr.indexAt 22 (.slice (some ⟨b, off, none⟩) n c) (.int .i64 j)).run Try.prog w = .ok (.pointer (some ⟨b, off + j * 4, none⟩)) w := by
  have : (j : Int) < n := by omega
  simp [go_sem, this]
theorem loadSt {w : World} {b off : Nat} {x : St} (h0 : w.cell? ⟨b, off, none⟩ = some (.bool x.sh)) (h1 : w.cell? ⟨b, off + 1, none⟩ = some (.int .i64 x.pr)) : (Instr.loadAt 47 (.pointer (some ⟨b, off, none⟩))).run Try.prog w = .ok x.v w := by
  simp [go_sem, h0, h1]
theorem loadSg {w : World} {b off : Nat} {x : Sg} (h0 : w.cell? ⟨b, off, none⟩ = some (.bool x.sh)) (h1 : w.cell? ⟨b, off + 1, none⟩ = some (.bool x.so)) (h2 : w.cell? ⟨b, off + 2, none⟩ = some (.int .i64 x.pr)) : (Instr.loadAt 25 (.pointer (some ⟨b, off, none⟩))).run Try.prog w = .ok x.v w := by
  simp [go_sem, h0, h1, h2]
theorem loadAs {w : World} {b off : Nat} {x : As} (h0 : w.cell? ⟨b, off, none⟩ = some (.int .i64 x.ph)) (h1 : w.cell? ⟨b, off + 1, none⟩ = some (.int .i64 x.pr)) (h2 : w.cell? ⟨b, off + 2, none⟩ = some (.int .i64 x.si)) (h3 : w.cell? ⟨b, off + 3, none⟩ = some (.int .i64 x.pa)) : (Instr.loadAt 35 (.pointer (some ⟨b, off, none⟩))).run Try.prog w = .ok x.v w := by
  simp [go_sem, h0, h1, h2, h3]
theorem loadB {w : World} {b off : Nat} {q : Bool} (h0 : w.cell? ⟨b, off, none⟩ = some (.bool q)) : (Instr.loadAt 4 (.pointer (some ⟨b, off, none⟩))).run Try.prog w = .ok (.bool q) w := by
  simp [go_sem, h0]
theorem loadVec {w : World} {g : Nat} {v : Vec} (h : VecAt w g v) (hv : v.Ok) : (Instr.loadAt 29 (Ptr g)).run Try.prog w = .ok v.v w :=
  run_loadAt_mid (P := Try.prog) w g 0 29 v.cs _ (blk_range h) Try.underlying29 rfl (by rw [hv.len]; exact Try.infoVec)
theorem storeSt {w : World} {g off : Nat} {x y : St} (h0 : w.cell? ⟨g, off, none⟩ = some (.bool y.sh)) (h1 : w.cell? ⟨g, off + 1, none⟩ = some (.int .i64 y.pr)) (f0 : w.frozen? ⟨g, off, none⟩ = false) (f1 : w.frozen? ⟨g, off + 1, none⟩ = false) :
    (Instr.storeAt 47 (.pointer (some ⟨g, off, none⟩)) x.v).run Try.prog w = .ok () ((w.setCell ⟨g, off, none⟩ (.bool x.sh)).setCell ⟨g, off + 1, none⟩ (.int .i64 x.pr)) := by
  simp [go_sem, h0, h1, f0, f1]
theorem pw_store {o : Oper} {a : Act} {w w' : World} {K : Act → World → Prop} {Q : Exit → Act → World → Prop} {t : Nat} {x y : Operand} {p v : Value} (ho : o.op = .store t x y) (hd : o.dst = none) (hx : a.eval x = p) (hy : a.eval y = v) (hr : (Instr.storeAt t p v).run Try.prog w = .ok () w') (h : K a w') : Oper.wp Try.prog o a w K Q := by
  unfold Oper.wp execOp
  simp only [ho]
  rw [hx, hy]
  simp [hr, Oper.upon]
  rw [hd]
  exact h
theorem pw_assign {o : Oper} {a : Act} {w : World} {K : Act → World → Prop} {Q : Exit → Act → World → Prop} {x : Operand} {v : Value} (ho : o.op = .assign x) (hx : a.eval x = v) (h : K (a.put o.dst v) w) : Oper.wp Try.prog o a w K Q := by
  unfold Oper.wp execOp
  simp only [ho]
  rw [hx]
  exact h
section
variable {ops : Array Oper} {V : Nat → Value} {d : Nat} {b : Act} {I : (Nat → Bool) → World → Prop} {k : Nat} {o : Oper}
theorem ph_pick {c x y : Operand} {q : Bool} {u : Value} (ho : o.op = .pick c x y) (h1 : o.dst = some (d + k)) (h2 : o.after.toList.all (fun e => decide (e.on < k)) = true) (h3 : guardB V o = true) (hc : valP V d b o c = some (.bool q)) (hx : valP V d b o (if q then x else y) = some u) (hV : V k = u) (keep : ∀ L w, I L w → I (more L k) w) : PhOk Try.prog ops V d b I k o :=
  ph_mk h1 h2 h3 (fun a w L K Q _ hv _ hi hk => by
    refine pw_val (r := pure u) (v := u) (w' := w) ?_ (by simp) (by have := hk w (keep L w hi); rw [hV] at this; exact this)
    have e1 := hv _ _ hc
    have e2 := hv _ _ hx
    unfold execOp
    simp only [ho, e1]
    cases q <;> simp_all [asBool])
end
end Go.Proofs.Ytaiagijepnaalaa
