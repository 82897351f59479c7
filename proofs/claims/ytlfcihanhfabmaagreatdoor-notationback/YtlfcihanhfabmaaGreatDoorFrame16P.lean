/-
  What is handed in to the statements of layer 16, opened: a past.
-/
import Derived.Test.YtlfcihanhfabmaaGreatDoorFrame16N
namespace Go.Proofs.YtlfcihanhfabmaaGreatDoor
open Go.ChangeShapes Go.WideShapes Go.ChangeAt Go.RowKit
set_option maxRecDepth 100000
section
variable {H : Type} {enc : TypeId × Value → H} {W : World} {base : Nat} {sp : Nat → Bool} {held : Bool}
theorem cPast16 : Tryz.prog.cellsOf 38 = 2 := by kernel_rfl
theorem open_past16 {r : Reach} {b0 : Nat} {v : Value} {d : DataW H} {p : List MemPlace} (hv : Value.okWide Tryz.prog W r b0 38 v) (h : DataW.Trod enc Tryz.prog W base sp held 38 v d p) :
    ∃ ac nc cc aT nt ct C X, v = .agg #[.slice ac nc cc, .slice aT nt ct] ∧ CRow W ac nc C ∧ (ac = none → nc = 0) ∧ TRow W aT nt X := by
  obtain ⟨v0, v1, y0, y1, n, rfl, _, _, h0, h1⟩ := _root_.Go.Joins.open_agg2 Tryz.underlying38 (by kernel_rfl) cPast16 hv h
  obtain ⟨ac, nc, cc, C, rfl, hr, hn, _, _⟩ := open_grow chE Tryz.underlying35 cChannel (fun _ => True) (fun h hl => el_channel h hl) h0
  obtain ⟨aT, nt, ct, X, rfl, hr2, hn2, hP, _⟩ := open_grow trE Tryz.underlying36 cRow (fun x : Tr => x.In W) (fun h hl => el_row h hl) h1
  exact ⟨ac, nc, cc, aT, nt, ct, C, X, rfl, hr, fun h => (hn h).1, hr2, hP⟩
end
end Go.Proofs.YtlfcihanhfabmaaGreatDoor
