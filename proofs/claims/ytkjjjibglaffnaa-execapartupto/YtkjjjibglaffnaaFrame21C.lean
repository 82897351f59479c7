/-
  What is handed in to ExecApart beside a plan and ticks, opened: what all others do.
-/
import Derived.Test.YtkjjjibglaffnaaFrame21B
namespace Go.Proofs.Ytkjjjibglaffnaa
open Go.ChangeShapes Go.WideShapes Go.ChangeAt Go.RowKit
set_option maxRecDepth 100000
section
variable {H : Type} {enc : TypeId × Value → H} {W : World} {base : Nat} {sp : Nat → Bool} {held : Bool}
theorem cOthers : Try.prog.cellsOf 51 = 2 := by kernel_rfl
theorem open_others {r : Reach} {b0 : Nat} {v : Value} {d : DataW H} {p : List MemPlace} (hv : Value.okWide Try.prog W r b0 51 v) (h : DataW.Trod enc Try.prog W base sp held 51 v d p) (hs : Sml d) :
    ∃ (t : Int) (a : Option Addr) (c : Nat) (zs : List Dr), v = .agg #[.int .i64 t, .slice a zs.length c] ∧ (GRow drE W a zs.length zs ∧ (∀ d ∈ zs, d.Fits W 1048576) ∧ zs.length ≤ 1048576) ∧ (-9223372036854775808 ≤ t ∧ t ≤ 9223372036854775807) := by
  obtain ⟨v0, v1, y0, y1, n, rfl, rfl, rfl, h0, h1⟩ := _root_.Go.Joins.open_agg2 Try.underlying51 (by kernel_rfl) cOthers hv h
  have hp := sml_part hs
  obtain ⟨t, e, _, hb⟩ := trod_i64 h0
  cases e
  obtain ⟨a, c, zs, rfl, hr, _, hf, hn⟩ := open_growS drE Try.underlying36 cRowD _ (fun h hl hd => el_dr h hl hd) h1 (hp y1.1 (by simp))
  exact ⟨t, a, c, zs, rfl, ⟨hr, hf, hn⟩, bounds_i64 hb⟩
end
end Go.Proofs.Ytkjjjibglaffnaa
