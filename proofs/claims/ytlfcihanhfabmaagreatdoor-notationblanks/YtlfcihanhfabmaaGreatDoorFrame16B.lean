/-
  What is handed in to the statements of layer 16, opened: bytes.
-/
import Derived.Test.YtlfcihanhfabmaaGreatDoorFrame16N
import Derived.Test.YtlfcihanhfabmaaGreatDoorLawBlanks16
namespace Go.Proofs.YtlfcihanhfabmaaGreatDoor
open Go.ChangeShapes Go.WideShapes Go.ChangeAt Go.RowKit
set_option maxRecDepth 100000
section
variable {H : Type} {enc : TypeId × Value → H} {W : World} {base : Nat} {sp : Nat → Bool} {held : Bool}
theorem cByte : Tryz.prog.cellsOf 5 = 1 := by kernel_rfl
theorem trod_u8 {fuel : Nat} {v : Value} {y : DataW H × List MemPlace} (h : DataW.trod enc Tryz.prog W base sp held fuel 5 [v] = some y) : ∃ n, v = .int .u8 n ∧ (Lit.int .u8 n).wf = true := by
  cases fuel with
  | zero => simp [DataW.trod] at h
  | succ f =>
    simp only [DataW.trod, Tryz.underlying5] at h
    cases v <;> simp at h
    rename_i k n
    obtain ⟨⟨rfl, hw⟩, rfl⟩ := h
    exact ⟨n, rfl, hw⟩
theorem el_byte {fuel : Nat} {cs : List Value} {y : DataW H × List MemPlace} (h : DataW.trod enc Tryz.prog W base sp held fuel 5 cs = some y) (hl : cs.length = 1) : ∃ x : UInt8, cs = u8E.enc x ∧ True := by
  match cs, hl with
  | [v], _ =>
    obtain ⟨n, rfl, hw⟩ := trod_u8 h
    have hb := bounds_u8 hw
    refine ⟨UInt8.ofNat n.toNat, ?_, trivial⟩
    have : ((UInt8.ofNat n.toNat).toNat : Int) = n := by
      rw [UInt8.toNat_ofNat']
      omega
    simp only [u8E, this]
theorem open_bytes16 {r : Reach} {b0 : Nat} {v : Value} {d : DataW H} {p : List MemPlace} (hv : Value.okWide Tryz.prog W r b0 44 v) (h : DataW.Trod enc Tryz.prog W base sp held 44 v d p) :
    ∃ a len cap l, v = .slice a len cap ∧ GRow u8E W a len l := by
  obtain ⟨a, len, cap, rfl⟩ := okWide_slice Tryz.underlying44 hv
  obtain ⟨fuel, hf⟩ := h
  have hf' : DataW.trod enc Tryz.prog W base sp held fuel 44 [.slice a len cap] = some (d, p) := by simpa [Value.cells] using hf
  obtain ⟨a', len', cap', xs, e, hr, hn, hP, hs⟩ := open_grow u8E Tryz.underlying44 cByte (fun _ => True) (fun h hl => el_byte h hl) hf'
  cases e
  exact ⟨a, len, cap, xs, rfl, hr⟩
end
end Go.Proofs.YtlfcihanhfabmaaGreatDoor
