/-
  The chapter's examples of texts, places of what is wrong, limits: over lists alone; strings.Repeat, make.
-/
import Derived.Test.YtlfcihanhfabmaaGreatDoorNtX
namespace Go.Proofs.YtlfcihanhfabmaaGreatDoor
open Go.RowKit
set_option maxRecDepth 8000
open L1 (S)
theorem kr0 : parseA [110, 111, 116, 32, 99, 49, 32, 107, 110, 111, 119, 110, 32, 111, 114, 32, 99, 48, 32, 104, 105, 103, 104, 32, 97, 110, 100, 32, 116, 114, 117, 101] = ⟨[⟨5, 1, 0, 0⟩, ⟨6, 0, 0, 0⟩, ⟨3, 0, 0, 0⟩, ⟨0, 0, 0, 0⟩, ⟨7, 2, 3, 0⟩, ⟨8, 1, 4, 0⟩], 0, 0⟩ := by kernel_rfl
theorem kr1 : parseA [116, 114, 117, 101, 32, 97, 110, 100, 32, 116, 114, 117, 101, 32, 97, 110, 100, 32, 116, 114, 117, 101] = ⟨[⟨0, 0, 0, 0⟩, ⟨0, 0, 0, 0⟩, ⟨7, 0, 1, 0⟩, ⟨0, 0, 0, 0⟩, ⟨7, 2, 3, 0⟩], 0, 0⟩ := by kernel_rfl
theorem kr2 : parseA [116, 114, 117, 101, 32, 97, 110, 100, 32, 40, 116, 114, 117, 101, 32, 97, 110, 100, 32, 116, 114, 117, 101, 41] = ⟨[⟨0, 0, 0, 0⟩, ⟨0, 0, 0, 0⟩, ⟨0, 0, 0, 0⟩, ⟨7, 1, 2, 0⟩, ⟨7, 0, 3, 0⟩], 0, 0⟩ := by kernel_rfl
theorem kr3 : parseA [99, 55, 60, 45, 48, 46, 53] = ⟨[⟨2, 7, 0, -500⟩], 0, 0⟩ := by kernel_rfl
theorem kr4 : parseA [104, 105, 115, 116, 32, 54, 52, 32, 112, 114, 101, 118, 32, 99, 51, 32, 108, 111, 119] = ⟨[⟨4, 3, 0, 0⟩, ⟨9, 0, 0, 0⟩, ⟨11, 1, 0, 64⟩], 0, 0⟩ := by kernel_rfl
theorem kr5 : parseA [40, 40, 40, 111, 110, 99, 101, 32, 48, 32, 116, 114, 117, 101, 41, 41, 41] = ⟨[⟨0, 0, 0, 0⟩, ⟨10, 0, 0, 0⟩], 0, 0⟩ := by kernel_rfl
theorem kw0 : parseA [] = ⟨[], 0, 4⟩ := by kernel_rfl
theorem kw1 : parseA [99, 56, 32, 104, 105, 103, 104] = ⟨[], 0, 4⟩ := by kernel_rfl
theorem kw2 : parseA [99, 48, 32, 62] = ⟨[], 4, 4⟩ := by kernel_rfl
theorem kw3 : parseA [116, 114, 117, 101, 32, 115, 105, 110, 99, 101, 32, 116, 114, 117, 101, 32, 115, 105, 110, 99, 101, 32, 116, 114, 117, 101] = ⟨[], 16, 4⟩ := by kernel_rfl
theorem kw4 : parseA [111, 110, 99, 101, 32, 54, 53, 32, 116, 114, 117, 101] = ⟨[], 5, 4⟩ := by kernel_rfl
theorem kw5 : parseA [111, 110, 99, 101, 32, 48, 53, 32, 116, 114, 117, 101] = ⟨[], 5, 4⟩ := by kernel_rfl
theorem kw6 : parseA [116, 114, 117, 101, 41] = ⟨[], 4, 4⟩ := by kernel_rfl
theorem kw7 : parseA [99, 48, 32, 62, 32, 48, 49] = ⟨[], 5, 4⟩ := by kernel_rfl
theorem kw8 : parseA [84, 114, 117, 101] = ⟨[], 0, 4⟩ := by kernel_rfl
theorem kw9 : parseA [110, 111, 116] = ⟨[], 3, 4⟩ := by kernel_rfl
theorem kw10 : parseA [32, 32] = ⟨[], 2, 4⟩ := by kernel_rfl
theorem kw11 : parseA [40, 116, 114, 117, 101] = ⟨[], 5, 4⟩ := by kernel_rfl
theorem kw12 : parseA [99, 48, 32, 62, 32, 50, 49, 52, 55, 52, 56, 51, 46, 54, 52, 56] = ⟨[], 5, 4⟩ := by kernel_rfl
theorem kw13 : parseA [116, 114, 117, 101, 32, 116, 114, 117, 101] = ⟨[], 5, 4⟩ := by kernel_rfl
theorem kw14 : parseA [99, 48, 32, 104, 105, 103, 104, 32, 108, 111, 119] = ⟨[], 8, 4⟩ := by kernel_rfl
theorem kw15 : parseA [111, 110, 99, 101, 32, 116, 114, 117, 101] = ⟨[], 5, 4⟩ := by kernel_rfl
theorem kw16 : parseA [116, 114, 117, 101, 9, 111, 114, 32, 116, 114, 117, 101] = ⟨[], 4, 4⟩ := by kernel_rfl
theorem kw17 : parseA [99, 48, 32, 61, 32, 49] = ⟨[], 3, 4⟩ := by kernel_rfl
theorem kw18 : parseA [116, 114, 117, 101, 97, 110, 100, 32, 116, 114, 117, 101] = ⟨[], 0, 4⟩ := by kernel_rfl
theorem kw19 : parseA [40, 41] = ⟨[], 1, 4⟩ := by kernel_rfl
theorem kt0 : ¬ textE ([] : List Nd) = 0 := by decide
theorem kt1 : textE ([⟨0, 0, 0, 0⟩, ⟨7, 0, 0, 0⟩, ⟨7, 1, 1, 0⟩] : List Nd) = 0 := by kernel_rfl
theorem kv1 : textV ([⟨0, 0, 0, 0⟩, ⟨7, 0, 0, 0⟩, ⟨7, 1, 1, 0⟩] : List Nd) = [116, 114, 117, 101, 32, 97, 110, 100, 32, 116, 114, 117, 101, 32, 97, 110, 100, 32, 40, 116, 114, 117, 101, 32, 97, 110, 100, 32, 116, 114, 117, 101, 41] := by kernel_rfl
theorem kt2 : textE ([⟨0, 0, 0, 0⟩, ⟨8, 0, 0, 0⟩, ⟨8, 1, 1, 0⟩, ⟨12, 2, 0, 0⟩, ⟨6, 3, 0, 0⟩] : List Nd) = 0 := by kernel_rfl
theorem kv2 : textV ([⟨0, 0, 0, 0⟩, ⟨8, 0, 0, 0⟩, ⟨8, 1, 1, 0⟩, ⟨12, 2, 0, 0⟩, ⟨6, 3, 0, 0⟩] : List Nd) = [110, 111, 116, 32, 40, 40, 116, 114, 117, 101, 32, 111, 114, 32, 116, 114, 117, 101, 32, 111, 114, 32, 40, 116, 114, 117, 101, 32, 111, 114, 32, 116, 114, 117, 101, 41, 41, 32, 115, 105, 110, 99, 101, 32, 116, 114, 117, 101, 41] := by kernel_rfl
theorem kt3 : textE ([⟨5, 4, 0, 0⟩, ⟨11, 0, 0, 10⟩, ⟨9, 1, 0, 0⟩] : List Nd) = 0 := by kernel_rfl
theorem kv3 : textV ([⟨5, 4, 0, 0⟩, ⟨11, 0, 0, 10⟩, ⟨9, 1, 0, 0⟩] : List Nd) = [112, 114, 101, 118, 32, 104, 105, 115, 116, 32, 49, 48, 32, 99, 52, 32, 107, 110, 111, 119, 110] := by kernel_rfl
/-- The tower of formulas that are twice the one below. -/
def tower : Nat → List Nd
  | 0 => []
  | k + 1 => tower k ++ [if k = 0 then ⟨0, 0, 0, 0⟩ else ⟨7, (k : Int) - 1, (k : Int) - 1, 0⟩]
theorem tower_len : ∀ k, (tower k).length = k
  | 0 => rfl
  | k + 1 => by simp [tower, tower_len k]
theorem kt_tower : textE (tower 32) = 5 := by kernel_rfl
theorem kt_many : textE (List.replicate 33 Nd.none) = 6 := by kernel_rfl
def rp (s : W8) (c : Nat) : W8 := Lib.repeatL s c
theorem kp_many : (parseA (rp [110, 111, 116, 32] 32 ++ [116, 114, 117, 101])).at_ = 132 ∧ (parseA (rp [110, 111, 116, 32] 32 ++ [116, 114, 117, 101])).e = 6 := by
  constructor <;> kernel_rfl
theorem kp_limit : (parseA (rp [32] 1025)).at_ = 1024 ∧ (parseA (rp [32] 1025)).e = 5 := by
  constructor <;> kernel_rfl
theorem kp_fits : (parseA (rp [110, 111, 116, 32] 31 ++ [116, 114, 117, 101])).e = 0 := by kernel_rfl
def deepT : W8 := (rp [40] 32 ++ [116, 114, 117, 101]) ++ rp [41] 32
theorem kp_deep : (parseA deepT).e = 0 := by kernel_rfl
theorem kp_wrong1 : parseA (rp [40] 33 ++ [116, 114, 117, 101]) = ⟨[], 32, 4⟩ := by kernel_rfl
theorem kp_wrong2 : parseA (rp [32] 1024) = ⟨[], 1024, 4⟩ := by kernel_rfl
theorem rp_len (s : W8) (c : Nat) : (rp s c).length = c * s.length := by
  unfold rp
  rw [Lib.repeatL_length]
theorem rep_any (s : W8) (c : Nat) (w : World) (hc : c ≤ 2000) (hl : s.length ≤ 10) : Calls Tryz.prog 20 #[.string (S s), .int .i64 (c : Int)] w fun e w' => e = .returned (.string (S (rp s c))) ∧ After w w' := by
  have h1 : (S s).size * c ≤ 140737488355328 := by
    have : s.length * c ≤ 10 * 2000 := Nat.mul_le_mul hl hc
    show s.length * c ≤ _
    omega
  refine (Tryz.strings_Repeat (S s) c w (by omega) h1).mono ?_
  rintro e w' ⟨rfl, h⟩
  exact ⟨rfl, After.of h⟩
def mk33 : Array Value := Array.replicate 132 (.int .i64 0)
theorem makeN33 (w : World) : (Instr.makeSlice 22 (.int .i64 33) (.int .i64 33)).run Tryz.prog w = .ok (.slice (some ⟨w.heap.size, 0, none⟩) 33 33) (w.alloc (.cells mk33 33)) := by kernel_rfl
theorem rowN33 (w : World) : NRow (w.alloc (.cells mk33 33)) (some ⟨w.heap.size, 0, none⟩) 33 (List.replicate 33 Nd.none) := lit_row (heap_alloc_new w _) rfl rfl
end Go.Proofs.YtlfcihanhfabmaaGreatDoor
