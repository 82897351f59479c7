/-
  RuleKnown: the walk.
-/
import Derived.Test.YthgmjeljjladhaaLawRefused17
namespace Go.Proofs.Ythgmjeljjladhaa
open Go.RowKit
set_option maxRecDepth 8000
def c9 : Array Value := (chE.flat (List.replicate 9 Ch.none)).toArray
def n33 : Array Value := (ndE.flat (List.replicate 33 Nd.none)).toArray
theorem makeC9 (w : World) : (Instr.makeSlice 23 (.int .i64 9) (.int .i64 9)).run Try.prog w = .ok (.slice (some ⟨w.heap.size, 0, none⟩) 9 9) (w.alloc (.cells c9 42)) := by kernel_rfl
theorem makeN33 (w : World) : (Instr.makeSlice 22 (.int .i64 33) (.int .i64 33)).run Try.prog w = .ok (.slice (some ⟨w.heap.size, 0, none⟩) 33 33) (w.alloc (.cells n33 38)) := by kernel_rfl
def fiveL : List Nd := [⟨0, 0, 0, 0⟩, ⟨9, 0, 0, 0⟩, ⟨11, 1, 0, 3⟩, ⟨10, 2, 0, 0⟩, ⟨12, 3, 0, 0⟩]
theorem five_ck : chk fiveL (([] : List Ch).length : Int) = 0 := by decide
theorem five_val : val fiveL [] ([] ++ [[]]) (fiveL.length - 1) ([] : List (List Rd)).length = true := by kernel_rfl
theorem five_mem : (memA fiveL).1 = 4 := by kernel_rfl
theorem blk_two (w : World) (o o' : Obj) : ((w.alloc o).alloc o').heap[w.heap.size + 1]? = some o' := by
  have := heap_alloc_new (w.alloc o) o'
  rw [size_alloc] at this
  exact this
/-- New refuses, of a literal. -/
theorem no_new {L : List Nd} {C : List Ch} {E : Int} {w : World} {al : Option Addr} {n cl : Nat} (h1 : NRow w al n L) {ac : Option Addr} {nc cc : Nat} (h2 : CRow w ac nc C) (hE : chk L (C.length : Int) = E) (hn : E ≠ 0) : Calls Try.prog 10 #[.slice al n cl, .slice ac nc cc] w fun e w' => e = .returned (.tuple #[.pointer none, .int .i64 E]) ∧ After w w' := by
  have := new_no w al n cl h1 ac nc cc h2 (by rw [hE]; exact hn)
  rw [hE] at this
  exact this
def kl0 : List Nd := [⟨5, 0, 0, 0⟩, ⟨11, 0, 0, 1⟩]
theorem kc0 : chk kl0 (givenC.length : Int) = 0 := by decide
def ks0 : ByteArray := ⟨#[49, 49, 48, 48, 49]⟩
theorem kt0 : (ks0.toList == [49, 49, 48, 48, 49]) = true := by rw [ByteArray.toList_eq]; rfl
theorem kb0 : bitsOf (val kl0 givenC givenT (kl0.length - 1)) givenT.length = ks0 := by kernel_rfl
def kl1 : List Nd := [⟨3, 0, 0, 0⟩, ⟨10, 0, 0, 64⟩]
theorem kc1 : chk kl1 (givenC.length : Int) = 0 := by decide
def ks1 : ByteArray := ⟨#[48, 49, 49, 49, 49]⟩
theorem kt1 : (ks1.toList == [48, 49, 49, 49, 49]) = true := by rw [ByteArray.toList_eq]; rfl
theorem kb1 : bitsOf (val kl1 givenC givenT (kl1.length - 1)) givenT.length = ks1 := by kernel_rfl
def kl2 : List Nd := [⟨0, 0, 0, 0⟩, ⟨9, 0, 0, 0⟩]
theorem kc2 : chk kl2 (givenC.length : Int) = 0 := by decide
def ks2 : ByteArray := ⟨#[48, 49, 49, 49, 49]⟩
theorem kt2 : (ks2.toList == [48, 49, 49, 49, 49]) = true := by rw [ByteArray.toList_eq]; rfl
theorem kb2 : bitsOf (val kl2 givenC givenT (kl2.length - 1)) givenT.length = ks2 := by kernel_rfl
def kl3 : List Nd := [⟨5, 0, 0, 0⟩, ⟨10, 0, 0, 0⟩]
theorem kc3 : chk kl3 (givenC.length : Int) = 0 := by decide
def ks3 : ByteArray := ⟨#[49, 49, 48, 49, 49]⟩
theorem kt3 : (ks3.toList == [49, 49, 48, 49, 49]) = true := by rw [ByteArray.toList_eq]; rfl
theorem kb3 : bitsOf (val kl3 givenC givenT (kl3.length - 1)) givenT.length = ks3 := by kernel_rfl
set_option maxHeartbeats 1000000 in
theorem law_known17 (w : World) : Calls Try.prog 7 #[] w fun e w' => e = .returned (.bool true) ∧ After w w' := by
  obtain ⟨W1, hW1⟩ : ∃ W1, W1 = w.alloc (.cells #[.slice none 0 0, .slice none 0 0, .slice none 0 0] 61) := ⟨_, rfl⟩
  have a1 : After w W1 := by rw [hW1]; exact After.rfl.alloc _
  have HZ : Hid (∀ V, After W1 V → V.heap[w.heap.size]? = some (.cells #[.slice none 0 0, .slice none 0 0, .slice none 0 0] 61 (0, 0))) := hideIt (fun V hV => by
    rw [hW1] at hV
    exact new_blk hV)
  have HW := hideIt (And.intro hW1 a1)
  clear hW1 a1
  have hmC := makeC9
  have hmN := makeN33
  have et0 := kt0
  have et1 := kt1
  have et2 := kt2
  have et3 := kt3
  go_enter Try.func7, Try.ntmps7
  go_wp2_with fail
  rw [← HW.out.1]
  refine (step_none (isNone_nil _)).mono ?_
  rintro e w2 ⟨rfl, rfl⟩
  go_wp2_with fail
  refine (step_none (isNone_zero (HZ.out _ After.rfl))).mono ?_
  rintro e w2 ⟨rfl, rfl⟩
  go_wp2_with fail
  obtain ⟨W3, hW3⟩ : ∃ W3, W3 = w2.alloc (.cells #[.int .i64 0, .int .i64 0] 48) := ⟨_, rfl⟩
  have A3 : Hid (After w2 W3) := hideIt (by rw [hW3]; exact After.rfl.alloc _)
  rw [← hW3]
  refine (step_none (isNone_zero (HZ.out _ A3.out))).mono ?_
  rintro e w3 ⟨rfl, rfl⟩
  clear hW3
  go_wp2_with fail
  refine (no_new (L := []) (C := []) (E := 150) (GRow.nil ndE _ _) (GRow.nil chE _ _) (by decide) (by decide)).mono ?_
  rintro e w4 ⟨rfl, a4⟩
  have A4 := hideIt (A3.out.trans a4)
  clear a4
  go_wp2_with fail
  refine (no_new (L := [Nd.none]) (C := List.replicate 9 Ch.none) (E := 2) (lit_row (new_blk (After.rfl.alloc _)) rfl rfl) (lit_row (blk_two w4 _ _) rfl rfl) (by decide) (by decide)).mono ?_
  rintro e w5 ⟨rfl, a5⟩
  have A5 := hideIt ((A4.out.alloc _).alloc _ |>.trans a5)
  clear a5
  go_wp2_with fail
  refine (no_new (L := List.replicate 33 Nd.none) (C := []) (E := 6) (lit_row (heap_alloc_new w5 _) rfl rfl) (GRow.nil chE _ _) (by decide) (by decide)).mono ?_
  rintro e w6 ⟨rfl, a6⟩
  have A6 := hideIt ((A5.out.alloc _).trans a6)
  clear a6
  go_wp2_with fail
  refine (no_new (L := [⟨3, 0, 0, 0⟩]) (C := []) (E := 150) (lit_row (heap_alloc_new w6 _) rfl rfl) (GRow.nil chE _ _) (by decide) (by decide)).mono ?_
  rintro e w7 ⟨rfl, a7⟩
  have A7 := hideIt ((A6.out.alloc _).trans a7)
  clear a7
  go_wp2_with fail
  refine (run_new (L := fiveL) (C := []) _ (some ⟨w7.heap.size, 0, none⟩) 5 (lit_row (heap_alloc_new w7 _) rfl rfl) (fun h => by cases h) none 0 (GRow.nil chE _ _) (fun _ => ⟨rfl, rfl⟩) five_ck).mono ?_
  rintro e w8 ⟨m, rfl, r8, a8⟩
  rw [size_alloc] at r8
  have R8 := hideIt r8
  have A8 := hideIt ((A7.out.alloc _).trans a8)
  clear r8 a8
  go_wp2_with fail
  refine (step_arg (R8.out.after (After.rfl.alloc (.cells #[.int .i64 0, .int .i64 0] 48))).mc R8.out.pos (by decide)).mono ?_
  rintro e w9 ⟨rfl, rfl⟩
  have R9 := hideIt (R8.out.after (After.rfl.alloc (.cells #[.int .i64 0, .int .i64 0] 48)))
  have A9 := hideIt (A8.out.alloc (.cells #[.int .i64 0, .int .i64 0] 48))
  obtain ⟨W9, hW9⟩ : ∃ W9, W9 = w8.alloc (.cells #[.int .i64 0, .int .i64 0] 48) := ⟨_, rfl⟩
  rw [← hW9] at R9 A9 ⊢
  clear hW9
  have HST := hideIt (R9.out.step (ar := none) (cr := 0) (R := []) (GRow.nil rdE _ _) (fun x hx => by cases hx))
  rw [five_val] at HST
  go_wp2_with fail
  refine HST.out.mono ?_
  rintro e w10 ⟨rfl, r10, b10⟩
  have R10 := hideIt r10
  have B10 : Hid (After w10 w10) := hideIt After.rfl
  have A10 : Hid (After w2 w10) := hideIt (A9.out.then b10 (fun k hk e => by have := e.1; have := A7.out.size; omega))
  clear r10 b10 HST R9 R8
  have hmem := five_mem
  go_wp2_with fail
  refine (given_any _).mono ?_
  rintro e w11 ⟨v0, rfl, p0, a11⟩
  have hr0 : isRow kl0 (.slice (some ⟨w10.heap.size, 0, none⟩) 2 2) w11 := ⟨_, _, rfl, (lit_row (heap_alloc_new w10 (.cells #[.int .i64 5, .int .i64 0, .int .i64 0, .int .i64 0, .int .i64 11, .int .i64 0, .int .i64 0, .int .i64 1] 38)) rfl rfl : NRow _ _ 2 kl0).after a11, fun h => by cases h⟩
  have HS0 := hideIt (steps_row p0 hr0 (by decide) (by decide) kc0 givenAll kb0)
  have A11 := hideIt ((A10.out.alloc _).trans a11)
  have B11 := hideIt ((B10.out.alloc _).trans a11)
  clear p0 hr0 a11
  go_wp2_with fail
  refine HS0.out.mono ?_
  rintro e w12 ⟨rfl, a12⟩
  have A12 := hideIt (A11.out.trans a12)
  have B12 := hideIt (B11.out.trans a12)
  clear a12 HS0
  go_wp2_with fail
  refine (given_any _).mono ?_
  rintro e w13 ⟨v1, rfl, p1, a13⟩
  have hr1 : isRow kl1 (.slice (some ⟨w12.heap.size, 0, none⟩) 2 2) w13 := ⟨_, _, rfl, (lit_row (heap_alloc_new w12 (.cells #[.int .i64 3, .int .i64 0, .int .i64 0, .int .i64 0, .int .i64 10, .int .i64 0, .int .i64 0, .int .i64 64] 38)) rfl rfl : NRow _ _ 2 kl1).after a13, fun h => by cases h⟩
  have HS1 := hideIt (steps_row p1 hr1 (by decide) (by decide) kc1 givenAll kb1)
  have A13 := hideIt ((A12.out.alloc _).trans a13)
  have B13 := hideIt ((B12.out.alloc _).trans a13)
  clear p1 hr1 a13
  go_wp2_with fail
  refine HS1.out.mono ?_
  rintro e w14 ⟨rfl, a14⟩
  have A14 := hideIt (A13.out.trans a14)
  have B14 := hideIt (B13.out.trans a14)
  clear a14 HS1
  go_wp2_with fail
  refine (given_any _).mono ?_
  rintro e w15 ⟨v2, rfl, p2, a15⟩
  have hr2 : isRow kl2 (.slice (some ⟨w14.heap.size, 0, none⟩) 2 2) w15 := ⟨_, _, rfl, (lit_row (heap_alloc_new w14 (.cells #[.int .i64 0, .int .i64 0, .int .i64 0, .int .i64 0, .int .i64 9, .int .i64 0, .int .i64 0, .int .i64 0] 38)) rfl rfl : NRow _ _ 2 kl2).after a15, fun h => by cases h⟩
  have HS2 := hideIt (steps_row p2 hr2 (by decide) (by decide) kc2 givenAll kb2)
  have A15 := hideIt ((A14.out.alloc _).trans a15)
  have B15 := hideIt ((B14.out.alloc _).trans a15)
  clear p2 hr2 a15
  go_wp2_with fail
  refine HS2.out.mono ?_
  rintro e w16 ⟨rfl, a16⟩
  have A16 := hideIt (A15.out.trans a16)
  have B16 := hideIt (B15.out.trans a16)
  clear a16 HS2
  go_wp2_with fail
  refine (given_any _).mono ?_
  rintro e w17 ⟨v3, rfl, p3, a17⟩
  have hr3 : isRow kl3 (.slice (some ⟨w16.heap.size, 0, none⟩) 2 2) w17 := ⟨_, _, rfl, (lit_row (heap_alloc_new w16 (.cells #[.int .i64 5, .int .i64 0, .int .i64 0, .int .i64 0, .int .i64 10, .int .i64 0, .int .i64 0, .int .i64 0] 38)) rfl rfl : NRow _ _ 2 kl3).after a17, fun h => by cases h⟩
  have HS3 := hideIt (steps_row p3 hr3 (by decide) (by decide) kc3 givenAll kb3)
  have A17 := hideIt ((A16.out.alloc _).trans a17)
  have B17 := hideIt ((B16.out.alloc _).trans a17)
  clear p3 hr3 a17
  go_wp2_with fail
  refine HS3.out.mono ?_
  rintro e w18 ⟨rfl, a18⟩
  have A18 := hideIt (A17.out.trans a18)
  have B18 := hideIt (B17.out.trans a18)
  clear a18 HS3
  go_wp2_with fail
  refine (works_any _).mono ?_
  rintro e w19 ⟨rfl, a19⟩
  have A19 := hideIt (A18.out.trans a19)
  have B19 := hideIt (B18.out.trans a19)
  clear a19
  go_wp2_with fail
  refine (words_none (isNone_nil _)).mono ?_
  rintro e w20 ⟨rfl, rfl⟩
  go_wp2_with fail
  refine (words_none (isNone_zero (HZ.out _ A19.out))).mono ?_
  rintro e w20 ⟨rfl, rfl⟩
  have HWD := hideIt (words_any (R10.out.after B19.out).mc R10.out.pos)
  rw [hmem] at HWD
  go_wp2_with fail
  refine HWD.out.mono ?_
  rintro e w21 ⟨rfl, a21⟩
  go_wp2_with fail
  go_ret
  exact ⟨rfl, (HW.out.2.trans A19.out).trans a21⟩
end Go.Proofs.Ythgmjeljjladhaa
