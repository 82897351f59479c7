/-
  given, works: what they answer.
-/
import Derived.Test.YthgmjeljjladhaaRuW
import Derived.Test.YthgmjeljjladhaaSloO
import Derived.Deep.Cut
namespace Go.Proofs.Ythgmjeljjladhaa
open Go.RowKit
set_option maxRecDepth 8000
def highN : Nd := ⟨3, 0, 0, 0⟩
def knownN : Nd := ⟨5, 0, 0, 0⟩
/-- The chapter's channel and trace. -/
def givenC : List Ch := [⟨0, 0, 0, 0, 0, 0, 5000⟩]
def givenT : List (List Rd) := [[⟨1, 2000⟩], [⟨1, 6000⟩], [⟨3, 0⟩], [⟨1, 500⟩], [⟨2, 500⟩]]
theorem givenAll : ∀ l ∈ givenT, l.length = givenC.length := by decide
theorem given_any (w : World) : Calls Try.prog 23 #[] w fun e w' => ∃ v, e = .returned v ∧ PastAt w' v givenC givenT ∧ After w w' := by
  go_enter Try.func23, Try.ntmps23
  go_wp2
  refine bodyPost_ret (v := .agg #[.slice (some ⟨w.heap.size + 1, 0, none⟩) 1 1, .slice (some ⟨w.heap.size + 1 + 1 + 1 + 1 + 1 + 1 + 1, 0, none⟩) 5 5]) (by simp [results, Try.results23, go_sem]) rfl ⟨_, rfl, ?_, ?_⟩
  · have b1 := new_blk (w := (w.alloc (.cells #[.slice (some ⟨w.heap.size + 1, 0, none⟩) 1 1, .slice (some ⟨w.heap.size + 1 + 1 + 1 + 1 + 1 + 1 + 1, 0, none⟩) 5 5] 26))) (o := .cells #[.int .i64 0, .int .i64 0, .int .i64 0, .int .i64 0, .int .i64 0, .int .i64 0, .int .i64 5000] 42) ((((((After.rfl.alloc (.cells #[.int .i64 1, .int .i64 2000] 48)).alloc (.cells #[.int .i64 1, .int .i64 6000] 48)).alloc (.cells #[.int .i64 3, .int .i64 0] 48)).alloc (.cells #[.int .i64 1, .int .i64 500] 48)).alloc (.cells #[.int .i64 2, .int .i64 500] 48)).alloc (.cells #[.slice (some ⟨w.heap.size + 1 + 1, 0, none⟩) 1 1, .slice (some ⟨w.heap.size + 1 + 1 + 1, 0, none⟩) 1 1, .slice (some ⟨w.heap.size + 1 + 1 + 1 + 1, 0, none⟩) 1 1, .slice (some ⟨w.heap.size + 1 + 1 + 1 + 1 + 1, 0, none⟩) 1 1, .slice (some ⟨w.heap.size + 1 + 1 + 1 + 1 + 1 + 1, 0, none⟩) 1 1] 43))
    have b2 := new_blk (w := ((w.alloc (.cells #[.slice (some ⟨w.heap.size + 1, 0, none⟩) 1 1, .slice (some ⟨w.heap.size + 1 + 1 + 1 + 1 + 1 + 1 + 1, 0, none⟩) 5 5] 26)).alloc (.cells #[.int .i64 0, .int .i64 0, .int .i64 0, .int .i64 0, .int .i64 0, .int .i64 0, .int .i64 5000] 42))) (o := .cells #[.int .i64 1, .int .i64 2000] 48) (((((After.rfl.alloc (.cells #[.int .i64 1, .int .i64 6000] 48)).alloc (.cells #[.int .i64 3, .int .i64 0] 48)).alloc (.cells #[.int .i64 1, .int .i64 500] 48)).alloc (.cells #[.int .i64 2, .int .i64 500] 48)).alloc (.cells #[.slice (some ⟨w.heap.size + 1 + 1, 0, none⟩) 1 1, .slice (some ⟨w.heap.size + 1 + 1 + 1, 0, none⟩) 1 1, .slice (some ⟨w.heap.size + 1 + 1 + 1 + 1, 0, none⟩) 1 1, .slice (some ⟨w.heap.size + 1 + 1 + 1 + 1 + 1, 0, none⟩) 1 1, .slice (some ⟨w.heap.size + 1 + 1 + 1 + 1 + 1 + 1, 0, none⟩) 1 1] 43))
    have b3 := new_blk (w := (((w.alloc (.cells #[.slice (some ⟨w.heap.size + 1, 0, none⟩) 1 1, .slice (some ⟨w.heap.size + 1 + 1 + 1 + 1 + 1 + 1 + 1, 0, none⟩) 5 5] 26)).alloc (.cells #[.int .i64 0, .int .i64 0, .int .i64 0, .int .i64 0, .int .i64 0, .int .i64 0, .int .i64 5000] 42)).alloc (.cells #[.int .i64 1, .int .i64 2000] 48))) (o := .cells #[.int .i64 1, .int .i64 6000] 48) ((((After.rfl.alloc (.cells #[.int .i64 3, .int .i64 0] 48)).alloc (.cells #[.int .i64 1, .int .i64 500] 48)).alloc (.cells #[.int .i64 2, .int .i64 500] 48)).alloc (.cells #[.slice (some ⟨w.heap.size + 1 + 1, 0, none⟩) 1 1, .slice (some ⟨w.heap.size + 1 + 1 + 1, 0, none⟩) 1 1, .slice (some ⟨w.heap.size + 1 + 1 + 1 + 1, 0, none⟩) 1 1, .slice (some ⟨w.heap.size + 1 + 1 + 1 + 1 + 1, 0, none⟩) 1 1, .slice (some ⟨w.heap.size + 1 + 1 + 1 + 1 + 1 + 1, 0, none⟩) 1 1] 43))
    have b4 := new_blk (w := ((((w.alloc (.cells #[.slice (some ⟨w.heap.size + 1, 0, none⟩) 1 1, .slice (some ⟨w.heap.size + 1 + 1 + 1 + 1 + 1 + 1 + 1, 0, none⟩) 5 5] 26)).alloc (.cells #[.int .i64 0, .int .i64 0, .int .i64 0, .int .i64 0, .int .i64 0, .int .i64 0, .int .i64 5000] 42)).alloc (.cells #[.int .i64 1, .int .i64 2000] 48)).alloc (.cells #[.int .i64 1, .int .i64 6000] 48))) (o := .cells #[.int .i64 3, .int .i64 0] 48) (((After.rfl.alloc (.cells #[.int .i64 1, .int .i64 500] 48)).alloc (.cells #[.int .i64 2, .int .i64 500] 48)).alloc (.cells #[.slice (some ⟨w.heap.size + 1 + 1, 0, none⟩) 1 1, .slice (some ⟨w.heap.size + 1 + 1 + 1, 0, none⟩) 1 1, .slice (some ⟨w.heap.size + 1 + 1 + 1 + 1, 0, none⟩) 1 1, .slice (some ⟨w.heap.size + 1 + 1 + 1 + 1 + 1, 0, none⟩) 1 1, .slice (some ⟨w.heap.size + 1 + 1 + 1 + 1 + 1 + 1, 0, none⟩) 1 1] 43))
    have b5 := new_blk (w := (((((w.alloc (.cells #[.slice (some ⟨w.heap.size + 1, 0, none⟩) 1 1, .slice (some ⟨w.heap.size + 1 + 1 + 1 + 1 + 1 + 1 + 1, 0, none⟩) 5 5] 26)).alloc (.cells #[.int .i64 0, .int .i64 0, .int .i64 0, .int .i64 0, .int .i64 0, .int .i64 0, .int .i64 5000] 42)).alloc (.cells #[.int .i64 1, .int .i64 2000] 48)).alloc (.cells #[.int .i64 1, .int .i64 6000] 48)).alloc (.cells #[.int .i64 3, .int .i64 0] 48))) (o := .cells #[.int .i64 1, .int .i64 500] 48) ((After.rfl.alloc (.cells #[.int .i64 2, .int .i64 500] 48)).alloc (.cells #[.slice (some ⟨w.heap.size + 1 + 1, 0, none⟩) 1 1, .slice (some ⟨w.heap.size + 1 + 1 + 1, 0, none⟩) 1 1, .slice (some ⟨w.heap.size + 1 + 1 + 1 + 1, 0, none⟩) 1 1, .slice (some ⟨w.heap.size + 1 + 1 + 1 + 1 + 1, 0, none⟩) 1 1, .slice (some ⟨w.heap.size + 1 + 1 + 1 + 1 + 1 + 1, 0, none⟩) 1 1] 43))
    have b6 := new_blk (w := ((((((w.alloc (.cells #[.slice (some ⟨w.heap.size + 1, 0, none⟩) 1 1, .slice (some ⟨w.heap.size + 1 + 1 + 1 + 1 + 1 + 1 + 1, 0, none⟩) 5 5] 26)).alloc (.cells #[.int .i64 0, .int .i64 0, .int .i64 0, .int .i64 0, .int .i64 0, .int .i64 0, .int .i64 5000] 42)).alloc (.cells #[.int .i64 1, .int .i64 2000] 48)).alloc (.cells #[.int .i64 1, .int .i64 6000] 48)).alloc (.cells #[.int .i64 3, .int .i64 0] 48)).alloc (.cells #[.int .i64 1, .int .i64 500] 48))) (o := .cells #[.int .i64 2, .int .i64 500] 48) (After.rfl.alloc (.cells #[.slice (some ⟨w.heap.size + 1 + 1, 0, none⟩) 1 1, .slice (some ⟨w.heap.size + 1 + 1 + 1, 0, none⟩) 1 1, .slice (some ⟨w.heap.size + 1 + 1 + 1 + 1, 0, none⟩) 1 1, .slice (some ⟨w.heap.size + 1 + 1 + 1 + 1 + 1, 0, none⟩) 1 1, .slice (some ⟨w.heap.size + 1 + 1 + 1 + 1 + 1 + 1, 0, none⟩) 1 1] 43))
    have b7 := new_blk (w := (((((((w.alloc (.cells #[.slice (some ⟨w.heap.size + 1, 0, none⟩) 1 1, .slice (some ⟨w.heap.size + 1 + 1 + 1 + 1 + 1 + 1 + 1, 0, none⟩) 5 5] 26)).alloc (.cells #[.int .i64 0, .int .i64 0, .int .i64 0, .int .i64 0, .int .i64 0, .int .i64 0, .int .i64 5000] 42)).alloc (.cells #[.int .i64 1, .int .i64 2000] 48)).alloc (.cells #[.int .i64 1, .int .i64 6000] 48)).alloc (.cells #[.int .i64 3, .int .i64 0] 48)).alloc (.cells #[.int .i64 1, .int .i64 500] 48)).alloc (.cells #[.int .i64 2, .int .i64 500] 48))) (o := .cells #[.slice (some ⟨w.heap.size + 1 + 1, 0, none⟩) 1 1, .slice (some ⟨w.heap.size + 1 + 1 + 1, 0, none⟩) 1 1, .slice (some ⟨w.heap.size + 1 + 1 + 1 + 1, 0, none⟩) 1 1, .slice (some ⟨w.heap.size + 1 + 1 + 1 + 1 + 1, 0, none⟩) 1 1, .slice (some ⟨w.heap.size + 1 + 1 + 1 + 1 + 1 + 1, 0, none⟩) 1 1] 43) After.rfl
    simp only [size_alloc] at b1 b2 b3 b4 b5 b6 b7
    refine ⟨some ⟨w.heap.size + 1, 0, none⟩, 1, some ⟨w.heap.size + 1 + 1 + 1 + 1 + 1 + 1 + 1, 0, none⟩, 5, [⟨some ⟨w.heap.size + 1 + 1, 0, none⟩, 1, 1, [⟨1, 2000⟩]⟩, ⟨some ⟨w.heap.size + 1 + 1 + 1, 0, none⟩, 1, 1, [⟨1, 6000⟩]⟩, ⟨some ⟨w.heap.size + 1 + 1 + 1 + 1, 0, none⟩, 1, 1, [⟨3, 0⟩]⟩, ⟨some ⟨w.heap.size + 1 + 1 + 1 + 1 + 1, 0, none⟩, 1, 1, [⟨1, 500⟩]⟩, ⟨some ⟨w.heap.size + 1 + 1 + 1 + 1 + 1 + 1, 0, none⟩, 1, 1, [⟨2, 500⟩]⟩], rfl, lit_row b1 rfl rfl, ⟨lit_row b7 rfl rfl, ?_⟩, rfl⟩
    intro x hx
    simp only [List.mem_cons, List.not_mem_nil, or_false] at hx
    rcases hx with rfl | rfl | rfl | rfl | rfl
    · exact ⟨lit_row b2 rfl rfl, fun h => by cases h⟩
    · exact ⟨lit_row b3 rfl rfl, fun h => by cases h⟩
    · exact ⟨lit_row b4 rfl rfl, fun h => by cases h⟩
    · exact ⟨lit_row b5 rfl rfl, fun h => by cases h⟩
    · exact ⟨lit_row b6 rfl rfl, fun h => by cases h⟩
  · exact ((((((((After.rfl.alloc (.cells #[.slice (some ⟨w.heap.size + 1, 0, none⟩) 1 1, .slice (some ⟨w.heap.size + 1 + 1 + 1 + 1 + 1 + 1 + 1, 0, none⟩) 5 5] 26)).alloc (.cells #[.int .i64 0, .int .i64 0, .int .i64 0, .int .i64 0, .int .i64 0, .int .i64 0, .int .i64 5000] 42)).alloc (.cells #[.int .i64 1, .int .i64 2000] 48)).alloc (.cells #[.int .i64 1, .int .i64 6000] 48)).alloc (.cells #[.int .i64 3, .int .i64 0] 48)).alloc (.cells #[.int .i64 1, .int .i64 500] 48)).alloc (.cells #[.int .i64 2, .int .i64 500] 48)).alloc (.cells #[.slice (some ⟨w.heap.size + 1 + 1, 0, none⟩) 1 1, .slice (some ⟨w.heap.size + 1 + 1 + 1, 0, none⟩) 1 1, .slice (some ⟨w.heap.size + 1 + 1 + 1 + 1, 0, none⟩) 1 1, .slice (some ⟨w.heap.size + 1 + 1 + 1 + 1 + 1, 0, none⟩) 1 1, .slice (some ⟨w.heap.size + 1 + 1 + 1 + 1 + 1 + 1, 0, none⟩) 1 1] 43))
/-- steps, of a row. -/
theorem steps_row {L : List Nd} {C : List Ch} {T : List (List Rd)} {u v : Value} {w : World} (p : PastAt w u C T) (h1 : isRow L v w) (hC : 0 < C.length) (hX : T.length ≤ 1000) (hc : chk L (C.length : Int) = 0) (hT : ∀ l ∈ T, l.length = C.length) {S : ByteArray} (hS : bitsOf (val L C T (L.length - 1)) T.length = S) :
    Calls Try.prog 22 #[v, u] w fun e w' => e = .returned (.string S) ∧ After w w' := by
  obtain ⟨a, c, rfl, r, hn⟩ := h1
  rw [← hS]
  obtain ⟨ac, cc, aT, ct, X, rfl, h2, h3, rfl⟩ := p
  rw [rdsOf_length] at h3 hX ⊢
  refine steps_any w a c ac cc aT ct r hn h2 (fun e => ?_) h3 hX hc (fun x hx => ?_)
  · obtain ⟨b, off, e', _⟩ := h2.lt hC
    rw [e] at e'
    cases e'
  · rw [← (h3.2 x hx).1.1]
    exact hT x.l (List.mem_map.2 ⟨x, hx, rfl⟩)
theorem c0 : chk [highN, Nd.mk 10 0 0 2] (givenC.length : Int) = 0 := by decide
def s0 : ByteArray := ⟨#[48, 49, 49, 49, 48]⟩
theorem g0 : s0 = ⟨#[48, 49, 49, 49, 48]⟩ := rfl
theorem b0 : bitsOf (val [highN, Nd.mk 10 0 0 2] givenC givenT (([highN, Nd.mk 10 0 0 2] : List Nd).length - 1)) givenT.length = s0 := by kernel_rfl
theorem c1 : chk [knownN, highN, Nd.mk 12 0 1 0] (givenC.length : Int) = 0 := by decide
def s1 : ByteArray := ⟨#[48, 49, 48, 48, 48]⟩
theorem g1 : s1 = ⟨#[48, 49, 48, 48, 48]⟩ := rfl
theorem b1 : bitsOf (val [knownN, highN, Nd.mk 12 0 1 0] givenC givenT (([knownN, highN, Nd.mk 12 0 1 0] : List Nd).length - 1)) givenT.length = s1 := by kernel_rfl
theorem c2 : chk [highN, Nd.mk 9 0 0 0, Nd.mk 6 1 0 0] (givenC.length : Int) = 0 := by decide
def s2 : ByteArray := ⟨#[49, 49, 48, 49, 49]⟩
theorem g2 : s2 = ⟨#[49, 49, 48, 49, 49]⟩ := rfl
theorem b2 : bitsOf (val [highN, Nd.mk 9 0 0 0, Nd.mk 6 1 0 0] givenC givenT (([highN, Nd.mk 9 0 0 0, Nd.mk 6 1 0 0] : List Nd).length - 1)) givenT.length = s2 := by kernel_rfl
theorem c3 : chk [highN, knownN, Nd.mk 7 0 1 0] (givenC.length : Int) = 0 := by decide
def s3 : ByteArray := ⟨#[48, 49, 48, 48, 48]⟩
theorem g3 : s3 = ⟨#[48, 49, 48, 48, 48]⟩ := rfl
theorem b3 : bitsOf (val [highN, knownN, Nd.mk 7 0 1 0] givenC givenT (([highN, knownN, Nd.mk 7 0 1 0] : List Nd).length - 1)) givenT.length = s3 := by kernel_rfl
theorem works_any (w : World) : Calls Try.prog 17 #[] w fun e w' => e = .returned (.bool true) ∧ After w w' := by
  obtain ⟨W2, hW2⟩ : ∃ W2, W2 = (w.alloc (.cells #[.int .i64 3, .int .i64 0, .int .i64 0, .int .i64 0] 38)).alloc (.cells #[.int .i64 5, .int .i64 0, .int .i64 0, .int .i64 0] 38) := ⟨_, rfl⟩
  have b1 := new_blk (w := w) (o := .cells #[.int .i64 3, .int .i64 0, .int .i64 0, .int .i64 0] 38) (After.rfl.alloc (.cells #[.int .i64 5, .int .i64 0, .int .i64 0, .int .i64 0] 38))
  have b2 := new_blk (w := w.alloc (.cells #[.int .i64 3, .int .i64 0, .int .i64 0, .int .i64 0] 38)) (o := .cells #[.int .i64 5, .int .i64 0, .int .i64 0, .int .i64 0] 38) After.rfl
  rw [size_alloc] at b2
  have HL1 : Hid (∀ V, After W2 V → (Instr.loadAt 38 (Ptr w.heap.size)).run Try.prog V = .ok highN.val V) := hideIt (fun V hV => by
    subst hW2
    have h := (hV.block _ (blk_lt b1) (fun t => t)).trans b1
    exact loadNode (x := highN) (blk_cell h rfl) (blk_cell h rfl) (blk_cell h rfl) (blk_cell h rfl))
  have HL2 : Hid (∀ V, After W2 V → (Instr.loadAt 38 (Ptr (w.heap.size + 1))).run Try.prog V = .ok knownN.val V) := hideIt (fun V hV => by
    subst hW2
    have h := (hV.block _ (blk_lt b2) (fun t => t)).trans b2
    exact loadNode (x := knownN) (blk_cell h rfl) (blk_cell h rfl) (blk_cell h rfl) (blk_cell h rfl))
  have HW : Hid (W2 = _) := hideIt hW2
  have HA : Hid (After w W2) := hideIt (by rw [hW2]; exact (After.rfl.alloc _).alloc _)
  clear b1 b2 hW2
  go_enter Try.func17, Try.ntmps17
  go_upto_region 2 with fail
  rw [← HW.out]
  refine region_slots (by kernel_rfl) [5, 6, 7, 8, 9, 10, 11, 12, 13, 14, 15, 16, 17, 18, 19, 20, 21, 22, 23, 24, 25, 26, 27, 28, 29, 30, 31, 32, 33, 34, 35, 36, 37, 0] [isV (highN.val), isV ((Nd.mk 10 0 0 2).val), isRow ([highN, Nd.mk 10 0 0 2]), isPast givenC givenT, isV (.string s0), isV (.bool true), isV (.bool true), isV (knownN.val), isV (highN.val), isV ((Nd.mk 12 0 1 0).val), isRow ([knownN, highN, Nd.mk 12 0 1 0]), isPast givenC givenT, isV (.string s1), isV (.bool true), isV (.bool true), isV (.bool true), isV (highN.val), isV ((Nd.mk 9 0 0 0).val), isV ((Nd.mk 6 1 0 0).val), isRow ([highN, Nd.mk 9 0 0 0, Nd.mk 6 1 0 0]), isPast givenC givenT, isV (.string s2), isV (.bool true), isV (.bool true), isV (.bool true), isV (highN.val), isV (knownN.val), isV ((Nd.mk 7 0 1 0).val), isRow ([highN, knownN, Nd.mk 7 0 1 0]), isPast givenC givenT, isV (.string s3), isV (.bool true), isV (.bool true), isV (.bool true)] 34 rfl rfl (stable_all (st_cons (isV_st _) (st_cons (isV_st _) (st_cons (isRow_st _) (st_cons (isPast_st _ _) (st_cons (isV_st _) (st_cons (isV_st _) (st_cons (isV_st _) (st_cons (isV_st _) (st_cons (isV_st _) (st_cons (isV_st _) (st_cons (isRow_st _) (st_cons (isPast_st _ _) (st_cons (isV_st _) (st_cons (isV_st _) (st_cons (isV_st _) (st_cons (isV_st _) (st_cons (isV_st _) (st_cons (isV_st _) (st_cons (isV_st _) (st_cons (isRow_st _) (st_cons (isPast_st _ _) (st_cons (isV_st _) (st_cons (isV_st _) (st_cons (isV_st _) (st_cons (isV_st _) (st_cons (isV_st _) (st_cons (isV_st _) (st_cons (isV_st _) (st_cons (isRow_st _) (st_cons (isPast_st _ _) (st_cons (isV_st _) (st_cons (isV_st _) (st_cons (isV_st _) (st_cons (isV_st _) (st_nil)))))))))))))))))))))))))))))))))))) rfl rfl ?_ ?_
  · exact ⟨⟨rfl, rfl, (.inl rfl), fun a W9 K hd hb aw hk => wp_load rfl (show a.eval (.tmp 1) = Ptr w.heap.size from hb 1 rfl) (HL1.out W9 aw) (hk _ _ rfl After.rfl)⟩,
      ⟨rfl, rfl, (.inl rfl), fun a W9 K hd hb aw hk => wp_build2 rfl rfl rfl (bn03 _ _ _) (hk _ _ rfl After.rfl)⟩,
      ⟨rfl, rfl, (.inl rfl), fun a W9 K hd hb aw hk => by
      obtain ⟨v, w9, h1, h2, h3⟩ := rowOf2 highN (Nd.mk 10 0 0 2) W9
      exact wp_slice2 rfl (hd 0 rfl) (hd 1 rfl) h1 (hk _ _ h2 h3)⟩,
      ⟨rfl, rfl, (.inl rfl), fun a W9 K hd hb aw hk => wp_func0 rfl (enter_of Try.func23 (by kernel_rfl) (by kernel_rfl)) ((given_any W9).mono (fun e w1 h => by obtain ⟨v, h1, h2, h3⟩ := h; exact ⟨v, h1, hk _ _ h2 h3⟩))⟩,
      ⟨rfl, rfl, (.inl rfl), fun a W9 K hd hb aw hk => wp_func2 rfl (enter_of Try.func22 (by kernel_rfl) (by kernel_rfl)) rfl rfl ((steps_row (hd 3 rfl) (hd 2 rfl) (by decide) (by decide) c0 givenAll b0).mono (fun e w1 h => ⟨_, h.1, hk _ _ rfl h.2⟩))⟩,
      ⟨rfl, rfl, (.inl rfl), fun a W9 K hd hb aw hk => wp_bin rfl (hd 4 rfl) rfl (by rw [g0]; exact eqS_yes _ _ _ _) (hk _ _ rfl After.rfl)⟩,
      ⟨rfl, rfl, (.inl rfl), fun a W9 K hd hb aw hk => wp_move (.inl rfl) (hd 5 rfl) (hk _ _ rfl After.rfl)⟩,
      ⟨rfl, rfl, (.inr ⟨6, true, rfl, rfl, fun v w h => h⟩), fun a W9 K hd hb aw hk => wp_load rfl (show a.eval (.tmp 2) = Ptr (w.heap.size + 1) from hb 2 rfl) (HL2.out W9 aw) (hk _ _ rfl After.rfl)⟩,
      ⟨rfl, rfl, (.inr ⟨6, true, rfl, rfl, fun v w h => h⟩), fun a W9 K hd hb aw hk => wp_load rfl (show a.eval (.tmp 1) = Ptr w.heap.size from hb 1 rfl) (HL1.out W9 aw) (hk _ _ rfl After.rfl)⟩,
      ⟨rfl, rfl, (.inr ⟨6, true, rfl, rfl, fun v w h => h⟩), fun a W9 K hd hb aw hk => wp_build3 rfl rfl rfl rfl (bn012 _ _ _ _) (hk _ _ rfl After.rfl)⟩,
      ⟨rfl, rfl, (.inr ⟨6, true, rfl, rfl, fun v w h => h⟩), fun a W9 K hd hb aw hk => by
      obtain ⟨v, w9, h1, h2, h3⟩ := rowOf3 knownN highN (Nd.mk 12 0 1 0) W9
      exact wp_slice3 rfl (hd 7 rfl) (hd 8 rfl) (hd 9 rfl) h1 (hk _ _ h2 h3)⟩,
      ⟨rfl, rfl, (.inr ⟨6, true, rfl, rfl, fun v w h => h⟩), fun a W9 K hd hb aw hk => wp_func0 rfl (enter_of Try.func23 (by kernel_rfl) (by kernel_rfl)) ((given_any W9).mono (fun e w1 h => by obtain ⟨v, h1, h2, h3⟩ := h; exact ⟨v, h1, hk _ _ h2 h3⟩))⟩,
      ⟨rfl, rfl, (.inr ⟨6, true, rfl, rfl, fun v w h => h⟩), fun a W9 K hd hb aw hk => wp_func2 rfl (enter_of Try.func22 (by kernel_rfl) (by kernel_rfl)) rfl rfl ((steps_row (hd 11 rfl) (hd 10 rfl) (by decide) (by decide) c1 givenAll b1).mono (fun e w1 h => ⟨_, h.1, hk _ _ rfl h.2⟩))⟩,
      ⟨rfl, rfl, (.inr ⟨6, true, rfl, rfl, fun v w h => h⟩), fun a W9 K hd hb aw hk => wp_bin rfl (hd 12 rfl) rfl (by rw [g1]; exact eqS_yes _ _ _ _) (hk _ _ rfl After.rfl)⟩,
      ⟨rfl, rfl, (.inl rfl), fun a W9 K hd hb aw hk => wp_pickT rfl (hd 6 rfl) (hd 13 rfl) (hk _ _ rfl After.rfl)⟩,
      ⟨rfl, rfl, (.inl rfl), fun a W9 K hd hb aw hk => wp_move (.inl rfl) (hd 14 rfl) (hk _ _ rfl After.rfl)⟩,
      ⟨rfl, rfl, (.inr ⟨15, true, rfl, rfl, fun v w h => h⟩), fun a W9 K hd hb aw hk => wp_load rfl (show a.eval (.tmp 1) = Ptr w.heap.size from hb 1 rfl) (HL1.out W9 aw) (hk _ _ rfl After.rfl)⟩,
      ⟨rfl, rfl, (.inr ⟨15, true, rfl, rfl, fun v w h => h⟩), fun a W9 K hd hb aw hk => wp_build1 rfl rfl (bn0 _ _) (hk _ _ rfl After.rfl)⟩,
      ⟨rfl, rfl, (.inr ⟨15, true, rfl, rfl, fun v w h => h⟩), fun a W9 K hd hb aw hk => wp_build2 rfl rfl rfl (bn01 _ _ _) (hk _ _ rfl After.rfl)⟩,
      ⟨rfl, rfl, (.inr ⟨15, true, rfl, rfl, fun v w h => h⟩), fun a W9 K hd hb aw hk => by
      obtain ⟨v, w9, h1, h2, h3⟩ := rowOf3 highN (Nd.mk 9 0 0 0) (Nd.mk 6 1 0 0) W9
      exact wp_slice3 rfl (hd 16 rfl) (hd 17 rfl) (hd 18 rfl) h1 (hk _ _ h2 h3)⟩,
      ⟨rfl, rfl, (.inr ⟨15, true, rfl, rfl, fun v w h => h⟩), fun a W9 K hd hb aw hk => wp_func0 rfl (enter_of Try.func23 (by kernel_rfl) (by kernel_rfl)) ((given_any W9).mono (fun e w1 h => by obtain ⟨v, h1, h2, h3⟩ := h; exact ⟨v, h1, hk _ _ h2 h3⟩))⟩,
      ⟨rfl, rfl, (.inr ⟨15, true, rfl, rfl, fun v w h => h⟩), fun a W9 K hd hb aw hk => wp_func2 rfl (enter_of Try.func22 (by kernel_rfl) (by kernel_rfl)) rfl rfl ((steps_row (hd 20 rfl) (hd 19 rfl) (by decide) (by decide) c2 givenAll b2).mono (fun e w1 h => ⟨_, h.1, hk _ _ rfl h.2⟩))⟩,
      ⟨rfl, rfl, (.inr ⟨15, true, rfl, rfl, fun v w h => h⟩), fun a W9 K hd hb aw hk => wp_bin rfl (hd 21 rfl) rfl (by rw [g2]; exact eqS_yes _ _ _ _) (hk _ _ rfl After.rfl)⟩,
      ⟨rfl, rfl, (.inl rfl), fun a W9 K hd hb aw hk => wp_pickT rfl (hd 15 rfl) (hd 22 rfl) (hk _ _ rfl After.rfl)⟩,
      ⟨rfl, rfl, (.inl rfl), fun a W9 K hd hb aw hk => wp_move (.inl rfl) (hd 23 rfl) (hk _ _ rfl After.rfl)⟩,
      ⟨rfl, rfl, (.inr ⟨24, true, rfl, rfl, fun v w h => h⟩), fun a W9 K hd hb aw hk => wp_load rfl (show a.eval (.tmp 1) = Ptr w.heap.size from hb 1 rfl) (HL1.out W9 aw) (hk _ _ rfl After.rfl)⟩,
      ⟨rfl, rfl, (.inr ⟨24, true, rfl, rfl, fun v w h => h⟩), fun a W9 K hd hb aw hk => wp_load rfl (show a.eval (.tmp 2) = Ptr (w.heap.size + 1) from hb 2 rfl) (HL2.out W9 aw) (hk _ _ rfl After.rfl)⟩,
      ⟨rfl, rfl, (.inr ⟨24, true, rfl, rfl, fun v w h => h⟩), fun a W9 K hd hb aw hk => wp_build2 rfl rfl rfl (bn02 _ _ _) (hk _ _ rfl After.rfl)⟩,
      ⟨rfl, rfl, (.inr ⟨24, true, rfl, rfl, fun v w h => h⟩), fun a W9 K hd hb aw hk => by
      obtain ⟨v, w9, h1, h2, h3⟩ := rowOf3 highN knownN (Nd.mk 7 0 1 0) W9
      exact wp_slice3 rfl (hd 25 rfl) (hd 26 rfl) (hd 27 rfl) h1 (hk _ _ h2 h3)⟩,
      ⟨rfl, rfl, (.inr ⟨24, true, rfl, rfl, fun v w h => h⟩), fun a W9 K hd hb aw hk => wp_func0 rfl (enter_of Try.func23 (by kernel_rfl) (by kernel_rfl)) ((given_any W9).mono (fun e w1 h => by obtain ⟨v, h1, h2, h3⟩ := h; exact ⟨v, h1, hk _ _ h2 h3⟩))⟩,
      ⟨rfl, rfl, (.inr ⟨24, true, rfl, rfl, fun v w h => h⟩), fun a W9 K hd hb aw hk => wp_func2 rfl (enter_of Try.func22 (by kernel_rfl) (by kernel_rfl)) rfl rfl ((steps_row (hd 29 rfl) (hd 28 rfl) (by decide) (by decide) c3 givenAll b3).mono (fun e w1 h => ⟨_, h.1, hk _ _ rfl h.2⟩))⟩,
      ⟨rfl, rfl, (.inr ⟨24, true, rfl, rfl, fun v w h => h⟩), fun a W9 K hd hb aw hk => wp_bin rfl (hd 30 rfl) rfl (by rw [g3]; exact eqS_yes _ _ _ _) (hk _ _ rfl After.rfl)⟩,
      ⟨rfl, rfl, (.inl rfl), fun a W9 K hd hb aw hk => wp_pickT rfl (hd 24 rfl) (hd 31 rfl) (hk _ _ rfl After.rfl)⟩,
      ⟨rfl, rfl, (.inl rfl), fun a W9 K hd hb aw hk => wp_move (.inr rfl) (hd 32 rfl) (hk _ _ rfl After.rfl)⟩,
      trivial⟩
  intro x9 w9 hx9 aw9
  have t0 : x9 0 = highN.val := hx9 0 (Nat.le_of_ble_eq_true rfl)
  have t1 : x9 1 = (Nd.mk 10 0 0 2).val := hx9 1 (Nat.le_of_ble_eq_true rfl)
  have t4 : x9 4 = .string s0 := hx9 4 (Nat.le_of_ble_eq_true rfl)
  have t5 : x9 5 = .bool true := hx9 5 (Nat.le_of_ble_eq_true rfl)
  have t6 : x9 6 = .bool true := hx9 6 (Nat.le_of_ble_eq_true rfl)
  have t7 : x9 7 = knownN.val := hx9 7 (Nat.le_of_ble_eq_true rfl)
  have t8 : x9 8 = highN.val := hx9 8 (Nat.le_of_ble_eq_true rfl)
  have t9 : x9 9 = (Nd.mk 12 0 1 0).val := hx9 9 (Nat.le_of_ble_eq_true rfl)
  have t12 : x9 12 = .string s1 := hx9 12 (Nat.le_of_ble_eq_true rfl)
  have t13 : x9 13 = .bool true := hx9 13 (Nat.le_of_ble_eq_true rfl)
  have t14 : x9 14 = .bool true := hx9 14 (Nat.le_of_ble_eq_true rfl)
  have t15 : x9 15 = .bool true := hx9 15 (Nat.le_of_ble_eq_true rfl)
  have t16 : x9 16 = highN.val := hx9 16 (Nat.le_of_ble_eq_true rfl)
  have t17 : x9 17 = (Nd.mk 9 0 0 0).val := hx9 17 (Nat.le_of_ble_eq_true rfl)
  have t18 : x9 18 = (Nd.mk 6 1 0 0).val := hx9 18 (Nat.le_of_ble_eq_true rfl)
  have t21 : x9 21 = .string s2 := hx9 21 (Nat.le_of_ble_eq_true rfl)
  have t22 : x9 22 = .bool true := hx9 22 (Nat.le_of_ble_eq_true rfl)
  have t23 : x9 23 = .bool true := hx9 23 (Nat.le_of_ble_eq_true rfl)
  have t24 : x9 24 = .bool true := hx9 24 (Nat.le_of_ble_eq_true rfl)
  have t25 : x9 25 = highN.val := hx9 25 (Nat.le_of_ble_eq_true rfl)
  have t26 : x9 26 = knownN.val := hx9 26 (Nat.le_of_ble_eq_true rfl)
  have t27 : x9 27 = (Nd.mk 7 0 1 0).val := hx9 27 (Nat.le_of_ble_eq_true rfl)
  have t30 : x9 30 = .string s3 := hx9 30 (Nat.le_of_ble_eq_true rfl)
  have t31 : x9 31 = .bool true := hx9 31 (Nat.le_of_ble_eq_true rfl)
  have t32 : x9 32 = .bool true := hx9 32 (Nat.le_of_ble_eq_true rfl)
  have t33 : x9 33 = .bool true := hx9 33 (Nat.le_of_ble_eq_true rfl)
  simp only [sets, List.getD_cons_succ, List.getD_cons_zero, List.set_cons_succ, List.set_cons_zero, t0, t1, t4, t5, t6, t7, t8, t9, t12, t13, t14, t15, t16, t17, t18, t21, t22, t23, t24, t25, t26, t27, t30, t31, t32, t33]
  clear hx9 t0 t1 t4 t5 t6 t7 t8 t9 t12 t13 t14 t15 t16 t17 t18 t21 t22 t23 t24 t25 t26 t27 t30 t31 t32 t33
  generalize x9 2 = y2
  generalize x9 3 = y3
  generalize x9 10 = y10
  generalize x9 11 = y11
  generalize x9 19 = y19
  generalize x9 20 = y20
  generalize x9 28 = y28
  generalize x9 29 = y29
  clear x9
  go_wp2
  go_ret
  exact ⟨rfl, HA.out.trans aw9⟩
end Go.Proofs.Ythgmjeljjladhaa
