/-
  FormulaKnown: the walk.
-/
import Derived.Test.YtgbaibnlfmeklabFoK
import Derived.Test.YtgbaibnlfmeklabSloS
import Derived.Test.YtgbaibnlfmeklabSloP
import Derived.Test.YtgbaibnlfmeklabFoS
import Derived.Deep.Cut
namespace Go.Proofs.Ytgbaibnlfmeklab
open Go.RowKit
set_option maxRecDepth 8000
def lowN : Nd := ⟨4, 0, 0, 0⟩
theorem bnE (w : World) : (Instr.build 28 #[]).run Try.prog w = .ok (Nd.mk 0 0 0 0).val w := by
  unfold Nd.val
  simp [go_sem]
theorem bn1 (x1 : Int) (w : World) : (Instr.build 28 #[(1, .int .i64 x1)]).run Try.prog w = .ok (.agg #[.int .i64 0, .int .i64 x1, .int .i64 0, .int .i64 0]) w := by
  simp [go_sem]
theorem bn3 (x3 : Int) (w : World) : (Instr.build 28 #[(3, .int .i64 x3)]).run Try.prog w = .ok (.agg #[.int .i64 0, .int .i64 0, .int .i64 0, .int .i64 x3]) w := by
  simp [go_sem]
theorem wp_build0 {o : Oper} {a : Act} {w : World} {K : Act → World → Prop} {Q : Exit → Act → World → Prop} {t : Nat} {v : Value} (ho : o.op = .build t #[]) (hr : (Instr.build t #[]).run Try.prog w = .ok v w) (h : K (a.put o.dst v) w) : Oper.wp Try.prog o a w K Q := by
  refine wp_val (r := Instr.build t #[]) ?_ hr h
  unfold execOp
  simp [ho]
theorem kc0 : chk [lowN] (fourC.length : Int) = 0 := by decide
def ks0 : ByteArray := ⟨#[48, 48, 48, 49]⟩
theorem kg0 : ks0 = ⟨#[48, 48, 48, 49]⟩ := rfl
theorem kb0 : bitsOf (val [lowN] fourC fourT (([lowN] : List Nd).length - 1)) fourT.length = ks0 := by kernel_rfl
theorem kc1 : chk [Nd.mk 1 0 0 1999] (fourC.length : Int) = 0 := by decide
def ks1 : ByteArray := ⟨#[49, 49, 48, 48]⟩
theorem kg1 : ks1 = ⟨#[49, 49, 48, 48]⟩ := rfl
theorem kb1 : bitsOf (val [Nd.mk 1 0 0 1999] fourC fourT (([Nd.mk 1 0 0 1999] : List Nd).length - 1)) fourT.length = ks1 := by kernel_rfl
theorem kc2 : chk [Nd.mk 2 0 0 2000] (fourC.length : Int) = 0 := by decide
def ks2 : ByteArray := ⟨#[48, 48, 48, 49]⟩
theorem kg2 : ks2 = ⟨#[48, 48, 48, 49]⟩ := rfl
theorem kb2 : bitsOf (val [Nd.mk 2 0 0 2000] fourC fourT (([Nd.mk 2 0 0 2000] : List Nd).length - 1)) fourT.length = ks2 := by kernel_rfl
theorem kc3 : chk [knownN, Nd.mk 11 0 0 1] (fourC.length : Int) = 0 := by decide
def ks3 : ByteArray := ⟨#[49, 49, 48, 48]⟩
theorem kg3 : ks3 = ⟨#[49, 49, 48, 48]⟩ := rfl
theorem kb3 : bitsOf (val [knownN, Nd.mk 11 0 0 1] fourC fourT (([knownN, Nd.mk 11 0 0 1] : List Nd).length - 1)) fourT.length = ks3 := by kernel_rfl
theorem kc4 : chk [knownN, highN, Nd.mk 6 0 0 0, Nd.mk 12 2 1 0] (fourC.length : Int) = 0 := by decide
def ks4 : ByteArray := ⟨#[48, 49, 49, 48]⟩
theorem kg4 : ks4 = ⟨#[48, 49, 49, 48]⟩ := rfl
theorem kb4 : bitsOf (val [knownN, highN, Nd.mk 6 0 0 0, Nd.mk 12 2 1 0] fourC fourT (([knownN, highN, Nd.mk 6 0 0 0, Nd.mk 12 2 1 0] : List Nd).length - 1)) fourT.length = ks4 := by kernel_rfl
theorem kc5 : chk [Nd.mk 0 0 0 0] (fourC.length : Int) = 0 := by decide
def ks5 : ByteArray := ⟨#[49, 49, 49, 49]⟩
theorem kg5 : ks5 = ⟨#[49, 49, 49, 49]⟩ := rfl
theorem kb5 : bitsOf (val [Nd.mk 0 0 0 0] fourC fourT (([Nd.mk 0 0 0 0] : List Nd).length - 1)) fourT.length = ks5 := by kernel_rfl
theorem kc6 : chk [highN, lowN, Nd.mk 8 1 0 0] (fourC.length : Int) = 0 := by decide
def ks6 : ByteArray := ⟨#[48, 49, 48, 49]⟩
theorem kg6 : ks6 = ⟨#[48, 49, 48, 49]⟩ := rfl
theorem kb6 : bitsOf (val [highN, lowN, Nd.mk 8 1 0 0] fourC fourT (([highN, lowN, Nd.mk 8 1 0 0] : List Nd).length - 1)) fourT.length = ks6 := by kernel_rfl
theorem kc7 : chk [highN, knownN, Nd.mk 7 0 1 0] (fourC.length : Int) = 0 := by decide
def ks7 : ByteArray := ⟨#[48, 49, 48, 48]⟩
theorem kg7 : ks7 = ⟨#[48, 49, 48, 48]⟩ := rfl
theorem kb7 : bitsOf (val [highN, knownN, Nd.mk 7 0 1 0] fourC fourT (([highN, knownN, Nd.mk 7 0 1 0] : List Nd).length - 1)) fourT.length = ks7 := by kernel_rfl
theorem kc8 : chk [highN, Nd.mk 10 0 0 64] (fourC.length : Int) = 0 := by decide
def ks8 : ByteArray := ⟨#[48, 49, 49, 49]⟩
theorem kg8 : ks8 = ⟨#[48, 49, 49, 49]⟩ := rfl
theorem kb8 : bitsOf (val [highN, Nd.mk 10 0 0 64] fourC fourT (([highN, Nd.mk 10 0 0 64] : List Nd).length - 1)) fourT.length = ks8 := by kernel_rfl
def n0 : Int := 0
theorem kh0 : n0 = 0 := rfl
theorem kn0 : chk (List.replicate 32 Nd.none : List Nd) 0 = n0 := by decide
def n1 : Int := 6
theorem kh1 : n1 = 6 := rfl
theorem kn1 : chk (List.replicate 33 Nd.none : List Nd) (-1) = n1 := by decide
def n2 : Int := 2
theorem kh2 : n2 = 2 := rfl
theorem kn2 : chk ([] : List Nd) 9 = n2 := by decide
def n3 : Int := 2
theorem kh3 : n3 = 2 := rfl
theorem kn3 : chk ([Nd.mk 0 0 0 0] : List Nd) (-1) = n3 := by decide
def n4 : Int := 0
theorem kh4 : n4 = 0 := rfl
theorem kn4 : chk ([Nd.mk 3 7 0 0] : List Nd) 8 = n4 := by decide
def n5 : Int := 150
theorem kh5 : n5 = 150 := rfl
theorem kn5 : chk ([Nd.mk 3 0 0 0] : List Nd) 0 = n5 := by decide
def badL : List (List Nd) := [[], [Nd.mk 7 0 0 0], [Nd.mk 3 1 0 0], [Nd.mk 13 0 0 0], [Nd.mk (-1) 0 0 0], [Nd.mk 0 0 0 0, Nd.mk 6 1 0 0], [Nd.mk 0 0 0 0, Nd.mk 6 (-1) 0 0], [Nd.mk 0 0 0 0, Nd.mk 6 0 1 0], [Nd.mk 0 0 0 0, Nd.mk 10 0 0 65], [Nd.mk 0 0 0 0, Nd.mk 11 0 0 (-1)], [Nd.mk 0 0 0 0, Nd.mk 9 0 0 1], [Nd.mk 0 1 0 0], [Nd.mk 0 0 0 1], [Nd.mk 1 0 0 2147483648], [Nd.mk 2 0 1 0], [Nd.mk 5 0 0 1], [Nd.mk 0 0 0 0, Nd.mk 12 0 1 0], [Nd.mk 0 0 0 0, Nd.mk 8 0 0 1]]
theorem wp_bad {o : Oper} {a : Act} {w : World} {K : Act → World → Prop} {Q : Exit → Act → World → Prop} {x1 x2 x3 x4 x5 x6 x7 x8 x9 x10 x11 x12 x13 x14 x15 x16 x17 : Operand} (ho : o.op = .buildSlice 31 18 #[(0, .const (.slice none 0 0)), (1, x1), (2, x2), (3, x3), (4, x4), (5, x5), (6, x6), (7, x7), (8, x8), (9, x9), (10, x10), (11, x11), (12, x12), (13, x13), (14, x14), (15, x15), (16, x16), (17, x17)]) (h1 : ∃ b n c, a.eval x1 = .slice b n c) (h2 : ∃ b n c, a.eval x2 = .slice b n c) (h3 : ∃ b n c, a.eval x3 = .slice b n c) (h4 : ∃ b n c, a.eval x4 = .slice b n c) (h5 : ∃ b n c, a.eval x5 = .slice b n c) (h6 : ∃ b n c, a.eval x6 = .slice b n c) (h7 : ∃ b n c, a.eval x7 = .slice b n c) (h8 : ∃ b n c, a.eval x8 = .slice b n c) (h9 : ∃ b n c, a.eval x9 = .slice b n c) (h10 : ∃ b n c, a.eval x10 = .slice b n c) (h11 : ∃ b n c, a.eval x11 = .slice b n c) (h12 : ∃ b n c, a.eval x12 = .slice b n c) (h13 : ∃ b n c, a.eval x13 = .slice b n c) (h14 : ∃ b n c, a.eval x14 = .slice b n c) (h15 : ∃ b n c, a.eval x15 = .slice b n c) (h16 : ∃ b n c, a.eval x16 = .slice b n c) (h17 : ∃ b n c, a.eval x17 = .slice b n c) (h : K (a.put o.dst (.slice (some ⟨w.heap.size, 0, none⟩) 18 18)) (w.alloc (.cells [.slice none 0 0, a.eval x1, a.eval x2, a.eval x3, a.eval x4, a.eval x5, a.eval x6, a.eval x7, a.eval x8, a.eval x9, a.eval x10, a.eval x11, a.eval x12, a.eval x13, a.eval x14, a.eval x15, a.eval x16, a.eval x17].toArray 30))) : Oper.wp Try.prog o a w K Q := by
  obtain ⟨b1, m1, c1, e1⟩ := h1
  obtain ⟨b2, m2, c2, e2⟩ := h2
  obtain ⟨b3, m3, c3, e3⟩ := h3
  obtain ⟨b4, m4, c4, e4⟩ := h4
  obtain ⟨b5, m5, c5, e5⟩ := h5
  obtain ⟨b6, m6, c6, e6⟩ := h6
  obtain ⟨b7, m7, c7, e7⟩ := h7
  obtain ⟨b8, m8, c8, e8⟩ := h8
  obtain ⟨b9, m9, c9, e9⟩ := h9
  obtain ⟨b10, m10, c10, e10⟩ := h10
  obtain ⟨b11, m11, c11, e11⟩ := h11
  obtain ⟨b12, m12, c12, e12⟩ := h12
  obtain ⟨b13, m13, c13, e13⟩ := h13
  obtain ⟨b14, m14, c14, e14⟩ := h14
  obtain ⟨b15, m15, c15, e15⟩ := h15
  obtain ⟨b16, m16, c16, e16⟩ := h16
  obtain ⟨b17, m17, c17, e17⟩ := h17
  rw [e1, e2, e3, e4, e5, e6, e7, e8, e9, e10, e11, e12, e13, e14, e15, e16, e17] at h
  refine wp_val (r := Instr.buildSlice 31 18 #[(0, .slice none 0 0), (1, .slice b1 m1 c1), (2, .slice b2 m2 c2), (3, .slice b3 m3 c3), (4, .slice b4 m4 c4), (5, .slice b5 m5 c5), (6, .slice b6 m6 c6), (7, .slice b7 m7 c7), (8, .slice b8 m8 c8), (9, .slice b9 m9 c9), (10, .slice b10 m10 c10), (11, .slice b11 m11 c11), (12, .slice b12 m12 c12), (13, .slice b13 m13 c13), (14, .slice b14 m14 c14), (15, .slice b15 m15 c15), (16, .slice b16 m16 c16), (17, .slice b17 m17 c17)]) ?_ ?_ h
  · unfold execOp
    simp [ho, e1, e2, e3, e4, e5, e6, e7, e8, e9, e10, e11, e12, e13, e14, e15, e16, e17]
    rfl
  · simp [go_sem]
theorem row_slice {L : List Nd} {v : Value} {w : World} (h : isRow L v w) : ∃ b n c, v = .slice b n c := by
  obtain ⟨a, c, e, _⟩ := h
  exact ⟨a, _, c, e⟩
/-- The formulas that may not be, in a row. -/
def isBad : Wd := fun v w => ∃ (g : Nat) (vs : List Value), v = .slice (some ⟨g, 0, none⟩) 18 18 ∧ w.heap[g]? = some (.cells vs.toArray 30 (0, 0)) ∧ vs.length = 18 ∧ ∀ (i : Nat) (L : List Nd) (u : Value), badL[i]? = some L → vs[i]? = some u → isRow L u w
theorem isBad_st : isBad.Stable := fun _ _ _ h b => by
  obtain ⟨g, vs, e, hb, hl, hr⟩ := h
  exact ⟨g, vs, e, (b.block g (blk_lt hb) (fun t => t)).trans hb, hl, fun i L u h1 h2 => isRow_st L _ _ _ (hr i L u h1 h2) b⟩
theorem bad_chk : ∀ L ∈ badL, chk L 1 = 150 := by decide
theorem nilRow (w : World) : isRow [] (.slice none 0 0) w := ⟨none, 0, rfl, ⟨rfl, fun i hi => absurd hi (Nat.not_lt_zero i)⟩, fun _ => ⟨rfl, rfl⟩⟩
theorem check_row {L : List Nd} {v : Value} {w : World} {m n : Int} (h : isRow L v w) (e : chk L m = n) : Calls Try.prog 7 #[v, .int .i64 m] w fun e w' => e = .returned (.int .i64 n) ∧ After w w' := by
  obtain ⟨a, c, rfl, hr, _⟩ := h
  subst e
  exact check_any L w a L.length c hr m
theorem eqE_yes (x y : Operand) (n : Int) (w : World) : (do eqGuard .eql 32 x y (.int .i64 n) (.int .i64 n); binOp .eql 32 (.int .i64 n) (.int .i64 n) : Sem Value).run Try.prog w = .ok (.bool true) w := by
  simp [eqGuard, go_sem]
theorem indexL (w : World) (g k : Nat) (hk : (k : Int) < 18) : (Instr.indexAt 31 (.slice (some ⟨g, 0, none⟩) 18 18) (.int .i64 (k : Int))).run Try.prog w = .ok (.pointer (some ⟨g, k, none⟩)) w := by
  simp [go_sem, hk]
theorem loadNs {w : World} {g i : Nat} {a : Option Addr} {n c : Nat} (h0 : w.cell? ⟨g, i, none⟩ = some (.slice a n c)) : (Instr.loadAt 30 (.pointer (some ⟨g, i, none⟩))).run Try.prog w = .ok (.slice a n c) w := by
  simp [go_sem, h0]
theorem loadCs {w : World} {g i : Nat} {a : Option Addr} {n c : Nat} (h0 : w.cell? ⟨g, i, none⟩ = some (.slice a n c)) : (Instr.loadAt 22 (.pointer (some ⟨g, i, none⟩))).run Try.prog w = .ok (.slice a n c) w := by
  simp [go_sem, h0]
theorem wp_make {o : Oper} {a : Act} {w w' : World} {K : Act → World → Prop} {Q : Exit → Act → World → Prop} {t : Nat} {p q v : Value} (ho : o.op = .makeSlice t (.const p) (.const q)) (hr : (Instr.makeSlice t p q).run Try.prog w = .ok v w') (h : K (a.put o.dst v) w') : Oper.wp Try.prog o a w K Q := by
  refine wp_val (r := Instr.makeSlice t p q) ?_ hr h
  unfold execOp
  simp [ho]
  rfl
theorem zero32 (w : World) : ∃ v w', (Instr.makeSlice 30 (.int .i64 32) (.int .i64 32)).run Try.prog w = .ok v w' ∧ isRow (List.replicate 32 Nd.none) v w' ∧ After w w' := by
  refine ⟨.slice (some ⟨w.heap.size, 0, none⟩) 32 32, w.alloc (.cells (Array.replicate 128 (.int .i64 0)) 28), ?_, ⟨_, _, rfl, lit_row (heap_alloc_new w _) rfl rfl, fun h => by cases h⟩, After.rfl.alloc _⟩
  kernel_rfl
theorem zero33 (w : World) : ∃ v w', (Instr.makeSlice 30 (.int .i64 33) (.int .i64 33)).run Try.prog w = .ok v w' ∧ isRow (List.replicate 33 Nd.none) v w' ∧ After w w' := by
  refine ⟨.slice (some ⟨w.heap.size, 0, none⟩) 33 33, w.alloc (.cells (Array.replicate 132 (.int .i64 0)) 28), ?_, ⟨_, _, rfl, lit_row (heap_alloc_new w _) rfl rfl, fun h => by cases h⟩, After.rfl.alloc _⟩
  kernel_rfl
theorem size_alloc1 (w : World) (o : Obj) : (w.alloc o).heap.size = w.heap.size + 1 := by simp
theorem zeroC9 (w : World) : (Instr.makeSlice 22 (.int .i64 9) (.int .i64 9)).run Try.prog w = .ok (.slice (some ⟨w.heap.size, 0, none⟩) 9 9) (w.alloc (.cells (Array.replicate 63 (.int .i64 0)) 46)) := by kernel_rfl
theorem one_row (V : World) : NRow (V.alloc (.cells #[.int .i64 0, .int .i64 0, .int .i64 0, .int .i64 0] 28)) (some ⟨V.heap.size, 0, none⟩) 1 [Nd.none] := lit_row (heap_alloc_new V _) rfl rfl
theorem hold_four {V : World} {ac : Option Addr} {cc : Nat} {aT : Option Addr} {ct : Nat} {X : List Tr} (h2 : CRow V ac fourC.length fourC) (h3 : TRow V aT X.length X) (hX : rdsOf X = fourT) (hl : X.length = 4) {t e : Int} (he : hld [Nd.none] fourC fourT t = (false, e)) :
    Calls Try.prog 6 #[.slice (some ⟨V.heap.size, 0, none⟩) 1 1, .slice ac 1 cc, .slice aT 4 ct, .int .i64 t] (V.alloc (.cells #[.int .i64 0, .int .i64 0, .int .i64 0, .int .i64 0] 28)) fun e' w' => e' = .returned (.tuple #[.bool false, .int .i64 e]) ∧ After V w' := by
  have a : After V (V.alloc (.cells #[.int .i64 0, .int .i64 0, .int .i64 0, .int .i64 0] 28)) := After.rfl.alloc _
  have := holds_any (L := [Nd.none]) (C := fourC) (X := X) _ (some ⟨V.heap.size, 0, none⟩) 1 ac cc aT ct (one_row V) (h2.after a) (h3.after a) (by omega) t
  rw [hl, hX, he] at this
  exact this.mono (fun e' w' h => ⟨h.1, a.trans h.2⟩)
theorem hold_nil {V : World} {ac : Option Addr} {cc : Nat} (h2 : CRow V ac fourC.length fourC) :
    Calls Try.prog 6 #[.slice (some ⟨V.heap.size, 0, none⟩) 1 1, .slice ac 1 cc, .slice (some ⟨V.heap.size + 1, 0, none⟩) 1 1, .int .i64 9] ((V.alloc (.cells #[.int .i64 0, .int .i64 0, .int .i64 0, .int .i64 0] 28)).alloc (.cells #[.slice none 0 0] 48)) fun e' w' => e' = .returned (.tuple #[.bool false, .int .i64 2]) ∧ After V w' := by
  have a0 : After (V.alloc (.cells #[.int .i64 0, .int .i64 0, .int .i64 0, .int .i64 0] 28)) ((V.alloc (.cells #[.int .i64 0, .int .i64 0, .int .i64 0, .int .i64 0] 28)).alloc (.cells #[.slice none 0 0] 48)) := After.rfl.alloc _
  have a : After V ((V.alloc (.cells #[.int .i64 0, .int .i64 0, .int .i64 0, .int .i64 0] 28)).alloc (.cells #[.slice none 0 0] 48)) := (After.rfl.alloc _).alloc _
  have hb := heap_alloc_new (V.alloc (.cells #[.int .i64 0, .int .i64 0, .int .i64 0, .int .i64 0] 28)) (.cells #[.slice none 0 0] 48)
  rw [size_alloc1] at hb
  have ht : TRow ((V.alloc (.cells #[.int .i64 0, .int .i64 0, .int .i64 0, .int .i64 0] 28)).alloc (.cells #[.slice none 0 0] 48)) (some ⟨V.heap.size + 1, 0, none⟩) 1 [⟨none, 0, 0, []⟩] := ⟨lit_row hb rfl rfl, fun x hx => by
    simp only [List.mem_cons, List.not_mem_nil, or_false] at hx
    subst hx
    exact ⟨⟨rfl, fun i hi => absurd hi (Nat.not_lt_zero i)⟩, fun _ => ⟨rfl, rfl⟩⟩⟩
  have := holds_any (L := [Nd.none]) (C := fourC) (X := [⟨none, 0, 0, []⟩]) _ (some ⟨V.heap.size, 0, none⟩) 1 ac cc (some ⟨V.heap.size + 1, 0, none⟩) 1 ((one_row V).after a0) (h2.after a) ht (by simp) 9
  have e9 : hld [Nd.none] fourC (rdsOf [⟨none, 0, 0, []⟩]) 9 = (false, 2) := by decide
  rw [e9] at this
  exact this.mono (fun e' w' h => ⟨h.1, a.trans h.2⟩)
theorem hold_nine (V : World) :
    Calls Try.prog 6 #[.slice (some ⟨V.heap.size, 0, none⟩) 1 1, .slice (some ⟨V.heap.size + 1, 0, none⟩) 9 9, .slice none 0 0, .int .i64 0] ((V.alloc (.cells #[.int .i64 0, .int .i64 0, .int .i64 0, .int .i64 0] 28)).alloc (.cells (Array.replicate 63 (.int .i64 0)) 46)) fun e' w' => e' = .returned (.tuple #[.bool false, .int .i64 2]) ∧ After V w' := by
  have a0 : After (V.alloc (.cells #[.int .i64 0, .int .i64 0, .int .i64 0, .int .i64 0] 28)) ((V.alloc (.cells #[.int .i64 0, .int .i64 0, .int .i64 0, .int .i64 0] 28)).alloc (.cells (Array.replicate 63 (.int .i64 0)) 46)) := After.rfl.alloc _
  have a : After V ((V.alloc (.cells #[.int .i64 0, .int .i64 0, .int .i64 0, .int .i64 0] 28)).alloc (.cells (Array.replicate 63 (.int .i64 0)) 46)) := (After.rfl.alloc _).alloc _
  have hb := heap_alloc_new (V.alloc (.cells #[.int .i64 0, .int .i64 0, .int .i64 0, .int .i64 0] 28)) (.cells (Array.replicate 63 (.int .i64 0)) 46)
  rw [size_alloc1] at hb
  have hc : CRow ((V.alloc (.cells #[.int .i64 0, .int .i64 0, .int .i64 0, .int .i64 0] 28)).alloc (.cells (Array.replicate 63 (.int .i64 0)) 46)) (some ⟨V.heap.size + 1, 0, none⟩) 9 (List.replicate 9 Ch.none) := lit_row hb rfl rfl
  have := holds_any (L := [Nd.none]) (C := List.replicate 9 Ch.none) (X := []) _ (some ⟨V.heap.size, 0, none⟩) 1 (some ⟨V.heap.size + 1, 0, none⟩) 9 none 0 ((one_row V).after a0) hc ⟨⟨rfl, fun i hi => absurd hi (Nat.not_lt_zero i)⟩, fun x hx => by cases hx⟩ (by simp) 0
  have e9 : hld [Nd.none] (List.replicate 9 Ch.none) (rdsOf []) 0 = (false, 2) := by decide
  rw [e9] at this
  exact this.mono (fun e' w' h => ⟨h.1, a.trans h.2⟩)
theorem hold_none (V : World) :
    Calls Try.prog 6 #[.slice (some ⟨V.heap.size, 0, none⟩) 1 1, .slice none 0 0, .slice none 0 0, .int .i64 0] (V.alloc (.cells #[.int .i64 0, .int .i64 0, .int .i64 0, .int .i64 0] 28)) fun e' w' => e' = .returned (.tuple #[.bool false, .int .i64 9]) ∧ After V w' := by
  have a : After V (V.alloc (.cells #[.int .i64 0, .int .i64 0, .int .i64 0, .int .i64 0] 28)) := After.rfl.alloc _
  have := holds_any (L := [Nd.none]) (C := []) (X := []) _ (some ⟨V.heap.size, 0, none⟩) 1 none 0 none 0 (one_row V) ⟨rfl, fun i hi => absurd hi (Nat.not_lt_zero i)⟩ ⟨⟨rfl, fun i hi => absurd hi (Nat.not_lt_zero i)⟩, fun x hx => by cases hx⟩ (by simp) 0
  have e9 : hld [Nd.none] [] (rdsOf []) 0 = (false, 9) := by decide
  rw [e9] at this
  exact this.mono (fun e' w' h => ⟨h.1, a.trans h.2⟩)
def sixL : List Nd := [⟨3, 0, 0, 0⟩, ⟨10, 0, 0, 3⟩, ⟨12, 1, 0, 0⟩, ⟨6, 2, 0, 0⟩, ⟨9, 3, 0, 0⟩, ⟨11, 0, 0, 0⟩]
theorem mem_six {V : World} {cs : Array Value} (hcs : cs.toList = ndE.flat sixL) :
    Calls Try.prog 8 #[.slice (some ⟨V.heap.size, 0, none⟩) 6 6] (V.alloc (.cells cs 28)) fun e' w' => e' = .returned (.tuple #[.int .i64 4, .int .i64 0]) ∧ After V w' := by
  have a : After V (V.alloc (.cells cs 28)) := After.rfl.alloc _
  have := memory_any sixL _ (some ⟨V.heap.size, 0, none⟩) 6 6 (lit_row (heap_alloc_new V (.cells cs 28)) hcs rfl)
  have e9 : memA sixL = (4, 0) := by decide
  rw [e9] at this
  exact this.mono (fun e' w' h => ⟨h.1, a.trans h.2⟩)
theorem mem_none (V : World) : Calls Try.prog 8 #[.slice none 0 0] V fun e' w' => e' = .returned (.tuple #[.int .i64 0, .int .i64 150]) ∧ After V w' := by
  have := memory_any [] V none 0 0 ⟨rfl, fun i hi => absurd hi (Nat.not_lt_zero i)⟩
  have e9 : memA [] = (0, 150) := by decide
  rw [e9] at this
  exact this
set_option maxHeartbeats 1000000 in
theorem law_known15 (w : World) : Calls Try.prog 3 #[] w fun e w' => e = .returned (.bool true) ∧ After w w' := by
  go_enter Try.func3, Try.ntmps3
  go_wp2_with fail
  refine (four_any w).mono ?_
  rintro e w1 ⟨v, rfl, hp, a1⟩
  obtain ⟨ac, cc, aT, ct, X, rfl, h2, h3, hX⟩ := hp
  have e1 : fourC.length = 1 := rfl
  have e2 : fourT.length = 4 := rfl
  rw [e1] at h2 ⊢
  rw [e2] at h3 ⊢
  have hXl : X.length = 4 := by rw [← rdsOf_length, hX]; rfl
  obtain ⟨W2, hW2⟩ : ∃ W2, W2 = (((w1.alloc (.cells #[.slice ac 1 cc, .slice aT 4 ct] 25)).alloc (.cells #[.int .i64 3, .int .i64 0, .int .i64 0, .int .i64 0] 28)).alloc (.cells #[.int .i64 4, .int .i64 0, .int .i64 0, .int .i64 0] 28)).alloc (.cells #[.int .i64 5, .int .i64 0, .int .i64 0, .int .i64 0] 28) := ⟨_, rfl⟩
  have b0 : W2.heap[w1.heap.size]? = some (.cells #[.slice ac 1 cc, .slice aT 4 ct] 25 (0, 0)) := by rw [hW2]; exact new_blk (((After.rfl.alloc _).alloc _).alloc _)
  have b1 : W2.heap[w1.heap.size + 1]? = some (.cells #[.int .i64 3, .int .i64 0, .int .i64 0, .int .i64 0] 28 (0, 0)) := by
    have := new_blk (w := w1.alloc (.cells #[.slice ac 1 cc, .slice aT 4 ct] 25)) (o := .cells #[.int .i64 3, .int .i64 0, .int .i64 0, .int .i64 0] 28) (W := W2) (by rw [hW2]; exact ((After.rfl.alloc _).alloc _))
    rw [size_alloc1] at this; exact this
  have b2 : W2.heap[w1.heap.size + 1 + 1]? = some (.cells #[.int .i64 4, .int .i64 0, .int .i64 0, .int .i64 0] 28 (0, 0)) := by
    have := new_blk (w := (w1.alloc (.cells #[.slice ac 1 cc, .slice aT 4 ct] 25)).alloc (.cells #[.int .i64 3, .int .i64 0, .int .i64 0, .int .i64 0] 28)) (o := .cells #[.int .i64 4, .int .i64 0, .int .i64 0, .int .i64 0] 28) (W := W2) (by rw [hW2]; exact (After.rfl.alloc _))
    rw [size_alloc1, size_alloc1] at this; exact this
  have b3 : W2.heap[w1.heap.size + 1 + 1 + 1]? = some (.cells #[.int .i64 5, .int .i64 0, .int .i64 0, .int .i64 0] 28 (0, 0)) := by
    have := new_blk (w := ((w1.alloc (.cells #[.slice ac 1 cc, .slice aT 4 ct] 25)).alloc (.cells #[.int .i64 3, .int .i64 0, .int .i64 0, .int .i64 0] 28)).alloc (.cells #[.int .i64 4, .int .i64 0, .int .i64 0, .int .i64 0] 28)) (o := .cells #[.int .i64 5, .int .i64 0, .int .i64 0, .int .i64 0] 28) (W := W2) (by rw [hW2]; exact After.rfl)
    rw [size_alloc1, size_alloc1, size_alloc1] at this; exact this
  have a2 : After w1 W2 := by rw [hW2]; exact ((((After.rfl.alloc _).alloc _).alloc _).alloc _)
  have kp : ∀ {g : Nat} {o : Obj}, W2.heap[g]? = some o → ∀ V, After W2 V → V.heap[g]? = some o := fun h V hV => (hV.block _ (blk_lt h) (fun t => t)).trans h
  have HL0 : Hid (∀ V, After W2 V → (Instr.loadAt 25 (Ptr w1.heap.size)).run Try.prog V = .ok (.agg #[.slice ac 1 cc, .slice aT 4 ct]) V) := hideIt (fun V hV => by
    have h := kp b0 V hV
    exact loadPast (blk_cell h rfl) (blk_cell h rfl))
  have HC : Hid (∀ V, After W2 V → V.cell? ⟨w1.heap.size, 0, none⟩ = some (.slice ac 1 cc) ∧ V.cell? ⟨w1.heap.size, 1, none⟩ = some (.slice aT 4 ct)) := hideIt (fun V hV => by
    have h := kp b0 V hV
    exact ⟨blk_cell h rfl, blk_cell h rfl⟩)
  have HN : Hid (∀ V, After W2 V → V.heap[w1.heap.size + 1]? = some (.cells #[.int .i64 3, .int .i64 0, .int .i64 0, .int .i64 0] 28 (0, 0))) := hideIt (fun V hV => kp b1 V hV)
  have HL1 : Hid (∀ V, After W2 V → (Instr.loadAt 28 (Ptr (w1.heap.size + 1))).run Try.prog V = .ok highN.val V) := hideIt (fun V hV => by
    have h := kp b1 V hV
    exact loadNode (x := highN) (blk_cell h rfl) (blk_cell h rfl) (blk_cell h rfl) (blk_cell h rfl))
  have HL2 : Hid (∀ V, After W2 V → (Instr.loadAt 28 (Ptr (w1.heap.size + 1 + 1))).run Try.prog V = .ok lowN.val V) := hideIt (fun V hV => by
    have h := kp b2 V hV
    exact loadNode (x := lowN) (blk_cell h rfl) (blk_cell h rfl) (blk_cell h rfl) (blk_cell h rfl))
  have HL3 : Hid (∀ V, After W2 V → (Instr.loadAt 28 (Ptr (w1.heap.size + 1 + 1 + 1))).run Try.prog V = .ok knownN.val V) := hideIt (fun V hV => by
    have h := kp b3 V hV
    exact loadNode (x := knownN) (blk_cell h rfl) (blk_cell h rfl) (blk_cell h rfl) (blk_cell h rfl))
  have HP : Hid (∀ V, After W2 V → PastAt V (.agg #[.slice ac 1 cc, .slice aT 4 ct]) fourC fourT) := hideIt (fun V hV => ⟨ac, cc, aT, ct, X, rfl, h2.after (a2.trans hV), h3.after (a2.trans hV), hX⟩)
  have HT : Hid (CRow w1 ac fourC.length fourC ∧ TRow w1 aT X.length X ∧ rdsOf X = fourT ∧ X.length = 4 ∧ After w1 W2 ∧ After w w1) := hideIt ⟨h2, by rw [hXl]; exact h3, hX, hXl, a2, a1⟩
  have HZ := hideIt (blk_lt b0)
  have HW := hideIt hW2
  clear hW2 b0 b1 b2 b3 a2 kp h2 h3 hX hXl a1 e1 e2
  go_upto_region 3 with fail
  rw [← HW.out]
  clear HW
  refine region_plain [38, 39, 40, 41, 42, 43, 44, 45, 46, 47, 48, 49, 50, 51, 52, 53, 54, 55, 56, 57, 58, 59, 60, 61, 62, 63, 64, 65, 66, 67, 68, 69, 70, 71, 72, 73, 74, 75, 76, 77, 78, 79, 80, 81, 82, 83, 84, 85, 86, 87, 88, 89, 90, 91, 92, 93, 94, 95, 96, 97, 98, 99, 100, 101, 102, 103, 104, 105, 106, 107, 5] [isV (.agg #[.slice ac 1 cc, .slice aT 4 ct]), isV (lowN.val), isRow ([lowN]), isV (.string ks0), isV (.bool true), isV (.bool true), isV (.agg #[.slice ac 1 cc, .slice aT 4 ct]), isV ((Nd.mk 1 0 0 1999).val), isRow ([Nd.mk 1 0 0 1999]), isV (.string ks1), isV (.bool true), isV (.bool true), isV (.bool true), isV (.agg #[.slice ac 1 cc, .slice aT 4 ct]), isV ((Nd.mk 2 0 0 2000).val), isRow ([Nd.mk 2 0 0 2000]), isV (.string ks2), isV (.bool true), isV (.bool true), isV (.bool true), isV (.agg #[.slice ac 1 cc, .slice aT 4 ct]), isV (knownN.val), isV ((Nd.mk 11 0 0 1).val), isRow ([knownN, Nd.mk 11 0 0 1]), isV (.string ks3), isV (.bool true), isV (.bool true), isV (.bool true), isV (.agg #[.slice ac 1 cc, .slice aT 4 ct]), isV (knownN.val), isV (highN.val), isV ((Nd.mk 6 0 0 0).val), isV ((Nd.mk 12 2 1 0).val), isRow ([knownN, highN, Nd.mk 6 0 0 0, Nd.mk 12 2 1 0]), isV (.string ks4), isV (.bool true), isV (.bool true), isV (.bool true), isV (.agg #[.slice ac 1 cc, .slice aT 4 ct]), isV ((Nd.mk 0 0 0 0).val), isRow ([Nd.mk 0 0 0 0]), isV (.string ks5), isV (.bool true), isV (.bool true), isV (.bool true), isV (.agg #[.slice ac 1 cc, .slice aT 4 ct]), isV (highN.val), isV (lowN.val), isV ((Nd.mk 8 1 0 0).val), isRow ([highN, lowN, Nd.mk 8 1 0 0]), isV (.string ks6), isV (.bool true), isV (.bool true), isV (.bool true), isV (.agg #[.slice ac 1 cc, .slice aT 4 ct]), isV (highN.val), isV (knownN.val), isV ((Nd.mk 7 0 1 0).val), isRow ([highN, knownN, Nd.mk 7 0 1 0]), isV (.string ks7), isV (.bool true), isV (.bool true), isV (.bool true), isV (.agg #[.slice ac 1 cc, .slice aT 4 ct]), isV (highN.val), isV ((Nd.mk 10 0 0 64).val), isRow ([highN, Nd.mk 10 0 0 64]), isV (.string ks8), isV (.bool true), isV (.bool true), isV (.bool true)] 71 rfl rfl (stable_all (st_cons (isV_st _) (st_cons (isV_st _) (st_cons (isRow_st _) (st_cons (isV_st _) (st_cons (isV_st _) (st_cons (isV_st _) (st_cons (isV_st _) (st_cons (isV_st _) (st_cons (isRow_st _) (st_cons (isV_st _) (st_cons (isV_st _) (st_cons (isV_st _) (st_cons (isV_st _) (st_cons (isV_st _) (st_cons (isV_st _) (st_cons (isRow_st _) (st_cons (isV_st _) (st_cons (isV_st _) (st_cons (isV_st _) (st_cons (isV_st _) (st_cons (isV_st _) (st_cons (isV_st _) (st_cons (isV_st _) (st_cons (isRow_st _) (st_cons (isV_st _) (st_cons (isV_st _) (st_cons (isV_st _) (st_cons (isV_st _) (st_cons (isV_st _) (st_cons (isV_st _) (st_cons (isV_st _) (st_cons (isV_st _) (st_cons (isV_st _) (st_cons (isRow_st _) (st_cons (isV_st _) (st_cons (isV_st _) (st_cons (isV_st _) (st_cons (isV_st _) (st_cons (isV_st _) (st_cons (isV_st _) (st_cons (isRow_st _) (st_cons (isV_st _) (st_cons (isV_st _) (st_cons (isV_st _) (st_cons (isV_st _) (st_cons (isV_st _) (st_cons (isV_st _) (st_cons (isV_st _) (st_cons (isV_st _) (st_cons (isRow_st _) (st_cons (isV_st _) (st_cons (isV_st _) (st_cons (isV_st _) (st_cons (isV_st _) (st_cons (isV_st _) (st_cons (isV_st _) (st_cons (isV_st _) (st_cons (isV_st _) (st_cons (isRow_st _) (st_cons (isV_st _) (st_cons (isV_st _) (st_cons (isV_st _) (st_cons (isV_st _) (st_cons (isV_st _) (st_cons (isV_st _) (st_cons (isV_st _) (st_cons (isRow_st _) (st_cons (isV_st _) (st_cons (isV_st _) (st_cons (isV_st _) (st_cons (isV_st _) (st_nil))))))))))))))))))))))))))))))))))))))))))))))))))))))))))))))))))))))))) rfl rfl ?_ ?_
  · exact ⟨⟨rfl, rfl, (.inl rfl), fun a W9 K hd hb aw hk => wp_load rfl (show a.eval (.tmp 1) = Ptr w1.heap.size from hb 1 rfl) (HL0.out W9 aw) (hk _ _ rfl After.rfl)⟩,
      ⟨rfl, rfl, (.inl rfl), fun a W9 K hd hb aw hk => wp_load rfl (show a.eval (.tmp 3) = Ptr (w1.heap.size + 1 + 1) from hb 3 rfl) (HL2.out W9 aw) (hk _ _ rfl After.rfl)⟩,
      ⟨rfl, rfl, (.inl rfl), fun a W9 K hd hb aw hk => by
      obtain ⟨v, w9, h1, h2, h3⟩ := rowOf1 lowN W9
      exact wp_slice1 rfl (hd 1 rfl) h1 (hk _ _ h2 h3)⟩,
      ⟨rfl, rfl, (.inl rfl), fun a W9 K hd hb aw hk => wp_func2 rfl (enter_of Try.func5 (by kernel_rfl) (by kernel_rfl)) (hd 0 rfl) rfl ((text_row (HP.out W9 aw) (hd 2 rfl) (by decide) kc0 fourAll kb0).mono (fun e w1 h => ⟨_, h.1, hk _ _ rfl h.2⟩))⟩,
      ⟨rfl, rfl, (.inl rfl), fun a W9 K hd hb aw hk => wp_bin rfl (hd 3 rfl) rfl (by rw [kg0]; exact eqS_yes _ _ _ _) (hk _ _ rfl After.rfl)⟩,
      ⟨rfl, rfl, (.inl rfl), fun a W9 K hd hb aw hk => wp_move (.inl rfl) (hd 4 rfl) (hk _ _ rfl After.rfl)⟩,
      ⟨rfl, rfl, (.inr ⟨5, true, rfl, rfl, fun v w h => h⟩), fun a W9 K hd hb aw hk => wp_load rfl (show a.eval (.tmp 1) = Ptr w1.heap.size from hb 1 rfl) (HL0.out W9 aw) (hk _ _ rfl After.rfl)⟩,
      ⟨rfl, rfl, (.inr ⟨5, true, rfl, rfl, fun v w h => h⟩), fun a W9 K hd hb aw hk => wp_build2 rfl rfl rfl (bn03 _ _ _) (hk _ _ rfl After.rfl)⟩,
      ⟨rfl, rfl, (.inr ⟨5, true, rfl, rfl, fun v w h => h⟩), fun a W9 K hd hb aw hk => by
      obtain ⟨v, w9, h1, h2, h3⟩ := rowOf1 (Nd.mk 1 0 0 1999) W9
      exact wp_slice1 rfl (hd 7 rfl) h1 (hk _ _ h2 h3)⟩,
      ⟨rfl, rfl, (.inr ⟨5, true, rfl, rfl, fun v w h => h⟩), fun a W9 K hd hb aw hk => wp_func2 rfl (enter_of Try.func5 (by kernel_rfl) (by kernel_rfl)) (hd 6 rfl) rfl ((text_row (HP.out W9 aw) (hd 8 rfl) (by decide) kc1 fourAll kb1).mono (fun e w1 h => ⟨_, h.1, hk _ _ rfl h.2⟩))⟩,
      ⟨rfl, rfl, (.inr ⟨5, true, rfl, rfl, fun v w h => h⟩), fun a W9 K hd hb aw hk => wp_bin rfl (hd 9 rfl) rfl (by rw [kg1]; exact eqS_yes _ _ _ _) (hk _ _ rfl After.rfl)⟩,
      ⟨rfl, rfl, (.inl rfl), fun a W9 K hd hb aw hk => wp_pickT rfl (hd 5 rfl) (hd 10 rfl) (hk _ _ rfl After.rfl)⟩,
      ⟨rfl, rfl, (.inl rfl), fun a W9 K hd hb aw hk => wp_move (.inl rfl) (hd 11 rfl) (hk _ _ rfl After.rfl)⟩,
      ⟨rfl, rfl, (.inr ⟨12, true, rfl, rfl, fun v w h => h⟩), fun a W9 K hd hb aw hk => wp_load rfl (show a.eval (.tmp 1) = Ptr w1.heap.size from hb 1 rfl) (HL0.out W9 aw) (hk _ _ rfl After.rfl)⟩,
      ⟨rfl, rfl, (.inr ⟨12, true, rfl, rfl, fun v w h => h⟩), fun a W9 K hd hb aw hk => wp_build2 rfl rfl rfl (bn03 _ _ _) (hk _ _ rfl After.rfl)⟩,
      ⟨rfl, rfl, (.inr ⟨12, true, rfl, rfl, fun v w h => h⟩), fun a W9 K hd hb aw hk => by
      obtain ⟨v, w9, h1, h2, h3⟩ := rowOf1 (Nd.mk 2 0 0 2000) W9
      exact wp_slice1 rfl (hd 14 rfl) h1 (hk _ _ h2 h3)⟩,
      ⟨rfl, rfl, (.inr ⟨12, true, rfl, rfl, fun v w h => h⟩), fun a W9 K hd hb aw hk => wp_func2 rfl (enter_of Try.func5 (by kernel_rfl) (by kernel_rfl)) (hd 13 rfl) rfl ((text_row (HP.out W9 aw) (hd 15 rfl) (by decide) kc2 fourAll kb2).mono (fun e w1 h => ⟨_, h.1, hk _ _ rfl h.2⟩))⟩,
      ⟨rfl, rfl, (.inr ⟨12, true, rfl, rfl, fun v w h => h⟩), fun a W9 K hd hb aw hk => wp_bin rfl (hd 16 rfl) rfl (by rw [kg2]; exact eqS_yes _ _ _ _) (hk _ _ rfl After.rfl)⟩,
      ⟨rfl, rfl, (.inl rfl), fun a W9 K hd hb aw hk => wp_pickT rfl (hd 12 rfl) (hd 17 rfl) (hk _ _ rfl After.rfl)⟩,
      ⟨rfl, rfl, (.inl rfl), fun a W9 K hd hb aw hk => wp_move (.inl rfl) (hd 18 rfl) (hk _ _ rfl After.rfl)⟩,
      ⟨rfl, rfl, (.inr ⟨19, true, rfl, rfl, fun v w h => h⟩), fun a W9 K hd hb aw hk => wp_load rfl (show a.eval (.tmp 1) = Ptr w1.heap.size from hb 1 rfl) (HL0.out W9 aw) (hk _ _ rfl After.rfl)⟩,
      ⟨rfl, rfl, (.inr ⟨19, true, rfl, rfl, fun v w h => h⟩), fun a W9 K hd hb aw hk => wp_load rfl (show a.eval (.tmp 4) = Ptr (w1.heap.size + 1 + 1 + 1) from hb 4 rfl) (HL3.out W9 aw) (hk _ _ rfl After.rfl)⟩,
      ⟨rfl, rfl, (.inr ⟨19, true, rfl, rfl, fun v w h => h⟩), fun a W9 K hd hb aw hk => wp_build2 rfl rfl rfl (bn03 _ _ _) (hk _ _ rfl After.rfl)⟩,
      ⟨rfl, rfl, (.inr ⟨19, true, rfl, rfl, fun v w h => h⟩), fun a W9 K hd hb aw hk => by
      obtain ⟨v, w9, h1, h2, h3⟩ := rowOf2 knownN (Nd.mk 11 0 0 1) W9
      exact wp_slice2 rfl (hd 21 rfl) (hd 22 rfl) h1 (hk _ _ h2 h3)⟩,
      ⟨rfl, rfl, (.inr ⟨19, true, rfl, rfl, fun v w h => h⟩), fun a W9 K hd hb aw hk => wp_func2 rfl (enter_of Try.func5 (by kernel_rfl) (by kernel_rfl)) (hd 20 rfl) rfl ((text_row (HP.out W9 aw) (hd 23 rfl) (by decide) kc3 fourAll kb3).mono (fun e w1 h => ⟨_, h.1, hk _ _ rfl h.2⟩))⟩,
      ⟨rfl, rfl, (.inr ⟨19, true, rfl, rfl, fun v w h => h⟩), fun a W9 K hd hb aw hk => wp_bin rfl (hd 24 rfl) rfl (by rw [kg3]; exact eqS_yes _ _ _ _) (hk _ _ rfl After.rfl)⟩,
      ⟨rfl, rfl, (.inl rfl), fun a W9 K hd hb aw hk => wp_pickT rfl (hd 19 rfl) (hd 25 rfl) (hk _ _ rfl After.rfl)⟩,
      ⟨rfl, rfl, (.inl rfl), fun a W9 K hd hb aw hk => wp_move (.inl rfl) (hd 26 rfl) (hk _ _ rfl After.rfl)⟩,
      ⟨rfl, rfl, (.inr ⟨27, true, rfl, rfl, fun v w h => h⟩), fun a W9 K hd hb aw hk => wp_load rfl (show a.eval (.tmp 1) = Ptr w1.heap.size from hb 1 rfl) (HL0.out W9 aw) (hk _ _ rfl After.rfl)⟩,
      ⟨rfl, rfl, (.inr ⟨27, true, rfl, rfl, fun v w h => h⟩), fun a W9 K hd hb aw hk => wp_load rfl (show a.eval (.tmp 4) = Ptr (w1.heap.size + 1 + 1 + 1) from hb 4 rfl) (HL3.out W9 aw) (hk _ _ rfl After.rfl)⟩,
      ⟨rfl, rfl, (.inr ⟨27, true, rfl, rfl, fun v w h => h⟩), fun a W9 K hd hb aw hk => wp_load rfl (show a.eval (.tmp 2) = Ptr (w1.heap.size + 1) from hb 2 rfl) (HL1.out W9 aw) (hk _ _ rfl After.rfl)⟩,
      ⟨rfl, rfl, (.inr ⟨27, true, rfl, rfl, fun v w h => h⟩), fun a W9 K hd hb aw hk => wp_build1 rfl rfl (bn0 _ _) (hk _ _ rfl After.rfl)⟩,
      ⟨rfl, rfl, (.inr ⟨27, true, rfl, rfl, fun v w h => h⟩), fun a W9 K hd hb aw hk => wp_build3 rfl rfl rfl rfl (bn012 _ _ _ _) (hk _ _ rfl After.rfl)⟩,
      ⟨rfl, rfl, (.inr ⟨27, true, rfl, rfl, fun v w h => h⟩), fun a W9 K hd hb aw hk => by
      obtain ⟨v, w9, h1, h2, h3⟩ := rowOf4 knownN highN (Nd.mk 6 0 0 0) (Nd.mk 12 2 1 0) W9
      exact wp_slice4 rfl (hd 29 rfl) (hd 30 rfl) (hd 31 rfl) (hd 32 rfl) h1 (hk _ _ h2 h3)⟩,
      ⟨rfl, rfl, (.inr ⟨27, true, rfl, rfl, fun v w h => h⟩), fun a W9 K hd hb aw hk => wp_func2 rfl (enter_of Try.func5 (by kernel_rfl) (by kernel_rfl)) (hd 28 rfl) rfl ((text_row (HP.out W9 aw) (hd 33 rfl) (by decide) kc4 fourAll kb4).mono (fun e w1 h => ⟨_, h.1, hk _ _ rfl h.2⟩))⟩,
      ⟨rfl, rfl, (.inr ⟨27, true, rfl, rfl, fun v w h => h⟩), fun a W9 K hd hb aw hk => wp_bin rfl (hd 34 rfl) rfl (by rw [kg4]; exact eqS_yes _ _ _ _) (hk _ _ rfl After.rfl)⟩,
      ⟨rfl, rfl, (.inl rfl), fun a W9 K hd hb aw hk => wp_pickT rfl (hd 27 rfl) (hd 35 rfl) (hk _ _ rfl After.rfl)⟩,
      ⟨rfl, rfl, (.inl rfl), fun a W9 K hd hb aw hk => wp_move (.inl rfl) (hd 36 rfl) (hk _ _ rfl After.rfl)⟩,
      ⟨rfl, rfl, (.inr ⟨37, true, rfl, rfl, fun v w h => h⟩), fun a W9 K hd hb aw hk => wp_load rfl (show a.eval (.tmp 1) = Ptr w1.heap.size from hb 1 rfl) (HL0.out W9 aw) (hk _ _ rfl After.rfl)⟩,
      ⟨rfl, rfl, (.inr ⟨37, true, rfl, rfl, fun v w h => h⟩), fun a W9 K hd hb aw hk => wp_build0 rfl (bnE _) (hk _ _ rfl After.rfl)⟩,
      ⟨rfl, rfl, (.inr ⟨37, true, rfl, rfl, fun v w h => h⟩), fun a W9 K hd hb aw hk => by
      obtain ⟨v, w9, h1, h2, h3⟩ := rowOf1 (Nd.mk 0 0 0 0) W9
      exact wp_slice1 rfl (hd 39 rfl) h1 (hk _ _ h2 h3)⟩,
      ⟨rfl, rfl, (.inr ⟨37, true, rfl, rfl, fun v w h => h⟩), fun a W9 K hd hb aw hk => wp_func2 rfl (enter_of Try.func5 (by kernel_rfl) (by kernel_rfl)) (hd 38 rfl) rfl ((text_row (HP.out W9 aw) (hd 40 rfl) (by decide) kc5 fourAll kb5).mono (fun e w1 h => ⟨_, h.1, hk _ _ rfl h.2⟩))⟩,
      ⟨rfl, rfl, (.inr ⟨37, true, rfl, rfl, fun v w h => h⟩), fun a W9 K hd hb aw hk => wp_bin rfl (hd 41 rfl) rfl (by rw [kg5]; exact eqS_yes _ _ _ _) (hk _ _ rfl After.rfl)⟩,
      ⟨rfl, rfl, (.inl rfl), fun a W9 K hd hb aw hk => wp_pickT rfl (hd 37 rfl) (hd 42 rfl) (hk _ _ rfl After.rfl)⟩,
      ⟨rfl, rfl, (.inl rfl), fun a W9 K hd hb aw hk => wp_move (.inl rfl) (hd 43 rfl) (hk _ _ rfl After.rfl)⟩,
      ⟨rfl, rfl, (.inr ⟨44, true, rfl, rfl, fun v w h => h⟩), fun a W9 K hd hb aw hk => wp_load rfl (show a.eval (.tmp 1) = Ptr w1.heap.size from hb 1 rfl) (HL0.out W9 aw) (hk _ _ rfl After.rfl)⟩,
      ⟨rfl, rfl, (.inr ⟨44, true, rfl, rfl, fun v w h => h⟩), fun a W9 K hd hb aw hk => wp_load rfl (show a.eval (.tmp 2) = Ptr (w1.heap.size + 1) from hb 2 rfl) (HL1.out W9 aw) (hk _ _ rfl After.rfl)⟩,
      ⟨rfl, rfl, (.inr ⟨44, true, rfl, rfl, fun v w h => h⟩), fun a W9 K hd hb aw hk => wp_load rfl (show a.eval (.tmp 3) = Ptr (w1.heap.size + 1 + 1) from hb 3 rfl) (HL2.out W9 aw) (hk _ _ rfl After.rfl)⟩,
      ⟨rfl, rfl, (.inr ⟨44, true, rfl, rfl, fun v w h => h⟩), fun a W9 K hd hb aw hk => wp_build2 rfl rfl rfl (bn01 _ _ _) (hk _ _ rfl After.rfl)⟩,
      ⟨rfl, rfl, (.inr ⟨44, true, rfl, rfl, fun v w h => h⟩), fun a W9 K hd hb aw hk => by
      obtain ⟨v, w9, h1, h2, h3⟩ := rowOf3 highN lowN (Nd.mk 8 1 0 0) W9
      exact wp_slice3 rfl (hd 46 rfl) (hd 47 rfl) (hd 48 rfl) h1 (hk _ _ h2 h3)⟩,
      ⟨rfl, rfl, (.inr ⟨44, true, rfl, rfl, fun v w h => h⟩), fun a W9 K hd hb aw hk => wp_func2 rfl (enter_of Try.func5 (by kernel_rfl) (by kernel_rfl)) (hd 45 rfl) rfl ((text_row (HP.out W9 aw) (hd 49 rfl) (by decide) kc6 fourAll kb6).mono (fun e w1 h => ⟨_, h.1, hk _ _ rfl h.2⟩))⟩,
      ⟨rfl, rfl, (.inr ⟨44, true, rfl, rfl, fun v w h => h⟩), fun a W9 K hd hb aw hk => wp_bin rfl (hd 50 rfl) rfl (by rw [kg6]; exact eqS_yes _ _ _ _) (hk _ _ rfl After.rfl)⟩,
      ⟨rfl, rfl, (.inl rfl), fun a W9 K hd hb aw hk => wp_pickT rfl (hd 44 rfl) (hd 51 rfl) (hk _ _ rfl After.rfl)⟩,
      ⟨rfl, rfl, (.inl rfl), fun a W9 K hd hb aw hk => wp_move (.inl rfl) (hd 52 rfl) (hk _ _ rfl After.rfl)⟩,
      ⟨rfl, rfl, (.inr ⟨53, true, rfl, rfl, fun v w h => h⟩), fun a W9 K hd hb aw hk => wp_load rfl (show a.eval (.tmp 1) = Ptr w1.heap.size from hb 1 rfl) (HL0.out W9 aw) (hk _ _ rfl After.rfl)⟩,
      ⟨rfl, rfl, (.inr ⟨53, true, rfl, rfl, fun v w h => h⟩), fun a W9 K hd hb aw hk => wp_load rfl (show a.eval (.tmp 2) = Ptr (w1.heap.size + 1) from hb 2 rfl) (HL1.out W9 aw) (hk _ _ rfl After.rfl)⟩,
      ⟨rfl, rfl, (.inr ⟨53, true, rfl, rfl, fun v w h => h⟩), fun a W9 K hd hb aw hk => wp_load rfl (show a.eval (.tmp 4) = Ptr (w1.heap.size + 1 + 1 + 1) from hb 4 rfl) (HL3.out W9 aw) (hk _ _ rfl After.rfl)⟩,
      ⟨rfl, rfl, (.inr ⟨53, true, rfl, rfl, fun v w h => h⟩), fun a W9 K hd hb aw hk => wp_build2 rfl rfl rfl (bn02 _ _ _) (hk _ _ rfl After.rfl)⟩,
      ⟨rfl, rfl, (.inr ⟨53, true, rfl, rfl, fun v w h => h⟩), fun a W9 K hd hb aw hk => by
      obtain ⟨v, w9, h1, h2, h3⟩ := rowOf3 highN knownN (Nd.mk 7 0 1 0) W9
      exact wp_slice3 rfl (hd 55 rfl) (hd 56 rfl) (hd 57 rfl) h1 (hk _ _ h2 h3)⟩,
      ⟨rfl, rfl, (.inr ⟨53, true, rfl, rfl, fun v w h => h⟩), fun a W9 K hd hb aw hk => wp_func2 rfl (enter_of Try.func5 (by kernel_rfl) (by kernel_rfl)) (hd 54 rfl) rfl ((text_row (HP.out W9 aw) (hd 58 rfl) (by decide) kc7 fourAll kb7).mono (fun e w1 h => ⟨_, h.1, hk _ _ rfl h.2⟩))⟩,
      ⟨rfl, rfl, (.inr ⟨53, true, rfl, rfl, fun v w h => h⟩), fun a W9 K hd hb aw hk => wp_bin rfl (hd 59 rfl) rfl (by rw [kg7]; exact eqS_yes _ _ _ _) (hk _ _ rfl After.rfl)⟩,
      ⟨rfl, rfl, (.inl rfl), fun a W9 K hd hb aw hk => wp_pickT rfl (hd 53 rfl) (hd 60 rfl) (hk _ _ rfl After.rfl)⟩,
      ⟨rfl, rfl, (.inl rfl), fun a W9 K hd hb aw hk => wp_move (.inl rfl) (hd 61 rfl) (hk _ _ rfl After.rfl)⟩,
      ⟨rfl, rfl, (.inr ⟨62, true, rfl, rfl, fun v w h => h⟩), fun a W9 K hd hb aw hk => wp_load rfl (show a.eval (.tmp 1) = Ptr w1.heap.size from hb 1 rfl) (HL0.out W9 aw) (hk _ _ rfl After.rfl)⟩,
      ⟨rfl, rfl, (.inr ⟨62, true, rfl, rfl, fun v w h => h⟩), fun a W9 K hd hb aw hk => wp_load rfl (show a.eval (.tmp 2) = Ptr (w1.heap.size + 1) from hb 2 rfl) (HL1.out W9 aw) (hk _ _ rfl After.rfl)⟩,
      ⟨rfl, rfl, (.inr ⟨62, true, rfl, rfl, fun v w h => h⟩), fun a W9 K hd hb aw hk => wp_build2 rfl rfl rfl (bn03 _ _ _) (hk _ _ rfl After.rfl)⟩,
      ⟨rfl, rfl, (.inr ⟨62, true, rfl, rfl, fun v w h => h⟩), fun a W9 K hd hb aw hk => by
      obtain ⟨v, w9, h1, h2, h3⟩ := rowOf2 highN (Nd.mk 10 0 0 64) W9
      exact wp_slice2 rfl (hd 64 rfl) (hd 65 rfl) h1 (hk _ _ h2 h3)⟩,
      ⟨rfl, rfl, (.inr ⟨62, true, rfl, rfl, fun v w h => h⟩), fun a W9 K hd hb aw hk => wp_func2 rfl (enter_of Try.func5 (by kernel_rfl) (by kernel_rfl)) (hd 63 rfl) rfl ((text_row (HP.out W9 aw) (hd 66 rfl) (by decide) kc8 fourAll kb8).mono (fun e w1 h => ⟨_, h.1, hk _ _ rfl h.2⟩))⟩,
      ⟨rfl, rfl, (.inr ⟨62, true, rfl, rfl, fun v w h => h⟩), fun a W9 K hd hb aw hk => wp_bin rfl (hd 67 rfl) rfl (by rw [kg8]; exact eqS_yes _ _ _ _) (hk _ _ rfl After.rfl)⟩,
      ⟨rfl, rfl, (.inl rfl), fun a W9 K hd hb aw hk => wp_pickT rfl (hd 62 rfl) (hd 68 rfl) (hk _ _ rfl After.rfl)⟩,
      ⟨rfl, rfl, (.inl rfl), fun a W9 K hd hb aw hk => wp_move (.inr rfl) (hd 69 rfl) (hk _ _ rfl After.rfl)⟩,
      trivial⟩
  intro x9 w9 hx9 aw9
  have t0 : x9 0 = .agg #[.slice ac 1 cc, .slice aT 4 ct] := hx9 0 (Nat.le_of_ble_eq_true rfl)
  have t1 : x9 1 = lowN.val := hx9 1 (Nat.le_of_ble_eq_true rfl)
  have t3 : x9 3 = .string ks0 := hx9 3 (Nat.le_of_ble_eq_true rfl)
  have t4 : x9 4 = .bool true := hx9 4 (Nat.le_of_ble_eq_true rfl)
  have t5 : x9 5 = .bool true := hx9 5 (Nat.le_of_ble_eq_true rfl)
  have t6 : x9 6 = .agg #[.slice ac 1 cc, .slice aT 4 ct] := hx9 6 (Nat.le_of_ble_eq_true rfl)
  have t7 : x9 7 = (Nd.mk 1 0 0 1999).val := hx9 7 (Nat.le_of_ble_eq_true rfl)
  have t9 : x9 9 = .string ks1 := hx9 9 (Nat.le_of_ble_eq_true rfl)
  have t10 : x9 10 = .bool true := hx9 10 (Nat.le_of_ble_eq_true rfl)
  have t11 : x9 11 = .bool true := hx9 11 (Nat.le_of_ble_eq_true rfl)
  have t12 : x9 12 = .bool true := hx9 12 (Nat.le_of_ble_eq_true rfl)
  have t13 : x9 13 = .agg #[.slice ac 1 cc, .slice aT 4 ct] := hx9 13 (Nat.le_of_ble_eq_true rfl)
  have t14 : x9 14 = (Nd.mk 2 0 0 2000).val := hx9 14 (Nat.le_of_ble_eq_true rfl)
  have t16 : x9 16 = .string ks2 := hx9 16 (Nat.le_of_ble_eq_true rfl)
  have t17 : x9 17 = .bool true := hx9 17 (Nat.le_of_ble_eq_true rfl)
  have t18 : x9 18 = .bool true := hx9 18 (Nat.le_of_ble_eq_true rfl)
  have t19 : x9 19 = .bool true := hx9 19 (Nat.le_of_ble_eq_true rfl)
  have t20 : x9 20 = .agg #[.slice ac 1 cc, .slice aT 4 ct] := hx9 20 (Nat.le_of_ble_eq_true rfl)
  have t21 : x9 21 = knownN.val := hx9 21 (Nat.le_of_ble_eq_true rfl)
  have t22 : x9 22 = (Nd.mk 11 0 0 1).val := hx9 22 (Nat.le_of_ble_eq_true rfl)
  have t24 : x9 24 = .string ks3 := hx9 24 (Nat.le_of_ble_eq_true rfl)
  have t25 : x9 25 = .bool true := hx9 25 (Nat.le_of_ble_eq_true rfl)
  have t26 : x9 26 = .bool true := hx9 26 (Nat.le_of_ble_eq_true rfl)
  have t27 : x9 27 = .bool true := hx9 27 (Nat.le_of_ble_eq_true rfl)
  have t28 : x9 28 = .agg #[.slice ac 1 cc, .slice aT 4 ct] := hx9 28 (Nat.le_of_ble_eq_true rfl)
  have t29 : x9 29 = knownN.val := hx9 29 (Nat.le_of_ble_eq_true rfl)
  have t30 : x9 30 = highN.val := hx9 30 (Nat.le_of_ble_eq_true rfl)
  have t31 : x9 31 = (Nd.mk 6 0 0 0).val := hx9 31 (Nat.le_of_ble_eq_true rfl)
  have t32 : x9 32 = (Nd.mk 12 2 1 0).val := hx9 32 (Nat.le_of_ble_eq_true rfl)
  have t34 : x9 34 = .string ks4 := hx9 34 (Nat.le_of_ble_eq_true rfl)
  have t35 : x9 35 = .bool true := hx9 35 (Nat.le_of_ble_eq_true rfl)
  have t36 : x9 36 = .bool true := hx9 36 (Nat.le_of_ble_eq_true rfl)
  have t37 : x9 37 = .bool true := hx9 37 (Nat.le_of_ble_eq_true rfl)
  have t38 : x9 38 = .agg #[.slice ac 1 cc, .slice aT 4 ct] := hx9 38 (Nat.le_of_ble_eq_true rfl)
  have t39 : x9 39 = (Nd.mk 0 0 0 0).val := hx9 39 (Nat.le_of_ble_eq_true rfl)
  have t41 : x9 41 = .string ks5 := hx9 41 (Nat.le_of_ble_eq_true rfl)
  have t42 : x9 42 = .bool true := hx9 42 (Nat.le_of_ble_eq_true rfl)
  have t43 : x9 43 = .bool true := hx9 43 (Nat.le_of_ble_eq_true rfl)
  have t44 : x9 44 = .bool true := hx9 44 (Nat.le_of_ble_eq_true rfl)
  have t45 : x9 45 = .agg #[.slice ac 1 cc, .slice aT 4 ct] := hx9 45 (Nat.le_of_ble_eq_true rfl)
  have t46 : x9 46 = highN.val := hx9 46 (Nat.le_of_ble_eq_true rfl)
  have t47 : x9 47 = lowN.val := hx9 47 (Nat.le_of_ble_eq_true rfl)
  have t48 : x9 48 = (Nd.mk 8 1 0 0).val := hx9 48 (Nat.le_of_ble_eq_true rfl)
  have t50 : x9 50 = .string ks6 := hx9 50 (Nat.le_of_ble_eq_true rfl)
  have t51 : x9 51 = .bool true := hx9 51 (Nat.le_of_ble_eq_true rfl)
  have t52 : x9 52 = .bool true := hx9 52 (Nat.le_of_ble_eq_true rfl)
  have t53 : x9 53 = .bool true := hx9 53 (Nat.le_of_ble_eq_true rfl)
  have t54 : x9 54 = .agg #[.slice ac 1 cc, .slice aT 4 ct] := hx9 54 (Nat.le_of_ble_eq_true rfl)
  have t55 : x9 55 = highN.val := hx9 55 (Nat.le_of_ble_eq_true rfl)
  have t56 : x9 56 = knownN.val := hx9 56 (Nat.le_of_ble_eq_true rfl)
  have t57 : x9 57 = (Nd.mk 7 0 1 0).val := hx9 57 (Nat.le_of_ble_eq_true rfl)
  have t59 : x9 59 = .string ks7 := hx9 59 (Nat.le_of_ble_eq_true rfl)
  have t60 : x9 60 = .bool true := hx9 60 (Nat.le_of_ble_eq_true rfl)
  have t61 : x9 61 = .bool true := hx9 61 (Nat.le_of_ble_eq_true rfl)
  have t62 : x9 62 = .bool true := hx9 62 (Nat.le_of_ble_eq_true rfl)
  have t63 : x9 63 = .agg #[.slice ac 1 cc, .slice aT 4 ct] := hx9 63 (Nat.le_of_ble_eq_true rfl)
  have t64 : x9 64 = highN.val := hx9 64 (Nat.le_of_ble_eq_true rfl)
  have t65 : x9 65 = (Nd.mk 10 0 0 64).val := hx9 65 (Nat.le_of_ble_eq_true rfl)
  have t67 : x9 67 = .string ks8 := hx9 67 (Nat.le_of_ble_eq_true rfl)
  have t68 : x9 68 = .bool true := hx9 68 (Nat.le_of_ble_eq_true rfl)
  have t69 : x9 69 = .bool true := hx9 69 (Nat.le_of_ble_eq_true rfl)
  have t70 : x9 70 = .bool true := hx9 70 (Nat.le_of_ble_eq_true rfl)
  simp only [sets, List.getD_cons_succ, List.getD_cons_zero, List.set_cons_succ, List.set_cons_zero, t0, t1, t3, t4, t5, t6, t7, t9, t10, t11, t12, t13, t14, t16, t17, t18, t19, t20, t21, t22, t24, t25, t26, t27, t28, t29, t30, t31, t32, t34, t35, t36, t37, t38, t39, t41, t42, t43, t44, t45, t46, t47, t48, t50, t51, t52, t53, t54, t55, t56, t57, t59, t60, t61, t62, t63, t64, t65, t67, t68, t69, t70]
  clear hx9 t0 t1 t3 t4 t5 t6 t7 t9 t10 t11 t12 t13 t14 t16 t17 t18 t19 t20 t21 t22 t24 t25 t26 t27 t28 t29 t30 t31 t32 t34 t35 t36 t37 t38 t39 t41 t42 t43 t44 t45 t46 t47 t48 t50 t51 t52 t53 t54 t55 t56 t57 t59 t60 t61 t62 t63 t64 t65 t67 t68 t69 t70
  generalize x9 2 = y2
  generalize x9 8 = y8
  generalize x9 15 = y15
  generalize x9 23 = y23
  generalize x9 33 = y33
  generalize x9 40 = y40
  generalize x9 49 = y49
  generalize x9 58 = y58
  generalize x9 66 = y66
  clear x9
  have A3 := hideIt aw9
  clear aw9
  obtain ⟨w3, rfl⟩ : ∃ w3, w3 = w9 := ⟨_, rfl⟩
  go_upto_region 4 with fail
  refine region_plain [108, 109, 110, 111, 112, 113, 114, 115, 116, 117, 118, 119, 120, 121, 122, 123, 124, 125, 126, 127, 128, 129, 130, 131, 132, 133, 134, 135, 136, 137, 138, 139, 140, 141, 142, 143, 144, 145, 146, 147, 148, 149, 150, 6] [isV ((Nd.mk 7 0 0 0).val), isRow ([Nd.mk 7 0 0 0]), isV ((Nd.mk 3 1 0 0).val), isRow ([Nd.mk 3 1 0 0]), isV ((Nd.mk 13 0 0 0).val), isRow ([Nd.mk 13 0 0 0]), isV ((Nd.mk (-1) 0 0 0).val), isRow ([Nd.mk (-1) 0 0 0]), isV ((Nd.mk 0 0 0 0).val), isV ((Nd.mk 6 1 0 0).val), isRow ([Nd.mk 0 0 0 0, Nd.mk 6 1 0 0]), isV ((Nd.mk 0 0 0 0).val), isV ((Nd.mk 6 (-1) 0 0).val), isRow ([Nd.mk 0 0 0 0, Nd.mk 6 (-1) 0 0]), isV ((Nd.mk 0 0 0 0).val), isV ((Nd.mk 6 0 1 0).val), isRow ([Nd.mk 0 0 0 0, Nd.mk 6 0 1 0]), isV ((Nd.mk 0 0 0 0).val), isV ((Nd.mk 10 0 0 65).val), isRow ([Nd.mk 0 0 0 0, Nd.mk 10 0 0 65]), isV ((Nd.mk 0 0 0 0).val), isV ((Nd.mk 11 0 0 (-1)).val), isRow ([Nd.mk 0 0 0 0, Nd.mk 11 0 0 (-1)]), isV ((Nd.mk 0 0 0 0).val), isV ((Nd.mk 9 0 0 1).val), isRow ([Nd.mk 0 0 0 0, Nd.mk 9 0 0 1]), isV ((Nd.mk 0 1 0 0).val), isRow ([Nd.mk 0 1 0 0]), isV ((Nd.mk 0 0 0 1).val), isRow ([Nd.mk 0 0 0 1]), isV ((Nd.mk 1 0 0 2147483648).val), isRow ([Nd.mk 1 0 0 2147483648]), isV ((Nd.mk 2 0 1 0).val), isRow ([Nd.mk 2 0 1 0]), isV ((Nd.mk 5 0 0 1).val), isRow ([Nd.mk 5 0 0 1]), isV ((Nd.mk 0 0 0 0).val), isV ((Nd.mk 12 0 1 0).val), isRow ([Nd.mk 0 0 0 0, Nd.mk 12 0 1 0]), isV ((Nd.mk 0 0 0 0).val), isV ((Nd.mk 8 0 0 1).val), isRow ([Nd.mk 0 0 0 0, Nd.mk 8 0 0 1]), isBad, isBad] 44 rfl rfl (stable_all (st_cons (isV_st _) (st_cons (isRow_st _) (st_cons (isV_st _) (st_cons (isRow_st _) (st_cons (isV_st _) (st_cons (isRow_st _) (st_cons (isV_st _) (st_cons (isRow_st _) (st_cons (isV_st _) (st_cons (isV_st _) (st_cons (isRow_st _) (st_cons (isV_st _) (st_cons (isV_st _) (st_cons (isRow_st _) (st_cons (isV_st _) (st_cons (isV_st _) (st_cons (isRow_st _) (st_cons (isV_st _) (st_cons (isV_st _) (st_cons (isRow_st _) (st_cons (isV_st _) (st_cons (isV_st _) (st_cons (isRow_st _) (st_cons (isV_st _) (st_cons (isV_st _) (st_cons (isRow_st _) (st_cons (isV_st _) (st_cons (isRow_st _) (st_cons (isV_st _) (st_cons (isRow_st _) (st_cons (isV_st _) (st_cons (isRow_st _) (st_cons (isV_st _) (st_cons (isRow_st _) (st_cons (isV_st _) (st_cons (isRow_st _) (st_cons (isV_st _) (st_cons (isV_st _) (st_cons (isRow_st _) (st_cons (isV_st _) (st_cons (isV_st _) (st_cons (isRow_st _) (st_cons (isBad_st) (st_cons (isBad_st) (st_nil)))))))))))))))))))))))))))))))))))))))))))))) rfl rfl ?_ ?_
  · exact ⟨⟨rfl, rfl, (.inl rfl), fun a W9 K hd hb aw hk => wp_build1 rfl rfl (bn0 _ _) (hk _ _ rfl After.rfl)⟩,
      ⟨rfl, rfl, (.inl rfl), fun a W9 K hd hb aw hk => by
      obtain ⟨v, w9, h1, h2, h3⟩ := rowOf1 (Nd.mk 7 0 0 0) W9
      exact wp_slice1 rfl (hd 0 rfl) h1 (hk _ _ h2 h3)⟩,
      ⟨rfl, rfl, (.inl rfl), fun a W9 K hd hb aw hk => wp_build2 rfl rfl rfl (bn01 _ _ _) (hk _ _ rfl After.rfl)⟩,
      ⟨rfl, rfl, (.inl rfl), fun a W9 K hd hb aw hk => by
      obtain ⟨v, w9, h1, h2, h3⟩ := rowOf1 (Nd.mk 3 1 0 0) W9
      exact wp_slice1 rfl (hd 2 rfl) h1 (hk _ _ h2 h3)⟩,
      ⟨rfl, rfl, (.inl rfl), fun a W9 K hd hb aw hk => wp_build1 rfl rfl (bn0 _ _) (hk _ _ rfl After.rfl)⟩,
      ⟨rfl, rfl, (.inl rfl), fun a W9 K hd hb aw hk => by
      obtain ⟨v, w9, h1, h2, h3⟩ := rowOf1 (Nd.mk 13 0 0 0) W9
      exact wp_slice1 rfl (hd 4 rfl) h1 (hk _ _ h2 h3)⟩,
      ⟨rfl, rfl, (.inl rfl), fun a W9 K hd hb aw hk => wp_build1 rfl rfl (bn0 _ _) (hk _ _ rfl After.rfl)⟩,
      ⟨rfl, rfl, (.inl rfl), fun a W9 K hd hb aw hk => by
      obtain ⟨v, w9, h1, h2, h3⟩ := rowOf1 (Nd.mk (-1) 0 0 0) W9
      exact wp_slice1 rfl (hd 6 rfl) h1 (hk _ _ h2 h3)⟩,
      ⟨rfl, rfl, (.inl rfl), fun a W9 K hd hb aw hk => wp_build0 rfl (bnE _) (hk _ _ rfl After.rfl)⟩,
      ⟨rfl, rfl, (.inl rfl), fun a W9 K hd hb aw hk => wp_build2 rfl rfl rfl (bn01 _ _ _) (hk _ _ rfl After.rfl)⟩,
      ⟨rfl, rfl, (.inl rfl), fun a W9 K hd hb aw hk => by
      obtain ⟨v, w9, h1, h2, h3⟩ := rowOf2 (Nd.mk 0 0 0 0) (Nd.mk 6 1 0 0) W9
      exact wp_slice2 rfl (hd 8 rfl) (hd 9 rfl) h1 (hk _ _ h2 h3)⟩,
      ⟨rfl, rfl, (.inl rfl), fun a W9 K hd hb aw hk => wp_build0 rfl (bnE _) (hk _ _ rfl After.rfl)⟩,
      ⟨rfl, rfl, (.inl rfl), fun a W9 K hd hb aw hk => wp_build2 rfl rfl rfl (bn01 _ _ _) (hk _ _ rfl After.rfl)⟩,
      ⟨rfl, rfl, (.inl rfl), fun a W9 K hd hb aw hk => by
      obtain ⟨v, w9, h1, h2, h3⟩ := rowOf2 (Nd.mk 0 0 0 0) (Nd.mk 6 (-1) 0 0) W9
      exact wp_slice2 rfl (hd 11 rfl) (hd 12 rfl) h1 (hk _ _ h2 h3)⟩,
      ⟨rfl, rfl, (.inl rfl), fun a W9 K hd hb aw hk => wp_build0 rfl (bnE _) (hk _ _ rfl After.rfl)⟩,
      ⟨rfl, rfl, (.inl rfl), fun a W9 K hd hb aw hk => wp_build2 rfl rfl rfl (bn02 _ _ _) (hk _ _ rfl After.rfl)⟩,
      ⟨rfl, rfl, (.inl rfl), fun a W9 K hd hb aw hk => by
      obtain ⟨v, w9, h1, h2, h3⟩ := rowOf2 (Nd.mk 0 0 0 0) (Nd.mk 6 0 1 0) W9
      exact wp_slice2 rfl (hd 14 rfl) (hd 15 rfl) h1 (hk _ _ h2 h3)⟩,
      ⟨rfl, rfl, (.inl rfl), fun a W9 K hd hb aw hk => wp_build0 rfl (bnE _) (hk _ _ rfl After.rfl)⟩,
      ⟨rfl, rfl, (.inl rfl), fun a W9 K hd hb aw hk => wp_build2 rfl rfl rfl (bn03 _ _ _) (hk _ _ rfl After.rfl)⟩,
      ⟨rfl, rfl, (.inl rfl), fun a W9 K hd hb aw hk => by
      obtain ⟨v, w9, h1, h2, h3⟩ := rowOf2 (Nd.mk 0 0 0 0) (Nd.mk 10 0 0 65) W9
      exact wp_slice2 rfl (hd 17 rfl) (hd 18 rfl) h1 (hk _ _ h2 h3)⟩,
      ⟨rfl, rfl, (.inl rfl), fun a W9 K hd hb aw hk => wp_build0 rfl (bnE _) (hk _ _ rfl After.rfl)⟩,
      ⟨rfl, rfl, (.inl rfl), fun a W9 K hd hb aw hk => wp_build2 rfl rfl rfl (bn03 _ _ _) (hk _ _ rfl After.rfl)⟩,
      ⟨rfl, rfl, (.inl rfl), fun a W9 K hd hb aw hk => by
      obtain ⟨v, w9, h1, h2, h3⟩ := rowOf2 (Nd.mk 0 0 0 0) (Nd.mk 11 0 0 (-1)) W9
      exact wp_slice2 rfl (hd 20 rfl) (hd 21 rfl) h1 (hk _ _ h2 h3)⟩,
      ⟨rfl, rfl, (.inl rfl), fun a W9 K hd hb aw hk => wp_build0 rfl (bnE _) (hk _ _ rfl After.rfl)⟩,
      ⟨rfl, rfl, (.inl rfl), fun a W9 K hd hb aw hk => wp_build2 rfl rfl rfl (bn03 _ _ _) (hk _ _ rfl After.rfl)⟩,
      ⟨rfl, rfl, (.inl rfl), fun a W9 K hd hb aw hk => by
      obtain ⟨v, w9, h1, h2, h3⟩ := rowOf2 (Nd.mk 0 0 0 0) (Nd.mk 9 0 0 1) W9
      exact wp_slice2 rfl (hd 23 rfl) (hd 24 rfl) h1 (hk _ _ h2 h3)⟩,
      ⟨rfl, rfl, (.inl rfl), fun a W9 K hd hb aw hk => wp_build1 rfl rfl (bn1 _ _) (hk _ _ rfl After.rfl)⟩,
      ⟨rfl, rfl, (.inl rfl), fun a W9 K hd hb aw hk => by
      obtain ⟨v, w9, h1, h2, h3⟩ := rowOf1 (Nd.mk 0 1 0 0) W9
      exact wp_slice1 rfl (hd 26 rfl) h1 (hk _ _ h2 h3)⟩,
      ⟨rfl, rfl, (.inl rfl), fun a W9 K hd hb aw hk => wp_build1 rfl rfl (bn3 _ _) (hk _ _ rfl After.rfl)⟩,
      ⟨rfl, rfl, (.inl rfl), fun a W9 K hd hb aw hk => by
      obtain ⟨v, w9, h1, h2, h3⟩ := rowOf1 (Nd.mk 0 0 0 1) W9
      exact wp_slice1 rfl (hd 28 rfl) h1 (hk _ _ h2 h3)⟩,
      ⟨rfl, rfl, (.inl rfl), fun a W9 K hd hb aw hk => wp_build2 rfl rfl rfl (bn03 _ _ _) (hk _ _ rfl After.rfl)⟩,
      ⟨rfl, rfl, (.inl rfl), fun a W9 K hd hb aw hk => by
      obtain ⟨v, w9, h1, h2, h3⟩ := rowOf1 (Nd.mk 1 0 0 2147483648) W9
      exact wp_slice1 rfl (hd 30 rfl) h1 (hk _ _ h2 h3)⟩,
      ⟨rfl, rfl, (.inl rfl), fun a W9 K hd hb aw hk => wp_build2 rfl rfl rfl (bn02 _ _ _) (hk _ _ rfl After.rfl)⟩,
      ⟨rfl, rfl, (.inl rfl), fun a W9 K hd hb aw hk => by
      obtain ⟨v, w9, h1, h2, h3⟩ := rowOf1 (Nd.mk 2 0 1 0) W9
      exact wp_slice1 rfl (hd 32 rfl) h1 (hk _ _ h2 h3)⟩,
      ⟨rfl, rfl, (.inl rfl), fun a W9 K hd hb aw hk => wp_build2 rfl rfl rfl (bn03 _ _ _) (hk _ _ rfl After.rfl)⟩,
      ⟨rfl, rfl, (.inl rfl), fun a W9 K hd hb aw hk => by
      obtain ⟨v, w9, h1, h2, h3⟩ := rowOf1 (Nd.mk 5 0 0 1) W9
      exact wp_slice1 rfl (hd 34 rfl) h1 (hk _ _ h2 h3)⟩,
      ⟨rfl, rfl, (.inl rfl), fun a W9 K hd hb aw hk => wp_build0 rfl (bnE _) (hk _ _ rfl After.rfl)⟩,
      ⟨rfl, rfl, (.inl rfl), fun a W9 K hd hb aw hk => wp_build3 rfl rfl rfl rfl (bn012 _ _ _ _) (hk _ _ rfl After.rfl)⟩,
      ⟨rfl, rfl, (.inl rfl), fun a W9 K hd hb aw hk => by
      obtain ⟨v, w9, h1, h2, h3⟩ := rowOf2 (Nd.mk 0 0 0 0) (Nd.mk 12 0 1 0) W9
      exact wp_slice2 rfl (hd 36 rfl) (hd 37 rfl) h1 (hk _ _ h2 h3)⟩,
      ⟨rfl, rfl, (.inl rfl), fun a W9 K hd hb aw hk => wp_build0 rfl (bnE _) (hk _ _ rfl After.rfl)⟩,
      ⟨rfl, rfl, (.inl rfl), fun a W9 K hd hb aw hk => wp_build2 rfl rfl rfl (bn03 _ _ _) (hk _ _ rfl After.rfl)⟩,
      ⟨rfl, rfl, (.inl rfl), fun a W9 K hd hb aw hk => by
      obtain ⟨v, w9, h1, h2, h3⟩ := rowOf2 (Nd.mk 0 0 0 0) (Nd.mk 8 0 0 1) W9
      exact wp_slice2 rfl (hd 39 rfl) (hd 40 rfl) h1 (hk _ _ h2 h3)⟩,
      ⟨rfl, rfl, (.inl rfl), fun a W9 K hd hb aw hk => by
      refine wp_bad rfl (row_slice (hd 1 rfl)) (row_slice (hd 3 rfl)) (row_slice (hd 5 rfl)) (row_slice (hd 7 rfl)) (row_slice (hd 10 rfl)) (row_slice (hd 13 rfl)) (row_slice (hd 16 rfl)) (row_slice (hd 19 rfl)) (row_slice (hd 22 rfl)) (row_slice (hd 25 rfl)) (row_slice (hd 27 rfl)) (row_slice (hd 29 rfl)) (row_slice (hd 31 rfl)) (row_slice (hd 33 rfl)) (row_slice (hd 35 rfl)) (row_slice (hd 38 rfl)) (row_slice (hd 41 rfl)) (hk _ _ ⟨W9.heap.size, [.slice none 0 0, a.eval (.tmp 109), a.eval (.tmp 111), a.eval (.tmp 113), a.eval (.tmp 115), a.eval (.tmp 118), a.eval (.tmp 121), a.eval (.tmp 124), a.eval (.tmp 127), a.eval (.tmp 130), a.eval (.tmp 133), a.eval (.tmp 135), a.eval (.tmp 137), a.eval (.tmp 139), a.eval (.tmp 141), a.eval (.tmp 143), a.eval (.tmp 146), a.eval (.tmp 149)], rfl, heap_alloc_new W9 _, rfl, fun i L u hL hu => ?_⟩ (After.rfl.alloc _))
      exact match i, hL, hu with
        | 0, hL, hu => by
          obtain rfl := Option.some.inj hL
          obtain rfl := Option.some.inj hu
          exact ⟨none, 0, rfl, ⟨rfl, fun i hi => absurd hi (Nat.not_lt_zero i)⟩, fun _ => ⟨rfl, rfl⟩⟩
        | 1, hL, hu => by
          obtain rfl := Option.some.inj hL
          obtain rfl := Option.some.inj hu
          exact isRow_st _ _ _ _ (hd 1 rfl) (After.rfl.alloc _)
        | 2, hL, hu => by
          obtain rfl := Option.some.inj hL
          obtain rfl := Option.some.inj hu
          exact isRow_st _ _ _ _ (hd 3 rfl) (After.rfl.alloc _)
        | 3, hL, hu => by
          obtain rfl := Option.some.inj hL
          obtain rfl := Option.some.inj hu
          exact isRow_st _ _ _ _ (hd 5 rfl) (After.rfl.alloc _)
        | 4, hL, hu => by
          obtain rfl := Option.some.inj hL
          obtain rfl := Option.some.inj hu
          exact isRow_st _ _ _ _ (hd 7 rfl) (After.rfl.alloc _)
        | 5, hL, hu => by
          obtain rfl := Option.some.inj hL
          obtain rfl := Option.some.inj hu
          exact isRow_st _ _ _ _ (hd 10 rfl) (After.rfl.alloc _)
        | 6, hL, hu => by
          obtain rfl := Option.some.inj hL
          obtain rfl := Option.some.inj hu
          exact isRow_st _ _ _ _ (hd 13 rfl) (After.rfl.alloc _)
        | 7, hL, hu => by
          obtain rfl := Option.some.inj hL
          obtain rfl := Option.some.inj hu
          exact isRow_st _ _ _ _ (hd 16 rfl) (After.rfl.alloc _)
        | 8, hL, hu => by
          obtain rfl := Option.some.inj hL
          obtain rfl := Option.some.inj hu
          exact isRow_st _ _ _ _ (hd 19 rfl) (After.rfl.alloc _)
        | 9, hL, hu => by
          obtain rfl := Option.some.inj hL
          obtain rfl := Option.some.inj hu
          exact isRow_st _ _ _ _ (hd 22 rfl) (After.rfl.alloc _)
        | 10, hL, hu => by
          obtain rfl := Option.some.inj hL
          obtain rfl := Option.some.inj hu
          exact isRow_st _ _ _ _ (hd 25 rfl) (After.rfl.alloc _)
        | 11, hL, hu => by
          obtain rfl := Option.some.inj hL
          obtain rfl := Option.some.inj hu
          exact isRow_st _ _ _ _ (hd 27 rfl) (After.rfl.alloc _)
        | 12, hL, hu => by
          obtain rfl := Option.some.inj hL
          obtain rfl := Option.some.inj hu
          exact isRow_st _ _ _ _ (hd 29 rfl) (After.rfl.alloc _)
        | 13, hL, hu => by
          obtain rfl := Option.some.inj hL
          obtain rfl := Option.some.inj hu
          exact isRow_st _ _ _ _ (hd 31 rfl) (After.rfl.alloc _)
        | 14, hL, hu => by
          obtain rfl := Option.some.inj hL
          obtain rfl := Option.some.inj hu
          exact isRow_st _ _ _ _ (hd 33 rfl) (After.rfl.alloc _)
        | 15, hL, hu => by
          obtain rfl := Option.some.inj hL
          obtain rfl := Option.some.inj hu
          exact isRow_st _ _ _ _ (hd 35 rfl) (After.rfl.alloc _)
        | 16, hL, hu => by
          obtain rfl := Option.some.inj hL
          obtain rfl := Option.some.inj hu
          exact isRow_st _ _ _ _ (hd 38 rfl) (After.rfl.alloc _)
        | 17, hL, hu => by
          obtain rfl := Option.some.inj hL
          obtain rfl := Option.some.inj hu
          exact isRow_st _ _ _ _ (hd 41 rfl) (After.rfl.alloc _)
        | i + 18, hL, _ => by simp [badL] at hL⟩,
      ⟨rfl, rfl, (.inl rfl), fun a W9 K hd hb aw hk => wp_move (.inr rfl) rfl (hk _ _ (hd 42 rfl) After.rfl)⟩,
      trivial⟩
  intro x9 w9 hx9 aw9
  have t0 : x9 0 = (Nd.mk 7 0 0 0).val := hx9 0 (Nat.le_of_ble_eq_true rfl)
  have t2 : x9 2 = (Nd.mk 3 1 0 0).val := hx9 2 (Nat.le_of_ble_eq_true rfl)
  have t4 : x9 4 = (Nd.mk 13 0 0 0).val := hx9 4 (Nat.le_of_ble_eq_true rfl)
  have t6 : x9 6 = (Nd.mk (-1) 0 0 0).val := hx9 6 (Nat.le_of_ble_eq_true rfl)
  have t8 : x9 8 = (Nd.mk 0 0 0 0).val := hx9 8 (Nat.le_of_ble_eq_true rfl)
  have t9 : x9 9 = (Nd.mk 6 1 0 0).val := hx9 9 (Nat.le_of_ble_eq_true rfl)
  have t11 : x9 11 = (Nd.mk 0 0 0 0).val := hx9 11 (Nat.le_of_ble_eq_true rfl)
  have t12 : x9 12 = (Nd.mk 6 (-1) 0 0).val := hx9 12 (Nat.le_of_ble_eq_true rfl)
  have t14 : x9 14 = (Nd.mk 0 0 0 0).val := hx9 14 (Nat.le_of_ble_eq_true rfl)
  have t15 : x9 15 = (Nd.mk 6 0 1 0).val := hx9 15 (Nat.le_of_ble_eq_true rfl)
  have t17 : x9 17 = (Nd.mk 0 0 0 0).val := hx9 17 (Nat.le_of_ble_eq_true rfl)
  have t18 : x9 18 = (Nd.mk 10 0 0 65).val := hx9 18 (Nat.le_of_ble_eq_true rfl)
  have t20 : x9 20 = (Nd.mk 0 0 0 0).val := hx9 20 (Nat.le_of_ble_eq_true rfl)
  have t21 : x9 21 = (Nd.mk 11 0 0 (-1)).val := hx9 21 (Nat.le_of_ble_eq_true rfl)
  have t23 : x9 23 = (Nd.mk 0 0 0 0).val := hx9 23 (Nat.le_of_ble_eq_true rfl)
  have t24 : x9 24 = (Nd.mk 9 0 0 1).val := hx9 24 (Nat.le_of_ble_eq_true rfl)
  have t26 : x9 26 = (Nd.mk 0 1 0 0).val := hx9 26 (Nat.le_of_ble_eq_true rfl)
  have t28 : x9 28 = (Nd.mk 0 0 0 1).val := hx9 28 (Nat.le_of_ble_eq_true rfl)
  have t30 : x9 30 = (Nd.mk 1 0 0 2147483648).val := hx9 30 (Nat.le_of_ble_eq_true rfl)
  have t32 : x9 32 = (Nd.mk 2 0 1 0).val := hx9 32 (Nat.le_of_ble_eq_true rfl)
  have t34 : x9 34 = (Nd.mk 5 0 0 1).val := hx9 34 (Nat.le_of_ble_eq_true rfl)
  have t36 : x9 36 = (Nd.mk 0 0 0 0).val := hx9 36 (Nat.le_of_ble_eq_true rfl)
  have t37 : x9 37 = (Nd.mk 12 0 1 0).val := hx9 37 (Nat.le_of_ble_eq_true rfl)
  have t39 : x9 39 = (Nd.mk 0 0 0 0).val := hx9 39 (Nat.le_of_ble_eq_true rfl)
  have t40 : x9 40 = (Nd.mk 8 0 0 1).val := hx9 40 (Nat.le_of_ble_eq_true rfl)
  simp only [sets, List.getD_cons_succ, List.getD_cons_zero, List.set_cons_succ, List.set_cons_zero, t0, t2, t4, t6, t8, t9, t11, t12, t14, t15, t17, t18, t20, t21, t23, t24, t26, t28, t30, t32, t34, t36, t37, t39, t40]
  have hbad : isBad (x9 43) w9 := hx9 43 (Nat.le_of_ble_eq_true rfl)
  clear hx9 t0 t2 t4 t6 t8 t9 t11 t12 t14 t15 t17 t18 t20 t21 t23 t24 t26 t28 t30 t32 t34 t36 t37 t39 t40
  generalize x9 1 = y1
  generalize x9 3 = y3
  generalize x9 5 = y5
  generalize x9 7 = y7
  generalize x9 10 = y10
  generalize x9 13 = y13
  generalize x9 16 = y16
  generalize x9 19 = y19
  generalize x9 22 = y22
  generalize x9 25 = y25
  generalize x9 27 = y27
  generalize x9 29 = y29
  generalize x9 31 = y31
  generalize x9 33 = y33
  generalize x9 35 = y35
  generalize x9 38 = y38
  generalize x9 41 = y41
  generalize x9 42 = y42
  generalize x9 43 = y43 at hbad ⊢
  clear x9
  obtain ⟨g, vs, rfl, hg, hvl, hvr⟩ := hbad
  have HG : Hid (∀ V, After w9 V → V.heap[g]? = some (.cells vs.toArray 30 (0, 0))) := hideIt (fun V hV => (hV.block _ (blk_lt hg) (fun t => t)).trans hg)
  have HV := hideIt (And.intro hvl hvr)
  have A4 := hideIt (A3.out.trans aw9)
  obtain ⟨w4, rfl⟩ : ∃ w4, w4 = w9 := ⟨_, rfl⟩
  clear aw9 hg hvl hvr A3
  go_wp2_with fail
  go_loopw [7] (fun a wr => ∃ j : Nat, j ≤ 18 ∧ a = .int .i64 j ∧ After w4 wr) (fun a _ => 18 - (intOf a).toNat)
  case atStart => exact ⟨0, Nat.zero_le _, rfl, After.rfl⟩
  case round =>
    obtain ⟨j, hj, rfl, aw⟩ := hrel
    have aw8 := hideIt (A4.out.trans aw)
    have aw4 := hideIt aw
    clear aw
    by_cases hjn : j < 18
    · have i5 : (j : Int) < 18 := by omega
      obtain ⟨L, hL⟩ : ∃ L, badL[j]? = some L := ⟨_, List.getElem?_eq_getElem (show j < badL.length from hjn)⟩
      obtain ⟨u, hu⟩ : ∃ u, vs[j]? = some u := ⟨_, List.getElem?_eq_getElem (by rw [HV.out.1]; exact hjn)⟩
      obtain ⟨ra, rc, rfl, hr, _⟩ := HV.out.2 j L u hL hu
      have hk : chk L 1 = 150 := bad_chk L (List.mem_of_getElem? hL)
      have HQ : Hid (∀ V, After w4 V → V.cell? ⟨g, j, none⟩ = some (.slice ra L.length rc)) := hideIt (fun V hV => blk_cell (HG.out V hV) (by rw [List.getElem?_toArray]; exact hu))
      have HH : Hid (∀ V, After w4 V → Calls Try.prog 6 #[.slice ra L.length rc, .slice ac 1 cc, .slice aT 4 ct, .int .i64 0] V fun e w' => e = .returned (.tuple #[.bool false, .int .i64 150]) ∧ After V w') := hideIt (fun V hV => by
        have q1 := (HT.out.2.2.2.2.1.trans A4.out).trans hV
        have := holds_any (L := L) (C := fourC) (X := X) V ra rc ac cc aT ct (hr.after hV) (HT.out.1.after q1) (HT.out.2.1.after q1) (by rw [HT.out.2.2.2.1]; omega) 0
        rw [HT.out.2.2.2.1, HT.out.2.2.1] at this
        have e9 : hld L fourC fourT 0 = (false, 150) := by unfold hld; rw [if_pos (by show chk L 1 ≠ 0; rw [hk]; decide)]; show (false, chk L 1) = _; rw [hk]
        rw [e9] at this
        exact this)
      have HK : Hid (∀ V, After w4 V → Calls Try.prog 7 #[.slice ra L.length rc, .int .i64 1] V fun e w' => e = .returned (.int .i64 150) ∧ After V w') := hideIt (fun V hV => check_row ⟨ra, rc, rfl, hr.after hV, by assumption⟩ hk)
      clear hL hu hr hk
      go_upto_region 8 with fail
      refine region_slots (by kernel_rfl) [158, 159, 160, 161, 162, 163, 164, 165, 166, 157, 167, 168, 8, 9] [isV (.slice (some ⟨g, 0, none⟩) 18 18), isV (.int .i64 (j : Int)), isV (.pointer (some ⟨g, j, none⟩)), isV (.slice ra L.length rc), isV (.pointer (some ⟨w1.heap.size, 0, none⟩)), isV (.slice ac 1 cc), isV (.pointer (some ⟨w1.heap.size, 1, none⟩)), isV (.slice aT 4 ct), isV (.tuple #[.bool false, .int .i64 150]), isV (.tuple #[.bool false, .int .i64 150]), isV (.bool false), isV (.int .i64 150), isV (.bool false), isV (.int .i64 150)] 14 rfl rfl (stable_all (st_cons (isV_st _) (st_cons (isV_st _) (st_cons (isV_st _) (st_cons (isV_st _) (st_cons (isV_st _) (st_cons (isV_st _) (st_cons (isV_st _) (st_cons (isV_st _) (st_cons (isV_st _) (st_cons (isV_st _) (st_cons (isV_st _) (st_cons (isV_st _) (st_cons (isV_st _) (st_cons (isV_st _) (st_nil)))))))))))))))) rfl rfl ?_ ?_
      · exact ⟨⟨rfl, rfl, (.inl rfl), fun a W9 K hd hb aw hk => wp_move (.inl rfl) (show a.eval (.tmp 6) = .slice (some ⟨g, 0, none⟩) 18 18 from hb 6 rfl) (hk _ _ rfl After.rfl)⟩,
          ⟨rfl, rfl, (.inl rfl), fun a W9 K hd hb aw hk => wp_move (.inl rfl) (show a.eval (.tmp 7) = .int .i64 (j : Int) from hb 7 rfl) (hk _ _ rfl After.rfl)⟩,
          ⟨rfl, rfl, (.inl rfl), fun a W9 K hd hb aw hk => wp_index rfl (hd 0 rfl) (hd 1 rfl) (indexL _ _ _ i5) (hk _ _ rfl After.rfl)⟩,
          ⟨rfl, rfl, (.inl rfl), fun a W9 K hd hb aw hk => wp_load rfl (hd 2 rfl) (loadNs (HQ.out _ (aw4.out.trans aw))) (hk _ _ rfl After.rfl)⟩,
          ⟨rfl, rfl, (.inl rfl), fun a W9 K hd hb aw hk => wp_field rfl (show a.eval (.tmp 1) = Ptr w1.heap.size from hb 1 rfl) (fieldP0 _ _) (hk _ _ rfl After.rfl)⟩,
          ⟨rfl, rfl, (.inl rfl), fun a W9 K hd hb aw hk => wp_load rfl (hd 4 rfl) (loadCs (HC.out _ (aw8.out.trans aw)).1) (hk _ _ rfl After.rfl)⟩,
          ⟨rfl, rfl, (.inl rfl), fun a W9 K hd hb aw hk => wp_field rfl (show a.eval (.tmp 1) = Ptr w1.heap.size from hb 1 rfl) (fieldP1 _ _) (hk _ _ rfl After.rfl)⟩,
          ⟨rfl, rfl, (.inl rfl), fun a W9 K hd hb aw hk => wp_load rfl (hd 6 rfl) (loadT (HC.out _ (aw8.out.trans aw)).2) (hk _ _ rfl After.rfl)⟩,
          ⟨rfl, rfl, (.inl rfl), fun a W9 K hd hb aw hk => wp_func4 rfl (enter_of Try.func6 (by kernel_rfl) (by kernel_rfl)) (hd 3 rfl) (hd 5 rfl) (hd 7 rfl) rfl ((HH.out W9 (aw4.out.trans aw)).mono (fun e w1 h => ⟨_, h.1, hk _ _ rfl h.2⟩))⟩,
          ⟨rfl, rfl, (.inl rfl), fun a W9 K hd hb aw hk => wp_move (.inl rfl) (hd 8 rfl) (hk _ _ rfl After.rfl)⟩,
          ⟨rfl, rfl, (.inl rfl), fun a W9 K hd hb aw hk => wp_extract rfl (hd 9 rfl) (extr0 _ _ _) (hk _ _ rfl After.rfl)⟩,
          ⟨rfl, rfl, (.inl rfl), fun a W9 K hd hb aw hk => wp_extract rfl (hd 9 rfl) (extr1 _ _ _) (hk _ _ rfl After.rfl)⟩,
          ⟨rfl, rfl, (.inl rfl), fun a W9 K hd hb aw hk => wp_move (.inr rfl) (hd 10 rfl) (hk _ _ rfl After.rfl)⟩,
          ⟨rfl, rfl, (.inl rfl), fun a W9 K hd hb aw hk => wp_move (.inr rfl) (hd 11 rfl) (hk _ _ rfl After.rfl)⟩,
          trivial⟩
      intro x9 w9 hx9 aw9
      have t0 : x9 0 = .slice (some ⟨g, 0, none⟩) 18 18 := hx9 0 (Nat.le_of_ble_eq_true rfl)
      have t1 : x9 1 = .int .i64 (j : Int) := hx9 1 (Nat.le_of_ble_eq_true rfl)
      have t2 : x9 2 = .pointer (some ⟨g, j, none⟩) := hx9 2 (Nat.le_of_ble_eq_true rfl)
      have t3 : x9 3 = .slice ra L.length rc := hx9 3 (Nat.le_of_ble_eq_true rfl)
      have t4 : x9 4 = .pointer (some ⟨w1.heap.size, 0, none⟩) := hx9 4 (Nat.le_of_ble_eq_true rfl)
      have t5 : x9 5 = .slice ac 1 cc := hx9 5 (Nat.le_of_ble_eq_true rfl)
      have t6 : x9 6 = .pointer (some ⟨w1.heap.size, 1, none⟩) := hx9 6 (Nat.le_of_ble_eq_true rfl)
      have t7 : x9 7 = .slice aT 4 ct := hx9 7 (Nat.le_of_ble_eq_true rfl)
      have t8 : x9 8 = .tuple #[.bool false, .int .i64 150] := hx9 8 (Nat.le_of_ble_eq_true rfl)
      have t9 : x9 9 = .tuple #[.bool false, .int .i64 150] := hx9 9 (Nat.le_of_ble_eq_true rfl)
      have t10 : x9 10 = .bool false := hx9 10 (Nat.le_of_ble_eq_true rfl)
      have t11 : x9 11 = .int .i64 150 := hx9 11 (Nat.le_of_ble_eq_true rfl)
      have t12 : x9 12 = .bool false := hx9 12 (Nat.le_of_ble_eq_true rfl)
      have t13 : x9 13 = .int .i64 150 := hx9 13 (Nat.le_of_ble_eq_true rfl)
      simp only [sets, List.getD_cons_succ, List.getD_cons_zero, List.set_cons_succ, List.set_cons_zero, t0, t1, t2, t3, t4, t5, t6, t7, t8, t9, t10, t11, t12, t13]
      clear hx9 t0 t1 t2 t3 t4 t5 t6 t7 t8 t9 t10 t11 t12 t13
      clear x9
      have A5 := hideIt (aw4.out.trans aw9)
      have q1 := HQ.out _ A5.out
      clear aw9 aw4 aw8 HH HQ
      go_wp2_with fail
      refine (HK.out _ A5.out).mono ?_
      rintro e w6 ⟨rfl, a6⟩
      have A6 := hideIt (A5.out.trans a6)
      clear a6 q1
      go_wp2_with fail
      go_roundw
      case rel => exact ⟨j + 1, by omega, by go_num, A6.out⟩
      case measure => simp [intOf]; omega
    · have i5 : ¬ (j : Int) < 18 := by omega
      go_upto_region 11 with fail
      refine region_plain [179, 180, 181, 182, 183, 184, 185, 186, 187, 188, 189, 190, 191, 192, 193, 194, 195, 196, 197, 198, 199, 200, 201, 202, 203, 204, 205, 206, 207, 208, 10] [isRow (List.replicate 32 Nd.none), isV (.int .i64 n0), isV (.bool true), isV (.bool true), isRow (List.replicate 33 Nd.none), isV (.int .i64 n1), isV (.bool true), isV (.bool true), isV (.bool true), isV (.int .i64 n2), isV (.bool true), isV (.bool true), isV (.bool true), isV ((Nd.mk 0 0 0 0).val), isRow ([Nd.mk 0 0 0 0]), isV (.int .i64 n3), isV (.bool true), isV (.bool true), isV (.bool true), isV ((Nd.mk 3 7 0 0).val), isRow ([Nd.mk 3 7 0 0]), isV (.int .i64 n4), isV (.bool true), isV (.bool true), isV (.bool true), isV ((Nd.mk 3 0 0 0).val), isRow ([Nd.mk 3 0 0 0]), isV (.int .i64 n5), isV (.bool true), isV (.bool true), isV (.bool true)] 31 rfl rfl (stable_all (st_cons (isRow_st _) (st_cons (isV_st _) (st_cons (isV_st _) (st_cons (isV_st _) (st_cons (isRow_st _) (st_cons (isV_st _) (st_cons (isV_st _) (st_cons (isV_st _) (st_cons (isV_st _) (st_cons (isV_st _) (st_cons (isV_st _) (st_cons (isV_st _) (st_cons (isV_st _) (st_cons (isV_st _) (st_cons (isRow_st _) (st_cons (isV_st _) (st_cons (isV_st _) (st_cons (isV_st _) (st_cons (isV_st _) (st_cons (isV_st _) (st_cons (isRow_st _) (st_cons (isV_st _) (st_cons (isV_st _) (st_cons (isV_st _) (st_cons (isV_st _) (st_cons (isV_st _) (st_cons (isRow_st _) (st_cons (isV_st _) (st_cons (isV_st _) (st_cons (isV_st _) (st_cons (isV_st _) (st_nil))))))))))))))))))))))))))))))))) rfl rfl ?_ ?_
      · exact ⟨⟨rfl, rfl, (.inl rfl), fun a W9 K hd hb aw hk => by
      obtain ⟨v, w9, h1, h2, h3⟩ := zero32 W9
      exact wp_make rfl h1 (hk _ _ h2 h3)⟩,
          ⟨rfl, rfl, (.inl rfl), fun a W9 K hd hb aw hk => wp_func2 rfl (enter_of Try.func7 (by kernel_rfl) (by kernel_rfl)) rfl rfl ((check_row (hd 0 rfl) kn0).mono (fun e w1 h => ⟨_, h.1, hk _ _ rfl h.2⟩))⟩,
          ⟨rfl, rfl, (.inl rfl), fun a W9 K hd hb aw hk => wp_bin rfl (hd 1 rfl) rfl (by rw [kh0]; exact eqE_yes _ _ _ _) (hk _ _ rfl After.rfl)⟩,
          ⟨rfl, rfl, (.inl rfl), fun a W9 K hd hb aw hk => wp_move (.inl rfl) (hd 2 rfl) (hk _ _ rfl After.rfl)⟩,
          ⟨rfl, rfl, (.inr ⟨3, true, rfl, rfl, fun v w h => h⟩), fun a W9 K hd hb aw hk => by
      obtain ⟨v, w9, h1, h2, h3⟩ := zero33 W9
      exact wp_make rfl h1 (hk _ _ h2 h3)⟩,
          ⟨rfl, rfl, (.inr ⟨3, true, rfl, rfl, fun v w h => h⟩), fun a W9 K hd hb aw hk => wp_func2 rfl (enter_of Try.func7 (by kernel_rfl) (by kernel_rfl)) rfl rfl ((check_row (hd 4 rfl) kn1).mono (fun e w1 h => ⟨_, h.1, hk _ _ rfl h.2⟩))⟩,
          ⟨rfl, rfl, (.inr ⟨3, true, rfl, rfl, fun v w h => h⟩), fun a W9 K hd hb aw hk => wp_bin rfl (hd 5 rfl) rfl (by rw [kh1]; exact eqE_yes _ _ _ _) (hk _ _ rfl After.rfl)⟩,
          ⟨rfl, rfl, (.inl rfl), fun a W9 K hd hb aw hk => wp_pickT rfl (hd 3 rfl) (hd 6 rfl) (hk _ _ rfl After.rfl)⟩,
          ⟨rfl, rfl, (.inl rfl), fun a W9 K hd hb aw hk => wp_move (.inl rfl) (hd 7 rfl) (hk _ _ rfl After.rfl)⟩,
          ⟨rfl, rfl, (.inr ⟨8, true, rfl, rfl, fun v w h => h⟩), fun a W9 K hd hb aw hk => wp_func2 rfl (enter_of Try.func7 (by kernel_rfl) (by kernel_rfl)) rfl rfl ((check_row (nilRow W9) kn2).mono (fun e w1 h => ⟨_, h.1, hk _ _ rfl h.2⟩))⟩,
          ⟨rfl, rfl, (.inr ⟨8, true, rfl, rfl, fun v w h => h⟩), fun a W9 K hd hb aw hk => wp_bin rfl (hd 9 rfl) rfl (by rw [kh2]; exact eqE_yes _ _ _ _) (hk _ _ rfl After.rfl)⟩,
          ⟨rfl, rfl, (.inl rfl), fun a W9 K hd hb aw hk => wp_pickT rfl (hd 8 rfl) (hd 10 rfl) (hk _ _ rfl After.rfl)⟩,
          ⟨rfl, rfl, (.inl rfl), fun a W9 K hd hb aw hk => wp_move (.inl rfl) (hd 11 rfl) (hk _ _ rfl After.rfl)⟩,
          ⟨rfl, rfl, (.inr ⟨12, true, rfl, rfl, fun v w h => h⟩), fun a W9 K hd hb aw hk => wp_build0 rfl (bnE _) (hk _ _ rfl After.rfl)⟩,
          ⟨rfl, rfl, (.inr ⟨12, true, rfl, rfl, fun v w h => h⟩), fun a W9 K hd hb aw hk => by
      obtain ⟨v, w9, h1, h2, h3⟩ := rowOf1 (Nd.mk 0 0 0 0) W9
      exact wp_slice1 rfl (hd 13 rfl) h1 (hk _ _ h2 h3)⟩,
          ⟨rfl, rfl, (.inr ⟨12, true, rfl, rfl, fun v w h => h⟩), fun a W9 K hd hb aw hk => wp_func2 rfl (enter_of Try.func7 (by kernel_rfl) (by kernel_rfl)) rfl rfl ((check_row (hd 14 rfl) kn3).mono (fun e w1 h => ⟨_, h.1, hk _ _ rfl h.2⟩))⟩,
          ⟨rfl, rfl, (.inr ⟨12, true, rfl, rfl, fun v w h => h⟩), fun a W9 K hd hb aw hk => wp_bin rfl (hd 15 rfl) rfl (by rw [kh3]; exact eqE_yes _ _ _ _) (hk _ _ rfl After.rfl)⟩,
          ⟨rfl, rfl, (.inl rfl), fun a W9 K hd hb aw hk => wp_pickT rfl (hd 12 rfl) (hd 16 rfl) (hk _ _ rfl After.rfl)⟩,
          ⟨rfl, rfl, (.inl rfl), fun a W9 K hd hb aw hk => wp_move (.inl rfl) (hd 17 rfl) (hk _ _ rfl After.rfl)⟩,
          ⟨rfl, rfl, (.inr ⟨18, true, rfl, rfl, fun v w h => h⟩), fun a W9 K hd hb aw hk => wp_build2 rfl rfl rfl (bn01 _ _ _) (hk _ _ rfl After.rfl)⟩,
          ⟨rfl, rfl, (.inr ⟨18, true, rfl, rfl, fun v w h => h⟩), fun a W9 K hd hb aw hk => by
      obtain ⟨v, w9, h1, h2, h3⟩ := rowOf1 (Nd.mk 3 7 0 0) W9
      exact wp_slice1 rfl (hd 19 rfl) h1 (hk _ _ h2 h3)⟩,
          ⟨rfl, rfl, (.inr ⟨18, true, rfl, rfl, fun v w h => h⟩), fun a W9 K hd hb aw hk => wp_func2 rfl (enter_of Try.func7 (by kernel_rfl) (by kernel_rfl)) rfl rfl ((check_row (hd 20 rfl) kn4).mono (fun e w1 h => ⟨_, h.1, hk _ _ rfl h.2⟩))⟩,
          ⟨rfl, rfl, (.inr ⟨18, true, rfl, rfl, fun v w h => h⟩), fun a W9 K hd hb aw hk => wp_bin rfl (hd 21 rfl) rfl (by rw [kh4]; exact eqE_yes _ _ _ _) (hk _ _ rfl After.rfl)⟩,
          ⟨rfl, rfl, (.inl rfl), fun a W9 K hd hb aw hk => wp_pickT rfl (hd 18 rfl) (hd 22 rfl) (hk _ _ rfl After.rfl)⟩,
          ⟨rfl, rfl, (.inl rfl), fun a W9 K hd hb aw hk => wp_move (.inl rfl) (hd 23 rfl) (hk _ _ rfl After.rfl)⟩,
          ⟨rfl, rfl, (.inr ⟨24, true, rfl, rfl, fun v w h => h⟩), fun a W9 K hd hb aw hk => wp_build1 rfl rfl (bn0 _ _) (hk _ _ rfl After.rfl)⟩,
          ⟨rfl, rfl, (.inr ⟨24, true, rfl, rfl, fun v w h => h⟩), fun a W9 K hd hb aw hk => by
      obtain ⟨v, w9, h1, h2, h3⟩ := rowOf1 (Nd.mk 3 0 0 0) W9
      exact wp_slice1 rfl (hd 25 rfl) h1 (hk _ _ h2 h3)⟩,
          ⟨rfl, rfl, (.inr ⟨24, true, rfl, rfl, fun v w h => h⟩), fun a W9 K hd hb aw hk => wp_func2 rfl (enter_of Try.func7 (by kernel_rfl) (by kernel_rfl)) rfl rfl ((check_row (hd 26 rfl) kn5).mono (fun e w1 h => ⟨_, h.1, hk _ _ rfl h.2⟩))⟩,
          ⟨rfl, rfl, (.inr ⟨24, true, rfl, rfl, fun v w h => h⟩), fun a W9 K hd hb aw hk => wp_bin rfl (hd 27 rfl) rfl (by rw [kh5]; exact eqE_yes _ _ _ _) (hk _ _ rfl After.rfl)⟩,
          ⟨rfl, rfl, (.inl rfl), fun a W9 K hd hb aw hk => wp_pickT rfl (hd 24 rfl) (hd 28 rfl) (hk _ _ rfl After.rfl)⟩,
          ⟨rfl, rfl, (.inl rfl), fun a W9 K hd hb aw hk => wp_move (.inr rfl) (hd 29 rfl) (hk _ _ rfl After.rfl)⟩,
          trivial⟩
      intro x9 w9 hx9 aw9
      have t1 : x9 1 = .int .i64 n0 := hx9 1 (Nat.le_of_ble_eq_true rfl)
      have t2 : x9 2 = .bool true := hx9 2 (Nat.le_of_ble_eq_true rfl)
      have t3 : x9 3 = .bool true := hx9 3 (Nat.le_of_ble_eq_true rfl)
      have t5 : x9 5 = .int .i64 n1 := hx9 5 (Nat.le_of_ble_eq_true rfl)
      have t6 : x9 6 = .bool true := hx9 6 (Nat.le_of_ble_eq_true rfl)
      have t7 : x9 7 = .bool true := hx9 7 (Nat.le_of_ble_eq_true rfl)
      have t8 : x9 8 = .bool true := hx9 8 (Nat.le_of_ble_eq_true rfl)
      have t9 : x9 9 = .int .i64 n2 := hx9 9 (Nat.le_of_ble_eq_true rfl)
      have t10 : x9 10 = .bool true := hx9 10 (Nat.le_of_ble_eq_true rfl)
      have t11 : x9 11 = .bool true := hx9 11 (Nat.le_of_ble_eq_true rfl)
      have t12 : x9 12 = .bool true := hx9 12 (Nat.le_of_ble_eq_true rfl)
      have t13 : x9 13 = (Nd.mk 0 0 0 0).val := hx9 13 (Nat.le_of_ble_eq_true rfl)
      have t15 : x9 15 = .int .i64 n3 := hx9 15 (Nat.le_of_ble_eq_true rfl)
      have t16 : x9 16 = .bool true := hx9 16 (Nat.le_of_ble_eq_true rfl)
      have t17 : x9 17 = .bool true := hx9 17 (Nat.le_of_ble_eq_true rfl)
      have t18 : x9 18 = .bool true := hx9 18 (Nat.le_of_ble_eq_true rfl)
      have t19 : x9 19 = (Nd.mk 3 7 0 0).val := hx9 19 (Nat.le_of_ble_eq_true rfl)
      have t21 : x9 21 = .int .i64 n4 := hx9 21 (Nat.le_of_ble_eq_true rfl)
      have t22 : x9 22 = .bool true := hx9 22 (Nat.le_of_ble_eq_true rfl)
      have t23 : x9 23 = .bool true := hx9 23 (Nat.le_of_ble_eq_true rfl)
      have t24 : x9 24 = .bool true := hx9 24 (Nat.le_of_ble_eq_true rfl)
      have t25 : x9 25 = (Nd.mk 3 0 0 0).val := hx9 25 (Nat.le_of_ble_eq_true rfl)
      have t27 : x9 27 = .int .i64 n5 := hx9 27 (Nat.le_of_ble_eq_true rfl)
      have t28 : x9 28 = .bool true := hx9 28 (Nat.le_of_ble_eq_true rfl)
      have t29 : x9 29 = .bool true := hx9 29 (Nat.le_of_ble_eq_true rfl)
      have t30 : x9 30 = .bool true := hx9 30 (Nat.le_of_ble_eq_true rfl)
      simp only [sets, List.getD_cons_succ, List.getD_cons_zero, List.set_cons_succ, List.set_cons_zero, t1, t2, t3, t5, t6, t7, t8, t9, t10, t11, t12, t13, t15, t16, t17, t18, t19, t21, t22, t23, t24, t25, t27, t28, t29, t30]
      clear hx9 t1 t2 t3 t5 t6 t7 t8 t9 t10 t11 t12 t13 t15 t16 t17 t18 t19 t21 t22 t23 t24 t25 t27 t28 t29 t30
      generalize x9 0 = y0
      generalize x9 4 = y4
      generalize x9 14 = y14
      generalize x9 20 = y20
      generalize x9 26 = y26
      clear x9
      have A5 := hideIt (aw8.out.trans aw9)
      clear aw9 aw4 aw8
      obtain ⟨w5, rfl⟩ : ∃ w5, w5 = w9 := ⟨_, rfl⟩
      obtain ⟨c0, c1⟩ := HC.out _ A5.out
      have z1 : w1.heap.size < w5.heap.size := Nat.lt_of_lt_of_le HZ.out A5.out.size
      go_wp2_with fail
      refine (hold_four (V := w5) (HT.out.1.after (HT.out.2.2.2.2.1.trans A5.out)) (HT.out.2.1.after (HT.out.2.2.2.2.1.trans A5.out)) HT.out.2.2.1 HT.out.2.2.2.1 (t := 4) (e := 9) (by decide)).mono ?_
      rintro e w6 ⟨rfl, a6⟩
      have A6 := hideIt (A5.out.trans a6)
      clear a6 c0 c1 A5 z1
      obtain ⟨c0, c1⟩ := HC.out _ A6.out
      have z1 : w1.heap.size < w6.heap.size := Nat.lt_of_lt_of_le HZ.out A6.out.size
      go_wp2_with fail
      refine (hold_four (V := w6) (HT.out.1.after (HT.out.2.2.2.2.1.trans A6.out)) (HT.out.2.1.after (HT.out.2.2.2.2.1.trans A6.out)) HT.out.2.2.1 HT.out.2.2.2.1 (t := -1) (e := 9) (by decide)).mono ?_
      rintro e w7 ⟨rfl, a7⟩
      have A7 := hideIt (A6.out.trans a7)
      clear a7 c0 c1 A6 z1
      obtain ⟨c0, c1⟩ := HC.out _ A7.out
      have z1 : w1.heap.size < w7.heap.size := Nat.lt_of_lt_of_le HZ.out A7.out.size
      go_wp2_with fail
      refine (hold_nil (V := w7) (HT.out.1.after (HT.out.2.2.2.2.1.trans A7.out))).mono ?_
      rintro e w8 ⟨rfl, a8⟩
      have A8 := hideIt (A7.out.trans a8)
      clear a8 c0 c1 A7 z1
      have z9 := zeroC9 (w8.alloc (.cells #[.int .i64 0, .int .i64 0, .int .i64 0, .int .i64 0] 28))
      go_wp2_with fail
      refine (hold_nine w8).mono ?_
      rintro e w10 ⟨rfl, a10⟩
      have A10 := hideIt (A8.out.trans a10)
      clear a10 A8 z9
      go_wp2_with fail
      refine (hold_none w10).mono ?_
      rintro e w11 ⟨rfl, a11⟩
      have A11 := hideIt (A10.out.trans a11)
      clear a11 A10
      have hN := HN.out _ A11.out
      have n0 := blk_cell hN (i := 0) rfl
      have n1 := blk_cell hN (i := 1) rfl
      have n2 := blk_cell hN (i := 2) rfl
      have n3 := blk_cell hN (i := 3) rfl
      clear hN
      go_wp2_with fail
      refine (mem_six (V := w11) rfl).mono ?_
      rintro e w12 ⟨rfl, a12⟩
      have A12 := hideIt (A11.out.trans a12)
      clear a12 A11 n0 n1 n2 n3
      go_wp2_with fail
      refine (mem_none w12).mono ?_
      rintro e w13 ⟨rfl, a13⟩
      have A13 := hideIt (A12.out.trans a13)
      clear a13 A12
      go_wp2_with fail
      refine (value_any 2 (-5) w13).mono ?_
      rintro e w14 ⟨rfl, a14⟩
      have A14 := hideIt (A13.out.trans a14)
      clear a14 A13
      rw [show (Rd.mk 2 (-5)).num = -5 from rfl, show (Rd.mk 2 (-5)).has = true from rfl]
      go_wp2_with fail
      refine (value_any 3 7 w14).mono ?_
      rintro e w15 ⟨rfl, a15⟩
      have A15 := hideIt (A14.out.trans a15)
      clear a15 A14
      rw [show (Rd.mk 3 7).num = 0 from rfl, show (Rd.mk 3 7).has = false from rfl]
      go_wp2_with fail
      refine (atom_any Nd.none Ch.none Rd.none w15).mono ?_
      rintro e w16 ⟨rfl, a16⟩
      have A16 := hideIt (A15.out.trans a16)
      clear a16 A15
      rw [show atomA Nd.none Ch.none Rd.none = (false, 150) from rfl]
      go_wp2_with fail
      refine (atom_any ⟨3, 99, 0, 0⟩ ⟨0, 0, 0, 0, 0, 0, 4⟩ ⟨1, 5⟩ w16).mono ?_
      rintro e w17 ⟨rfl, a17⟩
      have A17 := hideIt (A16.out.trans a17)
      clear a17 A16
      rw [show atomA ⟨3, 99, 0, 0⟩ ⟨0, 0, 0, 0, 0, 0, 4⟩ ⟨1, 5⟩ = (true, 0) from rfl]
      go_wp2_with fail
      refine (works_any w17).mono ?_
      rintro e w18 ⟨rfl, a18⟩
      have A18 := hideIt (A17.out.trans a18)
      clear a18 A17
      go_wp2_with fail
      go_ret
      exact ⟨rfl, HT.out.2.2.2.2.2.trans (HT.out.2.2.2.2.1.trans A18.out)⟩
end Go.Proofs.Ytgbaibnlfmeklab
