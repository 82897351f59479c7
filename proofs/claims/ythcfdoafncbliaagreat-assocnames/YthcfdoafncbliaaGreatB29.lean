/-
  Laid together: PlB, PlC.
-/
import Derived.Test.YthcfdoafncbliaaGreatB23
import Derived.Test.YthcfdoafncbliaaGreatB28
import Derived.Test.YthcfdoafncbliaaGreatB27
/-
  AssocPlays: the parts of its code, its frame; the copy of a message and the two Handles.
-/
namespace Go.Proofs.YthcfdoafncbliaaGreat
open Go.RowKit Go.Maps
set_option maxRecDepth 8000
def pcB (f : Func) : Code := f.body.getD .skip
def pcT (f : Func) : Code := sq2 (sq2 (sq2 (sq2 (pcB f))))
def pcL (f : Func) : Code := inLp (inBlk (sq2 (sq1 (pcT f))))
def pc8 (f : Func) : Code := inBlk (sq1 (sq2 (pcL f)))
def pc9 (f : Func) : Code := sq2 (pc8 f)
def pc10 (f : Func) : Code := sq2 (pc9 f)
def pc11 (f : Func) : Code := sq2 (pc10 f)
def pc13 (f : Func) : Code := sq2 (pc11 f)
def pc14 (f : Func) : Code := inLp (inBlk (sq2 (sq1 (pc13 f))))
def pc17 (f : Func) : Code := sq2 (pc13 f)
def pc18 (f : Func) : Code := sq2 (pc17 f)
def pc19 (f : Func) : Code := inLp (inBlk (sq2 (pc18 f)))
theorem pcT_eq : pcT Tryz.f3 = .seq (.seq (sq1 (sq1 (pcT Tryz.f3))) (.block 0 (.loop (pcL Tryz.f3)))) (sq2 (pcT Tryz.f3)) := by kernel_rfl
theorem pcL_eq : pcL Tryz.f3 = .seq (sq1 (pcL Tryz.f3)) (.seq (.block 1 (pc8 Tryz.f3)) (sq2 (sq2 (pcL Tryz.f3)))) := by kernel_rfl
theorem pc8_eq : pc8 Tryz.f3 = .seq (sq1 (pc8 Tryz.f3)) (pc9 Tryz.f3) := by kernel_rfl
theorem pc9_eq : pc9 Tryz.f3 = .seq (sq1 (pc9 Tryz.f3)) (pc10 Tryz.f3) := by kernel_rfl
theorem pc10_eq : pc10 Tryz.f3 = .seq (sq1 (pc10 Tryz.f3)) (pc11 Tryz.f3) := by kernel_rfl
theorem pc11_eq : pc11 Tryz.f3 = .seq (sq1 (pc11 Tryz.f3)) (pc13 Tryz.f3) := by kernel_rfl
theorem pc13_eq : pc13 Tryz.f3 = .seq (.seq (sq1 (sq1 (pc13 Tryz.f3))) (.block 2 (.loop (pc14 Tryz.f3)))) (pc17 Tryz.f3) := by kernel_rfl
theorem pc14_eq : pc14 Tryz.f3 = .seq (sq1 (pc14 Tryz.f3)) (sq2 (pc14 Tryz.f3)) := by kernel_rfl
theorem pc17_eq : pc17 Tryz.f3 = .seq (sq1 (pc17 Tryz.f3)) (pc18 Tryz.f3) := by kernel_rfl
theorem pc18_eq : pc18 Tryz.f3 = .seq (sq1 (pc18 Tryz.f3)) (.block 4 (.loop (pc19 Tryz.f3))) := by kernel_rfl
set_option maxRecDepth 100000 in
theorem lit120 (a : Act) (h : a.tmps.size = 120) (hd : a.defers = []) : ∃ u : Nat → Value, (∀ i, u i = a.tmps.getD i undef) ∧ a = ⟨#[u 0, u 1, u 2, u 3, u 4, u 5, u 6, u 7, u 8, u 9, u 10, u 11, u 12, u 13, u 14, u 15, u 16, u 17, u 18, u 19, u 20, u 21, u 22, u 23, u 24, u 25, u 26, u 27, u 28, u 29, u 30, u 31, u 32, u 33, u 34, u 35, u 36, u 37, u 38, u 39, u 40, u 41, u 42, u 43, u 44, u 45, u 46, u 47, u 48, u 49, u 50, u 51, u 52, u 53, u 54, u 55, u 56, u 57, u 58, u 59, u 60, u 61, u 62, u 63, u 64, u 65, u 66, u 67, u 68, u 69, u 70, u 71, u 72, u 73, u 74, u 75, u 76, u 77, u 78, u 79, u 80, u 81, u 82, u 83, u 84, u 85, u 86, u 87, u 88, u 89, u 90, u 91, u 92, u 93, u 94, u 95, u 96, u 97, u 98, u 99, u 100, u 101, u 102, u 103, u 104, u 105, u 106, u 107, u 108, u 109, u 110, u 111, u 112, u 113, u 114, u 115, u 116, u 117, u 118, u 119], []⟩ := by
  refine ⟨fun i => a.tmps.getD i undef, fun _ => rfl, ?_⟩
  obtain ⟨t, d⟩ := a
  dsimp only at h hd
  subst hd
  have e : t = ((List.range 120).map (fun i => t.getD i undef)).toArray := by
    apply Array.ext
    · simp [h]
    · intro i h1 h2
      simp [Array.getD, h1]
  refine congrArg (fun t' => Act.mk t' []) (e.trans ?_)
  rfl
structure GA (a : Act) (v0 v3 v4 v5 : Value) : Prop where
  size : a.tmps.size = 120
  defers : a.defers = []
  s0 : a.tmps.getD 0 undef = v0
  s3 : a.tmps.getD 3 undef = v3
  s4 : a.tmps.getD 4 undef = v4
  s5 : a.tmps.getD 5 undef = v5
theorem GA.lit {a : Act} {v0 v3 v4 v5 : Value} (h : GA a v0 v3 v4 v5) : ∃ u : Nat → Value, a = ⟨#[v0, u 1, u 2, v3, v4, v5, u 6, u 7, u 8, u 9, u 10, u 11, u 12, u 13, u 14, u 15, u 16, u 17, u 18, u 19, u 20, u 21, u 22, u 23, u 24, u 25, u 26, u 27, u 28, u 29, u 30, u 31, u 32, u 33, u 34, u 35, u 36, u 37, u 38, u 39, u 40, u 41, u 42, u 43, u 44, u 45, u 46, u 47, u 48, u 49, u 50, u 51, u 52, u 53, u 54, u 55, u 56, u 57, u 58, u 59, u 60, u 61, u 62, u 63, u 64, u 65, u 66, u 67, u 68, u 69, u 70, u 71, u 72, u 73, u 74, u 75, u 76, u 77, u 78, u 79, u 80, u 81, u 82, u 83, u 84, u 85, u 86, u 87, u 88, u 89, u 90, u 91, u 92, u 93, u 94, u 95, u 96, u 97, u 98, u 99, u 100, u 101, u 102, u 103, u 104, u 105, u 106, u 107, u 108, u 109, u 110, u 111, u 112, u 113, u 114, u 115, u 116, u 117, u 118, u 119], []⟩ := by
  obtain ⟨u, hu, e⟩ := lit120 a h.size h.defers
  refine ⟨u, e.trans ?_⟩
  rw [(hu 0).trans h.s0, (hu 3).trans h.s3, (hu 4).trans h.s4, (hu 5).trans h.s5]
structure GB (a : Act) (v0 v3 v4 v5 v6 : Value) : Prop where
  size : a.tmps.size = 120
  defers : a.defers = []
  s0 : a.tmps.getD 0 undef = v0
  s3 : a.tmps.getD 3 undef = v3
  s4 : a.tmps.getD 4 undef = v4
  s5 : a.tmps.getD 5 undef = v5
  s6 : a.tmps.getD 6 undef = v6
theorem GB.lit {a : Act} {v0 v3 v4 v5 v6 : Value} (h : GB a v0 v3 v4 v5 v6) : ∃ u : Nat → Value, a = ⟨#[v0, u 1, u 2, v3, v4, v5, v6, u 7, u 8, u 9, u 10, u 11, u 12, u 13, u 14, u 15, u 16, u 17, u 18, u 19, u 20, u 21, u 22, u 23, u 24, u 25, u 26, u 27, u 28, u 29, u 30, u 31, u 32, u 33, u 34, u 35, u 36, u 37, u 38, u 39, u 40, u 41, u 42, u 43, u 44, u 45, u 46, u 47, u 48, u 49, u 50, u 51, u 52, u 53, u 54, u 55, u 56, u 57, u 58, u 59, u 60, u 61, u 62, u 63, u 64, u 65, u 66, u 67, u 68, u 69, u 70, u 71, u 72, u 73, u 74, u 75, u 76, u 77, u 78, u 79, u 80, u 81, u 82, u 83, u 84, u 85, u 86, u 87, u 88, u 89, u 90, u 91, u 92, u 93, u 94, u 95, u 96, u 97, u 98, u 99, u 100, u 101, u 102, u 103, u 104, u 105, u 106, u 107, u 108, u 109, u 110, u 111, u 112, u 113, u 114, u 115, u 116, u 117, u 118, u 119], []⟩ := by
  obtain ⟨u, hu, e⟩ := lit120 a h.size h.defers
  refine ⟨u, e.trans ?_⟩
  rw [(hu 0).trans h.s0, (hu 3).trans h.s3, (hu 4).trans h.s4, (hu 5).trans h.s5, (hu 6).trans h.s6]
structure GC (a : Act) (v0 v3 v4 v5 v6 v7 v8 v9 : Value) : Prop where
  size : a.tmps.size = 120
  defers : a.defers = []
  s0 : a.tmps.getD 0 undef = v0
  s3 : a.tmps.getD 3 undef = v3
  s4 : a.tmps.getD 4 undef = v4
  s5 : a.tmps.getD 5 undef = v5
  s6 : a.tmps.getD 6 undef = v6
  s7 : a.tmps.getD 7 undef = v7
  s8 : a.tmps.getD 8 undef = v8
  s9 : a.tmps.getD 9 undef = v9
theorem GC.lit {a : Act} {v0 v3 v4 v5 v6 v7 v8 v9 : Value} (h : GC a v0 v3 v4 v5 v6 v7 v8 v9) : ∃ u : Nat → Value, a = ⟨#[v0, u 1, u 2, v3, v4, v5, v6, v7, v8, v9, u 10, u 11, u 12, u 13, u 14, u 15, u 16, u 17, u 18, u 19, u 20, u 21, u 22, u 23, u 24, u 25, u 26, u 27, u 28, u 29, u 30, u 31, u 32, u 33, u 34, u 35, u 36, u 37, u 38, u 39, u 40, u 41, u 42, u 43, u 44, u 45, u 46, u 47, u 48, u 49, u 50, u 51, u 52, u 53, u 54, u 55, u 56, u 57, u 58, u 59, u 60, u 61, u 62, u 63, u 64, u 65, u 66, u 67, u 68, u 69, u 70, u 71, u 72, u 73, u 74, u 75, u 76, u 77, u 78, u 79, u 80, u 81, u 82, u 83, u 84, u 85, u 86, u 87, u 88, u 89, u 90, u 91, u 92, u 93, u 94, u 95, u 96, u 97, u 98, u 99, u 100, u 101, u 102, u 103, u 104, u 105, u 106, u 107, u 108, u 109, u 110, u 111, u 112, u 113, u 114, u 115, u 116, u 117, u 118, u 119], []⟩ := by
  obtain ⟨u, hu, e⟩ := lit120 a h.size h.defers
  refine ⟨u, e.trans ?_⟩
  rw [(hu 0).trans h.s0, (hu 3).trans h.s3, (hu 4).trans h.s4, (hu 5).trans h.s5, (hu 6).trans h.s6, (hu 7).trans h.s7, (hu 8).trans h.s8, (hu 9).trans h.s9]
structure GD (a : Act) (v0 v3 v4 v5 v6 v7 v8 v9 v10 v11 v12 : Value) : Prop where
  size : a.tmps.size = 120
  defers : a.defers = []
  s0 : a.tmps.getD 0 undef = v0
  s3 : a.tmps.getD 3 undef = v3
  s4 : a.tmps.getD 4 undef = v4
  s5 : a.tmps.getD 5 undef = v5
  s6 : a.tmps.getD 6 undef = v6
  s7 : a.tmps.getD 7 undef = v7
  s8 : a.tmps.getD 8 undef = v8
  s9 : a.tmps.getD 9 undef = v9
  s10 : a.tmps.getD 10 undef = v10
  s11 : a.tmps.getD 11 undef = v11
  s12 : a.tmps.getD 12 undef = v12
theorem GD.lit {a : Act} {v0 v3 v4 v5 v6 v7 v8 v9 v10 v11 v12 : Value} (h : GD a v0 v3 v4 v5 v6 v7 v8 v9 v10 v11 v12) : ∃ u : Nat → Value, a = ⟨#[v0, u 1, u 2, v3, v4, v5, v6, v7, v8, v9, v10, v11, v12, u 13, u 14, u 15, u 16, u 17, u 18, u 19, u 20, u 21, u 22, u 23, u 24, u 25, u 26, u 27, u 28, u 29, u 30, u 31, u 32, u 33, u 34, u 35, u 36, u 37, u 38, u 39, u 40, u 41, u 42, u 43, u 44, u 45, u 46, u 47, u 48, u 49, u 50, u 51, u 52, u 53, u 54, u 55, u 56, u 57, u 58, u 59, u 60, u 61, u 62, u 63, u 64, u 65, u 66, u 67, u 68, u 69, u 70, u 71, u 72, u 73, u 74, u 75, u 76, u 77, u 78, u 79, u 80, u 81, u 82, u 83, u 84, u 85, u 86, u 87, u 88, u 89, u 90, u 91, u 92, u 93, u 94, u 95, u 96, u 97, u 98, u 99, u 100, u 101, u 102, u 103, u 104, u 105, u 106, u 107, u 108, u 109, u 110, u 111, u 112, u 113, u 114, u 115, u 116, u 117, u 118, u 119], []⟩ := by
  obtain ⟨u, hu, e⟩ := lit120 a h.size h.defers
  refine ⟨u, e.trans ?_⟩
  rw [(hu 0).trans h.s0, (hu 3).trans h.s3, (hu 4).trans h.s4, (hu 5).trans h.s5, (hu 6).trans h.s6, (hu 7).trans h.s7, (hu 8).trans h.s8, (hu 9).trans h.s9, (hu 10).trans h.s10, (hu 11).trans h.s11, (hu 12).trans h.s12]
structure GE (a : Act) (v0 v3 v4 v5 v6 v13 : Value) : Prop where
  size : a.tmps.size = 120
  defers : a.defers = []
  s0 : a.tmps.getD 0 undef = v0
  s3 : a.tmps.getD 3 undef = v3
  s4 : a.tmps.getD 4 undef = v4
  s5 : a.tmps.getD 5 undef = v5
  s6 : a.tmps.getD 6 undef = v6
  s13 : a.tmps.getD 13 undef = v13
theorem GE.lit {a : Act} {v0 v3 v4 v5 v6 v13 : Value} (h : GE a v0 v3 v4 v5 v6 v13) : ∃ u : Nat → Value, a = ⟨#[v0, u 1, u 2, v3, v4, v5, v6, u 7, u 8, u 9, u 10, u 11, u 12, v13, u 14, u 15, u 16, u 17, u 18, u 19, u 20, u 21, u 22, u 23, u 24, u 25, u 26, u 27, u 28, u 29, u 30, u 31, u 32, u 33, u 34, u 35, u 36, u 37, u 38, u 39, u 40, u 41, u 42, u 43, u 44, u 45, u 46, u 47, u 48, u 49, u 50, u 51, u 52, u 53, u 54, u 55, u 56, u 57, u 58, u 59, u 60, u 61, u 62, u 63, u 64, u 65, u 66, u 67, u 68, u 69, u 70, u 71, u 72, u 73, u 74, u 75, u 76, u 77, u 78, u 79, u 80, u 81, u 82, u 83, u 84, u 85, u 86, u 87, u 88, u 89, u 90, u 91, u 92, u 93, u 94, u 95, u 96, u 97, u 98, u 99, u 100, u 101, u 102, u 103, u 104, u 105, u 106, u 107, u 108, u 109, u 110, u 111, u 112, u 113, u 114, u 115, u 116, u 117, u 118, u 119], []⟩ := by
  obtain ⟨u, hu, e⟩ := lit120 a h.size h.defers
  refine ⟨u, e.trans ?_⟩
  rw [(hu 0).trans h.s0, (hu 3).trans h.s3, (hu 4).trans h.s4, (hu 5).trans h.s5, (hu 6).trans h.s6, (hu 13).trans h.s13]
structure GF (a : Act) (v0 v3 v4 v5 v14 : Value) : Prop where
  size : a.tmps.size = 120
  defers : a.defers = []
  s0 : a.tmps.getD 0 undef = v0
  s3 : a.tmps.getD 3 undef = v3
  s4 : a.tmps.getD 4 undef = v4
  s5 : a.tmps.getD 5 undef = v5
  s14 : a.tmps.getD 14 undef = v14
theorem GF.lit {a : Act} {v0 v3 v4 v5 v14 : Value} (h : GF a v0 v3 v4 v5 v14) : ∃ u : Nat → Value, a = ⟨#[v0, u 1, u 2, v3, v4, v5, u 6, u 7, u 8, u 9, u 10, u 11, u 12, u 13, v14, u 15, u 16, u 17, u 18, u 19, u 20, u 21, u 22, u 23, u 24, u 25, u 26, u 27, u 28, u 29, u 30, u 31, u 32, u 33, u 34, u 35, u 36, u 37, u 38, u 39, u 40, u 41, u 42, u 43, u 44, u 45, u 46, u 47, u 48, u 49, u 50, u 51, u 52, u 53, u 54, u 55, u 56, u 57, u 58, u 59, u 60, u 61, u 62, u 63, u 64, u 65, u 66, u 67, u 68, u 69, u 70, u 71, u 72, u 73, u 74, u 75, u 76, u 77, u 78, u 79, u 80, u 81, u 82, u 83, u 84, u 85, u 86, u 87, u 88, u 89, u 90, u 91, u 92, u 93, u 94, u 95, u 96, u 97, u 98, u 99, u 100, u 101, u 102, u 103, u 104, u 105, u 106, u 107, u 108, u 109, u 110, u 111, u 112, u 113, u 114, u 115, u 116, u 117, u 118, u 119], []⟩ := by
  obtain ⟨u, hu, e⟩ := lit120 a h.size h.defers
  refine ⟨u, e.trans ?_⟩
  rw [(hu 0).trans h.s0, (hu 3).trans h.s3, (hu 4).trans h.s4, (hu 5).trans h.s5, (hu 14).trans h.s14]
structure GG (a : Act) (v0 v3 v4 v5 v14 v15 : Value) : Prop where
  size : a.tmps.size = 120
  defers : a.defers = []
  s0 : a.tmps.getD 0 undef = v0
  s3 : a.tmps.getD 3 undef = v3
  s4 : a.tmps.getD 4 undef = v4
  s5 : a.tmps.getD 5 undef = v5
  s14 : a.tmps.getD 14 undef = v14
  s15 : a.tmps.getD 15 undef = v15
theorem GG.lit {a : Act} {v0 v3 v4 v5 v14 v15 : Value} (h : GG a v0 v3 v4 v5 v14 v15) : ∃ u : Nat → Value, a = ⟨#[v0, u 1, u 2, v3, v4, v5, u 6, u 7, u 8, u 9, u 10, u 11, u 12, u 13, v14, v15, u 16, u 17, u 18, u 19, u 20, u 21, u 22, u 23, u 24, u 25, u 26, u 27, u 28, u 29, u 30, u 31, u 32, u 33, u 34, u 35, u 36, u 37, u 38, u 39, u 40, u 41, u 42, u 43, u 44, u 45, u 46, u 47, u 48, u 49, u 50, u 51, u 52, u 53, u 54, u 55, u 56, u 57, u 58, u 59, u 60, u 61, u 62, u 63, u 64, u 65, u 66, u 67, u 68, u 69, u 70, u 71, u 72, u 73, u 74, u 75, u 76, u 77, u 78, u 79, u 80, u 81, u 82, u 83, u 84, u 85, u 86, u 87, u 88, u 89, u 90, u 91, u 92, u 93, u 94, u 95, u 96, u 97, u 98, u 99, u 100, u 101, u 102, u 103, u 104, u 105, u 106, u 107, u 108, u 109, u 110, u 111, u 112, u 113, u 114, u 115, u 116, u 117, u 118, u 119], []⟩ := by
  obtain ⟨u, hu, e⟩ := lit120 a h.size h.defers
  refine ⟨u, e.trans ?_⟩
  rw [(hu 0).trans h.s0, (hu 3).trans h.s3, (hu 4).trans h.s4, (hu 5).trans h.s5, (hu 14).trans h.s14, (hu 15).trans h.s15]
theorem GB.ga {a : Act} {v0 v3 v4 v5 v6 : Value} (h : GB a v0 v3 v4 v5 v6) : GA a v0 v3 v4 v5 := ⟨h.size, h.defers, h.s0, h.s3, h.s4, h.s5⟩
theorem GD.gb {a : Act} {v0 v3 v4 v5 v6 v7 v8 v9 v10 v11 v12 : Value} (h : GD a v0 v3 v4 v5 v6 v7 v8 v9 v10 v11 v12) : GB a v0 v3 v4 v5 v6 := ⟨h.size, h.defers, h.s0, h.s3, h.s4, h.s5, h.s6⟩
/-- The cells of a message. -/
def msgC (M : Msg) (sa : Option Addr) (sc : Nat) (oa : Option Addr) (oc : Nat) (ba : Option Addr) (bc : Nat) : Array Value := #[.int .i64 M.kind, .slice sa M.sys.length sc, .int .i64 M.config, .int .i64 M.result, .int .i64 M.reason, .slice oa M.objs.length oc, .slice ba M.obs.length bc]
/-- Message k of the list. -/
def AtK (w : World) (b off k : Nat) (M : Msg) (sa : Option Addr) (sc : Nat) (oa : Option Addr) (oc : Nat) (ba : Option Addr) (bc : Nat) : Prop := w.cell? ⟨b, off + k * 7, none⟩ = some (.int .i64 M.kind) ∧ w.cell? ⟨b, off + k * 7 + 1, none⟩ = some (.slice sa M.sys.length sc) ∧ w.cell? ⟨b, off + k * 7 + 2, none⟩ = some (.int .i64 M.config) ∧ w.cell? ⟨b, off + k * 7 + 3, none⟩ = some (.int .i64 M.result) ∧ w.cell? ⟨b, off + k * 7 + 4, none⟩ = some (.int .i64 M.reason) ∧ w.cell? ⟨b, off + k * 7 + 5, none⟩ = some (.slice oa M.objs.length oc) ∧ w.cell? ⟨b, off + k * 7 + 6, none⟩ = some (.slice ba M.obs.length bc)
theorem AtK.but {S : Nat → Prop} {w w' : World} {b off k : Nat} {M : Msg} {sa : Option Addr} {sc : Nat} {oa : Option Addr} {oc : Nat} {ba : Option Addr} {bc : Nat} (h : AtK w b off k M sa sc oa oc ba bc) (t : But S w w') (hb : b < w.heap.size) (hn : ¬ S b) : AtK w' b off k M sa sc oa oc ba bc := by
  obtain ⟨h0, h1, h2, h3, h4, h5, h6⟩ := h
  exact ⟨by rw [t.cell hb hn]; exact h0, by rw [t.cell hb hn]; exact h1, by rw [t.cell hb hn]; exact h2, by rw [t.cell hb hn]; exact h3, by rw [t.cell hb hn]; exact h4, by rw [t.cell hb hn]; exact h5, by rw [t.cell hb hn]; exact h6⟩
set_option maxHeartbeats 1000000 in
/-- The copy. -/
theorem plPart8 {Q : Exit → Act → World → Prop} {a : Act} {w : World} {T : Nat → Prop} {b off n c k : Nat} {v3 v4 : Value} {M : Msg} {sa : Option Addr} {sc : Nat} {oa : Option Addr} {oc : Nat} {ba : Option Addr} {bc : Nat} (hf : GA a (.slice (some ⟨b, off, none⟩) n c) v3 v4 (.int .i64 (k : Int))) (hkn : (k : Int) < (n : Int)) (_hb : b < w.heap.size) (hcs : AtK w b off k M sa sc oa oc ba bc) (y : MsgX w T M sa sc oa oc ba bc) (hob : M.objs.length * 24 ≤ 140737488355328) (hbb : M.obs.length * 16 ≤ 140737488355328)
    (hK : ∀ a' w' gi sa' sc' oa' oc' ba' bc', GB a' (.slice (some ⟨b, off, none⟩) n c) v3 v4 (.int .i64 (k : Int)) (Ptr gi) → w.heap.size ≤ gi → w'.heap[gi]? = some (.cells (msgC M sa' sc' oa' oc' ba' bc') 31 (0, 0)) → MsgX w' (fun k => w.heap.size ≤ k ∧ k < gi) M sa' sc' oa' oc' ba' bc' → (∀ y, oa' = some y → Soft w' y.block ∧ w.heap.size ≤ y.block ∧ y.block < gi) → After w w' → Q .normal a' w') : Code.wp Tryz.prog (sq1 (pc8 Tryz.f3)) Q a w := by
  obtain ⟨u, rfl⟩ := hf.lit
  have HC := hideIt (copy_msgF w T M sa sc oa oc ba bc y hob hbb)
  rw [show M.val sa sc oa oc ba bc = .agg #[.int .i64 M.kind, .slice sa M.sys.length sc, .int .i64 M.config, .int .i64 M.result, .int .i64 M.reason, .slice oa M.objs.length oc, .slice ba M.obs.length bc] from rfl] at HC
  obtain ⟨z0, z1, z2, z3, z4, z5, z6⟩ := hcs
  have HV := hideIt (show ∀ sa sc oa oc ba bc, M.val sa sc oa oc ba bc = .agg #[.int .i64 M.kind, .slice sa M.sys.length sc, .int .i64 M.config, .int .i64 M.result, .int .i64 M.reason, .slice oa M.objs.length oc, .slice ba M.obs.length bc] from fun _ _ _ _ _ _ => rfl)
  have HK := hideIt hK
  clear hf hK y hob hbb
  conv => arg 2; whnf
  go_wp2_with fail
  refine HC.out.mono ?_
  rintro e w1 ⟨sa', sc', oa', oc', ba', bc', rfl, y1, a1, s1⟩
  rw [HV.out]
  have HY := hideIt (And.intro y1 (And.intro a1 s1))
  clear y1 a1 s1 HC z0 z1 z2 z3 z4 z5 z6
  go_wp2_with fail
  obtain ⟨y1, a1, s1⟩ := HY.out
  have hsz := a1.size
  refine HK.out _ _ w1.heap.size sa' sc' oa' oc' ba' bc' ⟨rfl, rfl, rfl, rfl, rfl, rfl, rfl⟩ hsz ?_ ?_ ?_ ?_
  · exact new1 _ _
  · exact (y1.upto.mono (T := fun k => w.heap.size ≤ k ∧ k < w1.heap.size) (fun k hk => hk)).after (After.rfl.alloc _)
  · intro z hz
    have hz1 := s1 z hz
    obtain ⟨⟨cs, T', e⟩, hge⟩ := hz1
    exact ⟨Soft.but ⟨cs, T', e⟩ (After.rfl.alloc _) (fun t => t), hge, (Array.getElem?_eq_some_iff.1 e).1⟩
  · exact a1.trans (After.rfl.alloc _)
set_option maxHeartbeats 1000000 in
/-- The program's Handle. -/
theorem plPart9 {Q : Exit → Act → World → Prop} {a : Act} {w : World} {P T : Nat → Prop} {g1 gi : Nat} {st : Mg} {v0 v4 v5 : Value} {M : Msg} {sa : Option Addr} {sc : Nat} {oa : Option Addr} {oc : Nat} {ba : Option Addr} {bc : Nat} (x : MgAt w P g1 st) (hf : GB a v0 (Ptr g1) v4 v5 (Ptr gi)) (hin : w.heap[gi]? = some (.cells (msgC M sa sc oa oc ba bc) 31 (0, 0))) (y : MsgX w T M sa sc oa oc ba bc) (hT : ¬ T g1) (hTl : ∀ k, T k → k < w.heap.size)
    (hK : ∀ a' w' v7 v8, GC a' v0 (Ptr g1) v4 v5 (Ptr gi) v7 v8 (.int .i64 (handle st M).er) → AnsAt w' w.heap.size v7 (handle st M).an → SmAt w' w.heap.size v8 (handle st M).sm → MgAt w' (fun k => P k ∨ w.heap.size ≤ k) g1 (handle st M).st → But (One g1) w w' → Q .normal a' w') : Code.wp Tryz.prog (sq1 (pc9 Tryz.f3)) Q a w := by
  obtain ⟨u, rfl⟩ := hf.lit
  have H1 := hideIt (handle_any x M sa sc oa oc ba bc y hT hTl)
  rw [show M.val sa sc oa oc ba bc = .agg #[.int .i64 M.kind, .slice sa M.sys.length sc, .int .i64 M.config, .int .i64 M.result, .int .i64 M.reason, .slice oa M.objs.length oc, .slice ba M.obs.length bc] from rfl] at H1
  unfold msgC at hin
  obtain ⟨_, ⟨k0, k1, k2, k3, k4, k5, k6⟩, _⟩ := seven_at hin
  have HK := hideIt hK
  clear hf hK y hT hTl x hin
  generalize handle st M = O at *
  conv => arg 2; whnf
  go_wp2_with fail
  refine H1.out.mono ?_
  rintro e w3 ⟨⟨v1, v2, rfl, hv1, hv2⟩, x3, b3⟩
  have HX := hideIt (And.intro hv1 (And.intro hv2 (And.intro x3 b3)))
  clear hv1 hv2 x3 b3 H1 k0 k1 k2 k3 k4 k5 k6
  go_wp2_with fail
  exact HK.out _ _ v1 v2 ⟨rfl, rfl, rfl, rfl, rfl, rfl, rfl, rfl, rfl, rfl⟩ HX.out.1 HX.out.2.1 HX.out.2.2.1 HX.out.2.2.2
set_option maxHeartbeats 1000000 in
/-- The document's Handle. -/
theorem plPart10 {Q : Exit → Act → World → Prop} {a : Act} {w : World} {P T : Nat → Prop} {g2 : Nat} {st : Mg} {v3 v6 v7 v8 v9 : Value} {b off n c k : Nat} {M : Msg} {sa : Option Addr} {sc : Nat} {oa : Option Addr} {oc : Nat} {ba : Option Addr} {bc : Nat} (x : RgAt w P g2 st) (hsv : st.state = 0 ∨ st.state = 1 ∨ st.state = 2) (hf : GC a (.slice (some ⟨b, off, none⟩) n c) v3 (Ptr g2) (.int .i64 (k : Int)) v6 v7 v8 v9) (hkn : (k : Int) < (n : Int)) (_hb : b < w.heap.size) (hcs : AtK w b off k M sa sc oa oc ba bc) (y : MsgX w T M sa sc oa oc ba bc) (hT : ¬ T g2)
    (hK : ∀ a' w' v10 v11, GD a' (.slice (some ⟨b, off, none⟩) n c) v3 (Ptr g2) (.int .i64 (k : Int)) v6 v7 v8 v9 v10 v11 (.int .i64 (handle st M).er) → AnsAt w' w.heap.size v10 (handle st M).an → SmAt w' w.heap.size v11 (handle st M).sm → RgAt w' (fun k => P k ∨ w.heap.size ≤ k) g2 (handle st M).st → But (One g2) w w' → Q .normal a' w') : Code.wp Tryz.prog (sq1 (pc10 Tryz.f3)) Q a w := by
  obtain ⟨u, rfl⟩ := hf.lit
  have H1 := hideIt (rgHandle_any x hsv M sa sc oa oc ba bc y hT)
  rw [show M.val sa sc oa oc ba bc = .agg #[.int .i64 M.kind, .slice sa M.sys.length sc, .int .i64 M.config, .int .i64 M.result, .int .i64 M.reason, .slice oa M.objs.length oc, .slice ba M.obs.length bc] from rfl] at H1
  obtain ⟨z0, z1, z2, z3, z4, z5, z6⟩ := hcs
  have HK := hideIt hK
  clear hf hK y hT x hsv
  generalize handle st M = O at *
  conv => arg 2; whnf
  go_wp2_with fail
  refine H1.out.mono ?_
  rintro e w3 ⟨⟨v1, v2, rfl, hv1, hv2⟩, x3, b3⟩
  have HX := hideIt (And.intro hv1 (And.intro hv2 (And.intro x3 b3)))
  clear hv1 hv2 x3 b3 H1 z0 z1 z2 z3 z4 z5 z6
  go_wp2_with fail
  exact HK.out _ _ v1 v2 ⟨rfl, rfl, rfl, rfl, rfl, rfl, rfl, rfl, rfl, rfl, rfl, rfl, rfl⟩ HX.out.1 HX.out.2.1 HX.out.2.2.1 HX.out.2.2.2
end Go.Proofs.YthcfdoafncbliaaGreat
/-
  AssocPlays: what was answered, told and kept is held against the document's.
-/
namespace Go.Proofs.YthcfdoafncbliaaGreat
open Go.RowKit Go.Maps
set_option maxRecDepth 8000
def t11 (n : Nat) (l : List T3) (vals : List Value) (i : Nat) (v : Value) (w : World) : Prop := if i = 26 then ∃ a c, v = .slice a n c ∧ RowT w a n l else v = vals.getD i undef
theorem t11_after {n : Nat} {l : List T3} {vals : List Value} {i : Nat} {v : Value} {w w' : World} (h : t11 n l vals i v w) (hA : After w w') : t11 n l vals i v w' := by
  unfold t11 at h ⊢
  split at h
  · rename_i e
    rw [if_pos e]
    obtain ⟨a1, c1, e1, r1⟩ := h
    exact ⟨a1, c1, e1, r1.after hA⟩
  · rename_i e
    rw [if_neg e]
    exact h
/-- What lies in memory, and what the calls say of it. -/
structure H11 (w0 : World) (v7 v8 v10 v11 : Value) (g1 g2 gi : Nat) (st : Mg) (oa2 : Option Addr) (oc2 : Nat) (M : Msg) (sa1 : Option Addr) (sc1 : Nat) (oa1 : Option Addr) (oc1 : Nat) (ba1 : Option Addr) (bc1 : Nat) (sa : Option Addr) (sc : Nat) (oa : Option Addr) (oc : Nat) (ba : Option Addr) (bc : Nat) (b off k : Nat) : Prop where
  rg0 : ∀ {w}, After w0 w → w.cell? ⟨g2, 0, none⟩ = some (.int .i64 st.state)
  rg2 : ∀ {w}, After w0 w → w.cell? ⟨g2, 2, none⟩ = some (.slice oa2 st.objs.length oc2)
  lin : ∀ {w}, After w0 w → (Instr.loadAt 31 (Ptr gi)).run Tryz.prog w = .ok (.agg (msgC M sa1 sc1 oa1 oc1 ba1 bc1)) w
  lmsg : ∀ {w}, After w0 w → (Instr.loadAt 31 (.pointer (some ⟨b, off + k * 7, none⟩))).run Tryz.prog w = .ok (.agg (msgC M sa sc oa oc ba bc)) w
  ans : ∀ {w}, After w0 w → Calls Tryz.prog 10 #[v7, v10] w fun e w' => e = .returned (.bool true) ∧ After w w'
  sam : ∀ {w}, After w0 w → Calls Tryz.prog 11 #[v8, v11] w fun e w' => e = .returned (.bool true) ∧ After w w'
  sta : ∀ {w}, After w0 w → Calls Tryz.prog 12 #[Ptr g1] w fun e w' => e = .returned (.int .i64 st.state) ∧ w' = w
  obj : ∀ {w}, After w0 w → Calls Tryz.prog 14 #[Ptr g1] w fun e w' => ∃ v a c, e = .returned v ∧ v = .slice a st.objs.length c ∧ RowT w' a st.objs.length (st.objs.map Ob.t3) ∧ After w w'
  obs : ∀ {w}, After w0 w → ∀ a c, RowT w a st.objs.length (st.objs.map Ob.t3) → Calls Tryz.prog 13 #[.slice a st.objs.length c, .slice oa2 st.objs.length oc2] w fun e w' => e = .returned (.bool true) ∧ After w w'
  sme : ∀ {w}, After w0 w → Calls Tryz.prog 15 #[.agg (msgC M sa1 sc1 oa1 oc1 ba1 bc1), .agg (msgC M sa sc oa oc ba bc)] w fun e w' => e = .returned (.bool true) ∧ After w w'
theorem GD.put {a : Act} {v0 v3 v4 v5 v6 v7 v8 v9 v10 v11 v12 v : Value} {s : Nat} (h : GD a v0 v3 v4 v5 v6 v7 v8 v9 v10 v11 v12) (hs : 12 < s ∧ s < 120) : GD (a.put (some s) v) v0 v3 v4 v5 v6 v7 v8 v9 v10 v11 v12 := by
  obtain ⟨h1, h2, g0, g3, g4, g5, g6, g7, g8, g9, g10, g11, g12⟩ := h
  have hz : s < a.tmps.size := by omega
  refine ⟨by show (a.tmps.setIfInBounds s v).size = 120; rw [Array.size_setIfInBounds]; exact h1, h2, ?_, ?_, ?_, ?_, ?_, ?_, ?_, ?_, ?_, ?_, ?_⟩
  all_goals
    rw [getD_put hz, if_neg (by omega)]
    assumption
set_option maxRecDepth 100000 in
set_option maxHeartbeats 4000000 in
theorem plPart11 {Q : Exit → Act → World → Prop} {a : Act} {w0 : World} {v7 v8 v10 v11 : Value} {er : Int} {g1 g2 gi : Nat} {st : Mg} {oa2 : Option Addr} {oc2 : Nat} {M : Msg} {sa1 : Option Addr} {sc1 : Nat} {oa1 : Option Addr} {oc1 : Nat} {ba1 : Option Addr} {bc1 : Nat} {sa : Option Addr} {sc : Nat} {oa : Option Addr} {oc : Nat} {ba : Option Addr} {bc : Nat} {b off n c k : Nat} (hf : GD a (.slice (some ⟨b, off, none⟩) n c) (Ptr g1) (Ptr g2) (.int .i64 (k : Int)) (Ptr gi) v7 v8 (.int .i64 er) v10 v11 (.int .i64 er)) (hkn : (k : Int) < (n : Int)) (H : H11 w0 v7 v8 v10 v11 g1 g2 gi st oa2 oc2 M sa1 sc1 oa1 oc1 ba1 bc1 sa sc oa oc ba bc b off k)
    (hK : ∀ a' w', GB a' (.slice (some ⟨b, off, none⟩) n c) (Ptr g1) (Ptr g2) (.int .i64 (k : Int)) (Ptr gi) → After w0 w' → Q .normal a' w') : Code.wp Tryz.prog (sq1 (pc11 Tryz.f3)) Q a w0 := by
  show Code.wp Tryz.prog (.seq (sq1 (sq1 (pc11 Tryz.f3))) (sq2 (sq1 (pc11 Tryz.f3)))) Q a w0
  refine wp_seq ?_
  conv => arg 2; whnf
  refine region_one (by kernel_rfl) (t11 st.objs.length (st.objs.map Ob.t3) [.int .i64 er, .int .i64 er, .bool false, .bool false, v7, v10, .bool true, .bool false, .bool false, .bool false, v8, v11, .bool true, .bool false, .bool false, .bool false, Ptr g1, .int .i64 st.state, Ptr g2, Ptr g2, .pointer (some ⟨g2, 0, none⟩), .int .i64 st.state, .bool false, .bool false, .bool false, Ptr g1, undef, Ptr g2, Ptr g2, .pointer (some ⟨g2, 2, none⟩), .slice oa2 st.objs.length oc2, .bool true, .bool false, .bool false, .bool false, .agg (msgC M sa1 sc1 oa1 oc1 ba1 bc1), .slice (some ⟨b, off, none⟩) n c, .int .i64 (k : Int), .pointer (some ⟨b, off + k * 7, none⟩), .agg (msgC M sa sc oa oc ba bc), .bool true, .bool false]) (DD 52) (fun a w => GD a (.slice (some ⟨b, off, none⟩) n c) (Ptr g1) (Ptr g2) (.int .i64 (k : Int)) (Ptr gi) v7 v8 (.int .i64 er) v10 v11 (.int .i64 er) ∧ After w0 w) 42 120 _ rfl rfl hf.size (fun i v w w' h hA => t11_after h hA) (fun i j _ _ h => by unfold DD at h; omega) (fun i hi => by unfold DD; omega) (fun a w k v w' _ hb hk hA => ⟨hb.1.put (by unfold DD; omega), hb.2.trans hA⟩) ⟨hf, But.drew After.rfl⟩ ?_ rfl rfl 12 rfl ?_
  · exact ⟨op_mk rfl rfl (.inl rfl) (fun a w K Q _ hb hk => wp_move rfl (hk _ _ hb.1.s9 After.rfl)),
      op_mk rfl rfl (.inl rfl) (fun a w K Q _ hb hk => wp_move rfl (hk _ _ hb.1.s12 After.rfl)),
      op_mk rfl rfl (.inl rfl) (fun a w K Q hd _ hk => wp_neq rfl (fun w => neq_err _ w) (fun w => guard_any _ _ _ _ _ w) (hd 0 rfl) (hd 1 rfl) (hk _ _ rfl After.rfl)),
      op_mk rfl rfl (.inl rfl) (fun a w K Q hd _ hk => wp_move rfl (hk _ _ (hd 2 rfl) After.rfl)),
      op_mk rfl rfl (.inr ⟨3, false, rfl, rfl, fun v w h => h⟩) (fun a w K Q _ hb hk => wp_move rfl (hk _ _ hb.1.s7 After.rfl)),
      op_mk rfl rfl (.inr ⟨3, false, rfl, rfl, fun v w h => h⟩) (fun a w K Q _ hb hk => wp_move rfl (hk _ _ hb.1.s10 After.rfl)),
      op_mk rfl rfl (.inr ⟨3, false, rfl, rfl, fun v w h => h⟩) (fun a w K Q hd hb hk => wp_func rfl (enter_of Tryz.func10 (by kernel_rfl) (by kernel_rfl)) (by rw [map2, show a.eval (.tmp 56) = v7 from hd 4 rfl, show a.eval (.tmp 57) = v10 from hd 5 rfl]; exact (H.ans hb.2).mono (fun e w1 h => ⟨_, h.1, hk _ _ rfl h.2⟩))),
      op_mk rfl rfl (.inr ⟨3, false, rfl, rfl, fun v w h => h⟩) (fun a w K Q hd _ hk => wp_not (b := true) rfl (hd 6 rfl) (hk _ _ rfl After.rfl)),
      op_mk rfl rfl (.inl rfl) (fun a w K Q hd _ hk => wp_pick (b := false) rfl (hd 3 rfl) (hk _ _ (hd 7 rfl) After.rfl)),
      op_mk rfl rfl (.inl rfl) (fun a w K Q hd _ hk => wp_move rfl (hk _ _ (hd 8 rfl) After.rfl)),
      op_mk rfl rfl (.inr ⟨9, false, rfl, rfl, fun v w h => h⟩) (fun a w K Q _ hb hk => wp_move rfl (hk _ _ hb.1.s8 After.rfl)),
      op_mk rfl rfl (.inr ⟨9, false, rfl, rfl, fun v w h => h⟩) (fun a w K Q _ hb hk => wp_move rfl (hk _ _ hb.1.s11 After.rfl)),
      op_mk rfl rfl (.inr ⟨9, false, rfl, rfl, fun v w h => h⟩) (fun a w K Q hd hb hk => wp_func rfl (enter_of Tryz.func11 (by kernel_rfl) (by kernel_rfl)) (by rw [map2, show a.eval (.tmp 62) = v8 from hd 10 rfl, show a.eval (.tmp 63) = v11 from hd 11 rfl]; exact (H.sam hb.2).mono (fun e w1 h => ⟨_, h.1, hk _ _ rfl h.2⟩))),
      op_mk rfl rfl (.inr ⟨9, false, rfl, rfl, fun v w h => h⟩) (fun a w K Q hd _ hk => wp_not (b := true) rfl (hd 12 rfl) (hk _ _ rfl After.rfl)),
      op_mk rfl rfl (.inl rfl) (fun a w K Q hd _ hk => wp_pick (b := false) rfl (hd 9 rfl) (hk _ _ (hd 13 rfl) After.rfl)),
      op_mk rfl rfl (.inl rfl) (fun a w K Q hd _ hk => wp_move rfl (hk _ _ (hd 14 rfl) After.rfl)),
      op_mk rfl rfl (.inr ⟨15, false, rfl, rfl, fun v w h => h⟩) (fun a w K Q _ hb hk => wp_move rfl (hk _ _ hb.1.s3 After.rfl)),
      op_mk rfl rfl (.inr ⟨15, false, rfl, rfl, fun v w h => h⟩) (fun a w K Q hd hb hk => wp_func rfl (enter_of Tryz.func12 (by kernel_rfl) (by kernel_rfl)) (by rw [map1, show a.eval (.tmp 68) = Ptr g1 from hd 16 rfl]; exact (H.sta hb.2).mono (fun e w1 h => ⟨_, h.1, hk _ _ rfl (by rw [h.2]; exact After.rfl)⟩))),
      op_mk rfl rfl (.inr ⟨15, false, rfl, rfl, fun v w h => h⟩) (fun a w K Q _ hb hk => wp_move rfl (hk _ _ hb.1.s4 After.rfl)),
      op_mk rfl rfl (.inr ⟨15, false, rfl, rfl, fun v w h => h⟩) (fun a w K Q hd _ hk => wp_nil rfl (hd 18 rfl) (hk _ _ rfl After.rfl)),
      op_mk rfl rfl (.inr ⟨15, false, rfl, rfl, fun v w h => h⟩) (fun a w K Q hd _ hk => wp_field rfl (hd 19 rfl) (field_rg0 w g2) (hk _ _ rfl After.rfl)),
      op_mk rfl rfl (.inr ⟨15, false, rfl, rfl, fun v w h => h⟩) (fun a w K Q hd hb hk => wp_load rfl (hd 20 rfl) (load_int (H.rg0 hb.2)) (hk _ _ rfl After.rfl)),
      op_mk rfl rfl (.inr ⟨15, false, rfl, rfl, fun v w h => h⟩) (fun a w K Q hd _ hk => wp_neq rfl (fun w => neq_int _ w) (fun w => guard_any _ _ _ _ _ w) (hd 17 rfl) (hd 21 rfl) (hk _ _ rfl After.rfl)),
      op_mk rfl rfl (.inl rfl) (fun a w K Q hd _ hk => wp_pick (b := false) rfl (hd 15 rfl) (hk _ _ (hd 22 rfl) After.rfl)),
      op_mk rfl rfl (.inl rfl) (fun a w K Q hd _ hk => wp_move rfl (hk _ _ (hd 23 rfl) After.rfl)),
      op_mk rfl rfl (.inr ⟨24, false, rfl, rfl, fun v w h => h⟩) (fun a w K Q _ hb hk => wp_move rfl (hk _ _ hb.1.s3 After.rfl)),
      op_mk rfl rfl (.inr ⟨24, false, rfl, rfl, fun v w h => h⟩) (fun a w K Q hd hb hk => wp_func rfl (enter_of Tryz.func14 (by kernel_rfl) (by kernel_rfl)) (by rw [map1, show a.eval (.tmp 77) = Ptr g1 from hd 25 rfl]; exact (H.obj hb.2).mono (fun e w1 h => by obtain ⟨v, a9, c9, rfl, rfl, hr, hA⟩ := h; exact ⟨_, rfl, hk _ _ ⟨a9, c9, rfl, hr⟩ hA⟩))),
      op_mk rfl rfl (.inr ⟨24, false, rfl, rfl, fun v w h => h⟩) (fun a w K Q _ hb hk => wp_move rfl (hk _ _ hb.1.s4 After.rfl)),
      op_mk rfl rfl (.inr ⟨24, false, rfl, rfl, fun v w h => h⟩) (fun a w K Q hd _ hk => wp_nil rfl (hd 27 rfl) (hk _ _ rfl After.rfl)),
      op_mk rfl rfl (.inr ⟨24, false, rfl, rfl, fun v w h => h⟩) (fun a w K Q hd _ hk => wp_field rfl (hd 28 rfl) (field_rg2 w g2) (hk _ _ rfl After.rfl)),
      op_mk rfl rfl (.inr ⟨24, false, rfl, rfl, fun v w h => h⟩) (fun a w K Q hd hb hk => wp_load rfl (hd 29 rfl) (load_objs (H.rg2 hb.2)) (hk _ _ rfl After.rfl)),
      op_mk rfl rfl (.inr ⟨24, false, rfl, rfl, fun v w h => h⟩) (fun a w K Q hd hb hk => wp_func rfl (enter_of Tryz.func13 (by kernel_rfl) (by kernel_rfl)) (by obtain ⟨a9, c9, e9, hr9⟩ := hd 26 rfl; rw [map2, show a.eval (.tmp 78) = .slice a9 st.objs.length c9 from e9, show a.eval (.tmp 82) = .slice oa2 st.objs.length oc2 from hd 30 rfl]; exact (H.obs hb.2 a9 c9 hr9).mono (fun e w1 h => ⟨_, h.1, hk _ _ rfl h.2⟩))),
      op_mk rfl rfl (.inr ⟨24, false, rfl, rfl, fun v w h => h⟩) (fun a w K Q hd _ hk => wp_not (b := true) rfl (hd 31 rfl) (hk _ _ rfl After.rfl)),
      op_mk rfl rfl (.inl rfl) (fun a w K Q hd _ hk => wp_pick (b := false) rfl (hd 24 rfl) (hk _ _ (hd 32 rfl) After.rfl)),
      op_mk rfl rfl (.inl rfl) (fun a w K Q hd _ hk => wp_move rfl (hk _ _ (hd 33 rfl) After.rfl)),
      op_mk rfl rfl (.inr ⟨34, false, rfl, rfl, fun v w h => h⟩) (fun a w K Q _ hb hk => wp_load rfl hb.1.s6 (H.lin hb.2) (hk _ _ rfl After.rfl)),
      op_mk rfl rfl (.inr ⟨34, false, rfl, rfl, fun v w h => h⟩) (fun a w K Q _ hb hk => wp_move rfl (hk _ _ hb.1.s0 After.rfl)),
      op_mk rfl rfl (.inr ⟨34, false, rfl, rfl, fun v w h => h⟩) (fun a w K Q _ hb hk => wp_move rfl (hk _ _ hb.1.s5 After.rfl)),
      op_mk rfl rfl (.inr ⟨34, false, rfl, rfl, fun v w h => h⟩) (fun a w K Q hd _ hk => wp_index rfl (hd 36 rfl) (hd 37 rfl) (index_msg w b off n c k hkn) (hk _ _ rfl After.rfl)),
      op_mk rfl rfl (.inr ⟨34, false, rfl, rfl, fun v w h => h⟩) (fun a w K Q hd hb hk => wp_load rfl (hd 38 rfl) (H.lmsg hb.2) (hk _ _ rfl After.rfl)),
      op_mk rfl rfl (.inr ⟨34, false, rfl, rfl, fun v w h => h⟩) (fun a w K Q hd hb hk => wp_func rfl (enter_of Tryz.func15 (by kernel_rfl) (by kernel_rfl)) (by rw [map2, show a.eval (.tmp 87) = .agg (msgC M sa1 sc1 oa1 oc1 ba1 bc1) from hd 35 rfl, show a.eval (.tmp 91) = .agg (msgC M sa sc oa oc ba bc) from hd 39 rfl]; exact (H.sme hb.2).mono (fun e w1 h => ⟨_, h.1, hk _ _ rfl h.2⟩))),
      op_mk rfl rfl (.inr ⟨34, false, rfl, rfl, fun v w h => h⟩) (fun a w K Q hd _ hk => wp_not (b := true) rfl (hd 40 rfl) (hk _ _ rfl After.rfl)),
      trivial⟩
  · intro a' w' hs hT hb K hKK
    refine wp_pick (b := false) rfl (hT 34 (by decide)) (hKK _ _ ?_)
    refine wp_cond (t := false) ?_ ?_
    · show (a'.put (some 94) (a'.tmps.getD 93 undef)).tmps.getD 94 undef = .bool false
      rw [getD_put (by rw [hs]; decide), if_pos rfl]
      exact hT 41 (by decide)
    · exact wp_skip (hK _ _ (hb.1.put (s := 94) (by decide)).gb hb.2)
end Go.Proofs.YthcfdoafncbliaaGreat
