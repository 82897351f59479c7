/-
  Laid together: OrdA, OrdB.
-/
import Derived.Test.YthcfdoafncbliaaB18
import Derived.BigQuiet
/-
  AssocOrder: the parts of its loop, its frame, and the parts that only look at what was answered.
-/
namespace Go.Proofs.Ythcfdoafncbliaa
open Go.RowKit Go.Maps
set_option maxRecDepth 8000
def sq1 : Code → Code
  | .seq a _ => a
  | c => c
def sq2 : Code → Code
  | .seq _ b => b
  | c => c
def inBlk : Code → Code
  | .block _ c => c
  | c => c
def inLp : Code → Code
  | .loop c => c
  | c => c
def oB (f : Func) : Code := f.body.getD .skip
/-- From the loop on. -/
def oT (f : Func) : Code := sq2 (sq2 (sq2 (oB f)))
def oL (f : Func) : Code := inLp (inBlk (sq2 (sq1 (oT f))))
def o7 (f : Func) : Code := inBlk (sq1 (sq2 (oL f)))
def o8 (f : Func) : Code := sq2 (o7 f)
def o9 (f : Func) : Code := sq2 (o8 f)
def o10 (f : Func) : Code := sq2 (o9 f)
def o11 (f : Func) : Code := sq2 (o10 f)
def o13 (f : Func) : Code := sq2 (o11 f)
def o16 (f : Func) : Code := sq2 (o13 f)
def o17 (f : Func) : Code := sq2 (o16 f)
def o19 (f : Func) : Code := sq2 (o17 f)
def o21 (f : Func) : Code := sq2 (o19 f)
def o34 (f : Func) : Code := sq2 (o21 f)
theorem oT_eq : (oT Try.f3) = .seq (sq1 (oT Try.f3)) (sq2 (oT Try.f3)) := by kernel_rfl
theorem oL_eq : (oL Try.f3) = .seq (sq1 (oL Try.f3)) (.seq (.block 1 (o7 Try.f3)) (sq2 (sq2 (oL Try.f3)))) := by kernel_rfl
theorem o7_eq : (o7 Try.f3) = .seq (sq1 (o7 Try.f3)) (o8 Try.f3) := by kernel_rfl
theorem o8_eq : (o8 Try.f3) = .seq (sq1 (o8 Try.f3)) (o9 Try.f3) := by kernel_rfl
theorem o9_eq : (o9 Try.f3) = .seq (sq1 (o9 Try.f3)) (o10 Try.f3) := by kernel_rfl
theorem o10_eq : (o10 Try.f3) = .seq (sq1 (o10 Try.f3)) (o11 Try.f3) := by kernel_rfl
theorem o11_eq : (o11 Try.f3) = .seq (sq1 (o11 Try.f3)) (o13 Try.f3) := by kernel_rfl
theorem o13_eq : (o13 Try.f3) = .seq (sq1 (o13 Try.f3)) (o16 Try.f3) := by kernel_rfl
theorem o16_eq : (o16 Try.f3) = .seq (sq1 (o16 Try.f3)) (o17 Try.f3) := by kernel_rfl
theorem o17_eq : (o17 Try.f3) = .seq (sq1 (o17 Try.f3)) (o19 Try.f3) := by kernel_rfl
theorem o19_eq : (o19 Try.f3) = .seq (sq1 (o19 Try.f3)) (o21 Try.f3) := by kernel_rfl
theorem o21_eq : (o21 Try.f3) = .seq (sq1 (o21 Try.f3)) (o34 Try.f3) := by kernel_rfl
theorem o34_eq : (o34 Try.f3) = .seq (sq1 (o34 Try.f3)) (sq2 (o34 Try.f3)) := by kernel_rfl
/-- What the frame holds: the list, the manager, the counter. -/
structure F0 (a : Act) (v0 v3 v4 : Value) : Prop where
  size : a.tmps.size = 288
  defers : a.defers = []
  s0 : a.tmps.getD 0 undef = v0
  s3 : a.tmps.getD 3 undef = v3
  s4 : a.tmps.getD 4 undef = v4
/-- And what was answered. -/
structure F1 (a : Act) (v0 v3 v4 v5 v6 v7 v8 v9 v11 v12 : Value) : Prop where
  size : a.tmps.size = 288
  defers : a.defers = []
  s0 : a.tmps.getD 0 undef = v0
  s3 : a.tmps.getD 3 undef = v3
  s4 : a.tmps.getD 4 undef = v4
  s5 : a.tmps.getD 5 undef = v5
  s6 : a.tmps.getD 6 undef = v6
  s7 : a.tmps.getD 7 undef = v7
  s8 : a.tmps.getD 8 undef = v8
  s9 : a.tmps.getD 9 undef = v9
  s11 : a.tmps.getD 11 undef = v11
  s12 : a.tmps.getD 12 undef = v12
theorem F1.base {a : Act} {v0 v3 v4 v5 v6 v7 v8 v9 v11 v12 : Value} (h : F1 a v0 v3 v4 v5 v6 v7 v8 v9 v11 v12) : F0 a v0 v3 v4 := ⟨h.size, h.defers, h.s0, h.s3, h.s4⟩
set_option maxRecDepth 100000 in
theorem lit288 (a : Act) (h : a.tmps.size = 288) (hd : a.defers = []) : ∃ u : Nat → Value, (∀ i, u i = a.tmps.getD i undef) ∧ a = ⟨#[u 0, u 1, u 2, u 3, u 4, u 5, u 6, u 7, u 8, u 9, u 10, u 11, u 12, u 13, u 14, u 15, u 16, u 17, u 18, u 19, u 20, u 21, u 22, u 23, u 24, u 25, u 26, u 27, u 28, u 29, u 30, u 31, u 32, u 33, u 34, u 35, u 36, u 37, u 38, u 39, u 40, u 41, u 42, u 43, u 44, u 45, u 46, u 47, u 48, u 49, u 50, u 51, u 52, u 53, u 54, u 55, u 56, u 57, u 58, u 59, u 60, u 61, u 62, u 63, u 64, u 65, u 66, u 67, u 68, u 69, u 70, u 71, u 72, u 73, u 74, u 75, u 76, u 77, u 78, u 79, u 80, u 81, u 82, u 83, u 84, u 85, u 86, u 87, u 88, u 89, u 90, u 91, u 92, u 93, u 94, u 95, u 96, u 97, u 98, u 99, u 100, u 101, u 102, u 103, u 104, u 105, u 106, u 107, u 108, u 109, u 110, u 111, u 112, u 113, u 114, u 115, u 116, u 117, u 118, u 119, u 120, u 121, u 122, u 123, u 124, u 125, u 126, u 127, u 128, u 129, u 130, u 131, u 132, u 133, u 134, u 135, u 136, u 137, u 138, u 139, u 140, u 141, u 142, u 143, u 144, u 145, u 146, u 147, u 148, u 149, u 150, u 151, u 152, u 153, u 154, u 155, u 156, u 157, u 158, u 159, u 160, u 161, u 162, u 163, u 164, u 165, u 166, u 167, u 168, u 169, u 170, u 171, u 172, u 173, u 174, u 175, u 176, u 177, u 178, u 179, u 180, u 181, u 182, u 183, u 184, u 185, u 186, u 187, u 188, u 189, u 190, u 191, u 192, u 193, u 194, u 195, u 196, u 197, u 198, u 199, u 200, u 201, u 202, u 203, u 204, u 205, u 206, u 207, u 208, u 209, u 210, u 211, u 212, u 213, u 214, u 215, u 216, u 217, u 218, u 219, u 220, u 221, u 222, u 223, u 224, u 225, u 226, u 227, u 228, u 229, u 230, u 231, u 232, u 233, u 234, u 235, u 236, u 237, u 238, u 239, u 240, u 241, u 242, u 243, u 244, u 245, u 246, u 247, u 248, u 249, u 250, u 251, u 252, u 253, u 254, u 255, u 256, u 257, u 258, u 259, u 260, u 261, u 262, u 263, u 264, u 265, u 266, u 267, u 268, u 269, u 270, u 271, u 272, u 273, u 274, u 275, u 276, u 277, u 278, u 279, u 280, u 281, u 282, u 283, u 284, u 285, u 286, u 287], []⟩ := by
  refine ⟨fun i => a.tmps.getD i undef, fun _ => rfl, ?_⟩
  obtain ⟨t, d⟩ := a
  dsimp only at h hd
  subst hd
  have e : t = ((List.range 288).map (fun i => t.getD i undef)).toArray := by
    apply Array.ext
    · simp [h]
    · intro i h1 h2
      simp [Array.getD, h1]
  refine congrArg (fun t' => Act.mk t' []) (e.trans ?_)
  rfl
theorem F1.lit {a : Act} {v0 v3 v4 v5 v6 v7 v8 v9 v11 v12 : Value} (h : F1 a v0 v3 v4 v5 v6 v7 v8 v9 v11 v12) : ∃ u : Nat → Value, (∀ i, u i = a.tmps.getD i undef) ∧ a = ⟨#[v0, u 1, u 2, v3, v4, v5, v6, v7, v8, v9, u 10, v11, v12, u 13, u 14, u 15, u 16, u 17, u 18, u 19, u 20, u 21, u 22, u 23, u 24, u 25, u 26, u 27, u 28, u 29, u 30, u 31, u 32, u 33, u 34, u 35, u 36, u 37, u 38, u 39, u 40, u 41, u 42, u 43, u 44, u 45, u 46, u 47, u 48, u 49, u 50, u 51, u 52, u 53, u 54, u 55, u 56, u 57, u 58, u 59, u 60, u 61, u 62, u 63, u 64, u 65, u 66, u 67, u 68, u 69, u 70, u 71, u 72, u 73, u 74, u 75, u 76, u 77, u 78, u 79, u 80, u 81, u 82, u 83, u 84, u 85, u 86, u 87, u 88, u 89, u 90, u 91, u 92, u 93, u 94, u 95, u 96, u 97, u 98, u 99, u 100, u 101, u 102, u 103, u 104, u 105, u 106, u 107, u 108, u 109, u 110, u 111, u 112, u 113, u 114, u 115, u 116, u 117, u 118, u 119, u 120, u 121, u 122, u 123, u 124, u 125, u 126, u 127, u 128, u 129, u 130, u 131, u 132, u 133, u 134, u 135, u 136, u 137, u 138, u 139, u 140, u 141, u 142, u 143, u 144, u 145, u 146, u 147, u 148, u 149, u 150, u 151, u 152, u 153, u 154, u 155, u 156, u 157, u 158, u 159, u 160, u 161, u 162, u 163, u 164, u 165, u 166, u 167, u 168, u 169, u 170, u 171, u 172, u 173, u 174, u 175, u 176, u 177, u 178, u 179, u 180, u 181, u 182, u 183, u 184, u 185, u 186, u 187, u 188, u 189, u 190, u 191, u 192, u 193, u 194, u 195, u 196, u 197, u 198, u 199, u 200, u 201, u 202, u 203, u 204, u 205, u 206, u 207, u 208, u 209, u 210, u 211, u 212, u 213, u 214, u 215, u 216, u 217, u 218, u 219, u 220, u 221, u 222, u 223, u 224, u 225, u 226, u 227, u 228, u 229, u 230, u 231, u 232, u 233, u 234, u 235, u 236, u 237, u 238, u 239, u 240, u 241, u 242, u 243, u 244, u 245, u 246, u 247, u 248, u 249, u 250, u 251, u 252, u 253, u 254, u 255, u 256, u 257, u 258, u 259, u 260, u 261, u 262, u 263, u 264, u 265, u 266, u 267, u 268, u 269, u 270, u 271, u 272, u 273, u 274, u 275, u 276, u 277, u 278, u 279, u 280, u 281, u 282, u 283, u 284, u 285, u 286, u 287], []⟩ := by
  obtain ⟨u, hu, e⟩ := lit288 a h.size h.defers
  refine ⟨u, hu, e.trans ?_⟩
  rw [(hu 0).trans h.s0, (hu 3).trans h.s3, (hu 4).trans h.s4, (hu 5).trans h.s5, (hu 6).trans h.s6, (hu 7).trans h.s7, (hu 8).trans h.s8, (hu 9).trans h.s9, (hu 11).trans h.s11, (hu 12).trans h.s12]
theorem F0.lit {a : Act} {v0 v3 v4 : Value} (h : F0 a v0 v3 v4) : ∃ u : Nat → Value, a = ⟨#[v0, u 1, u 2, v3, v4, u 5, u 6, u 7, u 8, u 9, u 10, u 11, u 12, u 13, u 14, u 15, u 16, u 17, u 18, u 19, u 20, u 21, u 22, u 23, u 24, u 25, u 26, u 27, u 28, u 29, u 30, u 31, u 32, u 33, u 34, u 35, u 36, u 37, u 38, u 39, u 40, u 41, u 42, u 43, u 44, u 45, u 46, u 47, u 48, u 49, u 50, u 51, u 52, u 53, u 54, u 55, u 56, u 57, u 58, u 59, u 60, u 61, u 62, u 63, u 64, u 65, u 66, u 67, u 68, u 69, u 70, u 71, u 72, u 73, u 74, u 75, u 76, u 77, u 78, u 79, u 80, u 81, u 82, u 83, u 84, u 85, u 86, u 87, u 88, u 89, u 90, u 91, u 92, u 93, u 94, u 95, u 96, u 97, u 98, u 99, u 100, u 101, u 102, u 103, u 104, u 105, u 106, u 107, u 108, u 109, u 110, u 111, u 112, u 113, u 114, u 115, u 116, u 117, u 118, u 119, u 120, u 121, u 122, u 123, u 124, u 125, u 126, u 127, u 128, u 129, u 130, u 131, u 132, u 133, u 134, u 135, u 136, u 137, u 138, u 139, u 140, u 141, u 142, u 143, u 144, u 145, u 146, u 147, u 148, u 149, u 150, u 151, u 152, u 153, u 154, u 155, u 156, u 157, u 158, u 159, u 160, u 161, u 162, u 163, u 164, u 165, u 166, u 167, u 168, u 169, u 170, u 171, u 172, u 173, u 174, u 175, u 176, u 177, u 178, u 179, u 180, u 181, u 182, u 183, u 184, u 185, u 186, u 187, u 188, u 189, u 190, u 191, u 192, u 193, u 194, u 195, u 196, u 197, u 198, u 199, u 200, u 201, u 202, u 203, u 204, u 205, u 206, u 207, u 208, u 209, u 210, u 211, u 212, u 213, u 214, u 215, u 216, u 217, u 218, u 219, u 220, u 221, u 222, u 223, u 224, u 225, u 226, u 227, u 228, u 229, u 230, u 231, u 232, u 233, u 234, u 235, u 236, u 237, u 238, u 239, u 240, u 241, u 242, u 243, u 244, u 245, u 246, u 247, u 248, u 249, u 250, u 251, u 252, u 253, u 254, u 255, u 256, u 257, u 258, u 259, u 260, u 261, u 262, u 263, u 264, u 265, u 266, u 267, u 268, u 269, u 270, u 271, u 272, u 273, u 274, u 275, u 276, u 277, u 278, u 279, u 280, u 281, u 282, u 283, u 284, u 285, u 286, u 287], []⟩ := by
  obtain ⟨u, hu, e⟩ := lit288 a h.size h.defers
  refine ⟨u, e.trans ?_⟩
  rw [(hu 0).trans h.s0, (hu 3).trans h.s3, (hu 4).trans h.s4]
/-- Nothing wrong with the error, the state, the number of answers and the objects. -/
theorem part11 {Q : Exit → Act → World → Prop} {a : Act} {w : World} {g : Nat} {st : Mg} (x : MgAt w All g st) {v0 v4 v6 v8 : Value} {av : Option Addr} {m cv : Nat} {s er f : Int} (hf : F1 a v0 (Ptr g) v4 (.int .i64 s) v6 (.slice av m cv) v8 (.int .i64 er) (.int .i64 f) (.int .i64 st.state))
    (he : (er = 2 ∧ (f != 0) = true ∧ st.state = s) ∨ ((er == 2) = false ∧ f = 0)) (hm : m ≤ 1) (hK : ∀ a' w', F1 a' v0 (Ptr g) v4 (.int .i64 s) v6 (.slice av m cv) v8 (.int .i64 er) (.int .i64 f) (.int .i64 st.state) → After w w' → Q .normal a' w') : Code.wp Try.prog (sq1 (o11 Try.f3)) Q a w := by
  obtain ⟨u, hu0, rfl⟩ := hf.lit
  clear hu0
  have hmi : ¬ (1 : Int) < (m : Int) := by omega
  have HO := hideIt (mgObjs_any x)
  have hno : st.state ≠ 2 → st.objs = [] := by obtain ⟨_, _, _, xx⟩ := x; exact xx.no
  have HK := hideIt hK
  clear hf hK x hm
  obtain ⟨s', cfg, ob⟩ := st
  dsimp only at *
  conv => arg 2; whnf
  by_cases h2 : s' = 2
  · subst h2
    clear hno HO
    rcases he with ⟨rfl, hf, rfl⟩ | ⟨he, rfl⟩
    · go_wp2_with fail
      exact HK.out _ _ ⟨rfl, rfl, rfl, rfl, rfl, rfl, rfl, rfl, rfl, rfl, rfl, rfl⟩ After.rfl
    · go_wp2_with fail
      exact HK.out _ _ ⟨rfl, rfl, rfl, rfl, rfl, rfl, rfl, rfl, rfl, rfl, rfl, rfl⟩ After.rfl
  · obtain rfl := hno h2
    have h2b : (s' != 2) = true := by simpa using h2
    clear hno h2
    rcases he with ⟨rfl, hf, rfl⟩ | ⟨he, rfl⟩
    · have hss : (s' != s') = false := by simp
      go_wp2_with fail
      refine HO.out.mono ?_
      rintro e w5 ⟨o5, rfl, ho5, a5⟩
      obtain ⟨oa5, oc5, rfl, _, _, _⟩ := own_rowT ho5
      have HA5 := hideIt a5
      clear ho5 a5 HO
      dsimp only [List.length_nil]
      go_wp2_with fail
      exact HK.out _ _ ⟨rfl, rfl, rfl, rfl, rfl, rfl, rfl, rfl, rfl, rfl, rfl, rfl⟩ HA5.out
    · go_wp2_with fail
      refine HO.out.mono ?_
      rintro e w5 ⟨o5, rfl, ho5, a5⟩
      obtain ⟨oa5, oc5, rfl, _, _, _⟩ := own_rowT ho5
      have HA5 := hideIt a5
      clear ho5 a5 HO
      dsimp only [List.length_nil]
      go_wp2_with fail
      exact HK.out _ _ ⟨rfl, rfl, rfl, rfl, rfl, rfl, rfl, rfl, rfl, rfl, rfl, rfl⟩ HA5.out
/-- Of a message that may not be: go on. -/
theorem part13_bad {Q : Exit → Act → World → Prop} {a : Act} {w : World} {v0 v3 v4 v5 v6 v11 v12 : Value} {av sv : Option Addr} {cv scv : Nat} (hf : F1 a v0 v3 v4 v5 v6 (.slice av 0 cv) (.slice sv 0 scv) (.int .i64 2) v11 v12) (hK : ∀ a', F0 a' v0 v3 v4 → Q (.exit 1) a' w) : Code.wp Try.prog (sq1 (o13 Try.f3)) Q a w := by
  obtain ⟨u, hu0, rfl⟩ := hf.lit
  clear hu0
  have HK := hideIt hK
  clear hf hK
  conv => arg 2; whnf
  go_wp2_with fail
  exact HK.out _ ⟨rfl, rfl, rfl, rfl, rfl⟩
theorem part13_ok {Q : Exit → Act → World → Prop} {a : Act} {w : World} {v0 v3 v4 v5 v6 v7 v8 v11 v12 : Value} {er : Int} (hf : F1 a v0 v3 v4 v5 v6 v7 v8 (.int .i64 er) v11 v12) (he : (er == 2) = false) (hK : ∀ a', F1 a' v0 v3 v4 v5 v6 v7 v8 (.int .i64 er) v11 v12 → Q .normal a' w) : Code.wp Try.prog (sq1 (o13 Try.f3)) Q a w := by
  obtain ⟨u, hu0, rfl⟩ := hf.lit
  clear hu0
  have HK := hideIt hK
  clear hf hK
  conv => arg 2; whnf
  go_wp2_with fail
  exact HK.out _ ⟨rfl, rfl, rfl, rfl, rfl, rfl, rfl, rfl, rfl, rfl, rfl, rfl⟩
/-- Which ways a manager may go. -/
def Ups (s s' mk : Int) : Prop := (s' = s ∧ (s = 0 ∨ s = 1 ∨ s = 2)) ∨ (s' = 0 ∧ (s = 1 ∨ s = 2)) ∨ (s = 0 ∧ s' = 1 ∧ mk = 57856) ∨ (s = 1 ∧ s' = 2 ∧ mk = 3356)
theorem part16 {Q : Exit → Act → World → Prop} {a : Act} {w : World} {v3 v6 v7 v8 v9 v11 : Value} {b off n c k : Nat} {s s' mk : Int} (hf : F1 a (.slice (some ⟨b, off, none⟩) n c) v3 (.int .i64 (k : Int)) (.int .i64 s) v6 v7 v8 v9 v11 (.int .i64 s')) (hu : Ups s s' mk) (hkn : (k : Int) < (n : Int)) (hz : w.cell? ⟨b, off + k * 7, none⟩ = some (.int .i64 mk)) (_hb : b < w.heap.size)
    (hK : ∀ a', F1 a' (.slice (some ⟨b, off, none⟩) n c) v3 (.int .i64 (k : Int)) (.int .i64 s) v6 v7 v8 v9 v11 (.int .i64 s') → (∃ up, a'.tmps.getD 13 undef = .bool up ∧ (up = true ∨ s' = s ∨ s' = 0)) → Q .normal a' w) : Code.wp Try.prog (sq1 (o16 Try.f3)) Q a w := by
  obtain ⟨u, hu0, rfl⟩ := hf.lit
  clear hu0
  have HK := hideIt hK
  clear hf hK
  conv => arg 2; whnf
  rcases hu with ⟨rfl, rfl | rfl | rfl⟩ | ⟨rfl, rfl | rfl⟩ | ⟨rfl, rfl, rfl⟩ | ⟨rfl, rfl, rfl⟩
  · go_wp2_with fail
    exact HK.out _ ⟨rfl, rfl, rfl, rfl, rfl, rfl, rfl, rfl, rfl, rfl, rfl, rfl⟩ ⟨_, rfl, by simp⟩
  · go_wp2_with fail
    exact HK.out _ ⟨rfl, rfl, rfl, rfl, rfl, rfl, rfl, rfl, rfl, rfl, rfl, rfl⟩ ⟨_, rfl, by simp⟩
  · go_wp2_with fail
    exact HK.out _ ⟨rfl, rfl, rfl, rfl, rfl, rfl, rfl, rfl, rfl, rfl, rfl, rfl⟩ ⟨_, rfl, by simp⟩
  · go_wp2_with fail
    exact HK.out _ ⟨rfl, rfl, rfl, rfl, rfl, rfl, rfl, rfl, rfl, rfl, rfl, rfl⟩ ⟨_, rfl, by simp⟩
  · go_wp2_with fail
    exact HK.out _ ⟨rfl, rfl, rfl, rfl, rfl, rfl, rfl, rfl, rfl, rfl, rfl, rfl⟩ ⟨_, rfl, by simp⟩
  · go_wp2_with fail
    exact HK.out _ ⟨rfl, rfl, rfl, rfl, rfl, rfl, rfl, rfl, rfl, rfl, rfl, rfl⟩ ⟨_, rfl, by simp⟩
  · go_wp2_with fail
    exact HK.out _ ⟨rfl, rfl, rfl, rfl, rfl, rfl, rfl, rfl, rfl, rfl, rfl, rfl⟩ ⟨_, rfl, by simp⟩
theorem part17 {Q : Exit → Act → World → Prop} {a : Act} {w : World} {v0 v3 v4 v6 v7 v8 v9 v11 : Value} {s s' : Int} {up : Bool} (hf : F1 a v0 v3 v4 (.int .i64 s) v6 v7 v8 v9 v11 (.int .i64 s')) (h13 : a.tmps.getD 13 undef = .bool up) (hup : up = true ∨ s' = s ∨ s' = 0)
    (hK : ∀ a', F1 a' v0 v3 v4 (.int .i64 s) v6 v7 v8 v9 v11 (.int .i64 s') → Q .normal a' w) : Code.wp Try.prog (sq1 (o17 Try.f3)) Q a w := by
  obtain ⟨u, hu, e⟩ := hf.lit
  have e13 := (hu 13).trans h13
  subst e
  rw [e13]
  have HK := hideIt hK
  clear hf hK hu h13 e13
  conv => arg 2; whnf
  by_cases h1 : s' = s
  · subst h1
    have hss : (s' != s') = false := by simp
    go_wp2_with fail
    exact HK.out _ ⟨rfl, rfl, rfl, rfl, rfl, rfl, rfl, rfl, rfl, rfl, rfl, rfl⟩
  · have h1b : (s' != s) = true := by simpa using h1
    by_cases h2 : s' = 0
    · subst h2
      go_wp2_with fail
      exact HK.out _ ⟨rfl, rfl, rfl, rfl, rfl, rfl, rfl, rfl, rfl, rfl, rfl, rfl⟩
    · have h2b : (s' != 0) = true := by simpa using h2
      obtain rfl : up = true := by rcases hup with h | h | h; exact h; exact absurd h h1; exact absurd h h2
      clear h1 h2 hup
      go_wp2_with fail
      exact HK.out _ ⟨rfl, rfl, rfl, rfl, rfl, rfl, rfl, rfl, rfl, rfl, rfl, rfl⟩
theorem part19 {Q : Exit → Act → World → Prop} {a : Act} {w : World} {v3 v6 v7 v11 : Value} {b off n c k : Nat} {sv ba : Option Addr} {ns scv n3 bc : Nat} {s s' er : Int} (hf : F1 a (.slice (some ⟨b, off, none⟩) n c) v3 (.int .i64 (k : Int)) (.int .i64 s) v6 v7 (.slice sv ns scv) (.int .i64 er) v11 (.int .i64 s')) (hkn : (k : Int) < (n : Int)) (hz : w.cell? ⟨b, off + k * 7 + 6, none⟩ = some (.slice ba n3 bc)) (_hb : b < w.heap.size)
    (hs : ns = 0 ∨ (0 < ns ∧ s = 2 ∧ s' = 2 ∧ n3 = ns ∧ er = 0)) (hK : ∀ a', F1 a' (.slice (some ⟨b, off, none⟩) n c) v3 (.int .i64 (k : Int)) (.int .i64 s) v6 v7 (.slice sv ns scv) (.int .i64 er) v11 (.int .i64 s') → Q .normal a' w) : Code.wp Try.prog (sq1 (o19 Try.f3)) Q a w := by
  obtain ⟨u, hu0, rfl⟩ := hf.lit
  clear hu0
  have HK := hideIt hK
  clear hf hK
  conv => arg 2; whnf
  rcases hs with rfl | ⟨hp, rfl, rfl, rfl, rfl⟩
  · go_wp2_with fail
    exact HK.out _ ⟨rfl, rfl, rfl, rfl, rfl, rfl, rfl, rfl, rfl, rfl, rfl, rfl⟩
  · have hpi : (0 : Int) < (n3 : Int) := by omega
    have hnn : ((n3 : Int) != (n3 : Int)) = false := by simp
    go_wp2_with fail
    exact HK.out _ ⟨rfl, rfl, rfl, rfl, rfl, rfl, rfl, rfl, rfl, rfl, rfl, rfl⟩
theorem part34 {Q : Exit → Act → World → Prop} {a : Act} {w : World} {v0 v3 v4 v5 v6 v8 v9 v11 v12 : Value} {av : Option Addr} {cv : Nat} {an : Option An} (hf : F1 a v0 v3 v4 v5 v6 (.slice av an.toList.length cv) v8 v9 v11 v12) (han : ∀ x, an = some x → ∃ b, av = some ⟨b, 0, none⟩ ∧ w.heap[b]? = some (.cells #[.int .i64 x.kind, .slice none 0 0, .int .i64 x.config, .int .i64 x.result, .int .i64 x.reason, .slice none 0 0, .slice none 0 0] 36 (0, 0)))
    (hK : ∀ a' br, F1 a' v0 v3 v4 v5 v6 (.slice av an.toList.length cv) v8 v9 v11 v12 → a'.tmps.getD 18 undef = .bool br → (br = true ↔ ∃ x, an = some x ∧ x.kind = 58880) → Q .normal a' w) : Code.wp Try.prog (sq1 (o34 Try.f3)) Q a w := by
  obtain ⟨u, hu0, rfl⟩ := hf.lit
  clear hu0
  have HK := hideIt hK
  clear hf hK
  conv => arg 2; whnf
  cases an with
  | none =>
    dsimp only [Option.toList_none, List.length_nil] at *
    go_wp2_with fail
    exact HK.out _ _ ⟨rfl, rfl, rfl, rfl, rfl, rfl, rfl, rfl, rfl, rfl, rfl, rfl⟩ rfl ⟨fun h => (by cases h), fun h => by obtain ⟨x, h, _⟩ := h; cases h⟩
  | some x =>
    obtain ⟨bb, rfl, hc⟩ := han x rfl
    obtain ⟨hl, ⟨t0, _, _, _, _, _, _⟩, _⟩ := seven_at hc
    clear hc han
    dsimp only [Option.toList_some, List.length_cons, List.length_nil] at *
    obtain ⟨xk, xc, xr, xq⟩ := x
    dsimp only at t0
    by_cases hk : xk = 58880
    · subst hk
      go_wp2_with fail
      exact HK.out _ _ ⟨rfl, rfl, rfl, rfl, rfl, rfl, rfl, rfl, rfl, rfl, rfl, rfl⟩ rfl ⟨fun _ => ⟨_, rfl, rfl⟩, fun _ => rfl⟩
    · have hkb : (xk == 58880) = false := by simpa using hk
      have HKK := hideIt hk
      clear hk
      go_wp2_with fail
      exact HK.out _ _ ⟨rfl, rfl, rfl, rfl, rfl, rfl, rfl, rfl, rfl, rfl, rfl, rfl⟩ rfl ⟨fun h => (by cases h), fun h => by obtain ⟨x, h, h2⟩ := h; cases h; exact absurd h2 HKK.out⟩
theorem part35 {Q : Exit → Act → World → Prop} {a : Act} {w : World} {v3 v6 v7 v11 : Value} {b off n c k : Nat} {sv ba : Option Addr} {ns scv n3 bc : Nat} {s s' er mk : Int} {br : Bool} (hf : F1 a (.slice (some ⟨b, off, none⟩) n c) v3 (.int .i64 (k : Int)) (.int .i64 s) v6 v7 (.slice sv ns scv) (.int .i64 er) v11 (.int .i64 s')) (h18 : a.tmps.getD 18 undef = .bool br) (hkn : (k : Int) < (n : Int)) (hz0 : w.cell? ⟨b, off + k * 7, none⟩ = some (.int .i64 mk)) (hz6 : w.cell? ⟨b, off + k * 7 + 6, none⟩ = some (.slice ba n3 bc)) (_hb : b < w.heap.size)
    (hs : (br = true ∧ er = 70 ∧ s' = 0) ∨ (br = false ∧ er = 70 ∧ s = 2 ∧ mk = 3358 ∧ ns < n3) ∨ (br = false ∧ (er == 70) = false ∧ ¬ (s = 2 ∧ mk = 3358 ∧ ns < n3))) (hK : ∀ a', F0 a' (.slice (some ⟨b, off, none⟩) n c) v3 (.int .i64 (k : Int)) → Q .normal a' w) : Code.wp Try.prog (sq2 (o34 Try.f3)) Q a w := by
  obtain ⟨u, hu, e⟩ := hf.lit
  have e18 := (hu 18).trans h18
  subst e
  rw [e18]
  have HK := hideIt hK
  clear hf hK hu h18 e18
  conv => arg 2; whnf
  rcases hs with ⟨rfl, rfl, rfl⟩ | ⟨rfl, rfl, rfl, rfl, hlt⟩ | ⟨rfl, he, hno⟩
  · go_wp2_with fail
    exact HK.out _ ⟨rfl, rfl, rfl, rfl, rfl⟩
  · have hl : (ns : Int) < (n3 : Int) := by omega
    go_wp2_with fail
    exact HK.out _ ⟨rfl, rfl, rfl, rfl, rfl⟩
  · by_cases h2 : s = 2
    · subst h2
      by_cases h3 : mk = 3358
      · subst h3
        have hl : ¬ (ns : Int) < (n3 : Int) := by omega
        clear hno
        go_wp2_with fail
        exact HK.out _ ⟨rfl, rfl, rfl, rfl, rfl⟩
      · have h3b : (mk == 3358) = false := by simpa using h3
        clear hno h3
        go_wp2_with fail
        exact HK.out _ ⟨rfl, rfl, rfl, rfl, rfl⟩
    · have h2b : (s == 2) = false := by simpa using h2
      clear hno h2
      go_wp2_with fail
      exact HK.out _ ⟨rfl, rfl, rfl, rfl, rfl⟩
end Go.Proofs.Ythcfdoafncbliaa
/-
  AssocOrder: the loops over the samples and over the objects.
-/
namespace Go.Proofs.Ythcfdoafncbliaa
open Go.RowKit Go.Maps
set_option maxRecDepth 8000
def o22 (f : Func) : Code := inLp (inBlk (sq2 (sq1 (o21 f))))
def o24 (f : Func) : Code := inBlk (sq1 (sq2 (o22 f)))
def o26 (f : Func) : Code := inLp (inBlk (sq2 (sq1 (sq2 (o24 f)))))
theorem p21_eq : sq1 (o21 Try.f3) = .seq (sq1 (sq1 (o21 Try.f3))) (.block 2 (.loop (o22 Try.f3))) := by kernel_rfl
theorem o22_eq : (o22 Try.f3) = .seq (sq1 (o22 Try.f3)) (.seq (.block 3 (o24 Try.f3)) (sq2 (sq2 (o22 Try.f3)))) := by kernel_rfl
theorem o24_eq : (o24 Try.f3) = .seq (sq1 (o24 Try.f3)) (.seq (.seq (sq1 (sq1 (sq2 (o24 Try.f3)))) (.block 4 (.loop (o26 Try.f3)))) (sq2 (sq2 (o24 Try.f3)))) := by kernel_rfl
/-- A round over the objects. -/
def R3 (a : Act) (W : World) (v0 v3 v4 v5 v7 v9 v11 v12 : Value) (ha : Option Addr) (nh hc : Nat) (b1 o1 ns scv j : Nat) (ob : List Ob) (oh : Int) (w : World) : Prop :=
  ∃ q : Nat, q ≤ nh ∧ F1 a v0 v3 v4 v5 (.slice ha nh hc) v7 (.slice (some ⟨b1, o1, none⟩) ns scv) v9 v11 v12 ∧ a.tmps.getD 14 undef = .int .i64 (j : Int) ∧ a.tmps.getD 15 undef = .bool ((ob.take q).any fun p => decide (p.h = oh)) ∧ a.tmps.getD 16 undef = .int .i64 (q : Int) ∧ After w W
def mu16 (nh : Nat) (a : Act) (_ : World) : Nat := nh - (intOf (a.tmps.getD 16 undef)).toNat
set_option maxHeartbeats 1000000 in
theorem round26 {Q : Exit → Act → World → Prop} {a : Act} {W w : World} {v0 v3 v4 v5 v7 v9 v11 v12 : Value} {ha : Option Addr} {nh hc b1 o1 ns scv j : Nat} {ob : List Ob} {oh : Int} (hI : R3 a W v0 v3 v4 v5 v7 v9 v11 v12 ha nh hc b1 o1 ns scv j ob oh w) (hr : RowT w ha nh (ob.map Ob.t3)) (hd : w.cell? ⟨b1, o1 + j * 4, none⟩ = some (.int .i64 oh)) (hb : b1 < w.heap.size) (hj : (j : Int) < (ns : Int)) (hnh : nh ≤ 16)
    (hK : ∀ a' W', F1 a' v0 v3 v4 v5 (.slice ha nh hc) v7 (.slice (some ⟨b1, o1, none⟩) ns scv) v9 v11 v12 → a'.tmps.getD 14 undef = .int .i64 (j : Int) → a'.tmps.getD 15 undef = .bool (ob.any fun p => decide (p.h = oh)) → After w W' → Q (.exit 4) a' W') :
    Code.wp Try.prog (o26 Try.f3) (Exit.then (fun a' w' => R3 a' w' v0 v3 v4 v5 v7 v9 v11 v12 ha nh hc b1 o1 ns scv j ob oh w ∧ mu16 nh a' w' < mu16 nh a W) Q) a W := by
  obtain ⟨q, hq, hf, h14, h15, h16, aw⟩ := hI
  have hlo : ob.length = nh := by have := hr.1; simpa using this
  have hmu : mu16 nh a W = nh - q := by unfold mu16; rw [h16]; simp [intOf]
  rw [hmu]
  obtain ⟨u, hu, e⟩ := hf.lit
  have e14 := (hu 14).trans h14
  have e15 := (hu 15).trans h15
  have e16 := (hu 16).trans h16
  subst e
  rw [e14, e15, e16]
  clear hf hu h14 h15 h16 e14 e15 e16 hmu
  conv => arg 2; whnf
  by_cases hqn : q < nh
  · have iq : (q : Int) < (nh : Int) := by omega
    obtain ⟨b3, o3, pt, rfl, l3, hpt, g0, _, _⟩ := (hr.after aw).2 q hqn
    obtain ⟨pp, hpp, rfl⟩ : ∃ pp, ob[q]? = some pp ∧ pt = pp.t3 := by
      rw [List.getElem?_map] at hpt
      obtain ⟨pp, h1, h2⟩ := Option.map_eq_some_iff.1 hpt
      exact ⟨pp, h1, h2.symm⟩
    unfold Ob.t3 at g0
    dsimp only at g0
    rw [← aw.cell hb] at hd
    have l1 := Nat.lt_of_lt_of_le hb aw.size
    have hany : (ob.take (q + 1)).any (fun p => decide (p.h = oh)) = ((ob.take q).any (fun p => decide (p.h = oh)) || decide (pp.h = oh)) := by
      rw [List.take_add_one, hpp, List.any_append]
      simp
    have HQ := hideIt (And.intro hany aw)
    clear hany aw hpt hpp hr hK hlo
    generalize (ob.take q).any (fun p => decide (p.h = oh)) = vb at *
    cases vb with
    | true =>
      go_wp2_with fail
      go_quiet (fail)
      have AW2 := hideIt (HQ.out.2.draws nq)
      generalize W.drewN nq = W9 at *
      clear hd g0
      go_wp2_with fail
      refine ⟨⟨q + 1, by omega, ⟨rfl, rfl, rfl, rfl, rfl, rfl, rfl, rfl, rfl, rfl, rfl, rfl⟩, rfl, ?_, by show Value.int .i64 ((q : Int) + 1) = _; rw [Int.natCast_add]; rfl, AW2.out⟩, ?_⟩
      · show Value.bool true = _
        rw [HQ.out.1]
        rfl
      · show nh - (intOf (Value.int .i64 ((q : Int) + 1))).toNat < _
        simp [intOf]
        omega
    | false =>
      obtain ⟨vh, hvh⟩ : ∃ vh, (pp.h == oh) = vh := ⟨_, rfl⟩
      have hvv : (false || decide (pp.h = oh)) = vh := by
        rw [← hvh]
        by_cases h : pp.h = oh <;> simp [h]
      rw [hvv] at HQ
      clear hvv
      go_wp2_with fail
      go_quiet (fail)
      have AW2 := hideIt (HQ.out.2.draws nq)
      generalize W.drewN nq = W9 at *
      clear hd g0 hvh
      go_wp2_with fail
      refine ⟨⟨q + 1, by omega, ⟨rfl, rfl, rfl, rfl, rfl, rfl, rfl, rfl, rfl, rfl, rfl, rfl⟩, rfl, ?_, by show Value.int .i64 ((q : Int) + 1) = _; rw [Int.natCast_add]; rfl, AW2.out⟩, ?_⟩
      · show Value.bool vh = _
        rw [HQ.out.1]
      · show nh - (intOf (Value.int .i64 ((q : Int) + 1))).toNat < _
        simp [intOf]
        omega
  · obtain rfl : q = nh := by omega
    have iq : ¬ (q : Int) < (q : Int) := by omega
    rw [List.take_of_length_le (by omega)]
    have HK := hideIt hK
    have AW := hideIt aw
    clear hK aw hr hd hqn hlo
    go_wp2_with fail
    exact HK.out _ _ ⟨rfl, rfl, rfl, rfl, rfl, rfl, rfl, rfl, rfl, rfl, rfl, rfl⟩ rfl rfl AW.out
theorem part25 {Q : Exit → Act → World → Prop} {a : Act} {w : World} {v0 v3 v4 v5 v7 v9 v11 v12 : Value} {ha : Option Addr} {nh hc b1 o1 ns scv j : Nat} {ob : List Ob} {oh : Int} (hf : F1 a v0 v3 v4 v5 (.slice ha nh hc) v7 (.slice (some ⟨b1, o1, none⟩) ns scv) v9 v11 v12) (h14 : a.tmps.getD 14 undef = .int .i64 (j : Int)) (h15 : a.tmps.getD 15 undef = .bool false) (hr : RowT w ha nh (ob.map Ob.t3)) (hd : w.cell? ⟨b1, o1 + j * 4, none⟩ = some (.int .i64 oh)) (hb : b1 < w.heap.size) (hj : (j : Int) < (ns : Int)) (hnh : nh ≤ 16)
    (hK : ∀ a' W', F1 a' v0 v3 v4 v5 (.slice ha nh hc) v7 (.slice (some ⟨b1, o1, none⟩) ns scv) v9 v11 v12 → a'.tmps.getD 14 undef = .int .i64 (j : Int) → a'.tmps.getD 15 undef = .bool (ob.any fun p => decide (p.h = oh)) → After w W' → Q .normal a' W') :
    Code.wp Try.prog (.seq (sq1 (sq1 (sq2 (o24 Try.f3)))) (.block 4 (.loop (o26 Try.f3)))) Q a w := by
  refine wp_seq ?_
  have key : ∀ a', F1 a' v0 v3 v4 v5 (.slice ha nh hc) v7 (.slice (some ⟨b1, o1, none⟩) ns scv) v9 v11 v12 → a'.tmps.getD 14 undef = .int .i64 (j : Int) → a'.tmps.getD 15 undef = .bool false → a'.tmps.getD 16 undef = .int .i64 0 → Code.wp Try.prog (.block 4 (.loop (o26 Try.f3))) Q a' w := by
    intro a' hf h14 h15 h16
    refine wp_block ?_
    refine wp_loop (fun a W => R3 a W v0 v3 v4 v5 v7 v9 v11 v12 ha nh hc b1 o1 ns scv j ob oh w) (mu16 nh) ⟨0, Nat.zero_le _, hf, h14, h15, h16, After.rfl⟩ ?_
    intro a2 W2 hI
    exact round26 hI hr hd hb hj hnh (fun a3 W3 h1 h2 h3 h4 => by
      show (if (4 : Nat) = 4 then Q .normal a3 W3 else Q (.exit 4) a3 W3)
      rw [if_pos rfl]
      exact hK a3 W3 h1 h2 h3 h4)
  obtain ⟨u, hu, e⟩ := hf.lit
  have e14 := (hu 14).trans h14
  have e15 := (hu 15).trans h15
  subst e
  rw [e14, e15]
  have HK := hideIt key
  clear hf hu h14 h15 e14 e15 key hK hr hd
  generalize Code.block 4 (.loop (o26 Try.f3)) = rest at *
  conv => arg 2; whnf
  go_wp2_with fail
  exact HK.out _ ⟨rfl, rfl, rfl, rfl, rfl, rfl, rfl, rfl, rfl, rfl, rfl, rfl⟩ rfl rfl rfl
end Go.Proofs.Ythcfdoafncbliaa
