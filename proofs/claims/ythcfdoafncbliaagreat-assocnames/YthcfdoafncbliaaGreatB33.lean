/-
  Laid together: NmB, OrdB.
-/
import Derived.Test.YthcfdoafncbliaaGreatB32
import Derived.Test.YthcfdoafncbliaaGreatB23
import Derived.BigQuiet
/-
  AssocNames: the parts of its code, its frame; managers that are none; the lists of messages.
-/
namespace Go.Proofs.YthcfdoafncbliaaGreat
open Go.RowKit Go.Maps
set_option maxRecDepth 8000
def ncB (f : Func) : Code := f.body.getD .skip
def nc2 (f : Func) : Code := sq2 (sq2 (ncB f))
def ncL1 (f : Func) : Code := inLp (inBlk (sq2 (sq1 (nc2 f))))
def nc9 (f : Func) : Code := sq2 (nc2 f)
def nc10 (f : Func) : Code := sq2 (nc9 f)
def nc11 (f : Func) : Code := sq2 (nc10 f)
def nc12 (f : Func) : Code := sq2 (nc11 f)
def ncL2 (f : Func) : Code := inLp (inBlk (sq2 (sq1 (nc12 f))))
def nc15 (f : Func) : Code := inBlk (sq1 (sq2 (ncL2 f)))
def nc17 (f : Func) : Code := sq2 (nc12 f)
theorem nc2_eq : nc2 Tryz.f4 = .seq (.seq (sq1 (sq1 (nc2 Tryz.f4))) (.block 0 (.loop (ncL1 Tryz.f4)))) (nc9 Tryz.f4) := by kernel_rfl
theorem nc9_eq : nc9 Tryz.f4 = .seq (sq1 (nc9 Tryz.f4)) (nc10 Tryz.f4) := by kernel_rfl
theorem nc10_eq : nc10 Tryz.f4 = .seq (sq1 (nc10 Tryz.f4)) (nc11 Tryz.f4) := by kernel_rfl
theorem nc11_eq : nc11 Tryz.f4 = .seq (sq1 (nc11 Tryz.f4)) (nc12 Tryz.f4) := by kernel_rfl
theorem nc12_eq : nc12 Tryz.f4 = .seq (.seq (sq1 (sq1 (nc12 Tryz.f4))) (.block 2 (.loop (ncL2 Tryz.f4)))) (nc17 Tryz.f4) := by kernel_rfl
theorem ncL2_eq : ncL2 Tryz.f4 = .seq (sq1 (ncL2 Tryz.f4)) (.seq (.block 3 (nc15 Tryz.f4)) (sq2 (sq2 (ncL2 Tryz.f4)))) := by kernel_rfl
theorem nc15_eq : nc15 Tryz.f4 = .seq (sq1 (nc15 Tryz.f4)) (sq2 (nc15 Tryz.f4)) := by kernel_rfl
theorem ncB_eq : Tryz.f4.body = some (.seq (sq1 (ncB Tryz.f4)) (.seq (sq1 (sq2 (ncB Tryz.f4))) (nc2 Tryz.f4))) := by kernel_rfl
set_option maxRecDepth 100000 in
theorem lit127 (a : Act) (h : a.tmps.size = 127) (hd : a.defers = []) : ∃ u : Nat → Value, (∀ i, u i = a.tmps.getD i undef) ∧ a = ⟨#[u 0, u 1, u 2, u 3, u 4, u 5, u 6, u 7, u 8, u 9, u 10, u 11, u 12, u 13, u 14, u 15, u 16, u 17, u 18, u 19, u 20, u 21, u 22, u 23, u 24, u 25, u 26, u 27, u 28, u 29, u 30, u 31, u 32, u 33, u 34, u 35, u 36, u 37, u 38, u 39, u 40, u 41, u 42, u 43, u 44, u 45, u 46, u 47, u 48, u 49, u 50, u 51, u 52, u 53, u 54, u 55, u 56, u 57, u 58, u 59, u 60, u 61, u 62, u 63, u 64, u 65, u 66, u 67, u 68, u 69, u 70, u 71, u 72, u 73, u 74, u 75, u 76, u 77, u 78, u 79, u 80, u 81, u 82, u 83, u 84, u 85, u 86, u 87, u 88, u 89, u 90, u 91, u 92, u 93, u 94, u 95, u 96, u 97, u 98, u 99, u 100, u 101, u 102, u 103, u 104, u 105, u 106, u 107, u 108, u 109, u 110, u 111, u 112, u 113, u 114, u 115, u 116, u 117, u 118, u 119, u 120, u 121, u 122, u 123, u 124, u 125, u 126], []⟩ := by
  refine ⟨fun i => a.tmps.getD i undef, fun _ => rfl, ?_⟩
  obtain ⟨t, d⟩ := a
  dsimp only at h hd
  subst hd
  have e : t = ((List.range 127).map (fun i => t.getD i undef)).toArray := by
    apply Array.ext
    · simp [h]
    · intro i h1 h2
      simp [Array.getD, h1]
  refine congrArg (fun t' => Act.mk t' []) (e.trans ?_)
  rfl
structure KA (a : Act) : Prop where
  size : a.tmps.size = 127
  defers : a.defers = []
theorem KA.lit {a : Act} (h : KA a) : ∃ u : Nat → Value, a = ⟨#[u 0, u 1, u 2, u 3, u 4, u 5, u 6, u 7, u 8, u 9, u 10, u 11, u 12, u 13, u 14, u 15, u 16, u 17, u 18, u 19, u 20, u 21, u 22, u 23, u 24, u 25, u 26, u 27, u 28, u 29, u 30, u 31, u 32, u 33, u 34, u 35, u 36, u 37, u 38, u 39, u 40, u 41, u 42, u 43, u 44, u 45, u 46, u 47, u 48, u 49, u 50, u 51, u 52, u 53, u 54, u 55, u 56, u 57, u 58, u 59, u 60, u 61, u 62, u 63, u 64, u 65, u 66, u 67, u 68, u 69, u 70, u 71, u 72, u 73, u 74, u 75, u 76, u 77, u 78, u 79, u 80, u 81, u 82, u 83, u 84, u 85, u 86, u 87, u 88, u 89, u 90, u 91, u 92, u 93, u 94, u 95, u 96, u 97, u 98, u 99, u 100, u 101, u 102, u 103, u 104, u 105, u 106, u 107, u 108, u 109, u 110, u 111, u 112, u 113, u 114, u 115, u 116, u 117, u 118, u 119, u 120, u 121, u 122, u 123, u 124, u 125, u 126], []⟩ := by
  obtain ⟨u, _, e⟩ := lit127 a h.size h.defers
  exact ⟨u, e⟩
structure KB (a : Act) (v1 v2 : Value) : Prop where
  size : a.tmps.size = 127
  defers : a.defers = []
  s1 : a.tmps.getD 1 undef = v1
  s2 : a.tmps.getD 2 undef = v2
theorem KB.lit {a : Act} {v1 v2 : Value} (h : KB a v1 v2) : ∃ u : Nat → Value, a = ⟨#[u 0, v1, v2, u 3, u 4, u 5, u 6, u 7, u 8, u 9, u 10, u 11, u 12, u 13, u 14, u 15, u 16, u 17, u 18, u 19, u 20, u 21, u 22, u 23, u 24, u 25, u 26, u 27, u 28, u 29, u 30, u 31, u 32, u 33, u 34, u 35, u 36, u 37, u 38, u 39, u 40, u 41, u 42, u 43, u 44, u 45, u 46, u 47, u 48, u 49, u 50, u 51, u 52, u 53, u 54, u 55, u 56, u 57, u 58, u 59, u 60, u 61, u 62, u 63, u 64, u 65, u 66, u 67, u 68, u 69, u 70, u 71, u 72, u 73, u 74, u 75, u 76, u 77, u 78, u 79, u 80, u 81, u 82, u 83, u 84, u 85, u 86, u 87, u 88, u 89, u 90, u 91, u 92, u 93, u 94, u 95, u 96, u 97, u 98, u 99, u 100, u 101, u 102, u 103, u 104, u 105, u 106, u 107, u 108, u 109, u 110, u 111, u 112, u 113, u 114, u 115, u 116, u 117, u 118, u 119, u 120, u 121, u 122, u 123, u 124, u 125, u 126], []⟩ := by
  obtain ⟨u, hu, e⟩ := lit127 a h.size h.defers
  refine ⟨u, e.trans ?_⟩
  rw [(hu 1).trans h.s1, (hu 2).trans h.s2]
theorem KB.put {a : Act} {v1 v2 v : Value} {s : Nat} (h : KB a v1 v2) (hs : 10 < s ∧ s < 127) : KB (a.put (some s) v) v1 v2 := by
  obtain ⟨h1, h2, g1, g2⟩ := h
  have hz : s < a.tmps.size := by omega
  refine ⟨by show (a.tmps.setIfInBounds s v).size = 127; rw [Array.size_setIfInBounds]; exact h1, h2, ?_, ?_⟩
  all_goals
    rw [getD_put hz, if_neg (by omega)]
    assumption
structure KC (a : Act) (v6 v7 : Value) : Prop where
  size : a.tmps.size = 127
  defers : a.defers = []
  s6 : a.tmps.getD 6 undef = v6
  s7 : a.tmps.getD 7 undef = v7
theorem KC.lit {a : Act} {v6 v7 : Value} (h : KC a v6 v7) : ∃ u : Nat → Value, a = ⟨#[u 0, u 1, u 2, u 3, u 4, u 5, v6, v7, u 8, u 9, u 10, u 11, u 12, u 13, u 14, u 15, u 16, u 17, u 18, u 19, u 20, u 21, u 22, u 23, u 24, u 25, u 26, u 27, u 28, u 29, u 30, u 31, u 32, u 33, u 34, u 35, u 36, u 37, u 38, u 39, u 40, u 41, u 42, u 43, u 44, u 45, u 46, u 47, u 48, u 49, u 50, u 51, u 52, u 53, u 54, u 55, u 56, u 57, u 58, u 59, u 60, u 61, u 62, u 63, u 64, u 65, u 66, u 67, u 68, u 69, u 70, u 71, u 72, u 73, u 74, u 75, u 76, u 77, u 78, u 79, u 80, u 81, u 82, u 83, u 84, u 85, u 86, u 87, u 88, u 89, u 90, u 91, u 92, u 93, u 94, u 95, u 96, u 97, u 98, u 99, u 100, u 101, u 102, u 103, u 104, u 105, u 106, u 107, u 108, u 109, u 110, u 111, u 112, u 113, u 114, u 115, u 116, u 117, u 118, u 119, u 120, u 121, u 122, u 123, u 124, u 125, u 126], []⟩ := by
  obtain ⟨u, hu, e⟩ := lit127 a h.size h.defers
  refine ⟨u, e.trans ?_⟩
  rw [(hu 6).trans h.s6, (hu 7).trans h.s7]
theorem KC.put {a : Act} {v6 v7 v : Value} {s : Nat} (h : KC a v6 v7) (hs : 10 < s ∧ s < 127) : KC (a.put (some s) v) v6 v7 := by
  obtain ⟨h1, h2, g6, g7⟩ := h
  have hz : s < a.tmps.size := by omega
  refine ⟨by show (a.tmps.setIfInBounds s v).size = 127; rw [Array.size_setIfInBounds]; exact h1, h2, ?_, ?_⟩
  all_goals
    rw [getD_put hz, if_neg (by omega)]
    assumption
structure KD (a : Act) (v6 v7 v8 v9 : Value) : Prop where
  size : a.tmps.size = 127
  defers : a.defers = []
  s6 : a.tmps.getD 6 undef = v6
  s7 : a.tmps.getD 7 undef = v7
  s8 : a.tmps.getD 8 undef = v8
  s9 : a.tmps.getD 9 undef = v9
theorem KD.lit {a : Act} {v6 v7 v8 v9 : Value} (h : KD a v6 v7 v8 v9) : ∃ u : Nat → Value, a = ⟨#[u 0, u 1, u 2, u 3, u 4, u 5, v6, v7, v8, v9, u 10, u 11, u 12, u 13, u 14, u 15, u 16, u 17, u 18, u 19, u 20, u 21, u 22, u 23, u 24, u 25, u 26, u 27, u 28, u 29, u 30, u 31, u 32, u 33, u 34, u 35, u 36, u 37, u 38, u 39, u 40, u 41, u 42, u 43, u 44, u 45, u 46, u 47, u 48, u 49, u 50, u 51, u 52, u 53, u 54, u 55, u 56, u 57, u 58, u 59, u 60, u 61, u 62, u 63, u 64, u 65, u 66, u 67, u 68, u 69, u 70, u 71, u 72, u 73, u 74, u 75, u 76, u 77, u 78, u 79, u 80, u 81, u 82, u 83, u 84, u 85, u 86, u 87, u 88, u 89, u 90, u 91, u 92, u 93, u 94, u 95, u 96, u 97, u 98, u 99, u 100, u 101, u 102, u 103, u 104, u 105, u 106, u 107, u 108, u 109, u 110, u 111, u 112, u 113, u 114, u 115, u 116, u 117, u 118, u 119, u 120, u 121, u 122, u 123, u 124, u 125, u 126], []⟩ := by
  obtain ⟨u, hu, e⟩ := lit127 a h.size h.defers
  refine ⟨u, e.trans ?_⟩
  rw [(hu 6).trans h.s6, (hu 7).trans h.s7, (hu 8).trans h.s8, (hu 9).trans h.s9]
theorem KD.put {a : Act} {v6 v7 v8 v9 v : Value} {s : Nat} (h : KD a v6 v7 v8 v9) (hs : 10 < s ∧ s < 127) : KD (a.put (some s) v) v6 v7 v8 v9 := by
  obtain ⟨h1, h2, g6, g7, g8, g9⟩ := h
  have hz : s < a.tmps.size := by omega
  refine ⟨by show (a.tmps.setIfInBounds s v).size = 127; rw [Array.size_setIfInBounds]; exact h1, h2, ?_, ?_, ?_, ?_⟩
  all_goals
    rw [getD_put hz, if_neg (by omega)]
    assumption
structure KE (a : Act) (v6 v7 v8 v9 v10 : Value) : Prop where
  size : a.tmps.size = 127
  defers : a.defers = []
  s6 : a.tmps.getD 6 undef = v6
  s7 : a.tmps.getD 7 undef = v7
  s8 : a.tmps.getD 8 undef = v8
  s9 : a.tmps.getD 9 undef = v9
  s10 : a.tmps.getD 10 undef = v10
theorem KE.lit {a : Act} {v6 v7 v8 v9 v10 : Value} (h : KE a v6 v7 v8 v9 v10) : ∃ u : Nat → Value, a = ⟨#[u 0, u 1, u 2, u 3, u 4, u 5, v6, v7, v8, v9, v10, u 11, u 12, u 13, u 14, u 15, u 16, u 17, u 18, u 19, u 20, u 21, u 22, u 23, u 24, u 25, u 26, u 27, u 28, u 29, u 30, u 31, u 32, u 33, u 34, u 35, u 36, u 37, u 38, u 39, u 40, u 41, u 42, u 43, u 44, u 45, u 46, u 47, u 48, u 49, u 50, u 51, u 52, u 53, u 54, u 55, u 56, u 57, u 58, u 59, u 60, u 61, u 62, u 63, u 64, u 65, u 66, u 67, u 68, u 69, u 70, u 71, u 72, u 73, u 74, u 75, u 76, u 77, u 78, u 79, u 80, u 81, u 82, u 83, u 84, u 85, u 86, u 87, u 88, u 89, u 90, u 91, u 92, u 93, u 94, u 95, u 96, u 97, u 98, u 99, u 100, u 101, u 102, u 103, u 104, u 105, u 106, u 107, u 108, u 109, u 110, u 111, u 112, u 113, u 114, u 115, u 116, u 117, u 118, u 119, u 120, u 121, u 122, u 123, u 124, u 125, u 126], []⟩ := by
  obtain ⟨u, hu, e⟩ := lit127 a h.size h.defers
  refine ⟨u, e.trans ?_⟩
  rw [(hu 6).trans h.s6, (hu 7).trans h.s7, (hu 8).trans h.s8, (hu 9).trans h.s9, (hu 10).trans h.s10]
theorem KE.put {a : Act} {v6 v7 v8 v9 v10 v : Value} {s : Nat} (h : KE a v6 v7 v8 v9 v10) (hs : 10 < s ∧ s < 127) : KE (a.put (some s) v) v6 v7 v8 v9 v10 := by
  obtain ⟨h1, h2, g6, g7, g8, g9, g10⟩ := h
  have hz : s < a.tmps.size := by omega
  refine ⟨by show (a.tmps.setIfInBounds s v).size = 127; rw [Array.size_setIfInBounds]; exact h1, h2, ?_, ?_, ?_, ?_, ?_⟩
  all_goals
    rw [getD_put hz, if_neg (by omega)]
    assumption
/-- A manager that is none. -/
abbrev zeroC : Array Value := #[.bool false, .int .i64 0, .int .i64 0, .slice none 0 0, .map none]
def NoneP (W : World) (v : Value) : Prop := v = .pointer none ∨ ∃ g, v = Ptr g ∧ W.heap[g]? = some (.cells zeroC 51 (0, 0))
theorem NoneP.after {W W' : World} {v : Value} (h : NoneP W v) (a : After W W') : NoneP W' v := by
  rcases h with h | ⟨g, e, h⟩
  · exact .inl h
  · exact .inr ⟨g, e, keep3 h a⟩
theorem NoneP.is {W : World} {v : Value} (h : NoneP W v) : Calls Tryz.prog 24 #[v] W fun e w' => e = .returned (.bool true) ∧ w' = W := by
  rcases h with rfl | ⟨g, rfl, h⟩
  · exact mgNone_nil W
  · exact mgNone_zero h
theorem mgHandle_none {w : World} {v x0 x1 x2 x3 x4 x5 x6 : Value} (h : NoneP w v) :
    Calls Tryz.prog 8 #[v, .agg #[x0, x1, x2, x3, x4, x5, x6]] w fun e w' => e = .returned (.tuple #[.slice none 0 0, .slice none 0 0, .int .i64 1]) ∧ After w w' := by
  have H := hideIt (h.after (After.rfl.alloc (.cells #[x0, x1, x2, x3, x4, x5, x6] 31))).is
  clear h
  go_enter Tryz.func8, Tryz.ntmps8
  go_wp2_with fail
  refine H.out.mono ?_
  rintro e w' ⟨rfl, rfl⟩
  go_wp2_with fail
  go_ret3
  exact ⟨rfl, After.rfl.alloc _⟩
/-- A round over managers that are none. -/
def Rno (a : Act) (W : World) (w : World) : Prop := ∃ (i : Nat) (v1 : Value), i ≤ 2 ∧ KB a v1 (.int .i64 (i : Int)) ∧ NoneP W v1 ∧ After w W
def muNo (a : Act) (_ : World) : Nat := 2 - (intOf (a.tmps.getD 2 undef)).toNat
set_option maxHeartbeats 1000000 in
theorem nmRound1 {Q : Exit → Act → World → Prop} {a : Act} {W w : World} (hI : Rno a W w) (hK : ∀ a' W', KA a' → After w W' → Q (.exit 0) a' W') :
    Code.wp Tryz.prog (ncL1 Tryz.f4) (Exit.then (fun a' w' => Rno a' w' w ∧ muNo a' w' < muNo a W) Q) a W := by
  obtain ⟨i, v1, hi, hf, hn, aw⟩ := hI
  have hmu : muNo a W = 2 - i := by unfold muNo; rw [hf.s2]; simp [intOf]
  rw [hmu]
  obtain ⟨u, rfl⟩ := hf.lit
  clear hf hmu
  by_cases hlt : i < 2
  · have ii : (i : Int) < 2 := by omega
    have H1 := hideIt (mgHandle_none (x0 := .int .i64 0) (x1 := .slice none 0 0) (x2 := .int .i64 0) (x3 := .int .i64 0) (x4 := .int .i64 0) (x5 := .slice none 0 0) (x6 := .slice none 0 0) hn)
    have HN := hideIt (And.intro hn aw)
    clear hn aw hK
    conv => arg 2; whnf
    go_wp2_with fail
    refine H1.out.mono ?_
    rintro e w2 ⟨rfl, a2⟩
    have n2 := HN.out.1.after a2
    have H2 := hideIt (mgState_none n2.is)
    have H3 := hideIt (mgObjs_none n2.is)
    have HA := hideIt (HN.out.2.trans a2)
    clear H1 HN a2 n2
    go_wp2_with fail
    refine H2.out.mono ?_
    rintro e w' ⟨rfl, hw'⟩
    rw [hw']
    clear hw' H2
    go_wp2_with fail
    refine H3.out.mono ?_
    rintro e w' ⟨rfl, hw'⟩
    rw [hw']
    clear hw' H3
    go_wp2_with fail
    refine ⟨⟨i + 1, Ptr w2.heap.size, by omega, ⟨rfl, rfl, rfl, by show Value.int .i64 ((i : Int) + 1) = _; rw [Int.natCast_add]; rfl⟩, .inr ⟨_, rfl, new1 _ _⟩, HA.out.alloc _⟩, ?_⟩
    show 2 - (intOf (Value.int .i64 ((i : Int) + 1))).toNat < _
    simp [intOf]
    omega
  · obtain rfl : i = 2 := by omega
    have HK := hideIt hK
    have AW := hideIt aw
    clear hK aw hn hlt hi
    conv => arg 2; whnf
    go_wp2_with fail
    exact HK.out _ _ ⟨rfl, rfl⟩ AW.out
theorem nm_exit {id : Nat} {Q : Exit → Act → World → Prop} {a : Act} {w : World} (h : Q .normal a w) : Exit.inBlock id Q (.exit id) a w := by
  show (if id = id then Q .normal a w else Q (.exit id) a w)
  rw [if_pos rfl]
  exact h
theorem nmPart2 {Q : Exit → Act → World → Prop} {a : Act} {w : World} {v2 : Value} (hf : KB a (.pointer none) v2) (hK : ∀ a' W', KA a' → After w W' → Q .normal a' W') :
    Code.wp Tryz.prog (.seq (sq1 (sq1 (nc2 Tryz.f4))) (.block 0 (.loop (ncL1 Tryz.f4)))) Q a w := by
  refine wp_seq ?_
  have key : ∀ a', KB a' (.pointer none) (.int .i64 0) → Code.wp Tryz.prog (.block 0 (.loop (ncL1 Tryz.f4))) Q a' w := by
    intro a' hf'
    refine wp_block ?_
    refine wp_loop (fun a W => Rno a W w) muNo ⟨0, _, Nat.zero_le _, hf', .inl rfl, After.rfl⟩ ?_
    intro a2 W2 hI
    exact nmRound1 hI (fun a3 W3 h1 h2 => nm_exit (hK a3 W3 h1 h2))
  have HK := hideIt key
  obtain ⟨u, rfl⟩ := hf.lit
  clear hf key hK
  generalize Code.block 0 (.loop (ncL1 Tryz.f4)) = rest at *
  conv => arg 2; whnf
  go_wp2_with fail
  exact HK.out _ ⟨rfl, rfl, rfl, rfl⟩
abbrev fiveC : Array Value := #[.int .i64 1, .bool false, .int .u32 61806]
abbrev kindC : Array Value := #[.int .i64 58112, .int .i64 58368, .int .i64 58624, .int .i64 58880, .int .i64 3357, .int .i64 3358, .int .i64 7]
/-- What lies there for the lists: a number, the kinds. -/
def Lay (W : World) (g5 g7 : Nat) : Prop := W.heap[g5]? = some (.cells fiveC 54 (0, 0)) ∧ W.heap[g7]? = some (.cells kindC 3 (0, 0))
theorem Lay.after {W W' : World} {g5 g7 : Nat} (h : Lay W g5 g7) (a : After W W') : Lay W' g5 g7 := ⟨keep3 h.1 a, keep3 h.2 a⟩
theorem nmPart9 {Q : Exit → Act → World → Prop} {a : Act} {w : World} (hf : KA a) (hK : ∀ a' W' g5 g7, KC a' (Ptr g5) (.slice (some ⟨g7, 0, none⟩) 7 7) → Lay W' g5 g7 → After w W' → Code.wp Tryz.prog (nc11 Tryz.f4) Q a' W') : Code.wp Tryz.prog (nc9 Tryz.f4) Q a w := by
  rw [nc9_eq, nc10_eq]
  have HK := hideIt hK
  obtain ⟨u, rfl⟩ := hf.lit
  clear hf hK
  generalize (nc11 Tryz.f4) = rest at *
  refine wp_seq ?_
  conv => arg 2; whnf
  go_wp2_with fail
  conv => arg 2; whnf
  go_wp2_with fail
  have h2 := new2 w (.cells fiveC 54) (.cells kindC 3)
  exact HK.out _ _ w.heap.size (w.heap.size + 1) ⟨rfl, rfl, rfl, rfl⟩ h2 ((After.rfl.alloc _).alloc _)
theorem wp_append {o : Oper} {a : Act} {w : World} {K : Act → World → Prop} {Q : Exit → Act → World → Prop} {s x : Operand} {t : TypeId} {v : Value} {w' : World} (ho : o.op = .call { callee := .builtin .append, args := #[s, x], argTypes := #[t, t] }) (hr : (Builtin.append_ #[t, t] o.type #[a.eval s, a.eval x]).run Tryz.prog w = .ok v w') (h : K (a.put o.dst v) w') : Oper.wp Tryz.prog o a w K Q := by
  unfold Oper.wp execOp
  simp only [ho, resolve, invoke, builtin, Sem.run_bind, Sem.run_pure, Result.andThen_ok, List.map_toArray, List.map_cons, List.map_nil, hr]
  exact h
set_option maxRecDepth 100000 in
set_option maxHeartbeats 2000000 in
/-- The list's beginning. -/
theorem nmPart11 {Q : Exit → Act → World → Prop} {a : Act} {A : Nat} {w0 : World} {g5 g7 : Nat} (hf : KC a (Ptr g5) (.slice (some ⟨g7, 0, none⟩) 7 7)) (hl : Lay w0 g5 g7) (hA : A ≤ w0.heap.size)
    (hK : ∀ a' w' v8, KC a' (Ptr g5) (.slice (some ⟨g7, 0, none⟩) 7 7) → a'.tmps.getD 8 undef = v8 → Lp A (Far v8) w' v8 11 → Lay w' g5 g7 → After w0 w' → Q .normal a' w') : Code.wp Tryz.prog (sq1 (nc11 Tryz.f4)) Q a w0 := by
  conv => arg 2; whnf
  have hB : ∀ (a : Act) w, (KC a (Ptr g5) (.slice (some ⟨g7, 0, none⟩) 7 7) ∧ After w0 w) → w0.heap.size ≤ w.heap.size := fun a w hb => hb.2.size
  refine region_fence (by kernel_rfl) (TN A w0.heap.size [(0, 0), (0, 0), (0, 0), (0, 0), (1, 0), (2, 1), (0, 0), (1, 0), (1, 0), (2, 2), (0, 0), (0, 0), (1, 0), (2, 1), (0, 0), (0, 0), (0, 0), (0, 0)]) (DD 49) (fun a w => KC a (Ptr g5) (.slice (some ⟨g7, 0, none⟩) 7 7) ∧ After w0 w) 18 127 _ _ rfl rfl rfl hf.size (fun i v w w' h hA => HoldN.after h hA) (fun i j _ _ h => by unfold DD at h; omega) (fun i hi => by unfold DD; omega) (fun a w k v w' _ hb hk hA => ⟨hb.1.put (by unfold DD; omega), hb.2.trans hA⟩) ⟨hf, But.drew After.rfl⟩ ?_ rfl rfl rfl rfl 6 rfl rfl ?_
  · exact ⟨n_ask 0 hB rfl rfl rfl rfl rfl,
      n_ask 5 hB rfl rfl rfl rfl rfl,
      n_one 6 hB rfl rfl rfl rfl rfl,
      n_one 5 hB rfl rfl rfl rfl rfl,
      op_mk rfl rfl (.inl rfl) (fun a w K Q _ hb hk => wp_load rfl hb.1.s6 (load_obs (tri_at (hl.after hb.2).1).2.1.1 (tri_at (hl.after hb.2).1).2.1.2.1 (tri_at (hl.after hb.2).1).2.1.2.2) (hk _ _ ⟨fiveO, rfl, by decide⟩ After.rfl)),
      n_obs hB [.tmp 53] rfl rfl rfl rfl (by decide) (by decide) rfl rfl rfl rfl,
      n_scan 5 1 rfl rfl rfl rfl rfl rfl rfl,
      op_mk rfl rfl (.inl rfl) (fun a w K Q _ hb hk => wp_load rfl hb.1.s6 (load_obs (tri_at (hl.after hb.2).1).2.1.1 (tri_at (hl.after hb.2).1).2.1.2.1 (tri_at (hl.after hb.2).1).2.1.2.2) (hk _ _ ⟨fiveO, rfl, by decide⟩ After.rfl)),
      n_bi ⟨2, false, 7⟩ rfl (fun a => by kernel_rfl) (by decide) rfl rfl rfl rfl,
      n_obs hB [.tmp 56, .tmp 57] rfl rfl rfl rfl (by decide) (by decide) rfl rfl rfl rfl,
      n_scan 9 2 rfl rfl rfl rfl rfl rfl rfl,
      n_scan0 rfl rfl rfl rfl rfl,
      n_bi ⟨1, true, 7⟩ rfl (fun a => by kernel_rfl) (by decide) rfl rfl rfl rfl,
      n_obs hB [.tmp 61] rfl rfl rfl rfl (by decide) (by decide) rfl rfl rfl rfl,
      n_scan 13 1 rfl rfl rfl rfl rfl rfl rfl,
      n_msg 58368 3 rfl (fun a => by kernel_rfl) rfl rfl rfl rfl,
      n_scan0 rfl rfl rfl rfl rfl,
      n_msg 58880 9 rfl (fun a => by kernel_rfl) rfl rfl rfl rfl,
      trivial⟩
  · intro a' w' hs hT hb K hKK
    refine nl_wp (L := [(0, 0), (0, 0), (0, 0), (0, 0), (1, 0), (2, 1), (0, 0), (1, 0), (1, 0), (2, 2), (0, 0), (0, 0), (1, 0), (2, 1), (0, 0), (0, 0), (0, 0), (0, 0)]) (B := w0.heap.size) (A := A) (d := 49) [.tmp 49, .tmp 50, .tmp 51, .tmp 52, .tmp 55, .tmp 59, .tmp 60, .tmp 63, .tmp 64, .tmp 65, .tmp 66] rfl rfl rfl rfl (by decide) (by decide) (fun i hi => hT i (wait_lt rfl hi)) (Nat.le_trans hA hb.2.size) ?_
    intro v w3 hv hA3
    refine hKK _ _ (fun K2 hK2 => wp_assign rfl (hK2 _ _ ?_))
    have k1 := hb.1.put (s := 67) (v := v) (by decide)
    have ev : (a'.put (some 67) v).eval (.tmp 67) = v := by
      show (a'.put (some 67) v).tmps.getD 67 undef = v
      rw [getD_put (by rw [hs]; decide), if_pos rfl]
    show Q .normal ((a'.put (some 67) v).put (some 8) ((a'.put (some 67) v).eval (.tmp 67))) w3
    rw [ev]
    have hz : 8 < (a'.put (some 67) v).tmps.size := by rw [k1.size]; decide
    refine hK _ _ v ⟨by show ((a'.put (some 67) v).tmps.setIfInBounds 8 v).size = 127; rw [Array.size_setIfInBounds]; exact k1.size, k1.defers, by rw [getD_put hz, if_neg (by decide)]; exact k1.s6, by rw [getD_put hz, if_neg (by decide)]; exact k1.s7⟩ (by rw [getD_put hz, if_pos rfl]) (hv.mono (fun k hk => hk.2)) (hl.after (hb.2.trans hA3)) (hb.2.trans hA3)
theorem load_of {w0 w : World} {g : Nat} {x0 x1 x2 x3 x4 x5 x6 : Value} (h : w0.heap[g]? = some (.cells #[x0, x1, x2, x3, x4, x5, x6] 31 (0, 0))) (a : After w0 w) : (Instr.loadAt 31 (Ptr g)).run Tryz.prog w = .ok (.agg #[x0, x1, x2, x3, x4, x5, x6]) w := by
  obtain ⟨_, ⟨k0, k1, k2, k3, k4, k5, k6⟩, _⟩ := seven_at (keep3 h a)
  exact load_msg k0 k1 k2 k3 k4 k5 k6
theorem own_type {w : World} {A : Nat} {T : TypeId} {sz : Nat} {v : Value} {n : Nat} {xs : List Value} (h : w.ownsRow A T sz v n xs) {k : Nat} (hk : v.ownBlock = some k) : ∃ cs f, w.heap[k]? = some (.cells cs T f) := by
  rcases h.2 with ⟨rfl, _⟩ | ⟨g, cap, cur, rfl, _, hg, _⟩
  · cases hk
  · cases hk; exact ⟨_, _, hg⟩
set_option maxRecDepth 100000 in
set_option maxHeartbeats 2000000 in
/-- The list, longer by what a kind brings. -/
theorem nmPart16 {Q : Exit → Act → World → Prop} {a : Act} {A : Nat} {w0 : World} {g5 g7 gk n : Nat} {v8 v9 : Value} {z : Int} (hf : KE a (Ptr g5) (.slice (some ⟨g7, 0, none⟩) 7 7) v8 v9 (Ptr gk)) (hl : Lay w0 g5 g7) (h8 : Lp A (Far v8) w0 v8 n) (hk10 : w0.heap[gk]? = some (.cells #[.int .i64 z, .slice none 0 0, .int .i64 0, .int .i64 0, .int .i64 0, .slice none 0 0, .slice none 0 0] 31 (0, 0))) (hn : n ≤ 500) (hA : A ≤ w0.heap.size)
    (hK : ∀ a' w' v, KD a' (Ptr g5) (.slice (some ⟨g7, 0, none⟩) 7 7) v v9 → Lp A (Far v) w' v (n + 17) → Lay w' g5 g7 → But (fun k => A ≤ k) w0 w' → Q .normal a' w') : Code.wp Tryz.prog (sq2 (nc15 Tryz.f4)) Q a w0 := by
  conv => arg 2; whnf
  have hB : ∀ (a : Act) w, (KE a (Ptr g5) (.slice (some ⟨g7, 0, none⟩) 7 7) v8 v9 (Ptr gk) ∧ After w0 w) → w0.heap.size ≤ w.heap.size := fun a w hb => hb.2.size
  have hown : ∀ k, v8.ownBlock = some k → k < w0.heap.size := fun k hk => by obtain ⟨_, _, _, own⟩ := h8; exact (own.lt k hk).2
  refine region_fence (by kernel_rfl) (TN A w0.heap.size [(4, n), (0, 0), (0, 0), (0, 0), (0, 0), (0, 0), (0, 0), (0, 0), (0, 0), (0, 0), (0, 0), (0, 0), (0, 0), (0, 0), (0, 0), (0, 0), (0, 0), (1, 0), (2, 1), (0, 0), (3, 17)]) (DD 79) (fun a w => KE a (Ptr g5) (.slice (some ⟨g7, 0, none⟩) 7 7) v8 v9 (Ptr gk) ∧ After w0 w) 21 127 _ _ rfl rfl rfl hf.size (fun i v w w' h hA => HoldN.after h hA) (fun i j _ _ h => by unfold DD at h; omega) (fun i hi => by unfold DD; omega) (fun a w k v w' _ hb hk hA => ⟨hb.1.put (by unfold DD; omega), hb.2.trans hA⟩) ⟨hf, But.drew After.rfl⟩ ?_ rfl rfl rfl rfl 6 rfl rfl ?_
  · exact ⟨op_mk rfl rfl (.inl rfl) (fun a w K Q _ hb hk => wp_move rfl (hk _ _ (by show Lp A (Far (a.tmps.getD 8 undef)) w (a.tmps.getD 8 undef) n ∧ ∀ k, (a.tmps.getD 8 undef).ownBlock = some k → k < w0.heap.size; rw [hb.1.s8]; exact ⟨h8.after hb.2, hown⟩) After.rfl)),
      op_mk rfl rfl (.inl rfl) (fun a w K Q _ hb hk => wp_load rfl hb.1.s10 (load_of hk10 hb.2) (hk _ _ (gp_nils _ _ _ _ _ _) After.rfl)),
      n_ask 5 hB rfl rfl rfl rfl rfl,
      op_mk rfl rfl (.inl rfl) (fun a w K Q _ hb hk => wp_load rfl hb.1.s10 (load_of hk10 hb.2) (hk _ _ (gp_nils _ _ _ _ _ _) After.rfl)),
      n_ask 5 hB rfl rfl rfl rfl rfl,
      n_one 5 hB rfl rfl rfl rfl rfl,
      op_mk rfl rfl (.inl rfl) (fun a w K Q _ hb hk => wp_load rfl hb.1.s10 (load_of hk10 hb.2) (hk _ _ (gp_nils _ _ _ _ _ _) After.rfl)),
      n_ask 5 hB rfl rfl rfl rfl rfl,
      n_one 5 hB rfl rfl rfl rfl rfl,
      n_ask 5 hB rfl rfl rfl rfl rfl,
      n_ask 5 hB rfl rfl rfl rfl rfl,
      n_ask 6 hB rfl rfl rfl rfl rfl,
      n_ask 5 hB rfl rfl rfl rfl rfl,
      n_one 5 hB rfl rfl rfl rfl rfl,
      n_one 5 hB rfl rfl rfl rfl rfl,
      n_ask 5 hB rfl rfl rfl rfl rfl,
      n_scan0 rfl rfl rfl rfl rfl,
      op_mk rfl rfl (.inl rfl) (fun a w K Q _ hb hk => wp_load rfl hb.1.s6 (load_obs (tri_at (hl.after hb.2).1).2.1.1 (tri_at (hl.after hb.2).1).2.1.2.1 (tri_at (hl.after hb.2).1).2.1.2.2) (hk _ _ ⟨fiveO, rfl, by decide⟩ After.rfl)),
      n_obs hB [.tmp 96] rfl rfl rfl rfl (by decide) (by decide) rfl rfl rfl rfl,
      n_scan 18 1 rfl rfl rfl rfl rfl rfl rfl,
      n_list hB [.tmp 80, .tmp 81, .tmp 82, .tmp 83, .tmp 84, .tmp 85, .tmp 86, .tmp 87, .tmp 88, .tmp 89, .tmp 90, .tmp 91, .tmp 92, .tmp 93, .tmp 94, .tmp 95, .tmp 98] rfl rfl rfl rfl (by decide) (by decide) rfl rfl rfl rfl,
      trivial⟩
  · intro a' w' hs hT hb K hKK
    obtain ⟨t0, t1⟩ := (show Lp A (Far (a'.tmps.getD 79 undef)) w' (a'.tmps.getD 79 undef) n ∧ ∀ k, (a'.tmps.getD 79 undef).ownBlock = some k → k < w0.heap.size from hT 0 (by decide))
    have t2 := (show Lp w0.heap.size (fun k => w0.heap.size ≤ k) w' (a'.tmps.getD 99 undef) 17 from hT 20 (by decide))
    have own := t0
    obtain ⟨_, _, _, own⟩ := own
    obtain ⟨v', w3, hr, hv, hBt⟩ := nm_append _ t0 t1 t2 (by decide) (by omega) (Nat.le_trans hA hb.2.size)
    refine wp_append (s := .tmp 79) (x := .tmp 99) rfl hr (hKK _ _ (fun K2 hK2 => wp_assign rfl (hK2 _ _ ?_)))
    have k1 := hb.1.put (s := 100) (v := v') (by decide)
    have ev : (a'.put (some 100) v').eval (.tmp 100) = v' := by
      show (a'.put (some 100) v').tmps.getD 100 undef = v'
      rw [getD_put (by rw [hs]; decide), if_pos rfl]
    show Q .normal ((a'.put (some 100) v').put (some 8) ((a'.put (some 100) v').eval (.tmp 100))) w3
    rw [ev]
    have hz : 8 < (a'.put (some 100) v').tmps.size := by rw [k1.size]; decide
    have l2 := hl.after hb.2
    refine hK _ _ v' ⟨by show ((a'.put (some 100) v').tmps.setIfInBounds 8 v').size = 127; rw [Array.size_setIfInBounds]; exact k1.size, k1.defers, by rw [getD_put hz, if_neg (by decide)]; exact k1.s6, by rw [getD_put hz, if_neg (by decide)]; exact k1.s7, by rw [getD_put hz, if_pos rfl], by rw [getD_put hz, if_neg (by decide)]; exact k1.s9⟩ hv ⟨?_, ?_⟩ (hb.2.but.then hBt (fun i _ t => (own.lt i t).1))
    · refine (hBt.block g5 (Array.getElem?_eq_some_iff.1 l2.1).1 (fun t => ?_)).trans l2.1
      obtain ⟨cs, f, e⟩ := own_type own t
      rw [l2.1] at e
      injection e with e
      injection e with _ e2 _
      exact absurd e2 (by decide)
    · refine (hBt.block g7 (Array.getElem?_eq_some_iff.1 l2.2).1 (fun t => ?_)).trans l2.2
      obtain ⟨cs, f, e⟩ := own_type own t
      rw [l2.2] at e
      injection e with e
      injection e with _ e2 _
      exact absurd e2 (by decide)
end Go.Proofs.YthcfdoafncbliaaGreat
/-
  AssocOrder: the loops over the samples and over the objects.
-/
namespace Go.Proofs.YthcfdoafncbliaaGreat
open Go.RowKit Go.Maps
set_option maxRecDepth 8000
def o22 (f : Func) : Code := inLp (inBlk (sq2 (sq1 (o21 f))))
def o24 (f : Func) : Code := inBlk (sq1 (sq2 (o22 f)))
def o26 (f : Func) : Code := inLp (inBlk (sq2 (sq1 (sq2 (o24 f)))))
theorem p21_eq : sq1 (o21 Tryz.f20) = .seq (sq1 (sq1 (o21 Tryz.f20))) (.block 2 (.loop (o22 Tryz.f20))) := by kernel_rfl
theorem o22_eq : (o22 Tryz.f20) = .seq (sq1 (o22 Tryz.f20)) (.seq (.block 3 (o24 Tryz.f20)) (sq2 (sq2 (o22 Tryz.f20)))) := by kernel_rfl
theorem o24_eq : (o24 Tryz.f20) = .seq (sq1 (o24 Tryz.f20)) (.seq (.seq (sq1 (sq1 (sq2 (o24 Tryz.f20)))) (.block 4 (.loop (o26 Tryz.f20)))) (sq2 (sq2 (o24 Tryz.f20)))) := by kernel_rfl
/-- A round over the objects. -/
def R3 (a : Act) (W : World) (v0 v3 v4 v5 v7 v9 v11 v12 : Value) (ha : Option Addr) (nh hc : Nat) (b1 o1 ns scv j : Nat) (ob : List Ob) (oh : Int) (w : World) : Prop :=
  ∃ q : Nat, q ≤ nh ∧ F1 a v0 v3 v4 v5 (.slice ha nh hc) v7 (.slice (some ⟨b1, o1, none⟩) ns scv) v9 v11 v12 ∧ a.tmps.getD 14 undef = .int .i64 (j : Int) ∧ a.tmps.getD 15 undef = .bool ((ob.take q).any fun p => decide (p.h = oh)) ∧ a.tmps.getD 16 undef = .int .i64 (q : Int) ∧ After w W
def mu16 (nh : Nat) (a : Act) (_ : World) : Nat := nh - (intOf (a.tmps.getD 16 undef)).toNat
set_option maxHeartbeats 1000000 in
theorem round26 {Q : Exit → Act → World → Prop} {a : Act} {W w : World} {v0 v3 v4 v5 v7 v9 v11 v12 : Value} {ha : Option Addr} {nh hc b1 o1 ns scv j : Nat} {ob : List Ob} {oh : Int} (hI : R3 a W v0 v3 v4 v5 v7 v9 v11 v12 ha nh hc b1 o1 ns scv j ob oh w) (hr : RowT w ha nh (ob.map Ob.t3)) (hd : w.cell? ⟨b1, o1 + j * 4, none⟩ = some (.int .i64 oh)) (hb : b1 < w.heap.size) (hj : (j : Int) < (ns : Int)) (hnh : nh ≤ 16)
    (hK : ∀ a' W', F1 a' v0 v3 v4 v5 (.slice ha nh hc) v7 (.slice (some ⟨b1, o1, none⟩) ns scv) v9 v11 v12 → a'.tmps.getD 14 undef = .int .i64 (j : Int) → a'.tmps.getD 15 undef = .bool (ob.any fun p => decide (p.h = oh)) → After w W' → Q (.exit 4) a' W') :
    Code.wp Tryz.prog (o26 Tryz.f20) (Exit.then (fun a' w' => R3 a' w' v0 v3 v4 v5 v7 v9 v11 v12 ha nh hc b1 o1 ns scv j ob oh w ∧ mu16 nh a' w' < mu16 nh a W) Q) a W := by
  obtain ⟨q, hq, hf, h14, h15, h16, aw⟩ := hI
  have hlo : ob.length = nh := by have := hr.1; simpa using this
  have hmu : mu16 nh a W = nh - q := by unfold mu16; rw [h16]; simp [intOf]
  rw [hmu]
  obtain ⟨u, hu, e⟩ := hf.lit
  have e14 := (hu 14).trans h14
  have e15 := (hu 15).trans h15
  have e16 := (hu 16).trans h16
  subst e
  rw [e14, e15, e16]
  clear hf hu h14 h15 h16 e14 e15 e16 hmu
  conv => arg 2; whnf
  by_cases hqn : q < nh
  · have iq : (q : Int) < (nh : Int) := by omega
    obtain ⟨b3, o3, pt, rfl, l3, hpt, g0, _, _⟩ := (hr.after aw).2 q hqn
    obtain ⟨pp, hpp, rfl⟩ : ∃ pp, ob[q]? = some pp ∧ pt = pp.t3 := by
      rw [List.getElem?_map] at hpt
      obtain ⟨pp, h1, h2⟩ := Option.map_eq_some_iff.1 hpt
      exact ⟨pp, h1, h2.symm⟩
    unfold Ob.t3 at g0
    dsimp only at g0
    rw [← aw.cell hb] at hd
    have l1 := Nat.lt_of_lt_of_le hb aw.size
    have hany : (ob.take (q + 1)).any (fun p => decide (p.h = oh)) = ((ob.take q).any (fun p => decide (p.h = oh)) || decide (pp.h = oh)) := by
      rw [List.take_add_one, hpp, List.any_append]
      simp
    have HQ := hideIt (And.intro hany aw)
    clear hany aw hpt hpp hr hK hlo
    generalize (ob.take q).any (fun p => decide (p.h = oh)) = vb at *
    cases vb with
    | true =>
      go_wp2_with fail
      go_quiet (fail)
      have AW2 := hideIt (HQ.out.2.draws nq)
      generalize W.drewN nq = W9 at *
      clear hd g0
      go_wp2_with fail
      refine ⟨⟨q + 1, by omega, ⟨rfl, rfl, rfl, rfl, rfl, rfl, rfl, rfl, rfl, rfl, rfl, rfl⟩, rfl, ?_, by show Value.int .i64 ((q : Int) + 1) = _; rw [Int.natCast_add]; rfl, AW2.out⟩, ?_⟩
      · show Value.bool true = _
        rw [HQ.out.1]
        rfl
      · show nh - (intOf (Value.int .i64 ((q : Int) + 1))).toNat < _
        simp [intOf]
        omega
    | false =>
      obtain ⟨vh, hvh⟩ : ∃ vh, (pp.h == oh) = vh := ⟨_, rfl⟩
      have hvv : (false || decide (pp.h = oh)) = vh := by
        rw [← hvh]
        by_cases h : pp.h = oh <;> simp [h]
      rw [hvv] at HQ
      clear hvv
      go_wp2_with fail
      go_quiet (fail)
      have AW2 := hideIt (HQ.out.2.draws nq)
      generalize W.drewN nq = W9 at *
      clear hd g0 hvh
      go_wp2_with fail
      refine ⟨⟨q + 1, by omega, ⟨rfl, rfl, rfl, rfl, rfl, rfl, rfl, rfl, rfl, rfl, rfl, rfl⟩, rfl, ?_, by show Value.int .i64 ((q : Int) + 1) = _; rw [Int.natCast_add]; rfl, AW2.out⟩, ?_⟩
      · show Value.bool vh = _
        rw [HQ.out.1]
      · show nh - (intOf (Value.int .i64 ((q : Int) + 1))).toNat < _
        simp [intOf]
        omega
  · obtain rfl : q = nh := by omega
    have iq : ¬ (q : Int) < (q : Int) := by omega
    rw [List.take_of_length_le (by omega)]
    have HK := hideIt hK
    have AW := hideIt aw
    clear hK aw hr hd hqn hlo
    go_wp2_with fail
    exact HK.out _ _ ⟨rfl, rfl, rfl, rfl, rfl, rfl, rfl, rfl, rfl, rfl, rfl, rfl⟩ rfl rfl AW.out
theorem part25 {Q : Exit → Act → World → Prop} {a : Act} {w : World} {v0 v3 v4 v5 v7 v9 v11 v12 : Value} {ha : Option Addr} {nh hc b1 o1 ns scv j : Nat} {ob : List Ob} {oh : Int} (hf : F1 a v0 v3 v4 v5 (.slice ha nh hc) v7 (.slice (some ⟨b1, o1, none⟩) ns scv) v9 v11 v12) (h14 : a.tmps.getD 14 undef = .int .i64 (j : Int)) (h15 : a.tmps.getD 15 undef = .bool false) (hr : RowT w ha nh (ob.map Ob.t3)) (hd : w.cell? ⟨b1, o1 + j * 4, none⟩ = some (.int .i64 oh)) (hb : b1 < w.heap.size) (hj : (j : Int) < (ns : Int)) (hnh : nh ≤ 16)
    (hK : ∀ a' W', F1 a' v0 v3 v4 v5 (.slice ha nh hc) v7 (.slice (some ⟨b1, o1, none⟩) ns scv) v9 v11 v12 → a'.tmps.getD 14 undef = .int .i64 (j : Int) → a'.tmps.getD 15 undef = .bool (ob.any fun p => decide (p.h = oh)) → After w W' → Q .normal a' W') :
    Code.wp Tryz.prog (.seq (sq1 (sq1 (sq2 (o24 Tryz.f20)))) (.block 4 (.loop (o26 Tryz.f20)))) Q a w := by
  refine wp_seq ?_
  have key : ∀ a', F1 a' v0 v3 v4 v5 (.slice ha nh hc) v7 (.slice (some ⟨b1, o1, none⟩) ns scv) v9 v11 v12 → a'.tmps.getD 14 undef = .int .i64 (j : Int) → a'.tmps.getD 15 undef = .bool false → a'.tmps.getD 16 undef = .int .i64 0 → Code.wp Tryz.prog (.block 4 (.loop (o26 Tryz.f20))) Q a' w := by
    intro a' hf h14 h15 h16
    refine wp_block ?_
    refine wp_loop (fun a W => R3 a W v0 v3 v4 v5 v7 v9 v11 v12 ha nh hc b1 o1 ns scv j ob oh w) (mu16 nh) ⟨0, Nat.zero_le _, hf, h14, h15, h16, After.rfl⟩ ?_
    intro a2 W2 hI
    exact round26 hI hr hd hb hj hnh (fun a3 W3 h1 h2 h3 h4 => by
      show (if (4 : Nat) = 4 then Q .normal a3 W3 else Q (.exit 4) a3 W3)
      rw [if_pos rfl]
      exact hK a3 W3 h1 h2 h3 h4)
  obtain ⟨u, hu, e⟩ := hf.lit
  have e14 := (hu 14).trans h14
  have e15 := (hu 15).trans h15
  subst e
  rw [e14, e15]
  have HK := hideIt key
  clear hf hu h14 h15 e14 e15 key hK hr hd
  generalize Code.block 4 (.loop (o26 Tryz.f20)) = rest at *
  conv => arg 2; whnf
  go_wp2_with fail
  exact HK.out _ ⟨rfl, rfl, rfl, rfl, rfl, rfl, rfl, rfl, rfl, rfl, rfl, rfl⟩ rfl rfl rfl
end Go.Proofs.YthcfdoafncbliaaGreat
