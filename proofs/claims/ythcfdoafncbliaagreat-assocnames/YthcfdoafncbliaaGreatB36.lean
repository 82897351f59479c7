/-
  Laid together: LawNamesA.
-/
import Derived.Test.YthcfdoafncbliaaGreatB33
import Derived.Test.YthcfdoafncbliaaGreatB30
import Derived.Test.YthcfdoafncbliaaGreatB35
/-
  AssocNames.
-/
namespace Go.Proofs.YthcfdoafncbliaaGreat
open Go.RowKit Go.Maps
set_option maxRecDepth 8000
theorem kind_at {W : World} {g7 i : Nat} (h : W.heap[g7]? = some (.cells kindC 3 (0, 0))) (hi : i < 7) : ∃ z, W.cell? ⟨g7, i, none⟩ = some (.int .i64 z) := by
  have hc : W.cell? ⟨g7, i, none⟩ = kindC[i]? := by simp [World.cell?, h]
  rw [hc]
  match i, hi with
  | 0, _ => exact ⟨_, rfl⟩
  | 1, _ => exact ⟨_, rfl⟩
  | 2, _ => exact ⟨_, rfl⟩
  | 3, _ => exact ⟨_, rfl⟩
  | 4, _ => exact ⟨_, rfl⟩
  | 5, _ => exact ⟨_, rfl⟩
  | 6, _ => exact ⟨_, rfl⟩
/-- A message of one kind. -/
theorem nmPart15 {Q : Exit → Act → World → Prop} {a : Act} {w : World} {g5 g7 i : Nat} {v8 : Value} (hf : KD a (Ptr g5) (.slice (some ⟨g7, 0, none⟩) 7 7) v8 (.int .i64 (i : Int))) (hl : Lay w g5 g7) (hi : i < 7)
    (hK : ∀ a' w' gk z, KE a' (Ptr g5) (.slice (some ⟨g7, 0, none⟩) 7 7) v8 (.int .i64 (i : Int)) (Ptr gk) → w'.heap[gk]? = some (.cells #[.int .i64 z, .slice none 0 0, .int .i64 0, .int .i64 0, .int .i64 0, .slice none 0 0, .slice none 0 0] 31 (0, 0)) → After w w' → Q .normal a' w') : Code.wp Tryz.prog (sq1 (nc15 Tryz.f4)) Q a w := by
  obtain ⟨u, rfl⟩ := hf.lit
  obtain ⟨z, hz⟩ := kind_at hl.2 hi
  have ii : (i : Int) < 7 := by omega
  have HK := hideIt hK
  clear hf hK hl
  conv => arg 2; whnf
  go_wp2_with fail
  exact HK.out _ _ w.heap.size z ⟨rfl, rfl, rfl, rfl, rfl, rfl, rfl⟩ (new1 _ _) (After.rfl.alloc _)
/-- A round over the kinds. -/
def Rki (a : Act) (W : World) (A g5 g7 : Nat) (w : World) : Prop :=
  ∃ (i : Nat) (v8 : Value), i ≤ 7 ∧ KD a (Ptr g5) (.slice (some ⟨g7, 0, none⟩) 7 7) v8 (.int .i64 (i : Int)) ∧ Lp A (Far v8) W v8 (11 + 17 * i) ∧ Lay W g5 g7 ∧ After w W
def muKi (a : Act) (_ : World) : Nat := 7 - (intOf (a.tmps.getD 9 undef)).toNat
structure KF (a : Act) (v8 : Value) : Prop where
  size : a.tmps.size = 127
  defers : a.defers = []
  s8 : a.tmps.getD 8 undef = v8
theorem nmRound2 {Q : Exit → Act → World → Prop} {a : Act} {W w : World} {g5 g7 : Nat} (hI : Rki a W w.heap.size g5 g7 w) (hK : ∀ a' W' v8, KF a' v8 → Lp w.heap.size (Far v8) W' v8 130 → After w W' → Q (.exit 2) a' W') :
    Code.wp Tryz.prog (ncL2 Tryz.f4) (Exit.then (fun a' w' => Rki a' w' w.heap.size g5 g7 w ∧ muKi a' w' < muKi a W) Q) a W := by
  obtain ⟨i, v8, hi, hf, h8, hl, aw⟩ := hI
  have hmu : muKi a W = 7 - i := by unfold muKi; rw [hf.s9]; simp [intOf]
  rw [hmu]
  clear hmu
  rw [ncL2_eq]
  refine wp_seq ?_
  by_cases hlt : i < 7
  · have ii : (i : Int) < 7 := by omega
    have last : ∀ a' W' v, KD a' (Ptr g5) (.slice (some ⟨g7, 0, none⟩) 7 7) v (.int .i64 (i : Int)) → Lp w.heap.size (Far v) W' v (11 + 17 * (i + 1)) → Lay W' g5 g7 → After w W' → Code.wp Tryz.prog (sq2 (sq2 (ncL2 Tryz.f4))) (Exit.then (fun a' w' => Rki a' w' w.heap.size g5 g7 w ∧ muKi a' w' < 7 - i) Q) a' W' := by
      intro a' W' v hf h8 hl aw'
      obtain ⟨u, rfl⟩ := hf.lit
      have HX := hideIt (And.intro h8 (And.intro hl aw'))
      clear hf h8 hl aw' hK aw
      conv => arg 2; whnf
      go_wp2_with fail
      refine ⟨⟨i + 1, v, by omega, ⟨rfl, rfl, rfl, rfl, rfl, by show Value.int .i64 ((i : Int) + 1) = _; rw [Int.natCast_add]; rfl⟩, HX.out.1, HX.out.2.1, HX.out.2.2⟩, ?_⟩
      show 7 - (intOf (Value.int .i64 ((i : Int) + 1))).toNat < _
      simp [intOf]
      omega
    have body : ∀ a', KD a' (Ptr g5) (.slice (some ⟨g7, 0, none⟩) 7 7) v8 (.int .i64 (i : Int)) → Code.wp Tryz.prog (.seq (.block 3 (nc15 Tryz.f4)) (sq2 (sq2 (ncL2 Tryz.f4)))) (Exit.then (fun a' w' => Rki a' w' w.heap.size g5 g7 w ∧ muKi a' w' < 7 - i) Q) a' W := by
      intro a' hf
      refine wp_seq ?_
      refine wp_block ?_
      rw [nc15_eq]
      refine wp_seq ?_
      refine nmPart15 hf hl hlt ?_
      intro a1 W1 gk z f1 hk1 aw1
      refine nmPart16 (n := 11 + 17 * i) f1 (hl.after aw1) (h8.after aw1) hk1 (by omega) (Nat.le_trans aw.size aw1.size) ?_
      intro a2 W2 v f2 h2 l2 b2
      exact last a2 W2 v f2 h2 l2 ((aw.trans aw1).but.then b2 (fun k hk t => by omega))
    have HB := hideIt body
    obtain ⟨u, rfl⟩ := hf.lit
    clear hf h8 hl aw hK last body
    generalize Code.seq (.block 3 (nc15 Tryz.f4)) (sq2 (sq2 (ncL2 Tryz.f4))) = rest at *
    conv => arg 2; whnf
    go_wp2_with fail
    exact HB.out _ ⟨rfl, rfl, rfl, rfl, rfl, rfl⟩
  · obtain rfl : i = 7 := by omega
    have HK := hideIt hK
    have HX := hideIt (And.intro h8 aw)
    obtain ⟨u, rfl⟩ := hf.lit
    clear hf h8 hl aw hK hlt hi
    generalize Code.seq (.block 3 (nc15 Tryz.f4)) (sq2 (sq2 (ncL2 Tryz.f4))) = rest at *
    conv => arg 2; whnf
    go_wp2_with fail
    exact HK.out _ _ v8 ⟨rfl, rfl, rfl⟩ HX.out.1 HX.out.2
theorem nmPart12 {Q : Exit → Act → World → Prop} {a : Act} {W w : World} {g5 g7 : Nat} {v8 : Value} (hf : KC a (Ptr g5) (.slice (some ⟨g7, 0, none⟩) 7 7)) (hf8 : a.tmps.getD 8 undef = v8) (h8 : Lp w.heap.size (Far v8) W v8 11) (hl : Lay W g5 g7) (aw : After w W) (hK : ∀ a' W' v8, KF a' v8 → Lp w.heap.size (Far v8) W' v8 130 → After w W' → Q .normal a' W') :
    Code.wp Tryz.prog (.seq (sq1 (sq1 (nc12 Tryz.f4))) (.block 2 (.loop (ncL2 Tryz.f4)))) Q a W := by
  refine wp_seq ?_
  have key : ∀ a', KD a' (Ptr g5) (.slice (some ⟨g7, 0, none⟩) 7 7) v8 (.int .i64 0) → Code.wp Tryz.prog (.block 2 (.loop (ncL2 Tryz.f4))) Q a' W := by
    intro a' hf'
    refine wp_block ?_
    refine wp_loop (fun a W => Rki a W w.heap.size g5 g7 w) muKi ⟨0, v8, Nat.zero_le _, hf', h8, hl, aw⟩ ?_
    intro a2 W2 hI
    exact nmRound2 hI (fun a3 W3 v h1 h2 h3 => nm_exit (hK a3 W3 v h1 h2 h3))
  have HK := hideIt key
  obtain ⟨u, hu, e⟩ := lit127 a hf.size hf.defers
  have e6 := (hu 6).trans hf.s6
  have e7 := (hu 7).trans hf.s7
  have e8 := (hu 8).trans hf8
  subst e
  rw [e6, e7, e8]
  clear hf hf8 key hK h8 hl aw hu e6 e7 e8
  generalize Code.block 2 (.loop (ncL2 Tryz.f4)) = rest at *
  conv => arg 2; whnf
  go_wp2_with fail
  exact HK.out _ ⟨rfl, rfl, rfl, rfl, rfl, rfl⟩
set_option maxHeartbeats 2000000 in
/-- All statements, of the lists. -/
theorem nmPart17 {R : Ending → World → Prop} {a : Act} {w : World} {A : Nat} {v8 : Value} (hf : KF a v8) (h8 : Lp A (Far v8) w v8 130) (hR : ∀ W', After w W' → R (.returned (.bool true)) W') :
    Code.wp Tryz.prog (nc17 Tryz.f4) (bodyPost Tryz.prog Tryz.f4 R) a w := by
  obtain ⟨g, cap, rfl, hcap⟩ : ∃ g cap, v8 = .slice (some ⟨g, 0, none⟩) 130 cap ∧ 130 ≤ cap := by
    obtain ⟨_, _, _, own⟩ := h8
    rcases own.2 with ⟨_, e⟩ | ⟨g, cap, cur, e, _, _, hnc, _⟩
    · omega
    · exact ⟨g, cap, e, hnc⟩
  obtain ⟨l, hl, hlm⟩ := h8.lst
  have hc1 : (130 : Int) ≤ (cap : Int) := by omega
  have hc2 : (5 : Int) ≤ (cap : Int) := by omega
  have hc3 : (11 : Int) ≤ (cap : Int) := by omega
  have HA := hideIt (fun W => awakeL_any W)
  have HP := hideIt (fun W (aW : After w W) c => law_plays W (some ⟨g, 0, none⟩) 130 c l hl (hlm.low aW))
  have HP2 := hideIt (fun W (aW : After w W) c => law_plays W (some ⟨g, 0 + 11 * 7, none⟩) 119 c (l.drop 11) (by rw [List.length_drop, hl]) ((hlm.drop 11).low aW))
  have HO := hideIt (fun W (aW : After w W) c => law_order W (some ⟨g, 0, none⟩) 130 c l hl (hlm.low aW))
  have HG := hideIt (fun W (aW : After w W) c c' => law_again W (some ⟨g, 0, none⟩) 5 c (l.take 5) (by rw [List.length_take, hl]; rfl) ((hlm.take 5).low aW) (some ⟨g, 0, none⟩) 130 c' l hl (hlm.low aW))
  have HW := hideIt (fun W (aW : After w W) c => law_answers W (some ⟨g, 0, none⟩) 130 c l hl (hlm.low aW))
  have HR := hideIt hR
  obtain ⟨u, hu, e⟩ := lit127 a hf.size hf.defers
  have e8 := (hu 8).trans hf.s8
  subst e
  rw [e8]
  clear hf h8 hlm hl hR hu e8
  conv => arg 2; whnf
  go_wp2_with fail
  refine (HA.out _).mono ?_
  rintro e w1 ⟨rfl, a1⟩
  have A1 := hideIt a1
  clear a1
  go_wp2_with fail
  refine (HP.out _ A1.out _).mono ?_
  rintro e w2 ⟨rfl, a2⟩
  have A2 := hideIt (A1.out.trans a2)
  clear a2
  go_wp2_with fail
  refine (HP2.out _ A2.out _).mono ?_
  rintro e w3 ⟨rfl, a3⟩
  have A3 := hideIt (A2.out.trans a3)
  clear a3
  go_wp2_with fail
  refine (HO.out _ A3.out _).mono ?_
  rintro e w4 ⟨rfl, a4⟩
  have A4 := hideIt (A3.out.trans a4)
  clear a4
  go_wp2_with fail
  refine (HG.out _ A4.out _ _).mono ?_
  rintro e w5 ⟨rfl, a5⟩
  have A5 := hideIt (A4.out.trans a5)
  clear a5
  go_wp2_with fail
  refine (HW.out _ A5.out _).mono ?_
  rintro e w6 ⟨rfl, a6⟩
  have A6 := hideIt (A5.out.trans a6)
  clear a6
  go_wp2_with fail
  exact HR.out _ A6.out
set_option maxHeartbeats 1000000 in
theorem law_names7 (w : World) : Calls Tryz.prog 4 #[] w fun e w' => e = .returned (.bool true) ∧ After w w' := by
  have HT : Hid (∀ a', KB a' (.pointer none) (a'.tmps.getD 2 undef) → Code.wp Tryz.prog (nc2 Tryz.f4) (bodyPost Tryz.prog Tryz.f4 (fun e w' => e = .returned (.bool true) ∧ After w w')) a' w) := by
    intro a' hf
    rw [nc2_eq]
    refine wp_seq ?_
    refine nmPart2 hf ?_
    intro a1 W1 f1 aw1
    refine nmPart9 f1 ?_
    intro a2 W2 g5 g7 f2 l2 aw2
    rw [nc11_eq]
    refine wp_seq ?_
    refine nmPart11 (A := w.heap.size) f2 l2 (Nat.le_trans aw1.size aw2.size) ?_
    intro a3 W3 v8 f3 e3 h3 l3 aw3
    show Code.wp Tryz.prog (nc12 Tryz.f4) _ a3 W3
    rw [nc12_eq]
    refine wp_seq ?_
    refine nmPart12 f3 e3 h3 l3 ((aw1.trans aw2).trans aw3) ?_
    intro a4 W4 v f4 h4 aw4
    exact nmPart17 f4 h4 (fun W' h => ⟨rfl, aw4.trans h⟩)
  refine calls_of_wp Tryz.func4 ncB_eq ?_
  generalize (nc2 Tryz.f4) = rest at *
  simp only [Tryz.ntmps4, List.size_toArray, List.length_nil, Nat.sub_zero, Array.replicate_succ, Array.replicate_zero, List.push_toArray, List.append_toArray, List.nil_append, List.cons_append]
  refine wp_seq ?_
  conv => arg 2; whnf
  go_wp2_with fail
  conv => arg 2; whnf
  go_wp2_with fail
  exact HT.out _ ⟨rfl, rfl, rfl, rfl⟩
end Go.Proofs.YthcfdoafncbliaaGreat
