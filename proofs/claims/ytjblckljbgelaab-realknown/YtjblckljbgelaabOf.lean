/-
  tenth and Of of package real.
-/
import Derived.Test.YtjblckljbgelaabFix
import Derived.Test.YtjblckljbgelaabOfP
namespace Go.Proofs.Ytjblckljbgelaab
open Go.RowKit
theorem tenth_any (k m e : Int) (w : World) (h1 : -2147483647 ≤ m) (h2 : m ≤ 2147483647) (h3 : -1000 ≤ e) (h4 : e ≤ 1000) :
    Calls Try.prog 23 #[.agg #[.int .i64 k, .int .i64 m, .int .i64 e]] w fun x w' => x = .returned (.agg #[.int .i64 0, .int .i64 (rd m 10), .int .i64 (e + 1)]) ∧ After w w' := by
  have HS := hideIt (scale10 m h1 h2)
  go_enter Try.func23, Try.ntmps23
  go_wp2_with (go_at_call 26; refine (scale_any _ _ _ _).mono ?_; rintro e w2 ⟨rfl, n2, rfl⟩; rw [HS.out])
  refine bodyPost_ret (v := .agg #[.int .i64 0, .int .i64 (rd m 10), .int .i64 (e + 1)]) (by simp [results, Try.results23, go_sem]) rfl ⟨rfl, ?_⟩
  exact (((((After.rfl.alloc _).alloc _).draws _).set (by simp) _).set (by simp) _).set (by simp) _
/-- The world of Of: its result's block, and the block of the number as it stands. -/
def ofX (w : World) (m e : Int) : World := (w.alloc (.cells #[.int .i64 0, .int .i64 0, .int .i64 0] 24)).alloc (.cells #[.int .i64 0, .int .i64 m, .int .i64 e] 24)
theorem ofX_size (w : World) (m e : Int) : (ofX w m e).heap.size = w.heap.size + 2 := by simp [ofX]
theorem ofX_old (w : World) (m e m' e' : Int) (k : Nat) (h : k < w.heap.size + 1) : (ofX w m e).heap[k]? = (ofX w m' e').heap[k]? := by
  exact (Below.heap_alloc (w.alloc (.cells #[.int .i64 0, .int .i64 0, .int .i64 0] 24)) _ k (by simp; omega)).trans (Below.heap_alloc (w.alloc (.cells #[.int .i64 0, .int .i64 0, .int .i64 0] 24)) _ k (by simp; omega)).symm
theorem ofX_new (w : World) (m e : Int) : (ofX w m e).heap[w.heap.size + 1]? = some (.cells #[.int .i64 0, .int .i64 m, .int .i64 e] 24) := by
  show ((w.heap.push _).push _)[w.heap.size + 1]? = _
  rw [Array.getElem?_push, if_pos (by simp)]
theorem of_store {w W : World} {m e : Int} (h : After (ofX w m e) W) (m' e' : Int) :
    After (ofX w m' e') (((W.setCell ⟨w.heap.size + 1, 0, none⟩ (.int .i64 0)).setCell ⟨w.heap.size + 1, 1, none⟩ (.int .i64 m')).setCell ⟨w.heap.size + 1, 2, none⟩ (.int .i64 e')) := by
  have hs := ofX_size w m e
  have hs' := ofX_size w m' e'
  obtain ⟨h1, h2, h3, h4, h5⟩ := h
  refine ⟨h1, h2, h3, ?_, ?_⟩
  · simp [World.setCell]; omega
  · intro k hk
    by_cases he : k = w.heap.size + 1
    · subst he
      have hb := h5 (w.heap.size + 1) (by omega)
      rw [ofX_new] at hb
      rw [ofX_new]
      simp [World.setCell, Array.getElem?_modify, hb]
    · rw [Below.heap_setCell _ _ _ _ (by exact he), Below.heap_setCell _ _ _ _ (by exact he), Below.heap_setCell _ _ _ _ (by exact he), h5 k (by omega)]
      exact ofX_old w m e m' e' k (by omega)
theorem of_after {w W : World} {m e : Int} (h : After (ofX w m e) W) : After w W := ((After.rfl.alloc _).alloc _).trans h
/-- How great the number is that stands there. -/
def mW (b : Nat) (W : World) : Nat := match W.cell? ⟨b, 1, none⟩ with
  | some v => (intOf v).natAbs
  | none => 0
theorem mW_of {w W : World} {m e : Int} (h : After (ofX w m e) W) : mW (w.heap.size + 1) W = m.natAbs := by
  have hc : W.cell? ⟨w.heap.size + 1, 1, none⟩ = some (.int .i64 m) := by
    rw [h.cell.1 _ _ (by rw [ofX_size]; omega)]
    unfold World.cell?
    simp [ofX_new]
  unfold mW; rw [hc]; rfl
theorem of_zero (v : Int) (w : World) (h : cl v = 0) :
    Calls Try.prog 13 #[.int .i64 v] w fun x w' => x = .returned (.agg #[.int .i64 0, .int .i64 0, .int .i64 0]) ∧ After w w' := by
  go_enter Try.func13, Try.ntmps13
  go_wp2_with (go_at_call 22; refine (clamp_any _ _).mono ?_; rintro e w' ⟨rfl, rfl⟩; rw [h])
  exact bodyPost_ret (v := .agg #[.int .i64 0, .int .i64 0, .int .i64 0]) (by simp [results, Try.results13, go_sem]) rfl ⟨rfl, (After.rfl.alloc _).alloc _⟩
theorem of_cells {w W : World} {m e : Int} (ha : After (ofX w m e) W) : (∀ o, W.cell? ⟨w.heap.size, o, none⟩ = (#[Value.int .i64 0, .int .i64 0, .int .i64 0] : Array Value)[o]?) ∧ (∀ o, W.cell? ⟨w.heap.size + 1, o, none⟩ = (#[Value.int .i64 0, .int .i64 m, .int .i64 e] : Array Value)[o]?) ∧ (∀ o, W.frozen? ⟨w.heap.size, o, none⟩ = false) ∧ (∀ o, W.frozen? ⟨w.heap.size + 1, o, none⟩ = false) := by
  have hs := ofX_size w m e
  refine ⟨fun o => ?_, fun o => ?_, fun o => ?_, fun o => ?_⟩
  · rw [ha.cell.1 _ _ (by omega)]
    unfold ofX
    simp
  · rw [ha.cell.1 _ _ (by omega)]
    unfold World.cell?
    simp [ofX_new]
  · rw [ha.cell.2 _ _ (by omega)]
    have hq : (ofX w m e).heap[w.heap.size]? = some (.cells #[.int .i64 0, .int .i64 0, .int .i64 0] 24) := by
      refine (Below.heap_alloc (w.alloc (.cells #[.int .i64 0, .int .i64 0, .int .i64 0] 24)) _ _ (by simp)).trans ?_
      show (w.heap.push _)[w.heap.size]? = _
      rw [Array.getElem?_push, if_pos rfl]
    unfold World.frozen?
    simp [hq]
  · rw [ha.cell.2 _ _ (by omega)]
    unfold World.frozen?
    simp [ofX_new]
theorem cap3 : cap 3 = 8388605000 := by decide
theorem ten7 : ten 7 = 10000000 := by decide
theorem pair1 {a b : Int} {p : Int × Int} (h : (a, b) = p) : p.1 = a ∧ p.2 = b := by rw [← h]; exact ⟨rfl, rfl⟩
set_option maxHeartbeats 1000000 in
theorem of_yes (v : Int) (w : World) (h : cl v ≠ 0) :
    Calls Try.prog 13 #[.int .i64 v] w fun x w' => x = .returned (.agg #[.int .i64 0, .int .i64 (st2 v).1, .int .i64 (st2 v).2]) ∧ After w w' := by
  have hz : (cl v == 0) = false := by simpa using h
  have b1 := cl_lo v
  have b2 := cl_hi v
  go_enter Try.func13, Try.ntmps13
  go_wp2_with (go_at_call 22; refine (clamp_any _ _).mono ?_; rintro e w' ⟨rfl, rfl⟩)
  go_loopw [] (fun W => ∃ (m e : Int) (n : Nat), After (ofX w m e) W ∧ n ≤ 3 ∧ m ≠ 0 ∧ -cap n ≤ m ∧ m ≤ cap n ∧ -2147483647 ≤ m ∧ m ≤ 2147483647 ∧ -3 ≤ e ∧ e + n = 0 ∧ lo1 n m e = st1 v) (fun W => mW (w.heap.size + 1) W)
  case atStart => exact ⟨cl v, -3, 3, After.rfl, by omega, h, by rw [cap3]; omega, by rw [cap3]; omega, b1, b2, by omega, by omega, rfl⟩
  case round =>
    obtain ⟨m, e, n, ha, hn3, hm0, c1, c2, c3, c4, e1, e2, hlo⟩ := hrel
    obtain ⟨hcA, hcB, hfA, hfB⟩ := of_cells ha
    clear hz
    by_cases hin : -8388605 ≤ m ∧ m ≤ 8388605
    · have hnum : numB 0 m e = true := num_of (by omega)
      rw [lo1_in hin] at hlo
      have HL := hideIt (pair1 hlo)
      clear hlo c1 c2
      obtain ⟨i1, i2⟩ := hin
      go_wp2_with (go_at_call 17; refine (isNumber_any _ _ _ _).mono ?_; rintro e' w1 ⟨rfl, hb⟩; rw [hnum])
      have ha1 := ha.trans hb
      clear ha hb hcA hcB hfA hfB
      go_loopw [] (fun W => ∃ (m e : Int) (n : Nat), After (ofX w m e) W ∧ n ≤ 7 ∧ m ≠ 0 ∧ -ten n < m ∧ m < ten n ∧ -8388605 ≤ m ∧ m ≤ 8388605 ∧ -3 ≤ e ∧ e + n ≤ 7 ∧ lo2 n m e = st2 v) (fun W => mW (w.heap.size + 1) W)
      case atStart => exact ⟨m, e, 7, ha1, by omega, hm0, by rw [ten7]; omega, by rw [ten7]; omega, i1, i2, e1, by omega, by unfold st2; rw [HL.out.1, HL.out.2]⟩
      case round =>
        clear HL hnum i1 i2 c3 c4 e1 e2 hm0 hn3 ha1
        obtain ⟨m, e, n, ha, hn7, hm0, c1, c2, c3, c4, e1, e2, hlo⟩ := hrel
        obtain ⟨hcA, hcB, hfA, hfB⟩ := of_cells ha
        by_cases h10 : m % 10 = 0
        · have hn : n ≠ 0 := by
            intro hn; subst hn
            have : ten 0 = 1 := rfl
            omega
          obtain ⟨n', rfl⟩ : ∃ n', n = n' + 1 := ⟨n - 1, by omega⟩
          obtain ⟨s1, s2, s3, s4, s5⟩ := step2 h10 hm0 c1 c2
          rw [lo2_go h10] at hlo
          have HL := hideIt hlo
          have HM := hideIt (mW_of ha)
          have S := hideIt (And.intro s1 (And.intro s2 (And.intro s3 (And.intro s4 s5))))
          have ht : m.tmod 10 = 0 := (tmod10 m).2 h10
          clear hlo s1 s2 s3 s4 s5 c1 c2 h10
          go_wp2_with (go_at_call 23; refine (tenth_any 0 m e _ (by omega) (by omega) (by omega) (by omega)).mono ?_; rintro e' w2 ⟨rfl, hb⟩; have ha2 := ha.trans hb; obtain ⟨hcA2, hcB2, hfA2, hfB2⟩ := of_cells ha2)
          have HX := of_store ha2 (rd m 10) (e + 1)
          go_roundw
          case rel => exact ⟨rd m 10, e + 1, n', HX, by omega, S.out.1, S.out.2.1, S.out.2.2.1, by have := S.out.2.2.2.2; omega, by have := S.out.2.2.2.2; omega, by omega, by omega, HL.out⟩
          case measure => rw [HM.out, mW_of HX]; exact S.out.2.2.2.1
        · rw [lo2_stop h10] at hlo
          obtain ⟨p1, p2⟩ := pair1 hlo
          have HP := hideIt (And.intro p1 p2)
          have ht : ¬ m.tmod 10 = 0 := fun x => h10 ((tmod10 m).1 x)
          have ht' : (m.tmod 10 == 0) = false := by simpa using ht
          clear hlo p1 p2 c1 c2 h10 ht
          go_wp2
          refine bodyPost_ret (v := .agg #[.int .i64 0, .int .i64 m, .int .i64 e]) (by simp [results, Try.results13, go_sem, hcA]) rfl ⟨by rw [HP.out.1, HP.out.2], ?_⟩
          exact (((of_after ha).set (by simp) _).set (by simp) _).set (by simp) _
    · have hnum : numB 0 m e = false := by
        rw [numB_zero, fitL_no]; omega
      have hn : n ≠ 0 := by
        intro hn; subst hn
        have : cap 0 = 8388605 := rfl
        omega
      obtain ⟨n', rfl⟩ : ∃ n', n = n' + 1 := ⟨n - 1, by omega⟩
      obtain ⟨s1, s2, s3, s4⟩ := step1 hin c1 c2
      rw [lo1_out hin] at hlo
      have HL := hideIt hlo
      have HM := hideIt (mW_of ha)
      have S := hideIt (And.intro s1 (And.intro s2 (And.intro s3 s4)))
      clear hlo s1 s2 s3 s4 c1 c2 hin
      go_wp2_with (first | (go_at_call 17; refine (isNumber_any _ _ _ _).mono ?_; rintro e' w1 ⟨rfl, hb⟩; rw [hnum]; have ha1 := ha.trans hb; obtain ⟨hcA1, hcB1, hfA1, hfB1⟩ := of_cells ha1) | (go_at_call 23; refine (tenth_any 0 m e _ (by omega) (by omega) (by omega) (by omega)).mono ?_; rintro e' w2 ⟨rfl, hd⟩; have ha2 := ha1.trans hd; obtain ⟨hcA2, hcB2, hfA2, hfB2⟩ := of_cells ha2))
      have HX := of_store ha2 (rd m 10) (e + 1)
      go_roundw
      case rel => exact ⟨rd m 10, e + 1, n', HX, by omega, S.out.1, S.out.2.1, S.out.2.2.1, by have := S.out.2.2.2; omega, by have := S.out.2.2.2; omega, by omega, by omega, HL.out⟩
      case measure => rw [HM.out, mW_of HX]; exact S.out.2.2.2
end Go.Proofs.Ytjblckljbgelaab
