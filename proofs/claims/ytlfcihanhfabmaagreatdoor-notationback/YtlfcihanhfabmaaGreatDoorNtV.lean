/-
  The program's rootText and Text.
-/
import Derived.Test.YtlfcihanhfabmaaGreatDoorNtU
import Derived.Test.YtlfcihanhfabmaaGreatDoorFoC
import Derived.Lib.MinMax
namespace Go.Proofs.YtlfcihanhfabmaaGreatDoor
open Go.RowKit
set_option maxRecDepth 8000
open L1 (S)
theorem idx_nat {a n : Int} (h : idx a n = true) : ∃ A : Nat, a = A ∧ (A : Int) < n := by
  unfold idx at h
  simp at h
  exact ⟨a.toNat, by omega, by omega⟩
/-- What okN says, way by way. -/
theorem okN_cases {x : Nd} {i n : Int} (h : okN x i n = true) :
    (x = ⟨0, 0, 0, 0⟩) ∨ (∃ A : Nat, (A : Int) < n ∧ -2147483647 ≤ x.n ∧ x.n ≤ 2147483647 ∧ (x = ⟨1, A, 0, x.n⟩ ∨ x = ⟨2, A, 0, x.n⟩)) ∨ (∃ A : Nat, (A : Int) < n ∧ (x = ⟨3, A, 0, 0⟩ ∨ x = ⟨4, A, 0, 0⟩ ∨ x = ⟨5, A, 0, 0⟩))
    ∨ (∃ A : Nat, (A : Int) < i ∧ (x = ⟨6, A, 0, 0⟩ ∨ x = ⟨9, A, 0, 0⟩)) ∨ (∃ A N : Nat, (A : Int) < i ∧ N ≤ 64 ∧ (x = ⟨10, A, 0, N⟩ ∨ x = ⟨11, A, 0, N⟩)) ∨ (∃ A B : Nat, (A : Int) < i ∧ (B : Int) < i ∧ (x = ⟨7, A, B, 0⟩ ∨ x = ⟨8, A, B, 0⟩ ∨ x = ⟨12, A, B, 0⟩)) := by
  obtain ⟨op, a, b, k⟩ := x
  unfold okN at h
  dsimp only at h ⊢
  split at h
  · rename_i h0
    simp at h
    left; rw [h0, h.1.1, h.1.2, h.2]
  split at h
  · rename_i h0
    simp only [Bool.and_eq_true, decide_eq_true_eq] at h
    obtain ⟨A, e, hA⟩ := idx_nat h.1.1.1
    right; left
    refine ⟨A, hA, h.1.2, h.2, ?_⟩
    rcases h0 with h0 | h0
    · left; rw [h0, e, h.1.1.2]
    · right; rw [h0, e, h.1.1.2]
  split at h
  · rename_i h0
    simp only [Bool.and_eq_true, decide_eq_true_eq] at h
    obtain ⟨A, e, hA⟩ := idx_nat h.1.1
    right; right; left
    refine ⟨A, hA, ?_⟩
    rcases h0 with h0 | h0 | h0
    · left; rw [h0, e, h.1.2, h.2]
    · right; left; rw [h0, e, h.1.2, h.2]
    · right; right; rw [h0, e, h.1.2, h.2]
  split at h
  · rename_i h0
    simp only [Bool.and_eq_true, decide_eq_true_eq] at h
    obtain ⟨A, e, hA⟩ := idx_nat h.1.1
    right; right; right; left
    refine ⟨A, hA, ?_⟩
    rcases h0 with h0 | h0
    · left; rw [h0, e, h.1.2, h.2]
    · right; rw [h0, e, h.1.2, h.2]
  split at h
  · rename_i h0
    simp only [Bool.and_eq_true, decide_eq_true_eq] at h
    obtain ⟨A, e, hA⟩ := idx_nat h.1.1.1
    right; right; right; right; left
    have hk : k = ((k.toNat : Nat) : Int) := by omega
    refine ⟨A, k.toNat, hA, by omega, ?_⟩
    rcases h0 with h0 | h0
    · left; rw [h0, e, h.1.1.2, ← hk]
    · right; rw [h0, e, h.1.1.2, ← hk]
  split at h
  · rename_i h0
    simp only [Bool.and_eq_true, decide_eq_true_eq] at h
    obtain ⟨A, e, hA⟩ := idx_nat h.1.1
    obtain ⟨B, e2, hB⟩ := idx_nat h.1.2
    right; right; right; right; right
    refine ⟨A, B, hA, hB, ?_⟩
    rcases h0 with h0 | h0 | h0
    · left; rw [h0, e, e2, h.2]
    · right; left; rw [h0, e, e2, h.2]
    · right; right; rw [h0, e, e2, h.2]
  · cases h
theorem node_any {L : List Nd} {T : List W8} (w : World) (hl : Laid w) (al at2 : Option Addr) (cl ct : Nat) (h1 : NRow w al L.length L) (h2 : GRow strE w at2 T.length T) (hs : ∀ t ∈ T, t.length ≤ 1025) (x : Nd) (i : Nat) (hok : okN x (i : Int) 8 = true) (hi : i ≤ T.length) (hiL : i ≤ L.length) :
    Calls Tryz.prog 43 #[.slice al L.length cl, .slice at2 T.length ct, x.val] w fun e w' => e = .returned (.string (S (nodeT L T x))) ∧ After w w' := by
  rcases okN_cases hok with rfl | ⟨A, hA, _, _, e⟩ | ⟨A, hA, e⟩ | ⟨A, hA, e⟩ | ⟨A, N, hA, hN, e⟩ | ⟨A, B, hA, hB, e⟩
  · exact node_0 w hl al at2 cl ct h1 h2 hs
  · rcases e with e | e
    · rw [e]; exact node_1 w hl al at2 cl ct h1 h2 hs A x.n (by omega)
    · rw [e]; exact node_2 w hl al at2 cl ct h1 h2 hs A x.n (by omega)
  · rcases e with rfl | rfl | rfl
    · exact node_3 w hl al at2 cl ct h1 h2 hs A (by omega)
    · exact node_4 w hl al at2 cl ct h1 h2 hs A (by omega)
    · exact node_5 w hl al at2 cl ct h1 h2 hs A (by omega)
  · rcases e with rfl | rfl
    · exact node_6 w hl al at2 cl ct h1 h2 hs A (by omega) (by omega)
    · exact node_9 w hl al at2 cl ct h1 h2 hs A (by omega) (by omega)
  · rcases e with rfl | rfl
    · exact node_10 w hl al at2 cl ct h1 h2 hs A N (by omega) (by omega) (by omega)
    · exact node_11 w hl al at2 cl ct h1 h2 hs A N (by omega) (by omega) (by omega)
  · rcases e with rfl | rfl | rfl
    · exact node_7 w hl al at2 cl ct h1 h2 hs A B (by omega) (by omega) (by omega) (by omega)
    · exact node_8 w hl al at2 cl ct h1 h2 hs A B (by omega) (by omega) (by omega) (by omega)
    · exact node_12 w hl al at2 cl ct h1 h2 hs A B (by omega) (by omega) (by omega) (by omega)
theorem txs_snoc (L : List Nd) : ∀ (r : List Nd) (x : Nd) (T : List W8), txs L (r ++ [x]) T = txs L r T ++ [(nodeT L (txs L r T) x).take 1025]
  | [], _, _ => rfl
  | y :: r, x, T => by
    rw [List.cons_append]
    show txs L (r ++ [x]) _ = txs L r _ ++ _
    exact txs_snoc L r x _
theorem txs_length (L : List Nd) : ∀ (r : List Nd) (T : List W8), (txs L r T).length = T.length + r.length
  | [], _ => rfl
  | y :: r, T => by
    show (txs L r _).length = _
    rw [txs_length L r]; simp; omega
theorem txs_short (L : List Nd) : ∀ (r : List Nd) (T : List W8), (∀ t ∈ T, t.length ≤ 1025) → ∀ t ∈ txs L r T, t.length ≤ 1025
  | [], _, h => h
  | y :: r, T, h => txs_short L r _ (fun t ht => by
    rcases List.mem_append.1 ht with h' | h'
    · exact h t h'
    · simp at h'; rw [h', List.length_take]; omega)
/-- Texts behind are not asked for. -/
theorem nodeT_pad {L : List Nd} {T P : List W8} {x : Nd} {i : Nat} (hok : okN x (i : Int) 8 = true) (hi : i ≤ T.length) : nodeT L (T ++ P) x = nodeT L T x := by
  have tx : ∀ A : Nat, (A : Int) < i → txAt (T ++ P) A = txAt T A := fun A hA => by
    unfold txAt
    have h' : A < T.length := by omega
    simp [h', List.getElem?_append_left]
  have pt : ∀ (A m : Nat), (A : Int) < i → parT L (T ++ P) A m = parT L T A m := fun A m hA => by unfold parT; rw [tx A hA]
  rcases okN_cases hok with rfl | ⟨A, hA, _, _, e⟩ | ⟨A, hA, e⟩ | ⟨A, hA, e⟩ | ⟨A, N, hA, hN, e⟩ | ⟨A, B, hA, hB, e⟩
  · rfl
  · rcases e with e | e <;> (rw [e]; rfl)
  · rcases e with rfl | rfl | rfl <;> rfl
  · rcases e with rfl | rfl
    · show wordOf 6 ++ 32 :: parT L (T ++ P) A 3 = wordOf 6 ++ 32 :: parT L T A 3
      rw [pt A 3 hA]
    · show wordOf 9 ++ 32 :: parT L (T ++ P) A 3 = wordOf 9 ++ 32 :: parT L T A 3
      rw [pt A 3 hA]
  · rcases e with rfl | rfl
    · show wordOf 10 ++ 32 :: (dig _ ++ 32 :: parT L (T ++ P) A 3) = wordOf 10 ++ 32 :: (dig _ ++ 32 :: parT L T A 3)
      rw [pt A 3 hA]
    · show wordOf 11 ++ 32 :: (dig _ ++ 32 :: parT L (T ++ P) A 3) = wordOf 11 ++ 32 :: (dig _ ++ 32 :: parT L T A 3)
      rw [pt A 3 hA]
  · rcases e with rfl | rfl | rfl
    · show parT L (T ++ P) A 1 ++ 32 :: (wordOf 7 ++ 32 :: parT L (T ++ P) B 2) = parT L T A 1 ++ 32 :: (wordOf 7 ++ 32 :: parT L T B 2)
      rw [pt A 1 hA, pt B 2 hB]
    · show parT L (T ++ P) A 0 ++ 32 :: (wordOf 8 ++ 32 :: parT L (T ++ P) B 1) = parT L T A 0 ++ 32 :: (wordOf 8 ++ 32 :: parT L T B 1)
      rw [pt A 0 hA, pt B 1 hB]
    · show parT L (T ++ P) A 3 ++ 32 :: (wSince ++ 32 :: parT L (T ++ P) B 3) = parT L T A 3 ++ 32 :: (wSince ++ 32 :: parT L T B 3)
      rw [pt A 3 hA, pt B 3 hB]
def scs (l : List W8) : Array Value := (l.map (fun x => Value.string (S x))).toArray
theorem scs_set (l : List W8) (i : Nat) (x : W8) : (scs l).setIfInBounds i (.string (S x)) = scs (l.set i x) := by simp [scs, List.map_set]
theorem scs_at {l : List W8} {i : Nat} {x : W8} (h : l[i]? = some x) : (scs l)[i]? = some (.string (S x)) := by simp [scs, h]
theorem scs_row {w : World} {g : Nat} {l : List W8} (h : w.heap[g]? = some (.cells (scs l) 9 (0, 0))) : GRow strE w (some ⟨g, 0, none⟩) l.length l := by
  refine ⟨rfl, fun i hi => ⟨g, 0, l[i], rfl, blk_lt h, by simp [hi], fun j v hj => ?_⟩⟩
  have hj0 : j = 0 := by
    rcases j with _ | j
    · rfl
    · simp [strE] at hj
  subst hj0
  simp [strE] at hj
  subst hj
  simp [strE]
  exact blk_cell h (scs_at (by simp [hi]))
theorem Tryz.infoStr : (Tryz.prog.info? 9).map (fun i => (i.zero, i.size, i.bytes)) = some (some (.string ⟨#[]⟩), 1, 16) := by kernel_rfl
theorem make_strs (n : Nat) (hn : n ≤ 1000) (w : World) : (Instr.makeSlice 51 (.int .i64 (n : Int)) (.int .i64 (n : Int))).run Tryz.prog w = .ok (.slice (some ⟨w.heap.size, 0, none⟩) n n) (w.alloc (.cells (scs (List.replicate n [])) 9)) := by
  obtain ⟨i0, hi, hz⟩ := Option.map_eq_some_iff.1 Tryz.infoStr
  simp only [Prod.mk.injEq] at hz
  obtain ⟨hz0, hz1, hz2⟩ := hz
  have := run_make (P := Tryz.prog) w 51 9 i0 _ Tryz.underlying51 hi hz0 .i64 .i64 (n : Int) (n : Int) (by omega) (Int.le_refl _) (by rw [hz2]; omega) (by omega)
  rw [this, hz1, Int.toNat_natCast, Nat.mul_one]
  congr 3
  apply Array.toList_inj.1
  show (madeCells #[.string ⟨#[]⟩] n).toList = _
  rw [toList_madeCells_one]
  simp [scs, S]
end Go.Proofs.YtlfcihanhfabmaaGreatDoor
