/-
  The document's median: all numbers that were pushed; its Middle, by counting; its Push.
-/
import Derived.Test.YtgapnimicaopcaaGreatMdA
import Derived.BigQuiet
namespace Go.Proofs.YtgapnimicaopcaaGreat.L9
open Go.RowKit
set_option maxRecDepth 8000
theorem cnt_succ (q : Int → Bool) {xs : List Int} {i : Nat} (h : i < xs.length) : (xs.take (i + 1)).countP q = (xs.take i).countP q + (if q (xs.getD i 0) then 1 else 0) := by
  rw [List.take_succ_eq_append_getElem h, List.countP_append, getD_at h]
  simp [List.countP_cons]
theorem less_yes {x : Int} {xs : List Int} {i : Nat} (h : i < xs.length) (hx : xs.getD i 0 < x) : less x (xs.take (i + 1)) = less x (xs.take i) + 1 := by
  unfold less; rw [cnt_succ _ h, if_pos (by simpa using hx)]
theorem less_no {x : Int} {xs : List Int} {i : Nat} (h : i < xs.length) (hx : ¬ xs.getD i 0 < x) : less x (xs.take (i + 1)) = less x (xs.take i) := by
  unfold less; rw [cnt_succ _ h, if_neg (by simpa using hx)]; rfl
theorem same_yes {x : Int} {xs : List Int} {i : Nat} (h : i < xs.length) (hx : xs.getD i 0 = x) : same x (xs.take (i + 1)) = same x (xs.take i) + 1 := by
  unfold same; rw [cnt_succ _ h, if_pos (by simpa using hx)]
theorem same_no {x : Int} {xs : List Int} {i : Nat} (h : i < xs.length) (hx : ¬ xs.getD i 0 = x) : same x (xs.take (i + 1)) = same x (xs.take i) := by
  unfold same; rw [cnt_succ _ h, if_neg (by simpa using hx)]; rfl
theorem less_le (x : Int) (xs : List Int) (i : Nat) : less x (xs.take i) ≤ i := Nat.le_trans List.countP_le_length (by rw [List.length_take]; omega)
theorem same_le (x : Int) (xs : List Int) (i : Nat) : same x (xs.take i) ≤ i := Nat.le_trans List.countP_le_length (by rw [List.length_take]; omega)
/-- Draws alone. -/
def Dr (w w' : World) : Prop := ∃ m, w' = w.drewN m
theorem Dr.rfl {w : World} : Dr w w := ⟨0, Eq.refl _⟩
theorem Dr.drew {w w' : World} (h : Dr w w') : Dr w w'.drew := by
  obtain ⟨m, e⟩ := h
  subst e
  exact ⟨m + 1, Eq.refl _⟩
theorem Dr.after {w w' : World} (h : Dr w w') : After w w' := by
  obtain ⟨m, e⟩ := h
  subst e
  exact After.rfl.draws m
set_option maxHeartbeats 2000000 in
theorem refMiddle_any (w : World) (a : Option Addr) (k c : Nat) (xs : List Int) (hr : IRow w a k xs) (hk : 0 < k) (hk2 : k ≤ 15) :
    Calls Tryz.prog 59 #[.slice a k c] w fun e w' => e = .returned (.int .i64 (mid xs)) ∧ ∃ m, w' = w.drewN m := by
  have hlen := hr.1
  have hmm := mid_mem (xs := xs) (by omega)
  have hit : ∀ x, (less x xs ≤ place k ∧ place k < less x xs + same x xs) ↔ mid xs = x := fun x => by
    rw [less_same, ← hlen]; exact mid_iff (by omega) x
  obtain ⟨b, off, rfl, hb, -⟩ := hr.2 0 hk
  have hcell : ∀ W, After w W → ∀ i, i < k → W.cell? ⟨b, off + i, none⟩ = some (.int .i64 (xs.getD i 0)) := fun W h i hi => by
    obtain ⟨b', off', e, hb', hc⟩ := hr.2 i hi
    cases e
    exact (h.cell hb' _).trans hc
  have HC := hideIt hcell
  have HI := hideIt hit
  have HM := hideIt hmm
  have hp0 : ((k : Int) - 1).tdiv 2 = ((place k : Nat) : Int) := by rw [Int.tdiv_eq_ediv_of_nonneg (by omega)]; unfold place; omega
  have HL := hideIt hlen
  have kp : ((place k : Nat) : Int) ≤ 15 := by unfold place; omega
  generalize mid xs = M at *
  generalize place k = P at *
  have k1 : (0 : Int) < (k : Int) := by omega
  have k2 : (k : Int) ≤ 15 := by omega
  clear hr hmm hit hcell
  go_enter Tryz.func59, Tryz.ntmps59
  go_wp2_with fail
  go_loopw [3] (fun i wr => ∃ j : Nat, j ≤ k ∧ i = .int .i64 j ∧ Dr w wr ∧ ∀ i', i' < j → ¬ M = xs.getD i' 0) (fun i _ => k - (intOf i).toNat)
  case atStart => exact ⟨0, Nat.zero_le _, rfl, Dr.rfl, fun i' h => absurd h (by omega)⟩
  case round =>
    obtain ⟨j, hj, rfl, af, hno⟩ := hrel
    have HN := hideIt hno
    clear hno
    by_cases hjk : j < k
    · have i1 : (j : Int) < (k : Int) := by omega
      have AF := hideIt af
      clear af
      obtain ⟨x, hx⟩ : ∃ x, x = xs.getD j 0 := ⟨_, rfl⟩
      have HX := hideIt hx
      clear hx
      go_wp2_with fail
      go_loopw [4, 5, 6] (fun l s q wr => ∃ q' : Nat, q' ≤ k ∧ q = .int .i64 q' ∧ l = .int .i64 ((less x (xs.take q') : Nat) : Int) ∧ s = .int .i64 ((same x (xs.take q') : Nat) : Int) ∧ Dr w wr) (fun _ _ q _ => k - (intOf q).toNat)
      case atStart => exact ⟨0, Nat.zero_le _, rfl, rfl, rfl, AF.out⟩
      case round =>
        obtain ⟨q, hq, rfl, rfl, rfl, af⟩ := hrel
        have l1 := less_le x xs q
        have s1 := same_le x xs q
        by_cases hqk : q < k
        · have i2 : (q : Int) < (k : Int) := by omega
          have e1 := HC.out _ af.after q hqk
          have e2 := HC.out _ af.after j hjk
          rw [← HX.out] at e2
          have AF2 := hideIt af
          have hql : q < xs.length := by have := HL.out; omega
          obtain ⟨y, hy⟩ : ∃ y, y = xs.getD q 0 := ⟨_, rfl⟩
          rw [← hy] at e1
          have HF := hideIt (And.intro (fun h : y < x => less_yes hql (hy ▸ h)) (And.intro (fun h : ¬ y < x => less_no hql (hy ▸ h)) (And.intro (fun h : y = x => same_yes hql (hy ▸ h)) (fun h : ¬ y = x => same_no hql (hy ▸ h)))))
          clear af hy
          generalize hls : less x (xs.take q) = Ls at *
          generalize hsm : same x (xs.take q) = Sm at *
          have l2 : (Ls : Int) ≤ 15 := by omega
          have s2 : (Sm : Int) ≤ 15 := by omega
          clear hls hsm
          rcases (by omega : (y < x ∧ ¬ y = x) ∨ (¬ y < x ∧ y = x) ∨ (¬ y < x ∧ ¬ y = x)) with ⟨h1, h2⟩ | ⟨h1, h2⟩ | ⟨h1, h2⟩
          all_goals
            have HH := hideIt (And.intro h1 h2)
            have b1 : (y == x) = decide (y = x) := rfl
            go_wp2
            go_region
            go_wp2
            go_region
            go_wp2
            go_roundw
            case rel => exact ⟨q + 1, by omega, by go_num, by first | (rw [HF.out.1 HH.out.1]; go_num) | (rw [HF.out.2.1 HH.out.1]), by first | (rw [HF.out.2.2.1 HH.out.2]; go_num) | (rw [HF.out.2.2.2 HH.out.2]), AF2.out.drew.drew⟩
            case measure => simp [intOf]; omega
        · obtain rfl : q = k := by omega
          have htk : xs.take q = xs := List.take_of_length_le (by have := HL.out; omega)
          rw [htk] at l1 s1 ⊢
          have hh := HI.out x
          have e2 := HC.out _ af.after j hjk
          rw [← HX.out] at e2
          have AF2 := hideIt af
          have i2 : ¬ (q : Int) < (q : Int) := by omega
          have hn := HN.out
          clear af htk
          generalize less x xs = Ls at *
          generalize same x xs = Sm at *
          have l2 : (Ls : Int) ≤ 15 := by omega
          have s2 : (Sm : Int) ≤ 15 := by omega
          by_cases hm : M = x
          · obtain ⟨p1, p2⟩ := hh.2 hm
            have p1 : (Ls : Int) ≤ (P : Int) := by omega
            have p2 : (P : Int) < (Ls : Int) + (Sm : Int) := by omega
            have HE := hideIt hm
            clear hh hn hm
            go_wp2
            go_ret
            exact ⟨ret_int HE.out.symm, AF2.out⟩
          · have hx : ¬ M = xs.getD j 0 := by rw [← HX.out]; exact hm
            have HE := hideIt (show ∀ i', i' < j + 1 → ¬ M = xs.getD i' 0 from fun i' h => by
              rcases (by omega : i' < j ∨ i' = j) with h' | h'
              · exact hn i' h'
              · subst h'; exact hx)
            rcases (by
              by_cases p1 : Ls ≤ P
              · by_cases p2 : P < Ls + Sm
                · exact absurd (hh.1 ⟨p1, p2⟩) hm
                · exact .inl ⟨by omega, by omega⟩
              · exact .inr (by omega) : ((Ls : Int) ≤ (P : Int) ∧ ¬ (P : Int) < (Ls : Int) + (Sm : Int)) ∨ ¬ (Ls : Int) ≤ (P : Int)) with ⟨p1, p2⟩ | p1
            all_goals
              clear hh hn hm hx
              go_wp2
              go_roundw
              case rel => exact ⟨j + 1, by omega, by go_num, AF2.out, HE.out⟩
              case measure => simp [intOf]; omega
    · exfalso
      obtain ⟨i, hi, he⟩ := List.mem_iff_getElem.1 HM.out
      have hi' : i < j := by have := HL.out; omega
      exact HN.out i hi' (by rw [getD_at hi]; exact he.symm)
end Go.Proofs.YtgapnimicaopcaaGreat.L9
