/-
  BusNames: the chapter's numbers and examples, buses that are none.
-/
import Derived.Test.YtajjfklglnefkaaLawPlays20
namespace Go.Proofs.Ytajjfklglnefkaa
open Go.RowKit
set_option maxRecDepth 8000
def nm0 : List Dx := [⟨0, 1, 0⟩, ⟨0, 2, 0⟩, ⟨0, -1, 0⟩, ⟨1, 1, 7⟩, ⟨1, 0, 8⟩, ⟨2, 0, 0⟩, ⟨2, 0, 0⟩, ⟨2, 1, 0⟩, ⟨2, -1, 0⟩, ⟨5, 0, 5⟩, ⟨3, 0, 5⟩, ⟨5, 0, 5⟩, ⟨5, 0, 6⟩, ⟨5, 0, 7⟩, ⟨5, 0, 6⟩, ⟨3, 1, 7⟩, ⟨4, 1, 0⟩, ⟨5, 1, 7⟩, ⟨3, 4, 7⟩, ⟨3, 1, 6⟩, ⟨4, 4, 0⟩, ⟨4, -1, 0⟩, ⟨5, 4, 9⟩, ⟨5, 2, 4611686018427387904⟩, ⟨3, 2, 4611686018427387904⟩, ⟨5, 2, 9223372036854775807⟩, ⟨3, 2, -1⟩]
def nm1 (j : Nat) : List Dx := nm0 ++ List.replicate j ⟨0, 1, 0⟩
def nm2 (j : Nat) : List Dx := nm1 9 ++ (List.range j).map (fun (i : Nat) => (⟨1, 1, (i : Int)⟩ : Dx))
def nm3 : List Dx := nm2 20 ++ [⟨2, 7, 0⟩, ⟨2, 8, 0⟩, ⟨2, 0, 0⟩]
theorem nm1_succ (j : Nat) : nm1 (j + 1) = nm1 j ++ [⟨0, 1, 0⟩] := by
  unfold nm1
  rw [List.append_assoc, List.replicate_succ']
theorem nm2_succ (j : Nat) : nm2 (j + 1) = nm2 j ++ [⟨1, 1, (j : Int)⟩] := by
  unfold nm2
  rw [List.append_assoc, List.range_succ, List.map_append]; rfl
theorem nm2_zero : nm2 0 = nm1 9 := by unfold nm2; simp
theorem nm1_len (j : Nat) : (nm1 j).length = 27 + j := by unfold nm1; rw [List.length_append, List.length_replicate]; rfl
theorem nm2_len (j : Nat) : (nm2 j).length = 36 + j := by unfold nm2; rw [List.length_append, nm1_len, List.length_map, List.length_range]
theorem nm3_in : ∀ x ∈ nm3, x.In := by
  have h : nm3.all (fun d => decide (-9223372036854775808 ≤ d.k) && (decide (d.k ≤ 9223372036854775807) && decide (d.b ≤ 9223372036854775807))) = true := by decide +kernel
  intro x hx
  have := List.all_eq_true.1 h x hx
  simp only [Bool.and_eq_true, decide_eq_true_eq] at this
  exact this
/-- Two ints in an array. -/
def prE : Enc (Int × Int) where
  k := 2
  enc x := [.int .i64 x.1, .int .i64 x.2]
  len _ := rfl
  one x u hu := by
    simp only [List.mem_cons, List.not_mem_nil, or_false] at hu
    rcases hu with rfl | rfl <;> rfl
  pos := by decide
def szs : List (Int × Int) := [(0, 2), (9, 2), (2, 0), (2, 101), (2, 2), (8, 100), (1, 1), (-1, -1)]
theorem prow_two {w : World} {a : Option Addr} {n : Nat} {xs : List (Int × Int)} (h : GRow prE w a n xs) {i : Nat} (hi : i < n) : ∃ b off x, a = some ⟨b, off, none⟩ ∧ b < w.heap.size ∧ xs[i]? = some x ∧ w.cell? ⟨b, off + i * 2, none⟩ = some (.int .i64 x.1) ∧ w.cell? ⟨b, off + i * 2 + 1, none⟩ = some (.int .i64 x.2) := by
  obtain ⟨b, off, x, e, hb, hx, h1⟩ := h.2 i hi
  exact ⟨b, off, x, e, hb, hx, h1 0 _ rfl, h1 1 _ rfl⟩
theorem Try.infoDo : (Try.prog.info? 33).map (fun i => (i.zero, i.size, i.bytes)) = some (some (.agg #[.int .i64 0, .int .i64 0, .int .i64 0]), 3, 24) := by kernel_rfl
/-- A literal of one's own. -/
theorem lit_own {α : Type} {E : Enc α} {w : World} {B g c : Nat} {cs : Array Value} {T : TypeId} {xs : List α} (h : w.heap[g]? = some (.cells cs T (0, 0))) (hB : B ≤ g) (hz : cs.toList = E.flat xs) (hc : c = xs.length) (hm : c ≤ maxLen) : ORow E T w B (.slice (some ⟨g, 0, none⟩) c c) xs := by
  subst hc
  have hl := E.flat_length xs
  refine ⟨hl, .inr ⟨g, xs.length, cs, rfl, hB, h, Nat.le_refl _, hm, ?_, ?_⟩⟩
  · rw [← Array.length_toList, hz, hl]
  · rw [hz, ← hl, List.take_length]
set_option maxHeartbeats 2000000 in
theorem law_names20 (w : World) : Calls Try.prog 6 #[] w fun e w' => e = .returned (.bool true) ∧ After w w' := by
  have HA := hideIt (fun V => awake_any V)
  go_enter Try.func6, Try.ntmps6
  go_wp2_with fail
  go_loopw [1, 2] (fun v iv wr => ∃ j : Nat, j ≤ 2 ∧ iv = .int .i64 j ∧ NoneB wr v ∧ After w wr) (fun _ iv _ => 2 - (intOf iv).toNat)
  case atStart => exact ⟨0, Nat.zero_le _, rfl, noneB_nil w, After.rfl⟩
  case round =>
    rename_i v _
    obtain ⟨j, hj, rfl, hn, af⟩ := hrel
    by_cases hj2 : j < 2
    · have i1 : (j : Int) < 2 := by omega
      have H1 := hideIt (join_none hn 9)
      have H2 := hideIt (tell_none hn 9 1)
      have H3 := hideIt (hear_none hn 9)
      have H4 := hideIt (locked_none hn 9 (-1))
      have H5 := hideIt (free_none hn 9 (-1))
      have H6 := hideIt (set_none hn 9)
      have hz := noneB_zero (heap_alloc_new wr (.cells (busC 0 0) 58))
      have HZ := hideIt (And.intro hz (af.alloc (.cells (busC 0 0) 58)))
      clear hn hz af
      go_wp2_with (first | (go_at_call 11; refine H1.out.mono ?_; rintro e w0 ⟨rfl, hw0⟩; obtain rfl := hw0.symm) | (go_at_call 12; refine H2.out.mono ?_; rintro e w0 ⟨rfl, hw0⟩; obtain rfl := hw0.symm) | (go_at_call 14; refine H3.out.mono ?_; rintro e w0 ⟨rfl, hw0⟩; obtain rfl := hw0.symm) | (go_at_call 18; refine H4.out.mono ?_; rintro e w0 ⟨rfl, hw0⟩; obtain rfl := hw0.symm) | (go_at_call 16; refine H5.out.mono ?_; rintro e w0 ⟨rfl, hw0⟩; obtain rfl := hw0.symm) | (go_at_call 17; refine H6.out.mono ?_; rintro e w0 ⟨rfl, hw0⟩; obtain rfl := hw0.symm))
      go_roundw
      case rel => exact ⟨j + 1, by omega, by go_num, HZ.out⟩
      case measure => simp [intOf]; omega
    · have i1 : ¬ (j : Int) < 2 := by omega
      have AF := hideIt af
      clear hn af hj hj2
      go_wp2_with fail
      have b0 : w.heap.size ≤ wr.heap.size := AF.out.size
      have H0 := hideIt (And.intro (lit_own (E := dxE) (B := w.heap.size) (c := 27) (xs := nm1 0) (heap_alloc_new wr (.cells #[.int .i64 0, .int .i64 1, .int .i64 0, .int .i64 0, .int .i64 2, .int .i64 0, .int .i64 0, .int .i64 (-1), .int .i64 0, .int .i64 1, .int .i64 1, .int .i64 7, .int .i64 1, .int .i64 0, .int .i64 8, .int .i64 2, .int .i64 0, .int .i64 0, .int .i64 2, .int .i64 0, .int .i64 0, .int .i64 2, .int .i64 1, .int .i64 0, .int .i64 2, .int .i64 (-1), .int .i64 0, .int .i64 5, .int .i64 0, .int .i64 5, .int .i64 3, .int .i64 0, .int .i64 5, .int .i64 5, .int .i64 0, .int .i64 5, .int .i64 5, .int .i64 0, .int .i64 6, .int .i64 5, .int .i64 0, .int .i64 7, .int .i64 5, .int .i64 0, .int .i64 6, .int .i64 3, .int .i64 1, .int .i64 7, .int .i64 4, .int .i64 1, .int .i64 0, .int .i64 5, .int .i64 1, .int .i64 7, .int .i64 3, .int .i64 4, .int .i64 7, .int .i64 3, .int .i64 1, .int .i64 6, .int .i64 4, .int .i64 4, .int .i64 0, .int .i64 4, .int .i64 (-1), .int .i64 0, .int .i64 5, .int .i64 4, .int .i64 9, .int .i64 5, .int .i64 2, .int .i64 4611686018427387904, .int .i64 3, .int .i64 2, .int .i64 4611686018427387904, .int .i64 5, .int .i64 2, .int .i64 9223372036854775807, .int .i64 3, .int .i64 2, .int .i64 (-1)] 33)) b0 rfl rfl (by unfold maxLen; omega)) (AF.out.alloc (.cells #[.int .i64 0, .int .i64 1, .int .i64 0, .int .i64 0, .int .i64 2, .int .i64 0, .int .i64 0, .int .i64 (-1), .int .i64 0, .int .i64 1, .int .i64 1, .int .i64 7, .int .i64 1, .int .i64 0, .int .i64 8, .int .i64 2, .int .i64 0, .int .i64 0, .int .i64 2, .int .i64 0, .int .i64 0, .int .i64 2, .int .i64 1, .int .i64 0, .int .i64 2, .int .i64 (-1), .int .i64 0, .int .i64 5, .int .i64 0, .int .i64 5, .int .i64 3, .int .i64 0, .int .i64 5, .int .i64 5, .int .i64 0, .int .i64 5, .int .i64 5, .int .i64 0, .int .i64 6, .int .i64 5, .int .i64 0, .int .i64 7, .int .i64 5, .int .i64 0, .int .i64 6, .int .i64 3, .int .i64 1, .int .i64 7, .int .i64 4, .int .i64 1, .int .i64 0, .int .i64 5, .int .i64 1, .int .i64 7, .int .i64 3, .int .i64 4, .int .i64 7, .int .i64 3, .int .i64 1, .int .i64 6, .int .i64 4, .int .i64 4, .int .i64 0, .int .i64 4, .int .i64 (-1), .int .i64 0, .int .i64 5, .int .i64 4, .int .i64 9, .int .i64 5, .int .i64 2, .int .i64 4611686018427387904, .int .i64 3, .int .i64 2, .int .i64 4611686018427387904, .int .i64 5, .int .i64 2, .int .i64 9223372036854775807, .int .i64 3, .int .i64 2, .int .i64 (-1)] 33)))
      clear b0
      go_loopw [12, 13] (fun lv iv wr => ∃ j : Nat, j ≤ 9 ∧ iv = .int .i64 j ∧ ORow dxE 33 wr w.heap.size lv (nm1 j) ∧ After w wr) (fun _ iv _ => 9 - (intOf iv).toNat)
      case atStart => exact ⟨0, Nat.zero_le _, rfl, H0.out⟩
      case round =>
        obtain ⟨k, hk, rfl, hown, af⟩ := hrel
        clear H0
        by_cases hk9 : k < 9
        · have i2 : (k : Int) < 9 := by omega
          have HO := hideIt (And.intro hown af)
          have hlen := nm1_len k
          have HB := hideIt (show (nm1 k).length + 1 ≤ maxLen ∧ ((nm1 k).length + 1) * 24 ≤ 140737488355328 by unfold maxLen; omega)
          clear hown af hlen
          go_wp2_with (at_builtin; go_must (refine app_row (E := dxE) rfl (.tmp 120) (.tmp 122) 23 33 Try.underlying23 Try.infoDo rfl (by decide) rfl w.heap.size _ (nm1 k) rfl (own_after HO.out.1 (After.rfl.alloc _)) (some ⟨wr.heap.size, 0, none⟩) 1 1 [⟨0, 1, 0⟩] rfl (lit_row (heap_alloc_new wr _) rfl rfl) (fun h => by cases h) HB.out.1 HB.out.2 (Nat.le_trans HO.out.2.size (by simp)) ?_))
          intro v3 w3 o3 b3
          rw [← nm1_succ] at o3
          have a3 : After w w3 := (HO.out.2.alloc _).then b3 (fun i hi e => by have := (HO.out.1.lt i e).1; omega)
          have H3 := hideIt (And.intro o3 a3)
          clear o3 b3 a3
          go_wp2_with fail
          go_roundw
          case rel => exact ⟨k + 1, by omega, by go_num, H3.out⟩
          case measure => simp [intOf]; omega
        · have i2 : ¬ (k : Int) < 9 := by omega
          have e9 : k = 9 := by omega
          rw [e9, ← nm2_zero] at hown
          have H0 := hideIt (And.intro hown af)
          clear hown af hk hk9 e9
          go_wp2_with fail
          go_loopw [12, 14] (fun lv iv wr => ∃ j : Nat, j ≤ 20 ∧ iv = .int .i64 j ∧ ORow dxE 33 wr w.heap.size lv (nm2 j) ∧ After w wr) (fun _ iv _ => 20 - (intOf iv).toNat)
          case atStart => exact ⟨0, Nat.zero_le _, rfl, H0.out⟩
          case round =>
            obtain ⟨k2, hk, rfl, hown, af⟩ := hrel
            clear H0
            by_cases hk20 : k2 < 20
            · have i3 : (k2 : Int) < 20 := by omega
              have HO := hideIt (And.intro hown af)
              have hlen := nm2_len k2
              have HB := hideIt (show (nm2 k2).length + 1 ≤ maxLen ∧ ((nm2 k2).length + 1) * 24 ≤ 140737488355328 by unfold maxLen; omega)
              clear hown af hlen
              go_wp2_with (at_builtin; go_must (refine app_row (E := dxE) rfl (.tmp 128) (.tmp 131) 23 33 Try.underlying23 Try.infoDo rfl (by decide) rfl w.heap.size _ (nm2 k2) rfl (own_after HO.out.1 (After.rfl.alloc _)) (some ⟨wr.heap.size, 0, none⟩) 1 1 [⟨1, 1, (k2 : Int)⟩] rfl (lit_row (heap_alloc_new wr _) rfl rfl) (fun h => by cases h) HB.out.1 HB.out.2 (Nat.le_trans HO.out.2.size (by simp)) ?_))
              intro v3 w3 o3 b3
              rw [← nm2_succ] at o3
              have a3 : After w w3 := (HO.out.2.alloc _).then b3 (fun i hi e => by have := (HO.out.1.lt i e).1; omega)
              have H3 := hideIt (And.intro o3 a3)
              clear o3 b3 a3
              go_wp2_with fail
              go_roundw
              case rel => exact ⟨k2 + 1, by omega, by go_num, H3.out⟩
              case measure => simp [intOf]; omega
            · have i3 : ¬ (k2 : Int) < 20 := by omega
              have e9 : k2 = 20 := by omega
              rw [e9] at hown
              have HO := hideIt (And.intro hown af)
              have HB := hideIt (show (nm2 20).length + 3 ≤ maxLen ∧ ((nm2 20).length + 3) * 24 ≤ 140737488355328 by have := nm2_len 20; unfold maxLen; omega)
              clear hown af hk hk20 e9
              go_wp2_with (at_builtin; go_must (refine app_row (E := dxE) rfl (.tmp 133) (.tmp 137) 23 33 Try.underlying23 Try.infoDo rfl (by decide) rfl w.heap.size _ (nm2 20) rfl (own_after HO.out.1 (After.rfl.alloc _)) (some ⟨wr.heap.size, 0, none⟩) 3 3 [⟨2, 7, 0⟩, ⟨2, 8, 0⟩, ⟨2, 0, 0⟩] rfl (lit_row (heap_alloc_new wr _) rfl rfl) (fun h => by cases h) HB.out.1 HB.out.2 (Nat.le_trans HO.out.2.size (by simp)) ?_))
              intro v3 w3 o3 b3
              have o3 : ORow dxE 33 w3 w.heap.size v3 nm3 := o3
              have a3 : After w w3 := (HO.out.2.alloc _).then b3 (fun i hi e => by have := (HO.out.1.lt i e).1; omega)
              obtain ⟨ra, rc, er, hr, _⟩ := ORow.row o3
              subst er
              have H3 := hideIt (And.intro hr a3)
              clear o3 b3 a3 HO HB hr
              generalize hL : nm3.length = L at *
              have HL := hideIt hL
              clear hL
              go_wp2_with fail
              have l9 : GRow prE (w3.alloc (.cells #[.int .i64 0, .int .i64 2, .int .i64 9, .int .i64 2, .int .i64 2, .int .i64 0, .int .i64 2, .int .i64 101, .int .i64 2, .int .i64 2, .int .i64 8, .int .i64 100, .int .i64 1, .int .i64 1, .int .i64 (-1), .int .i64 (-1)] 22)) (some ⟨w3.heap.size, 0, none⟩) 8 szs := lit_row (heap_alloc_new w3 _) rfl rfl
              have a9 : After w3 (w3.alloc (.cells #[.int .i64 0, .int .i64 2, .int .i64 9, .int .i64 2, .int .i64 2, .int .i64 0, .int .i64 2, .int .i64 101, .int .i64 2, .int .i64 2, .int .i64 8, .int .i64 100, .int .i64 1, .int .i64 1, .int .i64 (-1), .int .i64 (-1)] 22)) := After.rfl.alloc _
              have H9 := hideIt (And.intro l9 (And.intro (H3.out.1.after a9) (H3.out.2.trans a9)))
              clear l9 a9
              generalize w3.alloc (.cells #[.int .i64 0, .int .i64 2, .int .i64 9, .int .i64 2, .int .i64 2, .int .i64 0, .int .i64 2, .int .i64 101, .int .i64 2, .int .i64 2, .int .i64 8, .int .i64 100, .int .i64 1, .int .i64 1, .int .i64 (-1), .int .i64 (-1)] 22) = W9 at *
              go_loopw [16] (fun iv wr => ∃ j : Nat, j ≤ 8 ∧ iv = .int .i64 j ∧ After W9 wr) (fun iv _ => 8 - (intOf iv).toNat)
              case atStart => exact ⟨0, Nat.zero_le _, rfl, After.rfl⟩
              case round =>
                obtain ⟨k3, hk, rfl, af⟩ := hrel
                by_cases hk8 : k3 < 8
                · have i4 : (k3 : Int) < 8 := by omega
                  obtain ⟨pb, po, pr, ep, _, _, e0, e1⟩ := prow_two (H9.out.1.after af) hk8
                  cases ep
                  obtain ⟨n1, n2⟩ := pr
                  simp only [Nat.zero_add] at e0 e1
                  have HP := law_plays20 wr n1 n2 ra nm3.length rc nm3 (by rw [HL.out]; exact H9.out.2.1.after af) nm3_in
                  rw [HL.out] at HP
                  have HP := hideIt HP
                  have AF3 := hideIt af
                  clear af
                  go_wp2_with fail
                  refine HP.out.mono ?_
                  rintro e w5 ⟨rfl, a5⟩
                  have A5 := hideIt (AF3.out.trans a5)
                  clear a5 HP e0 e1
                  go_wp2_with fail
                  go_roundw
                  case rel => exact ⟨k3 + 1, by omega, by go_num, A5.out⟩
                  case measure => simp [intOf]; omega
                · have i4 : ¬ (k3 : Int) < 8 := by omega
                  have AF3 := hideIt af
                  clear af hk hk8
                  go_wp2_with fail
                  refine (HA.out wr).mono ?_
                  rintro e w5 ⟨rfl, a5⟩
                  have A5 := hideIt a5
                  clear a5
                  go_wp2_with fail
                  go_ret
                  exact ⟨rfl, (H9.out.2.2.trans AF3.out).trans A5.out⟩
end Go.Proofs.Ytajjfklglnefkaa
