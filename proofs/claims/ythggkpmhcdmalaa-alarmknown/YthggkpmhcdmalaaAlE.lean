/-
  Package alarm: Step, Ack, Pause, State; of what is none, too.
-/
import Derived.Test.YthggkpmhcdmalaaAlD
namespace Go.Proofs.Ythggkpmhcdmalaa
open Go.RowKit
set_option maxRecDepth 8000
theorem evs_len (a : Int) : (evs a).length ≤ 1 := by unfold evs; split <;> simp
theorem evs_no : evs 0 = [] := rfl
theorem evs_yes {a : Int} (h : ¬ a = 0) : evs a = [a] := by unfold evs; rw [if_neg h]
/-- What is none of these blocks, and the block of an alarm, are apart from what is new. -/
theorem one_new {w V W : World} {p : Nat} (b : But (One p) w V) (a : After V W) : But (One p) w W := b.then a (fun _ _ t => t.elim)
set_option maxHeartbeats 1000000 in
theorem step_any {w : World} {p : Nat} {s : Sp} {x : As} (h : Al w p s x) (act : Bool) : Calls Try.prog 20 #[Ptr p, .bool act] w fun e w' => ∃ v, e = .returned (.tuple #[v, .int .i64 0]) ∧ OInts w' w.heap.size v (stE s x act) ∧ Al w' p s (stS s x act) ∧ But (One p) w w' := by
  have HN := hideIt (isNone_no h)
  have HW := hideIt (fun V (a : After w V) => wait_any (h.after a))
  have HM := hideIt (fun V (y : Al V p s (wtS x)) => move_any y act)
  have HP := hideIt h.lt
  clear h
  unfold stE stS
  generalize mvS s (wtS x) act = x' at *
  generalize mvE s (wtS x) act = e2 at *
  generalize wtE x = e1 at *
  go_enter Try.func20, Try.ntmps20
  go_wp2_with fail
  refine HN.out.mono ?_
  rintro e w1 ⟨rfl, a1⟩
  have A1 := hideIt a1
  clear a1 HN
  go_wp2_with fail
  refine (HW.out _ A1.out).mono ?_
  rintro e w2 ⟨rfl, x2, b2⟩
  have B2 := hideIt (But.trans A1.out.but b2)
  have X2 := hideIt x2
  clear x2 b2 HW
  go_wp2_with fail
  refine (HM.out _ X2.out).mono ?_
  rintro e w3 ⟨rfl, x3, b3⟩
  have B3 := hideIt (B2.out.trans b3)
  have X3 := hideIt x3
  clear x3 b3 HM X2 B2 A1
  go_wp2_with fail
  go_loopw [6, 17] (fun o i wr => ∃ (j : Nat), j ≤ 2 ∧ i = .int .i64 j ∧ OInts wr w.heap.size o (if j = 0 then [] else if j = 1 then evs e1 else evs e1 ++ evs e2) ∧ Al wr p s x' ∧ But (One p) w wr) (fun _ i _ => 2 - (intOf i).toNat)
  case atStart => exact ⟨0, by omega, rfl, own_nil _ _, X3.out, B3.out⟩
  case round =>
    obtain ⟨j, hj, rfl, own, al, bt⟩ := hrel
    have HO := hideIt (And.intro own (And.intro al bt))
    clear own al bt
    have i0 : ∀ w, (Instr.index 67 (.agg #[.int .i64 e1, .int .i64 e2]) (.int .i64 0)).run Try.prog w = .ok (.int .i64 e1) w := fun _ => by kernel_rfl
    have i1 : ∀ w, (Instr.index 67 (.agg #[.int .i64 e1, .int .i64 e2]) (.int .i64 1)).run Try.prog w = .ok (.int .i64 e2) w := fun _ => by kernel_rfl
    rcases (by omega : j = 0 ∨ j = 1 ∨ j = 2) with rfl | rfl | rfl
    · by_cases h0 : e1 = 0
      · have hb : (e1 != 0) = false := by simpa using h0
        have H0 := hideIt h0
        clear h0
        go_wp2
        go_roundw
        case rel => exact ⟨1, by omega, by go_num, by rw [if_neg (by omega), if_pos rfl, H0.out]; exact HO.out.1, HO.out.2.1, HO.out.2.2⟩
        case measure => simp [intOf]
      · have hb : (e1 != 0) = true := by simpa using h0
        have H0 := hideIt h0
        clear h0
        go_wp2_with (at_builtin; refine app_ints rfl (.tmp 22) (.tmp 24) rfl w.heap.size _ ([] : List Int) rfl (own_after HO.out.1 (After.rfl.alloc _)) (some ⟨wr.heap.size, 0, none⟩) 1 1 [e1] rfl (lit_irow (heap_alloc_new wr _) rfl rfl) (fun h => by cases h) (by decide) (Nat.le_trans HO.out.2.2.size ((After.rfl.alloc _).size)) ?_)
        intro v3 w4 o3 b3
        have b4 : But (From w.heap.size) wr w4 := (After.rfl.alloc _).but.then b3 (fun i hi t => (own_lt HO.out.1 t).1)
        have b5 : But (One p) w w4 := HO.out.2.2.then b4 (fun i hi t => by have : w.heap.size ≤ i := t; omega)
        have x5 := HO.out.2.1.but b4 (fun t => by have : w.heap.size ≤ p := t; have := HP.out; omega)
        have HF := hideIt (And.intro o3 (And.intro x5 b5))
        clear o3 b3 b4 b5 x5 HO
        go_wp2
        go_roundw
        case rel => exact ⟨1, by omega, by go_num, by rw [if_neg (by omega), if_pos rfl, evs_yes H0.out]; exact HF.out.1, HF.out.2.1, HF.out.2.2⟩
        case measure => simp [intOf]
    · by_cases h0 : e2 = 0
      · have hb : (e2 != 0) = false := by simpa using h0
        have H0 := hideIt h0
        clear h0
        go_wp2
        go_roundw
        case rel => exact ⟨2, by omega, by go_num, by rw [if_neg (by omega), if_neg (by omega), H0.out, evs_no, List.append_nil]; exact HO.out.1, HO.out.2.1, HO.out.2.2⟩
        case measure => simp [intOf]
      · have hb : (e2 != 0) = true := by simpa using h0
        have H0 := hideIt h0
        clear h0
        go_wp2_with (at_builtin; refine app_ints rfl (.tmp 22) (.tmp 24) rfl w.heap.size _ (evs e1) rfl (own_after HO.out.1 (After.rfl.alloc _)) (some ⟨wr.heap.size, 0, none⟩) 1 1 [e2] rfl (lit_irow (heap_alloc_new wr _) rfl rfl) (fun h => by cases h) (by have := evs_len e1; omega) (Nat.le_trans HO.out.2.2.size ((After.rfl.alloc _).size)) ?_)
        intro v3 w4 o3 b3
        have b4 : But (From w.heap.size) wr w4 := (After.rfl.alloc _).but.then b3 (fun i hi t => (own_lt HO.out.1 t).1)
        have b5 : But (One p) w w4 := HO.out.2.2.then b4 (fun i hi t => by have : w.heap.size ≤ i := t; omega)
        have x5 := HO.out.2.1.but b4 (fun t => by have : w.heap.size ≤ p := t; have := HP.out; omega)
        have HF := hideIt (And.intro o3 (And.intro x5 b5))
        clear o3 b3 b4 b5 x5 HO
        go_wp2
        go_roundw
        case rel => exact ⟨2, by omega, by go_num, by rw [if_neg (by omega), if_neg (by omega), evs_yes H0.out]; exact HF.out.1, HF.out.2.1, HF.out.2.2⟩
        case measure => simp [intOf]
    · go_wp2
      go_ret2
      exact ⟨_, rfl, HO.out.1, HO.out.2.1, HO.out.2.2⟩
end Go.Proofs.Ythggkpmhcdmalaa
