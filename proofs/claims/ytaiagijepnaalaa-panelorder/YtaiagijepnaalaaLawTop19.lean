/-
  PanelTop: nothing is graver than what is told to be gravest.
-/
import Derived.Test.YtaiagijepnaalaaPaI
import Derived.Test.YtaiagijepnaalaaPaQ
namespace Go.Proofs.Ytaiagijepnaalaa
open Go.RowKit
set_option maxRecDepth 8000
/-- A list of states that is handed in. -/
structure In19 (w : World) (a : Option Addr) (n c : Nat) (l : List As) : Prop where
  row : GRow asE w a n l
  le : n ≤ c
  nil : a = none → n = 0 ∧ c = 0
theorem In19.after {w w' : World} {a n c l} (h : In19 w a n c l) (x : After w w') : In19 w' a n c l := ⟨h.row.after x, h.le, h.nil⟩
theorem In19.few {w : World} {a n c l} (h : In19 w a n c l) : Calls Try.prog 16 #[.slice a n c] w fun e w' => e = .returned (.slice a (min n 26) c) ∧ After w w' := few_any w a n c h.le h.nil
theorem In19.of {w : World} {a n c l} (h : In19 w a n c l) (fl : Bool) : Calls Try.prog 9 #[.slice a (min n 26) c, .bool fl, .slice none 0 0] w fun e w' => e = .returned (.tuple #[(ofV (l.take (min n 26)) fl []).v, .int .i64 0]) ∧ After w w' :=
  of_yes w a none (min n 26) c 0 0 fl (l.take (min n 26)) [] (h.row.take (by omega)) (GRow.nil blE w none) (by omega) (by omega)
theorem take_len {w : World} {a n c l} (h : In19 w a n c l) : (l.take (min n 26)).length = min n 26 := by rw [List.length_take, h.row.1]; omega
set_option maxHeartbeats 1000000 in
theorem law_top (w : World) (a : Option Addr) (n c : Nat) (fl : Bool) (l : List As) (hl : In19 w a n c l) : Calls Try.prog 5 #[.slice a n c, .bool fl] w fun e w' => e = .returned (.bool true) ∧ After w w' := by
  have HW := hideIt (fun V => works_any V)
  have HI := hideIt hl
  have hlen := take_len hl
  have hle : min n 26 ≤ 26 := by omega
  have HOf := hideIt (fun V (x : After w V) => (hl.after x).of fl)
  generalize l.take (min n 26) = L at *
  have hok := ofV_ok L fl []
  have e1 : (ofV L fl []).sg = sgAt L (min n 26) := by unfold ofV; rw [hlen]
  have e2 : (ofV L fl []).top = topAt L (min n 26) := by unfold ofV; rw [hlen]
  have e3 : (ofV L fl []).tone = toneAt L (min n 26) := by unfold ofV; rw [hlen]
  have e4 : (ofV L fl []).fl = fl := rfl
  have e5 : (ofV L fl []).lk = [true, true, true, true] := rfl
  generalize ofV L fl [] = W at *
  have F := hideIt (And.intro hok (And.intro e1 (And.intro e2 (And.intro e3 (And.intro e4 e5)))))
  clear hl hok e1 e2 e3 e4 e5
  have t1 := top_bound L (min n 26)
  have t2 := tone_bound L (min n 26)
  have hT := topV_at L hle 26 (Nat.le_refl _)
  have hN := toneV_at L hle 26 (Nat.le_refl _)
  have hA := anyV_end L hle
  rw [show min 26 (min n 26) = min n 26 by omega] at hT hN
  have B := hideIt (And.intro t1 (And.intro t2 (And.intro hT (And.intro hN hA))))
  clear t1 t2 hT hN hA
  have HM := hideIt hle
  clear hle
  generalize hmn : min n 26 = m at *
  go_enter Try.func5, Try.ntmps5
  go_wp2_with fail
  refine (HW.out w).mono ?_
  rintro e w1 ⟨rfl, a1⟩
  have A1 := hideIt a1
  clear HW a1
  go_wp2_with fail
  refine ((HI.out.after A1.out).few).mono ?_
  rintro e w2 ⟨rfl, a2⟩
  rw [hmn]
  have A2 := hideIt (A1.out.trans a2)
  clear a2 A1
  go_wp2_with fail
  refine (HOf.out w2 A2.out).mono ?_
  rintro e w3 ⟨rfl, a3⟩
  have A3 := hideIt (A2.out.trans a3)
  clear a3 A2 HOf
  go_upto_region 4 with (first | (show wpList _ _ _ (_ :: _) _ _; refine wl_avec rfl rfl ?_; intro w4 v4 a4 s4) | (show wpList _ _ _ (_ :: _) _ _; refine wl_vec _ _ rfl rfl rfl (v := W) rfl Vec.Ok.zero F.out.1 v4 ?_; intro w5 v5 b5 s5) | fail)
  have hs3 : w.heap.size ≤ w3.heap.size := A3.out.size
  have a5 : After w w5 := But.then (A3.out.trans a4) b5 (fun i hi (t : i = w3.heap.size) => by omega)
  generalize w3.heap.size = g at *
  generalize W.v = V0
  obtain ⟨m0, m1, m2⟩ := v5.cell_mid F.out.1
  rw [F.out.2.2.1] at m0
  rw [F.out.2.2.2.1] at m1
  rw [F.out.2.2.2.2.1] at m2
  have E := hideIt (And.intro v5 a5)
  clear v4 a4 s4 v5 b5 s5 a5 hs3
  have q1 : ¬ topAt L m < toneAt L m := by have := B.out.2.1.2; omega
  have q2 : ¬ topAt L m < 0 := by have := B.out.1.1; omega
  have q3 : ¬ 3 < topAt L m := by have := B.out.1.2; omega
  have q4 : (fl != fl) = false := by simp
  go_wp2_with fail
  clear m0 m1 m2
  obtain ⟨S, hS⟩ : ∃ S, S = sgAt L m := ⟨_, rfl⟩
  have hSl : S.length = 26 := by rw [hS]; exact sgAt_length _ _
  have hSf : ∀ i, i < 26 → (S.getD i Sg.zero).Fine := fun i hi => by rw [hS]; exact sgAt_fine L HM.out hi
  have hSW : W.sg = S := by rw [hS]; exact F.out.2.1
  have HS := hideIt (And.intro hSl (And.intro hSf (And.intro hSW hS)))
  clear hSl hSf hSW hS
  go_loopw [7, 8, 9, 10] (fun tp tn sh i wr => ∃ j : Nat, j ≤ 26 ∧ i = .int .i64 j ∧ tp = .int .i64 (topV S j) ∧ tn = .int .i64 (toneV S j) ∧ sh = .bool (anyV S j) ∧ VecAt wr g W ∧ After w wr) (fun _ _ _ i _ => 26 - (intOf i).toNat)
  case atStart => exact ⟨0, by omega, rfl, rfl, rfl, rfl, E.out.1, E.out.2⟩
  case round =>
    obtain ⟨j, hj, rfl, rfl, rfl, rfl, hv, af⟩ := hrel
    clear E
    by_cases hjn : j < 26
    · have i1 : (j : Int) < 26 := by omega
      have hx := get_some S Sg.zero (i := j) (by rw [HS.out.1]; exact hjn)
      rw [← HS.out.2.2.1] at hx
      obtain ⟨x0, x1, x2⟩ := hv.cell_sg F.out.1 hx
      rw [HS.out.2.2.1] at x0 x1 x2
      have hf := HS.out.2.1 j hjn
      have n1 : topV S (j + 1) = max (topV S j) (S.getD j Sg.zero).pr := rfl
      have n2 : toneV S (j + 1) = if (S.getD j Sg.zero).so = true then max (toneV S j) (S.getD j Sg.zero).pr else toneV S j := rfl
      have n3 : anyV S (j + 1) = (anyV S j || (S.getD j Sg.zero).sh) := rfl
      have hlt := blk_lt hv
      have L1 := hideIt (And.intro hv (And.intro af (And.intro n1 (And.intro n2 n3))))
      clear hv af n1 n2 n3 hx
      generalize S.getD j Sg.zero = x at *
      have hw : (x.sh = false ∧ x.so = false ∧ ¬ 0 < x.pr ∧ ¬ x.pr < 0) ∨ (x.sh = true ∧ x.so = false ∧ 0 < x.pr ∧ ¬ x.pr < 0) ∨ (x.sh = true ∧ x.so = true ∧ 0 < x.pr ∧ ¬ x.pr < 0) := by
        obtain ⟨f1, f2, f3, f4⟩ := hf
        cases hsh : x.sh
        · rw [hsh] at f1 f2
          refine .inl ⟨rfl, ?_, of_decide_eq_false f2.symm, by omega⟩
          cases hso : x.so
          · rfl
          · exact absurd (f1 hso) (by decide)
        · rw [hsh] at f2
          have : 0 < x.pr := of_decide_eq_true f2.symm
          cases hso : x.so
          · exact .inr (.inl ⟨rfl, rfl, this, by omega⟩)
          · exact .inr (.inr ⟨rfl, rfl, this, by omega⟩)
      clear hf
      rcases hw with ⟨s1, s2, s3, s4⟩ | ⟨s1, s2, s3, s4⟩ | ⟨s1, s2, s3, s4⟩
      all_goals
        rw [s1] at x0
        rw [s2] at x1
        have N := hideIt (And.intro s1 s2)
        clear s1 s2
        generalize hA : anyV S j = Q at *
        cases Q
        all_goals
          go_wp2
          refine ⟨⟨j + 1, by omega, by simp, ?_, ?_, ?_, L1.out.1.after (After.rfl.alloc _), L1.out.2.1.alloc _⟩, by simp [intOf]; omega⟩
          · rw [L1.out.2.2.1]
            congr 1
            split <;> omega
          · rw [L1.out.2.2.2.1, N.out.2]
            first
            | rfl
            | (rw [if_pos rfl]
               congr 1
               split <;> omega)
          · rw [L1.out.2.2.2.2, N.out.1]
            rfl
    · obtain rfl : j = 26 := by omega
      obtain ⟨m0, m1, -⟩ := hv.cell_mid F.out.1
      rw [F.out.2.2.1] at m0
      rw [F.out.2.2.2.1] at m1
      have k0 := hv.cell_lk F.out.1 (i := 0) (by decide)
      have k1 := hv.cell_lk F.out.1 (i := 1) (by decide)
      have k2 := hv.cell_lk F.out.1 (i := 2) (by decide)
      have k3 := hv.cell_lk F.out.1 (i := 3) (by decide)
      rw [F.out.2.2.2.2.2] at k0 k1 k2 k3
      simp only [List.getD_cons_zero, List.getD_cons_succ, Nat.reduceAdd, Nat.add_zero] at k0 k1 k2 k3
      have b3 := B.out.2.2.1
      have b4 := B.out.2.2.2.1
      have b5 := B.out.2.2.2.2
      rw [← HS.out.2.2.2] at b3 b4 b5
      rw [b3, b4, b5]
      have AF := hideIt af
      have eq27 : ∀ V, (Op.equalIn 10000 27 (.agg #[.bool true, .bool true, .bool true, .bool true]) (.agg #[.bool true, .bool true, .bool true, .bool true])).run Try.prog V = .ok true V := eqLks 9998 [true, true, true, true] rfl
      clear b3 b4 b5 hv af hjn hj B q1 q2 q3 q4
      generalize topAt L m = T at *
      generalize toneAt L m = U at *
      have r1 : (T == T) = true := by simp
      have r2 : (U == U) = true := by simp
      by_cases hT : 0 < T
      · rw [decide_eq_true hT]
        go_wp2
        go_ret
        exact ⟨rfl, AF.out⟩
      · rw [decide_eq_false hT]
        go_wp2
        go_ret
        exact ⟨rfl, AF.out⟩
end Go.Proofs.Ytaiagijepnaalaa
