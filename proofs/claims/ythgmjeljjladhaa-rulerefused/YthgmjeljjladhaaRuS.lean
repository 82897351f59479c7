/-
  Step: a tick.
-/
import Derived.Test.YthgmjeljjladhaaRuI
namespace Go.Proofs.Ythgmjeljjladhaa
open Go.RowKit
set_option maxRecDepth 8000
theorem step_none {w : World} {v : Value} {a : Option Addr} {n c : Nat} (h : Calls Try.prog 28 #[v] w fun e w' => e = .returned (.bool true) ∧ w' = w) : Calls Try.prog 15 #[v, .slice a n c] w fun e w' => e = .returned (.tuple #[.bool false, .int .i64 1]) ∧ w' = w := by
  have H := hideIt h
  clear h
  go_enter Try.func15, Try.ntmps15
  go_wp2_with (go_at_call 28; refine H.out.mono ?_; rintro e w' ⟨rfl, rfl⟩)
  go_ret2
  exact ⟨rfl, rfl⟩
theorem step_arg {w : World} {lo hi : Nat} {m : Mp} {L : List Nd} {C : List Ch} {Z : Nat → Int} (h : Mc w lo hi m L C Z) (hL : 0 < L.length) {a : Option Addr} {n c : Nat} (hn : n ≠ C.length) : Calls Try.prog 15 #[Ptr m.p, .slice a n c] w fun e w' => e = .returned (.tuple #[.bool false, .int .i64 2]) ∧ w' = w := by
  obtain ⟨p, vn, vc, vk, K, b⟩ := m
  obtain ⟨an, cn, e, -, -, -⟩ := ORow.row h.q.on
  obtain ⟨ac, cc, e2, -, -, -⟩ := ORow.row h.q.oc
  have hb := h.q.blk
  simp only at e e2 hb ⊢
  subst e e2
  have H := hideIt (isNone_no hL hb)
  have h1 := blk_cell hb (i := 1) rfl
  have hp := blk_lt hb
  have i1 : ((n : Int) != (C.length : Int)) = true := by simp; omega
  clear h hb
  go_enter Try.func15, Try.ntmps15
  go_wp2_with (go_at_call 28; refine H.out.mono ?_; rintro e w' ⟨rfl, rfl⟩)
  go_ret2
  exact ⟨rfl, rfl⟩
set_option maxHeartbeats 2000000 in
theorem step_ok {w : World} {lo hi : Nat} {m : Mp} {L : List Nd} {C : List Ch} {T : List (List Rd)} (h : Mc w lo hi m L C (zOf L C T T.length)) (hh : hi ≤ w.heap.size) (hc : chk L (C.length : Int) = 0) {ar : Option Addr} {cr : Nat} {R : List Rd} (hr : DRow w ar C.length R) (hro : ∀ x, ar = some x → 0 < C.length → ¬ Rng lo hi x.block) :
    Calls Try.prog 15 #[Ptr m.p, .slice ar C.length cr] w fun e w' => e = .returned (.tuple #[.bool (val L C (T ++ [R]) (L.length - 1) T.length), .int .i64 0]) ∧ Mc w' lo hi m L C (zOf L C (T ++ [R]) (T.length + 1)) ∧ But (Rng lo hi) w w' := by
  obtain ⟨c1, c2, c3, c4, c5⟩ := chk_zero hc
  obtain ⟨T', hT'⟩ : ∃ T', T' = T ++ [R] := ⟨_, rfl⟩
  obtain ⟨t, ht⟩ : ∃ t, t = T.length := ⟨_, rfl⟩
  have htr : T'.getD t [] = R := by rw [hT', ht]; simp [List.getD]
  have h' : Mc w lo hi m L C (zOf L C T' t) := h.num (fun i _ => by rw [hT', ht, zOf_more])
  rw [← hT', ← ht]
  clear h hT' ht
  obtain ⟨p, vn, vc, vk, K, b⟩ := m
  obtain ⟨an, cn, e, -, -, -⟩ := ORow.row h'.q.on
  obtain ⟨ac, cc, e2, -, -, -⟩ := ORow.row h'.q.oc
  have hb := h'.q.blk
  simp only at e e2 hb ⊢
  subst e e2
  have H := hideIt (isNone_no c4 hb)
  have hmk := make_bools L.length (by omega)
  obtain ⟨g, hg⟩ : ∃ g, g = w.heap.size := ⟨_, rfl⟩
  obtain ⟨W2, hW2⟩ : ∃ W2, W2 = w.alloc (.cells (bcs (List.replicate L.length false)) 4) := ⟨_, rfl⟩
  have hmk2 : (Instr.makeSlice 70 (.int .i64 (L.length : Int)) (.int .i64 (L.length : Int))).run Try.prog w = .ok (.slice (some ⟨g, 0, none⟩) L.length L.length) W2 := by rw [hg, hW2]; exact hmk w
  have a2 : After w W2 := by rw [hW2]; exact After.rfl.alloc _
  have o2 : OutAt W2 g (List.replicate L.length false) := by rw [hW2, hg]; exact heap_alloc_new w _
  have h0 := blk_cell hb (i := 0) rfl
  have h1 := blk_cell hb (i := 1) rfl
  have hp := blk_lt hb
  have hb2 := (a2.block p hp (fun t => t)).trans hb
  have h02 := blk_cell hb2 (i := 0) rfl
  have hp2 := blk_lt hb2
  obtain ⟨M, hM⟩ : ∃ M, L.length = M + 1 := ⟨L.length - 1, by omega⟩
  have HM := hideIt (And.intro hM (show L.length - 1 = M by omega))
  rw [show L.length - 1 = M by omega]
  have HG := hideIt (show hi ≤ g by omega)
  have hrg : ∀ x, ar = some x → 0 < C.length → x.block ≠ g := fun x hx hn => by
    obtain ⟨rb, roff, er, hrb⟩ := hr.lt hn
    rw [er] at hx
    cases hx
    show rb ≠ g
    omega
  have HRg := hideIt hrg
  have HS := hideIt (And.intro (h'.after a2) (And.intro o2 (And.intro a2 (And.intro (hr.after a2) (And.intro htr (And.intro hro (And.intro c1 c5)))))))
  have iL : (L.length : Int) ≤ 32 := by omega
  have iL0 : (0 : Int) < (L.length : Int) := by omega
  have HW := hideIt (And.intro hg hW2)
  clear h' hb hb2 a2 o2 hr hrg htr hro c1 c2 c3 c4 c5 hM hc hh hmk2 hg hW2 h02 hp2
  go_enter Try.func15, Try.ntmps15
  go_wp2_with (first | (go_at_call 28; refine H.out.mono ?_; rintro e w' ⟨rfl, rfl⟩))
  rw [← HW.out.1, ← HW.out.2]
  clear h0 h1 hp H hmk
  go_loopw [29] (fun a wr => ∃ (j : Nat) (l : List Bool), j ≤ L.length ∧ a = .int .i64 (j : Int) ∧ Mc wr lo hi ⟨p, .slice an L.length cn, .slice ac C.length cc, vk, K, b⟩ L C (fun q => if q < j then zOf L C T' (t + 1) q else zOf L C T' t q) ∧ OutAt wr g l ∧ l.length = L.length ∧ (∀ q, q < j → l.getD q false = val L C T' q t) ∧ But (fun k => Rng lo hi k ∨ k = g) W2 wr) (fun a _ => L.length - (intOf a).toNat)
  case atStart => exact ⟨0, _, Nat.zero_le _, rfl, HS.out.1.num (fun q _ => by rw [if_neg (by omega)]), HS.out.2.1, by simp, fun q hq => absurd hq (by omega), But.rfl⟩
  case round =>
    obtain ⟨j, l, hj, rfl, mc, og, ll, vs, bw⟩ := hrel
    by_cases hjn : j < L.length
    · have i1 : (j : Int) < (L.length : Int) := by omega
      obtain ⟨x, hx⟩ : ∃ x, L[j]? = some x := ⟨_, List.getElem?_eq_getElem hjn⟩
      obtain ⟨z1, z2, z3, z4, z5, z6, z7, z8⟩ := HS.out
      have dr : DRow wr ar C.length R := z4.but bw (fun y hy hn e => by
        rcases e with e | e
        · exact z6 y hy hn e
        · exact HRg.out y hy hn e)
      have HK := hideIt (holds_node (cr := cr) (show Asked wr lo hi ⟨p, .slice an L.length cn, .slice ac C.length cc, vk, K, b⟩ L C _ T' t j x g l ar R from ⟨mc, z8, z7, hx, by rw [if_neg (by omega)], og, ll, HG.out, dr, z5, vs⟩))
      have HV := hideIt (And.intro ll (And.intro vs (And.intro bw og)))
      clear mc og ll vs bw dr z1 z2 z3 z4 z5 z6 z7 z8 hx
      generalize hvv : val L C T' j t = VJ at *
      have HVJ := hideIt hvv
      clear hvv
      go_wp2_with fail
      refine HK.out.mono ?_
      rintro e w3 ⟨e3, m3, b3⟩
      rw [HVJ.out] at e3
      obtain rfl := e3
      have hgn : ¬ Rng lo hi g := fun h => by have := HG.out; have := h.2; omega
      have o3 : OutAt w3 g l := (b3.block g (blk_lt HV.out.2.2.2) hgn).trans HV.out.2.2.2
      have q0 := blk_cell o3 (bcs_at (i := j) (by rw [HV.out.1]; exact hjn))
      have q1 := blk_soft o3 j
      have q2 := blk_lt o3
      obtain ⟨W4, hW4⟩ : ∃ W4, W4 = w3.setCell ⟨g, j, none⟩ (.bool VJ) := ⟨_, rfl⟩
      have b4 : But (One g) w3 W4 := by rw [hW4]; exact but_one _ _ _ _
      have o4 : OutAt W4 g (l.set j VJ) := by
        rw [hW4]
        unfold OutAt
        rw [blk_put o3 j, bcs_set]
      have m4 : Mc W4 lo hi ⟨p, .slice an L.length cn, .slice ac C.length cc, vk, K, b⟩ L C (fun q => if q < j + 1 then zOf L C T' (t + 1) q else zOf L C T' t q) := (m3.but b4 (fun k k1 k2 e => hgn ⟨by rw [← show k = g from e]; exact k1, by rw [← show k = g from e]; exact k2⟩)).num (fun q _ => by
        by_cases e : q = j
        · subst e
          rw [if_pos rfl, if_pos (by omega)]
        · rw [if_neg e]
          by_cases e2 : q < j
          · show (if q < j then _ else _) = _
            rw [if_pos e2, if_pos (by omega)]
          · show (if q < j then _ else _) = _
            rw [if_neg e2, if_neg (by omega)])
      have bb : But (fun k => Rng lo hi k ∨ k = g) W2 W4 := (HV.out.2.2.1.trans (b3.mono (fun _ _ h => .inl h))).trans (b4.mono (fun _ _ h => .inr h))
      have HF := hideIt (And.intro m4 (And.intro o4 (And.intro bb hW4)))
      clear m3 b3 o3 b4 o4 m4 bb hW4 hgn
      go_wp2_with fail
      rw [← HF.out.2.2.2]
      go_roundw
      case rel =>
        refine ⟨j + 1, l.set j VJ, by omega, by go_num, HF.out.1, HF.out.2.1, by rw [List.length_set]; exact HV.out.1, fun q hq => ?_, HF.out.2.2.1⟩
        by_cases e : q = j
        · subst e
          rw [HVJ.out]
          simp [List.getD, HV.out.1, hjn]
        · have := HV.out.2.1 q (by omega)
          rw [← this]
          simp [List.getD, Ne.symm e]
      case measure => simp [intOf]; omega
    · have hjL : j = L.length := by omega
      have i1 : ¬ (j : Int) < (L.length : Int) := by omega
      have i5 : (L.length : Int) - 1 = (M : Int) := by have := HM.out.1; omega
      have i6 : (M : Int) < (L.length : Int) := by have := HM.out.1; omega
      have i7 : (0 : Int) ≤ (M : Int) := by omega
      have q0 := blk_cell og (bcs_at (i := M) (by rw [ll]; have := HM.out.1; omega))
      rw [vs M (by have := HM.out.1; omega)] at q0
      have q2 := blk_lt og
      have HF := hideIt (And.intro (mc.num (Z' := zOf L C T' (t + 1)) (fun q hq => by rw [if_pos (by omega)])) (And.intro bw (And.intro og hjL)))
      clear mc og vs bw ll
      obtain ⟨VM, hVM⟩ : ∃ VM, VM = val L C T' M t := ⟨_, rfl⟩
      rw [← hVM] at q0
      have HVM := hideIt hVM
      clear hVM
      go_wp2_with fail
      go_ret2
      refine ⟨ret_be HVM.out, HF.out.1, HS.out.2.2.1.but.then HF.out.2.1 (fun k hk e => ?_)⟩
      rcases e with e | e
      · exact e
      · have := HW.out.1
        omega
end Go.Proofs.Ythgmjeljjladhaa
