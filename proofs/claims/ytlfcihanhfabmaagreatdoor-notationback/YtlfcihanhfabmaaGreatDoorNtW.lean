/-
  The program's rootText and Text, walked.
-/
import Derived.Test.YtlfcihanhfabmaaGreatDoorNtV
namespace Go.Proofs.YtlfcihanhfabmaaGreatDoor
open Go.RowKit
set_option maxRecDepth 8000
open L1 (S)
/-- The texts, as far as they are made, and nothing behind. -/
def padT (L : List Nd) (j : Nat) : List W8 := txs L (L.take j) [] ++ List.replicate (L.length - j) []
theorem padT_length (L : List Nd) {j : Nat} (h : j ≤ L.length) : (padT L j).length = L.length := by
  unfold padT
  rw [List.length_append, txs_length, List.length_take, List.length_replicate]
  simp; omega
theorem padT_short (L : List Nd) (j : Nat) : ∀ t ∈ padT L j, t.length ≤ 1025 := fun t ht => by
  rcases List.mem_append.1 ht with h | h
  · exact txs_short L _ [] (fun t h => by cases h) t h
  · rw [(List.mem_replicate.1 h).2]; simp
theorem padT_set {L : List Nd} {j : Nat} {x : Nd} (hx : L[j]? = some x) (hok : okN x (j : Int) 8 = true) : (padT L j).set j ((nodeT L (padT L j) x).take 1025) = padT L (j + 1) := by
  have hj : j < L.length := by
    rcases Nat.lt_or_ge j L.length with h' | h'
    · exact h'
    · rw [List.getElem?_eq_none h'] at hx; cases hx
  have hlen : (txs L (L.take j) []).length = j := by rw [txs_length, List.length_take]; simp; omega
  have e1 : nodeT L (padT L j) x = nodeT L (txs L (L.take j) []) x := nodeT_pad hok (by omega)
  have e2 : L.take (j + 1) = L.take j ++ [x] := by rw [List.take_add_one, hx]; rfl
  rw [e1]
  unfold padT
  rw [e2, txs_snoc]
  have e3 : L.length - j = (L.length - (j + 1)) + 1 := by omega
  rw [e3, List.replicate_succ, List.set_append_right _ _ (by omega), hlen, Nat.sub_self, List.set_cons_zero, List.append_assoc]
  rfl
theorem padT_full (L : List Nd) : padT L L.length = txs L L [] := by
  unfold padT
  rw [List.take_of_length_le (Nat.le_refl _), Nat.sub_self]
  simp
set_option maxHeartbeats 1000000 in
theorem root_any (L : List Nd) (w : World) (hl : Laid w) (a : Option Addr) (c : Nat) (hr : NRow w a L.length L) (h0 : 0 < L.length) (h32 : L.length ≤ 32) (hok : okAll L 8 = true) :
    Calls Tryz.prog 23 #[.slice a L.length c] w fun e w' => e = .returned (.string (S (rootT L))) ∧ After w w' := by
  obtain ⟨n, hn⟩ : ∃ n, n = L.length := ⟨_, rfl⟩
  have HMk := hideIt (make_strs n (by omega) w)
  obtain ⟨W, hW⟩ : ∃ W, W = w.alloc (.cells (scs (List.replicate n [])) 9) := ⟨_, rfl⟩
  have aW : After w W := by rw [hW]; exact After.rfl.alloc _
  have hb : W.heap[w.heap.size]? = some (.cells (scs (padT L 0)) 9 (0, 0)) := by
    have : padT L 0 = List.replicate n [] := by unfold padT; rw [hn]; simp [txs]
    rw [hW, this]; exact heap_alloc_new w _
  have HW := hideIt (And.intro aW hb)
  have HR := hideIt hr
  have HN := hideIt hn
  have HK := hideIt hok
  have HL := hideIt hl
  have hmk : (Instr.makeSlice 51 (.int .i64 (n : Int)) (.int .i64 (n : Int))).run Tryz.prog w = .ok (.slice (some ⟨w.heap.size, 0, none⟩) n n) W := by rw [hW]; exact HMk.out
  obtain ⟨g, hg⟩ : ∃ g, g = w.heap.size := ⟨_, rfl⟩
  rw [← hg] at HW hmk
  have HG := hideIt hg
  have n1 : (0 : Int) < (n : Int) := by omega
  have n2 : (n : Int) ≤ 32 := by omega
  rw [← hn]
  clear HMk hW aW hb hr hok hl hn hg h0 h32
  go_enter Tryz.func23, Tryz.ntmps23
  go_wp2_with (simp only [hmk])
  go_loopw [12] (fun i wr => ∃ j : Nat, j ≤ n ∧ i = .int .i64 (j : Int) ∧ wr.heap[g]? = some (.cells (scs (padT L j)) 9 (0, 0)) ∧ But (One g) W wr) (fun i _ => n - (intOf i).toNat)
  case atStart => exact ⟨0, Nat.zero_le _, rfl, HW.out.2, But.rfl⟩
  case round =>
    obtain ⟨j, hj, rfl, hb, bw⟩ := hrel
    have HB := hideIt (And.intro hb bw)
    have aw : After w wr := HW.out.1.then bw (fun i hi e => by have := HG.out; have : i = g := e; omega)
    have HA := hideIt aw
    by_cases hjn : j < n
    · have i1 : (j : Int) < (n : Int) := by omega
      obtain ⟨bn, off, x, rfl, hbn, hx, q0, q1, q2, q3⟩ := nrow_at HR.out (i := j) (by have := HN.out; omega)
      have q0' := (aw.cell hbn _).trans q0
      have q1' := (aw.cell hbn _).trans q1
      have q2' := (aw.cell hbn _).trans q2
      have q3' := (aw.cell hbn _).trans q3
      have hlt : bn < wr.heap.size := Nat.lt_of_lt_of_le hbn aw.size
      have hok := okAll_at HK.out hx
      have hpl : (padT L j).length = n := by rw [HN.out]; exact padT_length L (by have := HN.out; omega)
      have hrw : ∀ W', After wr W' → GRow strE W' (some ⟨g, 0, none⟩) n (padT L j) := fun W' a' => by
        have := (scs_row hb).after a'
        rw [hpl] at this; exact this
      have HNd : Hid (∀ W', After wr W' → Calls Tryz.prog 43 #[.slice (some ⟨bn, off, none⟩) n c, .slice (some ⟨g, 0, none⟩) n n, x.val] W' fun e w' => e = .returned (.string (S (nodeT L (padT L j) x))) ∧ After W' w') := hideIt (fun W' a' => by
        have := node_any (L := L) (T := padT L j) W' (HL.out.on (aw.trans a')) (some ⟨bn, off, none⟩) (some ⟨g, 0, none⟩) c n (HR.out.after (aw.trans a')) (by rw [hpl]; exact hrw W' a') (padT_short L j) x j hok (by omega) (by have := HN.out; omega)
        rw [hpl, ← HN.out] at this
        exact this)
      unfold Nd.val at HNd
      have HP := hideIt (And.intro hx (And.intro hok hpl))
      clear bw hb hj aw q0 q1 q2 q3 hok hpl hrw hx
      go_wp2_with fail
      refine (HNd.out _ (After.rfl.alloc _)).mono ?_
      rintro e w2 ⟨rfl, a2⟩
      have a3 : After wr w2 := (After.rfl.alloc _).trans a2
      have hb2 : w2.heap[g]? = some (.cells (scs (padT L j)) 9 (0, 0)) := (a3.block g (blk_lt HB.out.1) (fun t => t)).trans HB.out.1
      have HA2 := hideIt (And.intro a3 hb2)
      obtain ⟨t, ht⟩ : ∃ t, t = nodeT L (padT L j) x := ⟨_, rfl⟩
      rw [← ht]
      have HT := hideIt ht
      have hs2 := blk_soft hb2 j
      have hlg := blk_lt hb2
      have hcj : ∃ u, w2.cell? ⟨g, j, none⟩ = some (.string (S u)) := ⟨(padT L j)[j]'(by rw [HP.out.2.2]; omega), blk_cell hb2 (scs_at (by simp))⟩
      obtain ⟨u, hcj⟩ := hcj
      clear a2 a3 hb2 ht
      obtain ⟨M, hM⟩ : ∃ M : Nat, M = min t.length 1025 := ⟨_, rfl⟩
      have m1 : min ((S t).size : Int) 1025 = (M : Int) := by rw [L1.S_size]; omega
      have m2 : (M : Int) ≤ ((S t).size : Int) := by rw [L1.S_size]; omega
      have m3 : (0 : Int) ≤ (M : Int) := by omega
      have HE : Hid ((S t).extract 0 M = S (t.take 1025)) := hideIt (by
        rw [S_extract, List.drop_zero, Nat.sub_zero, hM]
        congr 1
        rcases Nat.le_total t.length 1025 with h | h
        · rw [Nat.min_eq_left h, List.take_of_length_le (Nat.le_refl _), List.take_of_length_le h]
        · rw [Nat.min_eq_right h])
      clear hM
      go_wp2_with fail
      go_roundw
      case rel =>
        refine ⟨j + 1, by omega, by go_num, ?_, ?_⟩
        · rw [HE.out, blk_put HA2.out.2, scs_set, HT.out, padT_set HP.out.1 HP.out.2.1]
        · exact (HB.out.2.then HA2.out.1 (fun _ _ t => t.elim)).trans (but_one _ _ _ _)
      case measure => simp [intOf]; omega
    · have hjn' : j = n := by omega
      have i1 : ¬ (j : Int) < (n : Int) := by omega
      obtain ⟨t, ht⟩ : ∃ t, (padT L n)[n - 1]? = some t := by
        have hpl : (padT L n).length = n := by
          have := padT_length L (Nat.le_refl L.length)
          rw [← HN.out] at this; exact this
        exact ⟨(padT L n)[n - 1]'(by omega), by simp⟩
      rw [hjn'] at hb
      have c1 := blk_cell hb (scs_at ht)
      have hlg := blk_lt hb
      have e1 : (n : Int) - 1 = ((n - 1 : Nat) : Int) := by omega
      have e2 : (n - 1 : Nat) < n := by omega
      have e3 : ((n - 1 : Nat) : Int) < (n : Int) := by omega
      have HT : Hid (rootT L = t) := hideIt (by
        unfold rootT
        rw [← padT_full, ← HN.out]
        simp [ht])
      clear bw hb hj ht hjn'
      generalize n - 1 = q at *
      go_wp2_with fail
      go_ret
      exact ⟨by rw [HT.out]; rfl, HA.out⟩
theorem textA_any (L : List Nd) (w : World) (hl : Laid w) (a : Option Addr) (c : Nat) (hr : NRow w a L.length L) :
    Calls Tryz.prog 10 #[.slice a L.length c] w fun e w' => e = .returned (.tuple #[.string (S (textV L)), .int .i64 (textE L)]) ∧ After w w' := by
  have HC := hideIt (check_any L w a L.length c hr 8)
  by_cases hc : chk L 8 = 0
  · have hn : 0 < L.length ∧ L.length ≤ 32 ∧ okAll L 8 = true := by
      unfold chk at hc
      split at hc
      · omega
      split at hc
      · omega
      split at hc
      · omega
      split at hc
      · rename_i h; exact ⟨by omega, by omega, h⟩
      · omega
    have HR := hideIt (fun W (a1 : After w W) => root_any L W (hl.on a1) a c (hr.after a1) hn.1 hn.2.1 hn.2.2)
    rw [hc] at HC
    by_cases hlong : 1024 < (rootT L).length
    · have i1 : (1024 : Int) < ((S (rootT L)).size : Int) := by rw [L1.S_size]; omega
      have e1 : textV L = [] := by unfold textV; rw [if_pos hc, if_pos hlong]
      have e2 : textE L = 5 := by unfold textE; rw [if_pos hc, if_pos hlong]
      rw [e1, e2]
      clear hr hl hn hc hlong e1 e2
      generalize rootT L = t at *
      go_enter Tryz.func10, Tryz.ntmps10
      go_wp2_with fail
      refine HC.out.mono ?_
      rintro e w1 ⟨rfl, a1⟩
      have HA := hideIt a1
      clear a1
      go_wp2_with fail
      refine (HR.out _ HA.out).mono ?_
      rintro e w2 ⟨rfl, a2⟩
      have HA2 := hideIt (HA.out.trans a2)
      clear a2
      go_wp2
      go_ret2
      exact ⟨rfl, HA2.out⟩
    · have i1 : ¬ (1024 : Int) < ((S (rootT L)).size : Int) := by rw [L1.S_size]; omega
      have e1 : textV L = rootT L := by unfold textV; rw [if_pos hc, if_neg hlong]
      have e2 : textE L = 0 := by unfold textE; rw [if_pos hc, if_neg hlong]
      rw [e1, e2]
      clear hr hl hn hc hlong e1 e2
      generalize rootT L = t at *
      go_enter Tryz.func10, Tryz.ntmps10
      go_wp2_with fail
      refine HC.out.mono ?_
      rintro e w1 ⟨rfl, a1⟩
      have HA := hideIt a1
      clear a1
      go_wp2_with fail
      refine (HR.out _ HA.out).mono ?_
      rintro e w2 ⟨rfl, a2⟩
      have HA2 := hideIt (HA.out.trans a2)
      clear a2
      go_wp2
      go_ret2
      exact ⟨rfl, HA2.out⟩
  · have e1 : textV L = [] := by unfold textV; rw [if_neg hc]
    have e2 : textE L = chk L 8 := by unfold textE; rw [if_neg hc]
    rw [e1, e2]
    clear hr hl e1 e2
    generalize chk L 8 = E at *
    have hb : (E == 0) = false := by simpa using hc
    go_enter Tryz.func10, Tryz.ntmps10
    go_wp2_with fail
    refine HC.out.mono ?_
    rintro e w1 ⟨rfl, a1⟩
    have HA := hideIt a1
    clear a1
    go_wp2
    go_ret2
    exact ⟨rfl, HA.out⟩
end Go.Proofs.YtlfcihanhfabmaaGreatDoor
