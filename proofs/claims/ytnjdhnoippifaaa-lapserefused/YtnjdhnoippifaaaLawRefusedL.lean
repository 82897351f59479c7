/-
  LapseRefused.
-/
import Derived.Test.YtnjdhnoippifaaaStpO
import Derived.Deep.Cut
namespace Go.Proofs.Ytnjdhnoippifaaa
open Go.RowKit
set_option maxRecDepth 8000
set_option maxHeartbeats 4000000 in
theorem law_refusedL (w : World) (n : Int) (n1 : -9223372036854775808 ≤ n) (n2 : n ≤ 9223372036854775807) (a : Option Addr) (k c : Nat) (zs : List Stp) (hl : SRow w a k zs) (hk : k ≤ 17592186043904) (tk : Int) :
    Calls Try.prog 6 #[.int .i64 n, .slice a k c, .int .i64 tk] w fun e w' => e = .returned (.bool true) ∧ After w w' := by
  have HL := hideIt hl
  have HW := hideIt (works_any w)
  have HB := hideIt (fun W => bring_any n 100 W n1 n2 (by omega) (by omega))
  have hbr := broughtTo_lt n (m := 100) (by omega)
  generalize broughtTo n 100 = r at *
  obtain ⟨N, hN⟩ : ∃ N : Nat, N = 1 + r := ⟨_, rfl⟩
  have hN' : 1 + (r : Int) = (N : Int) := by omega
  have k0 : (k : Int) ≤ 17592186043904 := by omega
  have r1 : (N : Int) ≤ 100 := by omega
  have HT := hideIt (fun W (h : After w W) => twin_new w W N h (by omega) (by omega))
  clear hl hk n1 n2 hbr hN
  go_enter Try.func6, Try.ntmps6
  go_wp2_with fail
  refine HW.out.mono ?_
  rintro e w1 ⟨rfl, a1⟩
  obtain ⟨W1, W2, hn1, hn2, hx⟩ := HT.out w1 a1
  have HN1 := hideIt hn1
  have HN2 := hideIt hn2
  have HX := hideIt hx
  generalize w1.heap.size = p at *
  clear HW HT a1 hn1 hn2 hx
  go_wp2_with fail
  refine (HB.out _).mono ?_
  rintro e w' ⟨rfl, rfl⟩
  clear HB
  go_wp2_with fail
  refine HN1.out.mono ?_
  rintro e w' ⟨rfl, rfl⟩
  go_wp2_with fail
  refine HN2.out.mono ?_
  rintro e w' ⟨rfl, rfl⟩
  clear HN1 HN2
  go_wp2_with fail
  go_loopw [11, 12] (fun l i wr => ∃ (j : Nat) (s : Ls), j ≤ k ∧ l = .int .i64 s.last ∧ i = .int .i64 j ∧ Twin w p N s s wr) (fun _ i _ => k - (intOf i).toNat)
  case atStart => exact ⟨0, Ls.new, Nat.zero_le _, rfl, rfl, HX.out⟩
  case round =>
    obtain ⟨j, s, hj, rfl, rfl, x0⟩ := hrel
    clear HX
    by_cases hjk : j < k
    · have i1 : (j : Int) < (k : Int) := by omega
      obtain ⟨b, off, x, rfl, hb, hx, hc⟩ := HL.out.cellAt hjk
      obtain ⟨c0, c1, c2⟩ := hc wr x0.aft
      obtain ⟨t, o, ask⟩ := x
      dsimp only at c0 c1 c2 hc
      have HC := hideIt hc
      have HS := hideIt (lpState_any x0.a t)
      have X0 := hideIt x0
      clear hc hx x0 hb
      go_wp2_with fail
      refine HS.out.mono ?_
      rintro e w3 ⟨rfl, rfl⟩
      clear HS
      cases ask
      · obtain ⟨s', hs'⟩ : ∃ s', s' = s.hear t o := ⟨_, rfl⟩
        have HA := hideIt (fun W (h : Twin w p N s s W) => h.ah t o)
        have HBB := hideIt (fun W (h : Twin w p N s' s W) => h.bh t o)
        rw [← hs'] at HA HBB
        rcases s.fits_cases t with h | ⟨h, h1⟩ | ⟨h, h1, h2⟩
        · rw [Ls.err_yes h] at HA HBB
          rw [Ls.hear_yes h] at hs'
          have HS' := hideIt (show s'.last = t by rw [hs'])
          have h1 : s.last ≤ t := h.1
          have h2 : t ≤ 2147483647 := h.2
          clear h hs'
          generalize s.last = L0 at *
          go_upto_region 14 with fail
          clear c0 c1 c2
          refine region_phase (by kernel_rfl) (fun i => ([(Ptr p), .slice (some ⟨b, off, none⟩) k c, .int .i64 (j : Int), .pointer (some ⟨b, off + j * 3, none⟩), .pointer (some ⟨b, off + j * 3, none⟩), .int .i64 t, .slice (some ⟨b, off, none⟩) k c, .int .i64 (j : Int), .pointer (some ⟨b, off + j * 3, none⟩), .pointer (some ⟨b, off + j * 3 + 1, none⟩), .bool o, .int .i64 0]).getD i undef) 58 12 (Ph1 11 (Twin w p N s s) (Twin w p N s' s)) _ rfl rfl (Nat.le_of_ble_eq_true rfl) (.inl ⟨rfl, X0.out.after But.rfl.drew⟩) ?_ rfl rfl 8 rfl ?_
          · exact ⟨ph_move rfl rfl rfl rfl rfl (Ph1.keep (by decide)),
              ph_move rfl rfl rfl rfl rfl (Ph1.keep (by decide)),
              ph_move rfl rfl rfl rfl rfl (Ph1.keep (by decide)),
              ph_index rfl rfl rfl rfl rfl rfl (fun w => indexS w _ _ _ _ _ i1) (Ph1.keep (by decide)),
              ph_field rfl rfl rfl rfl rfl (fun w => fieldS0 w _ _) (Ph1.keep (by decide)),
              ph_load rfl rfl rfl rfl rfl (fun L w h => loadI (h.any (fun x => (HC.out _ x.aft).1) (fun x => (HC.out _ x.aft).1))) (Ph1.keep (by decide)),
              ph_move rfl rfl rfl rfl rfl (Ph1.keep (by decide)),
              ph_move rfl rfl rfl rfl rfl (Ph1.keep (by decide)),
              ph_index rfl rfl rfl rfl rfl rfl (fun w => indexS w _ _ _ _ _ i1) (Ph1.keep (by decide)),
              ph_field rfl rfl rfl rfl rfl (fun w => fieldS1 w _ _) (Ph1.keep (by decide)),
              ph_load rfl rfl rfl rfl rfl (fun L w h => loadB (h.any (fun x => (HC.out _ x.aft).2.1) (fun x => (HC.out _ x.aft).2.1))) (Ph1.keep (by decide)),
              ph_call (vs := [(Ptr p), .int .i64 t, .bool o]) rfl rfl rfl rfl (enterP Try.func10 (by kernel_rfl) (by kernel_rfl)) rfl (fun L w hd hl h => (HA.out w (h.ahead hl)).mono (fun e w' q => ⟨q.1, Ph1.done _ q.2⟩)),
              trivial⟩
          intro w5 L hL h K' hK'
          simp only [puts, List.getD_cons_succ, List.getD_cons_zero, List.setIfInBounds_toArray, List.set_cons_succ, List.set_cons_zero, Nat.reduceAdd]
          refine pw_assign (v := .int .i64 0) rfl rfl (hK' _ _ ?_)
          have x5 := h.behind (hL 11 (by decide))
          clear h hL hK'
          simp only [Act.put, List.getElem_toArray, List.getElem_cons_succ, List.getElem_cons_zero, List.setIfInBounds_toArray, List.set_cons_succ, List.set_cons_zero]
          obtain ⟨c0, c1, c2⟩ := HC.out _ x5.aft
          have X5 := hideIt x5
          clear x5 HA X0
          go_upto_region 20 with fail
          clear c0 c1 c2
          refine region_phase (by kernel_rfl) (fun i => ([(Ptr (p + 1)), .slice (some ⟨b, off, none⟩) k c, .int .i64 (j : Int), .pointer (some ⟨b, off + j * 3, none⟩), .pointer (some ⟨b, off + j * 3, none⟩), .int .i64 t, .slice (some ⟨b, off, none⟩) k c, .int .i64 (j : Int), .pointer (some ⟨b, off + j * 3, none⟩), .pointer (some ⟨b, off + j * 3 + 1, none⟩), .bool o, .int .i64 0]).getD i undef) 103 12 (Ph1 11 (Twin w p N s' s) (Twin w p N s' s')) _ rfl rfl (Nat.le_of_ble_eq_true rfl) (.inl ⟨rfl, X5.out.after But.rfl.drew⟩) ?_ rfl rfl 8 rfl ?_
          · exact ⟨ph_move rfl rfl rfl rfl rfl (Ph1.keep (by decide)),
              ph_move rfl rfl rfl rfl rfl (Ph1.keep (by decide)),
              ph_move rfl rfl rfl rfl rfl (Ph1.keep (by decide)),
              ph_index rfl rfl rfl rfl rfl rfl (fun w => indexS w _ _ _ _ _ i1) (Ph1.keep (by decide)),
              ph_field rfl rfl rfl rfl rfl (fun w => fieldS0 w _ _) (Ph1.keep (by decide)),
              ph_load rfl rfl rfl rfl rfl (fun L w h => loadI (h.any (fun x => (HC.out _ x.aft).1) (fun x => (HC.out _ x.aft).1))) (Ph1.keep (by decide)),
              ph_move rfl rfl rfl rfl rfl (Ph1.keep (by decide)),
              ph_move rfl rfl rfl rfl rfl (Ph1.keep (by decide)),
              ph_index rfl rfl rfl rfl rfl rfl (fun w => indexS w _ _ _ _ _ i1) (Ph1.keep (by decide)),
              ph_field rfl rfl rfl rfl rfl (fun w => fieldS1 w _ _) (Ph1.keep (by decide)),
              ph_load rfl rfl rfl rfl rfl (fun L w h => loadB (h.any (fun x => (HC.out _ x.aft).2.1) (fun x => (HC.out _ x.aft).2.1))) (Ph1.keep (by decide)),
              ph_call (vs := [(Ptr (p + 1)), .int .i64 t, .bool o]) rfl rfl rfl rfl (enterP Try.func10 (by kernel_rfl) (by kernel_rfl)) rfl (fun L w hd hl h => (HBB.out w (h.ahead hl)).mono (fun e w' q => ⟨q.1, Ph1.done _ q.2⟩)),
              trivial⟩
          intro w6 L hL h K' hK'
          simp only [puts, List.getD_cons_succ, List.getD_cons_zero, List.setIfInBounds_toArray, List.set_cons_succ, List.set_cons_zero, Nat.reduceAdd]
          refine pw_bin rfl rfl rfl (neqE _ _ 0 _) (hK' _ _ ?_)
          have x6 := h.behind (hL 11 (by decide))
          clear h hL hK'
          simp only [Act.put, List.getElem_toArray, List.getElem_cons_succ, List.getElem_cons_zero, List.setIfInBounds_toArray, List.set_cons_succ, List.set_cons_zero]
          have X6 := hideIt x6
          clear x6 X5 HBB
          go_wp2
          go_roundw
          case rel => exact ⟨j + 1, s', by omega, by rw [HS'.out], by go_num, X6.out⟩
          case measure => simp [intOf]; omega
        · rw [Ls.err_no h] at HA
          rw [Ls.hear_no h] at hs'
          have HS' := hideIt hs'
          clear h hs' HBB
          have g1 : ¬ s.last ≤ t := by omega
          clear h1
          generalize hLL : s.last = L0 at *
          have HLL := hideIt hLL
          clear hLL
          go_upto_region 14 with fail
          clear c0 c1 c2
          refine region_phase (by kernel_rfl) (fun i => ([(Ptr p), .slice (some ⟨b, off, none⟩) k c, .int .i64 (j : Int), .pointer (some ⟨b, off + j * 3, none⟩), .pointer (some ⟨b, off + j * 3, none⟩), .int .i64 t, .slice (some ⟨b, off, none⟩) k c, .int .i64 (j : Int), .pointer (some ⟨b, off + j * 3, none⟩), .pointer (some ⟨b, off + j * 3 + 1, none⟩), .bool o, .int .i64 9]).getD i undef) 58 12 (Ph1 11 (Twin w p N s s) (Twin w p N s' s)) _ rfl rfl (Nat.le_of_ble_eq_true rfl) (.inl ⟨rfl, X0.out.after But.rfl.drew⟩) ?_ rfl rfl 8 rfl ?_
          · exact ⟨ph_move rfl rfl rfl rfl rfl (Ph1.keep (by decide)),
              ph_move rfl rfl rfl rfl rfl (Ph1.keep (by decide)),
              ph_move rfl rfl rfl rfl rfl (Ph1.keep (by decide)),
              ph_index rfl rfl rfl rfl rfl rfl (fun w => indexS w _ _ _ _ _ i1) (Ph1.keep (by decide)),
              ph_field rfl rfl rfl rfl rfl (fun w => fieldS0 w _ _) (Ph1.keep (by decide)),
              ph_load rfl rfl rfl rfl rfl (fun L w h => loadI (h.any (fun x => (HC.out _ x.aft).1) (fun x => (HC.out _ x.aft).1))) (Ph1.keep (by decide)),
              ph_move rfl rfl rfl rfl rfl (Ph1.keep (by decide)),
              ph_move rfl rfl rfl rfl rfl (Ph1.keep (by decide)),
              ph_index rfl rfl rfl rfl rfl rfl (fun w => indexS w _ _ _ _ _ i1) (Ph1.keep (by decide)),
              ph_field rfl rfl rfl rfl rfl (fun w => fieldS1 w _ _) (Ph1.keep (by decide)),
              ph_load rfl rfl rfl rfl rfl (fun L w h => loadB (h.any (fun x => (HC.out _ x.aft).2.1) (fun x => (HC.out _ x.aft).2.1))) (Ph1.keep (by decide)),
              ph_call (vs := [(Ptr p), .int .i64 t, .bool o]) rfl rfl rfl rfl (enterP Try.func10 (by kernel_rfl) (by kernel_rfl)) rfl (fun L w hd hl h => (HA.out w (h.ahead hl)).mono (fun e w' q => ⟨q.1, Ph1.done _ q.2⟩)),
              trivial⟩
          intro w5 L hL h K' hK'
          simp only [puts, List.getD_cons_succ, List.getD_cons_zero, List.setIfInBounds_toArray, List.set_cons_succ, List.set_cons_zero, Nat.reduceAdd]
          refine pw_assign (v := .int .i64 9) rfl rfl (hK' _ _ ?_)
          have x5 := h.behind (hL 11 (by decide))
          clear h hL hK'
          simp only [Act.put, List.getElem_toArray, List.getElem_cons_succ, List.getElem_cons_zero, List.setIfInBounds_toArray, List.set_cons_succ, List.set_cons_zero]
          obtain ⟨c0, c1, c2⟩ := HC.out _ x5.aft
          have X5 := hideIt x5
          clear x5 HA X0
          go_wp2
          go_roundw
          case rel => exact ⟨j + 1, s, by omega, by rw [HLL.out], by go_num, by have h := X5.out; rw [HS'.out] at h; exact h⟩
          case measure => simp [intOf]; omega
        · rw [Ls.err_no h] at HA
          rw [Ls.hear_no h] at hs'
          have HS' := hideIt hs'
          clear h hs' HBB
          have g1 : s.last ≤ t := by omega
          have g2 : ¬ t ≤ 2147483647 := by omega
          clear h1 h2
          generalize hLL : s.last = L0 at *
          have HLL := hideIt hLL
          clear hLL
          go_upto_region 14 with fail
          clear c0 c1 c2
          refine region_phase (by kernel_rfl) (fun i => ([(Ptr p), .slice (some ⟨b, off, none⟩) k c, .int .i64 (j : Int), .pointer (some ⟨b, off + j * 3, none⟩), .pointer (some ⟨b, off + j * 3, none⟩), .int .i64 t, .slice (some ⟨b, off, none⟩) k c, .int .i64 (j : Int), .pointer (some ⟨b, off + j * 3, none⟩), .pointer (some ⟨b, off + j * 3 + 1, none⟩), .bool o, .int .i64 9]).getD i undef) 58 12 (Ph1 11 (Twin w p N s s) (Twin w p N s' s)) _ rfl rfl (Nat.le_of_ble_eq_true rfl) (.inl ⟨rfl, X0.out.after But.rfl.drew⟩) ?_ rfl rfl 8 rfl ?_
          · exact ⟨ph_move rfl rfl rfl rfl rfl (Ph1.keep (by decide)),
              ph_move rfl rfl rfl rfl rfl (Ph1.keep (by decide)),
              ph_move rfl rfl rfl rfl rfl (Ph1.keep (by decide)),
              ph_index rfl rfl rfl rfl rfl rfl (fun w => indexS w _ _ _ _ _ i1) (Ph1.keep (by decide)),
              ph_field rfl rfl rfl rfl rfl (fun w => fieldS0 w _ _) (Ph1.keep (by decide)),
              ph_load rfl rfl rfl rfl rfl (fun L w h => loadI (h.any (fun x => (HC.out _ x.aft).1) (fun x => (HC.out _ x.aft).1))) (Ph1.keep (by decide)),
              ph_move rfl rfl rfl rfl rfl (Ph1.keep (by decide)),
              ph_move rfl rfl rfl rfl rfl (Ph1.keep (by decide)),
              ph_index rfl rfl rfl rfl rfl rfl (fun w => indexS w _ _ _ _ _ i1) (Ph1.keep (by decide)),
              ph_field rfl rfl rfl rfl rfl (fun w => fieldS1 w _ _) (Ph1.keep (by decide)),
              ph_load rfl rfl rfl rfl rfl (fun L w h => loadB (h.any (fun x => (HC.out _ x.aft).2.1) (fun x => (HC.out _ x.aft).2.1))) (Ph1.keep (by decide)),
              ph_call (vs := [(Ptr p), .int .i64 t, .bool o]) rfl rfl rfl rfl (enterP Try.func10 (by kernel_rfl) (by kernel_rfl)) rfl (fun L w hd hl h => (HA.out w (h.ahead hl)).mono (fun e w' q => ⟨q.1, Ph1.done _ q.2⟩)),
              trivial⟩
          intro w5 L hL h K' hK'
          simp only [puts, List.getD_cons_succ, List.getD_cons_zero, List.setIfInBounds_toArray, List.set_cons_succ, List.set_cons_zero, Nat.reduceAdd]
          refine pw_assign (v := .int .i64 9) rfl rfl (hK' _ _ ?_)
          have x5 := h.behind (hL 11 (by decide))
          clear h hL hK'
          simp only [Act.put, List.getElem_toArray, List.getElem_cons_succ, List.getElem_cons_zero, List.setIfInBounds_toArray, List.set_cons_succ, List.set_cons_zero]
          obtain ⟨c0, c1, c2⟩ := HC.out _ x5.aft
          have X5 := hideIt x5
          clear x5 HA X0
          go_wp2
          go_roundw
          case rel => exact ⟨j + 1, s, by omega, by rw [HLL.out], by go_num, by have h := X5.out; rw [HS'.out] at h; exact h⟩
          case measure => simp [intOf]; omega
      · go_wp2
        go_roundw
        case rel => exact ⟨j + 1, s, by omega, rfl, by go_num, X0.out⟩
        case measure => simp [intOf]; omega
    · have i1 : ¬ (j : Int) < (k : Int) := by omega
      have HSA := hideIt (lpState_any x0.a tk)
      have HSB := hideIt (lpState_any x0.b tk)
      have AF := hideIt x0.aft
      clear x0
      generalize s.err tk = Y at *
      generalize s.ans N tk = Z at *
      have hy : (Y == Y) = true := by simp
      have hz : (Z == Z) = true := by simp
      go_wp2_with fail
      refine HSA.out.mono ?_
      rintro e w3 ⟨rfl, rfl⟩
      go_wp2_with fail
      refine HSB.out.mono ?_
      rintro e w3 ⟨rfl, rfl⟩
      clear HSA HSB
      go_wp2
      go_ret
      exact ⟨rfl, AF.out⟩
end Go.Proofs.Ytnjdhnoippifaaa
