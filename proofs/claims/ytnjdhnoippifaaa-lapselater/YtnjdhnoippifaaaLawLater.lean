/-
  LapseLater.
-/
import Derived.Test.YtnjdhnoippifaaaLpW
import Derived.Deep.Cut
namespace Go.Proofs.Ytnjdhnoippifaaa
open Go.RowKit
set_option maxRecDepth 8000
set_option maxHeartbeats 4000000 in
theorem law_later (w : World) (n : Int) (n1 : -9223372036854775808 ≤ n) (n2 : n ≤ 9223372036854775807) (a : Option Addr) (k c : Nat) (zs : List Stp) (hl : SRow w a k zs) (hzs : ∀ x ∈ zs, -9223372036854775808 ≤ x.tick ∧ x.tick ≤ 9223372036854775807) (hk : k ≤ 17592186043904) (y : Int) (y1 : -9223372036854775808 ≤ y) (y2 : y ≤ 9223372036854775807) :
    Calls Try.prog 5 #[.int .i64 n, .slice a k c, .int .i64 y] w fun e w' => e = .returned (.bool true) ∧ After w w' := by
  have HL := hideIt (fun W (h : After w W) => may_any W a k c zs (hl.after h) hzs hk)
  have HW := hideIt (works_any w)
  have HB := hideIt (fun W => bring_any n 10000 W n1 n2 (by omega) (by omega))
  have HB2 := hideIt (fun W => bring_any y 1073741824 W y1 y2 (by omega) (by omega))
  have hbr := broughtTo_lt n (m := 10000) (by omega)
  have hbr2 := broughtTo_lt y (m := 1073741824) (by omega)
  generalize broughtTo n 10000 = r at *
  generalize broughtTo y 1073741824 = bn at *
  obtain ⟨B, hBB⟩ : ∃ B : Int, B = (bn : Int) := ⟨_, rfl⟩
  have b0 : 0 ≤ B := by omega
  have b1 : B ≤ 1073741824 := by omega
  rw [← hBB] at HB2
  obtain ⟨N, hN⟩ : ∃ N : Nat, N = 1 + r := ⟨_, rfl⟩
  have hN' : 1 + (r : Int) = (N : Int) := by omega
  have r1 : (N : Int) ≤ 10000 := by omega
  have HT := hideIt (fun W (h : After w W) => twin_new w W N h (by omega) (by omega))
  clear hl hzs hk n1 n2 y1 y2 hbr hbr2 hN hBB
  go_enter Try.func5, Try.ntmps5
  go_wp2_with fail
  refine HW.out.mono ?_
  rintro e w1 ⟨rfl, a1⟩
  obtain ⟨W1, W2, hn1, hn2, hx⟩ := HT.out w1 a1
  have HN1 := hideIt hn1
  have HN2 := hideIt hn2
  have HX := hideIt hx
  generalize w1.heap.size = p at *
  clear HW HT a1 hn1 hn2 hx
  go_wp2_with fail
  refine (HB.out _).mono ?_
  rintro e w' ⟨rfl, rfl⟩
  go_wp2_with fail
  refine (HB2.out _).mono ?_
  rintro e w' ⟨rfl, rfl⟩
  clear HB HB2
  go_wp2_with fail
  refine HN1.out.mono ?_
  rintro e w' ⟨rfl, rfl⟩
  go_wp2_with fail
  refine HN2.out.mono ?_
  rintro e w2 ⟨rfl, rfl⟩
  clear HN1 HN2
  have HM := hideIt (HL.out w2 HX.out.aft)
  clear HL
  go_wp2_with fail
  refine HM.out.mono ?_
  rintro e wl ⟨v, xs, rfl, own, ups, a2⟩
  obtain ⟨a', c1, rfl, hr, hB⟩ := own_srowB own
  have hxl : p + 1 < w2.heap.size := HX.out.b.lt
  have hS : ∀ i, i < xs.length → ∃ b off x, a' = some ⟨b, off, none⟩ ∧ xs[i]? = some x ∧ (∀ W, But (Two p (p + 1)) wl W → W.cell? ⟨b, off + i * 3, none⟩ = some (.int .i64 x.tick) ∧ W.cell? ⟨b, off + i * 3 + 1, none⟩ = some (.bool x.off) ∧ W.cell? ⟨b, off + i * 3 + 2, none⟩ = some (.bool x.ask)) := fun i hi => hr.cellBut hB (fun k hk t => by rcases t with t | t <;> omega) hi
  have HS := hideIt hS
  have HU := hideIt ups
  have X1 := hideIt (show Twq w wl p N Ls.new (shf Ls.new B) wl from ⟨HX.out.aft.trans a2, But.rfl, HX.out.wp, HX.out.a.after a2, HX.out.b.after a2⟩)
  have m0 : (xs.length : Int) ≤ 300 := by have := ups.few; omega
  clear own ups a2 hr hB hxl hS HM HX
  obtain ⟨m, hm⟩ : ∃ m, m = xs.length := ⟨_, rfl⟩
  rw [← hm] at HS m0 ⊢
  clear hm
  go_wp2_with fail
  go_loopw [11, 12] (fun q i wr => ∃ (j : Nat) (s : Ls), j ≤ m ∧ q = .bool s.any ∧ i = .int .i64 j ∧ (∀ (i : Nat) (x : Stp), j ≤ i → xs[i]? = some x → s.last ≤ x.tick) ∧ Twq w wl p N s (shf s B) wr) (fun _ i _ => m - (intOf i).toNat)
  case atStart => exact ⟨0, Ls.new, Nat.zero_le _, rfl, rfl, fun i x _ hx => HU.out.lo i x hx, X1.out⟩
  case round =>
    obtain ⟨j, s, hj, rfl, rfl, hpast, x0⟩ := hrel
    clear X1
    by_cases hjk : j < m
    · have i1 : (j : Int) < (m : Int) := by omega
      obtain ⟨b, off, x, rfl, hx, hc⟩ := HS.out j hjk
      obtain ⟨c0, c1', c2⟩ := hc wr x0.aft
      have t0 := HU.out.lo j x hx
      have t1 := HU.out.hi j x hx
      have t2 := hpast j x (Nat.le_refl _) hx
      have hup : ∀ (i : Nat) (z : Stp), j + 1 ≤ i → xs[i]? = some z → x.tick ≤ z.tick := fun i z hi hz => HU.out.up j i x z (by omega) hx hz
      have hp1 : ∀ (i : Nat) (z : Stp), j + 1 ≤ i → xs[i]? = some z → s.last ≤ z.tick := fun i z hi hz => hpast i z (by omega) hz
      obtain ⟨t, o, ask⟩ := x
      dsimp only at c0 c1' c2 hc t0 t1 t2 hup
      have HC := hideIt hc
      clear hc hx
      cases ask
      · obtain ⟨s', hs'⟩ : ∃ s', s' = s.hear t o := ⟨_, rfl⟩
        have hfit : s.Fits t := ⟨t2, by omega⟩
        have HA := hideIt (fun W (h : Twq w wl p N s (shf s B) W) => h.ah t o)
        have HBB := hideIt (fun W (h : Twq w wl p N s' (shf s B) W) => h.bh (t + B) o)
        rw [← hs', Ls.err_yes hfit] at HA
        rw [shf_hear t2 t0 t1 b0 b1, ← hs', Ls.err_yes (shf_fits t2 t0 t1 b0 b1)] at HBB
        rw [Ls.hear_yes hfit] at hs'
        have hany : s'.any = true := by rw [hs']
        have hlast : s'.last = t := by rw [hs']
        have fa : s'.Fits t := ⟨by omega, by omega⟩
        have fb : (shf s' B).Fits (t + B) := shf_fits (by omega) t0 t1 b0 b1
        have HP := hideIt (show ∀ (i : Nat) (z : Stp), j + 1 ≤ i → xs[i]? = some z → s'.last ≤ z.tick from fun i z hi hz => by rw [hlast]; exact hup i z hi hz)
        have X0 := hideIt x0
        clear x0 hs' hfit hup hp1 hpast t2
        go_upto_region 15 with fail
        clear c0 c1' c2
        refine region_phase (by kernel_rfl) (fun i => ([Ptr p, .slice (some ⟨b, off, none⟩) m c1, .int .i64 (j : Int), .pointer (some ⟨b, off + j * 3, none⟩), .pointer (some ⟨b, off + j * 3, none⟩), .int .i64 t, .slice (some ⟨b, off, none⟩) m c1, .int .i64 (j : Int), .pointer (some ⟨b, off + j * 3, none⟩), .pointer (some ⟨b, off + j * 3 + 1, none⟩), .bool o, .int .i64 0, .bool false, .bool false, Ptr (p + 1), .slice (some ⟨b, off, none⟩) m c1, .int .i64 (j : Int), .pointer (some ⟨b, off + j * 3, none⟩), .pointer (some ⟨b, off + j * 3, none⟩), .int .i64 t, .int .i64 B, .int .i64 (t + B), .slice (some ⟨b, off, none⟩) m c1, .int .i64 (j : Int), .pointer (some ⟨b, off + j * 3, none⟩), .pointer (some ⟨b, off + j * 3 + 1, none⟩), .bool o, .int .i64 0, .bool false]).getD i undef) 54 29 (Ph2 11 27 (Twq w wl p N s (shf s B)) (Twq w wl p N s' (shf s B)) (Twq w wl p N s' (shf s' B))) _ rfl rfl (Nat.le_of_ble_eq_true rfl) (.inl ⟨rfl, rfl, X0.out.after But.rfl.drew⟩) ?_ rfl rfl 12 rfl ?_
        · exact ⟨ph_move rfl rfl rfl rfl rfl (Ph2.keep (by decide) (by decide)),
            ph_move rfl rfl rfl rfl rfl (Ph2.keep (by decide) (by decide)),
            ph_move rfl rfl rfl rfl rfl (Ph2.keep (by decide) (by decide)),
            ph_index rfl rfl rfl rfl rfl rfl (fun w => indexS w _ _ _ _ _ i1) (Ph2.keep (by decide) (by decide)),
            ph_field rfl rfl rfl rfl rfl (fun w => fieldS0 w _ _) (Ph2.keep (by decide) (by decide)),
            ph_load rfl rfl rfl rfl rfl (fun L w h => loadI (h.any (fun x => (HC.out _ x.aft).1) (fun x => (HC.out _ x.aft).1) (fun x => (HC.out _ x.aft).1))) (Ph2.keep (by decide) (by decide)),
            ph_move rfl rfl rfl rfl rfl (Ph2.keep (by decide) (by decide)),
            ph_move rfl rfl rfl rfl rfl (Ph2.keep (by decide) (by decide)),
            ph_index rfl rfl rfl rfl rfl rfl (fun w => indexS w _ _ _ _ _ i1) (Ph2.keep (by decide) (by decide)),
            ph_field rfl rfl rfl rfl rfl (fun w => fieldS1 w _ _) (Ph2.keep (by decide) (by decide)),
            ph_load rfl rfl rfl rfl rfl (fun L w h => loadB (h.any (fun x => (HC.out _ x.aft).2.1) (fun x => (HC.out _ x.aft).2.1) (fun x => (HC.out _ x.aft).2.1))) (Ph2.keep (by decide) (by decide)),
            ph_call (vs := [Ptr p, .int .i64 t, .bool o]) rfl rfl rfl rfl (enterP Try.func10 (by kernel_rfl) (by kernel_rfl)) rfl (fun L w hd hl h => (HA.out w (h.first hl).1).mono (fun e w' q => ⟨q.1, Ph2.done1 (by decide) (h.first hl).2 q.2⟩)),
            ph_bin rfl rfl rfl rfl rfl rfl (fun w => neqE _ _ 0 w) (Ph2.keep (by decide) (by decide)),
            ph_move rfl rfl rfl rfl rfl (Ph2.keep (by decide) (by decide)),
            ph_move rfl rfl rfl rfl rfl (Ph2.keep (by decide) (by decide)),
            ph_move rfl rfl rfl rfl rfl (Ph2.keep (by decide) (by decide)),
            ph_move rfl rfl rfl rfl rfl (Ph2.keep (by decide) (by decide)),
            ph_index rfl rfl rfl rfl rfl rfl (fun w => indexS w _ _ _ _ _ i1) (Ph2.keep (by decide) (by decide)),
            ph_field rfl rfl rfl rfl rfl (fun w => fieldS0 w _ _) (Ph2.keep (by decide) (by decide)),
            ph_load rfl rfl rfl rfl rfl (fun L w h => loadI (h.any (fun x => (HC.out _ x.aft).1) (fun x => (HC.out _ x.aft).1) (fun x => (HC.out _ x.aft).1))) (Ph2.keep (by decide) (by decide)),
            ph_move rfl rfl rfl rfl rfl (Ph2.keep (by decide) (by decide)),
            ph_bin rfl rfl rfl rfl rfl rfl (fun w => addI _ _ _ _ t0 t1 b0 b1 w) (Ph2.keep (by decide) (by decide)),
            ph_move rfl rfl rfl rfl rfl (Ph2.keep (by decide) (by decide)),
            ph_move rfl rfl rfl rfl rfl (Ph2.keep (by decide) (by decide)),
            ph_index rfl rfl rfl rfl rfl rfl (fun w => indexS w _ _ _ _ _ i1) (Ph2.keep (by decide) (by decide)),
            ph_field rfl rfl rfl rfl rfl (fun w => fieldS1 w _ _) (Ph2.keep (by decide) (by decide)),
            ph_load rfl rfl rfl rfl rfl (fun L w h => loadB (h.any (fun x => (HC.out _ x.aft).2.1) (fun x => (HC.out _ x.aft).2.1) (fun x => (HC.out _ x.aft).2.1))) (Ph2.keep (by decide) (by decide)),
            ph_call (vs := [Ptr (p + 1), .int .i64 (t + B), .bool o]) rfl rfl rfl rfl (enterP Try.func10 (by kernel_rfl) (by kernel_rfl)) rfl (fun L w hd hl h => (HBB.out w (h.second (hd 11 rfl) hl)).mono (fun e w' q => ⟨q.1, Ph2.done2 (by decide) (hd 11 rfl) q.2⟩)),
            ph_bin rfl rfl rfl rfl rfl rfl (fun w => neqE _ _ 0 w) (Ph2.keep (by decide) (by decide)),
            trivial⟩
        intro w5 L hL h K' hK'
        simp only [puts, List.getD_cons_succ, List.getD_cons_zero, List.setIfInBounds_toArray, List.set_cons_succ, List.set_cons_zero, Nat.reduceAdd]
        refine pw_pick false rfl rfl (hK' _ _ ?_)
        have x5 := h.end (hL 27 (by decide))
        clear h hL hK' X0 HA HBB
        simp only [Act.put, List.getElem_toArray, List.getElem_cons_succ, List.getElem_cons_zero, List.setIfInBounds_toArray, List.set_cons_succ, List.set_cons_zero]
        obtain ⟨c0, c1', c2⟩ := HC.out _ x5.aft
        have HS1 := hideIt (lpState_any x5.a t)
        have HS2 := hideIt (lpState_any x5.b (t + B))
        rw [Ls.ans_yes fa, Ls.err_yes fa] at HS1
        rw [Ls.ans_yes fb, Ls.err_yes fb, shf_stands hany] at HS2
        have X5 := hideIt x5
        clear x5 fa fb
        generalize s'.stands N t = Z at *
        have hz : (Z != Z) = false := by simp
        have HANY := hideIt hany
        clear hany hlast
        go_wp2_with fail
        refine HS1.out.mono ?_
        rintro e w6 ⟨rfl, rfl⟩
        go_wp2_with fail
        refine HS2.out.mono ?_
        rintro e w6 ⟨rfl, rfl⟩
        clear HS1 HS2 c0 c1' c2
        go_wp2
        go_roundw
        case rel => exact ⟨j + 1, s', by omega, by rw [HANY.out], by go_num, HP.out, X5.out⟩
        case measure => simp [intOf]; omega
      · have fa : s.Fits t := ⟨t2, by omega⟩
        have fb : (shf s B).Fits (t + B) := shf_fits t2 t0 t1 b0 b1
        have HP := hideIt hp1
        have x5 := x0
        clear x0 hup hp1 hpast t2
        clear c0 c1' c2
        cases hany : s.any
        · obtain ⟨c0, c1', c2⟩ := HC.out _ x5.aft
          have HS1 := hideIt (lpState_any x5.a t)
          have HS2 := hideIt (lpState_any x5.b (t + B))
          rw [Ls.ans_yes fa, Ls.err_yes fa] at HS1
          rw [Ls.ans_yes fb, Ls.err_yes fb] at HS2
          have X5 := hideIt x5
          clear x5 fa fb
          generalize s.stands N t = Z at *
          generalize (shf s B).stands N (t + B) = Z2 at *
          have HANY := hideIt hany
          clear hany
          go_wp2_with fail
          refine HS1.out.mono ?_
          rintro e w6 ⟨rfl, rfl⟩
          go_wp2_with fail
          refine HS2.out.mono ?_
          rintro e w6 ⟨rfl, rfl⟩
          clear HS1 HS2 c0 c1' c2
          go_wp2
          go_roundw
          case rel => exact ⟨j + 1, s, by omega, by rw [HANY.out], by go_num, HP.out, X5.out⟩
          case measure => simp [intOf]; omega
        · obtain ⟨c0, c1', c2⟩ := HC.out _ x5.aft
          have HS1 := hideIt (lpState_any x5.a t)
          have HS2 := hideIt (lpState_any x5.b (t + B))
          rw [Ls.ans_yes fa, Ls.err_yes fa] at HS1
          rw [Ls.ans_yes fb, Ls.err_yes fb, shf_stands hany] at HS2
          have X5 := hideIt x5
          clear x5 fa fb
          generalize s.stands N t = Z at *
          have hz : (Z != Z) = false := by simp
          have HANY := hideIt hany
          clear hany
          go_wp2_with fail
          refine HS1.out.mono ?_
          rintro e w6 ⟨rfl, rfl⟩
          go_wp2_with fail
          refine HS2.out.mono ?_
          rintro e w6 ⟨rfl, rfl⟩
          clear HS1 HS2 c0 c1' c2
          go_wp2
          go_roundw
          case rel => exact ⟨j + 1, s, by omega, by rw [HANY.out], by go_num, HP.out, X5.out⟩
          case measure => simp [intOf]; omega
    · have i1 : ¬ (j : Int) < (m : Int) := by omega
      have AF := hideIt x0.was
      clear x0 hpast
      go_wp2
      go_ret
      exact ⟨rfl, AF.out⟩
end Go.Proofs.Ytnjdhnoippifaaa
