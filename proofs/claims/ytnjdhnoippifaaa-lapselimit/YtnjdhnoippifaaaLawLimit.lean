/-
  LapseLimit.
-/
import Derived.Test.YtnjdhnoippifaaaLpW
import Derived.Deep.Cut
import Derived.Lib.MinMax
namespace Go.Proofs.Ytnjdhnoippifaaa
open Go.RowKit
set_option maxRecDepth 8000
/-- What the statement keeps as the last tick at which something was heard. -/
def lst (s : Ls) : Int := if s.any = true then s.last else -1
theorem lst_max {s : Ls} (h : s.Ok) : max (lst s) 0 = s.last := by
  unfold lst
  have h1 := h.lo
  cases e : s.any
  · have := h.none e
    simp
    omega
  · simp
    omega
/-- How it stands, way by way, as the statement looks at it: S, the last tick L, off, and D: how long ago. -/
theorem looks (s : Ls) (n : Nat) (t : Int) (h : s.Ok) (ho : s.any = false → s.off = false) (hf : s.last ≤ t) (h0 : 0 ≤ t) :
    (s.stands n t == 3) = decide ((n : Int) < t - s.last) ∧
    ((s.off = false ∧ lst s < 0 ∧ (lst s == t) = false ∧ (s.stands n t == 4) = false ∧ (s.stands n t == 0) = decide (t - s.last ≤ (n : Int)) ∧ (s.stands n t == 1) = false) ∨
     (s.off = false ∧ ¬ lst s < 0 ∧ (lst s == t) = false ∧ (s.stands n t == 4) = false ∧ (s.stands n t == 0) = false ∧ (s.stands n t == 1) = false) ∨
     (s.off = false ∧ ¬ lst s < 0 ∧ (lst s == t) = true ∧ (s.stands n t == 4) = false ∧ (s.stands n t == 0) = false ∧ (s.stands n t == 1) = true) ∨
     (s.off = true ∧ ¬ lst s < 0 ∧ (lst s == t) = false ∧ (s.stands n t == 4) = decide (t - s.last ≤ (n : Int)) ∧ (s.stands n t == 0) = false ∧ (s.stands n t == 1) = false) ∨
     (s.off = true ∧ ¬ lst s < 0 ∧ (lst s == t) = true ∧ (s.stands n t == 4) = decide (t - s.last ≤ (n : Int)) ∧ (s.stands n t == 0) = false ∧ (s.stands n t == 1) = false)) := by
  have hlo := h.lo
  unfold lst
  rcases s.stands_cases n t hf with ⟨h1, e⟩ | ⟨h1, h2, e⟩ | ⟨h1, h2, h3, h4, e⟩ | ⟨h1, h2, h3, h4, e⟩ | ⟨h1, h2, h3, h4, e⟩ | ⟨h1, h2, h3, h4, e⟩
  · rw [e]
    have d1 : decide ((n : Int) < t - s.last) = true := decide_eq_true h1
    have d2 : decide (t - s.last ≤ (n : Int)) = false := decide_eq_false (by omega)
    rw [d1, d2]
    refine ⟨rfl, ?_⟩
    cases ha : s.any
    · exact .inl ⟨ho ha, by simp, by simp; omega, rfl, rfl, rfl⟩
    · cases hb : s.off
      · exact .inr (.inl ⟨rfl, by simp; omega, by simp; omega, rfl, rfl, rfl⟩)
      · exact .inr (.inr (.inr (.inl ⟨rfl, by simp; omega, by simp; omega, rfl, rfl, rfl⟩)))
  all_goals
    rw [e]
    have d1 : decide ((n : Int) < t - s.last) = false := decide_eq_false h1
    have d2 : decide (t - s.last ≤ (n : Int)) = true := decide_eq_true (by omega)
    rw [d1, d2]
    refine ⟨rfl, ?_⟩
  · exact .inl ⟨ho h2, by simp [h2], by simp [h2]; omega, rfl, rfl, rfl⟩
  · exact .inr (.inr (.inr (.inr ⟨h3, by simp [h2]; omega, by simp [h2]; omega, rfl, rfl, rfl⟩)))
  · exact .inr (.inr (.inr (.inl ⟨h3, by simp [h2]; omega, by simp [h2]; omega, rfl, rfl, rfl⟩)))
  · exact .inr (.inr (.inl ⟨h3, by simp [h2]; omega, by simp [h2]; omega, rfl, rfl, rfl⟩))
  · exact .inr (.inl ⟨h3, by simp [h2]; omega, by simp [h2]; omega, rfl, rfl, rfl⟩)
set_option maxHeartbeats 4000000 in
theorem law_limit (w : World) (n : Int) (n1 : -9223372036854775808 ≤ n) (n2 : n ≤ 9223372036854775807) (a : Option Addr) (k c : Nat) (zs : List Stp) (hl : SRow w a k zs) (hzs : ∀ x ∈ zs, -9223372036854775808 ≤ x.tick ∧ x.tick ≤ 9223372036854775807) (hk : k ≤ 17592186043904) :
    Calls Try.prog 4 #[.int .i64 n, .slice a k c] w fun e w' => e = .returned (.bool true) ∧ After w w' := by
  have HL := hideIt (fun W (h : After w W) => may_any W a k c zs (hl.after h) hzs hk)
  have HW := hideIt (works_any w)
  have HB := hideIt (fun W => bring_any n 100 W n1 n2 (by omega) (by omega))
  have hbr := broughtTo_lt n (m := 100) (by omega)
  generalize broughtTo n 100 = r at *
  obtain ⟨N, hN⟩ : ∃ N : Nat, N = 1 + r := ⟨_, rfl⟩
  have hN' : 1 + (r : Int) = (N : Int) := by omega
  have r1 : (N : Int) ≤ 100 := by omega
  have r2 : (1 : Int) ≤ (N : Int) := by omega
  have HT := hideIt (fun W => lpNew_ok W (N : Int) (by unfold May; omega))
  have HT2 := hideIt (fun W => lp_new (w := W.alloc (.cells #[.int .i64 (N : Int), .bool false, .bool false, .int .i64 0] 43)) (p := W.heap.size) (n := N) (heap_alloc_new W _) (by omega) (by omega))
  clear hl hzs hk n1 n2 hbr hN
  go_enter Try.func4, Try.ntmps4
  go_wp2_with fail
  refine HW.out.mono ?_
  rintro e w1 ⟨rfl, a1⟩
  have A1 := hideIt a1
  clear HW a1
  go_wp2_with fail
  refine (HB.out _).mono ?_
  rintro e w' ⟨rfl, rfl⟩
  clear HB
  have HN := hideIt (HT.out w')
  have HX := hideIt (show After w (w'.alloc (.cells #[.int .i64 (N : Int), .bool false, .bool false, .int .i64 0] 43)) ∧ w.heap.size ≤ w'.heap.size ∧ LpX (w'.alloc (.cells #[.int .i64 (N : Int), .bool false, .bool false, .int .i64 0] 43)) w'.heap.size N Ls.new from ⟨A1.out.alloc _, A1.out.size, HT2.out w'⟩)
  clear HT HT2 A1
  generalize w'.alloc (.cells #[.int .i64 (N : Int), .bool false, .bool false, .int .i64 0] 43) = W2 at HN HX
  generalize w'.heap.size = p at *
  go_wp2_with fail
  refine HN.out.mono ?_
  rintro e w2 ⟨rfl, rfl⟩
  clear HN
  have HM := hideIt (HL.out w2 HX.out.1)
  clear HL
  go_wp2_with fail
  refine HM.out.mono ?_
  rintro e wl ⟨v, xs, rfl, own, ups, a2⟩
  obtain ⟨a', cc, rfl, hr, hB⟩ := own_srowB own
  have hxl : p < w2.heap.size := HX.out.2.2.lt
  have hS : ∀ i, i < xs.length → ∃ b off x, a' = some ⟨b, off, none⟩ ∧ xs[i]? = some x ∧ (∀ W, But (One p) wl W → W.cell? ⟨b, off + i * 3, none⟩ = some (.int .i64 x.tick) ∧ W.cell? ⟨b, off + i * 3 + 1, none⟩ = some (.bool x.off) ∧ W.cell? ⟨b, off + i * 3 + 2, none⟩ = some (.bool x.ask)) := fun i hi => hr.cellBut hB (fun k hk t => by have : k = p := t; omega) hi
  have HS := hideIt hS
  have HU := hideIt ups
  have X1 := hideIt (show Onq w wl p N Ls.new wl from ⟨HX.out.1.trans a2, But.rfl, HX.out.2.1, HX.out.2.2.after a2⟩)
  have m0 : (xs.length : Int) ≤ 300 := by have := ups.few; omega
  clear own ups a2 hr hB hxl hS HM HX
  obtain ⟨m, hm⟩ : ∃ m, m = xs.length := ⟨_, rfl⟩
  have HML := hideIt hm
  rw [← hm] at HS m0 ⊢
  clear hm
  go_wp2_with fail
  go_loopw [7, 8, 9, 10] (fun l q u i wr => ∃ (j : Nat) (s : Ls) (A : Int), j ≤ m + 1 ∧ l = .int .i64 (lst s) ∧ q = .bool s.off ∧ u = .int .i64 A ∧ i = .int .i64 j ∧ (s.any = false → s.off = false) ∧ s.last ≤ A ∧ 0 ≤ A ∧ (j ≤ m → A ≤ 12000) ∧ (∀ (i : Nat) (x : Stp), j ≤ i → xs[i]? = some x → A ≤ x.tick) ∧ Onq w wl p N s wr) (fun _ _ _ i _ => m + 1 - (intOf i).toNat)
  case atStart => exact ⟨0, Ls.new, 0, Nat.zero_le _, rfl, rfl, rfl, rfl, fun _ => rfl, Int.le_refl _, Int.le_refl _, fun _ => by omega, fun i x _ hx => HU.out.lo i x hx, X1.out⟩
  case round =>
    obtain ⟨j, s, A, hj, rfl, rfl, rfl, rfl, hoff, hA, hA0, hA1, hpast, x0⟩ := hrel
    clear X1
    by_cases hjm : j ≤ m
    · have i0 : (j : Int) ≤ (m : Int) := by omega
      have A1 := hA1 hjm
      have HO := hideIt hoff
      have HP := hideIt hpast
      have HOK := hideIt x0.a.ok
      have hsl := x0.a.ok.lo
      clear hA1 hoff hpast
      by_cases hjk : j < m
      · have i1 : (j : Int) < (m : Int) := by omega
        obtain ⟨b, off, x, rfl, hx, hc⟩ := HS.out j hjk
        obtain ⟨c0, c1, c2⟩ := hc wr x0.aft
        have t0 := HU.out.lo j x hx
        have t1 := HU.out.hi j x hx
        have t2 := HP.out j x (Nat.le_refl _) hx
        have hup : ∀ (i : Nat) (z : Stp), j + 1 ≤ i → xs[i]? = some z → x.tick ≤ z.tick := fun i z hi hz => HU.out.up j i x z (by omega) hx hz
        obtain ⟨t, o, ask⟩ := x
        dsimp only at c0 c1 c2 hc t0 t1 t2 hup
        have HC := hideIt hc
        have HUP := hideIt hup
        have X0 := hideIt x0
        clear hc hx hup x0
        go_wp2_with fail
        go_loopw [9] (fun u wr => ∃ A' : Int, u = .int .i64 A' ∧ A ≤ A' ∧ A' ≤ t ∧ Onq w wl p N s wr) (fun u _ => (t - intOf u).toNat)
        case atStart => exact ⟨A, rfl, Int.le_refl _, t2, X0.out⟩
        case round =>
          obtain ⟨A2, rfl, hA2, hA3, x2⟩ := hrel
          clear X0
          by_cases hlt : A2 < t
          · have hfit : s.Fits A2 := ⟨by omega, by omega⟩
            have HSt := hideIt (lpState_any x2.a A2)
            rw [Ls.ans_yes hfit, Ls.err_yes hfit] at HSt
            have hlk := looks s N A2 x2.a.ok HO.out (by omega) (by omega)
            have hmx := lst_max x2.a.ok
            have X2 := hideIt x2
            clear x2 hfit
            generalize s.stands N A2 = S at *
            generalize lst s = L at *
            generalize s.off = qo at *
            generalize s.last = Q at *
            obtain ⟨D, hD⟩ : ∃ D, D = A2 - Q := ⟨_, rfl⟩
            have hD' : A2 - Q = D := hD.symm
            rw [hD'] at hlk
            have d0 : 0 ≤ D := by omega
            have d1 : D ≤ 12200 := by omega
            clear hD
            obtain ⟨k3, hlk⟩ := hlk
            generalize hq3 : decide ((N : Int) < D) = q3 at *
            generalize hq4 : decide (D ≤ (N : Int)) = q4 at *
            rcases hlk with ⟨rfl, h3, h4, k4, k0, k1⟩ | ⟨rfl, h3, h4, k4, k0, k1⟩ | ⟨rfl, h3, h4, k4, k0, k1⟩ | ⟨rfl, h3, h4, k4, k0, k1⟩ | ⟨rfl, h3, h4, k4, k0, k1⟩
            all_goals
              go_wp2_with fail
              refine HSt.out.mono ?_
              rintro e w5 ⟨rfl, rfl⟩
              clear HSt
              go_wp2
              go_roundw
              case rel => exact ⟨A2 + 1, rfl, by omega, by omega, X2.out⟩
              case measure => simp [intOf]; omega
          · have hnl : ¬ A2 < t := hlt
            have HEQ := hideIt (show A2 = t by omega)
            obtain ⟨c0, c1, c2⟩ := HC.out _ x2.aft
            have hfit : s.Fits t := ⟨by omega, by omega⟩
            cases ask
            · obtain ⟨s', hs'⟩ : ∃ s', s' = s.hear t o := ⟨_, rfl⟩
              have HA := hideIt (fun W (h : Onq w wl p N s W) => h.ah t o)
              rw [← hs', Ls.err_yes hfit] at HA
              rw [Ls.hear_yes hfit] at hs'
              have HS' := hideIt (show lst s' = t ∧ s'.off = o ∧ s'.any = true ∧ s'.last = t by rw [hs']; exact ⟨rfl, rfl, rfl, rfl⟩)
              have X0 := hideIt x2
              clear x2 hs' hfit
              go_upto_region 22 with fail
              clear c0 c1 c2
              refine region_phase (by kernel_rfl) (fun i => ([(Ptr p), .slice (some ⟨b, off, none⟩) m cc, .int .i64 (j : Int), .pointer (some ⟨b, off + j * 3, none⟩), .pointer (some ⟨b, off + j * 3, none⟩), .int .i64 t, .slice (some ⟨b, off, none⟩) m cc, .int .i64 (j : Int), .pointer (some ⟨b, off + j * 3, none⟩), .pointer (some ⟨b, off + j * 3 + 1, none⟩), .bool o, .int .i64 0]).getD i undef) 120 12 (Ph1 11 (Onq w wl p N s) (Onq w wl p N s')) _ rfl rfl (Nat.le_of_ble_eq_true rfl) (.inl ⟨rfl, X0.out.after But.rfl.drew⟩) ?_ rfl rfl 8 rfl ?_
              · exact ⟨ph_move rfl rfl rfl rfl rfl (Ph1.keep (by decide)),
                  ph_move rfl rfl rfl rfl rfl (Ph1.keep (by decide)),
                  ph_move rfl rfl rfl rfl rfl (Ph1.keep (by decide)),
                  ph_index rfl rfl rfl rfl rfl rfl (fun w => indexS w _ _ _ _ _ i1) (Ph1.keep (by decide)),
                  ph_field rfl rfl rfl rfl rfl (fun w => fieldS0 w _ _) (Ph1.keep (by decide)),
                  ph_load rfl rfl rfl rfl rfl (fun L w h => loadI (h.any (fun x => (HC.out _ x.aft).1) (fun x => (HC.out _ x.aft).1))) (Ph1.keep (by decide)),
                  ph_move rfl rfl rfl rfl rfl (Ph1.keep (by decide)),
                  ph_move rfl rfl rfl rfl rfl (Ph1.keep (by decide)),
                  ph_index rfl rfl rfl rfl rfl rfl (fun w => indexS w _ _ _ _ _ i1) (Ph1.keep (by decide)),
                  ph_field rfl rfl rfl rfl rfl (fun w => fieldS1 w _ _) (Ph1.keep (by decide)),
                  ph_load rfl rfl rfl rfl rfl (fun L w h => loadB (h.any (fun x => (HC.out _ x.aft).2.1) (fun x => (HC.out _ x.aft).2.1))) (Ph1.keep (by decide)),
                  ph_call (vs := [(Ptr p), .int .i64 t, .bool o]) rfl rfl rfl rfl (enterP Try.func10 (by kernel_rfl) (by kernel_rfl)) rfl (fun L w hd hl h => (HA.out w (h.ahead hl)).mono (fun e w' q => ⟨q.1, Ph1.done _ q.2⟩)),
                  trivial⟩
              intro w6 L hL h K' hK'
              simp only [puts, List.getD_cons_succ, List.getD_cons_zero, List.setIfInBounds_toArray, List.set_cons_succ, List.set_cons_zero, Nat.reduceAdd]
              refine pw_bin rfl rfl rfl (neqE _ _ 0 _) (hK' _ _ ?_)
              have x6 := h.behind (hL 11 (by decide))
              clear h hL hK'
              simp only [Act.put, List.getElem_toArray, List.getElem_cons_succ, List.getElem_cons_zero, List.setIfInBounds_toArray, List.set_cons_succ, List.set_cons_zero]
              obtain ⟨c0, c1, c2⟩ := HC.out _ x6.aft
              have X6 := hideIt x6
              clear x6 X0 HA
              go_wp2
              go_roundw
              case rel => exact ⟨j + 1, s', A2, by omega, by rw [HS'.out.1], by rw [HS'.out.2.1], rfl, by go_num, (fun h => by rw [HS'.out.2.2.1] at h; cases h), by rw [HS'.out.2.2.2, HEQ.out]; exact Int.le_refl _, by omega, fun _ => by omega, fun i x hi hx => by rw [HEQ.out]; exact HUP.out i x hi hx, X6.out⟩
              case measure => simp [intOf]; omega
            · have X2 := hideIt x2
              clear x2 hfit
              go_wp2
              go_roundw
              case rel => exact ⟨j + 1, s, A2, by omega, rfl, rfl, rfl, by go_num, HO.out, by omega, by omega, fun _ => by omega, fun i x hi hx => by rw [HEQ.out]; exact HUP.out i x hi hx, X2.out⟩
              case measure => simp [intOf]; omega
      · obtain rfl : j = m := by omega
        have i1 : ¬ (j : Int) < (j : Int) := by omega
        have X0 := hideIt x0
        obtain ⟨T, hT⟩ : ∃ T : Int, T = A + 2 * (N : Int) := ⟨_, rfl⟩
        have hT' : A + 2 * (N : Int) = T := hT.symm
        have t1 : T ≤ 12200 := by omega
        have t2 : A ≤ T := by omega
        have t0 : 0 ≤ T := by omega
        clear x0 hT
        go_wp2_with fail
        go_loopw [9] (fun u wr => ∃ A' : Int, u = .int .i64 A' ∧ A ≤ A' ∧ A' ≤ T ∧ Onq w wl p N s wr) (fun u _ => (T - intOf u).toNat)
        case atStart => exact ⟨A, rfl, Int.le_refl _, t2, X0.out⟩
        case round =>
          obtain ⟨A2, rfl, hA2, hA3, x2⟩ := hrel
          clear X0
          by_cases hlt : A2 < T
          · have hfit : s.Fits A2 := ⟨by omega, by omega⟩
            have HSt := hideIt (lpState_any x2.a A2)
            rw [Ls.ans_yes hfit, Ls.err_yes hfit] at HSt
            have hlk := looks s N A2 x2.a.ok HO.out (by omega) (by omega)
            have hmx := lst_max x2.a.ok
            have X2 := hideIt x2
            clear x2 hfit
            generalize s.stands N A2 = S at *
            generalize lst s = L at *
            generalize s.off = qo at *
            generalize s.last = Q at *
            obtain ⟨D, hD⟩ : ∃ D, D = A2 - Q := ⟨_, rfl⟩
            have hD' : A2 - Q = D := hD.symm
            rw [hD'] at hlk
            have d0 : 0 ≤ D := by omega
            have d1 : D ≤ 12200 := by omega
            clear hD
            obtain ⟨k3, hlk⟩ := hlk
            generalize hq3 : decide ((N : Int) < D) = q3 at *
            generalize hq4 : decide (D ≤ (N : Int)) = q4 at *
            rcases hlk with ⟨rfl, h3, h4, k4, k0, k1⟩ | ⟨rfl, h3, h4, k4, k0, k1⟩ | ⟨rfl, h3, h4, k4, k0, k1⟩ | ⟨rfl, h3, h4, k4, k0, k1⟩ | ⟨rfl, h3, h4, k4, k0, k1⟩
            all_goals
              go_wp2_with fail
              refine HSt.out.mono ?_
              rintro e w5 ⟨rfl, rfl⟩
              clear HSt
              go_wp2
              go_roundw
              case rel => exact ⟨A2 + 1, rfl, by omega, by omega, X2.out⟩
              case measure => simp [intOf]; omega
          · have hnl : ¬ A2 < T := hlt
            have HEQ := hideIt (show A2 = T by omega)
            have X2 := hideIt x2
            clear x2
            go_wp2
            go_roundw
            case rel => exact ⟨j + 1, s, A2, by omega, rfl, rfl, rfl, by go_num, HO.out, by omega, by omega, fun h => absurd h (by omega), fun i x hi hx => absurd (List.getElem?_eq_some_iff.1 hx).1 (by have := HML.out; omega), X2.out⟩
            case measure => simp [intOf]
    · have i0 : ¬ (j : Int) ≤ (m : Int) := by omega
      have AF := hideIt x0.was
      clear x0 hoff hA1 hpast
      go_wp2
      go_ret
      exact ⟨rfl, AF.out⟩
end Go.Proofs.Ytnjdhnoippifaaa
