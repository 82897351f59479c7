/-
  FrameBack, walked.
-/
import Derived.Test.YtmdbpoknehafaaaJoins
namespace Go.Proofs.Ytmdbpoknehafaaa
open Go.RowKit
/-- The bytes that are no mark. -/
def plainOf (zs : List Int) : List Int := zs.filter (fun z => decide (z ≠ 126))
theorem plain_no (zs : List Int) : ∀ z ∈ plainOf zs, z ≠ 126 := fun z hz => by
  have := (List.mem_filter.1 hz).2
  simpa using this
theorem plain_le (zs : List Int) : (plainOf zs).length ≤ zs.length := List.length_filter_le _ _
theorem plain_bs {zs : List Int} (h : Bs zs) : Bs (plainOf zs) := fun z hz => h z (List.mem_filter.1 hz).1
theorem plain_more {zs : List Int} {k : Nat} (h : k < zs.length) : plainOf (zs.take (k + 1)) = plainOf (zs.take k) ++ (if zs.getD k 0 = 126 then [] else [zs.getD k 0]) := by
  rw [take_more h]
  unfold plainOf
  rw [List.filter_append]
  by_cases e : zs.getD k 0 = 126
  · rw [if_pos e, e]; rfl
  · rw [if_neg e]
    congr 1
    simp only [List.filter_cons, List.filter_nil]
    rw [if_pos (by simpa using e)]
/-- Some frames, one behind the other. -/
def wraps (gs : List (List Int)) : List Int := gs.flatMap wrapOf
theorem wraps_more (gs : List (List Int)) (f : List Int) : wraps (gs ++ [f]) = wraps gs ++ wrapOf f := by simp [wraps]
theorem wraps_fed : ∀ {gs : List (List Int)}, (∀ f ∈ gs, 1 ≤ f.length ∧ f.length ≤ 256) → frs (wraps gs) = gs ∧ drp (wraps gs) = 0 ∧ rst (wraps gs) = []
  | [], _ => fed_nil
  | f :: gs, h => by
    have e : wraps (f :: gs) = wrapOf f ++ wraps gs := by simp [wraps]
    obtain ⟨h1, h2⟩ := h f (List.mem_cons_self ..)
    obtain ⟨e1, e2, e3⟩ := wrap_fed h1 h2 (wraps gs)
    obtain ⟨f1, f2, f3⟩ := wraps_fed (gs := gs) (fun x hx => h x (List.mem_cons_of_mem _ hx))
    rw [e, e1, e2, e3, f1, f2, f3]
    exact ⟨rfl, rfl, rfl⟩
theorem back_fed {zs : List Int} {gs : List (List Int)} (h : ∀ f ∈ gs, 1 ≤ f.length ∧ f.length ≤ 256) : frs (plainOf zs ++ wraps gs) = gs ∧ drp (plainOf zs ++ wraps gs) = (plainOf zs).length ∧ rst (plainOf zs ++ wraps gs) = [] := by
  obtain ⟨e1, e2, e3⟩ := plain_fed (wraps gs) (plainOf zs) (plain_no zs)
  obtain ⟨f1, f2, f3⟩ := wraps_fed h
  rw [e1, e2, e3, f1, f2, f3]
  exact ⟨rfl, by omega, rfl⟩
theorem wrap_bs {z : List Int} (h : Bs z) (h2 : z.length ≤ 256) : Bs (wrapOf z) := by
  rw [wrap_two]
  exact Bs.append (Bs.append (zs := [126]) (bs_of _ (by decide)) (Bs.append (two_bs (by omega)) h)) (two_bs (sum16_lt (Bs.append (two_bs (by omega)) h)))
/-- Two owned rows of unlike elements lie apart. -/
theorem own_apart {w w2 : World} {B B' : Nat} {e e' : TypeId} {v u : Value} {n n' : Nat} {xs ys : List Value} (hne : e ≠ e') (h : w.ownsRow B e 1 v n xs) (k : w.ownsRow B' e' 1 u n' ys) (hg : But (fun j => u.ownBlock = some j) w w2) : w2.ownsRow B e 1 v n xs := by
  refine own_but h hg (fun j hj t => ?_)
  rcases h.2 with ⟨e1, _⟩ | ⟨g, cap, cur, e1, _, e3, _⟩
  · rw [e1] at hj; cases hj
  · rw [e1] at hj; cases hj
    rcases k.2 with ⟨f1, _⟩ | ⟨g2, cap2, cur2, f1, _, f3, _⟩
    · rw [f1] at t; cases t
    · rw [f1] at t; cases t
      rw [f3] at e3
      injection e3 with e3
      injection e3 with _ e4
      exact hne e4.symm
theorem But.of_grown {w w2 : World} {u : Value} (h : w.grownBy w2 u.ownBlock) : But (fun j => u.ownBlock = some j) w w2 := But.grown But.rfl h (fun _k hk _ => hk)
theorem grown_but {w W w2 : World} {e : TypeId} {sz n : Nat} {v : Value} {xs : List Value} (ha : After w W) (ho : W.ownsRow w.heap.size e sz v n xs) (hg : But (fun j => v.ownBlock = some j) W w2) : After w w2 :=
  ha.then hg (fun i hi t => by have := (ho.lt i t).1; omega)
set_option maxRecDepth 100000 in
set_option maxHeartbeats 4000000 in
theorem back_walk (a : Option Addr) (n c : Nat) (fs : List (List Int)) (a' : Option Addr) (n' c' : Nat) (zs : List Int) (w : World) (h : Lst w a n fs) (hn : n ≤ 140737488355328) (hr : Row w a' n' zs) (_ha : a' = none → n' = 0 ∧ c' = 0) (hn' : n' ≤ 140737488351232) :
    Calls Try.prog 7 #[.slice a n c, .slice a' n' c'] w fun e w' => e = .returned (.bool true) ∧ After w w' := by
  obtain ⟨i0, hi, hz0, hz1, hz2⟩ := info_parts Try.info5
  have HL := hideIt h
  have HR := hideIt hr
  have HZL := hideIt hr.1
  have HZB := hideIt hr.2.1
  clear h hr _ha
  go_enter Try.func7, Try.ntmps7
  go_wp2_with fail
  refine (awake_any _).mono ?_
  rintro e w1 ⟨rfl, a1⟩
  have A1 := hideIt a1
  have S1 : w.heap.size ≤ w1.heap.size := a1.size
  clear a1
  go_wp2_with fail
  go_loopw [5, 6] (fun v i W => ∃ (k m : Nat), k ≤ n' ∧ i = .int .i64 k ∧ m = (plainOf (zs.take k)).length ∧ W.ownsRow w1.heap.size 5 1 v m (u8s (plainOf (zs.take k))) ∧ After w1 W) (fun _ i _ => n' - (intOf i).toNat)
  case atStart => exact ⟨0, 0, by omega, rfl, rfl, World.ownsRow_nil _ _ _ _, After.rfl⟩
  case round =>
    obtain ⟨k, m, hk, rfl, hm, ho, hA⟩ := hrel
    by_cases hlt : k < n'
    · obtain ⟨b, off, x, rfl, hb, lx, hx, cx⟩ := (HR.out.after (A1.out.trans hA)).at hlt
      have hmk : m ≤ k := by
        have h1 := plain_le (zs.take k)
        rw [List.length_take] at h1
        omega
      have hmore := plain_more (zs := zs) (k := k) (by have := HZL.out; omega)
      rw [hx] at hmore
      have hki : (k : Int) < (n' : Int) := by omega
      have HO := hideIt ho
      have HA := hideIt hA
      have HMK := hideIt hm
      by_cases e126 : x = 126
      · subst e126
        rw [if_pos (by decide), List.append_nil] at hmore
        have HM := hideIt hmore
        clear ho hA hm hmore hx
        go_wp2
        go_roundw
        case rel => exact ⟨k + 1, m, by omega, by go_num, by rw [HM.out]; exact HMK.out, by rw [HM.out]; exact HO.out, HA.out⟩
        case measure => simp [intOf]; omega
      · rw [if_neg (by omega)] at hmore
        have HM := hideIt hmore
        have hxi : ¬ (x : Int) = 126 := by omega
        have HBX := hideIt (show Bs [(x : Int)] from bs_of _ (by simp; omega))
        have HNW := hideIt (row_news (lit_row wr [(x : Int)] #[.int .u8 x] 1 rfl rfl HBX.out))
        have HO1 := hideIt (ho.alloc (.cells #[.int .u8 x] 5))
        have HA1 := hideIt (hA.alloc (.cells #[.int .u8 x] 5))
        clear ho hA hm hmore hx
        go_wp2_with (at_builtin; refine wpList_append_own _ rfl (.tmp 29) (.tmp 34) 27 rfl w1.heap.size 5 i0 (.int .u8 0) 1 1 Try.underlying27 hi hz0 hz1 hz2 rfl (by decide) _ m _ rfl HO1.out _ 1 1 (u8s [(x : Int)]) rfl rfl HNW.out (u8s_one _) (by unfold maxLen; omega) (by omega) HA1.out.size ?_; intro v2 w2 hown hgrow hnil; rw [u8s_append, ← HM.out] at hown; have HO2 := hideIt hown; have HA2 := hideIt (grown_after HA1.out HO1.out hgrow); clear hown hgrow hnil)
        go_roundw
        case rel => exact ⟨k + 1, m + 1, by omega, by go_num, by rw [HM.out, List.length_append, HMK.out]; rfl, HO2.out, HA2.out⟩
        case measure => simp [intOf]; omega
    · obtain rfl : k = n' := by omega
      rw [show zs.take k = zs by rw [← HZL.out, List.take_length]] at ho hm
      have hmk : m ≤ 140737488351232 := by
        have h1 := plain_le zs
        have h2 := HZL.out
        omega
      have HO := hideIt ho
      have HA := hideIt hA
      have HMK := hideIt hm
      obtain ⟨p5, q5, rfl⟩ := own_slice ho
      obtain ⟨PZ, hPZ⟩ : ∃ PZ, PZ = plainOf zs := ⟨_, rfl⟩
      rw [← hPZ] at HO HMK
      have HPZ := hideIt hPZ
      clear ho hA hm hPZ
      obtain ⟨wc, hwc⟩ : ∃ wc, wc = wr := ⟨_, rfl⟩
      rw [← hwc] at HO HA ⊢
      clear hwc
      go_wp2_with fail
      go_loopw [5, 8, 9] (fun v u i W => ∃ (k m2 : Nat) (gs : List (List Int)) (xs : List Value), k ≤ n ∧ k ≤ 12 ∧ i = .int .i64 k ∧ (∀ f ∈ gs, 1 ≤ f.length ∧ f.length ≤ 256) ∧ gs.length ≤ k ∧ m2 = m + (wraps gs).length ∧ m2 ≤ m + k * 261 ∧ W.ownsRow w1.heap.size 5 1 v m2 (u8s (PZ ++ wraps gs)) ∧ Bs (PZ ++ wraps gs) ∧ W.ownsRow w1.heap.size 27 1 u gs.length xs ∧ Each (RowB w) xs gs ∧ After w1 W) (fun _ _ i _ => 12 - (intOf i).toNat)
      case atStart => exact ⟨0, m, [], [], by omega, by omega, rfl, (fun f hf => by cases hf), by simp, by simp [wraps], by omega, by rw [show wraps [] = [] from rfl, List.append_nil]; exact HO.out, by rw [show wraps [] = [] from rfl, List.append_nil, HPZ.out]; exact plain_bs HZB.out, World.ownsRow_nil _ _ _ _, Each.nil _, HA.out⟩
      case round =>
        obtain ⟨k2, m2, gs, xs, hk2, hk12, rfl, hgs, hgl, hm2, hm3, ho, hbs, hw, hea, hA⟩ := hrel
        have HOA := hideIt ho
        have HOW := hideIt hw
        have HEA := hideIt hea
        have HA2 := hideIt hA
        have HBS := hideIt hbs
        have HGS := hideIt hgs
        have HM2 := hideIt hm2
        obtain ⟨pv, qv, rfl⟩ := own_slice ho
        obtain ⟨pu, qu, rfl⟩ := own_slice hw
        have hAw : After w wr := A1.out.trans hA
        by_cases hlt : k2 < n
        · by_cases hl12 : k2 < 12
          · obtain ⟨b, off, p1, q1, rfl, g1, e0, r1, n1, l1, m1⟩ := HL.out.at hlt
            have e1 : wr.cell? ⟨b, off + k2, none⟩ = some (.slice p1 (fs.getD k2 []).length q1) := by rw [hAw.cell g1]; exact e0
            obtain ⟨z, hz⟩ : ∃ z, z = fs.getD k2 [] := ⟨_, rfl⟩
            rw [← hz] at e0 e1 r1 n1 l1 m1
            have HWR := hideIt (wrap_any p1 z.length q1 z wr (r1.after hAw) n1 m1)
            have RB := hideIt (show RowB w (.slice p1 z.length q1) z from ⟨p1, q1, rfl, r1, n1, l1, m1⟩)
            have HZZ := hideIt r1.2.1
            have E0 := hideIt e0
            have AW := hideIt hAw
            have hki : (k2 : Int) < (n : Int) := by omega
            have hk12i : (k2 : Int) < 12 := by omega
            clear ho hw hea hA hbs hgs hm2 r1 n1 l1 e0 hz hAw
            go_wp2_with fail
            refine HWR.out.mono ?_
            rintro e w4 ⟨v4, rfl, o4, a4⟩
            have e4 : w4.cell? ⟨b, off + k2, none⟩ = some (.slice p1 z.length q1) := by rw [(AW.out.trans a4).cell g1]; exact E0.out
            by_cases hgood : 1 ≤ z.length ∧ z.length ≤ 256
            · rw [(wErr_zero z).2 hgood]
              rw [show wNew z = wrapOf z by unfold wNew; rw [if_pos hgood], wrap_length] at o4
              obtain ⟨p4, q4, rfl⟩ := own_slice o4
              have O4 := hideIt o4
              have OA4 := hideIt (own_after HOA.out a4)
              have OW4 := hideIt (own_after HOW.out (a4.alloc (.cells #[.slice p1 z.length q1] 27)))
              have A4 := hideIt (HA2.out.trans a4)
              have HNW := hideIt (World.news_of_block (heap_alloc_new w4 (.cells #[.slice p1 z.length q1] 27)))
              have HGOOD := hideIt hgood
              have HGL := hideIt hgl
              obtain ⟨L, hL⟩ : ∃ L, L = z.length := ⟨_, rfl⟩
              have HLL := hideIt hL
              rw [← hL] at hgood e4 e1 O4 OW4 HNW m1 RB ⊢
              have hL1 : (1 : Int) ≤ (L : Int) := by omega
              have hL2 : (L : Int) ≤ 256 := by omega
              have OAX := hideIt (OA4.out.alloc (.cells #[.slice p1 L q1] 27))
              have O4X := hideIt (O4.out.alloc (.cells #[.slice p1 L q1] 27))
              have A4X := hideIt (A4.out.alloc (.cells #[.slice p1 L q1] 27))
              have hgl2 : (gs.length + 1) * 24 ≤ 140737488355328 := by omega
              have hm4 : m2 + (L + 5) ≤ 140737488355328 := by omega
              have hm5 : m2 + (L + 5) ≤ m + (k2 + 1) * 261 := by omega
              have HBW := hideIt (wrap_bs HZZ.out (by omega))
              obtain ⟨j0, hj, hy0, hy1, hy2⟩ := info_parts Try.info27
              clear o4 a4 HWR HOA HOW HA2 hL e1
              go_wp2_with (first
                | (at_builtin; refine wpList_append_own _ rfl (.tmp 84) (.tmp 89) 22 rfl w1.heap.size 27 j0 (.slice none 0 0) 1 24 Try.underlying22 hj hy0 hy1 hy2 rfl (by decide) _ gs.length xs rfl OW4.out _ 1 1 [.slice p1 L q1] rfl rfl HNW.out (by simp [Value.oneCell']) (by unfold maxLen; omega) hgl2 A4X.out.size ?_; intro v6 w6 hown hgrow hnil; have OW6 := hideIt hown; have OA6 := hideIt (own_apart (by decide) OAX.out OW4.out (But.of_grown hgrow)); have O46 := hideIt (own_apart (by decide) O4X.out OW4.out (But.of_grown hgrow)); have A6 := hideIt (grown_but A4X.out OW4.out (But.of_grown hgrow)); obtain ⟨pw, qw, ew, rw1, rw2, _, _⟩ := own_row O46.out HBW.out; cases ew; have RW := hideIt rw1; have NW := hideIt rw2; obtain ⟨p6, q6, rfl⟩ := own_slice hown; clear hown hgrow hnil rw1 rw2)
                | (at_builtin; refine app_row rfl (.tmp 91) (.tmp 92) rfl w1.heap.size _ m2 (PZ ++ wraps gs) rfl OA6.out p4 (L + 5) q4 (wrapOf z) rfl RW.out NW.out hm4 A6.out.size ?_; intro v7 w7 hown hgrow; have OA7 := hideIt hown; have OW7 := hideIt (own_apart (by decide) OW6.out OA6.out hgrow); have A7 := hideIt (grown_but A6.out OA6.out hgrow); clear hown hgrow))
              go_roundw
              case rel =>
                refine ⟨k2 + 1, m2 + (L + 5), gs ++ [z], xs ++ [.slice p1 L q1], by omega, by omega, by go_num, fun f hf => ?_, by simp; exact HGL.out, ?_, hm5, ?_, ?_, by rw [List.length_append]; exact OW7.out, HEA.out.append (Each.one (by rw [HLL.out] at RB ⊢; exact RB.out)), A7.out⟩
                · rcases List.mem_append.1 hf with e | e
                  · exact HGS.out f e
                  · rw [List.mem_singleton.1 e]; exact HGOOD.out
                · rw [wraps_more, List.length_append, wrap_length, HM2.out, HLL.out]; omega
                · rw [wraps_more, ← List.append_assoc]; exact OA7.out
                · rw [wraps_more, ← List.append_assoc]; exact HBS.out.append HBW.out
              case measure => simp [intOf]; omega
            · have hen : wErr z ≠ 0 := fun h => hgood ((wErr_zero z).1 h)
              rw [show wNew z = [] by unfold wNew; rw [if_neg hgood]] at o4
              obtain ⟨p4, q4, rfl⟩ := own_slice o4
              rw [show ([] : List Int).length = 0 from rfl] at o4 ⊢
              have OA4 := hideIt (own_after HOA.out a4)
              have OW4 := hideIt (own_after HOW.out a4)
              have A4 := hideIt (HA2.out.trans a4)
              obtain ⟨L, hL⟩ : ∃ L, L = z.length := ⟨_, rfl⟩
              rw [← hL] at hgood e4 e1 m1 ⊢
              have HGL := hideIt hgl
              have hei : ¬ ((wErr z : Nat) : Int) = 0 := by omega
              have hebq : (((wErr z : Nat) : Int) == 0) = false := by simpa using hen
              generalize wErr z = er at *
              have hLL : L < 1 ∨ 256 < L := by omega
              clear o4 a4 HWR HOA HOW HA2 hL e1 hgood RB
              rcases hLL with hLL | hLL
              · obtain rfl : L = 0 := by omega
                go_wp2
                go_roundw
                case rel => exact ⟨k2 + 1, m2, gs, xs, by omega, by omega, by go_num, HGS.out, by have := HGL.out; omega, HM2.out, by omega, OA4.out, HBS.out, OW4.out, HEA.out, A4.out⟩
                case measure => simp [intOf]; omega
              · have hLi : ¬ (L : Int) ≤ 256 := by omega
                have hLj : (1 : Int) ≤ (L : Int) := by omega
                go_wp2
                go_roundw
                case rel => exact ⟨k2 + 1, m2, gs, xs, by omega, by omega, by go_num, HGS.out, by have := HGL.out; omega, HM2.out, by omega, OA4.out, HBS.out, OW4.out, HEA.out, A4.out⟩
                case measure => simp [intOf]; omega
          · have hk12i : ¬ (k2 : Int) < 12 := by omega
            obtain ⟨f1, f2, f3⟩ := back_fed (zs := zs) hgs
            rw [← HPZ.out] at f1 f2 f3
            have hgb : ∀ f ∈ gs, f.length ≤ 140737488355328 := fun f hf => by have := hgs f hf; omega
            have hm6 : m2 ≤ 140737488355328 := by omega
            have F1 := hideIt f1
            have F3 := hideIt f3
            have HGB := hideIt hgb
            have HMB := hideIt hm6
            have hF2 : drp (PZ ++ wraps gs) = m := by rw [f2]; exact HMK.out.symm
            have F2 := hideIt hF2
            have HGL := hideIt (show gs.length ≤ 12 by omega)
            clear ho hw hea hA hbs hgs hm2 f1 f2 f3 hgb hF2 hAw
            go_wp2_with fail
            refine (new_any _).mono ?_
            rintro e w4 ⟨rfl, d4, a4⟩
            have hG : w1.heap.size ≤ wr.heap.size := HA2.out.size
            have A4 := hideIt (HA2.out.trans a4)
            have D4 := hideIt d4
            have OW4 := hideIt (own_after HOW.out a4)
            obtain ⟨pv', qv', ev, rv, nv, _, _⟩ := own_row (own_after HOA.out a4) HBS.out
            cases ev
            obtain ⟨g, hg⟩ : ∃ g, g = wr.heap.size := ⟨_, rfl⟩
            rw [← hg] at D4 hG ⊢
            have HG := hideIt hG
            have HW0 := hideIt (show ∀ i, pu.isSome = true → (.slice pu gs.length qu : Value).ownBlock = some i → i ≠ g from fun i _ hi => by have := (HOW.out.lt i hi).2; omega)
            have HF := hideIt (feed_any w4 g g [] pv m2 qv (PZ ++ wraps gs) D4.out rv nv (by simp; omega) (by rw [List.nil_append, F1.out]; have := HGL.out; omega))
            rw [List.nil_append, F1.out, F2.out, F3.out] at HF
            clear d4 a4 rv nv HOA HOW HA2 D4 hg hG
            go_wp2_with fail
            refine HF.out.mono ?_
            rintro e w5 ⟨v5, h5, rfl, f5, d5, _, b5⟩
            have A5 := hideIt ((A1.out.trans A4.out).then b5 (fun i hi t => by have t2 : i = g := t; have := HG.out; omega))
            have D5 := hideIt d5
            have ow5 := own_but OW4.out b5 (fun i hi t => by
              have t2 : i = g := t
              refine HW0.out i ?_ hi t2
              cases pu with
              | none => cases hi
              | some y => rfl)
            obtain ⟨pa, qa, rfl, la⟩ := (f5.gat HGB.out).lst
            obtain ⟨pb, qb, eb, lb⟩ := Gat.lst (show Gat w5 w1.heap.size (.slice pu gs.length qu) gs from ⟨xs, ow5, HEA.out.mono (fun x f e => e.after A5.out)⟩)
            cases eb
            have HSA := hideIt (same_any pa pu gs.length qa qu gs w5 la lb (by have := HGL.out; omega))
            obtain ⟨N, hN⟩ : ∃ N, N = gs.length := ⟨_, rfl⟩
            rw [← hN] at HSA ⊢
            clear ow5 la lb f5 d5 b5 HF OW4 A4 hN HW0
            go_wp2_with fail
            refine HSA.out.mono ?_
            rintro e w6 ⟨rfl, a6⟩
            have D6 := hideIt (D5.out.after a6)
            have A6 := hideIt (A5.out.trans a6)
            clear a6 HSA D5 A5
            go_wp2_with fail
            refine (pending_any _ _ _ _ D6.out).mono ?_
            rintro e w7 ⟨rfl, rfl⟩
            go_wp2
            go_ret
            exact ⟨rfl, A6.out⟩
        · have hki : ¬ (k2 : Int) < (n : Int) := by omega
          obtain ⟨f1, f2, f3⟩ := back_fed (zs := zs) hgs
          rw [← HPZ.out] at f1 f2 f3
          have hgb : ∀ f ∈ gs, f.length ≤ 140737488355328 := fun f hf => by have := hgs f hf; omega
          have hm6 : m2 ≤ 140737488355328 := by omega
          have F1 := hideIt f1
          have F3 := hideIt f3
          have HGB := hideIt hgb
          have HMB := hideIt hm6
          have hF2 : drp (PZ ++ wraps gs) = m := by rw [f2]; exact HMK.out.symm
          have F2 := hideIt hF2
          have HGL := hideIt (show gs.length ≤ 12 by omega)
          clear ho hw hea hA hbs hgs hm2 f1 f2 f3 hgb hF2 hAw
          go_wp2_with fail
          refine (new_any _).mono ?_
          rintro e w4 ⟨rfl, d4, a4⟩
          have hG : w1.heap.size ≤ wr.heap.size := HA2.out.size
          have A4 := hideIt (HA2.out.trans a4)
          have D4 := hideIt d4
          have OW4 := hideIt (own_after HOW.out a4)
          obtain ⟨pv', qv', ev, rv, nv, _, _⟩ := own_row (own_after HOA.out a4) HBS.out
          cases ev
          obtain ⟨g, hg⟩ : ∃ g, g = wr.heap.size := ⟨_, rfl⟩
          rw [← hg] at D4 hG ⊢
          have HG := hideIt hG
          have HW0 := hideIt (show ∀ i, pu.isSome = true → (.slice pu gs.length qu : Value).ownBlock = some i → i ≠ g from fun i _ hi => by have := (HOW.out.lt i hi).2; omega)
          have HF := hideIt (feed_any w4 g g [] pv m2 qv (PZ ++ wraps gs) D4.out rv nv (by simp; omega) (by rw [List.nil_append, F1.out]; have := HGL.out; omega))
          rw [List.nil_append, F1.out, F2.out, F3.out] at HF
          clear d4 a4 rv nv HOA HOW HA2 D4 hg hG
          go_wp2_with fail
          refine HF.out.mono ?_
          rintro e w5 ⟨v5, h5, rfl, f5, d5, _, b5⟩
          have A5 := hideIt ((A1.out.trans A4.out).then b5 (fun i hi t => by have t2 : i = g := t; have := HG.out; omega))
          have D5 := hideIt d5
          have ow5 := own_but OW4.out b5 (fun i hi t => by
            have t2 : i = g := t
            refine HW0.out i ?_ hi t2
            cases pu with
            | none => cases hi
            | some y => rfl)
          obtain ⟨pa, qa, rfl, la⟩ := (f5.gat HGB.out).lst
          obtain ⟨pb, qb, eb, lb⟩ := Gat.lst (show Gat w5 w1.heap.size (.slice pu gs.length qu) gs from ⟨xs, ow5, HEA.out.mono (fun x f e => e.after A5.out)⟩)
          cases eb
          have HSA := hideIt (same_any pa pu gs.length qa qu gs w5 la lb (by have := HGL.out; omega))
          obtain ⟨N, hN⟩ : ∃ N, N = gs.length := ⟨_, rfl⟩
          rw [← hN] at HSA ⊢
          clear ow5 la lb f5 d5 b5 HF OW4 A4 hN HW0
          go_wp2_with fail
          refine HSA.out.mono ?_
          rintro e w6 ⟨rfl, a6⟩
          have D6 := hideIt (D5.out.after a6)
          have A6 := hideIt (A5.out.trans a6)
          clear a6 HSA D5 A5
          go_wp2_with fail
          refine (pending_any _ _ _ _ D6.out).mono ?_
          rintro e w7 ⟨rfl, rfl⟩
          go_wp2
          go_ret
          exact ⟨rfl, A6.out⟩
end Go.Proofs.Ytmdbpoknehafaaa
