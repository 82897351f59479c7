/-
  AlarmNever.
-/
import Derived.Test.YthggkpmhcdmalaaAlH
namespace Go.Proofs.Ythggkpmhcdmalaa
open Go.RowKit
set_option maxRecDepth 8000
/-- What is owed and what was so last, beside an alarm. -/
def Nev (w : World) (p : Nat) (S : Sp) (o t : Bool) (W : World) : Prop := ∃ x, Wk w W p S x ∧ (S.la = true → o = x.due) ∧ t = x.so
/-- What the phase is, by what is owed and what was so last. -/
theorem nev_ways {S : Sp} {x : As} {o t : Bool} (h : S.Stands x) (h1 : S.la = true → o = x.due) (h2 : t = x.so) :
    (S.la = true ∧ x.ph = 0 ∧ o = false ∧ t = false) ∨ (S.la = true ∧ x.ph = 1 ∧ o = true ∧ t = true) ∨ (S.la = true ∧ x.ph = 2 ∧ o = false ∧ t = true) ∨ (S.la = true ∧ x.ph = 3 ∧ o = true ∧ t = false) ∨ (S.la = false ∧ x.ph = 0 ∧ t = false) ∨ (S.la = false ∧ x.ph = 1 ∧ t = true) ∨ (S.la = false ∧ x.ph = 2 ∧ t = true) := by
  have hp := h.ph
  unfold As.due at h1
  unfold As.so at h2
  cases hl : S.la
  · rcases hp with e | e | e | e <;> rw [e] at h2 <;> subst h2 <;> simp [e]
    rcases h.2.2 with q | q | q | q
    · omega
    · omega
    · omega
    · rw [hl] at q; exact absurd q.2.1 (by decide)
  · have h1 := h1 hl
    rcases hp with e | e | e | e <;> rw [e] at h1 h2 <;> subst h1 h2 <;> simp [e]
theorem nev_ways0 {S : Sp} {x : As} {t : Bool} (h : S.Stands x) (h1 : S.la = true → false = x.due) (h2 : t = x.so) :
    (S.la = true ∧ x.ph = 0 ∧ t = false) ∨ (S.la = true ∧ x.ph = 2 ∧ t = true) ∨ (S.la = false ∧ x.ph = 0 ∧ t = false) ∨ (S.la = false ∧ x.ph = 1 ∧ t = true) ∨ (S.la = false ∧ x.ph = 2 ∧ t = true) := by
  rcases nev_ways h h1 h2 with ⟨a, b, c, d⟩ | ⟨a, b, c, d⟩ | ⟨a, b, c, d⟩ | ⟨a, b, c, d⟩ | h | h | h
  · exact .inl ⟨a, b, d⟩
  · cases c
  · exact .inr (.inl ⟨a, b, d⟩)
  · cases c
  · exact .inr (.inr (.inl h))
  · exact .inr (.inr (.inr (.inl h)))
  · exact .inr (.inr (.inr (.inr h)))
theorem told_take {l : List Int} {m : Nat} (h : m < l.length) (q : Bool) : told (l.take (m + 1)) q = (told (l.take m) q || decide (l.getD m 0 = 1)) := by
  unfold told
  rw [List.take_succ_eq_append_getElem h, List.foldl_append]
  simp [h]
set_option maxHeartbeats 4000000 in
theorem law_never18 (w : World) (s : Sp) (hs : s.In) (a : Option Addr) (n c : Nat) (xs : List Dd) (hr : DdRow w a n xs) (hx : ∀ d ∈ xs, d.In) (hn : n ≤ 5864062014634) :
    Calls Try.prog 4 #[s.v, .slice a n c] w fun e w' => e = .returned (.bool true) ∧ After w w' := by
  have HR := hideIt hr
  have HX := hideIt hx
  have hn' : (n : Int) ≤ 5864062014634 := by omega
  clear hr hx
  have HW := hideIt (fun V => works_any V)
  have HS := hideIt (fun V => spec_any V s hs)
  have HM := hideIt (spc_may s)
  unfold Sp.v at HS
  generalize spc s = S at *
  obtain ⟨w0, hw0⟩ : ∃ w0, w0 = w.alloc (.cells s.cs 23) := ⟨_, rfl⟩
  have h0 : w0.heap[w.heap.size]? = some (.cells s.cs 23 (0, 0)) := by rw [hw0]; exact heap_alloc_new w _
  have A0 := hideIt (show After w w0 by rw [hw0]; exact After.rfl.alloc _)
  have H0 := hideIt h0
  clear hs h0
  go_enter Try.func4, Try.ntmps4
  go_wp2_with fail
  rw [← hw0]
  clear hw0
  refine (HW.out _).mono ?_
  rintro e w1 ⟨rfl, a1⟩
  obtain ⟨c0, c1, c2⟩ := spec_at H0.out a1
  have A1 := hideIt a1
  clear a1 HW
  go_wp2_with fail
  refine (HS.out _).mono ?_
  rintro e w2 ⟨rfl, a2⟩
  clear c0 c1 c2 HS
  have hb := ((A1.out.trans a2).block w.heap.size (blk_lt H0.out) (fun t => t)).trans H0.out
  have z0 := blk_cell (i := 0) (v := .int .i64 s.pr) hb rfl
  have z1 := blk_cell (i := 1) (v := .bool s.la) hb rfl
  have z2 := blk_cell (i := 2) (v := .int .i64 s.es) hb rfl
  have y0 := blk_soft hb 0
  have y1 := blk_soft hb 1
  have y2 := blk_soft hb 2
  obtain ⟨w3, hw3⟩ : ∃ w3, w3 = ((w2.setCell ⟨w.heap.size, 0, none⟩ (.int .i64 S.pr)).setCell ⟨w.heap.size, 1, none⟩ (.bool S.la)).setCell ⟨w.heap.size, 2, none⟩ (.int .i64 S.es) := ⟨_, rfl⟩
  have h3 : w3.heap[w.heap.size]? = some (.cells S.cs 23 (0, 0)) := by rw [hw3]; exact blk_put (blk_put (blk_put hb 0 _) 1 _) 2 _
  have W3 := hideIt (show After w w3 by
    rw [hw3]
    have a : After w w2 := A0.out.trans (A1.out.trans a2)
    exact ((After.set a ⟨w.heap.size, 0, none⟩ (Nat.le_refl _) _).set ⟨w.heap.size, 1, none⟩ (Nat.le_refl _) _).set ⟨w.heap.size, 2, none⟩ (Nat.le_refl _) _)
  have BX := hideIt (fun V (a : After w3 V) => spec_at h3 a)
  have HN := hideIt (wk_new w3 S HM.out)
  clear a2 hb h3 A0 A1 H0
  go_wp2_with fail
  rw [← hw3]
  clear hw3 z0 z1 z2 y0 y1 y2
  refine HN.out.mono ?_
  rintro e w4 ⟨p, rfl, x4⟩
  have X := hideIt x4
  clear x4 HN
  go_wp2_with fail
  go_loopw [7, 8, 9] (fun o t i wr => ∃ (ob tb : Bool) (j : Nat), o = .bool ob ∧ t = .bool tb ∧ i = .int .i64 j ∧ j ≤ n ∧ Nev w3 p S ob tb wr) (fun _ _ i _ => n - (intOf i).toNat)
  case atStart => exact ⟨false, false, 0, rfl, rfl, rfl, Nat.zero_le _, As.zero, X.out, fun _ => rfl, rfl⟩
  case round =>
    obtain ⟨ob, tb, j, rfl, rfl, rfl, hj, x, wk, ho, ht⟩ := hrel
    have WK := hideIt wk
    have HO := hideIt (And.intro ho ht)
    clear wk ho ht X
    by_cases hjn : j < n
    · have i1 : (j : Int) < (n : Int) := by omega
      obtain ⟨b, off, d, rfl, hb, hd, hce⟩ := HR.out.cellAt hjn
      have hdi : d.In := HX.out d (List.mem_of_getElem? hd)
      have HC := hideIt hce
      obtain ⟨c0, c1, c2⟩ := hce _ (W3.out.trans WK.out.aft)
      have HD := hideIt (do_any WK.out.al d hdi)
      have HB := hideIt (fun V => bring3 d.k V hdi.1 hdi.2.1)
      have kd := broughtTo_lt d.k (m := 3) (by omega)
      have HQ := hideIt (show (doE S x d).length ≤ 2 from doE_few S x d)
      have DE : Hid ((broughtTo d.k 3 = 0 → doE S x d = stE S x d.act ∧ doS S x d = stS S x d.act) ∧ (broughtTo d.k 3 = 1 → doS S x d = akS x) ∧ (broughtTo d.k 3 = 2 → ∃ m, doS S x d = psS x m)) := by
        refine ⟨fun e => ?_, fun e => ?_, fun e => ⟨d.ps, ?_⟩⟩
        · unfold doE doS; rw [if_pos e, if_pos e]; exact ⟨rfl, rfl⟩
        · unfold doS; rw [if_neg (by unfold Dd.kd; omega), if_pos e]
        · unfold doS; rw [if_neg (by unfold Dd.kd; omega), if_neg (by unfold Dd.kd; omega)]
      have ST := hideIt (do_stands WK.out.al.may WK.out.al.st d)
      have STX := hideIt WK.out.al.st
      clear hce hdi hd
      generalize doS S x d = x' at *
      generalize doE S x d = ev at *
      generalize broughtTo d.k 3 = B at *
      go_wp2_with fail
      refine HD.out.mono ?_
      rintro e w5 ⟨v, rfl, own, x5, b5⟩
      obtain ⟨ea, ec, rfl, ir, -, -, -⟩ := own_irow own
      have W5 := hideIt (WK.out.put x5 b5)
      have IR := hideIt ir
      have HT := hideIt (state_any x5)
      clear own x5 b5 ir HD c0 c1 c2
      go_wp2_with fail
      refine HT.out.mono ?_
      rintro e w6 ⟨rfl, a6⟩
      have W6 := hideIt (W5.out.after a6)
      have I6 := hideIt (IR.out.after a6)
      clear a6 HT IR W5
      obtain ⟨c0, c1, c2⟩ := HC.out _ (W3.out.trans W6.out.aft)
      obtain ⟨b0, b1, b2⟩ := BX.out _ W6.out.aft
      unfold As.v
      have hfi : ∀ w, (Instr.field 25 (.agg #[.int .i64 x'.ph, .int .i64 x'.pr, .int .i64 x'.si, .int .i64 x'.pa]) 0).run Try.prog w = .ok (.int .i64 x'.ph) w := fun _ => by kernel_rfl
      go_wp2_with fail
      refine (HB.out _).mono ?_
      rintro e w7 ⟨rfl, rfl⟩
      clear HB hfi
      rcases (by omega : B = 0 ∨ B = 1 ∨ B = 2) with rfl | rfl | rfl
      · obtain ⟨de, ds⟩ := DE.out.1 rfl
        have ho' : S.la = true → told ev ob = x'.due := fun hl => by rw [de, ds, st_due hl STX.out, HO.out.1 hl]
        have ht' : d.act = x'.so := by rw [ds, st_so STX.out]
        have REL := hideIt (show Nev w3 p S (told ev ob) d.act w7 from ⟨x', W6.out, ho', ht'⟩)
        have NW := nev_ways ST.out ho' ht'
        have NWH := hideIt NW
        clear NW ho' ht' de ds DE kd
        go_wp2_with fail
        go_loopw [7, 13] (fun o k wr => ∃ (m : Nat), m ≤ ev.length ∧ k = .int .i64 m ∧ o = .bool (told (ev.take m) ob) ∧ wr = w7) (fun _ k _ => ev.length - (intOf k).toNat)
        case atStart => exact ⟨0, Nat.zero_le _, rfl, rfl, rfl⟩
        case round =>
          obtain ⟨m, hm, rfl, rfl, rfl⟩ := hrel
          have k0 : (ev.length : Int) ≤ 2 := by have := HQ.out; omega
          by_cases hml : m < ev.length
          · have i2 : (m : Int) < (ev.length : Int) := by omega
            obtain ⟨eb, eo, rfl, hlt, e1⟩ := I6.out.cellAt hml
            have TT := hideIt (told_take hml ob)
            cases hq : told (ev.take m) ob
            · rw [hq] at TT
              have HQ2 := hideIt (show (ev.getD m 0 == 1) = decide (ev.getD m 0 = 1) by rw [Bool.beq_eq_decide_eq])
              generalize ev.getD m 0 = z at *
              have hz := HQ2.out
              clear hq
              generalize decide (z = 1) = zb at *
              go_wp2
              go_roundw
              case rel => exact ⟨m + 1, by omega, by go_num, by rw [TT.out]; rfl, trivial⟩
              case measure => simp [intOf]; omega
            · rw [hq] at TT
              clear hq e1
              go_wp2
              go_roundw
              case rel => exact ⟨m + 1, by omega, by go_num, by rw [TT.out]; rfl, trivial⟩
              case measure => simp [intOf]; omega
          · obtain rfl : m = ev.length := by omega
            have i2 : ¬ ((ev.length : Nat) : Int) < (ev.length : Int) := by omega
            rw [List.take_length]
            have NW := NWH.out
            clear NWH
            generalize told ev ob = ob' at *
            generalize d.act = tb' at *
            generalize x'.ph = ph at *
            rcases NW with ⟨hla, hq, ho, ht⟩ | ⟨hla, hq, ho, ht⟩ | ⟨hla, hq, ho, ht⟩ | ⟨hla, hq, ho, ht⟩ | ⟨hla, hq, ht⟩ | ⟨hla, hq, ht⟩ | ⟨hla, hq, ht⟩
            all_goals
              subst hq ht
              try subst ho
              rw [hla] at b1
              clear hla
              go_wp2
              go_roundw
              case rel => exact ⟨_, _, j + 1, rfl, rfl, by go_num, by omega, REL.out⟩
              case measure => simp [intOf]; omega
      · have ds := DE.out.2.1 rfl
        have ho' : S.la = true → false = x'.due := fun hl => by rw [ds, ak_due STX.out.ph]
        have ht' : tb = x'.so := by rw [ds, ak_so STX.out.ph, HO.out.2]
        have REL := hideIt (show Nev w3 p S false tb w7 from ⟨x', W6.out, ho', ht'⟩)
        have NW := nev_ways0 ST.out ho' ht'
        clear ho' ht' ds DE kd
        generalize x'.ph = ph at *
        rcases NW with ⟨hla, hq, ht⟩ | ⟨hla, hq, ht⟩ | ⟨hla, hq, ht⟩ | ⟨hla, hq, ht⟩ | ⟨hla, hq, ht⟩
        all_goals
          subst hq ht
          rw [hla] at b1
          clear hla
          go_wp2
          go_roundw
          case rel => exact ⟨_, _, j + 1, rfl, rfl, by go_num, by omega, REL.out⟩
          case measure => simp [intOf]; omega
      · obtain ⟨m, ds⟩ := DE.out.2.2 rfl
        have ho' : S.la = true → ob = x'.due := fun hl => by rw [ds, ps_due, HO.out.1 hl]
        have ht' : tb = x'.so := by rw [ds, ps_so, HO.out.2]
        have REL := hideIt (show Nev w3 p S ob tb w7 from ⟨x', W6.out, ho', ht'⟩)
        have NW := nev_ways ST.out ho' ht'
        clear ho' ht' ds DE kd
        generalize x'.ph = ph at *
        rcases NW with ⟨hla, hq, ho, ht⟩ | ⟨hla, hq, ho, ht⟩ | ⟨hla, hq, ho, ht⟩ | ⟨hla, hq, ho, ht⟩ | ⟨hla, hq, ht⟩ | ⟨hla, hq, ht⟩ | ⟨hla, hq, ht⟩
        all_goals
          subst hq ht
          try subst ho
          rw [hla] at b1
          clear hla
          go_wp2
          go_roundw
          case rel => exact ⟨_, _, j + 1, rfl, rfl, by go_num, by omega, REL.out⟩
          case measure => simp [intOf]; omega
    · have i1 : ¬ (j : Int) < (n : Int) := by omega
      go_wp2
      go_ret
      exact ⟨rfl, W3.out.trans WK.out.aft⟩
end Go.Proofs.Ythggkpmhcdmalaa
