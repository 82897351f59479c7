/-
  BeatsRefused.
-/
import Derived.Test.YtihflpoopdgcbaaLawBetweenB
namespace Go.Proofs.Ytihflpoopdgcbaa
open Go.RowKit
set_option maxRecDepth 8000
theorem ear_snoc (l : List Int) (t : Int) : ear (l ++ [t]) = t + 1 := by
  unfold ear
  rw [if_neg (by simp), List.length_append, List.length_singleton, Nat.add_sub_cancel, snoc_eq]
/-- Beats, and the ticks that were taken, in a list of its own. -/
structure Tk (w W : World) (p N : Nat) (L : List Int) (v u : Value) : Prop where
  bt : BtX W p (p + 1) N (lastN N L) v
  own : OInts W (p + 1) u L
  ap : ∀ k, u.ownBlock = some k → v.ownBlock ≠ some k
  sz : p + 1 ≤ W.heap.size
  aft : After w W
  wp : w.heap.size ≤ p
theorem Tk.after {w W W' : World} {p N : Nat} {L : List Int} {v u : Value} (x : Tk w W p N L v u) (h : After W W') : Tk w W' p N L v u :=
  ⟨x.bt.after h, own_after x.own h, x.ap, Nat.le_trans x.sz h.size, x.aft.trans h, x.wp⟩
/-- What stands between a beat that was taken and the list's growing. -/
structure Tm (w W : World) (p N : Nat) (L : List Int) (t : Int) (v u : Value) : Prop where
  bt : BtX W p (p + 1) N (lastN N (L ++ [t])) v
  own : OInts W (p + 1) u L
  ap : ∀ k, u.ownBlock = some k → v.ownBlock ≠ some k
  sz : p + 1 ≤ W.heap.size
  aft : After w W
  wp : w.heap.size ≤ p
theorem Tm.after {w W W' : World} {p N : Nat} {L : List Int} {t : Int} {v u : Value} (x : Tm w W p N L t v u) (h : After W W') : Tm w W' p N L t v u :=
  ⟨x.bt.after h, own_after x.own h, x.ap, Nat.le_trans x.sz h.size, x.aft.trans h, x.wp⟩
theorem tk_yes {w W : World} {p N : Nat} {L : List Int} {v u : Value} (x : Tk w W p N L v u) {t : Int} (h : Fol L t) : Calls Try.prog 10 #[Ptr p, .int .i64 t] W fun e w' => e = .returned (.int .i64 0) ∧ ∃ v', Tm w w' p N L t v' u := by
  refine (btBeat_any x.bt x.sz t).mono ?_
  rintro e w' ⟨rfl, b, v', bt', hv⟩
  rw [(nxt_yes h).1] at bt'
  have hsz := x.sz
  refine ⟨by rw [(nxt_yes h).2], v', bt', own_but x.own b (fun k hk t => ?_), fun k hk hk' => ?_, Nat.le_trans x.sz b.size, x.aft.then b (fun i hi t => ?_), x.wp⟩
  · have : k = p := t
    have := (own_lt x.own hk).1
    omega
  · rcases hv with rfl | hv
    · exact x.ap k hk hk'
    · have := hv k hk'
      have := (own_lt x.own hk).2
      omega
  · have : i = p := t
    have := x.wp
    omega
theorem tk_no {w W : World} {p N : Nat} {L : List Int} {v u : Value} (x : Tk w W p N L v u) {t : Int} (h : ¬ Fol L t) : Calls Try.prog 10 #[Ptr p, .int .i64 t] W fun e w' => e = .returned (.int .i64 9) ∧ Tk w w' p N L v u := by
  have hn : 0 < N := by have := x.bt.may; omega
  refine (btBeat_no x.bt (t := t) (fun k => h ?_)).mono ?_
  · unfold Fol at k ⊢
    rw [ear_last hn] at k
    exact k
  · rintro e w' ⟨rfl, d⟩
    exact ⟨rfl, x.after d.after⟩
theorem tm_grown {w W W' : World} {p N : Nat} {L : List Int} {t : Int} {v u u' : Value} (x : Tm w W p N L t v u) (h1 : OInts W' (p + 1) u' (L ++ [t])) (h2 : But (fun k => u.ownBlock = some k) W W') (h3 : u'.ownBlock = u.ownBlock ∨ u'.ownBlock = some W.heap.size) : Tk w W' p N (L ++ [t]) v u' := by
  have hwp := x.wp
  refine ⟨x.bt.but h2 (fun h => ?_) (fun k hk h => x.ap k h hk), h1, fun k hk hk' => ?_, Nat.le_trans x.sz h2.size, x.aft.then h2 (fun i hi h => ?_), x.wp⟩
  · have := (own_lt x.own h).1
    omega
  · rcases h3 with h3 | h3
    · rw [h3] at hk
      exact x.ap k hk hk'
    · rw [h3] at hk
      cases hk
      have := (own_lt x.bt.own hk').2
      omega
  · have := (own_lt x.own h).1
    omega
set_option maxHeartbeats 2000000 in
theorem law_refused (w : World) (n : Int) (h1 : -9223372036854775808 ≤ n) (h2 : n ≤ 9223372036854775807) (a : Option Addr) (k c : Nat) (zs : List Int) (hl : IRow w a k zs) (hk : k ≤ 17592186043904) :
    Calls Try.prog 6 #[.int .i64 n, .slice a k c] w fun e w' => e = .returned (.bool true) ∧ After w w' := by
  have HW := hideIt (works_any w)
  have HO := hideIt (fun W => bring_any n 7 W h1 h2 (by omega) (by omega))
  have hmay := anyN_may n
  have hN : ((anyN n : Nat) : Int) = 2 + ((broughtTo n 7 : Nat) : Int) := by unfold anyN; omega
  have hbl := broughtTo_lt n (m := 7) (by omega)
  generalize broughtTo n 7 = b1 at *
  generalize anyN n = N at *
  have HM := hideIt hmay
  have HL := hideIt hl
  have n1 : (2 : Int) ≤ (N : Int) := hmay.1
  have n2 : (N : Int) ≤ 8 := hmay.2
  have n3 : 2 + (b1 : Int) = (N : Int) := hN.symm
  have n4 : (b1 : Int) < 7 := by omega
  have k0 : (k : Int) ≤ 17592186043904 := by omega
  clear h1 h2 hmay hl hN hbl hk
  go_enter Try.func6, Try.ntmps6
  go_wp2_with fail
  refine HW.out.mono ?_
  rintro e w1 ⟨rfl, a1⟩
  have A1 := hideIt a1
  clear a1 HW
  go_wp2_with fail
  refine (HO.out _).mono ?_
  rintro e w' ⟨rfl, hww⟩
  subst w'
  clear HO
  have HNw := hideIt (btNew_ok w1 N HM.out)
  have x0 : Tk w (w1.alloc (.cells #[.int .i64 (N : Int), .slice none 0 0] 42)) w1.heap.size N [] (.slice none 0 0) (.slice none 0 0) :=
    ⟨(by rw [show lastN N [] = [] by simp [lastN]]; exact bt_new (by omega) (heap_alloc_new w1 _) (by omega) (by omega)), own_nil _ _, (fun k hk => by cases hk), (by simp), A1.out.alloc _, A1.out.size⟩
  generalize w1.alloc (.cells #[.int .i64 (N : Int), .slice none 0 0] 42) = w2 at HNw x0
  have X0 := hideIt x0
  clear x0
  go_wp2_with fail
  refine HNw.out.mono ?_
  rintro e w' ⟨rfl, hww⟩
  subst w'
  clear HNw n3 n4
  generalize w1.heap.size = p at *
  go_wp2_with fail
  go_loopw [7, 8, 9] (fun u l i wr => ∃ j : Nat, j ≤ k ∧ i = .int .i64 j ∧ l = .int .i64 (ear (tkn zs j) - 1) ∧ ∃ v, Tk w wr p N (tkn zs j) v u) (fun _ _ i _ => k - (intOf i).toNat)
  case atStart => exact ⟨0, Nat.zero_le _, rfl, rfl, _, X0.out⟩
  case round =>
    obtain ⟨j, hj, rfl, rfl, v, tk⟩ := hrel
    clear X0
    have hln := tkn_length zs j
    by_cases hjk : j < k
    · have i1 : (j : Int) < (k : Int) := by omega
      obtain ⟨b, off, rfl, hb, e0⟩ := HL.out.cellAt hjk
      have HE := hideIt (fun W (h : After w W) => (h.cell hb (off + j)).trans e0)
      have f0 := HE.out _ tk.aft
      have her := ear_le (tkn_rise zs j)
      have hsu := tkn_succ zs j
      clear e0
      by_cases hf : Fol (tkn zs j) (zs.getD j 0)
      · rw [(nxt_yes hf).1] at hsu
        have hes := ear_snoc (tkn zs j) (zs.getD j 0)
        rw [← hsu] at hes
        have HS := hideIt (And.intro hsu hes)
        have HB := hideIt (tk_yes tk hf)
        have g1 : ear (tkn zs j) - 1 < zs.getD j 0 := by have := hf.1; omega
        have g2 : zs.getD j 0 ≤ 2147483647 := hf.2
        have HZ := hideIt (show (tkn zs j).length + 1 ≤ 17592186044416 by omega)
        clear tk hsu hes hf hln
        generalize tkn zs j = L at *
        generalize ear L = E at *
        generalize zs.getD j 0 = t at *
        go_wp2_with fail
        refine HB.out.mono ?_
        rintro e w3 ⟨rfl, v', tm⟩
        have f1 := HE.out _ tm.aft
        have htm := tm.after (After.rfl.alloc (.cells #[.int .i64 t] 3))
        have HT := hideIt htm
        have HO := hideIt htm.own
        have HR := hideIt (show IRow (w3.alloc (.cells #[.int .i64 t] 3)) (some ⟨w3.heap.size, 0, none⟩) 1 [t] from lit_irow (heap_alloc_new w3 _) rfl rfl)
        have HBs := hideIt htm.sz
        clear tm htm f0 HB
        go_wp2_with (at_builtin; refine app_own rfl (.tmp 64) (.tmp 69) rfl (p + 1) _ L rfl HO.out ⟨_, 0, none⟩ t rfl HR.out HZ.out HBs.out ?_)
        intro a' c' w4 o4 b4 hu
        have htk := tm_grown HT.out o4 b4 (by simpa using hu)
        have f2 := HE.out _ htk.aft
        have HTK := hideIt htk
        clear htk o4 b4 hu HT HO HR HBs f1
        go_wp2
        go_roundw
        case rel =>
          refine ⟨j + 1, by omega, by go_num, ?_, v', ?_⟩
          · rw [HS.out.2, Int.add_sub_cancel]
          · rw [HS.out.1]
            exact HTK.out
        case measure => simp [intOf]; omega
      · rw [(nxt_no hf).1] at hsu
        have HS := hideIt hsu
        have HB := hideIt (tk_no tk hf)
        have hg : ¬ ear (tkn zs j) - 1 < zs.getD j 0 ∨ (ear (tkn zs j) - 1 < zs.getD j 0 ∧ ¬ zs.getD j 0 ≤ 2147483647) := by unfold Fol at hf; omega
        clear tk hsu hf hln
        generalize tkn zs j = L at *
        generalize hE : ear L = E at *
        have HEE := hideIt hE
        clear hE
        generalize zs.getD j 0 = t at *
        rcases hg with g1 | ⟨g1, g2⟩
        all_goals
          go_wp2_with fail
          refine HB.out.mono ?_
          rintro e w3 ⟨rfl, tk⟩
          have f1 := HE.out _ tk.aft
          have HTK := hideIt tk
          clear tk f0 HB
          go_wp2
          go_roundw
          case rel =>
            refine ⟨j + 1, by omega, by go_num, ?_, v, ?_⟩
            · rw [HS.out, HEE.out]
            · rw [HS.out]
              exact HTK.out
          case measure => simp [intOf]; omega
    · obtain rfl : j = k := by omega
      have i1 : ¬ (j : Int) < (j : Int) := by omega
      have hr := tkn_rise zs j
      generalize tkn zs j = L at *
      obtain ⟨ta, tc, rfl, ti, -, -, -⟩ := own_irow tk.own
      have HB := hideIt (btRate_any tk.bt)
      have hrz := rZ_of (N := N) (by omega) L
      have hrt := fun W (h : After wr W) => rate_any W N HM.out _ L.length tc _ (ti.after h) hr (by omega)
      have AF := hideIt tk.aft
      clear tk ti hr
      rcases hrz with ⟨hZ, hX⟩ | ⟨hZ, hX⟩
      all_goals
        rw [hX] at hrt
        rw [hZ] at HB
        have HR := hideIt hrt
        clear hrt hX hZ
        generalize rv (lastN N L) = Y at *
        generalize L.length = m at *
        have hYY : (Y == Y) = true := by simp
        go_wp2_with fail
        refine HB.out.mono ?_
        rintro e w5 ⟨rfl, d5⟩
        have A5 := hideIt d5.after
        clear d5 HB
        go_wp2_with fail
        refine (HR.out _ A5.out).mono ?_
        rintro e w6 ⟨rfl, a6⟩
        have A6 := hideIt (AF.out.trans (A5.out.trans a6))
        clear a6 A5 HR AF
        go_wp2
        go_ret
        exact ⟨rfl, A6.out⟩
end Go.Proofs.Ytihflpoopdgcbaa
