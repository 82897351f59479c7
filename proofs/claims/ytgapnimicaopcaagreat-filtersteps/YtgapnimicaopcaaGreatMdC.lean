/-
  Push of package median.
-/
import Derived.Test.YtgapnimicaopcaaGreatMdB
namespace Go.Proofs.YtgapnimicaopcaaGreat.L9
open Go.RowKit
set_option maxRecDepth 8000
theorem take_set {n f : Nat} {s Z : List Int} (hz : Z.length = 15) (hn : n ≤ 15) (h : Ring n (Z.take s.length) f s) (v : Int) : (Z.set f v).take (mpush n s v).length = wrote (Z.take s.length) f v := by
  have hle := h.le
  have hlt := h.lt
  have hroom := h.room
  have hm := (mpush_length (n := n) (by omega) hle v).2
  have htl : (Z.take s.length).length = s.length := by rw [List.length_take]; omega
  apply List.ext_getElem?
  intro i
  rw [wrote_at _ _ _ (by rw [htl]; omega), List.getElem?_take, List.getElem?_take, List.getElem?_set, hm]
  by_cases e : i = f
  · subst e
    rw [if_pos rfl, if_pos (by omega), if_pos rfl, if_pos (by omega)]
  · rw [if_neg e]
    by_cases h1 : i < s.length
    · rw [if_pos (by omega), if_neg (by omega), if_pos h1]
    · rw [if_neg (by omega), if_neg h1]
theorem md_push {w : World} {p n f q : Nat} {s Z : List Int} (x : MdX w p n s Z f) (y : Int) (hq : q = (f + 1) % n) {a b : Value} (ha : a = .int .i64 (q : Int)) {m : Nat} (hb : b = .int .i64 (m : Int)) (hm : m = min (s.length + 1) n) :
    Md (((w.setCell ⟨p, f, none⟩ (.int .i64 y)).setCell ⟨p, 17, none⟩ a).setCell ⟨p, 16, none⟩ b) p n (mpush n s y) := by
  subst ha hb hq
  rw [← (mpush_length (n := n) (by have := x.ring.lt; omega) x.ring.le y).2] at hm
  subst hm
  have hl := x.zl
  have hlt := x.ring.lt
  have hn := x.hn
  have h1 := blk_put (blk_put (blk_put x.at0 f (.int .i64 y)) 17 (.int .i64 (((f + 1) % n : Nat) : Int))) 16 (.int .i64 ((mpush n s y).length : Int))
  rw [mdC_set (by omega), mdC_set17 (by rw [List.length_set]; exact hl), mdC_set16 (by rw [List.length_set]; exact hl)] at h1
  refine ⟨Z.set f y, (f + 1) % n, h1, by rw [List.length_set]; exact hl, hn, ?_⟩
  rw [take_set hl hn x.ring]
  exact x.ring.push y
theorem Md.drew {w : World} {p n : Nat} {s : List Int} (x : Md w p n s) : Md w.drew p n s := x.but (S := Non) But.rfl.drew (fun t => t)
set_option maxHeartbeats 1000000 in
theorem mdPush_any {w : World} {p n : Nat} {s : List Int} (x : Md w p n s) (y : Int) :
    Calls Tryz.prog 90 #[Ptr p, .int .i64 y] w fun e w' => e = .returned (.tuple #[.int .i64 (mid (mpush n s (clampZ y))), .int .i64 0]) ∧ Md w' p n (mpush n s (clampZ y)) ∧ But (One p) w w' := by
  have H := hideIt (mdNone_no x)
  have HC := hideIt (fun W => clamp_any y W)
  have hpos := (mpush_length (n := n) (s := s) (by have := x.le; omega) x.le.1 (clampZ y)).1
  generalize clampZ y = c at *
  obtain ⟨Z, f, x⟩ := x
  have hlt := x.ring.lt
  have hle := x.ring.le
  have hn := x.hn
  have hzl := x.zl
  have c15 := blk_cell x.at0 (mdC_15 x.zl)
  have c16 := blk_cell x.at0 (mdC_16 x.zl)
  have c17 := blk_cell x.at0 (mdC_17 x.zl)
  have cf := blk_cell x.at0 (mdC_num (i := f) (by omega))
  have s16 := blk_soft x.at0 16
  have s17 := blk_soft x.at0 17
  have sf := blk_soft x.at0 f
  obtain ⟨q, hq⟩ : ∃ q : Nat, q = (f + 1) % n := ⟨_, rfl⟩
  have hqn : q < n := by rw [hq]; exact Nat.mod_lt _ (by omega)
  have e1 : ((f : Int) + 1) % (n : Int) = (q : Int) := by rw [hq, Int.natCast_emod, Int.natCast_add]; rfl
  have HX := hideIt (And.intro x (And.intro hq hpos))
  obtain ⟨k, hk⟩ : ∃ k : Nat, k = s.length := ⟨_, rfl⟩
  rw [← hk] at c16 hle
  have HK := hideIt hk
  have g1 : (0 : Int) ≤ (f : Int) := by omega
  have g2 : (f : Int) < 15 := by omega
  have g3 : (0 : Int) < (n : Int) := by omega
  have g4 : (n : Int) ≤ 15 := by omega
  have g5 : (k : Int) ≤ 15 := by omega
  have g6 : ¬ (n : Int) = 0 := by omega
  have g8 : f ≠ 15 := by omega
  have g9 : f ≠ 16 := by omega
  have g10 : f ≠ 17 := by omega
  clear x hq hk hpos hzl
  generalize Z.getD f 0 = zf at cf
  have HV := hideIt (show min ((k : Int) + 1) (n : Int) = ((min (k + 1) n : Nat) : Int) by omega)
  clear hle hlt hqn hn
  go_enter Tryz.func90, Tryz.ntmps90
  go_wp2_with (go_at_call 91; refine H.out.mono ?_; rintro e w' ⟨rfl, rfl⟩)
  go_region_with (go_at_call 65; refine (HC.out _).mono ?_; rintro e w' ⟨rfl, rfl⟩)
  all_goals
    go_wp2
    go_region
    go_wp2
    go_region
    go_wp2_with fail
    obtain ⟨x, hq, hpos⟩ := HX.out
    have hmd := (md_push x c hq rfl (b := .int .i64 (min ((k : Int) + 1) (n : Int))) (m := min (k + 1) n) (by rw [HV.out]) (by rw [HK.out])).drew.drew.drew
    refine (mdMiddle_any hmd hpos).mono ?_
    rintro e w2 ⟨rfl, a2⟩
    have HA := hideIt (And.intro (hmd.but a2 (fun t => t)) (((((but_one _ _ _ _).trans (but_one _ _ _ _)).trans (but_one _ _ _ _)).drew.drew.drew).trans a2.but))
    clear a2 hmd x hq hpos
    go_wp2
    go_ret2
    exact ⟨rfl, HA.out.1, HA.out.2⟩
end Go.Proofs.YtgapnimicaopcaaGreat.L9
