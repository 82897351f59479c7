/-
  Push of package average.
-/
import Derived.Test.YtgapnimicaopcaaGreatAvB
import Derived.Deep.RegionWith
namespace Go.Proofs.YtgapnimicaopcaaGreat.L10
open Go.RowKit
set_option maxRecDepth 8000
theorem av_push {w : World} {p n f q : Nat} {s Z : List Int} (x : AvX w p n s Z f) (y : Int) (hy : Fit (mpush n s y)) (hq : q = (f + 1) % n) {a b : Value} (ha : a = .int .i64 (q : Int)) {m : Nat} (hb : b = .int .i64 (m : Int)) (hm : m = min (s.length + 1) n) :
    Av (((w.setCell ⟨p, f, none⟩ (.int .i64 y)).setCell ⟨p, 17, none⟩ a).setCell ⟨p, 16, none⟩ b) p n (mpush n s y) := by
  subst ha hb hq
  rw [← (mpush_length (n := n) (by have := x.ring.lt; omega) x.ring.le y).2] at hm
  subst hm
  have hl := x.zl
  have hlt := x.ring.lt
  have hn := x.hn
  have h1 := blk_put (blk_put (blk_put x.at0 f (.int .i64 y)) 17 (.int .i64 (((f + 1) % n : Nat) : Int))) 16 (.int .i64 ((mpush n s y).length : Int))
  rw [avC_set (by omega), avC_set17 (by rw [List.length_set]; exact hl), avC_set16 (by rw [List.length_set]; exact hl)] at h1
  refine ⟨Z.set f y, (f + 1) % n, h1, by rw [List.length_set]; exact hl, hn, ?_, ?_⟩
  · rw [take_set hl hn x.ring]
    exact x.ring.push y
  · exact hy
theorem Av.drew {w : World} {p n : Nat} {s : List Int} (x : Av w p n s) : Av w.drew p n s := x.but (S := Non) But.rfl.drew (fun t => t)
set_option maxHeartbeats 1000000 in
theorem avPush_any {w : World} {p n : Nat} {s : List Int} (x : Av w p n s) (y : Int) :
    Calls Tryz.prog 114 #[Ptr p, .int .i64 y] w fun e w' => e = .returned (.tuple #[.int .i64 (meanZ (mpush n s (clampZ y))), .int .i64 0]) ∧ Av w' p n (mpush n s (clampZ y)) ∧ But (One p) w w' := by
  have H := hideIt (avNone_no x)
  have HC := hideIt (fun W => clamp_any y W)
  have hpos := (mpush_length (n := n) (s := s) (by have := x.le; omega) x.le.1 (clampZ y)).1
  have hfp : Fit (mpush n s (clampZ y)) := by obtain ⟨Z, f, x⟩ := x; exact x.fit.push y
  generalize clampZ y = c at *
  obtain ⟨Z, f, x⟩ := x
  have hlt := x.ring.lt
  have hle := x.ring.le
  have hn := x.hn
  have hzl := x.zl
  have c15 := blk_cell x.at0 (avC_15 x.zl)
  have c16 := blk_cell x.at0 (avC_16 x.zl)
  have c17 := blk_cell x.at0 (avC_17 x.zl)
  have cf := blk_cell x.at0 (avC_num (i := f) (by omega))
  have s16 := blk_soft x.at0 16
  have s17 := blk_soft x.at0 17
  have sf := blk_soft x.at0 f
  obtain ⟨q, hq⟩ : ∃ q : Nat, q = (f + 1) % n := ⟨_, rfl⟩
  have hqn : q < n := by rw [hq]; exact Nat.mod_lt _ (by omega)
  have e1 : ((f : Int) + 1) % (n : Int) = (q : Int) := by rw [hq, Int.natCast_emod, Int.natCast_add]; rfl
  have HX := hideIt (And.intro x (And.intro hq (And.intro hpos hfp)))
  obtain ⟨k, hk⟩ : ∃ k : Nat, k = s.length := ⟨_, rfl⟩
  rw [← hk] at c16 hle
  have HK := hideIt hk
  have g1 : (0 : Int) ≤ (f : Int) := by omega
  have g2 : (f : Int) < 15 := by omega
  have g3 : (0 : Int) < (n : Int) := by omega
  have g4 : (n : Int) ≤ 15 := by omega
  have g5 : (k : Int) ≤ 15 := by omega
  have g6 : ¬ (n : Int) = 0 := by omega
  have g8 : f ≠ 15 := by omega
  have g9 : f ≠ 16 := by omega
  have g10 : f ≠ 17 := by omega
  clear x hq hk hpos hzl hfp
  generalize Z.getD f 0 = zf at cf
  clear hle hlt hqn hn
  go_enter Tryz.func114, Tryz.ntmps114
  go_wp2_with (go_at_call 115; refine H.out.mono ?_; rintro e w' ⟨rfl, rfl⟩)
  go_region_with (go_at_call 65; refine (HC.out _).mono ?_; rintro e w' ⟨rfl, rfl⟩)
  all_goals
    go_wp2
    go_region
    go_wp2
    go_region
    go_wp2_with fail
    all_goals
      obtain ⟨x, hq, hpos, hfp⟩ := HX.out
      have hk := HK.out
      first
        | (have hav := (av_push x c hfp hq rfl (b := .int .i64 (n : Int)) (m := n) rfl (by omega)).drew.drew.drew)
        | (have hav := (av_push x c hfp hq rfl (b := .int .i64 ((k : Int) + 1)) (m := k + 1) rfl (by omega)).drew.drew.drew)
      refine (avMean_any hav hpos).mono ?_
      rintro e w2 ⟨rfl, d2⟩
      have a2 := d2.after
      have HA := hideIt (And.intro (hav.but a2 (fun t => t)) (((((but_one _ _ _ _).trans (but_one _ _ _ _)).trans (but_one _ _ _ _)).drew.drew.drew).trans a2.but))
      clear d2 a2 hav x hq hpos hfp hk
      go_wp2
      go_ret2
      exact ⟨rfl, HA.out.1, HA.out.2⟩
end Go.Proofs.YtgapnimicaopcaaGreat.L10
