/-
  dropFirst, Put, Take of package ring.
-/
import Derived.Test.YtajjfklglnefkaaBrA
import Derived.BigRegion
import Derived.BigQuiet
import Derived.Deep.RegionWith
import Derived.Deep.Cut
namespace Go.Proofs.Ytajjfklglnefkaa
open Go.RowKit
set_option maxRecDepth 8000
theorem RgX.cells {w : World} {p n : Nat} {s : Sg} {cs : Array Value} {f t : Nat} (x : RgX w p n s cs f t) :
    w.cell? ⟨p, 16, none⟩ = some (.int .i64 (n : Int)) ∧ w.cell? ⟨p, 17, none⟩ = some (.int .i64 (f : Int)) ∧ w.cell? ⟨p, 18, none⟩ = some (.int .i64 (s.l.length : Int)) ∧ w.cell? ⟨p, 19, none⟩ = some (.int .i64 (s.all : Int)) ∧ w.cell? ⟨p, 20, none⟩ = some (.int .i64 (t : Int)) :=
  ⟨blk_cell x.at0 x.c16, blk_cell x.at0 x.c17, blk_cell x.at0 x.c18, blk_cell x.at0 x.c19, blk_cell x.at0 x.c20⟩
theorem RgX.softs {w : World} {p n : Nat} {s : Sg} {cs : Array Value} {f t : Nat} (x : RgX w p n s cs f t) :
    w.frozen? ⟨p, 17, none⟩ = false ∧ w.frozen? ⟨p, 18, none⟩ = false ∧ w.frozen? ⟨p, 19, none⟩ = false ∧ w.frozen? ⟨p, 20, none⟩ = false :=
  ⟨blk_soft x.at0 17, blk_soft x.at0 18, blk_soft x.at0 19, blk_soft x.at0 20⟩
theorem rg_drop {w : World} {p n : Nat} {y : Int} {r : List Int} {a b : Nat} {cs : Array Value} {f t : Nat} (x : RgX w p n ⟨y :: r, a, b⟩ cs f t) {u v : Value} (hu : u = .int .i64 (((f + 1) % n : Nat) : Int)) (hv : v = .int .i64 (r.length : Int)) :
    Rg ((w.setCell ⟨p, 17, none⟩ u).setCell ⟨p, 18, none⟩ v) p n ⟨r, a, b⟩ := by
  subst hu hv
  have hs := x.size
  have h1 := blk_put (blk_put x.at0 17 (.int .i64 (((f + 1) % n : Nat) : Int))) 18 (.int .i64 (r.length : Int))
  have hf := x.hf
  have hn := x.hn
  have hl : (y :: r).length ≤ n := x.hl
  rw [List.length_cons] at hl
  refine ⟨_, (f + 1) % n, t, h1, by simp [hs], fun i hi => ?_, ?_, ?_, ?_, ?_, ?_, Nat.mod_lt _ (by omega), hn, by show r.length ≤ n; omega, x.ht, x.hall, fun i z hz => ?_⟩
  · rw [set_off (by omega), set_off (by omega)]; exact x.nums i hi
  · rw [set_off (by omega), set_off (by omega)]; exact x.c16
  · rw [set_off (by omega), set_at (by omega)]
  · rw [set_at (by simp [hs])]
  · rw [set_off (by omega), set_off (by omega)]; exact x.c19
  · rw [set_off (by omega), set_off (by omega)]; exact x.c20
  · have hlt : ((f + 1) % n + i) % n < n := Nat.mod_lt _ (by omega)
    rw [set_off (by omega), set_off (by omega), around (by omega)]
    exact x.ls (i + 1) z (by simpa using hz)
set_option maxHeartbeats 1000000 in
theorem rgDrop_any {w : World} {p n : Nat} {y : Int} {r : List Int} {a b : Nat} (x : Rg w p n ⟨y :: r, a, b⟩) :
    Calls Try.prog 42 #[Ptr p] w fun e w' => e = .returned (.int .i64 y) ∧ Rg w' p n ⟨r, a, b⟩ ∧ But (One p) w w' := by
  obtain ⟨cs, f, t, x⟩ := x
  obtain ⟨c16, c17, c18, _, _⟩ := x.cells
  obtain ⟨f17, f18, _, _⟩ := x.softs
  have hf := x.hf
  have hn := x.hn
  have cf : w.cell? ⟨p, f, none⟩ = some (.int .i64 y) := blk_cell x.at0 (by have := x.ls 0 y rfl; rwa [Nat.add_zero, Nat.mod_eq_of_lt hf] at this)
  have e1 : ((f : Int) + 1) % (n : Int) = (((f + 1) % n : Nat) : Int) := by rw [Int.natCast_emod, Int.natCast_add]; rfl
  have e2 : ((y :: r).length : Int) = (r.length : Int) + 1 := by simp
  have hrl : r.length < 16 := by have := x.hl; simp at this; omega
  rw [show (Sg.mk (y :: r) a b).l.length = (y :: r).length from rfl, e2] at c18
  have g1 : (0 : Int) ≤ (f : Int) := by omega
  have g2 : (f : Int) < 16 := by omega
  have g3 : (0 : Int) < (n : Int) := by omega
  have g4 : (n : Int) ≤ 16 := by omega
  have g6 : ¬ (n : Int) = 0 := by omega
  have X := hideIt x
  have E1 := hideIt e1
  obtain ⟨m, hm⟩ : ∃ m : Nat, m = r.length := ⟨_, rfl⟩
  rw [← hm] at c18 hrl
  have HM := hideIt hm
  clear x e1 e2 hm
  go_enter Try.func42, Try.ntmps42
  go_wp2
  go_region
  go_wp2
  go_region
  go_wp2
  go_ret
  exact ⟨rfl, (rg_drop X.out (by rw [E1.out]) (by rw [HM.out])).but (S := Non) (But.rfl.drew.drew) (fun t => t), (((but_one _ _ _ _).trans (but_one _ _ _ _)).drew).drew⟩
theorem rg_push {w : World} {p n : Nat} {s : Sg} {cs : Array Value} {f t : Nat} (x : RgX w p n s cs f t) (h : s.l.length < n) (y : Int) {q : Nat} {v : Value} (hq : q = (f + s.l.length) % n) (hv : v = .int .i64 ((s.l.length : Int) + 1)) :
    Rg ((w.setCell ⟨p, q, none⟩ (.int .i64 y)).setCell ⟨p, 18, none⟩ v) p n ⟨s.l ++ [y], s.since, s.all⟩ := by
  subst hv
  have hs := x.size
  have hf := x.hf
  have hn := x.hn
  have hq16 : q < 16 := by have : q < n := by rw [hq]; exact Nat.mod_lt _ (by omega)
                           omega
  have h1 := blk_put (blk_put x.at0 q (.int .i64 y)) 18 (.int .i64 ((s.l.length : Int) + 1))
  refine ⟨_, f, t, h1, by simp [hs], fun i hi => ?_, ?_, ?_, ?_, ?_, ?_, hf, hn, by show (s.l ++ [y]).length ≤ n; rw [List.length_append, List.length_singleton]; omega, x.ht, x.hall, fun i z hz => ?_⟩
  · rw [set_off (by omega)]
    by_cases e : q = i
    · subst e
      exact ⟨y, set_at (by omega) _⟩
    · rw [set_off e]; exact x.nums i hi
  · rw [set_off (by omega), set_off (by omega)]; exact x.c16
  · rw [set_off (by omega), set_off (by omega)]; exact x.c17
  · rw [set_at (by simp [hs])]
    show some (Value.int .i64 ((s.l.length : Int) + 1)) = some (Value.int .i64 ((s.l ++ [y]).length : Int))
    rw [List.length_append, List.length_singleton, Int.natCast_add]; rfl
  · rw [set_off (by omega), set_off (by omega)]; exact x.c19
  · rw [set_off (by omega), set_off (by omega)]; exact x.c20
  · have hlt : (f + i) % n < n := Nat.mod_lt _ (by omega)
    rw [set_off (by omega)]
    have hz : (s.l ++ [y])[i]? = some z := hz
    have hil : i < (s.l ++ [y]).length := (List.getElem?_eq_some_iff.1 hz).1
    rw [List.length_append, List.length_singleton] at hil
    by_cases e : i = s.l.length
    · subst e
      rw [← hq, set_at (by omega)]
      simp at hz
      rw [hz]
    · have ne : q ≠ (f + i) % n := by rw [hq]; exact apart_mod hf (by omega) (by omega) (by omega)
      rw [set_off ne]
      exact x.ls i z (by rwa [List.getElem?_append_left (by omega)] at hz)
theorem rg_lose {w : World} {p n : Nat} {s : Sg} {cs : Array Value} {f t : Nat} (x : RgX w p n s cs f t) (h : s.all < 1000000) {v : Value} (hv : v = .int .i64 ((s.all : Int) + 1)) : Rg (w.setCell ⟨p, 19, none⟩ v) p n ⟨s.l, s.since + 1, s.all + 1⟩ := by
  subst hv
  have hs := x.size
  have hf := x.hf
  have hn := x.hn
  have ht := x.ht
  have h1 := blk_put x.at0 19 (.int .i64 ((s.all : Int) + 1))
  refine ⟨_, f, t, h1, by simp [hs], fun i hi => ?_, ?_, ?_, ?_, ?_, ?_, hf, hn, x.hl, by show t + (s.since + 1) = s.all + 1; omega, h, fun i z hz => ?_⟩
  · rw [set_off (by omega)]; exact x.nums i hi
  · rw [set_off (by omega)]; exact x.c16
  · rw [set_off (by omega)]; exact x.c17
  · rw [set_off (by omega)]; exact x.c18
  · rw [set_at (by simp [hs])]
    show some (Value.int .i64 ((s.all : Int) + 1)) = some (Value.int .i64 ((s.all + 1 : Nat) : Int))
    rw [Int.natCast_add]; rfl
  · rw [set_off (by omega)]; exact x.c20
  · have hlt : (f + i) % n < n := Nat.mod_lt _ (by omega)
    rw [set_off (by omega)]
    exact x.ls i z hz
theorem rg_tell {w : World} {p n : Nat} {s : Sg} {cs : Array Value} {f t : Nat} (x : RgX w p n s cs f t) : Rg (w.setCell ⟨p, 20, none⟩ (.int .i64 (s.all : Int))) p n ⟨s.l, 0, s.all⟩ := by
  have hs := x.size
  have hf := x.hf
  have hn := x.hn
  have h1 := blk_put x.at0 20 (.int .i64 (s.all : Int))
  refine ⟨_, f, s.all, h1, by simp [hs], fun i hi => ?_, ?_, ?_, ?_, ?_, ?_, hf, hn, x.hl, rfl, x.hall, fun i z hz => ?_⟩
  · rw [set_off (by omega)]; exact x.nums i hi
  · rw [set_off (by omega)]; exact x.c16
  · rw [set_off (by omega)]; exact x.c17
  · rw [set_off (by omega)]; exact x.c18
  · rw [set_off (by omega)]; exact x.c19
  · rw [set_at (by simp [hs])]
  · have hlt : (f + i) % n < n := Nat.mod_lt _ (by omega)
    rw [set_off (by omega)]
    exact x.ls i z hz
theorem Rg.drew {w : World} {p n : Nat} {s : Sg} (x : Rg w p n s) : Rg w.drew p n s := x.but (S := Non) But.rfl.drew (fun t => t)
set_option maxHeartbeats 1000000 in
theorem rgPut_room {w : World} {p n : Nat} {s : Sg} (x : Rg w p n s) (h : s.l.length < n) (y : Int) :
    Calls Try.prog 27 #[Ptr p, .int .i64 y] w fun e w' => e = .returned (.int .i64 0) ∧ Rg w' p n (s.put n y) ∧ But (One p) w w' := by
  rw [put_room h]
  have H := hideIt (rgNone_no x)
  obtain ⟨cs, f, t, x⟩ := x
  obtain ⟨c16, c17, c18, _, _⟩ := x.cells
  obtain ⟨_, f18, _, _⟩ := x.softs
  have hf := x.hf
  have hn := x.hn
  obtain ⟨q, hq⟩ : ∃ q : Nat, q = (f + s.l.length) % n := ⟨_, rfl⟩
  have hqn : q < n := by rw [hq]; exact Nat.mod_lt _ (by omega)
  obtain ⟨z, hz⟩ := x.nums q (by omega)
  have cq := blk_cell x.at0 hz
  have fq := blk_soft x.at0 q
  have e1 : ((f : Int) + (s.l.length : Int)) % (n : Int) = (q : Int) := by rw [hq, Int.natCast_emod, Int.natCast_add]
  have HX := hideIt (And.intro x (And.intro h hq))
  obtain ⟨m, hm⟩ : ∃ m : Nat, m = s.l.length := ⟨_, rfl⟩
  rw [← hm] at c18 e1 h
  have HM := hideIt hm
  have hb : ((m : Int) == (n : Int)) = false := by simp; omega
  have g1 : (0 : Int) ≤ (f : Int) := by omega
  have g2 : (f : Int) < 16 := by omega
  have g3 : (0 : Int) < (n : Int) := by omega
  have g4 : (n : Int) ≤ 16 := by omega
  have g5 : (m : Int) < 16 := by omega
  have g6 : ¬ (n : Int) = 0 := by omega
  have g7 : (q : Int) < 16 := by omega
  have hq18 : q ≠ 18 := by omega
  clear x hm hq hz
  go_enter Try.func27, Try.ntmps27
  go_wp2_with (go_at_call 41; refine H.out.mono ?_; rintro e w' ⟨rfl, rfl⟩)
  go_region
  go_wp2
  go_region
  go_wp2
  go_ret
  exact ⟨rfl, (rg_push HX.out.1 HX.out.2.1 y HX.out.2.2 (by rw [HM.out])).drew.drew, (((but_one _ _ _ _).trans (but_one _ _ _ _)).drew).drew⟩
set_option maxHeartbeats 1000000 in
theorem rgPut_full {w : World} {p n : Nat} {u : Int} {r : List Int} {a b : Nat} (x : Rg w p n ⟨u :: r, a, b⟩) (h : ¬ (u :: r).length < n) (hb : b < 1000000) (y : Int) :
    Calls Try.prog 27 #[Ptr p, .int .i64 y] w fun e w' => e = .returned (.int .i64 0) ∧ Rg w' p n ((Sg.mk (u :: r) a b).put n y) ∧ But (One p) w w' := by
  rw [put_full h]
  have H := hideIt (rgNone_no x)
  have HD := hideIt (fun k => rgDrop_any (x.but (S := Non) (But.rfl.draws k) (fun t => t)))
  obtain ⟨cs, f, t, x⟩ := x
  obtain ⟨c16, c17, c18, _, _⟩ := x.cells
  have hn := x.hn
  have hl : (u :: r).length = n := by have := x.hl; dsimp only at this; omega
  rw [show (Sg.mk (u :: r) a b).l.length = (u :: r).length from rfl, hl] at c18
  have hrn : r.length < n := by rw [List.length_cons] at hl; omega
  have hbb : ((n : Int) == (n : Int)) = true := by simp
  clear x h hl
  go_enter Try.func27, Try.ntmps27
  go_wp2_with (go_at_call 41; refine H.out.mono ?_; rintro e w' ⟨rfl, rfl⟩)
  go_region
  clear c16 c17 c18
  go_wp2_with fail
  refine (HD.out 1).mono ?_
  rintro e w1 ⟨rfl, ⟨cs, f, t, x⟩, b1⟩
  obtain ⟨c16, c17, c18, c19, _⟩ := x.cells
  obtain ⟨_, f18, f19, _⟩ := x.softs
  have y0 := x
  have HX := hideIt (And.intro x b1)
  clear x b1 HD
  dsimp only at c19
  have g1 : (0 : Int) ≤ (b : Int) := by omega
  have g2 : (b : Int) < 1000000 := by omega
  go_wp2_with fail
  have x2 := rg_lose y0 hb (Eq.refl (Value.int .i64 ((b : Int) + 1)))
  have b2 := HX.out.2.trans (but_one w1 p 19 (Value.int .i64 ((b : Int) + 1)))
  generalize w1.setCell ⟨p, 19, none⟩ (Value.int .i64 ((b : Int) + 1)) = w2 at x2 b2 ⊢
  clear c16 c17 c18 c19 f18 f19 HX y0
  obtain ⟨cs, f, t, x⟩ := x2
  obtain ⟨c16, c17, c18, _, _⟩ := x.cells
  obtain ⟨_, f18, _, _⟩ := x.softs
  have hf := x.hf
  obtain ⟨q, hq⟩ : ∃ q : Nat, q = (f + r.length) % n := ⟨_, rfl⟩
  have hqn : q < n := by rw [hq]; exact Nat.mod_lt _ (by omega)
  obtain ⟨z, hz⟩ := x.nums q (by omega)
  have cq := blk_cell x.at0 hz
  have fq := blk_soft x.at0 q
  have e1 : ((f : Int) + (r.length : Int)) % (n : Int) = (q : Int) := by rw [hq, Int.natCast_emod, Int.natCast_add]
  have HX := hideIt (And.intro x (And.intro hrn (And.intro hq b2)))
  dsimp only at c18
  obtain ⟨m, hm⟩ : ∃ m : Nat, m = r.length := ⟨_, rfl⟩
  rw [← hm] at c18 e1 hrn
  have HM := hideIt hm
  have k1 : (0 : Int) ≤ (f : Int) := by omega
  have k2 : (f : Int) < 16 := by omega
  have k3 : (0 : Int) < (n : Int) := by omega
  have k4 : (n : Int) ≤ 16 := by omega
  have k5 : (m : Int) < 16 := by omega
  have k6 : ¬ (n : Int) = 0 := by omega
  have k7 : (q : Int) < 16 := by omega
  have hq18 : q ≠ 18 := by omega
  clear x hm hq hz b2
  go_region
  go_wp2
  go_ret
  exact ⟨rfl, ((rg_push HX.out.1 HX.out.2.1 y HX.out.2.2.1 (by rw [HM.out])).drew), ((((But.rfl.draws 1).trans HX.out.2.2.2).trans (but_one _ _ _ _)).trans (but_one _ _ _ _)).drew⟩
/-- Put, whatever there is. -/
theorem rgPut_any {w : World} {p n : Nat} {s : Sg} (x : Rg w p n s) (hb : s.all < 1000000) (y : Int) :
    Calls Try.prog 27 #[Ptr p, .int .i64 y] w fun e w' => e = .returned (.int .i64 0) ∧ Rg w' p n (s.put n y) ∧ But (One p) w w' := by
  by_cases h : s.l.length < n
  · exact rgPut_room x h y
  · obtain ⟨l, a, b⟩ := s
    cases l with
    | nil => obtain ⟨cs, f, t, x⟩ := x; exact absurd (Nat.lt_of_le_of_lt (Nat.zero_le f) x.hf) h
    | cons u r => exact rgPut_full x h hb y
theorem rgTake_empty {w : World} {p n a b : Nat} (x : Rg w p n ⟨[], a, b⟩) :
    Calls Try.prog 44 #[Ptr p] w fun e w' => e = .returned (.tuple #[.int .i64 0, .int .i64 0, .int .i64 8]) ∧ w' = w := by
  have H := hideIt (rgNone_no x)
  obtain ⟨cs, f, t, x⟩ := x
  obtain ⟨_, _, c18, _, _⟩ := x.cells
  dsimp only [List.length_nil] at c18
  clear x
  go_enter Try.func44, Try.ntmps44
  go_wp2_with (go_at_call 41; refine H.out.mono ?_; rintro e w' ⟨rfl, rfl⟩)
  go_ret3
  exact ⟨rfl, rfl⟩
theorem rg_c19 {w : World} {p n : Nat} {r : List Int} {a b : Nat} (x : Rg w p n ⟨r, a, b⟩) : w.cell? ⟨p, 19, none⟩ = some (.int .i64 (b : Int)) := by
  obtain ⟨cs, f, t, x⟩ := x
  exact x.cells.2.2.2.1
theorem rg_c20 {w : World} {p n : Nat} {r : List Int} {a b t : Nat} (h : (b : Int) - (t : Int) = (a : Int)) (x : Rg w p n ⟨r, a, b⟩) : w.cell? ⟨p, 20, none⟩ = some (.int .i64 (t : Int)) := by
  obtain ⟨cs, f, t', x⟩ := x
  have := x.ht
  dsimp only at this
  obtain rfl : t' = t := by omega
  exact x.cells.2.2.2.2
theorem rg_f20 {w : World} {p n : Nat} {s : Sg} (x : Rg w p n s) : w.frozen? ⟨p, 20, none⟩ = false := by
  obtain ⟨cs, f, t, x⟩ := x
  exact x.softs.2.2.2
set_option maxHeartbeats 1000000 in
theorem rgTake_some {w : World} {p n : Nat} {y : Int} {r : List Int} {a b : Nat} (x : Rg w p n ⟨y :: r, a, b⟩) :
    Calls Try.prog 44 #[Ptr p] w fun e w' => e = .returned (.tuple #[.int .i64 y, .int .i64 (a : Int), .int .i64 0]) ∧ Rg w' p n ⟨r, 0, b⟩ ∧ But (One p) w w' := by
  have H := hideIt (rgNone_no x)
  have HD := hideIt (fun k => rgDrop_any (x.but (S := Non) (But.rfl.draws k) (fun t => t)))
  obtain ⟨cs, f, t, x⟩ := x
  obtain ⟨_, _, c18, c19, c20⟩ := x.cells
  have hd : ((b : Int) - (t : Int)) = (a : Int) := by have := x.ht; dsimp only at this; omega
  have hz : (((y :: r).length : Nat) : Int) ≠ 0 := by rw [List.length_cons]; omega
  have hzb : ((((y :: r).length : Nat) : Int) == 0) = false := by simpa using hz
  dsimp only at c18 c19
  generalize (((y :: r).length : Nat) : Int) = L at *
  have g1 : (b : Int) ≤ 1000000 := by have := x.hall; dsimp only at this; omega
  have g2 : (t : Int) ≤ 1000000 := by have := x.hall; have := x.ht; dsimp only at *; omega
  have g3 : (a : Int) ≤ 1000000 := by omega
  have g4 : IntKind.i64.wrap (a : Int) = (a : Int) := wrap_small _ (by omega) (by omega)
  clear x hz
  go_enter Try.func44, Try.ntmps44
  go_wp2_with (go_at_call 41; refine H.out.mono ?_; rintro e w' ⟨rfl, rfl⟩)
  go_region_with ((go_at_call 42; refine (HD.out 1).mono ?_; rintro e w1 ⟨rfl, x1, b1⟩; (have k19 := rg_c19 x1); (have k20 := rg_c20 hd x1); (have k20f := rg_f20 x1); (have X1 := hideIt (And.intro x1 b1)); clear x1 b1))
  all_goals
    simp only [Act.put, List.getElem_toArray, List.getElem_cons_succ, List.getElem_cons_zero, List.setIfInBounds_toArray, List.set_cons_succ, List.set_cons_zero]
    go_wp2_with fail
    go_ret3
    refine ⟨rfl, ?_, (But.rfl.draws 1).trans (X1.out.2.trans (but_one _ _ _ _))⟩
    obtain ⟨cs1, f1, t1, x1⟩ := X1.out.1
    exact rg_tell x1
end Go.Proofs.Ytajjfklglnefkaa
