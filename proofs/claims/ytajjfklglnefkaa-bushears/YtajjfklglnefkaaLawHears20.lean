/-
  BusHears: a listener hears just what was told of its topic, in order; of what it lost it hears how much that is.
-/
import Derived.Test.YtajjfklglnefkaaBuQ
namespace Go.Proofs.Ytajjfklglnefkaa
open Go.RowKit
set_option maxRecDepth 8000
abbrev tpC : Array Value := #[.int .i64 0, .int .i64 1, .int .i64 1, .int .i64 2]
theorem tp_cell {W : World} {q : Nat} (h : W.heap[q]? = some (.cells tpC 3 (0, 0))) {k : Nat} (hk : k < 4) : W.cell? ⟨q, k, none⟩ = some (.int .i64 (tp k)) := by
  refine blk_cell h ?_
  rcases (by omega : k = 0 ∨ k = 1 ∨ k = 2 ∨ k = 3) with rfl | rfl | rfl | rfl <;> rfl
set_option maxHeartbeats 4000000 in
theorem law_hears20 (w : World) (a : Option Addr) (n c : Nat) (zs : List Int) (hz : IRow w a n zs) (hzb : ∀ z ∈ zs, -9223372036854775808 ≤ z ∧ z ≤ 9223372036854775807) :
    Calls Try.prog 4 #[.slice a n c] w fun e w' => e = .returned (.bool true) ∧ After w w' := by
  have HA := hideIt (awake_any w)
  have HZ := hideIt (And.intro hz hzb)
  have HN := hideIt (fun W => sole_new (w := W) (n := 3) (fr := 1) (by omega) (by omega) (by omega) (by omega))
  clear hz hzb
  go_enter Try.func4, Try.ntmps4
  go_wp2_with fail
  refine HA.out.mono ?_
  rintro e w1 ⟨rfl, a1⟩
  have A1 := hideIt a1
  clear a1 HA
  go_wp2_with fail
  refine (HN.out w1).mono ?_
  rintro e w2 ⟨rfl, x2⟩
  have X2 := hideIt (hs_new x2 tpC rfl)
  clear x2 HN
  go_wp2_with fail
  go_loopw [7] (fun iv wr => ∃ j : Nat, j ≤ 4 ∧ iv = .int .i64 j ∧ Hs w1 wr w1.heap.size (w2.heap.size + 1) w2.heap.size (.cells tpC 3 (0, 0)) (jn j) (fun _ => [])) (fun iv _ => 4 - (intOf iv).toNat)
  case atStart => exact ⟨0, Nat.zero_le _, rfl, X2.out⟩
  case round =>
    obtain ⟨j, hj, rfl, x⟩ := hrel
    clear X2
    by_cases hj4 : j < 4
    · have i1 : (j : Int) < 4 := by omega
      have i0 : (0 : Int) ≤ (j : Int) := by omega
      have e1 := tp_cell x.lie hj4
      have HJ := x.join (tp j)
      rw [jn_says j hj4, show (jn j).joinS (tp j) = jn (j + 1) from rfl] at HJ
      have HJ := hideIt HJ
      have s1 : ((j : Int) != (j : Int)) = false := by simp
      clear x
      generalize tp j = t at *
      go_wp2_with fail
      refine HJ.out.mono ?_
      rintro e w3 ⟨rfl, x3⟩
      have X3 := hideIt x3
      clear x3 HJ e1
      go_wp2_with fail
      go_roundw
      case rel => exact ⟨j + 1, by omega, by go_num, X3.out⟩
      case measure => simp [intOf]; omega
    · have i1 : ¬ (j : Int) < 4 := by omega
      have e4 : j = 4 := by omega
      rw [e4] at x
      have X4 := hideIt x
      clear x hj hj4 e4
      obtain ⟨j0, hj0⟩ : ∃ j0 : Nat, j0 = j := ⟨_, rfl⟩
      rw [← hj0] at i1 ⊢
      clear hj0
      go_wp2_with fail
      go_loopw [10] (fun iv wr => ∃ (j : Nat) (b : Bz) (B : Nat → List Int), j ≤ n ∧ j ≤ 200 ∧ iv = .int .i64 j ∧ Says b B j ∧ Hs w1 wr w1.heap.size (w2.heap.size + 1) w2.heap.size (.cells tpC 3 (0, 0)) b B) (fun iv _ => 200 - (intOf iv).toNat)
      case atStart => exact ⟨0, jn 4, fun _ => [], Nat.zero_le _, Nat.zero_le _, rfl, says_new, X4.out⟩
      case round =>
        obtain ⟨j, b, B, hj, hj2, rfl, hs, x⟩ := hrel
        clear X4
        by_cases hgo : j < n ∧ j < 200
        · obtain ⟨hjn, hj200⟩ := hgo
          have i1 : (j : Int) < (n : Int) := by omega
          have i2 : (j : Int) < 200 := by omega
          obtain ⟨bb, off, rfl, hb, d0⟩ := HZ.out.1.2 j hjn
          have hzj : -9223372036854775808 ≤ zs.getD j 0 ∧ zs.getD j 0 ≤ 9223372036854775807 := HZ.out.2 _ (by
            have hl : j < zs.length := by have := HZ.out.1.1; omega
            simp [List.getD_eq_getElem?_getD, List.getElem?_eq_getElem hl])
          have e0 := ((A1.out.trans x.aft).cell hb (off + j)).trans d0
          clear d0 hb
          generalize zs.getD j 0 = X at *
          have HX := hideIt (And.intro hs (And.intro x (And.intro hjn hj200)))
          by_cases hX : 0 ≤ X
          · obtain ⟨T, hT, hT3⟩ : ∃ T : Nat, X % 3 = (T : Int) ∧ T < 3 := ⟨(X % 3).toNat, by omega, by omega⟩
            have HT := x.tell (hs.upto.mono (by omega)) (T : Int) (j : Int)
            rw [hs.tellA hT3] at HT
            have hS := hs.tell hT3 (j : Int)
            have HT := hideIt HT
            have HS := hideIt hS
            clear x hs hj hj2 hS hzj
            generalize b.tellS (T : Int) (j : Int) = b2 at *
            rcases (by omega : T = 0 ∨ T = 1 ∨ T = 2) with rfl | rfl | rfl
            · have hT : X % 3 = 0 := hT
              have hT1 : Calls Try.prog 12 #[Ptr w1.heap.size, .int .i64 0, .int .i64 (j : Int)] wr fun e w' => e = .returned (.tuple #[.int .i64 1, .int .i64 0]) ∧ Hs w1 w' w1.heap.size (w2.heap.size + 1) w2.heap.size (.cells tpC 3 (0, 0)) b2 B := HT.out
              have hS1 : Says b2 (told 0 (j : Int) B) (j + 1) := HS.out
              have HT1 := hideIt hT1
              have HS1 := hideIt hS1
              clear hT3 HT HS hT1 hS1
              go_wp2_with fail
              refine HT1.out.mono ?_
              rintro e w5 ⟨rfl, x5⟩
              have X5 := hideIt x5
              clear x5 HT1 e0
              go_wp2_with fail
              go_loopw [15] (fun mv wq => ∃ m : Nat, m ≤ 4 ∧ mv = .int .i64 m ∧ Hs w1 wq w1.heap.size (w2.heap.size + 1) w2.heap.size (.cells tpC 3 (0, 0)) b2 (fun i => if i < m then told 0 (j : Int) B i else B i)) (fun mv _ => 4 - (intOf mv).toNat)
              case atStart => exact ⟨0, Nat.zero_le _, rfl, X5.out.same (fun k _ => by show B k = if k < 0 then _ else B k; rw [if_neg (by omega)])⟩
              case round =>
                obtain ⟨m, hm, rfl, x⟩ := hrel
                clear X5
                by_cases hm4 : m < 4
                · have m1 : (m : Int) < 4 := by omega
                  have m0 : (0 : Int) ≤ (m : Int) := by omega
                  have e1 := tp_cell x.lie hm4
                  obtain ⟨Bm, hBm⟩ : ∃ Bm : Nat → List Int, Bm = fun i => if i < m then told 0 (j : Int) B i else B i := ⟨_, rfl⟩
                  rw [← hBm] at x
                  have hBmm : Bm m = B m := by rw [hBm]; show (if m < m then _ else B m) = B m; rw [if_neg (by omega)]
                  by_cases g : tp m = 0
                  · rw [g] at e1
                    obtain ⟨a', c', k1, o1, k2⟩ := x.write hm4 (j : Int)
                    have hfew : (Bm m).length ≤ 1000 := by rw [hBmm]; have := HX.out.1.few m hm4; have := HX.out.2.2.2; omega
                    have HK := hideIt (And.intro o1 (And.intro k2 hfew))
                    have HM := hideIt (And.intro hBm (And.intro hBmm g))
                    clear o1 k2 hfew x hBm hBmm g
                    go_wp2_with (at_builtin; go_must (refine app_lie (E := inE) rfl (.tmp 99) (.tmp 101) 36 3 Try.underlying36 Try.infoInt rfl (by decide) rfl _ (Bm m) rfl HK.out.1 ⟨wr.heap.size, 0, none⟩ 1 (j : Int) rfl (lit_row (heap_alloc_new wr _) rfl rfl) HK.out.2.2 ?_))
                    intro gg cap w7 o7 b7 at7 lt7
                    have e7 : (wr.alloc (.cells #[.int .i64 (j : Int)] 3)).heap.size = wr.heap.size + 1 := by simp
                    have k3 := HK.out.2.1 gg cap w7 o7 b7 (by rw [e7]; exact at7) lt7
                    obtain ⟨⟨u7, q1⟩, q2, x7⟩ := k3
                    have X7 := hideIt x7
                    clear o7 b7 at7 lt7 x7 HK e7 k1 e1
                    go_wp2_with fail
                    go_roundw
                    case rel =>
                      obtain ⟨hBm, hBmm, g⟩ := HM.out
                      refine ⟨m + 1, by omega, by go_num, X7.out.same (fun k hk => ?_)⟩
                      show writ m (j : Int) Bm k = if k < m + 1 then told 0 (j : Int) B k else B k
                      unfold writ
                      by_cases e : k = m
                      · subst e
                        rw [if_pos rfl, if_pos (by omega), hBmm]
                        unfold told
                        rw [if_pos g]
                      · rw [if_neg e, hBm]
                        show (if k < m then _ else B k) = _
                        by_cases e' : k < m
                        · rw [if_pos e', if_pos (by omega)]
                        · rw [if_neg e', if_neg (by omega)]
                    case measure => simp [intOf]; omega
                  · have gb : (tp m == 0) = false := by simpa using g
                    have X7 := hideIt x
                    have HM := hideIt (And.intro hBm (And.intro hBmm g))
                    clear x hBm hBmm g
                    generalize hU : tp m = U at *
                    have HU := hideIt hU
                    clear hU
                    go_wp2_with fail
                    go_roundw
                    case rel =>
                      obtain ⟨hBm, hBmm, g⟩ := HM.out
                      rw [← HU.out] at g
                      refine ⟨m + 1, by omega, by go_num, X7.out.same (fun k hk => ?_)⟩
                      show Bm k = if k < m + 1 then told 0 (j : Int) B k else B k
                      by_cases e : k = m
                      · subst e
                        rw [if_pos (by omega), hBmm]
                        unfold told
                        rw [if_neg g]
                      · rw [hBm]
                        show (if k < m then _ else B k) = _
                        by_cases e' : k < m
                        · rw [if_pos e', if_pos (by omega)]
                        · rw [if_neg e', if_neg (by omega)]
                    case measure => simp [intOf]; omega
                · obtain rfl : m = 4 := by omega
                  have X8 := hideIt x
                  clear x hm hm4
                  go_wp2_with fail
                  go_roundw
                  case rel => exact ⟨j + 1, b2, _, HX.out.2.2.1, HX.out.2.2.2, by go_num, HS1.out.same (fun k hk => by show told 0 (j : Int) B k = if k < 4 then _ else _; rw [if_pos hk]), X8.out⟩
                  case measure => simp [intOf]; omega
            · have hT : X % 3 = 1 := hT
              have hT1 : Calls Try.prog 12 #[Ptr w1.heap.size, .int .i64 1, .int .i64 (j : Int)] wr fun e w' => e = .returned (.tuple #[.int .i64 2, .int .i64 0]) ∧ Hs w1 w' w1.heap.size (w2.heap.size + 1) w2.heap.size (.cells tpC 3 (0, 0)) b2 B := HT.out
              have hS1 : Says b2 (told 1 (j : Int) B) (j + 1) := HS.out
              have HT1 := hideIt hT1
              have HS1 := hideIt hS1
              clear hT3 HT HS hT1 hS1
              go_wp2_with fail
              refine HT1.out.mono ?_
              rintro e w5 ⟨rfl, x5⟩
              have X5 := hideIt x5
              clear x5 HT1 e0
              go_wp2_with fail
              go_loopw [15] (fun mv wq => ∃ m : Nat, m ≤ 4 ∧ mv = .int .i64 m ∧ Hs w1 wq w1.heap.size (w2.heap.size + 1) w2.heap.size (.cells tpC 3 (0, 0)) b2 (fun i => if i < m then told 1 (j : Int) B i else B i)) (fun mv _ => 4 - (intOf mv).toNat)
              case atStart => exact ⟨0, Nat.zero_le _, rfl, X5.out.same (fun k _ => by show B k = if k < 0 then _ else B k; rw [if_neg (by omega)])⟩
              case round =>
                obtain ⟨m, hm, rfl, x⟩ := hrel
                clear X5
                by_cases hm4 : m < 4
                · have m1 : (m : Int) < 4 := by omega
                  have m0 : (0 : Int) ≤ (m : Int) := by omega
                  have e1 := tp_cell x.lie hm4
                  obtain ⟨Bm, hBm⟩ : ∃ Bm : Nat → List Int, Bm = fun i => if i < m then told 1 (j : Int) B i else B i := ⟨_, rfl⟩
                  rw [← hBm] at x
                  have hBmm : Bm m = B m := by rw [hBm]; show (if m < m then _ else B m) = B m; rw [if_neg (by omega)]
                  by_cases g : tp m = 1
                  · rw [g] at e1
                    obtain ⟨a', c', k1, o1, k2⟩ := x.write hm4 (j : Int)
                    have hfew : (Bm m).length ≤ 1000 := by rw [hBmm]; have := HX.out.1.few m hm4; have := HX.out.2.2.2; omega
                    have HK := hideIt (And.intro o1 (And.intro k2 hfew))
                    have HM := hideIt (And.intro hBm (And.intro hBmm g))
                    clear o1 k2 hfew x hBm hBmm g
                    go_wp2_with (at_builtin; go_must (refine app_lie (E := inE) rfl (.tmp 99) (.tmp 101) 36 3 Try.underlying36 Try.infoInt rfl (by decide) rfl _ (Bm m) rfl HK.out.1 ⟨wr.heap.size, 0, none⟩ 1 (j : Int) rfl (lit_row (heap_alloc_new wr _) rfl rfl) HK.out.2.2 ?_))
                    intro gg cap w7 o7 b7 at7 lt7
                    have e7 : (wr.alloc (.cells #[.int .i64 (j : Int)] 3)).heap.size = wr.heap.size + 1 := by simp
                    have k3 := HK.out.2.1 gg cap w7 o7 b7 (by rw [e7]; exact at7) lt7
                    obtain ⟨⟨u7, q1⟩, q2, x7⟩ := k3
                    have X7 := hideIt x7
                    clear o7 b7 at7 lt7 x7 HK e7 k1 e1
                    go_wp2_with fail
                    go_roundw
                    case rel =>
                      obtain ⟨hBm, hBmm, g⟩ := HM.out
                      refine ⟨m + 1, by omega, by go_num, X7.out.same (fun k hk => ?_)⟩
                      show writ m (j : Int) Bm k = if k < m + 1 then told 1 (j : Int) B k else B k
                      unfold writ
                      by_cases e : k = m
                      · subst e
                        rw [if_pos rfl, if_pos (by omega), hBmm]
                        unfold told
                        rw [if_pos g]
                      · rw [if_neg e, hBm]
                        show (if k < m then _ else B k) = _
                        by_cases e' : k < m
                        · rw [if_pos e', if_pos (by omega)]
                        · rw [if_neg e', if_neg (by omega)]
                    case measure => simp [intOf]; omega
                  · have gb : (tp m == 1) = false := by simpa using g
                    have X7 := hideIt x
                    have HM := hideIt (And.intro hBm (And.intro hBmm g))
                    clear x hBm hBmm g
                    generalize hU : tp m = U at *
                    have HU := hideIt hU
                    clear hU
                    go_wp2_with fail
                    go_roundw
                    case rel =>
                      obtain ⟨hBm, hBmm, g⟩ := HM.out
                      rw [← HU.out] at g
                      refine ⟨m + 1, by omega, by go_num, X7.out.same (fun k hk => ?_)⟩
                      show Bm k = if k < m + 1 then told 1 (j : Int) B k else B k
                      by_cases e : k = m
                      · subst e
                        rw [if_pos (by omega), hBmm]
                        unfold told
                        rw [if_neg g]
                      · rw [hBm]
                        show (if k < m then _ else B k) = _
                        by_cases e' : k < m
                        · rw [if_pos e', if_pos (by omega)]
                        · rw [if_neg e', if_neg (by omega)]
                    case measure => simp [intOf]; omega
                · obtain rfl : m = 4 := by omega
                  have X8 := hideIt x
                  clear x hm hm4
                  go_wp2_with fail
                  go_roundw
                  case rel => exact ⟨j + 1, b2, _, HX.out.2.2.1, HX.out.2.2.2, by go_num, HS1.out.same (fun k hk => by show told 1 (j : Int) B k = if k < 4 then _ else _; rw [if_pos hk]), X8.out⟩
                  case measure => simp [intOf]; omega
            · have hT : X % 3 = 2 := hT
              have hT1 : Calls Try.prog 12 #[Ptr w1.heap.size, .int .i64 2, .int .i64 (j : Int)] wr fun e w' => e = .returned (.tuple #[.int .i64 1, .int .i64 0]) ∧ Hs w1 w' w1.heap.size (w2.heap.size + 1) w2.heap.size (.cells tpC 3 (0, 0)) b2 B := HT.out
              have hS1 : Says b2 (told 2 (j : Int) B) (j + 1) := HS.out
              have HT1 := hideIt hT1
              have HS1 := hideIt hS1
              clear hT3 HT HS hT1 hS1
              go_wp2_with fail
              refine HT1.out.mono ?_
              rintro e w5 ⟨rfl, x5⟩
              have X5 := hideIt x5
              clear x5 HT1 e0
              go_wp2_with fail
              go_loopw [15] (fun mv wq => ∃ m : Nat, m ≤ 4 ∧ mv = .int .i64 m ∧ Hs w1 wq w1.heap.size (w2.heap.size + 1) w2.heap.size (.cells tpC 3 (0, 0)) b2 (fun i => if i < m then told 2 (j : Int) B i else B i)) (fun mv _ => 4 - (intOf mv).toNat)
              case atStart => exact ⟨0, Nat.zero_le _, rfl, X5.out.same (fun k _ => by show B k = if k < 0 then _ else B k; rw [if_neg (by omega)])⟩
              case round =>
                obtain ⟨m, hm, rfl, x⟩ := hrel
                clear X5
                by_cases hm4 : m < 4
                · have m1 : (m : Int) < 4 := by omega
                  have m0 : (0 : Int) ≤ (m : Int) := by omega
                  have e1 := tp_cell x.lie hm4
                  obtain ⟨Bm, hBm⟩ : ∃ Bm : Nat → List Int, Bm = fun i => if i < m then told 2 (j : Int) B i else B i := ⟨_, rfl⟩
                  rw [← hBm] at x
                  have hBmm : Bm m = B m := by rw [hBm]; show (if m < m then _ else B m) = B m; rw [if_neg (by omega)]
                  by_cases g : tp m = 2
                  · rw [g] at e1
                    obtain ⟨a', c', k1, o1, k2⟩ := x.write hm4 (j : Int)
                    have hfew : (Bm m).length ≤ 1000 := by rw [hBmm]; have := HX.out.1.few m hm4; have := HX.out.2.2.2; omega
                    have HK := hideIt (And.intro o1 (And.intro k2 hfew))
                    have HM := hideIt (And.intro hBm (And.intro hBmm g))
                    clear o1 k2 hfew x hBm hBmm g
                    go_wp2_with (at_builtin; go_must (refine app_lie (E := inE) rfl (.tmp 99) (.tmp 101) 36 3 Try.underlying36 Try.infoInt rfl (by decide) rfl _ (Bm m) rfl HK.out.1 ⟨wr.heap.size, 0, none⟩ 1 (j : Int) rfl (lit_row (heap_alloc_new wr _) rfl rfl) HK.out.2.2 ?_))
                    intro gg cap w7 o7 b7 at7 lt7
                    have e7 : (wr.alloc (.cells #[.int .i64 (j : Int)] 3)).heap.size = wr.heap.size + 1 := by simp
                    have k3 := HK.out.2.1 gg cap w7 o7 b7 (by rw [e7]; exact at7) lt7
                    obtain ⟨⟨u7, q1⟩, q2, x7⟩ := k3
                    have X7 := hideIt x7
                    clear o7 b7 at7 lt7 x7 HK e7 k1 e1
                    go_wp2_with fail
                    go_roundw
                    case rel =>
                      obtain ⟨hBm, hBmm, g⟩ := HM.out
                      refine ⟨m + 1, by omega, by go_num, X7.out.same (fun k hk => ?_)⟩
                      show writ m (j : Int) Bm k = if k < m + 1 then told 2 (j : Int) B k else B k
                      unfold writ
                      by_cases e : k = m
                      · subst e
                        rw [if_pos rfl, if_pos (by omega), hBmm]
                        unfold told
                        rw [if_pos g]
                      · rw [if_neg e, hBm]
                        show (if k < m then _ else B k) = _
                        by_cases e' : k < m
                        · rw [if_pos e', if_pos (by omega)]
                        · rw [if_neg e', if_neg (by omega)]
                    case measure => simp [intOf]; omega
                  · have gb : (tp m == 2) = false := by simpa using g
                    have X7 := hideIt x
                    have HM := hideIt (And.intro hBm (And.intro hBmm g))
                    clear x hBm hBmm g
                    generalize hU : tp m = U at *
                    have HU := hideIt hU
                    clear hU
                    go_wp2_with fail
                    go_roundw
                    case rel =>
                      obtain ⟨hBm, hBmm, g⟩ := HM.out
                      rw [← HU.out] at g
                      refine ⟨m + 1, by omega, by go_num, X7.out.same (fun k hk => ?_)⟩
                      show Bm k = if k < m + 1 then told 2 (j : Int) B k else B k
                      by_cases e : k = m
                      · subst e
                        rw [if_pos (by omega), hBmm]
                        unfold told
                        rw [if_neg g]
                      · rw [hBm]
                        show (if k < m then _ else B k) = _
                        by_cases e' : k < m
                        · rw [if_pos e', if_pos (by omega)]
                        · rw [if_neg e', if_neg (by omega)]
                    case measure => simp [intOf]; omega
                · obtain rfl : m = 4 := by omega
                  have X8 := hideIt x
                  clear x hm hm4
                  go_wp2_with fail
                  go_roundw
                  case rel => exact ⟨j + 1, b2, _, HX.out.2.2.1, HX.out.2.2.2, by go_num, HS1.out.same (fun k hk => by show told 2 (j : Int) B k = if k < 4 then _ else _; rw [if_pos hk]), X8.out⟩
                  case measure => simp [intOf]; omega
          · have hX' : X < 0 := by omega
            have HB := hideIt (fun V => bring_any X 4 V hzj.1 hzj.2 (by decide) (by decide))
            have hk := broughtTo_lt X (m := 4) (by decide)
            generalize broughtTo X 4 = k at *
            have hk0 : (0 : Int) ≤ (k : Int) := by omega
            have hk4 : (k : Int) < 4 := by omega
            have HH := x.hear (k : Int)
            rw [(hs.hearA hk).1, (hs.hearA hk).2] at HH
            have HS := hideIt (hs.hear hk)
            have hfew := hs.few k hk
            have HH := hideIt HH
            clear x hs hj hj2 hzj
            generalize b.hearS (k : Int) = b2 at *
            obtain ⟨G, hG⟩ : ∃ G, G = (B k).length - 16 := ⟨_, rfl⟩
            rw [← hG] at HH
            go_wp2_with fail
            refine (HB.out wr).mono ?_
            rintro e w5 ⟨rfl, hw5⟩
            obtain rfl := hw5.symm
            clear HB e0
            go_wp2_with fail
            refine HH.out.mono ?_
            rintro e w6 ⟨v, rfl, hv, x6⟩
            obtain ⟨av, cv, ev, hr, _⟩ := own_irow hv
            subst ev
            obtain ⟨a', c', k1, f1, r1, n1, le1⟩ := x6.book hk
            have X6 := hideIt x6
            obtain ⟨Ln, hLn⟩ : ∃ Ln, Ln = (B k).length := ⟨_, rfl⟩
            have hdl : ((B k).drop G).length = Ln - G := by rw [List.length_drop, hLn]
            rw [hdl] at hr ⊢
            rw [← hLn] at k1 r1 n1 le1 hfew hG
            have l1 : (Ln : Int) ≤ 200 := by omega
            have HLn := hideIt (And.intro hLn hdl)
            clear x6 HH hv hLn hdl
            rcases (by omega : (Ln = 0 ∧ G = 0) ∨ (0 < Ln ∧ Ln < 16 ∧ G = 0) ∨ (16 ≤ Ln ∧ Ln = G + 16)) with ⟨rfl, rfl⟩ | ⟨hL1, hL2, rfl⟩ | ⟨hL1, rfl⟩
            · have eB : (B k).drop 0 = [] := List.length_eq_zero_iff.1 (by have := HLn.out.2; omega)
              rw [eB] at hr
              have HE := eqInts_any w6 av a' 0 0 cv c' [] [] hr (IRow.nil w6 a') (by omega)
              rw [show decide (([] : List Int) = []) = true from rfl] at HE
              have HE := hideIt HE
              clear hr eB r1 hG n1 le1 hfew
              go_wp2_with fail
              all_goals
                refine HE.out.mono ?_
                rintro e w7 ⟨rfl, a7⟩
                have q1 := (X6.out.after a7).book hk
                obtain ⟨a8, c8, q1, q2, _⟩ := q1
                have X7 := hideIt ((X6.out.after a7).wipe hk)
                clear a7 HE
                go_wp2_with fail
                go_roundw
                case rel => exact ⟨j + 1, b2, wiped k B, HX.out.2.2.1, HX.out.2.2.2, by go_num, HS.out, X7.out⟩
                case measure => simp [intOf]; omega
            · obtain ⟨bk, ok, rfl, _, _⟩ := r1.2 0 (by omega)
              rw [List.drop_zero] at hr
              have HE := eqInts_any w6 av (some ⟨bk, ok, none⟩) Ln Ln cv c' (B k) (B k) hr r1 (by omega)
              rw [show decide (B k = B k) = true from decide_eq_true rfl] at HE
              have HE := hideIt HE
              have g1 : (0 : Int) < (Ln : Int) := by omega
              have g2 : (Ln : Int) ≤ (c' : Int) := by omega
              have g3 : (Ln : Int) < 16 := by omega
              have g4 : max ((Ln : Int) - 16) 0 = 0 := by omega
              clear hr r1 hG n1 le1 hfew hL1 hL2
              go_wp2_with fail
              refine HE.out.mono ?_
              rintro e w7 ⟨rfl, a7⟩
              have q1 := (X6.out.after a7).book hk
              obtain ⟨a8, c8, q1, q2, _⟩ := q1
              have X7 := hideIt ((X6.out.after a7).wipe hk)
              clear a7 HE
              go_wp2_with fail
              go_roundw
              case rel => exact ⟨j + 1, b2, wiped k B, HX.out.2.2.1, HX.out.2.2.2, by go_num, HS.out, X7.out⟩
              case measure => simp [intOf]; omega
            · obtain ⟨bk, ok, rfl, _, _⟩ := r1.2 0 (by omega)
              have r2 := r1.drop (k := G) (by omega)
              rw [show G + 16 - G = 16 by omega] at hr r2
              have HE := eqInts_any w6 av (some ⟨bk, ok + G, none⟩) 16 16 cv (c' - G) ((B k).drop G) ((B k).drop G) hr r2 (by omega)
              rw [show decide ((B k).drop G = (B k).drop G) = true from decide_eq_true rfl] at HE
              have HE := hideIt HE
              have g1 : (0 : Int) ≤ (G : Int) := by omega
              have g2 : (G : Int) + 16 ≤ (c' : Int) := by omega
              have g3 : ¬ c' - G = 0 := by omega
              have g4 : max (G : Int) 0 = (G : Int) := by omega
              have s1 : ((G : Int) != (G : Int)) = false := by simp
              clear hr r1 r2 hG n1 le1 hfew hL1
              go_wp2_with fail
              refine HE.out.mono ?_
              rintro e w7 ⟨rfl, a7⟩
              have q1 := (X6.out.after a7).book hk
              obtain ⟨a8, c8, q1, q2, _⟩ := q1
              have X7 := hideIt ((X6.out.after a7).wipe hk)
              clear a7 HE
              go_wp2_with fail
              go_roundw
              case rel => exact ⟨j + 1, b2, wiped k B, HX.out.2.2.1, HX.out.2.2.2, by go_num, HS.out, X7.out⟩
              case measure => simp [intOf]; omega
        · have AF := hideIt x.aft
          have hdd : (j < n ∧ ¬ j < 200) ∨ ¬ j < n := by omega
          clear x hgo hs
          rcases hdd with ⟨q1, q2⟩ | q1
          · have i1 : (j : Int) < (n : Int) := by omega
            have i2 : ¬ (j : Int) < 200 := by omega
            go_wp2_with fail
            go_ret
            exact ⟨rfl, A1.out.trans AF.out⟩
          · have i1 : ¬ (j : Int) < (n : Int) := by omega
            go_wp2_with fail
            go_ret
            exact ⟨rfl, A1.out.trans AF.out⟩
end Go.Proofs.Ytajjfklglnefkaa
