/-
  BlockKeeps: what was flushed, and not written to since, is there behind every boot; what was written since is kept, lost, or torn at one place.
-/
import Derived.Test.YtalffdiohjcajaaDbN
import Derived.Deep.QuietTactic
import Derived.BigQuiet
namespace Go.Proofs.Ytalffdiohjcajaa
open Go.RowKit
set_option maxRecDepth 8000
/-- The books behind the power. -/
structure Kp3 (w0 W : World) (d g m p q r : Nat) (x : Dv) (kb lb : Nat → Int) (tb : Nat → Bool) : Prop where
  so : Sole w0 W d g m x
  ru : Runs x 8
  ap : Arr W p 36 8 (fun i => .int .i64 (kb i))
  aq : Arr W q 36 8 (fun i => .int .i64 (lb i))
  ar : Arr W r 42 8 (fun i => .bool (tb i))
  to : ∀ k, k < 8 → Torn (x.last k) (kb k) (lb k) (tb k)
theorem Kp3.after {w0 W W' : World} {d g m p q r : Nat} {x : Dv} {kb lb : Nat → Int} {tb : Nat → Bool} (h : Kp3 w0 W d g m p q r x kb lb tb) (a : After W W') : Kp3 w0 W' d g m p q r x kb lb tb :=
  { h with so := h.so.after a, ap := h.ap.after a, aq := h.aq.after a, ar := h.ar.after a }
theorem Kp2.boots {w0 W W' : World} {d g m p q r : Nat} {x : Dv} {kb lb : Nat → Int} {tb : Nat → Bool} (h : Kp2 w0 W d g m p q r x kb lb tb) (ch : List Int) (s : Sole w0 W' d g m (x.die.boot ch)) (b : But (InD d g m) W W') : Kp3 w0 W' d g m p q r (x.die.boot ch) kb lb tb :=
  ⟨s, ⟨rfl, rfl, h.ru.s⟩, h.ap.but b h.np, h.aq.but b h.nq, h.ar.but b h.nr, fun _ hk => h.torn ch hk⟩
theorem SecAt.cell {W : World} {q : Nat} {b : List Int} (h : SecAt W q b) (hb : b.length = 64) {i : Nat} (hi : i < 64) : W.cell? ⟨q, i, none⟩ = some (.int .u8 (b.getD i 0)) := by
  refine blk_cell h ?_
  have hi' : i < b.length := by omega
  simp [u8s, hi']
set_option maxHeartbeats 4000000 in
theorem law_keeps22 (w : World) (a : Option Addr) (n c : Nat) (zs : List Int) (hz : IRow w a n zs) (a2 : Option Addr) (n2 c2 : Nat) (ys : List Int) (hy : IRow w a2 n2 ys) (a3 : Option Addr) (n3 c3 : Nat) (ch : List Int) (hc : IRow w a3 n3 ch) (hc3 : n3 ≤ c3) :
    Calls Try.prog 4 #[.slice a n c, .slice a2 n2 c2, .slice a3 n3 c3] w fun e w' => e = .returned (.bool true) ∧ After w w' := by
  have HA := hideIt (awakeB_any w)
  have HZ := hideIt hz
  have HY := hideIt hy
  have HC3 := hideIt (And.intro hc hc3)
  have HN := hideIt (fun W => sole_new W 8 (by omega) (by omega))
  clear hz hy hc hc3
  go_enter Try.func4, Try.ntmps4
  go_wp2_with fail
  refine HA.out.mono ?_
  rintro e w1 ⟨rfl, a1⟩
  have A1 := hideIt a1
  clear a1 HA
  go_wp2_with fail
  refine (HN.out w1).mono ?_
  rintro e w2 ⟨d, g, m, rfl, s2⟩
  have S2 := hideIt s2
  clear s2 HN
  go_wp2_with fail
  obtain ⟨w3, h3⟩ : ∃ V, V = w2.alloc (.cells (List.replicate 8 (.int .i64 0)).toArray 36) := ⟨_, rfl⟩
  have b3 : After w2 w3 := by rw [h3]; exact After.rfl.alloc _
  have s3 : w3.heap.size = w2.heap.size + 1 := by rw [h3]; simp
  have k3 : w3.heap[w2.heap.size]? = some (.cells (List.replicate 8 (.int .i64 0)).toArray 36 (0, 0)) := by rw [h3]; exact heap_alloc_new w2 _
  have b4 : After w3 (w3.alloc (.cells (List.replicate 8 (.int .i64 0)).toArray 36)) := After.rfl.alloc _
  have k4 := heap_alloc_new w3 (.cells (List.replicate 8 (.int .i64 0)).toArray 36)
  have hlt := S2.out.dv.lt
  have x0 : Kp1 w1 (w3.alloc (.cells (List.replicate 8 (.int .i64 0)).toArray 36)) d g m w2.heap.size w3.heap.size (Dv.new 8) (fun _ => 0) :=
    ⟨S2.out.after (b3.trans b4), Runs.new 8, (arr_rep 8 (.int .i64 0) k3).after b4, arr_rep 8 (.int .i64 0) k4, fun e => absurd (hlt _ e) (Nat.lt_irrefl _), (fun e => by have := hlt _ e; omega), by omega, S2.out.af.size, by have := S2.out.af.size; omega, fun _ _ => rfl, fun _ => by omega⟩
  rw [s3, h3] at x0
  have X0 := hideIt x0
  have HPQ := hideIt s3
  clear x0 h3 b3 k3 b4 k4 hlt s3
  generalize hp : w2.heap.size = p at *
  generalize hq : p + 1 = q at *
  clear hp HPQ w3 S2
  go_loopw [11] (fun iv wr => ∃ (j : Nat) (x : Dv) (kb : Nat → Int), j ≤ n ∧ j ≤ 60 ∧ iv = .int .i64 j ∧ Kp1 w1 wr d g m p q x kb) (fun iv _ => 60 - (intOf iv).toNat)
  case atStart => exact ⟨0, _, _, Nat.zero_le _, Nat.zero_le _, rfl, X0.out⟩
  case round =>
    obtain ⟨j, x, kb, hj, hj2, rfl, sg⟩ := hrel
    clear X0
    by_cases hgo : j < n ∧ j < 60
    · obtain ⟨hjn, hj60⟩ := hgo
      have i1 : (j : Int) < (n : Int) := by omega
      have i2 : (j : Int) < 60 := by omega
      obtain ⟨bb, off, rfl, hb, d0⟩ := HZ.out.2 j hjn
      have hb1 := Nat.lt_of_lt_of_le hb A1.out.size
      have HC := hideIt (fun V (a : After w1 V) => (a.cell hb1 (off + j)).trans ((A1.out.cell hb (off + j)).trans d0))
      have e1 := HC.out wr sg.so.af
      clear d0 hb hb1
      generalize zs.getD j 0 = z at *
      obtain ⟨k, hk, ek, hkz⟩ := and7D z
      obtain ⟨y, hy, ey, hyz⟩ := and255D (z / 8)
      clear hkz
      have HX := hideIt (And.intro sg (And.intro hyz (And.intro hy hk)))
      clear sg hyz
      have k8 : (k : Int) < 8 := by omega
      have k0 : (0 : Int) ≤ (k : Int) := by omega
      go_wp2_with fail
      refine (all_any wr _).mono ?_
      rintro e w4 ⟨q4, rfl, r4, n4, a4⟩
      have X4 := hideIt (And.intro r4 (And.intro (HX.out.1.after a4) (show q4 ≠ d by have := HX.out.1.so.dv.lt d (.inl rfl); omega)))
      clear r4 n4 a4 e1
      go_wp2_with fail
      refine (X4.out.2.1.so.writes HX.out.1.ru hk q4 64 _ X4.out.1 X4.out.2.2).mono ?_
      rintro e w5 ⟨rfl, s5, b5⟩
      obtain ⟨cp, fp, hn⟩ := X4.out.2.1.wrote HX.out.2.2.2 HX.out.2.2.1 HX.out.2.1 s5 b5
      have e5 := HC.out w5 s5.af
      have HW := hideIt hn
      clear s5 b5 hn X4
      go_upto_region 14 with fail
      obtain ⟨c6, c7, f7, s6, x6⟩ := HW.out _ rfl
      have X6 := hideIt x6
      clear HW s6 x6 cp fp e5
      generalize w5.setCell ⟨p, k, none⟩ (.int .i64 y) = w6 at *
      go_wp2_with fail
      exact ⟨⟨j + 1, _, _, by omega, by omega, by simp, X6.out⟩, by simp [intOf]; omega⟩
    · have hf := sg.so.dv.flush
      rw [sg.ru.flushE, sg.ru.flushS] at hf
      have HF := hideIt (hf.mono (fun e w' h => And.intro h.1 (And.intro (sg.so.step h.2.1 h.2.2) h.2.2)))
      have HX := hideIt sg
      clear sg hf
      have hor : ((j : Int) < (n : Int) ∧ ¬ (j : Int) < 60) ∨ ¬ (j : Int) < (n : Int) := by omega
      clear hgo
      rcases hor with ⟨i1, i2⟩ | i1
      all_goals
        go_wp2_with fail
        refine HF.out.mono ?_
        rintro e w5 ⟨rfl, s5, b5⟩
        have X5 := hideIt (HX.out.flushed s5 b5)
        clear s5 b5 HF HX i1
        generalize x.flushed = x5 at *
        go_wp2_with fail
        generalize hr : w5.heap.size = r at *
        go_loopw [14] (fun iv wr => ∃ (j : Nat) (x : Dv) (lb : Nat → Int) (tb : Nat → Bool), j ≤ n2 ∧ j ≤ 60 ∧ iv = .int .i64 j ∧ Kp2 w1 wr d g m p q r x kb lb tb) (fun iv _ => 60 - (intOf iv).toNat)
        case atStart => exact ⟨0, _, _, _, Nat.zero_le _, Nat.zero_le _, rfl, X5.out⟩
        case round =>
          obtain ⟨j', x', lb, tb, hj', hj2', rfl, sg⟩ := hrel
          clear X5 hr
          by_cases hgo : j' < n2 ∧ j' < 60
          · obtain ⟨hjn, hj60⟩ := hgo
            have i1 : (j' : Int) < (n2 : Int) := by omega
            have i2 : (j' : Int) < 60 := by omega
            obtain ⟨bb, off, rfl, hb, d0⟩ := HY.out.2 j' hjn
            have hb1 := Nat.lt_of_lt_of_le hb A1.out.size
            have HC := hideIt (fun V (a : After w1 V) => (a.cell hb1 (off + j')).trans ((A1.out.cell hb (off + j')).trans d0))
            have e1 := HC.out wr sg.so.af
            clear d0 hb hb1
            generalize ys.getD j' 0 = z at *
            obtain ⟨k, hk, ek, hkz⟩ := and7D z
            obtain ⟨y, hy, ey, hyz⟩ := and255D (z / 8)
            clear hkz
            have HX := hideIt (And.intro sg (And.intro hyz (And.intro hy hk)))
            clear sg hyz
            have k8 : (k : Int) < 8 := by omega
            have k0 : (0 : Int) ≤ (k : Int) := by omega
            go_wp2_with fail
            refine (all_any wr _).mono ?_
            rintro e w7 ⟨q4, rfl, r4, n4, a4⟩
            have X4 := hideIt (And.intro r4 (And.intro (HX.out.1.after a4) (show q4 ≠ d by have := HX.out.1.so.dv.lt d (.inl rfl); omega)))
            clear r4 n4 a4 e1
            go_wp2_with fail
            refine (X4.out.2.1.so.writes HX.out.1.ru hk q4 64 _ X4.out.1 X4.out.2.2).mono ?_
            rintro e w8 ⟨rfl, s5, b5⟩
            obtain ⟨cp, fp, hn⟩ := X4.out.2.1.wrote HX.out.2.2.2 HX.out.2.2.1 HX.out.2.1 s5 b5
            have e5 := HC.out w8 s5.af
            have HW := hideIt hn
            clear s5 b5 hn X4
            go_upto_region 25 with fail
            obtain ⟨c7, f7, s6, x6⟩ := HW.out _ rfl
            have X6 := hideIt x6
            clear HW s6 x6 cp fp e5
            generalize w8.setCell ⟨q, k, none⟩ (.int .i64 y) = w6 at *
            go_wp2_with fail
            exact ⟨⟨j' + 1, _, _, _, by omega, by omega, by simp, X6.out⟩, by simp [intOf]; omega⟩
          · have hf := sg.so.crash
            rw [show x'.chk = 0 by unfold Dv.chk; rw [sg.ru.d]; rfl] at hf
            have HF := hideIt ((dvCrash sg.so.dv).mono (fun e w' h => And.intro h.1 (And.intro (sg.so.step h.2.1 (h.2.2.mono (fun _ _ e => .inl e))) h.2.2)))
            rw [show x'.chk = 0 by unfold Dv.chk; rw [sg.ru.d]; rfl] at HF
            have HX := hideIt sg
            clear sg hf
            have hor : ((j' : Int) < (n2 : Int) ∧ ¬ (j' : Int) < 60) ∨ ¬ (j' : Int) < (n2 : Int) := by omega
            clear hgo
            rcases hor with ⟨i1, i2⟩ | i1
            all_goals
              go_wp2_with fail
              refine HF.out.mono ?_
              rintro e w5 ⟨rfl, s5, b5⟩
              have HD5 := hideIt s5.dead
              rw [show x'.die.dead = true from rfl] at HD5
              have X5 := hideIt (And.intro s5 b5)
              clear s5 b5 HF i1
              go_wp2_with fail
              refine HD5.out.mono ?_
              rintro e w6 ⟨rfl, rfl⟩
              clear HD5
              have hrow : IRow w6 a3 n3 ch := HC3.out.1.after (A1.out.trans X5.out.1.af)
              have hl : Lft w6 g (.slice a3 n3 c3) ch 0 := lft_row hrow HC3.out.2 (fun y hy h0 => by
                obtain ⟨b', o', e', hlt, _⟩ := HC3.out.1.2 0 h0
                rw [hy] at e'
                cases e'
                have h1 := X5.out.1.new g (.inr (.inl rfl))
                have h2 := A1.out.size
                show b' ≠ g
                omega)
              have HB := hideIt ((dvBoot X5.out.1.dv _ ch hl).mono (fun e w' h => And.intro h.1 (HX.out.boots ch (X5.out.1.step h.2.1 h.2.2) ((X5.out.2.mono (fun _ _ e => .inl e)).trans h.2.2))))
              clear hrow hl X5
              generalize x'.die.boot ch = xf at *
              go_wp2_with fail
              refine HB.out.mono ?_
              rintro e w7 ⟨rfl, x7⟩
              have HD7 := hideIt x7.so.dead
              rw [x7.ru.d] at HD7
              have X7 := hideIt x7
              clear x7 HB HX
              go_wp2_with fail
              refine HD7.out.mono ?_
              rintro e w8 ⟨rfl, rfl⟩
              clear HD7
              go_wp2_with fail
              go_loopw [16] (fun kv wr => ∃ k : Nat, k ≤ 8 ∧ kv = .int .i64 k ∧ Kp3 w1 wr d g m p q r xf kb lb tb) (fun kv _ => 8 - (intOf kv).toNat)
              case atStart => exact ⟨0, by omega, rfl, X7.out⟩
              case round =>
                obtain ⟨k, hk, rfl, x8⟩ := hrel
                clear X7
                by_cases hk8 : k < 8
                · have k1 : (k : Int) < 8 := by omega
                  have k0 : (0 : Int) ≤ (k : Int) := by omega
                  have HR := hideIt (x8.so.reads x8.ru hk8)
                  have HX := hideIt (And.intro x8 (And.intro (x8.to k hk8) (x8.so.dv.ok.s k)))
                  clear x8
                  generalize xf.last k = b at *
                  go_wp2_with fail
                  refine HR.out.mono ?_
                  rintro e w9 ⟨q9, rfl, k9, n9, a9⟩
                  have X9 := hideIt (And.intro (HX.out.1.after a9) (And.intro k9 (And.intro HX.out.2.1 HX.out.2.2)))
                  clear k9 n9 a9 HR HX
                  go_wp2_with fail
                  go_loopw [19] (fun iv wq => ∃ t : Nat, t ≤ 64 ∧ iv = .int .i64 t ∧ After w9 wq) (fun iv _ => 64 - (intOf iv).toNat)
                  case atStart => exact ⟨0, by omega, rfl, After.rfl⟩
                  case round =>
                    obtain ⟨t, ht, rfl, aq⟩ := hrel
                    have cr := (X9.out.1.ar.after aq).cell hk8
                    have cl := (X9.out.1.aq.after aq).cell hk8
                    have cb := fun (h : t < 64) => (X9.out.2.1.after aq).cell X9.out.2.2.2.1 h
                    have hby := fun (h : t < 64) => X9.out.2.2.2.2.at (i := t) (by rw [X9.out.2.2.2.1]; exact h)
                    have htn := X9.out.2.2.1
                    have AQ := hideIt aq
                    clear aq
                    by_cases hgo : t < 64 ∧ tb k = true ∧ b.getD t 0 = lb k
                    · obtain ⟨h1, h2, h3⟩ := hgo
                      have i1 : (t : Int) < 64 := by omega
                      have i0 : (0 : Int) ≤ (t : Int) := by omega
                      have i2 : decide ((t : Int) < 64) = true := decide_eq_true i1
                      have cb1 := cb h1
                      have hby1 := hby h1
                      rw [h3] at cb1 hby1
                      rw [h2] at cr
                      have hw : IntKind.i64.wrap (lb k) = lb k := wrapS _ hby1.1 (by omega)
                      have hw2 : wrap64 (lb k) = lb k := by unfold wrap64; have := hby1; omega
                      have he : (lb k == lb k) = true := beq_self_eq_true _
                      clear htn h3 h2 cb hby
                      generalize lb k = l at *
                      go_upto_region 35 with fail
                      go_quiet (fail)
                      go_wp2_with fail
                      exact ⟨⟨t + 1, by omega, by simp, AQ.out.draws _⟩, by simp [intOf]; omega⟩
                    · have hT : ∀ i, t ≤ i → i < 64 → b.getD i 0 = kb k := by
                        intro i h1 h2
                        refine htn t i h1 h2 ?_
                        cases hb : tb k with
                        | false => exact .inl rfl
                        | true => exact .inr (fun e => hgo ⟨by omega, hb, e⟩)
                      have HT := hideIt hT
                      have ck := fun V (a : After w9 V) => (X9.out.1.ap.after a).cell hk8
                      have cbb := fun V (a : After w9 V) (i : Nat) (h : i < 64) => (X9.out.2.1.after a).cell X9.out.2.2.2.1 h
                      have hbd := fun (i : Nat) (h : i < 64) => X9.out.2.2.2.2.at (i := i) (by rw [X9.out.2.2.2.1]; exact h)
                      have HK := hideIt (And.intro ck (And.intro cbb hbd))
                      clear hT htn ck cbb hbd
                      have hor : ¬ t < 64 ∨ (t < 64 ∧ tb k = false) ∨ (t < 64 ∧ tb k = true ∧ b.getD t 0 ≠ lb k) := by
                        by_cases h1 : t < 64
                        · cases hb : tb k with
                          | false => exact .inr (.inl ⟨h1, rfl⟩)
                          | true => exact .inr (.inr ⟨h1, rfl, fun e => hgo ⟨h1, hb, e⟩⟩)
                        · exact .inl h1
                      clear hgo
                      rcases hor with h1 | ⟨h1, h2⟩ | ⟨h1, h2, h3⟩
                      · obtain rfl : t = 64 := by omega
                        have i2 : decide (((64 : Nat) : Int) < 64) = false := rfl
                        clear cr cl cb hby
                        go_upto_region 35 with fail
                        go_quiet (fail)
                        go_wp2_with fail
                        go_loopw [20] (fun iv wq => ∃ i : Nat, 64 ≤ i ∧ i ≤ 64 ∧ iv = .int .i64 i ∧ After w9 wq) (fun iv _ => 64 - (intOf iv).toNat)
                        case atStart => exact ⟨64, Nat.le_refl _, by omega, rfl, AQ.out.draws _⟩
                        case round =>
                          obtain ⟨i, hti, hi, rfl, aq⟩ := hrel
                          have ck := HK.out.1 _ aq
                          by_cases h64 : i < 64
                          · have j1 : (i : Int) < 64 := by omega
                            have j0 : (0 : Int) ≤ (i : Int) := by omega
                            have cbi := HK.out.2.1 _ aq i h64
                            have hbi := HK.out.2.2 i h64
                            rw [HT.out i hti h64] at cbi hbi
                            have hw3 : IntKind.i64.wrap (kb k) = kb k := wrapS _ hbi.1 (by omega)
                            have hw4 : wrap64 (kb k) = kb k := by unfold wrap64; have := hbi; omega
                            have hne : (kb k != kb k) = false := bne_self_eq_false _
                            have AQ2 := hideIt aq
                            clear aq HT HK
                            generalize kb k = v at *
                            go_upto_region 40 with fail
                            go_quiet (fail)
                            go_wp2_with fail
                            exact ⟨⟨i + 1, by omega, by omega, by simp, AQ2.out.draws _⟩, by simp [intOf]; omega⟩
                          · have j1 : ¬ (i : Int) < 64 := by omega
                            have AQ2 := hideIt aq
                            clear aq
                            go_wp2_with fail
                            exact ⟨⟨k + 1, by omega, by simp, X9.out.1.after AQ2.out⟩, by simp [intOf]; omega⟩
                      · have i1 : (t : Int) < 64 := by omega
                        have i2 : decide ((t : Int) < 64) = true := decide_eq_true i1
                        rw [h2] at cr
                        clear cl cb hby h2
                        go_upto_region 35 with fail
                        go_quiet (fail)
                        go_wp2_with fail
                        go_loopw [20] (fun iv wq => ∃ i : Nat, t ≤ i ∧ i ≤ 64 ∧ iv = .int .i64 i ∧ After w9 wq) (fun iv _ => 64 - (intOf iv).toNat)
                        case atStart => exact ⟨t, Nat.le_refl _, by omega, rfl, AQ.out.draws _⟩
                        case round =>
                          obtain ⟨i, hti, hi, rfl, aq⟩ := hrel
                          have ck := HK.out.1 _ aq
                          by_cases h64 : i < 64
                          · have j1 : (i : Int) < 64 := by omega
                            have j0 : (0 : Int) ≤ (i : Int) := by omega
                            have cbi := HK.out.2.1 _ aq i h64
                            have hbi := HK.out.2.2 i h64
                            rw [HT.out i hti h64] at cbi hbi
                            have hw3 : IntKind.i64.wrap (kb k) = kb k := wrapS _ hbi.1 (by omega)
                            have hw4 : wrap64 (kb k) = kb k := by unfold wrap64; have := hbi; omega
                            have hne : (kb k != kb k) = false := bne_self_eq_false _
                            have AQ2 := hideIt aq
                            clear aq HT HK
                            generalize kb k = v at *
                            go_upto_region 40 with fail
                            go_quiet (fail)
                            go_wp2_with fail
                            exact ⟨⟨i + 1, by omega, by omega, by simp, AQ2.out.draws _⟩, by simp [intOf]; omega⟩
                          · have j1 : ¬ (i : Int) < 64 := by omega
                            have AQ2 := hideIt aq
                            clear aq
                            go_wp2_with fail
                            exact ⟨⟨k + 1, by omega, by simp, X9.out.1.after AQ2.out⟩, by simp [intOf]; omega⟩
                      · have i1 : (t : Int) < 64 := by omega
                        have i2 : decide ((t : Int) < 64) = true := decide_eq_true i1
                        have i0 : (0 : Int) ≤ (t : Int) := by omega
                        have cb1 := cb h1
                        have hby1 := hby h1
                        have hw : IntKind.i64.wrap (b.getD t 0) = b.getD t 0 := wrapS _ hby1.1 (by omega)
                        have he : (b.getD t 0 == lb k) = false := by simpa using h3
                        rw [h2] at cr
                        clear h2 h3 cb hby
                        generalize b.getD t 0 = y at *
                        generalize lb k = l at *
                        have hw2 : wrap64 y = y := by unfold wrap64; have := hby1; omega
                        go_upto_region 35 with fail
                        go_quiet (fail)
                        go_wp2_with fail
                        go_loopw [20] (fun iv wq => ∃ i : Nat, t ≤ i ∧ i ≤ 64 ∧ iv = .int .i64 i ∧ After w9 wq) (fun iv _ => 64 - (intOf iv).toNat)
                        case atStart => exact ⟨t, Nat.le_refl _, by omega, rfl, AQ.out.draws _⟩
                        case round =>
                          obtain ⟨i, hti, hi, rfl, aq⟩ := hrel
                          have ck := HK.out.1 _ aq
                          by_cases h64 : i < 64
                          · have j1 : (i : Int) < 64 := by omega
                            have j0 : (0 : Int) ≤ (i : Int) := by omega
                            have cbi := HK.out.2.1 _ aq i h64
                            have hbi := HK.out.2.2 i h64
                            rw [HT.out i hti h64] at cbi hbi
                            have hw3 : IntKind.i64.wrap (kb k) = kb k := wrapS _ hbi.1 (by omega)
                            have hw4 : wrap64 (kb k) = kb k := by unfold wrap64; have := hbi; omega
                            have hne : (kb k != kb k) = false := bne_self_eq_false _
                            have AQ2 := hideIt aq
                            clear aq HT HK
                            generalize kb k = v at *
                            go_upto_region 40 with fail
                            go_quiet (fail)
                            go_wp2_with fail
                            exact ⟨⟨i + 1, by omega, by omega, by simp, AQ2.out.draws _⟩, by simp [intOf]; omega⟩
                          · have j1 : ¬ (i : Int) < 64 := by omega
                            have AQ2 := hideIt aq
                            clear aq
                            go_wp2_with fail
                            exact ⟨⟨k + 1, by omega, by simp, X9.out.1.after AQ2.out⟩, by simp [intOf]; omega⟩
                · have j1 : ¬ (k : Int) < 8 := by omega
                  have A8 := hideIt x8.so.af
                  clear x8
                  go_wp2_with fail
                  go_ret
                  exact ⟨rfl, A1.out.trans A8.out⟩
end Go.Proofs.Ytalffdiohjcajaa
