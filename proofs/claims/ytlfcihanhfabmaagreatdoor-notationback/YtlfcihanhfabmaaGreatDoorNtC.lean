/-
  The reader's channel, ticks and number.
-/
import Derived.Test.YtlfcihanhfabmaaGreatDoorNtB
import Derived.Test.YtlfcihanhfabmaaGreatDoorX1Parse
import Derived.Test.YtlfcihanhfabmaaGreatDoorSloV
namespace Go.Proofs.YtlfcihanhfabmaaGreatDoor
open Go.RowKit
set_option maxRecDepth 8000
open L1 (S)
/-- What a part of a text is read as, or where it can't go on. -/
def Reads (w0 : World) (g : Nat) (s : W8) (d : Nat) (v : Value) (w : World) (ns : List Nd) (r : Option Int) (ts : List (Nat × W8)) (k : Nat) (e : Ending) (w' : World) : Prop :=
  match r with
  | some z => e = .returned (.int .i64 z) ∧ RdX w0 w' g s d v ts ns ∧ But (One g) w w'
  | none => e = .panicked (Plc (plc s k)) ∧ After w w'
theorem find_some {p : Nat → Bool} {n k : Nat} (h : (List.range n).find? p = some k) : k < n ∧ p k = true ∧ ∀ j, j < k → p j = false := by
  obtain ⟨h1, h2⟩ := List.find?_range_eq_some.1 h
  simp at h2
  exact ⟨by simpa using h2.1, h1, fun j hj => by simpa using h2.2 j hj⟩
theorem find_none {p : Nat → Bool} {n : Nat} (h : (List.range n).find? p = none) : ∀ j, j < n → p j = false := fun j hj => by
  have := List.find?_eq_none.1 h j (List.mem_range.2 hj)
  simpa using this
theorem chan_any {w0 w : World} {g : Nat} {s : W8} {d : Nat} {v : Value} {ts : List (Nat × W8)} {ns : List Nd} (x : RdX w0 w g s d v ts ns) :
    Calls Tryz.prog 122 #[Ptr g] w fun e w' => Reads w0 g s d v w ns ((chanOf (hdT ts)).map Int.ofNat) ts.tail ts.length e w' := by
  have HX := hideIt x
  obtain ⟨N, hN, hno, hyes⟩ : ∃ N, N ≤ 8 ∧ (∀ j, j < N → ¬ hdT ts = chanW j) ∧ (N < 8 → hdT ts = chanW N ∧ chanOf (hdT ts) = some N) ∧ (N = 8 → chanOf (hdT ts) = none) := by
    rcases hc : chanOf (hdT ts) with _ | c
    · exact ⟨8, Nat.le_refl _, fun j hj e => by have := find_none hc j hj; simp [e] at this, fun h => absurd h (by omega), fun _ => rfl⟩
    · obtain ⟨h1, h2, h3⟩ := find_some hc
      exact ⟨c, by omega, fun j hj e => by have := h3 j hj; simp [e] at this, fun _ => ⟨by simpa using (of_decide_eq_true h2).symm, rfl⟩, fun h => absurd h (by omega)⟩
  have HN := hideIt (And.intro hN (And.intro hno hyes))
  clear x hN hno hyes
  go_enter Tryz.func122, Tryz.ntmps122
  go_wp2_with fail
  go_loopw [4] (fun i wr => ∃ j : Nat, j ≤ N ∧ i = .int .i64 j ∧ After w wr) (fun i _ => 8 - (intOf i).toNat)
  case atStart => exact ⟨0, Nat.zero_le _, rfl, After.rfl⟩
  case round =>
    obtain ⟨j, hj, rfl, aw⟩ := hrel
    have HA := hideIt aw
    have x1 := HX.out.after aw
    have HX1 := hideIt x1
    obtain ⟨hg, c0, c1, c2, c3, c4, hz⟩ := five_at x1.m.blk
    by_cases hj8 : j < 8
    · have i1 : (j : Int) < 8 := by omega
      have HC := hideIt (fun W => chanText_any j (by omega) W)
      by_cases hjN : j < N
      · have e1 := S_no (HN.out.2.1 j hjN)
        have HJ := hideIt hjN
        clear x1 hz aw hj hjN hj8
        go_wp2
        go_quiet (first | (go_at_call 66; refine Calls.quiet_of_same (HC.out _)))
        go_wp2
        go_roundw
        case rel => exact ⟨j + 1, HJ.out, by go_num, HA.out.draws nq⟩
        case measure => simp [intOf]; omega
      · have hjN' : j = N := by omega
        obtain ⟨h1, h2⟩ := HN.out.2.2.1 (by omega)
        rw [← hjN'] at h1 h2
        have e1 := S_yes h1
        have H2 := hideIt h2
        clear x1 hz aw hj hjN hj8 hjN' h1 h2
        go_wp2
        go_quiet (first | (go_at_call 66; refine Calls.quiet_of_same (HC.out _)))
        go_wp2_with (go_at_call 48; refine (rdNext_any (HX1.out.after (After.draws After.rfl nq))).mono ?_; rintro e w1 ⟨rfl, y, bw⟩; have HY := hideIt (And.intro y bw); clear y bw)
        go_ret
        rw [H2.out]
        exact ⟨rfl, HY.out.1, (HA.out.but.draws nq).trans HY.out.2⟩
    · have hj' : j = 8 := by have := HN.out.1; omega
      have h2 := HN.out.2.2.2 (by have := HN.out.1; omega)
      have H2 := hideIt h2
      have hp := HX.out.cur.plc
      have HP := hideIt hp
      subst hj'
      clear x1 hz aw hj hj8 h2 hp
      go_wp2
      refine ⟨rfl, ?_⟩
      rw [H2.out]
      exact ⟨by rw [HP.out]; rfl, HA.out⟩
theorem loadS {w : World} {p : Addr} {s : ByteArray} (h : w.cell? p = some (.string s)) : (Instr.loadAt 9 (.pointer (some p))).run Tryz.prog w = .ok (.string s) w := by simp [go_sem, h]
theorem fieldR (g : Nat) (w : World) : (Instr.fieldAt 57 (Ptr g) 2).run Tryz.prog w = .ok (.pointer (some ⟨g, 2, none⟩)) w := by simp [go_sem]
theorem eqE_yes (x : Operand) (w : World) : (do eqGuard .eql 76 x (.const .nilIface) .nilIface .nilIface; binOp .eql 76 .nilIface .nilIface : Sem Value).run Tryz.prog w = .ok (.bool true) w := by simp [go_sem, eqGuard]
theorem eqE_no (t : TypeId) (p : Value) (x y : Operand) (w : World) : (do eqGuard .eql 76 x y (.iface t p) .nilIface; binOp .eql 76 (.iface t p) .nilIface : Sem Value).run Tryz.prog w = .ok (.bool false) w := by simp [go_sem, eqGuard]
theorem eqS_yes' {a b : W8} (h : a = b) (x y : Operand) (w : World) : (do eqGuard .eql 9 x y (.string (S a)) (.string (S b)); binOp .eql 9 (.string (S a)) (.string (S b)) : Sem Value).run Tryz.prog w = .ok (.bool true) w := by
  rw [h]; exact eqS_yes _ _ _ _
theorem eqS_no {a b : W8} (h : ¬ a = b) (x y : Operand) (w : World) : (do eqGuard .eql 9 x y (.string (S a)) (.string (S b)); binOp .eql 9 (.string (S a)) (.string (S b)) : Sem Value).run Tryz.prog w = .ok (.bool false) w := by
  simp [go_sem, eqGuard, S_no h]
theorem geI_yes {z : Int} (h : 0 ≤ z) (x y : Operand) (w : World) : (do eqGuard .geq 3 x y (.int .i64 z) (.int .i64 0); binOp .geq 3 (.int .i64 z) (.int .i64 0) : Sem Value).run Tryz.prog w = .ok (.bool true) w := by simp [go_sem, eqGuard, h]
theorem geI_no {z : Int} (h : z < 0) (x y : Operand) (w : World) : (do eqGuard .geq 3 x y (.int .i64 z) (.int .i64 0); binOp .geq 3 (.int .i64 z) (.int .i64 0) : Sem Value).run Tryz.prog w = .ok (.bool false) w := by simp [go_sem, eqGuard]; omega
theorem leI_yes {z : Int} (h : z ≤ 64) (x y : Operand) (w : World) : (do eqGuard .leq 3 x y (.int .i64 z) (.int .i64 64); binOp .leq 3 (.int .i64 z) (.int .i64 64) : Sem Value).run Tryz.prog w = .ok (.bool true) w := by simp [go_sem, eqGuard, h]
theorem leI_no {z : Int} (h : 64 < z) (x y : Operand) (w : World) : (do eqGuard .leq 3 x y (.int .i64 z) (.int .i64 64); binOp .leq 3 (.int .i64 z) (.int .i64 64) : Sem Value).run Tryz.prog w = .ok (.bool false) w := by simp [go_sem, eqGuard]; omega
theorem after_bytes (w : World) (t : TypeId) (s : ByteArray) : After w (Lib.bytesWorld w t s) := by
  unfold Lib.bytesWorld World.freeze
  rw [if_neg Nat.one_ne_zero]
  refine ⟨rfl, rfl, rfl, by simp, fun k hk _ => ?_⟩
  rw [Array.getElem?_modify]
  have hne : ¬ w.heap.size = k := by omega
  simp only [hne, if_false]
  exact Below.heap_alloc _ _ _ hk
/-- strconv.Atoi at any word. -/
theorem atoi_any (wd : W8) (hl : wd.length ≤ 1024) (w : World) (ht : Laid w) : Calls Tryz.prog 120 #[.string (S wd)] w fun e w' => ∃ z ev, e = .returned (.tuple #[.int .i64 z, ev]) ∧ After w w' ∧ (ev = .nilIface ∧ Lib.atoiAll wd = .ok z ∨ ∃ t p, ev = .iface t p ∧ ∀ z, Lib.atoiAll wd ≠ .ok z) := by
  have hz : (S wd).size = wd.length := rfl
  rcases h : Lib.atoiAll wd with z | _ | _
  · refine (Tryz.strconv_Atoi_ok (S wd) (by omega) z (by rw [L1.S_list]; exact h) w).mono ?_
    rintro e w' ⟨rfl, h1⟩
    refine ⟨z, .nilIface, rfl, ?_, .inl ⟨rfl, rfl⟩⟩
    rcases h1 with rfl | ⟨t, rfl⟩
    · exact After.rfl
    · exact after_bytes _ _ _
  · obtain ⟨ev, h1, h2⟩ := ht.syn
    refine (Tryz.strconv_Atoi_syntax (S wd) (by omega) (by rw [L1.S_list]; exact h) ev w h1 h2).mono ?_
    rintro e w' ⟨N, rfl, _, _, hb⟩
    exact ⟨_, _, rfl, After.of hb, .inr ⟨_, _, rfl, fun z hz => by cases hz⟩⟩
  · obtain ⟨ev, h1, h2⟩ := ht.rng
    refine (Tryz.strconv_Atoi_range (S wd) (by omega) (by rw [L1.S_list]; exact h) ev w h1 h2).mono ?_
    rintro e w' ⟨N, rfl, _, _, hb⟩
    exact ⟨_, _, rfl, After.of hb, .inr ⟨_, _, rfl, fun z hz => by cases hz⟩⟩
theorem itoaS (z : Int) (h : -9223372036854775808 ≤ z ∧ z ≤ 9223372036854775807) (w : World) (ht : Laid w) : Calls Tryz.prog 68 #[.int .i64 z] w fun e w' => e = .returned (.string (S (Lib.itoa z))) ∧ After w w' := by
  refine (Tryz.strconv_Itoa z h.1 h.2 w ht.tab).mono ?_
  rintro e w' ⟨rfl, k, os, rfl⟩
  exact ⟨rfl, After.of (Lib.below_grow w.heap.size w (Nat.le_refl _) k os)⟩
theorem itoa_small {n : Nat} (h : n < 100) : Lib.itoa (n : Int) = dig n := by
  unfold Lib.itoa
  rw [if_neg (by omega), Int.toNat_natCast, dig_dec n h]
theorem ticks_atoi : ∀ n : Fin 65, Lib.atoiAll (dig n.val) = .ok (n.val : Int) := by decide
/-- What the tests of ticks come to. -/
theorem ticks_cases {wd : W8} {z : Int} (h : Lib.atoiAll wd = .ok z) : (tickOf wd = none ∧ (¬ Lib.itoa z = wd ∨ z < 0 ∨ 64 < z)) ∨ (∃ n : Nat, z = n ∧ n ≤ 64 ∧ tickOf wd = some n ∧ Lib.itoa z = wd) := by
  rcases ht : tickOf wd with _ | n
  · left
    refine ⟨rfl, ?_⟩
    by_cases h1 : z < 0
    · exact .inr (.inl h1)
    by_cases h2 : 64 < z
    · exact .inr (.inr h2)
    left
    intro e
    obtain ⟨n, rfl⟩ : ∃ n : Nat, z = n := ⟨z.toNat, by omega⟩
    have := find_none ht n (by omega)
    rw [itoa_small (by omega)] at e
    simp [e] at this
  · right
    obtain ⟨h1, h2, _⟩ := find_some ht
    have hd : dig n = wd := by simpa using h2
    have h3 := ticks_atoi ⟨n, h1⟩
    rw [show (⟨n, h1⟩ : Fin 65).val = n from rfl, hd, h] at h3
    have hz : z = n := by injection h3
    exact ⟨n, hz, by omega, rfl, by rw [hz, itoa_small (by omega), hd]⟩
theorem ticks_bad {wd : W8} (h : ∀ z, Lib.atoiAll wd ≠ .ok z) : tickOf wd = none := by
  rcases ht : tickOf wd with _ | n
  · rfl
  · obtain ⟨h1, h2, _⟩ := find_some ht
    have hd : dig n = wd := by simpa using h2
    have h3 := ticks_atoi ⟨n, h1⟩
    rw [show (⟨n, h1⟩ : Fin 65).val = n from rfl, hd] at h3
    exact absurd h3 (h _)
theorem enterI : ∀ (args : Array Value) (W : World), (callFunc 68 args).run Tryz.prog W = .ok (.enter 68 args) W := enter_of Tryz.func68 (by kernel_rfl) (by kernel_rfl)
theorem enterM : ∀ (args : Array Value) (W : World), (callFunc 50 args).run Tryz.prog W = .ok (.enter 50 args) W := enter_of Tryz.func50 (by kernel_rfl) (by kernel_rfl)
section
variable {o : Oper} {a : Act} {w : World} {K : Act → World → Prop} {Q : Exit → Act → World → Prop}
/-- A call that may be ended by a panic. -/
theorem wp_func2X {f : Nat} {ts : Array Nat} {x0 x1 : Operand} {u0 u1 : Value} (ho : o.op = .call { callee := .value (.func f), args := #[x0, x1], argTypes := ts }) (hf : ∀ args W, (callFunc f args).run Tryz.prog W = .ok (.enter f args) W) (h0 : a.eval x0 = u0) (h1 : a.eval x1 = u1) (h : Calls Tryz.prog f #[u0, u1] w fun e w' => (∃ v, e = .returned v ∧ K (a.put o.dst v) w') ∨ ∃ p, e = .panicked p ∧ Q (.panic p) a w') : Oper.wp Tryz.prog o a w K Q := by
  unfold Oper.wp execOp
  have e : a.eval (.func f) = .func (.func f) #[] #[] := rfl
  simp [ho, resolve, e, Deferred.ofValue, invoke, hf, Oper.upon, h0, h1]
  refine Calls.mono h ?_
  rintro e w' (⟨v, rfl, hk⟩ | ⟨p, rfl, hq⟩)
  · exact hk
  · exact hq
end
set_option maxHeartbeats 1000000 in
theorem tick_any {w0 w : World} {g : Nat} {s : W8} {d : Nat} {v : Value} {ts : List (Nat × W8)} {ns : List Nd} (x : RdX w0 w g s d v ts ns) :
    Calls Tryz.prog 112 #[Ptr g] w fun e w' => Reads w0 g s d v w ns ((tickOf (hdT ts)).map Int.ofNat) ts.tail ts.length e w' := by
  obtain ⟨hg, c0, c1, c2, c3, c4, hz⟩ := five_at x.m.blk
  have HX := hideIt x
  have HAt := hideIt (fun W (a : After w W) => atoi_any (hdT ts) (by have := x.cur.le; have := x.len; omega) W (x.after a).now)
  have HP := hideIt x.cur.plc
  obtain ⟨wd, hwd⟩ : ∃ wd, wd = hdT ts := ⟨_, rfl⟩
  rw [← hwd] at c2 HAt
  have HWD := hideIt hwd
  have HEi := hideIt enterI
  clear x hz hwd
  go_enter Tryz.func112, Tryz.ntmps112
  go_wp2_with (go_at_call 120; refine (HAt.out _ After.rfl).mono ?_)
  rintro e w1 ⟨z, ev, rfl, a1, hc⟩
  have HA1 := hideIt a1
  have HX1 := hideIt (HX.out.after a1)
  have HC : Hid (∀ W, After w1 W → W.cell? ⟨g, 2, none⟩ = some (.string (S wd))) := hideIt (fun W a => by
    have h := (five_at (HX1.out.after a).m.blk).2.2.2.1
    rw [← HWD.out] at h
    exact h)
  clear a1 c0 c1 c2 c3 c4 hg
  have nope : ∀ W, After w1 W → tickOf (hdT ts) = none → Reads w0 g s d v w ns ((tickOf (hdT ts)).map Int.ofNat) ts.tail ts.length (.panicked (Plc (pl s.length ts))) W := fun W a hn => by
    rw [hn]
    exact ⟨by rw [HP.out], HA1.out.trans a⟩
  have HNo := hideIt nope
  clear nope
  rcases hc with ⟨rfl, hc⟩ | ⟨tE, pE, rfl, hc⟩
  · have HIt : Hid (∀ W, After w1 W → Calls Tryz.prog 68 #[.int .i64 z] W fun e w' => e = .returned (.string (S (Lib.itoa z))) ∧ After W w') := hideIt (fun W a => itoaS z (Lib.atoiAll_bounds hc) W (HX1.out.after a).now)
    rcases ticks_cases hc with ⟨hn, hh⟩ | ⟨n, rfl, hsm, hn, heq⟩
    · rw [HWD.out] at hn
      have HN := hideIt hn
      by_cases hne : ¬ Lib.itoa z = wd
      · clear hh hn hc
        go_wp2_with fail
        refine region_lastG (by kernel_rfl) [13, 14, 15, 16, 17, 18, 19, 20, 21, 22, 23, 24, 25, 26, 27, 28, 29, 30, 31, 32] [isV (Ptr g), isV (.nilIface), isV (.bool true), isV (.bool true), isV (.int .i64 z), isV (.string (S (Lib.itoa z))), isV (Ptr g), isV (Ptr g), isV (.pointer (some ⟨g, 2, none⟩)), isV (.string (S wd)), isV (.bool false), isV (.bool false), isV (.bool false), isV (undef), isV (undef), isV (.bool false), isV (.bool false), isV (undef), isV (undef), isV (.bool false)] 20 _ rfl rfl rfl rfl 12 rfl rfl (stable_all (st_cons (isV_st _) (st_cons (isV_st _) (st_cons (isV_st _) (st_cons (isV_st _) (st_cons (isV_st _) (st_cons (isV_st _) (st_cons (isV_st _) (st_cons (isV_st _) (st_cons (isV_st _) (st_cons (isV_st _) (st_cons (isV_st _) (st_cons (isV_st _) (st_cons (isV_st _) (st_cons (isV_st _) (st_cons (isV_st _) (st_cons (isV_st _) (st_cons (isV_st _) (st_cons (isV_st _) (st_cons (isV_st _) (st_cons (isV_st _) (st_nil)))))))))))))))))))))) rfl rfl ?_ ?_
        · exact ⟨⟨rfl, rfl, .inl ⟨(.inl rfl), fun a W9 K hd hb aw hk => wp_move (.inl rfl) (show a.eval (.tmp 0) = Ptr g from hb 0 rfl) (hk _ _ rfl After.rfl)⟩⟩,
            ⟨rfl, rfl, .inl ⟨(.inl rfl), fun a W9 K hd hb aw hk => wp_move (.inl rfl) (show a.eval (.tmp 4) = .nilIface from hb 4 rfl) (hk _ _ rfl After.rfl)⟩⟩,
            ⟨rfl, rfl, .inl ⟨(.inl rfl), fun a W9 K hd hb aw hk => wp_bin rfl (hd 1 rfl) rfl (eqE_yes _ _) (hk _ _ rfl After.rfl)⟩⟩,
            ⟨rfl, rfl, .inl ⟨(.inl rfl), fun a W9 K hd hb aw hk => wp_move (.inl rfl) (hd 2 rfl) (hk _ _ rfl After.rfl)⟩⟩,
            ⟨rfl, rfl, .inl ⟨(.inr ⟨3, true, rfl, rfl, fun v w h => h⟩), fun a W9 K hd hb aw hk => wp_move (.inl rfl) (show a.eval (.tmp 3) = .int .i64 z from hb 3 rfl) (hk _ _ rfl After.rfl)⟩⟩,
            ⟨rfl, rfl, .inl ⟨(.inr ⟨3, true, rfl, rfl, fun v w h => h⟩), fun a W9 K hd hb aw hk => wp_func1 rfl HEi.out (hd 4 rfl) ((HIt.out _ aw).mono (fun _ _ ⟨he, hA⟩ => ⟨_, he, hk _ _ rfl hA⟩))⟩⟩,
            ⟨rfl, rfl, .inl ⟨(.inr ⟨3, true, rfl, rfl, fun v w h => h⟩), fun a W9 K hd hb aw hk => wp_move (.inl rfl) (show a.eval (.tmp 0) = Ptr g from hb 0 rfl) (hk _ _ rfl After.rfl)⟩⟩,
            ⟨rfl, rfl, .inl ⟨(.inr ⟨3, true, rfl, rfl, fun v w h => h⟩), fun a W9 K hd hb aw hk => wp_nil rfl (hd 6 rfl) (hk _ _ rfl After.rfl)⟩⟩,
            ⟨rfl, rfl, .inl ⟨(.inr ⟨3, true, rfl, rfl, fun v w h => h⟩), fun a W9 K hd hb aw hk => wp_field rfl (hd 7 rfl) (fieldR _ _) (hk _ _ rfl After.rfl)⟩⟩,
            ⟨rfl, rfl, .inl ⟨(.inr ⟨3, true, rfl, rfl, fun v w h => h⟩), fun a W9 K hd hb aw hk => wp_load rfl (hd 8 rfl) (loadS (HC.out _ aw)) (hk _ _ rfl After.rfl)⟩⟩,
            ⟨rfl, rfl, .inl ⟨(.inr ⟨3, true, rfl, rfl, fun v w h => h⟩), fun a W9 K hd hb aw hk => wp_bin rfl (hd 5 rfl) (hd 9 rfl) (eqS_no hne _ _ _) (hk _ _ rfl After.rfl)⟩⟩,
            ⟨rfl, rfl, .inl ⟨(.inl rfl), fun a W9 K hd hb aw hk => wp_pickT rfl (hd 3 rfl) (hd 10 rfl) (hk _ _ rfl After.rfl)⟩⟩,
            ⟨rfl, rfl, .inl ⟨(.inl rfl), fun a W9 K hd hb aw hk => wp_move (.inl rfl) (hd 11 rfl) (hk _ _ rfl After.rfl)⟩⟩,
            ⟨rfl, rfl, .inr ⟨12, true, rfl, rfl, fun v w h => h, fun w => rfl⟩⟩,
            ⟨rfl, rfl, .inr ⟨12, true, rfl, rfl, fun v w h => h, fun w => rfl⟩⟩,
            ⟨rfl, rfl, .inl ⟨(.inl rfl), fun a W9 K hd hb aw hk => wp_pickF rfl (hd 12 rfl) rfl (hk _ _ rfl After.rfl)⟩⟩,
            ⟨rfl, rfl, .inl ⟨(.inl rfl), fun a W9 K hd hb aw hk => wp_move (.inl rfl) (hd 15 rfl) (hk _ _ rfl After.rfl)⟩⟩,
            ⟨rfl, rfl, .inr ⟨16, true, rfl, rfl, fun v w h => h, fun w => rfl⟩⟩,
            ⟨rfl, rfl, .inr ⟨16, true, rfl, rfl, fun v w h => h, fun w => rfl⟩⟩,
            ⟨rfl, rfl, .inl ⟨(.inl rfl), fun a W9 K hd hb aw hk => wp_pickF rfl (hd 16 rfl) rfl (hk _ _ rfl After.rfl)⟩⟩,
            trivial⟩
        intro x9 w9 hx9 aw9 K9 hK9
        have t0 : x9 0 = Ptr g := hx9 0 (Nat.le_of_ble_eq_true rfl)
        have t1 : x9 1 = .nilIface := hx9 1 (Nat.le_of_ble_eq_true rfl)
        have t2 : x9 2 = .bool true := hx9 2 (Nat.le_of_ble_eq_true rfl)
        have t3 : x9 3 = .bool true := hx9 3 (Nat.le_of_ble_eq_true rfl)
        have t4 : x9 4 = .int .i64 z := hx9 4 (Nat.le_of_ble_eq_true rfl)
        have t5 : x9 5 = .string (S (Lib.itoa z)) := hx9 5 (Nat.le_of_ble_eq_true rfl)
        have t6 : x9 6 = Ptr g := hx9 6 (Nat.le_of_ble_eq_true rfl)
        have t7 : x9 7 = Ptr g := hx9 7 (Nat.le_of_ble_eq_true rfl)
        have t8 : x9 8 = .pointer (some ⟨g, 2, none⟩) := hx9 8 (Nat.le_of_ble_eq_true rfl)
        have t9 : x9 9 = .string (S wd) := hx9 9 (Nat.le_of_ble_eq_true rfl)
        have t10 : x9 10 = .bool false := hx9 10 (Nat.le_of_ble_eq_true rfl)
        have t11 : x9 11 = .bool false := hx9 11 (Nat.le_of_ble_eq_true rfl)
        have t12 : x9 12 = .bool false := hx9 12 (Nat.le_of_ble_eq_true rfl)
        have t13 : x9 13 = undef := hx9 13 (Nat.le_of_ble_eq_true rfl)
        have t14 : x9 14 = undef := hx9 14 (Nat.le_of_ble_eq_true rfl)
        have t15 : x9 15 = .bool false := hx9 15 (Nat.le_of_ble_eq_true rfl)
        have t16 : x9 16 = .bool false := hx9 16 (Nat.le_of_ble_eq_true rfl)
        have t17 : x9 17 = undef := hx9 17 (Nat.le_of_ble_eq_true rfl)
        have t18 : x9 18 = undef := hx9 18 (Nat.le_of_ble_eq_true rfl)
        have t19 : x9 19 = .bool false := hx9 19 (Nat.le_of_ble_eq_true rfl)
        simp only [sets, List.getD_cons_succ, List.getD_cons_zero, List.set_cons_succ, List.set_cons_zero, t0, t1, t2, t3, t4, t5, t6, t7, t8, t9, t10, t11, t12, t13, t14, t15, t16, t17, t18, t19]
        clear hx9 t0 t1 t2 t3 t4 t5 t6 t7 t8 t9 t10 t11 t12 t13 t14 t15 t16 t17 t18 t19 x9
        refine wp_func2X rfl enterM rfl rfl ((must_no (HX1.out.after aw9).m).mono ?_)
        rintro e w' ⟨rfl, rfl⟩
        exact .inr ⟨_, rfl, rfl, HNo.out _ aw9 HN.out⟩
      have heq : Lib.itoa z = wd := by simpa using hne
      by_cases hneg : z < 0
      · clear hh hn hc hne
        go_wp2_with fail
        refine region_lastG (by kernel_rfl) [13, 14, 15, 16, 17, 18, 19, 20, 21, 22, 23, 24, 25, 26, 27, 28, 29, 30, 31, 32] [isV (Ptr g), isV (.nilIface), isV (.bool true), isV (.bool true), isV (.int .i64 z), isV (.string (S (Lib.itoa z))), isV (Ptr g), isV (Ptr g), isV (.pointer (some ⟨g, 2, none⟩)), isV (.string (S wd)), isV (.bool true), isV (.bool true), isV (.bool true), isV (.int .i64 z), isV (.bool false), isV (.bool false), isV (.bool false), isV (undef), isV (undef), isV (.bool false)] 20 _ rfl rfl rfl rfl 12 rfl rfl (stable_all (st_cons (isV_st _) (st_cons (isV_st _) (st_cons (isV_st _) (st_cons (isV_st _) (st_cons (isV_st _) (st_cons (isV_st _) (st_cons (isV_st _) (st_cons (isV_st _) (st_cons (isV_st _) (st_cons (isV_st _) (st_cons (isV_st _) (st_cons (isV_st _) (st_cons (isV_st _) (st_cons (isV_st _) (st_cons (isV_st _) (st_cons (isV_st _) (st_cons (isV_st _) (st_cons (isV_st _) (st_cons (isV_st _) (st_cons (isV_st _) (st_nil)))))))))))))))))))))) rfl rfl ?_ ?_
        · exact ⟨⟨rfl, rfl, .inl ⟨(.inl rfl), fun a W9 K hd hb aw hk => wp_move (.inl rfl) (show a.eval (.tmp 0) = Ptr g from hb 0 rfl) (hk _ _ rfl After.rfl)⟩⟩,
            ⟨rfl, rfl, .inl ⟨(.inl rfl), fun a W9 K hd hb aw hk => wp_move (.inl rfl) (show a.eval (.tmp 4) = .nilIface from hb 4 rfl) (hk _ _ rfl After.rfl)⟩⟩,
            ⟨rfl, rfl, .inl ⟨(.inl rfl), fun a W9 K hd hb aw hk => wp_bin rfl (hd 1 rfl) rfl (eqE_yes _ _) (hk _ _ rfl After.rfl)⟩⟩,
            ⟨rfl, rfl, .inl ⟨(.inl rfl), fun a W9 K hd hb aw hk => wp_move (.inl rfl) (hd 2 rfl) (hk _ _ rfl After.rfl)⟩⟩,
            ⟨rfl, rfl, .inl ⟨(.inr ⟨3, true, rfl, rfl, fun v w h => h⟩), fun a W9 K hd hb aw hk => wp_move (.inl rfl) (show a.eval (.tmp 3) = .int .i64 z from hb 3 rfl) (hk _ _ rfl After.rfl)⟩⟩,
            ⟨rfl, rfl, .inl ⟨(.inr ⟨3, true, rfl, rfl, fun v w h => h⟩), fun a W9 K hd hb aw hk => wp_func1 rfl HEi.out (hd 4 rfl) ((HIt.out _ aw).mono (fun _ _ ⟨he, hA⟩ => ⟨_, he, hk _ _ rfl hA⟩))⟩⟩,
            ⟨rfl, rfl, .inl ⟨(.inr ⟨3, true, rfl, rfl, fun v w h => h⟩), fun a W9 K hd hb aw hk => wp_move (.inl rfl) (show a.eval (.tmp 0) = Ptr g from hb 0 rfl) (hk _ _ rfl After.rfl)⟩⟩,
            ⟨rfl, rfl, .inl ⟨(.inr ⟨3, true, rfl, rfl, fun v w h => h⟩), fun a W9 K hd hb aw hk => wp_nil rfl (hd 6 rfl) (hk _ _ rfl After.rfl)⟩⟩,
            ⟨rfl, rfl, .inl ⟨(.inr ⟨3, true, rfl, rfl, fun v w h => h⟩), fun a W9 K hd hb aw hk => wp_field rfl (hd 7 rfl) (fieldR _ _) (hk _ _ rfl After.rfl)⟩⟩,
            ⟨rfl, rfl, .inl ⟨(.inr ⟨3, true, rfl, rfl, fun v w h => h⟩), fun a W9 K hd hb aw hk => wp_load rfl (hd 8 rfl) (loadS (HC.out _ aw)) (hk _ _ rfl After.rfl)⟩⟩,
            ⟨rfl, rfl, .inl ⟨(.inr ⟨3, true, rfl, rfl, fun v w h => h⟩), fun a W9 K hd hb aw hk => wp_bin rfl (hd 5 rfl) (hd 9 rfl) (eqS_yes' heq _ _ _) (hk _ _ rfl After.rfl)⟩⟩,
            ⟨rfl, rfl, .inl ⟨(.inl rfl), fun a W9 K hd hb aw hk => wp_pickT rfl (hd 3 rfl) (hd 10 rfl) (hk _ _ rfl After.rfl)⟩⟩,
            ⟨rfl, rfl, .inl ⟨(.inl rfl), fun a W9 K hd hb aw hk => wp_move (.inl rfl) (hd 11 rfl) (hk _ _ rfl After.rfl)⟩⟩,
            ⟨rfl, rfl, .inl ⟨(.inr ⟨12, true, rfl, rfl, fun v w h => h⟩), fun a W9 K hd hb aw hk => wp_move (.inl rfl) (show a.eval (.tmp 3) = .int .i64 z from hb 3 rfl) (hk _ _ rfl After.rfl)⟩⟩,
            ⟨rfl, rfl, .inl ⟨(.inr ⟨12, true, rfl, rfl, fun v w h => h⟩), fun a W9 K hd hb aw hk => wp_bin rfl (hd 13 rfl) rfl (geI_no hneg _ _ _) (hk _ _ rfl After.rfl)⟩⟩,
            ⟨rfl, rfl, .inl ⟨(.inl rfl), fun a W9 K hd hb aw hk => wp_pickT rfl (hd 12 rfl) (hd 14 rfl) (hk _ _ rfl After.rfl)⟩⟩,
            ⟨rfl, rfl, .inl ⟨(.inl rfl), fun a W9 K hd hb aw hk => wp_move (.inl rfl) (hd 15 rfl) (hk _ _ rfl After.rfl)⟩⟩,
            ⟨rfl, rfl, .inr ⟨16, true, rfl, rfl, fun v w h => h, fun w => rfl⟩⟩,
            ⟨rfl, rfl, .inr ⟨16, true, rfl, rfl, fun v w h => h, fun w => rfl⟩⟩,
            ⟨rfl, rfl, .inl ⟨(.inl rfl), fun a W9 K hd hb aw hk => wp_pickF rfl (hd 16 rfl) rfl (hk _ _ rfl After.rfl)⟩⟩,
            trivial⟩
        intro x9 w9 hx9 aw9 K9 hK9
        have t0 : x9 0 = Ptr g := hx9 0 (Nat.le_of_ble_eq_true rfl)
        have t1 : x9 1 = .nilIface := hx9 1 (Nat.le_of_ble_eq_true rfl)
        have t2 : x9 2 = .bool true := hx9 2 (Nat.le_of_ble_eq_true rfl)
        have t3 : x9 3 = .bool true := hx9 3 (Nat.le_of_ble_eq_true rfl)
        have t4 : x9 4 = .int .i64 z := hx9 4 (Nat.le_of_ble_eq_true rfl)
        have t5 : x9 5 = .string (S (Lib.itoa z)) := hx9 5 (Nat.le_of_ble_eq_true rfl)
        have t6 : x9 6 = Ptr g := hx9 6 (Nat.le_of_ble_eq_true rfl)
        have t7 : x9 7 = Ptr g := hx9 7 (Nat.le_of_ble_eq_true rfl)
        have t8 : x9 8 = .pointer (some ⟨g, 2, none⟩) := hx9 8 (Nat.le_of_ble_eq_true rfl)
        have t9 : x9 9 = .string (S wd) := hx9 9 (Nat.le_of_ble_eq_true rfl)
        have t10 : x9 10 = .bool true := hx9 10 (Nat.le_of_ble_eq_true rfl)
        have t11 : x9 11 = .bool true := hx9 11 (Nat.le_of_ble_eq_true rfl)
        have t12 : x9 12 = .bool true := hx9 12 (Nat.le_of_ble_eq_true rfl)
        have t13 : x9 13 = .int .i64 z := hx9 13 (Nat.le_of_ble_eq_true rfl)
        have t14 : x9 14 = .bool false := hx9 14 (Nat.le_of_ble_eq_true rfl)
        have t15 : x9 15 = .bool false := hx9 15 (Nat.le_of_ble_eq_true rfl)
        have t16 : x9 16 = .bool false := hx9 16 (Nat.le_of_ble_eq_true rfl)
        have t17 : x9 17 = undef := hx9 17 (Nat.le_of_ble_eq_true rfl)
        have t18 : x9 18 = undef := hx9 18 (Nat.le_of_ble_eq_true rfl)
        have t19 : x9 19 = .bool false := hx9 19 (Nat.le_of_ble_eq_true rfl)
        simp only [sets, List.getD_cons_succ, List.getD_cons_zero, List.set_cons_succ, List.set_cons_zero, t0, t1, t2, t3, t4, t5, t6, t7, t8, t9, t10, t11, t12, t13, t14, t15, t16, t17, t18, t19]
        clear hx9 t0 t1 t2 t3 t4 t5 t6 t7 t8 t9 t10 t11 t12 t13 t14 t15 t16 t17 t18 t19 x9
        refine wp_func2X rfl enterM rfl rfl ((must_no (HX1.out.after aw9).m).mono ?_)
        rintro e w' ⟨rfl, rfl⟩
        exact .inr ⟨_, rfl, rfl, HNo.out _ aw9 HN.out⟩
      have hpos : 0 ≤ z := by omega
      have hbig : 64 < z := by
        rcases hh with h | h | h
        · exact absurd heq h
        · exact absurd h hneg
        · exact h
      clear hh hn hc hne hneg
      go_wp2_with fail
      refine region_lastG (by kernel_rfl) [13, 14, 15, 16, 17, 18, 19, 20, 21, 22, 23, 24, 25, 26, 27, 28, 29, 30, 31, 32] [isV (Ptr g), isV (.nilIface), isV (.bool true), isV (.bool true), isV (.int .i64 z), isV (.string (S (Lib.itoa z))), isV (Ptr g), isV (Ptr g), isV (.pointer (some ⟨g, 2, none⟩)), isV (.string (S wd)), isV (.bool true), isV (.bool true), isV (.bool true), isV (.int .i64 z), isV (.bool true), isV (.bool true), isV (.bool true), isV (.int .i64 z), isV (.bool false), isV (.bool false)] 20 _ rfl rfl rfl rfl 12 rfl rfl (stable_all (st_cons (isV_st _) (st_cons (isV_st _) (st_cons (isV_st _) (st_cons (isV_st _) (st_cons (isV_st _) (st_cons (isV_st _) (st_cons (isV_st _) (st_cons (isV_st _) (st_cons (isV_st _) (st_cons (isV_st _) (st_cons (isV_st _) (st_cons (isV_st _) (st_cons (isV_st _) (st_cons (isV_st _) (st_cons (isV_st _) (st_cons (isV_st _) (st_cons (isV_st _) (st_cons (isV_st _) (st_cons (isV_st _) (st_cons (isV_st _) (st_nil)))))))))))))))))))))) rfl rfl ?_ ?_
      · exact ⟨⟨rfl, rfl, .inl ⟨(.inl rfl), fun a W9 K hd hb aw hk => wp_move (.inl rfl) (show a.eval (.tmp 0) = Ptr g from hb 0 rfl) (hk _ _ rfl After.rfl)⟩⟩,
          ⟨rfl, rfl, .inl ⟨(.inl rfl), fun a W9 K hd hb aw hk => wp_move (.inl rfl) (show a.eval (.tmp 4) = .nilIface from hb 4 rfl) (hk _ _ rfl After.rfl)⟩⟩,
          ⟨rfl, rfl, .inl ⟨(.inl rfl), fun a W9 K hd hb aw hk => wp_bin rfl (hd 1 rfl) rfl (eqE_yes _ _) (hk _ _ rfl After.rfl)⟩⟩,
          ⟨rfl, rfl, .inl ⟨(.inl rfl), fun a W9 K hd hb aw hk => wp_move (.inl rfl) (hd 2 rfl) (hk _ _ rfl After.rfl)⟩⟩,
          ⟨rfl, rfl, .inl ⟨(.inr ⟨3, true, rfl, rfl, fun v w h => h⟩), fun a W9 K hd hb aw hk => wp_move (.inl rfl) (show a.eval (.tmp 3) = .int .i64 z from hb 3 rfl) (hk _ _ rfl After.rfl)⟩⟩,
          ⟨rfl, rfl, .inl ⟨(.inr ⟨3, true, rfl, rfl, fun v w h => h⟩), fun a W9 K hd hb aw hk => wp_func1 rfl HEi.out (hd 4 rfl) ((HIt.out _ aw).mono (fun _ _ ⟨he, hA⟩ => ⟨_, he, hk _ _ rfl hA⟩))⟩⟩,
          ⟨rfl, rfl, .inl ⟨(.inr ⟨3, true, rfl, rfl, fun v w h => h⟩), fun a W9 K hd hb aw hk => wp_move (.inl rfl) (show a.eval (.tmp 0) = Ptr g from hb 0 rfl) (hk _ _ rfl After.rfl)⟩⟩,
          ⟨rfl, rfl, .inl ⟨(.inr ⟨3, true, rfl, rfl, fun v w h => h⟩), fun a W9 K hd hb aw hk => wp_nil rfl (hd 6 rfl) (hk _ _ rfl After.rfl)⟩⟩,
          ⟨rfl, rfl, .inl ⟨(.inr ⟨3, true, rfl, rfl, fun v w h => h⟩), fun a W9 K hd hb aw hk => wp_field rfl (hd 7 rfl) (fieldR _ _) (hk _ _ rfl After.rfl)⟩⟩,
          ⟨rfl, rfl, .inl ⟨(.inr ⟨3, true, rfl, rfl, fun v w h => h⟩), fun a W9 K hd hb aw hk => wp_load rfl (hd 8 rfl) (loadS (HC.out _ aw)) (hk _ _ rfl After.rfl)⟩⟩,
          ⟨rfl, rfl, .inl ⟨(.inr ⟨3, true, rfl, rfl, fun v w h => h⟩), fun a W9 K hd hb aw hk => wp_bin rfl (hd 5 rfl) (hd 9 rfl) (eqS_yes' heq _ _ _) (hk _ _ rfl After.rfl)⟩⟩,
          ⟨rfl, rfl, .inl ⟨(.inl rfl), fun a W9 K hd hb aw hk => wp_pickT rfl (hd 3 rfl) (hd 10 rfl) (hk _ _ rfl After.rfl)⟩⟩,
          ⟨rfl, rfl, .inl ⟨(.inl rfl), fun a W9 K hd hb aw hk => wp_move (.inl rfl) (hd 11 rfl) (hk _ _ rfl After.rfl)⟩⟩,
          ⟨rfl, rfl, .inl ⟨(.inr ⟨12, true, rfl, rfl, fun v w h => h⟩), fun a W9 K hd hb aw hk => wp_move (.inl rfl) (show a.eval (.tmp 3) = .int .i64 z from hb 3 rfl) (hk _ _ rfl After.rfl)⟩⟩,
          ⟨rfl, rfl, .inl ⟨(.inr ⟨12, true, rfl, rfl, fun v w h => h⟩), fun a W9 K hd hb aw hk => wp_bin rfl (hd 13 rfl) rfl (geI_yes hpos _ _ _) (hk _ _ rfl After.rfl)⟩⟩,
          ⟨rfl, rfl, .inl ⟨(.inl rfl), fun a W9 K hd hb aw hk => wp_pickT rfl (hd 12 rfl) (hd 14 rfl) (hk _ _ rfl After.rfl)⟩⟩,
          ⟨rfl, rfl, .inl ⟨(.inl rfl), fun a W9 K hd hb aw hk => wp_move (.inl rfl) (hd 15 rfl) (hk _ _ rfl After.rfl)⟩⟩,
          ⟨rfl, rfl, .inl ⟨(.inr ⟨16, true, rfl, rfl, fun v w h => h⟩), fun a W9 K hd hb aw hk => wp_move (.inl rfl) (show a.eval (.tmp 3) = .int .i64 z from hb 3 rfl) (hk _ _ rfl After.rfl)⟩⟩,
          ⟨rfl, rfl, .inl ⟨(.inr ⟨16, true, rfl, rfl, fun v w h => h⟩), fun a W9 K hd hb aw hk => wp_bin rfl (hd 17 rfl) rfl (leI_no hbig _ _ _) (hk _ _ rfl After.rfl)⟩⟩,
          ⟨rfl, rfl, .inl ⟨(.inl rfl), fun a W9 K hd hb aw hk => wp_pickT rfl (hd 16 rfl) (hd 18 rfl) (hk _ _ rfl After.rfl)⟩⟩,
          trivial⟩
      intro x9 w9 hx9 aw9 K9 hK9
      have t0 : x9 0 = Ptr g := hx9 0 (Nat.le_of_ble_eq_true rfl)
      have t1 : x9 1 = .nilIface := hx9 1 (Nat.le_of_ble_eq_true rfl)
      have t2 : x9 2 = .bool true := hx9 2 (Nat.le_of_ble_eq_true rfl)
      have t3 : x9 3 = .bool true := hx9 3 (Nat.le_of_ble_eq_true rfl)
      have t4 : x9 4 = .int .i64 z := hx9 4 (Nat.le_of_ble_eq_true rfl)
      have t5 : x9 5 = .string (S (Lib.itoa z)) := hx9 5 (Nat.le_of_ble_eq_true rfl)
      have t6 : x9 6 = Ptr g := hx9 6 (Nat.le_of_ble_eq_true rfl)
      have t7 : x9 7 = Ptr g := hx9 7 (Nat.le_of_ble_eq_true rfl)
      have t8 : x9 8 = .pointer (some ⟨g, 2, none⟩) := hx9 8 (Nat.le_of_ble_eq_true rfl)
      have t9 : x9 9 = .string (S wd) := hx9 9 (Nat.le_of_ble_eq_true rfl)
      have t10 : x9 10 = .bool true := hx9 10 (Nat.le_of_ble_eq_true rfl)
      have t11 : x9 11 = .bool true := hx9 11 (Nat.le_of_ble_eq_true rfl)
      have t12 : x9 12 = .bool true := hx9 12 (Nat.le_of_ble_eq_true rfl)
      have t13 : x9 13 = .int .i64 z := hx9 13 (Nat.le_of_ble_eq_true rfl)
      have t14 : x9 14 = .bool true := hx9 14 (Nat.le_of_ble_eq_true rfl)
      have t15 : x9 15 = .bool true := hx9 15 (Nat.le_of_ble_eq_true rfl)
      have t16 : x9 16 = .bool true := hx9 16 (Nat.le_of_ble_eq_true rfl)
      have t17 : x9 17 = .int .i64 z := hx9 17 (Nat.le_of_ble_eq_true rfl)
      have t18 : x9 18 = .bool false := hx9 18 (Nat.le_of_ble_eq_true rfl)
      have t19 : x9 19 = .bool false := hx9 19 (Nat.le_of_ble_eq_true rfl)
      simp only [sets, List.getD_cons_succ, List.getD_cons_zero, List.set_cons_succ, List.set_cons_zero, t0, t1, t2, t3, t4, t5, t6, t7, t8, t9, t10, t11, t12, t13, t14, t15, t16, t17, t18, t19]
      clear hx9 t0 t1 t2 t3 t4 t5 t6 t7 t8 t9 t10 t11 t12 t13 t14 t15 t16 t17 t18 t19 x9
      refine wp_func2X rfl enterM rfl rfl ((must_no (HX1.out.after aw9).m).mono ?_)
      rintro e w' ⟨rfl, rfl⟩
      exact .inr ⟨_, rfl, rfl, HNo.out _ aw9 HN.out⟩
    · rw [HWD.out] at hn
      have HN := hideIt hn
      obtain ⟨z, hz⟩ : ∃ z : Int, z = n := ⟨_, rfl⟩
      have hpos : 0 ≤ z := by omega
      have hsml : z ≤ 64 := by omega
      have HZ := hideIt hz
      rw [← hz] at HIt heq ⊢
      clear hn hc hz hsm
      go_wp2_with fail
      refine region_lastG (by kernel_rfl) [13, 14, 15, 16, 17, 18, 19, 20, 21, 22, 23, 24, 25, 26, 27, 28, 29, 30, 31, 32] [isV (Ptr g), isV (.nilIface), isV (.bool true), isV (.bool true), isV (.int .i64 z), isV (.string (S (Lib.itoa z))), isV (Ptr g), isV (Ptr g), isV (.pointer (some ⟨g, 2, none⟩)), isV (.string (S wd)), isV (.bool true), isV (.bool true), isV (.bool true), isV (.int .i64 z), isV (.bool true), isV (.bool true), isV (.bool true), isV (.int .i64 z), isV (.bool true), isV (.bool true)] 20 _ rfl rfl rfl rfl 12 rfl rfl (stable_all (st_cons (isV_st _) (st_cons (isV_st _) (st_cons (isV_st _) (st_cons (isV_st _) (st_cons (isV_st _) (st_cons (isV_st _) (st_cons (isV_st _) (st_cons (isV_st _) (st_cons (isV_st _) (st_cons (isV_st _) (st_cons (isV_st _) (st_cons (isV_st _) (st_cons (isV_st _) (st_cons (isV_st _) (st_cons (isV_st _) (st_cons (isV_st _) (st_cons (isV_st _) (st_cons (isV_st _) (st_cons (isV_st _) (st_cons (isV_st _) (st_nil)))))))))))))))))))))) rfl rfl ?_ ?_
      · exact ⟨⟨rfl, rfl, .inl ⟨(.inl rfl), fun a W9 K hd hb aw hk => wp_move (.inl rfl) (show a.eval (.tmp 0) = Ptr g from hb 0 rfl) (hk _ _ rfl After.rfl)⟩⟩,
          ⟨rfl, rfl, .inl ⟨(.inl rfl), fun a W9 K hd hb aw hk => wp_move (.inl rfl) (show a.eval (.tmp 4) = .nilIface from hb 4 rfl) (hk _ _ rfl After.rfl)⟩⟩,
          ⟨rfl, rfl, .inl ⟨(.inl rfl), fun a W9 K hd hb aw hk => wp_bin rfl (hd 1 rfl) rfl (eqE_yes _ _) (hk _ _ rfl After.rfl)⟩⟩,
          ⟨rfl, rfl, .inl ⟨(.inl rfl), fun a W9 K hd hb aw hk => wp_move (.inl rfl) (hd 2 rfl) (hk _ _ rfl After.rfl)⟩⟩,
          ⟨rfl, rfl, .inl ⟨(.inr ⟨3, true, rfl, rfl, fun v w h => h⟩), fun a W9 K hd hb aw hk => wp_move (.inl rfl) (show a.eval (.tmp 3) = .int .i64 z from hb 3 rfl) (hk _ _ rfl After.rfl)⟩⟩,
          ⟨rfl, rfl, .inl ⟨(.inr ⟨3, true, rfl, rfl, fun v w h => h⟩), fun a W9 K hd hb aw hk => wp_func1 rfl HEi.out (hd 4 rfl) ((HIt.out _ aw).mono (fun _ _ ⟨he, hA⟩ => ⟨_, he, hk _ _ rfl hA⟩))⟩⟩,
          ⟨rfl, rfl, .inl ⟨(.inr ⟨3, true, rfl, rfl, fun v w h => h⟩), fun a W9 K hd hb aw hk => wp_move (.inl rfl) (show a.eval (.tmp 0) = Ptr g from hb 0 rfl) (hk _ _ rfl After.rfl)⟩⟩,
          ⟨rfl, rfl, .inl ⟨(.inr ⟨3, true, rfl, rfl, fun v w h => h⟩), fun a W9 K hd hb aw hk => wp_nil rfl (hd 6 rfl) (hk _ _ rfl After.rfl)⟩⟩,
          ⟨rfl, rfl, .inl ⟨(.inr ⟨3, true, rfl, rfl, fun v w h => h⟩), fun a W9 K hd hb aw hk => wp_field rfl (hd 7 rfl) (fieldR _ _) (hk _ _ rfl After.rfl)⟩⟩,
          ⟨rfl, rfl, .inl ⟨(.inr ⟨3, true, rfl, rfl, fun v w h => h⟩), fun a W9 K hd hb aw hk => wp_load rfl (hd 8 rfl) (loadS (HC.out _ aw)) (hk _ _ rfl After.rfl)⟩⟩,
          ⟨rfl, rfl, .inl ⟨(.inr ⟨3, true, rfl, rfl, fun v w h => h⟩), fun a W9 K hd hb aw hk => wp_bin rfl (hd 5 rfl) (hd 9 rfl) (eqS_yes' heq _ _ _) (hk _ _ rfl After.rfl)⟩⟩,
          ⟨rfl, rfl, .inl ⟨(.inl rfl), fun a W9 K hd hb aw hk => wp_pickT rfl (hd 3 rfl) (hd 10 rfl) (hk _ _ rfl After.rfl)⟩⟩,
          ⟨rfl, rfl, .inl ⟨(.inl rfl), fun a W9 K hd hb aw hk => wp_move (.inl rfl) (hd 11 rfl) (hk _ _ rfl After.rfl)⟩⟩,
          ⟨rfl, rfl, .inl ⟨(.inr ⟨12, true, rfl, rfl, fun v w h => h⟩), fun a W9 K hd hb aw hk => wp_move (.inl rfl) (show a.eval (.tmp 3) = .int .i64 z from hb 3 rfl) (hk _ _ rfl After.rfl)⟩⟩,
          ⟨rfl, rfl, .inl ⟨(.inr ⟨12, true, rfl, rfl, fun v w h => h⟩), fun a W9 K hd hb aw hk => wp_bin rfl (hd 13 rfl) rfl (geI_yes hpos _ _ _) (hk _ _ rfl After.rfl)⟩⟩,
          ⟨rfl, rfl, .inl ⟨(.inl rfl), fun a W9 K hd hb aw hk => wp_pickT rfl (hd 12 rfl) (hd 14 rfl) (hk _ _ rfl After.rfl)⟩⟩,
          ⟨rfl, rfl, .inl ⟨(.inl rfl), fun a W9 K hd hb aw hk => wp_move (.inl rfl) (hd 15 rfl) (hk _ _ rfl After.rfl)⟩⟩,
          ⟨rfl, rfl, .inl ⟨(.inr ⟨16, true, rfl, rfl, fun v w h => h⟩), fun a W9 K hd hb aw hk => wp_move (.inl rfl) (show a.eval (.tmp 3) = .int .i64 z from hb 3 rfl) (hk _ _ rfl After.rfl)⟩⟩,
          ⟨rfl, rfl, .inl ⟨(.inr ⟨16, true, rfl, rfl, fun v w h => h⟩), fun a W9 K hd hb aw hk => wp_bin rfl (hd 17 rfl) rfl (leI_yes hsml _ _ _) (hk _ _ rfl After.rfl)⟩⟩,
          ⟨rfl, rfl, .inl ⟨(.inl rfl), fun a W9 K hd hb aw hk => wp_pickT rfl (hd 16 rfl) (hd 18 rfl) (hk _ _ rfl After.rfl)⟩⟩,
          trivial⟩
      intro x9 w9 hx9 aw9 K9 hK9
      have t0 : x9 0 = Ptr g := hx9 0 (Nat.le_of_ble_eq_true rfl)
      have t1 : x9 1 = .nilIface := hx9 1 (Nat.le_of_ble_eq_true rfl)
      have t2 : x9 2 = .bool true := hx9 2 (Nat.le_of_ble_eq_true rfl)
      have t3 : x9 3 = .bool true := hx9 3 (Nat.le_of_ble_eq_true rfl)
      have t4 : x9 4 = .int .i64 z := hx9 4 (Nat.le_of_ble_eq_true rfl)
      have t5 : x9 5 = .string (S (Lib.itoa z)) := hx9 5 (Nat.le_of_ble_eq_true rfl)
      have t6 : x9 6 = Ptr g := hx9 6 (Nat.le_of_ble_eq_true rfl)
      have t7 : x9 7 = Ptr g := hx9 7 (Nat.le_of_ble_eq_true rfl)
      have t8 : x9 8 = .pointer (some ⟨g, 2, none⟩) := hx9 8 (Nat.le_of_ble_eq_true rfl)
      have t9 : x9 9 = .string (S wd) := hx9 9 (Nat.le_of_ble_eq_true rfl)
      have t10 : x9 10 = .bool true := hx9 10 (Nat.le_of_ble_eq_true rfl)
      have t11 : x9 11 = .bool true := hx9 11 (Nat.le_of_ble_eq_true rfl)
      have t12 : x9 12 = .bool true := hx9 12 (Nat.le_of_ble_eq_true rfl)
      have t13 : x9 13 = .int .i64 z := hx9 13 (Nat.le_of_ble_eq_true rfl)
      have t14 : x9 14 = .bool true := hx9 14 (Nat.le_of_ble_eq_true rfl)
      have t15 : x9 15 = .bool true := hx9 15 (Nat.le_of_ble_eq_true rfl)
      have t16 : x9 16 = .bool true := hx9 16 (Nat.le_of_ble_eq_true rfl)
      have t17 : x9 17 = .int .i64 z := hx9 17 (Nat.le_of_ble_eq_true rfl)
      have t18 : x9 18 = .bool true := hx9 18 (Nat.le_of_ble_eq_true rfl)
      have t19 : x9 19 = .bool true := hx9 19 (Nat.le_of_ble_eq_true rfl)
      simp only [sets, List.getD_cons_succ, List.getD_cons_zero, List.set_cons_succ, List.set_cons_zero, t0, t1, t2, t3, t4, t5, t6, t7, t8, t9, t10, t11, t12, t13, t14, t15, t16, t17, t18, t19]
      clear hx9 t0 t1 t2 t3 t4 t5 t6 t7 t8 t9 t10 t11 t12 t13 t14 t15 t16 t17 t18 t19 x9
      refine wp_func2X rfl enterM rfl rfl ((must_yes g _).mono ?_)
      rintro e w' ⟨rfl, rfl⟩
      refine .inl ⟨_, rfl, hK9 _ _ ?_⟩
      have HW9 := hideIt aw9
      clear hK9 aw9 K9
      simp only [Act.put]
      go_wp2_with (go_at_call 48; refine (rdNext_any (HX1.out.after HW9.out)).mono ?_; rintro e w2 ⟨rfl, y, bw⟩; have HY := hideIt (And.intro y bw); clear y bw)
      go_ret
      rw [HN.out]
      exact ⟨by rw [HZ.out]; rfl, HY.out.1, (HA1.out.trans HW9.out).but.trans HY.out.2⟩
  · have HN := hideIt (show tickOf (hdT ts) = none from by rw [← HWD.out]; exact ticks_bad hc)
    clear hc
    go_wp2_with fail
    refine region_lastG (by kernel_rfl) [13, 14, 15, 16, 17, 18, 19, 20, 21, 22, 23, 24, 25, 26, 27, 28, 29, 30, 31, 32] [isV (Ptr g), isV (.iface tE pE), isV (.bool false), isV (.bool false), isV (undef), isV (undef), isV (undef), isV (undef), isV (undef), isV (undef), isV (undef), isV (.bool false), isV (.bool false), isV (undef), isV (undef), isV (.bool false), isV (.bool false), isV (undef), isV (undef), isV (.bool false)] 20 _ rfl rfl rfl rfl 12 rfl rfl (stable_all (st_cons (isV_st _) (st_cons (isV_st _) (st_cons (isV_st _) (st_cons (isV_st _) (st_cons (isV_st _) (st_cons (isV_st _) (st_cons (isV_st _) (st_cons (isV_st _) (st_cons (isV_st _) (st_cons (isV_st _) (st_cons (isV_st _) (st_cons (isV_st _) (st_cons (isV_st _) (st_cons (isV_st _) (st_cons (isV_st _) (st_cons (isV_st _) (st_cons (isV_st _) (st_cons (isV_st _) (st_cons (isV_st _) (st_cons (isV_st _) (st_nil)))))))))))))))))))))) rfl rfl ?_ ?_
    · exact ⟨⟨rfl, rfl, .inl ⟨(.inl rfl), fun a W9 K hd hb aw hk => wp_move (.inl rfl) (show a.eval (.tmp 0) = Ptr g from hb 0 rfl) (hk _ _ rfl After.rfl)⟩⟩,
        ⟨rfl, rfl, .inl ⟨(.inl rfl), fun a W9 K hd hb aw hk => wp_move (.inl rfl) (show a.eval (.tmp 4) = .iface tE pE from hb 4 rfl) (hk _ _ rfl After.rfl)⟩⟩,
        ⟨rfl, rfl, .inl ⟨(.inl rfl), fun a W9 K hd hb aw hk => wp_bin rfl (hd 1 rfl) rfl (eqE_no _ _ _ _ _) (hk _ _ rfl After.rfl)⟩⟩,
        ⟨rfl, rfl, .inl ⟨(.inl rfl), fun a W9 K hd hb aw hk => wp_move (.inl rfl) (hd 2 rfl) (hk _ _ rfl After.rfl)⟩⟩,
        ⟨rfl, rfl, .inr ⟨3, true, rfl, rfl, fun v w h => h, fun w => rfl⟩⟩,
        ⟨rfl, rfl, .inr ⟨3, true, rfl, rfl, fun v w h => h, fun w => rfl⟩⟩,
        ⟨rfl, rfl, .inr ⟨3, true, rfl, rfl, fun v w h => h, fun w => rfl⟩⟩,
        ⟨rfl, rfl, .inr ⟨3, true, rfl, rfl, fun v w h => h, fun w => rfl⟩⟩,
        ⟨rfl, rfl, .inr ⟨3, true, rfl, rfl, fun v w h => h, fun w => rfl⟩⟩,
        ⟨rfl, rfl, .inr ⟨3, true, rfl, rfl, fun v w h => h, fun w => rfl⟩⟩,
        ⟨rfl, rfl, .inr ⟨3, true, rfl, rfl, fun v w h => h, fun w => rfl⟩⟩,
        ⟨rfl, rfl, .inl ⟨(.inl rfl), fun a W9 K hd hb aw hk => wp_pickF rfl (hd 3 rfl) rfl (hk _ _ rfl After.rfl)⟩⟩,
        ⟨rfl, rfl, .inl ⟨(.inl rfl), fun a W9 K hd hb aw hk => wp_move (.inl rfl) (hd 11 rfl) (hk _ _ rfl After.rfl)⟩⟩,
        ⟨rfl, rfl, .inr ⟨12, true, rfl, rfl, fun v w h => h, fun w => rfl⟩⟩,
        ⟨rfl, rfl, .inr ⟨12, true, rfl, rfl, fun v w h => h, fun w => rfl⟩⟩,
        ⟨rfl, rfl, .inl ⟨(.inl rfl), fun a W9 K hd hb aw hk => wp_pickF rfl (hd 12 rfl) rfl (hk _ _ rfl After.rfl)⟩⟩,
        ⟨rfl, rfl, .inl ⟨(.inl rfl), fun a W9 K hd hb aw hk => wp_move (.inl rfl) (hd 15 rfl) (hk _ _ rfl After.rfl)⟩⟩,
        ⟨rfl, rfl, .inr ⟨16, true, rfl, rfl, fun v w h => h, fun w => rfl⟩⟩,
        ⟨rfl, rfl, .inr ⟨16, true, rfl, rfl, fun v w h => h, fun w => rfl⟩⟩,
        ⟨rfl, rfl, .inl ⟨(.inl rfl), fun a W9 K hd hb aw hk => wp_pickF rfl (hd 16 rfl) rfl (hk _ _ rfl After.rfl)⟩⟩,
        trivial⟩
    intro x9 w9 hx9 aw9 K9 hK9
    have t0 : x9 0 = Ptr g := hx9 0 (Nat.le_of_ble_eq_true rfl)
    have t1 : x9 1 = .iface tE pE := hx9 1 (Nat.le_of_ble_eq_true rfl)
    have t2 : x9 2 = .bool false := hx9 2 (Nat.le_of_ble_eq_true rfl)
    have t3 : x9 3 = .bool false := hx9 3 (Nat.le_of_ble_eq_true rfl)
    have t4 : x9 4 = undef := hx9 4 (Nat.le_of_ble_eq_true rfl)
    have t5 : x9 5 = undef := hx9 5 (Nat.le_of_ble_eq_true rfl)
    have t6 : x9 6 = undef := hx9 6 (Nat.le_of_ble_eq_true rfl)
    have t7 : x9 7 = undef := hx9 7 (Nat.le_of_ble_eq_true rfl)
    have t8 : x9 8 = undef := hx9 8 (Nat.le_of_ble_eq_true rfl)
    have t9 : x9 9 = undef := hx9 9 (Nat.le_of_ble_eq_true rfl)
    have t10 : x9 10 = undef := hx9 10 (Nat.le_of_ble_eq_true rfl)
    have t11 : x9 11 = .bool false := hx9 11 (Nat.le_of_ble_eq_true rfl)
    have t12 : x9 12 = .bool false := hx9 12 (Nat.le_of_ble_eq_true rfl)
    have t13 : x9 13 = undef := hx9 13 (Nat.le_of_ble_eq_true rfl)
    have t14 : x9 14 = undef := hx9 14 (Nat.le_of_ble_eq_true rfl)
    have t15 : x9 15 = .bool false := hx9 15 (Nat.le_of_ble_eq_true rfl)
    have t16 : x9 16 = .bool false := hx9 16 (Nat.le_of_ble_eq_true rfl)
    have t17 : x9 17 = undef := hx9 17 (Nat.le_of_ble_eq_true rfl)
    have t18 : x9 18 = undef := hx9 18 (Nat.le_of_ble_eq_true rfl)
    have t19 : x9 19 = .bool false := hx9 19 (Nat.le_of_ble_eq_true rfl)
    simp only [sets, List.getD_cons_succ, List.getD_cons_zero, List.set_cons_succ, List.set_cons_zero, t0, t1, t2, t3, t4, t5, t6, t7, t8, t9, t10, t11, t12, t13, t14, t15, t16, t17, t18, t19]
    clear hx9 t0 t1 t2 t3 t4 t5 t6 t7 t8 t9 t10 t11 t12 t13 t14 t15 t16 t17 t18 t19 x9
    refine wp_func2X rfl enterM rfl rfl ((must_no (HX1.out.after aw9).m).mono ?_)
    rintro e w' ⟨rfl, rfl⟩
    exact .inr ⟨_, rfl, rfl, HNo.out _ aw9 HN.out⟩
theorem num_any {w0 w : World} {g : Nat} {s : W8} {d : Nat} {v : Value} {ts : List (Nat × W8)} {ns : List Nd} (x : RdX w0 w g s d v ts ns) :
    Calls Tryz.prog 124 #[Ptr g] w fun e w' => Reads w0 g s d v w ns (numOf (hdT ts)) ts.tail ts.length e w' := by
  obtain ⟨hg, c0, c1, c2, c3, c4, hz⟩ := five_at x.m.blk
  have HX := hideIt x
  have HPa := hideIt (fun W => L1.parse_any (S (hdT ts)) W (by have h1 := x.cur.le; have h2 := x.len; have : (S (hdT ts)).size = (hdT ts).length := rfl; unfold maxLen; omega))
  rw [L1.S_list] at HPa
  have HP := hideIt x.cur.plc
  clear x hz
  by_cases he : L1.parseE (hdT ts) = 0
  · have HN : Hid (numOf (hdT ts) = some (L1.parseV (hdT ts))) := hideIt (by unfold numOf; rw [if_pos he])
    rw [he] at HPa
    clear he
    go_enter Tryz.func124, Tryz.ntmps124
    go_wp2_with (first
      | (go_at_call 130; refine (HPa.out _).mono ?_; rintro e w1 ⟨rfl, a1⟩; have HA1 := hideIt (After.of a1); clear a1)
      | (go_at_call 50; refine (must_yes g _).mono ?_; rintro e w2 ⟨rfl, rfl⟩)
      | (go_at_call 48; refine (rdNext_any (HX.out.after HA1.out)).mono ?_; rintro e w3 ⟨rfl, y, bw⟩; have HY := hideIt (And.intro y bw); clear y bw))
    go_ret
    rw [HN.out]
    exact ⟨rfl, HY.out.1, HA1.out.but.trans HY.out.2⟩
  · have HN : Hid (numOf (hdT ts) = none) := hideIt (by unfold numOf; rw [if_neg he])
    obtain ⟨E, hE⟩ : ∃ E, E = L1.parseE (hdT ts) := ⟨_, rfl⟩
    rw [← hE] at HPa he
    have hb : (E == 0) = false := by simpa using he
    clear hE
    go_enter Tryz.func124, Tryz.ntmps124
    go_wp2_with (first
      | (go_at_call 130; refine (HPa.out _).mono ?_; rintro e w1 ⟨rfl, a1⟩; have HA1 := hideIt (After.of a1); clear a1)
      | (go_at_call 50; refine (must_no (HX.out.after HA1.out).m).mono ?_; rintro e w2 ⟨rfl, rfl⟩))
    refine ⟨rfl, ?_⟩
    rw [HN.out]
    exact ⟨by rw [HP.out], HA1.out⟩
end Go.Proofs.YtlfcihanhfabmaaGreatDoor
