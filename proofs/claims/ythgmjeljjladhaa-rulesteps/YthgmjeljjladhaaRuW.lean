/-
  A machine that runs; the statements' helpers: copies, whole, steps.
-/
import Derived.Test.YthgmjeljjladhaaRuS
import Derived.Test.YthgmjeljjladhaaFoI
namespace Go.Proofs.Ythgmjeljjladhaa
open Go.RowKit
set_option maxRecDepth 8000
/-- A machine that has made a step for each row of T. -/
structure Run (w : World) (lo hi : Nat) (m : Mp) (L : List Nd) (C : List Ch) (T : List (List Rd)) : Prop where
  mc : Mc w lo hi m L C (zOf L C T T.length)
  hh : hi ≤ w.heap.size
  ck : chk L (C.length : Int) = 0
theorem Run.pos {w : World} {lo hi : Nat} {m : Mp} {L : List Nd} {C : List Ch} {T : List (List Rd)} (r : Run w lo hi m L C T) : 0 < L.length := (chk_zero r.ck).2.2.2.1
theorem Run.but {S : Nat → Prop} {w w' : World} {lo hi : Nat} {m : Mp} {L : List Nd} {C : List Ch} {T : List (List Rd)} (r : Run w lo hi m L C T) (b : But S w w') (hn : ∀ k, lo ≤ k → k < hi → ¬ S k) : Run w' lo hi m L C T := ⟨r.mc.but b hn, Nat.le_trans r.hh b.size, r.ck⟩
theorem Run.after {w w' : World} {lo hi : Nat} {m : Mp} {L : List Nd} {C : List Ch} {T : List (List Rd)} (r : Run w lo hi m L C T) (b : After w w') : Run w' lo hi m L C T := r.but b (fun _ _ _ t => t)
theorem run_new {L : List Nd} {C : List Ch} (w : World) (al : Option Addr) (cl : Nat) (h1 : NRow w al L.length L) (ha : al = none → L.length = 0 ∧ cl = 0) (ac : Option Addr) (cc : Nat) (h2 : CRow w ac C.length C) (hca : ac = none → C.length = 0 ∧ cc = 0) (hc : chk L (C.length : Int) = 0) :
    Calls Try.prog 10 #[.slice al L.length cl, .slice ac C.length cc] w fun e w' => ∃ m : Mp, e = .returned (.tuple #[Ptr m.p, .int .i64 0]) ∧ Run w' w.heap.size w'.heap.size m L C [] ∧ After w w' := by
  refine (new_ok w al cl h1 ha ac cc h2 hca hc).mono ?_
  rintro e w' ⟨m, rfl, mc, a⟩
  exact ⟨m, rfl, ⟨mc.num (fun i _ => rfl), Nat.le_refl _, hc⟩, a⟩
theorem Run.step {w : World} {lo hi : Nat} {m : Mp} {L : List Nd} {C : List Ch} {T : List (List Rd)} (r : Run w lo hi m L C T) {ar : Option Addr} {cr : Nat} {R : List Rd} (hr : DRow w ar C.length R) (hro : ∀ x, ar = some x → 0 < C.length → ¬ Rng lo hi x.block) :
    Calls Try.prog 15 #[Ptr m.p, .slice ar C.length cr] w fun e w' => e = .returned (.tuple #[.bool (val L C (T ++ [R]) (L.length - 1) T.length), .int .i64 0]) ∧ Run w' lo hi m L C (T ++ [R]) ∧ But (Rng lo hi) w w' := by
  refine (step_ok r.mc r.hh r.ck hr hro).mono ?_
  rintro e w' ⟨rfl, mc, b⟩
  exact ⟨rfl, ⟨by rw [List.length_append]; exact mc, Nat.le_trans r.hh b.size, r.ck⟩, b⟩
theorem nodes_any {L : List Nd} (w : World) (al : Option Addr) (cl : Nat) (h1 : NRow w al L.length L) (ha : al = none → L.length = 0 ∧ cl = 0) (hn : L.length ≤ 4398046511104) :
    Calls Try.prog 8 #[.slice al L.length cl] w fun e w' => ∃ v, e = .returned v ∧ ORow ndE 38 w' w.heap.size v L ∧ After w w' := by
  have H1 := hideIt h1
  have HA := hideIt ha
  have hn' : 0 + L.length ≤ maxLen := by unfold maxLen; omega
  clear h1 ha
  go_enter Try.func8, Try.ntmps8
  go_wp2_with (at_builtin; refine app_row (E := ndE) rfl (.tmp 4) (.tmp 5) 22 38 Try.underlying22 Try.infoNode rfl (by decide) rfl w.heap.size _ [] rfl (orow_nil ndE _ _ _) al L.length cl L rfl H1.out HA.out hn' (by simp; omega) (Nat.le_refl _) ?_; intro v' w1 hown hb; have HO := hideIt (And.intro hown hb); clear hown hb)
  go_ret
  exact ⟨_, rfl, HO.out.1, But.mono HO.out.2 (fun i hi h => by cases h)⟩
theorem channels_any {L : List Ch} (w : World) (al : Option Addr) (cl : Nat) (h1 : CRow w al L.length L) (ha : al = none → L.length = 0 ∧ cl = 0) (hn : L.length * 56 ≤ 140737488355328) :
    Calls Try.prog 9 #[.slice al L.length cl] w fun e w' => ∃ v, e = .returned v ∧ ORow chE 42 w' w.heap.size v L ∧ After w w' := by
  have H1 := hideIt h1
  have HA := hideIt ha
  have hn' : 0 + L.length ≤ maxLen := by unfold maxLen; omega
  clear h1 ha
  go_enter Try.func9, Try.ntmps9
  go_wp2_with (at_builtin; refine app_row (E := chE) rfl (.tmp 4) (.tmp 5) 23 42 Try.underlying23 Try.infoChan rfl (by decide) rfl w.heap.size _ [] rfl (orow_nil chE _ _ _) al L.length cl L rfl H1.out HA.out hn' (by simp; omega) (Nat.le_refl _) ?_; intro v' w1 hown hb; have HO := hideIt (And.intro hown hb); clear hown hb)
  go_ret
  exact ⟨_, rfl, HO.out.1, But.mono HO.out.2 (fun i hi h => by cases h)⟩
theorem readings_any {L : List Rd} (w : World) (al : Option Addr) (cl : Nat) (h1 : DRow w al L.length L) (ha : al = none → L.length = 0 ∧ cl = 0) (hn : L.length * 16 ≤ 140737488355328) :
    Calls Try.prog 14 #[.slice al L.length cl] w fun e w' => ∃ v, e = .returned v ∧ ORow rdE 48 w' w.heap.size v L ∧ After w w' := by
  have H1 := hideIt h1
  have HA := hideIt ha
  have hn' : 0 + L.length ≤ maxLen := by unfold maxLen; omega
  clear h1 ha
  go_enter Try.func14, Try.ntmps14
  go_wp2_with (at_builtin; refine app_row (E := rdE) rfl (.tmp 4) (.tmp 5) 43 48 Try.underlying43 Try.infoReading rfl (by decide) rfl w.heap.size _ [] rfl (orow_nil rdE _ _ _) al L.length cl L rfl H1.out HA.out hn' (by simp; omega) (Nat.le_refl _) ?_; intro v' w1 hown hb; have HO := hideIt (And.intro hown hb); clear hown hb)
  go_ret
  exact ⟨_, rfl, HO.out.1, But.mono HO.out.2 (fun i hi h => by cases h)⟩
/-- whole: of all its channels, at most 150 rows. -/
def WholeSays (X : List Tr) (nc : Nat) (e : Ending) : Prop := ∃ r, e = .returned (.bool r) ∧ (r = true → (∀ x ∈ X, x.n = nc) ∧ X.length ≤ 150)
theorem whole_any {X : List Tr} (hX : X.length ≤ 140737488355328) (w : World) (ac : Option Addr) (nc cc : Nat) (aT : Option Addr) (ct : Nat) (h3 : TRow w aT X.length X) :
    Calls Try.prog 18 #[.agg #[.slice ac nc cc, .slice aT X.length ct]] w fun e w' => WholeSays X nc e ∧ After w w' := by
  have hX' : (X.length : Int) ≤ 140737488355328 := by omega
  obtain ⟨W1, hW1⟩ : ∃ W, W = w.alloc (.cells #[.slice ac nc cc, .slice aT X.length ct] 26) := ⟨_, rfl⟩
  have HW := hideIt hW1
  have HB : Hid (∀ V, After W1 V → V.cell? ⟨w.heap.size, 0, none⟩ = some (.slice ac nc cc) ∧ V.cell? ⟨w.heap.size, 1, none⟩ = some (.slice aT X.length ct)) := hideIt (fun V hV => by
    rw [hW1] at hV
    exact ⟨new_cell hV 0 rfl, new_cell hV 1 rfl⟩)
  have HA : Hid (After w W1) := hideIt (by rw [hW1]; exact After.rfl.alloc _)
  have H3 := hideIt h3
  clear h3 hW1
  go_enter Try.func18, Try.ntmps18
  go_wp2_with fail
  rw [← HW.out]
  go_loopw [3] (fun i wr => ∃ j : Nat, j ≤ X.length ∧ i = .int .i64 (j : Int) ∧ (∀ x ∈ X.take j, x.n = nc) ∧ After W1 wr) (fun i _ => X.length - (intOf i).toNat)
  case atStart => exact ⟨0, Nat.zero_le _, rfl, fun x hx => by simp at hx, After.rfl⟩
  case round =>
    obtain ⟨j, hj, rfl, hm, aw⟩ := hrel
    obtain ⟨c0, c1⟩ := HB.out _ aw
    by_cases hjn : j < X.length
    · have i1 : (j : Int) < (X.length : Int) := by omega
      obtain ⟨b, off, x, rfl, hb, hx, k0, kin⟩ := trow_at (H3.out.after (HA.out.trans aw)) hjn
      have HS := hideIt (And.intro hm (And.intro hx aw))
      have aw' := fun n => aw.draws n
      by_cases hq : x.n = nc
      · have q1 : ((x.n : Int) != (nc : Int)) = false := by simp [hq]
        have HQ := hideIt hq
        clear hm hx kin hq aw
        go_upto_region 4 with fail
        go_quiet (fail)
        have aw2 := aw' nq
        generalize wr.drewN nq = W9 at *
        have HA2 := hideIt aw2
        clear aw2 aw'
        go_wp2_with fail
        go_roundw
        case rel =>
          refine ⟨j + 1, by omega, by go_num, fun y hy => ?_, HA2.out⟩
          rw [List.take_add_one, HS.out.2.1] at hy
          rcases List.mem_append.1 hy with h | h
          · exact HS.out.1 y h
          · simp at h; rw [h]; exact HQ.out
        case measure => simp [intOf]; omega
      · have q1 : ((x.n : Int) != (nc : Int)) = true := by simp; omega
        clear hm hx kin hq aw
        go_upto_region 4 with fail
        go_quiet (fail)
        have aw2 := aw' nq
        generalize wr.drewN nq = W9 at *
        have HA2 := hideIt aw2
        clear aw2 aw'
        go_wp2_with fail
        go_ret
        exact ⟨⟨false, rfl, (fun h => by cases h)⟩, HA.out.trans HA2.out⟩
    · have i1 : ¬ (j : Int) < (X.length : Int) := by omega
      have hjn' : j = X.length := by omega
      rw [hjn', List.take_of_length_le (Nat.le_refl _)] at hm
      have HS := hideIt (And.intro hm aw)
      clear hm aw
      obtain ⟨r, hr⟩ : ∃ r, decide ((X.length : Int) ≤ 150) = r := ⟨_, rfl⟩
      have HR := hideIt hr
      go_wp2_with fail
      go_ret
      exact ⟨⟨r, rfl, fun h => ⟨HS.out.1, by have := HR.out; rw [h] at this; have := of_decide_eq_true this; omega⟩⟩, HA.out.trans HS.out.2⟩
theorem steps_no {L : List Nd} {C : List Ch} (w : World) (al : Option Addr) (n cl : Nat) (h1 : NRow w al n L) (ac : Option Addr) (nc cc : Nat) (h2 : CRow w ac nc C) (vt : Value) (hc : chk L (C.length : Int) ≠ 0) (ht : ∃ a n c, vt = .slice a n c) :
    Calls Try.prog 22 #[.slice al n cl, .agg #[.slice ac nc cc, vt]] w fun e w' => e = .returned (.string ⟨#[63]⟩) ∧ After w w' := by
  obtain ⟨aT, nt, ct, rfl⟩ := ht
  have a1 : After w (w.alloc (.cells #[.slice ac nc cc, .slice aT nt ct] 26)) := After.rfl.alloc _
  have H0 := hideIt (new_no (w.alloc (.cells #[.slice ac nc cc, .slice aT nt ct] 26)) al n cl (h1.after a1) ac nc cc (h2.after a1) hc)
  have hc' : (chk L (C.length : Int) != 0) = true := by simp [hc]
  clear h1 h2 hc a1
  generalize chk L (C.length : Int) = k at *
  go_enter Try.func22, Try.ntmps22
  go_wp2_with (go_at_call 10; refine H0.out.mono ?_; rintro e w1 ⟨rfl, a1⟩)
  go_ret
  exact ⟨rfl, (After.rfl.alloc _).trans a1⟩
theorem take_snoc {α : Type} {l : List α} {j : Nat} {x : α} (h : l[j]? = some x) : l.take (j + 1) = l.take j ++ [x] := by rw [List.take_add_one, h]; rfl
theorem val_take (L : List Nd) (C : List Ch) (T : List (List Rd)) (i j : Nat) : val L C (T.take (j + 1)) i j = val L C T i j :=
  val_past L C i (fun q hq => by simp [List.getD, List.getElem?_take_of_lt (show q < j + 1 by omega)])
set_option maxHeartbeats 1000000 in
theorem steps_any {L : List Nd} {C : List Ch} {X : List Tr} (w : World) (al : Option Addr) (cl : Nat) (ac : Option Addr) (cc : Nat) (aT : Option Addr) (ct : Nat) (h1 : NRow w al L.length L) (ha : al = none → L.length = 0 ∧ cl = 0) (h2 : CRow w ac C.length C) (hca : ac = none → C.length = 0 ∧ cc = 0) (h3 : TRow w aT X.length X) (hX : X.length ≤ 1000)
    (hc : chk L (C.length : Int) = 0) (hT : ∀ x ∈ X, x.n = C.length) :
    Calls Try.prog 22 #[.slice al L.length cl, .agg #[.slice ac C.length cc, .slice aT X.length ct]] w fun e w' => e = .returned (.string (bitsOf (val L C (rdsOf X) (L.length - 1)) X.length)) ∧ After w w' := by
  obtain ⟨W1, hW1⟩ : ∃ W, W = w.alloc (.cells #[.slice ac C.length cc, .slice aT X.length ct] 26) := ⟨_, rfl⟩
  have a1 : After w W1 := by rw [hW1]; exact After.rfl.alloc _
  have b1 : W1.heap[w.heap.size]? = some (.cells #[.slice ac C.length cc, .slice aT X.length ct] 26 (0, 0)) := by rw [hW1]; exact heap_alloc_new w _
  have H0 := hideIt (run_new W1 al cl (h1.after a1) ha ac cc (h2.after a1) hca hc)
  have HW := hideIt (And.intro hW1 (And.intro a1 b1))
  have HX := hideIt (And.intro h3 hT)
  obtain ⟨f, hf⟩ : ∃ f, f = val L C (rdsOf X) (L.length - 1) := ⟨_, rfl⟩
  have HF := hideIt hf
  rw [← hf]
  obtain ⟨G, hG⟩ : ∃ G : Nat → ByteArray, G = bitsOf f := ⟨_, rfl⟩
  have hG0 : G 0 = ⟨#[]⟩ := by rw [hG]; rfl
  have HG : Hid (∀ j, G (j + 1) = G j ++ (if f j = true then ⟨#[49]⟩ else ⟨#[48]⟩)) := hideIt (fun j => by rw [hG]; rfl)
  have HS : Hid (∀ j, (G j).size = j) := hideIt (fun j => by rw [hG]; exact bitsOf_size f j)
  obtain ⟨B, hB⟩ : ∃ B, bitsOf f X.length = B := ⟨_, rfl⟩
  have HBG : Hid (G X.length = B) := hideIt (by rw [hG]; exact hB)
  rw [hB]
  have hX' : (X.length : Int) ≤ 1000 := by omega
  have c0 := blk_cell b1 (i := 0) rfl
  have hp := blk_lt b1
  rw [hW1] at c0 hp
  clear h1 ha h2 hca h3 hT hc hf hG hB b1 hX a1 hW1
  go_enter Try.func22, Try.ntmps22
  go_wp2_with fail
  rw [← HW.out.1]
  refine H0.out.mono ?_
  rintro e w2 ⟨m, rfl, r2, a2⟩
  have HR := hideIt (And.intro r2 a2)
  clear r2 a2 c0 hp H0
  go_wp2_with fail
  go_loopw [7, 8] (fun s i wr => ∃ j : Nat, j ≤ X.length ∧ i = .int .i64 (j : Int) ∧ s = .string (G j) ∧ Run wr W1.heap.size w2.heap.size m L C ((rdsOf X).take j) ∧ After W1 wr) (fun _ i _ => X.length - (intOf i).toNat)
  case atStart => exact ⟨0, Nat.zero_le _, rfl, by rw [hG0], HR.out.1, HR.out.2⟩
  case round =>
    obtain ⟨j, hj, rfl, rfl, rr, aw⟩ := hrel
    have bq := (aw.block _ (blk_lt HW.out.2.2) (fun t => t)).trans HW.out.2.2
    have c0 := blk_cell bq (i := 0) rfl
    have c1 := blk_cell bq (i := 1) rfl
    by_cases hjn : j < X.length
    · have i1 : (j : Int) < (X.length : Int) := by omega
      obtain ⟨tb, toff, x, rfl, htb, hx, k0, kin⟩ := trow_at HX.out.1 hjn
      have aw0 := HW.out.2.1.trans aw
      have k0' := (aw0.cell htb _).trans k0
      have hxn := HX.out.2 x (List.mem_of_getElem? hx)
      have hrow : DRow wr x.a C.length x.l := by rw [← hxn]; exact (kin.after aw0).1
      have HQ := hideIt (rr.step (cr := x.d) hrow (fun y hy hn hr => by
        have hd : DRow w x.a C.length x.l := by rw [← hxn]; exact kin.1
        obtain ⟨b', off', e', hlt⟩ := hd.lt hn
        rw [e'] at hy
        cases hy
        have h8 : W1.heap.size ≤ b' := hr.1
        have := HW.out.2.1.size
        omega))
      have hl : ((rdsOf X).take j).length = j := by rw [List.length_take, rdsOf_length]; omega
      have hxr : (rdsOf X)[j]? = some x.l := by unfold rdsOf; rw [List.getElem?_map, hx]; rfl
      rw [hl, ← take_snoc hxr, val_take, ← HF.out] at HQ
      have HA := hideIt aw
      have h5 : (G j).size ≤ 1000 := by rw [HS.out]; omega
      have hlt : tb < wr.heap.size := Nat.lt_of_lt_of_le htb aw0.size
      clear aw rr bq hx kin hrow hl hxr aw0 k0 htb
      rw [hxn] at k0'
      clear hxn
      rcases hfj : f j with _ | _
      · have e1 : G (j + 1) = G j ++ ⟨#[48]⟩ := by rw [HG.out, hfj]; rfl
        have E1 := hideIt e1
        rw [hfj] at HQ
        clear e1 hfj
        go_wp2_with fail
        refine HQ.out.mono ?_
        rintro e w3 ⟨rfl, r3, b3⟩
        have H3 := hideIt (And.intro r3 b3)
        clear r3 b3
        go_wp2_with fail
        go_roundw
        case rel => exact ⟨j + 1, by omega, by go_num, by rw [E1.out], H3.out.1, HA.out.then H3.out.2 (fun k hk e => by have := e.1; omega)⟩
        case measure => simp [intOf]; omega
      · have e1 : G (j + 1) = G j ++ ⟨#[49]⟩ := by rw [HG.out, hfj]; rfl
        have E1 := hideIt e1
        rw [hfj] at HQ
        clear e1 hfj
        go_wp2_with fail
        refine HQ.out.mono ?_
        rintro e w3 ⟨rfl, r3, b3⟩
        have H3 := hideIt (And.intro r3 b3)
        clear r3 b3
        go_wp2_with fail
        go_roundw
        case rel => exact ⟨j + 1, by omega, by go_num, by rw [E1.out], H3.out.1, HA.out.then H3.out.2 (fun k hk e => by have := e.1; omega)⟩
        case measure => simp [intOf]; omega
    · have i1 : ¬ (j : Int) < (X.length : Int) := by omega
      have HJ := hideIt (show j = X.length by omega)
      have HA := hideIt aw
      clear aw rr bq
      go_wp2_with fail
      go_ret
      exact ⟨by show Ending.returned (.string (G j)) = _; rw [HJ.out, HBG.out], HW.out.2.1.trans HA.out⟩
end Go.Proofs.Ythgmjeljjladhaa
