/-
  The closure: what it says of an atom.
-/
import Derived.Test.YthgmjeljjladhaaFoE
import Derived.Deep.RegionHeld3
namespace Go.Proofs.Ythgmjeljjladhaa
open Go.RowKit Go.Maps
set_option maxRecDepth 8000
theorem rdsOf_at {X : List Tr} {t : Nat} {x : Tr} (h : X[t]? = some x) : (rdsOf X).getD t [] = x.l := by simp [rdsOf, List.getD, h]
set_option maxHeartbeats 2000000 in
theorem tell_atom {p : Pl} {L : List Nd} {C : List Ch} {X : List Tr} (ok : okAll L (C.length : Int) = true) (_hL : L.length ≤ 32) (_hX : X.length ≤ 1000) (hR : ∀ x ∈ X, x.n = C.length) {i : Nat} {x : Nd} (hx : L[i]? = some x) (hop : atomic x.op = true) : Says p L C X i := by
  intro t ht W e
  have hi : i < L.length := (List.getElem?_eq_some_iff.1 hx).1
  have hop2 : 1 ≤ x.op ∧ x.op ≤ 5 := by simpa [atomic] using hop
  have ho := okAll_at ok hx
  have hA : 0 ≤ x.a ∧ x.a < (C.length : Int) := by
    unfold okN at ho
    rw [if_neg (by omega)] at ho
    split at ho
    · simp only [idx, Bool.and_eq_true, decide_eq_true_eq] at ho; omega
    · rw [if_pos (by omega)] at ho
      simp only [idx, Bool.and_eq_true, decide_eq_true_eq] at ho; omega
  obtain ⟨ja, hja⟩ : ∃ ja : Nat, x.a = (ja : Int) := ⟨x.a.toNat, by omega⟩
  have hjc : ja < C.length := by omega
  obtain ⟨b, off, y, hal, hb, hy, k0, k1, k2, k3⟩ := nrow_at e.n1 hi
  rw [hx] at hy
  cases hy
  obtain ⟨cb, coff, ch, hac, hcb, hch, m0, m1, m2, m3, m4, m5, m6⟩ := crow_at e.c1 hjc
  obtain ⟨tb, toff, tr, hat, htb, htr, n0, hin⟩ := trow_at e.t1 ht
  have hn := hR tr (List.mem_of_getElem? htr)
  obtain ⟨rb, roff, rd, har, hrb, hrd, r0, r1⟩ := drow_at hin.1 (show ja < tr.n by omega)
  have hval : val L C (rdsOf X) i t = atom x ch rd := by
    rw [val_eq ok C _ hx]
    unfold stepv
    rw [if_neg (by omega), if_neg (by omega), if_neg (by omega), if_neg (by omega), if_neg (by omega), if_neg (by omega), if_neg (by omega), if_neg (by omega), rdsOf_at htr, hja]
    simp [List.getD, hch, hrd]
  rw [hval]
  have hrl : tr.l.length = tr.n := hin.1.1
  obtain ⟨W2, hW2⟩ : ∃ W2, W2 = (W.alloc (.cells #[.int .i64 x.op, .int .i64 x.a, .int .i64 x.b, .int .i64 x.n] 38)).alloc (.cells #[.int .i64 (i : Int), .int .i64 (t : Int)] 82) := ⟨_, rfl⟩
  have a2 : After W W2 := by rw [hW2]; exact (After.rfl.alloc _).alloc _
  have s0 : W2.cell? ⟨W.heap.size, 0, none⟩ = some (.int .i64 x.op) := by rw [hW2]; exact new_cell (After.rfl.alloc _) 0 rfl
  have s1 : W2.cell? ⟨W.heap.size, 1, none⟩ = some (.int .i64 x.a) := by rw [hW2]; exact new_cell (After.rfl.alloc _) 1 rfl
  have s2 : W2.cell? ⟨W.heap.size, 2, none⟩ = some (.int .i64 x.b) := by rw [hW2]; exact new_cell (After.rfl.alloc _) 2 rfl
  have s3 : W2.cell? ⟨W.heap.size, 3, none⟩ = some (.int .i64 x.n) := by rw [hW2]; exact new_cell (After.rfl.alloc _) 3 rfl
  have l0 := e.n0
  have q0 := (a2.cell (cell_lt e.c0) 0).trans e.c0
  have q1 := (a2.cell (cell_lt e.t0) 0).trans e.t0
  have m0' := (a2.cell hcb _).trans m0
  have m1' := (a2.cell hcb _).trans m1
  have m2' := (a2.cell hcb _).trans m2
  have m3' := (a2.cell hcb _).trans m3
  have m4' := (a2.cell hcb _).trans m4
  have m5' := (a2.cell hcb _).trans m5
  have m6' := (a2.cell hcb _).trans m6
  have n0' := (a2.cell htb _).trans n0
  have r0' := (a2.cell hrb _).trans r0
  have r1' := (a2.cell hrb _).trans r1
  rw [hal] at l0
  rw [hac] at q0
  rw [hat] at q1
  rw [har] at n0'
  rw [hja] at s1 k1
  have i1 : (i : Int) < (L.length : Int) := by omega
  have i2 : (t : Int) < (X.length : Int) := by omega
  have i3 : (ja : Int) < (C.length : Int) := by omega
  have i4 : (ja : Int) < (tr.n : Int) := by omega
  have HE := hideIt (And.intro e a2)
  rw [hja] at hW2
  have HW := hideIt hW2
  have H1 := hideIt (fun V => isAtom_any x.op V)
  rw [hop] at H1
  have H2 := hideIt (fun V => atom_yes x ch rd V hop)
  unfold Nd.val Ch.val Rd.val at H2
  rw [hja] at H2
  have hWs : W.heap.size < W2.heap.size := cell_lt s0
  clear e ok hR hx hop hop2 ho hA hal hb hac hat har hcb hch m0 m1 m2 m3 m4 m5 m6 htb htr n0 hin hn hrb hrd r0 r1 hval hi hja hrl ht hjc hW2
  generalize atom x ch rd = R at *
  go_enter Try.func42, Try.ntmps42
  go_wp2_with fail
  refine (H1.out _).mono ?_
  rintro e w1 ⟨rfl, rfl⟩
  rw [← HW.out]
  have HA2 := hideIt a2
  clear HW a2
  go_wp2_with fail
  go_region_held3 (fun V => V.cell? ⟨W.heap.size, 0, none⟩ = some (.int .i64 x.op) ∧ V.cell? ⟨W.heap.size, 1, none⟩ = some (.int .i64 (ja : Int)) ∧ V.cell? ⟨W.heap.size, 2, none⟩ = some (.int .i64 x.b) ∧ V.cell? ⟨W.heap.size, 3, none⟩ = some (.int .i64 x.n) ∧
      V.cell? ⟨p.pc, 0, none⟩ = some (.slice (some ⟨cb, coff, none⟩) C.length p.cc) ∧ V.cell? ⟨p.pt, 0, none⟩ = some (.slice (some ⟨tb, toff, none⟩) X.length p.ct) ∧ V.cell? ⟨cb, coff + ja * 7, none⟩ = some (.int .i64 ch.p) ∧ V.cell? ⟨cb, coff + ja * 7 + 1, none⟩ = some (.int .i64 ch.h) ∧ V.cell? ⟨cb, coff + ja * 7 + 2, none⟩ = some (.int .i64 ch.k) ∧ V.cell? ⟨cb, coff + ja * 7 + 3, none⟩ = some (.int .i64 ch.m) ∧ V.cell? ⟨cb, coff + ja * 7 + 4, none⟩ = some (.int .i64 ch.s) ∧ V.cell? ⟨cb, coff + ja * 7 + 5, none⟩ = some (.int .i64 ch.lo) ∧ V.cell? ⟨cb, coff + ja * 7 + 6, none⟩ = some (.int .i64 ch.hi) ∧
      V.cell? ⟨tb, toff + t, none⟩ = some (.slice (some ⟨rb, roff, none⟩) tr.n tr.d) ∧ V.cell? ⟨rb, roff + ja * 2, none⟩ = some (.int .i64 rd.s) ∧ V.cell? ⟨rb, roff + ja * 2 + 1, none⟩ = some (.int .i64 rd.v)) (first | go_keep | exact ⟨x0, x1, x2, x3, x4, x5, x6, x7, x8, x9, x10, x11, x12, x13, x14, x15⟩)
      (first
        | (go_at_call 40; refine (H2.out _).mono ?_; rintro e w3 ⟨rfl, a3⟩; have HA3 := hideIt ((After.rfl.draws 1).trans a3); have x0 := (HA3.out.cell (cell_lt s0) _).trans s0; have x1 := (HA3.out.cell (cell_lt s1) _).trans s1; have x2 := (HA3.out.cell (cell_lt s2) _).trans s2; have x3 := (HA3.out.cell (cell_lt s3) _).trans s3; have x4 := (HA3.out.cell (cell_lt q0) _).trans q0; have x5 := (HA3.out.cell (cell_lt q1) _).trans q1; have x6 := (HA3.out.cell (cell_lt m0') _).trans m0'; have x7 := (HA3.out.cell (cell_lt m1') _).trans m1'; have x8 := (HA3.out.cell (cell_lt m2') _).trans m2'; have x9 := (HA3.out.cell (cell_lt m3') _).trans m3'; have x10 := (HA3.out.cell (cell_lt m4') _).trans m4'; have x11 := (HA3.out.cell (cell_lt m5') _).trans m5'; have x12 := (HA3.out.cell (cell_lt m6') _).trans m6'; have x13 := (HA3.out.cell (cell_lt n0') _).trans n0'; have x14 := (HA3.out.cell (cell_lt r0') _).trans r0'; have x15 := (HA3.out.cell (cell_lt r1') _).trans r1'; clear a3))
  clear x0 x1 x2 x3 x4 x5 x6 x7 x8 x9 x10 x11 x12 x13 x14 x15
  go_wp2
  go_ret
  exact ⟨rfl, HE.out.1.after (HA2.out.trans HA3.out), (HA2.out.trans HA3.out).but⟩
end Go.Proofs.Ythgmjeljjladhaa
