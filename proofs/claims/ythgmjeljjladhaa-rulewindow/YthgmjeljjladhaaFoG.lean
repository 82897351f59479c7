/-
  The closure: what it says of nodes that are no atoms, Op by Op.
-/
import Derived.Test.YthgmjeljjladhaaFoF
namespace Go.Proofs.Ythgmjeljjladhaa
open Go.RowKit Go.Maps
set_option maxRecDepth 8000
/-- The worlds ahead of the switch: the node and the moment lie in blocks of their own. -/
structure Mid (p : Pl) (L : List Nd) (C : List Ch) (X : List Tr) (i t : Nat) (x : Nd) (W W3 : World) : Prop where
  env : Env W3 p L C X
  aft : After W W3
  s0 : W3.cell? ⟨W.heap.size, 0, none⟩ = some (.int .i64 x.op)
  s1 : W3.cell? ⟨W.heap.size, 1, none⟩ = some (.int .i64 x.a)
  s2 : W3.cell? ⟨W.heap.size, 2, none⟩ = some (.int .i64 x.b)
  s3 : W3.cell? ⟨W.heap.size, 3, none⟩ = some (.int .i64 x.n)
  d0 : W3.cell? ⟨W.heap.size + 1, 0, none⟩ = some (.int .i64 (i : Int))
  d1 : W3.cell? ⟨W.heap.size + 1, 1, none⟩ = some (.int .i64 (t : Int))
theorem Mid.keep {p : Pl} {L : List Nd} {C : List Ch} {X : List Tr} {i t : Nat} {x : Nd} {W W3 V : World} (h : Mid p L C X i t x W W3) (e : Env V p L C X) (b : But (One p.g) W3 V) :
    V.cell? ⟨p.pf, 0, none⟩ = some (.map (some p.g)) ∧ V.cell? ⟨W.heap.size + 1, 0, none⟩ = some (.int .i64 (i : Int)) ∧ V.cell? ⟨W.heap.size + 1, 1, none⟩ = some (.int .i64 (t : Int)) :=
  ⟨e.f0, cell_keep h.env.mm.map b h.d0, cell_keep h.env.mm.map b h.d1⟩
set_option maxHeartbeats 4000000 in
theorem tell_0 {p : Pl} {L : List Nd} {C : List Ch} {X : List Tr} (ok : okAll L (C.length : Int) = true) (hL : L.length ≤ 32) (hX : X.length ≤ 1000) {i : Nat} (hx : L[i]? = some ⟨0, 0, 0, 0⟩) : Says p L C X i := by
  intro t ht W e
  have hi : i < L.length := (List.getElem?_eq_some_iff.1 hx).1
  have hv := hideIt (val_eq ok C (rdsOf X) hx t)
  have HV0 : Hid (val L C (rdsOf X) i t = true) := hideIt (by rw [hv.out]; simp [stepv])
  clear hv
  obtain ⟨b, off, y, hal, hb, hy, k0, k1, k2, k3⟩ := nrow_at e.n1 hi
  rw [hx] at hy
  cases hy
  have l0 := e.n0
  rw [hal] at l0
  have i1 : (i : Int) < (L.length : Int) := by omega
  obtain ⟨W2, hW2⟩ : ∃ W2, W2 = (W.alloc (.cells #[.int .i64 0, .int .i64 0, .int .i64 0, .int .i64 0] 38)).alloc (.cells #[.int .i64 (i : Int), .int .i64 (t : Int)] 82) := ⟨_, rfl⟩
  have a2 : After W W2 := by rw [hW2]; exact (After.rfl.alloc _).alloc _
  have s0 : W2.cell? ⟨W.heap.size, 0, none⟩ = some (.int .i64 0) := by rw [hW2]; exact new_cell (After.rfl.alloc _) 0 rfl
  have s1 : W2.cell? ⟨W.heap.size, 1, none⟩ = some (.int .i64 0) := by rw [hW2]; exact new_cell (After.rfl.alloc _) 1 rfl
  have s2 : W2.cell? ⟨W.heap.size, 2, none⟩ = some (.int .i64 0) := by rw [hW2]; exact new_cell (After.rfl.alloc _) 2 rfl
  have s3 : W2.cell? ⟨W.heap.size, 3, none⟩ = some (.int .i64 0) := by rw [hW2]; exact new_cell (After.rfl.alloc _) 3 rfl
  have d0 : W2.cell? ⟨W.heap.size + 1, 0, none⟩ = some (.int .i64 (i : Int)) := by
    rw [hW2]; have := new_cell (After.rfl (w := (W.alloc (.cells #[.int .i64 0, .int .i64 0, .int .i64 0, .int .i64 0] 38)).alloc (.cells #[.int .i64 (i : Int), .int .i64 (t : Int)] 82))) 0 rfl; rw [size_alloc] at this; exact this
  have d1 : W2.cell? ⟨W.heap.size + 1, 1, none⟩ = some (.int .i64 (t : Int)) := by
    rw [hW2]; have := new_cell (After.rfl (w := (W.alloc (.cells #[.int .i64 0, .int .i64 0, .int .i64 0, .int .i64 0] 38)).alloc (.cells #[.int .i64 (i : Int), .int .i64 (t : Int)] 82))) 1 rfl; rw [size_alloc] at this; exact this
  have e2 := e.after a2
  have f0 := e2.f0
  obtain ⟨bb, okk, hl, hok⟩ := e2.mm.look hL hX hi ht
  simp only [keyV] at hl
  obtain ⟨W3, hW3⟩ : ∃ W3, W3 = W2.alloc (.cells #[.bool bb] 85) := ⟨_, rfl⟩
  have a3 : After W2 W3 := by rw [hW3]; exact After.rfl.alloc _
  have M : Hid (Mid p L C X i t ⟨0, 0, 0, 0⟩ W W3) := hideIt ⟨e2.after a3, a2.trans a3, (a3.cell (cell_lt s0) _).trans s0, (a3.cell (cell_lt s1) _).trans s1, (a3.cell (cell_lt s2) _).trans s2, (a3.cell (cell_lt s3) _).trans s3, (a3.cell (cell_lt d0) _).trans d0, (a3.cell (cell_lt d1) _).trans d1⟩
  have H1 := hideIt (fun Y => isAtom_any 0 Y)
  have HW := hideIt hW2
  have HW3 := hideIt hW3
  have hlt := cell_lt s0
  have hlt2 := cell_lt d0
  have HT := hideIt ht
  have HI := hideIt hi
  obtain ⟨R, hRR⟩ : ∃ R, val L C (rdsOf X) i t = R := ⟨_, rfl⟩
  have HR := hideIt hRR
  rw [hRR] at hok ⊢
  have HVV := hideIt (hRR.symm.trans HV0.out)
  clear hal hb hx e2 a2 a3 hW2 hW3 ht hi e hRR
  go_enter Try.func42, Try.ntmps42
  go_wp2_with fail
  refine (H1.out _).mono ?_
  rintro e w1 ⟨rfl, rfl⟩
  rw [← HW.out, show atomic 0 = false from rfl]
  clear HW k0 k1 k2 k3 l0 H1
  cases okk with
  | true =>
    obtain rfl := hok rfl
    go_wp2
    go_ret
    refine ⟨rfl, ?_, ?_⟩
    · rw [← HW3.out]; exact M.out.env
    · rw [← HW3.out]; exact M.out.aft.but
  | false =>
    clear hok
    have HZ := HVV
    have K := M.out.keep (M.out.env) (But.rfl (w := W3))
    obtain ⟨g0, g1, g2⟩ := K
    obtain ⟨w9, hrun, m9, b9⟩ := (M.out.env).mm.put hL hX HI.out HT.out
    rw [HR.out, HZ.out] at hrun
    simp only [keyV] at hrun
    rw [HW3.out] at hrun g0 g1 g2
    have HP := hideIt (And.intro ((M.out.env).keep b9 m9) (M.out.aft.but.trans ((But.rfl (w := W3)).trans b9)))
    clear m9 b9
    go_wp2
    go_ret
    exact ⟨ret_bool HZ.out.symm, HP.out.1, HP.out.2⟩
set_option maxHeartbeats 4000000 in
theorem tell_6 {p : Pl} {L : List Nd} {C : List Ch} {X : List Tr} (ok : okAll L (C.length : Int) = true) (hL : L.length ≤ 32) (hX : X.length ≤ 1000) {i ja : Nat} (hx : L[i]? = some ⟨6, (ja : Int), 0, 0⟩) (SA : Says p L C X ja) : Says p L C X i := by
  intro t ht W e
  have hi : i < L.length := (List.getElem?_eq_some_iff.1 hx).1
  have hv := hideIt (val_eq ok C (rdsOf X) hx t)
  have HV0 : Hid (val L C (rdsOf X) i t = (!val L C (rdsOf X) ja t)) := hideIt (by rw [hv.out]; simp [stepv])
  clear hv
  obtain ⟨b, off, y, hal, hb, hy, k0, k1, k2, k3⟩ := nrow_at e.n1 hi
  rw [hx] at hy
  cases hy
  have l0 := e.n0
  rw [hal] at l0
  have i1 : (i : Int) < (L.length : Int) := by omega
  obtain ⟨W2, hW2⟩ : ∃ W2, W2 = (W.alloc (.cells #[.int .i64 6, .int .i64 (ja : Int), .int .i64 0, .int .i64 0] 38)).alloc (.cells #[.int .i64 (i : Int), .int .i64 (t : Int)] 82) := ⟨_, rfl⟩
  have a2 : After W W2 := by rw [hW2]; exact (After.rfl.alloc _).alloc _
  have s0 : W2.cell? ⟨W.heap.size, 0, none⟩ = some (.int .i64 6) := by rw [hW2]; exact new_cell (After.rfl.alloc _) 0 rfl
  have s1 : W2.cell? ⟨W.heap.size, 1, none⟩ = some (.int .i64 (ja : Int)) := by rw [hW2]; exact new_cell (After.rfl.alloc _) 1 rfl
  have s2 : W2.cell? ⟨W.heap.size, 2, none⟩ = some (.int .i64 0) := by rw [hW2]; exact new_cell (After.rfl.alloc _) 2 rfl
  have s3 : W2.cell? ⟨W.heap.size, 3, none⟩ = some (.int .i64 0) := by rw [hW2]; exact new_cell (After.rfl.alloc _) 3 rfl
  have d0 : W2.cell? ⟨W.heap.size + 1, 0, none⟩ = some (.int .i64 (i : Int)) := by
    rw [hW2]; have := new_cell (After.rfl (w := (W.alloc (.cells #[.int .i64 6, .int .i64 (ja : Int), .int .i64 0, .int .i64 0] 38)).alloc (.cells #[.int .i64 (i : Int), .int .i64 (t : Int)] 82))) 0 rfl; rw [size_alloc] at this; exact this
  have d1 : W2.cell? ⟨W.heap.size + 1, 1, none⟩ = some (.int .i64 (t : Int)) := by
    rw [hW2]; have := new_cell (After.rfl (w := (W.alloc (.cells #[.int .i64 6, .int .i64 (ja : Int), .int .i64 0, .int .i64 0] 38)).alloc (.cells #[.int .i64 (i : Int), .int .i64 (t : Int)] 82))) 1 rfl; rw [size_alloc] at this; exact this
  have e2 := e.after a2
  have f0 := e2.f0
  obtain ⟨bb, okk, hl, hok⟩ := e2.mm.look hL hX hi ht
  simp only [keyV] at hl
  obtain ⟨W3, hW3⟩ : ∃ W3, W3 = W2.alloc (.cells #[.bool bb] 85) := ⟨_, rfl⟩
  have a3 : After W2 W3 := by rw [hW3]; exact After.rfl.alloc _
  have M : Hid (Mid p L C X i t ⟨6, (ja : Int), 0, 0⟩ W W3) := hideIt ⟨e2.after a3, a2.trans a3, (a3.cell (cell_lt s0) _).trans s0, (a3.cell (cell_lt s1) _).trans s1, (a3.cell (cell_lt s2) _).trans s2, (a3.cell (cell_lt s3) _).trans s3, (a3.cell (cell_lt d0) _).trans d0, (a3.cell (cell_lt d1) _).trans d1⟩
  have H1 := hideIt (fun Y => isAtom_any 6 Y)
  have HW := hideIt hW2
  have HW3 := hideIt hW3
  have hlt := cell_lt s0
  have hlt2 := cell_lt d0
  have HT := hideIt ht
  have HI := hideIt hi
  obtain ⟨R, hRR⟩ : ∃ R, val L C (rdsOf X) i t = R := ⟨_, rfl⟩
  have HR := hideIt hRR
  rw [hRR] at hok ⊢
  have HVV := hideIt (hRR.symm.trans HV0.out)
  clear hal hb hx e2 a2 a3 hW2 hW3 ht hi e hRR
  go_enter Try.func42, Try.ntmps42
  go_wp2_with fail
  refine (H1.out _).mono ?_
  rintro e w1 ⟨rfl, rfl⟩
  rw [← HW.out, show atomic 6 = false from rfl]
  clear HW k0 k1 k2 k3 l0 H1
  cases okk with
  | true =>
    obtain rfl := hok rfl
    go_wp2
    go_ret
    refine ⟨rfl, ?_, ?_⟩
    · rw [← HW3.out]; exact M.out.env
    · rw [← HW3.out]; exact M.out.aft.but
  | false =>
    clear hok
    have HZ := HVV
    have h0 := (Env.h0 (M.out.env))
    rw [HW3.out] at h0
    go_wp2_with fail
    rw [← HW3.out]
    refine (SA t HT.out _ M.out.env).mono ?_
    rintro e w5 ⟨rfl, e5, b5⟩
    have K := M.out.keep (e5) (b5)
    obtain ⟨g0, g1, g2⟩ := K
    obtain ⟨w9, hrun, m9, b9⟩ := (e5).mm.put hL hX HI.out HT.out
    rw [HR.out, HZ.out] at hrun
    simp only [keyV] at hrun
    have HP := hideIt (And.intro ((e5).keep b9 m9) (M.out.aft.but.trans ((b5).trans b9)))
    clear m9 b9
    go_wp2
    go_ret
    exact ⟨ret_bool HZ.out.symm, HP.out.1, HP.out.2⟩
set_option maxHeartbeats 4000000 in
theorem tell_7 {p : Pl} {L : List Nd} {C : List Ch} {X : List Tr} (ok : okAll L (C.length : Int) = true) (hL : L.length ≤ 32) (hX : X.length ≤ 1000) {i ja jb : Nat} (hx : L[i]? = some ⟨7, (ja : Int), (jb : Int), 0⟩) (SA : Says p L C X ja) (SB : Says p L C X jb) : Says p L C X i := by
  intro t ht W e
  have hi : i < L.length := (List.getElem?_eq_some_iff.1 hx).1
  have hv := hideIt (val_eq ok C (rdsOf X) hx t)
  have HV0 : Hid (val L C (rdsOf X) i t = (val L C (rdsOf X) ja t && val L C (rdsOf X) jb t)) := hideIt (by rw [hv.out]; simp [stepv])
  clear hv
  obtain ⟨b, off, y, hal, hb, hy, k0, k1, k2, k3⟩ := nrow_at e.n1 hi
  rw [hx] at hy
  cases hy
  have l0 := e.n0
  rw [hal] at l0
  have i1 : (i : Int) < (L.length : Int) := by omega
  obtain ⟨W2, hW2⟩ : ∃ W2, W2 = (W.alloc (.cells #[.int .i64 7, .int .i64 (ja : Int), .int .i64 (jb : Int), .int .i64 0] 38)).alloc (.cells #[.int .i64 (i : Int), .int .i64 (t : Int)] 82) := ⟨_, rfl⟩
  have a2 : After W W2 := by rw [hW2]; exact (After.rfl.alloc _).alloc _
  have s0 : W2.cell? ⟨W.heap.size, 0, none⟩ = some (.int .i64 7) := by rw [hW2]; exact new_cell (After.rfl.alloc _) 0 rfl
  have s1 : W2.cell? ⟨W.heap.size, 1, none⟩ = some (.int .i64 (ja : Int)) := by rw [hW2]; exact new_cell (After.rfl.alloc _) 1 rfl
  have s2 : W2.cell? ⟨W.heap.size, 2, none⟩ = some (.int .i64 (jb : Int)) := by rw [hW2]; exact new_cell (After.rfl.alloc _) 2 rfl
  have s3 : W2.cell? ⟨W.heap.size, 3, none⟩ = some (.int .i64 0) := by rw [hW2]; exact new_cell (After.rfl.alloc _) 3 rfl
  have d0 : W2.cell? ⟨W.heap.size + 1, 0, none⟩ = some (.int .i64 (i : Int)) := by
    rw [hW2]; have := new_cell (After.rfl (w := (W.alloc (.cells #[.int .i64 7, .int .i64 (ja : Int), .int .i64 (jb : Int), .int .i64 0] 38)).alloc (.cells #[.int .i64 (i : Int), .int .i64 (t : Int)] 82))) 0 rfl; rw [size_alloc] at this; exact this
  have d1 : W2.cell? ⟨W.heap.size + 1, 1, none⟩ = some (.int .i64 (t : Int)) := by
    rw [hW2]; have := new_cell (After.rfl (w := (W.alloc (.cells #[.int .i64 7, .int .i64 (ja : Int), .int .i64 (jb : Int), .int .i64 0] 38)).alloc (.cells #[.int .i64 (i : Int), .int .i64 (t : Int)] 82))) 1 rfl; rw [size_alloc] at this; exact this
  have e2 := e.after a2
  have f0 := e2.f0
  obtain ⟨bb, okk, hl, hok⟩ := e2.mm.look hL hX hi ht
  simp only [keyV] at hl
  obtain ⟨W3, hW3⟩ : ∃ W3, W3 = W2.alloc (.cells #[.bool bb] 85) := ⟨_, rfl⟩
  have a3 : After W2 W3 := by rw [hW3]; exact After.rfl.alloc _
  have M : Hid (Mid p L C X i t ⟨7, (ja : Int), (jb : Int), 0⟩ W W3) := hideIt ⟨e2.after a3, a2.trans a3, (a3.cell (cell_lt s0) _).trans s0, (a3.cell (cell_lt s1) _).trans s1, (a3.cell (cell_lt s2) _).trans s2, (a3.cell (cell_lt s3) _).trans s3, (a3.cell (cell_lt d0) _).trans d0, (a3.cell (cell_lt d1) _).trans d1⟩
  have H1 := hideIt (fun Y => isAtom_any 7 Y)
  have HW := hideIt hW2
  have HW3 := hideIt hW3
  have hlt := cell_lt s0
  have hlt2 := cell_lt d0
  have HT := hideIt ht
  have HI := hideIt hi
  obtain ⟨R, hRR⟩ : ∃ R, val L C (rdsOf X) i t = R := ⟨_, rfl⟩
  have HR := hideIt hRR
  rw [hRR] at hok ⊢
  have HVV := hideIt (hRR.symm.trans HV0.out)
  clear hal hb hx e2 a2 a3 hW2 hW3 ht hi e hRR
  go_enter Try.func42, Try.ntmps42
  go_wp2_with fail
  refine (H1.out _).mono ?_
  rintro e w1 ⟨rfl, rfl⟩
  rw [← HW.out, show atomic 7 = false from rfl]
  clear HW k0 k1 k2 k3 l0 H1
  cases okk with
  | true =>
    obtain rfl := hok rfl
    go_wp2
    go_ret
    refine ⟨rfl, ?_, ?_⟩
    · rw [← HW3.out]; exact M.out.env
    · rw [← HW3.out]; exact M.out.aft.but
  | false =>
    clear hok
    have h0 := (Env.h0 (M.out.env))
    rw [HW3.out] at h0
    have HQ := hideIt (SA t HT.out W3 M.out.env)
    rcases hqa : val L C (rdsOf X) ja t with _ | _
    · rw [hqa] at HQ HVV
      clear hqa
      go_wp2_with fail
      rw [← HW3.out]
      refine HQ.out.mono ?_
      rintro e w5 ⟨rfl, e5, b5⟩
      simp only [Bool.false_and] at HVV
      have HZ := HVV
      have K := M.out.keep (e5) (b5)
      obtain ⟨g0, g1, g2⟩ := K
      obtain ⟨w9, hrun, m9, b9⟩ := (e5).mm.put hL hX HI.out HT.out
      rw [HR.out, HZ.out] at hrun
      simp only [keyV] at hrun
      have HP := hideIt (And.intro ((e5).keep b9 m9) (M.out.aft.but.trans ((b5).trans b9)))
      clear m9 b9
      go_wp2
      go_ret
      exact ⟨ret_bool HZ.out.symm, HP.out.1, HP.out.2⟩
    · rw [hqa] at HQ HVV
      clear hqa
      go_wp2_with fail
      rw [← HW3.out]
      refine HQ.out.mono ?_
      rintro e w5 ⟨rfl, e5, b5⟩
      have j2 := cell_keep M.out.env.mm.map b5 M.out.s2
      have j0 := e5.h0
      simp only [Bool.true_and] at HVV
      have HZ := HVV
      go_wp2_with fail
      refine (SB t HT.out _ e5).mono ?_
      rintro e w6 ⟨rfl, e6, b6⟩
      have K := M.out.keep (e6) (b5.trans b6)
      obtain ⟨g0, g1, g2⟩ := K
      obtain ⟨w9, hrun, m9, b9⟩ := (e6).mm.put hL hX HI.out HT.out
      rw [HR.out, HZ.out] at hrun
      simp only [keyV] at hrun
      have HP := hideIt (And.intro ((e6).keep b9 m9) (M.out.aft.but.trans ((b5.trans b6).trans b9)))
      clear m9 b9
      go_wp2
      go_ret
      exact ⟨ret_bool HZ.out.symm, HP.out.1, HP.out.2⟩
set_option maxHeartbeats 4000000 in
theorem tell_8 {p : Pl} {L : List Nd} {C : List Ch} {X : List Tr} (ok : okAll L (C.length : Int) = true) (hL : L.length ≤ 32) (hX : X.length ≤ 1000) {i ja jb : Nat} (hx : L[i]? = some ⟨8, (ja : Int), (jb : Int), 0⟩) (SA : Says p L C X ja) (SB : Says p L C X jb) : Says p L C X i := by
  intro t ht W e
  have hi : i < L.length := (List.getElem?_eq_some_iff.1 hx).1
  have hv := hideIt (val_eq ok C (rdsOf X) hx t)
  have HV0 : Hid (val L C (rdsOf X) i t = (val L C (rdsOf X) ja t || val L C (rdsOf X) jb t)) := hideIt (by rw [hv.out]; simp [stepv])
  clear hv
  obtain ⟨b, off, y, hal, hb, hy, k0, k1, k2, k3⟩ := nrow_at e.n1 hi
  rw [hx] at hy
  cases hy
  have l0 := e.n0
  rw [hal] at l0
  have i1 : (i : Int) < (L.length : Int) := by omega
  obtain ⟨W2, hW2⟩ : ∃ W2, W2 = (W.alloc (.cells #[.int .i64 8, .int .i64 (ja : Int), .int .i64 (jb : Int), .int .i64 0] 38)).alloc (.cells #[.int .i64 (i : Int), .int .i64 (t : Int)] 82) := ⟨_, rfl⟩
  have a2 : After W W2 := by rw [hW2]; exact (After.rfl.alloc _).alloc _
  have s0 : W2.cell? ⟨W.heap.size, 0, none⟩ = some (.int .i64 8) := by rw [hW2]; exact new_cell (After.rfl.alloc _) 0 rfl
  have s1 : W2.cell? ⟨W.heap.size, 1, none⟩ = some (.int .i64 (ja : Int)) := by rw [hW2]; exact new_cell (After.rfl.alloc _) 1 rfl
  have s2 : W2.cell? ⟨W.heap.size, 2, none⟩ = some (.int .i64 (jb : Int)) := by rw [hW2]; exact new_cell (After.rfl.alloc _) 2 rfl
  have s3 : W2.cell? ⟨W.heap.size, 3, none⟩ = some (.int .i64 0) := by rw [hW2]; exact new_cell (After.rfl.alloc _) 3 rfl
  have d0 : W2.cell? ⟨W.heap.size + 1, 0, none⟩ = some (.int .i64 (i : Int)) := by
    rw [hW2]; have := new_cell (After.rfl (w := (W.alloc (.cells #[.int .i64 8, .int .i64 (ja : Int), .int .i64 (jb : Int), .int .i64 0] 38)).alloc (.cells #[.int .i64 (i : Int), .int .i64 (t : Int)] 82))) 0 rfl; rw [size_alloc] at this; exact this
  have d1 : W2.cell? ⟨W.heap.size + 1, 1, none⟩ = some (.int .i64 (t : Int)) := by
    rw [hW2]; have := new_cell (After.rfl (w := (W.alloc (.cells #[.int .i64 8, .int .i64 (ja : Int), .int .i64 (jb : Int), .int .i64 0] 38)).alloc (.cells #[.int .i64 (i : Int), .int .i64 (t : Int)] 82))) 1 rfl; rw [size_alloc] at this; exact this
  have e2 := e.after a2
  have f0 := e2.f0
  obtain ⟨bb, okk, hl, hok⟩ := e2.mm.look hL hX hi ht
  simp only [keyV] at hl
  obtain ⟨W3, hW3⟩ : ∃ W3, W3 = W2.alloc (.cells #[.bool bb] 85) := ⟨_, rfl⟩
  have a3 : After W2 W3 := by rw [hW3]; exact After.rfl.alloc _
  have M : Hid (Mid p L C X i t ⟨8, (ja : Int), (jb : Int), 0⟩ W W3) := hideIt ⟨e2.after a3, a2.trans a3, (a3.cell (cell_lt s0) _).trans s0, (a3.cell (cell_lt s1) _).trans s1, (a3.cell (cell_lt s2) _).trans s2, (a3.cell (cell_lt s3) _).trans s3, (a3.cell (cell_lt d0) _).trans d0, (a3.cell (cell_lt d1) _).trans d1⟩
  have H1 := hideIt (fun Y => isAtom_any 8 Y)
  have HW := hideIt hW2
  have HW3 := hideIt hW3
  have hlt := cell_lt s0
  have hlt2 := cell_lt d0
  have HT := hideIt ht
  have HI := hideIt hi
  obtain ⟨R, hRR⟩ : ∃ R, val L C (rdsOf X) i t = R := ⟨_, rfl⟩
  have HR := hideIt hRR
  rw [hRR] at hok ⊢
  have HVV := hideIt (hRR.symm.trans HV0.out)
  clear hal hb hx e2 a2 a3 hW2 hW3 ht hi e hRR
  go_enter Try.func42, Try.ntmps42
  go_wp2_with fail
  refine (H1.out _).mono ?_
  rintro e w1 ⟨rfl, rfl⟩
  rw [← HW.out, show atomic 8 = false from rfl]
  clear HW k0 k1 k2 k3 l0 H1
  cases okk with
  | true =>
    obtain rfl := hok rfl
    go_wp2
    go_ret
    refine ⟨rfl, ?_, ?_⟩
    · rw [← HW3.out]; exact M.out.env
    · rw [← HW3.out]; exact M.out.aft.but
  | false =>
    clear hok
    have h0 := (Env.h0 (M.out.env))
    rw [HW3.out] at h0
    have HQ := hideIt (SA t HT.out W3 M.out.env)
    rcases hqa : val L C (rdsOf X) ja t with _ | _
    · rw [hqa] at HQ HVV
      clear hqa
      go_wp2_with fail
      rw [← HW3.out]
      refine HQ.out.mono ?_
      rintro e w5 ⟨rfl, e5, b5⟩
      have j2 := cell_keep M.out.env.mm.map b5 M.out.s2
      have j0 := e5.h0
      simp only [Bool.false_or] at HVV
      have HZ := HVV
      go_wp2_with fail
      refine (SB t HT.out _ e5).mono ?_
      rintro e w6 ⟨rfl, e6, b6⟩
      have K := M.out.keep (e6) (b5.trans b6)
      obtain ⟨g0, g1, g2⟩ := K
      obtain ⟨w9, hrun, m9, b9⟩ := (e6).mm.put hL hX HI.out HT.out
      rw [HR.out, HZ.out] at hrun
      simp only [keyV] at hrun
      have HP := hideIt (And.intro ((e6).keep b9 m9) (M.out.aft.but.trans ((b5.trans b6).trans b9)))
      clear m9 b9
      go_wp2
      go_ret
      exact ⟨ret_bool HZ.out.symm, HP.out.1, HP.out.2⟩
    · rw [hqa] at HQ HVV
      clear hqa
      go_wp2_with fail
      rw [← HW3.out]
      refine HQ.out.mono ?_
      rintro e w5 ⟨rfl, e5, b5⟩
      simp only [Bool.true_or] at HVV
      have HZ := HVV
      have K := M.out.keep (e5) (b5)
      obtain ⟨g0, g1, g2⟩ := K
      obtain ⟨w9, hrun, m9, b9⟩ := (e5).mm.put hL hX HI.out HT.out
      rw [HR.out, HZ.out] at hrun
      simp only [keyV] at hrun
      have HP := hideIt (And.intro ((e5).keep b9 m9) (M.out.aft.but.trans ((b5).trans b9)))
      clear m9 b9
      go_wp2
      go_ret
      exact ⟨ret_bool HZ.out.symm, HP.out.1, HP.out.2⟩
set_option maxHeartbeats 4000000 in
theorem tell_9 {p : Pl} {L : List Nd} {C : List Ch} {X : List Tr} (ok : okAll L (C.length : Int) = true) (hL : L.length ≤ 32) (hX : X.length ≤ 1000) {i ja : Nat} (hx : L[i]? = some ⟨9, (ja : Int), 0, 0⟩) (SA : Says p L C X ja) : Says p L C X i := by
  intro t ht W e
  have hi : i < L.length := (List.getElem?_eq_some_iff.1 hx).1
  have hv := hideIt (val_eq ok C (rdsOf X) hx t)
  have HV0 : Hid (val L C (rdsOf X) i t = (decide (0 < t) && val L C (rdsOf X) ja (t - 1))) := hideIt (by rw [hv.out]; simp [stepv])
  clear hv
  obtain ⟨b, off, y, hal, hb, hy, k0, k1, k2, k3⟩ := nrow_at e.n1 hi
  rw [hx] at hy
  cases hy
  have l0 := e.n0
  rw [hal] at l0
  have i1 : (i : Int) < (L.length : Int) := by omega
  obtain ⟨W2, hW2⟩ : ∃ W2, W2 = (W.alloc (.cells #[.int .i64 9, .int .i64 (ja : Int), .int .i64 0, .int .i64 0] 38)).alloc (.cells #[.int .i64 (i : Int), .int .i64 (t : Int)] 82) := ⟨_, rfl⟩
  have a2 : After W W2 := by rw [hW2]; exact (After.rfl.alloc _).alloc _
  have s0 : W2.cell? ⟨W.heap.size, 0, none⟩ = some (.int .i64 9) := by rw [hW2]; exact new_cell (After.rfl.alloc _) 0 rfl
  have s1 : W2.cell? ⟨W.heap.size, 1, none⟩ = some (.int .i64 (ja : Int)) := by rw [hW2]; exact new_cell (After.rfl.alloc _) 1 rfl
  have s2 : W2.cell? ⟨W.heap.size, 2, none⟩ = some (.int .i64 0) := by rw [hW2]; exact new_cell (After.rfl.alloc _) 2 rfl
  have s3 : W2.cell? ⟨W.heap.size, 3, none⟩ = some (.int .i64 0) := by rw [hW2]; exact new_cell (After.rfl.alloc _) 3 rfl
  have d0 : W2.cell? ⟨W.heap.size + 1, 0, none⟩ = some (.int .i64 (i : Int)) := by
    rw [hW2]; have := new_cell (After.rfl (w := (W.alloc (.cells #[.int .i64 9, .int .i64 (ja : Int), .int .i64 0, .int .i64 0] 38)).alloc (.cells #[.int .i64 (i : Int), .int .i64 (t : Int)] 82))) 0 rfl; rw [size_alloc] at this; exact this
  have d1 : W2.cell? ⟨W.heap.size + 1, 1, none⟩ = some (.int .i64 (t : Int)) := by
    rw [hW2]; have := new_cell (After.rfl (w := (W.alloc (.cells #[.int .i64 9, .int .i64 (ja : Int), .int .i64 0, .int .i64 0] 38)).alloc (.cells #[.int .i64 (i : Int), .int .i64 (t : Int)] 82))) 1 rfl; rw [size_alloc] at this; exact this
  have e2 := e.after a2
  have f0 := e2.f0
  obtain ⟨bb, okk, hl, hok⟩ := e2.mm.look hL hX hi ht
  simp only [keyV] at hl
  obtain ⟨W3, hW3⟩ : ∃ W3, W3 = W2.alloc (.cells #[.bool bb] 85) := ⟨_, rfl⟩
  have a3 : After W2 W3 := by rw [hW3]; exact After.rfl.alloc _
  have M : Hid (Mid p L C X i t ⟨9, (ja : Int), 0, 0⟩ W W3) := hideIt ⟨e2.after a3, a2.trans a3, (a3.cell (cell_lt s0) _).trans s0, (a3.cell (cell_lt s1) _).trans s1, (a3.cell (cell_lt s2) _).trans s2, (a3.cell (cell_lt s3) _).trans s3, (a3.cell (cell_lt d0) _).trans d0, (a3.cell (cell_lt d1) _).trans d1⟩
  have H1 := hideIt (fun Y => isAtom_any 9 Y)
  have HW := hideIt hW2
  have HW3 := hideIt hW3
  have hlt := cell_lt s0
  have hlt2 := cell_lt d0
  have HT := hideIt ht
  have HI := hideIt hi
  obtain ⟨R, hRR⟩ : ∃ R, val L C (rdsOf X) i t = R := ⟨_, rfl⟩
  have HR := hideIt hRR
  rw [hRR] at hok ⊢
  have HVV := hideIt (hRR.symm.trans HV0.out)
  clear hal hb hx e2 a2 a3 hW2 hW3 ht hi e hRR
  go_enter Try.func42, Try.ntmps42
  go_wp2_with fail
  refine (H1.out _).mono ?_
  rintro e w1 ⟨rfl, rfl⟩
  rw [← HW.out, show atomic 9 = false from rfl]
  clear HW k0 k1 k2 k3 l0 H1
  cases okk with
  | true =>
    obtain rfl := hok rfl
    go_wp2
    go_ret
    refine ⟨rfl, ?_, ?_⟩
    · rw [← HW3.out]; exact M.out.env
    · rw [← HW3.out]; exact M.out.aft.but
  | false =>
    clear hok
    have h0 := (Env.h0 (M.out.env))
    rw [HW3.out] at h0
    by_cases h0t : t = 0
    · have HZ : Hid (R = false) := hideIt (by rw [HVV.out, h0t]; rfl)
      have i7 : ¬ (0 : Int) < (t : Int) := by omega
      clear h0t
      have K := M.out.keep (M.out.env) (But.rfl (w := W3))
      obtain ⟨g0, g1, g2⟩ := K
      obtain ⟨w9, hrun, m9, b9⟩ := (M.out.env).mm.put hL hX HI.out HT.out
      rw [HR.out, HZ.out] at hrun
      simp only [keyV] at hrun
      rw [HW3.out] at hrun g0 g1 g2
      have HP := hideIt (And.intro ((M.out.env).keep b9 m9) (M.out.aft.but.trans ((But.rfl (w := W3)).trans b9)))
      clear m9 b9
      go_wp2
      go_ret
      exact ⟨ret_bool HZ.out.symm, HP.out.1, HP.out.2⟩
    · obtain ⟨s, hs⟩ : ∃ s, t = s + 1 := ⟨t - 1, by omega⟩
      have HZ : Hid (R = val L C (rdsOf X) ja s) := hideIt (by rw [HVV.out, hs]; simp)
      have i7 : (0 : Int) < (t : Int) := by omega
      have HS := hideIt (SA s (by have := HT.out; omega) W3 M.out.env)
      rw [show (s : Int) = (t : Int) - 1 by omega] at HS
      have i9 : (t : Int) ≤ 1000 := by have := HT.out; omega
      clear hs h0t
      go_wp2_with fail
      rw [← HW3.out]
      refine HS.out.mono ?_
      rintro e w5 ⟨rfl, e5, b5⟩
      have K := M.out.keep (e5) (b5)
      obtain ⟨g0, g1, g2⟩ := K
      obtain ⟨w9, hrun, m9, b9⟩ := (e5).mm.put hL hX HI.out HT.out
      rw [HR.out, HZ.out] at hrun
      simp only [keyV] at hrun
      have HP := hideIt (And.intro ((e5).keep b9 m9) (M.out.aft.but.trans ((b5).trans b9)))
      clear m9 b9
      go_wp2
      go_ret
      exact ⟨ret_bool HZ.out.symm, HP.out.1, HP.out.2⟩
set_option maxHeartbeats 4000000 in
theorem tell_10 {p : Pl} {L : List Nd} {C : List Ch} {X : List Tr} (ok : okAll L (C.length : Int) = true) (hL : L.length ≤ 32) (hX : X.length ≤ 1000) {i ja n : Nat} (hx : L[i]? = some ⟨10, (ja : Int), 0, (n : Int)⟩) (hn : n ≤ 64) (SA : Says p L C X ja) : Says p L C X i := by
  intro t ht W e
  have hi : i < L.length := (List.getElem?_eq_some_iff.1 hx).1
  have hv := hideIt (val_eq ok C (rdsOf X) hx t)
  have HV0 : Hid (val L C (rdsOf X) i t = (anyW (val L C (rdsOf X) ja) (t - n) t)) := hideIt (by rw [hv.out]; simp [stepv])
  clear hv
  obtain ⟨b, off, y, hal, hb, hy, k0, k1, k2, k3⟩ := nrow_at e.n1 hi
  rw [hx] at hy
  cases hy
  have l0 := e.n0
  rw [hal] at l0
  have i1 : (i : Int) < (L.length : Int) := by omega
  obtain ⟨W2, hW2⟩ : ∃ W2, W2 = (W.alloc (.cells #[.int .i64 10, .int .i64 (ja : Int), .int .i64 0, .int .i64 (n : Int)] 38)).alloc (.cells #[.int .i64 (i : Int), .int .i64 (t : Int)] 82) := ⟨_, rfl⟩
  have a2 : After W W2 := by rw [hW2]; exact (After.rfl.alloc _).alloc _
  have s0 : W2.cell? ⟨W.heap.size, 0, none⟩ = some (.int .i64 10) := by rw [hW2]; exact new_cell (After.rfl.alloc _) 0 rfl
  have s1 : W2.cell? ⟨W.heap.size, 1, none⟩ = some (.int .i64 (ja : Int)) := by rw [hW2]; exact new_cell (After.rfl.alloc _) 1 rfl
  have s2 : W2.cell? ⟨W.heap.size, 2, none⟩ = some (.int .i64 0) := by rw [hW2]; exact new_cell (After.rfl.alloc _) 2 rfl
  have s3 : W2.cell? ⟨W.heap.size, 3, none⟩ = some (.int .i64 (n : Int)) := by rw [hW2]; exact new_cell (After.rfl.alloc _) 3 rfl
  have d0 : W2.cell? ⟨W.heap.size + 1, 0, none⟩ = some (.int .i64 (i : Int)) := by
    rw [hW2]; have := new_cell (After.rfl (w := (W.alloc (.cells #[.int .i64 10, .int .i64 (ja : Int), .int .i64 0, .int .i64 (n : Int)] 38)).alloc (.cells #[.int .i64 (i : Int), .int .i64 (t : Int)] 82))) 0 rfl; rw [size_alloc] at this; exact this
  have d1 : W2.cell? ⟨W.heap.size + 1, 1, none⟩ = some (.int .i64 (t : Int)) := by
    rw [hW2]; have := new_cell (After.rfl (w := (W.alloc (.cells #[.int .i64 10, .int .i64 (ja : Int), .int .i64 0, .int .i64 (n : Int)] 38)).alloc (.cells #[.int .i64 (i : Int), .int .i64 (t : Int)] 82))) 1 rfl; rw [size_alloc] at this; exact this
  have e2 := e.after a2
  have f0 := e2.f0
  obtain ⟨bb, okk, hl, hok⟩ := e2.mm.look hL hX hi ht
  simp only [keyV] at hl
  obtain ⟨W3, hW3⟩ : ∃ W3, W3 = W2.alloc (.cells #[.bool bb] 85) := ⟨_, rfl⟩
  have a3 : After W2 W3 := by rw [hW3]; exact After.rfl.alloc _
  have M : Hid (Mid p L C X i t ⟨10, (ja : Int), 0, (n : Int)⟩ W W3) := hideIt ⟨e2.after a3, a2.trans a3, (a3.cell (cell_lt s0) _).trans s0, (a3.cell (cell_lt s1) _).trans s1, (a3.cell (cell_lt s2) _).trans s2, (a3.cell (cell_lt s3) _).trans s3, (a3.cell (cell_lt d0) _).trans d0, (a3.cell (cell_lt d1) _).trans d1⟩
  have H1 := hideIt (fun Y => isAtom_any 10 Y)
  have HW := hideIt hW2
  have HW3 := hideIt hW3
  have hlt := cell_lt s0
  have hlt2 := cell_lt d0
  have HT := hideIt ht
  have HI := hideIt hi
  obtain ⟨R, hRR⟩ : ∃ R, val L C (rdsOf X) i t = R := ⟨_, rfl⟩
  have HR := hideIt hRR
  rw [hRR] at hok ⊢
  have HVV := hideIt (hRR.symm.trans HV0.out)
  clear hal hb hx e2 a2 a3 hW2 hW3 ht hi e hRR
  go_enter Try.func42, Try.ntmps42
  go_wp2_with fail
  refine (H1.out _).mono ?_
  rintro e w1 ⟨rfl, rfl⟩
  rw [← HW.out, show atomic 10 = false from rfl]
  clear HW k0 k1 k2 k3 l0 H1
  cases okk with
  | true =>
    obtain rfl := hok rfl
    go_wp2
    go_ret
    refine ⟨rfl, ?_, ?_⟩
    · rw [← HW3.out]; exact M.out.env
    · rw [← HW3.out]; exact M.out.aft.but
  | false =>
    clear hok
    have HZ := HVV
    have HS : Hid (Calls Try.prog 44 #[.int .i64 (t : Int), .int .i64 (n : Int), .func (.func 45) #[] #[Ptr p.ph, Ptr W.heap.size]] W3 fun x w' => x = .returned (.bool (anyW (val L C (rdsOf X) ja) (t - n) t)) ∧ (Env w' p L C X ∧ But (One p.g) W3 w')) := hideIt (any1_any (f := (val L C (rdsOf X) ja)) (I := fun Y => Env Y p L C X ∧ But (One p.g) W3 Y) (fun s hs Y hY => (in1_any SA (by have := HT.out; omega) hY.1 (cell_keep M.out.env.mm.map hY.2 M.out.s1)).mono (fun x Y' h => ⟨h.1, h.2.1, hY.2.trans h.2.2⟩)) (by have := HT.out; omega) (by omega) ⟨M.out.env, But.rfl⟩)
    have hmf : ∀ (fn : Fn) (first cap : Array Value) (w : World), (Instr.makeFunc fn first cap).run Try.prog w = .ok (.func fn first cap) w := fun _ _ _ _ => rfl
    go_wp2_with fail
    rw [← HW3.out]
    refine HS.out.mono ?_
    rintro e w5 ⟨rfl, e5, b5⟩
    have K := M.out.keep (e5) (b5)
    obtain ⟨g0, g1, g2⟩ := K
    obtain ⟨w9, hrun, m9, b9⟩ := (e5).mm.put hL hX HI.out HT.out
    rw [HR.out, HZ.out] at hrun
    simp only [keyV] at hrun
    have HP := hideIt (And.intro ((e5).keep b9 m9) (M.out.aft.but.trans ((b5).trans b9)))
    clear m9 b9
    go_wp2
    go_ret
    exact ⟨ret_bool HZ.out.symm, HP.out.1, HP.out.2⟩
set_option maxHeartbeats 4000000 in
theorem tell_11 {p : Pl} {L : List Nd} {C : List Ch} {X : List Tr} (ok : okAll L (C.length : Int) = true) (hL : L.length ≤ 32) (hX : X.length ≤ 1000) {i ja n : Nat} (hx : L[i]? = some ⟨11, (ja : Int), 0, (n : Int)⟩) (hn : n ≤ 64) (SA : Says p L C X ja) : Says p L C X i := by
  intro t ht W e
  have hi : i < L.length := (List.getElem?_eq_some_iff.1 hx).1
  have hv := hideIt (val_eq ok C (rdsOf X) hx t)
  have HV0 : Hid (val L C (rdsOf X) i t = (!anyW (fun s => !val L C (rdsOf X) ja s) (t - n) t)) := hideIt (by rw [hv.out]; simp [stepv])
  clear hv
  obtain ⟨b, off, y, hal, hb, hy, k0, k1, k2, k3⟩ := nrow_at e.n1 hi
  rw [hx] at hy
  cases hy
  have l0 := e.n0
  rw [hal] at l0
  have i1 : (i : Int) < (L.length : Int) := by omega
  obtain ⟨W2, hW2⟩ : ∃ W2, W2 = (W.alloc (.cells #[.int .i64 11, .int .i64 (ja : Int), .int .i64 0, .int .i64 (n : Int)] 38)).alloc (.cells #[.int .i64 (i : Int), .int .i64 (t : Int)] 82) := ⟨_, rfl⟩
  have a2 : After W W2 := by rw [hW2]; exact (After.rfl.alloc _).alloc _
  have s0 : W2.cell? ⟨W.heap.size, 0, none⟩ = some (.int .i64 11) := by rw [hW2]; exact new_cell (After.rfl.alloc _) 0 rfl
  have s1 : W2.cell? ⟨W.heap.size, 1, none⟩ = some (.int .i64 (ja : Int)) := by rw [hW2]; exact new_cell (After.rfl.alloc _) 1 rfl
  have s2 : W2.cell? ⟨W.heap.size, 2, none⟩ = some (.int .i64 0) := by rw [hW2]; exact new_cell (After.rfl.alloc _) 2 rfl
  have s3 : W2.cell? ⟨W.heap.size, 3, none⟩ = some (.int .i64 (n : Int)) := by rw [hW2]; exact new_cell (After.rfl.alloc _) 3 rfl
  have d0 : W2.cell? ⟨W.heap.size + 1, 0, none⟩ = some (.int .i64 (i : Int)) := by
    rw [hW2]; have := new_cell (After.rfl (w := (W.alloc (.cells #[.int .i64 11, .int .i64 (ja : Int), .int .i64 0, .int .i64 (n : Int)] 38)).alloc (.cells #[.int .i64 (i : Int), .int .i64 (t : Int)] 82))) 0 rfl; rw [size_alloc] at this; exact this
  have d1 : W2.cell? ⟨W.heap.size + 1, 1, none⟩ = some (.int .i64 (t : Int)) := by
    rw [hW2]; have := new_cell (After.rfl (w := (W.alloc (.cells #[.int .i64 11, .int .i64 (ja : Int), .int .i64 0, .int .i64 (n : Int)] 38)).alloc (.cells #[.int .i64 (i : Int), .int .i64 (t : Int)] 82))) 1 rfl; rw [size_alloc] at this; exact this
  have e2 := e.after a2
  have f0 := e2.f0
  obtain ⟨bb, okk, hl, hok⟩ := e2.mm.look hL hX hi ht
  simp only [keyV] at hl
  obtain ⟨W3, hW3⟩ : ∃ W3, W3 = W2.alloc (.cells #[.bool bb] 85) := ⟨_, rfl⟩
  have a3 : After W2 W3 := by rw [hW3]; exact After.rfl.alloc _
  have M : Hid (Mid p L C X i t ⟨11, (ja : Int), 0, (n : Int)⟩ W W3) := hideIt ⟨e2.after a3, a2.trans a3, (a3.cell (cell_lt s0) _).trans s0, (a3.cell (cell_lt s1) _).trans s1, (a3.cell (cell_lt s2) _).trans s2, (a3.cell (cell_lt s3) _).trans s3, (a3.cell (cell_lt d0) _).trans d0, (a3.cell (cell_lt d1) _).trans d1⟩
  have H1 := hideIt (fun Y => isAtom_any 11 Y)
  have HW := hideIt hW2
  have HW3 := hideIt hW3
  have hlt := cell_lt s0
  have hlt2 := cell_lt d0
  have HT := hideIt ht
  have HI := hideIt hi
  obtain ⟨R, hRR⟩ : ∃ R, val L C (rdsOf X) i t = R := ⟨_, rfl⟩
  have HR := hideIt hRR
  rw [hRR] at hok ⊢
  have HVV := hideIt (hRR.symm.trans HV0.out)
  clear hal hb hx e2 a2 a3 hW2 hW3 ht hi e hRR
  go_enter Try.func42, Try.ntmps42
  go_wp2_with fail
  refine (H1.out _).mono ?_
  rintro e w1 ⟨rfl, rfl⟩
  rw [← HW.out, show atomic 11 = false from rfl]
  clear HW k0 k1 k2 k3 l0 H1
  cases okk with
  | true =>
    obtain rfl := hok rfl
    go_wp2
    go_ret
    refine ⟨rfl, ?_, ?_⟩
    · rw [← HW3.out]; exact M.out.env
    · rw [← HW3.out]; exact M.out.aft.but
  | false =>
    clear hok
    have HZ := HVV
    have HS : Hid (Calls Try.prog 44 #[.int .i64 (t : Int), .int .i64 (n : Int), .func (.func 46) #[] #[Ptr p.ph, Ptr W.heap.size]] W3 fun x w' => x = .returned (.bool (anyW (fun s => !val L C (rdsOf X) ja s) (t - n) t)) ∧ (Env w' p L C X ∧ But (One p.g) W3 w')) := hideIt (any2_any (f := (fun s => !val L C (rdsOf X) ja s)) (I := fun Y => Env Y p L C X ∧ But (One p.g) W3 Y) (fun s hs Y hY => (in2_any SA (by have := HT.out; omega) hY.1 (cell_keep M.out.env.mm.map hY.2 M.out.s1)).mono (fun x Y' h => ⟨h.1, h.2.1, hY.2.trans h.2.2⟩)) (by have := HT.out; omega) (by omega) ⟨M.out.env, But.rfl⟩)
    have hmf : ∀ (fn : Fn) (first cap : Array Value) (w : World), (Instr.makeFunc fn first cap).run Try.prog w = .ok (.func fn first cap) w := fun _ _ _ _ => rfl
    go_wp2_with fail
    rw [← HW3.out]
    refine HS.out.mono ?_
    rintro e w5 ⟨rfl, e5, b5⟩
    have K := M.out.keep (e5) (b5)
    obtain ⟨g0, g1, g2⟩ := K
    obtain ⟨w9, hrun, m9, b9⟩ := (e5).mm.put hL hX HI.out HT.out
    rw [HR.out, HZ.out] at hrun
    simp only [keyV] at hrun
    have HP := hideIt (And.intro ((e5).keep b9 m9) (M.out.aft.but.trans ((b5).trans b9)))
    clear m9 b9
    go_wp2
    go_ret
    exact ⟨ret_bool HZ.out.symm, HP.out.1, HP.out.2⟩
set_option maxHeartbeats 4000000 in
theorem tell_12 {p : Pl} {L : List Nd} {C : List Ch} {X : List Tr} (ok : okAll L (C.length : Int) = true) (hL : L.length ≤ 32) (hX : X.length ≤ 1000) {i ja jb : Nat} (hx : L[i]? = some ⟨12, (ja : Int), (jb : Int), 0⟩) (SA : Says p L C X ja) (SB : Says p L C X jb) : Says p L C X i := by
  intro t ht W e
  have hi : i < L.length := (List.getElem?_eq_some_iff.1 hx).1
  have hv := hideIt (val_eq ok C (rdsOf X) hx t)
  have HV9 := hideIt (fun s => val_eq ok C (rdsOf X) hx s)
  have HV0 : Hid (val L C (rdsOf X) i t = sinc (val L C (rdsOf X) ja) (val L C (rdsOf X) jb) t) := hideIt (by rw [hv.out]; simp [stepv])
  clear hv
  obtain ⟨b, off, y, hal, hb, hy, k0, k1, k2, k3⟩ := nrow_at e.n1 hi
  rw [hx] at hy
  cases hy
  have l0 := e.n0
  rw [hal] at l0
  have i1 : (i : Int) < (L.length : Int) := by omega
  obtain ⟨W2, hW2⟩ : ∃ W2, W2 = (W.alloc (.cells #[.int .i64 12, .int .i64 (ja : Int), .int .i64 (jb : Int), .int .i64 0] 38)).alloc (.cells #[.int .i64 (i : Int), .int .i64 (t : Int)] 82) := ⟨_, rfl⟩
  have a2 : After W W2 := by rw [hW2]; exact (After.rfl.alloc _).alloc _
  have s0 : W2.cell? ⟨W.heap.size, 0, none⟩ = some (.int .i64 12) := by rw [hW2]; exact new_cell (After.rfl.alloc _) 0 rfl
  have s1 : W2.cell? ⟨W.heap.size, 1, none⟩ = some (.int .i64 (ja : Int)) := by rw [hW2]; exact new_cell (After.rfl.alloc _) 1 rfl
  have s2 : W2.cell? ⟨W.heap.size, 2, none⟩ = some (.int .i64 (jb : Int)) := by rw [hW2]; exact new_cell (After.rfl.alloc _) 2 rfl
  have s3 : W2.cell? ⟨W.heap.size, 3, none⟩ = some (.int .i64 0) := by rw [hW2]; exact new_cell (After.rfl.alloc _) 3 rfl
  have d0 : W2.cell? ⟨W.heap.size + 1, 0, none⟩ = some (.int .i64 (i : Int)) := by
    rw [hW2]; have := new_cell (After.rfl (w := (W.alloc (.cells #[.int .i64 12, .int .i64 (ja : Int), .int .i64 (jb : Int), .int .i64 0] 38)).alloc (.cells #[.int .i64 (i : Int), .int .i64 (t : Int)] 82))) 0 rfl; rw [size_alloc] at this; exact this
  have d1 : W2.cell? ⟨W.heap.size + 1, 1, none⟩ = some (.int .i64 (t : Int)) := by
    rw [hW2]; have := new_cell (After.rfl (w := (W.alloc (.cells #[.int .i64 12, .int .i64 (ja : Int), .int .i64 (jb : Int), .int .i64 0] 38)).alloc (.cells #[.int .i64 (i : Int), .int .i64 (t : Int)] 82))) 1 rfl; rw [size_alloc] at this; exact this
  have e2 := e.after a2
  have f0 := e2.f0
  obtain ⟨bb, okk, hl, hok⟩ := e2.mm.look hL hX hi ht
  simp only [keyV] at hl
  obtain ⟨W3, hW3⟩ : ∃ W3, W3 = W2.alloc (.cells #[.bool bb] 85) := ⟨_, rfl⟩
  have a3 : After W2 W3 := by rw [hW3]; exact After.rfl.alloc _
  have M : Hid (Mid p L C X i t ⟨12, (ja : Int), (jb : Int), 0⟩ W W3) := hideIt ⟨e2.after a3, a2.trans a3, (a3.cell (cell_lt s0) _).trans s0, (a3.cell (cell_lt s1) _).trans s1, (a3.cell (cell_lt s2) _).trans s2, (a3.cell (cell_lt s3) _).trans s3, (a3.cell (cell_lt d0) _).trans d0, (a3.cell (cell_lt d1) _).trans d1⟩
  have H1 := hideIt (fun Y => isAtom_any 12 Y)
  have HW := hideIt hW2
  have HW3 := hideIt hW3
  have hlt := cell_lt s0
  have hlt2 := cell_lt d0
  have HT := hideIt ht
  have HI := hideIt hi
  obtain ⟨R, hRR⟩ : ∃ R, val L C (rdsOf X) i t = R := ⟨_, rfl⟩
  have HR := hideIt hRR
  rw [hRR] at hok ⊢
  have HVV := hideIt (hRR.symm.trans HV0.out)
  clear hal hb hx e2 a2 a3 hW2 hW3 ht hi e hRR
  go_enter Try.func42, Try.ntmps42
  go_wp2_with fail
  refine (H1.out _).mono ?_
  rintro e w1 ⟨rfl, rfl⟩
  rw [← HW.out, show atomic 12 = false from rfl]
  clear HW k0 k1 k2 k3 l0 H1
  cases okk with
  | true =>
    obtain rfl := hok rfl
    go_wp2
    go_ret
    refine ⟨rfl, ?_, ?_⟩
    · rw [← HW3.out]; exact M.out.env
    · rw [← HW3.out]; exact M.out.aft.but
  | false =>
    clear hok
    have HZ := HVV
    have h0 := (Env.h0 (M.out.env))
    rw [HW3.out] at h0
    have HS := hideIt (since_any hL hX (c := 12) (n := 0) SA SB HI.out (fun s => by rw [HV9.out]; simp [stepv]) HT.out M.out.env)
    rw [HR.out, HVV.out] at HS
    simp only [keyV] at HS
    have f3 := M.out.env.f0
    rw [HW3.out] at f3
    go_wp2_with fail
    rw [← HW3.out]
    refine HS.out.mono ?_
    rintro e w5 ⟨rfl, e5, b5⟩
    have K := M.out.keep (e5) (b5)
    obtain ⟨g0, g1, g2⟩ := K
    obtain ⟨w9, hrun, m9, b9⟩ := (e5).mm.put hL hX HI.out HT.out
    rw [HR.out, HZ.out] at hrun
    simp only [keyV] at hrun
    have HP := hideIt (And.intro ((e5).keep b9 m9) (M.out.aft.but.trans ((b5).trans b9)))
    clear m9 b9
    go_wp2
    go_ret
    exact ⟨ret_bool HZ.out.symm, HP.out.1, HP.out.2⟩
end Go.Proofs.Ythgmjeljjladhaa
