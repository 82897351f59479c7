/-
  The document's Row: what it makes, Op by Op.
-/
import Derived.Test.YthgmjeljjladhaaFoT
import Derived.Test.YthgmjeljjladhaaFoR
import Derived.Test.YthgmjeljjladhaaSloQ
import Derived.Test.YthgmjeljjladhaaSloL
import Derived.Laws.MakeOwn
import Derived.Deep.Cut
namespace Go.Proofs.Ythgmjeljjladhaa
open Go.RowKit
set_option maxRecDepth 8000
def bcs (l : List Bool) : Array Value := (l.map Value.bool).toArray
theorem bcs_size (l : List Bool) : (bcs l).size = l.length := by simp [bcs]
theorem bcs_at {l : List Bool} {i : Nat} (h : i < l.length) : (bcs l)[i]? = some (.bool (l.getD i false)) := by simp [bcs, h]
theorem bcs_set (l : List Bool) (i : Nat) (b : Bool) : (bcs l).setIfInBounds i (.bool b) = bcs (l.set i b) := by
  simp [bcs, List.map_set]
/-- Bools fill a block. -/
def OutAt (w : World) (g : Nat) (l : List Bool) : Prop := w.heap[g]? = some (.cells (bcs l) 4 (0, 0))
theorem Try.infoBool : (Try.prog.info? 4).map (fun i => (i.zero, i.size, i.bytes)) = some (some (.bool false), 1, 1) := by kernel_rfl
theorem make_bools (n : Nat) (hn : n ≤ 1000) (w : World) : (Instr.makeSlice 70 (.int .i64 (n : Int)) (.int .i64 (n : Int))).run Try.prog w = .ok (.slice (some ⟨w.heap.size, 0, none⟩) n n) (w.alloc (.cells (bcs (List.replicate n false)) 4)) := by
  obtain ⟨i0, hi, hz⟩ := Option.map_eq_some_iff.1 Try.infoBool
  simp only [Prod.mk.injEq] at hz
  obtain ⟨hz0, hz1, hz2⟩ := hz
  have := run_make (P := Try.prog) w 70 4 i0 _ Try.underlying70 hi hz0 .i64 .i64 (n : Int) (n : Int) (by omega) (Int.le_refl _) (by rw [hz2]; omega) (by omega)
  rw [this, hz1, Int.toNat_natCast, Nat.mul_one]
  congr 3
  apply Array.toList_inj.1
  show (madeCells #[.bool false] n).toList = _
  rw [toList_madeCells_one]
  simp [bcs]
theorem wnd_congr {f g : Nat → Bool} {lo t : Nat} {al : Bool} (h : ∀ s, s ≤ t → f s = g s) : wnd f lo t al = wnd g lo t al := by
  unfold wnd
  rw [anyW_congr h, anyW_congr (f := fun s => !f s) (g := fun s => !g s) (fun s hs => by rw [h s hs])]
/-- What one part tells, in a row of rows. -/
structure Part (w : World) (ar : Option Addr) (nr : Nat) (nt ja : Nat) (f : Nat → Bool) : Prop where
  lt : ja < nr
  ex : ∃ rb roff ya yd l, ar = some ⟨rb, roff, none⟩ ∧ rb < w.heap.size ∧ w.cell? ⟨rb, roff + ja, none⟩ = some (.slice ya nt yd) ∧ BRow w ya nt l ∧ ∀ s, s < nt → l.getD s false = f s
theorem Part.after {w w' : World} {ar : Option Addr} {nr nt ja : Nat} {f : Nat → Bool} (h : Part w ar nr nt ja f) (a : After w w') : Part w' ar nr nt ja f := by
  obtain ⟨lt, rb, roff, ya, yd, l, e, hb, hc, hr, hf⟩ := h
  exact ⟨lt, rb, roff, ya, yd, l, e, Nat.lt_of_lt_of_le hb a.size, (a.cell hb _).trans hc, hr.after a, hf⟩
/-- What lies in memory when Row's loop goes round: the node, what was made. -/
structure RowAt (w W2 wr : World) (x : Nd) (nt j : Nat) (V : Nat → Bool) : Prop where
  but : But (One (w.heap.size + 1)) W2 wr
  aft : After w wr
  x0 : wr.cell? ⟨w.heap.size, 0, none⟩ = some (.int .i64 x.op)
  x1 : wr.cell? ⟨w.heap.size, 1, none⟩ = some (.int .i64 x.a)
  x2 : wr.cell? ⟨w.heap.size, 2, none⟩ = some (.int .i64 x.b)
  x3 : wr.cell? ⟨w.heap.size, 3, none⟩ = some (.int .i64 x.n)
  out : ∃ l : List Bool, l.length = nt ∧ OutAt wr (w.heap.size + 1) l ∧ ∀ s, s < j → l.getD s false = V s
theorem RowAt.cell {w W2 wr : World} {x : Nd} {nt j : Nat} {V : Nat → Bool} (h : RowAt w W2 wr x nt j V) (hj : j < nt) : (∃ q, wr.cell? ⟨w.heap.size + 1, j, none⟩ = some (.bool q)) ∧ wr.frozen? ⟨w.heap.size + 1, j, none⟩ = false := by
  obtain ⟨l, hl, ho, _⟩ := h.out
  exact ⟨⟨_, blk_cell ho (bcs_at (by omega))⟩, blk_soft ho j⟩
theorem RowAt.drew {w W2 wr : World} {x : Nd} {nt j : Nat} {V : Nat → Bool} (h : RowAt w W2 wr x nt j V) {wr' : World} (a : After wr wr') : RowAt w W2 wr' x nt j V := by
  obtain ⟨l, hl, ho, hv⟩ := h.out
  exact ⟨h.but.then a (fun _ _ t => t.elim), h.aft.trans a, (a.cell (cell_lt h.x0) _).trans h.x0, (a.cell (cell_lt h.x1) _).trans h.x1, (a.cell (cell_lt h.x2) _).trans h.x2, (a.cell (cell_lt h.x3) _).trans h.x3, l, hl, (a.block _ (blk_lt ho) (fun t => t)).trans ho, hv⟩
theorem RowAt.put {w W2 wr : World} {x : Nd} {nt j : Nat} {V : Nat → Bool} (h : RowAt w W2 wr x nt j V) (hj : j < nt) : RowAt w W2 (wr.setCell ⟨w.heap.size + 1, j, none⟩ (.bool (V j))) x nt (j + 1) V := by
  obtain ⟨l, hl, ho, hv⟩ := h.out
  have b := but_one wr (w.heap.size + 1) j (.bool (V j))
  have ne : ∀ {y : Nat}, ¬ One (w.heap.size + 1) w.heap.size := fun {y} e => by have : w.heap.size = w.heap.size + 1 := e; omega
  refine ⟨h.but.trans b, h.aft.then b (fun i hi e => by have : i = w.heap.size + 1 := e; omega), (b.cell (cell_lt h.x0) (ne (y := 0)) _).trans h.x0, (b.cell (cell_lt h.x1) (ne (y := 0)) _).trans h.x1, (b.cell (cell_lt h.x2) (ne (y := 0)) _).trans h.x2, (b.cell (cell_lt h.x3) (ne (y := 0)) _).trans h.x3, l.set j (V j), by simp [hl], ?_, fun s hs => ?_⟩
  · unfold OutAt
    rw [← bcs_set]
    exact blk_put ho j _
  · by_cases e : s = j
    · subst e
      have hs' : s < l.length := by omega
      simp [hs']
    · have e1 : (l.set j (V j)).getD s false = l.getD s false := by
        simp only [List.getD_eq_getElem?_getD, List.getElem?_set_ne (fun h => e h.symm)]
      rw [e1]
      exact hv s (by omega)
/-- What Row hands back: a block of its own that says what the i-th node tells. -/
def RowOut (w w' : World) (v : Value) (nt : Nat) (V : Nat → Bool) : Prop := ∃ g l, v = .slice (some ⟨g, 0, none⟩) nt nt ∧ w.heap.size ≤ g ∧ l.length = nt ∧ OutAt w' g l ∧ ∀ s, s < nt → l.getD s false = V s
set_option maxHeartbeats 4000000 in
theorem row_0 {L : List Nd} {C : List Ch} {X : List Tr} (_hL : L.length ≤ 32) (hX : X.length ≤ 1000) {i : Nat} (hx : L[i]? = some ⟨0, 0, 0, 0⟩) {V : Nat → Bool} (hV : ∀ t, V t = true) (w : World) (al : Option Addr) (cl : Nat) (h1 : NRow w al L.length L) (ar : Option Addr) (nr cr : Nat) (ac : Option Addr) (cc : Nat) (aT : Option Addr) (ct : Nat) :
    Calls Try.prog 55 #[.slice al L.length cl, .int .i64 (i : Int), .slice ar nr cr, .slice ac C.length cc, .slice aT X.length ct] w fun e w' => ∃ v, e = .returned v ∧ RowOut w w' v X.length V ∧ After w w' := by
  have hi : i < L.length := (List.getElem?_eq_some_iff.1 hx).1
  obtain ⟨b, off, y, hal, hb, hy, k0, k1, k2, k3⟩ := nrow_at h1 hi
  rw [hx] at hy
  cases hy
  subst hal
  have i1 : (i : Int) < (L.length : Int) := by omega
  have hX' : (X.length : Int) ≤ 1000 := by omega
  obtain ⟨W2, hW2⟩ : ∃ W2, W2 = (w.alloc (.cells #[.int .i64 0, .int .i64 0, .int .i64 0, .int .i64 0] 38)).alloc (.cells (bcs (List.replicate X.length false)) 4) := ⟨_, rfl⟩
  have R0 : Hid (RowAt w W2 W2 ⟨0, 0, 0, 0⟩ X.length 0 V) := hideIt (by
    subst hW2
    have n1 := new_blk (w := w.alloc (.cells #[.int .i64 0, .int .i64 0, .int .i64 0, .int .i64 0] 38)) (o := .cells (bcs (List.replicate X.length false)) 4) After.rfl
    rw [size_alloc] at n1
    exact ⟨But.rfl, (After.rfl.alloc _).alloc _, new_cell (After.rfl.alloc _) 0 rfl, new_cell (After.rfl.alloc _) 1 rfl, new_cell (After.rfl.alloc _) 2 rfl, new_cell (After.rfl.alloc _) 3 rfl, _, by simp, n1, fun s hs => absurd hs (by omega)⟩)
  have HW := hideIt hW2
  have hmk := make_bools X.length hX
  have HV := hideIt hV
  clear hV
  clear hx h1 hb hi hW2
  go_enter Try.func55, Try.ntmps55
  go_wp2_with fail
  rw [← HW.out]
  clear HW hmk k0 k1 k2 k3
  go_loopw [13] (fun a wr => ∃ j : Nat, j ≤ X.length ∧ a = .int .i64 j ∧ RowAt w W2 wr ⟨0, 0, 0, 0⟩ X.length j V) (fun a _ => X.length - (intOf a).toNat)
  case atStart => exact ⟨0, Nat.zero_le _, rfl, R0.out⟩
  case round =>
    obtain ⟨j, hj, rfl, ra⟩ := hrel
    by_cases hjn : j < X.length
    rotate_left
    · have i2 : ¬ (j : Int) < (X.length : Int) := by omega
      have RA := hideIt ra
      clear ra
      go_wp2_with fail
      go_ret
      obtain ⟨l, hl, ho, hv⟩ := RA.out.out
      exact ⟨_, rfl, ⟨w.heap.size + 1, l, rfl, by omega, hl, ho, fun s hs => hv s (by omega)⟩, RA.out.aft⟩
    have i2 : (j : Int) < (X.length : Int) := by omega
    obtain ⟨⟨q0, o0⟩, o1⟩ := ra.cell hjn
    have x0 := ra.x0
    have x1 := ra.x1
    have x2 := ra.x2
    have x3 := ra.x3
    have RA := hideIt ra
    clear ra
    have HP := hideIt (RA.out.put hjn)
    rw [HV.out] at HP
    clear x0 x1 x2 x3
    have x0 := RA.out.x0
    go_wp2_with fail
    go_roundw
    case rel => exact ⟨j + 1, by omega, by go_num, HP.out⟩
    case measure => simp [intOf]; omega
set_option maxHeartbeats 4000000 in
theorem row_6 {L : List Nd} {C : List Ch} {X : List Tr} (_hL : L.length ≤ 32) (hX : X.length ≤ 1000) {i ja : Nat} (hx : L[i]? = some ⟨6, (ja : Int), 0, 0⟩) {V : Nat → Bool} {f : Nat → Bool} (hV : ∀ t, t < X.length → V t = !f t) (w : World) (al : Option Addr) (cl : Nat) (h1 : NRow w al L.length L) (ar : Option Addr) (nr cr : Nat) (ac : Option Addr) (cc : Nat) (aT : Option Addr) (ct : Nat) (PA : Part w ar nr X.length ja f) :
    Calls Try.prog 55 #[.slice al L.length cl, .int .i64 (i : Int), .slice ar nr cr, .slice ac C.length cc, .slice aT X.length ct] w fun e w' => ∃ v, e = .returned v ∧ RowOut w w' v X.length V ∧ After w w' := by
  have hi : i < L.length := (List.getElem?_eq_some_iff.1 hx).1
  obtain ⟨b, off, y, hal, hb, hy, k0, k1, k2, k3⟩ := nrow_at h1 hi
  rw [hx] at hy
  cases hy
  subst hal
  have i1 : (i : Int) < (L.length : Int) := by omega
  have hX' : (X.length : Int) ≤ 1000 := by omega
  obtain ⟨W2, hW2⟩ : ∃ W2, W2 = (w.alloc (.cells #[.int .i64 6, .int .i64 (ja : Int), .int .i64 0, .int .i64 0] 38)).alloc (.cells (bcs (List.replicate X.length false)) 4) := ⟨_, rfl⟩
  have R0 : Hid (RowAt w W2 W2 ⟨6, (ja : Int), 0, 0⟩ X.length 0 V) := hideIt (by
    subst hW2
    have n1 := new_blk (w := w.alloc (.cells #[.int .i64 6, .int .i64 (ja : Int), .int .i64 0, .int .i64 0] 38)) (o := .cells (bcs (List.replicate X.length false)) 4) After.rfl
    rw [size_alloc] at n1
    exact ⟨But.rfl, (After.rfl.alloc _).alloc _, new_cell (After.rfl.alloc _) 0 rfl, new_cell (After.rfl.alloc _) 1 rfl, new_cell (After.rfl.alloc _) 2 rfl, new_cell (After.rfl.alloc _) 3 rfl, _, by simp, n1, fun s hs => absurd hs (by omega)⟩)
  have HW := hideIt hW2
  have hmk := make_bools X.length hX
  have HV := hideIt hV
  clear hV
  obtain ⟨plt, rb, roff, ya, yd, l, har, hrb, hrc, hbr, hbf⟩ := PA
  subst har
  have plt : (ja : Int) < (nr : Int) := by omega
  have HB := hideIt (And.intro hrb (And.intro hrc (And.intro hbr hbf)))
  clear hrb hrc hbr hbf
  clear hx h1 hb hi hW2
  go_enter Try.func55, Try.ntmps55
  go_wp2_with fail
  rw [← HW.out]
  clear HW hmk k0 k1 k2 k3
  go_loopw [13] (fun a wr => ∃ j : Nat, j ≤ X.length ∧ a = .int .i64 j ∧ RowAt w W2 wr ⟨6, (ja : Int), 0, 0⟩ X.length j V) (fun a _ => X.length - (intOf a).toNat)
  case atStart => exact ⟨0, Nat.zero_le _, rfl, R0.out⟩
  case round =>
    obtain ⟨j, hj, rfl, ra⟩ := hrel
    by_cases hjn : j < X.length
    rotate_left
    · have i2 : ¬ (j : Int) < (X.length : Int) := by omega
      have RA := hideIt ra
      clear ra
      go_wp2_with fail
      go_ret
      obtain ⟨l, hl, ho, hv⟩ := RA.out.out
      exact ⟨_, rfl, ⟨w.heap.size + 1, l, rfl, by omega, hl, ho, fun s hs => hv s (by omega)⟩, RA.out.aft⟩
    have i2 : (j : Int) < (X.length : Int) := by omega
    obtain ⟨⟨q0, o0⟩, o1⟩ := ra.cell hjn
    have x0 := ra.x0
    have x1 := ra.x1
    have x2 := ra.x2
    have x3 := ra.x3
    have RA := hideIt ra
    clear ra
    have rc := (RA.out.aft.cell HB.out.1 _).trans HB.out.2.1
    obtain ⟨yb, yoff, hya, hyb, hyc⟩ := brow_at HB.out.2.2.1 hjn
    rw [HB.out.2.2.2 _ hjn] at hyc
    have yc := (RA.out.aft.cell hyb _).trans hyc
    rw [hya] at rc
    clear hya hyb hyc
    have hv := HV.out j hjn
    have HP := hideIt (RA.out.put hjn)
    rw [hv] at HP
    clear hv
    go_wp2_with fail
    go_roundw
    case rel => exact ⟨j + 1, by omega, by go_num, HP.out⟩
    case measure => simp [intOf]; omega
set_option maxHeartbeats 4000000 in
theorem row_7 {L : List Nd} {C : List Ch} {X : List Tr} (_hL : L.length ≤ 32) (hX : X.length ≤ 1000) {i ja jb : Nat} (hx : L[i]? = some ⟨7, (ja : Int), (jb : Int), 0⟩) {V : Nat → Bool} {f g : Nat → Bool} (hV : ∀ t, t < X.length → V t = (f t && g t)) (w : World) (al : Option Addr) (cl : Nat) (h1 : NRow w al L.length L) (ar : Option Addr) (nr cr : Nat) (ac : Option Addr) (cc : Nat) (aT : Option Addr) (ct : Nat) (PA : Part w ar nr X.length ja f) (PB : Part w ar nr X.length jb g) :
    Calls Try.prog 55 #[.slice al L.length cl, .int .i64 (i : Int), .slice ar nr cr, .slice ac C.length cc, .slice aT X.length ct] w fun e w' => ∃ v, e = .returned v ∧ RowOut w w' v X.length V ∧ After w w' := by
  have hi : i < L.length := (List.getElem?_eq_some_iff.1 hx).1
  obtain ⟨b, off, y, hal, hb, hy, k0, k1, k2, k3⟩ := nrow_at h1 hi
  rw [hx] at hy
  cases hy
  subst hal
  have i1 : (i : Int) < (L.length : Int) := by omega
  have hX' : (X.length : Int) ≤ 1000 := by omega
  obtain ⟨W2, hW2⟩ : ∃ W2, W2 = (w.alloc (.cells #[.int .i64 7, .int .i64 (ja : Int), .int .i64 (jb : Int), .int .i64 0] 38)).alloc (.cells (bcs (List.replicate X.length false)) 4) := ⟨_, rfl⟩
  have R0 : Hid (RowAt w W2 W2 ⟨7, (ja : Int), (jb : Int), 0⟩ X.length 0 V) := hideIt (by
    subst hW2
    have n1 := new_blk (w := w.alloc (.cells #[.int .i64 7, .int .i64 (ja : Int), .int .i64 (jb : Int), .int .i64 0] 38)) (o := .cells (bcs (List.replicate X.length false)) 4) After.rfl
    rw [size_alloc] at n1
    exact ⟨But.rfl, (After.rfl.alloc _).alloc _, new_cell (After.rfl.alloc _) 0 rfl, new_cell (After.rfl.alloc _) 1 rfl, new_cell (After.rfl.alloc _) 2 rfl, new_cell (After.rfl.alloc _) 3 rfl, _, by simp, n1, fun s hs => absurd hs (by omega)⟩)
  have HW := hideIt hW2
  have hmk := make_bools X.length hX
  have HV := hideIt hV
  clear hV
  obtain ⟨plt, rb, roff, ya, yd, l, har, hrb, hrc, hbr, hbf⟩ := PA
  subst har
  have plt : (ja : Int) < (nr : Int) := by omega
  have HB := hideIt (And.intro hrb (And.intro hrc (And.intro hbr hbf)))
  clear hrb hrc hbr hbf
  obtain ⟨plt2, rb2, roff2, ya2, yd2, l2, har2, hrb2, hrc2, hbr2, hbf2⟩ := PB
  cases har2
  have p2lt : (jb : Int) < (nr : Int) := by omega
  have HB2 := hideIt (And.intro hrb2 (And.intro hrc2 (And.intro hbr2 hbf2)))
  clear hrb2 hrc2 hbr2 hbf2
  clear hx h1 hb hi hW2
  go_enter Try.func55, Try.ntmps55
  go_wp2_with fail
  rw [← HW.out]
  clear HW hmk k0 k1 k2 k3
  go_loopw [13] (fun a wr => ∃ j : Nat, j ≤ X.length ∧ a = .int .i64 j ∧ RowAt w W2 wr ⟨7, (ja : Int), (jb : Int), 0⟩ X.length j V) (fun a _ => X.length - (intOf a).toNat)
  case atStart => exact ⟨0, Nat.zero_le _, rfl, R0.out⟩
  case round =>
    obtain ⟨j, hj, rfl, ra⟩ := hrel
    by_cases hjn : j < X.length
    rotate_left
    · have i2 : ¬ (j : Int) < (X.length : Int) := by omega
      have RA := hideIt ra
      clear ra
      go_wp2_with fail
      go_ret
      obtain ⟨l, hl, ho, hv⟩ := RA.out.out
      exact ⟨_, rfl, ⟨w.heap.size + 1, l, rfl, by omega, hl, ho, fun s hs => hv s (by omega)⟩, RA.out.aft⟩
    have i2 : (j : Int) < (X.length : Int) := by omega
    obtain ⟨⟨q0, o0⟩, o1⟩ := ra.cell hjn
    have x0 := ra.x0
    have x1 := ra.x1
    have x2 := ra.x2
    have x3 := ra.x3
    have RA := hideIt ra
    clear ra
    have rc := (RA.out.aft.cell HB.out.1 _).trans HB.out.2.1
    obtain ⟨yb, yoff, hya, hyb, hyc⟩ := brow_at HB.out.2.2.1 hjn
    rw [HB.out.2.2.2 _ hjn] at hyc
    have yc := (RA.out.aft.cell hyb _).trans hyc
    rw [hya] at rc
    clear hya hyb hyc
    have rc2 := (RA.out.aft.cell HB2.out.1 _).trans HB2.out.2.1
    obtain ⟨yb2, yoff2, hya2, hyb2, hyc2⟩ := brow_at HB2.out.2.2.1 hjn
    rw [HB2.out.2.2.2 _ hjn] at hyc2
    have yc2 := (RA.out.aft.cell hyb2 _).trans hyc2
    rw [hya2] at rc2
    clear hya2 hyb2 hyc2
    have hv := HV.out j hjn
    have HP := hideIt (RA.out.put hjn)
    rcases hq : f j with _ | _
    · rw [hq] at yc hv
      clear hq
      simp only [Bool.false_and] at hv
      rw [hv] at HP
      clear hv
      go_wp2_with fail
      go_roundw
      case rel => exact ⟨j + 1, by omega, by go_num, HP.out⟩
      case measure => simp [intOf]; omega
    · rw [hq] at yc hv
      clear hq
      simp only [Bool.true_and] at hv
      rw [hv] at HP
      clear hv
      go_wp2_with fail
      go_roundw
      case rel => exact ⟨j + 1, by omega, by go_num, HP.out⟩
      case measure => simp [intOf]; omega
set_option maxHeartbeats 4000000 in
theorem row_8 {L : List Nd} {C : List Ch} {X : List Tr} (_hL : L.length ≤ 32) (hX : X.length ≤ 1000) {i ja jb : Nat} (hx : L[i]? = some ⟨8, (ja : Int), (jb : Int), 0⟩) {V : Nat → Bool} {f g : Nat → Bool} (hV : ∀ t, t < X.length → V t = (f t || g t)) (w : World) (al : Option Addr) (cl : Nat) (h1 : NRow w al L.length L) (ar : Option Addr) (nr cr : Nat) (ac : Option Addr) (cc : Nat) (aT : Option Addr) (ct : Nat) (PA : Part w ar nr X.length ja f) (PB : Part w ar nr X.length jb g) :
    Calls Try.prog 55 #[.slice al L.length cl, .int .i64 (i : Int), .slice ar nr cr, .slice ac C.length cc, .slice aT X.length ct] w fun e w' => ∃ v, e = .returned v ∧ RowOut w w' v X.length V ∧ After w w' := by
  have hi : i < L.length := (List.getElem?_eq_some_iff.1 hx).1
  obtain ⟨b, off, y, hal, hb, hy, k0, k1, k2, k3⟩ := nrow_at h1 hi
  rw [hx] at hy
  cases hy
  subst hal
  have i1 : (i : Int) < (L.length : Int) := by omega
  have hX' : (X.length : Int) ≤ 1000 := by omega
  obtain ⟨W2, hW2⟩ : ∃ W2, W2 = (w.alloc (.cells #[.int .i64 8, .int .i64 (ja : Int), .int .i64 (jb : Int), .int .i64 0] 38)).alloc (.cells (bcs (List.replicate X.length false)) 4) := ⟨_, rfl⟩
  have R0 : Hid (RowAt w W2 W2 ⟨8, (ja : Int), (jb : Int), 0⟩ X.length 0 V) := hideIt (by
    subst hW2
    have n1 := new_blk (w := w.alloc (.cells #[.int .i64 8, .int .i64 (ja : Int), .int .i64 (jb : Int), .int .i64 0] 38)) (o := .cells (bcs (List.replicate X.length false)) 4) After.rfl
    rw [size_alloc] at n1
    exact ⟨But.rfl, (After.rfl.alloc _).alloc _, new_cell (After.rfl.alloc _) 0 rfl, new_cell (After.rfl.alloc _) 1 rfl, new_cell (After.rfl.alloc _) 2 rfl, new_cell (After.rfl.alloc _) 3 rfl, _, by simp, n1, fun s hs => absurd hs (by omega)⟩)
  have HW := hideIt hW2
  have hmk := make_bools X.length hX
  have HV := hideIt hV
  clear hV
  obtain ⟨plt, rb, roff, ya, yd, l, har, hrb, hrc, hbr, hbf⟩ := PA
  subst har
  have plt : (ja : Int) < (nr : Int) := by omega
  have HB := hideIt (And.intro hrb (And.intro hrc (And.intro hbr hbf)))
  clear hrb hrc hbr hbf
  obtain ⟨plt2, rb2, roff2, ya2, yd2, l2, har2, hrb2, hrc2, hbr2, hbf2⟩ := PB
  cases har2
  have p2lt : (jb : Int) < (nr : Int) := by omega
  have HB2 := hideIt (And.intro hrb2 (And.intro hrc2 (And.intro hbr2 hbf2)))
  clear hrb2 hrc2 hbr2 hbf2
  clear hx h1 hb hi hW2
  go_enter Try.func55, Try.ntmps55
  go_wp2_with fail
  rw [← HW.out]
  clear HW hmk k0 k1 k2 k3
  go_loopw [13] (fun a wr => ∃ j : Nat, j ≤ X.length ∧ a = .int .i64 j ∧ RowAt w W2 wr ⟨8, (ja : Int), (jb : Int), 0⟩ X.length j V) (fun a _ => X.length - (intOf a).toNat)
  case atStart => exact ⟨0, Nat.zero_le _, rfl, R0.out⟩
  case round =>
    obtain ⟨j, hj, rfl, ra⟩ := hrel
    by_cases hjn : j < X.length
    rotate_left
    · have i2 : ¬ (j : Int) < (X.length : Int) := by omega
      have RA := hideIt ra
      clear ra
      go_wp2_with fail
      go_ret
      obtain ⟨l, hl, ho, hv⟩ := RA.out.out
      exact ⟨_, rfl, ⟨w.heap.size + 1, l, rfl, by omega, hl, ho, fun s hs => hv s (by omega)⟩, RA.out.aft⟩
    have i2 : (j : Int) < (X.length : Int) := by omega
    obtain ⟨⟨q0, o0⟩, o1⟩ := ra.cell hjn
    have x0 := ra.x0
    have x1 := ra.x1
    have x2 := ra.x2
    have x3 := ra.x3
    have RA := hideIt ra
    clear ra
    have rc := (RA.out.aft.cell HB.out.1 _).trans HB.out.2.1
    obtain ⟨yb, yoff, hya, hyb, hyc⟩ := brow_at HB.out.2.2.1 hjn
    rw [HB.out.2.2.2 _ hjn] at hyc
    have yc := (RA.out.aft.cell hyb _).trans hyc
    rw [hya] at rc
    clear hya hyb hyc
    have rc2 := (RA.out.aft.cell HB2.out.1 _).trans HB2.out.2.1
    obtain ⟨yb2, yoff2, hya2, hyb2, hyc2⟩ := brow_at HB2.out.2.2.1 hjn
    rw [HB2.out.2.2.2 _ hjn] at hyc2
    have yc2 := (RA.out.aft.cell hyb2 _).trans hyc2
    rw [hya2] at rc2
    clear hya2 hyb2 hyc2
    have hv := HV.out j hjn
    have HP := hideIt (RA.out.put hjn)
    rcases hq : f j with _ | _
    · rw [hq] at yc hv
      clear hq
      simp only [Bool.false_or] at hv
      rw [hv] at HP
      clear hv
      go_wp2_with fail
      go_roundw
      case rel => exact ⟨j + 1, by omega, by go_num, HP.out⟩
      case measure => simp [intOf]; omega
    · rw [hq] at yc hv
      clear hq
      simp only [Bool.true_or] at hv
      rw [hv] at HP
      clear hv
      go_wp2_with fail
      go_roundw
      case rel => exact ⟨j + 1, by omega, by go_num, HP.out⟩
      case measure => simp [intOf]; omega
set_option maxHeartbeats 4000000 in
theorem row_9 {L : List Nd} {C : List Ch} {X : List Tr} (_hL : L.length ≤ 32) (hX : X.length ≤ 1000) {i ja : Nat} (hx : L[i]? = some ⟨9, (ja : Int), 0, 0⟩) {V : Nat → Bool} {f : Nat → Bool} (hV : ∀ t, t < X.length → V t = (decide (0 < t) && f (t - 1))) (w : World) (al : Option Addr) (cl : Nat) (h1 : NRow w al L.length L) (ar : Option Addr) (nr cr : Nat) (ac : Option Addr) (cc : Nat) (aT : Option Addr) (ct : Nat) (PA : Part w ar nr X.length ja f) :
    Calls Try.prog 55 #[.slice al L.length cl, .int .i64 (i : Int), .slice ar nr cr, .slice ac C.length cc, .slice aT X.length ct] w fun e w' => ∃ v, e = .returned v ∧ RowOut w w' v X.length V ∧ After w w' := by
  have hi : i < L.length := (List.getElem?_eq_some_iff.1 hx).1
  obtain ⟨b, off, y, hal, hb, hy, k0, k1, k2, k3⟩ := nrow_at h1 hi
  rw [hx] at hy
  cases hy
  subst hal
  have i1 : (i : Int) < (L.length : Int) := by omega
  have hX' : (X.length : Int) ≤ 1000 := by omega
  obtain ⟨W2, hW2⟩ : ∃ W2, W2 = (w.alloc (.cells #[.int .i64 9, .int .i64 (ja : Int), .int .i64 0, .int .i64 0] 38)).alloc (.cells (bcs (List.replicate X.length false)) 4) := ⟨_, rfl⟩
  have R0 : Hid (RowAt w W2 W2 ⟨9, (ja : Int), 0, 0⟩ X.length 0 V) := hideIt (by
    subst hW2
    have n1 := new_blk (w := w.alloc (.cells #[.int .i64 9, .int .i64 (ja : Int), .int .i64 0, .int .i64 0] 38)) (o := .cells (bcs (List.replicate X.length false)) 4) After.rfl
    rw [size_alloc] at n1
    exact ⟨But.rfl, (After.rfl.alloc _).alloc _, new_cell (After.rfl.alloc _) 0 rfl, new_cell (After.rfl.alloc _) 1 rfl, new_cell (After.rfl.alloc _) 2 rfl, new_cell (After.rfl.alloc _) 3 rfl, _, by simp, n1, fun s hs => absurd hs (by omega)⟩)
  have HW := hideIt hW2
  have hmk := make_bools X.length hX
  have HV := hideIt hV
  clear hV
  obtain ⟨plt, rb, roff, ya, yd, l, har, hrb, hrc, hbr, hbf⟩ := PA
  subst har
  have plt : (ja : Int) < (nr : Int) := by omega
  have HB := hideIt (And.intro hrb (And.intro hrc (And.intro hbr hbf)))
  clear hrb hrc hbr hbf
  clear hx h1 hb hi hW2
  go_enter Try.func55, Try.ntmps55
  go_wp2_with fail
  rw [← HW.out]
  clear HW hmk k0 k1 k2 k3
  go_loopw [13] (fun a wr => ∃ j : Nat, j ≤ X.length ∧ a = .int .i64 j ∧ RowAt w W2 wr ⟨9, (ja : Int), 0, 0⟩ X.length j V) (fun a _ => X.length - (intOf a).toNat)
  case atStart => exact ⟨0, Nat.zero_le _, rfl, R0.out⟩
  case round =>
    obtain ⟨j, hj, rfl, ra⟩ := hrel
    by_cases hjn : j < X.length
    rotate_left
    · have i2 : ¬ (j : Int) < (X.length : Int) := by omega
      have RA := hideIt ra
      clear ra
      go_wp2_with fail
      go_ret
      obtain ⟨l, hl, ho, hv⟩ := RA.out.out
      exact ⟨_, rfl, ⟨w.heap.size + 1, l, rfl, by omega, hl, ho, fun s hs => hv s (by omega)⟩, RA.out.aft⟩
    have i2 : (j : Int) < (X.length : Int) := by omega
    obtain ⟨⟨q0, o0⟩, o1⟩ := ra.cell hjn
    have x0 := ra.x0
    have x1 := ra.x1
    have x2 := ra.x2
    have x3 := ra.x3
    have RA := hideIt ra
    clear ra
    have hv := HV.out j hjn
    have HP := hideIt (RA.out.put hjn)
    by_cases h0 : j = 0
    · have i7 : ¬ (0 : Int) < (j : Int) := by omega
      rw [h0] at hv
      simp only [Nat.lt_irrefl, decide_false, Bool.false_and] at hv
      rw [show V j = false by rw [h0]; exact hv] at HP
      clear hv h0
      go_wp2_with fail
      go_roundw
      case rel => exact ⟨j + 1, by omega, by go_num, HP.out⟩
      case measure => simp [intOf]; omega
    · obtain ⟨s, hs⟩ : ∃ s, j = s + 1 := ⟨j - 1, by omega⟩
      have i7 : (0 : Int) < (j : Int) := by omega
      have i8 : (j : Int) - 1 = (s : Int) := by omega
      have hsn : s < X.length := by omega
      have i9 : (s : Int) < (X.length : Int) := by omega
      rw [decide_eq_true (show 0 < j by omega), Bool.true_and, show j - 1 = s by omega] at hv
      rw [hv] at HP
      have hs0 : (0 : Int) ≤ (s : Int) := by omega
      have rc := (RA.out.aft.cell HB.out.1 _).trans HB.out.2.1
      obtain ⟨yb, yoff, hya, hyb, hyc⟩ := brow_at HB.out.2.2.1 hsn
      rw [HB.out.2.2.2 _ hsn] at hyc
      have yc := (RA.out.aft.cell hyb _).trans hyc
      rw [hya] at rc
      clear hya hyb hyc
      clear hv h0 hs
      go_wp2_with fail
      go_roundw
      case rel => exact ⟨j + 1, by omega, by go_num, HP.out⟩
      case measure => simp [intOf]; omega
set_option maxHeartbeats 4000000 in
theorem row_10 {L : List Nd} {C : List Ch} {X : List Tr} (_hL : L.length ≤ 32) (hX : X.length ≤ 1000) {i ja n : Nat} (hx : L[i]? = some ⟨10, (ja : Int), 0, (n : Int)⟩) {V : Nat → Bool} (hn : n ≤ 64) {f : Nat → Bool} (hV : ∀ t, t < X.length → V t = wnd f (t - n) t false) (w : World) (al : Option Addr) (cl : Nat) (h1 : NRow w al L.length L) (ar : Option Addr) (nr cr : Nat) (ac : Option Addr) (cc : Nat) (aT : Option Addr) (ct : Nat) (PA : Part w ar nr X.length ja f) :
    Calls Try.prog 55 #[.slice al L.length cl, .int .i64 (i : Int), .slice ar nr cr, .slice ac C.length cc, .slice aT X.length ct] w fun e w' => ∃ v, e = .returned v ∧ RowOut w w' v X.length V ∧ After w w' := by
  have hi : i < L.length := (List.getElem?_eq_some_iff.1 hx).1
  obtain ⟨b, off, y, hal, hb, hy, k0, k1, k2, k3⟩ := nrow_at h1 hi
  rw [hx] at hy
  cases hy
  subst hal
  have i1 : (i : Int) < (L.length : Int) := by omega
  have hX' : (X.length : Int) ≤ 1000 := by omega
  obtain ⟨W2, hW2⟩ : ∃ W2, W2 = (w.alloc (.cells #[.int .i64 10, .int .i64 (ja : Int), .int .i64 0, .int .i64 (n : Int)] 38)).alloc (.cells (bcs (List.replicate X.length false)) 4) := ⟨_, rfl⟩
  have R0 : Hid (RowAt w W2 W2 ⟨10, (ja : Int), 0, (n : Int)⟩ X.length 0 V) := hideIt (by
    subst hW2
    have n1 := new_blk (w := w.alloc (.cells #[.int .i64 10, .int .i64 (ja : Int), .int .i64 0, .int .i64 (n : Int)] 38)) (o := .cells (bcs (List.replicate X.length false)) 4) After.rfl
    rw [size_alloc] at n1
    exact ⟨But.rfl, (After.rfl.alloc _).alloc _, new_cell (After.rfl.alloc _) 0 rfl, new_cell (After.rfl.alloc _) 1 rfl, new_cell (After.rfl.alloc _) 2 rfl, new_cell (After.rfl.alloc _) 3 rfl, _, by simp, n1, fun s hs => absurd hs (by omega)⟩)
  have HW := hideIt hW2
  have hmk := make_bools X.length hX
  have HV := hideIt hV
  clear hV
  obtain ⟨plt, rb, roff, ya, yd, l, har, hrb, hrc, hbr, hbf⟩ := PA
  subst har
  have plt : (ja : Int) < (nr : Int) := by omega
  have HB := hideIt (And.intro hrb (And.intro hrc (And.intro hbr hbf)))
  clear hrb hrc hbr hbf
  have plt_ : (ja : Int) < (nr : Int) := by omega
  clear hx h1 hb hi hW2
  go_enter Try.func55, Try.ntmps55
  go_wp2_with fail
  rw [← HW.out]
  clear HW hmk k0 k1 k2 k3
  go_loopw [13] (fun a wr => ∃ j : Nat, j ≤ X.length ∧ a = .int .i64 j ∧ RowAt w W2 wr ⟨10, (ja : Int), 0, (n : Int)⟩ X.length j V) (fun a _ => X.length - (intOf a).toNat)
  case atStart => exact ⟨0, Nat.zero_le _, rfl, R0.out⟩
  case round =>
    obtain ⟨j, hj, rfl, ra⟩ := hrel
    by_cases hjn : j < X.length
    rotate_left
    · have i2 : ¬ (j : Int) < (X.length : Int) := by omega
      have RA := hideIt ra
      clear ra
      go_wp2_with fail
      go_ret
      obtain ⟨l, hl, ho, hv⟩ := RA.out.out
      exact ⟨_, rfl, ⟨w.heap.size + 1, l, rfl, by omega, hl, ho, fun s hs => hv s (by omega)⟩, RA.out.aft⟩
    have i2 : (j : Int) < (X.length : Int) := by omega
    obtain ⟨⟨q0, o0⟩, o1⟩ := ra.cell hjn
    have x0 := ra.x0
    have x1 := ra.x1
    have x2 := ra.x2
    have x3 := ra.x3
    have RA := hideIt ra
    clear ra
    have HC : Hid (∀ V', After w V' → Calls Try.prog 56 #[.slice ya X.length yd, .int .i64 ((j : Int) - (n : Int)), .int .i64 (j : Int), .bool false] V' fun e w' => e = .returned (.bool (V j)) ∧ w' = V') := hideIt (fun V' hV' => by
      have := window_any (c := yd) (HB.out.2.2.1.after hV') (fr := (j : Int) - (n : Int)) (lo := j - n) (by omega) (by omega) hjn hX false
      rw [HV.out j hjn]
      have e : wnd (fun s => l.getD s false) (j - n) j false = wnd f (j - n) j false := wnd_congr (fun s hs => HB.out.2.2.2 s (by omega))
      rw [← e]
      exact this)
    clear o0 o1
    go_upto_region 20 with fail
    refine region_last (by kernel_rfl) [138, 139, 140, 141, 142, 143, 144, 145, 146, 147, 148, 149, 150, 151] [isV (.slice (some ⟨w.heap.size + 1, 0, none⟩) X.length X.length), isV (.int .i64 (j : Int)), isV (.slice (some ⟨rb, roff, none⟩) nr cr), isV (.pointer (some ⟨w.heap.size, 1, none⟩)), isV (.int .i64 (ja : Int)), isV (.pointer (some ⟨rb, roff + ja, none⟩)), isV (.slice ya X.length yd), isV (.int .i64 (j : Int)), isV (.pointer (some ⟨w.heap.size, 3, none⟩)), isV (.int .i64 (n : Int)), isV (.int .i64 ((j : Int) - (n : Int))), isV (.int .i64 (j : Int)), isV (.bool (V j)), isV (.pointer (some ⟨w.heap.size + 1, j, none⟩))] 14 _ rfl rfl rfl rfl 12 rfl rfl (stable_all (st_cons (isV_st _) (st_cons (isV_st _) (st_cons (isV_st _) (st_cons (isV_st _) (st_cons (isV_st _) (st_cons (isV_st _) (st_cons (isV_st _) (st_cons (isV_st _) (st_cons (isV_st _) (st_cons (isV_st _) (st_cons (isV_st _) (st_cons (isV_st _) (st_cons (isV_st _) (st_cons (isV_st _) (st_nil)))))))))))))))) rfl rfl ?_ ?_
    · exact ⟨⟨rfl, rfl, (.inl rfl), fun a W9 K hd hb aw hk => wp_move (.inl rfl) (show a.eval (.tmp 12) = .slice (some ⟨w.heap.size + 1, 0, none⟩) X.length X.length from hb 12 rfl) (hk _ _ rfl After.rfl)⟩,
        ⟨rfl, rfl, (.inl rfl), fun a W9 K hd hb aw hk => wp_move (.inl rfl) (show a.eval (.tmp 13) = .int .i64 (j : Int) from hb 13 rfl) (hk _ _ rfl After.rfl)⟩,
        ⟨rfl, rfl, (.inl rfl), fun a W9 K hd hb aw hk => wp_move (.inl rfl) (show a.eval (.tmp 2) = .slice (some ⟨rb, roff, none⟩) nr cr from hb 2 rfl) (hk _ _ rfl After.rfl)⟩,
        ⟨rfl, rfl, (.inl rfl), fun a W9 K hd hb aw hk => wp_field rfl (show a.eval (.tmp 11) = Ptr w.heap.size from hb 11 rfl) (fieldN _ _ 1 (by decide)) (hk _ _ rfl After.rfl)⟩,
        ⟨rfl, rfl, (.inl rfl), fun a W9 K hd hb aw hk => wp_load rfl (hd 3 rfl) (loadI (RA.out.drew aw).x1) (hk _ _ rfl After.rfl)⟩,
        ⟨rfl, rfl, (.inl rfl), fun a W9 K hd hb aw hk => wp_index rfl (hd 2 rfl) (hd 4 rfl) (indexR _ _ _ _ _ _ plt_) (hk _ _ rfl After.rfl)⟩,
        ⟨rfl, rfl, (.inl rfl), fun a W9 K hd hb aw hk => wp_load rfl (hd 5 rfl) (loadBs ((((RA.out.drew aw).aft).cell HB.out.1 _).trans HB.out.2.1)) (hk _ _ rfl After.rfl)⟩,
        ⟨rfl, rfl, (.inl rfl), fun a W9 K hd hb aw hk => wp_move (.inl rfl) (show a.eval (.tmp 13) = .int .i64 (j : Int) from hb 13 rfl) (hk _ _ rfl After.rfl)⟩,
        ⟨rfl, rfl, (.inl rfl), fun a W9 K hd hb aw hk => wp_field rfl (show a.eval (.tmp 11) = Ptr w.heap.size from hb 11 rfl) (fieldN _ _ 3 (by decide)) (hk _ _ rfl After.rfl)⟩,
        ⟨rfl, rfl, (.inl rfl), fun a W9 K hd hb aw hk => wp_load rfl (hd 8 rfl) (loadI (RA.out.drew aw).x3) (hk _ _ rfl After.rfl)⟩,
        ⟨rfl, rfl, (.inl rfl), fun a W9 K hd hb aw hk => wp_bin rfl (hd 7 rfl) (hd 9 rfl) (subI rfl (by omega) (by omega) _ _ _) (hk _ _ rfl After.rfl)⟩,
        ⟨rfl, rfl, (.inl rfl), fun a W9 K hd hb aw hk => wp_move (.inl rfl) (show a.eval (.tmp 13) = .int .i64 (j : Int) from hb 13 rfl) (hk _ _ rfl After.rfl)⟩,
        ⟨rfl, rfl, (.inl rfl), fun a W9 K hd hb aw hk => wp_func4 rfl (enter_of Try.func56 (by kernel_rfl) (by kernel_rfl)) (hd 6 rfl) (hd 10 rfl) (hd 11 rfl) rfl ((HC.out W9 ((RA.out.drew aw).aft)).mono (fun e w1 h => ⟨_, h.1, hk _ _ rfl (by rw [h.2]; exact After.rfl)⟩))⟩,
        ⟨rfl, rfl, (.inl rfl), fun a W9 K hd hb aw hk => wp_index rfl (hd 0 rfl) (hd 1 rfl) (indexB0 _ _ _ _ _ i2) (hk _ _ rfl After.rfl)⟩,
        trivial⟩
    intro x9 w9 hx9 aw9 K9 hK9
    have t0 : x9 0 = .slice (some ⟨w.heap.size + 1, 0, none⟩) X.length X.length := hx9 0 (Nat.le_of_ble_eq_true rfl)
    have t1 : x9 1 = .int .i64 (j : Int) := hx9 1 (Nat.le_of_ble_eq_true rfl)
    have t2 : x9 2 = .slice (some ⟨rb, roff, none⟩) nr cr := hx9 2 (Nat.le_of_ble_eq_true rfl)
    have t3 : x9 3 = .pointer (some ⟨w.heap.size, 1, none⟩) := hx9 3 (Nat.le_of_ble_eq_true rfl)
    have t4 : x9 4 = .int .i64 (ja : Int) := hx9 4 (Nat.le_of_ble_eq_true rfl)
    have t5 : x9 5 = .pointer (some ⟨rb, roff + ja, none⟩) := hx9 5 (Nat.le_of_ble_eq_true rfl)
    have t6 : x9 6 = .slice ya X.length yd := hx9 6 (Nat.le_of_ble_eq_true rfl)
    have t7 : x9 7 = .int .i64 (j : Int) := hx9 7 (Nat.le_of_ble_eq_true rfl)
    have t8 : x9 8 = .pointer (some ⟨w.heap.size, 3, none⟩) := hx9 8 (Nat.le_of_ble_eq_true rfl)
    have t9 : x9 9 = .int .i64 (n : Int) := hx9 9 (Nat.le_of_ble_eq_true rfl)
    have t10 : x9 10 = .int .i64 ((j : Int) - (n : Int)) := hx9 10 (Nat.le_of_ble_eq_true rfl)
    have t11 : x9 11 = .int .i64 (j : Int) := hx9 11 (Nat.le_of_ble_eq_true rfl)
    have t12 : x9 12 = .bool (V j) := hx9 12 (Nat.le_of_ble_eq_true rfl)
    have t13 : x9 13 = .pointer (some ⟨w.heap.size + 1, j, none⟩) := hx9 13 (Nat.le_of_ble_eq_true rfl)
    simp only [sets, List.getD_cons_succ, List.getD_cons_zero, List.set_cons_succ, List.set_cons_zero, t0, t1, t2, t3, t4, t5, t6, t7, t8, t9, t10, t11, t12, t13]
    clear hx9 t0 t1 t2 t3 t4 t5 t6 t7 t8 t9 t10 t11 t12 t13 x9
    have RB := hideIt (RA.out.drew aw9)
    obtain ⟨⟨z0, z1⟩, z2⟩ := RB.out.cell hjn
    have HP := hideIt (RB.out.put hjn)
    refine wp_storeB rfl rfl rfl rfl z1 z2 (hK9 _ _ ?_)
    clear hK9 aw9 z1 z2
    go_wp2_with fail
    go_roundw
    case rel => exact ⟨j + 1, by omega, by go_num, HP.out⟩
    case measure => simp [intOf]; omega
set_option maxHeartbeats 4000000 in
theorem row_11 {L : List Nd} {C : List Ch} {X : List Tr} (_hL : L.length ≤ 32) (hX : X.length ≤ 1000) {i ja n : Nat} (hx : L[i]? = some ⟨11, (ja : Int), 0, (n : Int)⟩) {V : Nat → Bool} (hn : n ≤ 64) {f : Nat → Bool} (hV : ∀ t, t < X.length → V t = wnd f (t - n) t true) (w : World) (al : Option Addr) (cl : Nat) (h1 : NRow w al L.length L) (ar : Option Addr) (nr cr : Nat) (ac : Option Addr) (cc : Nat) (aT : Option Addr) (ct : Nat) (PA : Part w ar nr X.length ja f) :
    Calls Try.prog 55 #[.slice al L.length cl, .int .i64 (i : Int), .slice ar nr cr, .slice ac C.length cc, .slice aT X.length ct] w fun e w' => ∃ v, e = .returned v ∧ RowOut w w' v X.length V ∧ After w w' := by
  have hi : i < L.length := (List.getElem?_eq_some_iff.1 hx).1
  obtain ⟨b, off, y, hal, hb, hy, k0, k1, k2, k3⟩ := nrow_at h1 hi
  rw [hx] at hy
  cases hy
  subst hal
  have i1 : (i : Int) < (L.length : Int) := by omega
  have hX' : (X.length : Int) ≤ 1000 := by omega
  obtain ⟨W2, hW2⟩ : ∃ W2, W2 = (w.alloc (.cells #[.int .i64 11, .int .i64 (ja : Int), .int .i64 0, .int .i64 (n : Int)] 38)).alloc (.cells (bcs (List.replicate X.length false)) 4) := ⟨_, rfl⟩
  have R0 : Hid (RowAt w W2 W2 ⟨11, (ja : Int), 0, (n : Int)⟩ X.length 0 V) := hideIt (by
    subst hW2
    have n1 := new_blk (w := w.alloc (.cells #[.int .i64 11, .int .i64 (ja : Int), .int .i64 0, .int .i64 (n : Int)] 38)) (o := .cells (bcs (List.replicate X.length false)) 4) After.rfl
    rw [size_alloc] at n1
    exact ⟨But.rfl, (After.rfl.alloc _).alloc _, new_cell (After.rfl.alloc _) 0 rfl, new_cell (After.rfl.alloc _) 1 rfl, new_cell (After.rfl.alloc _) 2 rfl, new_cell (After.rfl.alloc _) 3 rfl, _, by simp, n1, fun s hs => absurd hs (by omega)⟩)
  have HW := hideIt hW2
  have hmk := make_bools X.length hX
  have HV := hideIt hV
  clear hV
  obtain ⟨plt, rb, roff, ya, yd, l, har, hrb, hrc, hbr, hbf⟩ := PA
  subst har
  have plt : (ja : Int) < (nr : Int) := by omega
  have HB := hideIt (And.intro hrb (And.intro hrc (And.intro hbr hbf)))
  clear hrb hrc hbr hbf
  have plt_ : (ja : Int) < (nr : Int) := by omega
  clear hx h1 hb hi hW2
  go_enter Try.func55, Try.ntmps55
  go_wp2_with fail
  rw [← HW.out]
  clear HW hmk k0 k1 k2 k3
  go_loopw [13] (fun a wr => ∃ j : Nat, j ≤ X.length ∧ a = .int .i64 j ∧ RowAt w W2 wr ⟨11, (ja : Int), 0, (n : Int)⟩ X.length j V) (fun a _ => X.length - (intOf a).toNat)
  case atStart => exact ⟨0, Nat.zero_le _, rfl, R0.out⟩
  case round =>
    obtain ⟨j, hj, rfl, ra⟩ := hrel
    by_cases hjn : j < X.length
    rotate_left
    · have i2 : ¬ (j : Int) < (X.length : Int) := by omega
      have RA := hideIt ra
      clear ra
      go_wp2_with fail
      go_ret
      obtain ⟨l, hl, ho, hv⟩ := RA.out.out
      exact ⟨_, rfl, ⟨w.heap.size + 1, l, rfl, by omega, hl, ho, fun s hs => hv s (by omega)⟩, RA.out.aft⟩
    have i2 : (j : Int) < (X.length : Int) := by omega
    obtain ⟨⟨q0, o0⟩, o1⟩ := ra.cell hjn
    have x0 := ra.x0
    have x1 := ra.x1
    have x2 := ra.x2
    have x3 := ra.x3
    have RA := hideIt ra
    clear ra
    have HC : Hid (∀ V', After w V' → Calls Try.prog 56 #[.slice ya X.length yd, .int .i64 ((j : Int) - (n : Int)), .int .i64 (j : Int), .bool true] V' fun e w' => e = .returned (.bool (V j)) ∧ w' = V') := hideIt (fun V' hV' => by
      have := window_any (c := yd) (HB.out.2.2.1.after hV') (fr := (j : Int) - (n : Int)) (lo := j - n) (by omega) (by omega) hjn hX true
      rw [HV.out j hjn]
      have e : wnd (fun s => l.getD s false) (j - n) j true = wnd f (j - n) j true := wnd_congr (fun s hs => HB.out.2.2.2 s (by omega))
      rw [← e]
      exact this)
    clear o0 o1
    go_upto_region 22 with fail
    refine region_last (by kernel_rfl) [154, 155, 156, 157, 158, 159, 160, 161, 162, 163, 164, 165, 166, 167] [isV (.slice (some ⟨w.heap.size + 1, 0, none⟩) X.length X.length), isV (.int .i64 (j : Int)), isV (.slice (some ⟨rb, roff, none⟩) nr cr), isV (.pointer (some ⟨w.heap.size, 1, none⟩)), isV (.int .i64 (ja : Int)), isV (.pointer (some ⟨rb, roff + ja, none⟩)), isV (.slice ya X.length yd), isV (.int .i64 (j : Int)), isV (.pointer (some ⟨w.heap.size, 3, none⟩)), isV (.int .i64 (n : Int)), isV (.int .i64 ((j : Int) - (n : Int))), isV (.int .i64 (j : Int)), isV (.bool (V j)), isV (.pointer (some ⟨w.heap.size + 1, j, none⟩))] 14 _ rfl rfl rfl rfl 12 rfl rfl (stable_all (st_cons (isV_st _) (st_cons (isV_st _) (st_cons (isV_st _) (st_cons (isV_st _) (st_cons (isV_st _) (st_cons (isV_st _) (st_cons (isV_st _) (st_cons (isV_st _) (st_cons (isV_st _) (st_cons (isV_st _) (st_cons (isV_st _) (st_cons (isV_st _) (st_cons (isV_st _) (st_cons (isV_st _) (st_nil)))))))))))))))) rfl rfl ?_ ?_
    · exact ⟨⟨rfl, rfl, (.inl rfl), fun a W9 K hd hb aw hk => wp_move (.inl rfl) (show a.eval (.tmp 12) = .slice (some ⟨w.heap.size + 1, 0, none⟩) X.length X.length from hb 12 rfl) (hk _ _ rfl After.rfl)⟩,
        ⟨rfl, rfl, (.inl rfl), fun a W9 K hd hb aw hk => wp_move (.inl rfl) (show a.eval (.tmp 13) = .int .i64 (j : Int) from hb 13 rfl) (hk _ _ rfl After.rfl)⟩,
        ⟨rfl, rfl, (.inl rfl), fun a W9 K hd hb aw hk => wp_move (.inl rfl) (show a.eval (.tmp 2) = .slice (some ⟨rb, roff, none⟩) nr cr from hb 2 rfl) (hk _ _ rfl After.rfl)⟩,
        ⟨rfl, rfl, (.inl rfl), fun a W9 K hd hb aw hk => wp_field rfl (show a.eval (.tmp 11) = Ptr w.heap.size from hb 11 rfl) (fieldN _ _ 1 (by decide)) (hk _ _ rfl After.rfl)⟩,
        ⟨rfl, rfl, (.inl rfl), fun a W9 K hd hb aw hk => wp_load rfl (hd 3 rfl) (loadI (RA.out.drew aw).x1) (hk _ _ rfl After.rfl)⟩,
        ⟨rfl, rfl, (.inl rfl), fun a W9 K hd hb aw hk => wp_index rfl (hd 2 rfl) (hd 4 rfl) (indexR _ _ _ _ _ _ plt_) (hk _ _ rfl After.rfl)⟩,
        ⟨rfl, rfl, (.inl rfl), fun a W9 K hd hb aw hk => wp_load rfl (hd 5 rfl) (loadBs ((((RA.out.drew aw).aft).cell HB.out.1 _).trans HB.out.2.1)) (hk _ _ rfl After.rfl)⟩,
        ⟨rfl, rfl, (.inl rfl), fun a W9 K hd hb aw hk => wp_move (.inl rfl) (show a.eval (.tmp 13) = .int .i64 (j : Int) from hb 13 rfl) (hk _ _ rfl After.rfl)⟩,
        ⟨rfl, rfl, (.inl rfl), fun a W9 K hd hb aw hk => wp_field rfl (show a.eval (.tmp 11) = Ptr w.heap.size from hb 11 rfl) (fieldN _ _ 3 (by decide)) (hk _ _ rfl After.rfl)⟩,
        ⟨rfl, rfl, (.inl rfl), fun a W9 K hd hb aw hk => wp_load rfl (hd 8 rfl) (loadI (RA.out.drew aw).x3) (hk _ _ rfl After.rfl)⟩,
        ⟨rfl, rfl, (.inl rfl), fun a W9 K hd hb aw hk => wp_bin rfl (hd 7 rfl) (hd 9 rfl) (subI rfl (by omega) (by omega) _ _ _) (hk _ _ rfl After.rfl)⟩,
        ⟨rfl, rfl, (.inl rfl), fun a W9 K hd hb aw hk => wp_move (.inl rfl) (show a.eval (.tmp 13) = .int .i64 (j : Int) from hb 13 rfl) (hk _ _ rfl After.rfl)⟩,
        ⟨rfl, rfl, (.inl rfl), fun a W9 K hd hb aw hk => wp_func4 rfl (enter_of Try.func56 (by kernel_rfl) (by kernel_rfl)) (hd 6 rfl) (hd 10 rfl) (hd 11 rfl) rfl ((HC.out W9 ((RA.out.drew aw).aft)).mono (fun e w1 h => ⟨_, h.1, hk _ _ rfl (by rw [h.2]; exact After.rfl)⟩))⟩,
        ⟨rfl, rfl, (.inl rfl), fun a W9 K hd hb aw hk => wp_index rfl (hd 0 rfl) (hd 1 rfl) (indexB0 _ _ _ _ _ i2) (hk _ _ rfl After.rfl)⟩,
        trivial⟩
    intro x9 w9 hx9 aw9 K9 hK9
    have t0 : x9 0 = .slice (some ⟨w.heap.size + 1, 0, none⟩) X.length X.length := hx9 0 (Nat.le_of_ble_eq_true rfl)
    have t1 : x9 1 = .int .i64 (j : Int) := hx9 1 (Nat.le_of_ble_eq_true rfl)
    have t2 : x9 2 = .slice (some ⟨rb, roff, none⟩) nr cr := hx9 2 (Nat.le_of_ble_eq_true rfl)
    have t3 : x9 3 = .pointer (some ⟨w.heap.size, 1, none⟩) := hx9 3 (Nat.le_of_ble_eq_true rfl)
    have t4 : x9 4 = .int .i64 (ja : Int) := hx9 4 (Nat.le_of_ble_eq_true rfl)
    have t5 : x9 5 = .pointer (some ⟨rb, roff + ja, none⟩) := hx9 5 (Nat.le_of_ble_eq_true rfl)
    have t6 : x9 6 = .slice ya X.length yd := hx9 6 (Nat.le_of_ble_eq_true rfl)
    have t7 : x9 7 = .int .i64 (j : Int) := hx9 7 (Nat.le_of_ble_eq_true rfl)
    have t8 : x9 8 = .pointer (some ⟨w.heap.size, 3, none⟩) := hx9 8 (Nat.le_of_ble_eq_true rfl)
    have t9 : x9 9 = .int .i64 (n : Int) := hx9 9 (Nat.le_of_ble_eq_true rfl)
    have t10 : x9 10 = .int .i64 ((j : Int) - (n : Int)) := hx9 10 (Nat.le_of_ble_eq_true rfl)
    have t11 : x9 11 = .int .i64 (j : Int) := hx9 11 (Nat.le_of_ble_eq_true rfl)
    have t12 : x9 12 = .bool (V j) := hx9 12 (Nat.le_of_ble_eq_true rfl)
    have t13 : x9 13 = .pointer (some ⟨w.heap.size + 1, j, none⟩) := hx9 13 (Nat.le_of_ble_eq_true rfl)
    simp only [sets, List.getD_cons_succ, List.getD_cons_zero, List.set_cons_succ, List.set_cons_zero, t0, t1, t2, t3, t4, t5, t6, t7, t8, t9, t10, t11, t12, t13]
    clear hx9 t0 t1 t2 t3 t4 t5 t6 t7 t8 t9 t10 t11 t12 t13 x9
    have RB := hideIt (RA.out.drew aw9)
    obtain ⟨⟨z0, z1⟩, z2⟩ := RB.out.cell hjn
    have HP := hideIt (RB.out.put hjn)
    refine wp_storeB rfl rfl rfl rfl z1 z2 (hK9 _ _ ?_)
    clear hK9 aw9 z1 z2
    go_wp2_with fail
    go_roundw
    case rel => exact ⟨j + 1, by omega, by go_num, HP.out⟩
    case measure => simp [intOf]; omega
set_option maxHeartbeats 4000000 in
theorem row_12 {L : List Nd} {C : List Ch} {X : List Tr} (_hL : L.length ≤ 32) (hX : X.length ≤ 1000) {i ja jb : Nat} (hx : L[i]? = some ⟨12, (ja : Int), (jb : Int), 0⟩) {V : Nat → Bool} {f g : Nat → Bool} (hV : ∀ t, t < X.length → V t = sinc f g t) (w : World) (al : Option Addr) (cl : Nat) (h1 : NRow w al L.length L) (ar : Option Addr) (nr cr : Nat) (ac : Option Addr) (cc : Nat) (aT : Option Addr) (ct : Nat) (PA : Part w ar nr X.length ja f) (PB : Part w ar nr X.length jb g) :
    Calls Try.prog 55 #[.slice al L.length cl, .int .i64 (i : Int), .slice ar nr cr, .slice ac C.length cc, .slice aT X.length ct] w fun e w' => ∃ v, e = .returned v ∧ RowOut w w' v X.length V ∧ After w w' := by
  have hi : i < L.length := (List.getElem?_eq_some_iff.1 hx).1
  obtain ⟨b, off, y, hal, hb, hy, k0, k1, k2, k3⟩ := nrow_at h1 hi
  rw [hx] at hy
  cases hy
  subst hal
  have i1 : (i : Int) < (L.length : Int) := by omega
  have hX' : (X.length : Int) ≤ 1000 := by omega
  obtain ⟨W2, hW2⟩ : ∃ W2, W2 = (w.alloc (.cells #[.int .i64 12, .int .i64 (ja : Int), .int .i64 (jb : Int), .int .i64 0] 38)).alloc (.cells (bcs (List.replicate X.length false)) 4) := ⟨_, rfl⟩
  have R0 : Hid (RowAt w W2 W2 ⟨12, (ja : Int), (jb : Int), 0⟩ X.length 0 V) := hideIt (by
    subst hW2
    have n1 := new_blk (w := w.alloc (.cells #[.int .i64 12, .int .i64 (ja : Int), .int .i64 (jb : Int), .int .i64 0] 38)) (o := .cells (bcs (List.replicate X.length false)) 4) After.rfl
    rw [size_alloc] at n1
    exact ⟨But.rfl, (After.rfl.alloc _).alloc _, new_cell (After.rfl.alloc _) 0 rfl, new_cell (After.rfl.alloc _) 1 rfl, new_cell (After.rfl.alloc _) 2 rfl, new_cell (After.rfl.alloc _) 3 rfl, _, by simp, n1, fun s hs => absurd hs (by omega)⟩)
  have HW := hideIt hW2
  have hmk := make_bools X.length hX
  have HV := hideIt hV
  clear hV
  obtain ⟨plt, rb, roff, ya, yd, l, har, hrb, hrc, hbr, hbf⟩ := PA
  subst har
  have plt : (ja : Int) < (nr : Int) := by omega
  have HB := hideIt (And.intro hrb (And.intro hrc (And.intro hbr hbf)))
  clear hrb hrc hbr hbf
  obtain ⟨plt2, rb2, roff2, ya2, yd2, l2, har2, hrb2, hrc2, hbr2, hbf2⟩ := PB
  cases har2
  have p2lt : (jb : Int) < (nr : Int) := by omega
  have HB2 := hideIt (And.intro hrb2 (And.intro hrc2 (And.intro hbr2 hbf2)))
  clear hrb2 hrc2 hbr2 hbf2
  have plt_ : (ja : Int) < (nr : Int) := by omega
  clear hx h1 hb hi hW2
  go_enter Try.func55, Try.ntmps55
  go_wp2_with fail
  rw [← HW.out]
  clear HW hmk k0 k1 k2 k3
  go_loopw [13] (fun a wr => ∃ j : Nat, j ≤ X.length ∧ a = .int .i64 j ∧ RowAt w W2 wr ⟨12, (ja : Int), (jb : Int), 0⟩ X.length j V) (fun a _ => X.length - (intOf a).toNat)
  case atStart => exact ⟨0, Nat.zero_le _, rfl, R0.out⟩
  case round =>
    obtain ⟨j, hj, rfl, ra⟩ := hrel
    by_cases hjn : j < X.length
    rotate_left
    · have i2 : ¬ (j : Int) < (X.length : Int) := by omega
      have RA := hideIt ra
      clear ra
      go_wp2_with fail
      go_ret
      obtain ⟨l, hl, ho, hv⟩ := RA.out.out
      exact ⟨_, rfl, ⟨w.heap.size + 1, l, rfl, by omega, hl, ho, fun s hs => hv s (by omega)⟩, RA.out.aft⟩
    have i2 : (j : Int) < (X.length : Int) := by omega
    obtain ⟨⟨q0, o0⟩, o1⟩ := ra.cell hjn
    have x0 := ra.x0
    have x1 := ra.x1
    have x2 := ra.x2
    have x3 := ra.x3
    have RA := hideIt ra
    clear ra
    have HC : Hid (∀ V', After w V' → Calls Try.prog 57 #[.slice ya X.length yd, .slice ya2 X.length yd2, .int .i64 (j : Int)] V' fun e w' => e = .returned (.bool (V j)) ∧ w' = V') := hideIt (fun V' hV' => by
      have := refSince_any (c := yd) (c2 := yd2) (HB.out.2.2.1.after hV') (HB2.out.2.2.1.after hV') hjn hX
      rw [HV.out j hjn]
      have e : sinc (fun s => l.getD s false) (fun s => l2.getD s false) j = sinc f g j := sinc_congr (fun s hs => HB.out.2.2.2 s (by omega)) (fun s hs => HB2.out.2.2.2 s (by omega))
      rw [← e]
      exact this)
    clear o0 o1
    go_upto_region 24 with fail
    refine region_last (by kernel_rfl) [170, 171, 172, 173, 174, 175, 176, 177, 178, 179, 180, 181, 182, 183, 184] [isV (.slice (some ⟨w.heap.size + 1, 0, none⟩) X.length X.length), isV (.int .i64 (j : Int)), isV (.slice (some ⟨rb, roff, none⟩) nr cr), isV (.pointer (some ⟨w.heap.size, 1, none⟩)), isV (.int .i64 (ja : Int)), isV (.pointer (some ⟨rb, roff + ja, none⟩)), isV (.slice ya X.length yd), isV (.slice (some ⟨rb, roff, none⟩) nr cr), isV (.pointer (some ⟨w.heap.size, 2, none⟩)), isV (.int .i64 (jb : Int)), isV (.pointer (some ⟨rb, roff + jb, none⟩)), isV (.slice ya2 X.length yd2), isV (.int .i64 (j : Int)), isV (.bool (V j)), isV (.pointer (some ⟨w.heap.size + 1, j, none⟩))] 15 _ rfl rfl rfl rfl 12 rfl rfl (stable_all (st_cons (isV_st _) (st_cons (isV_st _) (st_cons (isV_st _) (st_cons (isV_st _) (st_cons (isV_st _) (st_cons (isV_st _) (st_cons (isV_st _) (st_cons (isV_st _) (st_cons (isV_st _) (st_cons (isV_st _) (st_cons (isV_st _) (st_cons (isV_st _) (st_cons (isV_st _) (st_cons (isV_st _) (st_cons (isV_st _) (st_nil))))))))))))))))) rfl rfl ?_ ?_
    · exact ⟨⟨rfl, rfl, (.inl rfl), fun a W9 K hd hb aw hk => wp_move (.inl rfl) (show a.eval (.tmp 12) = .slice (some ⟨w.heap.size + 1, 0, none⟩) X.length X.length from hb 12 rfl) (hk _ _ rfl After.rfl)⟩,
        ⟨rfl, rfl, (.inl rfl), fun a W9 K hd hb aw hk => wp_move (.inl rfl) (show a.eval (.tmp 13) = .int .i64 (j : Int) from hb 13 rfl) (hk _ _ rfl After.rfl)⟩,
        ⟨rfl, rfl, (.inl rfl), fun a W9 K hd hb aw hk => wp_move (.inl rfl) (show a.eval (.tmp 2) = .slice (some ⟨rb, roff, none⟩) nr cr from hb 2 rfl) (hk _ _ rfl After.rfl)⟩,
        ⟨rfl, rfl, (.inl rfl), fun a W9 K hd hb aw hk => wp_field rfl (show a.eval (.tmp 11) = Ptr w.heap.size from hb 11 rfl) (fieldN _ _ 1 (by decide)) (hk _ _ rfl After.rfl)⟩,
        ⟨rfl, rfl, (.inl rfl), fun a W9 K hd hb aw hk => wp_load rfl (hd 3 rfl) (loadI (RA.out.drew aw).x1) (hk _ _ rfl After.rfl)⟩,
        ⟨rfl, rfl, (.inl rfl), fun a W9 K hd hb aw hk => wp_index rfl (hd 2 rfl) (hd 4 rfl) (indexR _ _ _ _ _ _ plt_) (hk _ _ rfl After.rfl)⟩,
        ⟨rfl, rfl, (.inl rfl), fun a W9 K hd hb aw hk => wp_load rfl (hd 5 rfl) (loadBs ((((RA.out.drew aw).aft).cell HB.out.1 _).trans HB.out.2.1)) (hk _ _ rfl After.rfl)⟩,
        ⟨rfl, rfl, (.inl rfl), fun a W9 K hd hb aw hk => wp_move (.inl rfl) (show a.eval (.tmp 2) = .slice (some ⟨rb, roff, none⟩) nr cr from hb 2 rfl) (hk _ _ rfl After.rfl)⟩,
        ⟨rfl, rfl, (.inl rfl), fun a W9 K hd hb aw hk => wp_field rfl (show a.eval (.tmp 11) = Ptr w.heap.size from hb 11 rfl) (fieldN _ _ 2 (by decide)) (hk _ _ rfl After.rfl)⟩,
        ⟨rfl, rfl, (.inl rfl), fun a W9 K hd hb aw hk => wp_load rfl (hd 8 rfl) (loadI (RA.out.drew aw).x2) (hk _ _ rfl After.rfl)⟩,
        ⟨rfl, rfl, (.inl rfl), fun a W9 K hd hb aw hk => wp_index rfl (hd 7 rfl) (hd 9 rfl) (indexR _ _ _ _ _ _ p2lt) (hk _ _ rfl After.rfl)⟩,
        ⟨rfl, rfl, (.inl rfl), fun a W9 K hd hb aw hk => wp_load rfl (hd 10 rfl) (loadBs ((((RA.out.drew aw).aft).cell HB2.out.1 _).trans HB2.out.2.1)) (hk _ _ rfl After.rfl)⟩,
        ⟨rfl, rfl, (.inl rfl), fun a W9 K hd hb aw hk => wp_move (.inl rfl) (show a.eval (.tmp 13) = .int .i64 (j : Int) from hb 13 rfl) (hk _ _ rfl After.rfl)⟩,
        ⟨rfl, rfl, (.inl rfl), fun a W9 K hd hb aw hk => wp_func3 rfl (enter_of Try.func57 (by kernel_rfl) (by kernel_rfl)) (hd 6 rfl) (hd 11 rfl) (hd 12 rfl) ((HC.out W9 ((RA.out.drew aw).aft)).mono (fun e w1 h => ⟨_, h.1, hk _ _ rfl (by rw [h.2]; exact After.rfl)⟩))⟩,
        ⟨rfl, rfl, (.inl rfl), fun a W9 K hd hb aw hk => wp_index rfl (hd 0 rfl) (hd 1 rfl) (indexB0 _ _ _ _ _ i2) (hk _ _ rfl After.rfl)⟩,
        trivial⟩
    intro x9 w9 hx9 aw9 K9 hK9
    have t0 : x9 0 = .slice (some ⟨w.heap.size + 1, 0, none⟩) X.length X.length := hx9 0 (Nat.le_of_ble_eq_true rfl)
    have t1 : x9 1 = .int .i64 (j : Int) := hx9 1 (Nat.le_of_ble_eq_true rfl)
    have t2 : x9 2 = .slice (some ⟨rb, roff, none⟩) nr cr := hx9 2 (Nat.le_of_ble_eq_true rfl)
    have t3 : x9 3 = .pointer (some ⟨w.heap.size, 1, none⟩) := hx9 3 (Nat.le_of_ble_eq_true rfl)
    have t4 : x9 4 = .int .i64 (ja : Int) := hx9 4 (Nat.le_of_ble_eq_true rfl)
    have t5 : x9 5 = .pointer (some ⟨rb, roff + ja, none⟩) := hx9 5 (Nat.le_of_ble_eq_true rfl)
    have t6 : x9 6 = .slice ya X.length yd := hx9 6 (Nat.le_of_ble_eq_true rfl)
    have t7 : x9 7 = .slice (some ⟨rb, roff, none⟩) nr cr := hx9 7 (Nat.le_of_ble_eq_true rfl)
    have t8 : x9 8 = .pointer (some ⟨w.heap.size, 2, none⟩) := hx9 8 (Nat.le_of_ble_eq_true rfl)
    have t9 : x9 9 = .int .i64 (jb : Int) := hx9 9 (Nat.le_of_ble_eq_true rfl)
    have t10 : x9 10 = .pointer (some ⟨rb, roff + jb, none⟩) := hx9 10 (Nat.le_of_ble_eq_true rfl)
    have t11 : x9 11 = .slice ya2 X.length yd2 := hx9 11 (Nat.le_of_ble_eq_true rfl)
    have t12 : x9 12 = .int .i64 (j : Int) := hx9 12 (Nat.le_of_ble_eq_true rfl)
    have t13 : x9 13 = .bool (V j) := hx9 13 (Nat.le_of_ble_eq_true rfl)
    have t14 : x9 14 = .pointer (some ⟨w.heap.size + 1, j, none⟩) := hx9 14 (Nat.le_of_ble_eq_true rfl)
    simp only [sets, List.getD_cons_succ, List.getD_cons_zero, List.set_cons_succ, List.set_cons_zero, t0, t1, t2, t3, t4, t5, t6, t7, t8, t9, t10, t11, t12, t13, t14]
    clear hx9 t0 t1 t2 t3 t4 t5 t6 t7 t8 t9 t10 t11 t12 t13 t14 x9
    have RB := hideIt (RA.out.drew aw9)
    obtain ⟨⟨z0, z1⟩, z2⟩ := RB.out.cell hjn
    have HP := hideIt (RB.out.put hjn)
    refine wp_storeB rfl rfl rfl rfl z1 z2 (hK9 _ _ ?_)
    clear hK9 aw9 z1 z2
    go_wp2_with fail
    go_roundw
    case rel => exact ⟨j + 1, by omega, by go_num, HP.out⟩
    case measure => simp [intOf]; omega
set_option maxHeartbeats 4000000 in
theorem row_atom {L : List Nd} {C : List Ch} {X : List Tr} (_hL : L.length ≤ 32) (hX : X.length ≤ 1000) {i ja : Nat} {op bb nn : Int} (hx : L[i]? = some ⟨op, (ja : Int), bb, nn⟩) {V : Nat → Bool} (h2 : 1 ≤ op ∧ op ≤ 5) (hjc : ja < C.length) (hR : ∀ x ∈ X, x.n = C.length) (hV : ∀ t, t < X.length → V t = atom ⟨op, (ja : Int), bb, nn⟩ (C.getD ja Ch.none) (((rdsOf X).getD t []).getD ja Rd.none)) (w : World) (al : Option Addr) (cl : Nat) (h1 : NRow w al L.length L) (ar : Option Addr) (nr cr : Nat) (ac : Option Addr) (cc : Nat) (aT : Option Addr) (ct : Nat) (hC : CRow w ac C.length C) (hT : TRow w aT X.length X) :
    Calls Try.prog 55 #[.slice al L.length cl, .int .i64 (i : Int), .slice ar nr cr, .slice ac C.length cc, .slice aT X.length ct] w fun e w' => ∃ v, e = .returned v ∧ RowOut w w' v X.length V ∧ After w w' := by
  have hi : i < L.length := (List.getElem?_eq_some_iff.1 hx).1
  obtain ⟨b, off, y, hal, hb, hy, k0, k1, k2, k3⟩ := nrow_at h1 hi
  rw [hx] at hy
  cases hy
  subst hal
  have i1 : (i : Int) < (L.length : Int) := by omega
  have hX' : (X.length : Int) ≤ 1000 := by omega
  obtain ⟨W2, hW2⟩ : ∃ W2, W2 = (w.alloc (.cells #[.int .i64 op, .int .i64 (ja : Int), .int .i64 bb, .int .i64 nn] 38)).alloc (.cells (bcs (List.replicate X.length false)) 4) := ⟨_, rfl⟩
  have R0 : Hid (RowAt w W2 W2 ⟨op, (ja : Int), bb, nn⟩ X.length 0 V) := hideIt (by
    subst hW2
    have n1 := new_blk (w := w.alloc (.cells #[.int .i64 op, .int .i64 (ja : Int), .int .i64 bb, .int .i64 nn] 38)) (o := .cells (bcs (List.replicate X.length false)) 4) After.rfl
    rw [size_alloc] at n1
    exact ⟨But.rfl, (After.rfl.alloc _).alloc _, new_cell (After.rfl.alloc _) 0 rfl, new_cell (After.rfl.alloc _) 1 rfl, new_cell (After.rfl.alloc _) 2 rfl, new_cell (After.rfl.alloc _) 3 rfl, _, by simp, n1, fun s hs => absurd hs (by omega)⟩)
  have HW := hideIt hW2
  have hmk := make_bools X.length hX
  have HV := hideIt hV
  have e0 : (op == 0) = false := by simp; omega
  have e6 : (op == 6) = false := by simp; omega
  have e7 : (op == 7) = false := by simp; omega
  have e8 : (op == 8) = false := by simp; omega
  have e9 : (op == 9) = false := by simp; omega
  have e10 : (op == 10) = false := by simp; omega
  have e11 : (op == 11) = false := by simp; omega
  have e12 : (op == 12) = false := by simp; omega
  obtain ⟨cb, coff, ch, hac, hcb, hch, m0, m1, m2, m3, m4, m5, m6⟩ := crow_at hC hjc
  subst hac
  have HCH : Hid (∀ V', After w V' → (Instr.loadAt 42 (.pointer (some ⟨cb, coff + ja * 7, none⟩))).run Try.prog V' = .ok ch.val V') := hideIt (fun V' hV' => loadChanAt ((hV'.cell hcb _).trans m0) ((hV'.cell hcb _).trans m1) ((hV'.cell hcb _).trans m2) ((hV'.cell hcb _).trans m3) ((hV'.cell hcb _).trans m4) ((hV'.cell hcb _).trans m5) ((hV'.cell hcb _).trans m6))
  have i3 : (ja : Int) < (C.length : Int) := by omega
  have HT := hideIt (And.intro hT (And.intro hR (And.intro h2 hch)))
  clear hV hC hT hR h2 hch m0 m1 m2 m3 m4 m5 m6 hcb
  clear hx h1 hb hi hW2
  go_enter Try.func55, Try.ntmps55
  go_wp2_with fail
  rw [← HW.out]
  clear HW hmk k0 k1 k2 k3
  go_loopw [13] (fun a wr => ∃ j : Nat, j ≤ X.length ∧ a = .int .i64 j ∧ RowAt w W2 wr ⟨op, (ja : Int), bb, nn⟩ X.length j V) (fun a _ => X.length - (intOf a).toNat)
  case atStart => exact ⟨0, Nat.zero_le _, rfl, R0.out⟩
  case round =>
    obtain ⟨j, hj, rfl, ra⟩ := hrel
    by_cases hjn : j < X.length
    rotate_left
    · have i2 : ¬ (j : Int) < (X.length : Int) := by omega
      have RA := hideIt ra
      clear ra
      go_wp2_with fail
      go_ret
      obtain ⟨l, hl, ho, hv⟩ := RA.out.out
      exact ⟨_, rfl, ⟨w.heap.size + 1, l, rfl, by omega, hl, ho, fun s hs => hv s (by omega)⟩, RA.out.aft⟩
    have i2 : (j : Int) < (X.length : Int) := by omega
    obtain ⟨⟨q0, o0⟩, o1⟩ := ra.cell hjn
    have x0 := ra.x0
    have x1 := ra.x1
    have x2 := ra.x2
    have x3 := ra.x3
    have RA := hideIt ra
    clear ra
    obtain ⟨tb, toff, tr, hat, htb, htr, n0, hin⟩ := trow_at HT.out.1 hjn
    have hn := HT.out.2.1 tr (List.mem_of_getElem? htr)
    obtain ⟨db, doff, rd, har, hdb, hrd, r0, r1⟩ := drow_at hin.1 (show ja < tr.n by omega)
    have hv : V j = atom ⟨op, (ja : Int), bb, nn⟩ ch rd := by
      rw [HV.out j hjn, show (rdsOf X).getD j [] = tr.l by simp [rdsOf, List.getD, htr]]
      simp [List.getD, HT.out.2.2.2, hrd]
    subst hat
    have HTR : Hid (∀ V', After w V' → (Instr.loadAt 43 (.pointer (some ⟨tb, toff + j, none⟩))).run Try.prog V' = .ok (.slice (some ⟨db, doff, none⟩) tr.n tr.d) V') := hideIt (fun V' hV' => loadDs (by rw [← har]; exact (hV'.cell htb _).trans n0))
    have HRD : Hid (∀ V', After w V' → (Instr.loadAt 48 (.pointer (some ⟨db, doff + ja * 2, none⟩))).run Try.prog V' = .ok rd.val V') := hideIt (fun V' hV' => loadReadAt ((hV'.cell hdb _).trans r0) ((hV'.cell hdb _).trans r1))
    have i4 : (ja : Int) < (tr.n : Int) := by omega
    have HC := hideIt (fun V' => refAtom_any ⟨op, (ja : Int), bb, nn⟩ ch rd V')
    have ea : atomA ⟨op, (ja : Int), bb, nn⟩ ch rd = (V j, 0) := by
      unfold atomA
      rw [if_pos (by have := HT.out.2.2.1; simp [atomic]; omega), hv]
    rw [ea] at HC
    simp only at HC
    have HP0 := hideIt (RA.out)
    clear o0 o1 hn har hdb hrd r0 r1 htb htr n0 hin hv ea
    go_upto_region 7 with fail
    refine region_slots (by kernel_rfl) [32, 33, 34, 35, 36, 37, 38, 39, 40, 41, 42, 43, 44, 45, 46, 31, 47, 48, 14, 15] [isV ((Nd.mk op (ja : Int) bb nn).val), isV (.slice (some ⟨cb, coff, none⟩) C.length cc), isV (.pointer (some ⟨w.heap.size, 1, none⟩)), isV (.int .i64 (ja : Int)), isV (.pointer (some ⟨cb, coff + ja * 7, none⟩)), isV (ch.val), isV (.slice (some ⟨tb, toff, none⟩) X.length ct), isV (.int .i64 (j : Int)), isV (.pointer (some ⟨tb, toff + j, none⟩)), isV (.slice (some ⟨db, doff, none⟩) tr.n tr.d), isV (.pointer (some ⟨w.heap.size, 1, none⟩)), isV (.int .i64 (ja : Int)), isV (.pointer (some ⟨db, doff + ja * 2, none⟩)), isV (rd.val), isV (.tuple #[.bool (V j), .int .i64 0]), isV (.tuple #[.bool (V j), .int .i64 0]), isV (.bool (V j)), isV (.int .i64 0), isV (.bool (V j)), isV (.int .i64 0)] 20 rfl rfl (stable_all (st_cons (isV_st _) (st_cons (isV_st _) (st_cons (isV_st _) (st_cons (isV_st _) (st_cons (isV_st _) (st_cons (isV_st _) (st_cons (isV_st _) (st_cons (isV_st _) (st_cons (isV_st _) (st_cons (isV_st _) (st_cons (isV_st _) (st_cons (isV_st _) (st_cons (isV_st _) (st_cons (isV_st _) (st_cons (isV_st _) (st_cons (isV_st _) (st_cons (isV_st _) (st_cons (isV_st _) (st_cons (isV_st _) (st_cons (isV_st _) (st_nil)))))))))))))))))))))) rfl rfl ?_ ?_
    · exact ⟨⟨rfl, rfl, (.inl rfl), fun a W9 K hd hb aw hk => wp_load rfl (show a.eval (.tmp 11) = Ptr w.heap.size from hb 11 rfl) (loadNode (x := ⟨op, (ja : Int), bb, nn⟩) (RA.out.drew aw).x0 (RA.out.drew aw).x1 (RA.out.drew aw).x2 (RA.out.drew aw).x3) (hk _ _ rfl After.rfl)⟩,
        ⟨rfl, rfl, (.inl rfl), fun a W9 K hd hb aw hk => wp_move (.inl rfl) (show a.eval (.tmp 3) = .slice (some ⟨cb, coff, none⟩) C.length cc from hb 3 rfl) (hk _ _ rfl After.rfl)⟩,
        ⟨rfl, rfl, (.inl rfl), fun a W9 K hd hb aw hk => wp_field rfl (show a.eval (.tmp 11) = Ptr w.heap.size from hb 11 rfl) (fieldN _ _ 1 (by decide)) (hk _ _ rfl After.rfl)⟩,
        ⟨rfl, rfl, (.inl rfl), fun a W9 K hd hb aw hk => wp_load rfl (hd 2 rfl) (loadI (RA.out.drew aw).x1) (hk _ _ rfl After.rfl)⟩,
        ⟨rfl, rfl, (.inl rfl), fun a W9 K hd hb aw hk => wp_index rfl (hd 1 rfl) (hd 3 rfl) (indexC _ _ _ _ _ _ i3) (hk _ _ rfl After.rfl)⟩,
        ⟨rfl, rfl, (.inl rfl), fun a W9 K hd hb aw hk => wp_load rfl (hd 4 rfl) (HCH.out _ (RA.out.drew aw).aft) (hk _ _ rfl After.rfl)⟩,
        ⟨rfl, rfl, (.inl rfl), fun a W9 K hd hb aw hk => wp_move (.inl rfl) (show a.eval (.tmp 4) = .slice (some ⟨tb, toff, none⟩) X.length ct from hb 4 rfl) (hk _ _ rfl After.rfl)⟩,
        ⟨rfl, rfl, (.inl rfl), fun a W9 K hd hb aw hk => wp_move (.inl rfl) (show a.eval (.tmp 13) = .int .i64 (j : Int) from hb 13 rfl) (hk _ _ rfl After.rfl)⟩,
        ⟨rfl, rfl, (.inl rfl), fun a W9 K hd hb aw hk => wp_index rfl (hd 6 rfl) (hd 7 rfl) (indexT _ _ _ _ _ _ i2) (hk _ _ rfl After.rfl)⟩,
        ⟨rfl, rfl, (.inl rfl), fun a W9 K hd hb aw hk => wp_load rfl (hd 8 rfl) (HTR.out _ (RA.out.drew aw).aft) (hk _ _ rfl After.rfl)⟩,
        ⟨rfl, rfl, (.inl rfl), fun a W9 K hd hb aw hk => wp_field rfl (show a.eval (.tmp 11) = Ptr w.heap.size from hb 11 rfl) (fieldN _ _ 1 (by decide)) (hk _ _ rfl After.rfl)⟩,
        ⟨rfl, rfl, (.inl rfl), fun a W9 K hd hb aw hk => wp_load rfl (hd 10 rfl) (loadI (RA.out.drew aw).x1) (hk _ _ rfl After.rfl)⟩,
        ⟨rfl, rfl, (.inl rfl), fun a W9 K hd hb aw hk => wp_index rfl (hd 9 rfl) (hd 11 rfl) (indexD _ _ _ _ _ _ i4) (hk _ _ rfl After.rfl)⟩,
        ⟨rfl, rfl, (.inl rfl), fun a W9 K hd hb aw hk => wp_load rfl (hd 12 rfl) (HRD.out _ (RA.out.drew aw).aft) (hk _ _ rfl After.rfl)⟩,
        ⟨rfl, rfl, (.inl rfl), fun a W9 K hd hb aw hk => wp_func3 rfl (enter_of Try.func58 (by kernel_rfl) (by kernel_rfl)) (hd 0 rfl) (hd 5 rfl) (hd 13 rfl) ((HC.out W9).mono (fun e w1 h => ⟨_, h.1, hk _ _ rfl h.2⟩))⟩,
        ⟨rfl, rfl, (.inl rfl), fun a W9 K hd hb aw hk => wp_move (.inl rfl) (hd 14 rfl) (hk _ _ rfl After.rfl)⟩,
        ⟨rfl, rfl, (.inl rfl), fun a W9 K hd hb aw hk => wp_extract rfl (hd 15 rfl) (extr0 _ _ _) (hk _ _ rfl After.rfl)⟩,
        ⟨rfl, rfl, (.inl rfl), fun a W9 K hd hb aw hk => wp_extract rfl (hd 15 rfl) (extr1 _ _ _) (hk _ _ rfl After.rfl)⟩,
        ⟨rfl, rfl, (.inl rfl), fun a W9 K hd hb aw hk => wp_move (.inr rfl) (hd 16 rfl) (hk _ _ rfl After.rfl)⟩,
        ⟨rfl, rfl, (.inl rfl), fun a W9 K hd hb aw hk => wp_move (.inr rfl) (hd 17 rfl) (hk _ _ rfl After.rfl)⟩,
        trivial⟩
    intro x9 w9 hx9 aw9
    have t0 : x9 0 = (Nd.mk op (ja : Int) bb nn).val := hx9 0 (Nat.le_of_ble_eq_true rfl)
    have t1 : x9 1 = .slice (some ⟨cb, coff, none⟩) C.length cc := hx9 1 (Nat.le_of_ble_eq_true rfl)
    have t2 : x9 2 = .pointer (some ⟨w.heap.size, 1, none⟩) := hx9 2 (Nat.le_of_ble_eq_true rfl)
    have t3 : x9 3 = .int .i64 (ja : Int) := hx9 3 (Nat.le_of_ble_eq_true rfl)
    have t4 : x9 4 = .pointer (some ⟨cb, coff + ja * 7, none⟩) := hx9 4 (Nat.le_of_ble_eq_true rfl)
    have t5 : x9 5 = ch.val := hx9 5 (Nat.le_of_ble_eq_true rfl)
    have t6 : x9 6 = .slice (some ⟨tb, toff, none⟩) X.length ct := hx9 6 (Nat.le_of_ble_eq_true rfl)
    have t7 : x9 7 = .int .i64 (j : Int) := hx9 7 (Nat.le_of_ble_eq_true rfl)
    have t8 : x9 8 = .pointer (some ⟨tb, toff + j, none⟩) := hx9 8 (Nat.le_of_ble_eq_true rfl)
    have t9 : x9 9 = .slice (some ⟨db, doff, none⟩) tr.n tr.d := hx9 9 (Nat.le_of_ble_eq_true rfl)
    have t10 : x9 10 = .pointer (some ⟨w.heap.size, 1, none⟩) := hx9 10 (Nat.le_of_ble_eq_true rfl)
    have t11 : x9 11 = .int .i64 (ja : Int) := hx9 11 (Nat.le_of_ble_eq_true rfl)
    have t12 : x9 12 = .pointer (some ⟨db, doff + ja * 2, none⟩) := hx9 12 (Nat.le_of_ble_eq_true rfl)
    have t13 : x9 13 = rd.val := hx9 13 (Nat.le_of_ble_eq_true rfl)
    have t14 : x9 14 = .tuple #[.bool (V j), .int .i64 0] := hx9 14 (Nat.le_of_ble_eq_true rfl)
    have t15 : x9 15 = .tuple #[.bool (V j), .int .i64 0] := hx9 15 (Nat.le_of_ble_eq_true rfl)
    have t16 : x9 16 = .bool (V j) := hx9 16 (Nat.le_of_ble_eq_true rfl)
    have t17 : x9 17 = .int .i64 0 := hx9 17 (Nat.le_of_ble_eq_true rfl)
    have t18 : x9 18 = .bool (V j) := hx9 18 (Nat.le_of_ble_eq_true rfl)
    have t19 : x9 19 = .int .i64 0 := hx9 19 (Nat.le_of_ble_eq_true rfl)
    simp only [sets, List.getD_cons_succ, List.getD_cons_zero, List.set_cons_succ, List.set_cons_zero, t0, t1, t2, t3, t4, t5, t6, t7, t8, t9, t10, t11, t12, t13, t14, t15, t16, t17, t18, t19]
    clear hx9 t0 t1 t2 t3 t4 t5 t6 t7 t8 t9 t10 t11 t12 t13 t14 t15 t16 t17 t18 t19
    clear x9
    have RB := hideIt (RA.out.drew aw9)
    obtain ⟨⟨z0, z1⟩, z2⟩ := RB.out.cell hjn
    have HP := hideIt (RB.out.put hjn)
    clear aw9 x0 x1 x2 x3
    go_wp2_with fail
    go_roundw
    case rel => exact ⟨j + 1, by omega, by go_num, HP.out⟩
    case measure => simp [intOf]; omega
end Go.Proofs.Ythgmjeljjladhaa
