/-
  giveTurns: the turns of a minor frame, whatever tasks there are.
-/
import Derived.Test.YtkjjjibglaffnaaExG
import Derived.Deep.RegionHeld3
namespace Go.Proofs.Ytkjjjibglaffnaa
open Go.RowKit
set_option maxRecDepth 8000
def inE : Enc Int where
  k := 1
  enc x := [.int .i64 x]
  len _ := rfl
  one x u hu := by
    simp only [List.mem_cons, List.not_mem_nil, or_false] at hu
    rcases hu with rfl; rfl
  pos := by decide
/-- A turn that is answered. -/
structure An where
  p : Int
  t : Tn
def anE : Enc An where
  k := 4
  enc x := [.int .i64 x.p, .int .i64 x.t.u, .bool x.t.ov, .bool x.t.fa]
  len _ := rfl
  one x u hu := by
    simp only [List.mem_cons, List.not_mem_nil, or_false] at hu
    rcases hu with rfl | rfl | rfl | rfl <;> rfl
  pos := by decide
/-- Values that lie in one cell each: interfaces' values. -/
def Ifc (v : Value) : Prop := v = .nilIface ∨ ∃ T g, v = .iface T (Ptr g)
structure Iv where
  v : Value
  is : Ifc v
theorem Iv.one (x : Iv) : x.v.oneCell' = true := by
  rcases x.is with h | ⟨T, g, h⟩ <;> rw [h] <;> rfl
def ivE : Enc Iv where
  k := 1
  enc x := [x.v]
  len _ := rfl
  one x u hu := by
    simp only [List.mem_cons, List.not_mem_nil, or_false] at hu
    rcases hu with rfl; exact x.one
  pos := by decide
/-- Rows into which no turn stores. -/
def Fast (o : Nat → Nat) (a : Option Addr) (n : Nat) : Prop := ∀ x, a = some x → 0 < n → ¬ AS (o x.block)
abbrev exC (vF vS lv : Value) (at_ : Int) (way : Bool) : Array Value := #[vF, vS, lv, .int .i64 at_, .bool way]
/-- What giveTurns reads. -/
structure Gt (w : World) (o : Nat → Nat) (p : Nat) (vF lv : Value) (at_ : Int) (way : Bool) (sa : Option Addr) (sc : Nat) (st : List Int) (pa : Option Addr) (ps : List Int) (ta : Option Addr) (iv : List Iv) : Prop where
  at0 : w.heap[p]? = some (.cells (exC vF (.slice sa st.length sc) lv at_ way) 73 (0, 0))
  np : ¬ AS (o p)
  rs : GRow inE w sa st.length st
  fs : Fast o sa st.length
  rp : GRow inE w pa ps.length ps
  fp : Fast o pa ps.length
  rt : GRow ivE w ta iv.length iv
  ft : Fast o ta iv.length
theorem GRow.go {α : Type} {E : Enc α} {w w' : World} {o o' : Nat → Nat} {a : Option Addr} {n : Nat} {xs : List α} (h : GRow E w a n xs) (f : Fast o a n) (g : Go AS w w' o o') : GRow E w' a n xs ∧ Fast o' a n :=
  ⟨h.but g.but f, fun x hx hn => by
    obtain ⟨b, off, e, hlt⟩ := h.lt hn
    rw [hx] at e
    cases e
    rw [g.ext _ hlt]
    exact f _ hx hn⟩
theorem Gt.go {w w' : World} {o o' : Nat → Nat} {p : Nat} {vF lv : Value} {at_ : Int} {way : Bool} {sa : Option Addr} {sc : Nat} {st : List Int} {pa : Option Addr} {ps : List Int} {ta : Option Addr} {iv : List Iv} (h : Gt w o p vF lv at_ way sa sc st pa ps ta iv) (g : Go AS w w' o o') : Gt w' o' p vF lv at_ way sa sc st pa ps ta iv :=
  ⟨(g.but.block p (blk_lt h.at0) h.np).trans h.at0, by rw [g.ext p (blk_lt h.at0)]; exact h.np, (h.rs.go h.fs g).1, (h.rs.go h.fs g).2, (h.rp.go h.fp g).1, (h.rp.go h.fp g).2, (h.rt.go h.ft g).1, (h.rt.go h.ft g).2⟩
theorem Go.same {A : Nat → Prop} {w w' : World} {o : Nat → Nat} (a : After w w') : Go A w w' o o := ⟨a.but, fun _ _ => Eq.refl _⟩
/-- What is asked of what goes on beside the turns. -/
structure Beside (Inv : Nat → (Nat → Nat) → List An → World → Prop) (st ps : List Int) (lv : Value) (iv : List Iv) : Prop where
  after : ∀ {j o l w w'}, Inv j o l w → After w w' → Inv j o l w'
  lab : ∀ {j o l w w' S g}, Inv j o l w → But S w w' → (∀ k, k < w.heap.size → S k → o k = 8) → (w.heap.size ≤ g ∨ o g = 8) → g < w'.heap.size → Inv j (upd o g 8) l w'
  bnd : ∀ {j o l w}, Inv j o l w → ∀ k, o k ≠ 0 → k < w.heap.size
  turn : ∀ {j o l w w1 b p s v}, Inv j o l w → After w w1 → w.heap.size ≤ b → ps[j]? = some p → st[p.toNat]? = some s → iv[p.toNat]? = some v → w1.heap[b]? = some (.cells (tuC p Tn.new s lv false) 105 (0, 0)) →
    Calls Try.prog 34 #[Ptr b, v.v] w1 fun e w' => e = .returned (.tuple #[]) ∧ ∃ o' t, w'.heap[b]? = some (.cells (tuC p t s lv true) 105 (0, 0)) ∧ Go AT w w' o o' ∧ o' b = 0 ∧ Inv (j + 1) o' (l ++ [⟨p, t⟩]) w'
theorem Try.infoAn : (Try.prog.info? 48).map (fun i => (i.zero, i.size, i.bytes)) = some (some (.agg #[.int .i64 0, .int .i64 0, .bool false, .bool false]), 4, 24) := by kernel_rfl
theorem in_at {w : World} {a : Option Addr} {n : Nat} {zs : List Int} (h : GRow inE w a n zs) {i : Nat} (hi : i < n) : ∃ b off z, a = some ⟨b, off, none⟩ ∧ b < w.heap.size ∧ zs[i]? = some z ∧ w.cell? ⟨b, off + i, none⟩ = some (.int .i64 z) := by
  obtain ⟨b, off, x, e, hb, hx, h1⟩ := h.2 i hi
  have := h1 0 _ rfl
  rw [show inE.k = 1 from rfl, Nat.mul_one, Nat.add_zero] at this
  exact ⟨b, off, x, e, hb, hx, this⟩
theorem iv_at {w : World} {a : Option Addr} {n : Nat} {zs : List Iv} (h : GRow ivE w a n zs) {i : Nat} (hi : i < n) : ∃ b off z, a = some ⟨b, off, none⟩ ∧ b < w.heap.size ∧ zs[i]? = some z ∧ w.cell? ⟨b, off + i, none⟩ = some z.v := by
  obtain ⟨b, off, x, e, hb, hx, h1⟩ := h.2 i hi
  have := h1 0 _ rfl
  rw [show ivE.k = 1 from rfl, Nat.mul_one, Nat.add_zero] at this
  exact ⟨b, off, x, e, hb, hx, this⟩
/-- What giveTurns answers, and leaves behind. -/
def TurnsBe (Inv : Nat → (Nat → Nat) → List An → World → Prop) (w : World) (o : Nat → Nat) (n : Nat) (e : Ending) (w' : World) : Prop :=
  ∃ v l o', e = .returned v ∧ ORow anE 48 w' 0 v l ∧ l.length = n ∧ Inv n o' l w' ∧ Go AS w w' o o' ∧ (∀ k, v.ownBlock = some k → o' k = 8)
set_option maxHeartbeats 2000000 in
theorem giveTurns_any {Inv : Nat → (Nat → Nat) → List An → World → Prop} {w : World} {o : Nat → Nat} {p : Nat} {vF lv : Value} {at_ : Int} {way : Bool} {sa : Option Addr} {sc pc tc : Nat} {st : List Int} {pa : Option Addr} {ps : List Int} {ta : Option Addr} {iv : List Iv} (h : Gt w o p vF lv at_ way sa sc st pa ps ta iv) (bs : Beside Inv st ps lv iv) (h0 : Inv 0 o [] w) (hp : ∀ q ∈ ps, 0 ≤ q ∧ q < (st.length : Int)) (hi : iv.length = st.length) (hn : ps.length ≤ 8) (hs : st.length ≤ 8) (hlv : ∃ a n c, lv = .slice a n c) :
    Calls Try.prog 24 #[Ptr p, .slice pa ps.length pc, .slice ta iv.length tc] w fun e w' => TurnsBe Inv w o ps.length e w' := by
  obtain ⟨la, ln, lc, rfl⟩ := hlv
  have HH := hideIt (And.intro h h0)
  have HB := hideIt bs
  have HP := hideIt hp
  have i1 : (ps.length : Int) ≤ 8 := by omega
  have i2 : (st.length : Int) ≤ 8 := by omega
  have HI0 := hideIt hi
  clear h h0 bs hp hi
  go_enter Try.func24, Try.ntmps24
  go_wp2_with fail
  go_loopw [7, 13] (fun tv iw wr => ∃ (j : Nat) (o' : Nat → Nat) (l : List An), j ≤ ps.length ∧ iw = .int .i64 j ∧ l.length = j ∧ ORow anE 48 wr 0 tv l ∧ Inv j o' l wr ∧ Go AS w wr o o' ∧ (∀ k, tv.ownBlock = some k → o' k = 8)) (fun _ iw _ => ps.length - (intOf iw).toNat)
  case atStart => exact ⟨0, o, [], Nat.zero_le _, rfl, rfl, orow_nil anE _ _ _, HH.out.2, Go.rfl, fun k hk => by cases hk⟩
  case round =>
    obtain ⟨j, o', l, hj, rfl, hl, own, inv, go, lab⟩ := hrel
    have HL := hideIt hl
    clear hl
    by_cases hjn : j < ps.length
    · have i4 : (j : Int) < (ps.length : Int) := by omega
      have gt := HH.out.1.go go
      obtain ⟨b0, f0, q, rfl, hb0, hq, d0⟩ := in_at gt.rp hjn
      obtain ⟨q0, q1⟩ := HP.out q (List.mem_of_getElem? hq)
      obtain ⟨k, rfl⟩ : ∃ k : Nat, q = (k : Int) := ⟨q.toNat, by omega⟩
      have hk : k < st.length := by omega
      have i5 : (k : Int) < (st.length : Int) := by omega
      have i6 : (k : Int) < (iv.length : Int) := by have := HI0.out; omega
      obtain ⟨b1, f1, s, rfl, hb1, hsk, d1⟩ := in_at gt.rs hk
      obtain ⟨b2, f2, v, rfl, hb2, hv, d2⟩ := iv_at gt.rt (show k < iv.length by have := HI0.out; omega)
      have e0 := blk_cell gt.at0 (i := 1) rfl
      have e1 := blk_cell gt.at0 (i := 2) rfl
      have lp := blk_lt gt.at0
      have HI := hideIt (And.intro inv (And.intro own (And.intro go (And.intro lab (And.intro hq (And.intro hsk (And.intro hv gt)))))))
      clear inv own go lab gt hq hsk hv q0 q1
      have HC := hideIt (fun W1 (a : After wr W1) (hb : W1.heap[wr.heap.size]? = some (.cells (tuC (k : Int) Tn.new s (.slice la ln lc) false) 105 (0, 0))) => HB.out.turn HI.out.1 a (Nat.le_refl _) HI.out.2.2.2.2.1 (by rw [Int.toNat_natCast]; exact HI.out.2.2.2.2.2.1) (by rw [Int.toNat_natCast]; exact HI.out.2.2.2.2.2.2.1) hb)
      go_wp2_with fail
      go_region
      go_wp2_with fail
      refine (HC.out _ (((After.rfl (w := wr)).alloc (.cells (tuC (k : Int) Tn.new s (.slice la ln lc) false) 105)).draws 1) (heap_alloc_new wr _)).mono ?_
      rintro e w1 ⟨rfl, o1, t, hb, g1, ob, inv1⟩
      obtain ⟨ut, ov, fa⟩ := t
      have t0 := blk_cell hb (i := 0) rfl
      have t1 := blk_cell hb (i := 1) rfl
      have t2 := blk_cell hb (i := 2) rfl
      have t3 := blk_cell hb (i := 3) rfl
      have own1 := own_but HI.out.2.1 g1.but (fun q hq h => by
        have e := HI.out.2.2.2.1 q hq
        rw [e] at h
        unfold AT at h
        omega)
      have HJ := hideIt (And.intro own1 (And.intro g1 inv1))
      have HN := hideIt (show l.length ≤ 1073741824 by have := HL.out; omega)
      clear hb g1 ob inv1 own1 HC
      go_wp2_with (at_builtin; go_must (refine app_lie (E := anE) rfl (.tmp 36) (.tmp 39) 43 48 Try.underlying43 Try.infoAn rfl (by decide) rfl _ l rfl (own_after HJ.out.1 (After.rfl.alloc _)) ⟨w1.heap.size, 0, none⟩ 1 ⟨(k : Int), ⟨ut, ov, fa⟩⟩ rfl (lit_row (heap_alloc_new w1 _) rfl rfl) HN.out ?_))
      intro g cap w2 h1 h2 h3 h4
      have HZ := hideIt (And.intro h1 (And.intro h2 (And.intro h3 h4)))
      clear h1 h2 h3 h4
      go_wp2_with fail
      go_roundw
      case rel =>
        obtain ⟨h1, h2, h3, h4⟩ := HZ.out
        obtain ⟨inv, own, go, lab, _⟩ := HI.out
        obtain ⟨own1, g1, inv1⟩ := HJ.out
        have olab : ∀ q, u7.ownBlock = some q → o1 q = 8 := fun q hq => (g1.ext q (own.lt q hq).2).trans (lab q hq)
        have b2 : But (fun q => u7.ownBlock = some q) w1 w2 := (After.rfl.alloc _).but.trans h2
        have hg : w1.heap.size ≤ g ∨ o1 g = 8 := by
          rcases h3 with h3 | h3
          · exact .inr (olab g h3)
          · exact .inl (by rw [h3]; omega)
        have inv2 := HB.out.lab inv1 b2 (fun q _ hq => olab q hq) hg h4
        have go2 : Go AS w1 w2 o1 (upd o1 g 8) := ⟨b2.mono (fun q _ hq => by unfold AS; have := olab q hq; omega), fun q hq => by
          by_cases e : q = g
          · rw [e, upd_at]
            rcases hg with hg | hg
            · omega
            · exact hg.symm
          · exact upd_ne _ _ e⟩
        exact ⟨j + 1, upd o1 g 8, l ++ [⟨(k : Int), ⟨ut, ov, fa⟩⟩], by omega, by go_num, by rw [List.length_append, List.length_singleton, HL.out], h1, inv2, (go.trans (g1.mono at_as)).trans go2, fun q hq => by cases hq; exact upd_at _ _ _⟩
      case measure => simp [intOf]; omega
    · have i4 : ¬ (j : Int) < (ps.length : Int) := by omega
      have e : j = ps.length := by omega
      have HI := hideIt (And.intro own (And.intro inv (And.intro go (And.intro lab (And.intro HL.out e)))))
      obtain ⟨ta2, tc2, rfl⟩ : ∃ a c, u7 = .slice a l.length c := by obtain ⟨a, c, e, _⟩ := own.row; exact ⟨a, c, e⟩
      clear own inv go lab e hj
      go_wp2_with fail
      go_ret
      obtain ⟨own, inv, go, lab, hl, e⟩ := HI.out
      rw [e] at hl inv
      exact ⟨_, l, o', rfl, own, hl, inv, go, lab⟩
end Go.Proofs.Ytkjjjibglaffnaa
