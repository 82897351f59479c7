/-
  A round of both execs: tasks of each, and a tick of each.
-/
import Derived.Test.YtkjjjibglaffnaaApD
import Derived.Test.YtkjjjibglaffnaaLawSteps21
import Derived.Test.YtkjjjibglaffnaaRxL
namespace Go.Proofs.Ytkjjjibglaffnaa
open Go.RowKit
set_option maxRecDepth 8000
/-- An exec with tasks. -/
structure Side (B : Nat) (w : World) (q : Nat) (o : Nat → Nat) (x : Xp) (lv : Value) (TL : List (Option Tk)) (ao : Option Addr) (co : Nat) (vw : Value) : Prop where
  X : Xe B w q o x lv
  sy : Sy w o lv x.L TL (fun _ => []) (fun _ => .pointer none)
  r : GRow ivE w ao TL.length (TL.map ivOf)
  l5 : ∀ z, ao = some z → o z.block = 5
  no : ao = none → TL.length = 0 ∧ co = 0
  rw : ORow pkE 58 w 0 vw TL
  l6 : ∀ k, vw.ownBlock = some k → o k = 6
  ne : Ned TL
theorem GRow.blt {α : Type} {E : Enc α} {w : World} {a : Option Addr} {n : Nat} {xs : List α} (h : GRow E w a n xs) (hn : 0 < n) {z : Addr} (hz : a = some z) : z.block < w.heap.size := by
  obtain ⟨b, off, e, hl⟩ := h.lt hn
  rw [hz] at e
  cases e
  exact hl
theorem Side.go9 {B : Nat} {w w' : World} {q : Nat} {o o' : Nat → Nat} {x : Xp} {lv : Value} {TL : List (Option Tk)} {ao : Option Addr} {co : Nat} {vw : Value} (s : Side B w q o x lv TL ao co vw) (hB : B ≤ w.heap.size) (hn : 0 < TL.length) (g : Go A9 w w' o o') (hb : ∀ k, o' k ≠ 0 → k < w'.heap.size) : Side B w' q o' x lv TL ao co vw :=
  ⟨s.X.go9 hB g hb, s.sy.go9 g hb, s.r.but g.but (fun z hz _ e => by have e : o z.block = 9 := e; have := s.l5 z hz; omega), fun z hz => (g.ext _ (s.r.blt hn hz)).trans (s.l5 z hz), s.no, own_but s.rw g.but (fun k hk e => by have e : o k = 9 := e; have := s.l6 k hk; omega), fun k hk => (g.ext k (s.rw.lt k hk).2).trans (s.l6 k hk), s.ne⟩
/-- An exec behind its tick. -/
structure Aft (B : Nat) (w : World) (q : Nat) (o : Nat → Nat) (x : Xp) (lv : Value) (TL : List (Option Tk)) (H : Nat → List He) (va : Value) (l : List An) (vw : Value) : Prop where
  X : Xe B w q o x lv
  sy : ∃ CV, Sy w o lv x.L TL H CV
  ra : ORow anE 48 w 0 va l
  l8 : ∀ k, va.ownBlock = some k → o k = 8
  rw : ORow pkE 58 w 0 vw TL
  l6 : ∀ k, vw.ownBlock = some k → o k = 6
  ne : Ned TL
theorem Aft.go9 {B : Nat} {w w' : World} {q : Nat} {o o' : Nat → Nat} {x : Xp} {lv : Value} {TL : List (Option Tk)} {H : Nat → List He} {va : Value} {l : List An} {vw : Value} (s : Aft B w q o x lv TL H va l vw) (hB : B ≤ w.heap.size) (g : Go A9 w w' o o') (hb : ∀ k, o' k ≠ 0 → k < w'.heap.size) : Aft B w' q o' x lv TL H va l vw := by
  obtain ⟨CV, y⟩ := s.sy
  exact ⟨s.X.go9 hB g hb, ⟨CV, y.go9 g hb⟩, own_but s.ra g.but (fun k hk e => by have e : o k = 9 := e; have := s.l8 k hk; omega), fun k hk => (g.ext k (s.ra.lt k hk).2).trans (s.l8 k hk), own_but s.rw g.but (fun k hk e => by have e : o k = 9 := e; have := s.l6 k hk; omega), fun k hk => (g.ext k (s.rw.lt k hk).2).trans (s.l6 k hk), s.ne⟩
theorem go_from {A : Nat → Prop} {B : Nat} {w w' : World} {q : Nat} {o o' : Nat → Nat} {x : Xp} {lv : Value} (X : Xe B w q o x lv) (h0 : ¬ A 0) (g : Go A w w' o o') : But (From B) w w' :=
  g.but.mono (fun k _ s => X.base k (fun e => h0 (by rw [← e]; exact s)))
/-- What neither owns stays. -/
def Kp (w w' : World) (o1 o2 o1' o2' : Nat → Nat) : Prop := ∀ k, k < w.heap.size → o1 k = 0 → o2 k = 0 → w'.heap[k]? = w.heap[k]? ∧ o1' k = 0 ∧ o2' k = 0
theorem kp_of {A : Nat → Prop} {w w' : World} {o1 o2 o1' o2' : Nat → Nat} (h0 : ¬ A 0) (g : Go A w w' o1 o1') (g2 : Go A9 w w' o2 o2') : Kp w w' o1 o2 o1' o2' := fun k hk h1 h2 =>
  ⟨g.but.block k hk (fun s => h0 (by rw [← h1]; exact s)), (g.ext k hk).trans h1, (g2.ext k hk).trans h2⟩
theorem kp_of2 {A : Nat → Prop} {w w' : World} {o1 o2 o1' o2' : Nat → Nat} (h0 : ¬ A 0) (g : Go A w w' o2 o2') (g2 : Go A9 w w' o1 o1') : Kp w w' o1 o2 o1' o2' := fun k hk h1 h2 =>
  ⟨g.but.block k hk (fun s => h0 (by rw [← h2]; exact s)), (g2.ext k hk).trans h1, (g.ext k hk).trans h2⟩
theorem Kp.trans {a b c : World} {o1 o2 p1 p2 r1 r2 : Nat → Nat} (h : Kp a b o1 o2 p1 p2) (hs : a.heap.size ≤ b.heap.size) (k : Kp b c p1 p2 r1 r2) : Kp a c o1 o2 r1 r2 := fun i hi h1 h2 => by
  obtain ⟨e1, e2, e3⟩ := h i hi h1 h2
  obtain ⟨f1, f2, f3⟩ := k i (Nat.lt_of_lt_of_le hi hs) e2 e3
  exact ⟨f1.trans e1, f2, f3⟩
theorem a56 : ¬ A56 0 ∧ ¬ A56 9 := by unfold A56; omega
section
variable {B : Nat} {w w' : World} {q1 q2 : Nat} {o1 o2 : Nat → Nat} {x1 x2 : Xp} {lv1 lv2 : Value} {t : Tc} {e : Ending}
/-- The first one's tasks. -/
theorem ap_t1 (X : Xe B w q1 o1 x1 lv1) (Y : Xe B w q2 o2 x2 lv2) (c : Crs o1 o2) (hB : B ≤ w.heap.size) (h : TaskedX B w q1 x1 lv1 t o1 e w') :
    ∃ TL ao co aw cw o1' o2', e = .returned (.tuple #[.slice ao TL.length co, .slice aw TL.length cw]) ∧ Side B w' q1 o1' x1 lv1 TL ao co (.slice aw TL.length cw) ∧ Xe B w' q2 o2' x2 lv2 ∧ Crs o1' o2' ∧ TL.map dsOf = t.l.map Dr.l ∧ But (From B) w w' ∧ Kp w w' o1 o2 o1' o2' := by
  obtain ⟨o1', TL, ao, co, aw, cw, e1, X1, y1, r1, l5, n1, r6, l6, hds, go1, hne⟩ := h
  obtain ⟨o2', c', g2, hb2, _⟩ := c.go a56.1 a56.2 go1 X1.bnd Y.bnd
  exact ⟨TL, ao, co, aw, cw, o1', o2', e1, ⟨X1, y1, r1, l5, n1, r6, l6, hne⟩, Y.go9 hB g2 hb2, c', hds, go_from X a56.1 go1, kp_of a56.1 go1 g2⟩
/-- The second one's. -/
theorem ap_t2 {TL1 : List (Option Tk)} {ao1 : Option Addr} {co1 : Nat} {vw1 : Value} (s : Side B w q1 o1 x1 lv1 TL1 ao1 co1 vw1) (hn : 0 < TL1.length) (Y : Xe B w q2 o2 x2 lv2) (c : Crs o1 o2) (hB : B ≤ w.heap.size) (h : TaskedX B w q2 x2 lv2 t o2 e w') :
    ∃ TL ao co aw cw o1' o2', e = .returned (.tuple #[.slice ao TL.length co, .slice aw TL.length cw]) ∧ Side B w' q1 o1' x1 lv1 TL1 ao1 co1 vw1 ∧ Side B w' q2 o2' x2 lv2 TL ao co (.slice aw TL.length cw) ∧ Crs o1' o2' ∧ TL.map dsOf = t.l.map Dr.l ∧ But (From B) w w' ∧ Kp w w' o1 o2 o1' o2' := by
  obtain ⟨o2', TL, ao, co, aw, cw, e1, X1, y1, r1, l5, n1, r6, l6, hds, go1, hne⟩ := h
  obtain ⟨o1', c', g2, hb2, _⟩ := c.symm.go a56.1 a56.2 go1 X1.bnd s.X.bnd
  exact ⟨TL, ao, co, aw, cw, o1', o2', e1, s.go9 hB hn g2 hb2, ⟨X1, y1, r1, l5, n1, r6, l6, hne⟩, c'.symm, hds, go_from Y a56.1 go1, kp_of2 a56.1 go1 g2⟩
/-- The first one's tick. -/
theorem ap_k1 {TL1 TL2 : List (Option Tk)} {ao1 ao2 : Option Addr} {co1 co2 : Nat} {vw1 vw2 : Value} (s1 : Side B w q1 o1 x1 lv1 TL1 ao1 co1 vw1) (s2 : Side B w q2 o2 x2 lv2 TL2 ao2 co2 vw2) (hn : 0 < TL2.length) (c : Crs o1 o2) (hB : B ≤ w.heap.size) (h : Ticked B w q1 o1 x1 lv1 TL1 (fun _ => []) e w') :
    ∃ va o1' o2', e = .returned (.tuple #[va, .int .i64 0]) ∧ Aft B w' q1 o1' (x1.tick (DSof TL1) (fun _ => [])) lv1 TL1 (x1.run (DSof TL1) (fun _ => [])).2.2 va (x1.run (DSof TL1) (fun _ => [])).1 vw1 ∧ Side B w' q2 o2' x2 lv2 TL2 ao2 co2 vw2 ∧ Crs o1' o2' ∧ But (From B) w w' ∧ Kp w w' o1 o2 o1' o2' := by
  obtain ⟨va, o1', CV, e1, ra, X1, y1, go1, l8⟩ := h
  obtain ⟨o2', c', g2, hb2, _⟩ := c.go ak09.1 ak09.2.1 go1 X1.bnd s2.X.bnd
  refine ⟨va, o1', o2', e1, ⟨X1, ⟨CV, y1⟩, ra, l8, own_but s1.rw go1.but (fun k hk e => ak09.2.2 (by rw [← s1.l6 k hk]; exact e)), fun k hk => (go1.ext k (s1.rw.lt k hk).2).trans (s1.l6 k hk), s1.ne⟩, s2.go9 hB hn g2 hb2, c', go_from s1.X ak09.1 go1, kp_of ak09.1 go1 g2⟩
/-- The second one's. -/
theorem ap_k2 {TL1 TL2 : List (Option Tk)} {ao2 : Option Addr} {co2 : Nat} {H1 : Nat → List He} {va : Value} {l1 : List An} {vw1 vw2 : Value} (s1 : Aft B w q1 o1 x1 lv1 TL1 H1 va l1 vw1) (s2 : Side B w q2 o2 x2 lv2 TL2 ao2 co2 vw2) (c : Crs o1 o2) (hB : B ≤ w.heap.size) (h : Ticked B w q2 o2 x2 lv2 TL2 (fun _ => []) e w') :
    ∃ vb o1' o2', e = .returned (.tuple #[vb, .int .i64 0]) ∧ Aft B w' q1 o1' x1 lv1 TL1 H1 va l1 vw1 ∧ Aft B w' q2 o2' (x2.tick (DSof TL2) (fun _ => [])) lv2 TL2 (x2.run (DSof TL2) (fun _ => [])).2.2 vb (x2.run (DSof TL2) (fun _ => [])).1 vw2 ∧ Crs o1' o2' ∧ But (From B) w w' ∧ Kp w w' o1 o2 o1' o2' := by
  obtain ⟨vb, o2', CV, e1, rb, X1, y1, go1, l8⟩ := h
  obtain ⟨o1', c', g2, hb2, _⟩ := c.symm.go ak09.1 ak09.2.1 go1 X1.bnd s1.X.bnd
  refine ⟨vb, o1', o2', e1, s1.go9 hB g2 hb2, ⟨X1, ⟨CV, y1⟩, rb, l8, own_but s2.rw go1.but (fun k hk e => ak09.2.2 (by rw [← s2.l6 k hk]; exact e)), fun k hk => (go1.ext k (s2.rw.lt k hk).2).trans (s2.l6 k hk), s2.ne⟩, c'.symm, go_from s2.X ak09.1 go1, kp_of2 ak09.1 go1 g2⟩
end
theorem GRow.same {α : Type} {E : Enc α} {w w' : World} {a : Option Addr} {n : Nat} {xs : List α} (h : GRow E w a n xs) (hs : w.heap.size ≤ w'.heap.size) (he : ∀ z, a = some z → 0 < n → w'.heap[z.block]? = w.heap[z.block]?) : GRow E w' a n xs :=
  ⟨h.1, fun i hi => by
    obtain ⟨b, off, x, e, hb, hx, h1⟩ := h.2 i hi
    have := he _ e (by omega)
    exact ⟨b, off, x, e, Nat.lt_of_lt_of_le hb hs, hx, fun j v hv => by
      have h2 := h1 j v hv
      dsimp only at this
      unfold World.cell? at h2 ⊢
      dsimp only at h2 ⊢
      rw [this]
      exact h2⟩⟩
/-- Deeds that lie below. -/
def Dr.Lw (B : Nat) (d : Dr) : Prop := ∀ z, d.a = some z → 0 < d.l.length → z.block < B
theorem Dr.Fits.low {B : Nat} {w w' : World} {N : Nat} {d : Dr} (h : d.Fits w N) (l : d.Lw B) (b : But (From B) w w') : d.Fits w' N :=
  ⟨h.1.but b (fun z hz hn s => by have s : B ≤ z.block := s; have := l z hz hn; omega), h.2⟩
/-- The first one's tasks are made; the second one's can be. -/
theorem ap_second {B u : Nat} {w w' : World} {q1 q2 : Nat} {o1 o2 : Nat → Nat} {x1 x2 : Xp} {lv1 lv2 : Value} {t : Tc} {e : Ending} (X : Xe B w q1 o1 x1 lv1) (Y : Xe B w q2 o2 x2 lv2) (c : Crs o1 o2) (hB : B ≤ w.heap.size) (bu1 : ∀ k, o1 k ≠ 0 → k < u) (bu2 : ∀ k, o2 k ≠ 0 → k < u) {avo : Option Addr} {cvo : Nat} {ods : List Dr} (rv : GRow drE w avo ods.length ods) (bv : ∀ y, avo = some y → u ≤ y.block ∧ y.block < w.heap.size) (hf : ∀ d ∈ ods, d.Fits w 1048576 ∧ d.Lw B) (hn : ods.length ≤ 1048576) (h : TaskedX B w q1 x1 lv1 t o1 e w') :
    ∃ TL ao co aw cw o1' o2', e = .returned (.tuple #[.slice ao TL.length co, .slice aw TL.length cw]) ∧ Side B w' q1 o1' x1 lv1 TL ao co (.slice aw TL.length cw) ∧ Xe B w' q2 o2' x2 lv2 ∧ Crs o1' o2' ∧ TL.map dsOf = t.l.map Dr.l ∧ But (From B) w w' ∧ Kp w w' o1 o2 o1' o2' ∧ Calls Try.prog 16 #[.slice avo ods.length cvo] w' (TaskedX B w' q2 x2 lv2 ⟨avo, cvo, ods⟩ o2') := by
  obtain ⟨TL, ao, co, aw, cw, p1, p2, e1, s1, Y6, c6, hd, b6, kp⟩ := ap_t1 X Y c hB h
  have z1 : ∀ k, u ≤ k → o1 k = 0 ∧ o2 k = 0 := fun k hk => by
    constructor
    · rcases Nat.eq_zero_or_pos (o1 k) with e | e
      · exact e
      · have := bu1 k (by omega); omega
    · rcases Nat.eq_zero_or_pos (o2 k) with e | e
      · exact e
      · have := bu2 k (by omega); omega
  refine ⟨TL, ao, co, aw, cw, p1, p2, e1, s1, Y6, c6, hd, b6, kp, ?_⟩
  refine x_tasks (t := ⟨avo, cvo, ods⟩) (N := 1048576) Y6 (Nat.le_trans hB b6.size) (by decide) ⟨rv.same b6.size (fun z hz _ => ?_), hn, fun d hd => (hf d hd).1.low (hf d hd).2 b6⟩ (fun z hz _ => ?_) (fun d hd z hz hn => ?_)
  · obtain ⟨h1, h2⟩ := bv z hz
    exact (kp _ h2 (z1 _ h1).1 (z1 _ h1).2).1
  · obtain ⟨h1, h2⟩ := bv z hz
    exact (kp _ h2 (z1 _ h1).1 (z1 _ h1).2).2.2
  · have := (hf d hd).2 z hz hn
    rcases Nat.eq_zero_or_pos (p2 z.block) with e | e
    · exact e
    · have := Y6.base z.block (by omega); omega
theorem Side.tick {B : Nat} {w : World} {q : Nat} {o : Nat → Nat} {x : Xp} {lv : Value} {TL : List (Option Tk)} {ao : Option Addr} {co : Nat} {vw : Value} (s : Side B w q o x lv TL ao co vw) (hB : B ≤ w.heap.size) (hi : TL.length = x.st.length) (hf : Fit TL 1048576) :
    Calls Try.prog 14 #[Ptr q, .slice ao TL.length co] w (Ticked B w q o x lv TL (fun _ => [])) :=
  xe_tick (N := 1048576) (M := 0) s.X s.sy s.r (fun z hz _ e => by have := s.l5 z hz; rw [e, s.X.op.1] at this; cases this) s.no hi hf (by decide) (by decide) (fun _ => Nat.le_refl _) hB
theorem fit_list {TL : List (Option Tk)} {ds : List Dr} (h : TL.map dsOf = ds.map Dr.l) (hd : ∀ d ∈ ds, d.l.length ≤ 1048576 ∧ ∀ x ∈ d.l, -9223372036854775808 ≤ x.k ∧ x.k ≤ 9223372036854775807) : Fit TL 1048576 := by
  intro i k hk
  have h1 : (TL.map dsOf)[i]? = some k.D := by rw [List.getElem?_map, hk]; rfl
  rw [h, List.getElem?_map, Option.map_eq_some_iff] at h1
  obtain ⟨d, hd1, e⟩ := h1
  have := hd d (List.mem_of_getElem? hd1)
  rw [← e]
  exact this
/-- What both execs have in common. -/
structure Com (S : Int → Bool) (p : Pl) (x1 x2 : Xp) : Prop where
  fr : x1.fr = x2.fr
  st1 : x1.st = p.st
  st : x1.st = x2.st
  at_ : x1.at_ = x2.at_
  sam : Sam S x1.L x2.L
  sh : Shut S (skel x1.L)
theorem Com.tick {S : Int → Bool} {p : Pl} {x1 x2 : Xp} (h : Com S p x1 x2) {DS DS' : Nat → List De} (hD : ∀ z : Int, 0 ≤ z → S z = true → DS z.toNat = DS' z.toNat) {q : Int} (q0 : 0 ≤ q) (hq : S q = true) (ok : x1.Ok) :
    Com S p (x1.tick DS (fun _ => [])) (x2.tick DS' (fun _ => [])) ∧ (∀ (k : Nat) (a a' : An), (x1.run DS (fun _ => [])).1[k]? = some a → (x2.run DS' (fun _ => [])).1[k]? = some a' → a.p = a'.p ∧ (a.p = q → a = a')) ∧ (x1.run DS (fun _ => [])).2.2 q.toNat = (x2.run DS' (fun _ => [])).2.2 q.toNat ∧ (x1.run DS (fun _ => [])).1.length = (x2.run DS' (fun _ => [])).1.length := by
  have hps : ∀ z ∈ x1.fr.getD x1.at_ [], 0 ≤ z := fun z hz => by
    have := ok.fs (x1.fr.getD x1.at_ []) (by rw [List.getD_eq_getElem?_getD, List.getElem?_eq_getElem ok.a1]; exact List.getElem_mem ok.a1)
    exact (this.2 z hz).1
  have h1 := frm_apart x1.st hD q0 hq (x1.fr.getD x1.at_ []) x1.L x2.L (fun _ => []) (fun _ => []) hps h.sh h.sam (fun _ _ _ => rfl)
  have r2 : x2.run DS' (fun _ => []) = frm x1.st DS' (x1.fr.getD x1.at_ []) x2.L (fun _ => []) := by unfold Xp.run; rw [← h.fr, ← h.st, ← h.at_]
  refine ⟨⟨h.fr, h.st1, h.st, ?_, ?_, ?_⟩, ?_, ?_, ?_⟩
  · show (x1.at_ + 1) % x1.fr.length = (x2.at_ + 1) % x2.fr.length
    rw [h.fr, h.at_]
  · show Sam S (x1.run DS (fun _ => [])).2.1 (x2.run DS' (fun _ => [])).2.1
    rw [r2]; exact h1.2.1
  · show Shut S (skel (x1.run DS (fun _ => [])).2.1)
    have : skel (x1.run DS (fun _ => [])).2.1 = skel x1.L := frm_skel ..
    rw [this]; exact h.sh
  · rw [r2]; exact h1.1
  · rw [r2]; exact h1.2.2
  · rw [r2]
    have e1 := congrArg List.length (frm_parts x1.st DS (x1.fr.getD x1.at_ []) x1.L (fun _ => []))
    have e2 := congrArg List.length (frm_parts x1.st DS' (x1.fr.getD x1.at_ []) x2.L (fun _ => []))
    rw [List.length_map] at e1 e2
    unfold Xp.run
    rw [e1, e2]
theorem dsT_len {ds : List Dr} {N : Nat} (h : ∀ d ∈ ds, d.l.length ≤ N) (a : Option Addr) (c : Nat) (i : Nat) : (dsT ⟨a, c, ds⟩ i).length ≤ N := by
  unfold dsT
  rw [List.getD_eq_getElem?_getD, List.getElem?_map]
  dsimp only
  cases hq : ds[i]? with
  | none => exact Nat.zero_le _
  | some z => exact h z (List.mem_of_getElem? hq)
theorem run_heard {x : Xp} (ok : x.Ok) {DS : Nat → List De} (h : ∀ i, (DS i).length ≤ 1048576) (i : Nat) : ((x.run DS (fun _ => [])).2.2 i).length ≤ 8388608 ∧ (x.run DS (fun _ => [])).1.length ≤ 8 := by
  have hfl := ok.fs (x.fr.getD x.at_ []) (by rw [List.getD_eq_getElem?_getD, List.getElem?_eq_getElem ok.a1]; exact List.getElem_mem ok.a1)
  have e1 := congrArg List.length (frd_parts x.st DS (x.fr.getD x.at_ []) x.L)
  rw [List.length_map] at e1
  unfold Xp.run
  rw [frm_frd]
  dsimp only
  have l1 := joinH_len (N := 1048576) (frd x.st DS (x.fr.getD x.at_ []) x.L).1 (fun _ => []) 0 (fun e he => frd_len h x.st _ x.L e he) (fun _ => Nat.le_refl _) i
  have l2 : (frd x.st DS (x.fr.getD x.at_ []) x.L).1.length * 1048576 ≤ 8 * 1048576 := Nat.mul_le_mul_right _ (by omega)
  rw [List.length_map]
  omega
/-- The partition's task is there with both, or with none. -/
theorem both_task {TL TL2 : List (Option Tk)} {tl ods : List Dr} {q : Nat} (h1 : TL.map dsOf = tl.map Dr.l) (h2 : TL2.map dsOf = ods.map Dr.l) (e : ods[q]? = tl[q]?) (n1 : Ned TL) {k : Tk} (hk : TL[q]? = some (some k)) : ∃ k2, TL2[q]? = some (some k2) := by
  have a1 : (TL.map dsOf)[q]? = some k.D := by rw [List.getElem?_map, hk]; rfl
  have a2 : (TL2.map dsOf)[q]? = some k.D := by
    rw [h2, List.getElem?_map, e, ← List.getElem?_map, ← h1]; exact a1
  rw [List.getElem?_map, Option.map_eq_some_iff] at a2
  obtain ⟨x, hx, hd⟩ := a2
  cases x with
  | none => exact absurd hd.symm (n1 q k hk)
  | some k2 => exact ⟨k2, hx⟩
end Go.Proofs.Ytkjjjibglaffnaa
