/-
  Links and tasks in memory; a turn of one of them.
-/
import Derived.Test.YtkjjjibglaffnaaExF
namespace Go.Proofs.Ytkjjjibglaffnaa
open Go.RowKit
set_option maxRecDepth 8000
/-- A task: where it lies, its deeds. -/
structure Tk where
  t : Nat
  a : Option Addr
  cap : Nat
  D : List De
def ifV : Option Tk → Value
  | none => .nilIface
  | some k => .iface 58 (Ptr k.t)
def ptV : Option Tk → Value
  | none => .pointer none
  | some k => Ptr k.t
def dsOf : Option Tk → List De
  | none => []
  | some k => k.D
/-- A cell that is none, or whose turn is over, for good. -/
def Done (w : World) (o : Nat → Nat) (v : Value) : Prop := v = .pointer none ∨ ∃ c b p t s lv, v = Ptr c ∧ Cl w c b p t s lv true ∧ o c = 0 ∧ o b = 0
theorem Done.none {w : World} {o : Nat → Nat} {v : Value} (h : Done w o v) : NoneC w v := by
  rcases h with h | ⟨c, b, p, t, s, lv, h, h1, _⟩
  · exact .inl h
  · exact .inr ⟨c, h, .inr ⟨b, p, t, s, lv, h1⟩⟩
theorem Done.but {S : Nat → Prop} {w w' : World} {o o' : Nat → Nat} {v : Value} (h : Done w o v) (b : But S w w') (hS : ∀ k, k < w.heap.size → o k = 0 → ¬ S k) (he : ∀ k, k < w.heap.size → o' k = o k) : Done w' o' v := by
  rcases h with h | ⟨c, q, p, t, s, lv, h, h1, h2, h3⟩
  · exact .inl h
  · have l1 := blk_lt h1.c0
    have l2 := blk_lt h1.t0
    exact .inr ⟨c, q, p, t, s, lv, h, h1.but b (hS c l1 h2) (hS q l2 h3), (he c l1).trans h2, (he q l2).trans h3⟩
/-- A task in memory: the i-th. -/
structure TaX (w : World) (o : Nat → Nat) (i : Nat) (k : Tk) (H : List He) (cv vh : Value) : Prop where
  at0 : w.heap[k.t]? = some (.cells #[.slice k.a k.D.length k.cap, vh, cv] 63 (0, 0))
  own : ORow heE 69 w 0 vh H
  dr : GRow deE w k.a k.D.length k.D
  da : ∀ y, k.a = some y → 0 < k.D.length → o y.block = 0
  lt : o k.t = 10 + 2 * i
  lh : ∀ q, vh.ownBlock = some q → o q = 11 + 2 * i
def TaIn (w : World) (o : Nat → Nat) (i : Nat) (k : Tk) (H : List He) (cv : Value) : Prop := ∃ vh, TaX w o i k H cv vh
theorem TaX.dl {w : World} {o : Nat → Nat} {i : Nat} {k : Tk} {H : List He} {cv vh : Value} (h : TaX w o i k H cv vh) (y : Addr) (hy : k.a = some y) (hn : 0 < k.D.length) : y.block < w.heap.size := by
  obtain ⟨b, off, e, hb⟩ := h.dr.lt hn
  rw [hy] at e
  cases e
  exact hb
theorem TaIn.but {S : Nat → Prop} {w w' : World} {o o' : Nat → Nat} {i : Nat} {k : Tk} {H : List He} {cv : Value} (h : TaIn w o i k H cv) (b : But S w w') (h0 : ∀ y, k.a = some y → 0 < k.D.length → ¬ S y.block) (hS : ∀ q, q < w.heap.size → o q = 10 + 2 * i ∨ o q = 11 + 2 * i → ¬ S q) (he : ∀ q, q < w.heap.size → o' q = o q) : TaIn w' o' i k H cv := by
  obtain ⟨vh, h⟩ := h
  have lt := blk_lt h.at0
  refine ⟨vh, (b.block _ lt (hS _ lt (.inl h.lt))).trans h.at0, own_but h.own b (fun q hq => hS q (h.own.lt q hq).2 (.inr (h.lh q hq))), h.dr.but b h0, fun y hy hn => (he _ (h.dl y hy hn)).trans (h.da y hy hn), (he _ lt).trans h.lt, fun q hq => (he q (h.own.lt q hq).2).trans (h.lh q hq)⟩
def setf {α : Type} (f : Nat → α) (i : Nat) (v : α) : Nat → α := fun j => if j = i then v else f j
theorem setf_at {α : Type} (f : Nat → α) (i : Nat) (v : α) : setf f i v i = v := if_pos rfl
theorem setf_ne {α : Type} (f : Nat → α) {i j : Nat} (v : α) (h : j ≠ i) : setf f i v j = f j := if_neg h
theorem setf_same {α : Type} (f : Nat → α) (i : Nat) : setf f i (f i) = f := by
  funext j
  unfold setf
  split
  · rename_i h; rw [h]
  · rfl
/-- Links and tasks. -/
structure Sy (w : World) (o : Nat → Nat) (lv : Value) (L : List Lk) (TL : List (Option Tk)) (HS : Nat → List He) (CV : Nat → Value) : Prop where
  lk : ORow lkE 83 w 0 lv L
  ll : ∀ k, lv.ownBlock = some k → o k = 2
  tk : ∀ i k, TL[i]? = some (some k) → TaIn w o i k (HS i) (CV i)
  cv : ∀ i, Done w o (CV i)
  bnd : ∀ k, o k ≠ 0 → k < w.heap.size
  L16 : L.length ≤ 16
theorem Sy.but {S : Nat → Prop} {w w' : World} {o : Nat → Nat} {lv : Value} {L : List Lk} {TL : List (Option Tk)} {HS : Nat → List He} {CV : Nat → Value} (y : Sy w o lv L TL HS CV) (b : But S w w') (hS : ∀ k, k < w.heap.size → S k → o k ≠ 0 ∧ o k ≠ 2 ∧ o k < 10) : Sy w' o lv L TL HS CV :=
  ⟨own_but y.lk b (fun k hk s => (hS k (y.lk.lt k hk).2 s).2.1 (y.ll k hk)), y.ll, fun i k hk => (y.tk i k hk).but b (fun z hz hn s => by
      obtain ⟨vh, h⟩ := y.tk i k hk
      exact (hS _ (h.dl z hz hn) s).1 (h.da z hz hn)) (fun q hq hl s => by have := (hS q hq s).2.2; omega) (fun _ _ => rfl), fun i => (y.cv i).but b (fun k hk h0 s => (hS k hk s).1 h0) (fun _ _ => rfl), fun k hk => Nat.lt_of_lt_of_le (y.bnd k hk) b.size, y.L16⟩
theorem Sy.after {w w' : World} {o : Nat → Nat} {lv : Value} {L : List Lk} {TL : List (Option Tk)} {HS : Nat → List He} {CV : Nat → Value} (y : Sy w o lv L TL HS CV) (a : After w w') : Sy w' o lv L TL HS CV := y.but a (fun _ _ t => t.elim)
/-- Labels of what a turn stores into. -/
def AT : Nat → Prop := fun l => l = 2 ∨ l = 7 ∨ 10 ≤ l
/-- Labels of what a minor frame's turns store into: what is answered, too. -/
def AS : Nat → Prop := fun l => l = 2 ∨ l = 7 ∨ l = 8 ∨ 10 ≤ l
theorem at_as (l : Nat) (h : AT l) : AS l := by
  unfold AT at h
  unfold AS
  omega
/-- What a turn is. -/
def tnOf (p s : Int) (D : List De) (L : List Lk) (H : List He) : Ru := run p s D ⟨Tn.new, L, 0, H⟩
/-- What a turn leaves behind. -/
def Turned (w0 : World) (b : Nat) (o : Nat → Nat) (lv : Value) (TL : List (Option Tk)) (HS : Nat → List He) (i : Nat) (s : Int) (R : Ru) (w' : World) : Prop :=
  ∃ o' CV', Sy w' o' lv R.L TL (setf HS i R.h) CV' ∧ w'.heap[b]? = some (.cells (tuC (i : Int) R.t s lv true) 105 (0, 0)) ∧ Go AT w0 w' o o' ∧ o' b = 0
theorem Try.runTask (g : Nat) (w : World) : (method 230 58 (Ptr g) "Run").run Try.prog w = .ok (60, Ptr g) w := by kernel_rfl
theorem in_new {s : Int} (h : 0 ≤ s) : Tn.new.In s := ⟨Int.le_refl 0, h⟩
section
variable {w0 w : World} {o : Nat → Nat} {lv : Value} {L : List Lk} {TL : List (Option Tk)} {HS : Nat → List He} {CV : Nat → Value} {b i : Nat} {s : Int}
theorem Sy.free (y : Sy w0 o lv L TL HS CV) (hb : w0.heap.size ≤ b) : o b = 0 := by
  rcases Nat.eq_zero_or_pos (o b) with e | e
  · exact e
  · have := y.bnd b (by omega); omega
/-- What is old, but for what turns store into, stays. -/
theorem Sy.rest {S : Nat → Prop} {w' : World} {o' : Nat → Nat} {L' : List Lk} {HS' : Nat → List He} {CV' : Nat → Value} (y : Sy w0 o lv L TL HS CV) (B : But S w0 w') (he : ∀ k, k < w0.heap.size → o' k = o k) (hS : ∀ k, k < w0.heap.size → S k → o k = 7 ∨ o k = 2 ∨ o k = 10 + 2 * i ∨ o k = 11 + 2 * i)
    (lk' : ORow lkE 83 w' 0 lv L') (hl : L'.length ≤ 16) (hh : ∀ j, j ≠ i → HS' j = HS j) (hc : ∀ j, j ≠ i → CV' j = CV j) (ti : ∀ k, TL[i]? = some (some k) → TaIn w' o' i k (HS' i) (CV' i)) (di : Done w' o' (CV' i)) (bnd : ∀ k, o' k ≠ 0 → k < w'.heap.size) : Sy w' o' lv L' TL HS' CV' := by
  have n0 : ∀ k, k < w0.heap.size → o k = 0 → ¬ S k := fun k hk h0 h => by have := hS k hk h; omega
  refine ⟨lk', fun k hk => (he k (y.lk.lt k hk).2).trans (y.ll k hk), fun j k hk => ?_, fun j => ?_, bnd, hl⟩
  · by_cases e : j = i
    · subst e; exact ti k hk
    · rw [hh j e, hc j e]
      obtain ⟨vh, hx⟩ := y.tk j k hk
      exact TaIn.but ⟨vh, hx⟩ B (fun z hz hn => n0 _ (hx.dl z hz hn) (hx.da z hz hn)) (fun q hq hl h => by have := hS q hq h; omega) he
  · by_cases e : j = i
    · subst e; exact di
    · rw [hc j e]; exact (y.cv j).but B n0 he
theorem turn_nil (y : Sy w0 o lv L TL HS CV) (a0 : After w0 w) (hw : w0.heap.size ≤ b) (hb : w.heap[b]? = some (.cells (tuC (i : Int) Tn.new s lv false) 105 (0, 0))) (hn : ∀ k, TL[i]? ≠ some (some k)) :
    Calls Try.prog 34 #[Ptr b, .nilIface] w fun e w' => e = .returned (.tuple #[]) ∧ Turned w0 b o lv TL HS i s (tnOf i s [] L (HS i)) w' := by
  refine (give_nil hb).mono ?_
  rintro e w' ⟨rfl, w1, a1, gk, _, hk, h1, h2, _⟩
  refine ⟨rfl, ?_⟩
  have s0 := a0.size
  have b2 : But (fun k => k = gk ∨ k = b) w0 w' := ((a0.trans a1).but).trans h2
  have hS : ∀ k, k < w0.heap.size → ¬ (k = gk ∨ k = b) := fun k hk h => by omega
  refine ⟨o, CV, ?_, h1, ⟨b2.mono (fun k hk h => absurd h (hS k hk)), fun _ _ => rfl⟩, y.free hw⟩
  show Sy w' o lv L TL (setf HS i (HS i)) CV
  rw [setf_same]
  exact y.rest (i := i) b2 (fun _ _ => rfl) (fun k hk h => absurd h (hS k hk)) (own_but y.lk b2 (fun k hk h => hS k (y.lk.lt k hk).2 h)) y.L16 (fun _ _ => rfl) (fun _ _ => rfl) (fun k hk => absurd hk (hn k)) ((y.cv i).but b2 (fun k hk _ h => hS k hk h) (fun _ _ => rfl)) (fun k hk => Nat.lt_of_lt_of_le (y.bnd k hk) b2.size)
theorem turn_task (y : Sy w0 o lv L TL HS CV) (a0 : After w0 w) (hw : w0.heap.size ≤ b) (hb : w.heap[b]? = some (.cells (tuC (i : Int) Tn.new s lv false) 105 (0, 0))) {k : Tk} (hk : TL[i]? = some (some k)) (h1 : 0 ≤ s) (h2 : s ≤ 1048576) (hlen : (HS i).length + k.D.length ≤ 1000000000) (hd : ∀ d ∈ k.D, -9223372036854775808 ≤ d.k ∧ d.k ≤ 9223372036854775807) :
    Calls Try.prog 34 #[Ptr b, .iface 58 (Ptr k.t)] w fun e w' => e = .returned (.tuple #[]) ∧ Turned w0 b o lv TL HS i s (tnOf i s k.D L (HS i)) w' := by
  have lb := blk_lt hb
  have ob := y.free hw
  have s0 := a0.size
  obtain ⟨R, hR⟩ : ∃ R, R = tnOf i s k.D L (HS i) := ⟨_, rfl⟩
  rw [← hR]
  obtain ⟨vh, tx⟩ := y.tk i k hk
  have ltk := blk_lt tx.at0
  refine (give_task hb (Try.runTask k.t) (enterC Try.func60 (by kernel_rfl) (by kernel_rfl)) (fun c t' w1 => ∃ W o1 vh1, After w W ∧ w.heap.size ≤ c ∧ t' = R.t ∧ Rn ⟨W, upd o b 7, 10 + 2 * i, k.t, c, b, (i : Int), s, lv, k.a, k.cap, k.D⟩ w1 o1 vh1 R) ?_).mono ?_
  · intro gt gk c W m
    have aW := a0.trans m.aft
    have hWt := (aW.block _ ltk (fun t => t)).trans tx.at0
    have one := but_one W k.t 2 (Ptr c)
    have nt : ∀ q, q ≠ k.t → ¬ One k.t q := fun q h e => h e
    have cb : c ≠ b := m.cl.ne
    have ct : c ≠ k.t := by have := m.nc; omega
    have bt : b ≠ k.t := by omega
    have old : ∀ q, q < w0.heap.size → upd o b 7 q = o q := fun q hq => upd_ne _ _ (by omega)
    have oc : o c = 0 := y.free (by have := m.nc; omega)
    have hrn : Rn ⟨W, upd o b 7, 10 + 2 * i, k.t, c, b, (i : Int), s, lv, k.a, k.cap, k.D⟩ (W.setCell ⟨k.t, 2, none⟩ (Ptr c)) (upd o b 7) vh ⟨Tn.new, L, 0, HS i⟩ := by
      refine ⟨m.cl.but one (nt _ ct) (nt _ bt), own_but (own_after y.lk aW) one (fun q hq e => ?_), blk_put hWt 2 (Ptr c), own_but (own_after tx.own aW) one (fun q hq e => ?_), (tx.dr.after aW).but one (fun z hz hn e => ?_), fun z hz hn => (old _ (tx.dl z hz hn)).trans (tx.da z hz hn), by show 10 ≤ 10 + 2 * i; omega, (old _ ltk).trans tx.lt, fun q hq => ?_, ?_, upd_at _ _ _, fun q hq => (old _ (y.lk.lt q hq).2).trans (y.ll q hq), fun q hq => ?_, ⟨one.mono (fun q _ e => ?_), fun _ _ => rfl⟩, y.L16, in_new h1, h2⟩
      · have e : q = k.t := e
        have := y.ll q hq; have := tx.lt; rw [e] at *; omega
      · have e : q = k.t := e
        have := tx.lh q hq; have := tx.lt; rw [e] at *; omega
      · have e : z.block = k.t := e
        have := tx.da z hz hn; have := tx.lt; rw [e] at *; omega
      · show upd o b 7 q = 10 + 2 * i + 1
        rw [old _ (tx.own.lt q hq).2, tx.lh q hq]; omega
      · show upd o b 7 c = 0
        rw [upd_ne _ _ cb]; exact oc
      · have hsz := one.size
        by_cases e : q = b
        · rw [e]; exact Nat.lt_of_lt_of_le (blk_lt m.cl.t0) hsz
        · rw [upd_ne _ _ e] at hq
          exact Nat.lt_of_lt_of_le (Nat.lt_of_lt_of_le (y.bnd q hq) aW.size) hsz
      · have e : q = k.t := e
        right; right; left
        show upd o b 7 q = 10 + 2 * i
        rw [e, old _ ltk]; exact tx.lt
    refine (run_any (r := ⟨W, upd o b 7, 10 + 2 * i, k.t, c, b, (i : Int), s, lv, k.a, k.cap, k.D⟩) (R := R) (blk_cell hWt rfl) (blk_soft hWt 2) hrn rfl hR.symm hlen hd).mono ?_
    rintro e w1 ⟨rfl, o1, vh1, rn⟩
    have far : ∀ q, w.heap.size ≤ q → q ≠ b → q < W.heap.size → w1.heap[q]? = W.heap[q]? := fun q hq hqb hqw => rn.go.but.block q hqw (fun h => by
      have h0 : upd o b 7 q = 0 := by rw [upd_ne _ _ hqb]; exact y.free (by omega)
      have h : AR (10 + 2 * i) (upd o b 7 q) := h
      rw [h0] at h
      unfold AR at h
      omega)
    exact ⟨rfl, R.t, rn.cl.t0, far gt m.nt (by have := m.nt; omega) (blk_lt m.kt), far gk m.nk (by have := m.nk; omega) (blk_lt m.kk), W, o1, vh1, m.aft, m.nc, rfl, rn⟩
  · rintro e w' ⟨rfl, w1, t', c, ⟨W, o1, vh1, aW, hc, rfl, rn⟩, ⟨gk, qk, hgk, hb', bg, hkq⟩, hcc⟩
    refine ⟨rfl, ?_⟩
    have a2 := a0.trans aW
    have s2 := aW.size
    have x1 : ∀ q, q < W.heap.size → o1 q = upd o b 7 q := rn.go.ext
    have old : ∀ q, q < w0.heap.size → upd o1 b 0 q = o q := fun q hq => by
      have nb : q ≠ b := by omega
      rw [upd_ne _ _ nb, x1 q (by omega), upd_ne _ _ nb]
    have BB : But (fun q => AR (10 + 2 * i) (upd o b 7 q) ∨ q = gk ∨ q = b) w0 w' := ((a2.but).trans (rn.go.but.mono (fun _ _ h => .inl h))).then bg (fun _ _ h => .inr h)
    have hS : ∀ q, q < w0.heap.size → (AR (10 + 2 * i) (upd o b 7 q) ∨ q = gk ∨ q = b) → o q = 7 ∨ o q = 2 ∨ o q = 10 + 2 * i ∨ o q = 11 + 2 * i := fun q hq h => by
      have nb : q ≠ b := by omega
      have ng : q ≠ gk := by omega
      rcases h with h | h | h
      · rw [upd_ne _ _ nb] at h
        unfold AR at h
        omega
      · exact absurd h ng
      · exact absurd h nb
    have mb : ∀ q, (q = gk ∨ q = b) → q < w0.heap.size → False := fun q h hq => by omega
    have vb : ∀ q, vh1.ownBlock = some q → ¬ (q = gk ∨ q = b) := fun q hq h => by
      rcases h with h | h
      · exact own_farT rn.own (by decide) hkq (by rw [← h]; exact hq)
      · have e1 := rn.lh q hq
        have e2 : o1 b = 7 := rn.lb
        rw [h, e2] at e1
        have e1 : 7 = 10 + 2 * i + 1 := e1
        omega
    have cb := rn.cl.ne
    refine ⟨upd o1 b 0, setf CV i (Ptr c), ?_, hb', ⟨BB.mono (fun q hq h => ?_), old⟩, upd_at _ _ _⟩
    · refine y.rest (i := i) BB old hS (own_but rn.lk bg (fun q hq h => mb q h (y.lk.lt q hq).2)) rn.L16 (fun j hj => setf_ne _ _ hj) (fun j hj => setf_ne _ _ hj) (fun k' hk' => ?_) ?_ (fun q hq => ?_)
      · rw [hk] at hk'
        cases hk'
        rw [setf_at, setf_at]
        refine ⟨vh1, (bg.block k.t (blk_lt rn.at0) (fun h => mb _ h ltk)).trans rn.at0, own_but rn.own bg vb, rn.dr.but bg (fun z hz hn h => mb _ h (tx.dl z hz hn)), fun z hz hn => (old _ (tx.dl z hz hn)).trans (tx.da z hz hn), (old _ ltk).trans tx.lt, fun q hq => ?_⟩
        have nb : q ≠ b := fun e => vb q hq (.inr e)
        have e1 := rn.lh q hq
        have e1 : o1 q = 10 + 2 * i + 1 := e1
        rw [upd_ne _ _ nb, e1]; omega
      · rw [setf_at]
        exact .inr ⟨c, b, _, _, _, _, rfl, ⟨hcc.trans rn.cl.c0, hb'⟩, (upd_ne _ _ cb).trans rn.lc, upd_at _ _ _⟩
      · by_cases e : q = b
        · rw [e, upd_at] at hq; exact absurd rfl hq
        · rw [upd_ne _ _ e] at hq
          exact Nat.lt_of_lt_of_le (rn.bnd q hq) bg.size
    · have := hS q hq h
      unfold AT; omega
end
end Go.Proofs.Ytkjjjibglaffnaa
