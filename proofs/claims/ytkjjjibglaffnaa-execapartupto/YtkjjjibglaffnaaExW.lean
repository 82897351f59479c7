/-
  What is handed in to the statements: plans, ticks; an exec of a plan; ticks of tasks.
-/
import Derived.Test.YtkjjjibglaffnaaExV
namespace Go.Proofs.Ytkjjjibglaffnaa
open Go.RowKit
set_option maxRecDepth 8000
/-- A tick: lists of deeds. -/
structure Tc where
  a : Option Addr
  c : Nat
  l : List Dr
def tcE : Enc Tc where
  k := 1
  enc t := [.slice t.a t.l.length t.c]
  len _ := rfl
  one x u hu := by
    simp only [List.mem_cons, List.not_mem_nil, or_false] at hu
    rcases hu with rfl; rfl
  pos := by decide
theorem tc_at {w : World} {a : Option Addr} {n : Nat} {xs : List Tc} (h : GRow tcE w a n xs) {i : Nat} (hi : i < n) : ∃ b off x, a = some ⟨b, off, none⟩ ∧ b < w.heap.size ∧ xs[i]? = some x ∧ w.cell? ⟨b, off + i, none⟩ = some (.slice x.a x.l.length x.c) := by
  obtain ⟨b, off, x, e, hb, hx, h1⟩ := h.2 i hi
  have := h1 0 _ rfl
  rw [show tcE.k = 1 from rfl, Nat.mul_one, Nat.add_zero] at this
  exact ⟨b, off, x, e, hb, hx, this⟩
/-- Deeds as they are handed in. -/
def Dr.Fits (w : World) (N : Nat) (d : Dr) : Prop := GRow deE w d.a d.l.length d.l ∧ d.l.length ≤ N ∧ ∀ x ∈ d.l, -9223372036854775808 ≤ x.k ∧ x.k ≤ 9223372036854775807
/-- Ticks as they are handed in. -/
def Tc.Fits (w : World) (N : Nat) (t : Tc) : Prop := GRow drE w t.a t.l.length t.l ∧ t.l.length ≤ N ∧ ∀ d ∈ t.l, d.Fits w N
theorem Dr.Fits.after {w w' : World} {N : Nat} {d : Dr} (h : d.Fits w N) (a : After w w') : d.Fits w' N := ⟨h.1.after a, h.2⟩
theorem Tc.Fits.after {w w' : World} {N : Nat} {t : Tc} (h : t.Fits w N) (a : After w w') : t.Fits w' N := ⟨h.1.after a, h.2.1, fun d hd => (h.2.2 d hd).after a⟩
/-- A plan, as it is handed in: where its lists lie. -/
structure Pl where
  fa : Option Addr
  fc : Nat
  fs : List Fw
  sa : Option Addr
  sc : Nat
  st : List Int
  la : Option Addr
  lc : Nat
  lk : List (Int × Int)
abbrev Pl.cs (p : Pl) : Array Value := #[.slice p.fa p.fs.length p.fc, .slice p.sa p.st.length p.sc, .slice p.la p.lk.length p.lc]
def Pl.fr (p : Pl) : List (List Int) := p.fs.map Fw.l
structure Pl.Fits (w : World) (N : Nat) (p : Pl) : Prop where
  rf : GRow fwE w p.fa p.fs.length p.fs
  fw : ∀ f ∈ p.fs, GRow inE w f.a f.l.length f.l ∧ (f.a = none → f.l.length = 0 ∧ f.c = 0) ∧ f.l.length ≤ N
  rs : GRow inE w p.sa p.st.length p.st
  sn : p.sa = none → p.st.length = 0 ∧ p.sc = 0
  rl : GRow prE w p.la p.lk.length p.lk
  n1 : p.fs.length ≤ N
  n2 : p.st.length ≤ N
  n3 : p.lk.length ≤ N
  ln : p.la = none → p.lk.length = 0 ∧ p.lc = 0
theorem Pl.Fits.after {w w' : World} {N : Nat} {p : Pl} (h : p.Fits w N) (a : After w w') : p.Fits w' N :=
  ⟨h.rf.after a, fun f hf => ⟨(h.fw f hf).1.after a, (h.fw f hf).2⟩, h.rs.after a, h.sn, h.rl.after a, h.n1, h.n2, h.n3, h.ln⟩
/-- Which number a plan is refused by. -/
def Pl.chk (p : Pl) : Int := chkT p.fr p.st p.lk
theorem pl_no {w : World} {N : Nat} {p : Pl} (h : p.Fits w N) (hN : N ≤ 4000000) (hno : p.chk ≠ 0) : Calls Try.prog 9 #[.slice p.fa p.fs.length p.fc, .slice p.sa p.st.length p.sc, .slice p.la p.lk.length p.lc] w fun e w' => e = .returned (.tuple #[.pointer none, .int .i64 p.chk]) ∧ After w w' :=
  new_no h.rf (fun f hf => ⟨(h.fw f hf).1, by have := (h.fw f hf).2.2; omega⟩) h.rs h.rl (by have := h.n1; omega) (by have := h.n2; omega) (by have := h.n3; omega) hno
/-- The exec of a plan, at its first minor frame. -/
def Pl.xp (p : Pl) : Xp := ⟨p.fr, p.st, mkL p.lk, 0⟩
theorem pl_ok {w : World} {N : Nat} {p : Pl} (h : p.Fits w N) (hok : p.chk = 0) : Calls Try.prog 9 #[.slice p.fa p.fs.length p.fc, .slice p.sa p.st.length p.sc, .slice p.la p.lk.length p.lc] w fun e w' => ∃ q o lv, e = .returned (.tuple #[Ptr q, .int .i64 0]) ∧ Xe w.heap.size w' q o p.xp lv ∧ After w w' :=
  (new_xe rfl rfl rfl h.rf (fun f hf => by
    have := (chk_ok hok).fs f.l (List.mem_map.2 ⟨f, hf, rfl⟩)
    exact ⟨(h.fw f hf).1, (h.fw f hf).2.1, by omega⟩) h.rs h.sn h.rl hok).mono (fun e w' ⟨q, o, lv, e1, X, a, _⟩ => ⟨q, o, lv, e1, X, a⟩)
theorem own_blk {α : Type} {E : Enc α} {t : TypeId} {w : World} {B : Nat} {z : Addr} {n c : Nat} {xs : List α} (h : ORow E t w B (.slice (some z) n c) xs) : (Value.slice (some z) n c).ownBlock = some z.block := by
  rcases h.2 with ⟨hv, _⟩ | ⟨g, cap, cur, hv, _⟩
  · cases hv
  · cases hv; rfl
/-- What tasks makes of a tick's lists, beside an exec. -/
def TaskedX (B : Nat) (w : World) (q : Nat) (x : Xp) (lv : Value) (t : Tc) (o : Nat → Nat) (e : Ending) (w' : World) : Prop :=
  ∃ o' TL ao co aw cw, e = .returned (.tuple #[.slice ao TL.length co, .slice aw TL.length cw]) ∧ Xe B w' q o' x lv ∧ Sy w' o' lv x.L TL (fun _ => []) (fun _ => .pointer none) ∧ GRow ivE w' ao TL.length (TL.map ivOf) ∧ (∀ z, ao = some z → o' z.block = 5) ∧ (ao = none → TL.length = 0 ∧ co = 0) ∧ ORow pkE 58 w' 0 (.slice aw TL.length cw) TL ∧ (∀ k, (Value.slice aw TL.length cw).ownBlock = some k → o' k = 6) ∧ TL.map dsOf = t.l.map Dr.l ∧ Go A56 w w' o o' ∧ Ned TL
theorem x_tasks {B : Nat} {w : World} {q : Nat} {o : Nat → Nat} {x : Xp} {lv : Value} (X : Xe B w q o x lv) (hB : B ≤ w.heap.size) {N : Nat} (hN : N ≤ 4000000) {t : Tc} (ht : t.Fits w N) (hz : ∀ z, t.a = some z → 0 < t.l.length → o z.block = 0) (hdz : ∀ d ∈ t.l, ∀ z, d.a = some z → 0 < d.l.length → o z.block = 0) :
    Calls Try.prog 16 #[.slice t.a t.l.length t.c] w (TaskedX B w q x lv t o) := by
  refine (tasks_any X.sy ht.1 hz (fun d hd => ⟨(ht.2.2 d hd).1, hdz d hd⟩) (by have := ht.2.1; omega)).mono ?_
  rintro e w' ⟨o', TL, vo, vw, e1, tm, hds, hne⟩
  obtain ⟨ao, co, eo, ro, no, _⟩ := tm.oo.row
  obtain ⟨aw, cw, ew, _⟩ := tm.ow.row
  rw [List.length_map] at eo ro no
  subst eo
  subst ew
  have X' := X.go hB tm.go.but (fun k _ s => by unfold A56 at s; omega) tm.go.ext tm.sy.bnd
  exact ⟨o', TL, ao, co, aw, cw, e1, X', tm.sy, ro, fun z hz => tm.l5 z.block (by subst hz; exact own_blk (by have := tm.oo; exact this)), no, tm.ow, tm.l6, hds, tm.go, hne⟩
theorem fit_of {w : World} {N : Nat} {TL : List (Option Tk)} {t : Tc} (h : TL.map dsOf = t.l.map Dr.l) (ht : t.Fits w N) : Fit TL N := by
  intro i k hk
  have h1 : (TL.map dsOf)[i]? = some k.D := by rw [List.getElem?_map, hk]; rfl
  rw [h, List.getElem?_map, Option.map_eq_some_iff] at h1
  obtain ⟨d, hd, e⟩ := h1
  have := ht.2.2 d (List.mem_of_getElem? hd)
  rw [← e]
  exact this.2
theorem tl_len {TL : List (Option Tk)} {t : Tc} (h : TL.map dsOf = t.l.map Dr.l) : TL.length = t.l.length := by
  have := congrArg List.length h
  rw [List.length_map, List.length_map] at this
  exact this
end Go.Proofs.Ytkjjjibglaffnaa
