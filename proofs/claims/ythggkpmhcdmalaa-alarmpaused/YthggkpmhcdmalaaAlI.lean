/-
  Two alarms of one spec side by side.
-/
import Derived.Test.YthggkpmhcdmalaaAlH
namespace Go.Proofs.Ythggkpmhcdmalaa
open Go.RowKit
set_option maxRecDepth 8000
/-- Two, made behind w. -/
structure Tw (w W : World) (p q : Nat) (S : Sp) (x y : As) : Prop where
  a : Wk w W p S x
  b : Wk w W q S y
  ne : p ≠ q
theorem Tw.after {w W W' : World} {p q : Nat} {S : Sp} {x y : As} (h : Tw w W p q S x y) (af : After W W') : Tw w W' p q S x y := ⟨h.a.after af, h.b.after af, h.ne⟩
theorem Wk.far {w W W' : World} {p q : Nat} {S : Sp} {x y : As} (h : Wk w W p S x) (g : Wk w W q S y) (hne : p ≠ q) (bt : But (One p) W W') : Wk w W' q S y :=
  ⟨g.al.but bt (fun t => hne (show q = p from t).symm), h.aft.then bt (fun i hi t => by have : i = p := t; have := h.wp; omega), g.wp⟩
theorem Tw.doA {w W : World} {p q : Nat} {S : Sp} {x y : As} (h : Tw w W p q S x y) (d : Dd) (hd : d.In) : Calls Try.prog 16 #[Ptr p, d.v] W fun e w' => ∃ a c, e = .returned (.tuple #[.slice a (doE S x d).length c, .bool true]) ∧ IRow w' a (doE S x d).length (doE S x d) ∧ (a = none → (doE S x d).length = 0 ∧ c = 0) ∧ (∀ z, a = some z → W.heap.size ≤ z.block) ∧ Tw w w' p q S (doS S x d) y ∧ But (One p) W w' := by
  refine (do_any h.a.al d hd).mono ?_
  rintro e w' ⟨v, rfl, own, y, bt⟩
  obtain ⟨a, c, rfl, ir, h0, -, hb⟩ := own_irow own
  exact ⟨a, c, rfl, ir, h0, fun z hz => (hb z hz).2.2, ⟨h.a.put y bt, h.a.far h.b h.ne bt, h.ne⟩, bt⟩
theorem Tw.doB {w W : World} {p q : Nat} {S : Sp} {x y : As} (h : Tw w W p q S x y) (d : Dd) (hd : d.In) : Calls Try.prog 16 #[Ptr q, d.v] W fun e w' => ∃ a c, e = .returned (.tuple #[.slice a (doE S y d).length c, .bool true]) ∧ IRow w' a (doE S y d).length (doE S y d) ∧ (a = none → (doE S y d).length = 0 ∧ c = 0) ∧ (∀ z, a = some z → W.heap.size ≤ z.block) ∧ Tw w w' p q S x (doS S y d) ∧ But (One q) W w' := by
  refine (do_any h.b.al d hd).mono ?_
  rintro e w' ⟨v, rfl, own, y, bt⟩
  obtain ⟨a, c, rfl, ir, h0, -, hb⟩ := own_irow own
  exact ⟨a, c, rfl, ir, h0, fun z hz => (hb z hz).2.2, ⟨h.b.far h.a (fun e => h.ne e.symm) bt, h.b.put y bt, h.ne⟩, bt⟩
theorem Tw.stateA {w W : World} {p q : Nat} {S : Sp} {x y : As} (h : Tw w W p q S x y) : Calls Try.prog 17 #[Ptr p] W fun e w' => e = .returned x.v ∧ After W w' := state_any h.a.al
theorem Tw.stateB {w W : World} {p q : Nat} {S : Sp} {x y : As} (h : Tw w W p q S x y) : Calls Try.prog 17 #[Ptr q] W fun e w' => e = .returned y.v ∧ After W w' := state_any h.b.al
/-- A row that lies elsewhere stays. -/
theorem IRow.one {w w' : World} {a : Option Addr} {n p : Nat} {zs : List Int} (h : IRow w a n zs) (b : But (One p) w w') (hf : ∀ z, a = some z → p < z.block) : IRow w' a n zs :=
  h.but b (fun z hz t => by have e : z.block = p := t; have := hf z hz; omega)
/-- A literal of one int is a row of one's own. -/
theorem own_one (w : World) (z : Int) : OInts (w.alloc (.cells #[.int .i64 z] 3)) w.heap.size (.slice (some ⟨w.heap.size, 0, none⟩) 1 1) [z] :=
  World.ownsRow_lit (base := w.heap.size) (e := 3) (size := 1) w #[.int .i64 z] 1 (Nat.le_refl _) (by decide) rfl
/-- What kinds of deeds there are. -/
theorem do_ways (S : Sp) (x : As) (d : Dd) : (broughtTo d.k 3 = 0 ∧ doE S x d = stE S x d.act ∧ doS S x d = stS S x d.act) ∨ (broughtTo d.k 3 = 1 ∧ doE S x d = [] ∧ doS S x d = akS x) ∨ (broughtTo d.k 3 = 2 ∧ doE S x d = [] ∧ doS S x d = psS x d.ps) := by
  have := broughtTo_lt d.k (m := 3) (by omega)
  unfold doE doS Dd.kd
  rcases (by omega : broughtTo d.k 3 = 0 ∨ broughtTo d.k 3 = 1 ∨ broughtTo d.k 3 = 2) with e | e | e
  · exact .inl ⟨e, by rw [if_pos e], by rw [if_pos e]⟩
  · exact .inr (.inl ⟨e, by rw [if_neg (by omega)], by rw [if_neg (by omega), if_pos e]⟩)
  · exact .inr (.inr ⟨e, by rw [if_neg (by omega)], by rw [if_neg (by omega), if_neg (by omega)]⟩)
theorem ps_is (x : As) (d : Dd) : psS x d.ps = { x with pa := d.ps } := by
  have := broughtTo_lt d.n (m := 6000) (by omega)
  unfold psS
  rw [if_pos (by unfold Dd.ps; omega)]
end Go.Proofs.Ythggkpmhcdmalaa
