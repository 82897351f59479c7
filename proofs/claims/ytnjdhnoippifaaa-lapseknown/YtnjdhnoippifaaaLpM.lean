/-
  Steps in rows, handed in and of one's own; may: ticks that rise.
-/
import Derived.Test.YtnjdhnoippifaaaLpT
import Derived.Deep.RegionLaw
import Derived.Deep.AppendLies
namespace Go.Proofs.Ytnjdhnoippifaaa
open Go.RowKit
set_option maxRecDepth 8000
/-- A step. -/
structure Stp where
  tick : Int
  off : Bool
  ask : Bool
def stps : List Stp → List Value
  | [] => []
  | x :: r => .int .i64 x.tick :: .bool x.off :: .bool x.ask :: stps r
theorem stps_length (xs : List Stp) : (stps xs).length = xs.length * 3 := by
  induction xs with
  | nil => rfl
  | cons x r ih => simp only [stps, List.length_cons, ih]; omega
theorem stps_append (xs ys : List Stp) : stps (xs ++ ys) = stps xs ++ stps ys := by
  induction xs with
  | nil => rfl
  | cons x r ih => simp only [List.cons_append, stps, ih]
theorem stps_at (xs : List Stp) (i : Nat) (x : Stp) (h : xs[i]? = some x) : (stps xs)[i * 3]? = some (.int .i64 x.tick) ∧ (stps xs)[i * 3 + 1]? = some (.bool x.off) ∧ (stps xs)[i * 3 + 2]? = some (.bool x.ask) := by
  induction xs generalizing i with
  | nil => simp at h
  | cons y r ih =>
    cases i with
    | zero => simp at h; subst h; exact ⟨rfl, rfl, rfl⟩
    | succ i =>
      have := ih i (by simpa using h)
      have e : (i + 1) * 3 = i * 3 + 1 + 1 + 1 := by omega
      rw [e]
      exact this
/-- Steps lie where a slice of n places leads. -/
def SRow (w : World) (a : Option Addr) (n : Nat) (xs : List Stp) : Prop :=
  xs.length = n ∧ ∀ i, i < n → ∃ b off x, a = some ⟨b, off, none⟩ ∧ b < w.heap.size ∧ xs[i]? = some x ∧ w.cell? ⟨b, off + i * 3, none⟩ = some (.int .i64 x.tick) ∧ w.cell? ⟨b, off + i * 3 + 1, none⟩ = some (.bool x.off) ∧ w.cell? ⟨b, off + i * 3 + 2, none⟩ = some (.bool x.ask)
theorem SRow.after {w w' : World} {a n xs} (h : SRow w a n xs) (ha : After w w') : SRow w' a n xs :=
  ⟨h.1, fun i hi => by
    obtain ⟨b, off, x, e, hb, hx, h1, h2, h3⟩ := h.2 i hi
    exact ⟨b, off, x, e, Nat.lt_of_lt_of_le hb ha.size, hx, by rw [ha.cell hb]; exact h1, by rw [ha.cell hb]; exact h2, by rw [ha.cell hb]; exact h3⟩⟩
theorem SRow.nil (w : World) (a : Option Addr) : SRow w a 0 [] := ⟨rfl, fun i hi => absurd hi (by omega)⟩
theorem SRow.cellAt {w : World} {a n xs} (h : SRow w a n xs) {i : Nat} (hi : i < n) : ∃ b off x, a = some ⟨b, off, none⟩ ∧ b < w.heap.size ∧ xs[i]? = some x ∧ (∀ W, After w W → W.cell? ⟨b, off + i * 3, none⟩ = some (.int .i64 x.tick) ∧ W.cell? ⟨b, off + i * 3 + 1, none⟩ = some (.bool x.off) ∧ W.cell? ⟨b, off + i * 3 + 2, none⟩ = some (.bool x.ask)) := by
  obtain ⟨b, off, x, e, hb, hx, h1, h2, h3⟩ := h.2 i hi
  exact ⟨b, off, x, e, hb, hx, fun W ha => ⟨(ha.cell hb _).trans h1, (ha.cell hb _).trans h2, (ha.cell hb _).trans h3⟩⟩
/-- Steps in a row of one's own, from block B on. -/
abbrev OSteps (w : World) (B : Nat) (v : Value) (xs : List Stp) : Prop := w.ownsRow B 31 3 v xs.length (stps xs)
theorem own_srow {w : World} {B : Nat} {v : Value} {xs : List Stp} (h : OSteps w B v xs) : ∃ a c, v = .slice a xs.length c ∧ SRow w a xs.length xs ∧ (a = none → xs.length = 0 ∧ c = 0) ∧ xs.length ≤ c := by
  rcases h.2 with ⟨rfl, h0⟩ | ⟨g, cap, cur, rfl, hB, _, hnc, _⟩
  · rw [h0]
    exact ⟨none, 0, rfl, ⟨h0, fun i hi => absurd hi (by omega)⟩, fun _ => ⟨rfl, rfl⟩, by omega⟩
  · refine ⟨_, _, rfl, ⟨rfl, fun i hi => ?_⟩, (fun h => by cases h), hnc⟩
    obtain ⟨e0, e1, e2⟩ := stps_at xs i xs[i] (by simp [hi])
    have c0 := h.cellAt (i * 3) (by omega)
    have c1 := h.cellAt (i * 3 + 1) (by omega)
    have c2 := h.cellAt (i * 3 + 2) (by omega)
    refine ⟨g, 0, xs[i], rfl, (h.lt g rfl).2, by simp [hi], ?_, ?_, ?_⟩
    · rw [Nat.zero_add, c0]; exact e0
    · rw [Nat.zero_add, c1]; exact e1
    · rw [Nat.zero_add, c2]; exact e2
theorem Try.infoStep : (Try.prog.info? 31).map (fun i => (i.zero, i.size, i.bytes)) = some (some (.agg #[.int .i64 0, .bool false, .bool false]), 3, 16) := by kernel_rfl
/-- Ticks that rise, few of them. -/
structure Ups (xs : List Stp) : Prop where
  few : xs.length ≤ 300
  lo : ∀ (i : Nat) (x : Stp), xs[i]? = some x → 0 ≤ x.tick
  hi : ∀ (i : Nat) (x : Stp), xs[i]? = some x → x.tick ≤ 12000
  up : ∀ (i j : Nat) (x y : Stp), i ≤ j → xs[i]? = some x → xs[j]? = some y → x.tick ≤ y.tick
/-- What may has made of the first j. -/
structure Mad (xs : List Stp) (j : Nat) (A : Int) : Prop where
  len : xs.length = j
  lo : 0 ≤ A
  hi : A ≤ 40 * (j : Int)
  few : j ≤ 300
  all : ∀ (i : Nat) (x : Stp), xs[i]? = some x → 0 ≤ x.tick ∧ x.tick ≤ A
  up : ∀ (i j : Nat) (x y : Stp), i ≤ j → xs[i]? = some x → xs[j]? = some y → x.tick ≤ y.tick
theorem Mad.nil : Mad [] 0 0 := ⟨rfl, Int.le_refl _, by omega, by omega, fun i x h => by simp at h, fun i j x y _ h => by simp at h⟩
theorem Mad.snoc {xs : List Stp} {j : Nat} {A B : Int} (h : Mad xs j A) (h1 : A ≤ B) (h2 : B ≤ A + 40) (hj : j < 300) (o q : Bool) : Mad (xs ++ [⟨B, o, q⟩]) (j + 1) B := by
  have hl := h.len
  have hA := h.hi
  have hlo := h.lo
  have at_ : ∀ (i : Nat) (x : Stp), (xs ++ [(⟨B, o, q⟩ : Stp)])[i]? = some x → (xs[i]? = some x ∧ i < j) ∨ (i = j ∧ x = ⟨B, o, q⟩) := by
    intro i x hx
    rcases Nat.lt_or_ge i xs.length with hi | hi
    · rw [List.getElem?_append_left hi] at hx
      exact .inl ⟨hx, by omega⟩
    · rw [List.getElem?_append_right hi] at hx
      have h0 : i - xs.length = 0 := by
        rcases Nat.eq_zero_or_pos (i - xs.length) with e | e
        · exact e
        · rw [List.getElem?_eq_none (by simp; omega)] at hx; cases hx
      rw [h0] at hx
      simp at hx
      exact .inr ⟨by omega, hx.symm⟩
  refine ⟨by simp [hl], by omega, by omega, by omega, fun i x hx => ?_, fun i k x y hik hx hy => ?_⟩
  · rcases at_ i x hx with ⟨hx, _⟩ | ⟨_, rfl⟩
    · have := h.all i x hx; omega
    · exact ⟨by show 0 ≤ B; omega, Int.le_refl _⟩
  · rcases at_ i x hx with ⟨hx, hi⟩ | ⟨hi, rfl⟩
    · rcases at_ k y hy with ⟨hy, _⟩ | ⟨_, rfl⟩
      · exact h.up i k x y hik hx hy
      · have := (h.all i x hx).2
        show x.tick ≤ B
        omega
    · rcases at_ k y hy with ⟨_, hk⟩ | ⟨_, rfl⟩
      · omega
      · exact Int.le_refl _
theorem Mad.ups {xs : List Stp} {j : Nat} {A : Int} (h : Mad xs j A) : Ups xs :=
  ⟨by have := h.few; have := h.len; omega, fun i x hx => (h.all i x hx).1, fun i x hx => by have := (h.all i x hx).2; have := h.hi; have := h.few; omega, h.up⟩
set_option maxHeartbeats 1000000 in
theorem may_any (w : World) (a : Option Addr) (k c : Nat) (zs : List Stp) (hr : SRow w a k zs) (hb : ∀ x ∈ zs, -9223372036854775808 ≤ x.tick ∧ x.tick ≤ 9223372036854775807) (hk : k ≤ 17592186043904) :
    Calls Try.prog 16 #[.slice a k c] w fun e w' => ∃ v xs, e = .returned v ∧ OSteps w' w.heap.size v xs ∧ Ups xs ∧ After w w' := by
  have HR := hideIt hr
  have HB := hideIt hb
  obtain ⟨i0, hi, hz⟩ := Option.map_eq_some_iff.1 Try.infoStep
  simp only [Prod.mk.injEq] at hz
  have HI := hideIt (And.intro hi hz)
  have k0 : (k : Int) ≤ 17592186043904 := by omega
  clear hr hb hi hz
  go_enter Try.func16, Try.ntmps16
  go_wp2_with fail
  go_loopw [3, 4, 5] (fun o t i wr => ∃ (j : Nat) (A : Int) (xs : List Stp), j ≤ k ∧ t = .int .i64 A ∧ i = .int .i64 j ∧ Mad xs j A ∧ OSteps wr w.heap.size o xs ∧ After w wr) (fun _ _ i _ => 300 - (intOf i).toNat)
  case atStart => exact ⟨0, 0, [], Nat.zero_le _, rfl, rfl, Mad.nil, World.ownsRow_nil _ _ _ _, After.rfl⟩
  case round =>
    obtain ⟨j, A, xs, hj, rfl, rfl, mad, hown, af⟩ := hrel
    by_cases hgo : j < k ∧ j < 300
    · obtain ⟨hjk, hj3⟩ := hgo
      have i1 : (j : Int) < (k : Int) := by omega
      have i2 : (j : Int) < 300 := by omega
      obtain ⟨b, off, x, rfl, hbl, hx, hc⟩ := HR.out.cellAt hjk
      obtain ⟨c0, c1, c2⟩ := hc wr af
      have hxb := HB.out x (List.mem_of_getElem? hx)
      have HBR := hideIt (fun W => bring_any x.tick 41 W hxb.1 hxb.2 (by omega) (by omega))
      have hbr := broughtTo_lt x.tick (m := 41) (by omega)
      have HM := hideIt mad
      have HS := hideIt hown
      have AF := hideIt af
      have a1 := mad.lo
      have a2 : A ≤ 12000 := by have := mad.hi; omega
      have hlt : b < wr.heap.size := Nat.lt_of_lt_of_le hbl af.size
      clear mad hown af hc hxb hx
      obtain ⟨t, o, q⟩ := x
      dsimp only at c0 c1 c2 HBR hbr
      generalize broughtTo t 41 = r at *
      have r1 : (r : Int) < 41 := by omega
      obtain ⟨B, hB⟩ : ∃ B, B = A + (r : Int) := ⟨_, rfl⟩
      have hB' : A + (r : Int) = B := hB.symm
      have b1 : A ≤ B := by omega
      have b2 : B ≤ A + 40 := by omega
      clear hB hbr
      go_wp2_with fail
      refine (HBR.out _).mono ?_
      rintro e w2 ⟨rfl, rfl⟩
      clear HBR
      go_wp2_with fail
      obtain ⟨hi, hz0, hz1, hz2⟩ := HI.out
      go_region_law
        (refine step_append_lies _ (by rfl) _ _ _ (by rfl) w.heap.size 31 i0 _ 3 16 Try.underlying22 hi hz0 hz1 hz2 rfl (by omega) u3 xs.length (stps xs) (by rfl) ((HS.out.alloc _).drew)
            ⟨w2.heap.size, 0, none⟩ 1 1 [.int .i64 B, .bool o, .bool q] (by rfl) (by rfl) (World.news_of_block (cs := #[_, _, _]) (t := 31) (fr := (0, 0)) (heap_alloc_new w2 _)) (by simp [Value.oneCell'])
            (by omega) (by have := HM.out.len; unfold maxLen; omega) (by have := HM.out.len; omega) (by have := AF.out.size; simp; omega) (w2.heap.size + 1) (by simp) ?_; intro gg cap w3 hown1 hgrow hat hlt2)
      all_goals
        have hF : OSteps w3 w.heap.size (.slice (some ⟨gg, 0, none⟩) (xs.length + 1) cap) (xs ++ [⟨B, o, q⟩]) := by
          have e : stps xs ++ [Value.int .i64 B, .bool o, .bool q] = stps (xs ++ [⟨B, o, q⟩]) := by rw [stps_append]; rfl
          have el : (xs ++ [(⟨B, o, q⟩ : Stp)]).length = xs.length + 1 := by simp
          rw [e] at hown1
          unfold OSteps
          rw [el]
          exact hown1
        have b3 : But (From w.heap.size) w2 w3 := ((After.rfl.alloc _).draws 1).but.then (T := fun k => u3.ownBlock = some k) (But.grown But.rfl hgrow (fun k hk _ => hk)) (fun i _ t => (HS.out.lt i t).1)
        have a3 : After w w3 := AF.out.then b3 (fun i hi t => by have : w.heap.size ≤ i := t; omega)
        have HF := hideIt (And.intro (HM.out.snoc b1 b2 hj3 o q) (And.intro hF a3))
        clear hown1 hgrow hat hlt2 hF b3 a3 HS HM AF HI hi hz0 hz1 hz2
        simp only [Act.put, List.getElem_toArray, List.getElem_cons_succ, List.getElem_cons_zero, List.setIfInBounds_toArray, List.set_cons_succ, List.set_cons_zero]
        go_wp2
        go_roundw
        case rel => exact ⟨j + 1, B, _, by omega, rfl, by go_num, HF.out⟩
        case measure => simp [intOf]; omega
    · have HF := hideIt (And.intro hown (And.intro mad.ups af))
      have hdd : (j < k ∧ ¬ j < 300) ∨ ¬ j < k := by omega
      clear hown mad af hgo
      rcases hdd with ⟨q1, q2⟩ | q1
      · have i1 : (j : Int) < (k : Int) := by omega
        have i2 : ¬ (j : Int) < 300 := by omega
        go_wp2
        go_ret
        exact ⟨_, rfl, _, HF.out⟩
      · have i1 : ¬ (j : Int) < (k : Int) := by omega
        go_wp2
        go_ret
        exact ⟨_, rfl, _, HF.out⟩
end Go.Proofs.Ytnjdhnoippifaaa
