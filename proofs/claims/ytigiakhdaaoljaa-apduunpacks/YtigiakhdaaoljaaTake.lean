/-
  A reader of package mder: what it has; isNone, take.
-/
import Derived.Test.YtigiakhdaaoljaaPure
namespace Go.Proofs.Ytigiakhdaaoljaa
open Go.RowKit
/-- A pointer to the block g. -/
abbrev Ptr (g : Nat) : Value := .pointer (some ⟨g, 0, none⟩)
/-- At block g there is a reader, the bytes zs are left to it, they lie in block h (g itself: nowhere). -/
def RdAt (w : World) (g h : Nat) (zs : List Int) : Prop :=
  ∃ a n c, w.heap[g]? = some (.cells #[.bool true, .slice a n c] 101 (0, 0)) ∧ Row w a n zs ∧ n ≤ c ∧ n ≤ 140737488355328 ∧ ((a = none ∧ n = 0 ∧ c = 0 ∧ h = g) ∨ ∃ off, a = some ⟨h, off, none⟩ ∧ h ≠ g ∧ h < w.heap.size)
theorem RdAt.but {S : Nat → Prop} {w w' : World} {g h : Nat} {zs : List Int} (r : RdAt w g h zs) (b : But S w w') (hg : ¬ S g) (hh : ¬ S h) : RdAt w' g h zs := by
  obtain ⟨a, n, c, h1, h2, h3, h4, h5⟩ := r
  refine ⟨a, n, c, (b.block g (two_at h1).1 hg).trans h1, h2.but b (fun x hx => ?_), h3, h4, h5.imp_right (fun ⟨off, e, hne, hl⟩ => ⟨off, e, hne, Nat.lt_of_lt_of_le hl b.size⟩)⟩
  rcases h5 with ⟨e, _⟩ | ⟨off, e, _⟩
  · rw [e] at hx; cases hx
  · rw [e] at hx; cases hx; exact hh
theorem RdAt.after {w w' : World} {g h : Nat} {zs : List Int} (r : RdAt w g h zs) (b : After w w') : RdAt w' g h zs := r.but b (fun t => t) (fun t => t)
theorem RdAt.bs {w : World} {g h : Nat} {zs : List Int} (r : RdAt w g h zs) : Bs zs := by
  obtain ⟨a, n, c, h1, h2, h3, h4, h5⟩ := r
  exact h2.2.1
theorem RdAt.len {w : World} {g h : Nat} {zs : List Int} (r : RdAt w g h zs) : zs.length ≤ 140737488355328 := by
  obtain ⟨a, n, c, h1, h2, h3, h4, h5⟩ := r
  rw [h2.1]; exact h4
theorem RdAt.lt {w : World} {g h : Nat} {zs : List Int} (r : RdAt w g h zs) : g < w.heap.size := by
  obtain ⟨a, n, c, h1, _⟩ := r
  exact (two_at h1).1
theorem RdAt.ne {w : World} {g h : Nat} {zs : List Int} (r : RdAt w g h zs) (h0 : 0 < zs.length) : h ≠ g ∧ h < w.heap.size := by
  obtain ⟨a, n, c, h1, h2, h3, h4, h5⟩ := r
  rcases h5 with ⟨_, e, _⟩ | ⟨off, e, hne, hl⟩
  · have := h2.1; omega
  · exact ⟨hne, hl⟩
theorem isNone_no {w : World} {g : Nat} {T : TypeId} {y : Value} (h : w.heap[g]? = some (.cells #[.bool true, y] T (0, 0))) :
    Calls Try.prog 79 #[Ptr g] w fun e w' => e = .returned (.bool false) ∧ w' = w := by
  obtain ⟨_, hc0, hc1, hf0, hf1⟩ := two_at h
  clear h
  go_enter Try.func79, Try.ntmps79
  go_wp2
  go_ret
  exact ⟨rfl, rfl⟩
theorem isNone_nil (w : World) : Calls Try.prog 79 #[.pointer none] w fun e w' => e = .returned (.bool true) ∧ w' = w := by
  go_enter Try.func79, Try.ntmps79
  go_wp2
  go_ret
  exact ⟨rfl, rfl⟩
theorem isNone_zero {w : World} {g : Nat} {T : TypeId} {y : Value} (h : w.heap[g]? = some (.cells #[.bool false, y] T (0, 0))) :
    Calls Try.prog 79 #[Ptr g] w fun e w' => e = .returned (.bool true) ∧ w' = w := by
  obtain ⟨_, hc0, hc1, hf0, hf1⟩ := two_at h
  clear h
  go_enter Try.func79, Try.ntmps79
  go_wp2
  go_ret
  exact ⟨rfl, rfl⟩
theorem take_no (w : World) (g h k : Nat) (zs : List Int) (r : RdAt w g h zs) (hk : ¬ k ≤ zs.length) :
    Calls Try.prog 88 #[Ptr g, .int .i64 k] w fun e w' => e = .returned (.tuple #[.slice none 0 0, .int .i64 3]) ∧ w' = w := by
  obtain ⟨a, n, c, h1, h2, h3, h4, h5⟩ := r
  have HN := hideIt (isNone_no h1)
  obtain ⟨_, hc0, hc1, hf0, hf1⟩ := two_at h1
  have hlt : (n : Int) < (k : Int) := by have := h2.1; omega
  clear h1 h2 h3 h5 hk
  go_enter Try.func88, Try.ntmps88
  go_wp2_with (go_at_call 79; refine HN.out.mono ?_; rintro e w' ⟨rfl, rfl⟩)
  go_ret2
  exact ⟨rfl, rfl⟩
theorem But.own1 (w : World) (g o : Nat) (v : Value) : But (One g) w (w.setCell ⟨g, o, none⟩ v) := But.set (S := One g) But.rfl ⟨g, o, none⟩ (fun _ => Eq.refl g) v
/-- Behind the store of what is left. -/
theorem rd_store {w : World} {g h off n c k : Nat} {zs : List Int} (h1 : w.heap[g]? = some (.cells #[.bool true, .slice (some ⟨h, off, none⟩) n c] 101 (0, 0))) (h2 : Row w (some ⟨h, off, none⟩) n zs) (_hc : n ≤ c) (h4 : n ≤ 140737488355328) (hne : h ≠ g) (hlt : h < w.heap.size) (hk : k ≤ n) (off' c' : Nat) (ho : off' = off + k ∨ (off' = off ∧ n - k = 0)) (hc' : n - k ≤ c') :
    RdAt (w.setCell ⟨g, 1, none⟩ (.slice (some ⟨h, off', none⟩) (n - k) c')) g h (zs.drop k) ∧ But (One g) w (w.setCell ⟨g, 1, none⟩ (.slice (some ⟨h, off', none⟩) (n - k) c')) ∧ Row (w.setCell ⟨g, 1, none⟩ (.slice (some ⟨h, off', none⟩) (n - k) c')) (some ⟨h, off, none⟩) k (zs.take k) := by
  have hb : But (One g) w (w.setCell ⟨g, 1, none⟩ (.slice (some ⟨h, off', none⟩) (n - k) c')) := But.own1 _ _ _ _
  refine ⟨⟨_, _, _, two_set1 h1 _, ?_, hc', by omega, .inr ⟨off', rfl, hne, Nat.lt_of_lt_of_le hlt hb.size⟩⟩, hb, (h2.take hk).but hb (fun x hx => by cases hx; exact hne)⟩
  refine Row.but ?_ hb (fun x hx => by cases hx; exact hne)
  rcases ho with rfl | ⟨rfl, h0⟩
  · exact h2.drop hk
  · have e : zs.drop k = [] := List.drop_eq_nil_of_le (by rw [h2.1]; omega)
    rw [e, h0]; exact Row.nil _ _
theorem take_yes (w : World) (g h k : Nat) (zs : List Int) (r : RdAt w g h zs) (hk : k ≤ zs.length) :
    Calls Try.prog 88 #[Ptr g, .int .i64 k] w fun e w' => ∃ a, e = .returned (.tuple #[.slice a k k, .int .i64 0]) ∧ Row w' a k (zs.take k) ∧ RdAt w' g h (zs.drop k) ∧ But (One g) w w' ∧ (h ≠ g → ∃ off, a = some ⟨h, off, none⟩) ∧ (a = none → k = 0) := by
  obtain ⟨a, n, c, h1, h2, h3, h4, h5⟩ := r
  have HN := hideIt (isNone_no h1)
  obtain ⟨_, hc0, hc1, hf0, hf1⟩ := two_at h1
  have hl := h2.1
  rcases h5 with ⟨rfl, rfl, rfl, rfl⟩ | ⟨off, rfl, hne, hhl⟩
  · obtain rfl : k = 0 := by omega
    have hz : zs = [] := List.length_eq_zero_iff.1 hl
    subst hz
    have H1 := hideIt h1
    clear h1 h2 hl hk h3 h4
    go_enter Try.func88, Try.ntmps88
    go_wp2_with (go_at_call 79; refine HN.out.mono ?_; rintro e w' ⟨rfl, rfl⟩)
    go_ret2
    exact ⟨none, rfl, Row.nil _ _, ⟨none, 0, 0, two_set1 H1.out _, Row.nil _ _, Nat.le_refl _, by omega, .inl ⟨rfl, rfl, rfl, rfl⟩⟩, But.own1 _ _ _ _, fun h => absurd rfl h, fun _ => by simp⟩
  · have hle : (k : Int) ≤ (n : Int) := by omega
    have hcn : (n : Int) ≤ (c : Int) := by omega
    have HB := hideIt (fun o c' ho hc' => rd_store h1 h2 h3 h4 hne hhl (show k ≤ n by omega) o c' ho hc')
    clear h1 h2 h4 hk h3 hl hne hhl
    go_enter Try.func88, Try.ntmps88
    go_wp2_with (go_at_call 79; refine HN.out.mono ?_; rintro e w' ⟨rfl, rfl⟩)
    · rename_i hck
      obtain ⟨x1, x2, x3⟩ := HB.out off 0 (.inr ⟨rfl, by omega⟩) (by omega)
      go_ret2
      exact ⟨_, rfl, x3, x1, x2, fun _ => ⟨_, rfl⟩, fun h => by cases h⟩
    · obtain ⟨x1, x2, x3⟩ := HB.out (off + k) (c - k) (.inl rfl) (by omega)
      go_ret2
      exact ⟨_, rfl, x3, x1, x2, fun _ => ⟨_, rfl⟩, fun h => by cases h⟩
end Go.Proofs.Ytigiakhdaaoljaa
