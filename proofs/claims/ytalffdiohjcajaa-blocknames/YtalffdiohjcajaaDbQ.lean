/-
  The document's helpers: CopyBytes, CopyInts, Clip.
-/
import Derived.Test.YtalffdiohjcajaaDbK
import Derived.Test.YtalffdiohjcajaaAlT
namespace Go.Proofs.Ytalffdiohjcajaa
open Go.RowKit
set_option maxRecDepth 8000
theorem copyB_any (a : Option Addr) (n c : Nat) (zs : List Int) (w : World) (hr : Row w a n zs) (ha : a = none → n = 0 ∧ c = 0) (hn : n ≤ 140737488355328) :
    Calls Try.prog 40 #[.slice a n c] w fun e w' => ∃ v, e = .returned v ∧ w'.ownsRow w.heap.size 5 1 v n (u8s zs) ∧ After w w' := by
  obtain ⟨i0, hi, hz0, hz1, hz2⟩ := info_parts Try.info5
  cases a with
  | none =>
    obtain ⟨rfl, rfl⟩ := ha rfl
    have hz : zs = [] := List.length_eq_zero_iff.1 hr.1
    subst hz
    clear hr
    go_enter Try.func40, Try.ntmps40
    go_wp2_with (at_builtin; refine wpList_append_own_none rfl (.tmp 4) (.tmp 5) 38 rfl w.heap.size 5 i0 1 Try.underlying38 hi _ 0 [] rfl (World.ownsRow_nil _ _ _ _) rfl ?_)
    go_ret
    exact ⟨_, rfl, World.ownsRow_nil _ _ _ _, After.rfl⟩
  | some x =>
    have hl : (u8s zs).length = n * 1 := by simp [u8s, hr.1]
    have hnews := row_news hr
    have HL := hideIt hl
    have HW := hideIt hnews
    clear hr ha hl hnews
    go_enter Try.func40, Try.ntmps40
    go_wp2_with (at_builtin; refine wpList_append_own _ rfl (.tmp 4) (.tmp 5) 38 rfl w.heap.size 5 i0 (.int .u8 0) 1 1 Try.underlying38 hi hz0 hz1 hz2 rfl (by decide) _ 0 [] rfl (World.ownsRow_nil _ _ _ _) x n c (u8s zs) rfl HL.out HW.out (u8s_one _) (by unfold maxLen; omega) (by omega) (Nat.le_refl _) ?_; intro v' w1 hown hgrow hnil; rw [Nat.zero_add, List.nil_append] at hown; have HO := hideIt hown; have HG := hideIt hgrow; clear hown hgrow hnil)
    go_ret
    exact ⟨_, rfl, HO.out, But.grown But.rfl HG.out (fun k hk => by cases hk)⟩
/-- Of a sector. -/
theorem copy64 (w : World) (y : Addr) (c : Nat) (zs : List Int) (hr : Row w (some y) 64 zs) :
    Calls Try.prog 40 #[.slice (some y) 64 c] w fun e w' => ∃ b c', e = .returned (.slice (some ⟨b, 0, none⟩) 64 c') ∧ Row w' (some ⟨b, 0, none⟩) 64 zs ∧ w'.ownsRow w.heap.size 5 1 (.slice (some ⟨b, 0, none⟩) 64 c') 64 (u8s zs) ∧ w.heap.size ≤ b ∧ b < w'.heap.size ∧ After w w' := by
  refine (copyB_any _ 64 c zs w hr (fun h => by cases h) (by omega)).mono ?_
  rintro e w' ⟨v, rfl, ho, af⟩
  obtain ⟨a, c', rfl, hr', h0, _, hx⟩ := own_row ho hr.2.1
  cases a with
  | none => exact absurd (h0 rfl).1 (by omega)
  | some x =>
    obtain ⟨e1, e2⟩ := hx x rfl
    have hb := ho.lt _ e1
    rw [e2] at hr' ho ⊢
    exact ⟨x.block, c', rfl, hr', ho, hb.1, hb.2, af⟩
/-- A copy of ints. -/
theorem copyI_any (a : Option Addr) (n c : Nat) (zs : List Int) (w : World) (hr : IRow w a n zs) (ha : a = none → n = 0 ∧ c = 0) (hn : n ≤ 17592186044416) :
    Calls Try.prog 29 #[.slice a n c] w fun e w' => ∃ v, e = .returned v ∧ OInts w' w.heap.size v zs ∧ After w w' := by
  have HR := hideIt hr
  have HA := hideIt ha
  clear hr ha
  go_enter Try.func29, Try.ntmps29
  go_wp2_with (at_builtin; refine app_ints rfl (.tmp 4) (.tmp 5) rfl w.heap.size _ [] rfl (own_nil _ _) a n c zs rfl HR.out HA.out (by simpa using hn) (Nat.le_refl _) ?_; intro v' w1 hown hb; rw [List.nil_append] at hown; have HO := hideIt (And.intro hown hb); clear hown hb)
  go_ret
  exact ⟨_, rfl, HO.out.1, HO.out.2.then (T := Non) But.rfl (fun _ _ t => t.elim) |>.mono (fun k _ e => by cases e)⟩
theorem clip_any (w : World) (i l h : Int) : Calls Try.prog 41 #[.int .i64 i, .int .i64 l, .int .i64 h] w fun e w' => e = .returned (.int .i64 (if i < l then l else if h < i then h else i)) ∧ w' = w := by
  by_cases h1 : i < l
  · rw [if_pos h1]
    go_enter Try.func41, Try.ntmps41
    go_wp2
    go_ret
    exact ⟨rfl, rfl⟩
  · rw [if_neg h1]
    by_cases h2 : h < i
    · rw [if_pos h2]
      go_enter Try.func41, Try.ntmps41
      go_wp2
      go_ret
      exact ⟨rfl, rfl⟩
    · rw [if_neg h2]
      go_enter Try.func41, Try.ntmps41
      go_wp2
      go_ret
      exact ⟨rfl, rfl⟩
end Go.Proofs.Ytalffdiohjcajaa
