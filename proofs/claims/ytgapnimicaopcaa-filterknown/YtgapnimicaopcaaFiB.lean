/-
  What is inside a filter begins; a number is pushed into it.
-/
import Derived.Test.YtgapnimicaopcaaFiA
import Derived.Deep.RegionWith
namespace Go.Proofs.Ytgapnimicaopcaa
open Go.RowKit
set_option maxRecDepth 8000
theorem lastN_nil (n : Nat) : lastN n [] = [] := by simp [lastN]
theorem insideOf_ok (w : World) (k n : Nat) (st : Int) (h : MayK k n) : Calls Try.prog 24 #[.agg #[.int .i64 k, .int .i64 n, .int .i64 st]] w fun e w' => ∃ v S, e = .returned (.tuple #[v, .int .i64 0]) ∧ Ins w' k n S Si.new v ∧ (∀ i, S i → w.heap.size ≤ i) ∧ After w w' := by
  rcases h with ⟨hk, hn⟩ | ⟨hk, hn⟩ | ⟨hk, hn⟩ | ⟨hk, hn⟩ | ⟨hk, hn⟩
  · have hk' : k = 0 := by omega
    have hn' : n = 0 := by omega
    subst hk' hn'
    clear hk hn
    go_enter Try.func24, Try.ntmps24
    go_wp2_with (go_at_call 36; refine (newPlain_ok _).mono ?_; rintro e w1 ⟨rfl, ha⟩)
    go_ret2
    exact ⟨_, Non, rfl, .inl ⟨rfl, rfl, fun i h => h⟩, fun i h => h.elim, (After.rfl.alloc _).trans ha⟩
  · have hk' : k = 1 := by omega
    subst hk'
    have H := hideIt (fun W => L9.mdNew_ok W n hn)
    have HN := hideIt hn
    clear hk hn
    go_enter Try.func24, Try.ntmps24
    go_wp2_with (go_at_call 37; refine (H.out _).mono ?_; rintro e w1 ⟨rfl, rfl⟩)
    go_ret2
    have hm := HN.out
    unfold L9.May at hm
    exact ⟨_, One (w.heap.size + 1), rfl, .inr (.inl ⟨rfl, _, by simp, by rw [show Si.new.l = [] from rfl, lastN_nil]; exact L9.md_new (by rw [show w.heap.size + 1 = (w.alloc _).heap.size from (by simp : w.heap.size + 1 = (w.alloc _).heap.size)]; exact heap_alloc_new _ _) (by omega) (by omega), fun i => Iff.rfl⟩), fun i h => by cases h; omega, (After.rfl.alloc _).alloc _⟩
  · have hk' : k = 2 := by omega
    subst hk'
    have H := hideIt (fun W => L10.avNew_ok W n hn)
    have HN := hideIt hn
    clear hk hn
    go_enter Try.func24, Try.ntmps24
    go_wp2_with (go_at_call 38; refine (H.out _).mono ?_; rintro e w1 ⟨rfl, rfl⟩)
    go_ret2
    have hm := HN.out
    unfold L10.May at hm
    exact ⟨_, One (w.heap.size + 1), rfl, .inr (.inr (.inl ⟨rfl, _, by simp, by rw [show Si.new.l = [] from rfl, lastN_nil]; exact L10.av_new (by rw [show w.heap.size + 1 = (w.alloc _).heap.size from (by simp : w.heap.size + 1 = (w.alloc _).heap.size)]; exact heap_alloc_new _ _) (by omega) (by omega), fun i => Iff.rfl⟩)), fun i h => by cases h; omega, (After.rfl.alloc _).alloc _⟩
  · have hk' : k = 3 := by omega
    subst hk'
    have H := hideIt (fun W => L11.irNew_ok W n hn)
    have HN := hideIt hn
    clear hk hn
    go_enter Try.func24, Try.ntmps24
    go_wp2_with (go_at_call 39; refine (H.out _).mono ?_; rintro e w1 ⟨rfl, rfl⟩)
    go_ret2
    exact ⟨_, One (w.heap.size + 1), rfl, .inr (.inr (.inr (.inl ⟨rfl, _, by simp, .inl ⟨rfl, ⟨by rw [show w.heap.size + 1 = (w.alloc _).heap.size from (by simp : w.heap.size + 1 = (w.alloc _).heap.size)]; exact heap_alloc_new _ _, HN.out⟩, fun i => Iff.rfl⟩⟩))), fun i h => by cases h; omega, (After.rfl.alloc _).alloc _⟩
  · have hk' : k = 4 := by omega
    subst hk'
    have H := hideIt (fun W => newPulse_ok W n hn)
    have HN := hideIt hn
    clear hk hn
    go_enter Try.func24, Try.ntmps24
    go_wp2_with (go_at_call 40; refine (H.out _).mono ?_; rintro e w1 ⟨rfl, rfl⟩)
    go_ret2
    have hm := HN.out
    unfold L12.May at hm
    generalize hW : w.alloc _ = W
    have hs : W.heap.size = w.heap.size + 1 := by rw [← hW]; simp
    have hA : After w W := by rw [← hW]; exact After.rfl.alloc _
    rw [← hs]
    have h1 : ((W.alloc (.cells #[.int .i64 (n : Int), .slice none 0 0] 115)).alloc (.cells #[Ptr W.heap.size, .int .i64 0] 112)).heap[W.heap.size]? = some (.cells #[.int .i64 (n : Int), .slice none 0 0] 115 (0, 0)) := by
      rw [Below.heap_alloc _ _ _ (by simp)]; exact heap_alloc_new _ _
    have h2 : ((W.alloc (.cells #[.int .i64 (n : Int), .slice none 0 0] 115)).alloc (.cells #[Ptr W.heap.size, .int .i64 0] 112)).heap[W.heap.size + 1]? = some (.cells #[Ptr W.heap.size, .int .i64 0] 112 (0, 0)) := by
      rw [show W.heap.size + 1 = (W.alloc (.cells #[.int .i64 (n : Int), .slice none 0 0] 115)).heap.size by simp]; exact heap_alloc_new _ _
    refine ⟨_, fun i => i = W.heap.size + 1 ∨ i = W.heap.size, rfl, .inr (.inr (.inr (.inr ⟨rfl, W.heap.size + 1, W.heap.size, W.heap.size + 2, .slice none 0 0, .int .i64 0, rfl, h2, ?_, by omega, by omega, by simp, fun i => ?_⟩))), fun i h => by omega, (hA.alloc _).alloc _⟩
    · rw [show Si.new.l = [] from rfl, lastN_nil]
      exact L12.bt_new (by omega) h1 (by omega) (by omega)
    · simp [Value.ownBlock]
theorem insideOf_no (w : World) (k n st : Int) (h : ¬ MayK k n) : Calls Try.prog 24 #[.agg #[.int .i64 k, .int .i64 n, .int .i64 st]] w fun e w' => (∃ v, e = .returned (.tuple #[v, .int .i64 2])) ∧ After w w' := by
  unfold MayK at h
  rcases (by omega : k = 0 ∨ k = 1 ∨ k = 2 ∨ k = 3 ∨ k = 4 ∨ (k ≠ 0 ∧ k ≠ 1 ∧ k ≠ 2 ∧ k ≠ 3 ∧ k ≠ 4)) with rfl | rfl | rfl | rfl | rfl | ⟨h0, h1, h2, h3, h4⟩
  · have hn : n ≠ 0 := fun e => h (.inl ⟨rfl, e⟩)
    have H := hideIt (fun W => newPlain_no W n hn)
    clear h hn
    go_enter Try.func24, Try.ntmps24
    go_wp2_with (go_at_call 36; refine (H.out _).mono ?_; rintro e w1 ⟨rfl, ha⟩)
    go_ret2
    exact ⟨⟨_, rfl⟩, (After.rfl.alloc _).trans ha⟩
  · have hn : ¬ L9.May n := fun e => h (.inr (.inl ⟨rfl, e⟩))
    have H := hideIt (fun W => L9.mdNew_no W n hn)
    clear h hn
    go_enter Try.func24, Try.ntmps24
    go_wp2_with (go_at_call 37; refine (H.out _).mono ?_; rintro e w1 ⟨rfl, rfl⟩)
    go_ret2
    exact ⟨⟨_, rfl⟩, After.rfl.alloc _⟩
  · have hn : ¬ L10.May n := fun e => h (.inr (.inr (.inl ⟨rfl, e⟩)))
    have H := hideIt (fun W => L10.avNew_no W n hn)
    clear h hn
    go_enter Try.func24, Try.ntmps24
    go_wp2_with (go_at_call 38; refine (H.out _).mono ?_; rintro e w1 ⟨rfl, rfl⟩)
    go_ret2
    exact ⟨⟨_, rfl⟩, After.rfl.alloc _⟩
  · have hn : ¬ L11.May n := fun e => h (.inr (.inr (.inr (.inl ⟨rfl, e⟩))))
    have H := hideIt (fun W => L11.irNew_no W n hn)
    clear h hn
    go_enter Try.func24, Try.ntmps24
    go_wp2_with (go_at_call 39; refine (H.out _).mono ?_; rintro e w1 ⟨rfl, rfl⟩)
    go_ret2
    exact ⟨⟨_, rfl⟩, After.rfl.alloc _⟩
  · have hn : ¬ L12.May n := fun e => h (.inr (.inr (.inr (.inr ⟨rfl, e⟩))))
    have H := hideIt (fun W => newPulse_no W n hn)
    clear h hn
    go_enter Try.func24, Try.ntmps24
    go_wp2_with (go_at_call 40; refine (H.out _).mono ?_; rintro e w1 ⟨⟨v, rfl⟩, ha⟩)
    go_ret2
    exact ⟨⟨_, rfl⟩, (After.rfl.alloc _).trans ha⟩
  · clear h
    go_enter Try.func24, Try.ntmps24
    go_wp2
    go_ret2
    exact ⟨⟨_, rfl⟩, After.rfl.alloc _⟩
end Go.Proofs.Ytgapnimicaopcaa
