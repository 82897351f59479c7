/-
  What was packed is unpacked as it was, what was unpacked is packed into the same bytes; cut, and with more behind.
-/
import Derived.Test.YtigiakhdaaoljaaPack
import Derived.Test.YtigiakhdaaoljaaUnpack
namespace Go.Proofs.Ytigiakhdaaoljaa
open Go.RowKit
theorem sameM_self (M : Msg) : sameM M M = true := decide_eq_true ⟨rfl, rfl, rfl, rfl, rfl, rfl⟩
theorem once_pack {zs rest : List Int} {X : Msg} (hz : Bs zs) (h : unpackF zs = .ok (X, rest)) : packAll X = .ok ((), zs) ∧ X.objs.length ≤ 16 ∧ X.obs.length ≤ 64 := by
  obtain ⟨_, e, hk, h1, h2⟩ := msg_once hz h
  refine ⟨?_, h1, h2⟩
  unfold packAll
  rw [if_neg (by rintro ⟨a, b⟩; rcases hk with h | h; rw [h] at a; cases a; rw [h] at b; cases b), if_neg (by omega)]
  unfold packF
  rw [thn_ok e, if_pos (sameM_self X)]
theorem pack_inv {M : Msg} {u : Unit} {ys : List Int} (h : packAll M = .ok (u, ys)) : msgF true M [] = .ok (M, ys) ∧ M.objs.length ≤ 16 ∧ M.obs.length ≤ 64 := by
  unfold packAll at h
  split at h
  · cases h
  split at h
  · cases h
  · rename_i hl
    obtain ⟨X, zs, e, h⟩ := thn_inv h
    split at h
    · rename_i hs
      cases h
      obtain ⟨_, hX, _⟩ := msg_back e M
      rw [hX] at hs
      have := keep_same hs rfl
      rw [this] at hX
      rw [hX] at e
      exact ⟨e, by omega, by omega⟩
    · cases h
theorem back_unpack {M : Msg} {u : Unit} {ys : List Int} (h : packAll M = .ok (u, ys)) : unpackF ys = .ok (M, []) ∧ (∀ p s, p ++ s = ys → s ≠ [] → unpackF p = .error 3) ∧ (∀ s, s ≠ [] → unpackF (ys ++ s) = .error 4) := by
  obtain ⟨e, _⟩ := pack_inv h
  obtain ⟨_, _, h1, h2, h3⟩ := msg_back e (Msg.zero 0)
  exact ⟨h1, h2, h3⟩
end Go.Proofs.Ytigiakhdaaoljaa
