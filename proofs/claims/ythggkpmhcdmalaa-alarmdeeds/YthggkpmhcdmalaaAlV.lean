/-
  Both alarms side by side, or both none: one deed of both.
-/
import Derived.Test.YthggkpmhcdmalaaAlU
import Derived.Test.YthggkpmhcdmalaaAlR
import Derived.Test.YthggkpmhcdmalaaAlI
namespace Go.Proofs.Ythggkpmhcdmalaa
open Go.RowKit
set_option maxRecDepth 8000
def Rg (lo hi : Nat) : Nat → Prop := fun k => lo ≤ k ∧ k < hi
/-- Both are none, or stand the same; their blocks lie from lo on, ahead of hi. -/
def Bo (W : World) (lo hi : Nat) (va vb : Value) : Prop := (va = .pointer none ∧ vb = .pointer none) ∨ ∃ p q s x, va = Ptr p ∧ vb = Ptr q ∧ Al W p s x ∧ Rl W q s x ∧ p ≠ q ∧ lo ≤ p ∧ p < hi ∧ lo ≤ q ∧ q < hi
theorem Bo.but {S : Nat → Prop} {W W' : World} {lo hi : Nat} {va vb : Value} (h : Bo W lo hi va vb) (b : But S W W') (hn : ∀ k, lo ≤ k → k < hi → ¬ S k) : Bo W' lo hi va vb := by
  rcases h with h | ⟨p, q, s, x, e1, e2, a, r, ne, h1, h2, h3, h4⟩
  · exact .inl h
  · exact .inr ⟨p, q, s, x, e1, e2, a.but b (hn p h1 h2), r.but b (hn q h3 h4), ne, h1, h2, h3, h4⟩
theorem Bo.after {W W' : World} {lo hi : Nat} {va vb : Value} (h : Bo W lo hi va vb) (b : After W W') : Bo W' lo hi va vb := h.but b (fun _ _ _ t => t)
theorem one_rg {lo hi p : Nat} {W W' : World} (b : But (One p) W W') (h1 : lo ≤ p) (h2 : p < hi) : But (Rg lo hi) W W' := b.mono (fun i _ t => by have e : i = p := t; subst e; exact ⟨h1, h2⟩)
theorem Bo.pause {W : World} {lo hi : Nat} {va vb : Value} (h : Bo W lo hi va vb) (n : Int) : ∃ (E : Int) (P1 P2 : World → Prop), (∀ V, After W V → Calls Try.prog 22 #[va, .int .i64 n] V fun e w' => e = .returned (.int .i64 E) ∧ P1 w') ∧ (∀ V, P1 V → Calls Try.prog 30 #[vb, .int .i64 n] V fun e w' => e = .returned (.int .i64 E) ∧ P2 w') ∧ (∀ V, P1 V → But (Rg lo hi) W V) ∧ (∀ V, P2 V → But (Rg lo hi) W V ∧ Bo V lo hi va vb) := by
  rcases h with ⟨rfl, rfl⟩ | ⟨p, q, s, x, rfl, rfl, a, r, ne, h1, h2, h3, h4⟩
  · refine ⟨1, After W, After W, fun V av => (pause_none (none_nil V) n).mono (fun e w' h => ⟨h.1, av.trans h.2⟩), fun V av => (refPause_nil V n).mono (fun e w' h => ⟨h.1, by rw [h.2]; exact av⟩), fun V h => h.but, fun V h => ⟨h.but, .inl ⟨rfl, rfl⟩⟩⟩
  · refine ⟨psE n, fun V => Al V p s (psS x n) ∧ Rl V q s x ∧ But (Rg lo hi) W V, fun V => Al V p s (psS x n) ∧ Rl V q s (psS x n) ∧ But (Rg lo hi) W V, fun V av => (pause_any (a.after av) n).mono (fun e w' h => ⟨h.1, h.2.1, (r.after av).but h.2.2 (fun t => ne (show q = p from t).symm), av.but.trans (one_rg h.2.2 h1 h2)⟩), fun V hv => (refPause_any hv.2.1 n).mono (fun e w' h => ⟨h.1, hv.1.but h.2.2 (fun t => ne t), h.2.1, hv.2.2.trans (one_rg h.2.2 h3 h4)⟩), fun V hv => hv.2.2, fun V hv => ⟨hv.2.2, .inr ⟨p, q, s, psS x n, rfl, rfl, hv.1, hv.2.1, ne, h1, h2, h3, h4⟩⟩⟩
theorem Bo.ack {W : World} {lo hi : Nat} {va vb : Value} (h : Bo W lo hi va vb) : ∃ (E : Int) (P1 P2 : World → Prop), (∀ V, After W V → Calls Try.prog 21 #[va] V fun e w' => e = .returned (.int .i64 E) ∧ P1 w') ∧ (∀ V, P1 V → Calls Try.prog 29 #[vb] V fun e w' => e = .returned (.int .i64 E) ∧ P2 w') ∧ (∀ V, P1 V → But (Rg lo hi) W V) ∧ (∀ V, P2 V → But (Rg lo hi) W V ∧ Bo V lo hi va vb) := by
  rcases h with ⟨rfl, rfl⟩ | ⟨p, q, s, x, rfl, rfl, a, r, ne, h1, h2, h3, h4⟩
  · refine ⟨1, After W, After W, fun V av => (ack_none (none_nil V)).mono (fun e w' h => ⟨h.1, av.trans h.2⟩), fun V av => (refAck_nil V).mono (fun e w' h => ⟨h.1, by rw [h.2]; exact av⟩), fun V h => h.but, fun V h => ⟨h.but, .inl ⟨rfl, rfl⟩⟩⟩
  · refine ⟨akE x, fun V => Al V p s (akS x) ∧ Rl V q s x ∧ But (Rg lo hi) W V, fun V => Al V p s (akS x) ∧ Rl V q s (akS x) ∧ But (Rg lo hi) W V, fun V av => (ack_any (a.after av)).mono (fun e w' h => ⟨h.1, h.2.1, (r.after av).but h.2.2 (fun t => ne (show q = p from t).symm), av.but.trans (one_rg h.2.2 h1 h2)⟩), fun V hv => (refAck_any hv.2.1).mono (fun e w' h => ⟨h.1, hv.1.but h.2.2 (fun t => ne t), h.2.1, hv.2.2.trans (one_rg h.2.2 h3 h4)⟩), fun V hv => hv.2.2, fun V hv => ⟨hv.2.2, .inr ⟨p, q, s, akS x, rfl, rfl, hv.1, hv.2.1, ne, h1, h2, h3, h4⟩⟩⟩
theorem Bo.step {W : World} {lo hi : Nat} {va vb : Value} (h : Bo W lo hi va vb) (_hh : hi ≤ W.heap.size) (act : Bool) : ∃ (E : Int) (ev : List Int) (P1 P2 : World → Prop), ev.length ≤ 2 ∧
    (∀ V, After W V → Calls Try.prog 20 #[va, .bool act] V fun e w' => ∃ a c, e = .returned (.tuple #[.slice a ev.length c, .int .i64 E]) ∧ IRow w' a ev.length ev ∧ (∀ z, a = some z → W.heap.size ≤ z.block) ∧ P1 w') ∧
    (∀ V, P1 V → Calls Try.prog 28 #[vb, .bool act] V fun e w' => ∃ a c, e = .returned (.tuple #[.slice a ev.length c, .int .i64 E]) ∧ IRow w' a ev.length ev ∧ But (Rg lo hi) V w' ∧ P2 w') ∧ (∀ V, P1 V → But (Rg lo hi) W V) ∧ (∀ V, P2 V → But (Rg lo hi) W V ∧ Bo V lo hi va vb) := by
  rcases h with ⟨rfl, rfl⟩ | ⟨p, q, s, x, rfl, rfl, a, r, ne, h1, h2, h3, h4⟩
  · refine ⟨1, [], After W, After W, by simp, fun V av => (step_none (none_nil V) act).mono (fun e w' h => ⟨none, 0, h.1, IRow.nil _ _, (fun z hz => by cases hz), av.trans h.2⟩), fun V av => (refStep_nil V act).mono (fun e w' h => ⟨none, 0, h.1, IRow.nil _ _, by rw [h.2]; exact But.rfl, by rw [h.2]; exact av⟩), fun V h => h.but, fun V h => ⟨h.but, .inl ⟨rfl, rfl⟩⟩⟩
  · refine ⟨0, stE s x act, fun V => Al V p s (stS s x act) ∧ Rl V q s x ∧ But (Rg lo hi) W V, fun V => Al V p s (stS s x act) ∧ Rl V q s (stS s x act) ∧ But (Rg lo hi) W V, ?_, fun V av => ?_, fun V hv => ?_, fun V hv => hv.2.2, fun V hv => ⟨hv.2.2, .inr ⟨p, q, s, stS s x act, rfl, rfl, hv.1, hv.2.1, ne, h1, h2, h3, h4⟩⟩⟩
    · unfold stE
      rw [List.length_append]
      have := evs_len (wtE x)
      have := evs_len (mvE s (wtS x) act)
      omega
    · refine (step_any (a.after av) act).mono ?_
      rintro e w' ⟨v, rfl, own, y, bt⟩
      obtain ⟨aa, c, rfl, ir, -, -, hb⟩ := own_irow own
      exact ⟨aa, c, rfl, ir, fun z hz => Nat.le_trans av.size (hb z hz).2.2, y, (r.after av).but bt (fun t => ne (show q = p from t).symm), av.but.trans (one_rg bt h1 h2)⟩
    · refine (refStep_any hv.2.1 act).mono ?_
      rintro e w' ⟨v, rfl, own, y, bt⟩
      obtain ⟨aa, c, rfl, ir, -, -, -⟩ := own_irow own
      exact ⟨aa, c, rfl, ir, one_rg bt h3 h4, hv.1.but bt (fun t => ne t), y, hv.2.2.trans (one_rg bt h3 h4)⟩
theorem Bo.state {W : World} {lo hi : Nat} {va vb : Value} (h : Bo W lo hi va vb) : ∃ z : As, (∀ V, After W V → Calls Try.prog 17 #[va] V fun e w' => e = .returned z.v ∧ After V w') ∧ (∀ V, After W V → Calls Try.prog 31 #[vb] V fun e w' => e = .returned z.v ∧ After V w') := by
  rcases h with ⟨rfl, rfl⟩ | ⟨p, q, s, x, rfl, rfl, a, r, ne, h1, h2, h3, h4⟩
  · exact ⟨As.zero, fun V _ => state_none (none_nil V), fun V _ => refNow_nil V⟩
  · exact ⟨x, fun V av => state_any (a.after av), fun V av => refNow_any (r.after av)⟩
end Go.Proofs.Ythggkpmhcdmalaa
