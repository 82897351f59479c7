/-
  A number is pushed into what is inside: beats; a task takes a number.
-/
import Derived.Test.YtgapnimicaopcaaFiB
namespace Go.Proofs.Ytgapnimicaopcaa
open Go.RowKit
set_option maxRecDepth 8000
theorem ris_no {s : List Int} (h : L12.ris s = false) : L12.rv s = 0 := by
  unfold L12.ris at h; unfold L12.rv
  have := of_decide_eq_false h
  rw [if_pos (by omega)]
/-- What a pulse answers for an error. -/
def pulE (b : Bool) : Int := if b = true then 0 else 8
theorem pulseRate {w : World} {q p B n : Nat} {s : List Int} {u T : Value} (hq : w.heap[q]? = some (.cells #[Ptr p, T] 112 (0, 0))) (x : L12.BtX w p B n s u) (v : Int) (hv : ¬ 0 < v) : Calls Try.prog 49 #[Ptr q, .int .i64 v] w fun e w' => e = .returned (.tuple #[.int .i64 (L12.rv s), .int .i64 (pulE (L12.ris s))]) ∧ After w w' := by
  have H := hideIt (L12.btRate_any x)
  obtain ⟨c0, c1, _, _⟩ := two_at hq
  clear x
  rcases hb : L12.ris s with _ | _
  · rw [ris_no hb, hb] at H
    rw [ris_no hb]
    clear hb
    go_enter Try.func49, Try.ntmps49
    go_wp2_with (go_at_call 51; refine H.out.mono ?_; rintro e w' ⟨rfl, hd⟩)
    go_ret2
    exact ⟨rfl, hd.after⟩
  · rw [hb] at H
    clear hb
    go_enter Try.func49, Try.ntmps49
    go_wp2_with (go_at_call 51; refine H.out.mono ?_; rintro e w' ⟨rfl, hd⟩)
    go_ret2
    exact ⟨rfl, hd.after⟩
theorem Dr_after (w : World) (m : Nat) : After w (w.drewN m) := After.rfl.draws m
theorem pulseBeat {w : World} {q p B n : Nat} {L : List Int} {u : Value} {t : Int} (hq : w.heap[q]? = some (.cells #[Ptr p, .int .i64 t] 112 (0, 0))) (x : L12.BtX w p B n (lastN n L) u) (hne : q ≠ p) (hB : B ≤ w.heap.size) (v : Int) (hv : 0 < v) : Calls Try.prog 49 #[Ptr q, .int .i64 v] w fun e w' => e = .returned (.tuple #[.int .i64 (L12.rv (lastN n (L12.nxt L t))), .int .i64 (pulE (L12.ris (lastN n (L12.nxt L t))))]) ∧ But (One p) w w' ∧ ∃ u', L12.BtX w' p B n (lastN n (L12.nxt L t)) u' ∧ (u' = u ∨ ∀ k, u'.ownBlock = some k → w.heap.size ≤ k) := by
  have H := hideIt (fun W (a : After w W) => L12.btBeat_any (x.after a) (Nat.le_trans hB a.size) t)
  obtain ⟨hlt, c0, c1, _, _⟩ := two_at hq
  have HC := hideIt (fun W (b : But (One p) w W) => b.cell hlt hne 0)
  clear x hB
  generalize L12.nxt L t = L' at *
  have HR : Hid (∀ W u', L12.BtX W p B n (lastN n L') u' → Calls Try.prog 51 #[Ptr p] W fun e w' => e = .returned (.tuple #[.int .i64 (L12.rv (lastN n L')), .bool (L12.ris (lastN n L'))]) ∧ L12.Dr W w') := fun W u' x => L12.btRate_any x
  have HZ := hideIt (ris_no (s := lastN n L'))
  generalize L12.rv (lastN n L') = R at *
  generalize L12.ris (lastN n L') = E at *
  cases E
  · have hz := HZ.out rfl
    subst hz
    clear HZ
    go_enter Try.func49, Try.ntmps49
    go_wp2_with fail
    go_region_with (go_at_call 50; refine (H.out _ (After.rfl.draws _)).mono ?_; rintro e w1 ⟨rfl, hb, u', x', hu'⟩)
    all_goals
      have hb' : But (One p) w w1 := (After.rfl.draws _).but.trans hb
      have d0 := (HC.out w1 hb').trans c0
      have H2 := hideIt (HR.out _ _ x')
      have HX := hideIt (And.intro hb' (And.intro x' hu'))
      clear hb hb' x' hu' c0 c1 HC H HR
      go_wp2_with (go_at_call 51; refine H2.out.mono ?_; rintro e w' ⟨rfl, hd⟩)
      go_ret2
      obtain ⟨hb, x, hu⟩ := HX.out
      exact ⟨rfl, hb.then (T := Non) hd.after (fun _ _ t => t.elim), u', x.after hd.after, hu⟩
  · clear HZ
    go_enter Try.func49, Try.ntmps49
    go_wp2_with fail
    go_region_with (go_at_call 50; refine (H.out _ (After.rfl.draws _)).mono ?_; rintro e w1 ⟨rfl, hb, u', x', hu'⟩)
    all_goals
      have hb' : But (One p) w w1 := (After.rfl.draws _).but.trans hb
      have d0 := (HC.out w1 hb').trans c0
      have H2 := hideIt (HR.out _ _ x')
      have HX := hideIt (And.intro hb' (And.intro x' hu'))
      clear hb hb' x' hu' c0 c1 HC H HR
      go_wp2_with (go_at_call 51; refine H2.out.mono ?_; rintro e w' ⟨rfl, hd⟩)
      go_ret2
      obtain ⟨hb, x, hu⟩ := HX.out
      exact ⟨rfl, hb.then (T := Non) hd.after (fun _ _ t => t.elim), u', x.after hd.after, hu⟩
end Go.Proofs.Ytgapnimicaopcaa
