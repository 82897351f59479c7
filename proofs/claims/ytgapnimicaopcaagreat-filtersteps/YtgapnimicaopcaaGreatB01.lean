/-
  Laid together: FiA, FiB, FiC, FiD, FiE, FiF.
-/
import Derived.Test.YtgapnimicaopcaaGreatFiP
import Derived.Test.YtgapnimicaopcaaGreatMdC
import Derived.Test.YtgapnimicaopcaaGreatAvC
import Derived.Test.YtgapnimicaopcaaGreatIrB
import Derived.Test.YtgapnimicaopcaaGreatBtS
import Derived.Test.YtgapnimicaopcaaGreatLpA
import Derived.Deep.RegionWith
/-
  What is inside a filter, in memory: where it lies, of which blocks it is, how it begins.
-/
namespace Go.Proofs.YtgapnimicaopcaaGreat
open Go.RowKit
set_option maxRecDepth 8000
/-- Which kinds and numbers there may be. -/
def MayK (k n : Int) : Prop := k = 0 ∧ n = 0 ∨ k = 1 ∧ L9.May n ∨ k = 2 ∧ L10.May n ∨ k = 3 ∧ L11.May n ∨ k = 4 ∧ L12.May n
/-- An inside of kind k and number n, of the blocks of S, is the interface's value v. -/
def Ins (w : World) (k n : Nat) (S : Nat → Prop) (s : Si) (v : Value) : Prop :=
  (k = 0 ∧ v = .iface 77 (.agg #[]) ∧ (∀ i, ¬ S i))
  ∨ (k = 1 ∧ ∃ p, v = .iface 80 (Ptr p) ∧ L9.Md w p n (lastN n s.l) ∧ (∀ i, S i ↔ i = p))
  ∨ (k = 2 ∧ ∃ p, v = .iface 83 (Ptr p) ∧ L10.Av w p n (lastN n s.l) ∧ (∀ i, S i ↔ i = p))
  ∨ (k = 3 ∧ ∃ p, v = .iface 86 (Ptr p) ∧ ((s.o = none ∧ L11.SlN w p n ∧ (∀ i, S i ↔ i = p)) ∨ ∃ g y, s.o = some y ∧ L11.SlY w p g n y ∧ (∀ i, S i ↔ i = p ∨ i = g)))
  ∨ (k = 4 ∧ ∃ q p B u T, v = .iface 89 (Ptr q) ∧ w.heap[q]? = some (.cells #[Ptr p, T] 123 (0, 0)) ∧ L12.BtX w p B n (lastN n s.l) u ∧ q ≠ p ∧ q < B ∧ B ≤ w.heap.size ∧ (∀ i, S i ↔ i = q ∨ i = p ∨ u.ownBlock = some i))
theorem Ins.lt {w : World} {k n : Nat} {S : Nat → Prop} {s : Si} {v : Value} (x : Ins w k n S s v) : ∀ i, S i → i < w.heap.size := by
  intro i hi
  rcases x with ⟨_, _, hs⟩ | ⟨_, p, _, m, hs⟩ | ⟨_, p, _, m, hs⟩ | ⟨_, p, _, ⟨_, m, hs⟩ | ⟨g, y, _, m, hs⟩⟩ | ⟨_, q, p, B, u, T, _, hq, m, _, _, _, hs⟩
  · exact (hs i hi).elim
  · rw [(hs i).1 hi]; exact m.lt
  · rw [(hs i).1 hi]; exact m.lt
  · rw [(hs i).1 hi]; exact blk_lt m.at0
  · rcases (hs i).1 hi with rfl | rfl
    · exact blk_lt m.at0
    · exact blk_lt m.at1
  · rcases (hs i).1 hi with rfl | rfl | h
    · exact blk_lt hq
    · exact m.lt
    · exact (own_lt m.own h).2
theorem Ins.but {T : Nat → Prop} {w w' : World} {k n : Nat} {S : Nat → Prop} {s : Si} {v : Value} (x : Ins w k n S s v) (b : But T w w') (hn : ∀ i, S i → ¬ T i) : Ins w' k n S s v := by
  rcases x with ⟨h, hv, hs⟩ | ⟨h, p, hv, m, hs⟩ | ⟨h, p, hv, m, hs⟩ | ⟨h, p, hv, ⟨ho, m, hs⟩ | ⟨g, y, ho, m, hs⟩⟩ | ⟨h, q, p, B, u, t, hv, hq, m, h1, h2, h3, hs⟩
  · exact .inl ⟨h, hv, hs⟩
  · exact .inr (.inl ⟨h, p, hv, m.but b (hn p ((hs p).2 rfl)), hs⟩)
  · exact .inr (.inr (.inl ⟨h, p, hv, m.but b (hn p ((hs p).2 rfl)), hs⟩))
  · exact .inr (.inr (.inr (.inl ⟨h, p, hv, .inl ⟨ho, m.but b (hn p ((hs p).2 rfl)), hs⟩⟩)))
  · exact .inr (.inr (.inr (.inl ⟨h, p, hv, .inr ⟨g, y, ho, m.but b (hn p ((hs p).2 (.inl rfl))) (hn g ((hs g).2 (.inr rfl))), hs⟩⟩)))
  · exact .inr (.inr (.inr (.inr ⟨h, q, p, B, u, t, hv, (b.block q (blk_lt hq) (hn q ((hs q).2 (.inl rfl)))).trans hq, m.but b (hn p ((hs p).2 (.inr (.inl rfl)))) (fun i hi => hn i ((hs i).2 (.inr (.inr hi)))), h1, h2, Nat.le_trans h3 b.size, hs⟩)))
theorem Ins.after {w w' : World} {k n : Nat} {S : Nat → Prop} {s : Si} {v : Value} (x : Ins w k n S s v) (a : After w w') : Ins w' k n S s v := x.but a (fun _ _ t => t)
theorem newPlain_ok (w : World) : Calls Tryz.prog 29 #[.int .i64 0] w fun e w' => e = .returned (.tuple #[.agg #[], .int .i64 0]) ∧ After w w' := by
  go_enter Tryz.func29, Tryz.ntmps29
  go_wp2
  exact bodyPost_ret (v := .tuple #[.agg #[], .int .i64 0]) (by simp [results, Tryz.results29, go_sem]) rfl ⟨rfl, After.rfl.alloc _⟩
theorem newPlain_no (w : World) (n : Int) (h : n ≠ 0) : Calls Tryz.prog 29 #[.int .i64 n] w fun e w' => e = .returned (.tuple #[.agg #[], .int .i64 2]) ∧ After w w' := by
  go_enter Tryz.func29, Tryz.ntmps29
  go_wp2
  exact bodyPost_ret (v := .tuple #[.agg #[], .int .i64 2]) (by simp [results, Tryz.results29, go_sem]) rfl ⟨rfl, After.rfl.alloc _⟩
theorem plainPush_any (w : World) (v : Int) : Calls Tryz.prog 89 #[.agg #[], .int .i64 v] w fun e w' => e = .returned (.tuple #[.int .i64 v, .int .i64 0]) ∧ After w w' := by
  go_enter Tryz.func89, Tryz.ntmps89
  go_wp2
  go_ret2
  exact ⟨rfl, After.rfl.alloc _⟩
theorem newPulse_ok (w : World) (n : Int) (h : L12.May n) : Calls Tryz.prog 33 #[.int .i64 n] w fun e w' => e = .returned (.tuple #[Ptr (w.heap.size + 1), .int .i64 0]) ∧ w' = (w.alloc (.cells #[.int .i64 n, .slice none 0 0] 137)).alloc (.cells #[Ptr w.heap.size, .int .i64 0] 123) := by
  have H := hideIt (L12.btNew_ok w n h)
  clear h
  go_enter Tryz.func33, Tryz.ntmps33
  go_wp2_with (go_at_call 51; refine H.out.mono ?_; rintro e w' ⟨rfl, rfl⟩)
  go_ret2
  exact ⟨by simp, rfl⟩
theorem newPulse_no (w : World) (n : Int) (h : ¬ L12.May n) : Calls Tryz.prog 33 #[.int .i64 n] w fun e w' => (∃ v, e = .returned (.tuple #[v, .int .i64 2])) ∧ After w w' := by
  have H := hideIt (L12.btNew_no w n h)
  clear h
  go_enter Tryz.func33, Tryz.ntmps33
  go_wp2_with (go_at_call 51; refine H.out.mono ?_; rintro e w' ⟨rfl, rfl⟩)
  go_ret2
  exact ⟨⟨_, rfl⟩, After.rfl.alloc _⟩
end Go.Proofs.YtgapnimicaopcaaGreat
/-
  What is inside a filter begins; a number is pushed into it.
-/
namespace Go.Proofs.YtgapnimicaopcaaGreat
open Go.RowKit
set_option maxRecDepth 8000
theorem lastN_nil (n : Nat) : lastN n [] = [] := by simp [lastN]
theorem insideOf_ok (w : World) (k n : Nat) (st : Int) (h : MayK k n) : Calls Tryz.prog 12 #[.agg #[.int .i64 k, .int .i64 n, .int .i64 st]] w fun e w' => ∃ v S, e = .returned (.tuple #[v, .int .i64 0]) ∧ Ins w' k n S Si.new v ∧ (∀ i, S i → w.heap.size ≤ i) ∧ After w w' := by
  rcases h with ⟨hk, hn⟩ | ⟨hk, hn⟩ | ⟨hk, hn⟩ | ⟨hk, hn⟩ | ⟨hk, hn⟩
  · have hk' : k = 0 := by omega
    have hn' : n = 0 := by omega
    subst hk' hn'
    clear hk hn
    go_enter Tryz.func12, Tryz.ntmps12
    go_wp2_with (go_at_call 29; refine (newPlain_ok _).mono ?_; rintro e w1 ⟨rfl, ha⟩)
    go_ret2
    exact ⟨_, Non, rfl, .inl ⟨rfl, rfl, fun i h => h⟩, fun i h => h.elim, (After.rfl.alloc _).trans ha⟩
  · have hk' : k = 1 := by omega
    subst hk'
    have H := hideIt (fun W => L9.mdNew_ok W n hn)
    have HN := hideIt hn
    clear hk hn
    go_enter Tryz.func12, Tryz.ntmps12
    go_wp2_with (go_at_call 30; refine (H.out _).mono ?_; rintro e w1 ⟨rfl, rfl⟩)
    go_ret2
    have hm := HN.out
    unfold L9.May at hm
    exact ⟨_, One (w.heap.size + 1), rfl, .inr (.inl ⟨rfl, _, by simp, by rw [show Si.new.l = [] from rfl, lastN_nil]; exact L9.md_new (by rw [show w.heap.size + 1 = (w.alloc _).heap.size from (by simp : w.heap.size + 1 = (w.alloc _).heap.size)]; exact heap_alloc_new _ _) (by omega) (by omega), fun i => Iff.rfl⟩), fun i h => by cases h; omega, (After.rfl.alloc _).alloc _⟩
  · have hk' : k = 2 := by omega
    subst hk'
    have H := hideIt (fun W => L10.avNew_ok W n hn)
    have HN := hideIt hn
    clear hk hn
    go_enter Tryz.func12, Tryz.ntmps12
    go_wp2_with (go_at_call 31; refine (H.out _).mono ?_; rintro e w1 ⟨rfl, rfl⟩)
    go_ret2
    have hm := HN.out
    unfold L10.May at hm
    exact ⟨_, One (w.heap.size + 1), rfl, .inr (.inr (.inl ⟨rfl, _, by simp, by rw [show Si.new.l = [] from rfl, lastN_nil]; exact L10.av_new (by rw [show w.heap.size + 1 = (w.alloc _).heap.size from (by simp : w.heap.size + 1 = (w.alloc _).heap.size)]; exact heap_alloc_new _ _) (by omega) (by omega), fun i => Iff.rfl⟩)), fun i h => by cases h; omega, (After.rfl.alloc _).alloc _⟩
  · have hk' : k = 3 := by omega
    subst hk'
    have H := hideIt (fun W => L11.irNew_ok W n hn)
    have HN := hideIt hn
    clear hk hn
    go_enter Tryz.func12, Tryz.ntmps12
    go_wp2_with (go_at_call 32; refine (H.out _).mono ?_; rintro e w1 ⟨rfl, rfl⟩)
    go_ret2
    exact ⟨_, One (w.heap.size + 1), rfl, .inr (.inr (.inr (.inl ⟨rfl, _, by simp, .inl ⟨rfl, ⟨by rw [show w.heap.size + 1 = (w.alloc _).heap.size from (by simp : w.heap.size + 1 = (w.alloc _).heap.size)]; exact heap_alloc_new _ _, HN.out⟩, fun i => Iff.rfl⟩⟩))), fun i h => by cases h; omega, (After.rfl.alloc _).alloc _⟩
  · have hk' : k = 4 := by omega
    subst hk'
    have H := hideIt (fun W => newPulse_ok W n hn)
    have HN := hideIt hn
    clear hk hn
    go_enter Tryz.func12, Tryz.ntmps12
    go_wp2_with (go_at_call 33; refine (H.out _).mono ?_; rintro e w1 ⟨rfl, rfl⟩)
    go_ret2
    have hm := HN.out
    unfold L12.May at hm
    generalize hW : w.alloc _ = W
    have hs : W.heap.size = w.heap.size + 1 := by rw [← hW]; simp
    have hA : After w W := by rw [← hW]; exact After.rfl.alloc _
    rw [← hs]
    have h1 : ((W.alloc (.cells #[.int .i64 (n : Int), .slice none 0 0] 137)).alloc (.cells #[Ptr W.heap.size, .int .i64 0] 123)).heap[W.heap.size]? = some (.cells #[.int .i64 (n : Int), .slice none 0 0] 137 (0, 0)) := by
      rw [Below.heap_alloc _ _ _ (by simp)]; exact heap_alloc_new _ _
    have h2 : ((W.alloc (.cells #[.int .i64 (n : Int), .slice none 0 0] 137)).alloc (.cells #[Ptr W.heap.size, .int .i64 0] 123)).heap[W.heap.size + 1]? = some (.cells #[Ptr W.heap.size, .int .i64 0] 123 (0, 0)) := by
      rw [show W.heap.size + 1 = (W.alloc (.cells #[.int .i64 (n : Int), .slice none 0 0] 137)).heap.size by simp]; exact heap_alloc_new _ _
    refine ⟨_, fun i => i = W.heap.size + 1 ∨ i = W.heap.size, rfl, .inr (.inr (.inr (.inr ⟨rfl, W.heap.size + 1, W.heap.size, W.heap.size + 2, .slice none 0 0, .int .i64 0, rfl, h2, ?_, by omega, by omega, by simp, fun i => ?_⟩))), fun i h => by omega, (hA.alloc _).alloc _⟩
    · rw [show Si.new.l = [] from rfl, lastN_nil]
      exact L12.bt_new (by omega) h1 (by omega) (by omega)
    · simp [Value.ownBlock]
theorem insideOf_no (w : World) (k n st : Int) (h : ¬ MayK k n) : Calls Tryz.prog 12 #[.agg #[.int .i64 k, .int .i64 n, .int .i64 st]] w fun e w' => (∃ v, e = .returned (.tuple #[v, .int .i64 2])) ∧ After w w' := by
  unfold MayK at h
  rcases (by omega : k = 0 ∨ k = 1 ∨ k = 2 ∨ k = 3 ∨ k = 4 ∨ (k ≠ 0 ∧ k ≠ 1 ∧ k ≠ 2 ∧ k ≠ 3 ∧ k ≠ 4)) with rfl | rfl | rfl | rfl | rfl | ⟨h0, h1, h2, h3, h4⟩
  · have hn : n ≠ 0 := fun e => h (.inl ⟨rfl, e⟩)
    have H := hideIt (fun W => newPlain_no W n hn)
    clear h hn
    go_enter Tryz.func12, Tryz.ntmps12
    go_wp2_with (go_at_call 29; refine (H.out _).mono ?_; rintro e w1 ⟨rfl, ha⟩)
    go_ret2
    exact ⟨⟨_, rfl⟩, (After.rfl.alloc _).trans ha⟩
  · have hn : ¬ L9.May n := fun e => h (.inr (.inl ⟨rfl, e⟩))
    have H := hideIt (fun W => L9.mdNew_no W n hn)
    clear h hn
    go_enter Tryz.func12, Tryz.ntmps12
    go_wp2_with (go_at_call 30; refine (H.out _).mono ?_; rintro e w1 ⟨rfl, rfl⟩)
    go_ret2
    exact ⟨⟨_, rfl⟩, After.rfl.alloc _⟩
  · have hn : ¬ L10.May n := fun e => h (.inr (.inr (.inl ⟨rfl, e⟩)))
    have H := hideIt (fun W => L10.avNew_no W n hn)
    clear h hn
    go_enter Tryz.func12, Tryz.ntmps12
    go_wp2_with (go_at_call 31; refine (H.out _).mono ?_; rintro e w1 ⟨rfl, rfl⟩)
    go_ret2
    exact ⟨⟨_, rfl⟩, After.rfl.alloc _⟩
  · have hn : ¬ L11.May n := fun e => h (.inr (.inr (.inr (.inl ⟨rfl, e⟩))))
    have H := hideIt (fun W => L11.irNew_no W n hn)
    clear h hn
    go_enter Tryz.func12, Tryz.ntmps12
    go_wp2_with (go_at_call 32; refine (H.out _).mono ?_; rintro e w1 ⟨rfl, rfl⟩)
    go_ret2
    exact ⟨⟨_, rfl⟩, After.rfl.alloc _⟩
  · have hn : ¬ L12.May n := fun e => h (.inr (.inr (.inr (.inr ⟨rfl, e⟩))))
    have H := hideIt (fun W => newPulse_no W n hn)
    clear h hn
    go_enter Tryz.func12, Tryz.ntmps12
    go_wp2_with (go_at_call 33; refine (H.out _).mono ?_; rintro e w1 ⟨⟨v, rfl⟩, ha⟩)
    go_ret2
    exact ⟨⟨_, rfl⟩, (After.rfl.alloc _).trans ha⟩
  · clear h
    go_enter Tryz.func12, Tryz.ntmps12
    go_wp2
    go_ret2
    exact ⟨⟨_, rfl⟩, After.rfl.alloc _⟩
end Go.Proofs.YtgapnimicaopcaaGreat
/-
  A number is pushed into what is inside: beats; a task takes a number.
-/
namespace Go.Proofs.YtgapnimicaopcaaGreat
open Go.RowKit
set_option maxRecDepth 8000
theorem ris_no {s : List Int} (h : L12.ris s = false) : L12.rv s = 0 := by
  unfold L12.ris at h; unfold L12.rv
  have := of_decide_eq_false h
  rw [if_pos (by omega)]
/-- What a pulse answers for an error. -/
def pulE (b : Bool) : Int := if b = true then 0 else 8
theorem pulseRate {w : World} {q p B n : Nat} {s : List Int} {u T : Value} (hq : w.heap[q]? = some (.cells #[Ptr p, T] 123 (0, 0))) (x : L12.BtX w p B n s u) (v : Int) (hv : ¬ 0 < v) : Calls Tryz.prog 58 #[Ptr q, .int .i64 v] w fun e w' => e = .returned (.tuple #[.int .i64 (L12.rv s), .int .i64 (pulE (L12.ris s))]) ∧ After w w' := by
  have H := hideIt (L12.btRate_any x)
  obtain ⟨c0, c1, _, _⟩ := two_at hq
  clear x
  rcases hb : L12.ris s with _ | _
  · rw [ris_no hb, hb] at H
    rw [ris_no hb]
    clear hb
    go_enter Tryz.func58, Tryz.ntmps58
    go_wp2_with (go_at_call 68; refine H.out.mono ?_; rintro e w' ⟨rfl, hd⟩)
    go_ret2
    exact ⟨rfl, hd.after⟩
  · rw [hb] at H
    clear hb
    go_enter Tryz.func58, Tryz.ntmps58
    go_wp2_with (go_at_call 68; refine H.out.mono ?_; rintro e w' ⟨rfl, hd⟩)
    go_ret2
    exact ⟨rfl, hd.after⟩
theorem Dr_after (w : World) (m : Nat) : After w (w.drewN m) := After.rfl.draws m
theorem pulseBeat {w : World} {q p B n : Nat} {L : List Int} {u : Value} {t : Int} (hq : w.heap[q]? = some (.cells #[Ptr p, .int .i64 t] 123 (0, 0))) (x : L12.BtX w p B n (lastN n L) u) (hne : q ≠ p) (hB : B ≤ w.heap.size) (v : Int) (hv : 0 < v) : Calls Tryz.prog 58 #[Ptr q, .int .i64 v] w fun e w' => e = .returned (.tuple #[.int .i64 (L12.rv (lastN n (L12.nxt L t))), .int .i64 (pulE (L12.ris (lastN n (L12.nxt L t))))]) ∧ But (One p) w w' ∧ ∃ u', L12.BtX w' p B n (lastN n (L12.nxt L t)) u' ∧ (u' = u ∨ ∀ k, u'.ownBlock = some k → w.heap.size ≤ k) := by
  have H := hideIt (fun W (a : After w W) => L12.btBeat_any (x.after a) (Nat.le_trans hB a.size) t)
  obtain ⟨hlt, c0, c1, _, _⟩ := two_at hq
  have HC := hideIt (fun W (b : But (One p) w W) => b.cell hlt hne 0)
  clear x hB
  generalize L12.nxt L t = L' at *
  have HR : Hid (∀ W u', L12.BtX W p B n (lastN n L') u' → Calls Tryz.prog 68 #[Ptr p] W fun e w' => e = .returned (.tuple #[.int .i64 (L12.rv (lastN n L')), .bool (L12.ris (lastN n L'))]) ∧ L12.Dr W w') := fun W u' x => L12.btRate_any x
  have HZ := hideIt (ris_no (s := lastN n L'))
  generalize L12.rv (lastN n L') = R at *
  generalize L12.ris (lastN n L') = E at *
  cases E
  · have hz := HZ.out rfl
    subst hz
    clear HZ
    go_enter Tryz.func58, Tryz.ntmps58
    go_wp2_with fail
    go_region_with (go_at_call 67; refine (H.out _ (After.rfl.draws _)).mono ?_; rintro e w1 ⟨rfl, hb, u', x', hu'⟩)
    all_goals
      have hb' : But (One p) w w1 := (After.rfl.draws _).but.trans hb
      have d0 := (HC.out w1 hb').trans c0
      have H2 := hideIt (HR.out _ _ x')
      have HX := hideIt (And.intro hb' (And.intro x' hu'))
      clear hb hb' x' hu' c0 c1 HC H HR
      go_wp2_with (go_at_call 68; refine H2.out.mono ?_; rintro e w' ⟨rfl, hd⟩)
      go_ret2
      obtain ⟨hb, x, hu⟩ := HX.out
      exact ⟨rfl, hb.then (T := Non) hd.after (fun _ _ t => t.elim), u', x.after hd.after, hu⟩
  · clear HZ
    go_enter Tryz.func58, Tryz.ntmps58
    go_wp2_with fail
    go_region_with (go_at_call 67; refine (H.out _ (After.rfl.draws _)).mono ?_; rintro e w1 ⟨rfl, hb, u', x', hu'⟩)
    all_goals
      have hb' : But (One p) w w1 := (After.rfl.draws _).but.trans hb
      have d0 := (HC.out w1 hb').trans c0
      have H2 := hideIt (HR.out _ _ x')
      have HX := hideIt (And.intro hb' (And.intro x' hu'))
      clear hb hb' x' hu' c0 c1 HC H HR
      go_wp2_with (go_at_call 68; refine H2.out.mono ?_; rintro e w' ⟨rfl, hd⟩)
      go_ret2
      obtain ⟨hb, x, hu⟩ := HX.out
      exact ⟨rfl, hb.then (T := Non) hd.after (fun _ _ t => t.elim), u', x.after hd.after, hu⟩
end Go.Proofs.YtgapnimicaopcaaGreat
/-
  A filter at work, in memory; it takes a number.
-/
namespace Go.Proofs.YtgapnimicaopcaaGreat
open Go.RowKit
set_option maxRecDepth 8000
/-- A filter at work lies at p, its lapse at q, what is inside is v, of the blocks of S. -/
structure TkX (w : World) (p q : Nat) (v : Value) (S : Nat → Prop) (c : Cf) (s : Ts) : Prop where
  at0 : w.heap[p]? = some (.cells #[.int .i64 c.k, .int .i64 c.n, .int .i64 c.st, v, Ptr q, .int .i64 s.value, .bool s.known, .int .i64 s.next] 53 (0, 0))
  lap : L13.LpX w q c.st s.lp
  ins : Ins w c.k c.n S s.ins v
  ok : c.Ok
  ne : p ≠ q
  np : ¬ S p
  nq : ¬ S q
  lo : 0 ≤ s.next
  hi : s.next ≤ 2147483648
theorem TkX.lt {w : World} {p q : Nat} {v : Value} {S : Nat → Prop} {c : Cf} {s : Ts} (x : TkX w p q v S c s) : p < w.heap.size := blk_lt x.at0
theorem TkX.but {T : Nat → Prop} {w w' : World} {p q : Nat} {v : Value} {S : Nat → Prop} {c : Cf} {s : Ts} (x : TkX w p q v S c s) (b : But T w w') (hp : ¬ T p) (hq : ¬ T q) (hs : ∀ i, S i → ¬ T i) : TkX w' p q v S c s :=
  { x with at0 := (b.block p (blk_lt x.at0) hp).trans x.at0, lap := x.lap.but b hq, ins := x.ins.but b hs }
theorem TkX.after {w w' : World} {p q : Nat} {v : Value} {S : Nat → Prop} {c : Cf} {s : Ts} (x : TkX w p q v S c s) (a : After w w') : TkX w' p q v S c s := x.but a (fun t => t) (fun t => t) (fun _ _ t => t)
/-- What a task may store into, but for its lapse. -/
def Tw (p : Nat) (S : Nat → Prop) : Nat → Prop := fun i => i = p ∨ S i
theorem TkX.put {w w1 : World} {p q : Nat} {v : Value} {S S' : Nat → Prop} {c : Cf} {s : Ts} {ins' : Si} (x : TkX w p q v S c s) (b : But S w w1) (i1 : Ins w1 c.k c.n S' ins' v) (hS : ∀ i, S' i → S i ∨ w.heap.size ≤ i) (val : Int) (kn : Bool) :
    TkX ((w1.setCell ⟨p, 5, none⟩ (.int .i64 val)).setCell ⟨p, 6, none⟩ (.bool kn)) p q v S' c ⟨ins', s.lp, val, kn, s.next⟩ ∧ But (Tw p S) w ((w1.setCell ⟨p, 5, none⟩ (.int .i64 val)).setCell ⟨p, 6, none⟩ (.bool kn)) := by
  have h1 := (b.block p x.lt x.np).trans x.at0
  have np' : ¬ S' p := fun h => by
    rcases hS p h with h | h
    · exact x.np h
    · have := x.lt; omega
  have nq' : ¬ S' q := fun h => by
    rcases hS q h with h | h
    · exact x.nq h
    · have := x.lap.lt; omega
  have b2 : But (One p) w1 ((w1.setCell ⟨p, 5, none⟩ (.int .i64 val)).setCell ⟨p, 6, none⟩ (.bool kn)) := (but_one w1 p 5 _).trans (but_one _ p 6 _)
  refine ⟨{ at0 := ?_, lap := (x.lap.but b x.nq).but b2 (fun e => x.ne e.symm), ins := i1.but b2 (fun i hi e => by cases e; exact np' hi), ok := x.ok, ne := x.ne, np := np', nq := nq', lo := x.lo, hi := x.hi }, ?_⟩
  · have h2 := blk_put (blk_put h1 5 (.int .i64 val)) 6 (.bool kn)
    exact h2
  · exact (b.mono (fun i _ h => .inr h)).then b2 (fun i _ h => .inl h)
theorem Tryz.notPulse0 (v : Value) (w : World) : (Instr.typeAssert (.iface 77 v) 46 89 true).run Tryz.prog w = .ok (.tuple #[.pointer none, .bool false]) w := by kernel_rfl
theorem Tryz.notPulse1 (v : Value) (w : World) : (Instr.typeAssert (.iface 80 v) 46 89 true).run Tryz.prog w = .ok (.tuple #[.pointer none, .bool false]) w := by kernel_rfl
theorem Tryz.notPulse2 (v : Value) (w : World) : (Instr.typeAssert (.iface 83 v) 46 89 true).run Tryz.prog w = .ok (.tuple #[.pointer none, .bool false]) w := by kernel_rfl
theorem Tryz.notPulse3 (v : Value) (w : World) : (Instr.typeAssert (.iface 86 v) 46 89 true).run Tryz.prog w = .ok (.tuple #[.pointer none, .bool false]) w := by kernel_rfl
theorem Tryz.aPulse (v : Value) (w : World) : (Instr.typeAssert (.iface 89 v) 46 89 true).run Tryz.prog w = .ok (.tuple #[v, .bool true]) w := by kernel_rfl
theorem Tryz.push0 (v : Value) (w : World) : (method 283 77 v "Push").run Tryz.prog w = .ok (89, v) w := by kernel_rfl
theorem Tryz.push1 (g : Nat) (w : World) : (method 283 80 (Ptr g) "Push").run Tryz.prog w = .ok (90, Ptr g) w := by kernel_rfl
theorem Tryz.push2 (g : Nat) (w : World) : (method 283 83 (Ptr g) "Push").run Tryz.prog w = .ok (114, Ptr g) w := by kernel_rfl
theorem Tryz.push3 (g : Nat) (w : World) : (method 283 86 (Ptr g) "Push").run Tryz.prog w = .ok (118, Ptr g) w := by kernel_rfl
theorem mid_push (n : Nat) (hn : 0 < n) (l : List Int) (y : Int) : L9.mpush n (L9.lastN n l) (L9.clampZ y) = lastN n (l ++ [clampZ y]) := (lastN_push hn l (clampZ y)).symm
/-- What a task's call leaves behind. -/
def Took (w : World) (p q : Nat) (v : Value) (S : Nat → Prop) (c : Cf) (s : Ts) (w' : World) : Prop := ∃ S', TkX w' p q v S' c s ∧ (∀ i, S' i → S i ∨ w.heap.size ≤ i) ∧ But (Tw p S) w w'
/-- Push into what is inside, of a number: the answer, and what is inside then. -/
def Pushed (w : World) (v : Value) (k n : Nat) (S : Nat → Prop) (s' : Si) (w1 : World) : Prop := But S w w1 ∧ ∃ S', Ins w1 k n S' s' v ∧ (∀ i, S' i → S i ∨ w.heap.size ≤ i)
theorem take_of {w : World} {p q T f : Nat} {u : Value} {S : Nat → Prop} {c : Cf} {s : Ts} (x : TkX w p q (.iface T u) S c s) (t y R : Int)
    (hta : ∀ w, (Instr.typeAssert (.iface T u) 46 89 true).run Tryz.prog w = .ok (.tuple #[.pointer none, .bool false]) w)
    (hme : ∀ w, (method 283 T u "Push").run Tryz.prog w = .ok (f, u) w)
    (hf : ∀ args W, (callFunc f args).run Tryz.prog W = .ok (.enter f args) W)
    (h : Calls Tryz.prog f #[u, .int .i64 y] w fun e w1 => e = .returned (.tuple #[.int .i64 R, .int .i64 0]) ∧ Pushed w (.iface T u) c.k c.n S (s.ins.push c.k c.n t y) w1)
    (hv : s.ins.val c.k c.n t y = R) (hh : s.ins.has c.k c.n t y = true) :
    Calls Tryz.prog 42 #[Ptr p, .int .i64 t, .int .i64 y] w fun e w' => e = .returned (.tuple #[]) ∧ Took w p q (.iface T u) S c (s.take c t y) w' := by
  have H := hideIt h
  have HE : Hid (s.take c t y = ⟨s.ins.push c.k c.n t y, s.lp, R, true, s.next⟩) := by unfold Ts.take; rw [hv, hh]; exact rfl
  clear h hv hh
  generalize s.take c t y = s' at *
  generalize s.ins.push c.k c.n t y = i' at *
  have h3 := blk_cell x.at0 (i := 3) rfl
  have HX := hideIt x
  clear x
  go_enter Tryz.func42, Tryz.ntmps42
  go_wp2_with fail
  refine H.out.mono ?_
  rintro e w1 ⟨rfl, hx1⟩
  have h1 := (hx1.1.block p HX.out.lt HX.out.np).trans HX.out.at0
  have c5 := blk_cell h1 (i := 5) rfl
  have c6 := blk_cell h1 (i := 6) rfl
  have s5 := blk_soft h1 5
  have s6 := blk_soft h1 6
  have HY := hideIt hx1
  clear h1 hx1 h3
  go_wp2_with fail
  obtain ⟨b1, S', i1, hS⟩ := HY.out
  have hr := HX.out.put b1 i1 hS R true
  exact bodyPost_end (v := .tuple #[]) (by simp [results, Tryz.results42, go_sem]) rfl ⟨rfl, S', HE.out.symm ▸ hr.1, hS, hr.2⟩
end Go.Proofs.YtgapnimicaopcaaGreat
/-
  A task takes a number, whatever is inside.
-/
namespace Go.Proofs.YtgapnimicaopcaaGreat
open Go.RowKit
set_option maxRecDepth 8000
theorem new_in {S : Nat → Prop} {w : World} : ∀ i, S i → S i ∨ w.heap.size ≤ i := fun _ h => .inl h
theorem take_plain {w : World} {p q : Nat} {v : Value} {S : Nat → Prop} {c : Cf} {s : Ts} (x : TkX w p q v S c s) (hk : c.k = 0) (t y : Int) : Calls Tryz.prog 42 #[Ptr p, .int .i64 t, .int .i64 y] w fun e w' => e = .returned (.tuple #[]) ∧ Took w p q v S c (s.take c t y) w' := by
  rcases x.ins with ⟨h, rfl, hs⟩ | ⟨h, _⟩ | ⟨h, _⟩ | ⟨h, _⟩ | ⟨h, _⟩
  · refine take_of x t y y (fun w => Tryz.notPulse0 _ w) (fun w => Tryz.push0 _ w) (fun args W => L11.enter_of Tryz.func89 (by kernel_rfl) (by kernel_rfl) args W) ?_ (by simp [Si.val, hk]) (by simp [Si.has, hk])
    refine (plainPush_any w y).mono ?_
    rintro e w1 ⟨rfl, ha⟩
    refine ⟨rfl, ha.but, S, ?_, new_in⟩
    have : s.ins.push c.k c.n t y = s.ins := by simp [Si.push, hk]
    rw [this]
    exact x.ins.after ha
  · omega
  · omega
  · omega
  · omega
theorem take_med {w : World} {p q : Nat} {v : Value} {S : Nat → Prop} {c : Cf} {s : Ts} (x : TkX w p q v S c s) (hk : c.k = 1) (t y : Int) : Calls Tryz.prog 42 #[Ptr p, .int .i64 t, .int .i64 y] w fun e w' => e = .returned (.tuple #[]) ∧ Took w p q v S c (s.take c t y) w' := by
  rcases x.ins with ⟨h, _⟩ | ⟨h, g, rfl, m, hs⟩ | ⟨h, _⟩ | ⟨h, _⟩ | ⟨h, _⟩
  · omega
  · have hn : 0 < c.n := m.le.2.1
    have hp : s.ins.push c.k c.n t y = ⟨s.ins.l ++ [clampZ y], s.ins.o⟩ := by simp [Si.push, hk]
    refine take_of x t y (L9.mid (lastN c.n (s.ins.l ++ [clampZ y]))) (fun w => Tryz.notPulse1 _ w) (fun w => Tryz.push1 _ w) (fun args W => L11.enter_of Tryz.func90 (by kernel_rfl) (by kernel_rfl) args W) ?_ (by simp [Si.val, hk]) (by simp [Si.has, hk])
    refine (L9.mdPush_any m y).mono ?_
    rintro e w1 ⟨rfl, m1, b1⟩
    rw [show L9.mpush c.n (lastN c.n s.ins.l) (L9.clampZ y) = lastN c.n (s.ins.l ++ [clampZ y]) from mid_push c.n hn s.ins.l y] at m1
    refine ⟨by rw [show L9.mpush c.n (lastN c.n s.ins.l) (L9.clampZ y) = lastN c.n (s.ins.l ++ [clampZ y]) from mid_push c.n hn s.ins.l y], b1.mono (fun i _ e => (hs i).2 e), S, ?_, new_in⟩
    rw [hp]
    exact .inr (.inl ⟨h, g, rfl, m1, hs⟩)
  · omega
  · omega
  · omega
theorem take_avg {w : World} {p q : Nat} {v : Value} {S : Nat → Prop} {c : Cf} {s : Ts} (x : TkX w p q v S c s) (hk : c.k = 2) (t y : Int) : Calls Tryz.prog 42 #[Ptr p, .int .i64 t, .int .i64 y] w fun e w' => e = .returned (.tuple #[]) ∧ Took w p q v S c (s.take c t y) w' := by
  rcases x.ins with ⟨h, _⟩ | ⟨h, _⟩ | ⟨h, g, rfl, m, hs⟩ | ⟨h, _⟩ | ⟨h, _⟩
  · omega
  · omega
  · have hn : 0 < c.n := m.le.2.1
    have hp : s.ins.push c.k c.n t y = ⟨s.ins.l ++ [clampZ y], s.ins.o⟩ := by simp [Si.push, hk]
    refine take_of x t y (meanZ (lastN c.n (s.ins.l ++ [clampZ y]))) (fun w => Tryz.notPulse2 _ w) (fun w => Tryz.push2 _ w) (fun args W => L11.enter_of Tryz.func114 (by kernel_rfl) (by kernel_rfl) args W) ?_ (by simp [Si.val, hk]) (by simp [Si.has, hk])
    refine (L10.avPush_any m y).mono ?_
    rintro e w1 ⟨rfl, m1, b1⟩
    rw [← lastN_push hn s.ins.l (clampZ y)] at m1
    refine ⟨by rw [← lastN_push hn s.ins.l (clampZ y)], b1.mono (fun i _ e => (hs i).2 e), S, ?_, new_in⟩
    rw [hp]
    exact .inr (.inr (.inl ⟨h, g, rfl, m1, hs⟩))
  · omega
  · omega
theorem take_slow {w : World} {p q : Nat} {v : Value} {S : Nat → Prop} {c : Cf} {s : Ts} (x : TkX w p q v S c s) (hk : c.k = 3) (t y : Int) : Calls Tryz.prog 42 #[Ptr p, .int .i64 t, .int .i64 y] w fun e w' => e = .returned (.tuple #[]) ∧ Took w p q v S c (s.take c t y) w' := by
  have hp : s.ins.push c.k c.n t y = ⟨s.ins.l, some (L11.nxo c.n s.ins.o (clampZ y))⟩ := by simp [Si.push, hk]
  rcases x.ins with ⟨h, _⟩ | ⟨h, _⟩ | ⟨h, _⟩ | ⟨h, g, rfl, ⟨ho, m, hs⟩ | ⟨r, z, ho, m, hs⟩⟩ | ⟨h, _⟩
  · omega
  · omega
  · omega
  · refine take_of x t y (L11.nxo c.n s.ins.o (clampZ y)) (fun w => Tryz.notPulse3 _ w) (fun w => Tryz.push3 _ w) (fun args W => L11.enter_of Tryz.func118 (by kernel_rfl) (by kernel_rfl) args W) ?_ (by simp [Si.val, hk]) (by simp [Si.has, hk])
    rw [hp, ho]
    refine (L11.irPush_first m y).mono ?_
    rintro e w1 ⟨rfl, m1, b1, _⟩
    refine ⟨rfl, b1.mono (fun i hi e => (hs i).2 (by rcases e with e | e; exact e; omega)), fun i => i = g ∨ i = w.heap.size, ?_, fun i hi => by rcases hi with e | e; exact .inl ((hs i).2 e); exact .inr (by omega)⟩
    exact .inr (.inr (.inr (.inl ⟨h, g, rfl, .inr ⟨w.heap.size, _, rfl, m1, fun i => Iff.rfl⟩⟩)))
  · refine take_of x t y (L11.nxo c.n s.ins.o (clampZ y)) (fun w => Tryz.notPulse3 _ w) (fun w => Tryz.push3 _ w) (fun args W => L11.enter_of Tryz.func118 (by kernel_rfl) (by kernel_rfl) args W) ?_ (by simp [Si.val, hk]) (by simp [Si.has, hk])
    rw [hp, ho]
    refine (L11.irPush_next m y).mono ?_
    rintro e w1 ⟨rfl, m1, b1⟩
    refine ⟨rfl, b1.mono (fun i hi e => (hs i).2 e), S, ?_, new_in⟩
    exact .inr (.inr (.inr (.inl ⟨h, g, rfl, .inr ⟨r, _, rfl, m1, hs⟩⟩)))
  · omega
end Go.Proofs.YtgapnimicaopcaaGreat
/-
  A task takes a number: beats; and whatever is inside.
-/
namespace Go.Proofs.YtgapnimicaopcaaGreat
open Go.RowKit
set_option maxRecDepth 8000
/-- A pulse has taken a number: the answer, and what is inside then. -/
theorem pulse_any {w : World} {n q p B : Nat} {S : Nat → Prop} {s : Si} {u T : Value} (hq : w.heap[q]? = some (.cells #[Ptr p, T] 123 (0, 0))) (m : L12.BtX w p B n (lastN n s.l) u) (hne : q ≠ p) (hqB : q < B) (hB : B ≤ w.heap.size) (hs : ∀ i, S i ↔ i = q ∨ i = p ∨ u.ownBlock = some i) (t y : Int) :
    Calls Tryz.prog 58 #[Ptr q, .int .i64 y] (w.setCell ⟨q, 1, none⟩ (.int .i64 t)) fun e w1 => e = .returned (.tuple #[.int .i64 (s.val 4 n t y), .int .i64 (pulE (s.has 4 n t y))]) ∧ Pushed w (.iface 89 (Ptr q)) 4 n S (s.push 4 n t y) w1 := by
  have b0 := but_one w q 1 (.int .i64 t)
  have h0 := two_set1 hq (.int .i64 t)
  have nown : ∀ k, u.ownBlock = some k → ¬ One q k := fun k hk e => by
    have := (own_lt m.own hk).1
    cases e
    omega
  have m0 := m.but b0 (fun e => hne e.symm) nown
  have hB0 : B ≤ (w.setCell ⟨q, 1, none⟩ (.int .i64 t)).heap.size := Nat.le_trans hB b0.size
  have hsz : (w.setCell ⟨q, 1, none⟩ (.int .i64 t)).heap.size = w.heap.size := by simp [World.setCell]
  by_cases hy : 0 < y
  · have hv : s.val 4 n t y = L12.rv (lastN n (L12.nxt s.l t)) := by simp [Si.val, hy]
    have hh : s.has 4 n t y = L12.ris (lastN n (L12.nxt s.l t)) := by simp [Si.has, hy]
    have hp : s.push 4 n t y = ⟨L12.nxt s.l t, s.o⟩ := by simp [Si.push, hy]
    rw [hv, hh, hp]
    refine (pulseBeat h0 m0 hne hB0 y hy).mono ?_
    rintro e w1 ⟨rfl, b1, u', m1, hu⟩
    refine ⟨rfl, ?_, fun i => i = q ∨ i = p ∨ u'.ownBlock = some i, .inr (.inr (.inr (.inr ⟨rfl, q, p, B, u', .int .i64 t, rfl, (b1.block q (blk_lt h0) hne).trans h0, m1, hne, hqB, Nat.le_trans hB0 b1.size, fun i => Iff.rfl⟩))), ?_⟩
    · exact (b0.mono (fun i _ e => (hs i).2 (.inl e))).then b1 (fun i _ e => (hs i).2 (.inr (.inl e)))
    · intro i hi
      rcases hi with e | e | e
      · exact .inl ((hs i).2 (.inl e))
      · exact .inl ((hs i).2 (.inr (.inl e)))
      · rcases hu with rfl | hu
        · exact .inl ((hs i).2 (.inr (.inr e)))
        · exact .inr (by rw [← hsz]; exact hu i e)
  · have hv : s.val 4 n t y = L12.rv (lastN n s.l) := by simp [Si.val, hy]
    have hh : s.has 4 n t y = L12.ris (lastN n s.l) := by simp [Si.has, hy]
    have hp : s.push 4 n t y = s := by simp [Si.push, hy]
    rw [hv, hh, hp]
    refine (pulseRate h0 m0 y hy).mono ?_
    rintro e w1 ⟨rfl, a1⟩
    refine ⟨rfl, ?_, S, .inr (.inr (.inr (.inr ⟨rfl, q, p, B, u, .int .i64 t, rfl, (a1.block q (blk_lt h0) (fun t => t)).trans h0, m0.after a1, hne, hqB, Nat.le_trans hB0 a1.size, hs⟩))), new_in⟩
    exact (b0.mono (fun i _ e => (hs i).2 (.inl e))).then a1 (fun i _ e => e.elim)
theorem take_beat {w : World} {p q : Nat} {v : Value} {S : Nat → Prop} {c : Cf} {s : Ts} (x : TkX w p q v S c s) (hk : c.k = 4) (t y : Int) : Calls Tryz.prog 42 #[Ptr p, .int .i64 t, .int .i64 y] w fun e w' => e = .returned (.tuple #[]) ∧ Took w p q v S c (s.take c t y) w' := by
  rcases x.ins with ⟨h, _⟩ | ⟨h, _⟩ | ⟨h, _⟩ | ⟨h, _⟩ | ⟨h, g, r, B, u, T, rfl, hq, m, h1, h2, h3, hs⟩
  · omega
  · omega
  · omega
  · omega
  · have H := hideIt (pulse_any hq m h1 h2 h3 hs t y)
    have HE : Hid (s.take c t y = ⟨s.ins.push 4 c.n t y, s.lp, s.ins.val 4 c.n t y, s.ins.has 4 c.n t y, s.next⟩) := by unfold Ts.take; rw [hk]; exact rfl
    generalize s.ins.push 4 c.n t y = i' at *
    generalize s.ins.val 4 c.n t y = R at *
    generalize s.ins.has 4 c.n t y = E at *
    generalize s.take c t y = s' at *
    have hta := fun w => Tryz.aPulse (Ptr g) w
    have h3' := blk_cell x.at0 (i := 3) rfl
    have cT := blk_cell hq (i := 1) rfl
    have sT := blk_soft hq 1
    have HX := hideIt x
    have HK := hideIt hk
    clear x hs m hq h1 h2 h3 h hk
    cases E
    all_goals
      go_enter Tryz.func42, Tryz.ntmps42
      go_wp2_with fail
      refine H.out.mono ?_
      rintro e w1 ⟨rfl, hx1⟩
      have g1 := (hx1.1.block p HX.out.lt HX.out.np).trans HX.out.at0
      have c5 := blk_cell g1 (i := 5) rfl
      have c6 := blk_cell g1 (i := 6) rfl
      have s5 := blk_soft g1 5
      have s6 := blk_soft g1 6
      have HY := hideIt hx1
      clear g1 hx1 h3' cT sT
      unfold pulE
      go_wp2_with fail
      obtain ⟨b1, S', i1, hS⟩ := HY.out
      rw [← HK.out] at i1
      have hr := fun kn => HX.out.put b1 i1 hS R kn
      exact bodyPost_end (v := .tuple #[]) (by simp [results, Tryz.results42, go_sem]) rfl ⟨rfl, S', by rw [HE.out]; exact (hr _).1, hS, (hr _).2⟩
theorem take_any {w : World} {p q : Nat} {v : Value} {S : Nat → Prop} {c : Cf} {s : Ts} (x : TkX w p q v S c s) (t y : Int) : Calls Tryz.prog 42 #[Ptr p, .int .i64 t, .int .i64 y] w fun e w' => e = .returned (.tuple #[]) ∧ Took w p q v S c (s.take c t y) w' := by
  rcases (by have := x.ok.kind; omega : c.k = 0 ∨ c.k = 1 ∨ c.k = 2 ∨ c.k = 3 ∨ c.k = 4) with h | h | h | h | h
  · exact take_plain x h t y
  · exact take_med x h t y
  · exact take_avg x h t y
  · exact take_slow x h t y
  · exact take_beat x h t y
end Go.Proofs.YtgapnimicaopcaaGreat
