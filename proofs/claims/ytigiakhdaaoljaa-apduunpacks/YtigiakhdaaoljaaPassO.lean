/-
  Octets, by a coder.
-/
import Derived.Test.YtigiakhdaaoljaaPass
namespace Go.Proofs.Ytigiakhdaaoljaa
open Go.RowKit
set_option maxRecDepth 8000
theorem oct_cw (w : World) (g : Nat) (v : Value) (zs : List Int) (a : Option Addr) (n c : Nat) (bs : List Int) (r : WrAt w g v zs) (rb : Row w a n bs) (ha : a = none → n = 0 ∧ c = 0) (hs : ∀ y, a = some y → 0 < n → ¬ Own g v y.block) (hn : n ≤ 140737488355328) (hl : zs.length ≤ 1000000000) :
    Calls Try.prog 65 #[Co none (some ⟨g, 0, none⟩), .slice a n c] w fun e w' => Ends (oct true bs zs) (fun ys us => ys = bs ∧ e = .returned (.slice a n c) ∧ WrTo w w' g v us) (fun c => e = .panicked (Halt c) ∧ But (Own g v) w w') := by
  have hA : After w ((w.alloc (.cells #[.pointer none, .pointer (some ⟨g, 0, none⟩)] 52)).alloc (.cells #[.pointer none, .pointer (some ⟨g, 0, none⟩)] 52)) := (After.rfl.alloc _).alloc _
  have HP := hideIt (wOctets_any _ g v zs a n c bs (r.after hA) (rb.after hA) ha hs hn (by omega))
  have hg := (two_at r.1).1
  have hv : ∀ k, Own g v k → k < w.heap.size := fun k hk => hk.elim (fun e => by rw [e]; exact hg) (fun e => (r.2.1.lt k e).2)
  have HV := hideIt hv
  have HA := hideIt hA
  by_cases hx : bs.length ≤ 65535
  · obtain ⟨e1, e2⟩ := wo_yes hx
    rw [e1, e2] at HP
    have E0 := hideIt (oct_w (zs := zs) hx)
    clear r hl hA hg hv e1 e2 hx ha hs hn rb
    go_enter Try.func65, Try.ntmps65
    go_wp2_with (first | (go_at_call 76; go_in) | (go_at_call 78; refine HP.out.mono ?_; rintro e w1 ⟨rfl, h1⟩; have H1 := hideIt h1; clear h1))
    go_ret
    exact Ends.ok E0.out ⟨rfl, rfl, WrTo.behind HA.out H1.out⟩
  · obtain ⟨e1, e2⟩ := wo_no hx
    rw [e1, e2] at HP
    have E0 := hideIt (oct_wn (zs := zs) hx)
    clear r hl hA hg hv e1 e2 hx ha hs hn rb
    go_enter Try.func65, Try.ntmps65
    go_wp2_with (first | (go_at_call 76; go_in) | (go_at_call 78; refine HP.out.mono ?_; rintro e w1 ⟨rfl, h1⟩; obtain ⟨v1, _, b1, _⟩ := h1; have hc := boxed HV.out b1; have H1 := hideIt b1; clear b1) | (go_at_call 27; refine (stop_any _ _ _ _).mono ?_; rintro e w2 ⟨rfl, h2⟩; have H2 := hideIt h2; clear h2))
    exact ⟨rfl, And.intro rfl (Ends.bad E0.out ⟨rfl, (HA.out.but.trans H1.out).trans H2.out.but⟩)⟩
theorem oct_cr (w : World) (g h : Nat) (zs : List Int) (x : Value) (r : RdAt w g h zs) (bs : List Int) :
    Calls Try.prog 65 #[Co (some ⟨g, 0, none⟩) none, x] w fun e w' => Ends (oct false bs zs) (fun ys us => (∃ y, e = .returned y ∧ w'.ownsRow w.heap.size 5 1 y ys.length (u8s ys)) ∧ RdAt w' g h us ∧ But (One g) w w') (fun c => e = .panicked (Halt c) ∧ But (One g) w w') := by
  have hA : After w ((w.alloc (.cells #[.pointer (some ⟨g, 0, none⟩), .pointer none] 52)).alloc (.cells #[.pointer (some ⟨g, 0, none⟩), .pointer none] 52)) := (After.rfl.alloc _).alloc _
  have HP := hideIt (octets_any _ g h zs (r.after hA))
  have hg := r.lt
  have hv : ∀ k, One g k → k < w.heap.size := fun k hk => by rw [hk]; exact hg
  have HV := hideIt hv
  have HA := hideIt hA
  by_cases hx : ocIs zs = true
  · have e1 : ocErr zs = 0 := if_pos hx
    rw [e1] at HP
    have E0 := hideIt (oct_r (v := bs) hx)
    clear r hA hg hv hx e1
    go_enter Try.func65, Try.ntmps65
    go_wp2_with (first | (go_at_call 76; go_in) | (go_at_call 77; refine HP.out.mono ?_; rintro e w1 ⟨y, rfl, ho, h1, h2⟩; obtain ⟨ya, yc, rfl⟩ := own_slice ho; have HO := hideIt ho; have H1 := hideIt h1; have H2 := hideIt h2; clear ho h1 h2))
    go_ret
    exact Ends.ok E0.out ⟨⟨_, rfl, own_base HO.out (fun k e => Nat.le_trans HA.out.size (HO.out.lt k e).1)⟩, H1.out, HA.out.but.trans H2.out⟩
  · have e1 : ocErr zs = 3 := if_neg hx
    rw [e1] at HP
    have E0 := hideIt (oct_rn (v := bs) hx)
    clear r hA hg hv hx e1
    go_enter Try.func65, Try.ntmps65
    go_wp2_with (first | (go_at_call 76; go_in) | (go_at_call 77; refine HP.out.mono ?_; rintro e w1 ⟨y, rfl, ho, _, b1⟩; obtain ⟨ya, yc, rfl⟩ := own_slice ho; clear ho; have hc := boxed HV.out b1; have H1 := hideIt b1; clear b1) | (go_at_call 27; refine (stop_any _ _ _ _).mono ?_; rintro e w2 ⟨rfl, h2⟩; have H2 := hideIt h2; clear h2))
    exact ⟨rfl, And.intro rfl (Ends.bad E0.out ⟨rfl, (HA.out.but.trans H1.out).trans H2.out.but⟩)⟩
end Go.Proofs.Ytigiakhdaaoljaa
