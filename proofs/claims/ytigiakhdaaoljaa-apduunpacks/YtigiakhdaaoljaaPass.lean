/-
  Numbers and octets, by a coder: u8, u16, u32, octets.
-/
import Derived.Test.YtigiakhdaaoljaaHalt
namespace Go.Proofs.Ytigiakhdaaoljaa
open Go.RowKit
set_option maxRecDepth 8000
theorem wr_step {w W : World} {g : Nat} {v : Value} {zs : List Int} (h : WrTo w W g v zs) : ∃ S', Cod W none (some ⟨g, 0, none⟩) true zs S' ∧ Stp (Own g v) w S' W := by
  obtain ⟨v', r, b, gr⟩ := h
  refine ⟨Own g v', ⟨.inr ⟨rfl, g, v', rfl, rfl, r, rfl⟩, fun k hk => ?_⟩, b, fun k hk => ?_⟩
  · rcases hk with rfl | hk
    · exact (two_at r.1).1
    · exact (r.2.1.lt k hk).2
  · rcases hk with rfl | hk
    · exact .inl (.inl rfl)
    · rcases gr with e | ⟨j, e, hj⟩
      · exact .inl (.inr (by rw [← e]; exact hk))
      · rw [e] at hk; cases hk; exact .inr hj
theorem rd_step {w W : World} {g h : Nat} {zs : List Int} (r : RdAt W g h zs) (b : But (One g) w W) : ∃ S', Cod W (some ⟨g, 0, none⟩) none false zs S' ∧ Stp (Two g h) w S' W := by
  refine ⟨Two g h, ⟨.inl ⟨rfl, g, h, rfl, rfl, r, rfl⟩, fun k hk => ?_⟩, b.mono (fun i _ hi => .inl hi), fun k hk => .inl hk⟩
  have hg := r.lt
  rcases hk with rfl | rfl
  · exact hg
  · obtain ⟨a, n, c, _, _, _, _, h5⟩ := r
    rcases h5 with ⟨_, _, _, rfl⟩ | ⟨off, _, _, hl⟩
    · exact hg
    · exact hl
theorem WrTo.behind {w w1 w2 : World} {g : Nat} {v : Value} {zs : List Int} (a : After w w1) (h : WrTo w1 w2 g v zs) : WrTo w w2 g v zs := by
  obtain ⟨v', r, b, gr⟩ := h
  exact ⟨v', r, a.but.trans b, gr.imp_right (fun ⟨k, e, hk⟩ => ⟨k, e, Nat.le_trans a.size hk⟩)⟩
/-- What was boxed second is still there. -/
theorem boxed {S : Nat → Prop} {w W : World} {o : Obj} {x y : Value} {T : TypeId} (hv : ∀ k, S k → k < w.heap.size) (b : But S ((w.alloc o).alloc (.cells #[x, y] T)) W) : W.cell? ⟨w.heap.size + 1, 0, none⟩ = some x ∧ W.cell? ⟨w.heap.size + 1, 1, none⟩ = some y := by
  have h := (b.block (w.heap.size + 1) (by simp) (fun h => absurd (hv _ h) (by omega))).trans (show _ = some (.cells #[x, y] T (0, 0)) by have := two_new (w.alloc o) T x y; rw [World.size_alloc] at this; exact this)
  exact ⟨(two_at h).2.1, (two_at h).2.2.1⟩
/-- What was boxed first is still there. -/
theorem boxed1 {S : Nat → Prop} {w W : World} {x y : Value} {T : TypeId} (hv : ∀ k, S k → k < w.heap.size) (b : But S (w.alloc (.cells #[x, y] T)) W) : W.cell? ⟨w.heap.size, 0, none⟩ = some x ∧ W.cell? ⟨w.heap.size, 1, none⟩ = some y := by
  have h := (b.block w.heap.size (by simp) (fun h => absurd (hv _ h) (by omega))).trans (two_new w T x y)
  exact ⟨(two_at h).2.1, (two_at h).2.2.1⟩
theorem u8_w (w : World) (g : Nat) (v : Value) (zs : List Int) (x : Int) (r : WrAt w g v zs) (hl : zs.length ≤ 1000000000) :
    Calls Try.prog 90 #[Co none (some ⟨g, 0, none⟩), .int .i64 x] w fun e w' => Ends (num true 1 255 x zs) (fun y ys => e = .returned (.int .i64 y) ∧ WrTo w w' g v ys) (fun c => e = .panicked (Halt c) ∧ But (Own g v) w w') := by
  have hA : After w ((w.alloc (.cells #[.pointer none, .pointer (some ⟨g, 0, none⟩)] 52)).alloc (.cells #[.pointer none, .pointer (some ⟨g, 0, none⟩)] 52)) := (After.rfl.alloc _).alloc _
  have HP := hideIt (wU8_any _ g v zs x (r.after hA) (by omega))
  have hg := (two_at r.1).1
  have hv : ∀ k, Own g v k → k < w.heap.size := fun k hk => hk.elim (fun e => by rw [e]; exact hg) (fun e => (r.2.1.lt k e).2)
  have HV := hideIt hv
  have HA := hideIt hA
  by_cases hx : 0 ≤ x ∧ x ≤ (255 : Nat)
  · obtain ⟨e1, e2⟩ := wn_yes (k := 1) hx
    rw [e1, e2] at HP
    have E0 := hideIt (num_w (k := 1) (zs := zs) hx)
    clear r hl hA hg hv e1 e2 hx
    go_enter Try.func90, Try.ntmps90
    go_wp2_with (first | (go_at_call 73; go_in) | (go_at_call 95; refine HP.out.mono ?_; rintro e w1 ⟨rfl, h1⟩; have H1 := hideIt h1; clear h1))
    go_ret
    exact Ends.ok E0.out ⟨rfl, WrTo.behind HA.out H1.out⟩
  · obtain ⟨e1, e2⟩ := wn_no (k := 1) hx
    rw [e1, e2] at HP
    have E0 := hideIt (num_wn (k := 1) (zs := zs) hx)
    clear r hl hA hg hv e1 e2 hx
    go_enter Try.func90, Try.ntmps90
    go_wp2_with (first | (go_at_call 73; go_in) | (go_at_call 95; refine HP.out.mono ?_; rintro e w1 ⟨rfl, h1⟩; obtain ⟨v1, _, b1, _⟩ := h1; have hc := boxed HV.out b1; have H1 := hideIt b1; clear b1) | (go_at_call 27; refine (stop_any _ _ _ _).mono ?_; rintro e w2 ⟨rfl, h2⟩; have H2 := hideIt h2; clear h2))
    exact ⟨rfl, And.intro rfl (Ends.bad E0.out ⟨rfl, (HA.out.but.trans H1.out).trans H2.out.but⟩)⟩
theorem u16_w (w : World) (g : Nat) (v : Value) (zs : List Int) (x : Int) (r : WrAt w g v zs) (hl : zs.length ≤ 1000000000) :
    Calls Try.prog 64 #[Co none (some ⟨g, 0, none⟩), .int .i64 x] w fun e w' => Ends (num true 2 65535 x zs) (fun y ys => e = .returned (.int .i64 y) ∧ WrTo w w' g v ys) (fun c => e = .panicked (Halt c) ∧ But (Own g v) w w') := by
  have hA : After w ((w.alloc (.cells #[.pointer none, .pointer (some ⟨g, 0, none⟩)] 52)).alloc (.cells #[.pointer none, .pointer (some ⟨g, 0, none⟩)] 52)) := (After.rfl.alloc _).alloc _
  have HP := hideIt (wU16_any _ g v zs x (r.after hA) (by omega))
  have hg := (two_at r.1).1
  have hv : ∀ k, Own g v k → k < w.heap.size := fun k hk => hk.elim (fun e => by rw [e]; exact hg) (fun e => (r.2.1.lt k e).2)
  have HV := hideIt hv
  have HA := hideIt hA
  by_cases hx : 0 ≤ x ∧ x ≤ (65535 : Nat)
  · obtain ⟨e1, e2⟩ := wn_yes (k := 2) hx
    rw [e1, e2] at HP
    have E0 := hideIt (num_w (k := 2) (zs := zs) hx)
    clear r hl hA hg hv e1 e2 hx
    go_enter Try.func64, Try.ntmps64
    go_wp2_with (first | (go_at_call 73; go_in) | (go_at_call 75; refine HP.out.mono ?_; rintro e w1 ⟨rfl, h1⟩; have H1 := hideIt h1; clear h1))
    go_ret
    exact Ends.ok E0.out ⟨rfl, WrTo.behind HA.out H1.out⟩
  · obtain ⟨e1, e2⟩ := wn_no (k := 2) hx
    rw [e1, e2] at HP
    have E0 := hideIt (num_wn (k := 2) (zs := zs) hx)
    clear r hl hA hg hv e1 e2 hx
    go_enter Try.func64, Try.ntmps64
    go_wp2_with (first | (go_at_call 73; go_in) | (go_at_call 75; refine HP.out.mono ?_; rintro e w1 ⟨rfl, h1⟩; obtain ⟨v1, _, b1, _⟩ := h1; have hc := boxed HV.out b1; have H1 := hideIt b1; clear b1) | (go_at_call 27; refine (stop_any _ _ _ _).mono ?_; rintro e w2 ⟨rfl, h2⟩; have H2 := hideIt h2; clear h2))
    exact ⟨rfl, And.intro rfl (Ends.bad E0.out ⟨rfl, (HA.out.but.trans H1.out).trans H2.out.but⟩)⟩
theorem u32_w (w : World) (g : Nat) (v : Value) (zs : List Int) (x : Int) (r : WrAt w g v zs) (hl : zs.length ≤ 1000000000) (h0 : 0 ≤ x) (h1 : x < 4294967296) :
    Calls Try.prog 84 #[Co none (some ⟨g, 0, none⟩), .int .u32 x] w fun e w' => Ends (num true 4 4294967295 x zs) (fun y ys => e = .returned (.int .u32 y) ∧ WrTo w w' g v ys) (fun c => e = .panicked (Halt c) ∧ But (Own g v) w w') := by
  have hA : After w ((w.alloc (.cells #[.pointer none, .pointer (some ⟨g, 0, none⟩)] 52)).alloc (.cells #[.pointer none, .pointer (some ⟨g, 0, none⟩)] 52)) := (After.rfl.alloc _).alloc _
  have HP := hideIt (wU32_any _ g v zs x (r.after hA) (by omega) h0 h1)
  have hg := (two_at r.1).1
  have hv : ∀ k, Own g v k → k < w.heap.size := fun k hk => hk.elim (fun e => by rw [e]; exact hg) (fun e => (r.2.1.lt k e).2)
  have HV := hideIt hv
  have HA := hideIt hA
  have e0 : num true 4 4294967295 x zs = .ok (x, zs ++ bytesOf 4 x) := num_w (by omega)
  have E0 := hideIt e0
  clear r hl h0 h1 hA hg hv e0
  go_enter Try.func84, Try.ntmps84
  go_wp2_with (first | (go_at_call 91; go_in) | (go_at_call 93; refine HP.out.mono ?_; rintro e w1 ⟨rfl, h1⟩; have H1 := hideIt h1; clear h1))
  go_ret
  exact Ends.ok E0.out ⟨rfl, WrTo.behind HA.out H1.out⟩
theorem u8_r (w : World) (g h : Nat) (zs : List Int) (x : Int) (r : RdAt w g h zs) :
    Calls Try.prog 90 #[Co (some ⟨g, 0, none⟩) none, .int .i64 x] w fun e w' => Ends (num false 1 255 x zs) (fun y ys => e = .returned (.int .i64 y) ∧ RdAt w' g h ys ∧ But (One g) w w') (fun c => e = .panicked (Halt c) ∧ But (One g) w w') := by
  have hA : After w ((w.alloc (.cells #[.pointer (some ⟨g, 0, none⟩), .pointer none] 52)).alloc (.cells #[.pointer (some ⟨g, 0, none⟩), .pointer none] 52)) := (After.rfl.alloc _).alloc _
  have HP := hideIt (u8_any _ g h zs (r.after hA))
  have hg := r.lt
  have hv : ∀ k, One g k → k < w.heap.size := fun k hk => by rw [hk]; exact hg
  have HV := hideIt hv
  have HA := hideIt hA
  by_cases hx : 1 ≤ zs.length
  · rw [rdVal_yes hx, rdErr_yes hx, rdRest_yes hx] at HP
    have E0 := hideIt (num_r (k := 1) (M := 255) (v := x) hx)
    obtain ⟨y, hy⟩ : ∃ y, be (zs.take 1) = y := ⟨_, rfl⟩
    rw [hy] at HP E0
    clear r hA hg hv hx hy
    go_enter Try.func90, Try.ntmps90
    go_wp2_with (first | (go_at_call 73; go_in) | (go_at_call 94; refine HP.out.mono ?_; rintro e w1 ⟨rfl, h1, h2⟩; have H1 := hideIt h1; have H2 := hideIt h2; clear h1 h2))
    go_ret
    exact Ends.ok E0.out ⟨rfl, H1.out, HA.out.but.trans H2.out⟩
  · rw [rdVal_no hx, rdErr_no hx, rdRest_no hx] at HP
    have E0 := hideIt (num_rn (k := 1) (M := 255) (v := x) hx)
    clear r hA hg hv hx
    go_enter Try.func90, Try.ntmps90
    go_wp2_with (first | (go_at_call 73; go_in) | (go_at_call 94; refine HP.out.mono ?_; rintro e w1 ⟨rfl, _, b1⟩; have hc := boxed HV.out b1; have H1 := hideIt b1; clear b1) | (go_at_call 27; refine (stop_any _ _ _ _).mono ?_; rintro e w2 ⟨rfl, h2⟩; have H2 := hideIt h2; clear h2))
    exact ⟨rfl, And.intro rfl (Ends.bad E0.out ⟨rfl, (HA.out.but.trans H1.out).trans H2.out.but⟩)⟩
theorem u16_r (w : World) (g h : Nat) (zs : List Int) (x : Int) (r : RdAt w g h zs) :
    Calls Try.prog 64 #[Co (some ⟨g, 0, none⟩) none, .int .i64 x] w fun e w' => Ends (num false 2 65535 x zs) (fun y ys => e = .returned (.int .i64 y) ∧ RdAt w' g h ys ∧ But (One g) w w') (fun c => e = .panicked (Halt c) ∧ But (One g) w w') := by
  have hA : After w ((w.alloc (.cells #[.pointer (some ⟨g, 0, none⟩), .pointer none] 52)).alloc (.cells #[.pointer (some ⟨g, 0, none⟩), .pointer none] 52)) := (After.rfl.alloc _).alloc _
  have HP := hideIt (u16_any _ g h zs (r.after hA))
  have hg := r.lt
  have hv : ∀ k, One g k → k < w.heap.size := fun k hk => by rw [hk]; exact hg
  have HV := hideIt hv
  have HA := hideIt hA
  by_cases hx : 2 ≤ zs.length
  · rw [rdVal_yes hx, rdErr_yes hx, rdRest_yes hx] at HP
    have E0 := hideIt (num_r (k := 2) (M := 65535) (v := x) hx)
    obtain ⟨y, hy⟩ : ∃ y, be (zs.take 2) = y := ⟨_, rfl⟩
    rw [hy] at HP E0
    clear r hA hg hv hx hy
    go_enter Try.func64, Try.ntmps64
    go_wp2_with (first | (go_at_call 73; go_in) | (go_at_call 74; refine HP.out.mono ?_; rintro e w1 ⟨rfl, h1, h2⟩; have H1 := hideIt h1; have H2 := hideIt h2; clear h1 h2))
    go_ret
    exact Ends.ok E0.out ⟨rfl, H1.out, HA.out.but.trans H2.out⟩
  · rw [rdVal_no hx, rdErr_no hx, rdRest_no hx] at HP
    have E0 := hideIt (num_rn (k := 2) (M := 65535) (v := x) hx)
    clear r hA hg hv hx
    go_enter Try.func64, Try.ntmps64
    go_wp2_with (first | (go_at_call 73; go_in) | (go_at_call 74; refine HP.out.mono ?_; rintro e w1 ⟨rfl, _, b1⟩; have hc := boxed HV.out b1; have H1 := hideIt b1; clear b1) | (go_at_call 27; refine (stop_any _ _ _ _).mono ?_; rintro e w2 ⟨rfl, h2⟩; have H2 := hideIt h2; clear h2))
    exact ⟨rfl, And.intro rfl (Ends.bad E0.out ⟨rfl, (HA.out.but.trans H1.out).trans H2.out.but⟩)⟩
theorem u32_r (w : World) (g h : Nat) (zs : List Int) (x : Int) (r : RdAt w g h zs) :
    Calls Try.prog 84 #[Co (some ⟨g, 0, none⟩) none, .int .u32 x] w fun e w' => Ends (num false 4 4294967295 x zs) (fun y ys => e = .returned (.int .u32 y) ∧ RdAt w' g h ys ∧ But (One g) w w') (fun c => e = .panicked (Halt c) ∧ But (One g) w w') := by
  have hA : After w ((w.alloc (.cells #[.pointer (some ⟨g, 0, none⟩), .pointer none] 52)).alloc (.cells #[.pointer (some ⟨g, 0, none⟩), .pointer none] 52)) := (After.rfl.alloc _).alloc _
  have HP := hideIt (u32_any _ g h zs (r.after hA))
  have hg := r.lt
  have hv : ∀ k, One g k → k < w.heap.size := fun k hk => by rw [hk]; exact hg
  have HV := hideIt hv
  have HA := hideIt hA
  by_cases hx : 4 ≤ zs.length
  · rw [rdVal_yes hx, rdErr_yes hx, rdRest_yes hx] at HP
    have E0 := hideIt (num_r (k := 4) (M := 4294967295) (v := x) hx)
    obtain ⟨y, hy⟩ : ∃ y, be (zs.take 4) = y := ⟨_, rfl⟩
    rw [hy] at HP E0
    clear r hA hg hv hx hy
    go_enter Try.func84, Try.ntmps84
    go_wp2_with (first | (go_at_call 91; go_in) | (go_at_call 92; refine HP.out.mono ?_; rintro e w1 ⟨rfl, h1, h2⟩; have H1 := hideIt h1; have H2 := hideIt h2; clear h1 h2))
    go_ret
    exact Ends.ok E0.out ⟨rfl, H1.out, HA.out.but.trans H2.out⟩
  · rw [rdVal_no hx, rdErr_no hx, rdRest_no hx] at HP
    have E0 := hideIt (num_rn (k := 4) (M := 4294967295) (v := x) hx)
    clear r hA hg hv hx
    go_enter Try.func84, Try.ntmps84
    go_wp2_with (first | (go_at_call 91; go_in) | (go_at_call 92; refine HP.out.mono ?_; rintro e w1 ⟨rfl, _, b1⟩; have hc := boxed HV.out b1; have H1 := hideIt b1; clear b1) | (go_at_call 27; refine (stop_any _ _ _ _).mono ?_; rintro e w2 ⟨rfl, h2⟩; have H2 := hideIt h2; clear h2))
    exact ⟨rfl, And.intro rfl (Ends.bad E0.out ⟨rfl, (HA.out.but.trans H1.out).trans H2.out.but⟩)⟩
end Go.Proofs.Ytigiakhdaaoljaa
