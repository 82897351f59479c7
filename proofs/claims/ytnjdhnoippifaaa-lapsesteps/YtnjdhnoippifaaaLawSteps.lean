/-
  LapseSteps.
-/
import Derived.Test.YtnjdhnoippifaaaLpS
import Derived.Test.YtnjdhnoippifaaaStpO
import Derived.Deep.Cut
import Derived.Deep.QuietTactic
import Derived.BigQuiet
namespace Go.Proofs.Ytnjdhnoippifaaa
open Go.RowKit
set_option maxRecDepth 8000
/-- What three objects answer: one, the document's, and another one; D: their own blocks. -/
structure Trio (w : World) (va vb : Value) (o : Nat) (er an : Ls → Int → Int) (D : Nat → Prop) (S : Ls → Ls → World → Prop) : Prop where
  oh : ∀ s r W t q, S s r W → Calls Try.prog 10 #[Ptr o, .int .i64 t, .bool q] W fun e w' => (∃ z, e = .returned (.int .i64 z)) ∧ S s r w' ∧ But D W w'
  ah : ∀ s r W t q, S s r W → Calls Try.prog 10 #[va, .int .i64 t, .bool q] W fun e w' => e = .returned (.int .i64 (er s t)) ∧ S (s.hear t q) r w' ∧ But D W w'
  bh : ∀ s r W t q, S s r W → Calls Try.prog 11 #[vb, .int .i64 t, .bool q] W fun e w' => e = .returned (.int .i64 (er r t)) ∧ S s (r.hear t q) w' ∧ But D W w'
  sa : ∀ s r W t, S s r W → Calls Try.prog 12 #[va, .int .i64 t] W fun e w' => e = .returned (.tuple #[.int .i64 (an s t), .int .i64 (er s t)]) ∧ S s r w' ∧ But D W w'
  sb : ∀ s r W t, S s r W → Calls Try.prog 13 #[vb, .int .i64 t] W fun e w' => e = .returned (.tuple #[.int .i64 (an r t), .int .i64 (er r t)]) ∧ S s r w' ∧ But D W w'
  aft : ∀ s r W, S s r W → After w W
  go : ∀ s r W W', S s r W → After W W' → S s r W'
  far : ∀ s r W, S s r W → ∀ i, D i → i < W.heap.size
structure Sok (w : World) (p n : Nat) (s r : Ls) (W : World) : Prop where
  aft : After w W
  wp : w.heap.size ≤ p
  a : LpX W p n s
  b : RpX W (p + 1) n r
  o : ∃ u, LpX W (p + 2) 1 u
def Tri (p : Nat) : Nat → Prop := fun i => i = p ∨ i = p + 1 ∨ i = p + 2
theorem trio_ok {w : World} {p n : Nat} : Trio w (Ptr p) (Ptr (p + 1)) (p + 2) (fun s t => s.err t) (fun s t => s.ans n t) (Tri p) (Sok w p n) where
  oh := fun s r W t q x => by
    obtain ⟨u, o⟩ := x.o
    refine (lpHeard_any o t q).mono ?_
    rintro e w' ⟨rfl, o', b⟩
    refine ⟨⟨_, rfl⟩, ⟨x.aft.then b (fun i hi t => ?_), x.wp, x.a.but b (fun t => ?_), x.b.but b (fun t => ?_), ⟨_, o'⟩⟩, b.mono (fun i _ t => .inr (.inr t))⟩
    · have : i = p + 2 := t
      have := x.wp; omega
    · have : p = p + 2 := t
      omega
    · have : p + 1 = p + 2 := t
      omega
  ah := fun s r W t q x => by
    obtain ⟨u, o⟩ := x.o
    refine (lpHeard_any x.a t q).mono ?_
    rintro e w' ⟨rfl, a', b⟩
    refine ⟨rfl, ⟨x.aft.then b (fun i hi t => ?_), x.wp, a', x.b.but b (fun t => ?_), ⟨u, o.but b (fun t => ?_)⟩⟩, b.mono (fun i _ t => .inl t)⟩
    · have : i = p := t
      have := x.wp; omega
    · have : p + 1 = p := t
      omega
    · have : p + 2 = p := t
      omega
  bh := fun s r W t q x => by
    obtain ⟨u, o⟩ := x.o
    refine (rpHeard_any x.b t q).mono ?_
    rintro e w' ⟨rfl, b', b⟩
    refine ⟨rfl, ⟨x.aft.then b (fun i hi t => ?_), x.wp, x.a.but b (fun t => ?_), b', ⟨u, o.but b (fun t => ?_)⟩⟩, b.mono (fun i _ t => .inr (.inl t))⟩
    · have : i = p + 1 := t
      have := x.wp; omega
    · have : p = p + 1 := t
      omega
    · have : p + 2 = p + 1 := t
      omega
  sa := fun s r W t x => (lpState_any x.a t).mono (fun e w' q => ⟨q.1, by rw [q.2]; exact x, by rw [q.2]; exact But.rfl⟩)
  sb := fun s r W t x => by
    obtain ⟨u, o⟩ := x.o
    refine (rpState_any x.b t).mono ?_
    rintro e w' ⟨rfl, d⟩
    exact ⟨rfl, ⟨x.aft.trans d.after, x.wp, x.a.after d.after, x.b.after d.after, u, o.after d.after⟩, d.after.but⟩
  aft := fun _ _ _ x => x.aft
  go := fun _ _ _ _ x h => by
    obtain ⟨u, o⟩ := x.o
    exact ⟨x.aft.trans h, x.wp, x.a.after h, x.b.after h, u, o.after h⟩
  far := fun _ _ _ x i t => by
    obtain ⟨u, o⟩ := x.o
    have := o.lt
    have := x.b.lt
    rcases t with t | t | t <;> omega
structure Sno (w : World) (p : Nat) (W : World) : Prop where
  aft : After w W
  wp : w.heap.size ≤ p
  o : ∃ u, LpX W p 1 u
theorem trio_no {w : World} {p : Nat} : Trio w (.pointer none) (.pointer none) p (fun _ _ => 1) (fun _ _ => 0) (One p) (fun _ _ W => Sno w p W) where
  oh := fun s r W t q x => by
    obtain ⟨u, o⟩ := x.o
    refine (lpHeard_any o t q).mono ?_
    rintro e w' ⟨rfl, o', b⟩
    refine ⟨⟨_, rfl⟩, ⟨x.aft.then b (fun i hi t => ?_), x.wp, ⟨_, o'⟩⟩, b⟩
    have : i = p := t
    have := x.wp; omega
  ah := fun s r W t q x => (lpHeard_none (lpNone_nil W) t q).mono (fun e w' q => ⟨q.1, by rw [q.2]; exact x, by rw [q.2]; exact But.rfl⟩)
  bh := fun s r W t q x => (rpHeard_nil W t q).mono (fun e w' q => ⟨q.1, by rw [q.2]; exact x, by rw [q.2]; exact But.rfl⟩)
  sa := fun s r W t x => (lpState_none (lpNone_nil W) t).mono (fun e w' q => ⟨q.1, by rw [q.2]; exact x, by rw [q.2]; exact But.rfl⟩)
  sb := fun s r W t x => (rpState_nil W t).mono (fun e w' q => ⟨q.1, by rw [q.2]; exact x, by rw [q.2]; exact But.rfl⟩)
  aft := fun _ _ _ x => x.aft
  go := fun _ _ _ _ x h => by
    obtain ⟨u, o⟩ := x.o
    exact ⟨x.aft.trans h, x.wp, u, o.after h⟩
  far := fun _ _ _ x i t => by
    obtain ⟨u, o⟩ := x.o
    have := o.lt
    have : i = p := t
    omega
/-- A step that lies in a block of its own. -/
structure Xat (g : Nat) (t : Int) (o q : Bool) (W : World) : Prop where
  lt : g < W.heap.size
  c0 : W.cell? ⟨g, 0, none⟩ = some (.int .i64 t)
  c1 : W.cell? ⟨g, 1, none⟩ = some (.bool o)
  c2 : W.cell? ⟨g, 2, none⟩ = some (.bool q)
theorem Xat.but {D : Nat → Prop} {g : Nat} {t : Int} {o q : Bool} {W W' : World} (x : Xat g t o q W) (b : But D W W') (h : ¬ D g) : Xat g t o q W' :=
  ⟨Nat.lt_of_lt_of_le x.lt b.size, (b.cell x.lt h 0).trans x.c0, (b.cell x.lt h 1).trans x.c1, (b.cell x.lt h 2).trans x.c2⟩
theorem xat_new (w : World) (t : Int) (o q : Bool) : Xat w.heap.size t o q (w.alloc (.cells #[.int .i64 t, .bool o, .bool q] 31)) := by
  have h := heap_alloc_new w (.cells #[.int .i64 t, .bool o, .bool q] 31)
  exact ⟨blk_lt h, blk_cell h rfl, blk_cell h rfl, blk_cell h rfl⟩
/-- With such a step beside. -/
theorem Trio.beside {w : World} {va vb : Value} {o : Nat} {er an : Ls → Int → Int} {D : Nat → Prop} {S : Ls → Ls → World → Prop} (T : Trio w va vb o er an D S) {g : Nat} (hg : ¬ D g) (t : Int) (f q : Bool) :
    ∃ S', Trio w va vb o er an D S' ∧ (∀ s r W, S' s r W → S s r W ∧ Xat g t f q W) ∧ (∀ s r W, S s r W → Xat g t f q W → S' s r W) := by
  refine ⟨fun s r W => S s r W ∧ Xat g t f q W, ⟨?_, ?_, ?_, ?_, ?_, ?_, ?_, ?_⟩, fun _ _ _ h => h, fun _ _ _ h k => ⟨h, k⟩⟩
  · exact fun s r W u v x => (T.oh s r W u v x.1).mono (fun _ _ h => ⟨h.1, ⟨h.2.1, x.2.but h.2.2 hg⟩, h.2.2⟩)
  · exact fun s r W u v x => (T.ah s r W u v x.1).mono (fun _ _ h => ⟨h.1, ⟨h.2.1, x.2.but h.2.2 hg⟩, h.2.2⟩)
  · exact fun s r W u v x => (T.bh s r W u v x.1).mono (fun _ _ h => ⟨h.1, ⟨h.2.1, x.2.but h.2.2 hg⟩, h.2.2⟩)
  · exact fun s r W u x => (T.sa s r W u x.1).mono (fun _ _ h => ⟨h.1, ⟨h.2.1, x.2.but h.2.2 hg⟩, h.2.2⟩)
  · exact fun s r W u x => (T.sb s r W u x.1).mono (fun _ _ h => ⟨h.1, ⟨h.2.1, x.2.but h.2.2 hg⟩, h.2.2⟩)
  · exact fun s r W x => T.aft s r W x.1
  · exact fun s r W W' x h => ⟨T.go s r W W' x.1 h, x.2.but h (fun t => t)⟩
  · exact fun s r W x => T.far s r W x.1
/-- What the three calls of New answer. -/
structure Born (w : World) (K : Int) (va vb : Value) (o : Nat) (E : Int) (W1 W2 W3 : World) : Prop where
  a : Calls Try.prog 8 #[.int .i64 K] w fun e w' => e = .returned (.tuple #[va, .int .i64 E]) ∧ w' = W1
  b : Calls Try.prog 9 #[.int .i64 K] W1 fun e w' => e = .returned (.tuple #[vb, .int .i64 E]) ∧ w' = W2
  c : Calls Try.prog 8 #[.int .i64 1] W2 fun e w' => e = .returned (.tuple #[Ptr o, .int .i64 0]) ∧ w' = W3
theorem born (w : World) (K : Int) :
    (∃ p W1 W2 W3 er an D S, Born w K (Ptr p) (Ptr (p + 1)) (p + 2) 0 W1 W2 W3 ∧ Trio w (Ptr p) (Ptr (p + 1)) (p + 2) er an D S ∧ S Ls.new Ls.new W3) ∨
    (∃ o W1 W2 W3 er an D S, Born w K (.pointer none) (.pointer none) o 2 W1 W2 W3 ∧ Trio w (.pointer none) (.pointer none) o er an D S ∧ S Ls.new Ls.new W3) := by
  by_cases hm : May K
  · left
    obtain ⟨n, rfl⟩ : ∃ n : Nat, K = (n : Int) := ⟨K.toNat, by have := hm.1; omega⟩
    have h1 : 1 ≤ n ∧ n ≤ 10000 := by have := hm.1; have := hm.2; omega
    obtain ⟨O1, hO1⟩ : ∃ O : Obj, O = .cells #[.int .i64 (n : Int), .bool false, .bool false, .int .i64 0] 43 := ⟨_, rfl⟩
    obtain ⟨O2, hO2⟩ : ∃ O : Obj, O = .cells #[.int .i64 (n : Int), .bool false, .int .i64 0, .bool false] 48 := ⟨_, rfl⟩
    obtain ⟨O3, hO3⟩ : ∃ O : Obj, O = .cells #[.int .i64 1, .bool false, .bool false, .int .i64 0] 43 := ⟨_, rfl⟩
    have z1 : (w.alloc O1).heap.size = w.heap.size + 1 := by simp
    have z2 : ((w.alloc O1).alloc O2).heap.size = w.heap.size + 2 := by simp
    have y1 := heap_alloc_new w O1
    have y2 := heap_alloc_new (w.alloc O1) O2
    have y3 := heap_alloc_new ((w.alloc O1).alloc O2) O3
    have c1 := lpNew_ok w n hm
    rw [← hO1] at c1
    have c2 := rpNew_ok (w.alloc O1) n hm
    rw [← hO2] at c2
    have c3 := lpNew_ok ((w.alloc O1).alloc O2) 1 (by unfold May; omega)
    rw [← hO3] at c3
    rw [z1] at y2 c2
    rw [z2] at y3 c3
    refine ⟨w.heap.size, _, _, _, _, _, _, _, ⟨c1, c2, c3⟩, trio_ok (w := w) (p := w.heap.size) (n := n), ((After.rfl.alloc _).alloc _).alloc _, Nat.le_refl _, ?_, ?_, ⟨Ls.new, ?_⟩⟩
    · refine lp_new ?_ h1.1 h1.2
      rw [Below.heap_alloc _ _ _ (by rw [z2]; omega), Below.heap_alloc _ _ _ (by rw [z1]; omega), y1, hO1]
    · refine rp_new ?_ h1.1 h1.2
      rw [Below.heap_alloc _ _ _ (by rw [z2]; omega), y2, hO2]
    · refine lp_new ?_ (by omega) (by omega)
      rw [y3, hO3]
      rfl
  · right
    have c1 := lpNew_no w K hm
    have c2 := rpNew_no w K hm
    have c3 := lpNew_ok w 1 (by unfold May; omega)
    refine ⟨w.heap.size, _, _, _, _, _, _, _, ⟨c1, c2, c3⟩, trio_no (w := w) (p := w.heap.size), After.rfl.alloc _, Nat.le_refl _, Ls.new, ?_⟩
    exact lp_new (heap_alloc_new w _) (by omega) (by omega)
set_option maxHeartbeats 4000000 in
theorem law_steps (w : World) (n : Int) (a : Option Addr) (k c : Nat) (zs : List Stp) (hl : SRow w a k zs) (hk : k ≤ 17592186043904) :
    Calls Try.prog 3 #[.int .i64 n, .slice a k c] w fun e w' => e = .returned (.bool true) ∧ After w w' := by
  have HL := hideIt hl
  have k0 : (k : Int) ≤ 17592186043904 := by omega
  have hb := born w n
  clear hl hk
  rcases hb with ⟨p, W1, W2, W3, er, an, D, S, bn, th, st⟩ | ⟨p, W1, W2, W3, er, an, D, S, bn, th, st⟩
  · have BN := hideIt bn
    have TH := hideIt th
    have ST := hideIt st
    clear bn th st
    go_enter Try.func3, Try.ntmps3
    go_wp2_with fail
    refine BN.out.a.mono ?_
    rintro e w' ⟨rfl, rfl⟩
    go_wp2_with fail
    refine BN.out.b.mono ?_
    rintro e w' ⟨rfl, rfl⟩
    go_wp2_with fail
    refine BN.out.c.mono ?_
    rintro e w' ⟨rfl, rfl⟩
    clear BN
    go_wp2_with fail
    go_loopw [11] (fun i wr => ∃ (q : Nat) (s : Ls), q ≤ k ∧ i = .int .i64 q ∧ S s s wr) (fun i _ => k - (intOf i).toNat)
    case atStart => exact ⟨0, Ls.new, Nat.zero_le _, rfl, ST.out⟩
    case round =>
      obtain ⟨q, s, hq, rfl, s0⟩ := hrel
      clear ST
      by_cases hqk : q < k
      · have i3 : (q : Int) < (k : Int) := by omega
        obtain ⟨b, off, x, rfl, hb, hx, hc⟩ := HL.out.cellAt hqk
        obtain ⟨c0, c1, c2⟩ := hc wr (TH.out.aft _ _ _ s0)
        obtain ⟨t, o, ask⟩ := x
        dsimp only at c0 c1 c2
        clear hc hx
        obtain ⟨S', TX, hX, hS⟩ := TH.out.beside (g := wr.heap.size) (fun h => by have := TH.out.far _ _ _ s0 _ h; omega) t o ask
        have HO := hideIt (fun u v => TX.oh s s _ u v (hS _ _ _ (TH.out.go _ _ _ _ s0 (After.rfl.alloc (.cells #[.int .i64 t, .bool o, .bool ask] 31))) (xat_new wr t o ask)))
        have TX' := hideIt TX
        have HX := hideIt hX
        clear s0 TX hX hS
        go_wp2_with fail
        refine (HO.out _ _).mono ?_
        rintro e w4 ⟨⟨z, rfl⟩, s1, -⟩
        have f1 := (HX.out _ _ _ s1).2
        generalize wr.heap.size = g at *
        obtain ⟨lt1, f10, f11, f12⟩ := f1
        clear HO c0 c1 c2
        cases ask
        · have S1 := hideIt s1
          obtain ⟨s', hs'⟩ : ∃ s', s' = s.hear t o := ⟨_, rfl⟩
          have HA := hideIt (fun W h => (TX'.out.ah s s W t o h).mono (fun e w' q => And.intro q.1 q.2.1))
          have HB := hideIt (fun W h => (TX'.out.bh s' s W t o h).mono (fun e w' q => And.intro q.1 q.2.1))
          rw [← hs'] at HA HB
          have HSA := hideIt (fun W h => TX'.out.sa s' s' W t h)
          have HSB := hideIt (fun W h => TX'.out.sb s' s' W t h)
          clear s1 hs'
          generalize er s t = X at *
          generalize er s' t = Y at *
          generalize an s' t = Z at *
          have hy : (Y != Y) = false := by simp
          have hz : (Z != Z) = false := by simp
          go_upto_region 11 with fail
          refine region_phase (by kernel_rfl) (fun i => ([.pointer (some ⟨g, 2, none⟩), .bool false, .bool true, .bool true, (Ptr p), .pointer (some ⟨g, 0, none⟩), .int .i64 t, .pointer (some ⟨g, 1, none⟩), .bool o, .int .i64 X, (Ptr (p + 1)), .pointer (some ⟨g, 0, none⟩), .int .i64 t, .pointer (some ⟨g, 1, none⟩), .bool o, .int .i64 X, .bool false]).getD i undef) 57 17 (Ph2 9 15 (S' s s) (S' s' s) (S' s' s')) _ rfl rfl (Nat.le_of_ble_eq_true rfl) (.inl ⟨rfl, rfl, TX'.out.go _ _ _ _ S1.out But.rfl.drew⟩) ?_ rfl rfl 8 rfl ?_
          · exact ⟨ph_field rfl rfl rfl rfl rfl (fun w => fieldS2 w _ _) (Ph2.keep (by decide) (by decide)),
              ph_load rfl rfl rfl rfl rfl (fun L w h => loadB (h.any (fun x => (HX.out _ _ _ x).2.c2) (fun x => (HX.out _ _ _ x).2.c2) (fun x => (HX.out _ _ _ x).2.c2))) (Ph2.keep (by decide) (by decide)),
              ph_not rfl rfl rfl rfl rfl rfl (Ph2.keep (by decide) (by decide)),
              ph_move rfl rfl rfl rfl rfl (Ph2.keep (by decide) (by decide)),
              ph_move rfl rfl rfl rfl rfl (Ph2.keep (by decide) (by decide)),
              ph_field rfl rfl rfl rfl rfl (fun w => fieldS0 w _ _) (Ph2.keep (by decide) (by decide)),
              ph_load rfl rfl rfl rfl rfl (fun L w h => loadI (h.any (fun x => (HX.out _ _ _ x).2.c0) (fun x => (HX.out _ _ _ x).2.c0) (fun x => (HX.out _ _ _ x).2.c0))) (Ph2.keep (by decide) (by decide)),
              ph_field rfl rfl rfl rfl rfl (fun w => fieldS1 w _ _) (Ph2.keep (by decide) (by decide)),
              ph_load rfl rfl rfl rfl rfl (fun L w h => loadB (h.any (fun x => (HX.out _ _ _ x).2.c1) (fun x => (HX.out _ _ _ x).2.c1) (fun x => (HX.out _ _ _ x).2.c1))) (Ph2.keep (by decide) (by decide)),
              ph_call (vs := [(Ptr p), .int .i64 t, .bool o]) rfl rfl rfl rfl (enterP Try.func10 (by kernel_rfl) (by kernel_rfl)) rfl (fun L w hd hl h => (HA.out w (h.first hl).1).mono (fun e w' q => ⟨q.1, Ph2.done1 (by decide) (h.first hl).2 q.2⟩)),
              ph_move rfl rfl rfl rfl rfl (Ph2.keep (by decide) (by decide)),
              ph_field rfl rfl rfl rfl rfl (fun w => fieldS0 w _ _) (Ph2.keep (by decide) (by decide)),
              ph_load rfl rfl rfl rfl rfl (fun L w h => loadI (h.any (fun x => (HX.out _ _ _ x).2.c0) (fun x => (HX.out _ _ _ x).2.c0) (fun x => (HX.out _ _ _ x).2.c0))) (Ph2.keep (by decide) (by decide)),
              ph_field rfl rfl rfl rfl rfl (fun w => fieldS1 w _ _) (Ph2.keep (by decide) (by decide)),
              ph_load rfl rfl rfl rfl rfl (fun L w h => loadB (h.any (fun x => (HX.out _ _ _ x).2.c1) (fun x => (HX.out _ _ _ x).2.c1) (fun x => (HX.out _ _ _ x).2.c1))) (Ph2.keep (by decide) (by decide)),
              ph_call (vs := [(Ptr (p + 1)), .int .i64 t, .bool o]) rfl rfl rfl rfl (enterP Try.func11 (by kernel_rfl) (by kernel_rfl)) rfl (fun L w hd hl h => (HB.out w (h.second (hd 9 rfl) hl)).mono (fun e w' q => ⟨q.1, Ph2.done2 (by decide) (hd 9 rfl) q.2⟩)),
              ph_bin rfl rfl rfl rfl rfl rfl (fun w => neqE _ _ _ w) (Ph2.keep (by decide) (by decide)),
              trivial⟩
          · intro w6 L hL h K' hK'
            simp only [puts, List.getD_cons_succ, List.getD_cons_zero, List.setIfInBounds_toArray, List.set_cons_succ, List.set_cons_zero, Nat.reduceAdd]
            refine pw_pick true rfl rfl (hK' _ _ ?_)
            have s3 := h.end (hL 15 (by decide))
            have f3 := (HX.out _ _ _ s3).2
            obtain ⟨lt3, f30, f31, f32⟩ := f3
            have HR := hideIt (HSA.out _ s3)
            clear h hL s3 HA HB S1 HSA hK'
            simp only [Act.put, List.getElem_toArray, List.getElem_cons_succ, List.getElem_cons_zero, List.setIfInBounds_toArray, List.set_cons_succ, List.set_cons_zero]
            go_wp2_with fail
            refine HR.out.mono ?_
            rintro e w7 ⟨rfl, s4, -⟩
            have f4 := (HX.out _ _ _ s4).2
            obtain ⟨lt4, f40, f41, f42⟩ := f4
            have HR2 := hideIt (HSB.out _ s4)
            clear s4 HR HSB lt3 f30 f31 f32
            go_wp2_with fail
            refine HR2.out.mono ?_
            rintro e w8 ⟨rfl, s5, -⟩
            have S5 := hideIt (HX.out _ _ _ s5).1
            clear s5 HR2 lt4 f40 f41 f42
            go_wp2
            go_roundw
            case rel => exact ⟨q + 1, s', by omega, by go_num, S5.out⟩
            case measure => simp [intOf]; omega
        · have S1 := hideIt (fun m => TX'.out.go _ _ _ _ s1 (After.rfl.draws m))
          have HSA := hideIt (fun W h => TX'.out.sa s s W t h)
          have HSB := hideIt (fun W h => TX'.out.sb s s W t h)
          clear s1
          generalize er s t = Y at *
          generalize an s t = Z at *
          have hy : (Y != Y) = false := by simp
          have hz : (Z != Z) = false := by simp
          go_upto_region 11 with fail
          go_quiet (fail)
          have s6 := S1.out nq
          generalize w4.drewN nq = w9 at *
          have HR := hideIt (HSA.out _ s6)
          have f3 := (HX.out _ _ _ s6).2
          obtain ⟨lt3, f30, f31, f32⟩ := f3
          clear S1 HSA s6
          go_wp2_with fail
          refine HR.out.mono ?_
          rintro e w7 ⟨rfl, s4, -⟩
          have f4 := (HX.out _ _ _ s4).2
          obtain ⟨lt4, f40, f41, f42⟩ := f4
          have HR2 := hideIt (HSB.out _ s4)
          clear s4 HR HSB lt3 f30 f31 f32
          go_wp2_with fail
          refine HR2.out.mono ?_
          rintro e w8 ⟨rfl, s5, -⟩
          have S5 := hideIt (HX.out _ _ _ s5).1
          clear s5 HR2 lt4 f40 f41 f42
          go_wp2
          go_roundw
          case rel => exact ⟨q + 1, s, by omega, by go_num, S5.out⟩
          case measure => simp [intOf]; omega
      · have i3 : ¬ (q : Int) < (k : Int) := by omega
        have HW := hideIt (works_any wr)
        have AF := hideIt (TH.out.aft _ _ _ s0)
        clear s0
        go_wp2_with fail
        refine HW.out.mono ?_
        rintro e w2 ⟨rfl, a2⟩
        have HF := hideIt (AF.out.trans a2)
        clear a2 HW AF
        go_wp2
        go_ret
        exact ⟨rfl, HF.out⟩
  · have BN := hideIt bn
    have TH := hideIt th
    have ST := hideIt st
    clear bn th st
    go_enter Try.func3, Try.ntmps3
    go_wp2_with fail
    refine BN.out.a.mono ?_
    rintro e w' ⟨rfl, rfl⟩
    go_wp2_with fail
    refine BN.out.b.mono ?_
    rintro e w' ⟨rfl, rfl⟩
    go_wp2_with fail
    refine BN.out.c.mono ?_
    rintro e w' ⟨rfl, rfl⟩
    clear BN
    go_wp2_with fail
    go_loopw [11] (fun i wr => ∃ (q : Nat) (s : Ls), q ≤ k ∧ i = .int .i64 q ∧ S s s wr) (fun i _ => k - (intOf i).toNat)
    case atStart => exact ⟨0, Ls.new, Nat.zero_le _, rfl, ST.out⟩
    case round =>
      obtain ⟨q, s, hq, rfl, s0⟩ := hrel
      clear ST
      by_cases hqk : q < k
      · have i3 : (q : Int) < (k : Int) := by omega
        obtain ⟨b, off, x, rfl, hb, hx, hc⟩ := HL.out.cellAt hqk
        obtain ⟨c0, c1, c2⟩ := hc wr (TH.out.aft _ _ _ s0)
        obtain ⟨t, o, ask⟩ := x
        dsimp only at c0 c1 c2
        clear hc hx
        obtain ⟨S', TX, hX, hS⟩ := TH.out.beside (g := wr.heap.size) (fun h => by have := TH.out.far _ _ _ s0 _ h; omega) t o ask
        have HO := hideIt (fun u v => TX.oh s s _ u v (hS _ _ _ (TH.out.go _ _ _ _ s0 (After.rfl.alloc (.cells #[.int .i64 t, .bool o, .bool ask] 31))) (xat_new wr t o ask)))
        have TX' := hideIt TX
        have HX := hideIt hX
        clear s0 TX hX hS
        go_wp2_with fail
        refine (HO.out _ _).mono ?_
        rintro e w4 ⟨⟨z, rfl⟩, s1, -⟩
        have f1 := (HX.out _ _ _ s1).2
        generalize wr.heap.size = g at *
        obtain ⟨lt1, f10, f11, f12⟩ := f1
        clear HO c0 c1 c2
        cases ask
        · have S1 := hideIt s1
          obtain ⟨s', hs'⟩ : ∃ s', s' = s.hear t o := ⟨_, rfl⟩
          have HA := hideIt (fun W h => (TX'.out.ah s s W t o h).mono (fun e w' q => And.intro q.1 q.2.1))
          have HB := hideIt (fun W h => (TX'.out.bh s' s W t o h).mono (fun e w' q => And.intro q.1 q.2.1))
          rw [← hs'] at HA HB
          have HSA := hideIt (fun W h => TX'.out.sa s' s' W t h)
          have HSB := hideIt (fun W h => TX'.out.sb s' s' W t h)
          clear s1 hs'
          generalize er s t = X at *
          generalize er s' t = Y at *
          generalize an s' t = Z at *
          have hy : (Y != Y) = false := by simp
          have hz : (Z != Z) = false := by simp
          go_upto_region 11 with fail
          refine region_phase (by kernel_rfl) (fun i => ([.pointer (some ⟨g, 2, none⟩), .bool false, .bool true, .bool true, (.pointer none), .pointer (some ⟨g, 0, none⟩), .int .i64 t, .pointer (some ⟨g, 1, none⟩), .bool o, .int .i64 X, (.pointer none), .pointer (some ⟨g, 0, none⟩), .int .i64 t, .pointer (some ⟨g, 1, none⟩), .bool o, .int .i64 X, .bool false]).getD i undef) 57 17 (Ph2 9 15 (S' s s) (S' s' s) (S' s' s')) _ rfl rfl (Nat.le_of_ble_eq_true rfl) (.inl ⟨rfl, rfl, TX'.out.go _ _ _ _ S1.out But.rfl.drew⟩) ?_ rfl rfl 8 rfl ?_
          · exact ⟨ph_field rfl rfl rfl rfl rfl (fun w => fieldS2 w _ _) (Ph2.keep (by decide) (by decide)),
              ph_load rfl rfl rfl rfl rfl (fun L w h => loadB (h.any (fun x => (HX.out _ _ _ x).2.c2) (fun x => (HX.out _ _ _ x).2.c2) (fun x => (HX.out _ _ _ x).2.c2))) (Ph2.keep (by decide) (by decide)),
              ph_not rfl rfl rfl rfl rfl rfl (Ph2.keep (by decide) (by decide)),
              ph_move rfl rfl rfl rfl rfl (Ph2.keep (by decide) (by decide)),
              ph_move rfl rfl rfl rfl rfl (Ph2.keep (by decide) (by decide)),
              ph_field rfl rfl rfl rfl rfl (fun w => fieldS0 w _ _) (Ph2.keep (by decide) (by decide)),
              ph_load rfl rfl rfl rfl rfl (fun L w h => loadI (h.any (fun x => (HX.out _ _ _ x).2.c0) (fun x => (HX.out _ _ _ x).2.c0) (fun x => (HX.out _ _ _ x).2.c0))) (Ph2.keep (by decide) (by decide)),
              ph_field rfl rfl rfl rfl rfl (fun w => fieldS1 w _ _) (Ph2.keep (by decide) (by decide)),
              ph_load rfl rfl rfl rfl rfl (fun L w h => loadB (h.any (fun x => (HX.out _ _ _ x).2.c1) (fun x => (HX.out _ _ _ x).2.c1) (fun x => (HX.out _ _ _ x).2.c1))) (Ph2.keep (by decide) (by decide)),
              ph_call (vs := [(.pointer none), .int .i64 t, .bool o]) rfl rfl rfl rfl (enterP Try.func10 (by kernel_rfl) (by kernel_rfl)) rfl (fun L w hd hl h => (HA.out w (h.first hl).1).mono (fun e w' q => ⟨q.1, Ph2.done1 (by decide) (h.first hl).2 q.2⟩)),
              ph_move rfl rfl rfl rfl rfl (Ph2.keep (by decide) (by decide)),
              ph_field rfl rfl rfl rfl rfl (fun w => fieldS0 w _ _) (Ph2.keep (by decide) (by decide)),
              ph_load rfl rfl rfl rfl rfl (fun L w h => loadI (h.any (fun x => (HX.out _ _ _ x).2.c0) (fun x => (HX.out _ _ _ x).2.c0) (fun x => (HX.out _ _ _ x).2.c0))) (Ph2.keep (by decide) (by decide)),
              ph_field rfl rfl rfl rfl rfl (fun w => fieldS1 w _ _) (Ph2.keep (by decide) (by decide)),
              ph_load rfl rfl rfl rfl rfl (fun L w h => loadB (h.any (fun x => (HX.out _ _ _ x).2.c1) (fun x => (HX.out _ _ _ x).2.c1) (fun x => (HX.out _ _ _ x).2.c1))) (Ph2.keep (by decide) (by decide)),
              ph_call (vs := [(.pointer none), .int .i64 t, .bool o]) rfl rfl rfl rfl (enterP Try.func11 (by kernel_rfl) (by kernel_rfl)) rfl (fun L w hd hl h => (HB.out w (h.second (hd 9 rfl) hl)).mono (fun e w' q => ⟨q.1, Ph2.done2 (by decide) (hd 9 rfl) q.2⟩)),
              ph_bin rfl rfl rfl rfl rfl rfl (fun w => neqE _ _ _ w) (Ph2.keep (by decide) (by decide)),
              trivial⟩
          · intro w6 L hL h K' hK'
            simp only [puts, List.getD_cons_succ, List.getD_cons_zero, List.setIfInBounds_toArray, List.set_cons_succ, List.set_cons_zero, Nat.reduceAdd]
            refine pw_pick true rfl rfl (hK' _ _ ?_)
            have s3 := h.end (hL 15 (by decide))
            have f3 := (HX.out _ _ _ s3).2
            obtain ⟨lt3, f30, f31, f32⟩ := f3
            have HR := hideIt (HSA.out _ s3)
            clear h hL s3 HA HB S1 HSA hK'
            simp only [Act.put, List.getElem_toArray, List.getElem_cons_succ, List.getElem_cons_zero, List.setIfInBounds_toArray, List.set_cons_succ, List.set_cons_zero]
            go_wp2_with fail
            refine HR.out.mono ?_
            rintro e w7 ⟨rfl, s4, -⟩
            have f4 := (HX.out _ _ _ s4).2
            obtain ⟨lt4, f40, f41, f42⟩ := f4
            have HR2 := hideIt (HSB.out _ s4)
            clear s4 HR HSB lt3 f30 f31 f32
            go_wp2_with fail
            refine HR2.out.mono ?_
            rintro e w8 ⟨rfl, s5, -⟩
            have S5 := hideIt (HX.out _ _ _ s5).1
            clear s5 HR2 lt4 f40 f41 f42
            go_wp2
            go_roundw
            case rel => exact ⟨q + 1, s', by omega, by go_num, S5.out⟩
            case measure => simp [intOf]; omega
        · have S1 := hideIt (fun m => TX'.out.go _ _ _ _ s1 (After.rfl.draws m))
          have HSA := hideIt (fun W h => TX'.out.sa s s W t h)
          have HSB := hideIt (fun W h => TX'.out.sb s s W t h)
          clear s1
          generalize er s t = Y at *
          generalize an s t = Z at *
          have hy : (Y != Y) = false := by simp
          have hz : (Z != Z) = false := by simp
          go_upto_region 11 with fail
          go_quiet (fail)
          have s6 := S1.out nq
          generalize w4.drewN nq = w9 at *
          have HR := hideIt (HSA.out _ s6)
          have f3 := (HX.out _ _ _ s6).2
          obtain ⟨lt3, f30, f31, f32⟩ := f3
          clear S1 HSA s6
          go_wp2_with fail
          refine HR.out.mono ?_
          rintro e w7 ⟨rfl, s4, -⟩
          have f4 := (HX.out _ _ _ s4).2
          obtain ⟨lt4, f40, f41, f42⟩ := f4
          have HR2 := hideIt (HSB.out _ s4)
          clear s4 HR HSB lt3 f30 f31 f32
          go_wp2_with fail
          refine HR2.out.mono ?_
          rintro e w8 ⟨rfl, s5, -⟩
          have S5 := hideIt (HX.out _ _ _ s5).1
          clear s5 HR2 lt4 f40 f41 f42
          go_wp2
          go_roundw
          case rel => exact ⟨q + 1, s, by omega, by go_num, S5.out⟩
          case measure => simp [intOf]; omega
      · have i3 : ¬ (q : Int) < (k : Int) := by omega
        have HW := hideIt (works_any wr)
        have AF := hideIt (TH.out.aft _ _ _ s0)
        clear s0
        go_wp2_with fail
        refine HW.out.mono ?_
        rintro e w2 ⟨rfl, a2⟩
        have HF := hideIt (AF.out.trans a2)
        clear a2 HW AF
        go_wp2
        go_ret
        exact ⟨rfl, HF.out⟩
end Go.Proofs.Ytnjdhnoippifaaa
