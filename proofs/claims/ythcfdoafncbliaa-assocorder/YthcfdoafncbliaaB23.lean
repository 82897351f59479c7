/-
  Laid together: LawOrder.
-/
import Derived.Test.YthcfdoafncbliaaB22
/-
  AssocOrder.
-/
namespace Go.Proofs.Ythcfdoafncbliaa
open Go.RowKit Go.Maps
set_option maxRecDepth 8000
/-- A round over the messages. -/
def R1 (a : Act) (W : World) (v0 : Value) (g n : Nat) (w : World) : Prop :=
  ∃ (k : Nat) (st : Mg), k ≤ n ∧ k ≤ 100 ∧ F0 a v0 (Ptr g) (.int .i64 (k : Int)) ∧ MgAt W All g st ∧ After w W
theorem at_exit {id : Nat} {Q : Exit → Act → World → Prop} {a : Act} {w : World} (h : Q .normal a w) : Exit.inBlock id Q (.exit id) a w := by
  show (if id = id then Q .normal a w else Q (.exit id) a w)
  rw [if_pos rfl]
  exact h
def mu4 (a : Act) (_ : World) : Nat := 100 - (intOf (a.tmps.getD 4 undef)).toNat
theorem round5 {Q : Exit → Act → World → Prop} {a : Act} {W w : World} {a0 : Option Addr} {g n c : Nat} {l : List Msg} (hI : R1 a W (.slice a0 n c) g n w) (hl : l.length = n) (hr : LstM w (Low w.heap.size) a0 l) (hg : w.heap.size ≤ g) (hK : ∀ a' W', F0 a' (.slice a0 n c) (Ptr g) (a'.tmps.getD 4 undef) → After w W' → Q (.exit 0) a' W') :
    Code.wp Try.prog (oL Try.f3) (Exit.then (fun a' w' => R1 a' w' (.slice a0 n c) g n w ∧ mu4 a' w' < mu4 a W) Q) a W := by
  obtain ⟨k, st, hkn, hk100, hf, x, aw⟩ := hI
  have hmu : mu4 a W = 100 - k := by unfold mu4; rw [hf.s4]; simp [intOf]
  rw [hmu]
  clear hmu
  rw [oL_eq]
  refine wp_seq ?_
  by_cases hgo : k < n ∧ k < 100
  · obtain ⟨hkn', hk'⟩ := hgo
    have i1 : (k : Int) < (n : Int) := by omega
    have i2 : (k : Int) < 100 := by omega
    have hM : l[k]? = some l[k] := List.getElem?_eq_getElem (by omega)
    generalize l[k] = M at hM
    obtain ⟨b, off, sa, sc, oa, oc, ba, bc, rfl, hp, hb, hcs, y, _, _⟩ := (hr.but aw (fun _ _ t => t)) k M hM
    have last : ∀ a' W' st', F0 a' (.slice (some ⟨b, off, none⟩) n c) (Ptr g) (.int .i64 (k : Int)) → MgAt W' All g st' → After w W' → Code.wp Try.prog (sq2 (sq2 (oL Try.f3))) (Exit.then (fun a' w' => R1 a' w' (.slice (some ⟨b, off, none⟩) n c) g n w ∧ mu4 a' w' < 100 - k) Q) a' W' := by
      intro a' W' st' hf x aw'
      obtain ⟨u, e⟩ := hf.lit
      subst e
      have HX := hideIt (And.intro x aw')
      clear hf x aw' hr hK aw hcs y
      conv => arg 2; whnf
      go_wp2_with fail
      refine ⟨⟨k + 1, st', by omega, by omega, ⟨rfl, rfl, rfl, rfl, by show Value.int .i64 ((k : Int) + 1) = _; rw [Int.natCast_add]; rfl⟩, HX.out.1, HX.out.2⟩, ?_⟩
      show 100 - (intOf (Value.int .i64 ((k : Int) + 1))).toNat < _
      simp [intOf]
      omega
    have body : ∀ a', F0 a' (.slice (some ⟨b, off, none⟩) n c) (Ptr g) (.int .i64 (k : Int)) → Code.wp Try.prog (.seq (.block 1 (o7 Try.f3)) (sq2 (sq2 (oL Try.f3)))) (Exit.then (fun a' w' => R1 a' w' (.slice (some ⟨b, off, none⟩) n c) g n w ∧ mu4 a' w' < 100 - k) Q) a' W := by
      intro a' hf
      refine wp_seq ?_
      refine wp_block ?_
      refine mess x hg aw hf i1 hp hcs y ?_ ?_
      · intro a2 W2 h2 x2 aw2
        exact last a2 W2 _ h2 x2 aw2
      · intro a2 W2 h2 x2 aw2
        exact at_exit (last a2 W2 _ h2 x2 aw2)
    have HB := hideIt body
    obtain ⟨u, e⟩ := hf.lit
    subst e
    clear hf x aw hr hK hcs y last body
    generalize Code.seq (.block 1 (o7 Try.f3)) (sq2 (sq2 (oL Try.f3))) = rest at *
    conv => arg 2; whnf
    go_wp2_with fail
    exact HB.out _ ⟨rfl, rfl, rfl, rfl, rfl⟩
  · have HK := hideIt hK
    have AW := hideIt aw
    obtain ⟨u, e⟩ := hf.lit
    subst e
    clear hf x aw hr hK
    have hdd : (k < n ∧ ¬ k < 100) ∨ ¬ k < n := by omega
    clear hgo
    generalize Code.seq (.block 1 (o7 Try.f3)) (sq2 (sq2 (oL Try.f3))) = rest at *
    conv => arg 2; whnf
    rcases hdd with ⟨hkn', hk'⟩ | hkn'
    · have i1 : (k : Int) < (n : Int) := by omega
      have i2 : ¬ (k : Int) < 100 := by omega
      go_wp2_with fail
      exact HK.out _ _ ⟨rfl, rfl, rfl, rfl, rfl⟩ AW.out
    · have i1 : ¬ (k : Int) < (n : Int) := by omega
      go_wp2_with fail
      exact HK.out _ _ ⟨rfl, rfl, rfl, rfl, rfl⟩ AW.out
theorem oB_eq : Try.f3.body = some (.seq (sq1 (oB Try.f3)) (.seq (sq1 (sq2 (oB Try.f3))) (.seq (sq1 (sq2 (sq2 (oB Try.f3)))) (oT Try.f3)))) := by kernel_rfl
theorem oT_eq2 : (oT Try.f3) = .seq (.seq (sq1 (sq1 (oT Try.f3))) (.block 0 (.loop (oL Try.f3)))) (sq2 (oT Try.f3)) := by kernel_rfl
theorem tail_order {w W : World} {R : Ending → World → Prop} {a : Act} {a0 : Option Addr} {g n c : Nat} {l : List Msg} (hl : l.length = n) (hr : LstM w (Low w.heap.size) a0 l) (hg : w.heap.size ≤ g) (x : MgAt W All g Mg.new) (aw : After w W) (hs : a.tmps.size = 288) (hd : a.defers = []) (h0 : a.tmps.getD 0 undef = .slice a0 n c) (h3 : a.tmps.getD 3 undef = Ptr g) (hR : ∀ W', After w W' → R (.returned (.bool true)) W') :
    Code.wp Try.prog (oT Try.f3) (bodyPost Try.prog Try.f3 R) a W := by
  rw [oT_eq2]
  refine wp_seq ?_
  refine wp_seq ?_
  have HE : Hid (∀ a' W', F0 a' (.slice a0 n c) (Ptr g) (a'.tmps.getD 4 undef) → After w W' → Code.wp Try.prog (sq2 (oT Try.f3)) (bodyPost Try.prog Try.f3 R) a' W') := by
    intro a' W' hf aw'
    obtain ⟨u, e⟩ := hf.lit
    have HR := hideIt (hR W' aw')
    generalize a'.tmps.getD 4 undef = v4 at e
    subst e
    clear hf hr hR x aw
    conv => arg 2; whnf
    go_wp2_with fail
    exact HR.out
  have HL : Hid (∀ a', F0 a' (.slice a0 n c) (Ptr g) (.int .i64 0) → Code.wp Try.prog (.block 0 (.loop (oL Try.f3))) (Exit.then (Code.wp Try.prog (sq2 (oT Try.f3)) (bodyPost Try.prog Try.f3 R)) (bodyPost Try.prog Try.f3 R)) a' W) := by
    intro a' hf
    refine wp_block ?_
    refine wp_loop (fun a W => R1 a W (.slice a0 n c) g n w) mu4 ⟨0, Mg.new, Nat.zero_le _, by omega, hf, x, aw⟩ ?_
    intro a2 W2 hI
    refine round5 hI hl hr hg ?_
    intro a3 W3 h3 aw3
    exact at_exit (HE.out a3 W3 h3 aw3)
  obtain ⟨u, hu, e⟩ := lit288 a hs hd
  have e0 := (hu 0).trans h0
  have e3 := (hu 3).trans h3
  subst e
  rw [e0, e3]
  clear hu e0 e3 hs hd h0 h3 hr hR x aw
  generalize Code.block 0 (.loop (oL Try.f3)) = rest at *
  conv => arg 2; whnf
  go_wp2_with fail
  exact HL.out _ ⟨rfl, rfl, rfl, rfl, rfl⟩
set_option maxHeartbeats 1000000 in
theorem law_order (w : World) (a : Option Addr) (n c : Nat) (l : List Msg) (hl : l.length = n) (hr : LstM w (Low w.heap.size) a l) :
    Calls Try.prog 3 #[.slice a n c] w fun e w' => e = .returned (.bool true) ∧ After w w' := by
  have HA := hideIt (awakeL_any w)
  have HT := hideIt (fun W a' g hg x aw => tail_order (W := W) (a := a') (g := g) (c := c) (R := fun e w' => e = .returned (.bool true) ∧ After w w') hl hr hg x aw)
  clear hr hl
  refine calls_of_wp Try.func3 oB_eq ?_
  generalize (oT Try.f3) = rest at *
  simp only [Try.ntmps3, List.size_toArray, List.length_cons, List.length_nil, Nat.reduceAdd, Nat.reduceSub, Array.replicate_succ, Array.replicate_zero, List.push_toArray, List.append_toArray, List.nil_append, List.cons_append]
  refine wp_seq ?_
  conv => arg 2; whnf
  go_wp2_with fail
  conv => arg 2; whnf
  go_wp2_with fail
  refine HA.out.mono ?_
  rintro e w0 ⟨rfl, a0⟩
  obtain ⟨w1, hw1⟩ : ∃ w1, w0.alloc (.cells newC 56) = w1 := ⟨_, rfl⟩
  have hN := mgNew_any w0
  rw [hw1] at hN
  have a1 : After w0 w1 := by rw [← hw1]; exact After.rfl.alloc _
  have x1 : MgAt w1 All w0.heap.size Mg.new := by rw [← hw1]; exact mg_new (new1 _ _) trivial
  have HN := hideIt hN
  have hs0 := a0.size
  have HX := hideIt (And.intro (a0.trans a1) x1)
  clear hN a1 x1 hw1 a0 HA
  go_wp2_with fail
  conv => arg 2; whnf
  go_wp2_with fail
  refine HN.out.mono ?_
  rintro e w' ⟨rfl, hw'⟩
  rw [hw']
  clear hw' HN
  go_wp2_with fail
  exact HT.out _ _ _ hs0 HX.out.2 HX.out.1 rfl rfl rfl rfl (fun W' h => ⟨trivial, h⟩)
end Go.Proofs.Ythcfdoafncbliaa
