/-
  Laid together: LawOrder, LawAgain, LawAnswers.
-/
import Derived.Test.YthcfdoafncbliaaGreatB34
import Derived.Test.YthcfdoafncbliaaGreatB23
/-
  AssocOrder.
-/
namespace Go.Proofs.YthcfdoafncbliaaGreat
open Go.RowKit Go.Maps
set_option maxRecDepth 8000
/-- A round over the messages. -/
def R1 (a : Act) (W : World) (v0 : Value) (g n : Nat) (w : World) : Prop :=
  ∃ (k : Nat) (st : Mg), k ≤ n ∧ k ≤ 100 ∧ F0 a v0 (Ptr g) (.int .i64 (k : Int)) ∧ MgAt W All g st ∧ After w W
theorem at_exit {id : Nat} {Q : Exit → Act → World → Prop} {a : Act} {w : World} (h : Q .normal a w) : Exit.inBlock id Q (.exit id) a w := by
  show (if id = id then Q .normal a w else Q (.exit id) a w)
  rw [if_pos rfl]
  exact h
def mu4 (a : Act) (_ : World) : Nat := 100 - (intOf (a.tmps.getD 4 undef)).toNat
theorem round5 {Q : Exit → Act → World → Prop} {a : Act} {W w : World} {a0 : Option Addr} {g n c : Nat} {l : List Msg} (hI : R1 a W (.slice a0 n c) g n w) (hl : l.length = n) (hr : LstM w (Low w.heap.size) a0 l) (hg : w.heap.size ≤ g) (hK : ∀ a' W', F0 a' (.slice a0 n c) (Ptr g) (a'.tmps.getD 4 undef) → After w W' → Q (.exit 0) a' W') :
    Code.wp Tryz.prog (oL Tryz.f20) (Exit.then (fun a' w' => R1 a' w' (.slice a0 n c) g n w ∧ mu4 a' w' < mu4 a W) Q) a W := by
  obtain ⟨k, st, hkn, hk100, hf, x, aw⟩ := hI
  have hmu : mu4 a W = 100 - k := by unfold mu4; rw [hf.s4]; simp [intOf]
  rw [hmu]
  clear hmu
  rw [oL_eq]
  refine wp_seq ?_
  by_cases hgo : k < n ∧ k < 100
  · obtain ⟨hkn', hk'⟩ := hgo
    have i1 : (k : Int) < (n : Int) := by omega
    have i2 : (k : Int) < 100 := by omega
    have hM : l[k]? = some l[k] := List.getElem?_eq_getElem (by omega)
    generalize l[k] = M at hM
    obtain ⟨b, off, sa, sc, oa, oc, ba, bc, rfl, hp, hb, hcs, y, _, _⟩ := (hr.but aw (fun _ _ t => t)) k M hM
    have last : ∀ a' W' st', F0 a' (.slice (some ⟨b, off, none⟩) n c) (Ptr g) (.int .i64 (k : Int)) → MgAt W' All g st' → After w W' → Code.wp Tryz.prog (sq2 (sq2 (oL Tryz.f20))) (Exit.then (fun a' w' => R1 a' w' (.slice (some ⟨b, off, none⟩) n c) g n w ∧ mu4 a' w' < 100 - k) Q) a' W' := by
      intro a' W' st' hf x aw'
      obtain ⟨u, e⟩ := hf.lit
      subst e
      have HX := hideIt (And.intro x aw')
      clear hf x aw' hr hK aw hcs y
      conv => arg 2; whnf
      go_wp2_with fail
      refine ⟨⟨k + 1, st', by omega, by omega, ⟨rfl, rfl, rfl, rfl, by show Value.int .i64 ((k : Int) + 1) = _; rw [Int.natCast_add]; rfl⟩, HX.out.1, HX.out.2⟩, ?_⟩
      show 100 - (intOf (Value.int .i64 ((k : Int) + 1))).toNat < _
      simp [intOf]
      omega
    have body : ∀ a', F0 a' (.slice (some ⟨b, off, none⟩) n c) (Ptr g) (.int .i64 (k : Int)) → Code.wp Tryz.prog (.seq (.block 1 (o7 Tryz.f20)) (sq2 (sq2 (oL Tryz.f20)))) (Exit.then (fun a' w' => R1 a' w' (.slice (some ⟨b, off, none⟩) n c) g n w ∧ mu4 a' w' < 100 - k) Q) a' W := by
      intro a' hf
      refine wp_seq ?_
      refine wp_block ?_
      refine mess x hg aw hf i1 hp hcs y ?_ ?_
      · intro a2 W2 h2 x2 aw2
        exact last a2 W2 _ h2 x2 aw2
      · intro a2 W2 h2 x2 aw2
        exact at_exit (last a2 W2 _ h2 x2 aw2)
    have HB := hideIt body
    obtain ⟨u, e⟩ := hf.lit
    subst e
    clear hf x aw hr hK hcs y last body
    generalize Code.seq (.block 1 (o7 Tryz.f20)) (sq2 (sq2 (oL Tryz.f20))) = rest at *
    conv => arg 2; whnf
    go_wp2_with fail
    exact HB.out _ ⟨rfl, rfl, rfl, rfl, rfl⟩
  · have HK := hideIt hK
    have AW := hideIt aw
    obtain ⟨u, e⟩ := hf.lit
    subst e
    clear hf x aw hr hK
    have hdd : (k < n ∧ ¬ k < 100) ∨ ¬ k < n := by omega
    clear hgo
    generalize Code.seq (.block 1 (o7 Tryz.f20)) (sq2 (sq2 (oL Tryz.f20))) = rest at *
    conv => arg 2; whnf
    rcases hdd with ⟨hkn', hk'⟩ | hkn'
    · have i1 : (k : Int) < (n : Int) := by omega
      have i2 : ¬ (k : Int) < 100 := by omega
      go_wp2_with fail
      exact HK.out _ _ ⟨rfl, rfl, rfl, rfl, rfl⟩ AW.out
    · have i1 : ¬ (k : Int) < (n : Int) := by omega
      go_wp2_with fail
      exact HK.out _ _ ⟨rfl, rfl, rfl, rfl, rfl⟩ AW.out
theorem oB_eq : Tryz.f20.body = some (.seq (sq1 (oB Tryz.f20)) (.seq (sq1 (sq2 (oB Tryz.f20))) (.seq (sq1 (sq2 (sq2 (oB Tryz.f20)))) (oT Tryz.f20)))) := by kernel_rfl
theorem oT_eq2 : (oT Tryz.f20) = .seq (.seq (sq1 (sq1 (oT Tryz.f20))) (.block 0 (.loop (oL Tryz.f20)))) (sq2 (oT Tryz.f20)) := by kernel_rfl
theorem tail_order {w W : World} {R : Ending → World → Prop} {a : Act} {a0 : Option Addr} {g n c : Nat} {l : List Msg} (hl : l.length = n) (hr : LstM w (Low w.heap.size) a0 l) (hg : w.heap.size ≤ g) (x : MgAt W All g Mg.new) (aw : After w W) (hs : a.tmps.size = 288) (hd : a.defers = []) (h0 : a.tmps.getD 0 undef = .slice a0 n c) (h3 : a.tmps.getD 3 undef = Ptr g) (hR : ∀ W', After w W' → R (.returned (.bool true)) W') :
    Code.wp Tryz.prog (oT Tryz.f20) (bodyPost Tryz.prog Tryz.f20 R) a W := by
  rw [oT_eq2]
  refine wp_seq ?_
  refine wp_seq ?_
  have HE : Hid (∀ a' W', F0 a' (.slice a0 n c) (Ptr g) (a'.tmps.getD 4 undef) → After w W' → Code.wp Tryz.prog (sq2 (oT Tryz.f20)) (bodyPost Tryz.prog Tryz.f20 R) a' W') := by
    intro a' W' hf aw'
    obtain ⟨u, e⟩ := hf.lit
    have HR := hideIt (hR W' aw')
    generalize a'.tmps.getD 4 undef = v4 at e
    subst e
    clear hf hr hR x aw
    conv => arg 2; whnf
    go_wp2_with fail
    exact HR.out
  have HL : Hid (∀ a', F0 a' (.slice a0 n c) (Ptr g) (.int .i64 0) → Code.wp Tryz.prog (.block 0 (.loop (oL Tryz.f20))) (Exit.then (Code.wp Tryz.prog (sq2 (oT Tryz.f20)) (bodyPost Tryz.prog Tryz.f20 R)) (bodyPost Tryz.prog Tryz.f20 R)) a' W) := by
    intro a' hf
    refine wp_block ?_
    refine wp_loop (fun a W => R1 a W (.slice a0 n c) g n w) mu4 ⟨0, Mg.new, Nat.zero_le _, by omega, hf, x, aw⟩ ?_
    intro a2 W2 hI
    refine round5 hI hl hr hg ?_
    intro a3 W3 h3 aw3
    exact at_exit (HE.out a3 W3 h3 aw3)
  obtain ⟨u, hu, e⟩ := lit288 a hs hd
  have e0 := (hu 0).trans h0
  have e3 := (hu 3).trans h3
  subst e
  rw [e0, e3]
  clear hu e0 e3 hs hd h0 h3 hr hR x aw
  generalize Code.block 0 (.loop (oL Tryz.f20)) = rest at *
  conv => arg 2; whnf
  go_wp2_with fail
  exact HL.out _ ⟨rfl, rfl, rfl, rfl, rfl⟩
set_option maxHeartbeats 1000000 in
theorem law_order (w : World) (a : Option Addr) (n c : Nat) (l : List Msg) (hl : l.length = n) (hr : LstM w (Low w.heap.size) a l) :
    Calls Tryz.prog 20 #[.slice a n c] w fun e w' => e = .returned (.bool true) ∧ After w w' := by
  have HA := hideIt (awakeL_any w)
  have HT := hideIt (fun W a' g hg x aw => tail_order (W := W) (a := a') (g := g) (c := c) (R := fun e w' => e = .returned (.bool true) ∧ After w w') hl hr hg x aw)
  clear hr hl
  refine calls_of_wp Tryz.func20 oB_eq ?_
  generalize (oT Tryz.f20) = rest at *
  simp only [Tryz.ntmps20, List.size_toArray, List.length_cons, List.length_nil, Nat.reduceAdd, Nat.reduceSub, Array.replicate_succ, Array.replicate_zero, List.push_toArray, List.append_toArray, List.nil_append, List.cons_append]
  refine wp_seq ?_
  conv => arg 2; whnf
  go_wp2_with fail
  conv => arg 2; whnf
  go_wp2_with fail
  refine HA.out.mono ?_
  rintro e w0 ⟨rfl, a0⟩
  obtain ⟨w1, hw1⟩ : ∃ w1, w0.alloc (.cells newC 51) = w1 := ⟨_, rfl⟩
  have hN := mgNew_any w0
  rw [hw1] at hN
  have a1 : After w0 w1 := by rw [← hw1]; exact After.rfl.alloc _
  have x1 : MgAt w1 All w0.heap.size Mg.new := by rw [← hw1]; exact mg_new (new1 _ _) trivial
  have HN := hideIt hN
  have hs0 := a0.size
  have HX := hideIt (And.intro (a0.trans a1) x1)
  clear hN a1 x1 hw1 a0 HA
  go_wp2_with fail
  conv => arg 2; whnf
  go_wp2_with fail
  refine HN.out.mono ?_
  rintro e w' ⟨rfl, hw'⟩
  rw [hw']
  clear hw' HN
  go_wp2_with fail
  exact HT.out _ _ _ hs0 HX.out.2 HX.out.1 rfl rfl rfl rfl (fun W' h => ⟨trivial, h⟩)
end Go.Proofs.YthcfdoafncbliaaGreat
/-
  AssocAgain.
-/
namespace Go.Proofs.YthcfdoafncbliaaGreat
open Go.RowKit Go.Maps
set_option maxRecDepth 8000
def Nt (h : Nat) : Nat → Prop := fun k => k ≠ h
/-- Two managers, apart. -/
structure Pr (w : World) (g h : Nat) (s t : Mg) : Prop where
  m : MgAt w (Nt h) g s
  n : MgAt w (Nt g) h t
  ne : g ≠ h
  lh : h < w.heap.size
  lg : g < w.heap.size
theorem Pr.after {w w' : World} {g h : Nat} {s t : Mg} (x : Pr w g h s t) (a : After w w') : Pr w' g h s t := ⟨x.m.after a, x.n.after a, x.ne, Nat.lt_of_lt_of_le x.lh a.size, Nat.lt_of_lt_of_le x.lg a.size⟩
theorem Pr.stepM {w w' : World} {g h : Nat} {s t : Mg} {e : Ending} {o : Out} (x : Pr w g h s t) (y : Steps w w' (Nt h) g e o) : Pr w' g h o.st t :=
  ⟨y.2.1.mono (fun k hk => by rcases hk with hk | hk; exact hk; intro e; have := x.lh; omega), x.n.but y.2.2 (fun k hk e => hk e), x.ne, Nat.lt_of_lt_of_le x.lh y.2.2.size, Nat.lt_of_lt_of_le x.lg y.2.2.size⟩
theorem Pr.stepN {w w' : World} {g h : Nat} {s t : Mg} {e : Ending} {o : Out} (x : Pr w g h s t) (y : Steps w w' (Nt g) h e o) : Pr w' g h s o.st :=
  ⟨x.m.but y.2.2 (fun k hk e => hk e), y.2.1.mono (fun k hk => by rcases hk with hk | hk; exact hk; intro e; have := x.lg; omega), x.ne, Nat.lt_of_lt_of_le x.lh y.2.2.size, Nat.lt_of_lt_of_le x.lg y.2.2.size⟩
def abtM (r : Int) : Msg := ⟨58880, [], 0, 0, r, [], []⟩
theorem h_abt (st : Mg) {r : Int} (h : 0 ≤ r ∧ r ≤ 65535) : handle st (abtM r) = abtF := by
  have hok : okB (abtM r) = true := ans_ok (a := ⟨58880, 0, 0, r⟩) (.inr (.inr (.inl rfl))) wd0 wd0 (decide_eq_true h) (fun _ _ => ⟨rfl, rfl⟩) (fun h => by rcases h with h | h <;> cases h)
  unfold handle
  rw [if_pos hok]
  rfl
theorem i64_and7 (n : Int) : Go.bits .and .i64 n 7 = n % 8 := by
  have h7 : (BitVec.ofInt 64 7).toNat = 2 ^ 3 - 1 := by decide
  have key : (BitVec.ofInt 64 n &&& BitVec.ofInt 64 7).toNat = (n % ((2 ^ 64 : Nat) : Int)).toNat % 2 ^ 3 := by
    rw [BitVec.toNat_and, BitVec.toNat_ofInt, h7, Nat.and_two_pow_sub_one_eq_mod]
  show IntKind.i64.wrap ((BitVec.ofInt 64 n &&& BitVec.ofInt 64 7).toNat : Nat) = n % 8
  rw [key, IntKind.wrap_i64]
  omega
set_option maxHeartbeats 4000000 in
theorem law_again (w : World) (a : Option Addr) (n c : Nat) (l : List Msg) (hl : l.length = n) (hr : LstM w (Low w.heap.size) a l) (a' : Option Addr) (n' c' : Nat) (l' : List Msg) (hl' : l'.length = n') (hr' : LstM w (Low w.heap.size) a' l') :
    Calls Tryz.prog 21 #[.slice a n c, .slice a' n' c'] w fun e w' => e = .returned (.bool true) ∧ After w w' := by
  have HA := hideIt (awakeL_any w)
  have HR := hideIt (And.intro hr hl)
  have HR' := hideIt (And.intro hr' hl')
  clear hr hl hr' hl'
  go_enter Tryz.func21, Tryz.ntmps21
  go_wp2_with fail
  refine HA.out.mono ?_
  rintro e w0 ⟨rfl, a0⟩
  obtain ⟨w1, hw1⟩ : ∃ w1, w0.alloc (.cells newC 51) = w1 := ⟨_, rfl⟩
  obtain ⟨w2, hw2⟩ : ∃ w2, w1.alloc (.cells newC 51) = w2 := ⟨_, rfl⟩
  have hN := mgNew_any w0
  have hN2 := mgNew_any w1
  rw [hw1] at hN
  rw [hw2] at hN2
  have a1 : After w0 w1 := by rw [← hw1]; exact After.rfl.alloc _
  have a2 : After w1 w2 := by rw [← hw2]; exact After.rfl.alloc _
  have hs1 : w1.heap.size = w0.heap.size + 1 := by rw [← hw1, World.size_alloc]
  have hs2 : w2.heap.size = w1.heap.size + 1 := by rw [← hw2, World.size_alloc]
  have g1 : w1.heap[w0.heap.size]? = some (.cells newC 51 (0, 0)) := by rw [← hw1]; exact new1 _ _
  have g2 : w2.heap[w1.heap.size]? = some (.cells newC 51 (0, 0)) := by rw [← hw2]; exact new1 _ _
  have hs0 := a0.size
  have x2 : Pr w2 w0.heap.size w1.heap.size Mg.new Mg.new := ⟨mg_new (keep3 g1 a2) (fun e => by omega), mg_new g2 (fun e => by omega), by omega, by omega, by omega⟩
  have HN := hideIt hN
  have HN2 := hideIt hN2
  have HX := hideIt (And.intro ((a0.trans a1).trans a2) x2)
  have hgw : w.heap.size ≤ w0.heap.size ∧ w.heap.size ≤ w1.heap.size := by omega
  clear hN hN2 a1 a2 x2 hw1 hw2 a0 HA hs1 hs2 g1 g2 hs0
  generalize hgg : w0.heap.size = g at *
  generalize hhh : w1.heap.size = h at *
  clear hgg hhh
  obtain ⟨hgw, hhw⟩ := hgw
  go_wp2_with (first | (go_at_call 5; refine HN.out.mono ?_; rintro e w' ⟨rfl, rfl⟩; clear HN) | (go_at_call 5; refine HN2.out.mono ?_; rintro e w' ⟨rfl, rfl⟩))
  clear HN2
  go_loopw [7] (fun i W => ∃ (k : Nat) (st : Mg), k ≤ n ∧ k ≤ 60 ∧ i = .int .i64 k ∧ Pr W g h st Mg.new ∧ After w W) (fun i _ => 60 - (intOf i).toNat)
  case atStart => exact ⟨0, Mg.new, Nat.zero_le _, by omega, rfl, HX.out.2, HX.out.1⟩
  case round =>
    obtain ⟨k, st, hkn, hk60, rfl, x, aw⟩ := hrel
    by_cases hgo : k < n ∧ k < 60
    · obtain ⟨hkn', hk'⟩ := hgo
      have i1 : (k : Int) < (n : Int) := by omega
      have i2 : (k : Int) < 60 := by omega
      obtain ⟨hr, hl⟩ := HR.out
      have hM : l[k]? = some l[k] := List.getElem?_eq_getElem (by omega)
      generalize l[k] = M at hM
      obtain ⟨b, off, sa, sc, oa, oc, ba, bc, rfl, hp, hb, ⟨c0, c1, c2, c3, c4, c5, c6⟩, y, _, _⟩ := (hr.but aw (fun _ _ t => t)) k M hM
      have H1 := hideIt (handle_any x.m M sa sc oa oc ba bc y (fun h => by unfold Low at h; omega) (fun k h => Nat.lt_of_lt_of_le h aw.size))
      have HY := hideIt (And.intro aw x)
      rw [show M.val sa sc oa oc ba bc = .agg #[.int .i64 M.kind, .slice sa M.sys.length sc, .int .i64 M.config, .int .i64 M.result, .int .i64 M.reason, .slice oa M.objs.length oc, .slice ba M.obs.length bc] from rfl] at H1
      generalize handle st M = O at *
      clear x aw hr hl hM y hp
      generalize M.kind = mk at *
      generalize M.sys.length = n1 at *
      generalize M.config = mc at *
      generalize M.result = mr at *
      generalize M.reason = mq at *
      generalize M.objs.length = n2 at *
      generalize M.obs.length = n3 at *
      go_wp2_with fail
      refine H1.out.mono ?_
      rintro e w2 hst
      have x2 := HY.out.2.stepM hst
      obtain ⟨⟨v1, v2, rfl, _, _⟩, _, b2⟩ := hst
      have HX2 := hideIt (And.intro x2 (show After w w2 from HY.out.1.but.then b2 (fun i hi e => by cases e; omega)))
      clear HY x2 b2 H1 c0 c1 c2 c3 c4 c5 c6
      go_wp2_with fail
      go_roundw
      case rel => exact ⟨k + 1, _, by omega, by omega, by go_num, HX2.out.1, HX2.out.2⟩
      case measure => simp [intOf]; omega
    · have hs := aw.size
      have HY := hideIt (And.intro aw x)
      clear x aw
      have H7 := hideIt (i64_and7 (n : Int))
      have hr7 : 0 ≤ (n : Int) % 8 ∧ (n : Int) % 8 ≤ 65535 := by omega
      have H2 := hideIt (handle_any HY.out.2.m (abtM ((n : Int) % 8)) none 0 none 0 none 0 (MsgX.nils _ Non _ _ _ _) (fun h => h) (fun k h => h.elim))
      rw [h_abt st hr7] at H2
      rw [show (abtM ((n : Int) % 8)).val none 0 none 0 none 0 = .agg #[.int .i64 58880, .slice none 0 0, .int .i64 0, .int .i64 0, .int .i64 ((n : Int) % 8), .slice none 0 0, .slice none 0 0] from rfl] at H2
      clear hr7
      have hdd : (k < n ∧ ¬ k < 60) ∨ ¬ k < n := by omega
      clear hgo
      rcases hdd with ⟨hkn', hk'⟩ | hkn'
      all_goals
        try have i1 : (k : Int) < (n : Int) := by omega
        try have i1 : ¬ (k : Int) < (n : Int) := by omega
        try have i2 : ¬ (k : Int) < 60 := by omega
        go_wp2_with fail
        rw [H7.out]
        refine H2.out.mono ?_
        rintro e w3 hst
        have x3 := HY.out.2.stepM hst
        obtain ⟨⟨v1, v2, rfl, hv1, sa, sc, hv2, _⟩, _, b3⟩ := hst
        obtain rfl : v1 = .slice none 0 0 := hv1
        obtain rfl : v2 = .slice sa 0 sc := hv2
        have HS := hideIt (mgState_any x3.m)
        have HX3 := hideIt (And.intro x3 (show After w w3 from HY.out.1.but.then b3 (fun i hi e => by cases e; omega)))
        clear x3 b3 H2 HY H7 i1 hs
        try clear i2
        have hst0 : (abtF.st).state = 0 := rfl
        rw [hst0] at HS
        go_wp2_with (go_at_call 12; refine HS.out.mono ?_; rintro e w' ⟨rfl, rfl⟩)
        clear HS hst0
        go_loopw [11] (fun i W => ∃ (k : Nat) (st : Mg), k ≤ n' ∧ k ≤ 60 ∧ i = .int .i64 k ∧ Pr W g h st st ∧ After w W) (fun i _ => 60 - (intOf i).toNat)
        case atStart => exact ⟨0, Mg.new, Nat.zero_le _, by omega, rfl, HX3.out.1, HX3.out.2⟩
        case round =>
          clear HX3
          obtain ⟨j, st, hjn, hj60, rfl, x, aw⟩ := hrel
          by_cases hgo : j < n' ∧ j < 60
          · obtain ⟨hjn', hj'⟩ := hgo
            have i1 : (j : Int) < (n' : Int) := by omega
            have i2 : (j : Int) < 60 := by omega
            obtain ⟨hr, hl⟩ := HR'.out
            have hM : l'[j]? = some l'[j] := List.getElem?_eq_getElem (by omega)
            generalize l'[j] = M at hM
            obtain ⟨b, off, sa, sc, oa, oc, ba, bc, rfl, hp, hb, ⟨c0, c1, c2, c3, c4, c5, c6⟩, y, _, _⟩ := (hr.but aw (fun _ _ t => t)) j M hM
            have H1 := hideIt (handle_any x.m M sa sc oa oc ba bc y (fun h => by unfold Low at h; omega) (fun k h => Nat.lt_of_lt_of_le h aw.size))
            have HY := hideIt (And.intro aw (And.intro x (And.intro y (And.intro hb (And.intro hp (And.intro c0 (And.intro c1 (And.intro c2 (And.intro c3 (And.intro c4 (And.intro c5 c6)))))))))))
            have h64 := handle_sm (st := st) y.bb
            have HV := hideIt (show M.val sa sc oa oc ba bc = .agg #[.int .i64 M.kind, .slice sa M.sys.length sc, .int .i64 M.config, .int .i64 M.result, .int .i64 M.reason, .slice oa M.objs.length oc, .slice ba M.obs.length bc] from rfl)
            rw [HV.out] at H1
            have HH := hideIt (fun W (xx : MgAt W (Nt g) h st) (yy : MsgX W (Low w.heap.size) M sa sc oa oc ba bc) hn hl => handle_any xx M sa sc oa oc ba bc yy hn hl)
            rw [HV.out] at HH
            generalize handle st M = O at *
            clear x aw hr hl hM y hp HV
            generalize M.kind = mk at *
            generalize M.sys.length = n1 at *
            generalize M.config = mc at *
            generalize M.result = mr at *
            generalize M.reason = mq at *
            generalize M.objs.length = n2 at *
            generalize M.obs.length = n3 at *
            go_wp2_with fail
            refine H1.out.mono ?_
            rintro e w2 hst
            obtain ⟨aw, x, y, hb, hp, q0, q1, q2, q3, q4, q5, q6⟩ := HY.out
            have x2 := x.stepM hst
            obtain ⟨⟨v1, v2, rfl, hv1, hv2⟩, _, b2⟩ := hst
            have hbg : ¬ One g b := fun e => by cases e; unfold Low at hp; omega
            rw [← b2.cell hb hbg] at q0 q1 q2 q3 q4 q5 q6
            have y2 := y.but b2 (low_but hgw)
            have H3 := hideIt (HH.out w2 x2.n y2 (fun h => by unfold Low at h; omega) (fun k h => by unfold Low at h; have := aw.size; have := b2.size; omega))
            have hbl : b < w2.heap.size := Nat.lt_of_lt_of_le hb b2.size
            have HX2 := hideIt (And.intro x2 (And.intro (show After w w2 from aw.but.then b2 (fun i hi e => by cases e; omega)) (And.intro hv1 (And.intro hv2 (And.intro aw.size (And.intro x.lg x.lh))))))
            clear HY x2 b2 hv1 hv2 H1 c0 c1 c2 c3 c4 c5 c6 aw x y hb hp y2 HH hbg
            go_wp2_with fail
            refine H3.out.mono ?_
            rintro e w4 hst
            obtain ⟨x2, a2, hv1, hv2, sz0, lg, lh⟩ := HX2.out
            have x4 := x2.stepN hst
            obtain ⟨⟨u1, u2, rfl, hu1, hu2⟩, _, b4⟩ := hst
            have h2s := a2.size
            have hv1' := hv1.but b4 (fun k hk e => by cases e; omega)
            have hv2' := hv2.but b4 (fun k hk e => by cases e; omega)
            have HX4 := hideIt (And.intro x4 (show After w w4 from a2.but.then b4 (fun i hi e => by cases e; omega)))
            have HSm := hideIt (mgState_any x4.m)
            have HSn := hideIt (mgState_any x4.n)
            have HOm := hideIt (mgObjs_any x4.m)
            have HOn := hideIt (fun W (aW : After w4 W) => mgObjs_any (x4.after aW).n)
            obtain ⟨sa1, sc1, rfl, r1, _, _⟩ := hv2'
            obtain ⟨sa2, sc2, rfl, r2, _, _⟩ := hu2
            obtain ⟨av1, cv1, rfl, k1⟩ := ans_gen hv1'
            obtain ⟨av2, cv2, rfl, k2⟩ := ans_gen hu1
            have hm1 := an_le O.an
            have HR1 := hideIt r1
            have HR2 := hideIt r2
            have HK := hideIt (And.intro k1 (And.intro k2 (show 0 < O.an.toList.length → ∃ a, O.an = some a from an_some)))
            clear x2 a2 hv1 hv2 b4 x4 HX2 H3 q0 q1 q2 q3 q4 q5 q6 hbl h2s hv1' hu1 r1 r2 k1 k2
            obtain ⟨st', an, sm, er⟩ := O
            dsimp only at HSm HSn HOm HOn HX4 HR1 HR2 HK hm1 h64 ⊢
            generalize hm : an.toList.length = m at *
            generalize hns : sm.length = ns at *
            have HL := hideIt (And.intro hm hns)
            clear hm hns
            go_wp2_with fail
            refine HSm.out.mono ?_
            rintro e w' ⟨rfl, rfl⟩
            go_wp2_with fail
            refine HSn.out.mono ?_
            rintro e w'' ⟨rfl, rfl⟩
            go_wp2_with fail
            refine HOm.out.mono ?_
            rintro e w5 ⟨o5, rfl, ho5, a5⟩
            obtain ⟨oa5, oc5, rfl, _, _, _⟩ := own_rowT ho5
            have HO5 := hideIt (HOn.out w5 a5)
            have A5 := hideIt a5
            clear ho5 a5 HOm HOn HSm HSn
            go_wp2_with fail
            refine HO5.out.mono ?_
            rintro e w6 ⟨o6, rfl, ho6, a6⟩
            obtain ⟨oa6, oc6, rfl, _, _, _⟩ := own_rowT ho6
            have A6 := hideIt (A5.out.trans a6)
            clear ho6 a6 A5 HO5
            go_wp2_with fail
            go_loopw [18] (fun i W => ∃ p : Nat, p ≤ m ∧ i = .int .i64 p ∧ After w6 W) (fun i _ => m - (intOf i).toNat)
            case atStart => exact ⟨0, Nat.zero_le _, rfl, After.rfl⟩
            case round =>
              obtain ⟨p, hpm, rfl, aw6⟩ := hrel
              by_cases hp0 : p < m
              · obtain rfl : p = 0 := by omega
                obtain rfl : m = 1 := by omega
                obtain ⟨k1, k2, k3⟩ := HK.out
                obtain ⟨an', rfl⟩ := k3 (by omega)
                obtain ⟨b1, rfl, _, e1⟩ := k1 _ rfl
                obtain ⟨b2, rfl, _, e2⟩ := k2 _ rfl
                obtain ⟨bl1, ⟨d0, _, d2, d3, d4, _, _⟩, _⟩ := seven_at (keep3 e1 (A6.out.trans aw6))
                obtain ⟨bl2, ⟨f0, _, f2, f3, f4, _, _⟩, _⟩ := seven_at (keep3 e2 (A6.out.trans aw6))
                obtain ⟨ak, ac, ar, aq⟩ := an'
                dsimp only at d0 d2 d3 d4 f0 f2 f3 f4
                have z1 : (ak != ak) = false := by simp
                have z2 : (ac != ac) = false := by simp
                have z3 : (ar != ar) = false := by simp
                have z4 : (aq != aq) = false := by simp
                have AW := hideIt aw6
                clear k1 k2 k3 e1 e2 aw6
                go_wp2_with fail
                go_quiet (fail)
                have AW2 := hideIt (AW.out.draws nq)
                generalize wr.drewN nq = W9 at *
                clear d0 d2 d3 d4 f0 f2 f3 f4 AW
                go_wp2_with fail
                go_roundw
                case rel => exact ⟨1, by omega, by go_num, AW2.out⟩
                case measure => simp [intOf]
              · obtain rfl : p = m := by omega
                have ip : ¬ (p : Int) < (p : Int) := by omega
                have AW := hideIt aw6
                clear aw6 hp0
                go_wp2_with fail
                go_loopw [19] (fun i W => ∃ q : Nat, q ≤ ns ∧ i = .int .i64 q ∧ After w6 W) (fun i _ => ns - (intOf i).toNat)
                case atStart => exact ⟨0, Nat.zero_le _, rfl, AW.out⟩
                case round =>
                  obtain ⟨q, hq, rfl, aw7⟩ := hrel
                  have hns := HL.out.2
                  by_cases hq0 : q < ns
                  · have iq : (q : Int) < (ns : Int) := by omega
                    have hsq : sm[q]? = some sm[q] := List.getElem?_eq_getElem (by omega)
                    generalize sm[q] = sq at hsq
                    obtain ⟨b1, o1, rfl, l1, d0, d1, d2, d3⟩ := (HR1.out.but (A6.out.trans aw7) (fun _ _ t => t)) q sq hsq
                    obtain ⟨b2, o2, rfl, l2, f0, f1, f2, f3⟩ := (HR2.out.but (A6.out.trans aw7) (fun _ _ t => t)) q sq hsq
                    obtain ⟨s0, s1, s2, s3⟩ := sq
                    dsimp only at d0 d1 d2 d3 f0 f1 f2 f3
                    have hnq := neqS s0 s1 s2 s3
                    have AW2 := hideIt aw7
                    clear aw7 hsq AW
                    go_wp2_with fail
                    go_quiet (fail)
                    have AW3 := hideIt (AW2.out.draws nq)
                    generalize wr.drewN nq = W9 at *
                    clear d0 d1 d2 d3 f0 f1 f2 f3 AW2
                    go_wp2_with fail
                    go_roundw
                    case rel => exact ⟨q + 1, by omega, by go_num, AW3.out⟩
                    case measure => simp [intOf]; omega
                  · obtain rfl : q = ns := by omega
                    have iq : ¬ (q : Int) < (q : Int) := by omega
                    have AW2 := hideIt aw7
                    clear aw7 hq0 AW hns
                    go_wp2_with fail
                    go_roundw
                    case rel =>
                      obtain ⟨x4, a4⟩ := HX4.out
                      exact ⟨j + 1, st', by omega, by omega, by go_num, x4.after (A6.out.trans AW2.out), a4.trans (A6.out.trans AW2.out)⟩
                    case measure => simp [intOf]; omega
          · have AW := hideIt aw
            clear x aw
            have hdd : (j < n' ∧ ¬ j < 60) ∨ ¬ j < n' := by omega
            clear hgo
            rcases hdd with ⟨hjn', hj'⟩ | hjn'
            · have i1 : (j : Int) < (n' : Int) := by omega
              have i2 : ¬ (j : Int) < 60 := by omega
              go_wp2_with fail
              go_ret
              exact ⟨rfl, AW.out⟩
            · have i1 : ¬ (j : Int) < (n' : Int) := by omega
              go_wp2_with fail
              go_ret
              exact ⟨rfl, AW.out⟩
end Go.Proofs.YthcfdoafncbliaaGreat
/-
  AssocAnswers.
-/
namespace Go.Proofs.YthcfdoafncbliaaGreat
open Go.RowKit Go.Maps
set_option maxRecDepth 8000
set_option maxHeartbeats 2000000 in
theorem law_answers (w : World) (a : Option Addr) (n c : Nat) (l : List Msg) (hl : l.length = n) (hr : LstM w (Low w.heap.size) a l) :
    Calls Tryz.prog 22 #[.slice a n c] w fun e w' => e = .returned (.bool true) ∧ After w w' := by
  have HA := hideIt (awakeL_any w)
  have HR := hideIt (And.intro hr hl)
  clear hr hl
  go_enter Tryz.func22, Tryz.ntmps22
  go_wp2_with fail
  refine HA.out.mono ?_
  rintro e w0 ⟨rfl, a0⟩
  obtain ⟨w1, hw1⟩ : ∃ w1, w0.alloc (.cells newC 51) = w1 := ⟨_, rfl⟩
  have hN := mgNew_any w0
  rw [hw1] at hN
  have a1 : After w0 w1 := by rw [← hw1]; exact After.rfl.alloc _
  have x1 : MgAt w1 All w0.heap.size Mg.new := by rw [← hw1]; exact mg_new (new1 _ _) trivial
  have HN := hideIt hN
  have hs0 := a0.size
  have HX := hideIt (And.intro (a0.trans a1) x1)
  clear hN a1 x1 hw1 a0 HA
  go_wp2_with (go_at_call 5; refine HN.out.mono ?_; rintro e w' ⟨rfl, rfl⟩)
  clear HN
  generalize hg : w0.heap.size = g at *
  clear hg
  go_loopw [4] (fun i W => ∃ (k : Nat) (st : Mg), k ≤ n ∧ k ≤ 100 ∧ i = .int .i64 k ∧ MgAt W All g st ∧ After w W) (fun i _ => 100 - (intOf i).toNat)
  case atStart => exact ⟨0, Mg.new, Nat.zero_le _, by omega, rfl, HX.out.2, HX.out.1⟩
  case round =>
    obtain ⟨k, st, hkn, hk100, rfl, x, aw⟩ := hrel
    by_cases hkn' : k < n
    · by_cases hk' : k < 100
      · have i1 : (k : Int) < (n : Int) := by omega
        have i2 : (k : Int) < 100 := by omega
        obtain ⟨hr, hl⟩ := HR.out
        have hM : l[k]? = some l[k] := List.getElem?_eq_getElem (by omega)
        generalize l[k] = M at hM
        obtain ⟨b, off, sa, sc, oa, oc, ba, bc, rfl, hp, hb, ⟨c0, c1, c2, c3, c4, c5, c6⟩, y, _, _⟩ := (hr.but aw (fun _ _ t => t)) k M hM
        have H1 := hideIt (handle_any x M sa sc oa oc ba bc y (fun h => by unfold Low at h; omega) (fun k h => Nat.lt_of_lt_of_le h aw.size))
        have hok := handle_ans (st := st) y.bb
        have HY := hideIt aw
        rw [show M.val sa sc oa oc ba bc = .agg #[.int .i64 M.kind, .slice sa M.sys.length sc, .int .i64 M.config, .int .i64 M.result, .int .i64 M.reason, .slice oa M.objs.length oc, .slice ba M.obs.length bc] from rfl] at H1
        generalize handle st M = O at *
        clear x aw hr hl hM y hp
        generalize M.kind = mk at *
        generalize M.sys.length = n1 at *
        generalize M.config = mc at *
        generalize M.result = mr at *
        generalize M.reason = mq at *
        generalize M.objs.length = n2 at *
        generalize M.obs.length = n3 at *
        obtain ⟨st', an, sm, er⟩ := O
        dsimp only at hok
        go_wp2_with fail
        refine H1.out.mono ?_
        rintro e w2 ⟨⟨v1, v2, rfl, hv1, hv2⟩, x2, b2⟩
        have HX2 := hideIt (And.intro (x2.mono (T := All) (fun _ _ => trivial)) (show After w w2 from HY.out.but.then b2 (fun i hi e => by cases e; omega)))
        clear HY x2 b2 hv2 H1 c0 c1 c2 c3 c4 c5 c6
        cases an with
        | none =>
          obtain rfl : v1 = .slice none 0 0 := hv1
          go_wp2_with fail
          go_loopw [8] (fun i W => i = .int .i64 0 ∧ W = w2) (fun _ _ => 0)
          case atStart => exact ⟨rfl, rfl⟩
          case round =>
            obtain ⟨rfl, rfl⟩ := hrel
            go_wp2_with fail
            go_roundw
            case rel => exact ⟨k + 1, st', by omega, by omega, by go_num, HX2.out.1, HX2.out.2⟩
            case measure => simp [intOf]; omega
        | some an =>
          obtain ⟨b', rfl, hb', hc'⟩ := ans_at hv1
          obtain ⟨zs, hzs⟩ := ok_pack hok
          obtain ⟨ak, ac, ar, aq⟩ := an
          dsimp only at hc'
          clear hv1 hok
          go_wp2_with fail
          go_loopw [8] (fun i W => ∃ j : Nat, j ≤ 1 ∧ i = .int .i64 j ∧ After w2 W) (fun i _ => 1 - (intOf i).toNat)
          case atStart => exact ⟨0, by omega, rfl, After.rfl⟩
          case round =>
            obtain ⟨j, hj, rfl, a3⟩ := hrel
            by_cases hj0 : j = 0
            · subst hj0
              obtain ⟨hbl, ⟨d0, d1, d2, d3, d4, d5, d6⟩, _⟩ := seven_at (keep3 hc' a3)
              have H2 := hideIt (pack_any wr Non (An.msg ⟨ak, ac, ar, aq⟩) none 0 none 0 none 0 (MsgX.nils _ _ _ _ _ _) (fun k h => h.elim))
              rw [hzs] at H2
              rw [show Msg.val (An.msg ⟨ak, ac, ar, aq⟩) none 0 none 0 none 0 = .agg #[.int .i64 ak, .slice none 0 0, .int .i64 ac, .int .i64 ar, .int .i64 aq, .slice none 0 0, .slice none 0 0] from rfl] at H2
              have HA3 := hideIt a3
              clear hzs hc' a3
              go_wp2_with fail
              refine H2.out.mono ?_
              rintro e w4 ⟨a4, h4⟩
              obtain ⟨_, _, pa, pc, rfl, _⟩ := h4
              have HA4 := hideIt (HA3.out.trans a4)
              clear a4 H2 d0 d1 d2 d3 d4 d5 d6 HA3
              generalize zs.length = nz at *
              go_wp2_with fail
              go_roundw
              case rel => exact ⟨1, by omega, by go_num, HA4.out⟩
              case measure => simp [intOf]
            · obtain rfl : j = 1 := by omega
              have HA3 := hideIt a3
              clear hzs hc' a3 hj0
              go_wp2_with fail
              go_roundw
              case rel => exact ⟨k + 1, st', by omega, by omega, by go_num, HX2.out.1.after HA3.out, HX2.out.2.trans HA3.out⟩
              case measure => simp [intOf]; omega
      · have i1 : (k : Int) < (n : Int) := by omega
        have i2 : ¬ (k : Int) < 100 := by omega
        have HY := hideIt aw
        clear x aw
        go_wp2_with fail
        go_ret
        exact ⟨rfl, HY.out⟩
    · have i1 : ¬ (k : Int) < (n : Int) := by omega
      have HY := hideIt aw
      clear x aw
      go_wp2_with fail
      go_ret
      exact ⟨rfl, HY.out⟩
end Go.Proofs.YthcfdoafncbliaaGreat
