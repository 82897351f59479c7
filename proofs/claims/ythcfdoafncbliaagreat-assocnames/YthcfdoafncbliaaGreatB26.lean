/-
  Laid together: RgD.
-/
import Derived.Test.YthcfdoafncbliaaGreatB25
/-
  The document's Handle: a message that may be.
-/
namespace Go.Proofs.YthcfdoafncbliaaGreat
open Go.RowKit Go.Maps
set_option maxRecDepth 8000
/-- A call of the document's Pack that says OK of cells. -/
def Okays (w : World) (v : Value) : Prop := Calls Tryz.prog 27 #[v] w fun e w' => After w w' ∧ ∃ pa nz pc, e = .returned (.tuple #[.slice pa nz pc, .int .i64 0])
set_option maxHeartbeats 2000000 in
theorem rg_abt {w : World} {P : Nat → Prop} {g : Nat} {st : Mg} (x : RgAt w P g st) (mk mc mr mq : Int) (sa : Option Addr) (n1 sc : Nat) (oa : Option Addr) (n2 oc : Nat) (ba : Option Addr) (n3 bc : Nat) (hpk : ∀ W, After w W → Okays W (.agg #[.int .i64 mk, .slice sa n1 sc, .int .i64 mc, .int .i64 mr, .int .i64 mq, .slice oa n2 oc, .slice ba n3 bc])) (hk : mk = 58880) :
    Calls Tryz.prog 9 #[Ptr g, .agg #[.int .i64 mk, .slice sa n1 sc, .int .i64 mc, .int .i64 mr, .int .i64 mq, .slice oa n2 oc, .slice ba n3 bc]] w fun e w' => RSteps w w' P g e (abtF) := by
  obtain ⟨w0, hw0⟩ : ∃ w0, w.alloc (.cells #[.int .i64 mk, .slice sa n1 sc, .int .i64 mc, .int .i64 mr, .int .i64 mq, .slice oa n2 oc, .slice ba n3 bc] 31) = w0 := ⟨_, rfl⟩
  have hA : After w w0 := by rw [← hw0]; exact After.rfl.alloc _
  have hB : w0.heap[w.heap.size]? = some (.cells #[.int .i64 mk, .slice sa n1 sc, .int .i64 mc, .int .i64 mr, .int .i64 mq, .slice oa n2 oc, .slice ba n3 bc] 31 (0, 0)) := by rw [← hw0]; exact new1 _ _
  obtain ⟨_, ⟨k0, k1, k2, k3, k4, k5, k6⟩, _⟩ := seven_at hB
  have HPK := hideIt (hpk w0 hA)
  unfold Okays at HPK
  have hgl : g < w.heap.size := by obtain ⟨_, _, _, xx⟩ := x; exact xx.lt
  have hP : P g := by obtain ⟨_, _, _, xx⟩ := x; exact xx.gp
  have HX := hideIt (And.intro x (And.intro hA (And.intro hB hP)))
  clear x hA hB hpk hP
  subst hk
  go_enter Tryz.func9, Tryz.ntmps9
  go_wp2_with fail
  refine HPK.out.mono ?_
  rintro e w1 ⟨a1, pa, nz, pc, rfl⟩
  obtain ⟨x, hA, hB, hP⟩ := HX.out
  have x1 := x.after (hA.trans a1)
  have hB1 := keep3 hB a1
  clear k0 k1 k2 k3 k4 k5 k6 HPK hw0
  obtain ⟨_, ⟨k0, k1, k2, k3, k4, k5, k6⟩, _⟩ := seven_at hB1
  have HA := hideIt (rgAlone_any x1)
  have HY := hideIt (hA.trans a1)
  clear x hA hB a1 x1 hB1
  go_wp2_with fail
  refine HA.out.mono ?_
  rintro e w2 ⟨rfl, h2, b2⟩
  have HZ := hideIt (And.intro h2 b2)
  clear h2 b2 HA k0 k1 k2 k3 k4 k5 k6
  go_wp2_with fail
  go_ret3
  exact r_left hP rfl ⟨_, _, rfl, rfl, SmAt.nil _ _⟩ HY.out HZ.out.1 HZ.out.2
set_option maxHeartbeats 2000000 in
theorem rg_brk {w : World} {P : Nat → Prop} {g : Nat} {st : Mg} (x : RgAt w P g st) (mk mc mr mq : Int) (sa : Option Addr) (n1 sc : Nat) (oa : Option Addr) (n2 oc : Nat) (ba : Option Addr) (n3 bc : Nat) (hpk : ∀ W, After w W → Okays W (.agg #[.int .i64 mk, .slice sa n1 sc, .int .i64 mc, .int .i64 mr, .int .i64 mq, .slice oa n2 oc, .slice ba n3 bc])) (h1 : (mk == 58880) = false) (h2 : (st.state = 0 ∧ (mk == 57856) = false) ∨ (st.state = 1 ∧ (mk == 3356) = false ∧ (mk == 58368) = false) ∨ (st.state = 2 ∧ (mk == 3358) = false ∧ (mk == 58368) = false)) :
    Calls Tryz.prog 9 #[Ptr g, .agg #[.int .i64 mk, .slice sa n1 sc, .int .i64 mc, .int .i64 mr, .int .i64 mq, .slice oa n2 oc, .slice ba n3 bc]] w fun e w' => RSteps w w' P g e (brk) := by
  obtain ⟨w0, hw0⟩ : ∃ w0, w.alloc (.cells #[.int .i64 mk, .slice sa n1 sc, .int .i64 mc, .int .i64 mr, .int .i64 mq, .slice oa n2 oc, .slice ba n3 bc] 31) = w0 := ⟨_, rfl⟩
  have hA : After w w0 := by rw [← hw0]; exact After.rfl.alloc _
  have hB : w0.heap[w.heap.size]? = some (.cells #[.int .i64 mk, .slice sa n1 sc, .int .i64 mc, .int .i64 mr, .int .i64 mq, .slice oa n2 oc, .slice ba n3 bc] 31 (0, 0)) := by rw [← hw0]; exact new1 _ _
  obtain ⟨_, ⟨k0, k1, k2, k3, k4, k5, k6⟩, _⟩ := seven_at hB
  have HPK := hideIt (hpk w0 hA)
  unfold Okays at HPK
  have hgl : g < w.heap.size := by obtain ⟨_, _, _, xx⟩ := x; exact xx.lt
  have hP : P g := by obtain ⟨_, _, _, xx⟩ := x; exact xx.gp
  have HX := hideIt (And.intro x (And.intro hA (And.intro hB hP)))
  clear x hA hB hpk hP
  go_enter Tryz.func9, Tryz.ntmps9
  go_wp2_with fail
  refine HPK.out.mono ?_
  rintro e w1 ⟨a1, pa, nz, pc, rfl⟩
  obtain ⟨x, hA, hB, hP⟩ := HX.out
  have x1 := x.after (hA.trans a1)
  have hB1 := keep3 hB a1
  clear k0 k1 k2 k3 k4 k5 k6 HPK hw0
  obtain ⟨_, ⟨k0, k1, k2, k3, k4, k5, k6⟩, _⟩ := seven_at hB1
  have HA := hideIt (rgAlone_any x1)
  have HY := hideIt (hA.trans a1)
  obtain ⟨c9, oa9, oc9, xx⟩ := x1
  obtain ⟨hg1, ⟨d0, d1, d2⟩, _⟩ := tri_at xx.at0
  clear x hA hB a1 hB1 xx
  obtain ⟨s, cf, ob⟩ := st
  dsimp only at h2 d0 d2
  rcases h2 with ⟨rfl, h2⟩ | ⟨rfl, h2, h3⟩ | ⟨rfl, h2, h3⟩
  all_goals
    go_wp2_with fail
    refine HA.out.mono ?_
    rintro e w2 ⟨rfl, h2, b2⟩
    have HZ := hideIt (And.intro h2 b2)
    clear h2 b2 HA k0 k1 k2 k3 k4 k5 k6
    go_wp2_with fail
    go_ret3
    exact r_left hP rfl ⟨_, _, rfl, ⟨_, rfl, by have := HY.out.size; have := HZ.out.2.size; omega, new1 _ _⟩, SmAt.nil _ _⟩ HY.out (new_past _ _ HZ.out.1) (HZ.out.2.trans (After.rfl.alloc _).but)
set_option maxHeartbeats 2000000 in
theorem rg_rel {w : World} {P : Nat → Prop} {g : Nat} {st : Mg} (x : RgAt w P g st) (mk mc mr mq : Int) (sa : Option Addr) (n1 sc : Nat) (oa : Option Addr) (n2 oc : Nat) (ba : Option Addr) (n3 bc : Nat) (hpk : ∀ W, After w W → Okays W (.agg #[.int .i64 mk, .slice sa n1 sc, .int .i64 mc, .int .i64 mr, .int .i64 mq, .slice oa n2 oc, .slice ba n3 bc])) (hk : mk = 58368) (hs : st.state = 1 ∨ st.state = 2) :
    Calls Tryz.prog 9 #[Ptr g, .agg #[.int .i64 mk, .slice sa n1 sc, .int .i64 mc, .int .i64 mr, .int .i64 mq, .slice oa n2 oc, .slice ba n3 bc]] w fun e w' => RSteps w w' P g e ((⟨Mg.new, some ⟨58624, 0, 0, mq⟩, [], 0⟩ : Out)) := by
  obtain ⟨w0, hw0⟩ : ∃ w0, w.alloc (.cells #[.int .i64 mk, .slice sa n1 sc, .int .i64 mc, .int .i64 mr, .int .i64 mq, .slice oa n2 oc, .slice ba n3 bc] 31) = w0 := ⟨_, rfl⟩
  have hA : After w w0 := by rw [← hw0]; exact After.rfl.alloc _
  have hB : w0.heap[w.heap.size]? = some (.cells #[.int .i64 mk, .slice sa n1 sc, .int .i64 mc, .int .i64 mr, .int .i64 mq, .slice oa n2 oc, .slice ba n3 bc] 31 (0, 0)) := by rw [← hw0]; exact new1 _ _
  obtain ⟨_, ⟨k0, k1, k2, k3, k4, k5, k6⟩, _⟩ := seven_at hB
  have HPK := hideIt (hpk w0 hA)
  unfold Okays at HPK
  have hgl : g < w.heap.size := by obtain ⟨_, _, _, xx⟩ := x; exact xx.lt
  have hP : P g := by obtain ⟨_, _, _, xx⟩ := x; exact xx.gp
  have HX := hideIt (And.intro x (And.intro hA (And.intro hB hP)))
  clear x hA hB hpk hP
  subst hk
  go_enter Tryz.func9, Tryz.ntmps9
  go_wp2_with fail
  refine HPK.out.mono ?_
  rintro e w1 ⟨a1, pa, nz, pc, rfl⟩
  obtain ⟨x, hA, hB, hP⟩ := HX.out
  have x1 := x.after (hA.trans a1)
  have hB1 := keep3 hB a1
  clear k0 k1 k2 k3 k4 k5 k6 HPK hw0
  obtain ⟨_, ⟨k0, k1, k2, k3, k4, k5, k6⟩, _⟩ := seven_at hB1
  have HA := hideIt (rgAlone_any x1)
  have HY := hideIt (And.intro (hA.trans a1) hB1)
  obtain ⟨c9, oa9, oc9, xx⟩ := x1
  obtain ⟨hg1, ⟨d0, d1, d2⟩, _⟩ := tri_at xx.at0
  clear x hA hB a1 hB1 xx
  obtain ⟨s, cf, ob⟩ := st
  dsimp only at hs d0 d2
  rcases hs with rfl | rfl
  all_goals
    go_wp2_with fail
    refine HA.out.mono ?_
    rintro e w2 ⟨rfl, h2, b2⟩
    clear k0 k1 k2 k3 k4 k5 k6
    obtain ⟨_, ⟨k0, k1, k2, k3, k4, k5, k6⟩, _⟩ := seven_at ((b2.block _ (Array.getElem?_eq_some_iff.1 HY.out.2).1 (fun e => by have e' : w.heap.size = g := e; omega)).trans HY.out.2)
    have HZ := hideIt (And.intro h2 b2)
    clear h2 b2 HA
    go_wp2_with fail
    go_ret3
    exact r_left hP rfl ⟨_, _, rfl, ⟨_, rfl, by have := HY.out.1.size; have := HZ.out.2.size; omega, new1 _ _⟩, SmAt.nil _ _⟩ HY.out.1 (new_past _ _ HZ.out.1) (HZ.out.2.trans (After.rfl.alloc _).but)
set_option maxHeartbeats 2000000 in
theorem rg_ask0 {w : World} {P : Nat → Prop} {g : Nat} {st : Mg} (x : RgAt w P g st) (mk mc mr mq : Int) (sa : Option Addr) (n1 sc : Nat) (oa : Option Addr) (n2 oc : Nat) (ba : Option Addr) (n3 bc : Nat) (hpk : ∀ W, After w W → Okays W (.agg #[.int .i64 mk, .slice sa n1 sc, .int .i64 mc, .int .i64 mr, .int .i64 mq, .slice oa n2 oc, .slice ba n3 bc])) (hk : mk = 57856) (hs : st.state = 0) (hc : mc = 0) :
    Calls Tryz.prog 9 #[Ptr g, .agg #[.int .i64 mk, .slice sa n1 sc, .int .i64 mc, .int .i64 mr, .int .i64 mq, .slice oa n2 oc, .slice ba n3 bc]] w fun e w' => RSteps w w' P g e ((⟨st, some ⟨58112, 0, 1, 0⟩, [], 0⟩ : Out)) := by
  obtain ⟨w0, hw0⟩ : ∃ w0, w.alloc (.cells #[.int .i64 mk, .slice sa n1 sc, .int .i64 mc, .int .i64 mr, .int .i64 mq, .slice oa n2 oc, .slice ba n3 bc] 31) = w0 := ⟨_, rfl⟩
  have hA : After w w0 := by rw [← hw0]; exact After.rfl.alloc _
  have hB : w0.heap[w.heap.size]? = some (.cells #[.int .i64 mk, .slice sa n1 sc, .int .i64 mc, .int .i64 mr, .int .i64 mq, .slice oa n2 oc, .slice ba n3 bc] 31 (0, 0)) := by rw [← hw0]; exact new1 _ _
  obtain ⟨_, ⟨k0, k1, k2, k3, k4, k5, k6⟩, _⟩ := seven_at hB
  have HPK := hideIt (hpk w0 hA)
  unfold Okays at HPK
  have hgl : g < w.heap.size := by obtain ⟨_, _, _, xx⟩ := x; exact xx.lt
  have hP : P g := by obtain ⟨_, _, _, xx⟩ := x; exact xx.gp
  have HX := hideIt (And.intro x (And.intro hA (And.intro hB hP)))
  clear x hA hB hpk hP
  subst hk
  subst hc
  go_enter Tryz.func9, Tryz.ntmps9
  go_wp2_with fail
  refine HPK.out.mono ?_
  rintro e w1 ⟨a1, pa, nz, pc, rfl⟩
  obtain ⟨x, hA, hB, hP⟩ := HX.out
  have x1 := x.after (hA.trans a1)
  have hB1 := keep3 hB a1
  clear k0 k1 k2 k3 k4 k5 k6 HPK hw0
  obtain ⟨_, ⟨k0, k1, k2, k3, k4, k5, k6⟩, _⟩ := seven_at hB1
  have HY := hideIt (And.intro (hA.trans a1) x)
  obtain ⟨c9, oa9, oc9, xx⟩ := x1
  obtain ⟨hg1, ⟨d0, d1, d2⟩, _⟩ := tri_at xx.at0
  clear x hA hB a1 hB1 xx
  rw [hs] at d0
  go_wp2_with fail
  go_ret3
  exact r_after HY.out.2 ⟨_, _, rfl, ⟨_, rfl, HY.out.1.size, new1 _ _⟩, SmAt.nil _ _⟩ (HY.out.1.alloc _) rfl
set_option maxHeartbeats 2000000 in
theorem rg_ask {w : World} {P : Nat → Prop} {g : Nat} {st : Mg} (x : RgAt w P g st) (mk mc mr mq : Int) (sa : Option Addr) (n1 sc : Nat) (oa : Option Addr) (n2 oc : Nat) (ba : Option Addr) (n3 bc : Nat) (hpk : ∀ W, After w W → Okays W (.agg #[.int .i64 mk, .slice sa n1 sc, .int .i64 mc, .int .i64 mr, .int .i64 mq, .slice oa n2 oc, .slice ba n3 bc])) (hk : mk = 57856) (hs : st.state = 0) (hc : (mc == 0) = false) :
    Calls Tryz.prog 9 #[Ptr g, .agg #[.int .i64 mk, .slice sa n1 sc, .int .i64 mc, .int .i64 mr, .int .i64 mq, .slice oa n2 oc, .slice ba n3 bc]] w fun e w' => RSteps w w' P g e ((⟨⟨1, mc, []⟩, some ⟨58112, mc, 3, 0⟩, [], 0⟩ : Out)) := by
  obtain ⟨w0, hw0⟩ : ∃ w0, w.alloc (.cells #[.int .i64 mk, .slice sa n1 sc, .int .i64 mc, .int .i64 mr, .int .i64 mq, .slice oa n2 oc, .slice ba n3 bc] 31) = w0 := ⟨_, rfl⟩
  have hA : After w w0 := by rw [← hw0]; exact After.rfl.alloc _
  have hB : w0.heap[w.heap.size]? = some (.cells #[.int .i64 mk, .slice sa n1 sc, .int .i64 mc, .int .i64 mr, .int .i64 mq, .slice oa n2 oc, .slice ba n3 bc] 31 (0, 0)) := by rw [← hw0]; exact new1 _ _
  obtain ⟨_, ⟨k0, k1, k2, k3, k4, k5, k6⟩, _⟩ := seven_at hB
  have HPK := hideIt (hpk w0 hA)
  unfold Okays at HPK
  have hgl : g < w.heap.size := by obtain ⟨_, _, _, xx⟩ := x; exact xx.lt
  have hP : P g := by obtain ⟨_, _, _, xx⟩ := x; exact xx.gp
  have HX := hideIt (And.intro x (And.intro hA (And.intro hB hP)))
  clear x hA hB hpk hP
  subst hk
  go_enter Tryz.func9, Tryz.ntmps9
  go_wp2_with fail
  refine HPK.out.mono ?_
  rintro e w1 ⟨a1, pa, nz, pc, rfl⟩
  obtain ⟨x, hA, hB, hP⟩ := HX.out
  have x1 := x.after (hA.trans a1)
  have hB1 := keep3 hB a1
  clear k0 k1 k2 k3 k4 k5 k6 HPK hw0
  obtain ⟨_, ⟨k0, k1, k2, k3, k4, k5, k6⟩, _⟩ := seven_at hB1
  have HY := hideIt (And.intro (hA.trans a1) hB1)
  obtain ⟨c9, oa9, oc9, xx⟩ := x1
  have hno := xx.no (by rw [hs]; decide)
  have HXX := hideIt xx
  obtain ⟨hg1, ⟨d0, d1, d2⟩, f0, f1, f2⟩ := tri_at xx.at0
  have hne : g ≠ w.heap.size := by omega
  have hne' : w.heap.size ≠ g := fun e => hne e.symm
  clear x hA hB a1 hB1 xx
  rw [hs] at d0
  rw [hno] at d2
  dsimp only [List.length_nil] at d2
  go_wp2_with fail
  go_ret3
  obtain ⟨aY, hB1⟩ := HY.out
  have xx := HXX.out
  have G1 : ((w1.setCell ⟨g, 0, none⟩ (.int .i64 1)).setCell ⟨g, 1, none⟩ (.int .i64 mc)).heap[g]? = some (.cells #[.int .i64 1, .int .i64 mc, .slice oa9 0 oc9] 41 (0, 0)) := by
    have h0 := xx.at0
    rw [hno] at h0
    exact (blk_setA (i := 1) (blk_setA (i := 0) h0 (.int .i64 1)) (.int .i64 mc)).trans rfl
  have B1 : But (One g) w1 ((w1.setCell ⟨g, 0, none⟩ (.int .i64 1)).setCell ⟨g, 1, none⟩ (.int .i64 mc)) := (but_one _ _ _ _).trans (but_one _ _ _ _)
  have hon := xx.on
  rw [hno] at hon
  refine ⟨⟨_, _, rfl, ⟨_, rfl, by have := aY.size; simpa using this, ?_⟩, SmAt.nil _ _⟩, ⟨mc, oa9, oc9, new_past _ _ G1, fun _ => rfl, .inl hP, RowT.nil _ _, hon, (fun y hy h0 => absurd h0 (Nat.lt_irrefl 0)), Nat.zero_le _, fun _ => rfl⟩, (aY.but.trans B1).trans (After.rfl.alloc _).but⟩
  have := new1 ((w1.setCell ⟨g, 0, none⟩ (.int .i64 1)).setCell ⟨g, 1, none⟩ (.int .i64 mc)) (.cells #[.int .i64 58112, .slice none 0 0, .int .i64 mc, .int .i64 3, .int .i64 0, .slice none 0 0, .slice none 0 0] 31)
  rw [World.size_setCell, World.size_setCell] at this
  exact this
set_option maxHeartbeats 2000000 in
theorem rg_cfg2 {w : World} {P : Nat → Prop} {g : Nat} {st : Mg} (x : RgAt w P g st) (mk mc mr mq : Int) (sa : Option Addr) (n1 sc : Nat) (oa : Option Addr) (n2 oc : Nat) (ba : Option Addr) (n3 bc : Nat) (hpk : ∀ W, After w W → Okays W (.agg #[.int .i64 mk, .slice sa n1 sc, .int .i64 mc, .int .i64 mr, .int .i64 mq, .slice oa n2 oc, .slice ba n3 bc])) (hk : mk = 3356) (hs : st.state = 1) (hc : ¬ mc = st.config) :
    Calls Tryz.prog 9 #[Ptr g, .agg #[.int .i64 mk, .slice sa n1 sc, .int .i64 mc, .int .i64 mr, .int .i64 mq, .slice oa n2 oc, .slice ba n3 bc]] w fun e w' => RSteps w w' P g e ((⟨st, some ⟨3357, mc, 1, 0⟩, [], 0⟩ : Out)) := by
  obtain ⟨w0, hw0⟩ : ∃ w0, w.alloc (.cells #[.int .i64 mk, .slice sa n1 sc, .int .i64 mc, .int .i64 mr, .int .i64 mq, .slice oa n2 oc, .slice ba n3 bc] 31) = w0 := ⟨_, rfl⟩
  have hA : After w w0 := by rw [← hw0]; exact After.rfl.alloc _
  have hB : w0.heap[w.heap.size]? = some (.cells #[.int .i64 mk, .slice sa n1 sc, .int .i64 mc, .int .i64 mr, .int .i64 mq, .slice oa n2 oc, .slice ba n3 bc] 31 (0, 0)) := by rw [← hw0]; exact new1 _ _
  obtain ⟨_, ⟨k0, k1, k2, k3, k4, k5, k6⟩, _⟩ := seven_at hB
  have HPK := hideIt (hpk w0 hA)
  unfold Okays at HPK
  have hgl : g < w.heap.size := by obtain ⟨_, _, _, xx⟩ := x; exact xx.lt
  have hP : P g := by obtain ⟨_, _, _, xx⟩ := x; exact xx.gp
  have HX := hideIt (And.intro x (And.intro hA (And.intro hB hP)))
  clear x hA hB hpk hP
  subst hk
  go_enter Tryz.func9, Tryz.ntmps9
  go_wp2_with fail
  refine HPK.out.mono ?_
  rintro e w1 ⟨a1, pa, nz, pc, rfl⟩
  obtain ⟨x, hA, hB, hP⟩ := HX.out
  have x1 := x.after (hA.trans a1)
  have hB1 := keep3 hB a1
  clear k0 k1 k2 k3 k4 k5 k6 HPK hw0
  obtain ⟨_, ⟨k0, k1, k2, k3, k4, k5, k6⟩, _⟩ := seven_at hB1
  have HY := hideIt (And.intro (hA.trans a1) x)
  obtain ⟨c9, oa9, oc9, xx⟩ := x1
  have hcc := xx.cc hs
  obtain ⟨hg1, ⟨d0, d1, d2⟩, _⟩ := tri_at xx.at0
  rw [hcc] at d1
  have hcb : (mc != st.config) = true := by simpa using hc
  rw [hs] at d0
  have HB1 := hideIt hB1
  clear x hA hB a1 hB1 xx hcc hc
  go_wp2_with fail
  go_quiet (fail)
  have AW2 := hideIt (After.rfl.draws (a := w1) nq)
  generalize w1.drewN nq = W9 at *
  clear k0 k1 k2 k3 k4 k5 k6 d0 d1 d2
  obtain ⟨_, ⟨k0, k1, k2, k3, k4, k5, k6⟩, _⟩ := seven_at (keep3 HB1.out AW2.out)
  go_wp2_with fail
  go_ret3
  exact r_after HY.out.2 ⟨_, _, rfl, ⟨_, rfl, Nat.le_trans HY.out.1.size AW2.out.size, new1 _ _⟩, SmAt.nil _ _⟩ ((HY.out.1.trans AW2.out).alloc _) rfl
set_option maxHeartbeats 2000000 in
theorem rg_scan {w : World} {P : Nat → Prop} {g : Nat} {st : Mg} (x : RgAt w P g st) (mk mc mr mq : Int) (sa : Option Addr) (n1 sc : Nat) (oa : Option Addr) (n2 oc : Nat) (ba : Option Addr) (n3 bc : Nat) (hpk : ∀ W, After w W → Okays W (.agg #[.int .i64 mk, .slice sa n1 sc, .int .i64 mc, .int .i64 mr, .int .i64 mq, .slice oa n2 oc, .slice ba n3 bc])) (l : List Bi) (hr : RowT w ba n3 (l.map Bi.t3)) (hn : n3 ≤ 64) (hbb : ∀ o ∈ l, 0 ≤ o.b ∧ o.b < 4294967296) (hk : mk = 3358) (hs : st.state = 2) (M : Msg) (hM : M.obs = l) :
    Calls Tryz.prog 9 #[Ptr g, .agg #[.int .i64 mk, .slice sa n1 sc, .int .i64 mc, .int .i64 mr, .int .i64 mq, .slice oa n2 oc, .slice ba n3 bc]] w fun e w' => RSteps w w' P g e (scanF st M) := by
  obtain ⟨w0, hw0⟩ : ∃ w0, w.alloc (.cells #[.int .i64 mk, .slice sa n1 sc, .int .i64 mc, .int .i64 mr, .int .i64 mq, .slice oa n2 oc, .slice ba n3 bc] 31) = w0 := ⟨_, rfl⟩
  have hA : After w w0 := by rw [← hw0]; exact After.rfl.alloc _
  have hB : w0.heap[w.heap.size]? = some (.cells #[.int .i64 mk, .slice sa n1 sc, .int .i64 mc, .int .i64 mr, .int .i64 mq, .slice oa n2 oc, .slice ba n3 bc] 31 (0, 0)) := by rw [← hw0]; exact new1 _ _
  obtain ⟨_, ⟨k0, k1, k2, k3, k4, k5, k6⟩, _⟩ := seven_at hB
  have HPK := hideIt (hpk w0 hA)
  unfold Okays at HPK
  have hgl : g < w.heap.size := by obtain ⟨_, _, _, xx⟩ := x; exact xx.lt
  have hP : P g := by obtain ⟨_, _, _, xx⟩ := x; exact xx.gp
  have HX := hideIt (And.intro x (And.intro hA (And.intro hB hP)))
  clear x hA hB hpk hP
  subst hk
  go_enter Tryz.func9, Tryz.ntmps9
  go_wp2_with fail
  refine HPK.out.mono ?_
  rintro e w1 ⟨a1, pa, nz, pc, rfl⟩
  obtain ⟨x, hA, hB, hP⟩ := HX.out
  have x1 := x.after (hA.trans a1)
  have hB1 := keep3 hB a1
  clear k0 k1 k2 k3 k4 k5 k6 HPK hw0
  obtain ⟨_, ⟨k0, k1, k2, k3, k4, k5, k6⟩, _⟩ := seven_at hB1
  have HSC := hideIt (rgScan_any x1 ba n3 bc l (hr.after (hA.trans a1)) hn hbb)
  have HY := hideIt (And.intro (hA.trans a1) x)
  obtain ⟨c9, oa9, oc9, xx⟩ := x1
  obtain ⟨hg1, ⟨d0, d1, d2⟩, _⟩ := tri_at xx.at0
  rw [hs] at d0
  clear x hA hB a1 hB1 xx hr hbb
  go_wp2_with fail
  refine HSC.out.mono ?_
  rintro e w2 ⟨a2, h2⟩
  have HA2 := hideIt a2
  clear k0 k1 k2 k3 k4 k5 k6 d0 d1 d2 HSC a2
  rcases h2 with ⟨hall, v, rfl, hv⟩ | ⟨hall, rfl⟩
  · have HF : Hid (scanF st M = ⟨st, none, l.map smOf, 0⟩) := by unfold scanF; rw [hM, if_pos hall]; rfl
    have HV := hideIt hv
    clear hall hv
    go_wp2_with fail
    go_ret3
    rw [HF.out]
    exact r_after HY.out.2 ⟨_, _, rfl, rfl, HV.out.mono HY.out.1.size⟩ (HY.out.1.trans HA2.out) rfl
  · have HF : Hid (scanF st M = ⟨st, none, [], 70⟩) := by unfold scanF; rw [hM, hall]; rfl
    clear hall
    go_wp2_with fail
    go_ret3
    rw [HF.out]
    exact r_after HY.out.2 ⟨_, _, rfl, rfl, SmAt.nil _ _⟩ (HY.out.1.trans HA2.out) rfl
end Go.Proofs.YthcfdoafncbliaaGreat
