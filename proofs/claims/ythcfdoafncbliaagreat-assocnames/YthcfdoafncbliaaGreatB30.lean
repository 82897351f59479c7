/-
  Laid together: PlD, LawPlays, Frame.
-/
import Derived.Test.YthcfdoafncbliaaGreatB29
import Derived.BigQuiet
import Derived.Test.YthcfdoafncbliaaGreatB23
import Derived.Test.YthcfdoafncbliaaGreatB20
import Derived.Test.YthcfdoafncbliaaGreatRows
import Derived.ProofKit
import Derived.OpenShut
import Derived.ChangeOld
import Derived.Below
import Derived.SizedLaws
/-
  AssocPlays: what was handed in and what was told are written over.
-/
namespace Go.Proofs.YthcfdoafncbliaaGreat
open Go.RowKit Go.Maps
set_option maxRecDepth 8000
/-- The handles of objects in a row. -/
def Cel (W : World) (oa : Option Addr) (n : Nat) : Prop := ∀ i, i < n → ∃ b off z, oa = some ⟨b, off, none⟩ ∧ b < W.heap.size ∧ W.cell? ⟨b, off + i * 3, none⟩ = some z
theorem Cel.of {W : World} {oa : Option Addr} {n : Nat} {xs : List T3} (h : RowT W oa n xs) : Cel W oa n := by
  intro i hi
  obtain ⟨b, off, x, e, hl, _, c0, _, _⟩ := h.2 i hi
  exact ⟨b, off, _, e, hl, c0⟩
theorem Cel.set {W : World} {b off n j : Nat} (h : Cel W (some ⟨b, off, none⟩) n) (x : Value) : Cel (W.setCell ⟨b, off + j * 3, none⟩ x) (some ⟨b, off, none⟩) n := by
  intro i hi
  obtain ⟨b', off', z, e, hl, c0⟩ := h i hi
  cases e
  by_cases hij : i = j
  · subst hij
    exact ⟨b, off, x, rfl, by simpa using hl, World.cell?_setCell_same _ _ _ c0⟩
  · exact ⟨b, off, z, rfl, by simpa using hl, (World.cell?_setCell_other _ _ _ _ (by intro h; simp only [Addr.mk.injEq] at h; omega)).trans c0⟩
theorem Cel.but {S : Nat → Prop} {W W' : World} {oa : Option Addr} {n : Nat} (h : Cel W oa n) (t : But S W W') (hn : ∀ y, oa = some y → ¬ S y.block) : Cel W' oa n := by
  intro i hi
  obtain ⟨b, off, z, e, hl, c0⟩ := h i hi
  exact ⟨b, off, z, e, Nat.lt_of_lt_of_le hl t.size, by rw [t.cell hl (hn _ e)]; exact c0⟩
/-- The block of a row. -/
def Its (oa : Option Addr) : Nat → Prop := fun k => ∃ y, oa = some y ∧ k = y.block
/-- A round over what was handed in. -/
def Rin (a : Act) (W : World) (v0 v3 v4 v5 : Value) (gi n : Nat) (oa : Option Addr) (cs : Array Value) (w : World) : Prop :=
  ∃ j : Nat, j ≤ n ∧ GE a v0 v3 v4 v5 (Ptr gi) (.int .i64 (j : Int)) ∧ Cel W oa n ∧ (∀ y, oa = some y → Soft W y.block) ∧ W.heap[gi]? = some (.cells cs 31 (0, 0)) ∧ But (Its oa) w W
def muIn (n : Nat) (a : Act) (_ : World) : Nat := n - (intOf (a.tmps.getD 13 undef)).toNat
set_option maxHeartbeats 1000000 in
theorem plRound14 {Q : Exit → Act → World → Prop} {a : Act} {W w : World} {v0 v3 v4 v5 : Value} {gi n : Nat} {oa : Option Addr} {oc : Nat} {x0 x1 x2 x3 x4 x6 : Value} (hI : Rin a W v0 v3 v4 v5 gi n oa #[x0, x1, x2, x3, x4, .slice oa n oc, x6] w) (hn : n * 24 ≤ 140737488355328) (hgi : ∀ y, oa = some y → y.block < gi)
    (hK : ∀ a' W', GB a' v0 v3 v4 v5 (Ptr gi) → But (Its oa) w W' → Q (.exit 2) a' W') :
    Code.wp Tryz.prog (pc14 Tryz.f3) (Exit.then (fun a' w' => Rin a' w' v0 v3 v4 v5 gi n oa #[x0, x1, x2, x3, x4, .slice oa n oc, x6] w ∧ muIn n a' w' < muIn n a W) Q) a W := by
  obtain ⟨j, hj, hf, hc, hs, hg, bw⟩ := hI
  have hmu : muIn n a W = n - j := by unfold muIn; rw [hf.s13]; simp [intOf]
  rw [hmu]
  obtain ⟨u, rfl⟩ := hf.lit
  obtain ⟨lg, ⟨_, _, _, _, _, k5, _⟩, _⟩ := seven_at hg
  clear hf hmu
  by_cases hjn : j < n
  · have ij : (j : Int) < (n : Int) := by omega
    obtain ⟨b3, o3, z, rfl, l3, c3⟩ := hc j hjn
    have fz := (hs _ rfl).free (o3 + j * 3)
    have hne : gi ≠ b3 := fun e => by have := hgi _ rfl; dsimp only at this; omega
    have HX := hideIt (And.intro hc (And.intro hs (And.intro hg bw)))
    clear hc hs hg bw hK hgi
    conv => arg 2; whnf
    go_wp2_with fail
    obtain ⟨hc, hs, hg, bw⟩ := HX.out
    refine ⟨⟨j + 1, by omega, ⟨rfl, rfl, rfl, rfl, rfl, rfl, rfl, by show Value.int .i64 ((j : Int) + 1) = _; rw [Int.natCast_add]; rfl⟩, hc.set _, fun y hy => by cases hy; exact (hs _ rfl).set _ _, set_far hg hne, bw.set ⟨b3, o3 + j * 3, none⟩ (fun _ => ⟨_, rfl, rfl⟩) _⟩, ?_⟩
    show n - (intOf (Value.int .i64 ((j : Int) + 1))).toNat < _
    simp [intOf]
    omega
  · obtain rfl : j = n := by omega
    have ij : ¬ (j : Int) < (j : Int) := by omega
    have HK := hideIt hK
    have HB := hideIt bw
    clear hc hs hg bw hK hjn hgi
    conv => arg 2; whnf
    go_wp2_with fail
    exact HK.out _ _ ⟨rfl, rfl, rfl, rfl, rfl, rfl, rfl⟩ HB.out
theorem pl_exit {id : Nat} {Q : Exit → Act → World → Prop} {a : Act} {w : World} (h : Q .normal a w) : Exit.inBlock id Q (.exit id) a w := by
  show (if id = id then Q .normal a w else Q (.exit id) a w)
  rw [if_pos rfl]
  exact h
theorem plPart13 {Q : Exit → Act → World → Prop} {a : Act} {w : World} {v0 v3 v4 v5 : Value} {gi n : Nat} {oa : Option Addr} {oc : Nat} {x0 x1 x2 x3 x4 x6 : Value} (hf : GB a v0 v3 v4 v5 (Ptr gi)) (hc : Cel w oa n) (hs : ∀ y, oa = some y → Soft w y.block) (hg : w.heap[gi]? = some (.cells #[x0, x1, x2, x3, x4, .slice oa n oc, x6] 31 (0, 0))) (hn : n * 24 ≤ 140737488355328) (hgi : ∀ y, oa = some y → y.block < gi)
    (hK : ∀ a' W', GB a' v0 v3 v4 v5 (Ptr gi) → But (Its oa) w W' → Q .normal a' W') :
    Code.wp Tryz.prog (.seq (sq1 (sq1 (pc13 Tryz.f3))) (.block 2 (.loop (pc14 Tryz.f3)))) Q a w := by
  refine wp_seq ?_
  have key : ∀ a', GE a' v0 v3 v4 v5 (Ptr gi) (.int .i64 0) → Code.wp Tryz.prog (.block 2 (.loop (pc14 Tryz.f3))) Q a' w := by
    intro a' hf'
    refine wp_block ?_
    refine wp_loop (fun a W => Rin a W v0 v3 v4 v5 gi n oa #[x0, x1, x2, x3, x4, .slice oa n oc, x6] w) (muIn n) ⟨0, Nat.zero_le _, hf', hc, hs, hg, But.rfl⟩ ?_
    intro a2 W2 hI
    exact plRound14 hI hn hgi (fun a3 W3 h1 h2 => pl_exit (hK a3 W3 h1 h2))
  have HK := hideIt key
  obtain ⟨u, rfl⟩ := hf.lit
  clear hf key hK hc hs hg hgi
  generalize Code.block 2 (.loop (pc14 Tryz.f3)) = rest at *
  conv => arg 2; whnf
  go_wp2_with fail
  exact HK.out _ ⟨rfl, rfl, rfl, rfl, rfl, rfl, rfl, rfl⟩
/-- The program's Objects. -/
theorem plPart17 {Q : Exit → Act → World → Prop} {a : Act} {w : World} {P : Nat → Prop} {g1 : Nat} {st : Mg} {v0 v4 v5 v6 : Value} (x : MgAt w P g1 st) (hf : GB a v0 (Ptr g1) v4 v5 v6)
    (hK : ∀ a' w' oa oc, GF a' v0 (Ptr g1) v4 v5 (.slice oa st.objs.length oc) → Cel w' oa st.objs.length → (∀ y, oa = some y → Soft w' y.block ∧ w.heap.size ≤ y.block) → After w w' → Q .normal a' w') : Code.wp Tryz.prog (sq1 (pc17 Tryz.f3)) Q a w := by
  obtain ⟨u, rfl⟩ := hf.lit
  have HO := hideIt (mgObjs_any x)
  have HK := hideIt hK
  clear hf hK x
  conv => arg 2; whnf
  go_wp2_with fail
  refine HO.out.mono ?_
  rintro e w5 ⟨o5, rfl, ho5, a5⟩
  have s5 := own_soft ho5
  obtain ⟨oa5, oc5, rfl, r5, _, b5⟩ := own_rowT ho5
  have HX := hideIt (And.intro s5 (And.intro r5 (And.intro b5 a5)))
  clear ho5 a5 s5 r5 b5 HO
  go_wp2_with fail
  exact HK.out _ _ oa5 oc5 ⟨rfl, rfl, rfl, rfl, rfl, rfl, rfl⟩ (Cel.of HX.out.2.1) (fun y hy => ⟨HX.out.1 y _ _ (by rw [hy]), HX.out.2.2.1 y hy⟩) HX.out.2.2.2
/-- A round over what was told. -/
def Rut (a : Act) (W : World) (v0 v3 v4 v5 : Value) (n : Nat) (oa : Option Addr) (oc : Nat) (w : World) : Prop :=
  ∃ j : Nat, j ≤ n ∧ GG a v0 v3 v4 v5 (.slice oa n oc) (.int .i64 (j : Int)) ∧ Cel W oa n ∧ (∀ y, oa = some y → Soft W y.block) ∧ But (Its oa) w W
def muUt (n : Nat) (a : Act) (_ : World) : Nat := n - (intOf (a.tmps.getD 15 undef)).toNat
set_option maxHeartbeats 1000000 in
theorem plRound19 {Q : Exit → Act → World → Prop} {a : Act} {W w : World} {v0 v3 v4 v5 : Value} {n : Nat} {oa : Option Addr} {oc : Nat} (hI : Rut a W v0 v3 v4 v5 n oa oc w) (hn : n ≤ 16)
    (hK : ∀ a' W', GA a' v0 v3 v4 v5 → But (Its oa) w W' → Q (.exit 4) a' W') :
    Code.wp Tryz.prog (pc19 Tryz.f3) (Exit.then (fun a' w' => Rut a' w' v0 v3 v4 v5 n oa oc w ∧ muUt n a' w' < muUt n a W) Q) a W := by
  obtain ⟨j, hj, hf, hc, hs, bw⟩ := hI
  have hmu : muUt n a W = n - j := by unfold muUt; rw [hf.s15]; simp [intOf]
  rw [hmu]
  obtain ⟨u, rfl⟩ := hf.lit
  clear hf hmu
  by_cases hjn : j < n
  · have ij : (j : Int) < (n : Int) := by omega
    obtain ⟨b3, o3, z, rfl, l3, c3⟩ := hc j hjn
    have fz := (hs _ rfl).free (o3 + j * 3)
    have HX := hideIt (And.intro hc (And.intro hs bw))
    clear hc hs bw hK
    conv => arg 2; whnf
    go_wp2_with fail
    obtain ⟨hc, hs, bw⟩ := HX.out
    refine ⟨⟨j + 1, by omega, ⟨rfl, rfl, rfl, rfl, rfl, rfl, rfl, by show Value.int .i64 ((j : Int) + 1) = _; rw [Int.natCast_add]; rfl⟩, hc.set _, fun y hy => by cases hy; exact (hs _ rfl).set _ _, bw.set ⟨b3, o3 + j * 3, none⟩ (fun _ => ⟨_, rfl, rfl⟩) _⟩, ?_⟩
    show n - (intOf (Value.int .i64 ((j : Int) + 1))).toNat < _
    simp [intOf]
    omega
  · obtain rfl : j = n := by omega
    have ij : ¬ (j : Int) < (j : Int) := by omega
    have HK := hideIt hK
    have HB := hideIt bw
    clear hc hs bw hK hjn
    conv => arg 2; whnf
    go_wp2_with fail
    exact HK.out _ _ ⟨rfl, rfl, rfl, rfl, rfl, rfl⟩ HB.out
theorem plPart18 {Q : Exit → Act → World → Prop} {a : Act} {w : World} {v0 v3 v4 v5 : Value} {n : Nat} {oa : Option Addr} {oc : Nat} (hf : GF a v0 v3 v4 v5 (.slice oa n oc)) (hc : Cel w oa n) (hs : ∀ y, oa = some y → Soft w y.block) (hn : n ≤ 16)
    (hK : ∀ a' W', GA a' v0 v3 v4 v5 → But (Its oa) w W' → Q .normal a' W') :
    Code.wp Tryz.prog (.seq (sq1 (pc18 Tryz.f3)) (.block 4 (.loop (pc19 Tryz.f3)))) Q a w := by
  refine wp_seq ?_
  have key : ∀ a', GG a' v0 v3 v4 v5 (.slice oa n oc) (.int .i64 0) → Code.wp Tryz.prog (.block 4 (.loop (pc19 Tryz.f3))) Q a' w := by
    intro a' hf'
    refine wp_block ?_
    refine wp_loop (fun a W => Rut a W v0 v3 v4 v5 n oa oc w) (muUt n) ⟨0, Nat.zero_le _, hf', hc, hs, But.rfl⟩ ?_
    intro a2 W2 hI
    exact plRound19 hI hn (fun a3 W3 h1 h2 => pl_exit (hK a3 W3 h1 h2))
  have HK := hideIt key
  obtain ⟨u, rfl⟩ := hf.lit
  clear hf key hK hc hs
  generalize Code.block 4 (.loop (pc19 Tryz.f3)) = rest at *
  conv => arg 2; whnf
  go_wp2_with fail
  exact HK.out _ ⟨rfl, rfl, rfl, rfl, rfl, rfl, rfl, rfl⟩
end Go.Proofs.YthcfdoafncbliaaGreat
/-
  AssocPlays.
-/
namespace Go.Proofs.YthcfdoafncbliaaGreat
open Go.RowKit Go.Maps
set_option maxRecDepth 8000
theorem MgAt.low {w : World} {P : Nat → Prop} {g : Nat} {st : Mg} (x : MgAt w P g st) : MgAt w (fun k => P k ∧ k < w.heap.size) g st := by
  obtain ⟨oa, oc, pv, x⟩ := x
  refine ⟨oa, oc, pv, x.at0, ⟨x.gp, x.lt⟩, x.or, x.on, fun y hy h0 => ⟨x.op y hy h0, ?_⟩, x.ol, x.od, fun h => ?_, x.sv, x.no⟩
  · obtain ⟨b, off, _, e, hl, _⟩ := x.or.2 0 h0
    rw [hy] at e
    cases e
    exact hl
  · obtain ⟨mb, e, hp, hl⟩ := x.mp h
    refine ⟨mb, e, ⟨hp, ?_⟩, hl⟩
    obtain ⟨_, _, ⟨_, _, hb, _⟩, _⟩ := hl
    exact (Array.getElem?_eq_some_iff.1 hb).1
theorem RgAt.low {w : World} {P : Nat → Prop} {g : Nat} {st : Mg} (x : RgAt w P g st) : RgAt w (fun k => P k ∧ k < w.heap.size) g st := by
  obtain ⟨c, oa, oc, x⟩ := x
  refine ⟨c, oa, oc, x.at0, x.cc, ⟨x.gp, x.lt⟩, x.or, x.on, fun y hy h0 => ⟨x.op y hy h0, ?_⟩, x.ol, x.no⟩
  obtain ⟨b, off, _, e, hl, _⟩ := x.or.2 0 h0
  rw [hy] at e
  cases e
  exact hl
/-- What lies in memory behind both Handles. -/
theorem h11_of {w : World} {P P' T T' : Nat → Prop} {B1 B2 : Nat} {v7 v8 v10 v11 : Value} {g1 g2 gi : Nat} {O : Out} {c2 : Int} {oa2 : Option Addr} {oc2 : Nat} {M : Msg} {sa1 : Option Addr} {sc1 : Nat} {oa1 : Option Addr} {oc1 : Nat} {ba1 : Option Addr} {bc1 : Nat} {sa : Option Addr} {sc : Nat} {oa : Option Addr} {oc : Nat} {ba : Option Addr} {bc : Nat} {b off k : Nat}
    (x : MgAt w P g1 O.st) (xr : RgX w P' g2 O.st c2 oa2 oc2) (hin : w.heap[gi]? = some (.cells (msgC M sa1 sc1 oa1 oc1 ba1 bc1) 31 (0, 0))) (y1 : MsgX w T M sa1 sc1 oa1 oc1 ba1 bc1) (y : MsgX w T' M sa sc oa oc ba bc) (hb : b < w.heap.size) (hcs : AtK w b off k M sa sc oa oc ba bc) (hob : M.objs.length * 24 ≤ 140737488355328) (hbb : M.obs.length * 16 ≤ 140737488355328) (hsm : O.sm.length ≤ 64)
    (p7 : AnsAt w B1 v7 O.an) (p8 : SmAt w B1 v8 O.sm) (p10 : AnsAt w B2 v10 O.an) (p11 : SmAt w B2 v11 O.sm) : H11 w v7 v8 v10 v11 g1 g2 gi O.st oa2 oc2 M sa1 sc1 oa1 oc1 ba1 bc1 sa sc oa oc ba bc b off k := by
  have hol : O.st.objs.length ≤ 16 := xr.ol
  refine ⟨fun a => (tri_at (keep3 xr.at0 a)).2.1.1, fun a => (tri_at (keep3 xr.at0 a)).2.1.2.2, fun a => ?_, fun a => ?_, fun a => plAns_any (p7.after a) (p10.after a), fun a => ?_, fun a => mgState_any (x.after a), fun a => ?_, fun a a9 c9 r9 => plObjs_any _ _ _ _ _ _ _ r9 (xr.or.after a) hol, fun a => ?_⟩
  · have h := keep3 hin a
    unfold msgC at h ⊢
    obtain ⟨_, ⟨k0, k1, k2, k3, k4, k5, k6⟩, _⟩ := seven_at h
    exact load_msg k0 k1 k2 k3 k4 k5 k6
  · obtain ⟨h0, h1, h2, h3, h4, h5, h6⟩ := hcs.but a hb (fun t => t)
    exact load_msg h0 h1 h2 h3 h4 h5 h6
  · obtain ⟨a8, c8, rfl, r8, _, _⟩ := p8.after a
    obtain ⟨a9, c9, rfl, r9, _, _⟩ := p11.after a
    exact plSams_any _ a8 a9 _ c8 c9 O.sm rfl r8 r9 hsm
  · refine (mgObjs_any (x.after a)).mono ?_
    rintro e w5 ⟨o5, rfl, ho5, a5⟩
    obtain ⟨oa5, oc5, rfl, r5, _, _⟩ := own_rowT ho5
    exact ⟨_, oa5, oc5, rfl, rfl, r5, a5⟩
  · have h := same13 _ T T' M M sa1 sc1 oa1 oc1 ba1 bc1 sa sc oa oc ba bc (y1.after a) (y.after a) (fun _ => rfl) (fun _ => rfl) (fun _ => rfl) (by omega) (by omega)
    rw [eqM_self] at h
    exact h
set_option maxHeartbeats 1000000 in
/-- One message. -/
theorem plMess {Q : Exit → Act → World → Prop} {a : Act} {w0 W : World} {b off n c k g1 g2 : Nat} {st : Mg} {M : Msg} {sa : Option Addr} {sc : Nat} {oa : Option Addr} {oc : Nat} {ba : Option Addr} {bc : Nat} (x : MgAt W (fun k => k ≠ g2) g1 st) (xr : RgAt W (fun k => k ≠ g1) g2 st) (aw : After w0 W) (hg1 : w0.heap.size ≤ g1) (hg2 : w0.heap.size ≤ g2) (hf : GA a (.slice (some ⟨b, off, none⟩) n c) (Ptr g1) (Ptr g2) (.int .i64 (k : Int))) (hkn : (k : Int) < (n : Int)) (hb : b < w0.heap.size) (hcs : AtK W b off k M sa sc oa oc ba bc) (y : MsgX W (Low w0.heap.size) M sa sc oa oc ba bc) (hob : M.objs.length * 24 ≤ 140737488355328) (hbb : M.obs.length * 16 ≤ 140737488355328)
    (hK : ∀ a' W', GA a' (.slice (some ⟨b, off, none⟩) n c) (Ptr g1) (Ptr g2) (.int .i64 (k : Int)) → MgAt W' (fun k => k ≠ g2) g1 (handle st M).st → RgAt W' (fun k => k ≠ g1) g2 (handle st M).st → After w0 W' → Q .normal a' W') : Code.wp Tryz.prog (pc8 Tryz.f3) Q a W := by
  have hsv : st.state = 0 ∨ st.state = 1 ∨ st.state = 2 := by obtain ⟨_, _, _, xx⟩ := x; exact xx.sv
  have hl1 : g1 < W.heap.size := by obtain ⟨_, _, _, xx⟩ := x; exact xx.lt
  have hl2 : g2 < W.heap.size := by obtain ⟨_, _, _, xx⟩ := xr; exact xx.lt
  have hgg : g1 ≠ g2 := by obtain ⟨_, _, _, xx⟩ := x; exact xx.gp
  have hsm := handle_sm (st := st) y.bb
  have h0W := aw.size
  have hbW : b < W.heap.size := Nat.lt_of_lt_of_le hb aw.size
  rw [pc8_eq]
  refine wp_seq ?_
  refine plPart8 hf hkn hbW hcs y hob hbb ?_
  intro a1 W1 gi sa1 sc1 oa1 oc1 ba1 bc1 f1 hgi hin y1 s1 aw1
  show Code.wp Tryz.prog (pc9 Tryz.f3) Q a1 W1
  have hgl : gi < W1.heap.size := (Array.getElem?_eq_some_iff.1 hin).1
  have h01 := aw1.size
  rw [pc9_eq]
  refine wp_seq ?_
  refine plPart9 (x.low.after aw1) f1 hin y1 (fun t => by omega) (fun k hk => by omega) ?_
  intro a2 W2 v7 v8 f2 p7 p8 x2 b2
  show Code.wp Tryz.prog (pc10 Tryz.f3) Q a2 W2
  have h12 := b2.size
  have nb : ∀ i, i < w0.heap.size → ¬ One g1 i := fun i hi e => by have e' : i = g1 := e; omega
  have nb2 : ∀ i, i < w0.heap.size → ¬ One g2 i := fun i hi e => by have e' : i = g2 := e; omega
  have hcs2 := (hcs.but aw1 hbW (fun t => t)).but b2 (by omega) (nb _ hb)
  have y2 := (y.after aw1).but b2 (fun k hk => nb k hk)
  have xr2 := (xr.low.after aw1).but b2 (fun k hk e => hk.1 e)
  rw [pc10_eq]
  refine wp_seq ?_
  refine plPart10 xr2 hsv f2 hkn (by omega) hcs2 y2 (fun t => by unfold Low at t; omega) ?_
  intro a3 W3 v10 v11 f3 p10 p11 x3 b3
  show Code.wp Tryz.prog (pc11 Tryz.f3) Q a3 W3
  have h23 := b3.size
  have x33 := x2.but b3 (fun k hk e => by have e' : k = g2 := e; rcases hk with hk | hk <;> omega)
  have y13 := ((y1.but b2 (fun k hk e => by have e' : k = g1 := e; omega))).but b3 (fun k hk e => by have e' : k = g2 := e; omega)
  have hin2 := (b2.block gi hgl (fun e => by have e' : gi = g1 := e; omega)).trans hin
  have hin3 := (b3.block gi (by omega) (fun e => by have e' : gi = g2 := e; omega)).trans hin2
  have y3 := y2.but b3 (fun k hk => nb2 k hk)
  have hcs3 := hcs2.but b3 (by omega) (nb2 _ hb)
  have p73 := p7.but b3 (fun k hk e => by have e' : k = g2 := e; omega)
  have p83 := p8.but b3 (fun k hk e => by have e' : k = g2 := e; omega)
  have s3 : ∀ z, oa1 = some z → Soft W3 z.block ∧ W.heap.size ≤ z.block ∧ z.block < gi := fun z hz => by
    obtain ⟨q1, q2, q3⟩ := s1 z hz
    exact ⟨(q1.but b2 (fun e => by have e' : z.block = g1 := e; omega)).but b3 (fun e => by have e' : z.block = g2 := e; omega), q2, q3⟩
  have xr33 := x3
  obtain ⟨c2, oa2, oc2, xx3⟩ := x3
  have hol := xx3.ol
  rw [pc11_eq]
  refine wp_seq ?_
  refine plPart11 f3 hkn (h11_of x33 xx3 hin3 y13 y3 (by omega) hcs3 hob hbb hsm p73 p83 p10 p11) ?_
  intro a4 W4 f4 aw4
  show Code.wp Tryz.prog (pc13 Tryz.f3) Q a4 W4
  have hin4 := keep3 hin3 aw4
  unfold msgC at hin4
  rw [pc13_eq]
  refine wp_seq ?_
  refine plPart13 f4 (Cel.of (y13.after aw4).or) (fun z hz => (s3 z hz).1.but aw4 (fun t => t)) hin4 hob (fun z hz => (s3 z hz).2.2) ?_
  intro a5 W5 f5 b5
  show Code.wp Tryz.prog (pc17 Tryz.f3) Q a5 W5
  have x5 := (x33.after aw4).but b5 (fun k hk e => by
    obtain ⟨z, hz, e⟩ := e
    have := (s3 z hz).2
    rcases hk with hk | hk <;> omega)
  have xr5 := (xr33.after aw4).but b5 (fun k hk e => by
    obtain ⟨z, hz, e⟩ := e
    have := (s3 z hz).2
    rcases hk with hk | hk <;> omega)
  rw [pc17_eq]
  refine wp_seq ?_
  refine plPart17 x5 f5 ?_
  intro a6 W6 oa6 oc6 f6 c6 s6 aw6
  show Code.wp Tryz.prog (pc18 Tryz.f3) Q a6 W6
  rw [pc18_eq]
  refine plPart18 f6 c6 (fun z hz => (s6 z hz).1) hol ?_
  intro a7 W7 f7 b7
  have h34 := aw4.size
  have h45 := b5.size
  have t1 : After w0 W1 := aw.trans aw1
  have t2 : After w0 W2 := t1.but.then b2 (fun i hi e => nb i hi e)
  have t3 : After w0 W3 := t2.but.then b3 (fun i hi e => nb2 i hi e)
  have t5 : After w0 W5 := (t3.trans aw4).but.then b5 (fun i hi e => by
    obtain ⟨z, hz, e⟩ := e
    have := (s3 z hz).2
    omega)
  have t7 : After w0 W7 := (t5.trans aw6).but.then b7 (fun i hi e => by
    obtain ⟨z, hz, e⟩ := e
    have := (s6 z hz).2
    have := t5.size
    omega)
  refine hK a7 W7 f7 ?_ ?_ t7
  · refine ((x5.low.after aw6).but b7 (fun k hk e => ?_)).mono (fun k hk => ?_)
    · obtain ⟨z, hz, e⟩ := e
      have := (s6 z hz).2
      omega
    · rcases hk.1 with hk | hk <;> omega
  · refine ((xr5.low.after aw6).but b7 (fun k hk e => ?_)).mono (fun k hk => ?_)
    · obtain ⟨z, hz, e⟩ := e
      have := (s6 z hz).2
      omega
    · rcases hk.1 with hk | hk <;> omega
/-- A round over the messages. -/
def Rpl (a : Act) (W : World) (v0 : Value) (g1 g2 n : Nat) (w : World) : Prop :=
  ∃ (k : Nat) (st : Mg), k ≤ n ∧ k ≤ 100 ∧ GA a v0 (Ptr g1) (Ptr g2) (.int .i64 (k : Int)) ∧ MgAt W (fun k => k ≠ g2) g1 st ∧ RgAt W (fun k => k ≠ g1) g2 st ∧ After w W
def muPl (a : Act) (_ : World) : Nat := 100 - (intOf (a.tmps.getD 5 undef)).toNat
theorem plRound {Q : Exit → Act → World → Prop} {a : Act} {W w : World} {a0 : Option Addr} {g1 g2 n c : Nat} {l : List Msg} (hI : Rpl a W (.slice a0 n c) g1 g2 n w) (hl : l.length = n) (hr : LstM w (Low w.heap.size) a0 l) (hg1 : w.heap.size ≤ g1) (hg2 : w.heap.size ≤ g2) (hK : ∀ a' W', GA a' (.slice a0 n c) (Ptr g1) (Ptr g2) (a'.tmps.getD 5 undef) → After w W' → Q (.exit 0) a' W') :
    Code.wp Tryz.prog (pcL Tryz.f3) (Exit.then (fun a' w' => Rpl a' w' (.slice a0 n c) g1 g2 n w ∧ muPl a' w' < muPl a W) Q) a W := by
  obtain ⟨k, st, hkn, hk100, hf, x, xr, aw⟩ := hI
  have hmu : muPl a W = 100 - k := by unfold muPl; rw [hf.s5]; simp [intOf]
  rw [hmu]
  clear hmu
  rw [pcL_eq]
  refine wp_seq ?_
  by_cases hgo : k < n ∧ k < 100
  · obtain ⟨hkn', hk'⟩ := hgo
    have i1 : (k : Int) < (n : Int) := by omega
    have i2 : (k : Int) < 100 := by omega
    have hM : l[k]? = some l[k] := List.getElem?_eq_getElem (by omega)
    generalize l[k] = M at hM
    obtain ⟨b, off, sa, sc, oa, oc, ba, bc, rfl, hp, hb, hcs, y, hob, hbb⟩ := (hr.but aw (fun _ _ t => t)) k M hM
    have last : ∀ a' W' st', GA a' (.slice (some ⟨b, off, none⟩) n c) (Ptr g1) (Ptr g2) (.int .i64 (k : Int)) → MgAt W' (fun k => k ≠ g2) g1 st' → RgAt W' (fun k => k ≠ g1) g2 st' → After w W' → Code.wp Tryz.prog (sq2 (sq2 (pcL Tryz.f3))) (Exit.then (fun a' w' => Rpl a' w' (.slice (some ⟨b, off, none⟩) n c) g1 g2 n w ∧ muPl a' w' < 100 - k) Q) a' W' := by
      intro a' W' st' hf x xr aw'
      obtain ⟨u, rfl⟩ := hf.lit
      have HX := hideIt (And.intro x (And.intro xr aw'))
      clear hf x xr aw' hr hK aw hcs y hp
      conv => arg 2; whnf
      go_wp2_with fail
      refine ⟨⟨k + 1, st', by omega, by omega, ⟨rfl, rfl, rfl, rfl, rfl, by show Value.int .i64 ((k : Int) + 1) = _; rw [Int.natCast_add]; rfl⟩, HX.out.1, HX.out.2.1, HX.out.2.2⟩, ?_⟩
      show 100 - (intOf (Value.int .i64 ((k : Int) + 1))).toNat < _
      simp [intOf]
      omega
    have body : ∀ a', GA a' (.slice (some ⟨b, off, none⟩) n c) (Ptr g1) (Ptr g2) (.int .i64 (k : Int)) → Code.wp Tryz.prog (.seq (.block 1 (pc8 Tryz.f3)) (sq2 (sq2 (pcL Tryz.f3)))) (Exit.then (fun a' w' => Rpl a' w' (.slice (some ⟨b, off, none⟩) n c) g1 g2 n w ∧ muPl a' w' < 100 - k) Q) a' W := by
      intro a' hf
      refine wp_seq ?_
      refine wp_block ?_
      refine plMess x xr aw hg1 hg2 hf i1 hp hcs y hob hbb ?_
      intro a2 W2 h2 x2 xr2 aw2
      exact last a2 W2 _ h2 x2 xr2 aw2
    have HB := hideIt body
    obtain ⟨u, rfl⟩ := hf.lit
    clear hf x xr aw hr hK hcs y last body hp hb hob hbb
    generalize Code.seq (.block 1 (pc8 Tryz.f3)) (sq2 (sq2 (pcL Tryz.f3))) = rest at *
    conv => arg 2; whnf
    go_wp2_with fail
    exact HB.out _ ⟨rfl, rfl, rfl, rfl, rfl, rfl⟩
  · have HK := hideIt hK
    have AW := hideIt aw
    obtain ⟨u, rfl⟩ := hf.lit
    clear hf x xr aw hr hK
    have hdd : (k < n ∧ ¬ k < 100) ∨ ¬ k < n := by omega
    clear hgo
    generalize Code.seq (.block 1 (pc8 Tryz.f3)) (sq2 (sq2 (pcL Tryz.f3))) = rest at *
    conv => arg 2; whnf
    rcases hdd with ⟨hkn', hk'⟩ | hkn'
    · have i1 : (k : Int) < (n : Int) := by omega
      have i2 : ¬ (k : Int) < 100 := by omega
      go_wp2_with fail
      exact HK.out _ _ ⟨rfl, rfl, rfl, rfl, rfl, rfl⟩ AW.out
    · have i1 : ¬ (k : Int) < (n : Int) := by omega
      go_wp2_with fail
      exact HK.out _ _ ⟨rfl, rfl, rfl, rfl, rfl, rfl⟩ AW.out
theorem pcB_eq : Tryz.f3.body = some (.seq (sq1 (pcB Tryz.f3)) (.seq (sq1 (sq2 (pcB Tryz.f3))) (.seq (sq1 (sq2 (sq2 (pcB Tryz.f3)))) (.seq (sq1 (sq2 (sq2 (sq2 (pcB Tryz.f3))))) (pcT Tryz.f3))))) := by kernel_rfl
theorem tail_plays {w W : World} {R : Ending → World → Prop} {a : Act} {a0 : Option Addr} {g1 g2 n c : Nat} {l : List Msg} (hl : l.length = n) (hr : LstM w (Low w.heap.size) a0 l) (hg1 : w.heap.size ≤ g1) (hg2 : w.heap.size ≤ g2) (x : MgAt W (fun k => k ≠ g2) g1 Mg.new) (xr : RgAt W (fun k => k ≠ g1) g2 Mg.new) (aw : After w W) (hs : a.tmps.size = 120) (hd : a.defers = []) (h0 : a.tmps.getD 0 undef = .slice a0 n c) (h3 : a.tmps.getD 3 undef = Ptr g1) (h4 : a.tmps.getD 4 undef = Ptr g2) (hR : ∀ W', After w W' → R (.returned (.bool true)) W') :
    Code.wp Tryz.prog (pcT Tryz.f3) (bodyPost Tryz.prog Tryz.f3 R) a W := by
  rw [pcT_eq]
  refine wp_seq ?_
  refine wp_seq ?_
  have HE : Hid (∀ a' W', GA a' (.slice a0 n c) (Ptr g1) (Ptr g2) (a'.tmps.getD 5 undef) → After w W' → Code.wp Tryz.prog (sq2 (pcT Tryz.f3)) (bodyPost Tryz.prog Tryz.f3 R) a' W') := by
    intro a' W' hf aw'
    obtain ⟨u, e⟩ := hf.lit
    have HR := hideIt (fun W2 (h : After W' W2) => hR W2 (aw'.trans h))
    have HA := hideIt (awakeL_any W')
    generalize a'.tmps.getD 5 undef = v5 at e
    subst e
    clear hf hr hR x xr aw aw'
    conv => arg 2; whnf
    go_wp2_with fail
    refine HA.out.mono ?_
    rintro e w2 ⟨rfl, a2⟩
    have H2 := hideIt a2
    clear a2 HA
    go_wp2_with fail
    exact HR.out _ H2.out
  have HL : Hid (∀ a', GA a' (.slice a0 n c) (Ptr g1) (Ptr g2) (.int .i64 0) → Code.wp Tryz.prog (.block 0 (.loop (pcL Tryz.f3))) (Exit.then (Code.wp Tryz.prog (sq2 (pcT Tryz.f3)) (bodyPost Tryz.prog Tryz.f3 R)) (bodyPost Tryz.prog Tryz.f3 R)) a' W) := by
    intro a' hf
    refine wp_block ?_
    refine wp_loop (fun a W => Rpl a W (.slice a0 n c) g1 g2 n w) muPl ⟨0, Mg.new, Nat.zero_le _, by omega, hf, x, xr, aw⟩ ?_
    intro a2 W2 hI
    refine plRound hI hl hr hg1 hg2 ?_
    intro a3 W3 h3 aw3
    exact pl_exit (HE.out a3 W3 h3 aw3)
  obtain ⟨u, hu, e⟩ := lit120 a hs hd
  have e0 := (hu 0).trans h0
  have e3 := (hu 3).trans h3
  have e4 := (hu 4).trans h4
  subst e
  rw [e0, e3, e4]
  clear hu e0 e3 e4 hs hd h0 h3 h4 hr hR x xr aw
  generalize Code.block 0 (.loop (pcL Tryz.f3)) = rest at *
  conv => arg 2; whnf
  go_wp2_with fail
  exact HL.out _ ⟨rfl, rfl, rfl, rfl, rfl, rfl⟩
set_option maxHeartbeats 1000000 in
theorem law_plays (w : World) (a : Option Addr) (n c : Nat) (l : List Msg) (hl : l.length = n) (hr : LstM w (Low w.heap.size) a l) :
    Calls Tryz.prog 3 #[.slice a n c] w fun e w' => e = .returned (.bool true) ∧ After w w' := by
  have HT := hideIt (fun W a' g1 g2 hg1 hg2 x xr aw => tail_plays (W := W) (a := a') (g1 := g1) (g2 := g2) (c := c) (R := fun e w' => e = .returned (.bool true) ∧ After w w') hl hr hg1 hg2 x xr aw)
  clear hr hl
  refine calls_of_wp Tryz.func3 pcB_eq ?_
  generalize (pcT Tryz.f3) = rest at *
  simp only [Tryz.ntmps3, List.size_toArray, List.length_cons, List.length_nil, Nat.reduceAdd, Nat.reduceSub, Array.replicate_succ, Array.replicate_zero, List.push_toArray, List.append_toArray, List.nil_append, List.cons_append]
  refine wp_seq ?_
  conv => arg 2; whnf
  go_wp2_with fail
  obtain ⟨w1, hw1⟩ : ∃ w1, w.alloc (.cells newC 51) = w1 := ⟨_, rfl⟩
  have hN := mgNew_any w
  rw [hw1] at hN
  have a1 : After w w1 := by rw [← hw1]; exact After.rfl.alloc _
  have n1 : w1.heap[w.heap.size]? = some (.cells newC 51 (0, 0)) := by rw [← hw1]; exact new1 _ _
  have z1 : w1.heap.size = w.heap.size + 1 := by rw [← hw1]; simp
  obtain ⟨w2, hw2⟩ : ∃ w2, w1.alloc (.cells rgC 41) = w2 := ⟨_, rfl⟩
  have hN2 := rgNew_any w1
  rw [hw2] at hN2
  have a2 : After w1 w2 := by rw [← hw2]; exact After.rfl.alloc _
  have n2 : w2.heap[w1.heap.size]? = some (.cells rgC 41 (0, 0)) := by rw [← hw2]; exact new1 _ _
  have x1 : MgAt w2 (fun k => k ≠ w1.heap.size) w.heap.size Mg.new := mg_new (keep3 n1 a2) (by omega)
  have x2 : RgAt w2 (fun k => k ≠ w.heap.size) w1.heap.size Mg.new := rg_new n2 (by omega)
  have HN := hideIt hN
  have HN2 := hideIt hN2
  have HX := hideIt (And.intro (a1.trans a2) (And.intro x1 (And.intro x2 (show w.heap.size ≤ w1.heap.size by omega))))
  clear hN hN2 a1 a2 x1 x2 n1 n2 z1 hw1 hw2
  conv => arg 2; whnf
  go_wp2_with fail
  refine HN.out.mono ?_
  rintro e w' ⟨rfl, hw'⟩
  rw [hw']
  clear hw' HN
  go_wp2_with fail
  conv => arg 2; whnf
  go_wp2_with fail
  refine HN2.out.mono ?_
  rintro e w' ⟨rfl, hw'⟩
  rw [hw']
  clear hw' HN2
  go_wp2_with fail
  conv => arg 2; whnf
  go_wp2_with fail
  exact HT.out _ _ _ _ (Nat.le_refl _) HX.out.2.2.2 HX.out.2.1 HX.out.2.2.1 HX.out.1 rfl rfl rfl rfl rfl (fun W' h => ⟨trivial, h⟩)
end Go.Proofs.YthcfdoafncbliaaGreat
/-
  What every row of this seat shares: bytes that are handed in, opened.
-/
namespace Go.Proofs.YthcfdoafncbliaaGreat
open Go.ChangeShapes Go.WideShapes Go.ChangeAt Go.RowKit
set_option maxRecDepth 100000
theorem own : ownKnob Tryz.prog.godebug = none := by kernel_rfl
theorem laidOut : laidOutB Tryz.prog = true := by kernel_rfl
theorem c5 : Tryz.prog.cellsOf 5 = 1 := by kernel_rfl
theorem b5 : Tryz.prog.bytesOf 5 = 1 := by kernel_rfl
theorem c3 : Tryz.prog.cellsOf 3 = 1 := by kernel_rfl
theorem b3 : Tryz.prog.bytesOf 3 = 8 := by kernel_rfl
section
variable {H : Type} {enc : TypeId × Value → H} {W : World} {base : Nat} {held : Bool}
/-- How long what is handed in is, by what it reads as. -/
def Shape (d : DataW H) (len : Nat) : Prop := len = 0 ∨ ∃ es sp, d = .slice es sp ∧ es.length = len
theorem open_bytes {r : Reach} {b0 : Nat} {v : Value} {d : DataW H} {p : List MemPlace} (hv : Value.okWide Tryz.prog W r b0 27 v) (h : DataW.Trod enc Tryz.prog W base (fun _ => true) held 27 v d p) :
    ∃ a len cap zs, v = .slice a len cap ∧ Row W a len zs ∧ (a = none → len = 0 ∧ cap = 0) ∧ Shape d len ∧ len ≤ cap := by
  obtain ⟨a, len, cap, rfl⟩ := okWide_slice Tryz.underlying27 hv
  obtain ⟨fuel, hf⟩ := h
  rcases open_ints Tryz.underlying27 Tryz.underlying5 c5 hf with ⟨hcs, _⟩ | ⟨x, l, c, zs, hcs, _, hl, hm, hz, hx, hcell, hwz⟩
  · simp [Value.cells] at hcs
    obtain ⟨rfl, rfl, rfl⟩ := hcs
    exact ⟨none, 0, 0, [], rfl, ⟨rfl, fun z hz => by simp at hz, fun i hi => absurd hi (by omega)⟩, fun _ => ⟨rfl, rfl⟩, .inl rfl, Nat.le_refl _⟩
  · simp [Value.cells] at hcs
    obtain ⟨rfl, rfl, rfl⟩ := hcs
    have hz' : zs.length = cap := by simpa using hz
    refine ⟨some x, len, cap, zs.take len, rfl, ⟨by rw [List.length_take]; omega, fun z hz => ?_, fun i hi => ?_⟩, (fun h => by cases h), .inr ⟨_, _, congrArg Prod.fst hx, by simp [lits]; omega⟩, hl⟩
    · have hb := bounds_u8 (hwz z (List.mem_of_mem_take hz))
      omega
    · have hc := hcell i (by omega)
      have hd := hcell 0 (by omega)
      obtain ⟨b, off, spot⟩ := x
      have hspot : spot = none := by simpa [Addr.add] using World.cell?_spot hd
      subst hspot
      have e : (⟨b, off, none⟩ : Addr).add i = ⟨b, off + i, none⟩ := by
        by_cases h0 : i = 0
        · subst h0; simp [Addr.add]
        · simp [Addr.add, h0]
      have hc0 : W.cell? ⟨b, off + i, none⟩ = some (.int .u8 (zs.getD i 0)) := by rw [← e]; exact hc
      have hlt : b < W.heap.size := by
        rcases Nat.lt_or_ge b W.heap.size with h' | h'
        · exact h'
        · unfold World.cell? at hc0
          simp [Array.getElem?_eq_none h'] at hc0
      refine ⟨b, off, rfl, hlt, ?_⟩
      rw [hc0]
      have e : (zs.take len).getD i 0 = zs.getD i 0 := by
        simp [hi]
      rw [e]
theorem sized {ts : List TypeId} {ds : List (DataW H)} {d : DataW H} {len : Nat} (h : (DataW.weightsEach Tryz.prog ts ds).all (· ≤ reachBytes) = true) (j : Nat) (ht : ts[j]? = some 27) (hd : ds[j]? = some d) (hs : Shape d len) : len ≤ 140737488351232 := by
  rcases hs with rfl | ⟨es, sp, rfl, rfl⟩
  · omega
  · have := sized_slice h ht hd Tryz.underlying27
    rw [b5] at this
    simp only [reachBytes] at this
    omega
end
end Go.Proofs.YthcfdoafncbliaaGreat
