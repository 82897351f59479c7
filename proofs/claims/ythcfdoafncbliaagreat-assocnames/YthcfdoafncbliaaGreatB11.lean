/-
  Laid together: Fields.
-/
import Derived.Test.YthcfdoafncbliaaGreatB07
/-
  The fields of a message, by a coder.
-/
namespace Go.Proofs.YthcfdoafncbliaaGreat
open Go.RowKit
set_option maxRecDepth 8000
/-- What is answered: a message; where it was read, who asks lies in memory of its own. -/
def Msgs (w w' : World) (m : Bool) (e : Ending) (P : Nat → Prop) (X : Msg) : Prop :=
  ∃ sa sc oa oc ba bc, e = .returned (X.val sa sc oa oc ba bc) ∧ MsgX w' (fun k => P k ∨ w.heap.size ≤ k) X sa sc oa oc ba bc ∧ (m = false → w'.ownsRow w.heap.size 5 1 (.slice sa X.sys.length sc) X.sys.length (u8s X.sys))
theorem MsgX.step {w w1 : World} {P S S1 : Nat → Prop} {M : Msg} {sa : Option Addr} {sc : Nat} {oa : Option Addr} {oc : Nat} {ba : Option Addr} {bc : Nat} (x : MsgX w P M sa sc oa oc ba bc) (s : Stp S w S1 w1) (h : ∀ k, P k → ¬ S k ∧ k < w.heap.size) : MsgX w1 P M sa sc oa oc ba bc ∧ ∀ k, P k → ¬ S1 k ∧ k < w1.heap.size :=
  ⟨x.but s.but (fun k hk => (h k hk).1), fun k hk => ⟨fun h1 => (s.new k h1).elim (h k hk).1 (fun h' => absurd (h k hk).2 (by omega)), Nat.lt_of_lt_of_le (h k hk).2 s.but.size⟩⟩
set_option maxHeartbeats 1000000 in
theorem f_57856 (w : World) (p q : Option Addr) (m : Bool) (zs : List Int) (S P : Nat → Prop) (M : Msg) (sa : Option Addr) (sc : Nat) (oa : Option Addr) (oc : Nat) (ba : Option Addr) (bc : Nat) (cd : Cod w p q m zs S) (x : MsgX w P M sa sc oa oc ba bc) (hP : ∀ k, P k → ¬ S k ∧ k < w.heap.size) (hl : m = true → zs.length ≤ 900000000) :
    Calls Tryz.prog 61 #[Co p q, .int .i64 57856, M.val sa sc oa oc ba bc] w fun e w' => Ends (fieldsF m 57856 M zs) (fun X us => Msgs w w' m e P X ∧ Went w w' p q m S us) (fun c => e = .panicked (Halt c) ∧ But S w w') := by
  have hmf : ∀ (fn : Fn) (first cap : Array Value) (w : World), (Instr.makeFunc fn first cap).run Tryz.prog w = .ok (.func fn first cap) w := fun _ _ _ _ => rfl
  obtain ⟨mk, ms, mc, mr, mq, mo, mb⟩ := M
  unfold Msg.val
  dsimp only
  have hE : fieldsF m 57856 ⟨mk, ms, mc, mr, mq, mo, mb⟩ zs = thn (sysF m ms zs) fun s zs => thn (num m 2 65535 mc zs) fun c zs => .ok (⟨57856, s, c, 0, 0, [], []⟩, zs) := by unfold fieldsF; rw [if_pos (by decide)]
  have hA : After w ((((w.alloc (.cells #[.pointer p, .pointer q] 79)).alloc (.cells #[.int .i64 mk, .slice sa ms.length sc, .int .i64 mc, .int .i64 mr, .int .i64 mq, .slice oa mo.length oc, .slice ba mb.length bc] 31)).alloc (.cells #[.int .i64 0, .slice none 0 0, .int .i64 0, .int .i64 0, .int .i64 0, .slice none 0 0, .slice none 0 0] 31)).alloc (.cells #[.int .i64 57856, .slice none 0 0, .int .i64 0, .int .i64 0, .int .i64 0, .slice none 0 0, .slice none 0 0] 31)) := (((After.rfl.alloc _).alloc _).alloc _).alloc _
  obtain ⟨b0, b1, b2, b3⟩ := new4 w (.cells #[.pointer p, .pointer q] 79) (.cells #[.int .i64 mk, .slice sa ms.length sc, .int .i64 mc, .int .i64 mr, .int .i64 mq, .slice oa mo.length oc, .slice ba mb.length bc] 31) (.cells #[.int .i64 0, .slice none 0 0, .int .i64 0, .int .i64 0, .int .i64 0, .slice none 0 0, .slice none 0 0] 31) (.cells #[.int .i64 57856, .slice none 0 0, .int .i64 0, .int .i64 0, .int .i64 0, .slice none 0 0, .slice none 0 0] 31)
  have kc0 : Keeps _ S _ _ := ⟨b0, fun h => absurd (cd.lt _ h) (by omega)⟩
  have km0 : Keeps _ S _ _ := ⟨b1, fun h => absurd (cd.lt _ h) (by omega)⟩
  have kz0 : Keeps _ S _ _ := ⟨b2, fun h => absurd (cd.lt _ h) (by omega)⟩
  have kt0 : Keeps _ S _ _ := ⟨b3, fun h => absurd (cd.lt _ h) (by omega)⟩
  have st0 : Stp S w S _ := Stp.rfl.after hA
  have x0 := x.after hA
  have hP0 : ∀ k, P k → ¬ S k ∧ k < ((((w.alloc (.cells #[.pointer p, .pointer q] 79)).alloc (.cells #[.int .i64 mk, .slice sa ms.length sc, .int .i64 mc, .int .i64 mr, .int .i64 mq, .slice oa mo.length oc, .slice ba mb.length bc] 31)).alloc (.cells #[.int .i64 0, .slice none 0 0, .int .i64 0, .int .i64 0, .int .i64 0, .slice none 0 0, .slice none 0 0] 31)).alloc (.cells #[.int .i64 57856, .slice none 0 0, .int .i64 0, .int .i64 0, .int .i64 0, .slice none 0 0, .slice none 0 0] 31)).heap.size := fun k hk => ⟨(hP k hk).1, Nat.lt_of_lt_of_le (hP k hk).2 hA.size⟩
  have c0 := cd.after hA
  have l0 : m = true → zs.length ≤ 900000000 := hl
  have HPW := hideIt hP
  have HCB := hideIt cd.bs
  clear b0 b1 b2 b3 cd x hP hl hA
  have H1 := hideIt (c_system _ p q m zs S sa ms.length sc ms c0 x0.sr x0.sn (fun y hy h0 => (hP0 _ (x0.sp y hy h0)).1) x0.sl (fun h => by have := l0 h; omega))
  have HX0 := hideIt (And.intro kc0 (And.intro km0 (And.intro kz0 (And.intro kt0 (And.intro st0 (And.intro x0 (And.intro hP0 (And.intro l0 (And.intro hE trivial)))))))))
  clear kc0 km0 kz0 kt0 st0 x0 hP0 c0 l0 hE
  go_enter Tryz.func61, Tryz.ntmps61
  go_wp2_with fail
  refine H1.out.mono ?_
  clear H1
  intro e w1 h1
  obtain ⟨kc, km, kz, kt, st, x, hP, l0, hE, _⟩ := HX0.out
  rcases h1.split with ⟨c9, e1, rfl, t⟩ | ⟨ys, z1, e1, a1, n1, cp, S1, rfl, vr, vn, vo, k1, s1, vp⟩
  · exact ⟨rfl, Ends.bad (hE.trans (thn_bad e1)) ⟨rfl, st.ends t⟩⟩
  obtain rfl : n1 = ys.length := vr.1.symm
  have HV8 := hideIt (sys_len e1 HCB.out).1
  have HSP := hideIt (show ∀ y, sa = some y → 0 < ms.length → P y.block ∧ y.block < w.heap.size from fun y hy h0 => ⟨x.sp y hy h0, (HPW.out _ (x.sp y hy h0)).2⟩)
  rw [World.size_alloc, World.size_alloc, World.size_alloc, World.size_alloc] at vp vo
  have kc9 := kc.step s1
  have km9 := km.step s1
  have kz9 := kz.step s1
  have kt9 := kt.step s1
  obtain ⟨x9, hP9⟩ := x.step s1 hP
  have st9 := st.trans s1
  obtain ⟨_, d10, d11, _, _⟩ := two_at kc9.at0
  obtain ⟨_, ⟨m10, m11, m12, m13, m14, m15, m16⟩, _⟩ := seven_at km9.at0
  obtain ⟨_, ⟨t10, t11, t12, t13, t14, t15, t16⟩, ⟨f10, f11, f12, f13, f14, f15, f16⟩⟩ := seven_at kt9.at0
  obtain ⟨_, ⟨y10, y11, y12, y13, y14, y15, y16⟩, ⟨g10, g11, g12, g13, g14, g15, g16⟩⟩ := seven_at kz9.at0
  have hE9 := hE.trans (thn_ok e1)
  have hwz : w.heap.size + 1 + 1 + 1 < w1.heap.size := kt9.lt
  have hlen9 : m = true → z1.length ≤ 900000000 + 65600 := fun h => by have := l0 h; have := (sys_len e1 HCB.out).2; omega
  have kc1 := kc9.far (g := w.heap.size + 1 + 1 + 1) (by omega) 1 (.slice a1 ys.length cp)
  have km1 := km9.far (g := w.heap.size + 1 + 1 + 1) (by omega) 1 (.slice a1 ys.length cp)
  have kz1 := kz9.far (g := w.heap.size + 1 + 1 + 1) (by omega) 1 (.slice a1 ys.length cp)
  have kt1 : Keeps (w1.setCell ⟨w.heap.size + 1 + 1 + 1, 1, none⟩ (.slice a1 ys.length cp)) S1 (w.heap.size + 1 + 1 + 1) (.cells #[.int .i64 57856, .slice a1 ys.length cp, .int .i64 0, .int .i64 0, .int .i64 0, .slice none 0 0, .slice none 0 0] 31 (0, 0)) := kt9.setA (.slice a1 ys.length cp)
  have st1 := st9.newly (g := w.heap.size + 1 + 1 + 1) (by omega) 1 (.slice a1 ys.length cp)
  have c1 := k1.set kt9.out 1 (.slice a1 ys.length cp)
  have x1 := x9.but (T := One (w.heap.size + 1 + 1 + 1)) (But.set (S := One (w.heap.size + 1 + 1 + 1)) But.rfl ⟨w.heap.size + 1 + 1 + 1, 1, none⟩ (fun _ => rfl) (.slice a1 ys.length cp)) (fun k hk h => by have := (HPW.out k hk).2; have h : k = w.heap.size + 1 + 1 + 1 := h; omega)
  have hP1 : ∀ k, P k → ¬ S1 k ∧ k < (w1.setCell ⟨w.heap.size + 1 + 1 + 1, 1, none⟩ (.slice a1 ys.length cp)).heap.size := fun k hk => ⟨(hP9 k hk).1, by rw [World.size_setCell]; exact (hP9 k hk).2⟩
  have vr := vr.but2 (S := One (w.heap.size + 1 + 1 + 1)) (But.set (S := One (w.heap.size + 1 + 1 + 1)) But.rfl ⟨w.heap.size + 1 + 1 + 1, 1, none⟩ (fun _ => rfl) (.slice a1 ys.length cp)) (fun y hy h0 h => by have h : y.block = w.heap.size + 1 + 1 + 1 := h; exact (vp y hy h0).2.elim (fun e => by have := (HSP.out y e.1 e.2).2; omega) (fun e => by omega))
  have vo := fun h => And.intro (own_but (S := One (w.heap.size + 1 + 1 + 1)) (vo h).1 (But.set (S := One (w.heap.size + 1 + 1 + 1)) But.rfl ⟨w.heap.size + 1 + 1 + 1, 1, none⟩ (fun _ => rfl) (.slice a1 ys.length cp)) (fun k hk e => by have e : k = w.heap.size + 1 + 1 + 1 := e; have := ((vo h).1.lt k hk).1; omega)) (vo h).2
  have l1 := hlen9
  have hE := hE9
  clear kc km kz kt st x hP l0 kc9 km9 kz9 kt9 st9 x9 hP9 e1 k1 s1 h1 hlen9 hE9 HX0 hwz y10 y11 y12 y13 y14 y15 y16 g10 g11 g12 g13 g14 g15 g16
  have H2 := hideIt (c_u16 _ p q m z1 S1 mc c1 (fun h => by have := l1 h; omega))
  have HX1 := hideIt (And.intro kc1 (And.intro km1 (And.intro kz1 (And.intro kt1 (And.intro st1 (And.intro x1 (And.intro hP1 (And.intro l1 (And.intro hE (And.intro vr (And.intro vn (And.intro vo vp))))))))))))
  clear kc1 km1 kz1 kt1 st1 x1 hP1 c1 l1 hE vr vn vo vp
  go_wp2_with fail
  refine H2.out.mono ?_
  clear H2
  intro e w2 h2
  obtain ⟨kc, km, kz, kt, st, x, hP, l0, hE, vr, vn, vo, vp⟩ := HX1.out
  rcases h2.split with ⟨c9, e2, rfl, t⟩ | ⟨v2, z2, e2, rfl, S2, k2, s2⟩
  · exact ⟨rfl, Ends.bad (hE.trans (thn_bad e2)) ⟨rfl, st.ends t⟩⟩
  have kc9 := kc.step s2
  have km9 := km.step s2
  have kz9 := kz.step s2
  have kt9 := kt.step s2
  obtain ⟨x9, hP9⟩ := x.step s2 hP
  have st9 := st.trans s2
  obtain ⟨_, d20, d21, _, _⟩ := two_at kc9.at0
  obtain ⟨_, ⟨m20, m21, m22, m23, m24, m25, m26⟩, _⟩ := seven_at km9.at0
  obtain ⟨_, ⟨t20, t21, t22, t23, t24, t25, t26⟩, ⟨f20, f21, f22, f23, f24, f25, f26⟩⟩ := seven_at kt9.at0
  obtain ⟨_, ⟨y20, y21, y22, y23, y24, y25, y26⟩, ⟨g20, g21, g22, g23, g24, g25, g26⟩⟩ := seven_at kz9.at0
  have hE9 := hE.trans (thn_ok e2)
  have hwz : w.heap.size + 1 + 1 + 1 < w2.heap.size := kt9.lt
  have vr9 := vr.but2 s2.but (fun y hy h0 => (vp y hy h0).1)
  have vo9 := fun h => own_but (vo h).1 s2.but (vo h).2
  have HF := hideIt (And.intro hE9 (And.intro k2 (And.intro st9 (And.intro kt9.out (And.intro kz9.out hwz)))))
  have HVS := hideIt (And.intro vr9 (And.intro vn (And.intro (fun h => own_base (vo9 h) (C := w.heap.size + 1 + 1 + 1 + 1) (fun k hk => ((vo9 h).lt k hk).1)) (And.intro (fun y hy h0 => (show y.block < w.heap.size ∨ w.heap.size + 1 + 1 + 1 + 1 ≤ y.block from (vp y hy h0).2.elim (fun h => .inl (HSP.out y h.1 h.2).2) (fun h => .inr h))) (fun y hy h0 => (show P y.block ∨ w.heap.size ≤ y.block from (vp y hy h0).2.elim (fun h => .inl (HSP.out y h.1 h.2).1) (fun h => .inr (by omega))))))))
  clear kc km kz kt st x hP l0 kc9 km9 kz9 kt9 st9 x9 hP9 e2 k2 s2 h2 hE hE9 HX1 hwz vr vn vo vp vr9 vo9
  go_wp2_with fail
  obtain ⟨E, k9, st9, o3, o2, hwz⟩ := HF.out
  refine bodyPost_ret (v := .agg #[.int .i64 57856, .slice a1 ys.length cp, .int .i64 v2, .int .i64 0, .int .i64 0, .slice none 0 0, .slice none 0 0]) (by simp [results, Tryz.results61, go_sem, y20, y21, y22, y23, y24, y25, y26]) rfl (Ends.ok E ⟨⟨a1, cp, none, 0, none, 0, rfl, ?_, ?_⟩, S2, ?_, ?_⟩)
  · refine MsgX.ofSys _ _ _ _ (Row.but2 (S := fun k => k = w.heap.size + 1 + 1 ∨ k = w.heap.size + 1 + 1 + 1) HVS.out.1 ?_ (fun y hy h0 h => by have := HVS.out.2.2.2.1 y hy h0; omega)) HVS.out.2.1 (fun y hy h0 => HVS.out.2.2.2.2 y hy h0) (by rw [HV8.out]; decide)
    iterate 7 refine But.set ?_ _ (fun _ => .inl rfl) _
    exact But.set But.rfl _ (fun _ => .inr rfl) _
  · refine fun hm => own_but (S := fun k => k = w.heap.size + 1 + 1 ∨ k = w.heap.size + 1 + 1 + 1) (own_base (HVS.out.2.2.1 hm) (fun k hk => Nat.le_trans (by omega) ((HVS.out.2.2.1 hm).lt k hk).1)) ?_ (fun k hk h => by have := ((HVS.out.2.2.1 hm).lt k hk).1; omega)
    iterate 7 refine But.set ?_ _ (fun _ => .inl rfl) _
    exact But.set But.rfl _ (fun _ => .inr rfl) _
  · iterate 7 refine Cod.set ?_ o2 _ _
    exact k9.set o3 _ _
  · iterate 7 refine Stp.newly ?_ (by omega) _ _
    exact st9.newly (by omega) _ _
set_option maxHeartbeats 1000000 in
theorem f_58112 (w : World) (p q : Option Addr) (m : Bool) (zs : List Int) (S P : Nat → Prop) (M : Msg) (sa : Option Addr) (sc : Nat) (oa : Option Addr) (oc : Nat) (ba : Option Addr) (bc : Nat) (cd : Cod w p q m zs S) (x : MsgX w P M sa sc oa oc ba bc) (hP : ∀ k, P k → ¬ S k ∧ k < w.heap.size) (hl : m = true → zs.length ≤ 900000000) :
    Calls Tryz.prog 61 #[Co p q, .int .i64 58112, M.val sa sc oa oc ba bc] w fun e w' => Ends (fieldsF m 58112 M zs) (fun X us => Msgs w w' m e P X ∧ Went w w' p q m S us) (fun c => e = .panicked (Halt c) ∧ But S w w') := by
  have hmf : ∀ (fn : Fn) (first cap : Array Value) (w : World), (Instr.makeFunc fn first cap).run Tryz.prog w = .ok (.func fn first cap) w := fun _ _ _ _ => rfl
  obtain ⟨mk, ms, mc, mr, mq, mo, mb⟩ := M
  unfold Msg.val
  dsimp only
  have hE : fieldsF m 58112 ⟨mk, ms, mc, mr, mq, mo, mb⟩ zs = thn (num m 2 65535 mr zs) fun r zs => thn (num m 2 65535 mc zs) fun c zs => .ok (⟨58112, [], c, r, 0, [], []⟩, zs) := by unfold fieldsF; rw [if_neg (by decide), if_pos (by decide)]
  have hA : After w ((((w.alloc (.cells #[.pointer p, .pointer q] 79)).alloc (.cells #[.int .i64 mk, .slice sa ms.length sc, .int .i64 mc, .int .i64 mr, .int .i64 mq, .slice oa mo.length oc, .slice ba mb.length bc] 31)).alloc (.cells #[.int .i64 0, .slice none 0 0, .int .i64 0, .int .i64 0, .int .i64 0, .slice none 0 0, .slice none 0 0] 31)).alloc (.cells #[.int .i64 58112, .slice none 0 0, .int .i64 0, .int .i64 0, .int .i64 0, .slice none 0 0, .slice none 0 0] 31)) := (((After.rfl.alloc _).alloc _).alloc _).alloc _
  obtain ⟨b0, b1, b2, b3⟩ := new4 w (.cells #[.pointer p, .pointer q] 79) (.cells #[.int .i64 mk, .slice sa ms.length sc, .int .i64 mc, .int .i64 mr, .int .i64 mq, .slice oa mo.length oc, .slice ba mb.length bc] 31) (.cells #[.int .i64 0, .slice none 0 0, .int .i64 0, .int .i64 0, .int .i64 0, .slice none 0 0, .slice none 0 0] 31) (.cells #[.int .i64 58112, .slice none 0 0, .int .i64 0, .int .i64 0, .int .i64 0, .slice none 0 0, .slice none 0 0] 31)
  have kc0 : Keeps _ S _ _ := ⟨b0, fun h => absurd (cd.lt _ h) (by omega)⟩
  have km0 : Keeps _ S _ _ := ⟨b1, fun h => absurd (cd.lt _ h) (by omega)⟩
  have kz0 : Keeps _ S _ _ := ⟨b2, fun h => absurd (cd.lt _ h) (by omega)⟩
  have kt0 : Keeps _ S _ _ := ⟨b3, fun h => absurd (cd.lt _ h) (by omega)⟩
  have st0 : Stp S w S _ := Stp.rfl.after hA
  have x0 := x.after hA
  have hP0 : ∀ k, P k → ¬ S k ∧ k < ((((w.alloc (.cells #[.pointer p, .pointer q] 79)).alloc (.cells #[.int .i64 mk, .slice sa ms.length sc, .int .i64 mc, .int .i64 mr, .int .i64 mq, .slice oa mo.length oc, .slice ba mb.length bc] 31)).alloc (.cells #[.int .i64 0, .slice none 0 0, .int .i64 0, .int .i64 0, .int .i64 0, .slice none 0 0, .slice none 0 0] 31)).alloc (.cells #[.int .i64 58112, .slice none 0 0, .int .i64 0, .int .i64 0, .int .i64 0, .slice none 0 0, .slice none 0 0] 31)).heap.size := fun k hk => ⟨(hP k hk).1, Nat.lt_of_lt_of_le (hP k hk).2 hA.size⟩
  have c0 := cd.after hA
  have l0 : m = true → zs.length ≤ 900000000 := hl
  have HPW := hideIt hP
  have HCB := hideIt cd.bs
  clear b0 b1 b2 b3 cd x hP hl hA
  have H1 := hideIt (c_u16 _ p q m zs S mr c0 (fun h => by have := l0 h; omega))
  have HX0 := hideIt (And.intro kc0 (And.intro km0 (And.intro kz0 (And.intro kt0 (And.intro st0 (And.intro x0 (And.intro hP0 (And.intro l0 (And.intro hE trivial)))))))))
  clear kc0 km0 kz0 kt0 st0 x0 hP0 c0 l0 hE
  go_enter Tryz.func61, Tryz.ntmps61
  go_wp2_with fail
  refine H1.out.mono ?_
  clear H1
  intro e w1 h1
  obtain ⟨kc, km, kz, kt, st, x, hP, l0, hE, _⟩ := HX0.out
  rcases h1.split with ⟨c9, e1, rfl, t⟩ | ⟨v1, z1, e1, rfl, S1, k1, s1⟩
  · exact ⟨rfl, Ends.bad (hE.trans (thn_bad e1)) ⟨rfl, st.ends t⟩⟩
  have kc9 := kc.step s1
  have km9 := km.step s1
  have kz9 := kz.step s1
  have kt9 := kt.step s1
  obtain ⟨x9, hP9⟩ := x.step s1 hP
  have st9 := st.trans s1
  obtain ⟨_, d10, d11, _, _⟩ := two_at kc9.at0
  obtain ⟨_, ⟨m10, m11, m12, m13, m14, m15, m16⟩, _⟩ := seven_at km9.at0
  obtain ⟨_, ⟨t10, t11, t12, t13, t14, t15, t16⟩, ⟨f10, f11, f12, f13, f14, f15, f16⟩⟩ := seven_at kt9.at0
  obtain ⟨_, ⟨y10, y11, y12, y13, y14, y15, y16⟩, ⟨g10, g11, g12, g13, g14, g15, g16⟩⟩ := seven_at kz9.at0
  have hE9 := hE.trans (thn_ok e1)
  have hwz : w.heap.size + 1 + 1 + 1 < w1.heap.size := kt9.lt
  have hlen9 : m = true → z1.length ≤ 900000000 + 65600 := fun h => by have := l0 h; have := num_len e1; omega
  have kc1 := kc9.far (g := w.heap.size + 1 + 1 + 1) (by omega) 3 (.int .i64 v1)
  have km1 := km9.far (g := w.heap.size + 1 + 1 + 1) (by omega) 3 (.int .i64 v1)
  have kz1 := kz9.far (g := w.heap.size + 1 + 1 + 1) (by omega) 3 (.int .i64 v1)
  have kt1 : Keeps (w1.setCell ⟨w.heap.size + 1 + 1 + 1, 3, none⟩ (.int .i64 v1)) S1 (w.heap.size + 1 + 1 + 1) (.cells #[.int .i64 58112, .slice none 0 0, .int .i64 0, .int .i64 v1, .int .i64 0, .slice none 0 0, .slice none 0 0] 31 (0, 0)) := kt9.setA (.int .i64 v1)
  have st1 := st9.newly (g := w.heap.size + 1 + 1 + 1) (by omega) 3 (.int .i64 v1)
  have c1 := k1.set kt9.out 3 (.int .i64 v1)
  have x1 := x9.but (T := One (w.heap.size + 1 + 1 + 1)) (But.set (S := One (w.heap.size + 1 + 1 + 1)) But.rfl ⟨w.heap.size + 1 + 1 + 1, 3, none⟩ (fun _ => rfl) (.int .i64 v1)) (fun k hk h => by have := (HPW.out k hk).2; have h : k = w.heap.size + 1 + 1 + 1 := h; omega)
  have hP1 : ∀ k, P k → ¬ S1 k ∧ k < (w1.setCell ⟨w.heap.size + 1 + 1 + 1, 3, none⟩ (.int .i64 v1)).heap.size := fun k hk => ⟨(hP9 k hk).1, by rw [World.size_setCell]; exact (hP9 k hk).2⟩
  have l1 := hlen9
  have hE := hE9
  clear kc km kz kt st x hP l0 kc9 km9 kz9 kt9 st9 x9 hP9 e1 k1 s1 h1 hlen9 hE9 HX0 hwz y10 y11 y12 y13 y14 y15 y16 g10 g11 g12 g13 g14 g15 g16
  have H2 := hideIt (c_u16 _ p q m z1 S1 mc c1 (fun h => by have := l1 h; omega))
  have HX1 := hideIt (And.intro kc1 (And.intro km1 (And.intro kz1 (And.intro kt1 (And.intro st1 (And.intro x1 (And.intro hP1 (And.intro l1 (And.intro hE trivial)))))))))
  clear kc1 km1 kz1 kt1 st1 x1 hP1 c1 l1 hE
  go_wp2_with fail
  refine H2.out.mono ?_
  clear H2
  intro e w2 h2
  obtain ⟨kc, km, kz, kt, st, x, hP, l0, hE, _⟩ := HX1.out
  rcases h2.split with ⟨c9, e2, rfl, t⟩ | ⟨v2, z2, e2, rfl, S2, k2, s2⟩
  · exact ⟨rfl, Ends.bad (hE.trans (thn_bad e2)) ⟨rfl, st.ends t⟩⟩
  have kc9 := kc.step s2
  have km9 := km.step s2
  have kz9 := kz.step s2
  have kt9 := kt.step s2
  obtain ⟨x9, hP9⟩ := x.step s2 hP
  have st9 := st.trans s2
  obtain ⟨_, d20, d21, _, _⟩ := two_at kc9.at0
  obtain ⟨_, ⟨m20, m21, m22, m23, m24, m25, m26⟩, _⟩ := seven_at km9.at0
  obtain ⟨_, ⟨t20, t21, t22, t23, t24, t25, t26⟩, ⟨f20, f21, f22, f23, f24, f25, f26⟩⟩ := seven_at kt9.at0
  obtain ⟨_, ⟨y20, y21, y22, y23, y24, y25, y26⟩, ⟨g20, g21, g22, g23, g24, g25, g26⟩⟩ := seven_at kz9.at0
  have hE9 := hE.trans (thn_ok e2)
  have hwz : w.heap.size + 1 + 1 + 1 < w2.heap.size := kt9.lt
  have HF := hideIt (And.intro hE9 (And.intro k2 (And.intro st9 (And.intro kt9.out (And.intro kz9.out hwz)))))
  clear kc km kz kt st x hP l0 kc9 km9 kz9 kt9 st9 x9 hP9 e2 k2 s2 h2 hE hE9 HX1 hwz
  go_wp2_with fail
  obtain ⟨E, k9, st9, o3, o2, hwz⟩ := HF.out
  refine bodyPost_ret (v := .agg #[.int .i64 58112, .slice none 0 0, .int .i64 v2, .int .i64 v1, .int .i64 0, .slice none 0 0, .slice none 0 0]) (by simp [results, Tryz.results61, go_sem, y20, y21, y22, y23, y24, y25, y26]) rfl (Ends.ok E ⟨⟨none, 0, none, 0, none, 0, rfl, ?_, ?_⟩, S2, ?_, ?_⟩)
  · exact MsgX.nils _ _ _ _ _ _
  · exact fun _ => World.ownsRow_nil _ _ _ _
  · iterate 7 refine Cod.set ?_ o2 _ _
    exact k9.set o3 _ _
  · iterate 7 refine Stp.newly ?_ (by omega) _ _
    exact st9.newly (by omega) _ _
set_option maxHeartbeats 1000000 in
theorem f_58368 (w : World) (p q : Option Addr) (m : Bool) (zs : List Int) (S P : Nat → Prop) (M : Msg) (sa : Option Addr) (sc : Nat) (oa : Option Addr) (oc : Nat) (ba : Option Addr) (bc : Nat) (cd : Cod w p q m zs S) (x : MsgX w P M sa sc oa oc ba bc) (hP : ∀ k, P k → ¬ S k ∧ k < w.heap.size) (hl : m = true → zs.length ≤ 900000000) :
    Calls Tryz.prog 61 #[Co p q, .int .i64 58368, M.val sa sc oa oc ba bc] w fun e w' => Ends (fieldsF m 58368 M zs) (fun X us => Msgs w w' m e P X ∧ Went w w' p q m S us) (fun c => e = .panicked (Halt c) ∧ But S w w') := by
  have hmf : ∀ (fn : Fn) (first cap : Array Value) (w : World), (Instr.makeFunc fn first cap).run Tryz.prog w = .ok (.func fn first cap) w := fun _ _ _ _ => rfl
  obtain ⟨mk, ms, mc, mr, mq, mo, mb⟩ := M
  unfold Msg.val
  dsimp only
  have hE : fieldsF m 58368 ⟨mk, ms, mc, mr, mq, mo, mb⟩ zs = thn (num m 2 65535 mq zs) fun q zs => .ok (⟨58368, [], 0, 0, q, [], []⟩, zs) := by unfold fieldsF; rw [if_neg (by decide), if_neg (by decide), if_pos (by decide)]
  have hA : After w ((((w.alloc (.cells #[.pointer p, .pointer q] 79)).alloc (.cells #[.int .i64 mk, .slice sa ms.length sc, .int .i64 mc, .int .i64 mr, .int .i64 mq, .slice oa mo.length oc, .slice ba mb.length bc] 31)).alloc (.cells #[.int .i64 0, .slice none 0 0, .int .i64 0, .int .i64 0, .int .i64 0, .slice none 0 0, .slice none 0 0] 31)).alloc (.cells #[.int .i64 58368, .slice none 0 0, .int .i64 0, .int .i64 0, .int .i64 0, .slice none 0 0, .slice none 0 0] 31)) := (((After.rfl.alloc _).alloc _).alloc _).alloc _
  obtain ⟨b0, b1, b2, b3⟩ := new4 w (.cells #[.pointer p, .pointer q] 79) (.cells #[.int .i64 mk, .slice sa ms.length sc, .int .i64 mc, .int .i64 mr, .int .i64 mq, .slice oa mo.length oc, .slice ba mb.length bc] 31) (.cells #[.int .i64 0, .slice none 0 0, .int .i64 0, .int .i64 0, .int .i64 0, .slice none 0 0, .slice none 0 0] 31) (.cells #[.int .i64 58368, .slice none 0 0, .int .i64 0, .int .i64 0, .int .i64 0, .slice none 0 0, .slice none 0 0] 31)
  have kc0 : Keeps _ S _ _ := ⟨b0, fun h => absurd (cd.lt _ h) (by omega)⟩
  have km0 : Keeps _ S _ _ := ⟨b1, fun h => absurd (cd.lt _ h) (by omega)⟩
  have kz0 : Keeps _ S _ _ := ⟨b2, fun h => absurd (cd.lt _ h) (by omega)⟩
  have kt0 : Keeps _ S _ _ := ⟨b3, fun h => absurd (cd.lt _ h) (by omega)⟩
  have st0 : Stp S w S _ := Stp.rfl.after hA
  have x0 := x.after hA
  have hP0 : ∀ k, P k → ¬ S k ∧ k < ((((w.alloc (.cells #[.pointer p, .pointer q] 79)).alloc (.cells #[.int .i64 mk, .slice sa ms.length sc, .int .i64 mc, .int .i64 mr, .int .i64 mq, .slice oa mo.length oc, .slice ba mb.length bc] 31)).alloc (.cells #[.int .i64 0, .slice none 0 0, .int .i64 0, .int .i64 0, .int .i64 0, .slice none 0 0, .slice none 0 0] 31)).alloc (.cells #[.int .i64 58368, .slice none 0 0, .int .i64 0, .int .i64 0, .int .i64 0, .slice none 0 0, .slice none 0 0] 31)).heap.size := fun k hk => ⟨(hP k hk).1, Nat.lt_of_lt_of_le (hP k hk).2 hA.size⟩
  have c0 := cd.after hA
  have l0 : m = true → zs.length ≤ 900000000 := hl
  have HPW := hideIt hP
  have HCB := hideIt cd.bs
  clear b0 b1 b2 b3 cd x hP hl hA
  have H1 := hideIt (c_u16 _ p q m zs S mq c0 (fun h => by have := l0 h; omega))
  have HX0 := hideIt (And.intro kc0 (And.intro km0 (And.intro kz0 (And.intro kt0 (And.intro st0 (And.intro x0 (And.intro hP0 (And.intro l0 (And.intro hE trivial)))))))))
  clear kc0 km0 kz0 kt0 st0 x0 hP0 c0 l0 hE
  go_enter Tryz.func61, Tryz.ntmps61
  go_wp2_with fail
  refine H1.out.mono ?_
  clear H1
  intro e w1 h1
  obtain ⟨kc, km, kz, kt, st, x, hP, l0, hE, _⟩ := HX0.out
  rcases h1.split with ⟨c9, e1, rfl, t⟩ | ⟨v1, z1, e1, rfl, S1, k1, s1⟩
  · exact ⟨rfl, Ends.bad (hE.trans (thn_bad e1)) ⟨rfl, st.ends t⟩⟩
  have kc9 := kc.step s1
  have km9 := km.step s1
  have kz9 := kz.step s1
  have kt9 := kt.step s1
  obtain ⟨x9, hP9⟩ := x.step s1 hP
  have st9 := st.trans s1
  obtain ⟨_, d10, d11, _, _⟩ := two_at kc9.at0
  obtain ⟨_, ⟨m10, m11, m12, m13, m14, m15, m16⟩, _⟩ := seven_at km9.at0
  obtain ⟨_, ⟨t10, t11, t12, t13, t14, t15, t16⟩, ⟨f10, f11, f12, f13, f14, f15, f16⟩⟩ := seven_at kt9.at0
  obtain ⟨_, ⟨y10, y11, y12, y13, y14, y15, y16⟩, ⟨g10, g11, g12, g13, g14, g15, g16⟩⟩ := seven_at kz9.at0
  have hE9 := hE.trans (thn_ok e1)
  have hwz : w.heap.size + 1 + 1 + 1 < w1.heap.size := kt9.lt
  have HF := hideIt (And.intro hE9 (And.intro k1 (And.intro st9 (And.intro kt9.out (And.intro kz9.out hwz)))))
  clear kc km kz kt st x hP l0 kc9 km9 kz9 kt9 st9 x9 hP9 e1 k1 s1 h1 hE hE9 HX0 hwz
  go_wp2_with fail
  obtain ⟨E, k9, st9, o3, o2, hwz⟩ := HF.out
  refine bodyPost_ret (v := .agg #[.int .i64 58368, .slice none 0 0, .int .i64 0, .int .i64 0, .int .i64 v1, .slice none 0 0, .slice none 0 0]) (by simp [results, Tryz.results61, go_sem, y10, y11, y12, y13, y14, y15, y16]) rfl (Ends.ok E ⟨⟨none, 0, none, 0, none, 0, rfl, ?_, ?_⟩, S1, ?_, ?_⟩)
  · exact MsgX.nils _ _ _ _ _ _
  · exact fun _ => World.ownsRow_nil _ _ _ _
  · iterate 7 refine Cod.set ?_ o2 _ _
    exact k9.set o3 _ _
  · iterate 7 refine Stp.newly ?_ (by omega) _ _
    exact st9.newly (by omega) _ _
set_option maxHeartbeats 1000000 in
theorem f_58624 (w : World) (p q : Option Addr) (m : Bool) (zs : List Int) (S P : Nat → Prop) (M : Msg) (sa : Option Addr) (sc : Nat) (oa : Option Addr) (oc : Nat) (ba : Option Addr) (bc : Nat) (cd : Cod w p q m zs S) (x : MsgX w P M sa sc oa oc ba bc) (hP : ∀ k, P k → ¬ S k ∧ k < w.heap.size) (hl : m = true → zs.length ≤ 900000000) :
    Calls Tryz.prog 61 #[Co p q, .int .i64 58624, M.val sa sc oa oc ba bc] w fun e w' => Ends (fieldsF m 58624 M zs) (fun X us => Msgs w w' m e P X ∧ Went w w' p q m S us) (fun c => e = .panicked (Halt c) ∧ But S w w') := by
  have hmf : ∀ (fn : Fn) (first cap : Array Value) (w : World), (Instr.makeFunc fn first cap).run Tryz.prog w = .ok (.func fn first cap) w := fun _ _ _ _ => rfl
  obtain ⟨mk, ms, mc, mr, mq, mo, mb⟩ := M
  unfold Msg.val
  dsimp only
  have hE : fieldsF m 58624 ⟨mk, ms, mc, mr, mq, mo, mb⟩ zs = thn (num m 2 65535 mq zs) fun q zs => .ok (⟨58624, [], 0, 0, q, [], []⟩, zs) := by unfold fieldsF; rw [if_neg (by decide), if_neg (by decide), if_pos (by decide)]
  have hA : After w ((((w.alloc (.cells #[.pointer p, .pointer q] 79)).alloc (.cells #[.int .i64 mk, .slice sa ms.length sc, .int .i64 mc, .int .i64 mr, .int .i64 mq, .slice oa mo.length oc, .slice ba mb.length bc] 31)).alloc (.cells #[.int .i64 0, .slice none 0 0, .int .i64 0, .int .i64 0, .int .i64 0, .slice none 0 0, .slice none 0 0] 31)).alloc (.cells #[.int .i64 58624, .slice none 0 0, .int .i64 0, .int .i64 0, .int .i64 0, .slice none 0 0, .slice none 0 0] 31)) := (((After.rfl.alloc _).alloc _).alloc _).alloc _
  obtain ⟨b0, b1, b2, b3⟩ := new4 w (.cells #[.pointer p, .pointer q] 79) (.cells #[.int .i64 mk, .slice sa ms.length sc, .int .i64 mc, .int .i64 mr, .int .i64 mq, .slice oa mo.length oc, .slice ba mb.length bc] 31) (.cells #[.int .i64 0, .slice none 0 0, .int .i64 0, .int .i64 0, .int .i64 0, .slice none 0 0, .slice none 0 0] 31) (.cells #[.int .i64 58624, .slice none 0 0, .int .i64 0, .int .i64 0, .int .i64 0, .slice none 0 0, .slice none 0 0] 31)
  have kc0 : Keeps _ S _ _ := ⟨b0, fun h => absurd (cd.lt _ h) (by omega)⟩
  have km0 : Keeps _ S _ _ := ⟨b1, fun h => absurd (cd.lt _ h) (by omega)⟩
  have kz0 : Keeps _ S _ _ := ⟨b2, fun h => absurd (cd.lt _ h) (by omega)⟩
  have kt0 : Keeps _ S _ _ := ⟨b3, fun h => absurd (cd.lt _ h) (by omega)⟩
  have st0 : Stp S w S _ := Stp.rfl.after hA
  have x0 := x.after hA
  have hP0 : ∀ k, P k → ¬ S k ∧ k < ((((w.alloc (.cells #[.pointer p, .pointer q] 79)).alloc (.cells #[.int .i64 mk, .slice sa ms.length sc, .int .i64 mc, .int .i64 mr, .int .i64 mq, .slice oa mo.length oc, .slice ba mb.length bc] 31)).alloc (.cells #[.int .i64 0, .slice none 0 0, .int .i64 0, .int .i64 0, .int .i64 0, .slice none 0 0, .slice none 0 0] 31)).alloc (.cells #[.int .i64 58624, .slice none 0 0, .int .i64 0, .int .i64 0, .int .i64 0, .slice none 0 0, .slice none 0 0] 31)).heap.size := fun k hk => ⟨(hP k hk).1, Nat.lt_of_lt_of_le (hP k hk).2 hA.size⟩
  have c0 := cd.after hA
  have l0 : m = true → zs.length ≤ 900000000 := hl
  have HPW := hideIt hP
  have HCB := hideIt cd.bs
  clear b0 b1 b2 b3 cd x hP hl hA
  have H1 := hideIt (c_u16 _ p q m zs S mq c0 (fun h => by have := l0 h; omega))
  have HX0 := hideIt (And.intro kc0 (And.intro km0 (And.intro kz0 (And.intro kt0 (And.intro st0 (And.intro x0 (And.intro hP0 (And.intro l0 (And.intro hE trivial)))))))))
  clear kc0 km0 kz0 kt0 st0 x0 hP0 c0 l0 hE
  go_enter Tryz.func61, Tryz.ntmps61
  go_wp2_with fail
  refine H1.out.mono ?_
  clear H1
  intro e w1 h1
  obtain ⟨kc, km, kz, kt, st, x, hP, l0, hE, _⟩ := HX0.out
  rcases h1.split with ⟨c9, e1, rfl, t⟩ | ⟨v1, z1, e1, rfl, S1, k1, s1⟩
  · exact ⟨rfl, Ends.bad (hE.trans (thn_bad e1)) ⟨rfl, st.ends t⟩⟩
  have kc9 := kc.step s1
  have km9 := km.step s1
  have kz9 := kz.step s1
  have kt9 := kt.step s1
  obtain ⟨x9, hP9⟩ := x.step s1 hP
  have st9 := st.trans s1
  obtain ⟨_, d10, d11, _, _⟩ := two_at kc9.at0
  obtain ⟨_, ⟨m10, m11, m12, m13, m14, m15, m16⟩, _⟩ := seven_at km9.at0
  obtain ⟨_, ⟨t10, t11, t12, t13, t14, t15, t16⟩, ⟨f10, f11, f12, f13, f14, f15, f16⟩⟩ := seven_at kt9.at0
  obtain ⟨_, ⟨y10, y11, y12, y13, y14, y15, y16⟩, ⟨g10, g11, g12, g13, g14, g15, g16⟩⟩ := seven_at kz9.at0
  have hE9 := hE.trans (thn_ok e1)
  have hwz : w.heap.size + 1 + 1 + 1 < w1.heap.size := kt9.lt
  have HF := hideIt (And.intro hE9 (And.intro k1 (And.intro st9 (And.intro kt9.out (And.intro kz9.out hwz)))))
  clear kc km kz kt st x hP l0 kc9 km9 kz9 kt9 st9 x9 hP9 e1 k1 s1 h1 hE hE9 HX0 hwz
  go_wp2_with fail
  obtain ⟨E, k9, st9, o3, o2, hwz⟩ := HF.out
  refine bodyPost_ret (v := .agg #[.int .i64 58624, .slice none 0 0, .int .i64 0, .int .i64 0, .int .i64 v1, .slice none 0 0, .slice none 0 0]) (by simp [results, Tryz.results61, go_sem, y10, y11, y12, y13, y14, y15, y16]) rfl (Ends.ok E ⟨⟨none, 0, none, 0, none, 0, rfl, ?_, ?_⟩, S1, ?_, ?_⟩)
  · exact MsgX.nils _ _ _ _ _ _
  · exact fun _ => World.ownsRow_nil _ _ _ _
  · iterate 7 refine Cod.set ?_ o2 _ _
    exact k9.set o3 _ _
  · iterate 7 refine Stp.newly ?_ (by omega) _ _
    exact st9.newly (by omega) _ _
set_option maxHeartbeats 1000000 in
theorem f_58880 (w : World) (p q : Option Addr) (m : Bool) (zs : List Int) (S P : Nat → Prop) (M : Msg) (sa : Option Addr) (sc : Nat) (oa : Option Addr) (oc : Nat) (ba : Option Addr) (bc : Nat) (cd : Cod w p q m zs S) (x : MsgX w P M sa sc oa oc ba bc) (hP : ∀ k, P k → ¬ S k ∧ k < w.heap.size) (hl : m = true → zs.length ≤ 900000000) :
    Calls Tryz.prog 61 #[Co p q, .int .i64 58880, M.val sa sc oa oc ba bc] w fun e w' => Ends (fieldsF m 58880 M zs) (fun X us => Msgs w w' m e P X ∧ Went w w' p q m S us) (fun c => e = .panicked (Halt c) ∧ But S w w') := by
  have hmf : ∀ (fn : Fn) (first cap : Array Value) (w : World), (Instr.makeFunc fn first cap).run Tryz.prog w = .ok (.func fn first cap) w := fun _ _ _ _ => rfl
  obtain ⟨mk, ms, mc, mr, mq, mo, mb⟩ := M
  unfold Msg.val
  dsimp only
  have hE : fieldsF m 58880 ⟨mk, ms, mc, mr, mq, mo, mb⟩ zs = thn (num m 2 65535 mq zs) fun q zs => .ok (⟨58880, [], 0, 0, q, [], []⟩, zs) := by unfold fieldsF; rw [if_neg (by decide), if_neg (by decide), if_pos (by decide)]
  have hA : After w ((((w.alloc (.cells #[.pointer p, .pointer q] 79)).alloc (.cells #[.int .i64 mk, .slice sa ms.length sc, .int .i64 mc, .int .i64 mr, .int .i64 mq, .slice oa mo.length oc, .slice ba mb.length bc] 31)).alloc (.cells #[.int .i64 0, .slice none 0 0, .int .i64 0, .int .i64 0, .int .i64 0, .slice none 0 0, .slice none 0 0] 31)).alloc (.cells #[.int .i64 58880, .slice none 0 0, .int .i64 0, .int .i64 0, .int .i64 0, .slice none 0 0, .slice none 0 0] 31)) := (((After.rfl.alloc _).alloc _).alloc _).alloc _
  obtain ⟨b0, b1, b2, b3⟩ := new4 w (.cells #[.pointer p, .pointer q] 79) (.cells #[.int .i64 mk, .slice sa ms.length sc, .int .i64 mc, .int .i64 mr, .int .i64 mq, .slice oa mo.length oc, .slice ba mb.length bc] 31) (.cells #[.int .i64 0, .slice none 0 0, .int .i64 0, .int .i64 0, .int .i64 0, .slice none 0 0, .slice none 0 0] 31) (.cells #[.int .i64 58880, .slice none 0 0, .int .i64 0, .int .i64 0, .int .i64 0, .slice none 0 0, .slice none 0 0] 31)
  have kc0 : Keeps _ S _ _ := ⟨b0, fun h => absurd (cd.lt _ h) (by omega)⟩
  have km0 : Keeps _ S _ _ := ⟨b1, fun h => absurd (cd.lt _ h) (by omega)⟩
  have kz0 : Keeps _ S _ _ := ⟨b2, fun h => absurd (cd.lt _ h) (by omega)⟩
  have kt0 : Keeps _ S _ _ := ⟨b3, fun h => absurd (cd.lt _ h) (by omega)⟩
  have st0 : Stp S w S _ := Stp.rfl.after hA
  have x0 := x.after hA
  have hP0 : ∀ k, P k → ¬ S k ∧ k < ((((w.alloc (.cells #[.pointer p, .pointer q] 79)).alloc (.cells #[.int .i64 mk, .slice sa ms.length sc, .int .i64 mc, .int .i64 mr, .int .i64 mq, .slice oa mo.length oc, .slice ba mb.length bc] 31)).alloc (.cells #[.int .i64 0, .slice none 0 0, .int .i64 0, .int .i64 0, .int .i64 0, .slice none 0 0, .slice none 0 0] 31)).alloc (.cells #[.int .i64 58880, .slice none 0 0, .int .i64 0, .int .i64 0, .int .i64 0, .slice none 0 0, .slice none 0 0] 31)).heap.size := fun k hk => ⟨(hP k hk).1, Nat.lt_of_lt_of_le (hP k hk).2 hA.size⟩
  have c0 := cd.after hA
  have l0 : m = true → zs.length ≤ 900000000 := hl
  have HPW := hideIt hP
  have HCB := hideIt cd.bs
  clear b0 b1 b2 b3 cd x hP hl hA
  have H1 := hideIt (c_u16 _ p q m zs S mq c0 (fun h => by have := l0 h; omega))
  have HX0 := hideIt (And.intro kc0 (And.intro km0 (And.intro kz0 (And.intro kt0 (And.intro st0 (And.intro x0 (And.intro hP0 (And.intro l0 (And.intro hE trivial)))))))))
  clear kc0 km0 kz0 kt0 st0 x0 hP0 c0 l0 hE
  go_enter Tryz.func61, Tryz.ntmps61
  go_wp2_with fail
  refine H1.out.mono ?_
  clear H1
  intro e w1 h1
  obtain ⟨kc, km, kz, kt, st, x, hP, l0, hE, _⟩ := HX0.out
  rcases h1.split with ⟨c9, e1, rfl, t⟩ | ⟨v1, z1, e1, rfl, S1, k1, s1⟩
  · exact ⟨rfl, Ends.bad (hE.trans (thn_bad e1)) ⟨rfl, st.ends t⟩⟩
  have kc9 := kc.step s1
  have km9 := km.step s1
  have kz9 := kz.step s1
  have kt9 := kt.step s1
  obtain ⟨x9, hP9⟩ := x.step s1 hP
  have st9 := st.trans s1
  obtain ⟨_, d10, d11, _, _⟩ := two_at kc9.at0
  obtain ⟨_, ⟨m10, m11, m12, m13, m14, m15, m16⟩, _⟩ := seven_at km9.at0
  obtain ⟨_, ⟨t10, t11, t12, t13, t14, t15, t16⟩, ⟨f10, f11, f12, f13, f14, f15, f16⟩⟩ := seven_at kt9.at0
  obtain ⟨_, ⟨y10, y11, y12, y13, y14, y15, y16⟩, ⟨g10, g11, g12, g13, g14, g15, g16⟩⟩ := seven_at kz9.at0
  have hE9 := hE.trans (thn_ok e1)
  have hwz : w.heap.size + 1 + 1 + 1 < w1.heap.size := kt9.lt
  have HF := hideIt (And.intro hE9 (And.intro k1 (And.intro st9 (And.intro kt9.out (And.intro kz9.out hwz)))))
  clear kc km kz kt st x hP l0 kc9 km9 kz9 kt9 st9 x9 hP9 e1 k1 s1 h1 hE hE9 HX0 hwz
  go_wp2_with fail
  obtain ⟨E, k9, st9, o3, o2, hwz⟩ := HF.out
  refine bodyPost_ret (v := .agg #[.int .i64 58880, .slice none 0 0, .int .i64 0, .int .i64 0, .int .i64 v1, .slice none 0 0, .slice none 0 0]) (by simp [results, Tryz.results61, go_sem, y10, y11, y12, y13, y14, y15, y16]) rfl (Ends.ok E ⟨⟨none, 0, none, 0, none, 0, rfl, ?_, ?_⟩, S1, ?_, ?_⟩)
  · exact MsgX.nils _ _ _ _ _ _
  · exact fun _ => World.ownsRow_nil _ _ _ _
  · iterate 7 refine Cod.set ?_ o2 _ _
    exact k9.set o3 _ _
  · iterate 7 refine Stp.newly ?_ (by omega) _ _
    exact st9.newly (by omega) _ _
set_option maxHeartbeats 1000000 in
theorem f_3356 (w : World) (p q : Option Addr) (m : Bool) (zs : List Int) (S P : Nat → Prop) (M : Msg) (sa : Option Addr) (sc : Nat) (oa : Option Addr) (oc : Nat) (ba : Option Addr) (bc : Nat) (cd : Cod w p q m zs S) (x : MsgX w P M sa sc oa oc ba bc) (hP : ∀ k, P k → ¬ S k ∧ k < w.heap.size) (hl : m = true → zs.length ≤ 900000000) :
    Calls Tryz.prog 61 #[Co p q, .int .i64 3356, M.val sa sc oa oc ba bc] w fun e w' => Ends (fieldsF m 3356 M zs) (fun X us => Msgs w w' m e P X ∧ Went w w' p q m S us) (fun c => e = .panicked (Halt c) ∧ But S w w') := by
  have hmf : ∀ (fn : Fn) (first cap : Array Value) (w : World), (Instr.makeFunc fn first cap).run Tryz.prog w = .ok (.func fn first cap) w := fun _ _ _ _ => rfl
  obtain ⟨mk, ms, mc, mr, mq, mo, mb⟩ := M
  unfold Msg.val
  dsimp only
  have hE : fieldsF m 3356 ⟨mk, ms, mc, mr, mq, mo, mb⟩ zs = thn (num m 2 65535 mc zs) fun c zs => thn (lstO m mo zs) fun l zs => .ok (⟨3356, [], c, 0, 0, l, []⟩, zs) := by unfold fieldsF; rw [if_neg (by decide), if_neg (by decide), if_neg (by decide), if_pos (by decide)]
  have hA : After w ((((w.alloc (.cells #[.pointer p, .pointer q] 79)).alloc (.cells #[.int .i64 mk, .slice sa ms.length sc, .int .i64 mc, .int .i64 mr, .int .i64 mq, .slice oa mo.length oc, .slice ba mb.length bc] 31)).alloc (.cells #[.int .i64 0, .slice none 0 0, .int .i64 0, .int .i64 0, .int .i64 0, .slice none 0 0, .slice none 0 0] 31)).alloc (.cells #[.int .i64 3356, .slice none 0 0, .int .i64 0, .int .i64 0, .int .i64 0, .slice none 0 0, .slice none 0 0] 31)) := (((After.rfl.alloc _).alloc _).alloc _).alloc _
  obtain ⟨b0, b1, b2, b3⟩ := new4 w (.cells #[.pointer p, .pointer q] 79) (.cells #[.int .i64 mk, .slice sa ms.length sc, .int .i64 mc, .int .i64 mr, .int .i64 mq, .slice oa mo.length oc, .slice ba mb.length bc] 31) (.cells #[.int .i64 0, .slice none 0 0, .int .i64 0, .int .i64 0, .int .i64 0, .slice none 0 0, .slice none 0 0] 31) (.cells #[.int .i64 3356, .slice none 0 0, .int .i64 0, .int .i64 0, .int .i64 0, .slice none 0 0, .slice none 0 0] 31)
  have kc0 : Keeps _ S _ _ := ⟨b0, fun h => absurd (cd.lt _ h) (by omega)⟩
  have km0 : Keeps _ S _ _ := ⟨b1, fun h => absurd (cd.lt _ h) (by omega)⟩
  have kz0 : Keeps _ S _ _ := ⟨b2, fun h => absurd (cd.lt _ h) (by omega)⟩
  have kt0 : Keeps _ S _ _ := ⟨b3, fun h => absurd (cd.lt _ h) (by omega)⟩
  have st0 : Stp S w S _ := Stp.rfl.after hA
  have x0 := x.after hA
  have hP0 : ∀ k, P k → ¬ S k ∧ k < ((((w.alloc (.cells #[.pointer p, .pointer q] 79)).alloc (.cells #[.int .i64 mk, .slice sa ms.length sc, .int .i64 mc, .int .i64 mr, .int .i64 mq, .slice oa mo.length oc, .slice ba mb.length bc] 31)).alloc (.cells #[.int .i64 0, .slice none 0 0, .int .i64 0, .int .i64 0, .int .i64 0, .slice none 0 0, .slice none 0 0] 31)).alloc (.cells #[.int .i64 3356, .slice none 0 0, .int .i64 0, .int .i64 0, .int .i64 0, .slice none 0 0, .slice none 0 0] 31)).heap.size := fun k hk => ⟨(hP k hk).1, Nat.lt_of_lt_of_le (hP k hk).2 hA.size⟩
  have c0 := cd.after hA
  have l0 : m = true → zs.length ≤ 900000000 := hl
  have HPW := hideIt hP
  have HCB := hideIt cd.bs
  clear b0 b1 b2 b3 cd x hP hl hA
  have H1 := hideIt (c_u16 _ p q m zs S mc c0 (fun h => by have := l0 h; omega))
  have HX0 := hideIt (And.intro kc0 (And.intro km0 (And.intro kz0 (And.intro kt0 (And.intro st0 (And.intro x0 (And.intro hP0 (And.intro l0 (And.intro hE trivial)))))))))
  clear kc0 km0 kz0 kt0 st0 x0 hP0 c0 l0 hE
  go_enter Tryz.func61, Tryz.ntmps61
  go_wp2_with fail
  refine H1.out.mono ?_
  clear H1
  intro e w1 h1
  obtain ⟨kc, km, kz, kt, st, x, hP, l0, hE, _⟩ := HX0.out
  rcases h1.split with ⟨c9, e1, rfl, t⟩ | ⟨v1, z1, e1, rfl, S1, k1, s1⟩
  · exact ⟨rfl, Ends.bad (hE.trans (thn_bad e1)) ⟨rfl, st.ends t⟩⟩
  have kc9 := kc.step s1
  have km9 := km.step s1
  have kz9 := kz.step s1
  have kt9 := kt.step s1
  obtain ⟨x9, hP9⟩ := x.step s1 hP
  have st9 := st.trans s1
  obtain ⟨_, d10, d11, _, _⟩ := two_at kc9.at0
  obtain ⟨_, ⟨m10, m11, m12, m13, m14, m15, m16⟩, _⟩ := seven_at km9.at0
  obtain ⟨_, ⟨t10, t11, t12, t13, t14, t15, t16⟩, ⟨f10, f11, f12, f13, f14, f15, f16⟩⟩ := seven_at kt9.at0
  obtain ⟨_, ⟨y10, y11, y12, y13, y14, y15, y16⟩, ⟨g10, g11, g12, g13, g14, g15, g16⟩⟩ := seven_at kz9.at0
  have hE9 := hE.trans (thn_ok e1)
  have hwz : w.heap.size + 1 + 1 + 1 < w1.heap.size := kt9.lt
  have hlen9 : m = true → z1.length ≤ 900000000 + 65600 := fun h => by have := l0 h; have := num_len e1; omega
  have kc1 := kc9.far (g := w.heap.size + 1 + 1 + 1) (by omega) 2 (.int .i64 v1)
  have km1 := km9.far (g := w.heap.size + 1 + 1 + 1) (by omega) 2 (.int .i64 v1)
  have kz1 := kz9.far (g := w.heap.size + 1 + 1 + 1) (by omega) 2 (.int .i64 v1)
  have kt1 : Keeps (w1.setCell ⟨w.heap.size + 1 + 1 + 1, 2, none⟩ (.int .i64 v1)) S1 (w.heap.size + 1 + 1 + 1) (.cells #[.int .i64 3356, .slice none 0 0, .int .i64 v1, .int .i64 0, .int .i64 0, .slice none 0 0, .slice none 0 0] 31 (0, 0)) := kt9.setA (.int .i64 v1)
  have st1 := st9.newly (g := w.heap.size + 1 + 1 + 1) (by omega) 2 (.int .i64 v1)
  have c1 := k1.set kt9.out 2 (.int .i64 v1)
  have x1 := x9.but (T := One (w.heap.size + 1 + 1 + 1)) (But.set (S := One (w.heap.size + 1 + 1 + 1)) But.rfl ⟨w.heap.size + 1 + 1 + 1, 2, none⟩ (fun _ => rfl) (.int .i64 v1)) (fun k hk h => by have := (HPW.out k hk).2; have h : k = w.heap.size + 1 + 1 + 1 := h; omega)
  have hP1 : ∀ k, P k → ¬ S1 k ∧ k < (w1.setCell ⟨w.heap.size + 1 + 1 + 1, 2, none⟩ (.int .i64 v1)).heap.size := fun k hk => ⟨(hP9 k hk).1, by rw [World.size_setCell]; exact (hP9 k hk).2⟩
  have l1 := hlen9
  have hE := hE9
  clear kc km kz kt st x hP l0 kc9 km9 kz9 kt9 st9 x9 hP9 e1 k1 s1 h1 hlen9 hE9 HX0 hwz y10 y11 y12 y13 y14 y15 y16 g10 g11 g12 g13 g14 g15 g16
  have H2 := hideIt (c_objects _ p q m z1 S1 oa mo.length oc mo c1 x1.or (fun y hy h0 => (hP1 _ (x1.op y hy h0)).1) x1.on (fun h => by have := l1 h; omega))
  have HX1 := hideIt (And.intro kc1 (And.intro km1 (And.intro kz1 (And.intro kt1 (And.intro st1 (And.intro x1 (And.intro hP1 (And.intro l1 (And.intro hE trivial)))))))))
  clear kc1 km1 kz1 kt1 st1 x1 hP1 c1 l1 hE
  go_wp2_with fail
  refine H2.out.mono ?_
  clear H2
  intro e w2 h2
  obtain ⟨kc, km, kz, kt, st, x, hP, l0, hE, _⟩ := HX1.out
  rcases h2.split with ⟨c9, e2, rfl, t⟩ | ⟨l, z2, e2, ⟨b, rfl, lr, lb⟩, S2, k2, s2⟩
  · exact ⟨rfl, Ends.bad (hE.trans (thn_bad e2)) ⟨rfl, st.ends t⟩⟩
  have kc9 := kc.step s2
  have km9 := km.step s2
  have kz9 := kz.step s2
  have kt9 := kt.step s2
  obtain ⟨x9, hP9⟩ := x.step s2 hP
  have st9 := st.trans s2
  obtain ⟨_, d20, d21, _, _⟩ := two_at kc9.at0
  obtain ⟨_, ⟨m20, m21, m22, m23, m24, m25, m26⟩, _⟩ := seven_at km9.at0
  obtain ⟨_, ⟨t20, t21, t22, t23, t24, t25, t26⟩, ⟨f20, f21, f22, f23, f24, f25, f26⟩⟩ := seven_at kt9.at0
  obtain ⟨_, ⟨y20, y21, y22, y23, y24, y25, y26⟩, ⟨g20, g21, g22, g23, g24, g25, g26⟩⟩ := seven_at kz9.at0
  have hE9 := hE.trans (thn_ok e2)
  have hwz : w.heap.size + 1 + 1 + 1 < w2.heap.size := kt9.lt
  have HF := hideIt (And.intro hE9 (And.intro k2 (And.intro st9 (And.intro kt9.out (And.intro kz9.out hwz)))))
  have HLR := hideIt (And.intro lr lb)
  have HLW := hideIt (show w.heap.size + 1 + 1 + 1 < b from by have := kt.lt; omega)
  clear kc km kz kt st x hP l0 kc9 km9 kz9 kt9 st9 x9 hP9 e2 k2 s2 h2 hE hE9 HX1 hwz lr lb
  go_wp2_with fail
  obtain ⟨E, k9, st9, o3, o2, hwz⟩ := HF.out
  refine bodyPost_ret (v := .agg #[.int .i64 3356, .slice none 0 0, .int .i64 v1, .int .i64 0, .int .i64 0, .slice (some ⟨b, 0, none⟩) l.length l.length, .slice none 0 0]) (by simp [results, Tryz.results61, go_sem, y20, y21, y22, y23, y24, y25, y26]) rfl (Ends.ok E ⟨⟨none, 0, some ⟨b, 0, none⟩, l.length, none, 0, rfl, ?_, ?_⟩, S2, ?_, ?_⟩)
  · refine MsgX.ofObjs _ _ _ _ (RowT.but (S := fun k => k = w.heap.size + 1 + 1 ∨ k = w.heap.size + 1 + 1 + 1) HLR.out.1 ?_ (fun y hy _ h => by cases hy; have := HLW.out; dsimp only at h; omega)) (.inr (by have := HLW.out; omega))
    iterate 7 refine But.set ?_ _ (fun _ => .inl rfl) _
    exact But.set But.rfl _ (fun _ => .inr rfl) _
  · exact fun _ => World.ownsRow_nil _ _ _ _
  · iterate 7 refine Cod.set ?_ o2 _ _
    exact k9.set o3 _ _
  · iterate 7 refine Stp.newly ?_ (by omega) _ _
    exact st9.newly (by omega) _ _
set_option maxHeartbeats 1000000 in
theorem f_3357 (w : World) (p q : Option Addr) (m : Bool) (zs : List Int) (S P : Nat → Prop) (M : Msg) (sa : Option Addr) (sc : Nat) (oa : Option Addr) (oc : Nat) (ba : Option Addr) (bc : Nat) (cd : Cod w p q m zs S) (x : MsgX w P M sa sc oa oc ba bc) (hP : ∀ k, P k → ¬ S k ∧ k < w.heap.size) (hl : m = true → zs.length ≤ 900000000) :
    Calls Tryz.prog 61 #[Co p q, .int .i64 3357, M.val sa sc oa oc ba bc] w fun e w' => Ends (fieldsF m 3357 M zs) (fun X us => Msgs w w' m e P X ∧ Went w w' p q m S us) (fun c => e = .panicked (Halt c) ∧ But S w w') := by
  have hmf : ∀ (fn : Fn) (first cap : Array Value) (w : World), (Instr.makeFunc fn first cap).run Tryz.prog w = .ok (.func fn first cap) w := fun _ _ _ _ => rfl
  obtain ⟨mk, ms, mc, mr, mq, mo, mb⟩ := M
  unfold Msg.val
  dsimp only
  have hE : fieldsF m 3357 ⟨mk, ms, mc, mr, mq, mo, mb⟩ zs = thn (num m 2 65535 mc zs) fun c zs => thn (num m 2 65535 mr zs) fun r zs => .ok (⟨3357, [], c, r, 0, [], []⟩, zs) := by unfold fieldsF; rw [if_neg (by decide), if_neg (by decide), if_neg (by decide), if_neg (by decide), if_pos (by decide)]
  have hA : After w ((((w.alloc (.cells #[.pointer p, .pointer q] 79)).alloc (.cells #[.int .i64 mk, .slice sa ms.length sc, .int .i64 mc, .int .i64 mr, .int .i64 mq, .slice oa mo.length oc, .slice ba mb.length bc] 31)).alloc (.cells #[.int .i64 0, .slice none 0 0, .int .i64 0, .int .i64 0, .int .i64 0, .slice none 0 0, .slice none 0 0] 31)).alloc (.cells #[.int .i64 3357, .slice none 0 0, .int .i64 0, .int .i64 0, .int .i64 0, .slice none 0 0, .slice none 0 0] 31)) := (((After.rfl.alloc _).alloc _).alloc _).alloc _
  obtain ⟨b0, b1, b2, b3⟩ := new4 w (.cells #[.pointer p, .pointer q] 79) (.cells #[.int .i64 mk, .slice sa ms.length sc, .int .i64 mc, .int .i64 mr, .int .i64 mq, .slice oa mo.length oc, .slice ba mb.length bc] 31) (.cells #[.int .i64 0, .slice none 0 0, .int .i64 0, .int .i64 0, .int .i64 0, .slice none 0 0, .slice none 0 0] 31) (.cells #[.int .i64 3357, .slice none 0 0, .int .i64 0, .int .i64 0, .int .i64 0, .slice none 0 0, .slice none 0 0] 31)
  have kc0 : Keeps _ S _ _ := ⟨b0, fun h => absurd (cd.lt _ h) (by omega)⟩
  have km0 : Keeps _ S _ _ := ⟨b1, fun h => absurd (cd.lt _ h) (by omega)⟩
  have kz0 : Keeps _ S _ _ := ⟨b2, fun h => absurd (cd.lt _ h) (by omega)⟩
  have kt0 : Keeps _ S _ _ := ⟨b3, fun h => absurd (cd.lt _ h) (by omega)⟩
  have st0 : Stp S w S _ := Stp.rfl.after hA
  have x0 := x.after hA
  have hP0 : ∀ k, P k → ¬ S k ∧ k < ((((w.alloc (.cells #[.pointer p, .pointer q] 79)).alloc (.cells #[.int .i64 mk, .slice sa ms.length sc, .int .i64 mc, .int .i64 mr, .int .i64 mq, .slice oa mo.length oc, .slice ba mb.length bc] 31)).alloc (.cells #[.int .i64 0, .slice none 0 0, .int .i64 0, .int .i64 0, .int .i64 0, .slice none 0 0, .slice none 0 0] 31)).alloc (.cells #[.int .i64 3357, .slice none 0 0, .int .i64 0, .int .i64 0, .int .i64 0, .slice none 0 0, .slice none 0 0] 31)).heap.size := fun k hk => ⟨(hP k hk).1, Nat.lt_of_lt_of_le (hP k hk).2 hA.size⟩
  have c0 := cd.after hA
  have l0 : m = true → zs.length ≤ 900000000 := hl
  have HPW := hideIt hP
  have HCB := hideIt cd.bs
  clear b0 b1 b2 b3 cd x hP hl hA
  have H1 := hideIt (c_u16 _ p q m zs S mc c0 (fun h => by have := l0 h; omega))
  have HX0 := hideIt (And.intro kc0 (And.intro km0 (And.intro kz0 (And.intro kt0 (And.intro st0 (And.intro x0 (And.intro hP0 (And.intro l0 (And.intro hE trivial)))))))))
  clear kc0 km0 kz0 kt0 st0 x0 hP0 c0 l0 hE
  go_enter Tryz.func61, Tryz.ntmps61
  go_wp2_with fail
  refine H1.out.mono ?_
  clear H1
  intro e w1 h1
  obtain ⟨kc, km, kz, kt, st, x, hP, l0, hE, _⟩ := HX0.out
  rcases h1.split with ⟨c9, e1, rfl, t⟩ | ⟨v1, z1, e1, rfl, S1, k1, s1⟩
  · exact ⟨rfl, Ends.bad (hE.trans (thn_bad e1)) ⟨rfl, st.ends t⟩⟩
  have kc9 := kc.step s1
  have km9 := km.step s1
  have kz9 := kz.step s1
  have kt9 := kt.step s1
  obtain ⟨x9, hP9⟩ := x.step s1 hP
  have st9 := st.trans s1
  obtain ⟨_, d10, d11, _, _⟩ := two_at kc9.at0
  obtain ⟨_, ⟨m10, m11, m12, m13, m14, m15, m16⟩, _⟩ := seven_at km9.at0
  obtain ⟨_, ⟨t10, t11, t12, t13, t14, t15, t16⟩, ⟨f10, f11, f12, f13, f14, f15, f16⟩⟩ := seven_at kt9.at0
  obtain ⟨_, ⟨y10, y11, y12, y13, y14, y15, y16⟩, ⟨g10, g11, g12, g13, g14, g15, g16⟩⟩ := seven_at kz9.at0
  have hE9 := hE.trans (thn_ok e1)
  have hwz : w.heap.size + 1 + 1 + 1 < w1.heap.size := kt9.lt
  have hlen9 : m = true → z1.length ≤ 900000000 + 65600 := fun h => by have := l0 h; have := num_len e1; omega
  have kc1 := kc9.far (g := w.heap.size + 1 + 1 + 1) (by omega) 2 (.int .i64 v1)
  have km1 := km9.far (g := w.heap.size + 1 + 1 + 1) (by omega) 2 (.int .i64 v1)
  have kz1 := kz9.far (g := w.heap.size + 1 + 1 + 1) (by omega) 2 (.int .i64 v1)
  have kt1 : Keeps (w1.setCell ⟨w.heap.size + 1 + 1 + 1, 2, none⟩ (.int .i64 v1)) S1 (w.heap.size + 1 + 1 + 1) (.cells #[.int .i64 3357, .slice none 0 0, .int .i64 v1, .int .i64 0, .int .i64 0, .slice none 0 0, .slice none 0 0] 31 (0, 0)) := kt9.setA (.int .i64 v1)
  have st1 := st9.newly (g := w.heap.size + 1 + 1 + 1) (by omega) 2 (.int .i64 v1)
  have c1 := k1.set kt9.out 2 (.int .i64 v1)
  have x1 := x9.but (T := One (w.heap.size + 1 + 1 + 1)) (But.set (S := One (w.heap.size + 1 + 1 + 1)) But.rfl ⟨w.heap.size + 1 + 1 + 1, 2, none⟩ (fun _ => rfl) (.int .i64 v1)) (fun k hk h => by have := (HPW.out k hk).2; have h : k = w.heap.size + 1 + 1 + 1 := h; omega)
  have hP1 : ∀ k, P k → ¬ S1 k ∧ k < (w1.setCell ⟨w.heap.size + 1 + 1 + 1, 2, none⟩ (.int .i64 v1)).heap.size := fun k hk => ⟨(hP9 k hk).1, by rw [World.size_setCell]; exact (hP9 k hk).2⟩
  have l1 := hlen9
  have hE := hE9
  clear kc km kz kt st x hP l0 kc9 km9 kz9 kt9 st9 x9 hP9 e1 k1 s1 h1 hlen9 hE9 HX0 hwz y10 y11 y12 y13 y14 y15 y16 g10 g11 g12 g13 g14 g15 g16
  have H2 := hideIt (c_u16 _ p q m z1 S1 mr c1 (fun h => by have := l1 h; omega))
  have HX1 := hideIt (And.intro kc1 (And.intro km1 (And.intro kz1 (And.intro kt1 (And.intro st1 (And.intro x1 (And.intro hP1 (And.intro l1 (And.intro hE trivial)))))))))
  clear kc1 km1 kz1 kt1 st1 x1 hP1 c1 l1 hE
  go_wp2_with fail
  refine H2.out.mono ?_
  clear H2
  intro e w2 h2
  obtain ⟨kc, km, kz, kt, st, x, hP, l0, hE, _⟩ := HX1.out
  rcases h2.split with ⟨c9, e2, rfl, t⟩ | ⟨v2, z2, e2, rfl, S2, k2, s2⟩
  · exact ⟨rfl, Ends.bad (hE.trans (thn_bad e2)) ⟨rfl, st.ends t⟩⟩
  have kc9 := kc.step s2
  have km9 := km.step s2
  have kz9 := kz.step s2
  have kt9 := kt.step s2
  obtain ⟨x9, hP9⟩ := x.step s2 hP
  have st9 := st.trans s2
  obtain ⟨_, d20, d21, _, _⟩ := two_at kc9.at0
  obtain ⟨_, ⟨m20, m21, m22, m23, m24, m25, m26⟩, _⟩ := seven_at km9.at0
  obtain ⟨_, ⟨t20, t21, t22, t23, t24, t25, t26⟩, ⟨f20, f21, f22, f23, f24, f25, f26⟩⟩ := seven_at kt9.at0
  obtain ⟨_, ⟨y20, y21, y22, y23, y24, y25, y26⟩, ⟨g20, g21, g22, g23, g24, g25, g26⟩⟩ := seven_at kz9.at0
  have hE9 := hE.trans (thn_ok e2)
  have hwz : w.heap.size + 1 + 1 + 1 < w2.heap.size := kt9.lt
  have HF := hideIt (And.intro hE9 (And.intro k2 (And.intro st9 (And.intro kt9.out (And.intro kz9.out hwz)))))
  clear kc km kz kt st x hP l0 kc9 km9 kz9 kt9 st9 x9 hP9 e2 k2 s2 h2 hE hE9 HX1 hwz
  go_wp2_with fail
  obtain ⟨E, k9, st9, o3, o2, hwz⟩ := HF.out
  refine bodyPost_ret (v := .agg #[.int .i64 3357, .slice none 0 0, .int .i64 v1, .int .i64 v2, .int .i64 0, .slice none 0 0, .slice none 0 0]) (by simp [results, Tryz.results61, go_sem, y20, y21, y22, y23, y24, y25, y26]) rfl (Ends.ok E ⟨⟨none, 0, none, 0, none, 0, rfl, ?_, ?_⟩, S2, ?_, ?_⟩)
  · exact MsgX.nils _ _ _ _ _ _
  · exact fun _ => World.ownsRow_nil _ _ _ _
  · iterate 7 refine Cod.set ?_ o2 _ _
    exact k9.set o3 _ _
  · iterate 7 refine Stp.newly ?_ (by omega) _ _
    exact st9.newly (by omega) _ _
set_option maxHeartbeats 1000000 in
theorem f_3358 (w : World) (p q : Option Addr) (m : Bool) (zs : List Int) (S P : Nat → Prop) (M : Msg) (sa : Option Addr) (sc : Nat) (oa : Option Addr) (oc : Nat) (ba : Option Addr) (bc : Nat) (cd : Cod w p q m zs S) (x : MsgX w P M sa sc oa oc ba bc) (hP : ∀ k, P k → ¬ S k ∧ k < w.heap.size) (hl : m = true → zs.length ≤ 900000000) :
    Calls Tryz.prog 61 #[Co p q, .int .i64 3358, M.val sa sc oa oc ba bc] w fun e w' => Ends (fieldsF m 3358 M zs) (fun X us => Msgs w w' m e P X ∧ Went w w' p q m S us) (fun c => e = .panicked (Halt c) ∧ But S w w') := by
  have hmf : ∀ (fn : Fn) (first cap : Array Value) (w : World), (Instr.makeFunc fn first cap).run Tryz.prog w = .ok (.func fn first cap) w := fun _ _ _ _ => rfl
  obtain ⟨mk, ms, mc, mr, mq, mo, mb⟩ := M
  unfold Msg.val
  dsimp only
  have hE : fieldsF m 3358 ⟨mk, ms, mc, mr, mq, mo, mb⟩ zs = thn (lstB m mb zs) fun l zs => .ok (⟨3358, [], 0, 0, 0, [], l⟩, zs) := by unfold fieldsF; rw [if_neg (by decide), if_neg (by decide), if_neg (by decide), if_neg (by decide), if_neg (by decide), if_pos (by decide)]
  have hA : After w ((((w.alloc (.cells #[.pointer p, .pointer q] 79)).alloc (.cells #[.int .i64 mk, .slice sa ms.length sc, .int .i64 mc, .int .i64 mr, .int .i64 mq, .slice oa mo.length oc, .slice ba mb.length bc] 31)).alloc (.cells #[.int .i64 0, .slice none 0 0, .int .i64 0, .int .i64 0, .int .i64 0, .slice none 0 0, .slice none 0 0] 31)).alloc (.cells #[.int .i64 3358, .slice none 0 0, .int .i64 0, .int .i64 0, .int .i64 0, .slice none 0 0, .slice none 0 0] 31)) := (((After.rfl.alloc _).alloc _).alloc _).alloc _
  obtain ⟨b0, b1, b2, b3⟩ := new4 w (.cells #[.pointer p, .pointer q] 79) (.cells #[.int .i64 mk, .slice sa ms.length sc, .int .i64 mc, .int .i64 mr, .int .i64 mq, .slice oa mo.length oc, .slice ba mb.length bc] 31) (.cells #[.int .i64 0, .slice none 0 0, .int .i64 0, .int .i64 0, .int .i64 0, .slice none 0 0, .slice none 0 0] 31) (.cells #[.int .i64 3358, .slice none 0 0, .int .i64 0, .int .i64 0, .int .i64 0, .slice none 0 0, .slice none 0 0] 31)
  have kc0 : Keeps _ S _ _ := ⟨b0, fun h => absurd (cd.lt _ h) (by omega)⟩
  have km0 : Keeps _ S _ _ := ⟨b1, fun h => absurd (cd.lt _ h) (by omega)⟩
  have kz0 : Keeps _ S _ _ := ⟨b2, fun h => absurd (cd.lt _ h) (by omega)⟩
  have kt0 : Keeps _ S _ _ := ⟨b3, fun h => absurd (cd.lt _ h) (by omega)⟩
  have st0 : Stp S w S _ := Stp.rfl.after hA
  have x0 := x.after hA
  have hP0 : ∀ k, P k → ¬ S k ∧ k < ((((w.alloc (.cells #[.pointer p, .pointer q] 79)).alloc (.cells #[.int .i64 mk, .slice sa ms.length sc, .int .i64 mc, .int .i64 mr, .int .i64 mq, .slice oa mo.length oc, .slice ba mb.length bc] 31)).alloc (.cells #[.int .i64 0, .slice none 0 0, .int .i64 0, .int .i64 0, .int .i64 0, .slice none 0 0, .slice none 0 0] 31)).alloc (.cells #[.int .i64 3358, .slice none 0 0, .int .i64 0, .int .i64 0, .int .i64 0, .slice none 0 0, .slice none 0 0] 31)).heap.size := fun k hk => ⟨(hP k hk).1, Nat.lt_of_lt_of_le (hP k hk).2 hA.size⟩
  have c0 := cd.after hA
  have l0 : m = true → zs.length ≤ 900000000 := hl
  have HPW := hideIt hP
  have HCB := hideIt cd.bs
  clear b0 b1 b2 b3 cd x hP hl hA
  have H1 := hideIt (c_listB _ p q m zs S ba mb.length bc mb c0 x0.br (fun y hy h0 => (hP0 _ (x0.bp y hy h0)).1) x0.bn (fun h => by have := l0 h; omega) x0.bb)
  have HX0 := hideIt (And.intro kc0 (And.intro km0 (And.intro kz0 (And.intro kt0 (And.intro st0 (And.intro x0 (And.intro hP0 (And.intro l0 (And.intro hE trivial)))))))))
  clear kc0 km0 kz0 kt0 st0 x0 hP0 c0 l0 hE
  go_enter Tryz.func61, Tryz.ntmps61
  go_wp2_with fail
  refine H1.out.mono ?_
  clear H1
  intro e w1 h1
  obtain ⟨kc, km, kz, kt, st, x, hP, l0, hE, _⟩ := HX0.out
  rcases h1.split with ⟨c9, e1, rfl, t⟩ | ⟨l, z1, e1, ⟨b, rfl, lr, lb⟩, S1, k1, s1⟩
  · exact ⟨rfl, Ends.bad (hE.trans (thn_bad e1)) ⟨rfl, st.ends t⟩⟩
  have kc9 := kc.step s1
  have km9 := km.step s1
  have kz9 := kz.step s1
  have kt9 := kt.step s1
  obtain ⟨x9, hP9⟩ := x.step s1 hP
  have st9 := st.trans s1
  obtain ⟨_, d10, d11, _, _⟩ := two_at kc9.at0
  obtain ⟨_, ⟨m10, m11, m12, m13, m14, m15, m16⟩, _⟩ := seven_at km9.at0
  obtain ⟨_, ⟨t10, t11, t12, t13, t14, t15, t16⟩, ⟨f10, f11, f12, f13, f14, f15, f16⟩⟩ := seven_at kt9.at0
  obtain ⟨_, ⟨y10, y11, y12, y13, y14, y15, y16⟩, ⟨g10, g11, g12, g13, g14, g15, g16⟩⟩ := seven_at kz9.at0
  have hE9 := hE.trans (thn_ok e1)
  have hwz : w.heap.size + 1 + 1 + 1 < w1.heap.size := kt9.lt
  have HF := hideIt (And.intro hE9 (And.intro k1 (And.intro st9 (And.intro kt9.out (And.intro kz9.out hwz)))))
  have HLR := hideIt (And.intro lr lb)
  have HLW := hideIt (show w.heap.size + 1 + 1 + 1 < b from by have := kt.lt; omega)
  have HBI := hideIt (lstB_bits e1 HCB.out)
  clear kc km kz kt st x hP l0 kc9 km9 kz9 kt9 st9 x9 hP9 e1 k1 s1 h1 hE hE9 HX0 hwz lr lb
  go_wp2_with fail
  obtain ⟨E, k9, st9, o3, o2, hwz⟩ := HF.out
  refine bodyPost_ret (v := .agg #[.int .i64 3358, .slice none 0 0, .int .i64 0, .int .i64 0, .int .i64 0, .slice none 0 0, .slice (some ⟨b, 0, none⟩) l.length l.length]) (by simp [results, Tryz.results61, go_sem, y10, y11, y12, y13, y14, y15, y16]) rfl (Ends.ok E ⟨⟨none, 0, none, 0, some ⟨b, 0, none⟩, l.length, rfl, ?_, ?_⟩, S1, ?_, ?_⟩)
  · refine MsgX.ofObs _ _ _ _ (RowT.but (S := fun k => k = w.heap.size + 1 + 1 ∨ k = w.heap.size + 1 + 1 + 1) HLR.out.1 ?_ (fun y hy _ h => by cases hy; have := HLW.out; dsimp only at h; omega)) (.inr (by have := HLW.out; omega)) HBI.out
    iterate 7 refine But.set ?_ _ (fun _ => .inl rfl) _
    exact But.set But.rfl _ (fun _ => .inr rfl) _
  · exact fun _ => World.ownsRow_nil _ _ _ _
  · iterate 7 refine Cod.set ?_ o2 _ _
    exact k9.set o3 _ _
  · iterate 7 refine Stp.newly ?_ (by omega) _ _
    exact st9.newly (by omega) _ _
end Go.Proofs.YthcfdoafncbliaaGreat
