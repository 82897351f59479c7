/-
  A whole message, by a coder.
-/
import Derived.Test.YtigiakhdaaoljaaPartRb
namespace Go.Proofs.Ytigiakhdaaoljaa
open Go.RowKit
set_option maxRecDepth 8000
/-- The kind that stands first. -/
def outer (k : Int) : Int := if inData k = true then 59136 else k
def msgF (m : Bool) (M : Msg) (zs : List Int) : Except Int (Msg × List Int) :=
  if m then partW (insD true M) (outer M.kind) zs else partR (insD false M) (outer M.kind) zs
/-- What a message that was gone through answers. -/
def Mess (w w' : World) (m : Bool) (e : Ending) (P : Nat → Prop) (X : Msg) : Prop :=
  ∃ sa sc oa oc ba bc, e = .returned (X.val sa sc oa oc ba bc) ∧ (m = false → MsgX w' (fun k => P k ∨ w.heap.size ≤ k) X sa sc oa oc ba bc ∧ w'.ownsRow w.heap.size 5 1 (.slice sa X.sys.length sc) X.sys.length (u8s X.sys))
set_option maxHeartbeats 1000000 in
theorem c_message (w : World) (p q : Option Addr) (m : Bool) (zs : List Int) (S P : Nat → Prop) (M : Msg) (sa : Option Addr) (sc : Nat) (oa : Option Addr) (oc : Nat) (ba : Option Addr) (bc : Nat) (cd : Cod w p q m zs S) (x : MsgX w P M sa sc oa oc ba bc) (hP : ∀ k, P k → ¬ S k ∧ k < w.heap.size) (hl : m = true → zs.length ≤ 900000000) :
    Calls Try.prog 26 #[Co p q, M.val sa sc oa oc ba bc] w fun e w' => Ends (msgF m M zs) (fun X us => Mess w w' m e P X ∧ Went w w' p q m S us) (fun c => e = .panicked (Halt c) ∧ But S w w') := by
  have hmf : ∀ (fn : Fn) (first cap : Array Value) (w : World), (Instr.makeFunc fn first cap).run Try.prog w = .ok (.func fn first cap) w := fun _ _ _ _ => rfl
  obtain ⟨W0, hW0⟩ : ∃ W0, ((w.alloc (.cells #[.pointer p, .pointer q] 52)).alloc (.cells (M.cells sa sc oa oc ba bc) 26)).alloc (.cells #[.int .i64 0, .slice none 0 0, .int .i64 0, .int .i64 0, .int .i64 0, .slice none 0 0, .slice none 0 0] 26) = W0 := ⟨_, rfl⟩
  have hA : After w W0 := by rw [← hW0]; exact ((After.rfl.alloc _).alloc _).alloc _
  obtain ⟨b0, b1, b2⟩ := new3 w (.cells #[.pointer p, .pointer q] 52) (.cells (M.cells sa sc oa oc ba bc) 26) (.cells #[.int .i64 0, .slice none 0 0, .int .i64 0, .int .i64 0, .int .i64 0, .slice none 0 0, .slice none 0 0] 26)
  rw [hW0] at b0 b1 b2
  have hsz : W0.heap.size = w.heap.size + 3 := by rw [← hW0, World.size_alloc, World.size_alloc, World.size_alloc]
  have hP1 : ∀ k, P k → ¬ S k ∧ k < W0.heap.size := fun k hk => ⟨(hP k hk).1, Nat.lt_of_lt_of_le (hP k hk).2 hA.size⟩
  have hg : ¬ P (w.heap.size + 1) := fun h => by have := (hP _ h).2; omega
  have kb : Keeps W0 S (w.heap.size + 1) (.cells (M.cells sa sc oa oc ba bc) 26 (0, 0)) := ⟨b1, fun h => absurd (cd.lt _ h) (by omega)⟩
  have hlt := cd.lt
  have H1 : Hid (Calls Try.prog 40 #[Co p q, .int .i64 (outer M.kind), .func (.func 41) #[] #[Ptr (w.heap.size + 1)]] W0 fun e w' => Ends (msgF m M zs) (fun X us => e = .returned (.tuple #[]) ∧ VarsC W0 w' m (w.heap.size + 1) P X ∧ ∃ S', Cod w' p q m us S' ∧ StpV S (w.heap.size + 1) W0 S' w') (fun c => e = .panicked (Halt c) ∧ But (fun k => S k ∨ k = w.heap.size + 1) W0 w')) := by
    cases m with
    | true =>
      obtain rfl : p = none := by
        rcases cd.is with ⟨h, _⟩ | ⟨_, g', v, e, _⟩
        · cases h
        · exact e
      exact part_w41 W0 q zs S P _ (outer M.kind) M sa sc oa oc ba bc _ (clo41 _ true P M sa sc oa oc ba bc hg) (cd.after hA) kb (x.after hA) hP1 (hl rfl) (fun X bs e => insD_len e rfl)
    | false =>
      obtain rfl : q = none := by
        rcases cd.is with ⟨_, g', v, _, e, _⟩ | ⟨h, _⟩
        · exact e
        · cases h
      exact part_r41 W0 p zs S P _ (outer M.kind) M sa sc oa oc ba bc _ (clo41 _ false P M sa sc oa oc ba bc hg) (cd.after hA) kb (x.after hA) hP1
  have HD := hideIt (fun W => inData_any W M.kind)
  have HX := hideIt (And.intro hA (And.intro b2 (And.intro hsz (And.intro hlt hg))))
  have HO : Hid (∀ b, inData M.kind = b → outer M.kind = if b = true then 59136 else M.kind) := fun b hb => by unfold outer; rw [hb]
  have HW0 := hideIt hW0
  have HPP := hideIt hP
  unfold Msg.val
  unfold Msg.cells at HW0
  obtain ⟨mk, ms, mc, mr, mq, mo, mb⟩ := M
  dsimp only at HD H1 HO HW0 ⊢
  clear hA b0 b1 b2 hsz hP1 hg kb cd x hP hl hW0 hlt
  obtain ⟨d, hd⟩ : ∃ d, inData mk = d := ⟨_, rfl⟩
  have ho := HO.out d hd
  rw [hd] at HD
  rw [ho] at H1
  clear hd ho HO
  cases d with
  | true =>
    go_enter Try.func26, Try.ntmps26
    go_wp2_with (go_at_call 21; refine (HD.out _).mono ?_; rintro e w9 ⟨rfl, rfl⟩)
    rw [HW0.out]
    refine H1.out.mono ?_
    clear H1
    intro e w1 h1
    obtain ⟨hA, b2, hsz, hlt, hg⟩ := HX.out
    have bw : ∀ {W}, But (fun k => S k ∨ k = w.heap.size + 1) W0 W → But S w W := fun {W} t => hA.but.then t (fun i hi h => h.elim id (fun h => by omega))
    rcases h1.split with ⟨c9, e1, rfl, t⟩ | ⟨X, us, e1, rfl, ⟨xa, xc, ya, yc, za, zc, hv, hvr⟩, S', k', s'⟩
    · exact ⟨rfl, Ends.bad e1 ⟨rfl, bw t⟩⟩
    have b21 := (s'.but.block _ (by omega) (fun h => h.elim (fun h => by have := hlt _ h; omega) (fun h => by omega))).trans b2
    unfold Msg.cells at hv
    obtain ⟨_, ⟨c0, c1, c2, c3, c4, c5, c6⟩, _⟩ := seven_at hv
    obtain ⟨_, ⟨z0, z1, z2, z3, z4, z5, z6⟩, ⟨f0, f1, f2, f3, f4, f5, f6⟩⟩ := seven_at b21
    have ho2 : ¬ S' (w.heap.size + 1 + 1) := fun h => (s'.new _ h).elim (fun h => by have := hlt _ h; omega) (fun h => by omega)
    have HY := hideIt (And.intro e1 (And.intro hvr (And.intro k' (And.intro (show Stp S w S' w1 from ⟨bw s'.but, fun k hk => (s'.new k hk).imp_right (fun h => Nat.le_trans hA.size h)⟩) (And.intro hsz ho2)))))
    have HG := hideIt (show ∀ k, P k ∨ W0.heap.size ≤ k → k ≠ w.heap.size + 1 + 1 from fun k hk e => by
      subst e
      exact hk.elim (fun h => by have := (HPP.out _ h).2; omega) (fun h => by omega))
    clear hA b2 hsz hlt hg bw h1 e1 hv hvr k' s' b21 ho2 HX HW0 HD
    obtain ⟨Xk, Xs, Xc, Xr, Xq, Xo, Xb⟩ := X
    dsimp only at c0 c1 c2 c3 c4 c5 c6
    go_wp2_with fail
    obtain ⟨e1, hvr, k', s', hsz, ho2⟩ := HY.out
    refine bodyPost_ret (v := .agg #[.int .i64 Xk, .slice xa Xs.length xc, .int .i64 Xc, .int .i64 Xr, .int .i64 Xq, .slice ya Xo.length yc, .slice za Xb.length zc]) (by simp [results, Try.results26, go_sem, z0, z1, z2, z3, z4, z5, z6]) rfl (Ends.ok e1 ⟨⟨xa, xc, ya, yc, za, zc, rfl, fun hm => ⟨?_, ?_⟩⟩, S', ?_, ?_⟩)
    · refine ((hvr hm).1.but (T := One (w.heap.size + 1 + 1)) ?_ (fun k hk e => HG.out k hk e)).mono (fun k hk => hk.imp_right (fun h => by omega))
      iterate 7 refine But.set (S := One (w.heap.size + 1 + 1)) ?_ ⟨w.heap.size + 1 + 1, _, none⟩ (fun _ => Eq.refl _) _
      exact But.rfl
    · refine own_base (own_but (S := One (w.heap.size + 1 + 1)) (hvr hm).2 ?_ (fun k hk e => HG.out k (.inr ((hvr hm).2.lt k hk).1) e)) (fun k hk => Nat.le_trans (by omega) ((hvr hm).2.lt k hk).1)
      iterate 7 refine But.set (S := One (w.heap.size + 1 + 1)) ?_ ⟨w.heap.size + 1 + 1, _, none⟩ (fun _ => Eq.refl _) _
      exact But.rfl
    · iterate 7 refine Cod.set ?_ ho2 _ _
      exact k'
    · iterate 7 refine Stp.newly ?_ (by omega) _ _
      exact s'
  | false =>
    go_enter Try.func26, Try.ntmps26
    go_wp2_with (go_at_call 21; refine (HD.out _).mono ?_; rintro e w9 ⟨rfl, rfl⟩)
    rw [HW0.out]
    refine H1.out.mono ?_
    clear H1
    intro e w1 h1
    obtain ⟨hA, b2, hsz, hlt, hg⟩ := HX.out
    have bw : ∀ {W}, But (fun k => S k ∨ k = w.heap.size + 1) W0 W → But S w W := fun {W} t => hA.but.then t (fun i hi h => h.elim id (fun h => by omega))
    rcases h1.split with ⟨c9, e1, rfl, t⟩ | ⟨X, us, e1, rfl, ⟨xa, xc, ya, yc, za, zc, hv, hvr⟩, S', k', s'⟩
    · exact ⟨rfl, Ends.bad e1 ⟨rfl, bw t⟩⟩
    have b21 := (s'.but.block _ (by omega) (fun h => h.elim (fun h => by have := hlt _ h; omega) (fun h => by omega))).trans b2
    unfold Msg.cells at hv
    obtain ⟨_, ⟨c0, c1, c2, c3, c4, c5, c6⟩, _⟩ := seven_at hv
    obtain ⟨_, ⟨z0, z1, z2, z3, z4, z5, z6⟩, ⟨f0, f1, f2, f3, f4, f5, f6⟩⟩ := seven_at b21
    have ho2 : ¬ S' (w.heap.size + 1 + 1) := fun h => (s'.new _ h).elim (fun h => by have := hlt _ h; omega) (fun h => by omega)
    have HY := hideIt (And.intro e1 (And.intro hvr (And.intro k' (And.intro (show Stp S w S' w1 from ⟨bw s'.but, fun k hk => (s'.new k hk).imp_right (fun h => Nat.le_trans hA.size h)⟩) (And.intro hsz ho2)))))
    have HG := hideIt (show ∀ k, P k ∨ W0.heap.size ≤ k → k ≠ w.heap.size + 1 + 1 from fun k hk e => by
      subst e
      exact hk.elim (fun h => by have := (HPP.out _ h).2; omega) (fun h => by omega))
    clear hA b2 hsz hlt hg bw h1 e1 hv hvr k' s' b21 ho2 HX HW0 HD
    obtain ⟨Xk, Xs, Xc, Xr, Xq, Xo, Xb⟩ := X
    dsimp only at c0 c1 c2 c3 c4 c5 c6
    go_wp2_with fail
    obtain ⟨e1, hvr, k', s', hsz, ho2⟩ := HY.out
    refine bodyPost_ret (v := .agg #[.int .i64 Xk, .slice xa Xs.length xc, .int .i64 Xc, .int .i64 Xr, .int .i64 Xq, .slice ya Xo.length yc, .slice za Xb.length zc]) (by simp [results, Try.results26, go_sem, z0, z1, z2, z3, z4, z5, z6]) rfl (Ends.ok e1 ⟨⟨xa, xc, ya, yc, za, zc, rfl, fun hm => ⟨?_, ?_⟩⟩, S', ?_, ?_⟩)
    · refine ((hvr hm).1.but (T := One (w.heap.size + 1 + 1)) ?_ (fun k hk e => HG.out k hk e)).mono (fun k hk => hk.imp_right (fun h => by omega))
      iterate 7 refine But.set (S := One (w.heap.size + 1 + 1)) ?_ ⟨w.heap.size + 1 + 1, _, none⟩ (fun _ => Eq.refl _) _
      exact But.rfl
    · refine own_base (own_but (S := One (w.heap.size + 1 + 1)) (hvr hm).2 ?_ (fun k hk e => HG.out k (.inr ((hvr hm).2.lt k hk).1) e)) (fun k hk => Nat.le_trans (by omega) ((hvr hm).2.lt k hk).1)
      iterate 7 refine But.set (S := One (w.heap.size + 1 + 1)) ?_ ⟨w.heap.size + 1 + 1, _, none⟩ (fun _ => Eq.refl _) _
      exact But.rfl
    · iterate 7 refine Cod.set ?_ ho2 _ _
      exact k'
    · iterate 7 refine Stp.newly ?_ (by omega) _ _
      exact s'
end Go.Proofs.Ytigiakhdaaoljaa
