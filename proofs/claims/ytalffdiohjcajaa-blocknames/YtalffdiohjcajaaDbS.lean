/-
  A region whose order is drawn and which calls once and stores once; the document's Write.
-/
import Derived.Test.YtalffdiohjcajaaDbR
import Derived.Test.YtalffdiohjcajaaChn
namespace Go.Proofs.Ytalffdiohjcajaa.Iv
open Go.RowKit
set_option maxRecDepth 8000
/-- A call at place c, a store at place s. -/
structure Ca1 (c s : Nat) (P0 : World → Prop) (P1 : Value → World → Prop) (P4 : World → Prop) (L : Nat → Bool) (u : Nat → Value) (w : World) : Prop where
  i1 : L s = true → L c = true
  p0 : L c = false → P0 w
  p1 : L c = true → L s = false → P1 (u c) w
  p4 : L s = true → P4 w
section
variable {c s : Nat} {P0 : World → Prop} {P1 : Value → World → Prop} {P4 : World → Prop} {L : Nat → Bool} {u : Nat → Value} {w w' : World}
theorem Ca1.start (h : P0 w) : Ca1 c s P0 P1 P4 (fun _ => false) u w := ⟨fun h => (by cases h), fun _ => h, fun h => (by cases h), fun h => (by cases h)⟩
theorem Ca1.keep {T : Tab} {k : Nat} {v : Value} (h1 : c ≠ k) (h2 : s ≠ k) (d1 : T.D c ≠ T.D k) (L : Nat → Bool) (u : Nat → Value) (w : World) (x : Ca1 c s P0 P1 P4 L u w) : Ca1 c s P0 P1 P4 (more L k) (T.set k v u) w := by
  have e : T.set k v u c = u c := if_neg d1
  refine ⟨?_, ?_, ?_, ?_⟩
  · rw [more_ne L h2, more_ne L h1]; exact x.i1
  · rw [more_ne L h1]; exact x.p0
  · rw [more_ne L h1, more_ne L h2, e]; exact x.p1
  · rw [more_ne L h2]; exact x.p4
theorem Ca1.call {T : Tab} {v : Value} (h2 : s ≠ c) (x : Ca1 c s P0 P1 P4 L u w) (h : L c = false) (p : P1 v w') : Ca1 c s P0 P1 P4 (more L c) (T.set c v u) w' := by
  have hs := fls x.i1 h
  refine ⟨?_, ?_, ?_, ?_⟩
  · rw [more_ne L h2, hs]; intro h; cases h
  · rw [more_self]; intro h; cases h
  · intro _ _
    rw [show T.set c v u c = v from if_pos rfl]; exact p
  · rw [more_ne L h2, hs]; intro h; cases h
theorem Ca1.store (h1 : c ≠ s) (_x : Ca1 c s P0 P1 P4 L u w) (hc : L c = true) (p : P4 w') : Ca1 c s P0 P1 P4 (more L s) u w' := by
  refine ⟨?_, ?_, ?_, ?_⟩
  · rw [more_ne L h1]; intro _; exact hc
  · rw [more_ne L h1, hc]; intro h; cases h
  · rw [more_self]; intro _ h; cases h
  · intro _; exact p
theorem Ca1.any {R : Prop} (x : Ca1 c s P0 P1 P4 L u w) (h0 : P0 w → R) (h1 : ∀ v, P1 v w → R) (h4 : P4 w → R) : R := by
  rcases hc : L c with _ | _
  · exact h0 (x.p0 hc)
  rcases hs : L s with _ | _
  · exact h1 _ (x.p1 hc hs)
  · exact h4 (x.p4 hs)
end
/-- The document's device, whatever its rows have. -/
structure RvM (w : World) (S : Nat → Prop) (p : Pl) (n : Nat) (kf lf : Nat → List Int) (tf : Nat → Bool) (q : Bool) (L : Int) : Prop where
  at0 : w.heap[p.e]? = some (.cells (rvC p n q L) 60 (0, 0))
  rk : SlRow w S p.k n kf
  rl : SlRow w S p.l n lf
  rt : BRow w p.t n tf
  inS : ∀ b, p.In b → S b
  bd : ∀ b, S b → b < w.heap.size
  ek : p.e ≠ p.k
  el : p.e ≠ p.l
  et : p.e ≠ p.t
  kl : p.k ≠ p.l
  kt : p.k ≠ p.t
  lt : p.l ≠ p.t
section
variable {w w' : World} {S T : Nat → Prop} {p : Pl} {n : Nat} {kf lf : Nat → List Int} {tf : Nat → Bool} {q : Bool} {L : Int} {x : Dv}
theorem mid (h : RvX w S p x) : RvM w S p x.n x.kp x.last (fun i => (x.wr i).isSome) x.dead x.left := ⟨h.at0, h.rk, h.rl, h.rt, h.inS, h.bd, h.ek, h.el, h.et, h.kl, h.kt, h.lt⟩
theorem RvM.done (h : RvM w S p x.n kf lf tf x.dead x.left) (ok : x.Ok) (h1 : ∀ i, i < x.n → kf i = x.kp i) (h2 : ∀ i, i < x.n → lf i = x.last i) (h3 : ∀ i, i < x.n → tf i = (x.wr i).isSome) : RvX w S p x :=
  ⟨ok, h.at0, h.rk.congr h1, h.rl.congr h2, h.rt.congr h3, h.inS, h.bd, h.ek, h.el, h.et, h.kl, h.kt, h.lt⟩
theorem RvM.but (h : RvM w S p n kf lf tf q L) (b : But T w w') (hn : ∀ k, p.In k → ¬ T k) (hT : ∀ k, k < w.heap.size → T k → S k) : RvM w' S p n kf lf tf q L :=
  { h with
    at0 := (b.block p.e (blk_lt h.at0) (hn _ (.inl rfl))).trans h.at0
    rk := h.rk.but b (hn _ (.inr (.inl rfl))) hT
    rl := h.rl.but b (hn _ (.inr (.inr (.inl rfl)))) hT
    rt := h.rt.but b (hn _ (.inr (.inr (.inr rfl))))
    bd := fun k hk => Nat.lt_of_lt_of_le (h.bd k hk) b.size }
theorem RvM.after (h : RvM w S p n kf lf tf q L) (a : After w w') : RvM w' S p n kf lf tf q L := h.but a (fun _ _ t => t) (fun _ _ t => t.elim)
theorem RvM.c (h : RvM w S p n kf lf tf q L) : w.cell? ⟨p.e, 0, none⟩ = some (.slice (some ⟨p.k, 0, none⟩) n p.ck) ∧ w.cell? ⟨p.e, 1, none⟩ = some (.slice (some ⟨p.l, 0, none⟩) n p.cl) ∧ w.cell? ⟨p.e, 2, none⟩ = some (.slice (some ⟨p.t, 0, none⟩) n n) ∧ w.cell? ⟨p.e, 3, none⟩ = some (.bool q) ∧ w.cell? ⟨p.e, 4, none⟩ = some (.int .i64 L) :=
  ⟨blk_cell h.at0 (i := 0) rfl, blk_cell h.at0 (i := 1) rfl, blk_cell h.at0 (i := 2) rfl, blk_cell h.at0 (i := 3) rfl, blk_cell h.at0 (i := 4) rfl⟩
theorem RvM.sub (h : RvM w S p n kf lf tf q L) {g : Nat} (hg : p.In g) : ∀ k, k < w.heap.size → One g k → S k := fun k _ e => by
  have e : k = g := e
  rw [e]
  exact h.inS g hg
theorem RvM.putK (h : RvM w S p n kf lf tf q L) {i b c : Nat} {zs : List Int} (hi : i < n) (hr : Row w (some ⟨b, 0, none⟩) 64 zs) (hb : ¬ S b) : RvM (w.setCell ⟨p.k, i, none⟩ (.slice (some ⟨b, 0, none⟩) 64 c)) S p n (fun k => if k = i then zs else kf k) lf tf q L := by
  have x := but_one w p.k i (.slice (some ⟨b, 0, none⟩) 64 c)
  have hs := h.sub (g := p.k) (.inr (.inl rfl))
  exact { h with
    at0 := (x.block p.e (blk_lt h.at0) (fun e => h.ek e)).trans h.at0
    rk := h.rk.put (h.inS _ (.inr (.inl rfl))) hi hr hb
    rl := h.rl.but x (fun e => h.kl e.symm) hs
    rt := h.rt.but x (fun e => h.kt e.symm)
    bd := fun k hk => Nat.lt_of_lt_of_le (h.bd k hk) x.size }
theorem RvM.putL (h : RvM w S p n kf lf tf q L) {i b c : Nat} {zs : List Int} (hi : i < n) (hr : Row w (some ⟨b, 0, none⟩) 64 zs) (hb : ¬ S b) : RvM (w.setCell ⟨p.l, i, none⟩ (.slice (some ⟨b, 0, none⟩) 64 c)) S p n kf (fun k => if k = i then zs else lf k) tf q L := by
  have x := but_one w p.l i (.slice (some ⟨b, 0, none⟩) 64 c)
  have hs := h.sub (g := p.l) (.inr (.inr (.inl rfl)))
  exact { h with
    at0 := (x.block p.e (blk_lt h.at0) (fun e => h.el e)).trans h.at0
    rk := h.rk.but x (fun e => h.kl e) hs
    rl := h.rl.put (h.inS _ (.inr (.inr (.inl rfl)))) hi hr hb
    rt := h.rt.but x (fun e => h.lt e.symm)
    bd := fun k hk => Nat.lt_of_lt_of_le (h.bd k hk) x.size }
theorem RvM.putT (h : RvM w S p n kf lf tf q L) {i : Nat} (hi : i < n) (v : Bool) : RvM (w.setCell ⟨p.t, i, none⟩ (.bool v)) S p n kf lf (fun k => if k = i then v else tf k) q L := by
  have x := but_one w p.t i (.bool v)
  have hs := h.sub (g := p.t) (.inr (.inr (.inr rfl)))
  exact { h with
    at0 := (x.block p.e (blk_lt h.at0) (fun e => h.et e)).trans h.at0
    rk := h.rk.but x (fun e => h.kt e) hs
    rl := h.rl.but x (fun e => h.lt e) hs
    rt := h.rt.put hi v
    bd := fun k hk => Nat.lt_of_lt_of_le (h.bd k hk) x.size }
end
/-- A copy of a sector, new behind w0. -/
def Cpy (w0 : World) (zs : List Int) (v : Value) (w : World) : Prop := After w0 w ∧ ∃ b c, v = .slice (some ⟨b, 0, none⟩) 64 c ∧ Row w (some ⟨b, 0, none⟩) 64 zs ∧ w0.heap.size ≤ b
theorem fieldRv (w : World) (e : Nat) : (Instr.fieldAt 60 (Ptr e) 0).run Try.prog w = .ok (Ptr e) w := by
  simp [go_sem]
theorem fieldRv1 (w : World) (e : Nat) : (Instr.fieldAt 60 (Ptr e) 1).run Try.prog w = .ok (.pointer (some ⟨e, 1, none⟩)) w := by
  simp [go_sem]
theorem loadSs {w : World} {a : Addr} {v : Value} (h : w.cell? a = some v) : (Instr.loadAt 58 (.pointer (some a))).run Try.prog w = .ok v w := by
  simp [go_sem, h]
theorem loadS1 {w : World} {a : Addr} {v : Value} (h : w.cell? a = some v) : (Instr.loadAt 38 (.pointer (some a))).run Try.prog w = .ok v w := by
  simp [go_sem, h]
theorem indexSs (w : World) (g : Nat) {j n c : Nat} (hj : j < n) : (Instr.indexAt 58 (.slice (some ⟨g, 0, none⟩) n c) (.int .i64 j)).run Try.prog w = .ok (.pointer (some ⟨g, j, none⟩)) w := by
  have : (j : Int) < n := by omega
  simp [go_sem, this]
theorem storeS1 {w : World} {g i : Nat} {y v : Value} (h : w.cell? ⟨g, i, none⟩ = some y) (f : w.frozen? ⟨g, i, none⟩ = false) (b c : Nat) (hv : v = .slice (some ⟨b, 0, none⟩) 64 c) : (Instr.storeAt 38 (.pointer (some ⟨g, i, none⟩)) v).run Try.prog w = .ok () (w.setCell ⟨g, i, none⟩ v) := by
  subst hv
  simp [go_sem, h, f]
theorem rvWrite_no {S : Nat → Prop} {w : World} {p : Pl} {x : Dv} (h : RvX w S p x) (i : Int) (a : Option Addr) (n c : Nat) (b : List Int) (hbn : b.length = n) (hE : x.dead = true ∨ ¬ x.may i b) : Calls Try.prog 25 #[Ptr p.e, .int .i64 i, .slice a n c] w fun e w' => e = .returned (.int .i64 (x.writeE i b)) ∧ w' = w := by
  have c1 := h.c.2.1
  have c3 := h.c.2.2.2.1
  cases hd : x.dead with
  | true =>
    have he : x.writeE i b = 220 := by unfold Dv.writeE; rw [hd]; rfl
    rw [he]
    rw [hd] at c3
    clear h hE he hd
    go_enter Try.func25, Try.ntmps25
    go_wp2
    go_ret
    exact ⟨rfl, rfl⟩
  | false =>
    have hm : ¬ x.may i b := by
      rcases hE with h | h
      · rw [hd] at h; cases h
      · exact h
    have he : x.writeE i b = 2 := by rw [writeE_live hd, if_neg hm]
    rw [he]
    rw [hd] at c3
    unfold Dv.may at hm
    by_cases i0 : i < 0
    · clear h hE he hd hm
      go_enter Try.func25, Try.ntmps25
      go_wp2
      go_ret
      exact ⟨rfl, rfl⟩
    · by_cases i1 : i < x.n
      · have hn : ¬ n = 64 := fun e => hm ⟨by omega, i1, hbn.trans e⟩
        have hn2 : ((n : Int) != 64) = true := by simp; omega
        have i2 : ¬ (x.n : Int) ≤ i := by omega
        clear h hE he hd hm hbn hn
        generalize x.n = N at *
        go_enter Try.func25, Try.ntmps25
        go_wp2
        go_ret
        exact ⟨rfl, rfl⟩
      · have i2 : (x.n : Int) ≤ i := by omega
        clear h hE he hd hm hbn
        generalize x.n = N at *
        go_enter Try.func25, Try.ntmps25
        go_wp2
        go_ret
        exact ⟨rfl, rfl⟩
theorem rvWrite_die {S : Nat → Prop} {w : World} {p : Pl} {x : Dv} (h : RvX w S p x) {i : Nat} (hi : i < x.n) (hd : x.dead = false) (hl : x.left = 0) (a : Option Addr) (c : Nat) : Calls Try.prog 25 #[Ptr p.e, .int .i64 i, .slice a 64 c] w fun e w' => e = .returned (.int .i64 220) ∧ RvX w' S p x.go ∧ But (One p.e) w w' := by
  have c1 := h.c.2.1
  have c3 := h.c.2.2.2.1
  have HG := rvGoes h
  rw [show decide (x.left = 0) = true from decide_eq_true hl] at HG
  have HG := hideIt HG
  rw [hd] at c3
  have i0 : ¬ (i : Int) < 0 := by omega
  have i1 : ¬ (x.n : Int) ≤ (i : Int) := by omega
  clear h hd hl
  go_enter Try.func25, Try.ntmps25
  go_wp2_with (go_at_call 42; refine HG.out.mono ?_; rintro e w1 ⟨rfl, x1, b1⟩; have X1 := hideIt (And.intro x1 b1); clear x1 b1)
  go_ret
  exact ⟨rfl, X1.out.1, X1.out.2⟩
theorem rvWrite_yes {S : Nat → Prop} {w : World} {p : Pl} {x : Dv} (h : RvX w S p x) {i : Nat} (hi : i < x.n) (hd : x.dead = false) (hl : ¬ x.left = 0) (y : Addr) (c : Nat) (b : List Int) (hb : Row w (some y) 64 b) (hy : y.block ≠ p.e) : Calls Try.prog 25 #[Ptr p.e, .int .i64 i, .slice (some y) 64 c] w fun e w' => e = .returned (.int .i64 0) ∧ RvX w' S p (x.go.put i b) ∧ But p.In w w' := by
  have c1 := h.c.2.1
  have c3 := h.c.2.2.2.1
  have HG := rvGoes h
  rw [show decide (x.left = 0) = false from decide_eq_false hl] at HG
  rw [hd] at c3
  have HX := hideIt (And.intro h.ok (And.intro hi (And.intro hb hy)))
  have hgn := go_n x
  have i0 : ¬ (i : Int) < 0 := by omega
  have i1 : ¬ (x.n : Int) ≤ (i : Int) := by omega
  have i2 : (i : Int) < (x.n : Int) := by omega
  have i3 : (0 : Int) ≤ (i : Int) := by omega
  clear h hd hl hb hy
  have HGN := hideIt (And.intro hgn (go_ok HX.out.1))
  generalize x.go = z at *
  have HG := hideIt HG
  clear hgn
  go_enter Try.func25, Try.ntmps25
  go_upto_region 7 with (go_at_call 42; refine HG.out.mono ?_; rintro e w1 ⟨rfl, x1, b1⟩; have X1 := hideIt (And.intro x1 b1); clear x1 b1)
  have hzi : i < z.n := by rw [HGN.out.1]; exact HX.out.2.1
  have hrow : Row w1 (some y) 64 b := HX.out.2.2.1.but X1.out.2 (fun q hq => by cases hq; exact HX.out.2.2.2)
  have hm := mid X1.out.1
  have HM := hideIt (And.intro hm (And.intro hrow hzi))
  clear hrow hm
  refine region_inv (by kernel_rfl) (Tab.J (⟨9, fun k' => [29, 30, 31, 32, 33, 34, 35, 36, 900].getD k' 0, fun k' => ([some (Ptr p.e), some (Ptr p.e), some (.pointer (some ⟨p.e, 1, none⟩)), some (.slice (some ⟨p.l, 0, none⟩) z.n p.cl), some (.int .i64 i), some (.slice (some y) 64 c), none, some (.pointer (some ⟨p.l, i, none⟩)), none] : List (Option Value)).getD k' none, Ca1 6 8 (After w1) (Cpy w1 b) (fun V => RvM V S p z.n z.kp (fun k => if k = i then b else z.last k) (fun i => (z.wr i).isSome) z.dead z.left ∧ But (One p.l) w1 V)⟩ : Tab) _) ⟨rfl, rfl, fun _ _ => rfl, (fun _ _ _ _ h => by cases h), Ca1.start (But.drew But.rfl)⟩ ?_ ?_
  · exact ⟨inv_move (.inl rfl) rfl rfl rfl rfl rfl rfl rfl rfl (Ca1.keep (neB rfl) (neB rfl) (neB rfl)) rfl,
      inv_nil rfl rfl rfl rfl rfl rfl rfl rfl rfl (Ca1.keep (neB rfl) (neB rfl) (neB rfl)) rfl,
      inv_field rfl rfl rfl rfl rfl rfl rfl rfl rfl (Ca1.keep (neB rfl) (neB rfl) (neB rfl)) rfl (fun w => fieldRv1 w _),
      inv_load rfl rfl rfl rfl rfl rfl rfl rfl rfl (Ca1.keep (neB rfl) (neB rfl) (neB rfl)) rfl (fun L u V h => loadSs (h.any (fun a => (HM.out.1.after a).c.2.1) (fun v a => (HM.out.1.after a.1).c.2.1) (fun a => a.1.c.2.1))),
      inv_move (.inl rfl) rfl rfl rfl rfl rfl rfl rfl rfl (Ca1.keep (neB rfl) (neB rfl) (neB rfl)) rfl,
      inv_move (.inl rfl) rfl rfl rfl rfl rfl rfl rfl rfl (Ca1.keep (neB rfl) (neB rfl) (neB rfl)) rfl,
      inv_call rfl rfl rfl rfl rfl rfl rfl rfl (enterC Try.func40 (by kernel_rfl) (by kernel_rfl)) (fun a V L hv hd hl h => by
        rw [show (#[Operand.tmp 34] : Array Operand).map a.eval = #[a.eval (.tmp 34)] from by simp, hv (.tmp 34) _ rfl]
        have n0 := h.p0 hl
        refine (copy64 V y c b (HM.out.2.1.after n0)).mono ?_
        rintro e V' ⟨b', c', rfl, h1, _, h3, _, h5⟩
        exact ⟨_, rfl, (fun v7 h7 => by cases h7), Ca1.call (neB rfl) h hl ⟨n0.trans h5, b', c', rfl, h1, Nat.le_trans n0.size h3⟩⟩),
      inv_index rfl rfl rfl rfl rfl rfl rfl rfl rfl (Ca1.keep (neB rfl) (neB rfl) (neB rfl)) rfl rfl (fun V => indexSs V _ HM.out.2.2),
      inv_end rfl rfl rfl rfl rfl rfl (fun L a V hv hd hl h => by
        obtain ⟨a5, b', c', eb, h1, h3⟩ := h.p1 (hd 6 rfl) hl
        rw [hv (.tmp 36) _ rfl]
        have hm5 := HM.out.1.after a5
        obtain ⟨bo, co, cc, _, _⟩ := hm5.rl.cell HM.out.2.2
        have hnb : ¬ S b' := fun t => by have := HM.out.1.bd b' t; omega
        have hr := storeS1 cc (hm5.rl.soft i) b' c' eb
        have hp := hm5.putL (c := c') HM.out.2.2 h1 hnb
        rw [← eb] at hp
        exact ⟨_, hr, Ca1.store (neB rfl) h (hd 6 rfl) ⟨hp, (a5.but).trans (but_one _ _ _ _)⟩⟩),
      trivial⟩
  · intro a7 w7 L7 hL7 J7
    have e7 := J7.fin hL7 rfl
    have W7 := J7.other
    have h7 := W7.p4 (hL7 8 (Nat.le_of_ble_eq_true rfl))
    clear J7 W7
    rw [e7]
    clear e7
    generalize hv7 : Tab.u _ a7 = U7 at *
    simp only [Tab.puts, List.getD_cons_succ, List.getD_cons_zero, Option.getD_some, Option.getD_none, List.setIfInBounds_toArray, List.set_cons_succ, List.set_cons_zero, List.set_nil]
    clear hv7 hL7
    have c2 := h7.1.c.2.2.1
    have ct := h7.1.rt.cell HM.out.2.2
    have ft := h7.1.rt.soft i
    have i4 : (i : Int) < (z.n : Int) := by have := HM.out.2.2; omega
    have hp := h7.1.putT HM.out.2.2 true
    have HP := hideIt (And.intro hp h7.2)
    clear h7 hp
    go_wp2
    go_ret
    refine ⟨rfl, HP.out.1.done (x := z.put i b) (put_ok HGN.out.2 HM.out.2.2 ⟨HX.out.2.2.1.1, HX.out.2.2.1.2.1⟩) (fun _ _ => rfl) (fun j _ => (put_last z i b j).symm) (fun j _ => ?_), ?_⟩
    · show (if j = i then true else (z.wr j).isSome) = (if j = i then some b else z.wr j).isSome
      split <;> rfl
    · exact (((X1.out.2.mono (fun _ _ e => .inl e)).trans (HP.out.2.mono (fun _ _ e => .inr (.inr (.inl e))))).trans ((but_one _ _ _ _).mono (fun _ _ e => .inr (.inr (.inr e)))))
end Go.Proofs.Ytalffdiohjcajaa.Iv
