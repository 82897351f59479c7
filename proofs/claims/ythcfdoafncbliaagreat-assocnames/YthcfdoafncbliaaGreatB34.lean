/-
  Laid together: OrdC, OrdD, OrdE.
-/
import Derived.Test.YthcfdoafncbliaaGreatB33
/-
  AssocOrder: a sample held against its number; the loop over the samples.
-/
namespace Go.Proofs.YthcfdoafncbliaaGreat
open Go.RowKit Go.Maps
set_option maxRecDepth 8000
def o29 (f : Func) : Code := sq2 (sq2 (o24 f))
def o32 (f : Func) : Code := sq2 (sq2 (o29 f))
theorem o29_eq : (o29 Tryz.f20) = .seq (sq1 (o29 Tryz.f20)) (.seq (sq1 (sq2 (o29 Tryz.f20))) (o32 Tryz.f20)) := by kernel_rfl
/-- What lies in memory of the sample j and of its number. -/
structure AtJ (w : World) (b off k b1 o1 j : Nat) (b2 o2 n3 bc : Nat) (o : Bi) : Prop where
  z6 : w.cell? ⟨b, off + k * 7 + 6, none⟩ = some (.slice (some ⟨b2, o2, none⟩) n3 bc)
  d0 : w.cell? ⟨b1, o1 + j * 4, none⟩ = some (.int .i64 o.h)
  d1 : w.cell? ⟨b1, o1 + j * 4 + 1, none⟩ = some (.int .i64 (smOf o).k)
  d2 : w.cell? ⟨b1, o1 + j * 4 + 2, none⟩ = some (.int .i64 (smOf o).m)
  d3 : w.cell? ⟨b1, o1 + j * 4 + 3, none⟩ = some (.int .i64 (smOf o).e)
  f0 : w.cell? ⟨b2, o2 + j * 3, none⟩ = some (.int .i64 o.h)
  f1 : w.cell? ⟨b2, o2 + j * 3 + 1, none⟩ = some (.bool o.l)
  f2 : w.cell? ⟨b2, o2 + j * 3 + 2, none⟩ = some (.int .u32 o.b)
  lb : b < w.heap.size
  l1 : b1 < w.heap.size
  l2 : b2 < w.heap.size
theorem AtJ.but {S : Nat → Prop} {w w' : World} {b off k b1 o1 j b2 o2 n3 bc : Nat} {o : Bi} (h : AtJ w b off k b1 o1 j b2 o2 n3 bc o) (x : But S w w') (hs : ∀ i, i < w.heap.size → ¬ S i) : AtJ w' b off k b1 o1 j b2 o2 n3 bc o := by
  have hb := hs _ h.lb
  have h1 := hs _ h.l1
  have h2 := hs _ h.l2
  exact ⟨by rw [x.cell h.lb hb]; exact h.z6, by rw [x.cell h.l1 h1]; exact h.d0, by rw [x.cell h.l1 h1]; exact h.d1, by rw [x.cell h.l1 h1]; exact h.d2, by rw [x.cell h.l1 h1]; exact h.d3, by rw [x.cell h.l2 h2]; exact h.f0, by rw [x.cell h.l2 h2]; exact h.f1, by rw [x.cell h.l2 h2]; exact h.f2, Nat.lt_of_lt_of_le h.lb x.size, Nat.lt_of_lt_of_le h.l1 x.size, Nat.lt_of_lt_of_le h.l2 x.size⟩
set_option maxHeartbeats 2000000 in
theorem part32 {Q : Exit → Act → World → Prop} {a : Act} {w : World} {v3 v5 v6 v7 v9 v11 v12 : Value} {b off n c k b1 o1 ns scv j b2 o2 n3 bc gv : Nat} {o : Bi} (hf : F1 a (.slice (some ⟨b, off, none⟩) n c) v3 (.int .i64 (k : Int)) v5 v6 v7 (.slice (some ⟨b1, o1, none⟩) ns scv) v9 v11 v12) (h14 : a.tmps.getD 14 undef = .int .i64 (j : Int)) (h15 : a.tmps.getD 15 undef = .bool true) (h17 : a.tmps.getD 17 undef = Ptr gv) (hkn : (k : Int) < (n : Int)) (hj : (j : Int) < (ns : Int)) (hj3 : (j : Int) < (n3 : Int)) (hm : AtJ w b off k b1 o1 j b2 o2 n3 bc o) (hv : w.heap[gv]? = some (.cells #[.int .i64 (smOf o).k, .int .i64 (smOf o).m, .int .i64 (smOf o).e] 67 (0, 0)))
    (hK : ∀ a' W', F1 a' (.slice (some ⟨b, off, none⟩) n c) v3 (.int .i64 (k : Int)) v5 v6 v7 (.slice (some ⟨b1, o1, none⟩) ns scv) v9 v11 v12 → a'.tmps.getD 14 undef = .int .i64 (j : Int) → After w W' → Q .normal a' W') :
    Code.wp Tryz.prog (o32 Tryz.f20) Q a w := by
  obtain ⟨u, hu, e⟩ := hf.lit
  have e14 := (hu 14).trans h14
  have e15 := (hu 15).trans h15
  have e17 := (hu 17).trans h17
  subst e
  rw [e14, e15, e17]
  have HK := hideIt hK
  obtain ⟨z6, d0, d1, d2, d3, f0, f1, f2, lb, l1, l2⟩ := hm
  obtain ⟨lv, ⟨x0, x1, x2⟩, _⟩ := tri_at hv
  clear hf hu h14 h15 h17 e14 e15 e17 hK hv
  generalize (smOf o).k = t1 at *
  generalize (smOf o).m = t2 at *
  generalize (smOf o).e = t3 at *
  obtain ⟨oh, ol, obt⟩ := o
  dsimp only at d0 f0 f1 f2
  have hnr := neqR t1 t2 t3
  have hnh : (oh != oh) = false := by simp
  conv => arg 2; whnf
  go_wp2_with fail
  go_quiet (fail)
  have AW2 := hideIt (After.rfl.draws (a := w) nq)
  generalize w.drewN nq = W9 at *
  clear z6 d0 d1 d2 d3 f0 f1 f2 x0 x1 x2
  go_wp2_with fail
  exact HK.out _ _ ⟨rfl, rfl, rfl, rfl, rfl, rfl, rfl, rfl, rfl, rfl, rfl, rfl⟩ rfl AW2.out
theorem smF (oh obt : Int) : (smOf ⟨oh, false, obt⟩).k = shK (obt % 65536) ∧ (smOf ⟨oh, false, obt⟩).m = shM (obt % 65536) ∧ (smOf ⟨oh, false, obt⟩).e = shE (obt % 65536) := ⟨rfl, rfl, rfl⟩
theorem smT (oh obt : Int) : (smOf ⟨oh, true, obt⟩).k = loK obt ∧ (smOf ⟨oh, true, obt⟩).m = loM obt ∧ (smOf ⟨oh, true, obt⟩).e = loE obt := ⟨rfl, rfl, rfl⟩
set_option maxHeartbeats 2000000 in
theorem part29 {Q : Exit → Act → World → Prop} {a : Act} {w : World} {v3 v5 v6 v7 v9 v11 v12 : Value} {b off n c k b1 o1 ns scv j b2 o2 n3 bc : Nat} {o : Bi} (hf : F1 a (.slice (some ⟨b, off, none⟩) n c) v3 (.int .i64 (k : Int)) v5 v6 v7 (.slice (some ⟨b1, o1, none⟩) ns scv) v9 v11 v12) (h14 : a.tmps.getD 14 undef = .int .i64 (j : Int)) (h15 : a.tmps.getD 15 undef = .bool true) (hkn : (k : Int) < (n : Int)) (hj : (j : Int) < (ns : Int)) (hj3 : (j : Int) < (n3 : Int)) (hbit : 0 ≤ o.b ∧ o.b < 4294967296) (hm : AtJ w b off k b1 o1 j b2 o2 n3 bc o)
    (hK : ∀ a' W', F1 a' (.slice (some ⟨b, off, none⟩) n c) v3 (.int .i64 (k : Int)) v5 v6 v7 (.slice (some ⟨b1, o1, none⟩) ns scv) v9 v11 v12 → a'.tmps.getD 14 undef = .int .i64 (j : Int) → After w W' → Q .normal a' W') :
    Code.wp Tryz.prog (o29 Tryz.f20) Q a w := by
  have key : ∀ a' W' gv, F1 a' (.slice (some ⟨b, off, none⟩) n c) v3 (.int .i64 (k : Int)) v5 v6 v7 (.slice (some ⟨b1, o1, none⟩) ns scv) v9 v11 v12 → a'.tmps.getD 14 undef = .int .i64 (j : Int) → a'.tmps.getD 15 undef = .bool true → a'.tmps.getD 17 undef = Ptr gv → After w W' → W'.heap[gv]? = some (.cells #[.int .i64 (smOf o).k, .int .i64 (smOf o).m, .int .i64 (smOf o).e] 67 (0, 0)) → Code.wp Tryz.prog (o32 Tryz.f20) Q a' W' :=
    fun a' W' gv h1 h2 h3 h4 h5 h6 => part32 h1 h2 h3 h4 hkn hj hj3 (hm.but h5 (fun _ _ t => t)) h6 (fun a2 W2 g1 g2 g3 => hK a2 W2 g1 g2 (h5.trans g3))
  rw [o29_eq]
  refine wp_seq ?_
  obtain ⟨u, hu, e⟩ := hf.lit
  have e14 := (hu 14).trans h14
  have e15 := (hu 15).trans h15
  subst e
  rw [e14, e15]
  have HK := hideIt key
  obtain ⟨oh, ol, obt⟩ := o
  dsimp only at hbit
  have H5 := hideIt (short_any (obt % 65536) w (by omega) (by omega))
  have H7 := hideIt (fun W => long_any obt W hbit.1 (by omega))
  have HM := hideIt hm
  have hwr : IntKind.u16.wrap obt = obt % 65536 := rfl
  obtain ⟨z6, d0, d1, d2, d3, f0, f1, f2, lb, l1, l2⟩ := hm
  clear hf hu h14 h15 e14 e15 hK key
  generalize (o32 Tryz.f20) = rest at *
  conv => arg 2; whnf
  go_wp2_with fail
  refine H5.out.mono ?_
  rintro e w5 ⟨rfl, a5⟩
  clear z6 d0 d1 d2 d3 f0 f1 f2 lb l1 l2 H5 hwr
  obtain ⟨w6, hw6⟩ : ∃ w6, w5.alloc (.cells #[.int .i64 (shK (obt % 65536)), .int .i64 (shM (obt % 65536)), .int .i64 (shE (obt % 65536))] 67) = w6 := ⟨_, rfl⟩
  have a6 : After w5 w6 := by rw [← hw6]; exact After.rfl.alloc _
  have V6 : w6.heap[w5.heap.size]? = some (.cells #[.int .i64 (shK (obt % 65536)), .int .i64 (shM (obt % 65536)), .int .i64 (shE (obt % 65536))] 67 (0, 0)) := by rw [← hw6]; exact new1 _ _
  have m6 := HM.out.but (a5.trans a6) (fun _ _ t => t)
  have hs5 := a5.size
  have HA6 := hideIt (And.intro (a5.trans a6) V6)
  obtain ⟨z6, d0, d1, d2, d3, f0, f1, f2, lb, l1, l2⟩ := m6
  clear a5 a6 d0 d1 d2 d3 f0 V6
  dsimp only at f1 f2
  have hsw : w.heap.size ≤ w5.heap.size := hs5
  go_wp2_with fail
  conv => arg 2; whnf
  cases ol with
  | false =>
    go_wp2_with fail
    refine HK.out _ _ w5.heap.size ⟨rfl, rfl, rfl, rfl, rfl, rfl, rfl, rfl, rfl, rfl, rfl, rfl⟩ rfl rfl rfl HA6.out.1 ?_
    rw [(smF oh obt).1, (smF oh obt).2.1, (smF oh obt).2.2]
    exact HA6.out.2
  | true =>
    have H8 := hideIt (H7.out w6)
    clear H7
    go_wp2_with fail
    refine H8.out.mono ?_
    rintro e w7 ⟨rfl, a7⟩
    obtain ⟨a56, V6⟩ := HA6.out
    have V7 := keep3 V6 a7
    obtain ⟨lv7, ⟨x0, x1, x2⟩, y0, y1, y2⟩ := tri_at V7
    have HG := hideIt (And.intro (a56.trans a7) V7)
    clear a56 V6 V7 a7 HA6 H8 z6 f1 f2
    go_wp2_with fail
    obtain ⟨a57, V7⟩ := HG.out
    have V8 := tri_set V7 (.int .i64 (loK obt)) (.int .i64 (loM obt)) (.int .i64 (loE obt))
    refine HK.out _ _ w5.heap.size ⟨rfl, rfl, rfl, rfl, rfl, rfl, rfl, rfl, rfl, rfl, rfl, rfl⟩ rfl rfl rfl ?_ ?_
    · exact ((a57.set _ hsw _).set _ hsw _).set _ hsw _
    · rw [(smT oh obt).1, (smT oh obt).2.1, (smT oh obt).2.2]
      exact V8
/-- A round over the samples. -/
def R2 (a : Act) (W : World) (v0 v3 v4 v5 v6 v7 v8 v9 v11 v12 : Value) (ns : Nat) (w : World) : Prop :=
  ∃ j : Nat, j ≤ ns ∧ F1 a v0 v3 v4 v5 v6 v7 v8 v9 v11 v12 ∧ a.tmps.getD 14 undef = .int .i64 (j : Int) ∧ After w W
def mu14 (ns : Nat) (a : Act) (_ : World) : Nat := ns - (intOf (a.tmps.getD 14 undef)).toNat
/-- What lies in memory of all samples and numbers. -/
def AllJ (w : World) (b off k : Nat) (sv : Option Addr) (ns : Nat) (ba : Option Addr) (n3 bc : Nat) (ob : List Ob) : Prop :=
  ∀ j, j < ns → ∃ b1 o1 b2 o2 o, sv = some ⟨b1, o1, none⟩ ∧ ba = some ⟨b2, o2, none⟩ ∧ j < n3 ∧ (0 ≤ o.b ∧ o.b < 4294967296) ∧ hasO ob o = true ∧ AtJ w b off k b1 o1 j b2 o2 n3 bc o
theorem has_any_h {ob : List Ob} {o : Bi} (h : hasO ob o = true) : (ob.any fun p => decide (p.h = o.h)) = true := by
  obtain ⟨p, hp, hd⟩ := List.any_eq_true.1 h
  exact List.any_eq_true.2 ⟨p, hp, decide_eq_true (of_decide_eq_true hd).1⟩
set_option maxHeartbeats 1000000 in
theorem round22 {Q : Exit → Act → World → Prop} {a : Act} {W w : World} {v3 v5 v7 v9 v11 v12 : Value} {b off n c k : Nat} {ha sv ba : Option Addr} {nh hc ns scv n3 bc : Nat} {ob : List Ob} (hI : R2 a W (.slice (some ⟨b, off, none⟩) n c) v3 (.int .i64 (k : Int)) v5 (.slice ha nh hc) v7 (.slice sv ns scv) v9 v11 v12 ns w) (hkn : (k : Int) < (n : Int)) (hr : RowT w ha nh (ob.map Ob.t3)) (hnh : nh ≤ 16) (hns : ns ≤ 64) (hall : AllJ w b off k sv ns ba n3 bc ob)
    (hK : ∀ a' W', F1 a' (.slice (some ⟨b, off, none⟩) n c) v3 (.int .i64 (k : Int)) v5 (.slice ha nh hc) v7 (.slice sv ns scv) v9 v11 v12 → After w W' → Q (.exit 2) a' W') :
    Code.wp Tryz.prog (o22 Tryz.f20) (Exit.then (fun a' w' => R2 a' w' (.slice (some ⟨b, off, none⟩) n c) v3 (.int .i64 (k : Int)) v5 (.slice ha nh hc) v7 (.slice sv ns scv) v9 v11 v12 ns w ∧ mu14 ns a' w' < mu14 ns a W) Q) a W := by
  obtain ⟨j, hj, hf, h14, aw⟩ := hI
  have hmu : mu14 ns a W = ns - j := by unfold mu14; rw [h14]; simp [intOf]
  rw [hmu]
  clear hmu
  rw [o22_eq]
  refine wp_seq ?_
  by_cases hjn : j < ns
  · have ij : (j : Int) < (ns : Int) := by omega
    obtain ⟨b1, o1, b2, o2, o, rfl, rfl, hj3, hbit, hhas, hat⟩ := hall j hjn
    have ij3 : (j : Int) < (n3 : Int) := by omega
    have hat2 := hat.but aw (fun _ _ t => t)
    have hany := has_any_h hhas
    have last : ∀ a' W', F1 a' (.slice (some ⟨b, off, none⟩) n c) v3 (.int .i64 (k : Int)) v5 (.slice ha nh hc) v7 (.slice (some ⟨b1, o1, none⟩) ns scv) v9 v11 v12 → a'.tmps.getD 14 undef = .int .i64 (j : Int) → After w W' → Code.wp Tryz.prog (sq2 (sq2 (o22 Tryz.f20))) (Exit.then (fun a' w' => R2 a' w' (.slice (some ⟨b, off, none⟩) n c) v3 (.int .i64 (k : Int)) v5 (.slice ha nh hc) v7 (.slice (some ⟨b1, o1, none⟩) ns scv) v9 v11 v12 ns w ∧ mu14 ns a' w' < ns - j) Q) a' W' := by
      intro a' W' hf h14 aw'
      obtain ⟨u, hu, e⟩ := hf.lit
      have e14 := (hu 14).trans h14
      subst e
      rw [e14]
      have AW := hideIt aw'
      clear hf hu h14 e14 aw' hall hK hat hat2 aw hr
      conv => arg 2; whnf
      go_wp2_with fail
      refine ⟨⟨j + 1, by omega, ⟨rfl, rfl, rfl, rfl, rfl, rfl, rfl, rfl, rfl, rfl, rfl, rfl⟩, by show Value.int .i64 ((j : Int) + 1) = _; rw [Int.natCast_add]; rfl, AW.out⟩, ?_⟩
      show ns - (intOf (Value.int .i64 ((j : Int) + 1))).toNat < _
      simp [intOf]
      omega
    have body : ∀ a', F1 a' (.slice (some ⟨b, off, none⟩) n c) v3 (.int .i64 (k : Int)) v5 (.slice ha nh hc) v7 (.slice (some ⟨b1, o1, none⟩) ns scv) v9 v11 v12 → a'.tmps.getD 14 undef = .int .i64 (j : Int) → Code.wp Tryz.prog (.seq (.block 3 (o24 Tryz.f20)) (sq2 (sq2 (o22 Tryz.f20)))) (Exit.then (fun a' w' => R2 a' w' (.slice (some ⟨b, off, none⟩) n c) v3 (.int .i64 (k : Int)) v5 (.slice ha nh hc) v7 (.slice (some ⟨b1, o1, none⟩) ns scv) v9 v11 v12 ns w ∧ mu14 ns a' w' < ns - j) Q) a' W := by
      intro a' hf h14
      refine wp_seq ?_
      refine wp_block ?_
      rw [o24_eq]
      refine wp_seq ?_
      obtain ⟨u, hu, e⟩ := hf.lit
      have e14 := (hu 14).trans h14
      subst e
      rw [e14]
      have HB : Hid (∀ a2, F1 a2 (.slice (some ⟨b, off, none⟩) n c) v3 (.int .i64 (k : Int)) v5 (.slice ha nh hc) v7 (.slice (some ⟨b1, o1, none⟩) ns scv) v9 v11 v12 → a2.tmps.getD 14 undef = .int .i64 (j : Int) → a2.tmps.getD 15 undef = .bool false → Code.wp Tryz.prog (.seq (.seq (sq1 (sq1 (sq2 (o24 Tryz.f20)))) (.block 4 (.loop (o26 Tryz.f20)))) (sq2 (sq2 (o24 Tryz.f20)))) (Exit.inBlock 3 (Exit.then (fun a' w' => Code.wp Tryz.prog (sq2 (sq2 (o22 Tryz.f20))) (Exit.then (fun a' w' => R2 a' w' (.slice (some ⟨b, off, none⟩) n c) v3 (.int .i64 (k : Int)) v5 (.slice ha nh hc) v7 (.slice (some ⟨b1, o1, none⟩) ns scv) v9 v11 v12 ns w ∧ mu14 ns a' w' < ns - j) Q) a' w') (Exit.then (fun a' w' => R2 a' w' (.slice (some ⟨b, off, none⟩) n c) v3 (.int .i64 (k : Int)) v5 (.slice ha nh hc) v7 (.slice (some ⟨b1, o1, none⟩) ns scv) v9 v11 v12 ns w ∧ mu14 ns a' w' < ns - j) Q))) a2 W) := by
        intro a2 hf2 g14 g15
        refine wp_seq ?_
        refine part25 hf2 g14 g15 (hr.after aw) hat2.d0 hat2.l1 ij hnh ?_
        intro a3 W3 hf3 k14 k15 aw3
        rw [hany] at k15
        exact part29 hf3 k14 k15 hkn ij ij3 hbit (hat2.but aw3 (fun _ _ t => t)) (fun a4 W4 hf4 l14 aw4 => last a4 W4 hf4 l14 (aw.trans (aw3.trans aw4)))
      clear hf hu h14 e14 last hall hK hat hat2 aw hr
      generalize Code.seq (.seq (sq1 (sq1 (sq2 (o24 Tryz.f20)))) (.block 4 (.loop (o26 Tryz.f20)))) (sq2 (sq2 (o24 Tryz.f20))) = rest at *
      conv => arg 2; whnf
      go_wp2_with fail
      exact HB.out _ ⟨rfl, rfl, rfl, rfl, rfl, rfl, rfl, rfl, rfl, rfl, rfl, rfl⟩ rfl rfl
    have HB := hideIt body
    obtain ⟨u, hu, e⟩ := hf.lit
    have e14 := (hu 14).trans h14
    subst e
    rw [e14]
    clear hf hu h14 e14 last hall hK hat hat2 aw hr body
    generalize Code.seq (.block 3 (o24 Tryz.f20)) (sq2 (sq2 (o22 Tryz.f20))) = rest at *
    conv => arg 2; whnf
    go_wp2_with fail
    exact HB.out _ ⟨rfl, rfl, rfl, rfl, rfl, rfl, rfl, rfl, rfl, rfl, rfl, rfl⟩ rfl
  · obtain rfl : j = ns := by omega
    have ij : ¬ (j : Int) < (j : Int) := by omega
    have HK := hideIt hK
    have AW := hideIt aw
    obtain ⟨u, hu, e⟩ := hf.lit
    have e14 := (hu 14).trans h14
    subst e
    rw [e14]
    clear hf hu h14 e14 hall hK aw hr hjn
    generalize Code.seq (.block 3 (o24 Tryz.f20)) (sq2 (sq2 (o22 Tryz.f20))) = rest at *
    conv => arg 2; whnf
    go_wp2_with fail
    exact HK.out _ _ ⟨rfl, rfl, rfl, rfl, rfl, rfl, rfl, rfl, rfl, rfl, rfl, rfl⟩ AW.out
theorem part21 {Q : Exit → Act → World → Prop} {a : Act} {w : World} {v3 v5 v7 v9 v11 v12 : Value} {b off n c k : Nat} {ha sv ba : Option Addr} {nh hc ns scv n3 bc : Nat} {ob : List Ob} (hf : F1 a (.slice (some ⟨b, off, none⟩) n c) v3 (.int .i64 (k : Int)) v5 (.slice ha nh hc) v7 (.slice sv ns scv) v9 v11 v12) (hkn : (k : Int) < (n : Int)) (hr : RowT w ha nh (ob.map Ob.t3)) (hnh : nh ≤ 16) (hns : ns ≤ 64) (hall : AllJ w b off k sv ns ba n3 bc ob)
    (hK : ∀ a' W', F1 a' (.slice (some ⟨b, off, none⟩) n c) v3 (.int .i64 (k : Int)) v5 (.slice ha nh hc) v7 (.slice sv ns scv) v9 v11 v12 → After w W' → Q .normal a' W') :
    Code.wp Tryz.prog (sq1 (o21 Tryz.f20)) Q a w := by
  rw [p21_eq]
  refine wp_seq ?_
  have HB : Hid (∀ a2, F1 a2 (.slice (some ⟨b, off, none⟩) n c) v3 (.int .i64 (k : Int)) v5 (.slice ha nh hc) v7 (.slice sv ns scv) v9 v11 v12 → a2.tmps.getD 14 undef = .int .i64 0 → Code.wp Tryz.prog (.block 2 (.loop (o22 Tryz.f20))) Q a2 w) := by
    intro a2 hf2 h14
    refine wp_block ?_
    refine wp_loop (fun a W => R2 a W (.slice (some ⟨b, off, none⟩) n c) v3 (.int .i64 (k : Int)) v5 (.slice ha nh hc) v7 (.slice sv ns scv) v9 v11 v12 ns w) (mu14 ns) ⟨0, Nat.zero_le _, hf2, h14, After.rfl⟩ ?_
    intro a3 W3 hI
    exact round22 hI hkn hr hnh hns hall (fun a4 W4 h1 h2 => by
      show (if (2 : Nat) = 2 then Q .normal a4 W4 else Q (.exit 2) a4 W4)
      rw [if_pos rfl]
      exact hK a4 W4 h1 h2)
  obtain ⟨u, hu, e⟩ := hf.lit
  subst e
  clear hf hu hK hall hr
  generalize Code.block 2 (.loop (o22 Tryz.f20)) = rest at *
  conv => arg 2; whnf
  go_wp2_with fail
  exact HB.out _ ⟨rfl, rfl, rfl, rfl, rfl, rfl, rfl, rfl, rfl, rfl, rfl, rfl⟩ rfl
end Go.Proofs.YthcfdoafncbliaaGreat
/-
  AssocOrder: a message, handled and looked at.
-/
namespace Go.Proofs.YthcfdoafncbliaaGreat
open Go.RowKit Go.Maps
set_option maxRecDepth 8000
/-- All ways that a message is handled. -/
def Kinds (st : Mg) (M : Msg) (O : Out) : Prop :=
  (okB M = false ∧ O = ⟨st, none, [], 2⟩) ∨ (okB M = true ∧ (
    (O = abtF ∧ M.kind = 58880) ∨
    (O = ⟨st, some ⟨58112, 0, 1, 0⟩, [], 0⟩ ∧ st.state = 0 ∧ M.kind = 57856) ∨
    (∃ c, O = ⟨⟨1, c, []⟩, some ⟨58112, c, 3, 0⟩, [], 0⟩ ∧ st.state = 0 ∧ M.kind = 57856) ∨
    (∃ c l, O = ⟨⟨2, 0, l⟩, some ⟨3357, c, 0, 0⟩, [], 0⟩ ∧ st.state = 1 ∧ M.kind = 3356) ∨
    (∃ c, O = ⟨st, some ⟨3357, c, 1, 0⟩, [], 0⟩ ∧ st.state = 1 ∧ M.kind = 3356) ∨
    (O = ⟨st, none, M.obs.map smOf, 0⟩ ∧ st.state = 2 ∧ M.kind = 3358 ∧ ∀ o ∈ M.obs, hasO st.objs o = true) ∨
    (O = ⟨st, none, [], 70⟩ ∧ st.state = 2 ∧ M.kind = 3358 ∧ 0 < M.obs.length) ∨
    (∃ q, O = ⟨Mg.new, some ⟨58624, 0, 0, q⟩, [], 0⟩ ∧ st.state ≠ 0 ∧ M.kind = 58368) ∨
    O = brk))
theorem kinds (st : Mg) (M : Msg) : Kinds st M (handle st M) := by
  unfold Kinds handle
  cases hok : okB M
  · exact .inl ⟨rfl, rfl⟩
  · refine .inr ⟨rfl, ?_⟩
    rw [if_pos rfl]
    unfold handF
    by_cases h1 : M.kind = 58880
    · rw [if_pos h1]; exact .inl ⟨rfl, h1⟩
    rw [if_neg h1]
    by_cases h2 : M.kind = 57856 ∧ st.state = 0
    · rw [if_pos h2]
      unfold askF
      split
      · exact .inr (.inl ⟨rfl, h2.2, h2.1⟩)
      · exact .inr (.inr (.inl ⟨_, rfl, h2.2, h2.1⟩))
    rw [if_neg h2]
    by_cases h3 : M.kind = 3356 ∧ st.state = 1
    · rw [if_pos h3]
      unfold cfgF
      split
      · exact .inr (.inr (.inr (.inl ⟨_, _, rfl, h3.2, h3.1⟩)))
      · exact .inr (.inr (.inr (.inr (.inl ⟨_, rfl, h3.2, h3.1⟩))))
    rw [if_neg h3]
    by_cases h4 : M.kind = 3358 ∧ st.state = 2
    · rw [if_pos h4]
      unfold scanF
      split
      · rename_i ha
        exact .inr (.inr (.inr (.inr (.inr (.inl ⟨rfl, h4.2, h4.1, fun o ho => List.all_eq_true.1 ha o ho⟩)))))
      · rename_i ha
        refine .inr (.inr (.inr (.inr (.inr (.inr (.inl ⟨rfl, h4.2, h4.1, ?_⟩))))))
        cases hl : M.obs with
        | nil => rw [hl] at ha; exact absurd rfl ha
        | cons o r => simp
    rw [if_neg h4]
    by_cases h5 : M.kind = 58368 ∧ st.state ≠ 0
    · rw [if_pos h5]
      exact .inr (.inr (.inr (.inr (.inr (.inr (.inr (.inl ⟨_, rfl, h5.2, h5.1⟩)))))))
    rw [if_neg h5]
    exact .inr (.inr (.inr (.inr (.inr (.inr (.inr (.inr rfl)))))))
/-- What follows for the statement's looks. -/
structure Looks (st : Mg) (M : Msg) (O : Out) : Prop where
  er : O.er ≠ 2
  ups : Ups st.state O.st.state M.kind
  sm : O.sm.length = 0 ∨ (0 < O.sm.length ∧ st.state = 2 ∧ O.st.state = 2 ∧ M.obs.length = O.sm.length ∧ O.er = 0 ∧ O.sm = M.obs.map smOf ∧ ∀ o ∈ M.obs, hasO st.objs o = true)
  fin : ((∃ x, O.an = some x ∧ x.kind = 58880) ∧ O.er = 70 ∧ O.st.state = 0) ∨ ((¬ ∃ x, O.an = some x ∧ x.kind = 58880) ∧ O.er = 70 ∧ st.state = 2 ∧ M.kind = 3358 ∧ O.sm.length < M.obs.length) ∨ ((¬ ∃ x, O.an = some x ∧ x.kind = 58880) ∧ (O.er == 70) = false ∧ ¬ (st.state = 2 ∧ M.kind = 3358 ∧ O.sm.length < M.obs.length))
theorem looks {st : Mg} {M : Msg} (hs : st.state = 0 ∨ st.state = 1 ∨ st.state = 2) (hok : okB M = true) : Looks st M (handle st M) := by
  have hk := kinds st M
  generalize handle st M = O at *
  obtain ⟨s, cfg, ob⟩ := st
  dsimp only at *
  have none' : ∀ {k : Int} {x : An}, some x = (none : Option An) → x.kind = k → False := fun h _ => by cases h
  rcases hk with ⟨h, _⟩ | ⟨_, hk⟩
  · rw [hok] at h; cases h
  rcases hk with ⟨rfl, hkd⟩ | ⟨rfl, hs0, hkd⟩ | ⟨c, rfl, hs0, hkd⟩ | ⟨c, l, rfl, hs0, hkd⟩ | ⟨c, rfl, hs0, hkd⟩ | ⟨rfl, hs0, hkd, hall⟩ | ⟨rfl, hs0, hkd, hpos⟩ | ⟨q, rfl, hs0, hkd⟩ | rfl
  · refine ⟨by decide, ?_, .inl rfl, .inr (.inr ⟨(fun h => by obtain ⟨x, h, _⟩ := h; cases h), rfl, fun h => by rw [hkd] at h; exact absurd h.2.1 (by decide)⟩)⟩
    rcases hs with rfl | rfl | rfl
    · exact .inl ⟨rfl, .inl rfl⟩
    · exact .inr (.inl ⟨rfl, .inl rfl⟩)
    · exact .inr (.inl ⟨rfl, .inr rfl⟩)
  · dsimp only at hs0
    subst hs0
    exact ⟨by show (0 : Int) ≠ 2; decide, .inl ⟨rfl, .inl rfl⟩, .inl rfl, .inr (.inr ⟨fun h => by obtain ⟨x, h, h2⟩ := h; cases h; exact absurd (show (58112 : Int) = 58880 from h2) (by decide), rfl, fun h => absurd (show (0 : Int) = 2 from h.1) (by decide)⟩)⟩
  · dsimp only at hs0
    subst hs0
    exact ⟨by show (0 : Int) ≠ 2; decide, .inr (.inr (.inl ⟨rfl, rfl, hkd⟩)), .inl rfl, .inr (.inr ⟨fun h => by obtain ⟨x, h, h2⟩ := h; cases h; exact absurd (show (58112 : Int) = 58880 from h2) (by decide), rfl, fun h => absurd (show (0 : Int) = 2 from h.1) (by decide)⟩)⟩
  · dsimp only at hs0
    subst hs0
    exact ⟨by show (0 : Int) ≠ 2; decide, .inr (.inr (.inr ⟨rfl, rfl, hkd⟩)), .inl rfl, .inr (.inr ⟨fun h => by obtain ⟨x, h, h2⟩ := h; cases h; exact absurd (show (3357 : Int) = 58880 from h2) (by decide), rfl, fun h => absurd (show (1 : Int) = 2 from h.1) (by decide)⟩)⟩
  · dsimp only at hs0
    subst hs0
    exact ⟨by show (0 : Int) ≠ 2; decide, .inl ⟨rfl, .inr (.inl rfl)⟩, .inl rfl, .inr (.inr ⟨fun h => by obtain ⟨x, h, h2⟩ := h; cases h; exact absurd (show (3357 : Int) = 58880 from h2) (by decide), rfl, fun h => absurd (show (1 : Int) = 2 from h.1) (by decide)⟩)⟩
  · dsimp only at hs0 hall
    subst hs0
    refine ⟨by show (0 : Int) ≠ 2; decide, .inl ⟨rfl, .inr (.inr rfl)⟩, ?_, .inr (.inr ⟨(fun h => by obtain ⟨x, h, _⟩ := h; cases h), rfl, fun h => ?_⟩)⟩
    · rcases Nat.eq_zero_or_pos (M.obs.map smOf).length with h | h
      · exact .inl h
      · exact .inr ⟨h, rfl, rfl, (List.length_map _).symm, rfl, rfl, hall⟩
    · have := h.2.2
      dsimp only at this
      rw [List.length_map] at this
      omega
  · dsimp only at hs0
    subst hs0
    exact ⟨by show (70 : Int) ≠ 2; decide, .inl ⟨rfl, .inr (.inr rfl)⟩, .inl rfl, .inr (.inl ⟨(fun h => by obtain ⟨x, h, _⟩ := h; cases h), rfl, rfl, hkd, hpos⟩)⟩
  · dsimp only at hs0
    refine ⟨by show (0 : Int) ≠ 2; decide, ?_, .inl rfl, .inr (.inr ⟨fun h => by obtain ⟨x, h, h2⟩ := h; cases h; exact absurd (show (58624 : Int) = 58880 from h2) (by decide), rfl, fun h => by rw [hkd] at h; exact absurd h.2.1 (by decide)⟩)⟩
    rcases hs with rfl | rfl | rfl
    · exact absurd rfl hs0
    · exact .inr (.inl ⟨rfl, .inl rfl⟩)
    · exact .inr (.inl ⟨rfl, .inr rfl⟩)
  · refine ⟨by decide, ?_, .inl rfl, .inl ⟨⟨_, rfl, rfl⟩, rfl, rfl⟩⟩
    rcases hs with rfl | rfl | rfl
    · exact .inl ⟨rfl, .inl rfl⟩
    · exact .inr (.inl ⟨rfl, .inl rfl⟩)
    · exact .inr (.inl ⟨rfl, .inr rfl⟩)
end Go.Proofs.YthcfdoafncbliaaGreat
/-
  AssocOrder: what was answered, looked at from end to end; a message.
-/
namespace Go.Proofs.YthcfdoafncbliaaGreat
open Go.RowKit Go.Maps
set_option maxRecDepth 8000
theorem tail_bad {Q : Exit → Act → World → Prop} {a : Act} {w : World} {g : Nat} {st : Mg} (x : MgAt w All g st) {v0 v4 v6 : Value} {av sv : Option Addr} {cv scv : Nat} {f : Int} (hf : F1 a v0 (Ptr g) v4 (.int .i64 st.state) v6 (.slice av 0 cv) (.slice sv 0 scv) (.int .i64 2) (.int .i64 f) (.int .i64 st.state)) (hc : (f != 0) = true) (hK : ∀ a' W', F0 a' v0 (Ptr g) v4 → After w W' → Q (.exit 1) a' W') : Code.wp Tryz.prog (o11 Tryz.f20) Q a w := by
  rw [o11_eq]
  refine wp_seq ?_
  refine part11 x hf (.inl ⟨rfl, hc, rfl⟩) (Nat.zero_le _) ?_
  intro a1 w1 h1 aw1
  show Code.wp Tryz.prog (o13 Tryz.f20) Q a1 w1
  rw [o13_eq]
  refine wp_seq ?_
  refine part13_bad h1 ?_
  intro a2 h2
  exact hK a2 w1 h2 aw1
theorem tail_ok {Q : Exit → Act → World → Prop} {a : Act} {w : World} {g : Nat} {st : Mg} {M : Msg} {O : Out} (x : MgAt w All g O.st) {b off n c k : Nat} {ha av sv ba : Option Addr} {nh hc cv scv bc : Nat} (hf : F1 a (.slice (some ⟨b, off, none⟩) n c) (Ptr g) (.int .i64 (k : Int)) (.int .i64 st.state) (.slice ha nh hc) (.slice av O.an.toList.length cv) (.slice sv O.sm.length scv) (.int .i64 O.er) (.int .i64 0) (.int .i64 O.st.state))
    (L : Looks st M O) (hkn : (k : Int) < (n : Int)) (hb : b < w.heap.size) (hz0 : w.cell? ⟨b, off + k * 7, none⟩ = some (.int .i64 M.kind)) (hz6 : w.cell? ⟨b, off + k * 7 + 6, none⟩ = some (.slice ba M.obs.length bc)) (hr : RowT w ha nh (st.objs.map Ob.t3)) (hnh : nh ≤ 16) (hns : O.sm.length ≤ 64) (rsm : RowQ w sv O.sm) (robs : RowT w ba M.obs.length (M.obs.map Bi.t3)) (hbit : ∀ o ∈ M.obs, 0 ≤ o.b ∧ o.b < 4294967296)
    (han : ∀ x, O.an = some x → ∃ b, av = some ⟨b, 0, none⟩ ∧ w.heap[b]? = some (.cells #[.int .i64 x.kind, .slice none 0 0, .int .i64 x.config, .int .i64 x.result, .int .i64 x.reason, .slice none 0 0, .slice none 0 0] 31 (0, 0)))
    (hK : ∀ a' W', F0 a' (.slice (some ⟨b, off, none⟩) n c) (Ptr g) (.int .i64 (k : Int)) → After w W' → Q .normal a' W') : Code.wp Tryz.prog (o11 Tryz.f20) Q a w := by
  have her : (O.er == 2) = false := by simpa using L.er
  rw [o11_eq]
  refine wp_seq ?_
  refine part11 x hf (.inr ⟨her, rfl⟩) (an_le _) ?_
  intro a1 w1 h1 aw1
  show Code.wp Tryz.prog (o13 Tryz.f20) Q a1 w1
  have hb1 : b < w1.heap.size := Nat.lt_of_lt_of_le hb aw1.size
  rw [← aw1.cell hb] at hz0 hz6
  rw [o13_eq]
  refine wp_seq ?_
  refine part13_ok h1 her ?_
  intro a2 h2
  show Code.wp Tryz.prog (o16 Tryz.f20) Q a2 w1
  rw [o16_eq]
  refine wp_seq ?_
  refine part16 h2 L.ups hkn hz0 hb1 ?_
  rintro a3 h3 ⟨up, h13, hup⟩
  show Code.wp Tryz.prog (o17 Tryz.f20) Q a3 w1
  rw [o17_eq]
  refine wp_seq ?_
  refine part17 h3 h13 hup ?_
  intro a4 h4
  show Code.wp Tryz.prog (o19 Tryz.f20) Q a4 w1
  rw [o19_eq]
  refine wp_seq ?_
  refine part19 h4 hkn hz6 hb1 (L.sm.imp id (fun h => ⟨h.1, h.2.1, h.2.2.1, h.2.2.2.1, h.2.2.2.2.1⟩)) ?_
  intro a5 h5
  show Code.wp Tryz.prog (o21 Tryz.f20) Q a5 w1
  rw [o21_eq]
  refine wp_seq ?_
  have hall : AllJ w1 b off k sv O.sm.length ba M.obs.length bc st.objs := by
    intro j hj
    rcases L.sm with h | ⟨_, _, _, hlen, _, hsm, hhas⟩
    · omega
    · have hoj : M.obs[j]? = some M.obs[j] := List.getElem?_eq_getElem (by omega)
      generalize M.obs[j] = o at hoj
      have hmem := List.mem_of_getElem? hoj
      have hsj : O.sm[j]? = some (smOf o) := by rw [hsm, List.getElem?_map, hoj]; rfl
      obtain ⟨b1, o1, e1, l1, d0, d1, d2, d3⟩ := (rsm.but aw1 (fun _ _ t => t)) j (smOf o) hsj
      obtain ⟨b2, o2, zt, e2, l2, hzt, f0, f1, f2⟩ := (robs.after aw1).2 j (by omega)
      have ezt : zt = o.t3 := by
        rw [List.getElem?_map, hoj] at hzt
        exact (Option.some.inj hzt).symm
      subst ezt
      have ehh : (smOf o).h = o.h := by unfold smOf; split <;> rfl
      rw [ehh] at d0
      subst e1 e2
      exact ⟨b1, o1, b2, o2, o, rfl, rfl, by omega, hbit o hmem, hhas o hmem, hz6, d0, d1, d2, d3, f0, f1, f2, hb1, l1, l2⟩
  refine part21 h5 hkn (hr.after aw1) hnh hns hall ?_
  intro a6 w6 h6 aw6
  show Code.wp Tryz.prog (o34 Tryz.f20) Q a6 w6
  rw [o34_eq]
  refine wp_seq ?_
  rw [← aw6.cell hb1] at hz0 hz6
  have hb6 : b < w6.heap.size := Nat.lt_of_lt_of_le hb1 aw6.size
  refine part34 h6 (fun x hx => by obtain ⟨b, e, hc⟩ := han x hx; exact ⟨b, e, keep3 hc (aw1.trans aw6)⟩) ?_
  intro a7 br h7 h18 hbr
  show Code.wp Tryz.prog (sq2 (o34 Tryz.f20)) Q a7 w6
  refine part35 h7 h18 hkn hz0 hz6 hb6 ?_ ?_
  · rcases L.fin with ⟨h1, h2, h3⟩ | ⟨h1, h2⟩ | ⟨h1, h2⟩
    · exact .inl ⟨hbr.2 h1, h2, h3⟩
    · refine .inr (.inl ⟨?_, h2⟩)
      cases br
      · rfl
      · exact absurd (hbr.1 rfl) h1
    · refine .inr (.inr ⟨?_, h2⟩)
      cases br
      · rfl
      · exact absurd (hbr.1 rfl) h1
  · intro a8 h8
    exact hK a8 w6 h8 (aw1.trans aw6)
set_option maxHeartbeats 2000000 in
/-- A message, handled and looked at. -/
theorem mess {Q : Exit → Act → World → Prop} {a : Act} {w0 w : World} {g : Nat} {st : Mg} {M : Msg} (x : MgAt w All g st) (hg : w0.heap.size ≤ g) (aw0 : After w0 w) {b off n c k : Nat} {sa oa ba : Option Addr} {sc oc bc : Nat} (hf : F0 a (.slice (some ⟨b, off, none⟩) n c) (Ptr g) (.int .i64 (k : Int))) (hkn : (k : Int) < (n : Int)) (hb : Low w0.heap.size b)
    (hcs : w.cell? ⟨b, off + k * 7, none⟩ = some (.int .i64 M.kind) ∧ w.cell? ⟨b, off + k * 7 + 1, none⟩ = some (.slice sa M.sys.length sc) ∧ w.cell? ⟨b, off + k * 7 + 2, none⟩ = some (.int .i64 M.config) ∧ w.cell? ⟨b, off + k * 7 + 3, none⟩ = some (.int .i64 M.result) ∧ w.cell? ⟨b, off + k * 7 + 4, none⟩ = some (.int .i64 M.reason) ∧ w.cell? ⟨b, off + k * 7 + 5, none⟩ = some (.slice oa M.objs.length oc) ∧ w.cell? ⟨b, off + k * 7 + 6, none⟩ = some (.slice ba M.obs.length bc)) (y : MsgX w (Low w0.heap.size) M sa sc oa oc ba bc)
    (hK : ∀ a' W', F0 a' (.slice (some ⟨b, off, none⟩) n c) (Ptr g) (.int .i64 (k : Int)) → MgAt W' All g (handle st M).st → After w0 W' → Q .normal a' W') (hC : ∀ a' W', F0 a' (.slice (some ⟨b, off, none⟩) n c) (Ptr g) (.int .i64 (k : Int)) → MgAt W' All g (handle st M).st → After w0 W' → Q (.exit 1) a' W') : Code.wp Tryz.prog (o7 Tryz.f20) Q a w := by
  have hsv : st.state = 0 ∨ st.state = 1 ∨ st.state = 2 := by obtain ⟨_, _, _, xx⟩ := x; exact xx.sv
  have hol : st.objs.length ≤ 16 := by obtain ⟨_, _, _, xx⟩ := x; exact xx.ol
  have hgl : g < w.heap.size := by obtain ⟨_, _, _, xx⟩ := x; exact xx.lt
  have hsm := handle_sm (st := st) y.bb
  have hbw : b < w.heap.size := Nat.lt_of_lt_of_le hb aw0.size
  rw [o7_eq, o8_eq, o9_eq, o10_eq]
  obtain ⟨u, e⟩ := hf.lit
  subst e
  have HS1 := hideIt (mgState_any x)
  have HO1 := hideIt (mgObjs_any x)
  have HX := hideIt (And.intro x (And.intro aw0 (And.intro hcs (And.intro y (And.intro hb (And.intro hK hC))))))
  have HV := hideIt (show M.val sa sc oa oc ba bc = .agg #[.int .i64 M.kind, .slice sa M.sys.length sc, .int .i64 M.config, .int .i64 M.result, .int .i64 M.reason, .slice oa M.objs.length oc, .slice ba M.obs.length bc] from rfl)
  clear hf x aw0 hcs y hK hC
  generalize hrest : (o11 Tryz.f20) = rest
  refine wp_seq ?_
  conv => arg 2; whnf
  go_wp2_with fail
  refine HS1.out.mono ?_
  rintro e w' ⟨rfl, hw'⟩
  rw [hw']
  clear hw'
  go_wp2_with fail
  refine HO1.out.mono ?_
  rintro e w2 ⟨had, rfl, hhad, a2⟩
  obtain ⟨ha, hc, rfl, rhad, _, hhb⟩ := own_rowT hhad
  go_wp2_with fail
  conv => arg 2; whnf
  obtain ⟨x, aw0, ⟨q0, q1, q2, q3, q4, q5, q6⟩, y, hb, hK, hC⟩ := HX.out
  have z0 := q0
  have z1 := q1
  have z2 := q2
  have z3 := q3
  have z4 := q4
  have z5 := q5
  have z6 := q6
  rw [← a2.cell hbw] at z0 z1 z2 z3 z4 z5 z6
  have hb2 : b < w2.heap.size := Nat.lt_of_lt_of_le hbw a2.size
  have H1 := hideIt (handle_any (x.after a2) M sa sc oa oc ba bc (y.after a2) (fun h => by unfold Low at h; omega) (fun k h => by unfold Low at h; have := aw0.size; have := a2.size; omega))
  rw [HV.out] at H1
  have HKD := hideIt (show okB M = true → Looks st M (handle st M) from fun h => looks hsv h)
  have HBD : Hid (okB M = false → handle st M = ⟨st, none, [], 2⟩) := fun h => by
    unfold handle
    rw [h]
    rfl
  have HP := hideIt (fun W (yy : MsgX W (Low w0.heap.size) M sa sc oa oc ba bc) hl => pack_any W (Low w0.heap.size) M sa sc oa oc ba bc yy hl)
  rw [HV.out] at HP
  have HOB : Hid ((okB M = true → ∃ zs, packAll M = .ok ((), zs)) ∧ (okB M = false → ∃ c, packAll M = .error c)) := by
    unfold okB
    cases packAll M with
    | ok x => exact ⟨fun _ => ⟨x.2, rfl⟩, fun h => by cases h⟩
    | error c => exact ⟨(fun h => by cases h), fun _ => ⟨c, rfl⟩⟩
  have HY := hideIt (And.intro (aw0.trans a2) (And.intro (y.after a2) (And.intro rhad hhb)))
  clear HS1 HO1 hhad a2 x aw0 q0 q1 q2 q3 q4 q5 q6 y rhad hhb HV hbw
  generalize handle st M = O at *
  generalize hnh : st.objs.length = nh at *
  go_wp2_with fail
  refine H1.out.mono ?_
  rintro e w3 ⟨⟨v1, v2, rfl, hv1, hv2⟩, x3, b3⟩
  obtain ⟨aw2, y2, rhad, hhb⟩ := HY.out
  have hbg : ¬ One g b := fun e => by cases e; unfold Low at hb; omega
  rw [← b3.cell hb2 hbg] at z0 z1 z2 z3 z4 z5 z6
  have hb3 : b < w3.heap.size := Nat.lt_of_lt_of_le hb2 b3.size
  have y3 := y2.but b3 (low_but hg)
  have aw3 : After w0 w3 := aw2.but.then b3 (fun i hi e => by cases e; omega)
  have rh3 : RowT w3 ha nh (st.objs.map Ob.t3) := rhad.but b3 (fun z hz h0 e => by have := hhb z hz; have e' : z.block = g := e; omega)
  have H2 := hideIt (HP.out w3 y3 (fun k h => by unfold Low at h; have := aw3.size; omega))
  obtain ⟨av, cv, rfl, kan⟩ := ans_gen hv1
  obtain ⟨sv, scv, rfl, rsm, _, _⟩ := hv2
  have x3' := x3.mono (T := All) (fun _ _ => trivial)
  have HX3 := hideIt (And.intro x3' (And.intro aw3 (And.intro rh3 (And.intro rsm (And.intro kan y3)))))
  have HS3 := hideIt (fun W (aW : After w3 W) => mgState_any (x3'.after aW))
  clear H1 x3 x3' b3 aw2 y2 rhad hhb hbg y3 aw3 rh3 hv1 kan rsm HY HP hb2
  go_wp2_with fail
  conv => arg 2; whnf
  go_wp2_with fail
  refine H2.out.mono ?_
  clear H2
  rintro e w4 ⟨a4, hE⟩
  have HS4 := hideIt (HS3.out w4 a4)
  have HA4 := hideIt a4
  have hb4 : b < w4.heap.size := Nat.lt_of_lt_of_le hb3 a4.size
  rw [← a4.cell hb3] at z0 z6
  have HZ := hideIt (And.intro z0 (And.intro z6 hb4))
  clear a4 HS3 z0 z1 z2 z3 z4 z5 z6 hb3 hb4
  cases hok : okB M with
  | false =>
    obtain ⟨c9, hp9⟩ := HOB.out.2 hok
    have hO := HBD.out hok
    subst hO
    rw [hp9] at hE
    obtain ⟨rfl, hc9⟩ := hE
    have hcb : (c9 != 0) = true := by rcases hc9 with rfl | rfl <;> rfl
    clear HOB HBD HKD hok hp9 hc9
    dsimp only [Option.toList_none, List.length_nil] at *
    go_wp2_with fail
    conv => arg 2; whnf
    go_wp2_with fail
    refine HS4.out.mono ?_
    rintro e w' ⟨rfl, hw'⟩
    rw [hw']
    clear hw' HS4
    go_wp2_with fail
    rw [← hrest]
    refine tail_bad (HX3.out.1.after HA4.out) ⟨rfl, rfl, rfl, rfl, rfl, rfl, rfl, rfl, rfl, rfl, rfl, rfl⟩ hcb ?_
    intro a5 w5 h5 aw5
    exact hC a5 w5 h5 (HX3.out.1.after (HA4.out.trans aw5)) (HX3.out.2.1.trans (HA4.out.trans aw5))
  | true =>
    obtain ⟨zs, hp9⟩ := HOB.out.1 hok
    rw [hp9] at hE
    obtain ⟨_, _, pa, pc, rfl, _⟩ := hE
    have L := HKD.out hok
    have HL := hideIt L
    clear HOB HBD HKD hok hp9 L
    generalize zs.length = nz at *
    have HN := hideIt hnh
    clear hnh
    go_wp2_with fail
    conv => arg 2; whnf
    go_wp2_with fail
    refine HS4.out.mono ?_
    rintro e w' ⟨rfl, hw'⟩
    rw [hw']
    clear hw' HS4
    go_wp2_with fail
    rw [← hrest]
    obtain ⟨x3, aw3, rh3, rsm, kan, y3⟩ := HX3.out
    obtain ⟨z0, z6, hb4⟩ := HZ.out
    have a4 := HA4.out
    refine tail_ok (st := st) (M := M) (O := O) (ha := ha) (nh := nh) (ba := ba) (bc := bc) (x3.after a4) ⟨rfl, rfl, rfl, rfl, rfl, rfl, rfl, rfl, rfl, rfl, rfl, rfl⟩ HL.out hkn hb4 z0 z6 (rh3.after a4) (by have := HN.out; omega) hsm (rsm.but a4 (fun _ _ t => t)) (y3.after a4).br y3.bb (fun x hx => by obtain ⟨b, e, _, hc⟩ := kan x hx; exact ⟨b, e, keep3 hc a4⟩) ?_
    intro a5 w5 h5 aw5
    exact hK a5 w5 h5 (x3.after (a4.trans aw5)) (aw3.trans (a4.trans aw5))
end Go.Proofs.YthcfdoafncbliaaGreat
