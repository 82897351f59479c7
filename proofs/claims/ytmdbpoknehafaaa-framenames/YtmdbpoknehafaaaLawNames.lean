/-
  FrameNames, walked.
-/
import Derived.Test.YtmdbpoknehafaaaLawFeeds
import Derived.Test.YtmdbpoknehafaaaLawBack
import Derived.Test.YtmdbpoknehafaaaNamesT
namespace Go.Proofs.Ytmdbpoknehafaaa
open Go.RowKit
theorem feed_nil (w : World) (v : Value) : Calls Try.prog 12 #[.pointer none, v] w fun e w' => e = .returned (.tuple #[.slice none 0 0, .int .i64 0, .int .i64 1]) ∧ w' = w := by
  go_enter Try.func12, Try.ntmps12
  go_wp2_with fail
  go_step3
  go_wp2_with (go_at_call 23; refine (isNone_nil _).mono ?_; rintro e w' ⟨rfl, rfl⟩)
  rw [Exit.noGoto_ret]
  go_ret3
  exact ⟨rfl, rfl⟩
theorem feed_zero {w : World} {g : Nat} {T : TypeId} {y : Value} (v : Value) (h : w.heap[g]? = some (.cells #[.bool false, y] T (0, 0))) : Calls Try.prog 12 #[Ptr g, v] w fun e w' => e = .returned (.tuple #[.slice none 0 0, .int .i64 0, .int .i64 1]) ∧ w' = w := by
  have HN := hideIt (isNone_zero h)
  clear h
  go_enter Try.func12, Try.ntmps12
  go_wp2_with fail
  go_step3
  go_wp2_with (go_at_call 23; refine HN.out.mono ?_; rintro e w' ⟨rfl, rfl⟩)
  rw [Exit.noGoto_ret]
  go_ret3
  exact ⟨rfl, rfl⟩
theorem pending_nil (w : World) : Calls Try.prog 15 #[.pointer none] w fun e w' => e = .returned (.int .i64 0) ∧ w' = w := by
  go_enter Try.func15, Try.ntmps15
  go_wp2_with (go_at_call 23; refine (isNone_nil _).mono ?_; rintro e w' ⟨rfl, rfl⟩)
  go_ret
  exact ⟨rfl, rfl⟩
theorem pending_zero {w : World} {g : Nat} {T : TypeId} {y : Value} (h : w.heap[g]? = some (.cells #[.bool false, y] T (0, 0))) : Calls Try.prog 15 #[Ptr g] w fun e w' => e = .returned (.int .i64 0) ∧ w' = w := by
  have HN := hideIt (isNone_zero h)
  clear h
  go_enter Try.func15, Try.ntmps15
  go_wp2_with (go_at_call 23; refine HN.out.mono ?_; rintro e w' ⟨rfl, rfl⟩)
  go_ret
  exact ⟨rfl, rfl⟩
theorem alloc_at {W : World} {o : Obj} {k : Nat} (h : W.heap.size = k) : (W.alloc o).heap[k]? = some o := by rw [← h]; exact heap_alloc_new W o
theorem lit_row_at {w : World} {k : Nat} (hk : w.heap.size = k) (zs : List Int) (cs : Array Value) (n : Nat) (hc : cs.toList = u8s zs) (hn : zs.length = n) (hb : Bs zs) : Row (w.alloc (.cells cs 5)) (some ⟨k, 0, none⟩) n zs := by
  subst hk; exact lit_row w zs cs n hc hn hb
theorem xor_one (x : Nat) (h : x < 256) : 0 ≤ bits .xor .u8 (x : Int) 1 ∧ bits .xor .u8 (x : Int) 1 ≤ 255 := by
  have e : bits .xor .u8 (x : Int) ((1 : Nat) : Int) = ((x ^^^ 1 : Nat) : Int) := u8_xor_nat x 1 h (by decide)
  have e2 : ((1 : Nat) : Int) = 1 := rfl
  rw [e2] at e
  have := u8_x8 h (show 1 < 256 by decide)
  rw [e]; omega
theorem make_256 (W : World) : (Instr.makeSlice 27 (.int .i64 256) (.int .i64 256)).run Try.prog W = .ok (.slice (some ⟨W.heap.size, 0, none⟩) 256 256) (W.alloc (.cells (mc 256) 5)) := make_run 256 (by decide) W
theorem make_257 (W : World) : (Instr.makeSlice 27 (.int .i64 257) (.int .i64 257)).run Try.prog W = .ok (.slice (some ⟨W.heap.size, 0, none⟩) 257 257) (W.alloc (.cells (mc 257) 5)) := make_run 257 (by decide) W
theorem make_400 (W : World) : (Instr.makeSlice 27 (.int .i64 400) (.int .i64 400)).run Try.prog W = .ok (.slice (some ⟨W.heap.size, 0, none⟩) 400 400) (W.alloc (.cells (mc 400) 5)) := make_run 400 (by decide) W
/-- What each slot holds behind its operation. -/
def TL (W7 bad LG TW : List Int) : List Kd := [kT, kT, kT, kT, kN 0, kT, kT, kT, kR LG, kN 261, kT, kT, kT, kT, kT, kT, kR (nils 257), kT, kT, kT, kR (nils 256), kT, kT, kT, kR W7, kR [0, 1], kR [126, 0], kR [0], kR [126], kR W7, kR bad, kR W7, kL [W7, [0, 1], [126, 0], [0], [126], W7, bad, W7], kT, kT, kT, kR TW, kR ((TW.drop 0).take (260 - 0)), kR TW, kR ((TW.drop 260).take (300 - 260)), kR TW, kR ((TW.drop 300).take (522 - 300)), kL [(TW.drop 0).take (260 - 0), (TW.drop 260).take (300 - 260), (TW.drop 300).take (522 - 300)], kT, kT, kT, kR [126, 1, 0], kR [126, 1, 1], kR (nils 400), kL [[126, 1, 0], [126, 1, 1], [], nils 400], kT, kT, kT, kR TW, kR ((TW.drop 0).take (520 - 0)), kL [(TW.drop 0).take (520 - 0)], kT, kT, kT, kR [7], kR (nils 256), kR (nils 257), kL [[7], [], nils 256, nils 257], kR [1, 126, 2], kT, kT, kT]
/-- What the slots ahead hold. -/
def BB (W0 : World) (W7 bad LG TW : List Int) (a : Act) (w : World) : Prop := RowB w (a.tmps.getD 6 undef) W7 ∧ RowB w (a.tmps.getD 8 undef) bad ∧ RowB w (a.tmps.getD 9 undef) LG ∧ a.tmps.getD 10 undef = .int .i64 0 ∧ RowB w (a.tmps.getD 11 undef) TW ∧ After W0 w ∧ a.defers = []
theorem BB.put {W0 : World} {W7 bad LG TW : List Int} (a : Act) (w : World) (k : Nat) (v : Value) (w' : World) (ha : a.tmps.size = 129) (h : BB W0 W7 bad LG TW a w) (hk : k < 67) (hA : After w w') : BB W0 W7 bad LG TW (a.put (some (DD k)) v) w' := by
  have hd : DD k < a.tmps.size := by rw [ha]; unfold DD; split <;> omega
  have hne : ∀ e, e = 6 ∨ e = 8 ∨ e = 9 ∨ e = 10 ∨ e = 11 → e ≠ DD k := fun e he => by unfold DD; split <;> omega
  obtain ⟨h1, h2, h3, h4, h5, h6, h7⟩ := h
  unfold BB
  rw [getD_put hd, if_neg (hne 6 (by omega)), getD_put hd, if_neg (hne 8 (by omega)), getD_put hd, if_neg (hne 9 (by omega)), getD_put hd, if_neg (hne 10 (by omega)), getD_put hd, if_neg (hne 11 (by omega))]
  exact ⟨h1.after hA, h2.after hA, h3.after hA, h4, h5.after hA, h6.trans hA, h7⟩
theorem nil_b {w : World} : RowB w (.slice none 0 0) [] := ⟨none, 0, rfl, Row.nil _ _, fun _ => ⟨rfl, rfl⟩, Nat.le_refl _, by simp⟩
theorem map0 (f : Operand → Value) : (#[] : Array Operand).map f = #[] := by simp
theorem map1 (f : Operand → Value) (x : Operand) : #[x].map f = #[f x] := by simp
theorem map2 (f : Operand → Value) (x y : Operand) : #[x, y].map f = #[f x, f y] := by simp
theorem call_wraps {w : World} {v : Value} {z : List Int} (h : RowB w v z) : Calls Try.prog 4 #[v] w fun e w' => e = .returned (.bool true) ∧ After w w' := by
  obtain ⟨a, c, rfl, r, hn, _, hl⟩ := h
  exact wraps_walk a _ c z w r hn hl
theorem call_feeds {w : World} {v : Value} {fs : List (List Int)} (h : LstB w v fs) (hm : ∀ f ∈ fs, f.length ≤ 1048576) (m : Nat) (hn : fs.length = m) (hm2 : m ≤ 1000) : Calls Try.prog 3 #[v] w fun e w' => e = .returned (.bool true) ∧ After w w' := by
  obtain ⟨a, c, rfl, l⟩ := h
  exact feeds_walk a _ c fs w l hm (by omega)
theorem call_counts {w : World} {v : Value} {fs : List (List Int)} (h : LstB w v fs) (hm : ∀ f ∈ fs, f.length ≤ 1048576) (m : Nat) (hn : fs.length = m) (hm2 : m ≤ 1000) : Calls Try.prog 6 #[v] w fun e w' => e = .returned (.bool true) ∧ After w w' := by
  obtain ⟨a, c, rfl, l⟩ := h
  exact counts_walk a _ c fs w l hm (by omega)
theorem call_back {w : World} {v u : Value} {fs : List (List Int)} {z : List Int} (h : LstB w v fs) (k : RowB w u z) (m : Nat) (hn : fs.length = m) (hm : m ≤ 1000) (m' : Nat) (hz : z.length = m') (hm' : m' ≤ 1000) : Calls Try.prog 7 #[v, u] w fun e w' => e = .returned (.bool true) ∧ After w w' := by
  obtain ⟨a, c, rfl, l⟩ := h
  obtain ⟨a', c', rfl, r, hn', _, _⟩ := k
  exact back_walk a _ c fs a' _ c' z w l (by omega) r hn' (by omega)
set_option maxRecDepth 100000 in
set_option maxHeartbeats 4000000 in
theorem names_walk (w : World) : Calls Try.prog 8 #[] w fun e w' => e = .returned (.bool true) ∧ After w w' := by
  have m256 := make_256
  have m257 := make_257
  have m400 := make_400
  go_enter Try.func8, Try.ntmps8
  go_wp2_with fail
  go_loopw [1, 2] (fun p i W => After w W ∧ ((i = .int .i64 0 ∧ p = .pointer none) ∨ (i = .int .i64 1 ∧ ∃ g y, p = Ptr g ∧ W.heap[g]? = some (.cells #[.bool false, y] 45 (0, 0))) ∨ (i = .int .i64 2 ∧ ∃ g, p = Ptr g))) (fun _ i _ => 2 - (intOf i).toNat)
  case atStart => exact ⟨After.rfl, .inl ⟨rfl, rfl⟩⟩
  case round =>
    obtain ⟨hA, ⟨rfl, rfl⟩ | ⟨rfl, g, y, rfl, hg⟩ | ⟨rfl, g, rfl⟩⟩ := hrel
    · have HA := hideIt hA
      clear hA
      go_wp2_with fail
      refine (feed_nil _ _).mono ?_
      rintro e w1 ⟨rfl, rfl⟩
      go_wp2_with fail
      refine (pending_nil _).mono ?_
      rintro e w2 ⟨rfl, rfl⟩
      go_wp2
      go_roundw
      case rel => exact ⟨(HA.out.alloc _).alloc _, .inr (.inl ⟨rfl, _, _, rfl, alloc_at (by simp)⟩)⟩
      case measure => simp [intOf]
    · have HA := hideIt hA
      have HG := hideIt hg
      have hgl := (two_at hg).1
      have HG1 := hideIt (show (wr.alloc (.cells #[.int .u8 1] 5)).heap[g]? = some (.cells #[.bool false, y] 45 (0, 0)) by rw [Below.heap_alloc _ _ _ hgl]; exact hg)
      clear hA hg
      go_wp2_with fail
      refine (feed_zero _ HG1.out).mono ?_
      rintro e w1 ⟨rfl, rfl⟩
      go_wp2_with fail
      refine (pending_zero HG1.out).mono ?_
      rintro e w2 ⟨rfl, rfl⟩
      go_wp2
      go_roundw
      case rel => exact ⟨(HA.out.alloc _).alloc _, .inr (.inr ⟨rfl, _, rfl⟩)⟩
      case measure => simp [intOf]
    · have HA := hideIt hA
      clear hA
      go_wp2_with fail
      refine (wrap_any _ 1 1 [7] _ (lit_row wr _ _ 1 rfl rfl (bs_of _ (by decide))) (fun e => by cases e) (by decide)).mono ?_
      rintro e w1 ⟨v, rfl, o1, a1⟩
      rw [wrap7] at o1
      rw [show wErr [7] = 0 from by decide]
      obtain ⟨gw, cw, rfl, r1, lw, bw, sw⟩ := own_some o1 (bs_of _ (by decide)) (by decide)
      rw [show ([126, 0, 1, 7, 143, 74] : List Int).length = 6 from rfl] at r1 lw ⊢
      have HC := hideIt (copy_any _ 6 cw _ w1 r1 (fun e => by cases e) (by decide))
      have R1 := hideIt r1
      have A1 := hideIt ((HA.out.alloc _).trans a1)
      clear r1 o1 a1 bw HA
      go_wp2_with fail
      refine HC.out.mono ?_
      rintro e w2 ⟨v2, rfl, o2, a2⟩
      obtain ⟨p2, c2, rfl⟩ := own_slice o2
      obtain ⟨gb, x, rfl, k1, lx, k2, k3, k4, hnext⟩ := own_round (k := 5) o2 (bs_of _ (by decide)) (by decide)
      obtain ⟨bad, ob, bb, b2⟩ := hnext _ (xor_one x lx)
      have R2 := hideIt (Row.but (R1.out.after a2) b2 (fun y hy t => by cases hy; have t2 : gw = gb := t; omega))
      have A2 := hideIt ((A1.out.trans a2).then b2 (fun i hi t => by have t2 : i = gb := t; have := A1.out.size; omega))
      have OB := hideIt ob
      have HBB := hideIt bb
      clear o2 hnext HC R1 A1 a2 ob bb b2 sw k3 k4
      obtain ⟨w3, hw3⟩ : ∃ w3, w3 = w2.setCell ⟨gb, 5, none⟩ (.int .u8 (bits .xor .u8 (x : Int) 1)) := ⟨_, rfl⟩
      rw [← hw3] at R2 A2 OB
      go_wp2_with fail
      rw [← hw3]
      have hs3 : w3.heap.size = w2.heap.size := by rw [hw3]; simp [World.setCell]
      obtain ⟨LG, hLG⟩ : ∃ LG, LG = wrapOf (nils 256) := ⟨_, rfl⟩
      have hLL : LG.length = 261 := by rw [hLG, wrap_length, nils_length]
      have hwn : wNew (nils 256) = LG := by rw [hLG]; unfold wNew; rw [if_pos (by rw [nils_length]; decide)]
      have hwe : wErr (nils 256) = 0 := (wErr_zero _).2 (by rw [nils_length]; decide)
      have hnb : Bs (nils 256) := fun z hz => by rw [List.eq_of_mem_replicate hz]; omega
      have hLB : Bs LG := by rw [hLG]; exact wrap_bs hnb (by rw [nils_length]; decide)
      refine (wrap_any (some ⟨w2.heap.size, 0, none⟩) 256 256 (nils 256) _ (mc_row (alloc_at hs3)) (fun e => by cases e) (by decide)).mono ?_
      rintro e w4 ⟨v4, rfl, o4, a4⟩
      rw [hwn, hLL] at o4
      rw [hwe]
      obtain ⟨gl, cl, rfl, r4, ll4, _, _⟩ := own_some o4 hLB (by decide)
      have R4 := hideIt (R2.out.after ((After.rfl.alloc _).trans a4))
      have RL4 := hideIt r4
      have OB4 := hideIt (own_after OB.out ((After.rfl.alloc _).trans a4))
      have A4 := hideIt (A2.out.trans ((After.rfl.alloc _).trans a4))
      have HCL := hideIt (copy_any _ 261 cl LG w4 r4 (fun e => by cases e) (by decide))
      have HLB := hideIt hLB
      have HLL := hideIt hLL
      have LL4 := hideIt ll4
      have GLB := hideIt (show gl < w4.heap.size by
        obtain ⟨b', off', e', h', _⟩ := r4.2.2 0 (by decide)
        cases e'; exact h')
      clear o4 r4 a4 ll4 hwn hwe hnb hLB hLL hLG hs3 hw3 R2 OB A2 k1 k2
      go_wp2_with fail
      refine HCL.out.mono ?_
      rintro e w5 ⟨v5, rfl, o5, a5⟩
      have R5 := hideIt (R4.out.after a5)
      have RL5 := hideIt (RL4.out.after a5)
      have OB5 := hideIt (own_after OB4.out a5)
      have A5 := hideIt (A4.out.trans a5)
      have O5 := hideIt o5
      have S5 := hideIt a5.size
      obtain ⟨p5, c5, rfl⟩ := own_slice o5
      have H5W : Hid (∀ k, (.slice p5 261 c5 : Value).ownBlock = some k → w4.heap.size ≤ k) := fun k hk => (o5.lt k hk).1
      have HBL := hideIt (show gw < w4.heap.size ∧ gb < w4.heap.size from ⟨by
        obtain ⟨b', off', e', h', _⟩ := R4.out.2.2 0 (by decide)
        cases e'; exact h', (OB4.out.lt gb rfl).2⟩)
      obtain ⟨pb, cb, eb, rb, nb5, lb, jb5⟩ := own_row OB5.out HBB.out
      cases eb
      have RB5 := hideIt rb
      have LB5 := hideIt lb
      have BLN := hideIt (show bad.length = 6 from rb.1)
      have A4S := hideIt A4.out.size
      have LW := hideIt lw
      clear o5 a5 HCL R4 RL4 OB4 A4 rb lb lw nb5 jb5
      go_wp2_with (at_builtin; refine app_row rfl (.tmp 60) (.tmp 61) rfl w4.heap.size _ 261 LG rfl O5.out (some ⟨gl, 0, none⟩) 261 cl LG rfl RL5.out (fun e => by cases e) (by decide) S5.out ?_; intro v6 w6 hown hgrow; have O6 := hideIt hown; have G6 := hideIt hgrow; clear hown hgrow)
      obtain ⟨TW, hTW⟩ : ∃ TW, TW = LG ++ LG := ⟨_, rfl⟩
      have HTW := hideIt (show TW.length = 522 by rw [hTW, List.length_append, HLL.out])
      have HTB := hideIt (show Bs TW by rw [hTW]; exact HLB.out.append HLB.out)
      rw [← hTW] at O6
      obtain ⟨p6, c6, rfl, r6, n6, l6, _⟩ := own_row O6.out HTB.out
      have hfar : ∀ g, g < w4.heap.size → ¬ (.slice p5 261 c5 : Value).ownBlock = some g := fun g hg t => by have := H5W.out g t; omega
      have A6 := hideIt (A5.out.then G6.out (fun i hi t => by have h1 := H5W.out i t; have h2 := A4S.out; omega))
      have B61 := hideIt (row_b (R5.out.but G6.out.drew (fun x hx => by cases hx; exact hfar _ HBL.out.1)) (fun e => by cases e) LW.out (by decide))
      have B62 := hideIt (row_b (RB5.out.but G6.out.drew (fun x hx => by cases hx; exact hfar _ HBL.out.2)) (fun e => by cases e) LB5.out (by decide))
      have B63 := hideIt (row_b (RL5.out.but G6.out.drew (fun x hx => by cases hx; exact hfar _ GLB.out)) (fun e => by cases e) LL4.out (by decide))
      have B64 := hideIt (row_b (r6.after (But.drew After.rfl)) n6 l6 (by decide))
      have BL := hideIt BLN.out
      have LE96 : ∀ f ∈ [[126, 0, 1, 7, 143, 74], [0, 1], [126, 0], [0], [126], [126, 0, 1, 7, 143, 74], bad, [126, 0, 1, 7, 143, 74]], f.length ≤ 1048576 := by
        intro f hf
        simp only [List.mem_cons, List.not_mem_nil, or_false] at hf
        rcases hf with rfl | rfl | rfl | rfl | rfl | rfl | rfl | rfl
        · decide
        · decide
        · decide
        · decide
        · decide
        · decide
        · rw [BL.out]; decide
        · decide
      have hcl : ∀ l h, ((TW.drop l).take (h - l)).length ≤ 1048576 := fun l h => by rw [List.length_take, List.length_drop, HTW.out]; omega
      have LE106 : ∀ f ∈ [(TW.drop 0).take (260 - 0), (TW.drop 260).take (300 - 260), (TW.drop 300).take (522 - 300)], f.length ≤ 1048576 := by
        intro f hf
        simp only [List.mem_cons, List.not_mem_nil, or_false] at hf
        rcases hf with rfl | rfl | rfl
        · exact hcl 0 260
        · exact hcl 260 300
        · exact hcl 300 522
      have LE113 : ∀ f ∈ [[126, 1, 0], [126, 1, 1], [], nils 400], f.length ≤ 1048576 := by
        intro f hf
        simp only [List.mem_cons, List.not_mem_nil, or_false] at hf
        rcases hf with rfl | rfl | rfl | rfl
        · decide
        · decide
        · decide
        · rw [nils_length]; decide
      have LE119 : ∀ f ∈ [(TW.drop 0).take (520 - 0)], f.length ≤ 1048576 := by
        intro f hf
        rw [List.mem_singleton.1 hf]; exact hcl 0 520
      refine region_slots (by kernel_rfl) (TT (TL [126, 0, 1, 7, 143, 74] bad LG TW)) DD (BB w [126, 0, 1, 7, 143, 74] bad LG TW) 67 129 rfl rfl (fun i v w w' h hA => Holds.after h hA) (fun i j hi hj h => by unfold DD at h; split at h <;> split at h <;> omega) (fun i hi => by unfold DD; split <;> omega) BB.put ⟨B61.out, B62.out, B63.out, rfl, B64.out, A6.out.drew, rfl⟩ ?_ ?_
      · refine ⟨ok_const rfl (fun _ => rfl) rfl rfl (.inl rfl),
          ok_call rfl (enter_of Try.func18 (by kernel_rfl) (by kernel_rfl)) rfl (fun a w _ => by rw [map0]; exact awake_any w) rfl rfl (.inr ⟨0, rfl, rfl, rfl⟩),
          ok_pick 0 1 rfl rfl rfl rfl rfl rfl rfl (.inl rfl),
          ok_move 2 rfl rfl rfl rfl rfl (.inl rfl),
          ok_base 10 rfl (fun a w hb => hb.2.2.2.1) rfl rfl (.inr ⟨3, rfl, rfl, rfl⟩),
          ok_eql 4 0 rfl Try.underlying29 rfl rfl rfl rfl rfl (.inr ⟨3, rfl, rfl, rfl⟩),
          ok_pick 3 5 rfl rfl rfl rfl rfl rfl rfl (.inl rfl),
          ok_move 6 rfl rfl rfl rfl rfl (.inl rfl),
          ok_base 9 rfl (fun a w hb => hb.2.2.1) rfl rfl (.inr ⟨7, rfl, rfl, rfl⟩),
          ok_len 8 261 LG rfl rfl rfl HLL.out rfl rfl rfl (.inr ⟨7, rfl, rfl, rfl⟩),
          ok_eql 9 261 rfl Try.underlying3 rfl rfl rfl rfl rfl (.inr ⟨7, rfl, rfl, rfl⟩),
          ok_pick 7 10 rfl rfl rfl rfl rfl rfl rfl (.inl rfl),
          ok_move 11 rfl rfl rfl rfl rfl (.inl rfl),
          ok_call rfl (enter_of Try.func4 (by kernel_rfl) (by kernel_rfl)) rfl (fun a w _ => by rw [map1]; exact call_wraps nil_b) rfl rfl (.inr ⟨12, rfl, rfl, rfl⟩),
          ok_pick 12 13 rfl rfl rfl rfl rfl rfl rfl (.inl rfl),
          ok_move 14 rfl rfl rfl rfl rfl (.inl rfl),
          ok_make 257 (by decide) rfl rfl rfl rfl (.inr ⟨15, rfl, rfl, rfl⟩),
          ok_call rfl (enter_of Try.func4 (by kernel_rfl) (by kernel_rfl)) rfl (fun a w hd => by rw [map1]; exact call_wraps (hd 16 (by decide))) rfl rfl (.inr ⟨15, rfl, rfl, rfl⟩),
          ok_pick 15 17 rfl rfl rfl rfl rfl rfl rfl (.inl rfl),
          ok_move 18 rfl rfl rfl rfl rfl (.inl rfl),
          ok_make 256 (by decide) rfl rfl rfl rfl (.inr ⟨19, rfl, rfl, rfl⟩),
          ok_call rfl (enter_of Try.func4 (by kernel_rfl) (by kernel_rfl)) rfl (fun a w hd => by rw [map1]; exact call_wraps (hd 20 (by decide))) rfl rfl (.inr ⟨19, rfl, rfl, rfl⟩),
          ok_pick 19 21 rfl rfl rfl rfl rfl rfl rfl (.inl rfl),
          ok_move 22 rfl rfl rfl rfl rfl (.inl rfl),
          ok_base 6 rfl (fun a w hb => hb.1) rfl rfl (.inr ⟨23, rfl, rfl, rfl⟩),
          ok_bytes [0, 1] #[.int .u8 0, .int .u8 1] rfl rfl rfl (by decide) (by decide) (bs_of _ (by decide)) rfl (fun a => by simp [Instr.fill, Act.eval, go_sem]) rfl rfl (.inr ⟨23, rfl, rfl, rfl⟩),
          ok_bytes [126, 0] #[.int .u8 126, .int .u8 0] rfl rfl rfl (by decide) (by decide) (bs_of _ (by decide)) rfl (fun a => by simp [Instr.fill, Act.eval, go_sem]) rfl rfl (.inr ⟨23, rfl, rfl, rfl⟩),
          ok_bytes [0] #[.int .u8 0] rfl rfl rfl (by decide) (by decide) (bs_of _ (by decide)) rfl (fun a => by simp [Instr.fill, Act.eval, go_sem]) rfl rfl (.inr ⟨23, rfl, rfl, rfl⟩),
          ok_bytes [126] #[.int .u8 126] rfl rfl rfl (by decide) (by decide) (bs_of _ (by decide)) rfl (fun a => by simp [Instr.fill, Act.eval, go_sem]) rfl rfl (.inr ⟨23, rfl, rfl, rfl⟩),
          ok_base 6 rfl (fun a w hb => hb.1) rfl rfl (.inr ⟨23, rfl, rfl, rfl⟩),
          ok_base 8 rfl (fun a w hb => hb.2.1) rfl rfl (.inr ⟨23, rfl, rfl, rfl⟩),
          ok_base 6 rfl (fun a w hb => hb.1) rfl rfl (.inr ⟨23, rfl, rfl, rfl⟩),
          ok_lists [[126, 0, 1, 7, 143, 74], [0, 1], [126, 0], [0], [126], [126, 0, 1, 7, 143, 74], bad, [126, 0, 1, 7, 143, 74]] rfl rfl rfl (by decide) (by decide) (fun a w hd => by have r0 : RowB w (a.tmps.getD 87 undef) [126, 0, 1, 7, 143, 74] := hd 24 (by decide); obtain ⟨p0, c0, e0, _⟩ := (show RowB w (a.tmps.getD 87 undef) [126, 0, 1, 7, 143, 74] from r0); rw [Array.getD_eq_getD_getElem?] at e0; have r1 : RowB w (a.tmps.getD 88 undef) [0, 1] := hd 25 (by decide); obtain ⟨p1, c1, e1, _⟩ := (show RowB w (a.tmps.getD 88 undef) [0, 1] from r1); rw [Array.getD_eq_getD_getElem?] at e1; have r2 : RowB w (a.tmps.getD 89 undef) [126, 0] := hd 26 (by decide); obtain ⟨p2, c2, e2, _⟩ := (show RowB w (a.tmps.getD 89 undef) [126, 0] from r2); rw [Array.getD_eq_getD_getElem?] at e2; have r3 : RowB w (a.tmps.getD 90 undef) [0] := hd 27 (by decide); obtain ⟨p3, c3, e3, _⟩ := (show RowB w (a.tmps.getD 90 undef) [0] from r3); rw [Array.getD_eq_getD_getElem?] at e3; have r4 : RowB w (a.tmps.getD 91 undef) [126] := hd 28 (by decide); obtain ⟨p4, c4, e4, _⟩ := (show RowB w (a.tmps.getD 91 undef) [126] from r4); rw [Array.getD_eq_getD_getElem?] at e4; have r5 : RowB w (a.tmps.getD 92 undef) [126, 0, 1, 7, 143, 74] := hd 29 (by decide); obtain ⟨p5, c5, e5, _⟩ := (show RowB w (a.tmps.getD 92 undef) [126, 0, 1, 7, 143, 74] from r5); rw [Array.getD_eq_getD_getElem?] at e5; have r6 : RowB w (a.tmps.getD 93 undef) bad := hd 30 (by decide); obtain ⟨p6, c6, e6, _⟩ := (show RowB w (a.tmps.getD 93 undef) bad from r6); rw [Array.getD_eq_getD_getElem?] at e6; have r7 : RowB w (a.tmps.getD 94 undef) [126, 0, 1, 7, 143, 74] := hd 31 (by decide); obtain ⟨p7, c7, e7, _⟩ := (show RowB w (a.tmps.getD 94 undef) [126, 0, 1, 7, 143, 74] from r7); rw [Array.getD_eq_getD_getElem?] at e7; exact ⟨#[a.tmps.getD 87 undef, a.tmps.getD 88 undef, a.tmps.getD 89 undef, a.tmps.getD 90 undef, a.tmps.getD 91 undef, a.tmps.getD 92 undef, a.tmps.getD 93 undef, a.tmps.getD 94 undef], (Each.cons r0 (Each.cons r1 (Each.cons r2 (Each.cons r3 (Each.cons r4 (Each.cons r5 (Each.cons r6 (Each.cons r7 (Each.nil _))))))))), by simp [Instr.fill, Act.eval, go_sem, e0, e1, e2, e3, e4, e5, e6, e7]⟩) rfl rfl (.inr ⟨23, rfl, rfl, rfl⟩),
          ok_call rfl (enter_of Try.func3 (by kernel_rfl) (by kernel_rfl)) rfl (fun a w hd => by rw [map1]; exact call_feeds (hd 32 (by decide)) LE96 8 rfl (by decide)) rfl rfl (.inr ⟨23, rfl, rfl, rfl⟩),
          ok_pick 23 33 rfl rfl rfl rfl rfl rfl rfl (.inl rfl),
          ok_move 34 rfl rfl rfl rfl rfl (.inl rfl),
          ok_base 11 rfl (fun a w hb => hb.2.2.2.2.1) rfl rfl (.inr ⟨35, rfl, rfl, rfl⟩),
          ok_cut 36 TW 0 260 rfl rfl rfl rfl (by rw [HTW.out]; decide) (by decide) (by rw [HTW.out]; decide) (by rw [HTW.out]; decide) (.inl ⟨rfl, rfl⟩) (.inr rfl) rfl rfl (.inr ⟨35, rfl, rfl, rfl⟩),
          ok_base 11 rfl (fun a w hb => hb.2.2.2.2.1) rfl rfl (.inr ⟨35, rfl, rfl, rfl⟩),
          ok_cut 38 TW 260 300 rfl rfl rfl rfl (by rw [HTW.out]; decide) (by decide) (by rw [HTW.out]; decide) (by rw [HTW.out]; decide) (.inr rfl) (.inr rfl) rfl rfl (.inr ⟨35, rfl, rfl, rfl⟩),
          ok_base 11 rfl (fun a w hb => hb.2.2.2.2.1) rfl rfl (.inr ⟨35, rfl, rfl, rfl⟩),
          ok_cut 40 TW 300 522 rfl rfl rfl rfl (by rw [HTW.out]; decide) (by decide) (by rw [HTW.out]; decide) (by rw [HTW.out]; decide) (.inr rfl) (.inl ⟨rfl, by rw [HTW.out]⟩) rfl rfl (.inr ⟨35, rfl, rfl, rfl⟩),
          ok_lists [(TW.drop 0).take (260 - 0), (TW.drop 260).take (300 - 260), (TW.drop 300).take (522 - 300)] rfl rfl rfl (by decide) (by decide) (fun a w hd => by have r0 : RowB w (a.tmps.getD 100 undef) ((TW.drop 0).take (260 - 0)) := hd 37 (by decide); obtain ⟨p0, c0, e0, _⟩ := (show RowB w (a.tmps.getD 100 undef) ((TW.drop 0).take (260 - 0)) from r0); rw [Array.getD_eq_getD_getElem?] at e0; have r1 : RowB w (a.tmps.getD 102 undef) ((TW.drop 260).take (300 - 260)) := hd 39 (by decide); obtain ⟨p1, c1, e1, _⟩ := (show RowB w (a.tmps.getD 102 undef) ((TW.drop 260).take (300 - 260)) from r1); rw [Array.getD_eq_getD_getElem?] at e1; have r2 : RowB w (a.tmps.getD 104 undef) ((TW.drop 300).take (522 - 300)) := hd 41 (by decide); obtain ⟨p2, c2, e2, _⟩ := (show RowB w (a.tmps.getD 104 undef) ((TW.drop 300).take (522 - 300)) from r2); rw [Array.getD_eq_getD_getElem?] at e2; exact ⟨#[a.tmps.getD 100 undef, a.tmps.getD 102 undef, a.tmps.getD 104 undef], (Each.cons r0 (Each.cons r1 (Each.cons r2 (Each.nil _)))), by simp [Instr.fill, Act.eval, go_sem, e0, e1, e2]⟩) rfl rfl (.inr ⟨35, rfl, rfl, rfl⟩),
          ok_call rfl (enter_of Try.func3 (by kernel_rfl) (by kernel_rfl)) rfl (fun a w hd => by rw [map1]; exact call_feeds (hd 42 (by decide)) LE106 3 rfl (by decide)) rfl rfl (.inr ⟨35, rfl, rfl, rfl⟩),
          ok_pick 35 43 rfl rfl rfl rfl rfl rfl rfl (.inl rfl),
          ok_move 44 rfl rfl rfl rfl rfl (.inl rfl),
          ok_bytes [126, 1, 0] #[.int .u8 126, .int .u8 1, .int .u8 0] rfl rfl rfl (by decide) (by decide) (bs_of _ (by decide)) rfl (fun a => by simp [Instr.fill, Act.eval, go_sem]) rfl rfl (.inr ⟨45, rfl, rfl, rfl⟩),
          ok_bytes [126, 1, 1] #[.int .u8 126, .int .u8 1, .int .u8 1] rfl rfl rfl (by decide) (by decide) (bs_of _ (by decide)) rfl (fun a => by simp [Instr.fill, Act.eval, go_sem]) rfl rfl (.inr ⟨45, rfl, rfl, rfl⟩),
          ok_make 400 (by decide) rfl rfl rfl rfl (.inr ⟨45, rfl, rfl, rfl⟩),
          ok_lists [[126, 1, 0], [126, 1, 1], [], nils 400] rfl rfl rfl (by decide) (by decide) (fun a w hd => by have r0 : RowB w (a.tmps.getD 109 undef) [126, 1, 0] := hd 46 (by decide); obtain ⟨p0, c0, e0, _⟩ := (show RowB w (a.tmps.getD 109 undef) [126, 1, 0] from r0); rw [Array.getD_eq_getD_getElem?] at e0; have r1 : RowB w (a.tmps.getD 110 undef) [126, 1, 1] := hd 47 (by decide); obtain ⟨p1, c1, e1, _⟩ := (show RowB w (a.tmps.getD 110 undef) [126, 1, 1] from r1); rw [Array.getD_eq_getD_getElem?] at e1; have r3 : RowB w (a.tmps.getD 111 undef) (nils 400) := hd 48 (by decide); obtain ⟨p3, c3, e3, _⟩ := (show RowB w (a.tmps.getD 111 undef) (nils 400) from r3); rw [Array.getD_eq_getD_getElem?] at e3; exact ⟨#[a.tmps.getD 109 undef, a.tmps.getD 110 undef, .slice none 0 0, a.tmps.getD 111 undef], (Each.cons r0 (Each.cons r1 (Each.cons nil_b (Each.cons r3 (Each.nil _))))), by simp [Instr.fill, Act.eval, go_sem, e0, e1, e3]⟩) rfl rfl (.inr ⟨45, rfl, rfl, rfl⟩),
          ok_call rfl (enter_of Try.func3 (by kernel_rfl) (by kernel_rfl)) rfl (fun a w hd => by rw [map1]; exact call_feeds (hd 49 (by decide)) LE113 4 rfl (by decide)) rfl rfl (.inr ⟨45, rfl, rfl, rfl⟩),
          ok_pick 45 50 rfl rfl rfl rfl rfl rfl rfl (.inl rfl),
          ok_move 51 rfl rfl rfl rfl rfl (.inl rfl),
          ok_base 11 rfl (fun a w hb => hb.2.2.2.2.1) rfl rfl (.inr ⟨52, rfl, rfl, rfl⟩),
          ok_cut 53 TW 0 520 rfl rfl rfl rfl (by rw [HTW.out]; decide) (by decide) (by rw [HTW.out]; decide) (by rw [HTW.out]; decide) (.inl ⟨rfl, rfl⟩) (.inr rfl) rfl rfl (.inr ⟨52, rfl, rfl, rfl⟩),
          ok_lists [(TW.drop 0).take (520 - 0)] rfl rfl rfl (by decide) (by decide) (fun a w hd => by have r0 : RowB w (a.tmps.getD 117 undef) ((TW.drop 0).take (520 - 0)) := hd 54 (by decide); obtain ⟨p0, c0, e0, _⟩ := (show RowB w (a.tmps.getD 117 undef) ((TW.drop 0).take (520 - 0)) from r0); rw [Array.getD_eq_getD_getElem?] at e0; exact ⟨#[a.tmps.getD 117 undef], (Each.cons r0 (Each.nil _)), by simp [Instr.fill, Act.eval, go_sem, e0]⟩) rfl rfl (.inr ⟨52, rfl, rfl, rfl⟩),
          ok_call rfl (enter_of Try.func6 (by kernel_rfl) (by kernel_rfl)) rfl (fun a w hd => by rw [map1]; exact call_counts (hd 55 (by decide)) LE119 1 rfl (by decide)) rfl rfl (.inr ⟨52, rfl, rfl, rfl⟩),
          ok_pick 52 56 rfl rfl rfl rfl rfl rfl rfl (.inl rfl),
          ok_move 57 rfl rfl rfl rfl rfl (.inl rfl),
          ok_bytes [7] #[.int .u8 7] rfl rfl rfl (by decide) (by decide) (bs_of _ (by decide)) rfl (fun a => by simp [Instr.fill, Act.eval, go_sem]) rfl rfl (.inr ⟨58, rfl, rfl, rfl⟩),
          ok_make 256 (by decide) rfl rfl rfl rfl (.inr ⟨58, rfl, rfl, rfl⟩),
          ok_make 257 (by decide) rfl rfl rfl rfl (.inr ⟨58, rfl, rfl, rfl⟩),
          ok_lists [[7], [], nils 256, nils 257] rfl rfl rfl (by decide) (by decide) (fun a w hd => by have r0 : RowB w (a.tmps.getD 122 undef) [7] := hd 59 (by decide); obtain ⟨p0, c0, e0, _⟩ := (show RowB w (a.tmps.getD 122 undef) [7] from r0); rw [Array.getD_eq_getD_getElem?] at e0; have r2 : RowB w (a.tmps.getD 123 undef) (nils 256) := hd 60 (by decide); obtain ⟨p2, c2, e2, _⟩ := (show RowB w (a.tmps.getD 123 undef) (nils 256) from r2); rw [Array.getD_eq_getD_getElem?] at e2; have r3 : RowB w (a.tmps.getD 124 undef) (nils 257) := hd 61 (by decide); obtain ⟨p3, c3, e3, _⟩ := (show RowB w (a.tmps.getD 124 undef) (nils 257) from r3); rw [Array.getD_eq_getD_getElem?] at e3; exact ⟨#[a.tmps.getD 122 undef, .slice none 0 0, a.tmps.getD 123 undef, a.tmps.getD 124 undef], (Each.cons r0 (Each.cons nil_b (Each.cons r2 (Each.cons r3 (Each.nil _))))), by simp [Instr.fill, Act.eval, go_sem, e0, e2, e3]⟩) rfl rfl (.inr ⟨58, rfl, rfl, rfl⟩),
          ok_bytes [1, 126, 2] #[.int .u8 1, .int .u8 126, .int .u8 2] rfl rfl rfl (by decide) (by decide) (bs_of _ (by decide)) rfl (fun a => by simp [Instr.fill, Act.eval, go_sem]) rfl rfl (.inr ⟨58, rfl, rfl, rfl⟩),
          ok_call rfl (enter_of Try.func7 (by kernel_rfl) (by kernel_rfl)) rfl (fun a w hd => by rw [map2]; exact call_back (hd 62 (by decide)) (hd 63 (by decide)) 4 rfl (by decide) 3 rfl (by decide)) rfl rfl (.inr ⟨58, rfl, rfl, rfl⟩),
          ok_pick 58 64 rfl rfl rfl rfl rfl rfl rfl (.inl rfl),
          ok_assign 65 rfl rfl rfl rfl rfl (.inl rfl),
          trivial⟩
      · intro a' w' hs hT hb
        have h0 : a'.tmps.getD 0 undef = .bool true := hT 66 (by decide)
        have HE := hideIt hb.2.2.2.2.2.1
        have HDF := hideIt hb.2.2.2.2.2.2
        clear hT hb hs
        have h0' : a'.tmps[0]?.getD undef = .bool true := by simpa using h0
        have hret : bodyPost Try.prog Try.f8 (fun e w' => e = .returned (.bool true) ∧ After w w') .ret a' w' := bodyPost_ret (v := .bool true) (by simp [results, Try.results8, go_sem, h0']) HDF.out ⟨rfl, HE.out⟩
        have HRT := hideIt hret
        clear hret h0 h0' HE
        go_wp2
        exact HRT.out
end Go.Proofs.Ytmdbpoknehafaaa
