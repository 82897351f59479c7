/-
  New: refused, or an exec.
-/
import Derived.Test.YtkjjjibglaffnaaExO
import Derived.Test.YtkjjjibglaffnaaChn
namespace Go.Proofs.Ytkjjjibglaffnaa
open Go.RowKit
set_option maxRecDepth 8000
abbrev ChF (c b a s l : Nat) (w0 : World) (p : Nat) (vF vS lv : Value) (fs : List Fw) (st : List Int) (L : List Lk) (r : List Int) : (Nat → Bool) → (Nat → Value) → World → Prop :=
  ChW c b a s l (fun w => Nw w0 w p vF vS lv fs st L) (fun v w => Nw w0 w p vF vS lv fs st L ∧ ORow inE 3 w w0.heap.size v r)
    (fun v w => ∃ (q : Nat) (f : Fw), v = .slice (some ⟨q, 0, none⟩) 1 1 ∧ f.l = r ∧ w.heap[q]? = some (.cells #[.slice f.a f.l.length f.c] 23 (0, 0)) ∧ Nw w0 w p vF vS lv fs st L ∧ ORow inE 3 w w0.heap.size (.slice f.a f.l.length f.c) f.l)
    (AirF w0 p vF vS lv fs st L r) (fun w => ∃ (f : Fw) (v : Value), f.l = r ∧ Nw w0 w p v vS lv (fs ++ [f]) st L)
abbrev ChL (c b a s l : Nat) (w0 : World) (p : Nat) (vF vS lv : Value) (fs : List Fw) (st : List Int) (L : List Lk) (q : Int × Int) (gb : Nat) : (Nat → Bool) → (Nat → Value) → World → Prop :=
  ChW c b a s l (fun w => Nw w0 w p vF vS lv fs st L ∧ w.heap[gb]? = some (.cells #[.int .i64 q.1, .int .i64 q.2] 65 (0, 0))) (fun _ w => Nw w0 w p vF vS lv fs st L ∧ w.heap[gb]? = some (.cells #[.int .i64 q.1, .int .i64 q.2] 65 (0, 0)))
    (fun v w => ∃ g2, v = .slice (some ⟨g2, 0, none⟩) 1 1 ∧ w.heap[g2]? = some (.cells #[.int .i64 q.1, .int .i64 q.2, .int .i64 0, .bool false] 83 (0, 0)) ∧ Nw w0 w p vF vS lv fs st L ∧ w.heap[gb]? = some (.cells #[.int .i64 q.1, .int .i64 q.2] 65 (0, 0)))
    (fun v w => AirL w0 p vF vS lv fs st L ⟨q.1, q.2, none⟩ v w ∧ w.heap[gb]? = some (.cells #[.int .i64 q.1, .int .i64 q.2] 65 (0, 0))) (fun w => (∃ v, Nw w0 w p vF vS v fs st (L ++ [⟨q.1, q.2, none⟩])) ∧ w.heap[gb]? = some (.cells #[.int .i64 q.1, .int .i64 q.2] 65 (0, 0)))
section
variable {c b a s l : Nat} {w0 : World} {p : Nat} {vF vS lv : Value} {fs : List Fw} {st : List Int} {L0 : List Lk} {r : List Int} {q : Int × Int} {gb : Nat} {L : Nat → Bool} {u : Nat → Value} {w : World}
theorem fr_at1 (hl : L l = false) (h : ChF c b a s l w0 p vF vS lv fs st L0 r L u w) : w.heap[p]? = some (.cells (exC vF vS lv 0 false) 73 (0, 0)) :=
  ChW.early h hl (fun h => h.at0) (fun _ h => h.1.at0) (fun _ ⟨_, _, _, _, _, h, _⟩ => h.at0)
theorem lk_at1 (hl : L l = false) (h : ChL c b a s l w0 p vF vS lv fs st L0 q gb L u w) : w.heap[p]? = some (.cells (exC vF vS lv 0 false) 73 (0, 0)) :=
  ChW.early h hl (fun h => h.1.at0) (fun _ h => h.1.at0) (fun _ ⟨_, _, _, h, _⟩ => h.at0)
theorem lk_box (h : ChL c b a s l w0 p vF vS lv fs st L0 q gb L u w) : w.heap[gb]? = some (.cells #[.int .i64 q.1, .int .i64 q.2] 65 (0, 0)) :=
  ChW.any h (fun h => h.2) (fun _ h => h.2) (fun _ ⟨_, _, _, _, h⟩ => h) (fun _ h => h.2) (fun h => h.2)
end
theorem fw_of {w : World} {B : Nat} {v : Value} {r : List Int} (h : ORow inE 3 w B v r) : ∃ a c, v = .slice a r.length c := by
  obtain ⟨a, c, e, _⟩ := h.row
  exact ⟨a, c, e⟩
theorem airF_slice {w0 w : World} {p : Nat} {vF vS lv : Value} {fs : List Fw} {st : List Int} {L : List Lk} {r : List Int} {v : Value} (h : AirF w0 p vF vS lv fs st L r v w) : ∃ a n c, v = .slice a n c := by
  obtain ⟨_, f, _, _, _, h3, _⟩ := h
  obtain ⟨a, c, e, _⟩ := h3.row
  exact ⟨a, _, c, e⟩
theorem airL_slice {w0 w : World} {p : Nat} {vF vS lv : Value} {fs : List Fw} {st : List Int} {L : List Lk} {q : Lk} {v : Value} (h : AirL w0 p vF vS lv fs st L q v w) : ∃ a n c, v = .slice a n c := by
  obtain ⟨_, _, h3, _⟩ := h
  obtain ⟨a, c, e, _⟩ := h3.row
  exact ⟨a, _, c, e⟩
def mkL (lk : List (Int × Int)) : List Lk := lk.map (fun q => ⟨q.1, q.2, none⟩)
theorem mkL_succ {lk : List (Int × Int)} {k : Nat} {q : Int × Int} (h : lk[k]? = some q) : mkL (lk.take (k + 1)) = mkL (lk.take k) ++ [⟨q.1, q.2, none⟩] := by
  obtain ⟨hk, e⟩ := List.getElem?_eq_some_iff.1 h
  rw [List.take_succ_eq_append_getElem hk, e]
  unfold mkL
  rw [List.map_append]; rfl
theorem nw_start {w w1 : World} {vS : Value} {st : List Int} (hS : ORow inE 3 w1 w.heap.size vS st) (a : After w w1) : Nw w (w1.alloc (.cells (exC (.slice none 0 0) vS (.slice none 0 0) 0 false) 73)) w1.heap.size (.slice none 0 0) vS (.slice none 0 0) [] st [] :=
  ⟨heap_alloc_new w1 _, orow_nil _ _ _ _, own_after hS (After.rfl.alloc _), orow_nil _ _ _ _, fun f hf => (by cases hf), a.size, a.alloc _⟩
theorem new_no {w : World} {fa : Option Addr} {fc : Nat} {fws : List Fw} {sa : Option Addr} {sc : Nat} {st : List Int} {la : Option Addr} {lc : Nat} {lk : List (Int × Int)} (hf : GRow fwE w fa fws.length fws) (hfw : ∀ f ∈ fws, GRow inE w f.a f.l.length f.l ∧ f.l.length ≤ 17592186044416) (hs : GRow inE w sa st.length st) (hl : GRow prE w la lk.length lk) (b1 : fws.length ≤ 17592186044416) (b2 : st.length ≤ 17592186044416) (b3 : lk.length ≤ 17592186044416) (hno : chkT (fws.map Fw.l) st lk ≠ 0) :
    Calls Try.prog 9 #[.slice fa fws.length fc, .slice sa st.length sc, .slice la lk.length lc] w fun e w' => e = .returned (.tuple #[.pointer none, .int .i64 (chkT (fws.map Fw.l) st lk)]) ∧ After w w' := by
  have HC := hideIt (check_any (fc := fc) (sc := sc) (lc := lc) hf hfw hs hl b1 b2 b3)
  generalize chkT (fws.map Fw.l) st lk = X at *
  have hx : (X != 0) = true := by simpa using hno
  clear hf hfw hs hl b1 b2 b3 hno
  go_enter Try.func9, Try.ntmps9
  go_wp2_with fail
  refine HC.out.mono ?_
  rintro e w1 ⟨rfl, af⟩
  have AF := hideIt af
  clear af
  go_wp2_with fail
  go_ret2
  exact ⟨rfl, AF.out⟩
/-- What New makes. -/
def Made (w : World) (fr : List (List Int)) (st : List Int) (lk : List (Int × Int)) (e : Ending) (w' : World) : Prop := ∃ p vF vS lv fs, e = .returned (.tuple #[Ptr p, .int .i64 0]) ∧ Nw w w' p vF vS lv fs st (mkL lk) ∧ fs.map Fw.l = fr
set_option maxHeartbeats 4000000 in
theorem new_ok {w0 : World} {fa : Option Addr} {fc : Nat} {fs0 : List Fw} {sa : Option Addr} {sc : Nat} {st : List Int} {la : Option Addr} {lc : Nat} {lk : List (Int × Int)} (hf : GRow fwE w0 fa fs0.length fs0) (hfw : ∀ f ∈ fs0, GRow inE w0 f.a f.l.length f.l ∧ (f.a = none → f.l.length = 0 ∧ f.c = 0) ∧ f.l.length ≤ 1000) (hs : GRow inE w0 sa st.length st) (hsn : sa = none → st.length = 0 ∧ sc = 0) (hl : GRow prE w0 la lk.length lk) (b1 : fs0.length ≤ 16) (b2 : st.length ≤ 8) (b3 : lk.length ≤ 16) (hok : chkT (fs0.map Fw.l) st lk = 0) :
    Calls Try.prog 9 #[.slice fa fs0.length fc, .slice sa st.length sc, .slice la lk.length lc] w0 (Made w0 (fs0.map Fw.l) st lk) := by
  have HC := hideIt (check_any (fc := fc) (sc := sc) (lc := lc) hf (fun f hf => ⟨(hfw f hf).1, Nat.le_trans (hfw f hf).2.2 (by decide)⟩) hs hl (Nat.le_trans b1 (by decide)) (Nat.le_trans b2 (by decide)) (Nat.le_trans b3 (by decide)))
  rw [hok] at HC
  have HH := hideIt (And.intro hf (And.intro hfw (And.intro hs (And.intro hsn hl))))
  have i1 : (fs0.length : Int) ≤ 16 := by omega
  have i2 : (st.length : Int) ≤ 8 := by omega
  have i3 : (lk.length : Int) ≤ 16 := by omega
  have HB := hideIt (And.intro b1 (And.intro b2 b3))
  clear hf hfw hs hsn hl b1 b2 b3 hok
  go_enter Try.func9, Try.ntmps9
  go_wp2_with fail
  refine HC.out.mono ?_
  rintro e w1 ⟨rfl, af⟩
  have AF := hideIt af
  have HS := hideIt (clone_in sa st.length sc st w1 (HH.out.2.2.1.after af) HH.out.2.2.2.1 (by have := HB.out.2.1; omega))
  clear af HC
  go_wp2_with fail
  refine HS.out.mono ?_
  rintro e w2 ⟨vS, rfl, hS, af2⟩
  obtain ⟨p, hp⟩ : ∃ p, p = w2.heap.size := ⟨_, rfl⟩
  obtain ⟨aS, cS, eS⟩ := fw_of hS
  have XS := hideIt (nw_start (w := w0) (own_base hS (fun k hk => Nat.le_trans AF.out.size (hS.lt k hk).1)) (AF.out.trans af2))
  rw [← hp] at XS
  have HP := hideIt hp
  subst eS
  clear hS af2 HS hp
  go_wp2_with fail
  rw [← HP.out]
  generalize w2.alloc (.cells (exC (.slice none 0 0) (.slice aS st.length cS) (.slice none 0 0) 0 false) 73) = w3 at *
  go_loopw [27] (fun iv wr => ∃ (j : Nat) (vF : Value) (fs : List Fw), j ≤ fs0.length ∧ iv = .int .i64 j ∧ Nw w0 wr p vF (.slice aS st.length cS) (.slice none 0 0) fs st [] ∧ fs.map Fw.l = (fs0.map Fw.l).take j) (fun iv _ => fs0.length - (intOf iv).toNat)
  case atStart => exact ⟨0, _, [], Nat.zero_le _, rfl, XS.out, rfl⟩
  case round =>
    obtain ⟨j, vF, fs, hj, rfl, nw, hfs⟩ := hrel
    clear XS
    by_cases hjn : j < fs0.length
    · have i5 : (j : Int) < (fs0.length : Int) := by omega
      obtain ⟨bb, off, f0, rfl, hb, hfj, d0⟩ := fw_at (HH.out.1.after nw.aft) hjn
      have hm := HH.out.2.1 f0 (List.mem_of_getElem? hfj)
      have HR := hideIt hm
      have HN := hideIt (show fs.length ≤ 16 by
        have e := congrArg List.length hfs
        rw [List.length_map, List.length_take] at e
        have := HB.out.1; omega)
      have HF := hideIt (show (fs0.map Fw.l).take (j + 1) = fs.map Fw.l ++ [f0.l] by
        rw [List.take_succ_eq_append_getElem (by rw [List.length_map]; exact hjn), hfs]
        congr 2
        obtain ⟨h1, h2⟩ := List.getElem?_eq_some_iff.1 hfj
        rw [List.getElem_map, h2])
      obtain ⟨aF, cF, eF, _⟩ := nw.oF.row
      subst eF
      have XN := hideIt nw
      clear nw hfs hfj hm
      go_wp2_with fail
      refine region_inv (by kernel_rfl) (Tab.J (⟨12, fun i => [31, 32, 33, 34, 35, 36, 37, 38, 39, 40, 41, 900].getD i 0, fun i => ([some (Ptr p), some (Ptr p), some (Ptr p), some (.pointer (some ⟨p, 0, none⟩)), some (.slice aF fs.length cF), some (.slice f0.a f0.l.length f0.c), none, none, none, some (Ptr p), some (.pointer (some ⟨p, 0, none⟩)), none] : List (Option Value)).getD i none, ChF 6 7 8 11 4 w0 p (.slice aF fs.length cF) (.slice aS st.length cS) (.slice none 0 0) fs st [] f0.l⟩ : Tab) _) ⟨rfl, rfl, fun _ _ => rfl, (fun _ _ _ _ h => by cases h), ChW.start (XN.out.after (But.drew But.rfl))⟩ ?_ ?_
      · exact ⟨inv_move (.inl rfl) rfl rfl rfl rfl rfl rfl rfl rfl (ChW.keep (neB rfl) (neB rfl) (neB rfl) (neB rfl) (neB rfl) (neB rfl) (neB rfl)) rfl,
          inv_move (.inl rfl) rfl rfl rfl rfl rfl rfl rfl rfl (ChW.keep (neB rfl) (neB rfl) (neB rfl) (neB rfl) (neB rfl) (neB rfl) (neB rfl)) rfl,
          inv_nil rfl rfl rfl rfl rfl rfl rfl rfl rfl (ChW.keep (neB rfl) (neB rfl) (neB rfl) (neB rfl) (neB rfl) (neB rfl) (neB rfl)) rfl,
          inv_field rfl rfl rfl rfl rfl rfl rfl rfl rfl (ChW.keep (neB rfl) (neB rfl) (neB rfl) (neB rfl) (neB rfl) (neB rfl) (neB rfl)) rfl (fun w => fieldEx0 w _),
          inv_loadD rfl rfl rfl rfl rfl rfl rfl rfl rfl (ChW.keep (neB rfl) (neB rfl) (neB rfl) (neB rfl) (neB rfl) (neB rfl) (neB rfl)) rfl (fun L u w hl h => loadFr (blk_cell (fr_at1 hl h) (i := 0) rfl)),
          inv_move (.inl rfl) rfl rfl rfl rfl rfl rfl rfl rfl (ChW.keep (neB rfl) (neB rfl) (neB rfl) (neB rfl) (neB rfl) (neB rfl) (neB rfl)) rfl,
          inv_call rfl rfl rfl rfl rfl rfl rfl rfl (enterC Try.func21 (by kernel_rfl) (by kernel_rfl)) (fun a w L hv hd hl h => by
            rw [show (#[Operand.tmp 36] : Array Operand).map a.eval = #[a.eval (.tmp 36)] from by simp, hv (.tmp 36) _ rfl]
            have n0 := (h.ahead hl).1
            refine (clone_in f0.a f0.l.length f0.c f0.l w (HR.out.1.after n0.aft) HR.out.2.1 HR.out.2.2).mono ?_
            rintro e w3 ⟨v3, rfl, ho, af⟩
            exact ⟨v3, rfl, (fun v7 h7 => by cases h7), ChW.call (neB rfl) (neB rfl) (neB rfl) h hl ⟨n0.after af, own_base ho (fun k hk => Nat.le_trans n0.aft.size (ho.lt k hk).1)⟩⟩),
          inv_gen (r := fun a => Instr.buildSlice 22 1 #[(0, a.eval (.tmp 37))]) rfl rfl rfl rfl rfl rfl rfl (fun a => by unfold execOp; simp) (fun a W L hv hd hl h => by
            obtain ⟨n1, o1⟩ := h.p1 (hd 6 rfl) hl
            obtain ⟨ag, cg, eg⟩ := fw_of o1
            rw [show a.eval (.tmp 37) = _ from eg]
            rw [eg] at o1
            have aL := After.rfl (w := W) |>.alloc (.cells #[.slice ag f0.l.length cg] 23)
            exact ⟨_, _, run_bsFw _ _ _ W, (fun v7 h7 => by cases h7), ChW.lit (neB rfl) (neB rfl) (neB rfl) h (hd 6 rfl) hl ⟨_, ⟨ag, cg, f0.l⟩, rfl, rfl, heap_alloc_new W _, n1.after aL, own_after o1 aL⟩⟩),
          inv_any rfl rfl rfl rfl rfl rfl rfl rfl (fun a W L K hv hd hl h hK => by
            obtain ⟨q, f, eq, ef, hq, n2, o2⟩ := h.p2 (hd 7 rfl) hl
            exact wp_appE (E := fwE) Try.underlying22 Try.infoFw rfl (.tmp 35) (.tmp 38) rfl (hv (.tmp 35) _ rfl) n2.oF eq (lit_row (xs := [f]) hq rfl rfl) (by have := HN.out; unfold maxLen; omega) (by have := HN.out; omega) n2.aft.size (fun v3 w3 h1 h2 => hK _ _ (ChW.app (neB rfl) (neB rfl) (neB rfl) h (hd 7 rfl) (hd 4 rfl) hl ⟨W, f, ef, n2, o2, h1, h2⟩))),
          inv_nil rfl rfl rfl rfl rfl rfl rfl rfl rfl (ChW.keep (neB rfl) (neB rfl) (neB rfl) (neB rfl) (neB rfl) (neB rfl) (neB rfl)) rfl,
          inv_field rfl rfl rfl rfl rfl rfl rfl rfl rfl (ChW.keep (neB rfl) (neB rfl) (neB rfl) (neB rfl) (neB rfl) (neB rfl) (neB rfl)) rfl (fun w => fieldEx0 w _),
          inv_end rfl rfl rfl rfl rfl rfl (fun L a W hv hd hl h => by
            have h3 := h.p3 (hd 8 rfl) hl
            rw [hv (.tmp 41) _ rfl]
            obtain ⟨f, ef, n4⟩ := h3.land
            obtain ⟨aq, nq, cq, eq⟩ := airF_slice h3
            have c1 := blk_cell h3.at1 (i := 0) rfl
            have s1 := blk_soft h3.at1 0
            refine ⟨W.setCell ⟨p, 0, none⟩ (a.eval (.tmp 39)), ?_, ChW.store (neB rfl) (neB rfl) (neB rfl) h (hd 8 rfl) ⟨f, _, ef, n4⟩⟩
            rw [show a.eval (.tmp 39) = _ from eq]
            exact storeFr c1 s1),
          trivial⟩
      · intro a7 w7 L7 hL7 J7
        have e7 := J7.fin hL7 rfl
        have W7 := J7.other
        have h7 := W7.p4 (hL7 11 (Nat.le_of_ble_eq_true rfl))
        clear J7 W7
        rw [e7]
        clear e7
        generalize hv7 : Tab.u _ a7 = U7 at *
        simp only [Tab.puts, List.getD_cons_succ, List.getD_cons_zero, Option.getD_some, Option.getD_none, List.setIfInBounds_toArray, List.set_cons_succ, List.set_cons_zero, List.set_nil]
        clear hv7 hL7
        obtain ⟨f7, v7, ef7, n7⟩ := h7
        have H7 := hideIt (And.intro ef7 n7)
        clear ef7 n7
        generalize U7 6 = u6
        generalize U7 7 = u7
        generalize U7 8 = u8
        clear U7 a7
        go_wp2_with fail
        go_roundw
        case rel => exact ⟨j + 1, v7, fs ++ [f7], by omega, by go_num, H7.out.2, by rw [HF.out, List.map_append, ← H7.out.1]; rfl⟩
        case measure => simp [intOf]; omega
    · have i5 : ¬ (j : Int) < (fs0.length : Int) := by omega
      rw [List.take_of_length_le (by rw [List.length_map]; omega)] at hfs
      have XF := hideIt (And.intro hfs nw)
      have fws := fs
      obtain ⟨fws, hfws⟩ : ∃ f, f = fs := ⟨_, rfl⟩
      obtain ⟨vS, hvS⟩ : ∃ v, v = Value.slice aS st.length cS := ⟨_, rfl⟩
      rw [← hfws, ← hvS] at XF
      clear hfs nw hfws
      go_wp2_with fail
      go_loopw [45] (fun iv wr => ∃ (k : Nat) (lv : Value), k ≤ lk.length ∧ iv = .int .i64 k ∧ Nw w0 wr p vF vS lv fws st (mkL (lk.take k))) (fun iv _ => lk.length - (intOf iv).toNat)
      case atStart => exact ⟨0, _, Nat.zero_le _, rfl, XF.out.2⟩
      case round =>
        obtain ⟨k, lv, hk, rfl, nw⟩ := hrel
        by_cases hkn : k < lk.length
        · have i7 : (k : Int) < (lk.length : Int) := by omega
          obtain ⟨bb, off, q, rfl, hb, hq, d0, d1⟩ := pr_at (HH.out.2.2.2.2.after nw.aft) hkn
          obtain ⟨gb, hgb⟩ : ∃ g, g = wr.heap.size := ⟨_, rfl⟩
          obtain ⟨W1, hW1⟩ : ∃ W, W = wr.alloc (.cells #[.int .i64 q.1, .int .i64 q.2] 65) := ⟨_, rfl⟩
          have HG := hideIt (show W1.heap[gb]? = some (.cells #[.int .i64 q.1, .int .i64 q.2] 65 (0, 0)) by rw [hW1, hgb]; exact heap_alloc_new wr _)
          have HM := hideIt (mkL_succ hq)
          obtain ⟨L0, hL0⟩ : ∃ L, L = mkL (lk.take k) := ⟨_, rfl⟩
          rw [← hL0] at nw HM
          have HN := hideIt (show L0.length ≤ 16 by
            rw [hL0, mkL, List.length_map, List.length_take]
            have := HB.out.2.2; omega)
          obtain ⟨aL, cL, eL, _⟩ := nw.oL.row
          subst eL
          have XN := hideIt (show Nw w0 W1 p vF vS (.slice aL L0.length cL) fws st L0 by rw [hW1]; exact nw.after (After.rfl.alloc _))
          have HW := hideIt hW1
          have HGe := hideIt hgb
          clear nw hq hgb hW1 hL0
          go_wp2_with fail
          rw [← HW.out, ← HGe.out]
          refine region_inv (by kernel_rfl) (Tab.J (⟨15, fun i => [49, 50, 51, 52, 53, 54, 55, 56, 57, 58, 59, 60, 61, 62, 900].getD i 0, fun i => ([some (Ptr p), some (Ptr p), some (Ptr p), some (.pointer (some ⟨p, 2, none⟩)), some (.slice aL L0.length cL), some (.pointer (some ⟨gb, 0, none⟩)), some (.int .i64 q.1), some (.pointer (some ⟨gb, 1, none⟩)), some (.int .i64 q.2), some (.agg #[.int .i64 q.1, .int .i64 q.2, .int .i64 0, .bool false]), none, none, some (Ptr p), some (.pointer (some ⟨p, 2, none⟩)), none] : List (Option Value)).getD i none, ChL 9 10 11 14 4 w0 p vF vS (.slice aL L0.length cL) fws st L0 q gb⟩ : Tab) _) ⟨rfl, rfl, fun _ _ => rfl, (fun _ _ _ _ h => by cases h), ChW.start ⟨XN.out.after (But.drew But.rfl), ((show After W1 W1.drew from But.drew But.rfl).block gb (blk_lt HG.out) (fun t => t)).trans HG.out⟩⟩ ?_ ?_
          · exact ⟨inv_move (.inl rfl) rfl rfl rfl rfl rfl rfl rfl rfl (ChW.keep (neB rfl) (neB rfl) (neB rfl) (neB rfl) (neB rfl) (neB rfl) (neB rfl)) rfl,
              inv_move (.inl rfl) rfl rfl rfl rfl rfl rfl rfl rfl (ChW.keep (neB rfl) (neB rfl) (neB rfl) (neB rfl) (neB rfl) (neB rfl) (neB rfl)) rfl,
              inv_nil rfl rfl rfl rfl rfl rfl rfl rfl rfl (ChW.keep (neB rfl) (neB rfl) (neB rfl) (neB rfl) (neB rfl) (neB rfl) (neB rfl)) rfl,
              inv_field rfl rfl rfl rfl rfl rfl rfl rfl rfl (ChW.keep (neB rfl) (neB rfl) (neB rfl) (neB rfl) (neB rfl) (neB rfl) (neB rfl)) rfl (fun w => fieldEx2 w _),
              inv_loadD rfl rfl rfl rfl rfl rfl rfl rfl rfl (ChW.keep (neB rfl) (neB rfl) (neB rfl) (neB rfl) (neB rfl) (neB rfl) (neB rfl)) rfl (fun L u w hl h => loadLk (blk_cell (lk_at1 hl h) (i := 2) rfl)),
              inv_index rfl rfl rfl rfl rfl rfl rfl rfl rfl (ChW.keep (neB rfl) (neB rfl) (neB rfl) (neB rfl) (neB rfl) (neB rfl) (neB rfl)) rfl rfl (fun w => indexP0 w _),
              inv_load rfl rfl rfl rfl rfl rfl rfl rfl rfl (ChW.keep (neB rfl) (neB rfl) (neB rfl) (neB rfl) (neB rfl) (neB rfl) (neB rfl)) rfl (fun L u w h => loadIn (blk_cell (lk_box h) (i := 0) rfl)),
              inv_index rfl rfl rfl rfl rfl rfl rfl rfl rfl (ChW.keep (neB rfl) (neB rfl) (neB rfl) (neB rfl) (neB rfl) (neB rfl) (neB rfl)) rfl rfl (fun w => indexP1 w _),
              inv_load rfl rfl rfl rfl rfl rfl rfl rfl rfl (ChW.keep (neB rfl) (neB rfl) (neB rfl) (neB rfl) (neB rfl) (neB rfl) (neB rfl)) rfl (fun L u w h => loadIn (blk_cell (lk_box h) (i := 1) rfl)),
              inv_gen (r := fun a => Instr.build 83 #[(0, a.eval (.tmp 55)), (1, a.eval (.tmp 57))]) rfl rfl rfl rfl rfl rfl rfl (fun a => by unfold execOp; simp) (fun a W L hv hd hl h => by
                rw [hv (.tmp 55) _ rfl, hv (.tmp 57) _ rfl]
                exact ⟨_, _, run_bLk _ _ W, (fun v7 h7 => by cases h7; rfl), ChW.call (neB rfl) (neB rfl) (neB rfl) h hl (h.ahead hl).1⟩),
              inv_gen (r := fun a => Instr.buildSlice 71 1 #[(0, a.eval (.tmp 58))]) rfl rfl rfl rfl rfl rfl rfl (fun a => by unfold execOp; simp) (fun a W L hv hd hl h => by
                rw [hv (.tmp 58) _ rfl]
                obtain ⟨n1, b1⟩ := h.p1 (hd 9 rfl) hl
                have aL := After.rfl (w := W) |>.alloc (.cells #[.int .i64 q.1, .int .i64 q.2, .int .i64 0, .bool false] 83)
                exact ⟨_, _, run_bsLk _ _ W, (fun v7 h7 => by cases h7), ChW.lit (neB rfl) (neB rfl) (neB rfl) h (hd 9 rfl) hl ⟨_, rfl, heap_alloc_new W _, n1.after aL, (aL.block gb (blk_lt b1) (fun t => t)).trans b1⟩⟩),
              inv_any rfl rfl rfl rfl rfl rfl rfl rfl (fun a W L K hv hd hl h hK => by
                obtain ⟨g2, eq, hq, n2, b2⟩ := h.p2 (hd 10 rfl) hl
                exact wp_appE (E := lkE) Try.underlying71 Try.infoLk rfl (.tmp 53) (.tmp 59) rfl (hv (.tmp 53) _ rfl) n2.oL eq (lit_row (xs := [(⟨q.1, q.2, none⟩ : Lk)]) hq rfl rfl) (by have := HN.out; unfold maxLen; omega) (by have := HN.out; omega) n2.aft.size (fun v3 w3 h1 h2 => hK _ _ (ChW.app (neB rfl) (neB rfl) (neB rfl) h (hd 10 rfl) (hd 4 rfl) hl ⟨⟨W, n2, h1, h2⟩, (h2.block gb (blk_lt b2) (own_farT n2.oL (by decide) b2)).trans b2⟩))),
              inv_nil rfl rfl rfl rfl rfl rfl rfl rfl rfl (ChW.keep (neB rfl) (neB rfl) (neB rfl) (neB rfl) (neB rfl) (neB rfl) (neB rfl)) rfl,
              inv_field rfl rfl rfl rfl rfl rfl rfl rfl rfl (ChW.keep (neB rfl) (neB rfl) (neB rfl) (neB rfl) (neB rfl) (neB rfl) (neB rfl)) rfl (fun w => fieldEx2 w _),
              inv_end rfl rfl rfl rfl rfl rfl (fun L a W hv hd hl h => by
                obtain ⟨h3, b3⟩ := h.p3 (hd 11 rfl) hl
                rw [hv (.tmp 62) _ rfl]
                have n4 := h3.land
                obtain ⟨aq, nq, cq, eq⟩ := airL_slice h3
                have c1 := blk_cell h3.at1 (i := 2) rfl
                have s1 := blk_soft h3.at1 2
                have gp : gb ≠ p := fun e => by
                  have := h3.at1
                  rw [← e, b3] at this
                  simp at this
                refine ⟨W.setCell ⟨p, 2, none⟩ (a.eval (.tmp 60)), ?_, ChW.store (neB rfl) (neB rfl) (neB rfl) h (hd 11 rfl) ⟨⟨_, n4⟩, ((but_one W p 2 _).block gb (blk_lt b3) (fun e => gp e)).trans b3⟩⟩
                rw [show a.eval (.tmp 60) = _ from eq]
                exact storeLk c1 s1),
              trivial⟩
          · intro a7 w7 L7 hL7 J7
            have e7 := J7.fin hL7 rfl
            have W7 := J7.other
            have h7 := W7.p4 (hL7 14 (Nat.le_of_ble_eq_true rfl))
            clear J7 W7
            rw [e7]
            clear e7
            generalize hv7 : Tab.u _ a7 = U7 at *
            simp only [Tab.puts, List.getD_cons_succ, List.getD_cons_zero, Option.getD_some, Option.getD_none, List.setIfInBounds_toArray, List.set_cons_succ, List.set_cons_zero, List.set_nil]
            clear hv7 hL7
            obtain ⟨⟨v7, n7⟩, _⟩ := h7
            rw [← HM.out] at n7
            have H7 := hideIt n7
            clear n7
            generalize U7 10 = u10
            generalize U7 11 = u11
            clear U7 a7
            go_wp2_with fail
            go_roundw
            case rel => exact ⟨k + 1, v7, by omega, by go_num, H7.out⟩
            case measure => simp [intOf]; omega
        · have i7 : ¬ (k : Int) < (lk.length : Int) := by omega
          rw [List.take_of_length_le (by omega)] at nw
          have XN := hideIt nw
          clear nw
          go_wp2_with fail
          go_ret2
          exact ⟨p, vF, vS, lv, fws, rfl, XN.out, XF.out.1⟩
end Go.Proofs.Ytkjjjibglaffnaa
