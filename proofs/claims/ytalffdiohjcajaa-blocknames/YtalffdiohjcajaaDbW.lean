/-
  The document's New: its loop, itself.
-/
import Derived.Test.YtalffdiohjcajaaDbV
namespace Go.Proofs.Ytalffdiohjcajaa.Iv
open Go.RowKit
set_option maxRecDepth 8000
theorem run_bsSl (b c : Nat) (w : World) : (Instr.buildSlice 58 1 #[(0, .slice (some ⟨b, 0, none⟩) 64 c)]).run Try.prog w = .ok (.slice (some ⟨w.heap.size, 0, none⟩) 1 1) (w.alloc (.cells #[.slice (some ⟨b, 0, none⟩) 64 c] 38)) := by
  simp [Instr.buildSlice, go_sem]
theorem storeSs {w : World} {a : Addr} {y : Value} (h : w.cell? a = some y) (f : w.frozen? a = false) (g n c : Nat) : (Instr.storeAt 58 (.pointer (some a)) (.slice (some ⟨g, 0, none⟩) n c)).run Try.prog w = .ok () (w.setCell a (.slice (some ⟨g, 0, none⟩) n c)) := by
  simp [go_sem, h, f]
/-- What is answered: a device, and its rows. -/
def NewSays (w : World) (N : Nat) (r : Ending) (w' : World) : Prop := ∃ (g ht : Nat) (vk vl : Value) (ks ls : List SlB), r = .returned (.tuple #[Ptr g, .int .i64 0]) ∧ Nw w w' g ht N vk vl vk vl ks ls ∧ ks.length = N ∧ ls.length = N
theorem Try.infoBl : (Try.prog.info? 4).map (fun i => (i.zero, i.size, i.bytes)) = some (some (.bool false), 1, 1) := by kernel_rfl
set_option maxHeartbeats 2000000 in
theorem rvNew_any (w : World) (N : Nat) (h0 : 1 ≤ N) (h1 : N ≤ 256) : Calls Try.prog 9 #[.int .i64 N] w fun e w' => NewSays w N e w' := by
  obtain ⟨i0, hi, hz0, hz1, hz2⟩ := info_parts Try.infoBl
  have e1 : ((N : Int)).toNat = N := by omega
  have hm := run_make (P := Try.prog) w 57 4 i0 (.bool false) Try.underlying57 hi hz0 .i64 .i64 N N (by omega) (by omega) (by rw [hz2]; omega) (by omega)
  rw [e1, hz1] at hm
  obtain ⟨V1, hV1⟩ : ∃ V, V = w.alloc (.cells (madeCells (Value.bool false).cells (N * 1)) 4) := ⟨_, rfl⟩
  rw [← hV1] at hm
  have s1 : V1.heap.size = w.heap.size + 1 := by rw [hV1]; simp
  have k1 : V1.heap[w.heap.size]? = some (.cells (madeCells (Value.bool false).cells (N * 1)) 4 (0, 0)) := by rw [hV1]; exact heap_alloc_new w _
  have a1 : After w V1 := by rw [hV1]; exact After.rfl.alloc _
  have b1 : BRow V1 w.heap.size N (fun _ => false) := ⟨_, k1, by rw [size_madeCells]; omega, fun i hi => by
    unfold madeCells
    rw [Array.getElem?_map, Array.getElem?_range, if_pos (by omega)]
    simp [Value.cells, Nat.mod_one]⟩
  have n0 : Nw w (V1.alloc (.cells (nwC (.slice none 0 0) (.slice none 0 0) w.heap.size N) 60)) V1.heap.size w.heap.size N (.slice none 0 0) (.slice none 0 0) (.slice none 0 0) (.slice none 0 0) [] [] := by
    have a2 : After V1 (V1.alloc (.cells (nwC (.slice none 0 0) (.slice none 0 0) w.heap.size N) 60)) := After.rfl.alloc _
    exact ⟨a1.trans a2, heap_alloc_new V1 _, b1.but a2 (fun t => t), orow_nil slE _ _ _, orow_nil slE _ _ _, (fun x hx => by cases hx), (fun x hx => by cases hx), (fun k hk => by cases hk), (fun k hk => by cases hk), (fun k hk => by cases hk), by omega, Nat.le_refl _⟩
  have H0 := hideIt n0
  clear hV1 s1 k1 a1 b1 n0 hi hz0 hz1 hz2 e1
  have i1 : ¬ (N : Int) < 1 := by omega
  have i2 : ¬ (256 : Int) < N := by omega
  generalize hht : w.heap.size = ht at hm H0
  go_enter Try.func9, Try.ntmps9
  go_wp2_with fail
  generalize hee : V1.heap.size = e at *
  go_loopw [5] (fun iv wr => ∃ (j : Nat) (vk vl : Value) (ks ls : List SlB), j ≤ N ∧ iv = .int .i64 j ∧ ks.length = j ∧ ls.length = j ∧ Nw w wr e ht N vk vl vk vl ks ls) (fun iv _ => N - (intOf iv).toNat)
  case atStart => exact ⟨0, _, _, [], [], Nat.zero_le _, rfl, rfl, rfl, H0.out⟩
  case round =>
    obtain ⟨j, vk, vl, ks, ls, hj, rfl, hk, hl, nw⟩ := hrel
    clear H0
    by_cases hjn : j < N
    · have i3 : (j : Int) < (N : Int) := by omega
      have HKL := hideIt (And.intro hk hl)
      have HL := hideIt (show ks.length ≤ 256 by omega)
      have HN := hideIt nw
      clear nw hk hl
      go_upto_region 7 with fail
      refine region_inv (by kernel_rfl) (Tab.J (⟨11, fun i => [21, 22, 23, 24, 25, 26, 27, 28, 29, 30, 900].getD i 0, fun i => ([some (Ptr e), some (Ptr e), some (Ptr e), some (Ptr e), some vk, none, none, none, some (Ptr e), some (Ptr e), none] : List (Option Value)).getD i none, ChW 5 6 7 10 4 (fun V => Nw w V e ht N vk vl vk vl ks ls) (fun v V => Nw w V e ht N vk vl vk vl ks ls ∧ ∃ b, v = .slice (some ⟨b, 0, none⟩) 64 64 ∧ ZAt V b ∧ w.heap.size ≤ b) (fun v V => ∃ q b, v = .slice (some ⟨q, 0, none⟩) 1 1 ∧ Nw w V e ht N vk vl vk vl ks ls ∧ V.heap[q]? = some (.cells #[.slice (some ⟨b, 0, none⟩) 64 64] 38 (0, 0)) ∧ ZAt V b ∧ w.heap.size ≤ b) (fun v V => ∃ (g cap : Nat) (x : SlB), v = .slice (some ⟨g, 0, none⟩) (ks.length + 1) cap ∧ Nw w V e ht N vk vl v vl (ks ++ [x]) ls) (fun V => ∃ (g cap : Nat) (x : SlB), Nw w V e ht N (.slice (some ⟨g, 0, none⟩) (ks.length + 1) cap) vl (.slice (some ⟨g, 0, none⟩) (ks.length + 1) cap) vl (ks ++ [x]) ls)⟩ : Tab) _) ⟨rfl, rfl, fun _ _ => rfl, (fun _ _ _ _ h => by cases h), ChW.start (HN.out.after (But.drew But.rfl))⟩ ?_ ?_
      · exact ⟨inv_move (.inl rfl) rfl rfl rfl rfl rfl rfl rfl rfl (ChW.keep (neB rfl) (neB rfl) (neB rfl) (neB rfl) (neB rfl) (neB rfl) (neB rfl)) rfl,
          inv_move (.inl rfl) rfl rfl rfl rfl rfl rfl rfl rfl (ChW.keep (neB rfl) (neB rfl) (neB rfl) (neB rfl) (neB rfl) (neB rfl) (neB rfl)) rfl,
          inv_nil rfl rfl rfl rfl rfl rfl rfl rfl rfl (ChW.keep (neB rfl) (neB rfl) (neB rfl) (neB rfl) (neB rfl) (neB rfl) (neB rfl)) rfl,
          inv_field rfl rfl rfl rfl rfl rfl rfl rfl rfl (ChW.keep (neB rfl) (neB rfl) (neB rfl) (neB rfl) (neB rfl) (neB rfl) (neB rfl)) rfl (fun w => fieldRv w _),
          inv_loadD rfl rfl rfl rfl rfl rfl rfl rfl rfl (ChW.keep (neB rfl) (neB rfl) (neB rfl) (neB rfl) (neB rfl) (neB rfl) (neB rfl)) rfl (fun L u V hl h => loadSs (h.early hl (fun a => blk_cell a.at0 (i := 0) rfl) (fun v a => blk_cell a.1.at0 (i := 0) rfl) (fun v ⟨_, _, _, a⟩ => blk_cell a.1.at0 (i := 0) rfl))),
          inv_gen (r := fun a => Instr.makeSlice 38 (.int .i64 64) (.int .i64 64)) rfl rfl rfl rfl rfl rfl rfl (fun a => by unfold execOp; rfl) (fun a V L hv hd hl h => by
            have n0 := (h.ahead hl).1
            have aV : After V (V.alloc (.cells (u8s sec0).toArray 5)) := After.rfl.alloc _
            exact ⟨_, _, make64 V, (fun v7 h7 => by cases h7), ChW.call (neB rfl) (neB rfl) (neB rfl) h hl ⟨n0.after aV, V.heap.size, rfl, heap_alloc_new V _, n0.aft.size⟩⟩),
          inv_gen (r := fun a => Instr.buildSlice 58 1 #[(0, a.eval (.tmp 26))]) rfl rfl rfl rfl rfl rfl rfl (fun a => by unfold execOp; simp) (fun a V L hv hd hl h => by
            obtain ⟨n1, b, eb, zb, hb⟩ := h.p1 (hd 5 rfl) hl
            rw [show a.eval (.tmp 26) = _ from eb]
            have aV : After V (V.alloc (.cells #[.slice (some ⟨b, 0, none⟩) 64 64] 38)) := After.rfl.alloc _
            exact ⟨_, _, run_bsSl _ _ V, (fun v7 h7 => by cases h7), ChW.lit (neB rfl) (neB rfl) (neB rfl) h (hd 5 rfl) hl ⟨V.heap.size, b, rfl, n1.after aV, heap_alloc_new V _, After.at aV zb, hb⟩⟩),
          inv_any rfl rfl rfl rfl rfl rfl rfl rfl (fun a V L K hv hd hl h hK => by
            obtain ⟨q, b, eq, n2, hq, zb, hb⟩ := h.p2 (hd 6 rfl) hl
            exact wp_lieE (E := slE) (.tmp 25) (.tmp 27) 58 38 Try.underlying58 Try.infoSl rfl (by decide) rfl vk ks (hv (.tmp 25) _ rfl) n2.ok ⟨q, 0, none⟩ 1 (SlB.mk b 64) eq (lit_row (xs := [SlB.mk b 64]) hq rfl rfl) (by have := HL.out; omega) (fun g cap w3 h1 h2 h3 _ => hK _ _ (ChW.app (neB rfl) (neB rfl) (neB rfl) h (hd 6 rfl) (hd 4 rfl) hl ⟨g, cap, SlB.mk b 64, rfl, n2.appK zb hb h1 h2 h3⟩))),
          inv_nil rfl rfl rfl rfl rfl rfl rfl rfl rfl (ChW.keep (neB rfl) (neB rfl) (neB rfl) (neB rfl) (neB rfl) (neB rfl) (neB rfl)) rfl,
          inv_field rfl rfl rfl rfl rfl rfl rfl rfl rfl (ChW.keep (neB rfl) (neB rfl) (neB rfl) (neB rfl) (neB rfl) (neB rfl) (neB rfl)) rfl (fun w => fieldRv w _),
          inv_end rfl rfl rfl rfl rfl rfl (fun L a V hv hd hl h => by
            obtain ⟨g, cap, x, ev, n3⟩ := h.p3 (hd 7 rfl) hl
            rw [ev] at n3
            rw [hv (.tmp 30) _ rfl]
            have c1 := blk_cell n3.at0 (i := 0) (v := vk) rfl
            have s1 := blk_soft n3.at0 0
            refine ⟨V.setCell ⟨e, 0, none⟩ (a.eval (.tmp 28)), ?_, ChW.store (neB rfl) (neB rfl) (neB rfl) h (hd 7 rfl) ⟨g, cap, x, n3.set 0 (a.eval (.tmp 28)) (by rw [show a.eval (.tmp 28) = _ from ev]; rfl)⟩⟩
            rw [show a.eval (.tmp 28) = _ from ev]
            exact storeSs c1 s1 _ _ _),
          trivial⟩
      · intro a7 w7 L7 hL7 J7
        have e7 := J7.fin hL7 rfl
        have W7 := J7.other
        have h7 := W7.p4 (hL7 10 (Nat.le_of_ble_eq_true rfl))
        clear J7 W7
        rw [e7]
        clear e7
        generalize hv7 : Tab.u _ a7 = U7 at *
        simp only [Tab.puts, List.getD_cons_succ, List.getD_cons_zero, Option.getD_some, Option.getD_none, List.setIfInBounds_toArray, List.set_cons_succ, List.set_cons_zero, List.set_nil]
        clear hv7 hL7
        obtain ⟨g1, cap1, x1, n7⟩ := h7
        have HN := hideIt n7
        have HL := hideIt (show ls.length ≤ 256 by have := HKL.out.2; omega)
        clear n7
        have HK1 := hideIt (show (ks ++ [x1]).length = j + 1 by rw [List.length_append, HKL.out.1]; rfl)
        generalize (Value.slice (some ⟨g1, 0, none⟩) (ks.length + 1) cap1) = vk1 at *
        generalize ks ++ [x1] = ks1 at *
        go_upto_region 8 with fail
        refine region_inv (by kernel_rfl) (Tab.J (⟨11, fun i => [31, 32, 33, 34, 35, 36, 37, 38, 39, 40, 900].getD i 0, fun i => ([some (Ptr e), some (Ptr e), some (Ptr e), some (.pointer (some ⟨e, 1, none⟩)), some vl, none, none, none, some (Ptr e), some (.pointer (some ⟨e, 1, none⟩)), none] : List (Option Value)).getD i none, ChW 5 6 7 10 4 (fun V => Nw w V e ht N vk1 vl vk1 vl ks1 ls) (fun v V => Nw w V e ht N vk1 vl vk1 vl ks1 ls ∧ ∃ b, v = .slice (some ⟨b, 0, none⟩) 64 64 ∧ ZAt V b ∧ w.heap.size ≤ b) (fun v V => ∃ q b, v = .slice (some ⟨q, 0, none⟩) 1 1 ∧ Nw w V e ht N vk1 vl vk1 vl ks1 ls ∧ V.heap[q]? = some (.cells #[.slice (some ⟨b, 0, none⟩) 64 64] 38 (0, 0)) ∧ ZAt V b ∧ w.heap.size ≤ b) (fun v V => ∃ (g cap : Nat) (x : SlB), v = .slice (some ⟨g, 0, none⟩) (ls.length + 1) cap ∧ Nw w V e ht N vk1 vl vk1 v ks1 (ls ++ [x])) (fun V => ∃ (g cap : Nat) (x : SlB), Nw w V e ht N vk1 (.slice (some ⟨g, 0, none⟩) (ls.length + 1) cap) vk1 (.slice (some ⟨g, 0, none⟩) (ls.length + 1) cap) ks1 (ls ++ [x]))⟩ : Tab) _) ⟨rfl, rfl, fun _ _ => rfl, (fun _ _ _ _ h => by cases h), ChW.start (HN.out.after (But.drew But.rfl))⟩ ?_ ?_
        · exact ⟨inv_move (.inl rfl) rfl rfl rfl rfl rfl rfl rfl rfl (ChW.keep (neB rfl) (neB rfl) (neB rfl) (neB rfl) (neB rfl) (neB rfl) (neB rfl)) rfl,
            inv_move (.inl rfl) rfl rfl rfl rfl rfl rfl rfl rfl (ChW.keep (neB rfl) (neB rfl) (neB rfl) (neB rfl) (neB rfl) (neB rfl) (neB rfl)) rfl,
            inv_nil rfl rfl rfl rfl rfl rfl rfl rfl rfl (ChW.keep (neB rfl) (neB rfl) (neB rfl) (neB rfl) (neB rfl) (neB rfl) (neB rfl)) rfl,
            inv_field rfl rfl rfl rfl rfl rfl rfl rfl rfl (ChW.keep (neB rfl) (neB rfl) (neB rfl) (neB rfl) (neB rfl) (neB rfl) (neB rfl)) rfl (fun w => fieldRv1 w _),
            inv_loadD rfl rfl rfl rfl rfl rfl rfl rfl rfl (ChW.keep (neB rfl) (neB rfl) (neB rfl) (neB rfl) (neB rfl) (neB rfl) (neB rfl)) rfl (fun L u V hl h => loadSs (h.early hl (fun a => blk_cell a.at0 (i := 1) rfl) (fun v a => blk_cell a.1.at0 (i := 1) rfl) (fun v ⟨_, _, _, a⟩ => blk_cell a.1.at0 (i := 1) rfl))),
            inv_gen (r := fun a => Instr.makeSlice 38 (.int .i64 64) (.int .i64 64)) rfl rfl rfl rfl rfl rfl rfl (fun a => by unfold execOp; rfl) (fun a V L hv hd hl h => by
              have n0 := (h.ahead hl).1
              have aV : After V (V.alloc (.cells (u8s sec0).toArray 5)) := After.rfl.alloc _
              exact ⟨_, _, make64 V, (fun v7 h7 => by cases h7), ChW.call (neB rfl) (neB rfl) (neB rfl) h hl ⟨n0.after aV, V.heap.size, rfl, heap_alloc_new V _, n0.aft.size⟩⟩),
            inv_gen (r := fun a => Instr.buildSlice 58 1 #[(0, a.eval (.tmp 36))]) rfl rfl rfl rfl rfl rfl rfl (fun a => by unfold execOp; simp) (fun a V L hv hd hl h => by
              obtain ⟨n1, b, eb, zb, hb⟩ := h.p1 (hd 5 rfl) hl
              rw [show a.eval (.tmp 36) = _ from eb]
              have aV : After V (V.alloc (.cells #[.slice (some ⟨b, 0, none⟩) 64 64] 38)) := After.rfl.alloc _
              exact ⟨_, _, run_bsSl _ _ V, (fun v7 h7 => by cases h7), ChW.lit (neB rfl) (neB rfl) (neB rfl) h (hd 5 rfl) hl ⟨V.heap.size, b, rfl, n1.after aV, heap_alloc_new V _, After.at aV zb, hb⟩⟩),
            inv_any rfl rfl rfl rfl rfl rfl rfl rfl (fun a V L K hv hd hl h hK => by
              obtain ⟨q, b, eq, n2, hq, zb, hb⟩ := h.p2 (hd 6 rfl) hl
              exact wp_lieE (E := slE) (.tmp 35) (.tmp 37) 58 38 Try.underlying58 Try.infoSl rfl (by decide) rfl vl ls (hv (.tmp 35) _ rfl) n2.ol ⟨q, 0, none⟩ 1 (SlB.mk b 64) eq (lit_row (xs := [SlB.mk b 64]) hq rfl rfl) (by have := HL.out; omega) (fun g cap w3 h1 h2 h3 _ => hK _ _ (ChW.app (neB rfl) (neB rfl) (neB rfl) h (hd 6 rfl) (hd 4 rfl) hl ⟨g, cap, SlB.mk b 64, rfl, n2.appL zb hb h1 h2 h3⟩))),
            inv_nil rfl rfl rfl rfl rfl rfl rfl rfl rfl (ChW.keep (neB rfl) (neB rfl) (neB rfl) (neB rfl) (neB rfl) (neB rfl) (neB rfl)) rfl,
            inv_field rfl rfl rfl rfl rfl rfl rfl rfl rfl (ChW.keep (neB rfl) (neB rfl) (neB rfl) (neB rfl) (neB rfl) (neB rfl) (neB rfl)) rfl (fun w => fieldRv1 w _),
            inv_end rfl rfl rfl rfl rfl rfl (fun L a V hv hd hl h => by
              obtain ⟨g, cap, x, ev, n3⟩ := h.p3 (hd 7 rfl) hl
              rw [ev] at n3
              rw [hv (.tmp 40) _ rfl]
              have c1 := blk_cell n3.at0 (i := 1) (v := vl) rfl
              have s1 := blk_soft n3.at0 1
              refine ⟨V.setCell ⟨e, 1, none⟩ (a.eval (.tmp 38)), ?_, ChW.store (neB rfl) (neB rfl) (neB rfl) h (hd 7 rfl) ⟨g, cap, x, n3.set 1 (a.eval (.tmp 38)) (by rw [show a.eval (.tmp 38) = _ from ev]; rfl)⟩⟩
              rw [show a.eval (.tmp 38) = _ from ev]
              exact storeSs c1 s1 _ _ _),
            trivial⟩
        · intro a7 w7 L7 hL7 J7
          have e7 := J7.fin hL7 rfl
          have W7 := J7.other
          have h7 := W7.p4 (hL7 10 (Nat.le_of_ble_eq_true rfl))
          clear J7 W7
          rw [e7]
          clear e7
          generalize hv7 : Tab.u _ a7 = U7 at *
          simp only [Tab.puts, List.getD_cons_succ, List.getD_cons_zero, Option.getD_some, Option.getD_none, List.setIfInBounds_toArray, List.set_cons_succ, List.set_cons_zero, List.set_nil]
          clear hv7 hL7
          obtain ⟨g2, cap2, x2, n7⟩ := h7
          have HN2 := hideIt n7
          clear n7
          go_wp2_with fail
          exact ⟨⟨j + 1, _, _, _, _, by omega, by simp, HK1.out, by rw [List.length_append, HKL.out.2]; rfl, HN2.out⟩, by simp [intOf]; omega⟩
    · have i3 : ¬ (j : Int) < (N : Int) := by omega
      have hjN : j = N := by omega
      have HN := hideIt (And.intro nw (And.intro (hk.trans hjN) (hl.trans hjN)))
      clear nw hk hl hjN
      go_wp2_with fail
      go_ret2
      exact ⟨e, ht, _, _, _, _, rfl, HN.out.1, HN.out.2.1, HN.out.2.2⟩
theorem rvNew_no (w : World) (n : Int) (h : n < 1 ∨ 256 < n) : Calls Try.prog 9 #[.int .i64 n] w fun e w' => e = .returned (.tuple #[.pointer none, .int .i64 2]) ∧ w' = w := by
  by_cases a1 : n < 1
  · go_enter Try.func9, Try.ntmps9
    go_wp2
    go_ret2
    exact ⟨rfl, rfl⟩
  have a2 : 256 < n := by omega
  clear h
  go_enter Try.func9, Try.ntmps9
  go_wp2
  go_ret2
  exact ⟨rfl, rfl⟩
end Go.Proofs.Ytalffdiohjcajaa.Iv
