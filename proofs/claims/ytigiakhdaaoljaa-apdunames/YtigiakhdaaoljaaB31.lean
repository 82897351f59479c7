/-
  Laid together: LawNames.
-/
import Derived.Test.YtigiakhdaaoljaaB30
import Derived.Test.YtigiakhdaaoljaaB21
import Derived.Test.YtigiakhdaaoljaaB27
import Derived.Deep.Cut
/-
  The walk of ApduNames.
-/
namespace Go.Proofs.Ytigiakhdaaoljaa
open Go.RowKit
def many0 : Array Value := (cells3 ((List.replicate 17 (⟨0, 0, false⟩ : Ob)).map Ob.t3)).toArray
theorem make_17 (w : World) : (Instr.makeSlice 23 (.int .i64 17) (.int .i64 17)).run Try.prog w = .ok (.slice (some ⟨w.heap.size, 0, none⟩) 17 17) (w.alloc (.cells many0 42)) := make_os w 17 (by decide)
theorem many_set : ∀ (l : List Ob) (m : Nat) (z : Int), m < l.length → ∃ l' : List Ob, l'.length = l.length ∧ (cells3 (l.map Ob.t3)).set (m * 3) (.int .i64 z) = cells3 (l'.map Ob.t3)
  | [], m, z, h => absurd h (by simp)
  | o :: r, 0, z, _ => ⟨⟨z, o.u, o.l⟩ :: r, rfl, rfl⟩
  | o :: r, m + 1, z, h => by
    obtain ⟨l', e1, e2⟩ := many_set r m z (by simpa using h)
    refine ⟨o :: l', by simp [e1], ?_⟩
    rw [show (m + 1) * 3 = m * 3 + 3 by omega]
    show _ :: _ :: _ :: (cells3 (r.map Ob.t3)).set (m * 3) _ = _
    rw [e2]; rfl
def Many (W : World) (g : Nat) (l : List Ob) : Prop := W.heap[g]? = some (.cells (cells3 (l.map Ob.t3)).toArray 42 (0, 0))
theorem Many.at {W : World} {g : Nat} {l : List Ob} (h : Many W g l) {m : Nat} (hm : m < l.length) : ∃ z, W.cell? ⟨g, m * 3, none⟩ = some (.int .i64 z) ∧ W.frozen? ⟨g, m * 3, none⟩ = false := by
  have e := (cells3_at (l.map Ob.t3) m (l[m]).t3 (by simp [hm])).1
  exact ⟨(l[m]).h, by rw [cell_blk h]; exact e, frozen_blk h _⟩
theorem Many.put {W : World} {g : Nat} {l : List Ob} (h : Many W g l) {m : Nat} (hm : m < l.length) (z : Int) : ∃ l' : List Ob, l'.length = l.length ∧ Many (W.setCell ⟨g, m * 3, none⟩ (.int .i64 z)) g l' := by
  obtain ⟨l', e1, e2⟩ := many_set l m z hm
  refine ⟨l', e1, ?_⟩
  unfold Many
  rw [blk_set h, e2]
theorem Many.kos {W : World} {g : Nat} {l : List Ob} (h : Many W g l) (hl : l.length = 17) : KOs W (.slice (some ⟨g, 0, none⟩) 17 17) 17 := by
  have r := RowT.of h
  rw [List.length_map, hl] at r
  exact ⟨_, _, l, rfl, r, (fun e => by cases e), (fun y hy => by cases hy; exact ⟨_, _, _, h, by decide, by decide⟩), by decide, by decide⟩
theorem wait_lt {o : Oper} {n i : Nat} (h : o.after.toList.all (fun e => decide (e.on < n)) = true) (hw : wait o i = true) : i < n := by
  unfold wait at hw
  obtain ⟨e, he, hb⟩ := List.any_eq_true.1 hw
  simp only [Bool.and_eq_true, beq_iff_eq] at hb
  rw [← hb.1]
  exact of_decide_eq_true (List.all_eq_true.1 h e he)
theorem KBy.apart {S : Nat → Prop} {w w' : World} {v : Value} {n : Nat} (h : KBy w v n) (b : But S w w') (hs : ∀ k, v.ownBlock = some k → ¬ S k) : KBy w' v n := by
  obtain ⟨a, c, zs, rfl, r, ha, hf, r2⟩ := h
  exact ⟨a, c, zs, rfl, r.but b (fun x hx t => hs x.block (by subst hx; rfl) t), ha, fun y hy => (hf y hy).but b (fun t => hs _ (by subst hy; rfl) t), r2⟩
theorem LM.form {B : Nat} {w : World} {v : Value} {n : Nat} (h : LM B w v n) (hn : 0 < n) : ∃ g cap, v = .slice (some ⟨g, 0, none⟩) n cap := by
  obtain ⟨vs, _, _, own⟩ := h
  rcases own.2 with ⟨_, e⟩ | ⟨g, cap, cur, e, _⟩
  · omega
  · exact ⟨g, cap, e⟩
theorem LB.form {B : Nat} {w : World} {v : Value} {n : Nat} (h : LB B w v n) (hn : 0 < n) : ∃ g cap, v = .slice (some ⟨g, 0, none⟩) n cap := by
  obtain ⟨vs, _, _, own⟩ := h
  rcases own.2 with ⟨_, e⟩ | ⟨g, cap, cur, e, _⟩
  · omega
  · exact ⟨g, cap, e⟩
/-- One of the messages. -/
theorem LM.at {B : Nat} {w : World} {g n cap : Nat} (h : LM B w (.slice (some ⟨g, 0, none⟩) n cap) n) {i : Nat} (hi : i < n) : ∃ x, GM w x ∧ ∀ j, j < 7 → w.cell? ⟨g, i * 7 + j, none⟩ = x.cells[j]? := by
  obtain ⟨vs, h1, h2, own⟩ := h
  have hx : vs[i] ∈ vs := List.getElem_mem (by omega)
  refine ⟨vs[i], h2 _ hx, fun j hj => ?_⟩
  rw [own.cellAt _ (by omega)]
  unfold flat
  rw [Great.flat_get (by decide : 0 < 7) vs (fun v hv => (h2 v hv).seven.1), show (i * 7 + j) / 7 = i by omega, show (i * 7 + j) % 7 = j by omega, List.getElem?_eq_getElem (by omega : i < vs.length)]
  rfl
theorem LB.at {B : Nat} {w : World} {g n cap : Nat} (h : LB B w (.slice (some ⟨g, 0, none⟩) n cap) n) {i : Nat} (hi : i < n) : ∃ x m, KBy w x m ∧ w.cell? ⟨g, i, none⟩ = some x := by
  obtain ⟨vs, h1, h2, own⟩ := h
  have hx : vs[i] ∈ vs := List.getElem_mem (by omega)
  obtain ⟨m, hm⟩ := h2 _ hx
  refine ⟨vs[i], m, hm, ?_⟩
  rw [own.cellAt _ (by omega)]
  simp
set_option maxRecDepth 100000 in
set_option maxHeartbeats 4000000 in
theorem law_names (w : World) : Calls Try.prog 8 #[] w fun e w' => e = .returned (.bool true) ∧ After w w' := by
  have mk := make_17
  go_enter Try.func8, Try.ntmps8
  go_wp2_with fail
  clear mk
  go_loopw [3] (fun i W => ∃ (m : Nat) (l : List Ob), m ≤ 17 ∧ i = .int .i64 m ∧ l.length = 17 ∧ Many W (w.heap.size + 1) l ∧ KBy W (.slice (some ⟨w.heap.size, 0, none⟩) 8 8) 8 ∧ After w W) (fun i _ => 17 - (intOf i).toNat)
  case atStart =>
    refine ⟨0, List.replicate 17 ⟨0, 0, false⟩, by omega, rfl, by simp, ?_, ?_, (After.rfl.alloc _).alloc _⟩
    · have h := heap_alloc_new (w.alloc (Obj.cells #[Value.int IntKind.u8 1, Value.int IntKind.u8 2, Value.int IntKind.u8 3, Value.int IntKind.u8 4, Value.int IntKind.u8 5, Value.int IntKind.u8 6, Value.int IntKind.u8 7, Value.int IntKind.u8 8] 5)) (.cells many0 42)
      rw [show (w.alloc (Obj.cells #[Value.int IntKind.u8 1, Value.int IntKind.u8 2, Value.int IntKind.u8 3, Value.int IntKind.u8 4, Value.int IntKind.u8 5, Value.int IntKind.u8 6, Value.int IntKind.u8 7, Value.int IntKind.u8 8] 5)).heap.size = w.heap.size + 1 by simp] at h
      exact h
    · have r := lit_row w [1, 2, 3, 4, 5, 6, 7, 8] #[Value.int IntKind.u8 1, Value.int IntKind.u8 2, Value.int IntKind.u8 3, Value.int IntKind.u8 4, Value.int IntKind.u8 5, Value.int IntKind.u8 6, Value.int IntKind.u8 7, Value.int IntKind.u8 8] 8 rfl rfl (bs_of _ (by decide))
      have k : KBy _ _ 8 := ⟨_, 8, _, rfl, r, (fun e => by cases e), (fun y hy => by cases hy; exact Fl.new (by decide) (by decide)), by decide, by decide⟩
      exact k.but (After.rfl.alloc _) (hard_none _)
  case round =>
    obtain ⟨m, l, hm, rfl, hl, hM, hK, hA⟩ := hrel
    have HM := hideIt hM
    have HK := hideIt hK
    have HA := hideIt hA
    have HL := hideIt hl
    clear hM hK hA hl
    by_cases hlt : m < 17
    · have hmi : (m : Int) < 17 := by omega
      obtain ⟨z, c0, f0⟩ := HM.out.at (m := m) (by rw [HL.out]; exact hlt)
      go_wp2_with fail
      go_roundw
      case rel =>
        obtain ⟨l', e1, e2⟩ := HM.out.put (m := m) (by rw [HL.out]; exact hlt) (m : Int)
        refine ⟨m + 1, l', by omega, by go_num, by rw [e1, HL.out], e2, HK.out.apart (S := One (w.heap.size + 1)) (But.set (S := One (w.heap.size + 1)) But.rfl ⟨w.heap.size + 1, m * 3, none⟩ (fun _ => by unfold One; rfl) _) (fun k hk t => ?_), HA.out.set _ (by show w.heap.size ≤ w.heap.size + 1; omega) _⟩
        cases hk
        have t' : w.heap.size = w.heap.size + 1 := t
        omega
      case measure => simp [intOf]; omega
    · obtain rfl : m = 17 := by omega
      clear hlt hm
      go_upto_region 7 with fail
      refine wp_cut (Bas w [(1, (0, 8)), (2, (1, 17)), (4, (6, 9))]) ?rest ?first
      case first =>
        intro J K' h1 h2
        have hq : ∀ a2 w2, Bas w [(1, (0, 8)), (2, (1, 17)), (4, (6, 9))] a2 w2 → K' a2 w2 := fun a2 w2 hb => h2 _ _ (h1 _ _ hb)
        clear h1 h2
        refine region_line (TT w.heap.size [(5, 0), (5, 0), (5, 0), (5, 0), (5, 0), (5, 0), (5, 0), (5, 0), (0, 8), (5, 0)]) (DD 21) (Bas w [(1, (0, 8)), (2, (1, 17))]) 10 157 _ _ rfl rfl rfl rfl (fun i v w w' h hA => Holds.after h hA) (fun i j _ _ h => by unfold DD at h; omega) (fun i hi => by unfold DD; omega) (fun a w k v w' _ hb hk hA => hb.put (by unfold DD; omega) (fun f hf => by simp only [List.mem_cons, List.not_mem_nil, or_false] at hf; rcases hf with rfl | rfl <;> unfold DD <;> dsimp only <;> omega) hA) ⟨rfl, rfl, HA.out, fun f hf => by simp only [List.mem_cons, List.not_mem_nil, or_false] at hf; rcases hf with rfl | rfl; exact HK.out; exact HM.out.kos HL.out⟩ ?_ rfl rfl ?_
        · exact ⟨ok_msg rfl rfl rfl rfl rfl rfl,
            ok_msg rfl rfl rfl rfl rfl rfl,
            ok_msg rfl rfl rfl rfl rfl rfl,
            ok_msg rfl rfl rfl rfl rfl rfl,
            ok_msg rfl rfl rfl rfl rfl rfl,
            ok_msg rfl rfl rfl rfl rfl rfl,
            ok_msg rfl rfl rfl rfl rfl rfl,
            ok_msg rfl rfl rfl rfl rfl rfl,
            ok_base 1 rfl (fun a w hb => hb.2.2.2 (1, (0, 8)) List.mem_cons_self) rfl rfl rfl,
            ok_msg rfl rfl rfl rfl rfl rfl,
            trivial⟩
        · intro a' w' hs hT hb
          intro K hK
          exact list_lm (L := [(5, 0), (5, 0), (5, 0), (5, 0), (5, 0), (5, 0), (5, 0), (5, 0), (0, 8), (5, 0)]) (d := 21) [.tmp 21, .tmp 22, .tmp 23, .tmp 24, .tmp 25, .tmp 26, .tmp 27, .tmp 28, .tmp 30] rfl rfl rfl rfl (by decide) (by decide) (fun i hi => hT i (wait_lt rfl hi)) hb.base (fun v w3 hv hA => new_end (kd := (6, 9)) (t := 4) (by decide) (fun f hf => by simp only [List.mem_cons, List.not_mem_nil, or_false] at hf; rcases hf with rfl | rfl <;> exact ⟨by decide, by decide⟩) (by decide) rfl rfl rfl hb (fun a2 w2 hb2 => hq _ _ (hb2.sub (fun f hf => by simp only [List.mem_cons, List.not_mem_nil, or_false] at hf ⊢; rcases hf with rfl | rfl | rfl <;> simp))) hK v w3 hv hA)
      case rest =>
        clear HM HK HA HL
        intro a2 W hb
        obtain ⟨u, rfl, _, _⟩ := hb.lit
        have HB := hideIt hb
        clear hb
        go_upto_region 8 with fail
        refine wp_cut (Bas w [(1, (0, 8)), (2, (1, 17)), (4, (6, 15))]) ?rest ?first
        case first =>
          intro J K' h1 h2
          have hq : ∀ a2 w2, Bas w [(1, (0, 8)), (2, (1, 17)), (4, (6, 15))] a2 w2 → K' a2 w2 := fun a2 w2 hb => h2 _ _ (h1 _ _ hb)
          clear h1 h2
          refine region_fence (by kernel_rfl) (TT w.heap.size [(6, 9), (0, 8), (5, 0), (0, 8), (0, 7), (5, 0), (0, 8), (5, 0), (2, 1), (5, 0), (1, 1), (5, 0), (5, 0), (6, 6)]) (DD 32) (Bas w [(1, (0, 8)), (2, (1, 17)), (4, (6, 9))]) 14 157 _ _ rfl rfl rfl rfl (fun i v w w' h hA => Holds.after h hA) (fun i j _ _ h => by unfold DD at h; omega) (fun i hi => by unfold DD; omega) (fun a w k v w' _ hb hk hA => hb.put (by unfold DD; omega) (fun f hf => by simp only [List.mem_cons, List.not_mem_nil, or_false] at hf; rcases hf with rfl | rfl | rfl <;> unfold DD <;> dsimp only <;> omega) hA) HB.out.drew ?_ rfl rfl rfl rfl 4 rfl rfl ?_
          · exact ⟨ok_base 4 rfl (fun a w hb => hb.2.2.2 (4, (6, 9)) (List.mem_cons_of_mem _ (List.mem_cons_of_mem _ List.mem_cons_self))) rfl rfl rfl,
              ok_base 1 rfl (fun a w hb => hb.2.2.2 (1, (0, 8)) List.mem_cons_self) rfl rfl rfl,
              ok_msg rfl rfl rfl rfl rfl rfl,
              ok_base 1 rfl (fun a w hb => hb.2.2.2 (1, (0, 8)) List.mem_cons_self) rfl rfl rfl,
              ok_cut22 3 8 7 rfl rfl rfl (by decide) (by decide) rfl rfl rfl rfl,
              ok_msg rfl rfl rfl rfl rfl rfl,
              ok_base 1 rfl (fun a w hb => hb.2.2.2 (1, (0, 8)) List.mem_cons_self) rfl rfl rfl,
              ok_msg rfl rfl rfl rfl rfl rfl,
              ok_make24 1 (by decide) rfl rfl rfl rfl rfl,
              ok_msg rfl rfl rfl rfl rfl rfl,
              ok_make23 1 (by decide) rfl rfl rfl rfl rfl,
              ok_msg rfl rfl rfl rfl rfl rfl,
              ok_msg rfl rfl rfl rfl rfl rfl,
              ok_lm Bas.base [.tmp 34, .tmp 37, .tmp 39, .tmp 41, .tmp 43, .tmp 44] rfl rfl rfl rfl (by decide) (by decide) rfl rfl rfl rfl,
              trivial⟩
          · intro a' w' hs hT hb
            exact app_end (m := 6) hb (hT 0 (by decide)) (hT 13 (by decide)) (by decide) (by decide) rfl rfl (by decide) rfl rfl (fun a2 w2 hb2 => hq _ _ hb2)
        case rest =>
          clear HB
          intro a2 W hb
          obtain ⟨u, rfl, _, _⟩ := hb.lit
          have HB := hideIt hb
          clear hb
          go_upto_region 9 with fail
          refine wp_cut (Bas w [(1, (0, 8)), (2, (1, 17)), (4, (6, 23))]) ?rest ?first
          case first =>
            intro J K' h1 h2
            have hq : ∀ a2 w2, Bas w [(1, (0, 8)), (2, (1, 17)), (4, (6, 23))] a2 w2 → K' a2 w2 := fun a2 w2 hb => h2 _ _ (h1 _ _ hb)
            clear h1 h2
            refine region_fence (by kernel_rfl) (TT w.heap.size [(6, 15), (5, 0), (2, 64), (5, 0), (2, 65), (5, 0), (2, 65), (5, 0), (2, 65), (5, 0), (4, 0), (2, 1), (5, 0), (4, 0), (4, 0), (2, 2), (5, 0), (4, 0), (2, 1), (5, 0), (6, 8)]) (DD 47) (Bas w [(1, (0, 8)), (2, (1, 17)), (4, (6, 15))]) 21 157 _ _ rfl rfl rfl rfl (fun i v w w' h hA => Holds.after h hA) (fun i j _ _ h => by unfold DD at h; omega) (fun i hi => by unfold DD; omega) (fun a w k v w' _ hb hk hA => hb.put (by unfold DD; omega) (fun f hf => by simp only [List.mem_cons, List.not_mem_nil, or_false] at hf; rcases hf with rfl | rfl | rfl <;> unfold DD <;> dsimp only <;> omega) hA) HB.out.drew ?_ rfl rfl rfl rfl 4 rfl rfl ?_
            · exact ⟨ok_base 4 rfl (fun a w hb => hb.2.2.2 (4, (6, 15)) (List.mem_cons_of_mem _ (List.mem_cons_of_mem _ List.mem_cons_self))) rfl rfl rfl,
                ok_msg rfl rfl rfl rfl rfl rfl,
                ok_make24 64 (by decide) rfl rfl rfl rfl rfl,
                ok_msg rfl rfl rfl rfl rfl rfl,
                ok_make24 65 (by decide) rfl rfl rfl rfl rfl,
                ok_msg rfl rfl rfl rfl rfl rfl,
                ok_make24 65 (by decide) rfl rfl rfl rfl rfl,
                ok_msg rfl rfl rfl rfl rfl rfl,
                ok_make24 65 (by decide) rfl rfl rfl rfl rfl,
                ok_msg rfl rfl rfl rfl rfl rfl,
                ok_bi ⟨0, false, 65536⟩ rfl (fun _ => by kernel_rfl) (by decide) rfl rfl rfl rfl,
                ok_bs [.tmp 57] rfl rfl rfl rfl (by decide) (by decide) rfl rfl rfl rfl,
                ok_msg rfl rfl rfl rfl rfl rfl,
                ok_bi ⟨0, true, 4294967295⟩ rfl (fun _ => by kernel_rfl) (by decide) rfl rfl rfl rfl,
                ok_bi ⟨65535, false, 0⟩ rfl (fun _ => by kernel_rfl) (by decide) rfl rfl rfl rfl,
                ok_bs [.tmp 60, .tmp 61] rfl rfl rfl rfl (by decide) (by decide) rfl rfl rfl rfl,
                ok_msg rfl rfl rfl rfl rfl rfl,
                ok_bi ⟨-1, false, 0⟩ rfl (fun _ => by kernel_rfl) (by decide) rfl rfl rfl rfl,
                ok_bs [.tmp 64] rfl rfl rfl rfl (by decide) (by decide) rfl rfl rfl rfl,
                ok_msg rfl rfl rfl rfl rfl rfl,
                ok_lm Bas.base [.tmp 48, .tmp 50, .tmp 52, .tmp 54, .tmp 56, .tmp 59, .tmp 63, .tmp 66] rfl rfl rfl rfl (by decide) (by decide) rfl rfl rfl rfl,
                trivial⟩
            · intro a' w' hs hT hb
              exact app_end (m := 8) hb (hT 0 (by decide)) (hT 20 (by decide)) (by decide) (by decide) rfl rfl (by decide) rfl rfl (fun a2 w2 hb2 => hq _ _ hb2)
          case rest =>
            clear HB
            intro a2 W hb
            obtain ⟨u, rfl, _, _⟩ := hb.lit
            have HB := hideIt hb
            clear hb
            go_upto_region 10 with fail
            refine wp_cut (Bas w [(1, (0, 8)), (2, (1, 17)), (4, (6, 28))]) ?rest ?first
            case first =>
              intro J K' h1 h2
              have hq : ∀ a2 w2, Bas w [(1, (0, 8)), (2, (1, 17)), (4, (6, 28))] a2 w2 → K' a2 w2 := fun a2 w2 hb => h2 _ _ (h1 _ _ hb)
              clear h1 h2
              refine region_fence (by kernel_rfl) (TT w.heap.size [(6, 23), (1, 17), (1, 16), (5, 0), (1, 17), (5, 0), (1, 2), (5, 0), (3, 0), (1, 1), (5, 0), (3, 0), (1, 1), (5, 0), (6, 5)]) (DD 69) (Bas w [(1, (0, 8)), (2, (1, 17)), (4, (6, 23))]) 15 157 _ _ rfl rfl rfl rfl (fun i v w w' h hA => Holds.after h hA) (fun i j _ _ h => by unfold DD at h; omega) (fun i hi => by unfold DD; omega) (fun a w k v w' _ hb hk hA => hb.put (by unfold DD; omega) (fun f hf => by simp only [List.mem_cons, List.not_mem_nil, or_false] at hf; rcases hf with rfl | rfl | rfl <;> unfold DD <;> dsimp only <;> omega) hA) HB.out.drew ?_ rfl rfl rfl rfl 4 rfl rfl ?_
              · exact ⟨ok_base 4 rfl (fun a w hb => hb.2.2.2 (4, (6, 23)) (List.mem_cons_of_mem _ (List.mem_cons_of_mem _ List.mem_cons_self))) rfl rfl rfl,
                  ok_base 2 rfl (fun a w hb => hb.2.2.2 (2, (1, 17)) (List.mem_cons_of_mem _ List.mem_cons_self)) rfl rfl rfl,
                  ok_cut23 1 17 16 rfl rfl rfl (by decide) (by decide) rfl rfl rfl rfl,
                  ok_msg rfl rfl rfl rfl rfl rfl,
                  ok_base 2 rfl (fun a w hb => hb.2.2.2 (2, (1, 17)) (List.mem_cons_of_mem _ List.mem_cons_self)) rfl rfl rfl,
                  ok_msg rfl rfl rfl rfl rfl rfl,
                  ok_make23 2 (by decide) rfl rfl rfl rfl rfl,
                  ok_msg rfl rfl rfl rfl rfl rfl,
                  ok_ob ⟨0, 65536, false⟩ rfl (fun _ => by kernel_rfl) rfl rfl rfl rfl,
                  ok_os [.tmp 77] rfl rfl rfl rfl (by decide) (by decide) rfl rfl rfl rfl,
                  ok_msg rfl rfl rfl rfl rfl rfl,
                  ok_ob ⟨1, 65535, true⟩ rfl (fun _ => by kernel_rfl) rfl rfl rfl rfl,
                  ok_os [.tmp 80] rfl rfl rfl rfl (by decide) (by decide) rfl rfl rfl rfl,
                  ok_msg rfl rfl rfl rfl rfl rfl,
                  ok_lm Bas.base [.tmp 72, .tmp 74, .tmp 76, .tmp 79, .tmp 82] rfl rfl rfl rfl (by decide) (by decide) rfl rfl rfl rfl,
                  trivial⟩
              · intro a' w' hs hT hb
                exact app_end (m := 5) hb (hT 0 (by decide)) (hT 14 (by decide)) (by decide) (by decide) rfl rfl (by decide) rfl rfl (fun a2 w2 hb2 => hq _ _ hb2)
            case rest =>
              clear HB
              intro a2 W hb
              obtain ⟨u, rfl, hA, hF⟩ := hb.lit
              clear hb
              have hL : LM w.heap.size W (u 4) 28 := hF (4, (6, 28)) (List.mem_cons_of_mem _ (List.mem_cons_of_mem _ List.mem_cons_self))
              obtain ⟨g, cap, hu4⟩ := hL.form (by decide)
              have HL := hideIt hL
              have HA := hideIt hA
              rw [hu4] at HL
              clear hL hA hF
              generalize u 4 = u4 at hu4 ⊢
              subst hu4
              go_wp2_with fail
              go_loopw [5] (fun i V => ∃ m : Nat, m ≤ 28 ∧ i = .int .i64 m ∧ LM w.heap.size V (.slice (some ⟨g, 0, none⟩) 28 cap) 28 ∧ After w V) (fun i _ => 28 - (intOf i).toNat)
              case atStart => exact ⟨0, by omega, rfl, HL.out, HA.out⟩
              case round =>
                clear HL HA
                obtain ⟨m, hm, rfl, hL, hA⟩ := hrel
                have HL := hideIt hL
                have HA := hideIt hA
                clear hL hA
                by_cases hlt : m < 28
                · have hmi : (m : Int) < 28 := by omega
                  obtain ⟨x, gm, hc⟩ := HL.out.at hlt
                  obtain ⟨M, sa, sc, oa, oc, ba, bc, rfl, mx, lo, lb⟩ := gm.msg
                  have hg : g < wr.heap.size := by
                    obtain ⟨vs, _, _, own⟩ := HL.out
                    exact (own.lt g rfl).2
                  have HG := hideIt hg
                  have HC : Hid (∀ V, After wr V → V.cell? ⟨g, m * 7, none⟩ = some (.int .i64 M.kind) ∧ V.cell? ⟨g, m * 7 + 1, none⟩ = some (.slice sa M.sys.length sc) ∧ V.cell? ⟨g, m * 7 + 2, none⟩ = some (.int .i64 M.config) ∧ V.cell? ⟨g, m * 7 + 3, none⟩ = some (.int .i64 M.result) ∧ V.cell? ⟨g, m * 7 + 4, none⟩ = some (.int .i64 M.reason) ∧ V.cell? ⟨g, m * 7 + 5, none⟩ = some (.slice oa M.objs.length oc) ∧ V.cell? ⟨g, m * 7 + 6, none⟩ = some (.slice ba M.obs.length bc)) := fun V a => ⟨by rw [a.cell hg]; exact hc 0 (by decide), by rw [a.cell hg]; exact hc 1 (by decide), by rw [a.cell hg]; exact hc 2 (by decide), by rw [a.cell hg]; exact hc 3 (by decide), by rw [a.cell hg]; exact hc 4 (by decide), by rw [a.cell hg]; exact hc 5 (by decide), by rw [a.cell hg]; exact hc 6 (by decide)⟩
                  have H3 := hideIt (law_packs wr _ M sa sc oa oc ba bc mx (by omega) (by omega))
                  have H5 : Hid (∀ w1, After wr w1 → Calls Try.prog 5 #[M.val sa sc oa oc ba bc] w1 fun e w' => e = .returned (.bool true) ∧ After w1 w') := fun w1 a1 => law_back w1 _ M sa sc oa oc ba bc (mx.after a1)
                  clear gm mx lo lb hg hc HG
                  rw [show M.val sa sc oa oc ba bc = .agg #[.int .i64 M.kind, .slice sa M.sys.length sc, .int .i64 M.config, .int .i64 M.result, .int .i64 M.reason, .slice oa M.objs.length oc, .slice ba M.obs.length bc] from rfl] at H3 H5
                  generalize M.kind = f0 at H3 H5 HC
                  generalize M.sys.length = f1 at H3 H5 HC
                  generalize M.config = f2 at H3 H5 HC
                  generalize M.result = f3 at H3 H5 HC
                  generalize M.reason = f4 at H3 H5 HC
                  generalize M.objs.length = f5 at H3 H5 HC
                  generalize M.obs.length = f6 at H3 H5 HC
                  obtain ⟨c0, c1, c2, c3, c4, c5, c6⟩ := HC.out wr After.rfl
                  go_wp2_with (first
                    | (go_at_call 3; refine H3.out.mono ?_; rintro e w1 ⟨rfl, a1⟩; have H1 := hideIt a1; obtain ⟨d0, d1, d2, d3, d4, d5, d6⟩ := HC.out w1 a1; clear a1)
                    | (go_at_call 5; refine (H5.out w1 H1.out).mono ?_; rintro e w2 ⟨rfl, a2⟩; have H2 := hideIt a2; clear a2))
                  go_roundw
                  case rel => exact ⟨m + 1, by omega, by go_num, HL.out.after (H1.out.trans H2.out), HA.out.trans (H1.out.trans H2.out)⟩
                  case measure => simp [intOf]; omega
                · obtain rfl : m = 28 := by omega
                  clear hlt hm HL
                  go_upto_region 16 with fail
                  refine wp_cut (Bas w [(6, (7, 18))]) ?rest ?first
                  case first =>
                    intro J K' h1 h2
                    have hq : ∀ a2 w2, Bas w [(6, (7, 18))] a2 w2 → K' a2 w2 := fun a2 w2 hb => h2 _ _ (h1 _ _ hb)
                    clear h1 h2
                    refine region_line (TT w.heap.size [(0, 1), (0, 6), (0, 5), (0, 7), (0, 4), (0, 5), (0, 7), (0, 6), (0, 4), (0, 7), (0, 8), (0, 10), (0, 10), (0, 10), (0, 10), (0, 10), (0, 10)]) (DD 105) (Bas w []) 17 157 _ _ rfl rfl rfl rfl (fun i v w w' h hA => Holds.after h hA) (fun i j _ _ h => by unfold DD at h; omega) (fun i hi => by unfold DD; omega) (fun a w k v w' _ hb hk hA => hb.put (by unfold DD; omega) (fun f hf => by cases hf) hA) ⟨rfl, rfl, HA.out, fun f hf => by cases hf⟩ ?_ rfl rfl ?_
                    · exact ⟨ok_by [230] rfl rfl rfl (by decide) (by decide) rfl rfl rfl rfl rfl,
                        ok_by [230, 0, 0, 2, 0, 5] rfl rfl rfl (by decide) (by decide) rfl rfl rfl rfl rfl,
                        ok_by [230, 0, 0, 2, 0] rfl rfl rfl (by decide) (by decide) rfl rfl rfl rfl rfl,
                        ok_by [230, 0, 0, 2, 0, 5, 0] rfl rfl rfl (by decide) (by decide) rfl rfl rfl rfl rfl,
                        ok_by [233, 0, 0, 0] rfl rfl rfl (by decide) (by decide) rfl rfl rfl rfl rfl,
                        ok_by [230, 0, 0, 1, 0] rfl rfl rfl (by decide) (by decide) rfl rfl rfl rfl rfl,
                        ok_by [230, 0, 0, 3, 0, 1, 2] rfl rfl rfl (by decide) (by decide) rfl rfl rfl rfl rfl,
                        ok_by [13, 30, 0, 2, 0, 0] rfl rfl rfl (by decide) (by decide) rfl rfl rfl rfl rfl,
                        ok_by [231, 0, 0, 0] rfl rfl rfl (by decide) (by decide) rfl rfl rfl rfl rfl,
                        ok_by [231, 0, 0, 3, 13, 30, 0] rfl rfl rfl (by decide) (by decide) rfl rfl rfl rfl rfl,
                        ok_by [231, 0, 0, 4, 13, 30, 0, 0] rfl rfl rfl (by decide) (by decide) rfl rfl rfl rfl rfl,
                        ok_by [231, 0, 0, 6, 13, 30, 0, 2, 0, 0] rfl rfl rfl (by decide) (by decide) rfl rfl rfl rfl rfl,
                        ok_by [231, 0, 0, 6, 13, 30, 0, 1, 0, 0] rfl rfl rfl (by decide) (by decide) rfl rfl rfl rfl rfl,
                        ok_by [231, 0, 0, 6, 13, 30, 0, 3, 0, 0] rfl rfl rfl (by decide) (by decide) rfl rfl rfl rfl rfl,
                        ok_by [231, 0, 0, 6, 230, 0, 0, 2, 0, 5] rfl rfl rfl (by decide) (by decide) rfl rfl rfl rfl rfl,
                        ok_by [231, 0, 0, 6, 13, 30, 0, 2, 0, 65] rfl rfl rfl (by decide) (by decide) rfl rfl rfl rfl rfl,
                        ok_by [231, 0, 0, 6, 13, 30, 0, 2, 0, 1] rfl rfl rfl (by decide) (by decide) rfl rfl rfl rfl rfl,
                        trivial⟩
                    · intro a' w' hs hT hb
                      intro K hK
                      exact list_lb (L := [(0, 1), (0, 6), (0, 5), (0, 7), (0, 4), (0, 5), (0, 7), (0, 6), (0, 4), (0, 7), (0, 8), (0, 10), (0, 10), (0, 10), (0, 10), (0, 10), (0, 10)]) (d := 105) [.const (.slice none 0 0), .tmp 105, .tmp 106, .tmp 107, .tmp 108, .tmp 109, .tmp 110, .tmp 111, .tmp 112, .tmp 113, .tmp 114, .tmp 115, .tmp 116, .tmp 117, .tmp 118, .tmp 119, .tmp 120, .tmp 121] rfl rfl rfl rfl (by decide) (by decide) (fun i hi => hT i (wait_lt rfl hi)) hb.base (fun v w3 hv hA => new_end (kd := (7, 18)) (t := 6) (by decide) (fun f hf => by cases hf) (by decide) rfl rfl rfl hb (fun a2 w2 hb2 => hq _ _ hb2) hK v w3 hv hA)
                  case rest =>
                    clear HA
                    intro a2 W hb
                    obtain ⟨u, rfl, _, _⟩ := hb.lit
                    have HB := hideIt hb
                    clear hb
                    go_upto_region 17 with fail
                    refine wp_cut (Bas w [(6, (7, 26))]) ?rest ?first
                    case first =>
                      intro J K' h1 h2
                      have hq : ∀ a2 w2, Bas w [(6, (7, 26))] a2 w2 → K' a2 w2 := fun a2 w2 hb => h2 _ _ (h1 _ _ hb)
                      clear h1 h2
                      refine region_line (TT w.heap.size [(7, 18), (0, 15), (0, 15), (0, 16), (0, 16), (0, 16), (0, 12), (0, 17), (0, 22), (7, 8)]) (DD 123) (Bas w [(6, (7, 18))]) 10 157 _ _ rfl rfl rfl rfl (fun i v w w' h hA => Holds.after h hA) (fun i j _ _ h => by unfold DD at h; omega) (fun i hi => by unfold DD; omega) (fun a w k v w' _ hb hk hA => hb.put (by unfold DD; omega) (fun f hf => by simp only [List.mem_cons, List.not_mem_nil, or_false] at hf; subst hf; unfold DD <;> dsimp only <;> omega) hA) HB.out ?_ rfl rfl ?_
                      · exact ⟨ok_base 6 rfl (fun a w hb => hb.2.2.2 (6, (7, 18)) List.mem_cons_self) rfl rfl rfl,
                          ok_by [231, 0, 0, 11, 13, 30, 0, 7, 0, 1, 0, 1, 3, 1, 2] rfl rfl rfl (by decide) (by decide) rfl rfl rfl rfl rfl,
                          ok_by [226, 0, 0, 11, 0, 7, 1, 2, 3, 4, 5, 6, 7, 0, 1] rfl rfl rfl (by decide) (by decide) rfl rfl rfl rfl rfl,
                          ok_by [226, 0, 0, 12, 0, 8, 1, 2, 3, 4, 5, 6, 7, 8, 0, 1] rfl rfl rfl (by decide) (by decide) rfl rfl rfl rfl rfl,
                          ok_by [226, 0, 0, 12, 0, 9, 1, 2, 3, 4, 5, 6, 7, 8, 0, 1] rfl rfl rfl (by decide) (by decide) rfl rfl rfl rfl rfl,
                          ok_by [226, 0, 0, 12, 0, 11, 1, 2, 3, 4, 5, 6, 7, 8, 0, 1] rfl rfl rfl (by decide) (by decide) rfl rfl rfl rfl rfl,
                          ok_by [231, 0, 0, 8, 13, 28, 0, 4, 0, 1, 0, 17] rfl rfl rfl (by decide) (by decide) rfl rfl rfl rfl rfl,
                          ok_by [231, 0, 0, 13, 13, 28, 0, 9, 0, 1, 0, 1, 0, 1, 0, 1, 2] rfl rfl rfl (by decide) (by decide) rfl rfl rfl rfl rfl,
                          ok_by [231, 0, 0, 18, 13, 28, 0, 14, 0, 1, 0, 2, 0, 1, 0, 1, 1, 0, 1, 0, 1, 2] rfl rfl rfl (by decide) (by decide) rfl rfl rfl rfl rfl,
                          ok_lb Bas.base [.tmp 124, .tmp 125, .tmp 126, .tmp 127, .tmp 128, .tmp 129, .tmp 130, .tmp 131] rfl rfl rfl rfl (by decide) (by decide) rfl rfl rfl rfl,
                          trivial⟩
                      · intro a' w' hs hT hb
                        exact app_endB (m := 8) hb (hT 0 (by decide)) (hT 9 (by decide)) (by decide) (by decide) rfl rfl (by decide) rfl rfl (fun a2 w2 hb2 => hq _ _ hb2)
                    case rest =>
                      clear HB
                      intro a2 W hb
                      obtain ⟨u, rfl, hA, hF⟩ := hb.lit
                      clear hb
                      have hL : LB w.heap.size W (u 6) 26 := hF (6, (7, 26)) List.mem_cons_self
                      obtain ⟨g, cap, hu6⟩ := hL.form (by decide)
                      have HL := hideIt hL
                      have HA := hideIt hA
                      rw [hu6] at HL
                      clear hL hA hF
                      generalize u 6 = u6 at hu6 ⊢
                      subst hu6
                      go_wp2_with fail
                      go_loopw [7] (fun i V => ∃ m : Nat, m ≤ 26 ∧ i = .int .i64 m ∧ LB w.heap.size V (.slice (some ⟨g, 0, none⟩) 26 cap) 26 ∧ After w V) (fun i _ => 26 - (intOf i).toNat)
                      case atStart => exact ⟨0, by omega, rfl, HL.out, HA.out⟩
                      case round =>
                        clear HL HA
                        obtain ⟨m, hm, rfl, hL, hA⟩ := hrel
                        have HL := hideIt hL
                        have HA := hideIt hA
                        clear hL hA
                        by_cases hlt : m < 26
                        · have hmi : (m : Int) < 26 := by omega
                          obtain ⟨x, n, ⟨pa, pc, bs, rfl, pr, pn, _, pl, pnc⟩, hc⟩ := HL.out.at hlt
                          have hg : g < wr.heap.size := by
                            obtain ⟨vs, _, _, own⟩ := HL.out
                            exact (own.lt g rfl).2
                          have HC : Hid (∀ V, After wr V → V.cell? ⟨g, m, none⟩ = some (.slice pa n pc)) := fun V a => by rw [a.cell hg]; exact hc
                          have H3 := hideIt (law_unpacks wr pa n pc bs pr pn (by omega) pnc)
                          have H5 : Hid (∀ w1, After wr w1 → Calls Try.prog 6 #[.slice pa n pc] w1 fun e w' => e = .returned (.bool true) ∧ After w1 w') := fun w1 a1 => law_once w1 pa n pc bs (pr.after a1) pn (by omega)
                          clear hg hc pr pn pl pnc
                          have c0 := HC.out wr After.rfl
                          go_wp2_with (first
                            | (go_at_call 4; refine H3.out.mono ?_; rintro e w1 ⟨rfl, a1⟩; have H1 := hideIt a1; have d0 := HC.out w1 a1; clear a1)
                            | (go_at_call 6; refine (H5.out w1 H1.out).mono ?_; rintro e w2 ⟨rfl, a2⟩; have H2 := hideIt a2; clear a2))
                          go_roundw
                          case rel => exact ⟨m + 1, by omega, by go_num, HL.out.after (H1.out.trans H2.out), HA.out.trans (H1.out.trans H2.out)⟩
                          case measure => simp [intOf]; omega
                        · obtain rfl : m = 26 := by omega
                          clear hlt hm HL
                          go_wp2_with fail
                          refine (awake_any _).mono ?_
                          rintro e w1 ⟨rfl, a1⟩
                          have H1 := hideIt a1
                          clear a1
                          go_wp2
                          go_ret
                          exact ⟨rfl, HA.out.trans H1.out⟩
end Go.Proofs.Ytigiakhdaaoljaa
