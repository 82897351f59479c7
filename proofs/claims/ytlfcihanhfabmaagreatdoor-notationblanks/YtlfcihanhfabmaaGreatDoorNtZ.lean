/-
  The document's Text.
-/
import Derived.Test.YtlfcihanhfabmaaGreatDoorNtY
import Derived.Test.YtlfcihanhfabmaaGreatDoorNtW
import Derived.Test.YtlfcihanhfabmaaGreatDoorFoS
namespace Go.Proofs.YtlfcihanhfabmaaGreatDoor
open Go.RowKit
set_option maxRecDepth 8000
open L1 (S)
theorem Tryz.infoStr2 : (Tryz.prog.info? 9).map (fun i => (i.zero, i.size, i.bytes)) = some (some (.string ⟨#[]⟩), strE.k, 16) := by kernel_rfl
theorem indexNd (w : World) (b off n c k : Nat) (hk : (k : Int) < (n : Int)) : (Instr.indexAt 22 (.slice (some ⟨b, off, none⟩) n c) (.int .i64 (k : Int))).run Tryz.prog w = .ok (.pointer (some ⟨b, off + k * 4, none⟩)) w := by
  have h0 : (0 : Int) ≤ (k : Int) := by omega
  have h1 : k < n := by omega
  by_cases h2 : k = 0
  · subst h2; simp [go_sem, h1]
  · simp [go_sem, h0, hk]
theorem indexSt (w : World) (b off n c k : Nat) (hk : (k : Int) < (n : Int)) : (Instr.indexAt 51 (.slice (some ⟨b, off, none⟩) n c) (.int .i64 (k : Int))).run Tryz.prog w = .ok (.pointer (some ⟨b, off + k, none⟩)) w := by
  have h0 : (0 : Int) ≤ (k : Int) := by omega
  have h1 : k < n := by omega
  by_cases h2 : k = 0
  · subst h2; simp [go_sem, h1]
  · simp [go_sem, h0, hk]
theorem fieldN0 (b o : Nat) (w : World) : (Instr.fieldAt 33 (.pointer (some ⟨b, o, none⟩)) 0).run Tryz.prog w = .ok (.pointer (some ⟨b, o, none⟩)) w := by simp [go_sem]
theorem cat_le {a b : W8} {p q : Nat} (h : a.length ≤ p) (h2 : b.length ≤ q) : (a ++ b).length ≤ p + q := by rw [List.length_append]; omega
theorem addSt (a b : W8) {p q : Nat} (h0 : a.length ≤ p) (h02 : b.length ≤ q) (hp : Nat.ble (p + q) 10000 = true) (x y : Operand) (w : World) : (do eqGuard .add 9 x y (.string (S a)) (.string (S b)); binOp .add 9 (.string (S a)) (.string (S b)) : Sem Value).run Tryz.prog w = .ok (.string (S (a ++ b))) w := by
  have hp' := Nat.le_of_ble_eq_true hp
  have z1 : (S a).size ≤ 10000 := by show a.length ≤ _; omega
  have z2 : (S b).size ≤ 10000 := by show b.length ≤ _; omega
  have e : S a ++ S b = S (a ++ b) := L1.S_cat a b
  simp [go_sem, eqGuard, e]
  omega
theorem enterIn : ∀ (args : Array Value) (W : World), (callFunc 25 args).run Tryz.prog W = .ok (.enter 25 args) W := enter_of Tryz.func25 (by kernel_rfl) (by kernel_rfl)
theorem enterDg : ∀ (args : Array Value) (W : World), (callFunc 26 args).run Tryz.prog W = .ok (.enter 26 args) W := enter_of Tryz.func26 (by kernel_rfl) (by kernel_rfl)
/-- A part of a node: its text and its operation, where they lie. -/
structure PtAt (W : World) (bt ot bn on_ : Nat) (L : List Nd) (T : List W8) (k : Nat) : Prop where
  t : W.cell? ⟨bt, ot + k, none⟩ = some (.string (S (txAt T k)))
  n : W.cell? ⟨bn, on_ + k * 4, none⟩ = some (.int .i64 (ndAt L k).op)
  short : (txAt T k).length ≤ 1025
theorem PtAt.after {W W' : World} {bt ot bn on_ : Nat} {L : List Nd} {T : List W8} {k : Nat} (h : PtAt W bt ot bn on_ L T k) (a : After W W') : PtAt W' bt ot bn on_ L T k :=
  ⟨(a.cell (cell_lt h.t) _).trans h.t, (a.cell (cell_lt h.n) _).trans h.n, h.short⟩
theorem ptAt_of {W : World} {bt ot bn on_ n : Nat} {L : List Nd} {T : List W8} {k : Nat} (h1 : GRow strE W (some ⟨bt, ot, none⟩) T.length T) (h2 : NRow W (some ⟨bn, on_, none⟩) n L) (hk : k < T.length) (hn : k < n) (hs : ∀ t ∈ T, t.length ≤ 1025) : PtAt W bt ot bn on_ L T k := by
  obtain ⟨b, o, t, e, hb, ht, hc⟩ := h1.2 k hk
  cases e
  obtain ⟨b2, o2, y, e, hb2, hy, q0, q1, q2, q3⟩ := nrow_at h2 hn
  cases e
  have htt : txAt T (k : Int) = t := by unfold txAt; simp [ht]
  have hn : ndAt L (k : Int) = y := by unfold ndAt; simp [hy]
  refine ⟨?_, ?_, by rw [htt]; exact hs t (List.mem_of_getElem? ht)⟩
  · rw [htt]; simpa [strE] using hc 0 _ rfl
  · rw [hn]; exact q0
theorem in_part {W : World} {bt ot bn on_ : Nat} {L : List Nd} {T : List W8} {k : Nat} (h : PtAt W bt ot bn on_ L T k) (m : Nat) (h1 : 1 ≤ m) (h3 : m ≤ 3) (z : Int) (hz : z = ((m - 1 : Nat) : Int)) : Calls Tryz.prog 25 #[.string (S (txAt T k)), .int .i64 (ndAt L k).op, .int .i64 z] W fun e w' => e = .returned (.string (S (parT L T k m))) ∧ w' = W := in_any (txAt T k) h.short (ndAt L k).op m h1 h3 z hz W
theorem ptShort {W : World} {bt ot bn on_ : Nat} {L : List Nd} {T : List W8} {k : Nat} (h : PtAt W bt ot bn on_ L T k) (m : Nat) : (parT L T k m).length ≤ 1027 := by
  have := h.short
  unfold parT
  split
  · simp; omega
  · omega
theorem parT0 (L : List Nd) (T : List W8) (k : Int) : parT L T k 0 = txAt T k := by unfold parT; simp
/-- The node, boxed. -/
structure NdAt (W : World) (b3 : Nat) (x : Nd) : Prop where
  c0 : W.cell? ⟨b3, 0, none⟩ = some (.int .i64 x.op)
  c1 : W.cell? ⟨b3, 1, none⟩ = some (.int .i64 x.a)
  c2 : W.cell? ⟨b3, 2, none⟩ = some (.int .i64 x.b)
  c3 : W.cell? ⟨b3, 3, none⟩ = some (.int .i64 x.n)
theorem NdAt.after {W W' : World} {b3 : Nat} {x : Nd} (h : NdAt W b3 x) (a : After W W') : NdAt W' b3 x :=
  ⟨(a.cell (cell_lt h.c0) _).trans h.c0, (a.cell (cell_lt h.c1) _).trans h.c1, (a.cell (cell_lt h.c2) _).trans h.c2, (a.cell (cell_lt h.c3) _).trans h.c3⟩
set_option maxHeartbeats 2000000 in
theorem refTexts_any (L : List Nd) (w : World) (a : Option Addr) (cl : Nat) (hr : NRow w a L.length L) (hc : chk L 8 = 0) :
    Calls Tryz.prog 11 #[.slice a L.length cl] w fun e w' => e = .returned (.tuple #[.string (S (textV L)), .int .i64 (textE L)]) ∧ After w w' := by
  have HC := hideIt (refCheck_any L w a L.length cl hr 8)
  have hn3 : 0 < L.length ∧ L.length ≤ 32 ∧ okAll L 8 = true := by
    unfold chk at hc
    split at hc
    · omega
    split at hc
    · omega
    split at hc
    · omega
    split at hc
    · rename_i h; exact ⟨by omega, by omega, h⟩
    · omega
  rw [hc] at HC
  obtain ⟨bn, on_, rfl, -⟩ := hr.lt hn3.1
  have HV : Hid (textV L = if 1024 < (rootT L).length then [] else rootT L) := hideIt (by unfold textV; rw [if_pos hc])
  have HTe : Hid (textE L = if 1024 < (rootT L).length then 5 else 0) := hideIt (by unfold textE; rw [if_pos hc])
  have HK := hideIt hn3.2.2
  obtain ⟨n, hn⟩ : ∃ n, n = L.length := ⟨_, rfl⟩
  have HR := hideIt hr
  rw [← hn] at HR HC ⊢
  have HN := hideIt hn
  have n1 : (0 : Int) < (n : Int) := by omega
  have n2 : (n : Int) ≤ 32 := by omega
  clear hr hc hn3 hn
  go_enter Tryz.func11, Tryz.ntmps11
  go_wp2_with fail
  refine HC.out.mono ?_
  rintro e w1 ⟨rfl, a1⟩
  have HA1 := hideIt a1
  clear a1
  go_wp2_with fail
  go_loopw [5, 6] (fun v i wr => ∃ j : Nat, j ≤ n ∧ i = .int .i64 (j : Int) ∧ ORow strE 9 wr w.heap.size v (txs L (L.take j) []) ∧ After w wr) (fun _ i _ => n - (intOf i).toNat)
  case atStart => exact ⟨0, Nat.zero_le _, rfl, orow_nil strE _ _ _, HA1.out⟩
  case round =>
    rename_i v5
    obtain ⟨j, hj, rfl, hown, aw⟩ := hrel
    have HOw := hideIt hown
    obtain ⟨T, hT⟩ : ∃ T, T = txs L (L.take j) [] := ⟨_, rfl⟩
    have hTl : T.length = j := by rw [hT, txs_length, List.length_take]; have := HN.out; simp; omega
    have hsh : ∀ t ∈ T, t.length ≤ 1025 := by rw [hT]; exact txs_short L _ [] (fun t h => by cases h)
    have HSt := hideIt hsh
    by_cases hjn : j < n
    · have i1 : (j : Int) < (n : Int) := by omega
      obtain ⟨bn', off', x, e9, hbn, hx, q0, q1, q2, q3⟩ := nrow_at HR.out (i := j) hjn
      cases e9
      have q0' := (aw.cell hbn _).trans q0
      have q1' := (aw.cell hbn _).trans q1
      have q2' := (aw.cell hbn _).trans q2
      have q3' := (aw.cell hbn _).trans q3
      have hlt0 : bn < wr.heap.size := Nat.lt_of_lt_of_le hbn aw.size
      have hok := okAll_at HK.out hx
      have HX : Hid (txs L (L.take (j + 1)) [] = T ++ [(nodeT L T x).take 1025]) := hideIt (by rw [hT, List.take_add_one, hx]; exact txs_snoc L (L.take j) x [])
      rw [← hT] at HOw
      clear hown hT hx q0 q1 q2 q3 hsh hbn
      obtain ⟨at2, ct, rfl, hg, hnil, -⟩ := ORow.row HOw.out
      rw [hTl] at hg hnil HOw ⊢
      have HS := hideIt (And.intro hTl (And.intro (show GRow strE wr at2 T.length T by rw [hTl]; exact hg) aw))
      have hnone : 0 < j → ∃ bt ot, at2 = some ⟨bt, ot, none⟩ := fun h => by
        obtain ⟨bt, ot, e, _⟩ := hg.lt h
        exact ⟨bt, ot, e⟩
      have HNo := hideIt hnone
      clear hg hnil aw hTl hnone
      rcases okN_cases hok with rfl | ⟨A, hA, _, _, e⟩ | ⟨A, hA, e⟩ | ⟨A, hA, e⟩ | ⟨A, Nn, hA, hN, e⟩ | ⟨A, B, hA, hB, e⟩
      · obtain ⟨W, hW⟩ : ∃ W, W = wr.alloc (.cells #[.int .i64 0, .int .i64 0, .int .i64 0, .int .i64 0] 33) := ⟨_, rfl⟩
        have k3 : W.heap[wr.heap.size]? = some (.cells #[.int .i64 0, .int .i64 0, .int .i64 0, .int .i64 0] 33 (0, 0)) := by rw [hW]; exact heap_alloc_new wr _
        have aW : After wr W := by rw [hW]; exact After.rfl.alloc _
        have HW := hideIt aW
        obtain ⟨b3, hb3⟩ : ∃ b, b = wr.heap.size := ⟨_, rfl⟩
        rw [← hb3] at k3
        have HNd : Hid (NdAt W b3 ⟨0, 0, 0, 0⟩) := hideIt ⟨blk_cell k3 rfl, blk_cell k3 rfl, blk_cell k3 rfl, blk_cell k3 rfl⟩
        have p0 := blk_cell k3 (i := 0) rfl
        have p1 := blk_cell k3 (i := 1) rfl
        have p2 := blk_cell k3 (i := 2) rfl
        have p3 := blk_cell k3 (i := 3) rfl
        have hlt := blk_lt k3
        clear aW k3
        have HAt := hideIt (fun V (a : After W V) => atomT_0 L T V)
        unfold Nd.val at HAt
        go_wp2_with fail
        rw [← hb3, ← hW]
        clear hW hb3
        refine (HAt.out _ After.rfl).mono ?_
        rintro e w2 ⟨rfl, a2⟩
        have HA2 := hideIt (HW.out.trans a2)
        clear a2
        obtain ⟨t, ht⟩ : ∃ t, t = nodeT L T ⟨0, 0, 0, 0⟩ := ⟨_, rfl⟩
        rw [← ht]
        have HT := hideIt ht
        clear ht
        obtain ⟨M, hM⟩ : ∃ M : Nat, M = min t.length 1025 := ⟨_, rfl⟩
        have m1 : min ((S t).size : Int) 1025 = (M : Int) := by rw [L1.S_size]; omega
        have m2 : (M : Int) ≤ ((S t).size : Int) := by rw [L1.S_size]; omega
        have m3 : (0 : Int) ≤ (M : Int) := by omega
        have HE : Hid ((S t).extract 0 M = S (t.take 1025)) := hideIt (by
          rw [S_extract, List.drop_zero, Nat.sub_zero, hM]
          congr 1
          rcases Nat.le_total t.length 1025 with h | h
          · rw [Nat.min_eq_left h, List.take_of_length_le (Nat.le_refl _), List.take_of_length_le h]
          · rw [Nat.min_eq_right h])
        clear hM
        have HO2 := hideIt (own_after HOw.out HA2.out)
        go_wp2_with (at_builtin; refine app_row (E := strE) rfl (.tmp 176) (.tmp 182) 51 9 Tryz.underlying51 Tryz.infoStr2 rfl (by decide) rfl w.heap.size _ T rfl (own_after HO2.out (After.rfl.alloc _)) (some ⟨w2.heap.size, 0, none⟩) 1 1 [t.take 1025] rfl (by rw [HE.out]; exact lit_row (heap_alloc_new w2 _) rfl rfl) (fun h => by cases h) (by have := HS.out.1; unfold maxLen; omega) (by have := HS.out.1; omega) (by have := HS.out.2.2.size; have := HA2.out.size; simp; omega) ?_; intro v4 w4 hown hb; have HP := hideIt (And.intro hown hb); clear hown hb)
        go_roundw
        case rel =>
          refine ⟨j + 1, by omega, by go_num, ?_, ?_⟩
          · have h4 := HP.out.1
            rw [HT.out] at h4
            rw [HX.out]
            exact h4
          · exact (HS.out.2.2.trans (HA2.out.alloc _)).then HP.out.2 (fun i hi h => by have := (HO2.out.lt i h).1; omega)
        case measure => simp [intOf]; omega
      · obtain ⟨Nz, hNz⟩ : ∃ Nz, Nz = x.n := ⟨_, rfl⟩
        rw [← hNz] at e
        clear hNz
        rcases e with rfl | rfl
        · obtain ⟨W, hW⟩ : ∃ W, W = wr.alloc (.cells #[.int .i64 1, .int .i64 (A : Int), .int .i64 0, .int .i64 Nz] 33) := ⟨_, rfl⟩
          have k3 : W.heap[wr.heap.size]? = some (.cells #[.int .i64 1, .int .i64 (A : Int), .int .i64 0, .int .i64 Nz] 33 (0, 0)) := by rw [hW]; exact heap_alloc_new wr _
          have aW : After wr W := by rw [hW]; exact After.rfl.alloc _
          have HW := hideIt aW
          obtain ⟨b3, hb3⟩ : ∃ b, b = wr.heap.size := ⟨_, rfl⟩
          rw [← hb3] at k3
          have HNd : Hid (NdAt W b3 ⟨1, (A : Nat), 0, Nz⟩) := hideIt ⟨blk_cell k3 rfl, blk_cell k3 rfl, blk_cell k3 rfl, blk_cell k3 rfl⟩
          have p0 := blk_cell k3 (i := 0) rfl
          have p1 := blk_cell k3 (i := 1) rfl
          have p2 := blk_cell k3 (i := 2) rfl
          have p3 := blk_cell k3 (i := 3) rfl
          have hlt := blk_lt k3
          clear aW k3
          have HAt := hideIt (fun V (a : After W V) => atomT_1 L T A (by omega) Nz V)
          unfold Nd.val at HAt
          go_wp2_with fail
          rw [← hb3, ← hW]
          clear hW hb3
          refine (HAt.out _ After.rfl).mono ?_
          rintro e w2 ⟨rfl, a2⟩
          have HA2 := hideIt (HW.out.trans a2)
          clear a2
          obtain ⟨t, ht⟩ : ∃ t, t = nodeT L T ⟨1, (A : Nat), 0, Nz⟩ := ⟨_, rfl⟩
          rw [← ht]
          have HT := hideIt ht
          clear ht
          obtain ⟨M, hM⟩ : ∃ M : Nat, M = min t.length 1025 := ⟨_, rfl⟩
          have m1 : min ((S t).size : Int) 1025 = (M : Int) := by rw [L1.S_size]; omega
          have m2 : (M : Int) ≤ ((S t).size : Int) := by rw [L1.S_size]; omega
          have m3 : (0 : Int) ≤ (M : Int) := by omega
          have HE : Hid ((S t).extract 0 M = S (t.take 1025)) := hideIt (by
            rw [S_extract, List.drop_zero, Nat.sub_zero, hM]
            congr 1
            rcases Nat.le_total t.length 1025 with h | h
            · rw [Nat.min_eq_left h, List.take_of_length_le (Nat.le_refl _), List.take_of_length_le h]
            · rw [Nat.min_eq_right h])
          clear hM
          have HO2 := hideIt (own_after HOw.out HA2.out)
          go_wp2_with (at_builtin; refine app_row (E := strE) rfl (.tmp 176) (.tmp 182) 51 9 Tryz.underlying51 Tryz.infoStr2 rfl (by decide) rfl w.heap.size _ T rfl (own_after HO2.out (After.rfl.alloc _)) (some ⟨w2.heap.size, 0, none⟩) 1 1 [t.take 1025] rfl (by rw [HE.out]; exact lit_row (heap_alloc_new w2 _) rfl rfl) (fun h => by cases h) (by have := HS.out.1; unfold maxLen; omega) (by have := HS.out.1; omega) (by have := HS.out.2.2.size; have := HA2.out.size; simp; omega) ?_; intro v4 w4 hown hb; have HP := hideIt (And.intro hown hb); clear hown hb)
          go_roundw
          case rel =>
            refine ⟨j + 1, by omega, by go_num, ?_, ?_⟩
            · have h4 := HP.out.1
              rw [HT.out] at h4
              rw [HX.out]
              exact h4
            · exact (HS.out.2.2.trans (HA2.out.alloc _)).then HP.out.2 (fun i hi h => by have := (HO2.out.lt i h).1; omega)
          case measure => simp [intOf]; omega
        · obtain ⟨W, hW⟩ : ∃ W, W = wr.alloc (.cells #[.int .i64 2, .int .i64 (A : Int), .int .i64 0, .int .i64 Nz] 33) := ⟨_, rfl⟩
          have k3 : W.heap[wr.heap.size]? = some (.cells #[.int .i64 2, .int .i64 (A : Int), .int .i64 0, .int .i64 Nz] 33 (0, 0)) := by rw [hW]; exact heap_alloc_new wr _
          have aW : After wr W := by rw [hW]; exact After.rfl.alloc _
          have HW := hideIt aW
          obtain ⟨b3, hb3⟩ : ∃ b, b = wr.heap.size := ⟨_, rfl⟩
          rw [← hb3] at k3
          have HNd : Hid (NdAt W b3 ⟨2, (A : Nat), 0, Nz⟩) := hideIt ⟨blk_cell k3 rfl, blk_cell k3 rfl, blk_cell k3 rfl, blk_cell k3 rfl⟩
          have p0 := blk_cell k3 (i := 0) rfl
          have p1 := blk_cell k3 (i := 1) rfl
          have p2 := blk_cell k3 (i := 2) rfl
          have p3 := blk_cell k3 (i := 3) rfl
          have hlt := blk_lt k3
          clear aW k3
          have HAt := hideIt (fun V (a : After W V) => atomT_2 L T A (by omega) Nz V)
          unfold Nd.val at HAt
          go_wp2_with fail
          rw [← hb3, ← hW]
          clear hW hb3
          refine (HAt.out _ After.rfl).mono ?_
          rintro e w2 ⟨rfl, a2⟩
          have HA2 := hideIt (HW.out.trans a2)
          clear a2
          obtain ⟨t, ht⟩ : ∃ t, t = nodeT L T ⟨2, (A : Nat), 0, Nz⟩ := ⟨_, rfl⟩
          rw [← ht]
          have HT := hideIt ht
          clear ht
          obtain ⟨M, hM⟩ : ∃ M : Nat, M = min t.length 1025 := ⟨_, rfl⟩
          have m1 : min ((S t).size : Int) 1025 = (M : Int) := by rw [L1.S_size]; omega
          have m2 : (M : Int) ≤ ((S t).size : Int) := by rw [L1.S_size]; omega
          have m3 : (0 : Int) ≤ (M : Int) := by omega
          have HE : Hid ((S t).extract 0 M = S (t.take 1025)) := hideIt (by
            rw [S_extract, List.drop_zero, Nat.sub_zero, hM]
            congr 1
            rcases Nat.le_total t.length 1025 with h | h
            · rw [Nat.min_eq_left h, List.take_of_length_le (Nat.le_refl _), List.take_of_length_le h]
            · rw [Nat.min_eq_right h])
          clear hM
          have HO2 := hideIt (own_after HOw.out HA2.out)
          go_wp2_with (at_builtin; refine app_row (E := strE) rfl (.tmp 176) (.tmp 182) 51 9 Tryz.underlying51 Tryz.infoStr2 rfl (by decide) rfl w.heap.size _ T rfl (own_after HO2.out (After.rfl.alloc _)) (some ⟨w2.heap.size, 0, none⟩) 1 1 [t.take 1025] rfl (by rw [HE.out]; exact lit_row (heap_alloc_new w2 _) rfl rfl) (fun h => by cases h) (by have := HS.out.1; unfold maxLen; omega) (by have := HS.out.1; omega) (by have := HS.out.2.2.size; have := HA2.out.size; simp; omega) ?_; intro v4 w4 hown hb; have HP := hideIt (And.intro hown hb); clear hown hb)
          go_roundw
          case rel =>
            refine ⟨j + 1, by omega, by go_num, ?_, ?_⟩
            · have h4 := HP.out.1
              rw [HT.out] at h4
              rw [HX.out]
              exact h4
            · exact (HS.out.2.2.trans (HA2.out.alloc _)).then HP.out.2 (fun i hi h => by have := (HO2.out.lt i h).1; omega)
          case measure => simp [intOf]; omega
      · rcases e with rfl | rfl | rfl
        · obtain ⟨W, hW⟩ : ∃ W, W = wr.alloc (.cells #[.int .i64 3, .int .i64 (A : Int), .int .i64 0, .int .i64 0] 33) := ⟨_, rfl⟩
          have k3 : W.heap[wr.heap.size]? = some (.cells #[.int .i64 3, .int .i64 (A : Int), .int .i64 0, .int .i64 0] 33 (0, 0)) := by rw [hW]; exact heap_alloc_new wr _
          have aW : After wr W := by rw [hW]; exact After.rfl.alloc _
          have HW := hideIt aW
          obtain ⟨b3, hb3⟩ : ∃ b, b = wr.heap.size := ⟨_, rfl⟩
          rw [← hb3] at k3
          have HNd : Hid (NdAt W b3 ⟨3, (A : Nat), 0, 0⟩) := hideIt ⟨blk_cell k3 rfl, blk_cell k3 rfl, blk_cell k3 rfl, blk_cell k3 rfl⟩
          have p0 := blk_cell k3 (i := 0) rfl
          have p1 := blk_cell k3 (i := 1) rfl
          have p2 := blk_cell k3 (i := 2) rfl
          have p3 := blk_cell k3 (i := 3) rfl
          have hlt := blk_lt k3
          clear aW k3
          have HAt := hideIt (fun V (a : After W V) => atomT_3 L T A (by omega) V)
          unfold Nd.val at HAt
          go_wp2_with fail
          rw [← hb3, ← hW]
          clear hW hb3
          refine (HAt.out _ After.rfl).mono ?_
          rintro e w2 ⟨rfl, a2⟩
          have HA2 := hideIt (HW.out.trans a2)
          clear a2
          obtain ⟨t, ht⟩ : ∃ t, t = nodeT L T ⟨3, (A : Nat), 0, 0⟩ := ⟨_, rfl⟩
          rw [← ht]
          have HT := hideIt ht
          clear ht
          obtain ⟨M, hM⟩ : ∃ M : Nat, M = min t.length 1025 := ⟨_, rfl⟩
          have m1 : min ((S t).size : Int) 1025 = (M : Int) := by rw [L1.S_size]; omega
          have m2 : (M : Int) ≤ ((S t).size : Int) := by rw [L1.S_size]; omega
          have m3 : (0 : Int) ≤ (M : Int) := by omega
          have HE : Hid ((S t).extract 0 M = S (t.take 1025)) := hideIt (by
            rw [S_extract, List.drop_zero, Nat.sub_zero, hM]
            congr 1
            rcases Nat.le_total t.length 1025 with h | h
            · rw [Nat.min_eq_left h, List.take_of_length_le (Nat.le_refl _), List.take_of_length_le h]
            · rw [Nat.min_eq_right h])
          clear hM
          have HO2 := hideIt (own_after HOw.out HA2.out)
          go_wp2_with (at_builtin; refine app_row (E := strE) rfl (.tmp 176) (.tmp 182) 51 9 Tryz.underlying51 Tryz.infoStr2 rfl (by decide) rfl w.heap.size _ T rfl (own_after HO2.out (After.rfl.alloc _)) (some ⟨w2.heap.size, 0, none⟩) 1 1 [t.take 1025] rfl (by rw [HE.out]; exact lit_row (heap_alloc_new w2 _) rfl rfl) (fun h => by cases h) (by have := HS.out.1; unfold maxLen; omega) (by have := HS.out.1; omega) (by have := HS.out.2.2.size; have := HA2.out.size; simp; omega) ?_; intro v4 w4 hown hb; have HP := hideIt (And.intro hown hb); clear hown hb)
          go_roundw
          case rel =>
            refine ⟨j + 1, by omega, by go_num, ?_, ?_⟩
            · have h4 := HP.out.1
              rw [HT.out] at h4
              rw [HX.out]
              exact h4
            · exact (HS.out.2.2.trans (HA2.out.alloc _)).then HP.out.2 (fun i hi h => by have := (HO2.out.lt i h).1; omega)
          case measure => simp [intOf]; omega
        · obtain ⟨W, hW⟩ : ∃ W, W = wr.alloc (.cells #[.int .i64 4, .int .i64 (A : Int), .int .i64 0, .int .i64 0] 33) := ⟨_, rfl⟩
          have k3 : W.heap[wr.heap.size]? = some (.cells #[.int .i64 4, .int .i64 (A : Int), .int .i64 0, .int .i64 0] 33 (0, 0)) := by rw [hW]; exact heap_alloc_new wr _
          have aW : After wr W := by rw [hW]; exact After.rfl.alloc _
          have HW := hideIt aW
          obtain ⟨b3, hb3⟩ : ∃ b, b = wr.heap.size := ⟨_, rfl⟩
          rw [← hb3] at k3
          have HNd : Hid (NdAt W b3 ⟨4, (A : Nat), 0, 0⟩) := hideIt ⟨blk_cell k3 rfl, blk_cell k3 rfl, blk_cell k3 rfl, blk_cell k3 rfl⟩
          have p0 := blk_cell k3 (i := 0) rfl
          have p1 := blk_cell k3 (i := 1) rfl
          have p2 := blk_cell k3 (i := 2) rfl
          have p3 := blk_cell k3 (i := 3) rfl
          have hlt := blk_lt k3
          clear aW k3
          have HAt := hideIt (fun V (a : After W V) => atomT_4 L T A (by omega) V)
          unfold Nd.val at HAt
          go_wp2_with fail
          rw [← hb3, ← hW]
          clear hW hb3
          refine (HAt.out _ After.rfl).mono ?_
          rintro e w2 ⟨rfl, a2⟩
          have HA2 := hideIt (HW.out.trans a2)
          clear a2
          obtain ⟨t, ht⟩ : ∃ t, t = nodeT L T ⟨4, (A : Nat), 0, 0⟩ := ⟨_, rfl⟩
          rw [← ht]
          have HT := hideIt ht
          clear ht
          obtain ⟨M, hM⟩ : ∃ M : Nat, M = min t.length 1025 := ⟨_, rfl⟩
          have m1 : min ((S t).size : Int) 1025 = (M : Int) := by rw [L1.S_size]; omega
          have m2 : (M : Int) ≤ ((S t).size : Int) := by rw [L1.S_size]; omega
          have m3 : (0 : Int) ≤ (M : Int) := by omega
          have HE : Hid ((S t).extract 0 M = S (t.take 1025)) := hideIt (by
            rw [S_extract, List.drop_zero, Nat.sub_zero, hM]
            congr 1
            rcases Nat.le_total t.length 1025 with h | h
            · rw [Nat.min_eq_left h, List.take_of_length_le (Nat.le_refl _), List.take_of_length_le h]
            · rw [Nat.min_eq_right h])
          clear hM
          have HO2 := hideIt (own_after HOw.out HA2.out)
          go_wp2_with (at_builtin; refine app_row (E := strE) rfl (.tmp 176) (.tmp 182) 51 9 Tryz.underlying51 Tryz.infoStr2 rfl (by decide) rfl w.heap.size _ T rfl (own_after HO2.out (After.rfl.alloc _)) (some ⟨w2.heap.size, 0, none⟩) 1 1 [t.take 1025] rfl (by rw [HE.out]; exact lit_row (heap_alloc_new w2 _) rfl rfl) (fun h => by cases h) (by have := HS.out.1; unfold maxLen; omega) (by have := HS.out.1; omega) (by have := HS.out.2.2.size; have := HA2.out.size; simp; omega) ?_; intro v4 w4 hown hb; have HP := hideIt (And.intro hown hb); clear hown hb)
          go_roundw
          case rel =>
            refine ⟨j + 1, by omega, by go_num, ?_, ?_⟩
            · have h4 := HP.out.1
              rw [HT.out] at h4
              rw [HX.out]
              exact h4
            · exact (HS.out.2.2.trans (HA2.out.alloc _)).then HP.out.2 (fun i hi h => by have := (HO2.out.lt i h).1; omega)
          case measure => simp [intOf]; omega
        · obtain ⟨W, hW⟩ : ∃ W, W = wr.alloc (.cells #[.int .i64 5, .int .i64 (A : Int), .int .i64 0, .int .i64 0] 33) := ⟨_, rfl⟩
          have k3 : W.heap[wr.heap.size]? = some (.cells #[.int .i64 5, .int .i64 (A : Int), .int .i64 0, .int .i64 0] 33 (0, 0)) := by rw [hW]; exact heap_alloc_new wr _
          have aW : After wr W := by rw [hW]; exact After.rfl.alloc _
          have HW := hideIt aW
          obtain ⟨b3, hb3⟩ : ∃ b, b = wr.heap.size := ⟨_, rfl⟩
          rw [← hb3] at k3
          have HNd : Hid (NdAt W b3 ⟨5, (A : Nat), 0, 0⟩) := hideIt ⟨blk_cell k3 rfl, blk_cell k3 rfl, blk_cell k3 rfl, blk_cell k3 rfl⟩
          have p0 := blk_cell k3 (i := 0) rfl
          have p1 := blk_cell k3 (i := 1) rfl
          have p2 := blk_cell k3 (i := 2) rfl
          have p3 := blk_cell k3 (i := 3) rfl
          have hlt := blk_lt k3
          clear aW k3
          have HAt := hideIt (fun V (a : After W V) => atomT_5 L T A (by omega) V)
          unfold Nd.val at HAt
          go_wp2_with fail
          rw [← hb3, ← hW]
          clear hW hb3
          refine (HAt.out _ After.rfl).mono ?_
          rintro e w2 ⟨rfl, a2⟩
          have HA2 := hideIt (HW.out.trans a2)
          clear a2
          obtain ⟨t, ht⟩ : ∃ t, t = nodeT L T ⟨5, (A : Nat), 0, 0⟩ := ⟨_, rfl⟩
          rw [← ht]
          have HT := hideIt ht
          clear ht
          obtain ⟨M, hM⟩ : ∃ M : Nat, M = min t.length 1025 := ⟨_, rfl⟩
          have m1 : min ((S t).size : Int) 1025 = (M : Int) := by rw [L1.S_size]; omega
          have m2 : (M : Int) ≤ ((S t).size : Int) := by rw [L1.S_size]; omega
          have m3 : (0 : Int) ≤ (M : Int) := by omega
          have HE : Hid ((S t).extract 0 M = S (t.take 1025)) := hideIt (by
            rw [S_extract, List.drop_zero, Nat.sub_zero, hM]
            congr 1
            rcases Nat.le_total t.length 1025 with h | h
            · rw [Nat.min_eq_left h, List.take_of_length_le (Nat.le_refl _), List.take_of_length_le h]
            · rw [Nat.min_eq_right h])
          clear hM
          have HO2 := hideIt (own_after HOw.out HA2.out)
          go_wp2_with (at_builtin; refine app_row (E := strE) rfl (.tmp 176) (.tmp 182) 51 9 Tryz.underlying51 Tryz.infoStr2 rfl (by decide) rfl w.heap.size _ T rfl (own_after HO2.out (After.rfl.alloc _)) (some ⟨w2.heap.size, 0, none⟩) 1 1 [t.take 1025] rfl (by rw [HE.out]; exact lit_row (heap_alloc_new w2 _) rfl rfl) (fun h => by cases h) (by have := HS.out.1; unfold maxLen; omega) (by have := HS.out.1; omega) (by have := HS.out.2.2.size; have := HA2.out.size; simp; omega) ?_; intro v4 w4 hown hb; have HP := hideIt (And.intro hown hb); clear hown hb)
          go_roundw
          case rel =>
            refine ⟨j + 1, by omega, by go_num, ?_, ?_⟩
            · have h4 := HP.out.1
              rw [HT.out] at h4
              rw [HX.out]
              exact h4
            · exact (HS.out.2.2.trans (HA2.out.alloc _)).then HP.out.2 (fun i hi h => by have := (HO2.out.lt i h).1; omega)
          case measure => simp [intOf]; omega
      · rcases e with rfl | rfl
        · obtain ⟨bt, ot, rfl⟩ := HNo.out (by omega)
          have HPA := hideIt (ptAt_of (HS.out.2.1.after (After.rfl.alloc (.cells #[.int .i64 6, .int .i64 (A : Int), .int .i64 0, .int .i64 0] 33))) (HR.out.after (HS.out.2.2.trans (After.rfl.alloc (.cells #[.int .i64 6, .int .i64 (A : Int), .int .i64 0, .int .i64 0] 33)))) (k := A) (by have := HS.out.1; omega) (by omega) HSt.out)
          obtain ⟨W, hW⟩ : ∃ W, W = wr.alloc (.cells #[.int .i64 6, .int .i64 (A : Int), .int .i64 0, .int .i64 0] 33) := ⟨_, rfl⟩
          have k3 : W.heap[wr.heap.size]? = some (.cells #[.int .i64 6, .int .i64 (A : Int), .int .i64 0, .int .i64 0] 33 (0, 0)) := by rw [hW]; exact heap_alloc_new wr _
          have aW : After wr W := by rw [hW]; exact After.rfl.alloc _
          have HW := hideIt aW
          obtain ⟨b3, hb3⟩ : ∃ b, b = wr.heap.size := ⟨_, rfl⟩
          rw [← hb3] at k3
          have HNd : Hid (NdAt W b3 ⟨6, (A : Nat), 0, 0⟩) := hideIt ⟨blk_cell k3 rfl, blk_cell k3 rfl, blk_cell k3 rfl, blk_cell k3 rfl⟩
          have p0 := blk_cell k3 (i := 0) rfl
          have hlt := blk_lt k3
          rw [← hW] at HPA
          have HShA : Hid ((txAt T ((A : Nat) : Int)).length ≤ 1025 ∧ (∀ m, (parT L T ((A : Nat) : Int) m).length ≤ 1027)) := hideIt ⟨HPA.out.short, ptShort HPA.out⟩
          clear aW k3
          go_upto_region 13 with fail
          rw [← hb3, ← hW]
          clear hW hb3
          refine region_slotsG (by kernel_rfl) [31, 32, 33, 34, 35, 36, 37, 38, 39, 40, 41, 42, 43, 8] [isV (.slice (some ⟨bt, ot, none⟩) j ct), isV (.pointer (some ⟨b3, 1, none⟩)), isV (.int .i64 ((A : Nat) : Int)), isV (.pointer (some ⟨bt, ot + A, none⟩)), isV (.string (S (txAt T ((A : Nat) : Int)))), isV (.slice (some ⟨bn, on_, none⟩) n cl), isV (.pointer (some ⟨b3, 1, none⟩)), isV (.int .i64 ((A : Nat) : Int)), isV (.pointer (some ⟨bn, on_ + A * 4, none⟩)), isV (.pointer (some ⟨bn, on_ + A * 4, none⟩)), isV (.int .i64 (ndAt L ((A : Nat) : Int)).op), isV (.string (S (parT L T ((A : Nat) : Int) 3))), isV (.string (S ([110, 111, 116, 32] ++ (parT L T ((A : Nat) : Int) 3)))), isV (.string (S ([110, 111, 116, 32] ++ (parT L T ((A : Nat) : Int) 3))))] 14 rfl rfl (stable_all (st_cons (isV_st _) (st_cons (isV_st _) (st_cons (isV_st _) (st_cons (isV_st _) (st_cons (isV_st _) (st_cons (isV_st _) (st_cons (isV_st _) (st_cons (isV_st _) (st_cons (isV_st _) (st_cons (isV_st _) (st_cons (isV_st _) (st_cons (isV_st _) (st_cons (isV_st _) (st_cons (isV_st _) (st_nil)))))))))))))))) rfl rfl ?_ ?_
          · exact ⟨⟨rfl, rfl, .inl ⟨(.inl rfl), fun a W9 K hd hb aw hk => wp_move (.inl rfl) (show a.eval (.tmp 5) = .slice (some ⟨bt, ot, none⟩) j ct from hb 5 rfl) (hk _ _ rfl After.rfl)⟩⟩,
              ⟨rfl, rfl, .inl ⟨(.inl rfl), fun a W9 K hd hb aw hk => wp_field rfl (show a.eval (.tmp 7) = Ptr b3 from hb 7 rfl) (fieldN _ _ (by omega) _) (hk _ _ rfl After.rfl)⟩⟩,
              ⟨rfl, rfl, .inl ⟨(.inl rfl), fun a W9 K hd hb aw hk => wp_load rfl (hd 1 rfl) (loadInt (HNd.out.after aw).c1) (hk _ _ rfl After.rfl)⟩⟩,
              ⟨rfl, rfl, .inl ⟨(.inl rfl), fun a W9 K hd hb aw hk => wp_index rfl (hd 0 rfl) (hd 2 rfl) (indexSt _ _ _ _ _ _ (by omega)) (hk _ _ rfl After.rfl)⟩⟩,
              ⟨rfl, rfl, .inl ⟨(.inl rfl), fun a W9 K hd hb aw hk => wp_load rfl (hd 3 rfl) (loadS (HPA.out.after aw).t) (hk _ _ rfl After.rfl)⟩⟩,
              ⟨rfl, rfl, .inl ⟨(.inl rfl), fun a W9 K hd hb aw hk => wp_move (.inl rfl) (show a.eval (.tmp 0) = .slice (some ⟨bn, on_, none⟩) n cl from hb 0 rfl) (hk _ _ rfl After.rfl)⟩⟩,
              ⟨rfl, rfl, .inl ⟨(.inl rfl), fun a W9 K hd hb aw hk => wp_field rfl (show a.eval (.tmp 7) = Ptr b3 from hb 7 rfl) (fieldN _ _ (by omega) _) (hk _ _ rfl After.rfl)⟩⟩,
              ⟨rfl, rfl, .inl ⟨(.inl rfl), fun a W9 K hd hb aw hk => wp_load rfl (hd 6 rfl) (loadInt (HNd.out.after aw).c1) (hk _ _ rfl After.rfl)⟩⟩,
              ⟨rfl, rfl, .inl ⟨(.inl rfl), fun a W9 K hd hb aw hk => wp_index rfl (hd 5 rfl) (hd 7 rfl) (indexNd _ _ _ _ _ _ (by omega)) (hk _ _ rfl After.rfl)⟩⟩,
              ⟨rfl, rfl, .inl ⟨(.inl rfl), fun a W9 K hd hb aw hk => wp_field rfl (hd 8 rfl) (fieldN0 _ _ _) (hk _ _ rfl After.rfl)⟩⟩,
              ⟨rfl, rfl, .inl ⟨(.inl rfl), fun a W9 K hd hb aw hk => wp_load rfl (hd 9 rfl) (loadInt (HPA.out.after aw).n) (hk _ _ rfl After.rfl)⟩⟩,
              ⟨rfl, rfl, .inl ⟨(.inl rfl), fun a W9 K hd hb aw hk => wp_func3 rfl enterIn (hd 4 rfl) (hd 10 rfl) rfl ((in_part (HPA.out.after aw) 3 (by omega) (by omega) 2 rfl).mono (fun _ _ ⟨he, hA⟩ => ⟨_, he, hk _ _ rfl (by rw [hA]; exact After.rfl)⟩))⟩⟩,
              ⟨rfl, rfl, .inl ⟨(.inl rfl), fun a W9 K hd hb aw hk => wp_bin rfl rfl (hd 11 rfl) (addSt _ _ (Nat.le_of_ble_eq_true rfl : List.length (α := UInt8) [110, 111, 116, 32] ≤ 4) (HShA.out.2 3) rfl _ _ _) (hk _ _ rfl After.rfl)⟩⟩,
              ⟨rfl, rfl, .inl ⟨(.inl rfl), fun a W9 K hd hb aw hk => wp_move (.inr rfl) (hd 12 rfl) (hk _ _ rfl After.rfl)⟩⟩,
              trivial⟩
          intro x9 w9 hx9 aw9
          have t0 : x9 0 = .slice (some ⟨bt, ot, none⟩) j ct := hx9 0 (Nat.le_of_ble_eq_true rfl)
          have t1 : x9 1 = .pointer (some ⟨b3, 1, none⟩) := hx9 1 (Nat.le_of_ble_eq_true rfl)
          have t2 : x9 2 = .int .i64 ((A : Nat) : Int) := hx9 2 (Nat.le_of_ble_eq_true rfl)
          have t3 : x9 3 = .pointer (some ⟨bt, ot + A, none⟩) := hx9 3 (Nat.le_of_ble_eq_true rfl)
          have t4 : x9 4 = .string (S (txAt T ((A : Nat) : Int))) := hx9 4 (Nat.le_of_ble_eq_true rfl)
          have t5 : x9 5 = .slice (some ⟨bn, on_, none⟩) n cl := hx9 5 (Nat.le_of_ble_eq_true rfl)
          have t6 : x9 6 = .pointer (some ⟨b3, 1, none⟩) := hx9 6 (Nat.le_of_ble_eq_true rfl)
          have t7 : x9 7 = .int .i64 ((A : Nat) : Int) := hx9 7 (Nat.le_of_ble_eq_true rfl)
          have t8 : x9 8 = .pointer (some ⟨bn, on_ + A * 4, none⟩) := hx9 8 (Nat.le_of_ble_eq_true rfl)
          have t9 : x9 9 = .pointer (some ⟨bn, on_ + A * 4, none⟩) := hx9 9 (Nat.le_of_ble_eq_true rfl)
          have t10 : x9 10 = .int .i64 (ndAt L ((A : Nat) : Int)).op := hx9 10 (Nat.le_of_ble_eq_true rfl)
          have t11 : x9 11 = .string (S (parT L T ((A : Nat) : Int) 3)) := hx9 11 (Nat.le_of_ble_eq_true rfl)
          have t12 : x9 12 = .string (S ([110, 111, 116, 32] ++ (parT L T ((A : Nat) : Int) 3))) := hx9 12 (Nat.le_of_ble_eq_true rfl)
          have t13 : x9 13 = .string (S ([110, 111, 116, 32] ++ (parT L T ((A : Nat) : Int) 3))) := hx9 13 (Nat.le_of_ble_eq_true rfl)
          simp only [sets, List.getD_cons_succ, List.getD_cons_zero, List.set_cons_succ, List.set_cons_zero, t0, t1, t2, t3, t4, t5, t6, t7, t8, t9, t10, t11, t12, t13]
          clear hx9 t0 t1 t2 t3 t4 t5 t6 t7 t8 t9 t10 t11 t12 t13
          clear x9
          have HA2 := hideIt (HW.out.trans aw9)
          clear aw9
          obtain ⟨t, ht⟩ : ∃ t, t = ([110, 111, 116, 32] ++ (parT L T ((A : Nat) : Int) 3)) := ⟨_, rfl⟩
          rw [← ht]
          have HT : Hid (t = nodeT L T ⟨6, (A : Nat), 0, 0⟩) := hideIt (by
            rw [ht]
            rfl)
          clear ht
          obtain ⟨w2, hw2⟩ : ∃ w2, w2 = w9 := ⟨_, rfl⟩
          subst hw2
          obtain ⟨M, hM⟩ : ∃ M : Nat, M = min t.length 1025 := ⟨_, rfl⟩
          have m1 : min ((S t).size : Int) 1025 = (M : Int) := by rw [L1.S_size]; omega
          have m2 : (M : Int) ≤ ((S t).size : Int) := by rw [L1.S_size]; omega
          have m3 : (0 : Int) ≤ (M : Int) := by omega
          have HE : Hid ((S t).extract 0 M = S (t.take 1025)) := hideIt (by
            rw [S_extract, List.drop_zero, Nat.sub_zero, hM]
            congr 1
            rcases Nat.le_total t.length 1025 with h | h
            · rw [Nat.min_eq_left h, List.take_of_length_le (Nat.le_refl _), List.take_of_length_le h]
            · rw [Nat.min_eq_right h])
          clear hM
          have HO2 := hideIt (own_after HOw.out HA2.out)
          go_wp2_with (at_builtin; refine app_row (E := strE) rfl (.tmp 176) (.tmp 182) 51 9 Tryz.underlying51 Tryz.infoStr2 rfl (by decide) rfl w.heap.size _ T rfl (own_after HO2.out (After.rfl.alloc _)) (some ⟨w2.heap.size, 0, none⟩) 1 1 [t.take 1025] rfl (by rw [HE.out]; exact lit_row (heap_alloc_new w2 _) rfl rfl) (fun h => by cases h) (by have := HS.out.1; unfold maxLen; omega) (by have := HS.out.1; omega) (by have := HS.out.2.2.size; have := HA2.out.size; simp; omega) ?_; intro v4 w4 hown hb; have HP := hideIt (And.intro hown hb); clear hown hb)
          go_roundw
          case rel =>
            refine ⟨j + 1, by omega, by go_num, ?_, ?_⟩
            · have h4 := HP.out.1
              rw [HT.out] at h4
              rw [HX.out]
              exact h4
            · exact (HS.out.2.2.trans (HA2.out.alloc _)).then HP.out.2 (fun i hi h => by have := (HO2.out.lt i h).1; omega)
          case measure => simp [intOf]; omega
        · obtain ⟨bt, ot, rfl⟩ := HNo.out (by omega)
          have HPA := hideIt (ptAt_of (HS.out.2.1.after (After.rfl.alloc (.cells #[.int .i64 9, .int .i64 (A : Int), .int .i64 0, .int .i64 0] 33))) (HR.out.after (HS.out.2.2.trans (After.rfl.alloc (.cells #[.int .i64 9, .int .i64 (A : Int), .int .i64 0, .int .i64 0] 33)))) (k := A) (by have := HS.out.1; omega) (by omega) HSt.out)
          obtain ⟨W, hW⟩ : ∃ W, W = wr.alloc (.cells #[.int .i64 9, .int .i64 (A : Int), .int .i64 0, .int .i64 0] 33) := ⟨_, rfl⟩
          have k3 : W.heap[wr.heap.size]? = some (.cells #[.int .i64 9, .int .i64 (A : Int), .int .i64 0, .int .i64 0] 33 (0, 0)) := by rw [hW]; exact heap_alloc_new wr _
          have aW : After wr W := by rw [hW]; exact After.rfl.alloc _
          have HW := hideIt aW
          obtain ⟨b3, hb3⟩ : ∃ b, b = wr.heap.size := ⟨_, rfl⟩
          rw [← hb3] at k3
          have HNd : Hid (NdAt W b3 ⟨9, (A : Nat), 0, 0⟩) := hideIt ⟨blk_cell k3 rfl, blk_cell k3 rfl, blk_cell k3 rfl, blk_cell k3 rfl⟩
          have p0 := blk_cell k3 (i := 0) rfl
          have hlt := blk_lt k3
          rw [← hW] at HPA
          have HShA : Hid ((txAt T ((A : Nat) : Int)).length ≤ 1025 ∧ (∀ m, (parT L T ((A : Nat) : Int) m).length ≤ 1027)) := hideIt ⟨HPA.out.short, ptShort HPA.out⟩
          clear aW k3
          go_upto_region 15 with fail
          rw [← hb3, ← hW]
          clear hW hb3
          refine region_slotsG (by kernel_rfl) [46, 47, 48, 49, 50, 51, 52, 53, 54, 55, 56, 57, 58, 8] [isV (.slice (some ⟨bt, ot, none⟩) j ct), isV (.pointer (some ⟨b3, 1, none⟩)), isV (.int .i64 ((A : Nat) : Int)), isV (.pointer (some ⟨bt, ot + A, none⟩)), isV (.string (S (txAt T ((A : Nat) : Int)))), isV (.slice (some ⟨bn, on_, none⟩) n cl), isV (.pointer (some ⟨b3, 1, none⟩)), isV (.int .i64 ((A : Nat) : Int)), isV (.pointer (some ⟨bn, on_ + A * 4, none⟩)), isV (.pointer (some ⟨bn, on_ + A * 4, none⟩)), isV (.int .i64 (ndAt L ((A : Nat) : Int)).op), isV (.string (S (parT L T ((A : Nat) : Int) 3))), isV (.string (S ([112, 114, 101, 118, 32] ++ (parT L T ((A : Nat) : Int) 3)))), isV (.string (S ([112, 114, 101, 118, 32] ++ (parT L T ((A : Nat) : Int) 3))))] 14 rfl rfl (stable_all (st_cons (isV_st _) (st_cons (isV_st _) (st_cons (isV_st _) (st_cons (isV_st _) (st_cons (isV_st _) (st_cons (isV_st _) (st_cons (isV_st _) (st_cons (isV_st _) (st_cons (isV_st _) (st_cons (isV_st _) (st_cons (isV_st _) (st_cons (isV_st _) (st_cons (isV_st _) (st_cons (isV_st _) (st_nil)))))))))))))))) rfl rfl ?_ ?_
          · exact ⟨⟨rfl, rfl, .inl ⟨(.inl rfl), fun a W9 K hd hb aw hk => wp_move (.inl rfl) (show a.eval (.tmp 5) = .slice (some ⟨bt, ot, none⟩) j ct from hb 5 rfl) (hk _ _ rfl After.rfl)⟩⟩,
              ⟨rfl, rfl, .inl ⟨(.inl rfl), fun a W9 K hd hb aw hk => wp_field rfl (show a.eval (.tmp 7) = Ptr b3 from hb 7 rfl) (fieldN _ _ (by omega) _) (hk _ _ rfl After.rfl)⟩⟩,
              ⟨rfl, rfl, .inl ⟨(.inl rfl), fun a W9 K hd hb aw hk => wp_load rfl (hd 1 rfl) (loadInt (HNd.out.after aw).c1) (hk _ _ rfl After.rfl)⟩⟩,
              ⟨rfl, rfl, .inl ⟨(.inl rfl), fun a W9 K hd hb aw hk => wp_index rfl (hd 0 rfl) (hd 2 rfl) (indexSt _ _ _ _ _ _ (by omega)) (hk _ _ rfl After.rfl)⟩⟩,
              ⟨rfl, rfl, .inl ⟨(.inl rfl), fun a W9 K hd hb aw hk => wp_load rfl (hd 3 rfl) (loadS (HPA.out.after aw).t) (hk _ _ rfl After.rfl)⟩⟩,
              ⟨rfl, rfl, .inl ⟨(.inl rfl), fun a W9 K hd hb aw hk => wp_move (.inl rfl) (show a.eval (.tmp 0) = .slice (some ⟨bn, on_, none⟩) n cl from hb 0 rfl) (hk _ _ rfl After.rfl)⟩⟩,
              ⟨rfl, rfl, .inl ⟨(.inl rfl), fun a W9 K hd hb aw hk => wp_field rfl (show a.eval (.tmp 7) = Ptr b3 from hb 7 rfl) (fieldN _ _ (by omega) _) (hk _ _ rfl After.rfl)⟩⟩,
              ⟨rfl, rfl, .inl ⟨(.inl rfl), fun a W9 K hd hb aw hk => wp_load rfl (hd 6 rfl) (loadInt (HNd.out.after aw).c1) (hk _ _ rfl After.rfl)⟩⟩,
              ⟨rfl, rfl, .inl ⟨(.inl rfl), fun a W9 K hd hb aw hk => wp_index rfl (hd 5 rfl) (hd 7 rfl) (indexNd _ _ _ _ _ _ (by omega)) (hk _ _ rfl After.rfl)⟩⟩,
              ⟨rfl, rfl, .inl ⟨(.inl rfl), fun a W9 K hd hb aw hk => wp_field rfl (hd 8 rfl) (fieldN0 _ _ _) (hk _ _ rfl After.rfl)⟩⟩,
              ⟨rfl, rfl, .inl ⟨(.inl rfl), fun a W9 K hd hb aw hk => wp_load rfl (hd 9 rfl) (loadInt (HPA.out.after aw).n) (hk _ _ rfl After.rfl)⟩⟩,
              ⟨rfl, rfl, .inl ⟨(.inl rfl), fun a W9 K hd hb aw hk => wp_func3 rfl enterIn (hd 4 rfl) (hd 10 rfl) rfl ((in_part (HPA.out.after aw) 3 (by omega) (by omega) 2 rfl).mono (fun _ _ ⟨he, hA⟩ => ⟨_, he, hk _ _ rfl (by rw [hA]; exact After.rfl)⟩))⟩⟩,
              ⟨rfl, rfl, .inl ⟨(.inl rfl), fun a W9 K hd hb aw hk => wp_bin rfl rfl (hd 11 rfl) (addSt _ _ (Nat.le_of_ble_eq_true rfl : List.length (α := UInt8) [112, 114, 101, 118, 32] ≤ 5) (HShA.out.2 3) rfl _ _ _) (hk _ _ rfl After.rfl)⟩⟩,
              ⟨rfl, rfl, .inl ⟨(.inl rfl), fun a W9 K hd hb aw hk => wp_move (.inr rfl) (hd 12 rfl) (hk _ _ rfl After.rfl)⟩⟩,
              trivial⟩
          intro x9 w9 hx9 aw9
          have t0 : x9 0 = .slice (some ⟨bt, ot, none⟩) j ct := hx9 0 (Nat.le_of_ble_eq_true rfl)
          have t1 : x9 1 = .pointer (some ⟨b3, 1, none⟩) := hx9 1 (Nat.le_of_ble_eq_true rfl)
          have t2 : x9 2 = .int .i64 ((A : Nat) : Int) := hx9 2 (Nat.le_of_ble_eq_true rfl)
          have t3 : x9 3 = .pointer (some ⟨bt, ot + A, none⟩) := hx9 3 (Nat.le_of_ble_eq_true rfl)
          have t4 : x9 4 = .string (S (txAt T ((A : Nat) : Int))) := hx9 4 (Nat.le_of_ble_eq_true rfl)
          have t5 : x9 5 = .slice (some ⟨bn, on_, none⟩) n cl := hx9 5 (Nat.le_of_ble_eq_true rfl)
          have t6 : x9 6 = .pointer (some ⟨b3, 1, none⟩) := hx9 6 (Nat.le_of_ble_eq_true rfl)
          have t7 : x9 7 = .int .i64 ((A : Nat) : Int) := hx9 7 (Nat.le_of_ble_eq_true rfl)
          have t8 : x9 8 = .pointer (some ⟨bn, on_ + A * 4, none⟩) := hx9 8 (Nat.le_of_ble_eq_true rfl)
          have t9 : x9 9 = .pointer (some ⟨bn, on_ + A * 4, none⟩) := hx9 9 (Nat.le_of_ble_eq_true rfl)
          have t10 : x9 10 = .int .i64 (ndAt L ((A : Nat) : Int)).op := hx9 10 (Nat.le_of_ble_eq_true rfl)
          have t11 : x9 11 = .string (S (parT L T ((A : Nat) : Int) 3)) := hx9 11 (Nat.le_of_ble_eq_true rfl)
          have t12 : x9 12 = .string (S ([112, 114, 101, 118, 32] ++ (parT L T ((A : Nat) : Int) 3))) := hx9 12 (Nat.le_of_ble_eq_true rfl)
          have t13 : x9 13 = .string (S ([112, 114, 101, 118, 32] ++ (parT L T ((A : Nat) : Int) 3))) := hx9 13 (Nat.le_of_ble_eq_true rfl)
          simp only [sets, List.getD_cons_succ, List.getD_cons_zero, List.set_cons_succ, List.set_cons_zero, t0, t1, t2, t3, t4, t5, t6, t7, t8, t9, t10, t11, t12, t13]
          clear hx9 t0 t1 t2 t3 t4 t5 t6 t7 t8 t9 t10 t11 t12 t13
          clear x9
          have HA2 := hideIt (HW.out.trans aw9)
          clear aw9
          obtain ⟨t, ht⟩ : ∃ t, t = ([112, 114, 101, 118, 32] ++ (parT L T ((A : Nat) : Int) 3)) := ⟨_, rfl⟩
          rw [← ht]
          have HT : Hid (t = nodeT L T ⟨9, (A : Nat), 0, 0⟩) := hideIt (by
            rw [ht]
            rfl)
          clear ht
          obtain ⟨w2, hw2⟩ : ∃ w2, w2 = w9 := ⟨_, rfl⟩
          subst hw2
          obtain ⟨M, hM⟩ : ∃ M : Nat, M = min t.length 1025 := ⟨_, rfl⟩
          have m1 : min ((S t).size : Int) 1025 = (M : Int) := by rw [L1.S_size]; omega
          have m2 : (M : Int) ≤ ((S t).size : Int) := by rw [L1.S_size]; omega
          have m3 : (0 : Int) ≤ (M : Int) := by omega
          have HE : Hid ((S t).extract 0 M = S (t.take 1025)) := hideIt (by
            rw [S_extract, List.drop_zero, Nat.sub_zero, hM]
            congr 1
            rcases Nat.le_total t.length 1025 with h | h
            · rw [Nat.min_eq_left h, List.take_of_length_le (Nat.le_refl _), List.take_of_length_le h]
            · rw [Nat.min_eq_right h])
          clear hM
          have HO2 := hideIt (own_after HOw.out HA2.out)
          go_wp2_with (at_builtin; refine app_row (E := strE) rfl (.tmp 176) (.tmp 182) 51 9 Tryz.underlying51 Tryz.infoStr2 rfl (by decide) rfl w.heap.size _ T rfl (own_after HO2.out (After.rfl.alloc _)) (some ⟨w2.heap.size, 0, none⟩) 1 1 [t.take 1025] rfl (by rw [HE.out]; exact lit_row (heap_alloc_new w2 _) rfl rfl) (fun h => by cases h) (by have := HS.out.1; unfold maxLen; omega) (by have := HS.out.1; omega) (by have := HS.out.2.2.size; have := HA2.out.size; simp; omega) ?_; intro v4 w4 hown hb; have HP := hideIt (And.intro hown hb); clear hown hb)
          go_roundw
          case rel =>
            refine ⟨j + 1, by omega, by go_num, ?_, ?_⟩
            · have h4 := HP.out.1
              rw [HT.out] at h4
              rw [HX.out]
              exact h4
            · exact (HS.out.2.2.trans (HA2.out.alloc _)).then HP.out.2 (fun i hi h => by have := (HO2.out.lt i h).1; omega)
          case measure => simp [intOf]; omega
      · rcases e with rfl | rfl
        · obtain ⟨bt, ot, rfl⟩ := HNo.out (by omega)
          have HPA := hideIt (ptAt_of (HS.out.2.1.after (After.rfl.alloc (.cells #[.int .i64 10, .int .i64 (A : Int), .int .i64 0, .int .i64 (Nn : Int)] 33))) (HR.out.after (HS.out.2.2.trans (After.rfl.alloc (.cells #[.int .i64 10, .int .i64 (A : Int), .int .i64 0, .int .i64 (Nn : Int)] 33)))) (k := A) (by have := HS.out.1; omega) (by omega) HSt.out)
          obtain ⟨W, hW⟩ : ∃ W, W = wr.alloc (.cells #[.int .i64 10, .int .i64 (A : Int), .int .i64 0, .int .i64 (Nn : Int)] 33) := ⟨_, rfl⟩
          have k3 : W.heap[wr.heap.size]? = some (.cells #[.int .i64 10, .int .i64 (A : Int), .int .i64 0, .int .i64 (Nn : Int)] 33 (0, 0)) := by rw [hW]; exact heap_alloc_new wr _
          have aW : After wr W := by rw [hW]; exact After.rfl.alloc _
          have HW := hideIt aW
          obtain ⟨b3, hb3⟩ : ∃ b, b = wr.heap.size := ⟨_, rfl⟩
          rw [← hb3] at k3
          have HNd : Hid (NdAt W b3 ⟨10, (A : Nat), 0, (Nn : Nat)⟩) := hideIt ⟨blk_cell k3 rfl, blk_cell k3 rfl, blk_cell k3 rfl, blk_cell k3 rfl⟩
          have p0 := blk_cell k3 (i := 0) rfl
          have hlt := blk_lt k3
          rw [← hW] at HPA
          have HShA : Hid ((txAt T ((A : Nat) : Int)).length ≤ 1025 ∧ (∀ m, (parT L T ((A : Nat) : Int) m).length ≤ 1027)) := hideIt ⟨HPA.out.short, ptShort HPA.out⟩
          clear aW k3
          go_upto_region 17 with fail
          rw [← hb3, ← hW]
          clear hW hb3
          refine region_slotsG (by kernel_rfl) [61, 62, 63, 64, 65, 66, 67, 68, 69, 70, 71, 72, 73, 74, 75, 76, 77, 78, 8] [isV (.pointer (some ⟨b3, 3, none⟩)), isV (.int .i64 ((Nn : Nat) : Int)), isV (.string (S (dig Nn))), isV (.string (S ([111, 110, 99, 101, 32] ++ (dig Nn)))), isV (.string (S (([111, 110, 99, 101, 32] ++ (dig Nn)) ++ [32]))), isV (.slice (some ⟨bt, ot, none⟩) j ct), isV (.pointer (some ⟨b3, 1, none⟩)), isV (.int .i64 ((A : Nat) : Int)), isV (.pointer (some ⟨bt, ot + A, none⟩)), isV (.string (S (txAt T ((A : Nat) : Int)))), isV (.slice (some ⟨bn, on_, none⟩) n cl), isV (.pointer (some ⟨b3, 1, none⟩)), isV (.int .i64 ((A : Nat) : Int)), isV (.pointer (some ⟨bn, on_ + A * 4, none⟩)), isV (.pointer (some ⟨bn, on_ + A * 4, none⟩)), isV (.int .i64 (ndAt L ((A : Nat) : Int)).op), isV (.string (S (parT L T ((A : Nat) : Int) 3))), isV (.string (S ((([111, 110, 99, 101, 32] ++ (dig Nn)) ++ [32]) ++ (parT L T ((A : Nat) : Int) 3)))), isV (.string (S ((([111, 110, 99, 101, 32] ++ (dig Nn)) ++ [32]) ++ (parT L T ((A : Nat) : Int) 3))))] 19 rfl rfl (stable_all (st_cons (isV_st _) (st_cons (isV_st _) (st_cons (isV_st _) (st_cons (isV_st _) (st_cons (isV_st _) (st_cons (isV_st _) (st_cons (isV_st _) (st_cons (isV_st _) (st_cons (isV_st _) (st_cons (isV_st _) (st_cons (isV_st _) (st_cons (isV_st _) (st_cons (isV_st _) (st_cons (isV_st _) (st_cons (isV_st _) (st_cons (isV_st _) (st_cons (isV_st _) (st_cons (isV_st _) (st_cons (isV_st _) (st_nil))))))))))))))))))))) rfl rfl ?_ ?_
          · exact ⟨⟨rfl, rfl, .inl ⟨(.inl rfl), fun a W9 K hd hb aw hk => wp_field rfl (show a.eval (.tmp 7) = Ptr b3 from hb 7 rfl) (fieldN _ _ (by omega) _) (hk _ _ rfl After.rfl)⟩⟩,
              ⟨rfl, rfl, .inl ⟨(.inl rfl), fun a W9 K hd hb aw hk => wp_load rfl (hd 0 rfl) (loadInt (HNd.out.after aw).c3) (hk _ _ rfl After.rfl)⟩⟩,
              ⟨rfl, rfl, .inl ⟨(.inl rfl), fun a W9 K hd hb aw hk => wp_func1 rfl enterDg (hd 1 rfl) ((digits_any Nn (by omega) _).mono (fun _ _ ⟨he, hA⟩ => ⟨_, he, hk _ _ rfl hA⟩))⟩⟩,
              ⟨rfl, rfl, .inl ⟨(.inl rfl), fun a W9 K hd hb aw hk => wp_bin rfl rfl (hd 2 rfl) (addSt _ _ (Nat.le_of_ble_eq_true rfl : List.length (α := UInt8) [111, 110, 99, 101, 32] ≤ 5) (dig_len Nn) rfl _ _ _) (hk _ _ rfl After.rfl)⟩⟩,
              ⟨rfl, rfl, .inl ⟨(.inl rfl), fun a W9 K hd hb aw hk => wp_bin rfl (hd 3 rfl) rfl (addSt _ _ (cat_le (Nat.le_of_ble_eq_true rfl : List.length (α := UInt8) [111, 110, 99, 101, 32] ≤ 5) (dig_len Nn)) (Nat.le_of_ble_eq_true rfl : List.length (α := UInt8) [32] ≤ 1) rfl _ _ _) (hk _ _ rfl After.rfl)⟩⟩,
              ⟨rfl, rfl, .inl ⟨(.inl rfl), fun a W9 K hd hb aw hk => wp_move (.inl rfl) (show a.eval (.tmp 5) = .slice (some ⟨bt, ot, none⟩) j ct from hb 5 rfl) (hk _ _ rfl After.rfl)⟩⟩,
              ⟨rfl, rfl, .inl ⟨(.inl rfl), fun a W9 K hd hb aw hk => wp_field rfl (show a.eval (.tmp 7) = Ptr b3 from hb 7 rfl) (fieldN _ _ (by omega) _) (hk _ _ rfl After.rfl)⟩⟩,
              ⟨rfl, rfl, .inl ⟨(.inl rfl), fun a W9 K hd hb aw hk => wp_load rfl (hd 6 rfl) (loadInt (HNd.out.after aw).c1) (hk _ _ rfl After.rfl)⟩⟩,
              ⟨rfl, rfl, .inl ⟨(.inl rfl), fun a W9 K hd hb aw hk => wp_index rfl (hd 5 rfl) (hd 7 rfl) (indexSt _ _ _ _ _ _ (by omega)) (hk _ _ rfl After.rfl)⟩⟩,
              ⟨rfl, rfl, .inl ⟨(.inl rfl), fun a W9 K hd hb aw hk => wp_load rfl (hd 8 rfl) (loadS (HPA.out.after aw).t) (hk _ _ rfl After.rfl)⟩⟩,
              ⟨rfl, rfl, .inl ⟨(.inl rfl), fun a W9 K hd hb aw hk => wp_move (.inl rfl) (show a.eval (.tmp 0) = .slice (some ⟨bn, on_, none⟩) n cl from hb 0 rfl) (hk _ _ rfl After.rfl)⟩⟩,
              ⟨rfl, rfl, .inl ⟨(.inl rfl), fun a W9 K hd hb aw hk => wp_field rfl (show a.eval (.tmp 7) = Ptr b3 from hb 7 rfl) (fieldN _ _ (by omega) _) (hk _ _ rfl After.rfl)⟩⟩,
              ⟨rfl, rfl, .inl ⟨(.inl rfl), fun a W9 K hd hb aw hk => wp_load rfl (hd 11 rfl) (loadInt (HNd.out.after aw).c1) (hk _ _ rfl After.rfl)⟩⟩,
              ⟨rfl, rfl, .inl ⟨(.inl rfl), fun a W9 K hd hb aw hk => wp_index rfl (hd 10 rfl) (hd 12 rfl) (indexNd _ _ _ _ _ _ (by omega)) (hk _ _ rfl After.rfl)⟩⟩,
              ⟨rfl, rfl, .inl ⟨(.inl rfl), fun a W9 K hd hb aw hk => wp_field rfl (hd 13 rfl) (fieldN0 _ _ _) (hk _ _ rfl After.rfl)⟩⟩,
              ⟨rfl, rfl, .inl ⟨(.inl rfl), fun a W9 K hd hb aw hk => wp_load rfl (hd 14 rfl) (loadInt (HPA.out.after aw).n) (hk _ _ rfl After.rfl)⟩⟩,
              ⟨rfl, rfl, .inl ⟨(.inl rfl), fun a W9 K hd hb aw hk => wp_func3 rfl enterIn (hd 9 rfl) (hd 15 rfl) rfl ((in_part (HPA.out.after aw) 3 (by omega) (by omega) 2 rfl).mono (fun _ _ ⟨he, hA⟩ => ⟨_, he, hk _ _ rfl (by rw [hA]; exact After.rfl)⟩))⟩⟩,
              ⟨rfl, rfl, .inl ⟨(.inl rfl), fun a W9 K hd hb aw hk => wp_bin rfl (hd 4 rfl) (hd 16 rfl) (addSt _ _ (cat_le (cat_le (Nat.le_of_ble_eq_true rfl : List.length (α := UInt8) [111, 110, 99, 101, 32] ≤ 5) (dig_len Nn)) (Nat.le_of_ble_eq_true rfl : List.length (α := UInt8) [32] ≤ 1)) (HShA.out.2 3) rfl _ _ _) (hk _ _ rfl After.rfl)⟩⟩,
              ⟨rfl, rfl, .inl ⟨(.inl rfl), fun a W9 K hd hb aw hk => wp_move (.inr rfl) (hd 17 rfl) (hk _ _ rfl After.rfl)⟩⟩,
              trivial⟩
          intro x9 w9 hx9 aw9
          have t0 : x9 0 = .pointer (some ⟨b3, 3, none⟩) := hx9 0 (Nat.le_of_ble_eq_true rfl)
          have t1 : x9 1 = .int .i64 ((Nn : Nat) : Int) := hx9 1 (Nat.le_of_ble_eq_true rfl)
          have t2 : x9 2 = .string (S (dig Nn)) := hx9 2 (Nat.le_of_ble_eq_true rfl)
          have t3 : x9 3 = .string (S ([111, 110, 99, 101, 32] ++ (dig Nn))) := hx9 3 (Nat.le_of_ble_eq_true rfl)
          have t4 : x9 4 = .string (S (([111, 110, 99, 101, 32] ++ (dig Nn)) ++ [32])) := hx9 4 (Nat.le_of_ble_eq_true rfl)
          have t5 : x9 5 = .slice (some ⟨bt, ot, none⟩) j ct := hx9 5 (Nat.le_of_ble_eq_true rfl)
          have t6 : x9 6 = .pointer (some ⟨b3, 1, none⟩) := hx9 6 (Nat.le_of_ble_eq_true rfl)
          have t7 : x9 7 = .int .i64 ((A : Nat) : Int) := hx9 7 (Nat.le_of_ble_eq_true rfl)
          have t8 : x9 8 = .pointer (some ⟨bt, ot + A, none⟩) := hx9 8 (Nat.le_of_ble_eq_true rfl)
          have t9 : x9 9 = .string (S (txAt T ((A : Nat) : Int))) := hx9 9 (Nat.le_of_ble_eq_true rfl)
          have t10 : x9 10 = .slice (some ⟨bn, on_, none⟩) n cl := hx9 10 (Nat.le_of_ble_eq_true rfl)
          have t11 : x9 11 = .pointer (some ⟨b3, 1, none⟩) := hx9 11 (Nat.le_of_ble_eq_true rfl)
          have t12 : x9 12 = .int .i64 ((A : Nat) : Int) := hx9 12 (Nat.le_of_ble_eq_true rfl)
          have t13 : x9 13 = .pointer (some ⟨bn, on_ + A * 4, none⟩) := hx9 13 (Nat.le_of_ble_eq_true rfl)
          have t14 : x9 14 = .pointer (some ⟨bn, on_ + A * 4, none⟩) := hx9 14 (Nat.le_of_ble_eq_true rfl)
          have t15 : x9 15 = .int .i64 (ndAt L ((A : Nat) : Int)).op := hx9 15 (Nat.le_of_ble_eq_true rfl)
          have t16 : x9 16 = .string (S (parT L T ((A : Nat) : Int) 3)) := hx9 16 (Nat.le_of_ble_eq_true rfl)
          have t17 : x9 17 = .string (S ((([111, 110, 99, 101, 32] ++ (dig Nn)) ++ [32]) ++ (parT L T ((A : Nat) : Int) 3))) := hx9 17 (Nat.le_of_ble_eq_true rfl)
          have t18 : x9 18 = .string (S ((([111, 110, 99, 101, 32] ++ (dig Nn)) ++ [32]) ++ (parT L T ((A : Nat) : Int) 3))) := hx9 18 (Nat.le_of_ble_eq_true rfl)
          simp only [sets, List.getD_cons_succ, List.getD_cons_zero, List.set_cons_succ, List.set_cons_zero, t0, t1, t2, t3, t4, t5, t6, t7, t8, t9, t10, t11, t12, t13, t14, t15, t16, t17, t18]
          clear hx9 t0 t1 t2 t3 t4 t5 t6 t7 t8 t9 t10 t11 t12 t13 t14 t15 t16 t17 t18
          clear x9
          have HA2 := hideIt (HW.out.trans aw9)
          clear aw9
          obtain ⟨t, ht⟩ : ∃ t, t = ((([111, 110, 99, 101, 32] ++ (dig Nn)) ++ [32]) ++ (parT L T ((A : Nat) : Int) 3)) := ⟨_, rfl⟩
          rw [← ht]
          have HT : Hid (t = nodeT L T ⟨10, (A : Nat), 0, (Nn : Nat)⟩) := hideIt (by
            rw [ht]
            show ([111, 110, 99, 101, 32] ++ dig Nn ++ [32]) ++ parT L T ((A : Nat) : Int) 3 = wordOf 10 ++ 32 :: (dig Nn ++ 32 :: parT L T ((A : Nat) : Int) 3)
            simp [wordOf, wOnce])
          clear ht
          obtain ⟨w2, hw2⟩ : ∃ w2, w2 = w9 := ⟨_, rfl⟩
          subst hw2
          obtain ⟨M, hM⟩ : ∃ M : Nat, M = min t.length 1025 := ⟨_, rfl⟩
          have m1 : min ((S t).size : Int) 1025 = (M : Int) := by rw [L1.S_size]; omega
          have m2 : (M : Int) ≤ ((S t).size : Int) := by rw [L1.S_size]; omega
          have m3 : (0 : Int) ≤ (M : Int) := by omega
          have HE : Hid ((S t).extract 0 M = S (t.take 1025)) := hideIt (by
            rw [S_extract, List.drop_zero, Nat.sub_zero, hM]
            congr 1
            rcases Nat.le_total t.length 1025 with h | h
            · rw [Nat.min_eq_left h, List.take_of_length_le (Nat.le_refl _), List.take_of_length_le h]
            · rw [Nat.min_eq_right h])
          clear hM
          have HO2 := hideIt (own_after HOw.out HA2.out)
          go_wp2_with (at_builtin; refine app_row (E := strE) rfl (.tmp 176) (.tmp 182) 51 9 Tryz.underlying51 Tryz.infoStr2 rfl (by decide) rfl w.heap.size _ T rfl (own_after HO2.out (After.rfl.alloc _)) (some ⟨w2.heap.size, 0, none⟩) 1 1 [t.take 1025] rfl (by rw [HE.out]; exact lit_row (heap_alloc_new w2 _) rfl rfl) (fun h => by cases h) (by have := HS.out.1; unfold maxLen; omega) (by have := HS.out.1; omega) (by have := HS.out.2.2.size; have := HA2.out.size; simp; omega) ?_; intro v4 w4 hown hb; have HP := hideIt (And.intro hown hb); clear hown hb)
          go_roundw
          case rel =>
            refine ⟨j + 1, by omega, by go_num, ?_, ?_⟩
            · have h4 := HP.out.1
              rw [HT.out] at h4
              rw [HX.out]
              exact h4
            · exact (HS.out.2.2.trans (HA2.out.alloc _)).then HP.out.2 (fun i hi h => by have := (HO2.out.lt i h).1; omega)
          case measure => simp [intOf]; omega
        · obtain ⟨bt, ot, rfl⟩ := HNo.out (by omega)
          have HPA := hideIt (ptAt_of (HS.out.2.1.after (After.rfl.alloc (.cells #[.int .i64 11, .int .i64 (A : Int), .int .i64 0, .int .i64 (Nn : Int)] 33))) (HR.out.after (HS.out.2.2.trans (After.rfl.alloc (.cells #[.int .i64 11, .int .i64 (A : Int), .int .i64 0, .int .i64 (Nn : Int)] 33)))) (k := A) (by have := HS.out.1; omega) (by omega) HSt.out)
          obtain ⟨W, hW⟩ : ∃ W, W = wr.alloc (.cells #[.int .i64 11, .int .i64 (A : Int), .int .i64 0, .int .i64 (Nn : Int)] 33) := ⟨_, rfl⟩
          have k3 : W.heap[wr.heap.size]? = some (.cells #[.int .i64 11, .int .i64 (A : Int), .int .i64 0, .int .i64 (Nn : Int)] 33 (0, 0)) := by rw [hW]; exact heap_alloc_new wr _
          have aW : After wr W := by rw [hW]; exact After.rfl.alloc _
          have HW := hideIt aW
          obtain ⟨b3, hb3⟩ : ∃ b, b = wr.heap.size := ⟨_, rfl⟩
          rw [← hb3] at k3
          have HNd : Hid (NdAt W b3 ⟨11, (A : Nat), 0, (Nn : Nat)⟩) := hideIt ⟨blk_cell k3 rfl, blk_cell k3 rfl, blk_cell k3 rfl, blk_cell k3 rfl⟩
          have p0 := blk_cell k3 (i := 0) rfl
          have hlt := blk_lt k3
          rw [← hW] at HPA
          have HShA : Hid ((txAt T ((A : Nat) : Int)).length ≤ 1025 ∧ (∀ m, (parT L T ((A : Nat) : Int) m).length ≤ 1027)) := hideIt ⟨HPA.out.short, ptShort HPA.out⟩
          clear aW k3
          go_upto_region 19 with fail
          rw [← hb3, ← hW]
          clear hW hb3
          refine region_slotsG (by kernel_rfl) [81, 82, 83, 84, 85, 86, 87, 88, 89, 90, 91, 92, 93, 94, 95, 96, 97, 98, 8] [isV (.pointer (some ⟨b3, 3, none⟩)), isV (.int .i64 ((Nn : Nat) : Int)), isV (.string (S (dig Nn))), isV (.string (S ([104, 105, 115, 116, 32] ++ (dig Nn)))), isV (.string (S (([104, 105, 115, 116, 32] ++ (dig Nn)) ++ [32]))), isV (.slice (some ⟨bt, ot, none⟩) j ct), isV (.pointer (some ⟨b3, 1, none⟩)), isV (.int .i64 ((A : Nat) : Int)), isV (.pointer (some ⟨bt, ot + A, none⟩)), isV (.string (S (txAt T ((A : Nat) : Int)))), isV (.slice (some ⟨bn, on_, none⟩) n cl), isV (.pointer (some ⟨b3, 1, none⟩)), isV (.int .i64 ((A : Nat) : Int)), isV (.pointer (some ⟨bn, on_ + A * 4, none⟩)), isV (.pointer (some ⟨bn, on_ + A * 4, none⟩)), isV (.int .i64 (ndAt L ((A : Nat) : Int)).op), isV (.string (S (parT L T ((A : Nat) : Int) 3))), isV (.string (S ((([104, 105, 115, 116, 32] ++ (dig Nn)) ++ [32]) ++ (parT L T ((A : Nat) : Int) 3)))), isV (.string (S ((([104, 105, 115, 116, 32] ++ (dig Nn)) ++ [32]) ++ (parT L T ((A : Nat) : Int) 3))))] 19 rfl rfl (stable_all (st_cons (isV_st _) (st_cons (isV_st _) (st_cons (isV_st _) (st_cons (isV_st _) (st_cons (isV_st _) (st_cons (isV_st _) (st_cons (isV_st _) (st_cons (isV_st _) (st_cons (isV_st _) (st_cons (isV_st _) (st_cons (isV_st _) (st_cons (isV_st _) (st_cons (isV_st _) (st_cons (isV_st _) (st_cons (isV_st _) (st_cons (isV_st _) (st_cons (isV_st _) (st_cons (isV_st _) (st_cons (isV_st _) (st_nil))))))))))))))))))))) rfl rfl ?_ ?_
          · exact ⟨⟨rfl, rfl, .inl ⟨(.inl rfl), fun a W9 K hd hb aw hk => wp_field rfl (show a.eval (.tmp 7) = Ptr b3 from hb 7 rfl) (fieldN _ _ (by omega) _) (hk _ _ rfl After.rfl)⟩⟩,
              ⟨rfl, rfl, .inl ⟨(.inl rfl), fun a W9 K hd hb aw hk => wp_load rfl (hd 0 rfl) (loadInt (HNd.out.after aw).c3) (hk _ _ rfl After.rfl)⟩⟩,
              ⟨rfl, rfl, .inl ⟨(.inl rfl), fun a W9 K hd hb aw hk => wp_func1 rfl enterDg (hd 1 rfl) ((digits_any Nn (by omega) _).mono (fun _ _ ⟨he, hA⟩ => ⟨_, he, hk _ _ rfl hA⟩))⟩⟩,
              ⟨rfl, rfl, .inl ⟨(.inl rfl), fun a W9 K hd hb aw hk => wp_bin rfl rfl (hd 2 rfl) (addSt _ _ (Nat.le_of_ble_eq_true rfl : List.length (α := UInt8) [104, 105, 115, 116, 32] ≤ 5) (dig_len Nn) rfl _ _ _) (hk _ _ rfl After.rfl)⟩⟩,
              ⟨rfl, rfl, .inl ⟨(.inl rfl), fun a W9 K hd hb aw hk => wp_bin rfl (hd 3 rfl) rfl (addSt _ _ (cat_le (Nat.le_of_ble_eq_true rfl : List.length (α := UInt8) [104, 105, 115, 116, 32] ≤ 5) (dig_len Nn)) (Nat.le_of_ble_eq_true rfl : List.length (α := UInt8) [32] ≤ 1) rfl _ _ _) (hk _ _ rfl After.rfl)⟩⟩,
              ⟨rfl, rfl, .inl ⟨(.inl rfl), fun a W9 K hd hb aw hk => wp_move (.inl rfl) (show a.eval (.tmp 5) = .slice (some ⟨bt, ot, none⟩) j ct from hb 5 rfl) (hk _ _ rfl After.rfl)⟩⟩,
              ⟨rfl, rfl, .inl ⟨(.inl rfl), fun a W9 K hd hb aw hk => wp_field rfl (show a.eval (.tmp 7) = Ptr b3 from hb 7 rfl) (fieldN _ _ (by omega) _) (hk _ _ rfl After.rfl)⟩⟩,
              ⟨rfl, rfl, .inl ⟨(.inl rfl), fun a W9 K hd hb aw hk => wp_load rfl (hd 6 rfl) (loadInt (HNd.out.after aw).c1) (hk _ _ rfl After.rfl)⟩⟩,
              ⟨rfl, rfl, .inl ⟨(.inl rfl), fun a W9 K hd hb aw hk => wp_index rfl (hd 5 rfl) (hd 7 rfl) (indexSt _ _ _ _ _ _ (by omega)) (hk _ _ rfl After.rfl)⟩⟩,
              ⟨rfl, rfl, .inl ⟨(.inl rfl), fun a W9 K hd hb aw hk => wp_load rfl (hd 8 rfl) (loadS (HPA.out.after aw).t) (hk _ _ rfl After.rfl)⟩⟩,
              ⟨rfl, rfl, .inl ⟨(.inl rfl), fun a W9 K hd hb aw hk => wp_move (.inl rfl) (show a.eval (.tmp 0) = .slice (some ⟨bn, on_, none⟩) n cl from hb 0 rfl) (hk _ _ rfl After.rfl)⟩⟩,
              ⟨rfl, rfl, .inl ⟨(.inl rfl), fun a W9 K hd hb aw hk => wp_field rfl (show a.eval (.tmp 7) = Ptr b3 from hb 7 rfl) (fieldN _ _ (by omega) _) (hk _ _ rfl After.rfl)⟩⟩,
              ⟨rfl, rfl, .inl ⟨(.inl rfl), fun a W9 K hd hb aw hk => wp_load rfl (hd 11 rfl) (loadInt (HNd.out.after aw).c1) (hk _ _ rfl After.rfl)⟩⟩,
              ⟨rfl, rfl, .inl ⟨(.inl rfl), fun a W9 K hd hb aw hk => wp_index rfl (hd 10 rfl) (hd 12 rfl) (indexNd _ _ _ _ _ _ (by omega)) (hk _ _ rfl After.rfl)⟩⟩,
              ⟨rfl, rfl, .inl ⟨(.inl rfl), fun a W9 K hd hb aw hk => wp_field rfl (hd 13 rfl) (fieldN0 _ _ _) (hk _ _ rfl After.rfl)⟩⟩,
              ⟨rfl, rfl, .inl ⟨(.inl rfl), fun a W9 K hd hb aw hk => wp_load rfl (hd 14 rfl) (loadInt (HPA.out.after aw).n) (hk _ _ rfl After.rfl)⟩⟩,
              ⟨rfl, rfl, .inl ⟨(.inl rfl), fun a W9 K hd hb aw hk => wp_func3 rfl enterIn (hd 9 rfl) (hd 15 rfl) rfl ((in_part (HPA.out.after aw) 3 (by omega) (by omega) 2 rfl).mono (fun _ _ ⟨he, hA⟩ => ⟨_, he, hk _ _ rfl (by rw [hA]; exact After.rfl)⟩))⟩⟩,
              ⟨rfl, rfl, .inl ⟨(.inl rfl), fun a W9 K hd hb aw hk => wp_bin rfl (hd 4 rfl) (hd 16 rfl) (addSt _ _ (cat_le (cat_le (Nat.le_of_ble_eq_true rfl : List.length (α := UInt8) [104, 105, 115, 116, 32] ≤ 5) (dig_len Nn)) (Nat.le_of_ble_eq_true rfl : List.length (α := UInt8) [32] ≤ 1)) (HShA.out.2 3) rfl _ _ _) (hk _ _ rfl After.rfl)⟩⟩,
              ⟨rfl, rfl, .inl ⟨(.inl rfl), fun a W9 K hd hb aw hk => wp_move (.inr rfl) (hd 17 rfl) (hk _ _ rfl After.rfl)⟩⟩,
              trivial⟩
          intro x9 w9 hx9 aw9
          have t0 : x9 0 = .pointer (some ⟨b3, 3, none⟩) := hx9 0 (Nat.le_of_ble_eq_true rfl)
          have t1 : x9 1 = .int .i64 ((Nn : Nat) : Int) := hx9 1 (Nat.le_of_ble_eq_true rfl)
          have t2 : x9 2 = .string (S (dig Nn)) := hx9 2 (Nat.le_of_ble_eq_true rfl)
          have t3 : x9 3 = .string (S ([104, 105, 115, 116, 32] ++ (dig Nn))) := hx9 3 (Nat.le_of_ble_eq_true rfl)
          have t4 : x9 4 = .string (S (([104, 105, 115, 116, 32] ++ (dig Nn)) ++ [32])) := hx9 4 (Nat.le_of_ble_eq_true rfl)
          have t5 : x9 5 = .slice (some ⟨bt, ot, none⟩) j ct := hx9 5 (Nat.le_of_ble_eq_true rfl)
          have t6 : x9 6 = .pointer (some ⟨b3, 1, none⟩) := hx9 6 (Nat.le_of_ble_eq_true rfl)
          have t7 : x9 7 = .int .i64 ((A : Nat) : Int) := hx9 7 (Nat.le_of_ble_eq_true rfl)
          have t8 : x9 8 = .pointer (some ⟨bt, ot + A, none⟩) := hx9 8 (Nat.le_of_ble_eq_true rfl)
          have t9 : x9 9 = .string (S (txAt T ((A : Nat) : Int))) := hx9 9 (Nat.le_of_ble_eq_true rfl)
          have t10 : x9 10 = .slice (some ⟨bn, on_, none⟩) n cl := hx9 10 (Nat.le_of_ble_eq_true rfl)
          have t11 : x9 11 = .pointer (some ⟨b3, 1, none⟩) := hx9 11 (Nat.le_of_ble_eq_true rfl)
          have t12 : x9 12 = .int .i64 ((A : Nat) : Int) := hx9 12 (Nat.le_of_ble_eq_true rfl)
          have t13 : x9 13 = .pointer (some ⟨bn, on_ + A * 4, none⟩) := hx9 13 (Nat.le_of_ble_eq_true rfl)
          have t14 : x9 14 = .pointer (some ⟨bn, on_ + A * 4, none⟩) := hx9 14 (Nat.le_of_ble_eq_true rfl)
          have t15 : x9 15 = .int .i64 (ndAt L ((A : Nat) : Int)).op := hx9 15 (Nat.le_of_ble_eq_true rfl)
          have t16 : x9 16 = .string (S (parT L T ((A : Nat) : Int) 3)) := hx9 16 (Nat.le_of_ble_eq_true rfl)
          have t17 : x9 17 = .string (S ((([104, 105, 115, 116, 32] ++ (dig Nn)) ++ [32]) ++ (parT L T ((A : Nat) : Int) 3))) := hx9 17 (Nat.le_of_ble_eq_true rfl)
          have t18 : x9 18 = .string (S ((([104, 105, 115, 116, 32] ++ (dig Nn)) ++ [32]) ++ (parT L T ((A : Nat) : Int) 3))) := hx9 18 (Nat.le_of_ble_eq_true rfl)
          simp only [sets, List.getD_cons_succ, List.getD_cons_zero, List.set_cons_succ, List.set_cons_zero, t0, t1, t2, t3, t4, t5, t6, t7, t8, t9, t10, t11, t12, t13, t14, t15, t16, t17, t18]
          clear hx9 t0 t1 t2 t3 t4 t5 t6 t7 t8 t9 t10 t11 t12 t13 t14 t15 t16 t17 t18
          clear x9
          have HA2 := hideIt (HW.out.trans aw9)
          clear aw9
          obtain ⟨t, ht⟩ : ∃ t, t = ((([104, 105, 115, 116, 32] ++ (dig Nn)) ++ [32]) ++ (parT L T ((A : Nat) : Int) 3)) := ⟨_, rfl⟩
          rw [← ht]
          have HT : Hid (t = nodeT L T ⟨11, (A : Nat), 0, (Nn : Nat)⟩) := hideIt (by
            rw [ht]
            show ([104, 105, 115, 116, 32] ++ dig Nn ++ [32]) ++ parT L T ((A : Nat) : Int) 3 = wordOf 11 ++ 32 :: (dig Nn ++ 32 :: parT L T ((A : Nat) : Int) 3)
            simp [wordOf, wHist])
          clear ht
          obtain ⟨w2, hw2⟩ : ∃ w2, w2 = w9 := ⟨_, rfl⟩
          subst hw2
          obtain ⟨M, hM⟩ : ∃ M : Nat, M = min t.length 1025 := ⟨_, rfl⟩
          have m1 : min ((S t).size : Int) 1025 = (M : Int) := by rw [L1.S_size]; omega
          have m2 : (M : Int) ≤ ((S t).size : Int) := by rw [L1.S_size]; omega
          have m3 : (0 : Int) ≤ (M : Int) := by omega
          have HE : Hid ((S t).extract 0 M = S (t.take 1025)) := hideIt (by
            rw [S_extract, List.drop_zero, Nat.sub_zero, hM]
            congr 1
            rcases Nat.le_total t.length 1025 with h | h
            · rw [Nat.min_eq_left h, List.take_of_length_le (Nat.le_refl _), List.take_of_length_le h]
            · rw [Nat.min_eq_right h])
          clear hM
          have HO2 := hideIt (own_after HOw.out HA2.out)
          go_wp2_with (at_builtin; refine app_row (E := strE) rfl (.tmp 176) (.tmp 182) 51 9 Tryz.underlying51 Tryz.infoStr2 rfl (by decide) rfl w.heap.size _ T rfl (own_after HO2.out (After.rfl.alloc _)) (some ⟨w2.heap.size, 0, none⟩) 1 1 [t.take 1025] rfl (by rw [HE.out]; exact lit_row (heap_alloc_new w2 _) rfl rfl) (fun h => by cases h) (by have := HS.out.1; unfold maxLen; omega) (by have := HS.out.1; omega) (by have := HS.out.2.2.size; have := HA2.out.size; simp; omega) ?_; intro v4 w4 hown hb; have HP := hideIt (And.intro hown hb); clear hown hb)
          go_roundw
          case rel =>
            refine ⟨j + 1, by omega, by go_num, ?_, ?_⟩
            · have h4 := HP.out.1
              rw [HT.out] at h4
              rw [HX.out]
              exact h4
            · exact (HS.out.2.2.trans (HA2.out.alloc _)).then HP.out.2 (fun i hi h => by have := (HO2.out.lt i h).1; omega)
          case measure => simp [intOf]; omega
      · rcases e with rfl | rfl | rfl
        · obtain ⟨bt, ot, rfl⟩ := HNo.out (by omega)
          have HPA := hideIt (ptAt_of (HS.out.2.1.after (After.rfl.alloc (.cells #[.int .i64 7, .int .i64 (A : Int), .int .i64 (B : Int), .int .i64 0] 33))) (HR.out.after (HS.out.2.2.trans (After.rfl.alloc (.cells #[.int .i64 7, .int .i64 (A : Int), .int .i64 (B : Int), .int .i64 0] 33)))) (k := A) (by have := HS.out.1; omega) (by omega) HSt.out)
          have HPB := hideIt (ptAt_of (HS.out.2.1.after (After.rfl.alloc (.cells #[.int .i64 7, .int .i64 (A : Int), .int .i64 (B : Int), .int .i64 0] 33))) (HR.out.after (HS.out.2.2.trans (After.rfl.alloc (.cells #[.int .i64 7, .int .i64 (A : Int), .int .i64 (B : Int), .int .i64 0] 33)))) (k := B) (by have := HS.out.1; omega) (by omega) HSt.out)
          obtain ⟨W, hW⟩ : ∃ W, W = wr.alloc (.cells #[.int .i64 7, .int .i64 (A : Int), .int .i64 (B : Int), .int .i64 0] 33) := ⟨_, rfl⟩
          have k3 : W.heap[wr.heap.size]? = some (.cells #[.int .i64 7, .int .i64 (A : Int), .int .i64 (B : Int), .int .i64 0] 33 (0, 0)) := by rw [hW]; exact heap_alloc_new wr _
          have aW : After wr W := by rw [hW]; exact After.rfl.alloc _
          have HW := hideIt aW
          obtain ⟨b3, hb3⟩ : ∃ b, b = wr.heap.size := ⟨_, rfl⟩
          rw [← hb3] at k3
          have HNd : Hid (NdAt W b3 ⟨7, (A : Nat), (B : Nat), 0⟩) := hideIt ⟨blk_cell k3 rfl, blk_cell k3 rfl, blk_cell k3 rfl, blk_cell k3 rfl⟩
          have p0 := blk_cell k3 (i := 0) rfl
          have hlt := blk_lt k3
          rw [← hW] at HPA HPB
          have HShA : Hid ((txAt T ((A : Nat) : Int)).length ≤ 1025 ∧ (∀ m, (parT L T ((A : Nat) : Int) m).length ≤ 1027)) := hideIt ⟨HPA.out.short, ptShort HPA.out⟩
          have HShB : Hid ((txAt T ((B : Nat) : Int)).length ≤ 1025 ∧ (∀ m, (parT L T ((B : Nat) : Int) m).length ≤ 1027)) := hideIt ⟨HPB.out.short, ptShort HPB.out⟩
          clear aW k3
          go_upto_region 23 with fail
          rw [← hb3, ← hW]
          clear hW hb3
          refine region_slotsG (by kernel_rfl) [129, 130, 131, 132, 133, 134, 135, 136, 137, 138, 139, 140, 141, 142, 143, 144, 145, 146, 147, 148, 149, 150, 151, 152, 153, 154, 8] [isV (.slice (some ⟨bt, ot, none⟩) j ct), isV (.pointer (some ⟨b3, 1, none⟩)), isV (.int .i64 ((A : Nat) : Int)), isV (.pointer (some ⟨bt, ot + A, none⟩)), isV (.string (S (txAt T ((A : Nat) : Int)))), isV (.slice (some ⟨bn, on_, none⟩) n cl), isV (.pointer (some ⟨b3, 1, none⟩)), isV (.int .i64 ((A : Nat) : Int)), isV (.pointer (some ⟨bn, on_ + A * 4, none⟩)), isV (.pointer (some ⟨bn, on_ + A * 4, none⟩)), isV (.int .i64 (ndAt L ((A : Nat) : Int)).op), isV (.string (S (parT L T ((A : Nat) : Int) 1))), isV (.string (S ((parT L T ((A : Nat) : Int) 1) ++ [32, 97, 110, 100, 32]))), isV (.slice (some ⟨bt, ot, none⟩) j ct), isV (.pointer (some ⟨b3, 2, none⟩)), isV (.int .i64 ((B : Nat) : Int)), isV (.pointer (some ⟨bt, ot + B, none⟩)), isV (.string (S (txAt T ((B : Nat) : Int)))), isV (.slice (some ⟨bn, on_, none⟩) n cl), isV (.pointer (some ⟨b3, 2, none⟩)), isV (.int .i64 ((B : Nat) : Int)), isV (.pointer (some ⟨bn, on_ + B * 4, none⟩)), isV (.pointer (some ⟨bn, on_ + B * 4, none⟩)), isV (.int .i64 (ndAt L ((B : Nat) : Int)).op), isV (.string (S (parT L T ((B : Nat) : Int) 2))), isV (.string (S (((parT L T ((A : Nat) : Int) 1) ++ [32, 97, 110, 100, 32]) ++ (parT L T ((B : Nat) : Int) 2)))), isV (.string (S (((parT L T ((A : Nat) : Int) 1) ++ [32, 97, 110, 100, 32]) ++ (parT L T ((B : Nat) : Int) 2))))] 27 rfl rfl (stable_all (st_cons (isV_st _) (st_cons (isV_st _) (st_cons (isV_st _) (st_cons (isV_st _) (st_cons (isV_st _) (st_cons (isV_st _) (st_cons (isV_st _) (st_cons (isV_st _) (st_cons (isV_st _) (st_cons (isV_st _) (st_cons (isV_st _) (st_cons (isV_st _) (st_cons (isV_st _) (st_cons (isV_st _) (st_cons (isV_st _) (st_cons (isV_st _) (st_cons (isV_st _) (st_cons (isV_st _) (st_cons (isV_st _) (st_cons (isV_st _) (st_cons (isV_st _) (st_cons (isV_st _) (st_cons (isV_st _) (st_cons (isV_st _) (st_cons (isV_st _) (st_cons (isV_st _) (st_cons (isV_st _) (st_nil))))))))))))))))))))))))))))) rfl rfl ?_ ?_
          · exact ⟨⟨rfl, rfl, .inl ⟨(.inl rfl), fun a W9 K hd hb aw hk => wp_move (.inl rfl) (show a.eval (.tmp 5) = .slice (some ⟨bt, ot, none⟩) j ct from hb 5 rfl) (hk _ _ rfl After.rfl)⟩⟩,
              ⟨rfl, rfl, .inl ⟨(.inl rfl), fun a W9 K hd hb aw hk => wp_field rfl (show a.eval (.tmp 7) = Ptr b3 from hb 7 rfl) (fieldN _ _ (by omega) _) (hk _ _ rfl After.rfl)⟩⟩,
              ⟨rfl, rfl, .inl ⟨(.inl rfl), fun a W9 K hd hb aw hk => wp_load rfl (hd 1 rfl) (loadInt (HNd.out.after aw).c1) (hk _ _ rfl After.rfl)⟩⟩,
              ⟨rfl, rfl, .inl ⟨(.inl rfl), fun a W9 K hd hb aw hk => wp_index rfl (hd 0 rfl) (hd 2 rfl) (indexSt _ _ _ _ _ _ (by omega)) (hk _ _ rfl After.rfl)⟩⟩,
              ⟨rfl, rfl, .inl ⟨(.inl rfl), fun a W9 K hd hb aw hk => wp_load rfl (hd 3 rfl) (loadS (HPA.out.after aw).t) (hk _ _ rfl After.rfl)⟩⟩,
              ⟨rfl, rfl, .inl ⟨(.inl rfl), fun a W9 K hd hb aw hk => wp_move (.inl rfl) (show a.eval (.tmp 0) = .slice (some ⟨bn, on_, none⟩) n cl from hb 0 rfl) (hk _ _ rfl After.rfl)⟩⟩,
              ⟨rfl, rfl, .inl ⟨(.inl rfl), fun a W9 K hd hb aw hk => wp_field rfl (show a.eval (.tmp 7) = Ptr b3 from hb 7 rfl) (fieldN _ _ (by omega) _) (hk _ _ rfl After.rfl)⟩⟩,
              ⟨rfl, rfl, .inl ⟨(.inl rfl), fun a W9 K hd hb aw hk => wp_load rfl (hd 6 rfl) (loadInt (HNd.out.after aw).c1) (hk _ _ rfl After.rfl)⟩⟩,
              ⟨rfl, rfl, .inl ⟨(.inl rfl), fun a W9 K hd hb aw hk => wp_index rfl (hd 5 rfl) (hd 7 rfl) (indexNd _ _ _ _ _ _ (by omega)) (hk _ _ rfl After.rfl)⟩⟩,
              ⟨rfl, rfl, .inl ⟨(.inl rfl), fun a W9 K hd hb aw hk => wp_field rfl (hd 8 rfl) (fieldN0 _ _ _) (hk _ _ rfl After.rfl)⟩⟩,
              ⟨rfl, rfl, .inl ⟨(.inl rfl), fun a W9 K hd hb aw hk => wp_load rfl (hd 9 rfl) (loadInt (HPA.out.after aw).n) (hk _ _ rfl After.rfl)⟩⟩,
              ⟨rfl, rfl, .inl ⟨(.inl rfl), fun a W9 K hd hb aw hk => wp_func3 rfl enterIn (hd 4 rfl) (hd 10 rfl) rfl ((in_part (HPA.out.after aw) 1 (by omega) (by omega) 0 rfl).mono (fun _ _ ⟨he, hA⟩ => ⟨_, he, hk _ _ rfl (by rw [hA]; exact After.rfl)⟩))⟩⟩,
              ⟨rfl, rfl, .inl ⟨(.inl rfl), fun a W9 K hd hb aw hk => wp_bin rfl (hd 11 rfl) rfl (addSt _ _ (HShA.out.2 1) (Nat.le_of_ble_eq_true rfl : List.length (α := UInt8) [32, 97, 110, 100, 32] ≤ 5) rfl _ _ _) (hk _ _ rfl After.rfl)⟩⟩,
              ⟨rfl, rfl, .inl ⟨(.inl rfl), fun a W9 K hd hb aw hk => wp_move (.inl rfl) (show a.eval (.tmp 5) = .slice (some ⟨bt, ot, none⟩) j ct from hb 5 rfl) (hk _ _ rfl After.rfl)⟩⟩,
              ⟨rfl, rfl, .inl ⟨(.inl rfl), fun a W9 K hd hb aw hk => wp_field rfl (show a.eval (.tmp 7) = Ptr b3 from hb 7 rfl) (fieldN _ _ (by omega) _) (hk _ _ rfl After.rfl)⟩⟩,
              ⟨rfl, rfl, .inl ⟨(.inl rfl), fun a W9 K hd hb aw hk => wp_load rfl (hd 14 rfl) (loadInt (HNd.out.after aw).c2) (hk _ _ rfl After.rfl)⟩⟩,
              ⟨rfl, rfl, .inl ⟨(.inl rfl), fun a W9 K hd hb aw hk => wp_index rfl (hd 13 rfl) (hd 15 rfl) (indexSt _ _ _ _ _ _ (by omega)) (hk _ _ rfl After.rfl)⟩⟩,
              ⟨rfl, rfl, .inl ⟨(.inl rfl), fun a W9 K hd hb aw hk => wp_load rfl (hd 16 rfl) (loadS (HPB.out.after aw).t) (hk _ _ rfl After.rfl)⟩⟩,
              ⟨rfl, rfl, .inl ⟨(.inl rfl), fun a W9 K hd hb aw hk => wp_move (.inl rfl) (show a.eval (.tmp 0) = .slice (some ⟨bn, on_, none⟩) n cl from hb 0 rfl) (hk _ _ rfl After.rfl)⟩⟩,
              ⟨rfl, rfl, .inl ⟨(.inl rfl), fun a W9 K hd hb aw hk => wp_field rfl (show a.eval (.tmp 7) = Ptr b3 from hb 7 rfl) (fieldN _ _ (by omega) _) (hk _ _ rfl After.rfl)⟩⟩,
              ⟨rfl, rfl, .inl ⟨(.inl rfl), fun a W9 K hd hb aw hk => wp_load rfl (hd 19 rfl) (loadInt (HNd.out.after aw).c2) (hk _ _ rfl After.rfl)⟩⟩,
              ⟨rfl, rfl, .inl ⟨(.inl rfl), fun a W9 K hd hb aw hk => wp_index rfl (hd 18 rfl) (hd 20 rfl) (indexNd _ _ _ _ _ _ (by omega)) (hk _ _ rfl After.rfl)⟩⟩,
              ⟨rfl, rfl, .inl ⟨(.inl rfl), fun a W9 K hd hb aw hk => wp_field rfl (hd 21 rfl) (fieldN0 _ _ _) (hk _ _ rfl After.rfl)⟩⟩,
              ⟨rfl, rfl, .inl ⟨(.inl rfl), fun a W9 K hd hb aw hk => wp_load rfl (hd 22 rfl) (loadInt (HPB.out.after aw).n) (hk _ _ rfl After.rfl)⟩⟩,
              ⟨rfl, rfl, .inl ⟨(.inl rfl), fun a W9 K hd hb aw hk => wp_func3 rfl enterIn (hd 17 rfl) (hd 23 rfl) rfl ((in_part (HPB.out.after aw) 2 (by omega) (by omega) 1 rfl).mono (fun _ _ ⟨he, hA⟩ => ⟨_, he, hk _ _ rfl (by rw [hA]; exact After.rfl)⟩))⟩⟩,
              ⟨rfl, rfl, .inl ⟨(.inl rfl), fun a W9 K hd hb aw hk => wp_bin rfl (hd 12 rfl) (hd 24 rfl) (addSt _ _ (cat_le (HShA.out.2 1) (Nat.le_of_ble_eq_true rfl : List.length (α := UInt8) [32, 97, 110, 100, 32] ≤ 5)) (HShB.out.2 2) rfl _ _ _) (hk _ _ rfl After.rfl)⟩⟩,
              ⟨rfl, rfl, .inl ⟨(.inl rfl), fun a W9 K hd hb aw hk => wp_move (.inr rfl) (hd 25 rfl) (hk _ _ rfl After.rfl)⟩⟩,
              trivial⟩
          intro x9 w9 hx9 aw9
          have t0 : x9 0 = .slice (some ⟨bt, ot, none⟩) j ct := hx9 0 (Nat.le_of_ble_eq_true rfl)
          have t1 : x9 1 = .pointer (some ⟨b3, 1, none⟩) := hx9 1 (Nat.le_of_ble_eq_true rfl)
          have t2 : x9 2 = .int .i64 ((A : Nat) : Int) := hx9 2 (Nat.le_of_ble_eq_true rfl)
          have t3 : x9 3 = .pointer (some ⟨bt, ot + A, none⟩) := hx9 3 (Nat.le_of_ble_eq_true rfl)
          have t4 : x9 4 = .string (S (txAt T ((A : Nat) : Int))) := hx9 4 (Nat.le_of_ble_eq_true rfl)
          have t5 : x9 5 = .slice (some ⟨bn, on_, none⟩) n cl := hx9 5 (Nat.le_of_ble_eq_true rfl)
          have t6 : x9 6 = .pointer (some ⟨b3, 1, none⟩) := hx9 6 (Nat.le_of_ble_eq_true rfl)
          have t7 : x9 7 = .int .i64 ((A : Nat) : Int) := hx9 7 (Nat.le_of_ble_eq_true rfl)
          have t8 : x9 8 = .pointer (some ⟨bn, on_ + A * 4, none⟩) := hx9 8 (Nat.le_of_ble_eq_true rfl)
          have t9 : x9 9 = .pointer (some ⟨bn, on_ + A * 4, none⟩) := hx9 9 (Nat.le_of_ble_eq_true rfl)
          have t10 : x9 10 = .int .i64 (ndAt L ((A : Nat) : Int)).op := hx9 10 (Nat.le_of_ble_eq_true rfl)
          have t11 : x9 11 = .string (S (parT L T ((A : Nat) : Int) 1)) := hx9 11 (Nat.le_of_ble_eq_true rfl)
          have t12 : x9 12 = .string (S ((parT L T ((A : Nat) : Int) 1) ++ [32, 97, 110, 100, 32])) := hx9 12 (Nat.le_of_ble_eq_true rfl)
          have t13 : x9 13 = .slice (some ⟨bt, ot, none⟩) j ct := hx9 13 (Nat.le_of_ble_eq_true rfl)
          have t14 : x9 14 = .pointer (some ⟨b3, 2, none⟩) := hx9 14 (Nat.le_of_ble_eq_true rfl)
          have t15 : x9 15 = .int .i64 ((B : Nat) : Int) := hx9 15 (Nat.le_of_ble_eq_true rfl)
          have t16 : x9 16 = .pointer (some ⟨bt, ot + B, none⟩) := hx9 16 (Nat.le_of_ble_eq_true rfl)
          have t17 : x9 17 = .string (S (txAt T ((B : Nat) : Int))) := hx9 17 (Nat.le_of_ble_eq_true rfl)
          have t18 : x9 18 = .slice (some ⟨bn, on_, none⟩) n cl := hx9 18 (Nat.le_of_ble_eq_true rfl)
          have t19 : x9 19 = .pointer (some ⟨b3, 2, none⟩) := hx9 19 (Nat.le_of_ble_eq_true rfl)
          have t20 : x9 20 = .int .i64 ((B : Nat) : Int) := hx9 20 (Nat.le_of_ble_eq_true rfl)
          have t21 : x9 21 = .pointer (some ⟨bn, on_ + B * 4, none⟩) := hx9 21 (Nat.le_of_ble_eq_true rfl)
          have t22 : x9 22 = .pointer (some ⟨bn, on_ + B * 4, none⟩) := hx9 22 (Nat.le_of_ble_eq_true rfl)
          have t23 : x9 23 = .int .i64 (ndAt L ((B : Nat) : Int)).op := hx9 23 (Nat.le_of_ble_eq_true rfl)
          have t24 : x9 24 = .string (S (parT L T ((B : Nat) : Int) 2)) := hx9 24 (Nat.le_of_ble_eq_true rfl)
          have t25 : x9 25 = .string (S (((parT L T ((A : Nat) : Int) 1) ++ [32, 97, 110, 100, 32]) ++ (parT L T ((B : Nat) : Int) 2))) := hx9 25 (Nat.le_of_ble_eq_true rfl)
          have t26 : x9 26 = .string (S (((parT L T ((A : Nat) : Int) 1) ++ [32, 97, 110, 100, 32]) ++ (parT L T ((B : Nat) : Int) 2))) := hx9 26 (Nat.le_of_ble_eq_true rfl)
          simp only [sets, List.getD_cons_succ, List.getD_cons_zero, List.set_cons_succ, List.set_cons_zero, t0, t1, t2, t3, t4, t5, t6, t7, t8, t9, t10, t11, t12, t13, t14, t15, t16, t17, t18, t19, t20, t21, t22, t23, t24, t25, t26]
          clear hx9 t0 t1 t2 t3 t4 t5 t6 t7 t8 t9 t10 t11 t12 t13 t14 t15 t16 t17 t18 t19 t20 t21 t22 t23 t24 t25 t26
          clear x9
          have HA2 := hideIt (HW.out.trans aw9)
          clear aw9
          obtain ⟨t, ht⟩ : ∃ t, t = (((parT L T ((A : Nat) : Int) 1) ++ [32, 97, 110, 100, 32]) ++ (parT L T ((B : Nat) : Int) 2)) := ⟨_, rfl⟩
          rw [← ht]
          have HT : Hid (t = nodeT L T ⟨7, (A : Nat), (B : Nat), 0⟩) := hideIt (by
            rw [ht]
            show (parT L T ((A : Nat) : Int) 1 ++ [32, 97, 110, 100, 32]) ++ parT L T ((B : Nat) : Int) 2 = parT L T ((A : Nat) : Int) 1 ++ 32 :: (wordOf 7 ++ 32 :: parT L T ((B : Nat) : Int) 2)
            simp [wordOf, wAnd])
          clear ht
          obtain ⟨w2, hw2⟩ : ∃ w2, w2 = w9 := ⟨_, rfl⟩
          subst hw2
          obtain ⟨M, hM⟩ : ∃ M : Nat, M = min t.length 1025 := ⟨_, rfl⟩
          have m1 : min ((S t).size : Int) 1025 = (M : Int) := by rw [L1.S_size]; omega
          have m2 : (M : Int) ≤ ((S t).size : Int) := by rw [L1.S_size]; omega
          have m3 : (0 : Int) ≤ (M : Int) := by omega
          have HE : Hid ((S t).extract 0 M = S (t.take 1025)) := hideIt (by
            rw [S_extract, List.drop_zero, Nat.sub_zero, hM]
            congr 1
            rcases Nat.le_total t.length 1025 with h | h
            · rw [Nat.min_eq_left h, List.take_of_length_le (Nat.le_refl _), List.take_of_length_le h]
            · rw [Nat.min_eq_right h])
          clear hM
          have HO2 := hideIt (own_after HOw.out HA2.out)
          go_wp2_with (at_builtin; refine app_row (E := strE) rfl (.tmp 176) (.tmp 182) 51 9 Tryz.underlying51 Tryz.infoStr2 rfl (by decide) rfl w.heap.size _ T rfl (own_after HO2.out (After.rfl.alloc _)) (some ⟨w2.heap.size, 0, none⟩) 1 1 [t.take 1025] rfl (by rw [HE.out]; exact lit_row (heap_alloc_new w2 _) rfl rfl) (fun h => by cases h) (by have := HS.out.1; unfold maxLen; omega) (by have := HS.out.1; omega) (by have := HS.out.2.2.size; have := HA2.out.size; simp; omega) ?_; intro v4 w4 hown hb; have HP := hideIt (And.intro hown hb); clear hown hb)
          go_roundw
          case rel =>
            refine ⟨j + 1, by omega, by go_num, ?_, ?_⟩
            · have h4 := HP.out.1
              rw [HT.out] at h4
              rw [HX.out]
              exact h4
            · exact (HS.out.2.2.trans (HA2.out.alloc _)).then HP.out.2 (fun i hi h => by have := (HO2.out.lt i h).1; omega)
          case measure => simp [intOf]; omega
        · obtain ⟨bt, ot, rfl⟩ := HNo.out (by omega)
          have HPA := hideIt (ptAt_of (HS.out.2.1.after (After.rfl.alloc (.cells #[.int .i64 8, .int .i64 (A : Int), .int .i64 (B : Int), .int .i64 0] 33))) (HR.out.after (HS.out.2.2.trans (After.rfl.alloc (.cells #[.int .i64 8, .int .i64 (A : Int), .int .i64 (B : Int), .int .i64 0] 33)))) (k := A) (by have := HS.out.1; omega) (by omega) HSt.out)
          have HPB := hideIt (ptAt_of (HS.out.2.1.after (After.rfl.alloc (.cells #[.int .i64 8, .int .i64 (A : Int), .int .i64 (B : Int), .int .i64 0] 33))) (HR.out.after (HS.out.2.2.trans (After.rfl.alloc (.cells #[.int .i64 8, .int .i64 (A : Int), .int .i64 (B : Int), .int .i64 0] 33)))) (k := B) (by have := HS.out.1; omega) (by omega) HSt.out)
          obtain ⟨W, hW⟩ : ∃ W, W = wr.alloc (.cells #[.int .i64 8, .int .i64 (A : Int), .int .i64 (B : Int), .int .i64 0] 33) := ⟨_, rfl⟩
          have k3 : W.heap[wr.heap.size]? = some (.cells #[.int .i64 8, .int .i64 (A : Int), .int .i64 (B : Int), .int .i64 0] 33 (0, 0)) := by rw [hW]; exact heap_alloc_new wr _
          have aW : After wr W := by rw [hW]; exact After.rfl.alloc _
          have HW := hideIt aW
          obtain ⟨b3, hb3⟩ : ∃ b, b = wr.heap.size := ⟨_, rfl⟩
          rw [← hb3] at k3
          have HNd : Hid (NdAt W b3 ⟨8, (A : Nat), (B : Nat), 0⟩) := hideIt ⟨blk_cell k3 rfl, blk_cell k3 rfl, blk_cell k3 rfl, blk_cell k3 rfl⟩
          have p0 := blk_cell k3 (i := 0) rfl
          have hlt := blk_lt k3
          rw [← hW] at HPA HPB
          have HShA : Hid ((txAt T ((A : Nat) : Int)).length ≤ 1025 ∧ (∀ m, (parT L T ((A : Nat) : Int) m).length ≤ 1027)) := hideIt ⟨HPA.out.short, ptShort HPA.out⟩
          have HShB : Hid ((txAt T ((B : Nat) : Int)).length ≤ 1025 ∧ (∀ m, (parT L T ((B : Nat) : Int) m).length ≤ 1027)) := hideIt ⟨HPB.out.short, ptShort HPB.out⟩
          clear aW k3
          go_upto_region 25 with fail
          rw [← hb3, ← hW]
          clear hW hb3
          refine region_slotsG (by kernel_rfl) [157, 158, 159, 160, 161, 162, 163, 164, 165, 166, 167, 168, 169, 170, 171, 172, 173, 174, 175, 8] [isV (.slice (some ⟨bt, ot, none⟩) j ct), isV (.pointer (some ⟨b3, 1, none⟩)), isV (.int .i64 ((A : Nat) : Int)), isV (.pointer (some ⟨bt, ot + A, none⟩)), isV (.string (S (txAt T ((A : Nat) : Int)))), isV (.string (S ((txAt T ((A : Nat) : Int)) ++ [32, 111, 114, 32]))), isV (.slice (some ⟨bt, ot, none⟩) j ct), isV (.pointer (some ⟨b3, 2, none⟩)), isV (.int .i64 ((B : Nat) : Int)), isV (.pointer (some ⟨bt, ot + B, none⟩)), isV (.string (S (txAt T ((B : Nat) : Int)))), isV (.slice (some ⟨bn, on_, none⟩) n cl), isV (.pointer (some ⟨b3, 2, none⟩)), isV (.int .i64 ((B : Nat) : Int)), isV (.pointer (some ⟨bn, on_ + B * 4, none⟩)), isV (.pointer (some ⟨bn, on_ + B * 4, none⟩)), isV (.int .i64 (ndAt L ((B : Nat) : Int)).op), isV (.string (S (parT L T ((B : Nat) : Int) 1))), isV (.string (S (((txAt T ((A : Nat) : Int)) ++ [32, 111, 114, 32]) ++ (parT L T ((B : Nat) : Int) 1)))), isV (.string (S (((txAt T ((A : Nat) : Int)) ++ [32, 111, 114, 32]) ++ (parT L T ((B : Nat) : Int) 1))))] 20 rfl rfl (stable_all (st_cons (isV_st _) (st_cons (isV_st _) (st_cons (isV_st _) (st_cons (isV_st _) (st_cons (isV_st _) (st_cons (isV_st _) (st_cons (isV_st _) (st_cons (isV_st _) (st_cons (isV_st _) (st_cons (isV_st _) (st_cons (isV_st _) (st_cons (isV_st _) (st_cons (isV_st _) (st_cons (isV_st _) (st_cons (isV_st _) (st_cons (isV_st _) (st_cons (isV_st _) (st_cons (isV_st _) (st_cons (isV_st _) (st_cons (isV_st _) (st_nil)))))))))))))))))))))) rfl rfl ?_ ?_
          · exact ⟨⟨rfl, rfl, .inl ⟨(.inl rfl), fun a W9 K hd hb aw hk => wp_move (.inl rfl) (show a.eval (.tmp 5) = .slice (some ⟨bt, ot, none⟩) j ct from hb 5 rfl) (hk _ _ rfl After.rfl)⟩⟩,
              ⟨rfl, rfl, .inl ⟨(.inl rfl), fun a W9 K hd hb aw hk => wp_field rfl (show a.eval (.tmp 7) = Ptr b3 from hb 7 rfl) (fieldN _ _ (by omega) _) (hk _ _ rfl After.rfl)⟩⟩,
              ⟨rfl, rfl, .inl ⟨(.inl rfl), fun a W9 K hd hb aw hk => wp_load rfl (hd 1 rfl) (loadInt (HNd.out.after aw).c1) (hk _ _ rfl After.rfl)⟩⟩,
              ⟨rfl, rfl, .inl ⟨(.inl rfl), fun a W9 K hd hb aw hk => wp_index rfl (hd 0 rfl) (hd 2 rfl) (indexSt _ _ _ _ _ _ (by omega)) (hk _ _ rfl After.rfl)⟩⟩,
              ⟨rfl, rfl, .inl ⟨(.inl rfl), fun a W9 K hd hb aw hk => wp_load rfl (hd 3 rfl) (loadS (HPA.out.after aw).t) (hk _ _ rfl After.rfl)⟩⟩,
              ⟨rfl, rfl, .inl ⟨(.inl rfl), fun a W9 K hd hb aw hk => wp_bin rfl (hd 4 rfl) rfl (addSt _ _ HShA.out.1 (Nat.le_of_ble_eq_true rfl : List.length (α := UInt8) [32, 111, 114, 32] ≤ 4) rfl _ _ _) (hk _ _ rfl After.rfl)⟩⟩,
              ⟨rfl, rfl, .inl ⟨(.inl rfl), fun a W9 K hd hb aw hk => wp_move (.inl rfl) (show a.eval (.tmp 5) = .slice (some ⟨bt, ot, none⟩) j ct from hb 5 rfl) (hk _ _ rfl After.rfl)⟩⟩,
              ⟨rfl, rfl, .inl ⟨(.inl rfl), fun a W9 K hd hb aw hk => wp_field rfl (show a.eval (.tmp 7) = Ptr b3 from hb 7 rfl) (fieldN _ _ (by omega) _) (hk _ _ rfl After.rfl)⟩⟩,
              ⟨rfl, rfl, .inl ⟨(.inl rfl), fun a W9 K hd hb aw hk => wp_load rfl (hd 7 rfl) (loadInt (HNd.out.after aw).c2) (hk _ _ rfl After.rfl)⟩⟩,
              ⟨rfl, rfl, .inl ⟨(.inl rfl), fun a W9 K hd hb aw hk => wp_index rfl (hd 6 rfl) (hd 8 rfl) (indexSt _ _ _ _ _ _ (by omega)) (hk _ _ rfl After.rfl)⟩⟩,
              ⟨rfl, rfl, .inl ⟨(.inl rfl), fun a W9 K hd hb aw hk => wp_load rfl (hd 9 rfl) (loadS (HPB.out.after aw).t) (hk _ _ rfl After.rfl)⟩⟩,
              ⟨rfl, rfl, .inl ⟨(.inl rfl), fun a W9 K hd hb aw hk => wp_move (.inl rfl) (show a.eval (.tmp 0) = .slice (some ⟨bn, on_, none⟩) n cl from hb 0 rfl) (hk _ _ rfl After.rfl)⟩⟩,
              ⟨rfl, rfl, .inl ⟨(.inl rfl), fun a W9 K hd hb aw hk => wp_field rfl (show a.eval (.tmp 7) = Ptr b3 from hb 7 rfl) (fieldN _ _ (by omega) _) (hk _ _ rfl After.rfl)⟩⟩,
              ⟨rfl, rfl, .inl ⟨(.inl rfl), fun a W9 K hd hb aw hk => wp_load rfl (hd 12 rfl) (loadInt (HNd.out.after aw).c2) (hk _ _ rfl After.rfl)⟩⟩,
              ⟨rfl, rfl, .inl ⟨(.inl rfl), fun a W9 K hd hb aw hk => wp_index rfl (hd 11 rfl) (hd 13 rfl) (indexNd _ _ _ _ _ _ (by omega)) (hk _ _ rfl After.rfl)⟩⟩,
              ⟨rfl, rfl, .inl ⟨(.inl rfl), fun a W9 K hd hb aw hk => wp_field rfl (hd 14 rfl) (fieldN0 _ _ _) (hk _ _ rfl After.rfl)⟩⟩,
              ⟨rfl, rfl, .inl ⟨(.inl rfl), fun a W9 K hd hb aw hk => wp_load rfl (hd 15 rfl) (loadInt (HPB.out.after aw).n) (hk _ _ rfl After.rfl)⟩⟩,
              ⟨rfl, rfl, .inl ⟨(.inl rfl), fun a W9 K hd hb aw hk => wp_func3 rfl enterIn (hd 10 rfl) (hd 16 rfl) rfl ((in_part (HPB.out.after aw) 1 (by omega) (by omega) 0 rfl).mono (fun _ _ ⟨he, hA⟩ => ⟨_, he, hk _ _ rfl (by rw [hA]; exact After.rfl)⟩))⟩⟩,
              ⟨rfl, rfl, .inl ⟨(.inl rfl), fun a W9 K hd hb aw hk => wp_bin rfl (hd 5 rfl) (hd 17 rfl) (addSt _ _ (cat_le HShA.out.1 (Nat.le_of_ble_eq_true rfl : List.length (α := UInt8) [32, 111, 114, 32] ≤ 4)) (HShB.out.2 1) rfl _ _ _) (hk _ _ rfl After.rfl)⟩⟩,
              ⟨rfl, rfl, .inl ⟨(.inl rfl), fun a W9 K hd hb aw hk => wp_move (.inr rfl) (hd 18 rfl) (hk _ _ rfl After.rfl)⟩⟩,
              trivial⟩
          intro x9 w9 hx9 aw9
          have t0 : x9 0 = .slice (some ⟨bt, ot, none⟩) j ct := hx9 0 (Nat.le_of_ble_eq_true rfl)
          have t1 : x9 1 = .pointer (some ⟨b3, 1, none⟩) := hx9 1 (Nat.le_of_ble_eq_true rfl)
          have t2 : x9 2 = .int .i64 ((A : Nat) : Int) := hx9 2 (Nat.le_of_ble_eq_true rfl)
          have t3 : x9 3 = .pointer (some ⟨bt, ot + A, none⟩) := hx9 3 (Nat.le_of_ble_eq_true rfl)
          have t4 : x9 4 = .string (S (txAt T ((A : Nat) : Int))) := hx9 4 (Nat.le_of_ble_eq_true rfl)
          have t5 : x9 5 = .string (S ((txAt T ((A : Nat) : Int)) ++ [32, 111, 114, 32])) := hx9 5 (Nat.le_of_ble_eq_true rfl)
          have t6 : x9 6 = .slice (some ⟨bt, ot, none⟩) j ct := hx9 6 (Nat.le_of_ble_eq_true rfl)
          have t7 : x9 7 = .pointer (some ⟨b3, 2, none⟩) := hx9 7 (Nat.le_of_ble_eq_true rfl)
          have t8 : x9 8 = .int .i64 ((B : Nat) : Int) := hx9 8 (Nat.le_of_ble_eq_true rfl)
          have t9 : x9 9 = .pointer (some ⟨bt, ot + B, none⟩) := hx9 9 (Nat.le_of_ble_eq_true rfl)
          have t10 : x9 10 = .string (S (txAt T ((B : Nat) : Int))) := hx9 10 (Nat.le_of_ble_eq_true rfl)
          have t11 : x9 11 = .slice (some ⟨bn, on_, none⟩) n cl := hx9 11 (Nat.le_of_ble_eq_true rfl)
          have t12 : x9 12 = .pointer (some ⟨b3, 2, none⟩) := hx9 12 (Nat.le_of_ble_eq_true rfl)
          have t13 : x9 13 = .int .i64 ((B : Nat) : Int) := hx9 13 (Nat.le_of_ble_eq_true rfl)
          have t14 : x9 14 = .pointer (some ⟨bn, on_ + B * 4, none⟩) := hx9 14 (Nat.le_of_ble_eq_true rfl)
          have t15 : x9 15 = .pointer (some ⟨bn, on_ + B * 4, none⟩) := hx9 15 (Nat.le_of_ble_eq_true rfl)
          have t16 : x9 16 = .int .i64 (ndAt L ((B : Nat) : Int)).op := hx9 16 (Nat.le_of_ble_eq_true rfl)
          have t17 : x9 17 = .string (S (parT L T ((B : Nat) : Int) 1)) := hx9 17 (Nat.le_of_ble_eq_true rfl)
          have t18 : x9 18 = .string (S (((txAt T ((A : Nat) : Int)) ++ [32, 111, 114, 32]) ++ (parT L T ((B : Nat) : Int) 1))) := hx9 18 (Nat.le_of_ble_eq_true rfl)
          have t19 : x9 19 = .string (S (((txAt T ((A : Nat) : Int)) ++ [32, 111, 114, 32]) ++ (parT L T ((B : Nat) : Int) 1))) := hx9 19 (Nat.le_of_ble_eq_true rfl)
          simp only [sets, List.getD_cons_succ, List.getD_cons_zero, List.set_cons_succ, List.set_cons_zero, t0, t1, t2, t3, t4, t5, t6, t7, t8, t9, t10, t11, t12, t13, t14, t15, t16, t17, t18, t19]
          clear hx9 t0 t1 t2 t3 t4 t5 t6 t7 t8 t9 t10 t11 t12 t13 t14 t15 t16 t17 t18 t19
          clear x9
          have HA2 := hideIt (HW.out.trans aw9)
          clear aw9
          obtain ⟨t, ht⟩ : ∃ t, t = (((txAt T ((A : Nat) : Int)) ++ [32, 111, 114, 32]) ++ (parT L T ((B : Nat) : Int) 1)) := ⟨_, rfl⟩
          rw [← ht]
          have HT : Hid (t = nodeT L T ⟨8, (A : Nat), (B : Nat), 0⟩) := hideIt (by
            rw [ht]
            show (txAt T ((A : Nat) : Int) ++ [32, 111, 114, 32]) ++ parT L T ((B : Nat) : Int) 1 = parT L T ((A : Nat) : Int) 0 ++ 32 :: (wordOf 8 ++ 32 :: parT L T ((B : Nat) : Int) 1)
            rw [parT0]
            simp [wordOf, wOr])
          clear ht
          obtain ⟨w2, hw2⟩ : ∃ w2, w2 = w9 := ⟨_, rfl⟩
          subst hw2
          obtain ⟨M, hM⟩ : ∃ M : Nat, M = min t.length 1025 := ⟨_, rfl⟩
          have m1 : min ((S t).size : Int) 1025 = (M : Int) := by rw [L1.S_size]; omega
          have m2 : (M : Int) ≤ ((S t).size : Int) := by rw [L1.S_size]; omega
          have m3 : (0 : Int) ≤ (M : Int) := by omega
          have HE : Hid ((S t).extract 0 M = S (t.take 1025)) := hideIt (by
            rw [S_extract, List.drop_zero, Nat.sub_zero, hM]
            congr 1
            rcases Nat.le_total t.length 1025 with h | h
            · rw [Nat.min_eq_left h, List.take_of_length_le (Nat.le_refl _), List.take_of_length_le h]
            · rw [Nat.min_eq_right h])
          clear hM
          have HO2 := hideIt (own_after HOw.out HA2.out)
          go_wp2_with (at_builtin; refine app_row (E := strE) rfl (.tmp 176) (.tmp 182) 51 9 Tryz.underlying51 Tryz.infoStr2 rfl (by decide) rfl w.heap.size _ T rfl (own_after HO2.out (After.rfl.alloc _)) (some ⟨w2.heap.size, 0, none⟩) 1 1 [t.take 1025] rfl (by rw [HE.out]; exact lit_row (heap_alloc_new w2 _) rfl rfl) (fun h => by cases h) (by have := HS.out.1; unfold maxLen; omega) (by have := HS.out.1; omega) (by have := HS.out.2.2.size; have := HA2.out.size; simp; omega) ?_; intro v4 w4 hown hb; have HP := hideIt (And.intro hown hb); clear hown hb)
          go_roundw
          case rel =>
            refine ⟨j + 1, by omega, by go_num, ?_, ?_⟩
            · have h4 := HP.out.1
              rw [HT.out] at h4
              rw [HX.out]
              exact h4
            · exact (HS.out.2.2.trans (HA2.out.alloc _)).then HP.out.2 (fun i hi h => by have := (HO2.out.lt i h).1; omega)
          case measure => simp [intOf]; omega
        · obtain ⟨bt, ot, rfl⟩ := HNo.out (by omega)
          have HPA := hideIt (ptAt_of (HS.out.2.1.after (After.rfl.alloc (.cells #[.int .i64 12, .int .i64 (A : Int), .int .i64 (B : Int), .int .i64 0] 33))) (HR.out.after (HS.out.2.2.trans (After.rfl.alloc (.cells #[.int .i64 12, .int .i64 (A : Int), .int .i64 (B : Int), .int .i64 0] 33)))) (k := A) (by have := HS.out.1; omega) (by omega) HSt.out)
          have HPB := hideIt (ptAt_of (HS.out.2.1.after (After.rfl.alloc (.cells #[.int .i64 12, .int .i64 (A : Int), .int .i64 (B : Int), .int .i64 0] 33))) (HR.out.after (HS.out.2.2.trans (After.rfl.alloc (.cells #[.int .i64 12, .int .i64 (A : Int), .int .i64 (B : Int), .int .i64 0] 33)))) (k := B) (by have := HS.out.1; omega) (by omega) HSt.out)
          obtain ⟨W, hW⟩ : ∃ W, W = wr.alloc (.cells #[.int .i64 12, .int .i64 (A : Int), .int .i64 (B : Int), .int .i64 0] 33) := ⟨_, rfl⟩
          have k3 : W.heap[wr.heap.size]? = some (.cells #[.int .i64 12, .int .i64 (A : Int), .int .i64 (B : Int), .int .i64 0] 33 (0, 0)) := by rw [hW]; exact heap_alloc_new wr _
          have aW : After wr W := by rw [hW]; exact After.rfl.alloc _
          have HW := hideIt aW
          obtain ⟨b3, hb3⟩ : ∃ b, b = wr.heap.size := ⟨_, rfl⟩
          rw [← hb3] at k3
          have HNd : Hid (NdAt W b3 ⟨12, (A : Nat), (B : Nat), 0⟩) := hideIt ⟨blk_cell k3 rfl, blk_cell k3 rfl, blk_cell k3 rfl, blk_cell k3 rfl⟩
          have p0 := blk_cell k3 (i := 0) rfl
          have hlt := blk_lt k3
          rw [← hW] at HPA HPB
          have HShA : Hid ((txAt T ((A : Nat) : Int)).length ≤ 1025 ∧ (∀ m, (parT L T ((A : Nat) : Int) m).length ≤ 1027)) := hideIt ⟨HPA.out.short, ptShort HPA.out⟩
          have HShB : Hid ((txAt T ((B : Nat) : Int)).length ≤ 1025 ∧ (∀ m, (parT L T ((B : Nat) : Int) m).length ≤ 1027)) := hideIt ⟨HPB.out.short, ptShort HPB.out⟩
          clear aW k3
          go_upto_region 21 with fail
          rw [← hb3, ← hW]
          clear hW hb3
          refine region_slotsG (by kernel_rfl) [101, 102, 103, 104, 105, 106, 107, 108, 109, 110, 111, 112, 113, 114, 115, 116, 117, 118, 119, 120, 121, 122, 123, 124, 125, 126, 8] [isV (.slice (some ⟨bt, ot, none⟩) j ct), isV (.pointer (some ⟨b3, 1, none⟩)), isV (.int .i64 ((A : Nat) : Int)), isV (.pointer (some ⟨bt, ot + A, none⟩)), isV (.string (S (txAt T ((A : Nat) : Int)))), isV (.slice (some ⟨bn, on_, none⟩) n cl), isV (.pointer (some ⟨b3, 1, none⟩)), isV (.int .i64 ((A : Nat) : Int)), isV (.pointer (some ⟨bn, on_ + A * 4, none⟩)), isV (.pointer (some ⟨bn, on_ + A * 4, none⟩)), isV (.int .i64 (ndAt L ((A : Nat) : Int)).op), isV (.string (S (parT L T ((A : Nat) : Int) 3))), isV (.string (S ((parT L T ((A : Nat) : Int) 3) ++ [32, 115, 105, 110, 99, 101, 32]))), isV (.slice (some ⟨bt, ot, none⟩) j ct), isV (.pointer (some ⟨b3, 2, none⟩)), isV (.int .i64 ((B : Nat) : Int)), isV (.pointer (some ⟨bt, ot + B, none⟩)), isV (.string (S (txAt T ((B : Nat) : Int)))), isV (.slice (some ⟨bn, on_, none⟩) n cl), isV (.pointer (some ⟨b3, 2, none⟩)), isV (.int .i64 ((B : Nat) : Int)), isV (.pointer (some ⟨bn, on_ + B * 4, none⟩)), isV (.pointer (some ⟨bn, on_ + B * 4, none⟩)), isV (.int .i64 (ndAt L ((B : Nat) : Int)).op), isV (.string (S (parT L T ((B : Nat) : Int) 3))), isV (.string (S (((parT L T ((A : Nat) : Int) 3) ++ [32, 115, 105, 110, 99, 101, 32]) ++ (parT L T ((B : Nat) : Int) 3)))), isV (.string (S (((parT L T ((A : Nat) : Int) 3) ++ [32, 115, 105, 110, 99, 101, 32]) ++ (parT L T ((B : Nat) : Int) 3))))] 27 rfl rfl (stable_all (st_cons (isV_st _) (st_cons (isV_st _) (st_cons (isV_st _) (st_cons (isV_st _) (st_cons (isV_st _) (st_cons (isV_st _) (st_cons (isV_st _) (st_cons (isV_st _) (st_cons (isV_st _) (st_cons (isV_st _) (st_cons (isV_st _) (st_cons (isV_st _) (st_cons (isV_st _) (st_cons (isV_st _) (st_cons (isV_st _) (st_cons (isV_st _) (st_cons (isV_st _) (st_cons (isV_st _) (st_cons (isV_st _) (st_cons (isV_st _) (st_cons (isV_st _) (st_cons (isV_st _) (st_cons (isV_st _) (st_cons (isV_st _) (st_cons (isV_st _) (st_cons (isV_st _) (st_cons (isV_st _) (st_nil))))))))))))))))))))))))))))) rfl rfl ?_ ?_
          · exact ⟨⟨rfl, rfl, .inl ⟨(.inl rfl), fun a W9 K hd hb aw hk => wp_move (.inl rfl) (show a.eval (.tmp 5) = .slice (some ⟨bt, ot, none⟩) j ct from hb 5 rfl) (hk _ _ rfl After.rfl)⟩⟩,
              ⟨rfl, rfl, .inl ⟨(.inl rfl), fun a W9 K hd hb aw hk => wp_field rfl (show a.eval (.tmp 7) = Ptr b3 from hb 7 rfl) (fieldN _ _ (by omega) _) (hk _ _ rfl After.rfl)⟩⟩,
              ⟨rfl, rfl, .inl ⟨(.inl rfl), fun a W9 K hd hb aw hk => wp_load rfl (hd 1 rfl) (loadInt (HNd.out.after aw).c1) (hk _ _ rfl After.rfl)⟩⟩,
              ⟨rfl, rfl, .inl ⟨(.inl rfl), fun a W9 K hd hb aw hk => wp_index rfl (hd 0 rfl) (hd 2 rfl) (indexSt _ _ _ _ _ _ (by omega)) (hk _ _ rfl After.rfl)⟩⟩,
              ⟨rfl, rfl, .inl ⟨(.inl rfl), fun a W9 K hd hb aw hk => wp_load rfl (hd 3 rfl) (loadS (HPA.out.after aw).t) (hk _ _ rfl After.rfl)⟩⟩,
              ⟨rfl, rfl, .inl ⟨(.inl rfl), fun a W9 K hd hb aw hk => wp_move (.inl rfl) (show a.eval (.tmp 0) = .slice (some ⟨bn, on_, none⟩) n cl from hb 0 rfl) (hk _ _ rfl After.rfl)⟩⟩,
              ⟨rfl, rfl, .inl ⟨(.inl rfl), fun a W9 K hd hb aw hk => wp_field rfl (show a.eval (.tmp 7) = Ptr b3 from hb 7 rfl) (fieldN _ _ (by omega) _) (hk _ _ rfl After.rfl)⟩⟩,
              ⟨rfl, rfl, .inl ⟨(.inl rfl), fun a W9 K hd hb aw hk => wp_load rfl (hd 6 rfl) (loadInt (HNd.out.after aw).c1) (hk _ _ rfl After.rfl)⟩⟩,
              ⟨rfl, rfl, .inl ⟨(.inl rfl), fun a W9 K hd hb aw hk => wp_index rfl (hd 5 rfl) (hd 7 rfl) (indexNd _ _ _ _ _ _ (by omega)) (hk _ _ rfl After.rfl)⟩⟩,
              ⟨rfl, rfl, .inl ⟨(.inl rfl), fun a W9 K hd hb aw hk => wp_field rfl (hd 8 rfl) (fieldN0 _ _ _) (hk _ _ rfl After.rfl)⟩⟩,
              ⟨rfl, rfl, .inl ⟨(.inl rfl), fun a W9 K hd hb aw hk => wp_load rfl (hd 9 rfl) (loadInt (HPA.out.after aw).n) (hk _ _ rfl After.rfl)⟩⟩,
              ⟨rfl, rfl, .inl ⟨(.inl rfl), fun a W9 K hd hb aw hk => wp_func3 rfl enterIn (hd 4 rfl) (hd 10 rfl) rfl ((in_part (HPA.out.after aw) 3 (by omega) (by omega) 2 rfl).mono (fun _ _ ⟨he, hA⟩ => ⟨_, he, hk _ _ rfl (by rw [hA]; exact After.rfl)⟩))⟩⟩,
              ⟨rfl, rfl, .inl ⟨(.inl rfl), fun a W9 K hd hb aw hk => wp_bin rfl (hd 11 rfl) rfl (addSt _ _ (HShA.out.2 3) (Nat.le_of_ble_eq_true rfl : List.length (α := UInt8) [32, 115, 105, 110, 99, 101, 32] ≤ 7) rfl _ _ _) (hk _ _ rfl After.rfl)⟩⟩,
              ⟨rfl, rfl, .inl ⟨(.inl rfl), fun a W9 K hd hb aw hk => wp_move (.inl rfl) (show a.eval (.tmp 5) = .slice (some ⟨bt, ot, none⟩) j ct from hb 5 rfl) (hk _ _ rfl After.rfl)⟩⟩,
              ⟨rfl, rfl, .inl ⟨(.inl rfl), fun a W9 K hd hb aw hk => wp_field rfl (show a.eval (.tmp 7) = Ptr b3 from hb 7 rfl) (fieldN _ _ (by omega) _) (hk _ _ rfl After.rfl)⟩⟩,
              ⟨rfl, rfl, .inl ⟨(.inl rfl), fun a W9 K hd hb aw hk => wp_load rfl (hd 14 rfl) (loadInt (HNd.out.after aw).c2) (hk _ _ rfl After.rfl)⟩⟩,
              ⟨rfl, rfl, .inl ⟨(.inl rfl), fun a W9 K hd hb aw hk => wp_index rfl (hd 13 rfl) (hd 15 rfl) (indexSt _ _ _ _ _ _ (by omega)) (hk _ _ rfl After.rfl)⟩⟩,
              ⟨rfl, rfl, .inl ⟨(.inl rfl), fun a W9 K hd hb aw hk => wp_load rfl (hd 16 rfl) (loadS (HPB.out.after aw).t) (hk _ _ rfl After.rfl)⟩⟩,
              ⟨rfl, rfl, .inl ⟨(.inl rfl), fun a W9 K hd hb aw hk => wp_move (.inl rfl) (show a.eval (.tmp 0) = .slice (some ⟨bn, on_, none⟩) n cl from hb 0 rfl) (hk _ _ rfl After.rfl)⟩⟩,
              ⟨rfl, rfl, .inl ⟨(.inl rfl), fun a W9 K hd hb aw hk => wp_field rfl (show a.eval (.tmp 7) = Ptr b3 from hb 7 rfl) (fieldN _ _ (by omega) _) (hk _ _ rfl After.rfl)⟩⟩,
              ⟨rfl, rfl, .inl ⟨(.inl rfl), fun a W9 K hd hb aw hk => wp_load rfl (hd 19 rfl) (loadInt (HNd.out.after aw).c2) (hk _ _ rfl After.rfl)⟩⟩,
              ⟨rfl, rfl, .inl ⟨(.inl rfl), fun a W9 K hd hb aw hk => wp_index rfl (hd 18 rfl) (hd 20 rfl) (indexNd _ _ _ _ _ _ (by omega)) (hk _ _ rfl After.rfl)⟩⟩,
              ⟨rfl, rfl, .inl ⟨(.inl rfl), fun a W9 K hd hb aw hk => wp_field rfl (hd 21 rfl) (fieldN0 _ _ _) (hk _ _ rfl After.rfl)⟩⟩,
              ⟨rfl, rfl, .inl ⟨(.inl rfl), fun a W9 K hd hb aw hk => wp_load rfl (hd 22 rfl) (loadInt (HPB.out.after aw).n) (hk _ _ rfl After.rfl)⟩⟩,
              ⟨rfl, rfl, .inl ⟨(.inl rfl), fun a W9 K hd hb aw hk => wp_func3 rfl enterIn (hd 17 rfl) (hd 23 rfl) rfl ((in_part (HPB.out.after aw) 3 (by omega) (by omega) 2 rfl).mono (fun _ _ ⟨he, hA⟩ => ⟨_, he, hk _ _ rfl (by rw [hA]; exact After.rfl)⟩))⟩⟩,
              ⟨rfl, rfl, .inl ⟨(.inl rfl), fun a W9 K hd hb aw hk => wp_bin rfl (hd 12 rfl) (hd 24 rfl) (addSt _ _ (cat_le (HShA.out.2 3) (Nat.le_of_ble_eq_true rfl : List.length (α := UInt8) [32, 115, 105, 110, 99, 101, 32] ≤ 7)) (HShB.out.2 3) rfl _ _ _) (hk _ _ rfl After.rfl)⟩⟩,
              ⟨rfl, rfl, .inl ⟨(.inl rfl), fun a W9 K hd hb aw hk => wp_move (.inr rfl) (hd 25 rfl) (hk _ _ rfl After.rfl)⟩⟩,
              trivial⟩
          intro x9 w9 hx9 aw9
          have t0 : x9 0 = .slice (some ⟨bt, ot, none⟩) j ct := hx9 0 (Nat.le_of_ble_eq_true rfl)
          have t1 : x9 1 = .pointer (some ⟨b3, 1, none⟩) := hx9 1 (Nat.le_of_ble_eq_true rfl)
          have t2 : x9 2 = .int .i64 ((A : Nat) : Int) := hx9 2 (Nat.le_of_ble_eq_true rfl)
          have t3 : x9 3 = .pointer (some ⟨bt, ot + A, none⟩) := hx9 3 (Nat.le_of_ble_eq_true rfl)
          have t4 : x9 4 = .string (S (txAt T ((A : Nat) : Int))) := hx9 4 (Nat.le_of_ble_eq_true rfl)
          have t5 : x9 5 = .slice (some ⟨bn, on_, none⟩) n cl := hx9 5 (Nat.le_of_ble_eq_true rfl)
          have t6 : x9 6 = .pointer (some ⟨b3, 1, none⟩) := hx9 6 (Nat.le_of_ble_eq_true rfl)
          have t7 : x9 7 = .int .i64 ((A : Nat) : Int) := hx9 7 (Nat.le_of_ble_eq_true rfl)
          have t8 : x9 8 = .pointer (some ⟨bn, on_ + A * 4, none⟩) := hx9 8 (Nat.le_of_ble_eq_true rfl)
          have t9 : x9 9 = .pointer (some ⟨bn, on_ + A * 4, none⟩) := hx9 9 (Nat.le_of_ble_eq_true rfl)
          have t10 : x9 10 = .int .i64 (ndAt L ((A : Nat) : Int)).op := hx9 10 (Nat.le_of_ble_eq_true rfl)
          have t11 : x9 11 = .string (S (parT L T ((A : Nat) : Int) 3)) := hx9 11 (Nat.le_of_ble_eq_true rfl)
          have t12 : x9 12 = .string (S ((parT L T ((A : Nat) : Int) 3) ++ [32, 115, 105, 110, 99, 101, 32])) := hx9 12 (Nat.le_of_ble_eq_true rfl)
          have t13 : x9 13 = .slice (some ⟨bt, ot, none⟩) j ct := hx9 13 (Nat.le_of_ble_eq_true rfl)
          have t14 : x9 14 = .pointer (some ⟨b3, 2, none⟩) := hx9 14 (Nat.le_of_ble_eq_true rfl)
          have t15 : x9 15 = .int .i64 ((B : Nat) : Int) := hx9 15 (Nat.le_of_ble_eq_true rfl)
          have t16 : x9 16 = .pointer (some ⟨bt, ot + B, none⟩) := hx9 16 (Nat.le_of_ble_eq_true rfl)
          have t17 : x9 17 = .string (S (txAt T ((B : Nat) : Int))) := hx9 17 (Nat.le_of_ble_eq_true rfl)
          have t18 : x9 18 = .slice (some ⟨bn, on_, none⟩) n cl := hx9 18 (Nat.le_of_ble_eq_true rfl)
          have t19 : x9 19 = .pointer (some ⟨b3, 2, none⟩) := hx9 19 (Nat.le_of_ble_eq_true rfl)
          have t20 : x9 20 = .int .i64 ((B : Nat) : Int) := hx9 20 (Nat.le_of_ble_eq_true rfl)
          have t21 : x9 21 = .pointer (some ⟨bn, on_ + B * 4, none⟩) := hx9 21 (Nat.le_of_ble_eq_true rfl)
          have t22 : x9 22 = .pointer (some ⟨bn, on_ + B * 4, none⟩) := hx9 22 (Nat.le_of_ble_eq_true rfl)
          have t23 : x9 23 = .int .i64 (ndAt L ((B : Nat) : Int)).op := hx9 23 (Nat.le_of_ble_eq_true rfl)
          have t24 : x9 24 = .string (S (parT L T ((B : Nat) : Int) 3)) := hx9 24 (Nat.le_of_ble_eq_true rfl)
          have t25 : x9 25 = .string (S (((parT L T ((A : Nat) : Int) 3) ++ [32, 115, 105, 110, 99, 101, 32]) ++ (parT L T ((B : Nat) : Int) 3))) := hx9 25 (Nat.le_of_ble_eq_true rfl)
          have t26 : x9 26 = .string (S (((parT L T ((A : Nat) : Int) 3) ++ [32, 115, 105, 110, 99, 101, 32]) ++ (parT L T ((B : Nat) : Int) 3))) := hx9 26 (Nat.le_of_ble_eq_true rfl)
          simp only [sets, List.getD_cons_succ, List.getD_cons_zero, List.set_cons_succ, List.set_cons_zero, t0, t1, t2, t3, t4, t5, t6, t7, t8, t9, t10, t11, t12, t13, t14, t15, t16, t17, t18, t19, t20, t21, t22, t23, t24, t25, t26]
          clear hx9 t0 t1 t2 t3 t4 t5 t6 t7 t8 t9 t10 t11 t12 t13 t14 t15 t16 t17 t18 t19 t20 t21 t22 t23 t24 t25 t26
          clear x9
          have HA2 := hideIt (HW.out.trans aw9)
          clear aw9
          obtain ⟨t, ht⟩ : ∃ t, t = (((parT L T ((A : Nat) : Int) 3) ++ [32, 115, 105, 110, 99, 101, 32]) ++ (parT L T ((B : Nat) : Int) 3)) := ⟨_, rfl⟩
          rw [← ht]
          have HT : Hid (t = nodeT L T ⟨12, (A : Nat), (B : Nat), 0⟩) := hideIt (by
            rw [ht]
            show (parT L T ((A : Nat) : Int) 3 ++ [32, 115, 105, 110, 99, 101, 32]) ++ parT L T ((B : Nat) : Int) 3 = parT L T ((A : Nat) : Int) 3 ++ 32 :: (wSince ++ 32 :: parT L T ((B : Nat) : Int) 3)
            simp [wSince])
          clear ht
          obtain ⟨w2, hw2⟩ : ∃ w2, w2 = w9 := ⟨_, rfl⟩
          subst hw2
          obtain ⟨M, hM⟩ : ∃ M : Nat, M = min t.length 1025 := ⟨_, rfl⟩
          have m1 : min ((S t).size : Int) 1025 = (M : Int) := by rw [L1.S_size]; omega
          have m2 : (M : Int) ≤ ((S t).size : Int) := by rw [L1.S_size]; omega
          have m3 : (0 : Int) ≤ (M : Int) := by omega
          have HE : Hid ((S t).extract 0 M = S (t.take 1025)) := hideIt (by
            rw [S_extract, List.drop_zero, Nat.sub_zero, hM]
            congr 1
            rcases Nat.le_total t.length 1025 with h | h
            · rw [Nat.min_eq_left h, List.take_of_length_le (Nat.le_refl _), List.take_of_length_le h]
            · rw [Nat.min_eq_right h])
          clear hM
          have HO2 := hideIt (own_after HOw.out HA2.out)
          go_wp2_with (at_builtin; refine app_row (E := strE) rfl (.tmp 176) (.tmp 182) 51 9 Tryz.underlying51 Tryz.infoStr2 rfl (by decide) rfl w.heap.size _ T rfl (own_after HO2.out (After.rfl.alloc _)) (some ⟨w2.heap.size, 0, none⟩) 1 1 [t.take 1025] rfl (by rw [HE.out]; exact lit_row (heap_alloc_new w2 _) rfl rfl) (fun h => by cases h) (by have := HS.out.1; unfold maxLen; omega) (by have := HS.out.1; omega) (by have := HS.out.2.2.size; have := HA2.out.size; simp; omega) ?_; intro v4 w4 hown hb; have HP := hideIt (And.intro hown hb); clear hown hb)
          go_roundw
          case rel =>
            refine ⟨j + 1, by omega, by go_num, ?_, ?_⟩
            · have h4 := HP.out.1
              rw [HT.out] at h4
              rw [HX.out]
              exact h4
            · exact (HS.out.2.2.trans (HA2.out.alloc _)).then HP.out.2 (fun i hi h => by have := (HO2.out.lt i h).1; omega)
          case measure => simp [intOf]; omega
    · have hjn' : j = n := by omega
      have i1 : ¬ (j : Int) < (n : Int) := by omega
      have hTn : T = txs L L [] := by rw [hT, hjn', HN.out, List.take_of_length_le (Nat.le_refl _)]
      have hroot : rootT L = T.getD (n - 1) [] := by unfold rootT; rw [← hTn, ← HN.out]
      rw [← hT] at hown
      obtain ⟨at2, ct, rfl, hg, -, -⟩ := ORow.row hown
      rw [hTl] at hg ⊢
      subst hjn'
      obtain ⟨bt, ot, t, rfl, hb, ht, hcell⟩ := hg.2 (j - 1) (by omega)
      have c1 : wr.cell? ⟨bt, ot + (j - 1), none⟩ = some (.string (S t)) := by simpa [strE] using hcell 0 _ rfl
      have hrt : rootT L = t := by rw [hroot]; simp [ht]
      have HTs : Hid (t.length ≤ 1025) := hideIt (HSt.out t (List.mem_of_getElem? ht))
      rw [hrt] at HV HTe
      have e1 : (j : Int) - 1 = ((j - 1 : Nat) : Int) := by omega
      have e3 : ((j - 1 : Nat) : Int) < (j : Int) := by omega
      have e2 : (j - 1 : Nat) < j := by omega
      have HAw := hideIt aw
      have i2 : ¬ (j : Int) < (j : Int) := i1
      clear hown hg hcell hroot hrt hT hTn hTl hsh aw ht hjn
      generalize j - 1 = q at *
      by_cases hlong : 1024 < t.length
      · rw [if_pos hlong] at HV HTe
        have z1 : (1025 : Int) ≤ ((S t).size : Int) := by rw [L1.S_size]; omega
        clear hlong
        go_wp2_with fail
        go_ret2
        exact ⟨by rw [HV.out, HTe.out]; rfl, HAw.out⟩
      · rw [if_neg hlong] at HV HTe
        have z1 : ¬ (1025 : Int) ≤ ((S t).size : Int) := by rw [L1.S_size]; omega
        clear hlong
        go_wp2_with fail
        go_ret2
        exact ⟨by rw [HV.out, HTe.out]; rfl, HAw.out⟩
theorem refText_any (L : List Nd) (w : World) (a : Option Addr) (cl : Nat) (hr : NRow w a L.length L) :
    Calls Tryz.prog 11 #[.slice a L.length cl] w fun e w' => e = .returned (.tuple #[.string (S (textV L)), .int .i64 (textE L)]) ∧ After w w' := by
  by_cases hc : chk L 8 = 0
  · exact refTexts_any L w a cl hr hc
  · have HC := hideIt (refCheck_any L w a L.length cl hr 8)
    have e1 : textV L = [] := by unfold textV; rw [if_neg hc]
    have e2 : textE L = chk L 8 := by unfold textE; rw [if_neg hc]
    rw [e1, e2]
    clear hr e1 e2
    generalize chk L 8 = E at *
    have hb : (E == 0) = false := by simpa using hc
    go_enter Tryz.func11, Tryz.ntmps11
    go_wp2_with fail
    refine HC.out.mono ?_
    rintro e w1 ⟨rfl, a1⟩
    have HA := hideIt a1
    clear a1
    go_wp2
    go_ret2
    exact ⟨rfl, HA.out⟩
end Go.Proofs.YtlfcihanhfabmaaGreatDoor
