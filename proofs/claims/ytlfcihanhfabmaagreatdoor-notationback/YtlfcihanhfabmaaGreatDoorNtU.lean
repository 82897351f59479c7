/-
  The program's nodeText.
-/
import Derived.Test.YtlfcihanhfabmaaGreatDoorNtT
namespace Go.Proofs.YtlfcihanhfabmaaGreatDoor
open Go.RowKit
set_option maxRecDepth 8000
open L1 (S)
theorem stOf2 (a b : W8) (w : World) : ∃ v w', (Instr.buildSlice 51 2 #[(0, .string (S a)), (1, .string (S b))]).run Tryz.prog w = .ok v w' ∧ isSt [a, b] v w' ∧ After w w' := by
  refine ⟨.slice (some ⟨w.heap.size, 0, none⟩) 2 2, w.alloc (.cells #[.string (S a), .string (S b)] 9), ?_, ⟨_, rfl, lit_row (heap_alloc_new w _) rfl rfl⟩, After.rfl.alloc _⟩
  simp [go_sem]
theorem stOf3 (a b c : W8) (w : World) : ∃ v w', (Instr.buildSlice 51 3 #[(0, .string (S a)), (1, .string (S b)), (2, .string (S c))]).run Tryz.prog w = .ok v w' ∧ isSt [a, b, c] v w' ∧ After w w' := by
  refine ⟨.slice (some ⟨w.heap.size, 0, none⟩) 3 3, w.alloc (.cells #[.string (S a), .string (S b), .string (S c)] 9), ?_, ⟨_, rfl, lit_row (heap_alloc_new w _) rfl rfl⟩, After.rfl.alloc _⟩
  simp [go_sem]
theorem fieldN (g i : Nat) (hi : i < 4) (w : World) : (Instr.fieldAt 33 (Ptr g) i).run Tryz.prog w = .ok (.pointer (some ⟨g, i, none⟩)) w := by
  rcases (by omega : i = 0 ∨ i = 1 ∨ i = 2 ∨ i = 3) with rfl | rfl | rfl | rfl <;> simp [go_sem]
theorem loadInt {w : World} {p : Addr} {z : Int} (h : w.cell? p = some (.int .i64 z)) : (Instr.loadAt 3 (.pointer (some p))).run Tryz.prog w = .ok (.int .i64 z) w := by simp [go_sem, h]
theorem addL {m : Nat} (h : m ≤ 100) (x y : Operand) (w : World) : (do eqGuard .add 3 x y (.int .i64 (m : Int)) (.int .i64 1); binOp .add 3 (.int .i64 (m : Int)) (.int .i64 1) : Sem Value).run Tryz.prog w = .ok (.int .i64 ((m + 1 : Nat) : Int)) w := by
  have e : IntKind.i64.wrap ((m : Int) + 1) = (m : Int) + 1 := IntWalk.i64_in _ (by omega)
  simp [go_sem, eqGuard, e]
theorem enterC : ∀ (args : Array Value) (W : World), (callFunc 66 args).run Tryz.prog W = .ok (.enter 66 args) W := enter_of Tryz.func66 (by kernel_rfl) (by kernel_rfl)
theorem enterT : ∀ (args : Array Value) (W : World), (callFunc 67 args).run Tryz.prog W = .ok (.enter 67 args) W := enter_of Tryz.func67 (by kernel_rfl) (by kernel_rfl)
theorem enterW : ∀ (args : Array Value) (W : World), (callFunc 65 args).run Tryz.prog W = .ok (.enter 65 args) W := enter_of Tryz.func65 (by kernel_rfl) (by kernel_rfl)
theorem enterP : ∀ (args : Array Value) (W : World), (callFunc 62 args).run Tryz.prog W = .ok (.enter 62 args) W := enter_of Tryz.func62 (by kernel_rfl) (by kernel_rfl)
/-- What lies in memory when a node's text is put together. -/
structure NtAt (w W : World) (b1 b2 b3 : Nat) (L : List Nd) (T : List W8) (x : Nd) : Prop where
  sees : Sees W b1 b2 L T
  aft : After w W
  c0 : W.cell? ⟨b3, 0, none⟩ = some (.int .i64 x.op)
  c1 : W.cell? ⟨b3, 1, none⟩ = some (.int .i64 x.a)
  c2 : W.cell? ⟨b3, 2, none⟩ = some (.int .i64 x.b)
  c3 : W.cell? ⟨b3, 3, none⟩ = some (.int .i64 x.n)
  laid : Laid W
theorem NtAt.after {w W W' : World} {b1 b2 b3 : Nat} {L : List Nd} {T : List W8} {x : Nd} (h : NtAt w W b1 b2 b3 L T x) (a : After W W') : NtAt w W' b1 b2 b3 L T x :=
  ⟨h.sees.after a, h.aft.trans a, (a.cell (cell_lt h.c0) _).trans h.c0, (a.cell (cell_lt h.c1) _).trans h.c1, (a.cell (cell_lt h.c2) _).trans h.c2, (a.cell (cell_lt h.c3) _).trans h.c3, h.laid.on a⟩
theorem textS (v : Int) (w : World) (ht : Laid w) : Calls Tryz.prog 67 #[.int .i64 v] w fun e w' => e = .returned (.string (S (L1.textL v))) ∧ After w w' :=
  (L1.text_any v w ht.tab).mono fun _ _ ⟨h1, h2⟩ => ⟨h1, After.of h2⟩
theorem textL_len (v : Int) : (L1.textL v).length ≤ 15 := by
  have c1 := L1.cl_lo v; have c2 := L1.cl_hi v
  have a1 : 0 ≤ L1.ab (L1.cl v) := by rw [L1.ab_def]; omega
  have a2 : L1.ab (L1.cl v) ≤ 2147483647 := by rw [L1.ab_def]; omega
  have i1 := L1.itoa_len (L1.ab (L1.cl v) / 1000) (by omega) (by omega)
  have i2 := L1.part_len (L1.ab (L1.cl v) % 1000)
  unfold L1.textL
  split <;> simp <;> omega
theorem wordOf_len (op : Int) : (wordOf op).length ≤ 5 := by
  unfold wordOf
  repeat' split
  all_goals decide
theorem dig_len (n : Nat) : (dig n).length ≤ 2 := by unfold dig; split <;> simp
theorem chanW_len (n : Nat) : (chanW n).length ≤ 3 := by have := dig_len n; unfold chanW; simp; omega
theorem itoaD (n : Nat) (h : n < 100) (w : World) : Calls Tryz.prog 68 #[.int .i64 (n : Int)] w fun e w' => e = .returned (.string (S (dig n))) ∧ w' = w := by
  have := Tryz.strconv_Itoa_small n h w
  rw [dig_dec n h] at this
  exact this
set_option maxHeartbeats 1000000 in
theorem node_0 {L : List Nd} {T : List W8} (w : World) (hl : Laid w) (al at2 : Option Addr) (cl ct : Nat) (h1 : NRow w al L.length L) (h2 : GRow strE w at2 T.length T) (hs : ∀ t ∈ T, t.length ≤ 1025)  :
    Calls Tryz.prog 43 #[.slice al L.length cl, .slice at2 T.length ct, (Nd.mk 0 0 0 0).val] w fun e w' => e = .returned (.string (S (nodeT L T ⟨0, 0, 0, 0⟩))) ∧ After w w' := by
  unfold Nd.val
  have hmf : ∀ (fn : Fn) (first cap : Array Value) (w : World), (Instr.makeFunc fn first cap).run Tryz.prog w = .ok (.func fn first cap) w := fun _ _ _ _ => rfl
  have eN : nodeT L T ⟨0, 0, 0, 0⟩ = wTrue := rfl
  rw [eN]
  clear eN
  obtain ⟨W, hW⟩ : ∃ W, W = ((w.alloc (.cells #[.slice al L.length cl] 22)).alloc (.cells #[.slice at2 T.length ct] 51)).alloc (.cells #[.int .i64 0, .int .i64 0, .int .i64 0, .int .i64 0] 33) := ⟨_, rfl⟩
  have aW : After w W := by rw [hW]; exact ((After.rfl.alloc _).alloc _).alloc _
  have k1 : W.heap[w.heap.size]? = some (.cells #[.slice al L.length cl] 22 (0, 0)) := by
    rw [hW, Below.heap_alloc _ _ _ (by simp; omega), Below.heap_alloc _ _ _ (by simp)]; exact heap_alloc_new w _
  have k2 : W.heap[w.heap.size + 1]? = some (.cells #[.slice at2 T.length ct] 51 (0, 0)) := by
    rw [hW, Below.heap_alloc _ _ _ (by simp)]
    have := heap_alloc_new (w.alloc (.cells #[.slice al L.length cl] 22)) (.cells #[.slice at2 T.length ct] 51)
    rw [World.size_alloc] at this; exact this
  have k3 : W.heap[w.heap.size + 2]? = some (.cells #[.int .i64 0, .int .i64 0, .int .i64 0, .int .i64 0] 33 (0, 0)) := by
    rw [hW]
    have := heap_alloc_new ((w.alloc (.cells #[.slice al L.length cl] 22)).alloc (.cells #[.slice at2 T.length ct] 51)) (.cells #[.int .i64 0, .int .i64 0, .int .i64 0, .int .i64 0] 33)
    rw [World.size_alloc, World.size_alloc] at this; exact this
  have HM : Hid (NtAt w W w.heap.size (w.heap.size + 1) (w.heap.size + 2) L T ⟨0, 0, 0, 0⟩) := hideIt ⟨⟨⟨al, cl, blk_cell k1 rfl, h1.after aW⟩, ⟨at2, ct, blk_cell k2 rfl, h2.after aW⟩, hs⟩, aW, blk_cell k3 rfl, blk_cell k3 rfl, blk_cell k3 rfl, blk_cell k3 rfl, hl.on aW⟩
  have p0 := blk_cell k3 (i := 0) rfl
  have p1 := blk_cell k3 (i := 1) rfl
  have p2 := blk_cell k3 (i := 2) rfl
  have p3 := blk_cell k3 (i := 3) rfl
  have hlt := blk_lt k3
  obtain ⟨b1, hb1⟩ : ∃ b, b = w.heap.size := ⟨_, rfl⟩
  obtain ⟨b2, hb2⟩ : ∃ b, b = w.heap.size + 1 := ⟨_, rfl⟩
  obtain ⟨b3, hb3⟩ : ∃ b, b = w.heap.size + 2 := ⟨_, rfl⟩
  rw [← hb3] at p0 p1 p2 p3 hlt
  rw [← hb3, ← hb2, ← hb1] at HM
  clear aW k1 k2 k3 h1 h2 hs hl
  go_enter Tryz.func43, Tryz.ntmps43
  go_wp2_with fail
  rw [← hb3, ← hb2, ← hb1, ← hW]
  clear hW hb1 hb2 hb3
  refine (word_any 0 _).mono ?_
  rintro e w1 ⟨rfl, rfl⟩
  go_wp2
  go_ret
  exact ⟨rfl, HM.out.aft⟩
set_option maxHeartbeats 1000000 in
theorem node_1 {L : List Nd} {T : List W8} (w : World) (hl : Laid w) (al at2 : Option Addr) (cl ct : Nat) (h1 : NRow w al L.length L) (h2 : GRow strE w at2 T.length T) (hs : ∀ t ∈ T, t.length ≤ 1025) (A : Nat) (Nz : Int) (hA : A < 8) :
    Calls Tryz.prog 43 #[.slice al L.length cl, .slice at2 T.length ct, (Nd.mk 1 ((A : Nat)) 0 (Nz)).val] w fun e w' => e = .returned (.string (S (nodeT L T ⟨1, (A : Nat), 0, Nz⟩))) ∧ After w w' := by
  unfold Nd.val
  have hmf : ∀ (fn : Fn) (first cap : Array Value) (w : World), (Instr.makeFunc fn first cap).run Tryz.prog w = .ok (.func fn first cap) w := fun _ _ _ _ => rfl
  have eN : nodeT L T ⟨1, (A : Nat), 0, Nz⟩ = jn [chanW A, wordOf 1, L1.textL Nz] := by
    rw [jn3]
    rfl
  have HJ : Hid ((jn [chanW A, wordOf 1, L1.textL Nz]).length ≤ 100000) := hideIt (by
    rw [jn3]
    have := chanW_len A; have := wordOf_len 1; have := textL_len Nz
    simp only [List.length_append, List.length_cons]
    omega)
  rw [eN]
  clear eN
  obtain ⟨W, hW⟩ : ∃ W, W = ((w.alloc (.cells #[.slice al L.length cl] 22)).alloc (.cells #[.slice at2 T.length ct] 51)).alloc (.cells #[.int .i64 1, .int .i64 (A : Int), .int .i64 0, .int .i64 Nz] 33) := ⟨_, rfl⟩
  have aW : After w W := by rw [hW]; exact ((After.rfl.alloc _).alloc _).alloc _
  have k1 : W.heap[w.heap.size]? = some (.cells #[.slice al L.length cl] 22 (0, 0)) := by
    rw [hW, Below.heap_alloc _ _ _ (by simp; omega), Below.heap_alloc _ _ _ (by simp)]; exact heap_alloc_new w _
  have k2 : W.heap[w.heap.size + 1]? = some (.cells #[.slice at2 T.length ct] 51 (0, 0)) := by
    rw [hW, Below.heap_alloc _ _ _ (by simp)]
    have := heap_alloc_new (w.alloc (.cells #[.slice al L.length cl] 22)) (.cells #[.slice at2 T.length ct] 51)
    rw [World.size_alloc] at this; exact this
  have k3 : W.heap[w.heap.size + 2]? = some (.cells #[.int .i64 1, .int .i64 (A : Int), .int .i64 0, .int .i64 Nz] 33 (0, 0)) := by
    rw [hW]
    have := heap_alloc_new ((w.alloc (.cells #[.slice al L.length cl] 22)).alloc (.cells #[.slice at2 T.length ct] 51)) (.cells #[.int .i64 1, .int .i64 (A : Int), .int .i64 0, .int .i64 Nz] 33)
    rw [World.size_alloc, World.size_alloc] at this; exact this
  have HM : Hid (NtAt w W w.heap.size (w.heap.size + 1) (w.heap.size + 2) L T ⟨1, (A : Nat), 0, Nz⟩) := hideIt ⟨⟨⟨al, cl, blk_cell k1 rfl, h1.after aW⟩, ⟨at2, ct, blk_cell k2 rfl, h2.after aW⟩, hs⟩, aW, blk_cell k3 rfl, blk_cell k3 rfl, blk_cell k3 rfl, blk_cell k3 rfl, hl.on aW⟩
  have p0 := blk_cell k3 (i := 0) rfl
  have p1 := blk_cell k3 (i := 1) rfl
  have p2 := blk_cell k3 (i := 2) rfl
  have p3 := blk_cell k3 (i := 3) rfl
  have hlt := blk_lt k3
  obtain ⟨b1, hb1⟩ : ∃ b, b = w.heap.size := ⟨_, rfl⟩
  obtain ⟨b2, hb2⟩ : ∃ b, b = w.heap.size + 1 := ⟨_, rfl⟩
  obtain ⟨b3, hb3⟩ : ∃ b, b = w.heap.size + 2 := ⟨_, rfl⟩
  rw [← hb3] at p0 p1 p2 p3 hlt
  rw [← hb3, ← hb2, ← hb1] at HM
  clear aW k1 k2 k3 h1 h2 hs hl
  go_enter Tryz.func43, Tryz.ntmps43
  go_wp2_with fail
  rw [← hb3, ← hb2, ← hb1, ← hW]
  clear hW hb1 hb2 hb3
  refine (word_any 1 _).mono ?_
  rintro e w1 ⟨rfl, rfl⟩
  go_upto_region 8 with fail
  refine region_slotsG (by kernel_rfl) [22, 23, 24, 25, 26, 27, 28, 29, 30, 6] [isV (.pointer (some ⟨b3, 1, none⟩)), isV (.int .i64 ((A : Nat) : Int)), isV (.string (S (chanW A))), isV (.string (S (wordOf 1))), isV (.pointer (some ⟨b3, 3, none⟩)), isV (.int .i64 Nz), isV (.string (S (L1.textL Nz))), isSt [(chanW A), (wordOf 1), (L1.textL Nz)], isV (.string (S (jn [(chanW A), (wordOf 1), (L1.textL Nz)]))), isV (.string (S (jn [(chanW A), (wordOf 1), (L1.textL Nz)])))] 10 rfl rfl (stable_all (st_cons (isV_st _) (st_cons (isV_st _) (st_cons (isV_st _) (st_cons (isV_st _) (st_cons (isV_st _) (st_cons (isV_st _) (st_cons (isV_st _) (st_cons (isSt_st _) (st_cons (isV_st _) (st_cons (isV_st _) (st_nil)))))))))))) rfl rfl ?_ ?_
  · exact ⟨⟨rfl, rfl, .inl ⟨(.inl rfl), fun a W9 K hd hb aw hk => wp_field rfl (show a.eval (.tmp 5) = Ptr b3 from hb 5 rfl) (fieldN _ _ (by omega) _) (hk _ _ rfl After.rfl)⟩⟩,
      ⟨rfl, rfl, .inl ⟨(.inl rfl), fun a W9 K hd hb aw hk => wp_load rfl (hd 0 rfl) (loadInt (HM.out.after aw).c1) (hk _ _ rfl After.rfl)⟩⟩,
      ⟨rfl, rfl, .inl ⟨(.inl rfl), fun a W9 K hd hb aw hk => wp_func1 rfl enterC (hd 1 rfl) ((chanText_any A (by omega) _).mono (fun _ _ ⟨he, hA⟩ => ⟨_, he, hk _ _ rfl (by rw [hA]; exact After.rfl)⟩))⟩⟩,
      ⟨rfl, rfl, .inl ⟨(.inl rfl), fun a W9 K hd hb aw hk => wp_move (.inl rfl) (show a.eval (.tmp 8) = .string (S (wordOf 1)) from hb 8 rfl) (hk _ _ rfl After.rfl)⟩⟩,
      ⟨rfl, rfl, .inl ⟨(.inl rfl), fun a W9 K hd hb aw hk => wp_field rfl (show a.eval (.tmp 5) = Ptr b3 from hb 5 rfl) (fieldN _ _ (by omega) _) (hk _ _ rfl After.rfl)⟩⟩,
      ⟨rfl, rfl, .inl ⟨(.inl rfl), fun a W9 K hd hb aw hk => wp_load rfl (hd 4 rfl) (loadInt (HM.out.after aw).c3) (hk _ _ rfl After.rfl)⟩⟩,
      ⟨rfl, rfl, .inl ⟨(.inl rfl), fun a W9 K hd hb aw hk => wp_func1 rfl enterT (hd 5 rfl) ((textS _ _ (HM.out.after aw).laid).mono (fun _ _ ⟨he, hA⟩ => ⟨_, he, hk _ _ rfl hA⟩))⟩⟩,
      ⟨rfl, rfl, .inl ⟨(.inl rfl), fun a W9 K hd hb aw hk => by
      obtain ⟨v, w9, h1, h2, h3⟩ := stOf3 ((chanW A)) ((wordOf 1)) ((L1.textL Nz)) W9
      exact wp_slice3 rfl (hd 2 rfl) (hd 3 rfl) (hd 6 rfl) h1 (hk _ _ h2 h3)⟩⟩,
      ⟨rfl, rfl, .inl ⟨(.inl rfl), fun a W9 K hd hb aw hk => by
      obtain hv := hd 7 rfl
      exact wp_func1 rfl enterW rfl ((words_any _ _ _ hv (by simp) (by simp) (HJ.out)).mono (fun _ _ ⟨he, hA⟩ => ⟨_, he, hk _ _ rfl hA⟩))⟩⟩,
      ⟨rfl, rfl, .inl ⟨(.inl rfl), fun a W9 K hd hb aw hk => wp_move (.inr rfl) (hd 8 rfl) (hk _ _ rfl After.rfl)⟩⟩,
      trivial⟩
  intro x9 w9 hx9 aw9
  have t0 : x9 0 = .pointer (some ⟨b3, 1, none⟩) := hx9 0 (Nat.le_of_ble_eq_true rfl)
  have t1 : x9 1 = .int .i64 ((A : Nat) : Int) := hx9 1 (Nat.le_of_ble_eq_true rfl)
  have t2 : x9 2 = .string (S (chanW A)) := hx9 2 (Nat.le_of_ble_eq_true rfl)
  have t3 : x9 3 = .string (S (wordOf 1)) := hx9 3 (Nat.le_of_ble_eq_true rfl)
  have t4 : x9 4 = .pointer (some ⟨b3, 3, none⟩) := hx9 4 (Nat.le_of_ble_eq_true rfl)
  have t5 : x9 5 = .int .i64 Nz := hx9 5 (Nat.le_of_ble_eq_true rfl)
  have t6 : x9 6 = .string (S (L1.textL Nz)) := hx9 6 (Nat.le_of_ble_eq_true rfl)
  have t8 : x9 8 = .string (S (jn [(chanW A), (wordOf 1), (L1.textL Nz)])) := hx9 8 (Nat.le_of_ble_eq_true rfl)
  have t9 : x9 9 = .string (S (jn [(chanW A), (wordOf 1), (L1.textL Nz)])) := hx9 9 (Nat.le_of_ble_eq_true rfl)
  simp only [sets, List.getD_cons_succ, List.getD_cons_zero, List.set_cons_succ, List.set_cons_zero, t0, t1, t2, t3, t4, t5, t6, t8, t9]
  clear hx9 t0 t1 t2 t3 t4 t5 t6 t8 t9
  generalize x9 7 = y7
  clear x9
  have HW9 := hideIt aw9
  clear aw9
  go_wp2
  go_ret
  exact ⟨rfl, HM.out.aft.trans HW9.out⟩
set_option maxHeartbeats 1000000 in
theorem node_2 {L : List Nd} {T : List W8} (w : World) (hl : Laid w) (al at2 : Option Addr) (cl ct : Nat) (h1 : NRow w al L.length L) (h2 : GRow strE w at2 T.length T) (hs : ∀ t ∈ T, t.length ≤ 1025) (A : Nat) (Nz : Int) (hA : A < 8) :
    Calls Tryz.prog 43 #[.slice al L.length cl, .slice at2 T.length ct, (Nd.mk 2 ((A : Nat)) 0 (Nz)).val] w fun e w' => e = .returned (.string (S (nodeT L T ⟨2, (A : Nat), 0, Nz⟩))) ∧ After w w' := by
  unfold Nd.val
  have hmf : ∀ (fn : Fn) (first cap : Array Value) (w : World), (Instr.makeFunc fn first cap).run Tryz.prog w = .ok (.func fn first cap) w := fun _ _ _ _ => rfl
  have eN : nodeT L T ⟨2, (A : Nat), 0, Nz⟩ = jn [chanW A, wordOf 2, L1.textL Nz] := by
    rw [jn3]
    rfl
  have HJ : Hid ((jn [chanW A, wordOf 2, L1.textL Nz]).length ≤ 100000) := hideIt (by
    rw [jn3]
    have := chanW_len A; have := wordOf_len 2; have := textL_len Nz
    simp only [List.length_append, List.length_cons]
    omega)
  rw [eN]
  clear eN
  obtain ⟨W, hW⟩ : ∃ W, W = ((w.alloc (.cells #[.slice al L.length cl] 22)).alloc (.cells #[.slice at2 T.length ct] 51)).alloc (.cells #[.int .i64 2, .int .i64 (A : Int), .int .i64 0, .int .i64 Nz] 33) := ⟨_, rfl⟩
  have aW : After w W := by rw [hW]; exact ((After.rfl.alloc _).alloc _).alloc _
  have k1 : W.heap[w.heap.size]? = some (.cells #[.slice al L.length cl] 22 (0, 0)) := by
    rw [hW, Below.heap_alloc _ _ _ (by simp; omega), Below.heap_alloc _ _ _ (by simp)]; exact heap_alloc_new w _
  have k2 : W.heap[w.heap.size + 1]? = some (.cells #[.slice at2 T.length ct] 51 (0, 0)) := by
    rw [hW, Below.heap_alloc _ _ _ (by simp)]
    have := heap_alloc_new (w.alloc (.cells #[.slice al L.length cl] 22)) (.cells #[.slice at2 T.length ct] 51)
    rw [World.size_alloc] at this; exact this
  have k3 : W.heap[w.heap.size + 2]? = some (.cells #[.int .i64 2, .int .i64 (A : Int), .int .i64 0, .int .i64 Nz] 33 (0, 0)) := by
    rw [hW]
    have := heap_alloc_new ((w.alloc (.cells #[.slice al L.length cl] 22)).alloc (.cells #[.slice at2 T.length ct] 51)) (.cells #[.int .i64 2, .int .i64 (A : Int), .int .i64 0, .int .i64 Nz] 33)
    rw [World.size_alloc, World.size_alloc] at this; exact this
  have HM : Hid (NtAt w W w.heap.size (w.heap.size + 1) (w.heap.size + 2) L T ⟨2, (A : Nat), 0, Nz⟩) := hideIt ⟨⟨⟨al, cl, blk_cell k1 rfl, h1.after aW⟩, ⟨at2, ct, blk_cell k2 rfl, h2.after aW⟩, hs⟩, aW, blk_cell k3 rfl, blk_cell k3 rfl, blk_cell k3 rfl, blk_cell k3 rfl, hl.on aW⟩
  have p0 := blk_cell k3 (i := 0) rfl
  have p1 := blk_cell k3 (i := 1) rfl
  have p2 := blk_cell k3 (i := 2) rfl
  have p3 := blk_cell k3 (i := 3) rfl
  have hlt := blk_lt k3
  obtain ⟨b1, hb1⟩ : ∃ b, b = w.heap.size := ⟨_, rfl⟩
  obtain ⟨b2, hb2⟩ : ∃ b, b = w.heap.size + 1 := ⟨_, rfl⟩
  obtain ⟨b3, hb3⟩ : ∃ b, b = w.heap.size + 2 := ⟨_, rfl⟩
  rw [← hb3] at p0 p1 p2 p3 hlt
  rw [← hb3, ← hb2, ← hb1] at HM
  clear aW k1 k2 k3 h1 h2 hs hl
  go_enter Tryz.func43, Tryz.ntmps43
  go_wp2_with fail
  rw [← hb3, ← hb2, ← hb1, ← hW]
  clear hW hb1 hb2 hb3
  refine (word_any 2 _).mono ?_
  rintro e w1 ⟨rfl, rfl⟩
  go_upto_region 8 with fail
  refine region_slotsG (by kernel_rfl) [22, 23, 24, 25, 26, 27, 28, 29, 30, 6] [isV (.pointer (some ⟨b3, 1, none⟩)), isV (.int .i64 ((A : Nat) : Int)), isV (.string (S (chanW A))), isV (.string (S (wordOf 2))), isV (.pointer (some ⟨b3, 3, none⟩)), isV (.int .i64 Nz), isV (.string (S (L1.textL Nz))), isSt [(chanW A), (wordOf 2), (L1.textL Nz)], isV (.string (S (jn [(chanW A), (wordOf 2), (L1.textL Nz)]))), isV (.string (S (jn [(chanW A), (wordOf 2), (L1.textL Nz)])))] 10 rfl rfl (stable_all (st_cons (isV_st _) (st_cons (isV_st _) (st_cons (isV_st _) (st_cons (isV_st _) (st_cons (isV_st _) (st_cons (isV_st _) (st_cons (isV_st _) (st_cons (isSt_st _) (st_cons (isV_st _) (st_cons (isV_st _) (st_nil)))))))))))) rfl rfl ?_ ?_
  · exact ⟨⟨rfl, rfl, .inl ⟨(.inl rfl), fun a W9 K hd hb aw hk => wp_field rfl (show a.eval (.tmp 5) = Ptr b3 from hb 5 rfl) (fieldN _ _ (by omega) _) (hk _ _ rfl After.rfl)⟩⟩,
      ⟨rfl, rfl, .inl ⟨(.inl rfl), fun a W9 K hd hb aw hk => wp_load rfl (hd 0 rfl) (loadInt (HM.out.after aw).c1) (hk _ _ rfl After.rfl)⟩⟩,
      ⟨rfl, rfl, .inl ⟨(.inl rfl), fun a W9 K hd hb aw hk => wp_func1 rfl enterC (hd 1 rfl) ((chanText_any A (by omega) _).mono (fun _ _ ⟨he, hA⟩ => ⟨_, he, hk _ _ rfl (by rw [hA]; exact After.rfl)⟩))⟩⟩,
      ⟨rfl, rfl, .inl ⟨(.inl rfl), fun a W9 K hd hb aw hk => wp_move (.inl rfl) (show a.eval (.tmp 8) = .string (S (wordOf 2)) from hb 8 rfl) (hk _ _ rfl After.rfl)⟩⟩,
      ⟨rfl, rfl, .inl ⟨(.inl rfl), fun a W9 K hd hb aw hk => wp_field rfl (show a.eval (.tmp 5) = Ptr b3 from hb 5 rfl) (fieldN _ _ (by omega) _) (hk _ _ rfl After.rfl)⟩⟩,
      ⟨rfl, rfl, .inl ⟨(.inl rfl), fun a W9 K hd hb aw hk => wp_load rfl (hd 4 rfl) (loadInt (HM.out.after aw).c3) (hk _ _ rfl After.rfl)⟩⟩,
      ⟨rfl, rfl, .inl ⟨(.inl rfl), fun a W9 K hd hb aw hk => wp_func1 rfl enterT (hd 5 rfl) ((textS _ _ (HM.out.after aw).laid).mono (fun _ _ ⟨he, hA⟩ => ⟨_, he, hk _ _ rfl hA⟩))⟩⟩,
      ⟨rfl, rfl, .inl ⟨(.inl rfl), fun a W9 K hd hb aw hk => by
      obtain ⟨v, w9, h1, h2, h3⟩ := stOf3 ((chanW A)) ((wordOf 2)) ((L1.textL Nz)) W9
      exact wp_slice3 rfl (hd 2 rfl) (hd 3 rfl) (hd 6 rfl) h1 (hk _ _ h2 h3)⟩⟩,
      ⟨rfl, rfl, .inl ⟨(.inl rfl), fun a W9 K hd hb aw hk => by
      obtain hv := hd 7 rfl
      exact wp_func1 rfl enterW rfl ((words_any _ _ _ hv (by simp) (by simp) (HJ.out)).mono (fun _ _ ⟨he, hA⟩ => ⟨_, he, hk _ _ rfl hA⟩))⟩⟩,
      ⟨rfl, rfl, .inl ⟨(.inl rfl), fun a W9 K hd hb aw hk => wp_move (.inr rfl) (hd 8 rfl) (hk _ _ rfl After.rfl)⟩⟩,
      trivial⟩
  intro x9 w9 hx9 aw9
  have t0 : x9 0 = .pointer (some ⟨b3, 1, none⟩) := hx9 0 (Nat.le_of_ble_eq_true rfl)
  have t1 : x9 1 = .int .i64 ((A : Nat) : Int) := hx9 1 (Nat.le_of_ble_eq_true rfl)
  have t2 : x9 2 = .string (S (chanW A)) := hx9 2 (Nat.le_of_ble_eq_true rfl)
  have t3 : x9 3 = .string (S (wordOf 2)) := hx9 3 (Nat.le_of_ble_eq_true rfl)
  have t4 : x9 4 = .pointer (some ⟨b3, 3, none⟩) := hx9 4 (Nat.le_of_ble_eq_true rfl)
  have t5 : x9 5 = .int .i64 Nz := hx9 5 (Nat.le_of_ble_eq_true rfl)
  have t6 : x9 6 = .string (S (L1.textL Nz)) := hx9 6 (Nat.le_of_ble_eq_true rfl)
  have t8 : x9 8 = .string (S (jn [(chanW A), (wordOf 2), (L1.textL Nz)])) := hx9 8 (Nat.le_of_ble_eq_true rfl)
  have t9 : x9 9 = .string (S (jn [(chanW A), (wordOf 2), (L1.textL Nz)])) := hx9 9 (Nat.le_of_ble_eq_true rfl)
  simp only [sets, List.getD_cons_succ, List.getD_cons_zero, List.set_cons_succ, List.set_cons_zero, t0, t1, t2, t3, t4, t5, t6, t8, t9]
  clear hx9 t0 t1 t2 t3 t4 t5 t6 t8 t9
  generalize x9 7 = y7
  clear x9
  have HW9 := hideIt aw9
  clear aw9
  go_wp2
  go_ret
  exact ⟨rfl, HM.out.aft.trans HW9.out⟩
set_option maxHeartbeats 1000000 in
theorem node_3 {L : List Nd} {T : List W8} (w : World) (hl : Laid w) (al at2 : Option Addr) (cl ct : Nat) (h1 : NRow w al L.length L) (h2 : GRow strE w at2 T.length T) (hs : ∀ t ∈ T, t.length ≤ 1025) (A : Nat) (hA : A < 8) :
    Calls Tryz.prog 43 #[.slice al L.length cl, .slice at2 T.length ct, (Nd.mk 3 ((A : Nat)) 0 0).val] w fun e w' => e = .returned (.string (S (nodeT L T ⟨3, (A : Nat), 0, 0⟩))) ∧ After w w' := by
  unfold Nd.val
  have hmf : ∀ (fn : Fn) (first cap : Array Value) (w : World), (Instr.makeFunc fn first cap).run Tryz.prog w = .ok (.func fn first cap) w := fun _ _ _ _ => rfl
  have eN : nodeT L T ⟨3, (A : Nat), 0, 0⟩ = jn [chanW A, wordOf 3] := by
    rw [jn2]
    rfl
  have HJ : Hid ((jn [chanW A, wordOf 3]).length ≤ 100000) := hideIt (by
    rw [jn2]
    have := chanW_len A; have := wordOf_len 3
    simp only [List.length_append, List.length_cons]
    omega)
  rw [eN]
  clear eN
  obtain ⟨W, hW⟩ : ∃ W, W = ((w.alloc (.cells #[.slice al L.length cl] 22)).alloc (.cells #[.slice at2 T.length ct] 51)).alloc (.cells #[.int .i64 3, .int .i64 (A : Int), .int .i64 0, .int .i64 0] 33) := ⟨_, rfl⟩
  have aW : After w W := by rw [hW]; exact ((After.rfl.alloc _).alloc _).alloc _
  have k1 : W.heap[w.heap.size]? = some (.cells #[.slice al L.length cl] 22 (0, 0)) := by
    rw [hW, Below.heap_alloc _ _ _ (by simp; omega), Below.heap_alloc _ _ _ (by simp)]; exact heap_alloc_new w _
  have k2 : W.heap[w.heap.size + 1]? = some (.cells #[.slice at2 T.length ct] 51 (0, 0)) := by
    rw [hW, Below.heap_alloc _ _ _ (by simp)]
    have := heap_alloc_new (w.alloc (.cells #[.slice al L.length cl] 22)) (.cells #[.slice at2 T.length ct] 51)
    rw [World.size_alloc] at this; exact this
  have k3 : W.heap[w.heap.size + 2]? = some (.cells #[.int .i64 3, .int .i64 (A : Int), .int .i64 0, .int .i64 0] 33 (0, 0)) := by
    rw [hW]
    have := heap_alloc_new ((w.alloc (.cells #[.slice al L.length cl] 22)).alloc (.cells #[.slice at2 T.length ct] 51)) (.cells #[.int .i64 3, .int .i64 (A : Int), .int .i64 0, .int .i64 0] 33)
    rw [World.size_alloc, World.size_alloc] at this; exact this
  have HM : Hid (NtAt w W w.heap.size (w.heap.size + 1) (w.heap.size + 2) L T ⟨3, (A : Nat), 0, 0⟩) := hideIt ⟨⟨⟨al, cl, blk_cell k1 rfl, h1.after aW⟩, ⟨at2, ct, blk_cell k2 rfl, h2.after aW⟩, hs⟩, aW, blk_cell k3 rfl, blk_cell k3 rfl, blk_cell k3 rfl, blk_cell k3 rfl, hl.on aW⟩
  have p0 := blk_cell k3 (i := 0) rfl
  have p1 := blk_cell k3 (i := 1) rfl
  have p2 := blk_cell k3 (i := 2) rfl
  have p3 := blk_cell k3 (i := 3) rfl
  have hlt := blk_lt k3
  obtain ⟨b1, hb1⟩ : ∃ b, b = w.heap.size := ⟨_, rfl⟩
  obtain ⟨b2, hb2⟩ : ∃ b, b = w.heap.size + 1 := ⟨_, rfl⟩
  obtain ⟨b3, hb3⟩ : ∃ b, b = w.heap.size + 2 := ⟨_, rfl⟩
  rw [← hb3] at p0 p1 p2 p3 hlt
  rw [← hb3, ← hb2, ← hb1] at HM
  clear aW k1 k2 k3 h1 h2 hs hl
  go_enter Tryz.func43, Tryz.ntmps43
  go_wp2_with fail
  rw [← hb3, ← hb2, ← hb1, ← hW]
  clear hW hb1 hb2 hb3
  refine (word_any 3 _).mono ?_
  rintro e w1 ⟨rfl, rfl⟩
  go_wp2_with fail
  refine (chanText_any A (by omega) _).mono ?_
  rintro e w2 ⟨rfl, rfl⟩
  go_wp2_with fail
  refine (words_any [chanW A, wordOf 3] _ _ ⟨_, rfl, lit_row (heap_alloc_new w2 _) rfl rfl⟩ (by simp) (by simp) HJ.out).mono ?_
  rintro e w3 ⟨rfl, a3⟩
  have HA3 := hideIt ((After.rfl.alloc _).trans a3)
  clear a3
  go_wp2
  go_ret
  exact ⟨rfl, HM.out.aft.trans HA3.out⟩
set_option maxHeartbeats 1000000 in
theorem node_4 {L : List Nd} {T : List W8} (w : World) (hl : Laid w) (al at2 : Option Addr) (cl ct : Nat) (h1 : NRow w al L.length L) (h2 : GRow strE w at2 T.length T) (hs : ∀ t ∈ T, t.length ≤ 1025) (A : Nat) (hA : A < 8) :
    Calls Tryz.prog 43 #[.slice al L.length cl, .slice at2 T.length ct, (Nd.mk 4 ((A : Nat)) 0 0).val] w fun e w' => e = .returned (.string (S (nodeT L T ⟨4, (A : Nat), 0, 0⟩))) ∧ After w w' := by
  unfold Nd.val
  have hmf : ∀ (fn : Fn) (first cap : Array Value) (w : World), (Instr.makeFunc fn first cap).run Tryz.prog w = .ok (.func fn first cap) w := fun _ _ _ _ => rfl
  have eN : nodeT L T ⟨4, (A : Nat), 0, 0⟩ = jn [chanW A, wordOf 4] := by
    rw [jn2]
    rfl
  have HJ : Hid ((jn [chanW A, wordOf 4]).length ≤ 100000) := hideIt (by
    rw [jn2]
    have := chanW_len A; have := wordOf_len 4
    simp only [List.length_append, List.length_cons]
    omega)
  rw [eN]
  clear eN
  obtain ⟨W, hW⟩ : ∃ W, W = ((w.alloc (.cells #[.slice al L.length cl] 22)).alloc (.cells #[.slice at2 T.length ct] 51)).alloc (.cells #[.int .i64 4, .int .i64 (A : Int), .int .i64 0, .int .i64 0] 33) := ⟨_, rfl⟩
  have aW : After w W := by rw [hW]; exact ((After.rfl.alloc _).alloc _).alloc _
  have k1 : W.heap[w.heap.size]? = some (.cells #[.slice al L.length cl] 22 (0, 0)) := by
    rw [hW, Below.heap_alloc _ _ _ (by simp; omega), Below.heap_alloc _ _ _ (by simp)]; exact heap_alloc_new w _
  have k2 : W.heap[w.heap.size + 1]? = some (.cells #[.slice at2 T.length ct] 51 (0, 0)) := by
    rw [hW, Below.heap_alloc _ _ _ (by simp)]
    have := heap_alloc_new (w.alloc (.cells #[.slice al L.length cl] 22)) (.cells #[.slice at2 T.length ct] 51)
    rw [World.size_alloc] at this; exact this
  have k3 : W.heap[w.heap.size + 2]? = some (.cells #[.int .i64 4, .int .i64 (A : Int), .int .i64 0, .int .i64 0] 33 (0, 0)) := by
    rw [hW]
    have := heap_alloc_new ((w.alloc (.cells #[.slice al L.length cl] 22)).alloc (.cells #[.slice at2 T.length ct] 51)) (.cells #[.int .i64 4, .int .i64 (A : Int), .int .i64 0, .int .i64 0] 33)
    rw [World.size_alloc, World.size_alloc] at this; exact this
  have HM : Hid (NtAt w W w.heap.size (w.heap.size + 1) (w.heap.size + 2) L T ⟨4, (A : Nat), 0, 0⟩) := hideIt ⟨⟨⟨al, cl, blk_cell k1 rfl, h1.after aW⟩, ⟨at2, ct, blk_cell k2 rfl, h2.after aW⟩, hs⟩, aW, blk_cell k3 rfl, blk_cell k3 rfl, blk_cell k3 rfl, blk_cell k3 rfl, hl.on aW⟩
  have p0 := blk_cell k3 (i := 0) rfl
  have p1 := blk_cell k3 (i := 1) rfl
  have p2 := blk_cell k3 (i := 2) rfl
  have p3 := blk_cell k3 (i := 3) rfl
  have hlt := blk_lt k3
  obtain ⟨b1, hb1⟩ : ∃ b, b = w.heap.size := ⟨_, rfl⟩
  obtain ⟨b2, hb2⟩ : ∃ b, b = w.heap.size + 1 := ⟨_, rfl⟩
  obtain ⟨b3, hb3⟩ : ∃ b, b = w.heap.size + 2 := ⟨_, rfl⟩
  rw [← hb3] at p0 p1 p2 p3 hlt
  rw [← hb3, ← hb2, ← hb1] at HM
  clear aW k1 k2 k3 h1 h2 hs hl
  go_enter Tryz.func43, Tryz.ntmps43
  go_wp2_with fail
  rw [← hb3, ← hb2, ← hb1, ← hW]
  clear hW hb1 hb2 hb3
  refine (word_any 4 _).mono ?_
  rintro e w1 ⟨rfl, rfl⟩
  go_wp2_with fail
  refine (chanText_any A (by omega) _).mono ?_
  rintro e w2 ⟨rfl, rfl⟩
  go_wp2_with fail
  refine (words_any [chanW A, wordOf 4] _ _ ⟨_, rfl, lit_row (heap_alloc_new w2 _) rfl rfl⟩ (by simp) (by simp) HJ.out).mono ?_
  rintro e w3 ⟨rfl, a3⟩
  have HA3 := hideIt ((After.rfl.alloc _).trans a3)
  clear a3
  go_wp2
  go_ret
  exact ⟨rfl, HM.out.aft.trans HA3.out⟩
set_option maxHeartbeats 1000000 in
theorem node_5 {L : List Nd} {T : List W8} (w : World) (hl : Laid w) (al at2 : Option Addr) (cl ct : Nat) (h1 : NRow w al L.length L) (h2 : GRow strE w at2 T.length T) (hs : ∀ t ∈ T, t.length ≤ 1025) (A : Nat) (hA : A < 8) :
    Calls Tryz.prog 43 #[.slice al L.length cl, .slice at2 T.length ct, (Nd.mk 5 ((A : Nat)) 0 0).val] w fun e w' => e = .returned (.string (S (nodeT L T ⟨5, (A : Nat), 0, 0⟩))) ∧ After w w' := by
  unfold Nd.val
  have hmf : ∀ (fn : Fn) (first cap : Array Value) (w : World), (Instr.makeFunc fn first cap).run Tryz.prog w = .ok (.func fn first cap) w := fun _ _ _ _ => rfl
  have eN : nodeT L T ⟨5, (A : Nat), 0, 0⟩ = jn [chanW A, wordOf 5] := by
    rw [jn2]
    rfl
  have HJ : Hid ((jn [chanW A, wordOf 5]).length ≤ 100000) := hideIt (by
    rw [jn2]
    have := chanW_len A; have := wordOf_len 5
    simp only [List.length_append, List.length_cons]
    omega)
  rw [eN]
  clear eN
  obtain ⟨W, hW⟩ : ∃ W, W = ((w.alloc (.cells #[.slice al L.length cl] 22)).alloc (.cells #[.slice at2 T.length ct] 51)).alloc (.cells #[.int .i64 5, .int .i64 (A : Int), .int .i64 0, .int .i64 0] 33) := ⟨_, rfl⟩
  have aW : After w W := by rw [hW]; exact ((After.rfl.alloc _).alloc _).alloc _
  have k1 : W.heap[w.heap.size]? = some (.cells #[.slice al L.length cl] 22 (0, 0)) := by
    rw [hW, Below.heap_alloc _ _ _ (by simp; omega), Below.heap_alloc _ _ _ (by simp)]; exact heap_alloc_new w _
  have k2 : W.heap[w.heap.size + 1]? = some (.cells #[.slice at2 T.length ct] 51 (0, 0)) := by
    rw [hW, Below.heap_alloc _ _ _ (by simp)]
    have := heap_alloc_new (w.alloc (.cells #[.slice al L.length cl] 22)) (.cells #[.slice at2 T.length ct] 51)
    rw [World.size_alloc] at this; exact this
  have k3 : W.heap[w.heap.size + 2]? = some (.cells #[.int .i64 5, .int .i64 (A : Int), .int .i64 0, .int .i64 0] 33 (0, 0)) := by
    rw [hW]
    have := heap_alloc_new ((w.alloc (.cells #[.slice al L.length cl] 22)).alloc (.cells #[.slice at2 T.length ct] 51)) (.cells #[.int .i64 5, .int .i64 (A : Int), .int .i64 0, .int .i64 0] 33)
    rw [World.size_alloc, World.size_alloc] at this; exact this
  have HM : Hid (NtAt w W w.heap.size (w.heap.size + 1) (w.heap.size + 2) L T ⟨5, (A : Nat), 0, 0⟩) := hideIt ⟨⟨⟨al, cl, blk_cell k1 rfl, h1.after aW⟩, ⟨at2, ct, blk_cell k2 rfl, h2.after aW⟩, hs⟩, aW, blk_cell k3 rfl, blk_cell k3 rfl, blk_cell k3 rfl, blk_cell k3 rfl, hl.on aW⟩
  have p0 := blk_cell k3 (i := 0) rfl
  have p1 := blk_cell k3 (i := 1) rfl
  have p2 := blk_cell k3 (i := 2) rfl
  have p3 := blk_cell k3 (i := 3) rfl
  have hlt := blk_lt k3
  obtain ⟨b1, hb1⟩ : ∃ b, b = w.heap.size := ⟨_, rfl⟩
  obtain ⟨b2, hb2⟩ : ∃ b, b = w.heap.size + 1 := ⟨_, rfl⟩
  obtain ⟨b3, hb3⟩ : ∃ b, b = w.heap.size + 2 := ⟨_, rfl⟩
  rw [← hb3] at p0 p1 p2 p3 hlt
  rw [← hb3, ← hb2, ← hb1] at HM
  clear aW k1 k2 k3 h1 h2 hs hl
  go_enter Tryz.func43, Tryz.ntmps43
  go_wp2_with fail
  rw [← hb3, ← hb2, ← hb1, ← hW]
  clear hW hb1 hb2 hb3
  refine (word_any 5 _).mono ?_
  rintro e w1 ⟨rfl, rfl⟩
  go_wp2_with fail
  refine (chanText_any A (by omega) _).mono ?_
  rintro e w2 ⟨rfl, rfl⟩
  go_wp2_with fail
  refine (words_any [chanW A, wordOf 5] _ _ ⟨_, rfl, lit_row (heap_alloc_new w2 _) rfl rfl⟩ (by simp) (by simp) HJ.out).mono ?_
  rintro e w3 ⟨rfl, a3⟩
  have HA3 := hideIt ((After.rfl.alloc _).trans a3)
  clear a3
  go_wp2
  go_ret
  exact ⟨rfl, HM.out.aft.trans HA3.out⟩
set_option maxHeartbeats 1000000 in
theorem node_6 {L : List Nd} {T : List W8} (w : World) (hl : Laid w) (al at2 : Option Addr) (cl ct : Nat) (h1 : NRow w al L.length L) (h2 : GRow strE w at2 T.length T) (hs : ∀ t ∈ T, t.length ≤ 1025) (A : Nat) (hA : A < T.length) (hA2 : A < L.length) :
    Calls Tryz.prog 43 #[.slice al L.length cl, .slice at2 T.length ct, (Nd.mk 6 ((A : Nat)) 0 0).val] w fun e w' => e = .returned (.string (S (nodeT L T ⟨6, (A : Nat), 0, 0⟩))) ∧ After w w' := by
  unfold Nd.val
  have hmf : ∀ (fn : Fn) (first cap : Array Value) (w : World), (Instr.makeFunc fn first cap).run Tryz.prog w = .ok (.func fn first cap) w := fun _ _ _ _ => rfl
  have eN : nodeT L T ⟨6, (A : Nat), 0, 0⟩ = jn [wordOf 6, parT L T ((A : Nat) : Int) 3] := by
    rw [jn2]
    rfl
  have HJ : Hid ((jn [wordOf 6, parT L T ((A : Nat) : Int) 3]).length ≤ 100000) := hideIt (by
    rw [jn2]
    have := parT_short hs L A 3; have := wordOf_len 6
    simp only [List.length_append, List.length_cons]
    omega)
  rw [eN]
  clear eN
  obtain ⟨W, hW⟩ : ∃ W, W = ((w.alloc (.cells #[.slice al L.length cl] 22)).alloc (.cells #[.slice at2 T.length ct] 51)).alloc (.cells #[.int .i64 6, .int .i64 (A : Int), .int .i64 0, .int .i64 0] 33) := ⟨_, rfl⟩
  have aW : After w W := by rw [hW]; exact ((After.rfl.alloc _).alloc _).alloc _
  have k1 : W.heap[w.heap.size]? = some (.cells #[.slice al L.length cl] 22 (0, 0)) := by
    rw [hW, Below.heap_alloc _ _ _ (by simp; omega), Below.heap_alloc _ _ _ (by simp)]; exact heap_alloc_new w _
  have k2 : W.heap[w.heap.size + 1]? = some (.cells #[.slice at2 T.length ct] 51 (0, 0)) := by
    rw [hW, Below.heap_alloc _ _ _ (by simp)]
    have := heap_alloc_new (w.alloc (.cells #[.slice al L.length cl] 22)) (.cells #[.slice at2 T.length ct] 51)
    rw [World.size_alloc] at this; exact this
  have k3 : W.heap[w.heap.size + 2]? = some (.cells #[.int .i64 6, .int .i64 (A : Int), .int .i64 0, .int .i64 0] 33 (0, 0)) := by
    rw [hW]
    have := heap_alloc_new ((w.alloc (.cells #[.slice al L.length cl] 22)).alloc (.cells #[.slice at2 T.length ct] 51)) (.cells #[.int .i64 6, .int .i64 (A : Int), .int .i64 0, .int .i64 0] 33)
    rw [World.size_alloc, World.size_alloc] at this; exact this
  have HM : Hid (NtAt w W w.heap.size (w.heap.size + 1) (w.heap.size + 2) L T ⟨6, (A : Nat), 0, 0⟩) := hideIt ⟨⟨⟨al, cl, blk_cell k1 rfl, h1.after aW⟩, ⟨at2, ct, blk_cell k2 rfl, h2.after aW⟩, hs⟩, aW, blk_cell k3 rfl, blk_cell k3 rfl, blk_cell k3 rfl, blk_cell k3 rfl, hl.on aW⟩
  have p0 := blk_cell k3 (i := 0) rfl
  have p1 := blk_cell k3 (i := 1) rfl
  have p2 := blk_cell k3 (i := 2) rfl
  have p3 := blk_cell k3 (i := 3) rfl
  have hlt := blk_lt k3
  obtain ⟨b1, hb1⟩ : ∃ b, b = w.heap.size := ⟨_, rfl⟩
  obtain ⟨b2, hb2⟩ : ∃ b, b = w.heap.size + 1 := ⟨_, rfl⟩
  obtain ⟨b3, hb3⟩ : ∃ b, b = w.heap.size + 2 := ⟨_, rfl⟩
  rw [← hb3] at p0 p1 p2 p3 hlt
  rw [← hb3, ← hb2, ← hb1] at HM
  clear aW k1 k2 k3 h1 h2 hs hl
  go_enter Tryz.func43, Tryz.ntmps43
  go_wp2_with fail
  rw [← hb3, ← hb2, ← hb1, ← hW]
  clear hW hb1 hb2 hb3
  refine (word_any 6 _).mono ?_
  rintro e w1 ⟨rfl, rfl⟩
  go_wp2_with fail
  refine (partT_any HM.out.sees A 3 (by omega) (by omega)).mono ?_
  rintro e w2 ⟨rfl, a2⟩
  have HA2 := hideIt a2
  clear a2
  go_wp2_with fail
  refine (words_any [wordOf 6, parT L T ((A : Nat) : Int) 3] _ _ ⟨_, rfl, lit_row (heap_alloc_new w2 _) rfl rfl⟩ (by simp) (by simp) HJ.out).mono ?_
  rintro e w3 ⟨rfl, a3⟩
  have HA3 := hideIt (HA2.out.trans ((After.rfl.alloc _).trans a3))
  clear a3
  go_wp2
  go_ret
  exact ⟨rfl, HM.out.aft.trans HA3.out⟩
set_option maxHeartbeats 1000000 in
theorem node_7 {L : List Nd} {T : List W8} (w : World) (hl : Laid w) (al at2 : Option Addr) (cl ct : Nat) (h1 : NRow w al L.length L) (h2 : GRow strE w at2 T.length T) (hs : ∀ t ∈ T, t.length ≤ 1025) (A B : Nat) (hA : A < T.length) (hA2 : A < L.length) (hB : B < T.length) (hB2 : B < L.length) :
    Calls Tryz.prog 43 #[.slice al L.length cl, .slice at2 T.length ct, (Nd.mk 7 ((A : Nat)) ((B : Nat)) 0).val] w fun e w' => e = .returned (.string (S (nodeT L T ⟨7, (A : Nat), (B : Nat), 0⟩))) ∧ After w w' := by
  unfold Nd.val
  have hmf : ∀ (fn : Fn) (first cap : Array Value) (w : World), (Instr.makeFunc fn first cap).run Tryz.prog w = .ok (.func fn first cap) w := fun _ _ _ _ => rfl
  have eN : nodeT L T ⟨7, (A : Nat), (B : Nat), 0⟩ = jn [parT L T ((A : Nat) : Int) 1, wordOf 7, parT L T ((B : Nat) : Int) 2] := by
    rw [jn3]
    rfl
  have HJ : Hid ((jn [parT L T ((A : Nat) : Int) 1, wordOf 7, parT L T ((B : Nat) : Int) 2]).length ≤ 100000) := hideIt (by
    rw [jn3]
    have := parT_short hs L A 1; have := parT_short hs L B 2; have := wordOf_len 7
    simp only [List.length_append, List.length_cons]
    omega)
  rw [eN]
  clear eN
  obtain ⟨W, hW⟩ : ∃ W, W = ((w.alloc (.cells #[.slice al L.length cl] 22)).alloc (.cells #[.slice at2 T.length ct] 51)).alloc (.cells #[.int .i64 7, .int .i64 (A : Int), .int .i64 (B : Int), .int .i64 0] 33) := ⟨_, rfl⟩
  have aW : After w W := by rw [hW]; exact ((After.rfl.alloc _).alloc _).alloc _
  have k1 : W.heap[w.heap.size]? = some (.cells #[.slice al L.length cl] 22 (0, 0)) := by
    rw [hW, Below.heap_alloc _ _ _ (by simp; omega), Below.heap_alloc _ _ _ (by simp)]; exact heap_alloc_new w _
  have k2 : W.heap[w.heap.size + 1]? = some (.cells #[.slice at2 T.length ct] 51 (0, 0)) := by
    rw [hW, Below.heap_alloc _ _ _ (by simp)]
    have := heap_alloc_new (w.alloc (.cells #[.slice al L.length cl] 22)) (.cells #[.slice at2 T.length ct] 51)
    rw [World.size_alloc] at this; exact this
  have k3 : W.heap[w.heap.size + 2]? = some (.cells #[.int .i64 7, .int .i64 (A : Int), .int .i64 (B : Int), .int .i64 0] 33 (0, 0)) := by
    rw [hW]
    have := heap_alloc_new ((w.alloc (.cells #[.slice al L.length cl] 22)).alloc (.cells #[.slice at2 T.length ct] 51)) (.cells #[.int .i64 7, .int .i64 (A : Int), .int .i64 (B : Int), .int .i64 0] 33)
    rw [World.size_alloc, World.size_alloc] at this; exact this
  have HM : Hid (NtAt w W w.heap.size (w.heap.size + 1) (w.heap.size + 2) L T ⟨7, (A : Nat), (B : Nat), 0⟩) := hideIt ⟨⟨⟨al, cl, blk_cell k1 rfl, h1.after aW⟩, ⟨at2, ct, blk_cell k2 rfl, h2.after aW⟩, hs⟩, aW, blk_cell k3 rfl, blk_cell k3 rfl, blk_cell k3 rfl, blk_cell k3 rfl, hl.on aW⟩
  have p0 := blk_cell k3 (i := 0) rfl
  have p1 := blk_cell k3 (i := 1) rfl
  have p2 := blk_cell k3 (i := 2) rfl
  have p3 := blk_cell k3 (i := 3) rfl
  have hlt := blk_lt k3
  obtain ⟨b1, hb1⟩ : ∃ b, b = w.heap.size := ⟨_, rfl⟩
  obtain ⟨b2, hb2⟩ : ∃ b, b = w.heap.size + 1 := ⟨_, rfl⟩
  obtain ⟨b3, hb3⟩ : ∃ b, b = w.heap.size + 2 := ⟨_, rfl⟩
  rw [← hb3] at p0 p1 p2 p3 hlt
  rw [← hb3, ← hb2, ← hb1] at HM
  clear aW k1 k2 k3 h1 h2 hs hl
  go_enter Tryz.func43, Tryz.ntmps43
  go_wp2_with fail
  rw [← hb3, ← hb2, ← hb1, ← hW]
  clear hW hb1 hb2 hb3
  refine (word_any 7 _).mono ?_
  rintro e w1 ⟨rfl, rfl⟩
  go_wp2_with fail
  refine (step_any 7 _).mono ?_
  rintro e w2 ⟨rfl, rfl⟩
  go_upto_region 22 with fail
  refine region_slotsG (by kernel_rfl) [80, 81, 82, 83, 84, 85, 86, 87, 88, 89, 90, 91, 92, 93, 6] [isV (.func (.func 62) #[] #[Ptr b1, Ptr b2]), isV (.pointer (some ⟨b3, 1, none⟩)), isV (.int .i64 ((A : Nat) : Int)), isV (.int .i64 ((1 : Nat) : Int)), isV (.string (S (parT L T ((A : Nat) : Int) 1))), isV (.string (S (wordOf 7))), isV (.func (.func 62) #[] #[Ptr b1, Ptr b2]), isV (.pointer (some ⟨b3, 2, none⟩)), isV (.int .i64 ((B : Nat) : Int)), isV (.int .i64 ((1 : Nat) : Int)), isV (.int .i64 ((1 + 1 : Nat) : Int)), isV (.string (S (parT L T ((B : Nat) : Int) 2))), isSt [(parT L T ((A : Nat) : Int) 1), (wordOf 7), (parT L T ((B : Nat) : Int) 2)], isV (.string (S (jn [(parT L T ((A : Nat) : Int) 1), (wordOf 7), (parT L T ((B : Nat) : Int) 2)]))), isV (.string (S (jn [(parT L T ((A : Nat) : Int) 1), (wordOf 7), (parT L T ((B : Nat) : Int) 2)])))] 15 rfl rfl (stable_all (st_cons (isV_st _) (st_cons (isV_st _) (st_cons (isV_st _) (st_cons (isV_st _) (st_cons (isV_st _) (st_cons (isV_st _) (st_cons (isV_st _) (st_cons (isV_st _) (st_cons (isV_st _) (st_cons (isV_st _) (st_cons (isV_st _) (st_cons (isV_st _) (st_cons (isSt_st _) (st_cons (isV_st _) (st_cons (isV_st _) (st_nil))))))))))))))))) rfl rfl ?_ ?_
  · exact ⟨⟨rfl, rfl, .inl ⟨(.inl rfl), fun a W9 K hd hb aw hk => wp_move (.inl rfl) (show a.eval (.tmp 7) = .func (.func 62) #[] #[Ptr b1, Ptr b2] from hb 7 rfl) (hk _ _ rfl After.rfl)⟩⟩,
      ⟨rfl, rfl, .inl ⟨(.inl rfl), fun a W9 K hd hb aw hk => wp_field rfl (show a.eval (.tmp 5) = Ptr b3 from hb 5 rfl) (fieldN _ _ (by omega) _) (hk _ _ rfl After.rfl)⟩⟩,
      ⟨rfl, rfl, .inl ⟨(.inl rfl), fun a W9 K hd hb aw hk => wp_load rfl (hd 1 rfl) (loadInt (HM.out.after aw).c1) (hk _ _ rfl After.rfl)⟩⟩,
      ⟨rfl, rfl, .inl ⟨(.inl rfl), fun a W9 K hd hb aw hk => wp_move (.inl rfl) (show a.eval (.tmp 9) = .int .i64 ((1 : Nat) : Int) from hb 9 rfl) (hk _ _ rfl After.rfl)⟩⟩,
      ⟨rfl, rfl, .inl ⟨(.inl rfl), fun a W9 K hd hb aw hk => wp_clo2 rfl (hd 0 rfl) enterP (hd 2 rfl) (hd 3 rfl) ((partT_any (HM.out.after aw).sees A 1 (by omega) (by omega)).mono (fun _ _ ⟨he, hA⟩ => ⟨_, he, hk _ _ rfl hA⟩))⟩⟩,
      ⟨rfl, rfl, .inl ⟨(.inl rfl), fun a W9 K hd hb aw hk => wp_move (.inl rfl) (show a.eval (.tmp 8) = .string (S (wordOf 7)) from hb 8 rfl) (hk _ _ rfl After.rfl)⟩⟩,
      ⟨rfl, rfl, .inl ⟨(.inl rfl), fun a W9 K hd hb aw hk => wp_move (.inl rfl) (show a.eval (.tmp 7) = .func (.func 62) #[] #[Ptr b1, Ptr b2] from hb 7 rfl) (hk _ _ rfl After.rfl)⟩⟩,
      ⟨rfl, rfl, .inl ⟨(.inl rfl), fun a W9 K hd hb aw hk => wp_field rfl (show a.eval (.tmp 5) = Ptr b3 from hb 5 rfl) (fieldN _ _ (by omega) _) (hk _ _ rfl After.rfl)⟩⟩,
      ⟨rfl, rfl, .inl ⟨(.inl rfl), fun a W9 K hd hb aw hk => wp_load rfl (hd 7 rfl) (loadInt (HM.out.after aw).c2) (hk _ _ rfl After.rfl)⟩⟩,
      ⟨rfl, rfl, .inl ⟨(.inl rfl), fun a W9 K hd hb aw hk => wp_move (.inl rfl) (show a.eval (.tmp 9) = .int .i64 ((1 : Nat) : Int) from hb 9 rfl) (hk _ _ rfl After.rfl)⟩⟩,
      ⟨rfl, rfl, .inl ⟨(.inl rfl), fun a W9 K hd hb aw hk => wp_bin rfl (hd 9 rfl) rfl (addL (by omega) _ _ _) (hk _ _ rfl After.rfl)⟩⟩,
      ⟨rfl, rfl, .inl ⟨(.inl rfl), fun a W9 K hd hb aw hk => wp_clo2 rfl (hd 6 rfl) enterP (hd 8 rfl) (hd 10 rfl) ((partT_any (HM.out.after aw).sees B 2 (by omega) (by omega)).mono (fun _ _ ⟨he, hA⟩ => ⟨_, he, hk _ _ rfl hA⟩))⟩⟩,
      ⟨rfl, rfl, .inl ⟨(.inl rfl), fun a W9 K hd hb aw hk => by
      obtain ⟨v, w9, h1, h2, h3⟩ := stOf3 ((parT L T ((A : Nat) : Int) 1)) ((wordOf 7)) ((parT L T ((B : Nat) : Int) 2)) W9
      exact wp_slice3 rfl (hd 4 rfl) (hd 5 rfl) (hd 11 rfl) h1 (hk _ _ h2 h3)⟩⟩,
      ⟨rfl, rfl, .inl ⟨(.inl rfl), fun a W9 K hd hb aw hk => by
      obtain hv := hd 12 rfl
      exact wp_func1 rfl enterW rfl ((words_any _ _ _ hv (by simp) (by simp) (HJ.out)).mono (fun _ _ ⟨he, hA⟩ => ⟨_, he, hk _ _ rfl hA⟩))⟩⟩,
      ⟨rfl, rfl, .inl ⟨(.inl rfl), fun a W9 K hd hb aw hk => wp_move (.inr rfl) (hd 13 rfl) (hk _ _ rfl After.rfl)⟩⟩,
      trivial⟩
  intro x9 w9 hx9 aw9
  have t0 : x9 0 = .func (.func 62) #[] #[Ptr b1, Ptr b2] := hx9 0 (Nat.le_of_ble_eq_true rfl)
  have t1 : x9 1 = .pointer (some ⟨b3, 1, none⟩) := hx9 1 (Nat.le_of_ble_eq_true rfl)
  have t2 : x9 2 = .int .i64 ((A : Nat) : Int) := hx9 2 (Nat.le_of_ble_eq_true rfl)
  have t3 : x9 3 = .int .i64 ((1 : Nat) : Int) := hx9 3 (Nat.le_of_ble_eq_true rfl)
  have t4 : x9 4 = .string (S (parT L T ((A : Nat) : Int) 1)) := hx9 4 (Nat.le_of_ble_eq_true rfl)
  have t5 : x9 5 = .string (S (wordOf 7)) := hx9 5 (Nat.le_of_ble_eq_true rfl)
  have t6 : x9 6 = .func (.func 62) #[] #[Ptr b1, Ptr b2] := hx9 6 (Nat.le_of_ble_eq_true rfl)
  have t7 : x9 7 = .pointer (some ⟨b3, 2, none⟩) := hx9 7 (Nat.le_of_ble_eq_true rfl)
  have t8 : x9 8 = .int .i64 ((B : Nat) : Int) := hx9 8 (Nat.le_of_ble_eq_true rfl)
  have t9 : x9 9 = .int .i64 ((1 : Nat) : Int) := hx9 9 (Nat.le_of_ble_eq_true rfl)
  have t10 : x9 10 = .int .i64 ((1 + 1 : Nat) : Int) := hx9 10 (Nat.le_of_ble_eq_true rfl)
  have t11 : x9 11 = .string (S (parT L T ((B : Nat) : Int) 2)) := hx9 11 (Nat.le_of_ble_eq_true rfl)
  have t13 : x9 13 = .string (S (jn [(parT L T ((A : Nat) : Int) 1), (wordOf 7), (parT L T ((B : Nat) : Int) 2)])) := hx9 13 (Nat.le_of_ble_eq_true rfl)
  have t14 : x9 14 = .string (S (jn [(parT L T ((A : Nat) : Int) 1), (wordOf 7), (parT L T ((B : Nat) : Int) 2)])) := hx9 14 (Nat.le_of_ble_eq_true rfl)
  simp only [sets, List.getD_cons_succ, List.getD_cons_zero, List.set_cons_succ, List.set_cons_zero, t0, t1, t2, t3, t4, t5, t6, t7, t8, t9, t10, t11, t13, t14]
  clear hx9 t0 t1 t2 t3 t4 t5 t6 t7 t8 t9 t10 t11 t13 t14
  generalize x9 12 = y12
  clear x9
  have HW9 := hideIt aw9
  clear aw9
  go_wp2
  go_ret
  exact ⟨rfl, HM.out.aft.trans HW9.out⟩
set_option maxHeartbeats 1000000 in
theorem node_8 {L : List Nd} {T : List W8} (w : World) (hl : Laid w) (al at2 : Option Addr) (cl ct : Nat) (h1 : NRow w al L.length L) (h2 : GRow strE w at2 T.length T) (hs : ∀ t ∈ T, t.length ≤ 1025) (A B : Nat) (hA : A < T.length) (hA2 : A < L.length) (hB : B < T.length) (hB2 : B < L.length) :
    Calls Tryz.prog 43 #[.slice al L.length cl, .slice at2 T.length ct, (Nd.mk 8 ((A : Nat)) ((B : Nat)) 0).val] w fun e w' => e = .returned (.string (S (nodeT L T ⟨8, (A : Nat), (B : Nat), 0⟩))) ∧ After w w' := by
  unfold Nd.val
  have hmf : ∀ (fn : Fn) (first cap : Array Value) (w : World), (Instr.makeFunc fn first cap).run Tryz.prog w = .ok (.func fn first cap) w := fun _ _ _ _ => rfl
  have eN : nodeT L T ⟨8, (A : Nat), (B : Nat), 0⟩ = jn [parT L T ((A : Nat) : Int) 0, wordOf 8, parT L T ((B : Nat) : Int) 1] := by
    rw [jn3]
    rfl
  have HJ : Hid ((jn [parT L T ((A : Nat) : Int) 0, wordOf 8, parT L T ((B : Nat) : Int) 1]).length ≤ 100000) := hideIt (by
    rw [jn3]
    have := parT_short hs L A 0; have := parT_short hs L B 1; have := wordOf_len 8
    simp only [List.length_append, List.length_cons]
    omega)
  rw [eN]
  clear eN
  obtain ⟨W, hW⟩ : ∃ W, W = ((w.alloc (.cells #[.slice al L.length cl] 22)).alloc (.cells #[.slice at2 T.length ct] 51)).alloc (.cells #[.int .i64 8, .int .i64 (A : Int), .int .i64 (B : Int), .int .i64 0] 33) := ⟨_, rfl⟩
  have aW : After w W := by rw [hW]; exact ((After.rfl.alloc _).alloc _).alloc _
  have k1 : W.heap[w.heap.size]? = some (.cells #[.slice al L.length cl] 22 (0, 0)) := by
    rw [hW, Below.heap_alloc _ _ _ (by simp; omega), Below.heap_alloc _ _ _ (by simp)]; exact heap_alloc_new w _
  have k2 : W.heap[w.heap.size + 1]? = some (.cells #[.slice at2 T.length ct] 51 (0, 0)) := by
    rw [hW, Below.heap_alloc _ _ _ (by simp)]
    have := heap_alloc_new (w.alloc (.cells #[.slice al L.length cl] 22)) (.cells #[.slice at2 T.length ct] 51)
    rw [World.size_alloc] at this; exact this
  have k3 : W.heap[w.heap.size + 2]? = some (.cells #[.int .i64 8, .int .i64 (A : Int), .int .i64 (B : Int), .int .i64 0] 33 (0, 0)) := by
    rw [hW]
    have := heap_alloc_new ((w.alloc (.cells #[.slice al L.length cl] 22)).alloc (.cells #[.slice at2 T.length ct] 51)) (.cells #[.int .i64 8, .int .i64 (A : Int), .int .i64 (B : Int), .int .i64 0] 33)
    rw [World.size_alloc, World.size_alloc] at this; exact this
  have HM : Hid (NtAt w W w.heap.size (w.heap.size + 1) (w.heap.size + 2) L T ⟨8, (A : Nat), (B : Nat), 0⟩) := hideIt ⟨⟨⟨al, cl, blk_cell k1 rfl, h1.after aW⟩, ⟨at2, ct, blk_cell k2 rfl, h2.after aW⟩, hs⟩, aW, blk_cell k3 rfl, blk_cell k3 rfl, blk_cell k3 rfl, blk_cell k3 rfl, hl.on aW⟩
  have p0 := blk_cell k3 (i := 0) rfl
  have p1 := blk_cell k3 (i := 1) rfl
  have p2 := blk_cell k3 (i := 2) rfl
  have p3 := blk_cell k3 (i := 3) rfl
  have hlt := blk_lt k3
  obtain ⟨b1, hb1⟩ : ∃ b, b = w.heap.size := ⟨_, rfl⟩
  obtain ⟨b2, hb2⟩ : ∃ b, b = w.heap.size + 1 := ⟨_, rfl⟩
  obtain ⟨b3, hb3⟩ : ∃ b, b = w.heap.size + 2 := ⟨_, rfl⟩
  rw [← hb3] at p0 p1 p2 p3 hlt
  rw [← hb3, ← hb2, ← hb1] at HM
  clear aW k1 k2 k3 h1 h2 hs hl
  go_enter Tryz.func43, Tryz.ntmps43
  go_wp2_with fail
  rw [← hb3, ← hb2, ← hb1, ← hW]
  clear hW hb1 hb2 hb3
  refine (word_any 8 _).mono ?_
  rintro e w1 ⟨rfl, rfl⟩
  go_wp2_with fail
  refine (step_any 8 _).mono ?_
  rintro e w2 ⟨rfl, rfl⟩
  go_upto_region 22 with fail
  refine region_slotsG (by kernel_rfl) [80, 81, 82, 83, 84, 85, 86, 87, 88, 89, 90, 91, 92, 93, 6] [isV (.func (.func 62) #[] #[Ptr b1, Ptr b2]), isV (.pointer (some ⟨b3, 1, none⟩)), isV (.int .i64 ((A : Nat) : Int)), isV (.int .i64 ((0 : Nat) : Int)), isV (.string (S (parT L T ((A : Nat) : Int) 0))), isV (.string (S (wordOf 8))), isV (.func (.func 62) #[] #[Ptr b1, Ptr b2]), isV (.pointer (some ⟨b3, 2, none⟩)), isV (.int .i64 ((B : Nat) : Int)), isV (.int .i64 ((0 : Nat) : Int)), isV (.int .i64 ((0 + 1 : Nat) : Int)), isV (.string (S (parT L T ((B : Nat) : Int) 1))), isSt [(parT L T ((A : Nat) : Int) 0), (wordOf 8), (parT L T ((B : Nat) : Int) 1)], isV (.string (S (jn [(parT L T ((A : Nat) : Int) 0), (wordOf 8), (parT L T ((B : Nat) : Int) 1)]))), isV (.string (S (jn [(parT L T ((A : Nat) : Int) 0), (wordOf 8), (parT L T ((B : Nat) : Int) 1)])))] 15 rfl rfl (stable_all (st_cons (isV_st _) (st_cons (isV_st _) (st_cons (isV_st _) (st_cons (isV_st _) (st_cons (isV_st _) (st_cons (isV_st _) (st_cons (isV_st _) (st_cons (isV_st _) (st_cons (isV_st _) (st_cons (isV_st _) (st_cons (isV_st _) (st_cons (isV_st _) (st_cons (isSt_st _) (st_cons (isV_st _) (st_cons (isV_st _) (st_nil))))))))))))))))) rfl rfl ?_ ?_
  · exact ⟨⟨rfl, rfl, .inl ⟨(.inl rfl), fun a W9 K hd hb aw hk => wp_move (.inl rfl) (show a.eval (.tmp 7) = .func (.func 62) #[] #[Ptr b1, Ptr b2] from hb 7 rfl) (hk _ _ rfl After.rfl)⟩⟩,
      ⟨rfl, rfl, .inl ⟨(.inl rfl), fun a W9 K hd hb aw hk => wp_field rfl (show a.eval (.tmp 5) = Ptr b3 from hb 5 rfl) (fieldN _ _ (by omega) _) (hk _ _ rfl After.rfl)⟩⟩,
      ⟨rfl, rfl, .inl ⟨(.inl rfl), fun a W9 K hd hb aw hk => wp_load rfl (hd 1 rfl) (loadInt (HM.out.after aw).c1) (hk _ _ rfl After.rfl)⟩⟩,
      ⟨rfl, rfl, .inl ⟨(.inl rfl), fun a W9 K hd hb aw hk => wp_move (.inl rfl) (show a.eval (.tmp 9) = .int .i64 ((0 : Nat) : Int) from hb 9 rfl) (hk _ _ rfl After.rfl)⟩⟩,
      ⟨rfl, rfl, .inl ⟨(.inl rfl), fun a W9 K hd hb aw hk => wp_clo2 rfl (hd 0 rfl) enterP (hd 2 rfl) (hd 3 rfl) ((partT_any (HM.out.after aw).sees A 0 (by omega) (by omega)).mono (fun _ _ ⟨he, hA⟩ => ⟨_, he, hk _ _ rfl hA⟩))⟩⟩,
      ⟨rfl, rfl, .inl ⟨(.inl rfl), fun a W9 K hd hb aw hk => wp_move (.inl rfl) (show a.eval (.tmp 8) = .string (S (wordOf 8)) from hb 8 rfl) (hk _ _ rfl After.rfl)⟩⟩,
      ⟨rfl, rfl, .inl ⟨(.inl rfl), fun a W9 K hd hb aw hk => wp_move (.inl rfl) (show a.eval (.tmp 7) = .func (.func 62) #[] #[Ptr b1, Ptr b2] from hb 7 rfl) (hk _ _ rfl After.rfl)⟩⟩,
      ⟨rfl, rfl, .inl ⟨(.inl rfl), fun a W9 K hd hb aw hk => wp_field rfl (show a.eval (.tmp 5) = Ptr b3 from hb 5 rfl) (fieldN _ _ (by omega) _) (hk _ _ rfl After.rfl)⟩⟩,
      ⟨rfl, rfl, .inl ⟨(.inl rfl), fun a W9 K hd hb aw hk => wp_load rfl (hd 7 rfl) (loadInt (HM.out.after aw).c2) (hk _ _ rfl After.rfl)⟩⟩,
      ⟨rfl, rfl, .inl ⟨(.inl rfl), fun a W9 K hd hb aw hk => wp_move (.inl rfl) (show a.eval (.tmp 9) = .int .i64 ((0 : Nat) : Int) from hb 9 rfl) (hk _ _ rfl After.rfl)⟩⟩,
      ⟨rfl, rfl, .inl ⟨(.inl rfl), fun a W9 K hd hb aw hk => wp_bin rfl (hd 9 rfl) rfl (addL (by omega) _ _ _) (hk _ _ rfl After.rfl)⟩⟩,
      ⟨rfl, rfl, .inl ⟨(.inl rfl), fun a W9 K hd hb aw hk => wp_clo2 rfl (hd 6 rfl) enterP (hd 8 rfl) (hd 10 rfl) ((partT_any (HM.out.after aw).sees B 1 (by omega) (by omega)).mono (fun _ _ ⟨he, hA⟩ => ⟨_, he, hk _ _ rfl hA⟩))⟩⟩,
      ⟨rfl, rfl, .inl ⟨(.inl rfl), fun a W9 K hd hb aw hk => by
      obtain ⟨v, w9, h1, h2, h3⟩ := stOf3 ((parT L T ((A : Nat) : Int) 0)) ((wordOf 8)) ((parT L T ((B : Nat) : Int) 1)) W9
      exact wp_slice3 rfl (hd 4 rfl) (hd 5 rfl) (hd 11 rfl) h1 (hk _ _ h2 h3)⟩⟩,
      ⟨rfl, rfl, .inl ⟨(.inl rfl), fun a W9 K hd hb aw hk => by
      obtain hv := hd 12 rfl
      exact wp_func1 rfl enterW rfl ((words_any _ _ _ hv (by simp) (by simp) (HJ.out)).mono (fun _ _ ⟨he, hA⟩ => ⟨_, he, hk _ _ rfl hA⟩))⟩⟩,
      ⟨rfl, rfl, .inl ⟨(.inl rfl), fun a W9 K hd hb aw hk => wp_move (.inr rfl) (hd 13 rfl) (hk _ _ rfl After.rfl)⟩⟩,
      trivial⟩
  intro x9 w9 hx9 aw9
  have t0 : x9 0 = .func (.func 62) #[] #[Ptr b1, Ptr b2] := hx9 0 (Nat.le_of_ble_eq_true rfl)
  have t1 : x9 1 = .pointer (some ⟨b3, 1, none⟩) := hx9 1 (Nat.le_of_ble_eq_true rfl)
  have t2 : x9 2 = .int .i64 ((A : Nat) : Int) := hx9 2 (Nat.le_of_ble_eq_true rfl)
  have t3 : x9 3 = .int .i64 ((0 : Nat) : Int) := hx9 3 (Nat.le_of_ble_eq_true rfl)
  have t4 : x9 4 = .string (S (parT L T ((A : Nat) : Int) 0)) := hx9 4 (Nat.le_of_ble_eq_true rfl)
  have t5 : x9 5 = .string (S (wordOf 8)) := hx9 5 (Nat.le_of_ble_eq_true rfl)
  have t6 : x9 6 = .func (.func 62) #[] #[Ptr b1, Ptr b2] := hx9 6 (Nat.le_of_ble_eq_true rfl)
  have t7 : x9 7 = .pointer (some ⟨b3, 2, none⟩) := hx9 7 (Nat.le_of_ble_eq_true rfl)
  have t8 : x9 8 = .int .i64 ((B : Nat) : Int) := hx9 8 (Nat.le_of_ble_eq_true rfl)
  have t9 : x9 9 = .int .i64 ((0 : Nat) : Int) := hx9 9 (Nat.le_of_ble_eq_true rfl)
  have t10 : x9 10 = .int .i64 ((0 + 1 : Nat) : Int) := hx9 10 (Nat.le_of_ble_eq_true rfl)
  have t11 : x9 11 = .string (S (parT L T ((B : Nat) : Int) 1)) := hx9 11 (Nat.le_of_ble_eq_true rfl)
  have t13 : x9 13 = .string (S (jn [(parT L T ((A : Nat) : Int) 0), (wordOf 8), (parT L T ((B : Nat) : Int) 1)])) := hx9 13 (Nat.le_of_ble_eq_true rfl)
  have t14 : x9 14 = .string (S (jn [(parT L T ((A : Nat) : Int) 0), (wordOf 8), (parT L T ((B : Nat) : Int) 1)])) := hx9 14 (Nat.le_of_ble_eq_true rfl)
  simp only [sets, List.getD_cons_succ, List.getD_cons_zero, List.set_cons_succ, List.set_cons_zero, t0, t1, t2, t3, t4, t5, t6, t7, t8, t9, t10, t11, t13, t14]
  clear hx9 t0 t1 t2 t3 t4 t5 t6 t7 t8 t9 t10 t11 t13 t14
  generalize x9 12 = y12
  clear x9
  have HW9 := hideIt aw9
  clear aw9
  go_wp2
  go_ret
  exact ⟨rfl, HM.out.aft.trans HW9.out⟩
set_option maxHeartbeats 1000000 in
theorem node_9 {L : List Nd} {T : List W8} (w : World) (hl : Laid w) (al at2 : Option Addr) (cl ct : Nat) (h1 : NRow w al L.length L) (h2 : GRow strE w at2 T.length T) (hs : ∀ t ∈ T, t.length ≤ 1025) (A : Nat) (hA : A < T.length) (hA2 : A < L.length) :
    Calls Tryz.prog 43 #[.slice al L.length cl, .slice at2 T.length ct, (Nd.mk 9 ((A : Nat)) 0 0).val] w fun e w' => e = .returned (.string (S (nodeT L T ⟨9, (A : Nat), 0, 0⟩))) ∧ After w w' := by
  unfold Nd.val
  have hmf : ∀ (fn : Fn) (first cap : Array Value) (w : World), (Instr.makeFunc fn first cap).run Tryz.prog w = .ok (.func fn first cap) w := fun _ _ _ _ => rfl
  have eN : nodeT L T ⟨9, (A : Nat), 0, 0⟩ = jn [wordOf 9, parT L T ((A : Nat) : Int) 3] := by
    rw [jn2]
    rfl
  have HJ : Hid ((jn [wordOf 9, parT L T ((A : Nat) : Int) 3]).length ≤ 100000) := hideIt (by
    rw [jn2]
    have := parT_short hs L A 3; have := wordOf_len 9
    simp only [List.length_append, List.length_cons]
    omega)
  rw [eN]
  clear eN
  obtain ⟨W, hW⟩ : ∃ W, W = ((w.alloc (.cells #[.slice al L.length cl] 22)).alloc (.cells #[.slice at2 T.length ct] 51)).alloc (.cells #[.int .i64 9, .int .i64 (A : Int), .int .i64 0, .int .i64 0] 33) := ⟨_, rfl⟩
  have aW : After w W := by rw [hW]; exact ((After.rfl.alloc _).alloc _).alloc _
  have k1 : W.heap[w.heap.size]? = some (.cells #[.slice al L.length cl] 22 (0, 0)) := by
    rw [hW, Below.heap_alloc _ _ _ (by simp; omega), Below.heap_alloc _ _ _ (by simp)]; exact heap_alloc_new w _
  have k2 : W.heap[w.heap.size + 1]? = some (.cells #[.slice at2 T.length ct] 51 (0, 0)) := by
    rw [hW, Below.heap_alloc _ _ _ (by simp)]
    have := heap_alloc_new (w.alloc (.cells #[.slice al L.length cl] 22)) (.cells #[.slice at2 T.length ct] 51)
    rw [World.size_alloc] at this; exact this
  have k3 : W.heap[w.heap.size + 2]? = some (.cells #[.int .i64 9, .int .i64 (A : Int), .int .i64 0, .int .i64 0] 33 (0, 0)) := by
    rw [hW]
    have := heap_alloc_new ((w.alloc (.cells #[.slice al L.length cl] 22)).alloc (.cells #[.slice at2 T.length ct] 51)) (.cells #[.int .i64 9, .int .i64 (A : Int), .int .i64 0, .int .i64 0] 33)
    rw [World.size_alloc, World.size_alloc] at this; exact this
  have HM : Hid (NtAt w W w.heap.size (w.heap.size + 1) (w.heap.size + 2) L T ⟨9, (A : Nat), 0, 0⟩) := hideIt ⟨⟨⟨al, cl, blk_cell k1 rfl, h1.after aW⟩, ⟨at2, ct, blk_cell k2 rfl, h2.after aW⟩, hs⟩, aW, blk_cell k3 rfl, blk_cell k3 rfl, blk_cell k3 rfl, blk_cell k3 rfl, hl.on aW⟩
  have p0 := blk_cell k3 (i := 0) rfl
  have p1 := blk_cell k3 (i := 1) rfl
  have p2 := blk_cell k3 (i := 2) rfl
  have p3 := blk_cell k3 (i := 3) rfl
  have hlt := blk_lt k3
  obtain ⟨b1, hb1⟩ : ∃ b, b = w.heap.size := ⟨_, rfl⟩
  obtain ⟨b2, hb2⟩ : ∃ b, b = w.heap.size + 1 := ⟨_, rfl⟩
  obtain ⟨b3, hb3⟩ : ∃ b, b = w.heap.size + 2 := ⟨_, rfl⟩
  rw [← hb3] at p0 p1 p2 p3 hlt
  rw [← hb3, ← hb2, ← hb1] at HM
  clear aW k1 k2 k3 h1 h2 hs hl
  go_enter Tryz.func43, Tryz.ntmps43
  go_wp2_with fail
  rw [← hb3, ← hb2, ← hb1, ← hW]
  clear hW hb1 hb2 hb3
  refine (word_any 9 _).mono ?_
  rintro e w1 ⟨rfl, rfl⟩
  go_wp2_with fail
  refine (partT_any HM.out.sees A 3 (by omega) (by omega)).mono ?_
  rintro e w2 ⟨rfl, a2⟩
  have HA2 := hideIt a2
  clear a2
  go_wp2_with fail
  refine (words_any [wordOf 9, parT L T ((A : Nat) : Int) 3] _ _ ⟨_, rfl, lit_row (heap_alloc_new w2 _) rfl rfl⟩ (by simp) (by simp) HJ.out).mono ?_
  rintro e w3 ⟨rfl, a3⟩
  have HA3 := hideIt (HA2.out.trans ((After.rfl.alloc _).trans a3))
  clear a3
  go_wp2
  go_ret
  exact ⟨rfl, HM.out.aft.trans HA3.out⟩
set_option maxHeartbeats 1000000 in
theorem node_10 {L : List Nd} {T : List W8} (w : World) (hl : Laid w) (al at2 : Option Addr) (cl ct : Nat) (h1 : NRow w al L.length L) (h2 : GRow strE w at2 T.length T) (hs : ∀ t ∈ T, t.length ≤ 1025) (A Nn : Nat) (hA : A < T.length) (hA2 : A < L.length) (hN : Nn < 100) :
    Calls Tryz.prog 43 #[.slice al L.length cl, .slice at2 T.length ct, (Nd.mk 10 ((A : Nat)) 0 ((Nn : Nat))).val] w fun e w' => e = .returned (.string (S (nodeT L T ⟨10, (A : Nat), 0, (Nn : Nat)⟩))) ∧ After w w' := by
  unfold Nd.val
  have hmf : ∀ (fn : Fn) (first cap : Array Value) (w : World), (Instr.makeFunc fn first cap).run Tryz.prog w = .ok (.func fn first cap) w := fun _ _ _ _ => rfl
  have eN : nodeT L T ⟨10, (A : Nat), 0, (Nn : Nat)⟩ = jn [wordOf 10, dig Nn, parT L T ((A : Nat) : Int) 3] := by
    rw [jn3]
    rfl
  have HJ : Hid ((jn [wordOf 10, dig Nn, parT L T ((A : Nat) : Int) 3]).length ≤ 100000) := hideIt (by
    rw [jn3]
    have := parT_short hs L A 3; have := wordOf_len 10; have := dig_len Nn
    simp only [List.length_append, List.length_cons]
    omega)
  rw [eN]
  clear eN
  obtain ⟨W, hW⟩ : ∃ W, W = ((w.alloc (.cells #[.slice al L.length cl] 22)).alloc (.cells #[.slice at2 T.length ct] 51)).alloc (.cells #[.int .i64 10, .int .i64 (A : Int), .int .i64 0, .int .i64 (Nn : Int)] 33) := ⟨_, rfl⟩
  have aW : After w W := by rw [hW]; exact ((After.rfl.alloc _).alloc _).alloc _
  have k1 : W.heap[w.heap.size]? = some (.cells #[.slice al L.length cl] 22 (0, 0)) := by
    rw [hW, Below.heap_alloc _ _ _ (by simp; omega), Below.heap_alloc _ _ _ (by simp)]; exact heap_alloc_new w _
  have k2 : W.heap[w.heap.size + 1]? = some (.cells #[.slice at2 T.length ct] 51 (0, 0)) := by
    rw [hW, Below.heap_alloc _ _ _ (by simp)]
    have := heap_alloc_new (w.alloc (.cells #[.slice al L.length cl] 22)) (.cells #[.slice at2 T.length ct] 51)
    rw [World.size_alloc] at this; exact this
  have k3 : W.heap[w.heap.size + 2]? = some (.cells #[.int .i64 10, .int .i64 (A : Int), .int .i64 0, .int .i64 (Nn : Int)] 33 (0, 0)) := by
    rw [hW]
    have := heap_alloc_new ((w.alloc (.cells #[.slice al L.length cl] 22)).alloc (.cells #[.slice at2 T.length ct] 51)) (.cells #[.int .i64 10, .int .i64 (A : Int), .int .i64 0, .int .i64 (Nn : Int)] 33)
    rw [World.size_alloc, World.size_alloc] at this; exact this
  have HM : Hid (NtAt w W w.heap.size (w.heap.size + 1) (w.heap.size + 2) L T ⟨10, (A : Nat), 0, (Nn : Nat)⟩) := hideIt ⟨⟨⟨al, cl, blk_cell k1 rfl, h1.after aW⟩, ⟨at2, ct, blk_cell k2 rfl, h2.after aW⟩, hs⟩, aW, blk_cell k3 rfl, blk_cell k3 rfl, blk_cell k3 rfl, blk_cell k3 rfl, hl.on aW⟩
  have p0 := blk_cell k3 (i := 0) rfl
  have p1 := blk_cell k3 (i := 1) rfl
  have p2 := blk_cell k3 (i := 2) rfl
  have p3 := blk_cell k3 (i := 3) rfl
  have hlt := blk_lt k3
  obtain ⟨b1, hb1⟩ : ∃ b, b = w.heap.size := ⟨_, rfl⟩
  obtain ⟨b2, hb2⟩ : ∃ b, b = w.heap.size + 1 := ⟨_, rfl⟩
  obtain ⟨b3, hb3⟩ : ∃ b, b = w.heap.size + 2 := ⟨_, rfl⟩
  rw [← hb3] at p0 p1 p2 p3 hlt
  rw [← hb3, ← hb2, ← hb1] at HM
  clear aW k1 k2 k3 h1 h2 hs hl
  go_enter Tryz.func43, Tryz.ntmps43
  go_wp2_with fail
  rw [← hb3, ← hb2, ← hb1, ← hW]
  clear hW hb1 hb2 hb3
  refine (word_any 10 _).mono ?_
  rintro e w1 ⟨rfl, rfl⟩
  go_upto_region 18 with fail
  refine region_slotsG (by kernel_rfl) [54, 55, 56, 57, 58, 59, 60, 61, 62, 63, 6] [isV (.string (S (wordOf 10))), isV (.pointer (some ⟨b3, 3, none⟩)), isV (.int .i64 ((Nn : Nat) : Int)), isV (.string (S (dig Nn))), isV (.func (.func 62) #[] #[Ptr b1, Ptr b2]), isV (.pointer (some ⟨b3, 1, none⟩)), isV (.int .i64 ((A : Nat) : Int)), isV (.string (S (parT L T ((A : Nat) : Int) 3))), isSt [(wordOf 10), (dig Nn), (parT L T ((A : Nat) : Int) 3)], isV (.string (S (jn [(wordOf 10), (dig Nn), (parT L T ((A : Nat) : Int) 3)]))), isV (.string (S (jn [(wordOf 10), (dig Nn), (parT L T ((A : Nat) : Int) 3)])))] 11 rfl rfl (stable_all (st_cons (isV_st _) (st_cons (isV_st _) (st_cons (isV_st _) (st_cons (isV_st _) (st_cons (isV_st _) (st_cons (isV_st _) (st_cons (isV_st _) (st_cons (isV_st _) (st_cons (isSt_st _) (st_cons (isV_st _) (st_cons (isV_st _) (st_nil))))))))))))) rfl rfl ?_ ?_
  · exact ⟨⟨rfl, rfl, .inl ⟨(.inl rfl), fun a W9 K hd hb aw hk => wp_move (.inl rfl) (show a.eval (.tmp 8) = .string (S (wordOf 10)) from hb 8 rfl) (hk _ _ rfl After.rfl)⟩⟩,
      ⟨rfl, rfl, .inl ⟨(.inl rfl), fun a W9 K hd hb aw hk => wp_field rfl (show a.eval (.tmp 5) = Ptr b3 from hb 5 rfl) (fieldN _ _ (by omega) _) (hk _ _ rfl After.rfl)⟩⟩,
      ⟨rfl, rfl, .inl ⟨(.inl rfl), fun a W9 K hd hb aw hk => wp_load rfl (hd 1 rfl) (loadInt (HM.out.after aw).c3) (hk _ _ rfl After.rfl)⟩⟩,
      ⟨rfl, rfl, .inl ⟨(.inl rfl), fun a W9 K hd hb aw hk => wp_func1 rfl enterI (hd 2 rfl) ((itoaD Nn (by omega) _).mono (fun _ _ ⟨he, hA⟩ => ⟨_, he, hk _ _ rfl (by rw [hA]; exact After.rfl)⟩))⟩⟩,
      ⟨rfl, rfl, .inl ⟨(.inl rfl), fun a W9 K hd hb aw hk => wp_move (.inl rfl) (show a.eval (.tmp 7) = .func (.func 62) #[] #[Ptr b1, Ptr b2] from hb 7 rfl) (hk _ _ rfl After.rfl)⟩⟩,
      ⟨rfl, rfl, .inl ⟨(.inl rfl), fun a W9 K hd hb aw hk => wp_field rfl (show a.eval (.tmp 5) = Ptr b3 from hb 5 rfl) (fieldN _ _ (by omega) _) (hk _ _ rfl After.rfl)⟩⟩,
      ⟨rfl, rfl, .inl ⟨(.inl rfl), fun a W9 K hd hb aw hk => wp_load rfl (hd 5 rfl) (loadInt (HM.out.after aw).c1) (hk _ _ rfl After.rfl)⟩⟩,
      ⟨rfl, rfl, .inl ⟨(.inl rfl), fun a W9 K hd hb aw hk => wp_clo2 rfl (hd 4 rfl) enterP (hd 6 rfl) rfl ((partT_any (HM.out.after aw).sees A 3 (by omega) (by omega)).mono (fun _ _ ⟨he, hA⟩ => ⟨_, he, hk _ _ rfl hA⟩))⟩⟩,
      ⟨rfl, rfl, .inl ⟨(.inl rfl), fun a W9 K hd hb aw hk => by
      obtain ⟨v, w9, h1, h2, h3⟩ := stOf3 ((wordOf 10)) ((dig Nn)) ((parT L T ((A : Nat) : Int) 3)) W9
      exact wp_slice3 rfl (hd 0 rfl) (hd 3 rfl) (hd 7 rfl) h1 (hk _ _ h2 h3)⟩⟩,
      ⟨rfl, rfl, .inl ⟨(.inl rfl), fun a W9 K hd hb aw hk => by
      obtain hv := hd 8 rfl
      exact wp_func1 rfl enterW rfl ((words_any _ _ _ hv (by simp) (by simp) (HJ.out)).mono (fun _ _ ⟨he, hA⟩ => ⟨_, he, hk _ _ rfl hA⟩))⟩⟩,
      ⟨rfl, rfl, .inl ⟨(.inl rfl), fun a W9 K hd hb aw hk => wp_move (.inr rfl) (hd 9 rfl) (hk _ _ rfl After.rfl)⟩⟩,
      trivial⟩
  intro x9 w9 hx9 aw9
  have t0 : x9 0 = .string (S (wordOf 10)) := hx9 0 (Nat.le_of_ble_eq_true rfl)
  have t1 : x9 1 = .pointer (some ⟨b3, 3, none⟩) := hx9 1 (Nat.le_of_ble_eq_true rfl)
  have t2 : x9 2 = .int .i64 ((Nn : Nat) : Int) := hx9 2 (Nat.le_of_ble_eq_true rfl)
  have t3 : x9 3 = .string (S (dig Nn)) := hx9 3 (Nat.le_of_ble_eq_true rfl)
  have t4 : x9 4 = .func (.func 62) #[] #[Ptr b1, Ptr b2] := hx9 4 (Nat.le_of_ble_eq_true rfl)
  have t5 : x9 5 = .pointer (some ⟨b3, 1, none⟩) := hx9 5 (Nat.le_of_ble_eq_true rfl)
  have t6 : x9 6 = .int .i64 ((A : Nat) : Int) := hx9 6 (Nat.le_of_ble_eq_true rfl)
  have t7 : x9 7 = .string (S (parT L T ((A : Nat) : Int) 3)) := hx9 7 (Nat.le_of_ble_eq_true rfl)
  have t9 : x9 9 = .string (S (jn [(wordOf 10), (dig Nn), (parT L T ((A : Nat) : Int) 3)])) := hx9 9 (Nat.le_of_ble_eq_true rfl)
  have t10 : x9 10 = .string (S (jn [(wordOf 10), (dig Nn), (parT L T ((A : Nat) : Int) 3)])) := hx9 10 (Nat.le_of_ble_eq_true rfl)
  simp only [sets, List.getD_cons_succ, List.getD_cons_zero, List.set_cons_succ, List.set_cons_zero, t0, t1, t2, t3, t4, t5, t6, t7, t9, t10]
  clear hx9 t0 t1 t2 t3 t4 t5 t6 t7 t9 t10
  generalize x9 8 = y8
  clear x9
  have HW9 := hideIt aw9
  clear aw9
  go_wp2
  go_ret
  exact ⟨rfl, HM.out.aft.trans HW9.out⟩
set_option maxHeartbeats 1000000 in
theorem node_11 {L : List Nd} {T : List W8} (w : World) (hl : Laid w) (al at2 : Option Addr) (cl ct : Nat) (h1 : NRow w al L.length L) (h2 : GRow strE w at2 T.length T) (hs : ∀ t ∈ T, t.length ≤ 1025) (A Nn : Nat) (hA : A < T.length) (hA2 : A < L.length) (hN : Nn < 100) :
    Calls Tryz.prog 43 #[.slice al L.length cl, .slice at2 T.length ct, (Nd.mk 11 ((A : Nat)) 0 ((Nn : Nat))).val] w fun e w' => e = .returned (.string (S (nodeT L T ⟨11, (A : Nat), 0, (Nn : Nat)⟩))) ∧ After w w' := by
  unfold Nd.val
  have hmf : ∀ (fn : Fn) (first cap : Array Value) (w : World), (Instr.makeFunc fn first cap).run Tryz.prog w = .ok (.func fn first cap) w := fun _ _ _ _ => rfl
  have eN : nodeT L T ⟨11, (A : Nat), 0, (Nn : Nat)⟩ = jn [wordOf 11, dig Nn, parT L T ((A : Nat) : Int) 3] := by
    rw [jn3]
    rfl
  have HJ : Hid ((jn [wordOf 11, dig Nn, parT L T ((A : Nat) : Int) 3]).length ≤ 100000) := hideIt (by
    rw [jn3]
    have := parT_short hs L A 3; have := wordOf_len 11; have := dig_len Nn
    simp only [List.length_append, List.length_cons]
    omega)
  rw [eN]
  clear eN
  obtain ⟨W, hW⟩ : ∃ W, W = ((w.alloc (.cells #[.slice al L.length cl] 22)).alloc (.cells #[.slice at2 T.length ct] 51)).alloc (.cells #[.int .i64 11, .int .i64 (A : Int), .int .i64 0, .int .i64 (Nn : Int)] 33) := ⟨_, rfl⟩
  have aW : After w W := by rw [hW]; exact ((After.rfl.alloc _).alloc _).alloc _
  have k1 : W.heap[w.heap.size]? = some (.cells #[.slice al L.length cl] 22 (0, 0)) := by
    rw [hW, Below.heap_alloc _ _ _ (by simp; omega), Below.heap_alloc _ _ _ (by simp)]; exact heap_alloc_new w _
  have k2 : W.heap[w.heap.size + 1]? = some (.cells #[.slice at2 T.length ct] 51 (0, 0)) := by
    rw [hW, Below.heap_alloc _ _ _ (by simp)]
    have := heap_alloc_new (w.alloc (.cells #[.slice al L.length cl] 22)) (.cells #[.slice at2 T.length ct] 51)
    rw [World.size_alloc] at this; exact this
  have k3 : W.heap[w.heap.size + 2]? = some (.cells #[.int .i64 11, .int .i64 (A : Int), .int .i64 0, .int .i64 (Nn : Int)] 33 (0, 0)) := by
    rw [hW]
    have := heap_alloc_new ((w.alloc (.cells #[.slice al L.length cl] 22)).alloc (.cells #[.slice at2 T.length ct] 51)) (.cells #[.int .i64 11, .int .i64 (A : Int), .int .i64 0, .int .i64 (Nn : Int)] 33)
    rw [World.size_alloc, World.size_alloc] at this; exact this
  have HM : Hid (NtAt w W w.heap.size (w.heap.size + 1) (w.heap.size + 2) L T ⟨11, (A : Nat), 0, (Nn : Nat)⟩) := hideIt ⟨⟨⟨al, cl, blk_cell k1 rfl, h1.after aW⟩, ⟨at2, ct, blk_cell k2 rfl, h2.after aW⟩, hs⟩, aW, blk_cell k3 rfl, blk_cell k3 rfl, blk_cell k3 rfl, blk_cell k3 rfl, hl.on aW⟩
  have p0 := blk_cell k3 (i := 0) rfl
  have p1 := blk_cell k3 (i := 1) rfl
  have p2 := blk_cell k3 (i := 2) rfl
  have p3 := blk_cell k3 (i := 3) rfl
  have hlt := blk_lt k3
  obtain ⟨b1, hb1⟩ : ∃ b, b = w.heap.size := ⟨_, rfl⟩
  obtain ⟨b2, hb2⟩ : ∃ b, b = w.heap.size + 1 := ⟨_, rfl⟩
  obtain ⟨b3, hb3⟩ : ∃ b, b = w.heap.size + 2 := ⟨_, rfl⟩
  rw [← hb3] at p0 p1 p2 p3 hlt
  rw [← hb3, ← hb2, ← hb1] at HM
  clear aW k1 k2 k3 h1 h2 hs hl
  go_enter Tryz.func43, Tryz.ntmps43
  go_wp2_with fail
  rw [← hb3, ← hb2, ← hb1, ← hW]
  clear hW hb1 hb2 hb3
  refine (word_any 11 _).mono ?_
  rintro e w1 ⟨rfl, rfl⟩
  go_upto_region 18 with fail
  refine region_slotsG (by kernel_rfl) [54, 55, 56, 57, 58, 59, 60, 61, 62, 63, 6] [isV (.string (S (wordOf 11))), isV (.pointer (some ⟨b3, 3, none⟩)), isV (.int .i64 ((Nn : Nat) : Int)), isV (.string (S (dig Nn))), isV (.func (.func 62) #[] #[Ptr b1, Ptr b2]), isV (.pointer (some ⟨b3, 1, none⟩)), isV (.int .i64 ((A : Nat) : Int)), isV (.string (S (parT L T ((A : Nat) : Int) 3))), isSt [(wordOf 11), (dig Nn), (parT L T ((A : Nat) : Int) 3)], isV (.string (S (jn [(wordOf 11), (dig Nn), (parT L T ((A : Nat) : Int) 3)]))), isV (.string (S (jn [(wordOf 11), (dig Nn), (parT L T ((A : Nat) : Int) 3)])))] 11 rfl rfl (stable_all (st_cons (isV_st _) (st_cons (isV_st _) (st_cons (isV_st _) (st_cons (isV_st _) (st_cons (isV_st _) (st_cons (isV_st _) (st_cons (isV_st _) (st_cons (isV_st _) (st_cons (isSt_st _) (st_cons (isV_st _) (st_cons (isV_st _) (st_nil))))))))))))) rfl rfl ?_ ?_
  · exact ⟨⟨rfl, rfl, .inl ⟨(.inl rfl), fun a W9 K hd hb aw hk => wp_move (.inl rfl) (show a.eval (.tmp 8) = .string (S (wordOf 11)) from hb 8 rfl) (hk _ _ rfl After.rfl)⟩⟩,
      ⟨rfl, rfl, .inl ⟨(.inl rfl), fun a W9 K hd hb aw hk => wp_field rfl (show a.eval (.tmp 5) = Ptr b3 from hb 5 rfl) (fieldN _ _ (by omega) _) (hk _ _ rfl After.rfl)⟩⟩,
      ⟨rfl, rfl, .inl ⟨(.inl rfl), fun a W9 K hd hb aw hk => wp_load rfl (hd 1 rfl) (loadInt (HM.out.after aw).c3) (hk _ _ rfl After.rfl)⟩⟩,
      ⟨rfl, rfl, .inl ⟨(.inl rfl), fun a W9 K hd hb aw hk => wp_func1 rfl enterI (hd 2 rfl) ((itoaD Nn (by omega) _).mono (fun _ _ ⟨he, hA⟩ => ⟨_, he, hk _ _ rfl (by rw [hA]; exact After.rfl)⟩))⟩⟩,
      ⟨rfl, rfl, .inl ⟨(.inl rfl), fun a W9 K hd hb aw hk => wp_move (.inl rfl) (show a.eval (.tmp 7) = .func (.func 62) #[] #[Ptr b1, Ptr b2] from hb 7 rfl) (hk _ _ rfl After.rfl)⟩⟩,
      ⟨rfl, rfl, .inl ⟨(.inl rfl), fun a W9 K hd hb aw hk => wp_field rfl (show a.eval (.tmp 5) = Ptr b3 from hb 5 rfl) (fieldN _ _ (by omega) _) (hk _ _ rfl After.rfl)⟩⟩,
      ⟨rfl, rfl, .inl ⟨(.inl rfl), fun a W9 K hd hb aw hk => wp_load rfl (hd 5 rfl) (loadInt (HM.out.after aw).c1) (hk _ _ rfl After.rfl)⟩⟩,
      ⟨rfl, rfl, .inl ⟨(.inl rfl), fun a W9 K hd hb aw hk => wp_clo2 rfl (hd 4 rfl) enterP (hd 6 rfl) rfl ((partT_any (HM.out.after aw).sees A 3 (by omega) (by omega)).mono (fun _ _ ⟨he, hA⟩ => ⟨_, he, hk _ _ rfl hA⟩))⟩⟩,
      ⟨rfl, rfl, .inl ⟨(.inl rfl), fun a W9 K hd hb aw hk => by
      obtain ⟨v, w9, h1, h2, h3⟩ := stOf3 ((wordOf 11)) ((dig Nn)) ((parT L T ((A : Nat) : Int) 3)) W9
      exact wp_slice3 rfl (hd 0 rfl) (hd 3 rfl) (hd 7 rfl) h1 (hk _ _ h2 h3)⟩⟩,
      ⟨rfl, rfl, .inl ⟨(.inl rfl), fun a W9 K hd hb aw hk => by
      obtain hv := hd 8 rfl
      exact wp_func1 rfl enterW rfl ((words_any _ _ _ hv (by simp) (by simp) (HJ.out)).mono (fun _ _ ⟨he, hA⟩ => ⟨_, he, hk _ _ rfl hA⟩))⟩⟩,
      ⟨rfl, rfl, .inl ⟨(.inl rfl), fun a W9 K hd hb aw hk => wp_move (.inr rfl) (hd 9 rfl) (hk _ _ rfl After.rfl)⟩⟩,
      trivial⟩
  intro x9 w9 hx9 aw9
  have t0 : x9 0 = .string (S (wordOf 11)) := hx9 0 (Nat.le_of_ble_eq_true rfl)
  have t1 : x9 1 = .pointer (some ⟨b3, 3, none⟩) := hx9 1 (Nat.le_of_ble_eq_true rfl)
  have t2 : x9 2 = .int .i64 ((Nn : Nat) : Int) := hx9 2 (Nat.le_of_ble_eq_true rfl)
  have t3 : x9 3 = .string (S (dig Nn)) := hx9 3 (Nat.le_of_ble_eq_true rfl)
  have t4 : x9 4 = .func (.func 62) #[] #[Ptr b1, Ptr b2] := hx9 4 (Nat.le_of_ble_eq_true rfl)
  have t5 : x9 5 = .pointer (some ⟨b3, 1, none⟩) := hx9 5 (Nat.le_of_ble_eq_true rfl)
  have t6 : x9 6 = .int .i64 ((A : Nat) : Int) := hx9 6 (Nat.le_of_ble_eq_true rfl)
  have t7 : x9 7 = .string (S (parT L T ((A : Nat) : Int) 3)) := hx9 7 (Nat.le_of_ble_eq_true rfl)
  have t9 : x9 9 = .string (S (jn [(wordOf 11), (dig Nn), (parT L T ((A : Nat) : Int) 3)])) := hx9 9 (Nat.le_of_ble_eq_true rfl)
  have t10 : x9 10 = .string (S (jn [(wordOf 11), (dig Nn), (parT L T ((A : Nat) : Int) 3)])) := hx9 10 (Nat.le_of_ble_eq_true rfl)
  simp only [sets, List.getD_cons_succ, List.getD_cons_zero, List.set_cons_succ, List.set_cons_zero, t0, t1, t2, t3, t4, t5, t6, t7, t9, t10]
  clear hx9 t0 t1 t2 t3 t4 t5 t6 t7 t9 t10
  generalize x9 8 = y8
  clear x9
  have HW9 := hideIt aw9
  clear aw9
  go_wp2
  go_ret
  exact ⟨rfl, HM.out.aft.trans HW9.out⟩
set_option maxHeartbeats 1000000 in
theorem node_12 {L : List Nd} {T : List W8} (w : World) (hl : Laid w) (al at2 : Option Addr) (cl ct : Nat) (h1 : NRow w al L.length L) (h2 : GRow strE w at2 T.length T) (hs : ∀ t ∈ T, t.length ≤ 1025) (A B : Nat) (hA : A < T.length) (hA2 : A < L.length) (hB : B < T.length) (hB2 : B < L.length) :
    Calls Tryz.prog 43 #[.slice al L.length cl, .slice at2 T.length ct, (Nd.mk 12 ((A : Nat)) ((B : Nat)) 0).val] w fun e w' => e = .returned (.string (S (nodeT L T ⟨12, (A : Nat), (B : Nat), 0⟩))) ∧ After w w' := by
  unfold Nd.val
  have hmf : ∀ (fn : Fn) (first cap : Array Value) (w : World), (Instr.makeFunc fn first cap).run Tryz.prog w = .ok (.func fn first cap) w := fun _ _ _ _ => rfl
  have eN : nodeT L T ⟨12, (A : Nat), (B : Nat), 0⟩ = jn [parT L T ((A : Nat) : Int) 3, wordOf 12, parT L T ((B : Nat) : Int) 3] := by
    rw [jn3]
    rfl
  have HJ : Hid ((jn [parT L T ((A : Nat) : Int) 3, wordOf 12, parT L T ((B : Nat) : Int) 3]).length ≤ 100000) := hideIt (by
    rw [jn3]
    have := parT_short hs L A 3; have := parT_short hs L B 3; have := wordOf_len 12
    simp only [List.length_append, List.length_cons]
    omega)
  rw [eN]
  clear eN
  obtain ⟨W, hW⟩ : ∃ W, W = ((w.alloc (.cells #[.slice al L.length cl] 22)).alloc (.cells #[.slice at2 T.length ct] 51)).alloc (.cells #[.int .i64 12, .int .i64 (A : Int), .int .i64 (B : Int), .int .i64 0] 33) := ⟨_, rfl⟩
  have aW : After w W := by rw [hW]; exact ((After.rfl.alloc _).alloc _).alloc _
  have k1 : W.heap[w.heap.size]? = some (.cells #[.slice al L.length cl] 22 (0, 0)) := by
    rw [hW, Below.heap_alloc _ _ _ (by simp; omega), Below.heap_alloc _ _ _ (by simp)]; exact heap_alloc_new w _
  have k2 : W.heap[w.heap.size + 1]? = some (.cells #[.slice at2 T.length ct] 51 (0, 0)) := by
    rw [hW, Below.heap_alloc _ _ _ (by simp)]
    have := heap_alloc_new (w.alloc (.cells #[.slice al L.length cl] 22)) (.cells #[.slice at2 T.length ct] 51)
    rw [World.size_alloc] at this; exact this
  have k3 : W.heap[w.heap.size + 2]? = some (.cells #[.int .i64 12, .int .i64 (A : Int), .int .i64 (B : Int), .int .i64 0] 33 (0, 0)) := by
    rw [hW]
    have := heap_alloc_new ((w.alloc (.cells #[.slice al L.length cl] 22)).alloc (.cells #[.slice at2 T.length ct] 51)) (.cells #[.int .i64 12, .int .i64 (A : Int), .int .i64 (B : Int), .int .i64 0] 33)
    rw [World.size_alloc, World.size_alloc] at this; exact this
  have HM : Hid (NtAt w W w.heap.size (w.heap.size + 1) (w.heap.size + 2) L T ⟨12, (A : Nat), (B : Nat), 0⟩) := hideIt ⟨⟨⟨al, cl, blk_cell k1 rfl, h1.after aW⟩, ⟨at2, ct, blk_cell k2 rfl, h2.after aW⟩, hs⟩, aW, blk_cell k3 rfl, blk_cell k3 rfl, blk_cell k3 rfl, blk_cell k3 rfl, hl.on aW⟩
  have p0 := blk_cell k3 (i := 0) rfl
  have p1 := blk_cell k3 (i := 1) rfl
  have p2 := blk_cell k3 (i := 2) rfl
  have p3 := blk_cell k3 (i := 3) rfl
  have hlt := blk_lt k3
  obtain ⟨b1, hb1⟩ : ∃ b, b = w.heap.size := ⟨_, rfl⟩
  obtain ⟨b2, hb2⟩ : ∃ b, b = w.heap.size + 1 := ⟨_, rfl⟩
  obtain ⟨b3, hb3⟩ : ∃ b, b = w.heap.size + 2 := ⟨_, rfl⟩
  rw [← hb3] at p0 p1 p2 p3 hlt
  rw [← hb3, ← hb2, ← hb1] at HM
  clear aW k1 k2 k3 h1 h2 hs hl
  go_enter Tryz.func43, Tryz.ntmps43
  go_wp2_with fail
  rw [← hb3, ← hb2, ← hb1, ← hW]
  clear hW hb1 hb2 hb3
  refine (word_any 12 _).mono ?_
  rintro e w1 ⟨rfl, rfl⟩
  go_upto_region 20 with fail
  refine region_slotsG (by kernel_rfl) [66, 67, 68, 69, 70, 71, 72, 73, 74, 75, 76, 6] [isV (.func (.func 62) #[] #[Ptr b1, Ptr b2]), isV (.pointer (some ⟨b3, 1, none⟩)), isV (.int .i64 ((A : Nat) : Int)), isV (.string (S (parT L T ((A : Nat) : Int) 3))), isV (.string (S (wordOf 12))), isV (.func (.func 62) #[] #[Ptr b1, Ptr b2]), isV (.pointer (some ⟨b3, 2, none⟩)), isV (.int .i64 ((B : Nat) : Int)), isV (.string (S (parT L T ((B : Nat) : Int) 3))), isSt [(parT L T ((A : Nat) : Int) 3), (wordOf 12), (parT L T ((B : Nat) : Int) 3)], isV (.string (S (jn [(parT L T ((A : Nat) : Int) 3), (wordOf 12), (parT L T ((B : Nat) : Int) 3)]))), isV (.string (S (jn [(parT L T ((A : Nat) : Int) 3), (wordOf 12), (parT L T ((B : Nat) : Int) 3)])))] 12 rfl rfl (stable_all (st_cons (isV_st _) (st_cons (isV_st _) (st_cons (isV_st _) (st_cons (isV_st _) (st_cons (isV_st _) (st_cons (isV_st _) (st_cons (isV_st _) (st_cons (isV_st _) (st_cons (isV_st _) (st_cons (isSt_st _) (st_cons (isV_st _) (st_cons (isV_st _) (st_nil)))))))))))))) rfl rfl ?_ ?_
  · exact ⟨⟨rfl, rfl, .inl ⟨(.inl rfl), fun a W9 K hd hb aw hk => wp_move (.inl rfl) (show a.eval (.tmp 7) = .func (.func 62) #[] #[Ptr b1, Ptr b2] from hb 7 rfl) (hk _ _ rfl After.rfl)⟩⟩,
      ⟨rfl, rfl, .inl ⟨(.inl rfl), fun a W9 K hd hb aw hk => wp_field rfl (show a.eval (.tmp 5) = Ptr b3 from hb 5 rfl) (fieldN _ _ (by omega) _) (hk _ _ rfl After.rfl)⟩⟩,
      ⟨rfl, rfl, .inl ⟨(.inl rfl), fun a W9 K hd hb aw hk => wp_load rfl (hd 1 rfl) (loadInt (HM.out.after aw).c1) (hk _ _ rfl After.rfl)⟩⟩,
      ⟨rfl, rfl, .inl ⟨(.inl rfl), fun a W9 K hd hb aw hk => wp_clo2 rfl (hd 0 rfl) enterP (hd 2 rfl) rfl ((partT_any (HM.out.after aw).sees A 3 (by omega) (by omega)).mono (fun _ _ ⟨he, hA⟩ => ⟨_, he, hk _ _ rfl hA⟩))⟩⟩,
      ⟨rfl, rfl, .inl ⟨(.inl rfl), fun a W9 K hd hb aw hk => wp_move (.inl rfl) (show a.eval (.tmp 8) = .string (S (wordOf 12)) from hb 8 rfl) (hk _ _ rfl After.rfl)⟩⟩,
      ⟨rfl, rfl, .inl ⟨(.inl rfl), fun a W9 K hd hb aw hk => wp_move (.inl rfl) (show a.eval (.tmp 7) = .func (.func 62) #[] #[Ptr b1, Ptr b2] from hb 7 rfl) (hk _ _ rfl After.rfl)⟩⟩,
      ⟨rfl, rfl, .inl ⟨(.inl rfl), fun a W9 K hd hb aw hk => wp_field rfl (show a.eval (.tmp 5) = Ptr b3 from hb 5 rfl) (fieldN _ _ (by omega) _) (hk _ _ rfl After.rfl)⟩⟩,
      ⟨rfl, rfl, .inl ⟨(.inl rfl), fun a W9 K hd hb aw hk => wp_load rfl (hd 6 rfl) (loadInt (HM.out.after aw).c2) (hk _ _ rfl After.rfl)⟩⟩,
      ⟨rfl, rfl, .inl ⟨(.inl rfl), fun a W9 K hd hb aw hk => wp_clo2 rfl (hd 5 rfl) enterP (hd 7 rfl) rfl ((partT_any (HM.out.after aw).sees B 3 (by omega) (by omega)).mono (fun _ _ ⟨he, hA⟩ => ⟨_, he, hk _ _ rfl hA⟩))⟩⟩,
      ⟨rfl, rfl, .inl ⟨(.inl rfl), fun a W9 K hd hb aw hk => by
      obtain ⟨v, w9, h1, h2, h3⟩ := stOf3 ((parT L T ((A : Nat) : Int) 3)) ((wordOf 12)) ((parT L T ((B : Nat) : Int) 3)) W9
      exact wp_slice3 rfl (hd 3 rfl) (hd 4 rfl) (hd 8 rfl) h1 (hk _ _ h2 h3)⟩⟩,
      ⟨rfl, rfl, .inl ⟨(.inl rfl), fun a W9 K hd hb aw hk => by
      obtain hv := hd 9 rfl
      exact wp_func1 rfl enterW rfl ((words_any _ _ _ hv (by simp) (by simp) (HJ.out)).mono (fun _ _ ⟨he, hA⟩ => ⟨_, he, hk _ _ rfl hA⟩))⟩⟩,
      ⟨rfl, rfl, .inl ⟨(.inl rfl), fun a W9 K hd hb aw hk => wp_move (.inr rfl) (hd 10 rfl) (hk _ _ rfl After.rfl)⟩⟩,
      trivial⟩
  intro x9 w9 hx9 aw9
  have t0 : x9 0 = .func (.func 62) #[] #[Ptr b1, Ptr b2] := hx9 0 (Nat.le_of_ble_eq_true rfl)
  have t1 : x9 1 = .pointer (some ⟨b3, 1, none⟩) := hx9 1 (Nat.le_of_ble_eq_true rfl)
  have t2 : x9 2 = .int .i64 ((A : Nat) : Int) := hx9 2 (Nat.le_of_ble_eq_true rfl)
  have t3 : x9 3 = .string (S (parT L T ((A : Nat) : Int) 3)) := hx9 3 (Nat.le_of_ble_eq_true rfl)
  have t4 : x9 4 = .string (S (wordOf 12)) := hx9 4 (Nat.le_of_ble_eq_true rfl)
  have t5 : x9 5 = .func (.func 62) #[] #[Ptr b1, Ptr b2] := hx9 5 (Nat.le_of_ble_eq_true rfl)
  have t6 : x9 6 = .pointer (some ⟨b3, 2, none⟩) := hx9 6 (Nat.le_of_ble_eq_true rfl)
  have t7 : x9 7 = .int .i64 ((B : Nat) : Int) := hx9 7 (Nat.le_of_ble_eq_true rfl)
  have t8 : x9 8 = .string (S (parT L T ((B : Nat) : Int) 3)) := hx9 8 (Nat.le_of_ble_eq_true rfl)
  have t10 : x9 10 = .string (S (jn [(parT L T ((A : Nat) : Int) 3), (wordOf 12), (parT L T ((B : Nat) : Int) 3)])) := hx9 10 (Nat.le_of_ble_eq_true rfl)
  have t11 : x9 11 = .string (S (jn [(parT L T ((A : Nat) : Int) 3), (wordOf 12), (parT L T ((B : Nat) : Int) 3)])) := hx9 11 (Nat.le_of_ble_eq_true rfl)
  simp only [sets, List.getD_cons_succ, List.getD_cons_zero, List.set_cons_succ, List.set_cons_zero, t0, t1, t2, t3, t4, t5, t6, t7, t8, t10, t11]
  clear hx9 t0 t1 t2 t3 t4 t5 t6 t7 t8 t10 t11
  generalize x9 9 = y9
  clear x9
  have HW9 := hideIt aw9
  clear aw9
  go_wp2
  go_ret
  exact ⟨rfl, HM.out.aft.trans HW9.out⟩
end Go.Proofs.YtlfcihanhfabmaaGreatDoor
