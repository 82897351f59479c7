/-
  The statement's helper holds: eight things copied; walked.
-/
import Derived.Test.YtlfcihanhfabmaaGreatDoorNtO
import Derived.Test.YtlfcihanhfabmaaGreatDoorFoI
import Derived.Laws.CopyOwn
namespace Go.Proofs.YtlfcihanhfabmaaGreatDoor
open Go.RowKit
set_option maxRecDepth 8000
/-- Eight things: the first ones, and nothing. -/
def pad8 {α : Type} (z : α) (ys : List α) : List α := ys.take 8 ++ List.replicate (8 - (ys.take 8).length) z
theorem pad8_length {α : Type} (z : α) (ys : List α) : (pad8 z ys).length = 8 := by
  unfold pad8
  rw [List.length_append, List.length_replicate, List.length_take]
  omega
section
variable {α : Type}
theorem Enc.flat_drop (E : Enc α) : ∀ (j : Nat) (xs : List α), E.flat (xs.drop j) = (E.flat xs).drop (j * E.k)
  | 0, xs => by simp
  | j + 1, [] => by simp [Enc.flat]
  | j + 1, x :: xs => by
    have e : (E.enc x ++ E.flat xs).drop E.k = E.flat xs := by
      conv => lhs; rw [← E.len x]
      exact List.drop_left
    rw [List.drop_succ_cons, Enc.flat_drop E j xs, E.flat_cons, Nat.add_mul, Nat.one_mul, Nat.add_comm, ← List.drop_drop, e]
theorem flat_pad (E : Enc α) (z : α) (ys : List α) : E.flat (ys.take 8) ++ (E.flat (List.replicate 8 z)).drop (E.flat (ys.take 8)).length = E.flat (pad8 z ys) := by
  unfold pad8
  rw [E.flat_append, E.flat_length, ← E.flat_drop, List.drop_replicate]
/-- Things are copied over eight that are nothing. -/
theorem copy_pad {E : Enc α} {z : α} {w : World} {ops : Array Oper} {rest : List Oper} {o : Oper} {act : Act} {Q : Exit → Act → World → Prop} (hgd : o.guard = none) (d s : Operand) (T t : TypeId) (hT : Tryz.prog.underlying T = some (.slice t)) (hsz : (Tryz.prog.info? t).map (·.size) = some E.k)
    (ho : o.op = .call { callee := .builtin .copy, args := #[d, s], argTypes := #[T, T] }) (g : Nat) (hd : act.eval d = .slice (some ⟨g, 0, none⟩) 8 8) (hg : w.heap[g]? = some (.cells (E.flat (List.replicate 8 z)).toArray t (0, 0)))
    (a : Option Addr) (m c : Nat) (ys : List α) (hs : act.eval s = .slice a m c) (hr : GRow E w a m ys) (ha : a = none → m = 0)
    (h : ∀ v w', w'.heap[g]? = some (.cells (E.flat (pad8 z ys)).toArray t (0, 0)) → But (One g) w w' → wpList Tryz.prog ops Q rest (act.put o.dst v) w') : wpList Tryz.prog ops Q (o :: rest) act w := by
  refine wpList_plain hgd fun K hK => ?_
  obtain ⟨i0, hi, hz⟩ := Option.map_eq_some_iff.1 hsz
  cases a with
  | none =>
    have hm := ha rfl
    subst hm
    have hy : ys = [] := List.length_eq_zero_iff.1 hr.1
    subst hy
    have hrun : (Builtin.copy_ #[T, T] o.type #[.slice (some ⟨g, 0, none⟩) 8 8, .slice none 0 c]).run Tryz.prog w = .ok (goInt (Nat.min 0 8)) w := by
      simp [Builtin.copy_, run_underlying hT, Builtin.lenOf, Builtin.firstCells, sizeOf, typeInfo, hi, storeCells]
    unfold Oper.wp
    simp [execOp, ho, resolve, invoke, builtin, hd, hs, hrun, Result.andThen]
    refine hK _ _ (h _ w ?_ But.rfl)
    rw [hg]
    rfl
  | some x =>
    have hlen : (E.flat (ys.take 8)).length = Nat.min m 8 * E.k := by
      rw [E.flat_length, List.length_take, hr.1]
      congr 1
      exact Nat.min_comm _ _
    have hsrc : ∀ j v, (E.flat (ys.take 8))[j]? = some v → w.cell? (x.add j) = some v := by
      have hle : Nat.min m 8 ≤ m := Nat.min_le_left _ _
      have ht := hr.take hle
      have e : ys.take (Nat.min m 8) = ys.take 8 := by
        rcases Nat.le_total m 8 with h' | h'
        · rw [show Nat.min m 8 = m from Nat.min_eq_left h', List.take_of_length_le (by rw [hr.1]; exact Nat.le_refl _), List.take_of_length_le (by rw [hr.1]; exact h')]
        · rw [show Nat.min m 8 = 8 from Nat.min_eq_right h']
      rw [e] at ht
      exact ht.news
    have hl := run_loadCells_list (P := Tryz.prog) w x (E.flat (ys.take 8)) hsrc
    have hfit : 0 + 0 + (E.flat (ys.take 8)).length ≤ (E.flat (List.replicate 8 z)).toArray.size := by
      rw [hlen, List.size_toArray, E.flat_length, List.length_replicate, Nat.zero_add]
      exact Nat.mul_le_mul_right _ (Nat.min_le_right _ _)
    have hst := run_storeCells_at Tryz.prog g 0 t (E.flat (ys.take 8)) 0 (E.flat (List.replicate 8 z)).toArray w hg hfit (E.flat_one _)
    have hrun : (Builtin.copy_ #[T, T] o.type #[.slice (some ⟨g, 0, none⟩) 8 8, .slice (some x) m c]).run Tryz.prog w = .ok (goInt (Nat.min m 8)) (w.setRow g (E.flat (pad8 z ys)).toArray) := by
      rw [hlen] at hl
      rw [Nat.zero_add, List.take_zero, List.nil_append, Nat.zero_add, flat_pad] at hst
      simp [Builtin.copy_, run_underlying hT, Builtin.lenOf, Builtin.firstCells, sizeOf, typeInfo, hi, hz, hl, hst]
    unfold Oper.wp
    simp [execOp, ho, resolve, invoke, builtin, hd, hs, hrun, Result.andThen]
    refine hK _ _ (h _ _ (setRow_heap w g _ _ t _ hg) ⟨rfl, rfl, rfl, by simp [World.setRow], fun k _ hk => setRow_other w g k _ (fun e => hk e)⟩)
end
def c8 : Array Value := (chE.flat (List.replicate 8 Ch.none)).toArray
def r8 : Array Value := (rdE.flat (List.replicate 8 Rd.none)).toArray
theorem makeC8 (w : World) : (Instr.makeSlice 35 (.int .i64 8) (.int .i64 8)).run Tryz.prog w = .ok (.slice (some ⟨w.heap.size, 0, none⟩) 8 8) (w.alloc (.cells c8 108)) := by kernel_rfl
theorem makeR8 (w : World) : (Instr.makeSlice 64 (.int .i64 8) (.int .i64 8)).run Tryz.prog w = .ok (.slice (some ⟨w.heap.size, 0, none⟩) 8 8) (w.alloc (.cells r8 110)) := by kernel_rfl
theorem Tryz.szC : (Tryz.prog.info? 108).map (·.size) = some chE.k := by kernel_rfl
theorem Tryz.szR : (Tryz.prog.info? 110).map (·.size) = some rdE.k := by kernel_rfl
theorem Tryz.infoRs : (Tryz.prog.info? 64).map (fun i => (i.zero, i.size, i.bytes)) = some (some (.slice none 0 0), trE.k, 24) := by kernel_rfl
/-- What the helper makes of a trace: the first thirty rows, of eight readings each. -/
def trc (T : List (List Rd)) : List (List Rd) := (T.take 30).map (pad8 Rd.none)
theorem trc_row {T : List (List Rd)} : ∀ l ∈ trc T, l.length = 8 := fun l hl => by
  unfold trc at hl
  obtain ⟨y, _, rfl⟩ := List.mem_map.1 hl
  exact pad8_length _ _
theorem trc_len (T : List (List Rd)) : (trc T).length = min 30 T.length := by unfold trc; simp
/-- Rows of readings, each in a block of its own. -/
def RowsAt (w : World) (X : List Tr) : Prop := ∀ x ∈ X, ∃ g l, x = ⟨some ⟨g, 0, none⟩, 8, 8, l⟩ ∧ l.length = 8 ∧ w.heap[g]? = some (.cells (rdE.flat l).toArray 110 (0, 0))
theorem RowsAt.in {w : World} {X : List Tr} (h : RowsAt w X) : ∀ x ∈ X, x.In w := fun x hx => by
  obtain ⟨g, l, rfl, hl, hb⟩ := h x hx
  refine ⟨?_, fun e => by cases e⟩
  exact lit_row hb (by simp) hl.symm
theorem RowsAt.but {S : Nat → Prop} {w w' : World} {X : List Tr} (h : RowsAt w X) (b : But S w w') (hS : ∀ g cs, S g → w.heap[g]? ≠ some (.cells cs 110 (0, 0))) : RowsAt w' X := fun x hx => by
  obtain ⟨g, l, e, hl, hb⟩ := h x hx
  exact ⟨g, l, e, hl, (b.block g (blk_lt hb) (fun hs => hS g _ hs hb)).trans hb⟩
theorem RowsAt.after {w w' : World} {X : List Tr} (h : RowsAt w X) (b : After w w') : RowsAt w' X := h.but b (fun _ _ t => t.elim)
/-- A row that is owned lies in no block of readings, nor of channels, nor of a past. -/
theorem own_far {w : World} {B : Nat} {v : Value} {X : List Tr} (h : ORow trE 64 w B v X) {g : Nat} {cs : Array Value} {t : TypeId} (ht : t ≠ 64) (hb : w.heap[g]? = some (.cells cs t (0, 0))) : v.ownBlock ≠ some g := by
  intro e
  rcases h.2 with ⟨rfl, _⟩ | ⟨g', cap, cur, rfl, _, hg, _⟩
  · cases e
  · have : g' = g := by simpa [Value.ownBlock] using e
    subst this
    rw [hb] at hg
    simp at hg
    exact ht hg.2
theorem hld_ok16 {L : List Nd} {C : List Ch} {T : List (List Rd)} (hc : chk L 8 = 0) (hC : C.length = 8) (hT : ∀ l ∈ T, l.length = 8) {j : Nat} (hj : j < T.length) : hld L C T (j : Int) = (val L C T (L.length - 1) j, 0) := by
  have hc' : chk L (C.length : Int) = 0 := by rw [hC]; exact hc
  unfold hld
  rw [if_neg (by rw [hc']; simp), if_neg (by simp only [Classical.not_not, hC]; exact hT), if_neg (by omega)]
  rfl
set_option maxHeartbeats 4000000 in
theorem holds16 {L : List Nd} {C : List Ch} {X : List Tr} (hc : chk L 8 = 0) (w : World) (al : Option Addr) (cl : Nat) (h1 : NRow w al L.length L) (ac : Option Addr) (nc cc : Nat) (h2 : CRow w ac nc C) (hca : ac = none → nc = 0) (aT : Option Addr) (nt ct : Nat) (h3 : TRow w aT nt X) :
    Calls Tryz.prog 16 #[.slice al L.length cl, .agg #[.slice ac nc cc, .slice aT nt ct]] w fun e w' => e = .returned (.string (bitsOf (val L (pad8 Ch.none C) (trc (rdsOf X)) (L.length - 1)) (trc (rdsOf X)).length)) ∧ After w w' := by
  have H1 := hideIt h1
  have H2 := hideIt h2
  have H3 := hideIt h3
  have HCa := hideIt hca
  obtain ⟨C8, hC8⟩ : ∃ C8, C8 = pad8 Ch.none C := ⟨_, rfl⟩
  have HC8 := hideIt (And.intro hC8 (show C8.length = 8 by rw [hC8]; exact pad8_length _ _))
  rw [← hC8]
  obtain ⟨T8, hT8⟩ : ∃ T8, T8 = trc (rdsOf X) := ⟨_, rfl⟩
  have hTl : T8.length = min 30 nt := by rw [hT8, trc_len, rdsOf_length, h3.1.1]
  have HT8 := hideIt (And.intro hT8 (show ∀ l ∈ T8, l.length = 8 by rw [hT8]; exact trc_row))
  rw [← hT8]
  obtain ⟨K, hK⟩ : ∃ K, K = T8.length := ⟨_, rfl⟩
  have HK := hideIt (And.intro hK (show K = min 30 nt by rw [hK]; exact hTl))
  rw [← hK]
  have HTj : Hid (∀ j (x : Tr), X[j]? = some x → j < K → T8[j]? = some (pad8 Rd.none x.l)) := hideIt (fun j x hx hj => by
    rw [hT8]
    unfold trc
    rw [List.getElem?_map, List.getElem?_take_of_lt (by omega)]
    unfold rdsOf
    rw [List.getElem?_map, hx]
    rfl)
  have HHl : Hid (∀ j, j < K → hld L C8 T8 (j : Int) = (val L C8 T8 (L.length - 1) j, 0)) := hideIt (fun j hj => hld_ok16 hc HC8.out.2 HT8.out.2 (by omega))
  obtain ⟨f, hf⟩ : ∃ f, f = val L C8 T8 (L.length - 1) := ⟨_, rfl⟩
  rw [← hf] at HHl ⊢
  obtain ⟨G, hG⟩ : ∃ G : Nat → ByteArray, G = bitsOf f := ⟨_, rfl⟩
  have hG0 : G 0 = ⟨#[]⟩ := by rw [hG]; rfl
  have HG : Hid (∀ j, G (j + 1) = G j ++ (if f j = true then ⟨#[49]⟩ else ⟨#[48]⟩)) := hideIt (fun j => by rw [hG]; rfl)
  have HS : Hid (∀ j, (G j).size = j) := hideIt (fun j => by rw [hG]; exact bitsOf_size f j)
  rw [← hG]
  have HMc := hideIt makeC8
  have HMr := hideIt makeR8
  clear h1 h2 h3 hc hC8 hT8 hTl hf hG hca hK
  obtain ⟨W1, hW1⟩ : ∃ W, W = w.alloc (.cells #[.slice ac nc cc, .slice aT nt ct] 38) := ⟨_, rfl⟩
  have kP : W1.heap[w.heap.size]? = some (.cells #[.slice ac nc cc, .slice aT nt ct] 38 (0, 0)) := by rw [hW1]; exact heap_alloc_new w _
  have a1 : After w W1 := by rw [hW1]; exact After.rfl.alloc _
  obtain ⟨gP, hgP⟩ : ∃ g, g = w.heap.size := ⟨_, rfl⟩
  obtain ⟨gC, hgC⟩ : ∃ g, g = W1.heap.size := ⟨_, rfl⟩
  obtain ⟨W2, hW2⟩ : ∃ W, W = W1.alloc (.cells c8 108) := ⟨_, rfl⟩
  have kC : W2.heap[gC]? = some (.cells c8 108 (0, 0)) := by rw [hW2, hgC]; exact heap_alloc_new W1 _
  have a2 : After W1 W2 := by rw [hW2]; exact After.rfl.alloc _
  have kP2 : W2.heap[gP]? = some (.cells #[.slice ac nc cc, .slice aT nt ct] 38 (0, 0)) := by rw [hgP]; exact (a2.block _ (blk_lt kP) (fun t => t)).trans kP
  have p0 := blk_cell kP2 (i := 0) rfl
  have p1 := blk_cell kP2 (i := 1) rfl
  have lP := blk_lt kP2
  have hGG : gP < gC := by rw [hgP, hgC]; exact blk_lt kP
  have hmc2 : (Instr.makeSlice 35 (.int .i64 8) (.int .i64 8)).run Tryz.prog W1 = .ok (.slice (some ⟨gC, 0, none⟩) 8 8) W2 := by rw [hgC, hW2]; exact HMc.out W1
  have HW2 := hideIt (And.intro (a1.trans a2) (And.intro kC (And.intro kP2 hGG)))
  have HgP := hideIt hgP
  clear kP a1 a2 kC kP2 hW2 hgC hGG
  go_enter Tryz.func16, Tryz.ntmps16
  go_wp2_with fail
  rw [← hgP, ← hW1]
  clear hgP hW1
  have HR2 := hideIt (H2.out.after HW2.out.1)
  go_wp2_with (first
    | (simp only [hmc2])
    | (refine copy_pad (E := chE) (z := Ch.none) rfl (.tmp 14) (.tmp 16) 35 108 Tryz.underlying35 Tryz.szC rfl gC rfl HW2.out.2.1 ac nc cc C rfl HR2.out HCa.out ?_; intro v3 W3 hb3 bw3; have H3x := hideIt (And.intro hb3 bw3); clear hb3 bw3))
  have aw3 : After w W3 := HW2.out.1.then H3x.out.2 (fun i hi e => by have := HW2.out.2.2.2; have := HgP.out; have : i = gC := e; omega)
  have kP3 : W3.heap[gP]? = some (.cells #[.slice ac nc cc, .slice aT nt ct] 38 (0, 0)) := (H3x.out.2.block gP (blk_lt HW2.out.2.2.1) (fun e => by have := HW2.out.2.2.2; have : gP = gC := e; omega)).trans HW2.out.2.2.1
  have kC3 : W3.heap[gC]? = some (.cells (chE.flat C8).toArray 108 (0, 0)) := by rw [HC8.out.1]; exact H3x.out.1
  have HI := hideIt (And.intro aw3 (And.intro kP3 kC3))
  clear aw3 kP3 kC3 H3x p0 p1 lP
  go_loopw [6, 7] (fun v i wr => ∃ (j : Nat) (Y : List Tr), j ≤ K ∧ i = .int .i64 (j : Int) ∧ Y.length = j ∧ ORow trE 64 wr w.heap.size v Y ∧ RowsAt wr Y ∧ rdsOf Y = T8.take j ∧ After w wr ∧ wr.heap[gP]? = some (.cells #[.slice ac nc cc, .slice aT nt ct] 38 (0, 0)) ∧ wr.heap[gC]? = some (.cells (chE.flat C8).toArray 108 (0, 0))) (fun _ i _ => K - (intOf i).toNat)
  case atStart => exact ⟨0, [], Nat.zero_le _, rfl, rfl, orow_nil trE _ _ _, (fun x hx => by cases hx), rfl, HI.out.1, HI.out.2.1, HI.out.2.2⟩
  case round =>
    obtain ⟨j, Y, hj, rfl, hYl, hown, hrows, hrd, aw, kP, kC⟩ := hrel
    have p0 := blk_cell kP (i := 0) rfl
    have p1 := blk_cell kP (i := 1) rfl
    have lP := blk_lt kP
    have HV := hideIt (And.intro hYl (And.intro hown (And.intro hrows (And.intro hrd (And.intro aw (And.intro kP kC))))))
    have hj30 : (j : Int) ≤ 30 := by have := HK.out.2; omega
    by_cases hjn : j < K
    · have i1 : (j : Int) < (nt : Int) := by have := HK.out.2; omega
      have i2 : (j : Int) < 30 := by have := HK.out.2; omega
      obtain ⟨bt, ot, x, rfl, hbt, hx, hcx, hin⟩ := trow_at H3.out (i := j) (by omega)
      have cx := (aw.cell hbt _).trans hcx
      have hlt : bt < wr.heap.size := Nat.lt_of_lt_of_le hbt aw.size
      have HXn := hideIt (And.intro hin hx)
      obtain ⟨gR, hgR⟩ : ∃ g, g = wr.heap.size := ⟨_, rfl⟩
      obtain ⟨V1, hV1⟩ : ∃ V, V = wr.alloc (.cells r8 110) := ⟨_, rfl⟩
      have b1 : After wr V1 := by rw [hV1]; exact After.rfl.alloc _
      have kR : V1.heap[gR]? = some (.cells (rdE.flat (List.replicate 8 Rd.none)).toArray 110 (0, 0)) := by rw [hV1, hgR]; exact heap_alloc_new wr _
      have hmr2 : (Instr.makeSlice 64 (.int .i64 8) (.int .i64 8)).run Tryz.prog wr = .ok (.slice (some ⟨gR, 0, none⟩) 8 8) V1 := by rw [hgR, hV1]; exact HMr.out wr
      have q0 := (b1.cell lP 0).trans p0
      have q1 := (b1.cell lP 1).trans p1
      have cx1 := (b1.cell hlt _).trans cx
      have lt1 : bt < V1.heap.size := Nat.lt_of_lt_of_le hlt b1.size
      have lP1 : gP < V1.heap.size := Nat.lt_of_lt_of_le lP b1.size
      have HV1 := hideIt (And.intro b1 kR)
      have HgR := hideIt hgR
      have HDr := hideIt ((hin.1.after aw).after b1)
      have HDn := hideIt (fun h => (hin.2 h).1)
      have HFar : Hid (u6.ownBlock ≠ some gR) := hideIt (fun e => by
        have := (hown.lt gR e).2
        omega)
      clear hown hrows hrd aw kP kC hYl hj hx hcx hin b1 kR hV1 hgR hbt
      go_wp2_with (first
        | (simp only [hmr2])
        | (refine copy_pad (E := rdE) (z := Rd.none) rfl (.tmp 30) (.tmp 35) 64 110 Tryz.underlying64 Tryz.szR rfl gR rfl HV1.out.2 x.a x.n x.d x.l rfl HDr.out HDn.out ?_; intro v8 V2 hb8 bw8; have HO8 := hideIt (own_but (own_after HV.out.2.1 HV1.out.1) bw8 (fun k hk e => HFar.out (hk.trans (congrArg some (show k = gR from e))))); have H8 := hideIt (And.intro hb8 bw8); clear hb8 bw8)
        | (at_builtin; refine app_row (E := trE) rfl (.tmp 37) (.tmp 39) 36 64 Tryz.underlying36 Tryz.infoRs rfl (by decide) rfl w.heap.size _ Y rfl (own_after HO8.out (After.rfl.alloc _)) (some ⟨V2.heap.size, 0, none⟩) 1 1 [⟨some ⟨gR, 0, none⟩, 8, 8, pad8 Rd.none x.l⟩] rfl (lit_row (heap_alloc_new V2 _) rfl rfl) (fun h => by cases h) (by have := HV.out.1; unfold maxLen; omega) (by have := HV.out.1; omega) (by have := HV.out.2.2.2.2.1.size; have := HV1.out.1.size; have := H8.out.2.size; simp; omega) ?_; intro v9 V9 hown hb; have HP := hideIt (And.intro hown hb); clear hown hb))
      go_roundw
      case rel =>
        obtain ⟨k1, k2, k3, k4, k5, k6, k7⟩ := HV.out
        have ow2 := HO8.out
        have aA : After V2 (V2.alloc (.cells #[.slice (some ⟨gR, 0, none⟩) 8 8] 64)) := After.rfl.alloc _
        have ow3 := own_after ow2 aA
        have rows2 : RowsAt V2 Y := fun y hy => by
          obtain ⟨g', l', e, hl', hb'⟩ := k3 y hy
          have hb1 := (HV1.out.1.block g' (blk_lt hb') (fun t => t)).trans hb'
          have hne : ¬ g' = gR := by have := blk_lt hb'; have := HgR.out; omega
          exact ⟨g', l', e, hl', (H8.out.2.block g' (blk_lt hb1) hne).trans hb1⟩
        have rowsA := rows2.after aA
        have kR2 : (V2.alloc (.cells #[.slice (some ⟨gR, 0, none⟩) 8 8] 64)).heap[gR]? = some (.cells (rdE.flat (pad8 Rd.none x.l)).toArray 110 (0, 0)) := (aA.block gR (blk_lt H8.out.1) (fun t => t)).trans H8.out.1
        have far : ∀ g cs, u6.ownBlock = some g → (V2.alloc (.cells #[.slice (some ⟨gR, 0, none⟩) 8 8] 64)).heap[g]? ≠ some (.cells cs 110 (0, 0)) := fun g cs hg hb => own_far ow3 (by decide) hb hg
        have rows9 := rowsA.but HP.out.2 far
        have kR9 := (HP.out.2.block gR (blk_lt kR2) (fun e => far gR _ e kR2)).trans kR2
        have kPa : (V2.alloc (.cells #[.slice (some ⟨gR, 0, none⟩) 8 8] 64)).heap[gP]? = some (.cells #[.slice ac nc cc, .slice (some ⟨bt, ot, none⟩) nt ct] 38 (0, 0)) := by
          have h1 := (HV1.out.1.block gP (blk_lt k6) (fun t => t)).trans k6
          have h2 := (H8.out.2.block gP (blk_lt h1) (fun e => by have := blk_lt k6; have := HgR.out; have : gP = gR := e; omega)).trans h1
          exact (aA.block gP (blk_lt h2) (fun t => t)).trans h2
        have kCa : (V2.alloc (.cells #[.slice (some ⟨gR, 0, none⟩) 8 8] 64)).heap[gC]? = some (.cells (chE.flat C8).toArray 108 (0, 0)) := by
          have h1 := (HV1.out.1.block gC (blk_lt k7) (fun t => t)).trans k7
          have h2 := (H8.out.2.block gC (blk_lt h1) (fun e => by have := blk_lt k7; have := HgR.out; have : gC = gR := e; omega)).trans h1
          exact (aA.block gC (blk_lt h2) (fun t => t)).trans h2
        have aw2 : After w V2 := (k5.trans HV1.out.1).then H8.out.2 (fun i hi e => by have := k5.size; have := HgR.out; have : i = gR := e; omega)
        refine ⟨j + 1, Y ++ [⟨some ⟨gR, 0, none⟩, 8, 8, pad8 Rd.none x.l⟩], by omega, by go_num, by rw [List.length_append, k1]; rfl, HP.out.1, fun y hy => ?_, ?_, (aw2.trans aA).then HP.out.2 (fun i hi h => by have := (ow3.lt i h).1; omega), (HP.out.2.block gP (blk_lt kPa) (fun e => own_far ow3 (by decide) kPa e)).trans kPa, (HP.out.2.block gC (blk_lt kCa) (fun e => own_far ow3 (by decide) kCa e)).trans kCa⟩
        · rcases List.mem_append.1 hy with h | h
          · exact rows9 y h
          · simp only [List.mem_cons, List.not_mem_nil, or_false] at h
            exact ⟨gR, _, h, pad8_length _ _, kR9⟩
        · rw [List.take_add_one, HTj.out j x HXn.out.2 hjn]
          unfold rdsOf
          rw [List.map_append]
          have : List.map Tr.l Y = T8.take j := k4
          rw [this]
          rfl
      case measure => simp [intOf]; omega
    · have hjK : j = K := by omega
      obtain ⟨k1, k2, k3, k4, k5, k6, k7⟩ := HV.out
      have hg30 : (j : Int) < (nt : Int) → ¬ (j : Int) < 30 := fun h => by have := HK.out.2; omega
      obtain ⟨a6, c6, rfl, hg6, -, -⟩ := ORow.row k2
      have hTR : TRow wr a6 K Y := ⟨by rw [← hjK, ← k1]; exact hg6, k3.in⟩
      have hrK : rdsOf Y = T8 := by rw [k4, hjK, HK.out.1, List.take_of_length_le (Nat.le_refl _)]
      have hCR : CRow wr (some ⟨gC, 0, none⟩) 8 C8 := lit_row k7 (by simp) HC8.out.2.symm
      have HHd : Hid (∀ (V : World), After wr V → ∀ q : Nat, q < K → Calls Tryz.prog 32 #[.slice al L.length cl, .slice (some ⟨gC, 0, none⟩) 8 8, .slice a6 K c6, .int .i64 (q : Int)] V fun e w' => e = .returned (.tuple #[.bool (f q), .int .i64 0]) ∧ After V w') := hideIt (fun V hV q hq => by
        have hYK : Y.length = K := by omega
        have h9 := holds_any (L := L) (C := C8) (X := Y) V al cl (some ⟨gC, 0, none⟩) 8 a6 c6 ((H1.out.after k5).after hV) (by rw [HC8.out.2]; exact hCR.after hV) (by rw [hYK]; exact hTR.after hV) (by have := HK.out.2; omega) (q : Int)
        rw [hrK, HHl.out q hq, HC8.out.2, hYK] at h9
        exact h9)
      have HKm : Hid (K ≤ 30) := hideIt (by have := HK.out.2; omega)
      have K30 : (K : Int) ≤ 30 := by have := HKm.out; omega
      have HA5 := hideIt k5
      rw [k1, hjK]
      have hjnt : (K : Int) < (nt : Int) → ¬ (K : Int) < 30 := by rw [← hjK]; exact hg30
      by_cases hnt : (K : Int) < (nt : Int)
      · have h30 := hjnt hnt
        clear k1 k2 k3 k4 k5 k6 k7 hg6 hTR hrK hCR hjn hjK hj hown hrows hrd aw kP kC hYl hg30 hjnt HV hj30
        go_wp2_with fail
        obtain ⟨U, hU⟩ : ∃ U, U = wr := ⟨_, rfl⟩
        rw [← hU] at HHd HA5 ⊢
        clear p0 p1 lP
        clear hU
        go_loopw [9, 10] (fun s i wq => ∃ q : Nat, q ≤ K ∧ i = .int .i64 (q : Int) ∧ s = .string (G q) ∧ After U wq) (fun _ i _ => K - (intOf i).toNat)
        case atStart => exact ⟨0, Nat.zero_le _, rfl, by rw [hG0], After.rfl⟩
        case round =>
          obtain ⟨q, hq, rfl, rfl, aq⟩ := hrel
          by_cases hqn : q < K
          · have i3 : (q : Int) < (K : Int) := by omega
            have HQ := hideIt (HHd.out _ aq q hqn)
            have HAq := hideIt aq
            have h5 : (G q).size ≤ 30 := by rw [HS.out]; have := HKm.out; omega
            clear aq
            rcases hfq : f q with _ | _
            · have e1 : G (q + 1) = G q ++ ⟨#[48]⟩ := by rw [HG.out, hfq]; rfl
              have E1 := hideIt e1
              rw [hfq] at HQ
              clear e1 hfq
              go_wp2_with fail
              refine HQ.out.mono ?_
              rintro e w2 ⟨rfl, a2⟩
              have A2 := hideIt a2
              clear a2
              go_wp2_with fail
              go_roundw
              case rel => exact ⟨q + 1, by omega, by go_num, by rw [E1.out], HAq.out.trans A2.out⟩
              case measure => simp [intOf]; omega
            · have e1 : G (q + 1) = G q ++ ⟨#[49]⟩ := by rw [HG.out, hfq]; rfl
              have E1 := hideIt e1
              rw [hfq] at HQ
              clear e1 hfq
              go_wp2_with fail
              refine HQ.out.mono ?_
              rintro e w2 ⟨rfl, a2⟩
              have A2 := hideIt a2
              clear a2
              go_wp2_with fail
              go_roundw
              case rel => exact ⟨q + 1, by omega, by go_num, by rw [E1.out], HAq.out.trans A2.out⟩
              case measure => simp [intOf]; omega
          · have i3 : ¬ (q : Int) < (K : Int) := by omega
            have HJ : Hid (q = K) := hideIt (by omega)
            have HAq := hideIt (HA5.out.trans aq)
            clear aq
            go_wp2_with fail
            go_ret
            exact ⟨by show Ending.returned (.string (G q)) = _; rw [HJ.out], HAq.out⟩
      · clear k1 k2 k3 k4 k5 k6 k7 hg6 hTR hrK hCR hjn hjK hj hown hrows hrd aw kP kC hYl hg30 hjnt HV hj30
        go_wp2_with fail
        obtain ⟨U, hU⟩ : ∃ U, U = wr := ⟨_, rfl⟩
        rw [← hU] at HHd HA5 ⊢
        clear p0 p1 lP
        clear hU
        go_loopw [9, 10] (fun s i wq => ∃ q : Nat, q ≤ K ∧ i = .int .i64 (q : Int) ∧ s = .string (G q) ∧ After U wq) (fun _ i _ => K - (intOf i).toNat)
        case atStart => exact ⟨0, Nat.zero_le _, rfl, by rw [hG0], After.rfl⟩
        case round =>
          obtain ⟨q, hq, rfl, rfl, aq⟩ := hrel
          by_cases hqn : q < K
          · have i3 : (q : Int) < (K : Int) := by omega
            have HQ := hideIt (HHd.out _ aq q hqn)
            have HAq := hideIt aq
            have h5 : (G q).size ≤ 30 := by rw [HS.out]; have := HKm.out; omega
            clear aq
            rcases hfq : f q with _ | _
            · have e1 : G (q + 1) = G q ++ ⟨#[48]⟩ := by rw [HG.out, hfq]; rfl
              have E1 := hideIt e1
              rw [hfq] at HQ
              clear e1 hfq
              go_wp2_with fail
              refine HQ.out.mono ?_
              rintro e w2 ⟨rfl, a2⟩
              have A2 := hideIt a2
              clear a2
              go_wp2_with fail
              go_roundw
              case rel => exact ⟨q + 1, by omega, by go_num, by rw [E1.out], HAq.out.trans A2.out⟩
              case measure => simp [intOf]; omega
            · have e1 : G (q + 1) = G q ++ ⟨#[49]⟩ := by rw [HG.out, hfq]; rfl
              have E1 := hideIt e1
              rw [hfq] at HQ
              clear e1 hfq
              go_wp2_with fail
              refine HQ.out.mono ?_
              rintro e w2 ⟨rfl, a2⟩
              have A2 := hideIt a2
              clear a2
              go_wp2_with fail
              go_roundw
              case rel => exact ⟨q + 1, by omega, by go_num, by rw [E1.out], HAq.out.trans A2.out⟩
              case measure => simp [intOf]; omega
          · have i3 : ¬ (q : Int) < (K : Int) := by omega
            have HJ : Hid (q = K) := hideIt (by omega)
            have HAq := hideIt (HA5.out.trans aq)
            clear aq
            go_wp2_with fail
            go_ret
            exact ⟨by show Ending.returned (.string (G q)) = _; rw [HJ.out], HAq.out⟩
end Go.Proofs.YtlfcihanhfabmaaGreatDoor
