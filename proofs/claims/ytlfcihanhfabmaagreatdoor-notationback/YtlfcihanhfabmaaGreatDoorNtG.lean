/-
  The reader's whole; what was thrown is caught; Parse.
-/
import Derived.Test.YtlfcihanhfabmaaGreatDoorNtF
import Derived.Defers
import Derived.Recover
namespace Go.Proofs.YtlfcihanhfabmaaGreatDoor
open Go.RowKit
set_option maxRecDepth 8000
open L1 (S)
/-- What whole comes to. -/
def Whole (w0 : World) (g : Nat) (s : W8) (w : World) (e : Ending) (w' : World) : Prop :=
  match wholeP (wds (lex 0 s)) with
  | .ok h => ∃ v', e = .returned (.tuple #[]) ∧ RdX w0 w' g s 0 v' [] h.ns ∧ Goes g (.slice none 0 0) w v' w'
  | .error k => e = .panicked (Plc (plc s k)) ∧ But (Own g (.slice none 0 0)) w w'
theorem hd_nil {ts : List (Nat × W8)} {s : W8} (c : Cur s ts) (h : hdT ts = []) : ts = [] := by
  cases ts with
  | nil => rfl
  | cons t r => exact absurd h (c.ne t (List.mem_cons_self ..))
set_option maxHeartbeats 400000 in
theorem whole_any {w0 w : World} {g : Nat} {s : W8} (x : RdM w0 w g s 0 [] 0 (.slice none 0 0) []) (hs : s.length ≤ 1024) (hl : Laid w0) :
    Calls Tryz.prog 29 #[Ptr g] w fun e w' => Whole w0 g s w e w' := by
  have HS := hideIt (start_any x hs hl)
  have HD := hideIt (or_all (w0 := w0) (g := g) (s := s) ((lex 0 s).length + 1) 0)
  have eW : wholeP (wds (lex 0 s)) = bnd (orP (pU ((lex 0 s).length + 1) 0) (wds (lex 0 s)) []) (fun g => if hd g.ws = [] then .ok g else .error g.ws.length) := by unfold wholeP; rw [wds_length]
  clear x hs hl
  rcases hr : orP (pU ((lex 0 s).length + 1) 0) (wds (lex 0 s)) [] with k | h
  · have HW := hideIt (eW.trans (bnd_no hr))
    have HR := hideIt hr
    clear hr eW
    go_enter Tryz.func29, Tryz.ntmps29
    go_wp2_with fail
    refine HS.out.mono ?_
    rintro e w1 ⟨rfl, y1, b1⟩
    have HY1 := hideIt (And.intro y1 b1)
    clear y1 b1
    go_wp2_with fail
    refine (HD.out.no HR.out (by omega) HY1.out.1).mono ?_
    rintro e w2 ⟨rfl, b2⟩
    refine ⟨rfl, ?_⟩
    unfold Whole
    rw [HW.out]
    exact ⟨rfl, (Goes.one HY1.out.2).ends b2⟩
  · have HR := hideIt hr
    have e1 := eW.trans (bnd_ok hr)
    by_cases hc : hd h.ws = []
    · rw [if_pos hc] at e1
      have HW := hideIt e1
      have HC := hideIt hc
      clear hr eW e1 hc
      go_enter Tryz.func29, Tryz.ntmps29
      go_wp2_with fail
      refine HS.out.mono ?_
      rintro e w1 ⟨rfl, y1, b1⟩
      have HY1 := hideIt (And.intro y1 b1)
      clear y1 b1
      go_wp2_with fail
      refine (HD.out.yes HR.out (by omega) HY1.out.1).mono ?_
      rintro e w2 ⟨v2, ts2, e2, rfl, y2, k2⟩
      obtain ⟨-, p0, p1, p2, p3, p4, -⟩ := five_at y2.m.blk
      have hnil : hdT ts2 = [] := by rw [← hd_wds, e2]; exact HC.out
      have hts : ts2 = [] := hd_nil y2.cur hnil
      have hem : (S (hdT ts2)).toList.isEmpty = true := by rw [ByteArray.toList_eq, L1.S_list, hnil]; rfl
      have HY2 := hideIt (And.intro hts (And.intro y2 k2))
      clear e2 y2 k2 hnil hts
      go_wp2_with fail
      refine (must_yes g _).mono ?_
      rintro e w3 ⟨rfl, rfl⟩
      go_wp2_with fail
      go_end0
      unfold Whole
      rw [HW.out]
      obtain ⟨hts, y2, k2⟩ := HY2.out
      rw [hts] at y2
      exact ⟨v2, rfl, y2, (Goes.one HY1.out.2).trans k2⟩
    · rw [if_neg hc] at e1
      have HW := hideIt e1
      have HC := hideIt hc
      clear hr eW e1 hc
      go_enter Tryz.func29, Tryz.ntmps29
      go_wp2_with fail
      refine HS.out.mono ?_
      rintro e w1 ⟨rfl, y1, b1⟩
      have HY1 := hideIt (And.intro y1 b1)
      clear y1 b1
      go_wp2_with fail
      refine (HD.out.yes HR.out (by omega) HY1.out.1).mono ?_
      rintro e w2 ⟨v2, ts2, e2, rfl, y2, k2⟩
      obtain ⟨-, p0, p1, p2, p3, p4, -⟩ := five_at y2.m.blk
      have hem : (S (hdT ts2)).toList.isEmpty = false := by
        rw [ByteArray.toList_eq, L1.S_list, ← hd_wds, e2]
        have := HC.out
        generalize hd h.ws = l at this
        cases l with
        | nil => exact absurd rfl this
        | cons a r => rfl
      have HY2 := hideIt (And.intro e2 (And.intro y2 k2))
      clear e2 y2 k2
      go_wp2_with fail
      refine (must_no HY2.out.2.1.m).mono ?_
      rintro e w3 ⟨rfl, rfl⟩
      go_wp2_with fail
      refine ⟨rfl, ?_⟩
      unfold Whole
      rw [HW.out]
      exact ⟨by rw [← HY2.out.2.1.cur.plc, ← HY2.out.1, wds_length], ((Goes.one HY1.out.2).trans HY2.out.2.2).but⟩
theorem catch_idle (p q : Addr) (w : World) :
    CallsD Tryz.prog 47 #[.pointer (some p), .pointer (some q)] .returning w fun e u' w' => e = .returned (.tuple #[]) ∧ u' = .returning ∧ w' = w := by
  refine callsD_of_wpS Tryz.func47 rfl fun c₀ cs hu => ?_
  apply wpS_seq
  apply wpS_region
  simp [wpOpsS, go_sem, recoverD, hu, Tryz.ntmps47, Exit.thenS]
  refine wpS_of_wp ?_
  go_wp2
  cases c₀
  simp_all [bodyPostS, results, Tryz.results47]
theorem is_place (c : Int) (w : World) : (Instr.typeAssert (.iface 84 (.int .i64 c)) 20 84 true).run Tryz.prog w = .ok (.tuple #[.int .i64 c, .bool true]) w := by
  simp [Instr.typeAssert, go_sem]
set_option maxHeartbeats 400000 in
theorem catch_place (g h : Nat) (x y : Int) (c : Nat) (w : World) (_hg : g < w.heap.size) (_hh : h < w.heap.size) (hgh : g ≠ h) (hc : w.cell? ⟨g, 0, none⟩ = some (.int .i64 x)) (hz : w.frozen? ⟨g, 0, none⟩ = false) (hc2 : w.cell? ⟨h, 0, none⟩ = some (.int .i64 y)) (hz2 : w.frozen? ⟨h, 0, none⟩ = false) :
    CallsD Tryz.prog 47 #[.pointer (some ⟨g, 0, none⟩), .pointer (some ⟨h, 0, none⟩)] (.panicking (Plc c)) w fun e u' w' =>
      e = .returned (.tuple #[]) ∧ u' = .panicking [{ v := .iface 84 (.int .i64 (c : Int)), recovered := true }] ∧ w' = (w.setCell ⟨g, 0, none⟩ (.int .i64 (c : Int))).setCell ⟨h, 0, none⟩ (.int .i64 4) := by
  refine callsD_of_wpS Tryz.func47 rfl fun c₀ cs hu => ?_
  apply wpS_seq
  apply wpS_region
  unfold Plc at hu
  simp [wpOpsS, go_sem, recoverD, hu, Tryz.ntmps47, Exit.thenS]
  refine wpS_of_wp (Code.wp_mono (Q := fun e a w' => e = .normal ∧ a.defers = [] ∧ w' = (w.setCell ⟨g, 0, none⟩ (.int .i64 (c : Int))).setCell ⟨h, 0, none⟩ (.int .i64 4)) ?_ ?_)
  · rintro e a w' ⟨rfl, hd, rfl⟩
    exact ⟨hd, _, rfl, .tuple #[], by simp [results, Tryz.results47], rfl, rfl, rfl⟩
  clear hu
  rw [show (#[Value.pointer (some ⟨g, 0, none⟩), Value.pointer (some ⟨h, 0, none⟩)] ++ (Array.replicate 10 undef).setIfInBounds 3 (Value.iface 84 (Value.int IntKind.i64 (c : Int)))) = #[Value.pointer (some ⟨g, 0, none⟩), Value.pointer (some ⟨h, 0, none⟩), undef, undef, undef, Value.iface 84 (Value.int IntKind.i64 (c : Int)), undef, undef, undef, undef, undef, undef] from rfl]
  go_wp2
  rw [is_place]
  go_wp2
theorem set_there {w : World} {g : Nat} {x v : Value} {T : TypeId} (h : w.heap[g]? = some (.cells #[x] T (0, 0))) : (w.setCell ⟨g, 0, none⟩ v).cell? ⟨g, 0, none⟩ = some v := by
  simp [World.setCell, World.cell?, Array.getElem?_modify, h]
/-- What the function that catches answers. -/
def Caught (w0 : World) (g : Nat) (s : W8) (e : Ending) (w' : World) : Prop :=
  match wholeP (wds (lex 0 s)) with
  | .ok h => ∃ v', e = .returned (.tuple #[.int .i64 0, .int .i64 0]) ∧ RdX w0 w' g s 0 v' [] h.ns
  | .error k => e = .returned (.tuple #[.int .i64 (plc s k : Int), .int .i64 4]) ∧ After w0 w'
set_option maxHeartbeats 400000 in
theorem caught_any {w0 w : World} {g : Nat} {s : W8} (x : RdM w0 w g s 0 [] 0 (.slice none 0 0) []) (hs : s.length ≤ 1024) (hl : Laid w0) :
    Calls Tryz.prog 28 #[.func (.func 29) #[Ptr g] #[]] w fun e w' => Caught w0 g s e w' := by
  have hmf : ∀ (fn : Fn) (first cap : Array Value) (w : World), (Instr.makeFunc fn first cap).run Tryz.prog w = .ok (.func fn first cap) w := fun _ _ _ _ => rfl
  have hin := enter_of Tryz.func29 (by kernel_rfl) (by kernel_rfl)
  obtain ⟨wB, hwB⟩ : ∃ W, W = (w.alloc (.cells #[.int .i64 0] 3)).alloc (.cells #[.int .i64 0] 24) := ⟨_, rfl⟩
  have aB : After w wB := by rw [hwB]; exact (After.rfl.alloc _).alloc _
  have h1 : wB.heap[w.heap.size]? = some (.cells #[.int .i64 0] 3 (0, 0)) := by
    rw [hwB, Below.heap_alloc _ _ _ (by simp)]; exact heap_alloc_new w _
  have h2 : wB.heap[w.heap.size + 1]? = some (.cells #[.int .i64 0] 24 (0, 0)) := by
    rw [hwB]
    have := heap_alloc_new (w.alloc (.cells #[.int .i64 0] 3)) (.cells #[.int .i64 0] 24)
    rw [World.size_alloc] at this; exact this
  have HB := hideIt (And.intro h1 h2)
  have HWh := hideIt (whole_any (x.after aB) hs hl)
  have HG := hideIt (And.intro x.lt (And.intro x.base (And.intro (x.aft.trans aB) x.aft.size)))
  clear x hs hl aB h1 h2
  go_enter_defers Tryz.func28, Tryz.ntmps28
  go_wp2_with (simp only [hin])
  rw [← hwB]
  clear hwB
  refine HWh.out.mono ?_
  intro e w1 hw
  unfold Whole at hw
  rcases hr : wholeP (wds (lex 0 s)) with k | h
  · rw [hr] at hw
    obtain ⟨rfl, b1⟩ := hw
    have e1 := (b1.block _ (blk_lt HB.out.1) (fun e => e.elim (fun e => by have := HG.out.1; have : w.heap.size = g := e; omega) (fun e => by cases e))).trans HB.out.1
    have e2 := (b1.block _ (blk_lt HB.out.2) (fun e => e.elim (fun e => by have := HG.out.1; have : w.heap.size + 1 = g := e; omega) (fun e => by cases e))).trans HB.out.2
    refine leaves_cons (f := 47) (args := #[.pointer (some ⟨w.heap.size, 0, none⟩), .pointer (some ⟨w.heap.size + 1, 0, none⟩)]) (by simp) (by simp [go_sem]) ?_
    refine (catch_place w.heap.size (w.heap.size + 1) 0 0 (plc s k) _ (blk_lt e1) (blk_lt e2) (by omega) (blk_cell e1 rfl) (blk_soft e1 0) (blk_cell e2 rfl) (blk_soft e2 0)).mono ?_
    rintro e u' w'' ⟨rfl, rfl, rfl⟩
    simp only [settle, List.dropWhile_nil, Leaves]
    have g1 : ((w1.setCell ⟨w.heap.size, 0, none⟩ (.int .i64 (plc s k : Int))).setCell ⟨w.heap.size + 1, 0, none⟩ (.int .i64 4)).cell? ⟨w.heap.size, 0, none⟩ = some (.int .i64 (plc s k : Int)) := by
      rw [(but_one _ (w.heap.size + 1) 0 _).cell (by simp [World.setCell]; exact blk_lt e1) (fun e => by have : w.heap.size = w.heap.size + 1 := e; omega)]
      exact set_there e1
    have g2 : ((w1.setCell ⟨w.heap.size, 0, none⟩ (.int .i64 (plc s k : Int))).setCell ⟨w.heap.size + 1, 0, none⟩ (.int .i64 4)).cell? ⟨w.heap.size + 1, 0, none⟩ = some (.int .i64 4) := by
      refine set_there (x := .int .i64 0) (T := 24) ?_
      exact ((but_one _ w.heap.size 0 _).block _ (blk_lt e2) (fun e => by have : w.heap.size + 1 = w.heap.size := e; omega)).trans e2
    refine ⟨.tuple #[.int .i64 (plc s k : Int), .int .i64 4], by simp [results, Tryz.results28, go_sem, g1, g2], ?_⟩
    unfold Caught
    rw [hr]
    refine ⟨rfl, ?_⟩
    have hsz := HG.out.2.2.2
    have hb := HG.out.2.1
    exact ((HG.out.2.2.1.then b1 (fun i hi e => e.elim (fun e => by have : i = g := e; omega) (fun e => by cases e))).set ⟨w.heap.size, 0, none⟩ hsz _).set ⟨w.heap.size + 1, 0, none⟩ (by show w0.heap.size ≤ w.heap.size + 1; omega) _
  · rw [hr] at hw
    obtain ⟨v', rfl, y1, k1⟩ := hw
    have e1 := (k1.but.block _ (blk_lt HB.out.1) (fun e => e.elim (fun e => by have := HG.out.1; have : w.heap.size = g := e; omega) (fun e => by cases e))).trans HB.out.1
    have e2 := (k1.but.block _ (blk_lt HB.out.2) (fun e => e.elim (fun e => by have := HG.out.1; have : w.heap.size + 1 = g := e; omega) (fun e => by cases e))).trans HB.out.2
    have hv : ∀ q, (q = w.heap.size ∨ q = w.heap.size + 1) → v'.ownBlock ≠ some q := fun q hq e => by
      rcases k1.new q e with h1 | h1
      · cases h1
      · have := blk_lt HB.out.2; omega
    have HY := hideIt (And.intro y1 (And.intro e1 (And.intro e2 hv)))
    have c1 := blk_cell e1 (i := 0) rfl
    have c2 := blk_cell e2 (i := 0) rfl
    have z1 := blk_soft e1 0
    have z2 := blk_soft e2 0
    have l1 := blk_lt e1
    have l2 := blk_lt e2
    clear y1 k1 e1 e2 hv
    go_wp2
    obtain ⟨y1, e1, e2, hv⟩ := HY.out
    have b1 := but_one w1 w.heap.size 0 (.int .i64 0)
    have b2 := but_one (w1.setCell ⟨w.heap.size, 0, none⟩ (.int .i64 0)) (w.heap.size + 1) 0 (.int .i64 0)
    have g1 : ((w1.setCell ⟨w.heap.size, 0, none⟩ (.int .i64 0)).setCell ⟨w.heap.size + 1, 0, none⟩ (.int .i64 0)).cell? ⟨w.heap.size, 0, none⟩ = some (.int .i64 0) := by
      rw [b2.cell (by simp [World.setCell]; exact blk_lt e1) (fun e => by have : w.heap.size = w.heap.size + 1 := e; omega)]
      exact set_there e1
    have g2 : ((w1.setCell ⟨w.heap.size, 0, none⟩ (.int .i64 0)).setCell ⟨w.heap.size + 1, 0, none⟩ (.int .i64 0)).cell? ⟨w.heap.size + 1, 0, none⟩ = some (.int .i64 0) := by
      refine set_there (x := .int .i64 0) (T := 24) ?_
      exact (b1.block _ (blk_lt e2) (fun e => by have : w.heap.size + 1 = w.heap.size := e; omega)).trans e2
    have hg := HG.out.1
    have hsz := HG.out.2.2.2
    have y2 := (y1.far b1 (by omega) (hv _ (.inl rfl)) hsz).far b2 (by omega) (hv _ (.inr rfl)) (by omega)
    refine leaves_cons (f := 47) (args := #[.pointer (some ⟨w.heap.size, 0, none⟩), .pointer (some ⟨w.heap.size + 1, 0, none⟩)]) (by simp) (by simp [go_sem]) ?_
    refine (catch_idle ⟨w.heap.size, 0, none⟩ ⟨w.heap.size + 1, 0, none⟩ _).mono ?_
    rintro e u' w'' ⟨rfl, rfl, rfl⟩
    simp only [Leaves, settle]
    refine ⟨.tuple #[.int .i64 0, .int .i64 0], by simp [results, Tryz.results28, go_sem, g1, g2], ?_⟩
    unfold Caught
    rw [hr]
    exact ⟨v', rfl, y2⟩
/-- What Parse answers. -/
def Parsed (w : World) (s : W8) (e : Ending) (w' : World) : Prop :=
  ∃ v, e = .returned (.tuple #[v, .int .i64 ((parseA s).at_ : Int), .int .i64 (parseA s).e]) ∧ ORow ndE 33 w' w.heap.size v (parseA s).ns ∧ After w w'
set_option maxHeartbeats 1000000 in
theorem parse_is (s : W8) (w : World) (hl : Laid w) (hz : s.length ≤ maxLen) : Calls Tryz.prog 14 #[.string (S s)] w fun e w' => Parsed w s e w' := by
  unfold maxLen at hz
  by_cases h1 : 1024 < s.length
  · have i1 : (1024 : Int) < ((S s).size : Int) := by rw [L1.S_size]; omega
    have HP : Hid (parseA s = ⟨[], 1024, 5⟩) := hideIt (by unfold parseA; rw [if_pos h1])
    clear hl hz h1
    go_enter Tryz.func14, Tryz.ntmps14
    go_wp2
    go_ret3
    refine ⟨.slice none 0 0, by rw [HP.out]; rfl, ?_, After.rfl⟩
    rw [HP.out]
    exact orow_nil _ _ _ _
  · have i1 : ¬ (1024 : Int) < ((S s).size : Int) := by rw [L1.S_size]; omega
    have HM : Hid (RdM w (w.alloc (.cells #[.string (S s), .int .i64 0, .string ⟨#[]⟩, .int .i64 0, .slice none 0 0] 57)) w.heap.size s 0 [] 0 (.slice none 0 0) []) :=
      hideIt ⟨heap_alloc_new w _, orow_nil _ _ _ _, Nat.le_refl _, After.rfl.alloc _⟩
    have HC := hideIt (caught_any HM.out (by omega) hl)
    unfold Caught at HC
    have hmf : ∀ (fn : Fn) (first cap : Array Value) (w : World), (Instr.makeFunc fn first cap).run Tryz.prog w = .ok (.func fn first cap) w := fun _ _ _ _ => rfl
    have e0 : parseA s = match wholeP (wds (lex 0 s)) with
      | .error k => ⟨[], plc s k, 4⟩
      | .ok g => if 32 < g.ns.length then ⟨[], s.length, 6⟩ else ⟨g.ns, 0, 0⟩ := by unfold parseA; rw [if_neg h1]; rfl
    clear hl hz h1
    rcases hr : wholeP (wds (lex 0 s)) with k | h
    · rw [hr] at e0 HC
      have HP := hideIt e0
      clear e0 hr
      go_enter Tryz.func14, Tryz.ntmps14
      go_wp2_with fail
      refine HC.out.mono ?_
      rintro e w1 ⟨rfl, a1⟩
      have HA := hideIt a1
      clear a1
      go_wp2
      go_ret3
      refine ⟨.slice none 0 0, by rw [HP.out]; rfl, ?_, HA.out⟩
      rw [HP.out]
      exact orow_nil _ _ _ _
    · rw [hr] at e0 HC
      have e1 : parseA s = if 32 < h.ns.length then ⟨[], s.length, 6⟩ else ⟨h.ns, 0, 0⟩ := e0
      by_cases hm : 32 < h.ns.length
      · rw [if_pos hm] at e1
        have HP := hideIt e1
        have i2 : (32 : Int) < (h.ns.length : Int) := by omega
        clear e0 e1 hr hm
        go_enter Tryz.func14, Tryz.ntmps14
        go_wp2_with fail
        refine HC.out.mono ?_
        rintro e w1 ⟨v1, rfl, y1⟩
        obtain ⟨a, c, rfl, -⟩ := y1.m.own.row
        obtain ⟨-, p0, p1, p2, p3, p4, -⟩ := five_at y1.m.blk
        have HA := hideIt y1.aft
        have hlt := y1.m.lt
        clear y1
        go_wp2
        go_ret3
        refine ⟨.slice none 0 0, by rw [HP.out]; rfl, ?_, HA.out⟩
        rw [HP.out]
        exact orow_nil _ _ _ _
      · rw [if_neg hm] at e1
        have HP := hideIt e1
        have i2 : ¬ (32 : Int) < (h.ns.length : Int) := by omega
        clear e0 e1 hr hm
        go_enter Tryz.func14, Tryz.ntmps14
        go_wp2_with fail
        refine HC.out.mono ?_
        rintro e w1 ⟨v1, rfl, y1⟩
        have HO := hideIt (And.intro y1.m.own y1.aft)
        obtain ⟨a, c, rfl, -⟩ := y1.m.own.row
        obtain ⟨-, p0, p1, p2, p3, p4, -⟩ := five_at y1.m.blk
        have hlt := y1.m.lt
        clear y1
        go_wp2
        go_ret3
        refine ⟨.slice a h.ns.length c, by rw [HP.out]; rfl, ?_, HO.out.2⟩
        rw [HP.out]
        exact HO.out.1
end Go.Proofs.YtlfcihanhfabmaaGreatDoor
