/-
  Package block: sectors as values in a walk; last, Read.
-/
import Derived.Test.YtalffdiohjcajaaDbB
import Derived.Test.YtalffdiohjcajaaPhaseO
import Derived.Deep.Cut
import Derived.Deep.DeepMust
namespace Go.Proofs.Ytalffdiohjcajaa
open Go.RowKit
set_option maxRecDepth 8000
theorem After.at {w w' : World} (h : After w w') {g : Nat} {o : Obj} (ho : w.heap[g]? = some o) : w'.heap[g]? = some o := (h.block g (blk_lt ho) (fun t => t)).trans ho
theorem SecAt.after {w w' : World} {g : Nat} {b : List Int} (h : SecAt w g b) (a : After w w') : SecAt w' g b := After.at a h
theorem SecAt.lt {w : World} {g : Nat} {b : List Int} (h : SecAt w g b) : g < w.heap.size := blk_lt h
section
variable {ops : Array Oper} {rest : List Oper} {o : Oper} {a : Act} {w : World} {Q : Exit → Act → World → Prop}
theorem wl_val (hgd : o.guard = none) {s : Sem Value} {v : Value} {w' : World} (he : execOp a.eval o = (do pure (.value (← s)))) (hs : s.run Try.prog w = .ok v w') (h : wpList Try.prog ops Q rest (a.put o.dst v) w') : wpList Try.prog ops Q (o :: rest) a w := by
  refine wpList_plain hgd fun K hK => ?_
  unfold Oper.wp
  simp only [he, Sem.run_bind, hs, Result.andThen_ok, Sem.run_pure]
  exact hK _ _ h
/-- A block for a sector. -/
theorem wl_asec (hgd : o.guard = none) (ho : o.op = .alloc 66)
    (h : ∀ w', SecAt w' w.heap.size sec0 → After w w' → w'.heap.size = w.heap.size + 1 → wpList Try.prog ops Q rest (a.put o.dst (Ptr w.heap.size)) w') : wpList Try.prog ops Q (o :: rest) a w := by
  refine wl_val (s := Instr.alloc 66 true (.tuple #[])) (v := Ptr w.heap.size) (w' := w.alloc (.cells (u8s sec0).toArray 66)) hgd (by unfold execOp; rw [ho]) ?_ (h _ (heap_alloc_new w _) (After.rfl.alloc _) (by simp))
  have hz := Try.zeroSec
  unfold secV at hz
  simp [Instr.alloc, Sem.run_bind, hz, go_sem]
/-- A sector that is handed in by value. -/
theorem wl_bsec (x : Operand) (b : List Int) (hgd : o.guard = none) (ho : o.op = .box 66 x) (hx : a.eval x = secV b)
    (h : ∀ w', SecAt w' w.heap.size b → After w w' → w'.heap.size = w.heap.size + 1 → wpList Try.prog ops Q rest (a.put o.dst (Ptr w.heap.size)) w') : wpList Try.prog ops Q (o :: rest) a w := by
  refine wl_val (s := Instr.box 66 (secV b)) (v := Ptr w.heap.size) (w' := w.alloc (.cells (u8s b).toArray 66)) hgd (by unfold execOp; rw [ho]; simp only [hx]) ?_ (h _ (heap_alloc_new w _) (After.rfl.alloc _) (by simp))
  unfold secV
  simp [Instr.box, go_sem]
theorem wl_lsec (x : Operand) (hgd : o.guard = none) (ho : o.op = .load 66 x) {g off : Nat} (hx : a.eval x = .pointer (some ⟨g, off, none⟩)) (b : List Int) (hr : w.rangeAt g off (u8s b)) (hb : b.length = 64)
    (h : wpList Try.prog ops Q rest (a.put o.dst (secV b)) w) : wpList Try.prog ops Q (o :: rest) a w :=
  wl_val (s := Instr.loadAt 66 (.pointer (some ⟨g, off, none⟩))) hgd (by unfold execOp; rw [ho]; simp only [hx]) (load_sec hr hb) h
theorem wl_ssec (x y : Operand) (hgd : o.guard = none) (ho : o.op = .store 66 x y) {g : Nat} (hx : a.eval x = Ptr g) (c : List Int) (hy : a.eval y = secV c) {b : List Int} (hs : SecAt w g b) (hb : b.length = 64) (hc : c.length = 64)
    (h : ∀ w', SecAt w' g c → But (One g) w w' → w'.heap.size = w.heap.size → wpList Try.prog ops Q rest (a.put o.dst undef) w') : wpList Try.prog ops Q (o :: rest) a w := by
  obtain ⟨w', hrun, h1, h2, h3⟩ := hs.store hb hc
  refine wpList_plain hgd fun K hK => ?_
  unfold Oper.wp execOp
  simp only [ho, hx, hy, Sem.run_bind, hrun, Result.andThen_ok, Sem.run_pure]
  exact hK _ _ (h w' h1 h2 h3)
end
theorem range_but {S : Nat → Prop} {w w' : World} {g o : Nat} {cs : List Value} (h : w.rangeAt g o cs) (b : But S w w') (hg : g < w.heap.size) (hn : ¬ S g) : w'.rangeAt g o cs := fun j v hj => (b.cell hg hn _).trans (h j v hj)
theorem load_blk {w : World} {g : Nat} {T T' : TypeId} {cs : Array Value} {d : TypeDesc} (hb : w.heap[g]? = some (.cells cs T' (0, 0))) (hu : Try.prog.underlying T = some d) (hd : d.isRow = true) (hi : (Try.prog.info? T).map (·.size) = some cs.size) : (loadVar T ⟨g, 0, none⟩).run Try.prog w = .ok (.agg cs) w := by
  have := run_loadVar_mid (P := Try.prog) w g 0 T cs.toList d (fun j v hj => by rw [Nat.zero_add]; exact blk_cell hb (by rw [← Array.getElem?_toList]; exact hj)) hu hd (by simpa using hi)
  simpa using this
theorem ret_cell {F : Func} {R : Ending → World → Prop} {a : Act} {w : World} {p : Tmp} {T T' : TypeId} {g : Nat} {cs : Array Value} {d : TypeDesc} (hr : F.results = #[.cell p T]) (hp : a.tmps.getD p undef = Ptr g) (hb : w.heap[g]? = some (.cells cs T' (0, 0)))
    (hu : Try.prog.underlying T = some d) (hd : d.isRow = true) (hi : (Try.prog.info? T).map (·.size) = some cs.size) (hf : a.defers = []) (hR : R (.returned (.agg cs)) w) : bodyPost Try.prog F R .ret a w := by
  refine bodyPost_ret (v := .agg cs) ?_ hf hR
  have hl := load_blk hb hu hd hi
  have hp' : a.tmps[p]?.getD undef = Ptr g := by simpa using hp
  simp only [results, hr]
  simp [hp', asAddr, hl]
theorem ret_sec {F : Func} {R : Ending → World → Prop} {a : Act} {w : World} {p : Tmp} {g : Nat} {b : List Int} (hr : F.results = #[.cell p 66]) (hp : a.tmps.getD p undef = Ptr g) (hb : SecAt w g b) (hl : b.length = 64)
    (hf : a.defers = []) (hR : R (.returned (secV b)) w) : bodyPost Try.prog F R .ret a w :=
  ret_cell hr hp hb Try.underlying66 rfl (by rw [List.size_toArray, u8s_length, hl]; exact Try.infoSec) hf hR
theorem dvLast {w : World} {d g m : Nat} {L : Int} {x : Dv} (h : DvL w d g m L x) {i : Nat} (hi : i < x.n) : Calls Try.prog 39 #[Ptr d, .int .i64 i] w fun e w' => e = .returned (secV (x.last i)) ∧ After w w' := by
  have hl := (h.ok.s i).1
  have hn1 := h.ok.n1
  have hi2 : (i : Int) < (x.n : Int) := by omega
  have hi0 : (0 : Int) ≤ (i : Int) := by omega
  have HH := hideIt h
  have HI := hideIt hi
  have HE := hideIt (show ∀ b, x.wr i = some b → x.last i = b from fun b hb => last_some hb)
  have HF := hideIt (show x.wr i = none → x.last i = x.kp i from fun hb => last_none hb)
  generalize hlast : x.last i = R at *
  clear h hlast
  go_enter Try.func39, Try.ntmps39
  go_upto_region 1 with (first | (show wpList _ _ _ (_ :: _) _ _; refine wl_asec rfl rfl ?_; intro W1 k1 a1 s1) | fail)
  have h1 := HH.out.but a1 (fun t => t) (fun t => t) (fun t => t)
  have c0 := h1.c0
  have c1 := h1.c1
  have hd1 : d < W1.heap.size := blk_lt h1.at0
  obtain ⟨b, ok, hrun, hcase⟩ := h1.map.look (i := i) (by omega)
  have hkr := h1.row.range HI.out
  have hkl := (h1.ok.k i).1
  have HW := hideIt (And.intro k1 (And.intro a1 (And.intro s1 (And.intro hkr hkl))))
  have HM := hideIt (h1.ok.w i)
  have HKr := hideIt (fun V (a : After W1 V) => range_but hkr a h1.row.lt (fun t => t))
  have hg1 : g < w.heap.size := HH.out.row.lt
  clear k1 a1 s1 h1 hkr hkl
  rcases hcase with ⟨rfl, e⟩ | ⟨rfl, e, rfl⟩
  · have hRb := HE.out b e
    have hlb := (HM.out b e).2.1
    subst hRb
    clear e
    go_wp2_with (first
      | (show wpList _ _ _ (_ :: _) _ _; refine wl_asec rfl rfl ?_; intro W2 k2 a2 s2; have K2 := hideIt (And.intro k2 (And.intro a2 s2)); clear k2 a2 s2)
      | (show wpList _ _ _ (_ :: _) _ _; refine wl_ssec _ _ rfl rfl rfl _ rfl K2.out.1 rfl hlb ?_; intro W3 k3 b3 s3; have K3 := hideIt (And.intro k3 (And.intro b3 (And.intro s3 ((HW.out.1.after K2.out.2.1).but b3 (fun e => by have := HW.out.2.2.1; have e : w.heap.size = W1.heap.size := e; omega))))); clear k3 b3 s3)
      | (show wpList _ _ _ (_ :: _) _ _; refine wl_lsec _ rfl rfl rfl _ K3.out.1.range hlb ?_)
      | (show wpList _ _ _ (_ :: _) _ _; refine wl_ssec _ _ rfl rfl rfl _ rfl K3.out.2.2.2 rfl hlb ?_; intro W4 k4 b4 s4; have K4 := hideIt (And.intro k4 (And.intro b4 s4)); clear k4 b4 s4)
      | fail)
    refine ret_sec Try.results39 rfl K4.out.1 hlb rfl ⟨rfl, ?_⟩
    have s1 := HW.out.2.2.1
    exact (After.then ((HW.out.2.1.trans K2.out.2.1).then K3.out.2.1 (fun k hk e => by have e : k = W1.heap.size := e; omega)) K4.out.2.1 (fun k hk e => by have e : k = w.heap.size := e; omega))
  · have hRb := HF.out e
    have hlb := hl
    rw [← hRb] at HKr
    clear e
    go_wp2_with (first
      | (show wpList _ _ _ (_ :: _) _ _; refine wl_asec rfl rfl ?_; intro W2 k2 a2 s2; have c0' := (a2.cell hd1 0).trans c0; have K2 := hideIt (And.intro k2 (And.intro a2 s2)); clear k2 a2 s2)
      | (show wpList _ _ _ (_ :: _) _ _; refine wl_ssec _ _ rfl rfl rfl _ rfl K2.out.1 rfl rfl ?_; intro W3 k3 b3 s3; have HK3 := hideIt (range_but (HKr.out _ K2.out.2.1) b3 (Nat.lt_of_lt_of_le hg1 (Nat.le_trans HW.out.2.1.size K2.out.2.1.size)) (fun e => by have := HW.out.2.1.size; have e : g = W1.heap.size := e; omega)); have c0'' := (b3.cell (g := d) (Nat.lt_of_lt_of_le hd1 K2.out.2.1.size) (fun e => by have e : d = W1.heap.size := e; omega) 0).trans c0'; have K3 := hideIt (And.intro k3 (And.intro b3 (And.intro s3 (And.intro ((HW.out.1.after K2.out.2.1).but b3 (fun e => by have := HW.out.2.2.1; have e : w.heap.size = W1.heap.size := e; omega)) (K2.out.2.1.size))))); clear k3 b3 s3)
      | (show wpList _ _ _ (_ :: _) _ _; refine wl_lsec _ rfl rfl rfl R HK3.out hlb ?_)
      | (show wpList _ _ _ (_ :: _) _ _; refine wl_ssec _ _ rfl rfl rfl _ rfl K3.out.2.2.2.1 rfl hlb ?_; intro W4 k4 b4 s4; have K4 := hideIt (And.intro k4 (And.intro b4 s4)); clear k4 b4 s4)
      | fail)
    refine ret_sec Try.results39 rfl K4.out.1 hlb rfl ⟨rfl, ?_⟩
    have s1 := HW.out.2.2.1
    exact (After.then ((HW.out.2.1.trans K2.out.2.1).then K3.out.2.1 (fun k hk e => by have e : k = W1.heap.size := e; omega)) K4.out.2.1 (fun k hk e => by have e : k = w.heap.size := e; omega))
end Go.Proofs.Ytalffdiohjcajaa
