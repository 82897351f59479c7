/-
  The document's New: an exec that is being made.
-/
import Derived.Test.YtkjjjibglaffnaaRxF
namespace Go.Proofs.Ytkjjjibglaffnaa
open Go.RowKit
set_option maxRecDepth 8000
abbrev nrC (vF vS vL vH vV : Value) : Array Value := #[vF, vS, vL, vH, vV, .int .i64 0]
/-- The document's exec, as it is being made. -/
structure Nr (w0 w : World) (p : Nat) (vF vS vL vH vV : Value) (fs : List Fw) : Prop where
  at0 : w.heap[p]? = some (.cells (nrC vF vS vL vH vV) 86 (0, 0))
  oF : ORow fwE 23 w w0.heap.size vF fs
  of : ∀ f ∈ fs, ORow inE 3 w w0.heap.size (.slice f.a f.l.length f.c) f.l
  pb : w0.heap.size ≤ p
  aft : After w0 w
section
variable {w0 w w' : World} {p : Nat} {vF vS vL vH vV : Value} {fs : List Fw}
theorem Nr.after (h : Nr w0 w p vF vS vL vH vV fs) (a : After w w') : Nr w0 w' p vF vS vL vH vV fs :=
  ⟨(a.block p (blk_lt h.at0) (fun t => t)).trans h.at0, own_after h.oF a, fun f hf => own_after (h.of f hf) a, h.pb, h.aft.trans a⟩
/-- A store into the exec leaves what is owned by rows. -/
theorem own_put {α : Type} {E : Enc α} {t : TypeId} {B : Nat} {v : Value} {xs : List α} {cs : Array Value} (ho : ORow E t w B v xs) (hp : w.heap[p]? = some (.cells cs 86 (0, 0))) (ht : 86 ≠ t) (i : Nat) (u : Value) : ORow E t (w.setCell ⟨p, i, none⟩ u) B v xs :=
  own_but ho (but_one w p i u) (fun k hk e => own_farT ho ht hp (by rw [hk]; exact congrArg some e))
/-- A cell behind the first one is written. -/
theorem Nr.put (h : Nr w0 w p vF vS vL vH vV fs) {vS' vL' vH' vV' : Value} (i : Nat) (u : Value) (e : (nrC vF vS vL vH vV).setIfInBounds i u = nrC vF vS' vL' vH' vV') : Nr w0 (w.setCell ⟨p, i, none⟩ u) p vF vS' vL' vH' vV' fs :=
  ⟨by rw [← e]; exact blk_put h.at0 i u, own_put h.oF h.at0 (by decide) i u, fun f hf => own_put (h.of f hf) h.at0 (by decide) i u, h.pb, h.aft.then (but_one w p i u) (fun k hk s => by have s : k = p := s; have := h.pb; omega)⟩
/-- A frame more is appended, and not yet stored. -/
theorem Nr.at1 (h : Nr w0 w p vF vS vL vH vV fs) (b : But (fun k => vF.ownBlock = some k) w w') : w'.heap[p]? = some (.cells (nrC vF vS vL vH vV) 86 (0, 0)) :=
  (b.block p (blk_lt h.at0) (own_farT h.oF (by decide) h.at0)).trans h.at0
theorem Nr.land (h : Nr w0 w p vF vS vL vH vV fs) {f : Fw} {v : Value} (hf : ORow inE 3 w w0.heap.size (.slice f.a f.l.length f.c) f.l) (h1 : ORow fwE 23 w' w0.heap.size v (fs ++ [f])) (b : But (fun k => vF.ownBlock = some k) w w') : Nr w0 (w'.setCell ⟨p, 0, none⟩ v) p v vS vL vH vV (fs ++ [f]) := by
  have ha := h.at1 b
  have keep : ∀ g : Fw, ORow inE 3 w w0.heap.size (.slice g.a g.l.length g.c) g.l → ORow inE 3 (w'.setCell ⟨p, 0, none⟩ v) w0.heap.size (.slice g.a g.l.length g.c) g.l := fun g hg =>
    own_put (own_but hg b (fun k hk e => own_apart h.oF hg (by decide) hk e)) ha (by decide) 0 v
  refine ⟨blk_put ha 0 v, own_put h1 ha (by decide) 0 v, fun g hg => ?_, h.pb, (h.aft.then b (fun k hk e => ?_)).then (but_one w' p 0 v) (fun k hk e => ?_)⟩
  · rcases List.mem_append.1 hg with hg | hg
    · exact keep g (h.of g hg)
    · obtain rfl := List.mem_singleton.1 hg
      exact keep g hf
  · have := (h.oF.lt k e).1; omega
  · have := h.pb; have e : k = p := e; omega
end
theorem Try.infoPr : (Try.prog.info? 65).map (fun i => (i.zero, i.size, i.bytes)) = some (some (.agg #[.int .i64 0, .int .i64 0]), 2, 16) := by kernel_rfl
theorem Try.infoBo : (Try.prog.info? 4).map (fun i => (i.zero, i.size, i.bytes)) = some (some (.bool false), 1, 1) := by kernel_rfl
theorem make_bo (n : Nat) (hn : n ≤ 1000) (w : World) : (Instr.makeSlice 84 (.int .i64 (n : Int)) (.int .i64 (n : Int))).run Try.prog w = .ok (.slice (some ⟨w.heap.size, 0, none⟩) n n) (w.alloc (.cells (List.replicate n (Value.bool false)).toArray 4)) := by
  obtain ⟨i0, hi, hz⟩ := Option.map_eq_some_iff.1 Try.infoBo
  simp only [Prod.mk.injEq] at hz
  obtain ⟨hz0, hz1, hz2⟩ := hz
  have := run_make (P := Try.prog) w 84 4 i0 _ Try.underlying84 hi hz0 .i64 .i64 (n : Int) (n : Int) (by omega) (Int.le_refl _) (by rw [hz2]; omega) (by omega)
  rw [this, hz1, Int.toNat_natCast, Nat.mul_one]
  congr 3
  apply Array.toList_inj.1
  show (madeCells #[.bool false] n).toList = _
  rw [toList_madeCells_one]
theorem make_in (n : Nat) (hn : n ≤ 1000) (w : World) : (Instr.makeSlice 23 (.int .i64 (n : Int)) (.int .i64 (n : Int))).run Try.prog w = .ok (.slice (some ⟨w.heap.size, 0, none⟩) n n) (w.alloc (.cells (List.replicate n (Value.int .i64 0)).toArray 3)) := by
  obtain ⟨i0, hi, hz⟩ := Option.map_eq_some_iff.1 Try.infoIn
  simp only [Prod.mk.injEq] at hz
  obtain ⟨hz0, hz1, hz2⟩ := hz
  have := run_make (P := Try.prog) w 23 3 i0 _ Try.underlying23 hi hz0 .i64 .i64 (n : Int) (n : Int) (by omega) (Int.le_refl _) (by rw [hz2]; omega) (by omega)
  rw [this, hz1, Int.toNat_natCast, Nat.mul_one]
  congr 3
  apply Array.toList_inj.1
  show (madeCells #[.int .i64 0] n).toList = _
  rw [toList_madeCells_one]
theorem lkH_new (lk : List (Int × Int)) : lkH (mkL lk) = (List.replicate lk.length (Value.bool false)).toArray := by
  unfold lkH mkL
  rw [List.map_map]
  congr 1
  induction lk with
  | nil => rfl
  | cons q r ih => rw [List.map_cons, ih, List.length_cons, List.replicate_succ]; rfl
theorem lkV_new (lk : List (Int × Int)) : lkV (mkL lk) = (List.replicate lk.length (Value.int .i64 0)).toArray := by
  unfold lkV mkL
  rw [List.map_map]
  congr 1
  induction lk with
  | nil => rfl
  | cons q r ih => rw [List.map_cons, ih, List.length_cons, List.replicate_succ]; rfl
/-- What New leaves behind. -/
def RMade (w : World) (fr : List (List Int)) (st : List Int) (lk : List (Int × Int)) (e : Ending) (w' : World) : Prop :=
  ∃ d, e = .returned (.tuple #[Ptr d.q, .int .i64 0]) ∧ Rx w' d ⟨fr, st, mkL lk, 0⟩ ∧ After w w' ∧ ∀ k, d.In k ∨ d.Row ⟨fr, st, mkL lk, 0⟩ k → w.heap.size ≤ k
theorem mkL_len (lk : List (Int × Int)) : (mkL lk).length = lk.length := by unfold mkL; rw [List.length_map]
/-- All is laid. -/
theorem rmade_of {w0 w : World} {p : Nat} {vF vS vL : Value} {fs : List Fw} {st : List Int} {lk : List (Int × Int)} {hb vb : Nat} (h : Nr w0 w p vF vS vL (.slice (some ⟨hb, 0, none⟩) lk.length lk.length) (.slice (some ⟨vb, 0, none⟩) lk.length lk.length) fs) (oS : ORow inE 3 w w0.heap.size vS st) (oL : ORow prE 65 w w0.heap.size vL lk)
    (h1 : w.heap[hb]? = some (.cells (List.replicate lk.length (Value.bool false)).toArray 4 (0, 0))) (h2 : w.heap[vb]? = some (.cells (List.replicate lk.length (Value.int .i64 0)).toArray 3 (0, 0))) (b1 : w0.heap.size ≤ hb) (b2 : w0.heap.size ≤ vb) (n1 : ∀ k, vS.ownBlock = some k → k ≠ vb) (n2 : ∀ f ∈ fs, ∀ k, (Value.slice f.a f.l.length f.c).ownBlock = some k → k ≠ vb) (hc : chkT (fs.map Fw.l) st lk = 0) : RMade w0 (fs.map Fw.l) st lk (.returned (.tuple #[Ptr p, .int .i64 0])) w := by
  obtain ⟨fa, fc, eF, rF, _, qF⟩ := h.oF.row
  obtain ⟨sa, sc, eS, rS, _, qS⟩ := oS.row
  obtain ⟨la, lc, eL, rL, _, qL⟩ := oL.row
  subst eF
  subst eS
  subst eL
  have oF := h.oF
  have lp := h.at0
  have apart : ∀ {α : Type} {E : Enc α} {t : TypeId} {z : Addr} {n c : Nat} {xs : List α}, ORow E t w w0.heap.size (.slice (some z) n c) xs → t ≠ 86 → t ≠ 4 → (z.block ≠ vb) → ¬ (z.block = p ∨ z.block = hb ∨ z.block = vb) := fun {α E t z n c xs} ho t1 t2 hv s => by
    have hk := own_blk ho
    rcases s with s | s | s
    · exact own_farT ho (fun e => t1 e.symm) lp (by rw [hk, s])
    · exact own_farT ho (fun e => t2 e.symm) h1 (by rw [hk, s])
    · exact hv s
  have farV : ∀ {α : Type} {E : Enc α} {t : TypeId} {z : Addr} {n c : Nat} {xs : List α}, ORow E t w w0.heap.size (.slice (some z) n c) xs → t ≠ 3 → z.block ≠ vb := fun {α E t z n c xs} ho t1 s => own_farT ho (fun e => t1 e.symm) h2 (by rw [own_blk ho, s])
  refine ⟨⟨p, hb, vb, fa, fc, fs, sa, sc, la, lc, lk.length, lk.length⟩, rfl, ⟨?_, rfl, rF, fun f hf => ?_, rS, ?_, ?_, ?_, ⟨?_, ?_, ?_⟩, ?_, chk_ok hc⟩, h.aft, ?_⟩
  · have := h.at0
    show w.heap[p]? = some (Obj.cells #[.slice fa fs.length fc, .slice sa st.length sc, .slice la (mkL lk).length lc, .slice (some ⟨hb, 0, none⟩) (mkL lk).length lk.length, .slice (some ⟨vb, 0, none⟩) (mkL lk).length lk.length, .int .i64 0] 86 (0, 0))
    rw [mkL_len]
    exact this
  · obtain ⟨a, c, e, r, _⟩ := (h.of f hf).row
    cases e
    exact r
  · show GRow prE w la (mkL lk).length (skel (mkL lk))
    rw [skel_mkL, mkL_len]; exact rL
  · show w.heap[hb]? = some (Obj.cells (lkH (mkL lk)) 4 (0, 0))
    rw [lkH_new]; exact h1
  · show w.heap[vb]? = some (Obj.cells (lkV (mkL lk)) 3 (0, 0))
    rw [lkV_new]; exact h2
  · intro e
    have e : p = hb := e
    rw [← e, lp] at h1
    simp at h1
  · intro e
    have e : p = vb := e
    rw [← e, lp] at h2
    simp at h2
  · intro e
    have e : hb = vb := e
    rw [← e, h1] at h2
    simp at h2
  · rintro k (⟨z, hz, hn, rfl⟩ | ⟨f, hf, z, hz, hn, rfl⟩ | ⟨z, hz, hn, rfl⟩ | ⟨z, hz, hn, rfl⟩)
    · have hz : fa = some z := hz
      subst hz
      exact apart oF (by decide) (by decide) (farV oF (by decide))
    · have hf : f ∈ fs := hf
      have ho := h.of f hf
      have h5 := n2 f hf
      rw [hz] at ho h5
      exact apart ho (by decide) (by decide) (h5 _ (own_blk ho))
    · have hz : sa = some z := hz
      subst hz
      exact apart oS (by decide) (by decide) (n1 _ (own_blk oS))
    · have hz : la = some z := hz
      subst hz
      exact apart oL (by decide) (by decide) (farV oL (by decide))
  · rintro k ((rfl | rfl | rfl) | (⟨z, hz, hn, rfl⟩ | ⟨f, hf, z, hz, hn, rfl⟩ | ⟨z, hz, hn, rfl⟩ | ⟨z, hz, hn, rfl⟩))
    · exact h.pb
    · exact b1
    · exact b2
    · exact (qF z hz).1
    · have ho := h.of f hf
      rw [hz] at ho
      exact (ho.lt _ (own_blk ho)).1
    · exact (qS z hz).1
    · exact (qL z hz).1
end Go.Proofs.Ytkjjjibglaffnaa
