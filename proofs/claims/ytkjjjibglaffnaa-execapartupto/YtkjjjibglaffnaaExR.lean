/-
  An exec with its links, as the statements have it; a Tick of tasks that are lists of deeds; tasks are added.
-/
import Derived.Test.YtkjjjibglaffnaaExL
import Derived.Test.YtkjjjibglaffnaaExQ
namespace Go.Proofs.Ytkjjjibglaffnaa
open Go.RowKit
set_option maxRecDepth 8000
theorem frm_skel (st : List Int) (DS : Nat → List De) : ∀ (ps : List Int) (L : List Lk) (H : Nat → List He), skel (frm st DS ps L H).2.1 = skel L
  | [], _, _ => rfl
  | p :: r, L, H => by
    rw [frm_cons]
    show skel (frm st DS r _ _).2.1 = _
    rw [frm_skel st DS r, tnOf, run_skel]
/-- An exec and its links, from block B on. -/
structure Xe (B : Nat) (w : World) (p : Nat) (o : Nat → Nat) (x : Xp) (lv : Value) : Prop where
  ex : ExS w p o x lv false
  lk : ORow lkE 83 w 0 lv x.L
  ll : ∀ k, lv.ownBlock = some k → o k = 2
  bnd : ∀ k, o k ≠ 0 → k < w.heap.size
  base : ∀ k, o k ≠ 0 → B ≤ k
theorem Xe.ok {B : Nat} {w : World} {p : Nat} {o : Nat → Nat} {x : Xp} {lv : Value} (h : Xe B w p o x lv) : x.Ok := by
  obtain ⟨fa, fc, sa, sc, fws, h⟩ := h.ex
  exact h.ok
theorem Xe.sy {B : Nat} {w : World} {p : Nat} {o : Nat → Nat} {x : Xp} {lv : Value} (h : Xe B w p o x lv) : Sy w o lv x.L [] (fun _ => []) (fun _ => .pointer none) :=
  ⟨h.lk, h.ll, fun i k hk => by simp at hk, fun _ => .inl rfl, h.bnd, h.ok.l2⟩
theorem Xe.op {B : Nat} {w : World} {p : Nat} {o : Nat → Nat} {x : Xp} {lv : Value} (h : Xe B w p o x lv) : o p = 1 ∧ p < w.heap.size := by
  obtain ⟨fa, fc, sa, sc, fws, h⟩ := h.ex
  exact ⟨h.op, blk_lt h.at0⟩
/-- What others do. -/
theorem Xe.go {B : Nat} {w w' : World} {p : Nat} {o o' : Nat → Nat} {x : Xp} {lv : Value} (h : Xe B w p o x lv) (hB : B ≤ w.heap.size) {S : Nat → Prop} (b : But S w w') (hS : ∀ k, k < w.heap.size → S k → o k ≠ 1 ∧ o k ≠ 2 ∧ o k ≠ 3) (he : ∀ k, k < w.heap.size → o' k = o k) (hb : ∀ k, o' k ≠ 0 → k < w'.heap.size) : Xe B w' p o' x lv := by
  obtain ⟨fa, fc, sa, sc, fws, hx⟩ := h.ex
  refine ⟨⟨fa, fc, sa, sc, fws, hx.but b (fun k hk s => ⟨(hS k hk s).1, (hS k hk s).2.2⟩) he⟩, own_but h.lk b (fun k hk s => (hS k (h.lk.lt k hk).2 s).2.1 (h.ll k hk)), fun k hk => (he k (h.lk.lt k hk).2).trans (h.ll k hk), hb, fun k hk => ?_⟩
  rcases Nat.lt_or_ge k w.heap.size with hl | hl
  · rw [he k hl] at hk; exact h.base k hk
  · omega
theorem Xe.after {B : Nat} {w w' : World} {p : Nat} {o : Nat → Nat} {x : Xp} {lv : Value} (h : Xe B w p o x lv) (a : After w w') : Xe B w' p o x lv := by
  obtain ⟨fa, fc, sa, sc, fws, hx⟩ := h.ex
  exact ⟨⟨fa, fc, sa, sc, fws, hx.but a (fun _ _ t => t.elim) (fun _ _ => rfl)⟩, own_after h.lk a, h.ll, fun k hk => Nat.lt_of_lt_of_le (h.bnd k hk) a.size, h.base⟩
/-- A minor frame's answer. -/
def Xp.run (x : Xp) (DS : Nat → List De) (H : Nat → List He) : List An × List Lk × (Nat → List He) := frm x.st DS (x.fr.getD x.at_ []) x.L H
/-- The exec behind it. -/
def Xp.tick (x : Xp) (DS : Nat → List De) (H : Nat → List He) : Xp := { x.next with L := (x.run DS H).2.1 }
theorem tick_ok {x : Xp} (h : x.Ok) (DS : Nat → List De) (H : Nat → List He) : (x.tick DS H).Ok := by
  have hn := next_ok h
  have hs : skel (x.run DS H).2.1 = skel x.L := frm_skel ..
  have hl := congrArg List.length hs
  simp only [skel, List.length_map] at hl
  refine ⟨hn.f1, hn.f2, hn.fs, hn.s1, hn.s2, hn.ss, ?_, ?_, hn.a1⟩
  · show (x.run DS H).2.1.length ≤ 16
    rw [hl]; exact h.l2
  · show ∀ q ∈ skel (x.run DS H).2.1, _
    rw [hs]; exact h.ls
/-- What a Tick answers, and leaves behind. -/
def Ticked (B : Nat) (w : World) (p : Nat) (o : Nat → Nat) (x : Xp) (lv : Value) (TL : List (Option Tk)) (HS : Nat → List He) (e : Ending) (w' : World) : Prop :=
  ∃ v o' CV', e = .returned (.tuple #[v, .int .i64 0]) ∧ ORow anE 48 w' 0 v (x.run (DSof TL) HS).1 ∧ Xe B w' p o' (x.tick (DSof TL) HS) lv ∧ Sy w' o' lv (x.run (DSof TL) HS).2.1 TL (x.run (DSof TL) HS).2.2 CV' ∧ Go AK w w' o o' ∧ (∀ k, v.ownBlock = some k → o' k = 8)
theorem xe_tick {B : Nat} {w : World} {p : Nat} {o : Nat → Nat} {x : Xp} {lv : Value} (h : Xe B w p o x lv) {TL : List (Option Tk)} {HS : Nat → List He} {CV : Nat → Value} (y : Sy w o lv x.L TL HS CV) {ta : Option Addr} {tc : Nat} (ht : GRow ivE w ta TL.length (TL.map ivOf)) (htp : ∀ z, ta = some z → 0 < TL.length → z.block ≠ p) (hta : ta = none → TL.length = 0 ∧ tc = 0) (hi : TL.length = x.st.length) {N M : Nat} (hf : Fit TL N) (hN : N ≤ 4000000) (hM : M ≤ 40000000) (hHS : ∀ i, (HS i).length ≤ M) (hB : B ≤ w.heap.size) :
    Calls Try.prog 14 #[Ptr p, .slice ta TL.length tc] w (Ticked B w p o x lv TL HS) := by
  obtain ⟨fa, fc, sa, sc, fws, hx⟩ := h.ex
  have ok := hx.ok
  have ha : x.at_ < fws.length := by rw [hx.len]; exact ok.a1
  have hfa : fws[x.at_]? = some (fws[x.at_]'ha) := List.getElem?_eq_getElem ha
  obtain ⟨f, hf0⟩ : ∃ f, f = fws[x.at_]'ha := ⟨_, rfl⟩
  rw [← hf0] at hfa
  have hfr : x.fr[x.at_]? = some f.l := by rw [← hx.fr, List.getElem?_map, hfa]; rfl
  have hfl : x.fr.getD x.at_ [] = f.l := by rw [List.getD_eq_getElem?_getD, hfr]; rfl
  have hml : f.l ∈ x.fr := List.mem_of_getElem? hfr
  have hps := ok.fs _ hml
  have hr : x.run (DSof TL) HS = frm x.st (DSof TL) f.l x.L HS := by unfold Xp.run; rw [hfl]
  have bs := bes_law (lv := lv) (ps := f.l) (F := x.run (DSof TL) HS) (M := M) hf hN hM hps.1 (fun q hq => (hps.2 q hq).1) ok.ss
  have hl : (TL.map ivOf).length = TL.length := List.length_map ..
  have hlv : ∃ a n c, lv = .slice a n c := by obtain ⟨a, c, e, _⟩ := h.lk.row; exact ⟨a, _, c, e⟩
  have HI : ∀ w', But (One p) w w' → ExX w' p o x.next lv true fa fc sa sc fws → InvL x.st f.l lv TL N M (x.run (DSof TL) HS) 0 o [] w' := fun w' b _ =>
    ⟨x.L, HS, CV, y.but b (fun k _ e => by rw [show k = p from e, hx.op]; decide), fun i => by have := hHS i; omega, by rw [hr]; rfl⟩
  have hT := tick_any (tc := tc) hx hfa hlv (by rw [hl]; exact ht) (by rw [hl]; exact htp) (by rw [hl]; exact hta) (by rw [hl]; exact hi) bs HI h.bnd
  rw [hl] at hT
  refine hT.mono ?_
  rintro e w' ⟨v, l, o', w1, e1, own, hll, ⟨L, HS', CV', y', _, hF⟩, b1, x', go, lab⟩
  have hF0 : (frm x.st (DSof TL) (f.l.drop f.l.length) L HS') = ([], L, HS') := by rw [List.drop_length]; rfl
  rw [hF0] at hF
  have hF : (l ++ [], L, HS') = x.run (DSof TL) HS := hF
  rw [List.append_nil] at hF
  have y2 := y'.but b1 (fun k _ e => by rw [show k = p from e, x'.op]; decide)
  have e0 : x.tick (DSof TL) HS = { x.next with L := L } := by unfold Xp.tick; rw [← hF]
  refine ⟨v, o', CV', e1, by rw [← hF]; exact own, ⟨⟨fa, fc, sa, sc, fws, ?_⟩, by rw [e0]; exact y2.lk, y2.ll, y2.bnd, fun k hk => ?_⟩, by rw [← hF]; exact y2, go, lab⟩
  · exact x'.rows (S := Non) But.rfl (fun _ _ t => t.elim) (fun _ _ => rfl) x'.at0 rfl rfl (tick_ok ok _ _)
  · rcases Nat.lt_or_ge k w.heap.size with hk' | hk'
    · rw [go.ext k hk'] at hk; exact h.base k hk
    · omega
/-- A task more, wherever it stands. -/
theorem Sy.more {w w' : World} {o : Nat → Nat} {lv : Value} {L : List Lk} {TL TL' : List (Option Tk)} {HS : Nat → List He} {CV : Nat → Value} (y : Sy w o lv L TL HS CV) (a : After w w') {k : Tk} {i : Nat} (hi : TL'[i]? = some (some k)) (hj : ∀ j k', j ≠ i → TL'[j]? = some (some k') → TL[j]? = some (some k')) (h0 : w'.heap[k.t]? = some (.cells #[.slice k.a k.D.length k.cap, .slice none 0 0, .pointer none] 63 (0, 0))) (ht : w.heap.size ≤ k.t) (hd : GRow deE w' k.a k.D.length k.D) (hda : ∀ z, k.a = some z → 0 < k.D.length → o z.block = 0 ∧ z.block ≠ k.t) :
    Sy w' (upd o k.t (10 + 2 * i)) lv L TL' (setf HS i []) (setf CV i (.pointer none)) := by
  have he : ∀ q, q < w.heap.size → upd o k.t (10 + 2 * i) q = o q := fun q hq => upd_ne _ _ (by omega)
  refine ⟨own_after y.lk a, fun q hq => (he q (y.lk.lt q hq).2).trans (y.ll q hq), fun j k' hk' => ?_, fun j => ?_, fun q hq => ?_, y.L16⟩
  · by_cases e : j = i
    · subst e
      rw [hi] at hk'
      cases hk'
      rw [setf_at, setf_at]
      exact ⟨.slice none 0 0, h0, orow_nil _ _ _ _, hd, fun z hz hn => (upd_ne _ _ (hda z hz hn).2).trans (hda z hz hn).1, upd_at _ _ _, fun q hq => by cases hq⟩
    · rw [setf_ne _ _ e, setf_ne _ _ e]
      exact (y.tk j k' (hj j k' e hk')).but a (fun _ _ _ t => t) (fun _ _ _ t => t) he
  · by_cases e : j = i
    · subst e
      rw [setf_at]; exact .inl rfl
    · rw [setf_ne _ _ e]
      exact (y.cv j).but a (fun _ _ _ t => t) he
  · by_cases e : q = k.t
    · rw [e]; exact blk_lt h0
    · rw [upd_ne _ _ e] at hq
      exact Nat.lt_of_lt_of_le (y.bnd q hq) a.size
theorem Sy.add {w w' : World} {o : Nat → Nat} {lv : Value} {L : List Lk} {TL : List (Option Tk)} {HS : Nat → List He} {CV : Nat → Value} (y : Sy w o lv L TL HS CV) (a : After w w') {k : Tk} (h0 : w'.heap[k.t]? = some (.cells #[.slice k.a k.D.length k.cap, .slice none 0 0, .pointer none] 63 (0, 0))) (ht : w.heap.size ≤ k.t) (hd : GRow deE w' k.a k.D.length k.D) (hda : ∀ z, k.a = some z → 0 < k.D.length → o z.block = 0 ∧ z.block ≠ k.t) :
    Sy w' (upd o k.t (10 + 2 * TL.length)) lv L (TL ++ [some k]) (setf HS TL.length []) (setf CV TL.length (.pointer none)) :=
  y.more a (by simp) (fun j k' hj hk' => by
    by_cases hl : j < TL.length
    · rw [List.getElem?_append_left hl] at hk'; exact hk'
    · have := (List.getElem?_eq_some_iff.1 hk').1
      rw [List.length_append, List.length_singleton] at this
      omega) h0 ht hd hda
theorem Sy.addNone {w : World} {o : Nat → Nat} {lv : Value} {L : List Lk} {TL : List (Option Tk)} {HS : Nat → List He} {CV : Nat → Value} (y : Sy w o lv L TL HS CV) : Sy w o lv L (TL ++ [none]) HS CV := by
  refine ⟨y.lk, y.ll, fun i k hk => ?_, y.cv, y.bnd, y.L16⟩
  by_cases hi : i < TL.length
  · rw [List.getElem?_append_left hi] at hk
    exact y.tk i k hk
  · have := (List.getElem?_eq_some_iff.1 hk).1
    rw [List.length_append, List.length_singleton] at this
    obtain rfl : i = TL.length := by omega
    rw [List.getElem?_append_right (Nat.le_refl _), Nat.sub_self] at hk
    simp at hk
theorem badF_zero {n : Int} : ∀ {fr : List (List Int)}, badF n fr = 0 → ∀ r ∈ fr, r.length ≤ 8 ∧ ∀ q ∈ r, 0 ≤ q ∧ q < n
  | [], _, r, hr => by cases hr
  | r0 :: t, h, r, hr => by
    have h : (if 8 < r0.length then (6 : Int) else if r0.any (bad 0 (n - 1)) then 210 else badF n t) = 0 := h
    by_cases h1 : 8 < r0.length
    · rw [if_pos h1] at h; omega
    rw [if_neg h1] at h
    rcases h2 : r0.any (bad 0 (n - 1)) with _ | _
    · rw [h2, if_neg (by decide)] at h
      rcases List.mem_cons.1 hr with rfl | hr
      · refine ⟨by omega, fun q hq => ?_⟩
        have := List.any_eq_false.1 h2 q hq
        unfold bad at this
        simp at this
        omega
      · exact badF_zero h r hr
    · rw [h2, if_pos rfl] at h; omega
theorem badL_zero {n : Int} : ∀ {lk : List (Int × Int)}, badL n lk = 0 → ∀ q ∈ lk, (0 ≤ q.1 ∧ q.1 < n) ∧ (0 ≤ q.2 ∧ q.2 < n)
  | [], _, q, hq => by cases hq
  | q0 :: t, h, q, hq => by
    have h : (if [q0.1, q0.2].any (bad 0 (n - 1)) then (210 : Int) else badL n t) = 0 := h
    rcases h2 : [q0.1, q0.2].any (bad 0 (n - 1)) with _ | _
    · rw [h2, if_neg (by decide)] at h
      rcases List.mem_cons.1 hq with rfl | hq
      · simp [bad] at h2
        omega
      · exact badL_zero h q hq
    · rw [h2, if_pos rfl] at h; omega
theorem skel_mkL (lk : List (Int × Int)) : skel (mkL lk) = lk := by
  unfold skel mkL
  rw [List.map_map]
  exact (List.map_congr_left (fun _ _ => rfl)).trans (List.map_id _)
/-- What a table is that is not refused. -/
theorem chk_ok {fr : List (List Int)} {st : List Int} {lk : List (Int × Int)} (h : chkT fr st lk = 0) : (⟨fr, st, mkL lk, 0⟩ : Xp).Ok := by
  unfold chkT at h
  rcases h1 : (bad 1 16 fr.length || (bad 1 8 st.length || st.any (bad 0 1048576))) with _ | _
  · rw [h1, if_neg (by decide)] at h
    rw [Bool.or_eq_false_iff, Bool.or_eq_false_iff] at h1
    obtain ⟨a1, a2, a3⟩ := h1
    by_cases h2 : badF st.length fr = 0
    · rw [if_neg (by simpa using h2)] at h
      by_cases h3 : 16 < lk.length
      · rw [if_pos h3] at h; omega
      rw [if_neg h3] at h
      unfold bad at a1 a2
      simp at a1 a2
      refine ⟨by show 1 ≤ fr.length; omega, by show fr.length ≤ 16; omega, badF_zero h2, by show 1 ≤ st.length; omega, by show st.length ≤ 8; omega, fun s hs => ?_, by show (mkL lk).length ≤ 16; unfold mkL; rw [List.length_map]; omega, ?_, by show 0 < fr.length; omega⟩
      · have := List.any_eq_false.1 a3 s hs
        unfold bad at this
        simp at this
        omega
      · show ∀ q ∈ skel (mkL lk), _
        rw [skel_mkL]
        exact badL_zero h
    · rw [if_pos h2] at h
      exact absurd h h2
  · rw [h1, if_pos rfl] at h; omega
/-- What New made is an exec. -/
theorem made_xe {w w' : World} {fr : List (List Int)} {st : List Int} {lk : List (Int × Int)} {e : Ending} (h : Made w fr st lk e w') (hc : chkT fr st lk = 0) : ∃ p o lv, e = .returned (.tuple #[Ptr p, .int .i64 0]) ∧ Xe w.heap.size w' p o ⟨fr, st, mkL lk, 0⟩ lv ∧ After w w' ∧ w.heap.size ≤ p := by
  obtain ⟨p, vF, vS, lv, fs, e1, n, hfr⟩ := h
  obtain ⟨o, ho⟩ : ∃ o : Nat → Nat, o = fun k => if k = p then 1 else if lv.ownBlock = some k then 2 else if w.heap.size ≤ k ∧ k < w'.heap.size then 3 else 0 := ⟨_, rfl⟩
  have op : o p = 1 := by rw [ho]; exact if_pos rfl
  have ol : ∀ k, lv.ownBlock = some k → o k = 2 := fun k hk => by
    have np : k ≠ p := fun e => own_farT n.oL (by decide) n.at0 (by rw [← e]; exact hk)
    rw [ho]
    show (if k = p then 1 else _) = 2
    rw [if_neg np, if_pos hk]
  have o3 : ∀ k, k ≠ p → lv.ownBlock ≠ some k → w.heap.size ≤ k → k < w'.heap.size → o k = 3 := fun k h1 h2 h3 h4 => by
    rw [ho]
    show (if k = p then 1 else _) = 3
    rw [if_neg h1, if_neg h2, if_pos ⟨h3, h4⟩]
  obtain ⟨fa, fc, eF, rF, _, _⟩ := n.oF.row
  obtain ⟨sa, sc, eS, rS, _, _⟩ := n.oS.row
  have lab : ∀ {α : Type} {E : Enc α} {t : TypeId} {v : Value} {xs : List α} {a : Option Addr} {c : Nat}, ORow E t w' w.heap.size v xs → t ≠ 83 → t ≠ 73 → v = .slice a xs.length c → Lab o a xs.length := fun {α E t v xs a c} h ht1 ht2 hv z hz hn => by
    subst hv
    subst hz
    have hb : (Value.slice (some z) xs.length c).ownBlock = some z.block := by
      rcases h.2 with ⟨hv, h0⟩ | ⟨g, cap, cur, hv, _⟩
      · cases hv
      · cases hv; rfl
    obtain ⟨h1, h2⟩ := h.lt z.block hb
    exact o3 z.block (fun e => own_farT h (fun e => ht2 e.symm) n.at0 (by rw [← e]; exact hb)) (fun e => own_apart n.oL h ht1 hb e) h1 h2
  subst eF
  subst eS
  refine ⟨p, o, lv, e1, ⟨⟨fa, fc, sa, sc, fs, n.at0, op, rF, lab n.oF (by decide) (by decide) rfl, hfr, fun f hf => ?_, rS, lab n.oS (by decide) (by decide) rfl, chk_ok hc⟩, own_base n.oL (fun _ _ => Nat.zero_le _), ol, fun k hk => ?_, fun k hk => ?_⟩, n.aft, n.pb⟩
  · obtain ⟨a, c, e, r, _⟩ := (n.of f hf).row
    cases e
    exact ⟨r, lab (n.of f hf) (by decide) (by decide) rfl⟩
  · rw [ho] at hk
    by_cases e : k = p
    · rw [e]; exact blk_lt n.at0
    · by_cases e2 : lv.ownBlock = some k
      · exact (n.oL.lt k e2).2
      · have hk : (if k = p then 1 else if lv.ownBlock = some k then 2 else if w.heap.size ≤ k ∧ k < w'.heap.size then 3 else 0) ≠ 0 := hk
        rw [if_neg e, if_neg e2] at hk
        by_cases e3 : w.heap.size ≤ k ∧ k < w'.heap.size
        · exact e3.2
        · rw [if_neg e3] at hk; exact absurd rfl hk
  · rw [ho] at hk
    by_cases e : k = p
    · rw [e]; exact n.pb
    · by_cases e2 : lv.ownBlock = some k
      · exact (n.oL.lt k e2).1
      · have hk : (if k = p then 1 else if lv.ownBlock = some k then 2 else if w.heap.size ≤ k ∧ k < w'.heap.size then 3 else 0) ≠ 0 := hk
        rw [if_neg e, if_neg e2] at hk
        by_cases e3 : w.heap.size ≤ k ∧ k < w'.heap.size
        · exact e3.1
        · rw [if_neg e3] at hk; exact absurd rfl hk
end Go.Proofs.Ytkjjjibglaffnaa
