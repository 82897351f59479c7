/-
  Behind a tick of both.
-/
import Derived.Test.YtkjjjibglaffnaaRxL
namespace Go.Proofs.Ytkjjjibglaffnaa
open Go.RowKit
set_option maxRecDepth 8000
theorem own_zero {α : Type} {E : Enc α} {t : TypeId} {w : World} {B : Nat} {v : Value} {xs : List α} (h : ORow E t w B v xs) : ORow E t w 0 v xs := own_base h (fun _ _ => Nat.zero_le _)
/-- Behind tasks. -/
structure Mid (B : Nat) (w0 w : World) (q : Nat) (d : Rq) (o : Nat → Nat) (x : Xp) (lv : Value) (TL : List (Option Tk)) (t : Tc) (vw : Value) : Prop where
  bt : Bth B w q d o x lv
  sy : Sy w o lv x.L TL (fun _ => []) (fun _ => .pointer none)
  rw : ORow pkE 58 w 0 vw TL
  l6 : ∀ k, vw.ownBlock = some k → o k = 6
  hd : TL.map dsOf = t.l.map Dr.l
  go : But (From B) w0 w
  hB : B ≤ w.heap.size
theorem mid_of {B : Nat} {w w' : World} {q : Nat} {d : Rq} {o : Nat → Nat} {x : Xp} {lv : Value} {t : Tc} {e : Ending} (X : Bth B w q d o x lv) (hB : B ≤ w.heap.size) (h : TaskedX B w q x lv t o e w') :
    ∃ o' TL ao co aw cw, e = .returned (.tuple #[.slice ao TL.length co, .slice aw TL.length cw]) ∧ Mid B w w' q d o' x lv TL t (.slice aw TL.length cw) ∧ GRow ivE w' ao TL.length (TL.map ivOf) ∧ (∀ z, ao = some z → z.block ≠ q) ∧ (ao = none → TL.length = 0 ∧ co = 0) := by
  obtain ⟨o3, TL, ao, co, aw, cw, e1, X3, y3, r3, l5, n3, r6, l6, hds, go3, _⟩ := h
  obtain ⟨rx, d9, r0, b⟩ := X.prog (by unfold A56; omega) (by unfold A56; omega) go3
  exact ⟨o3, TL, ao, co, aw, cw, e1, ⟨⟨X3, rx, d9, r0⟩, y3, r6, l6, hds, b, Nat.le_trans hB b.size⟩, r3, (fun z hz e => by have := l5 z hz; rw [e, X3.op.1] at this; cases this), n3⟩
theorem ak09 : ¬ AK 0 ∧ ¬ AK 9 ∧ ¬ AK 6 := by unfold AK AS; omega
/-- Behind both ticks. -/
theorem tkd_of {B : Nat} {w0 w w1 w2 : World} {q : Nat} {d : Rq} {o : Nat → Nat} {x : Xp} {lv : Value} {TL : List (Option Tk)} {t : Tc} {vw : Value} {e1 e2 : Ending} (M : Mid B w0 w q d o x lv TL t vw) {N : Nat} (hN : N ≤ 1048576) (ht : ∀ e ∈ t.l, e.l.length ≤ N) (h1 : Ticked B w q o x lv TL (fun _ => []) e1 w1) (h2 : TickedR w1 d x (dsT t) e2 w2) (h8 : TL.length ≤ 8) :
    ∃ o' va vb F Y, e1 = .returned (.tuple #[va, .int .i64 0]) ∧ e2 = .returned (.tuple #[vb, .int .i64 0]) ∧ Tkd B w0 w2 q d o' x lv TL F va vw vb Y := by
  obtain ⟨va, o1, CV1, rfl, ra, X1, y1, go1, lab1⟩ := h1
  obtain ⟨vb, Y, rfl, rb, hs, had, rx2, b2⟩ := h2
  obtain ⟨rx1, d9, r0, b1⟩ := M.bt.prog ak09.1 ak09.2.1 go1
  have hfr := frm_frd x.st (DSof TL) (x.fr.getD x.at_ []) x.L (fun _ => [])
  rw [dsof_eq M.hd] at hfr
  have hrun : x.run (DSof TL) (fun _ => []) = frm x.st (dsT t) (x.fr.getD x.at_ []) x.L (fun _ => []) := by unfold Xp.run; rw [dsof_eq M.hd]
  obtain ⟨F, hF⟩ : ∃ F, F = (frd x.st (dsT t) (x.fr.getD x.at_ []) x.L).1 := ⟨_, rfl⟩
  have ok := M.bt.xe.ok
  have hfl := ok.fs (x.fr.getD x.at_ []) (by rw [List.getD_eq_getElem?_getD, List.getElem?_eq_getElem ok.a1]; exact List.getElem_mem ok.a1)
  have hps : ∀ e ∈ F, 0 ≤ e.a.p ∧ e.a.p < 8 := fun e he => by
    have hm : e.a.p ∈ x.fr.getD x.at_ [] := by
      rw [← frd_parts x.st (dsT t) (x.fr.getD x.at_ []) x.L, ← hF]
      exact List.mem_map.2 ⟨e, he, rfl⟩
    have := hfl.2 _ hm
    have := ok.s2
    omega
  have hln : ∀ e ∈ F, e.h.length ≤ 1048576 := fun e he => by
    have := frd_len (N := N) (DS := dsT t) (fun i => by
      unfold dsT
      rw [List.getD_eq_getElem?_getD, List.getElem?_map]
      cases hq : t.l[i]? with
      | none => exact Nat.zero_le _
      | some z => exact ht z (List.mem_of_getElem? hq)) x.st (x.fr.getD x.at_ []) x.L e (by rw [← hF]; exact he)
    omega
  have hnF : F.length ≤ 8 := by
    have h3 := congrArg List.length (frd_parts x.st (dsT t) (x.fr.getD x.at_ []) x.L)
    rw [List.length_map, ← hF] at h3
    omega
  have far9 : ∀ k l, o1 k = l → l ≠ 9 → ¬ d.In k := fun k l e hl s => by rw [d9 k s] at e; exact hl e.symm
  have hb2 : ∀ k, d.In k → B ≤ k := fun k hk => X1.base k (by rw [d9 k hk]; decide)
  have X2 : Xe B w2 q o1 (x.tick (DSof TL) (fun _ => [])) lv := X1.go (Nat.le_trans M.hB go1.but.size) b2 (fun k _ s => by rw [d9 k s]; decide) (fun _ _ => rfl) (fun k hk => Nat.lt_of_lt_of_le (X1.bnd k hk) b2.size)
  have y2 := y1.but b2 (fun k _ s => by rw [d9 k s]; decide)
  have et : x.tick (DSof TL) (fun _ => []) = { x.next with L := (frd x.st (dsT t) (x.fr.getD x.at_ []) x.L).2 } := by
    unfold Xp.tick
    rw [hrun, hfr]
  refine ⟨o1, va, vb, F, Y, rfl, rfl, ⟨x.tick (DSof TL) (fun _ => []), X2, by rw [et]; exact rx2, d9, fun k hk => r0 k ?_⟩, (M.go.trans b1).then b2 (fun k _ s => hb2 k s), ?_, own_but (own_but M.rw go1.but (fun k hk s => ak09.2.2 (by rw [← M.l6 k hk]; exact s))) b2 (fun k hk => far9 k 6 ((go1.ext k (M.rw.lt k hk).2).trans (M.l6 k hk)) (by decide)), own_zero rb, fun y hy => own_zero (hs y hy), by rw [had, hF], fun i k hk => ?_, hps, hln, hnF, h8⟩
  · have hl : (x.tick (DSof TL) (fun _ => [])).L.length = x.L.length := skel_len (frm_skel ..)
    have hs : (x.tick (DSof TL) (fun _ => [])).st = x.st := rfl
    unfold Rq.Row at hk ⊢
    rw [hl, hs] at hk
    exact hk
  · have hx : (x.run (DSof TL) (fun _ => [])).1 = F.map Ad.a := by rw [hrun, hfr, hF]
    rw [← hx]
    exact own_but ra b2 (fun k hk => far9 k 8 (lab1 k hk) (by decide))
  · have hx : (x.run (DSof TL) (fun _ => [])).2.2 = joinH F (fun _ => []) := by rw [hrun, hfr, hF]
    rw [← hx]
    exact ⟨CV1 i, y2.tk i k hk, y2.cv i⟩
end Go.Proofs.Ytkjjjibglaffnaa
