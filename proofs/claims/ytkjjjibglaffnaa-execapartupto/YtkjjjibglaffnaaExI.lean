/-
  The turns of a minor frame, of tasks that are lists of deeds; an exec in memory; takeFrame; the list of tasks, copied.
-/
import Derived.Test.YtkjjjibglaffnaaExH
namespace Go.Proofs.Ytkjjjibglaffnaa
open Go.RowKit
set_option maxRecDepth 8000
/-- A minor frame: what is answered, the links then, what was heard. -/
def frm (st : List Int) (DS : Nat → List De) : List Int → List Lk → (Nat → List He) → List An × List Lk × (Nat → List He)
  | [], L, H => ([], L, H)
  | p :: r, L, H => (⟨p, (tnOf p (st.getD p.toNat 0) (DS p.toNat) L (H p.toNat)).t⟩ :: (frm st DS r (tnOf p (st.getD p.toNat 0) (DS p.toNat) L (H p.toNat)).L (setf H p.toNat (tnOf p (st.getD p.toNat 0) (DS p.toNat) L (H p.toNat)).h)).1, (frm st DS r (tnOf p (st.getD p.toNat 0) (DS p.toNat) L (H p.toNat)).L (setf H p.toNat (tnOf p (st.getD p.toNat 0) (DS p.toNat) L (H p.toNat)).h)).2)
theorem frm_cons (st : List Int) (DS : Nat → List De) (p : Int) (r : List Int) (L : List Lk) (H : Nat → List He) : frm st DS (p :: r) L H = (⟨p, (tnOf p (st.getD p.toNat 0) (DS p.toNat) L (H p.toNat)).t⟩ :: (frm st DS r (tnOf p (st.getD p.toNat 0) (DS p.toNat) L (H p.toNat)).L (setf H p.toNat (tnOf p (st.getD p.toNat 0) (DS p.toNat) L (H p.toNat)).h)).1, (frm st DS r (tnOf p (st.getD p.toNat 0) (DS p.toNat) L (H p.toNat)).L (setf H p.toNat (tnOf p (st.getD p.toNat 0) (DS p.toNat) L (H p.toNat)).h)).2) := rfl
theorem frm_at (st : List Int) (DS : Nat → List De) {ps : List Int} {j : Nat} {p s : Int} (hp : ps[j]? = some p) (hs : st[p.toNat]? = some s) (L : List Lk) (H : Nat → List He) :
    frm st DS (ps.drop j) L H = (⟨p, (tnOf p s (DS p.toNat) L (H p.toNat)).t⟩ :: (frm st DS (ps.drop (j + 1)) (tnOf p s (DS p.toNat) L (H p.toNat)).L (setf H p.toNat (tnOf p s (DS p.toNat) L (H p.toNat)).h)).1, (frm st DS (ps.drop (j + 1)) (tnOf p s (DS p.toNat) L (H p.toNat)).L (setf H p.toNat (tnOf p s (DS p.toNat) L (H p.toNat)).h)).2) := by
  obtain ⟨hj, e⟩ := List.getElem?_eq_some_iff.1 hp
  rw [List.drop_eq_getElem_cons hj, e]
  have e2 : st.getD p.toNat 0 = s := by rw [List.getD_eq_getElem?_getD, hs]; rfl
  rw [frm_cons, e2]
/-- How much is heard. -/
theorem run_len (p s : Int) : ∀ (D : List De) (x : Ru), (run p s D x).h.length ≤ x.h.length + D.length
  | [], x => Nat.le_refl _
  | d :: r, x => by
    rw [run_cons]
    have hd : (dst p s d x).h.length ≤ x.h.length + 1 := by
      unfold dst
      repeat' split
      all_goals simp
    split
    · show x.h.length ≤ _; omega
    · have := run_len p s r (dst p s d x)
      rw [List.length_cons]; omega
/-- A label that is none of a task's. -/
def Lc (c : Nat) : Prop := c ≠ 0 ∧ c ≠ 2 ∧ c < 10
theorem Sy.labC {S : Nat → Prop} {w w' : World} {o : Nat → Nat} {lv : Value} {L : List Lk} {TL : List (Option Tk)} {HS : Nat → List He} {CV : Nat → Value} {g c : Nat} (hc : Lc c) (y : Sy w o lv L TL HS CV) (b : But S w w') (hS : ∀ k, k < w.heap.size → S k → o k = c) (hg : w.heap.size ≤ g ∨ o g = c) (hlt : g < w'.heap.size) : Sy w' (upd o g c) lv L TL HS CV := by
  obtain ⟨c0, c2, c10⟩ := hc
  have he : ∀ k, k < w.heap.size → upd o g c k = o k := fun k hk => by
    by_cases e : k = g
    · rw [e, upd_at]
      rcases hg with hg | hg
      · omega
      · exact hg.symm
    · exact upd_ne _ _ e
  refine ⟨own_but y.lk b (fun k hk s => ?_), fun k hk => (he k (y.lk.lt k hk).2).trans (y.ll k hk), fun i k hk => (y.tk i k hk).but b (fun z hz hn s => ?_) (fun q hq hl s => ?_) he, fun i => (y.cv i).but b (fun k hk h0 s => ?_) he, fun k hk => ?_, y.L16⟩
  · have := hS k (y.lk.lt k hk).2 s; have := y.ll k hk; omega
  · obtain ⟨vh, h⟩ := y.tk i k hk
    have := hS _ (h.dl z hz hn) s; have := h.da z hz hn; omega
  · have := hS q hq s; omega
  · have := hS k hk s; omega
  · by_cases e : k = g
    · rw [e]; exact hlt
    · rw [upd_ne _ _ e] at hk
      exact Nat.lt_of_lt_of_le (y.bnd k hk) b.size
theorem Sy.lab {S : Nat → Prop} {w w' : World} {o : Nat → Nat} {lv : Value} {L : List Lk} {TL : List (Option Tk)} {HS : Nat → List He} {CV : Nat → Value} {g : Nat} (y : Sy w o lv L TL HS CV) (b : But S w w') (hS : ∀ k, k < w.heap.size → S k → o k = 8) (hg : w.heap.size ≤ g ∨ o g = 8) (hlt : g < w'.heap.size) : Sy w' (upd o g 8) lv L TL HS CV := y.labC ⟨by decide, by decide, by decide⟩ b hS hg hlt
def DSof (TL : List (Option Tk)) : Nat → List De := fun i => dsOf (TL.getD i none)
/-- Tasks whose deeds may be. -/
def Fit (TL : List (Option Tk)) (N : Nat) : Prop := ∀ (i : Nat) (k : Tk), TL[i]? = some (some k) → k.D.length ≤ N ∧ ∀ d ∈ k.D, -9223372036854775808 ≤ d.k ∧ d.k ≤ 9223372036854775807
theorem ifc_of : ∀ x : Option Tk, Ifc (ifV x)
  | none => .inl rfl
  | some k => .inr ⟨_, k.t, rfl⟩
def ivOf (x : Option Tk) : Iv := ⟨ifV x, ifc_of x⟩
/-- What stands beside the turns of tasks that are lists of deeds. -/
def InvL (st ps : List Int) (lv : Value) (TL : List (Option Tk)) (N M : Nat) (F : List An × List Lk × (Nat → List He)) (j : Nat) (o : Nat → Nat) (l : List An) (w : World) : Prop :=
  ∃ L HS CV, Sy w o lv L TL HS CV ∧ (∀ i, (HS i).length ≤ M + j * N) ∧ (l ++ (frm st (DSof TL) (ps.drop j) L HS).1, (frm st (DSof TL) (ps.drop j) L HS).2) = F
theorem bes_law {st ps : List Int} {lv : Value} {TL : List (Option Tk)} {N M : Nat} {F : List An × List Lk × (Nat → List He)} (hf : Fit TL N) (hN : N ≤ 4000000) (hM : M ≤ 40000000) (hps : ps.length ≤ 8) (hp : ∀ q ∈ ps, 0 ≤ q) (hst : ∀ s ∈ st, 0 ≤ s ∧ s ≤ 1048576) : Beside (InvL st ps lv TL N M F) st ps lv (TL.map ivOf) where
  after := fun ⟨L, HS, CV, y, h⟩ a => ⟨L, HS, CV, y.after a, h⟩
  lab := fun ⟨L, HS, CV, y, h⟩ b h1 h2 h3 => ⟨L, HS, CV, y.lab b h1 h2 h3, h⟩
  bnd := fun ⟨L, HS, CV, y, h⟩ => y.bnd
  turn := by
    rintro j o l w w1 b p s v ⟨L, HS, CV, y, hl, hF⟩ a hb hpj hsj hvj hblk
    have hj : j < ps.length := (List.getElem?_eq_some_iff.1 hpj).1
    have p0 := hp p (List.mem_of_getElem? hpj)
    obtain ⟨s0, s1⟩ := hst s (List.mem_of_getElem? hsj)
    obtain ⟨i, rfl⟩ : ∃ i : Nat, p = (i : Int) := ⟨p.toNat, by omega⟩
    rw [Int.toNat_natCast] at hsj hvj
    rw [List.getElem?_map, Option.map_eq_some_iff] at hvj
    obtain ⟨x, hx, rfl⟩ := hvj
    have hjN : j * N + N ≤ 32000000 := by
      have : (j + 1) * N ≤ 8 * N := Nat.mul_le_mul_right _ (by omega)
      rw [Nat.add_mul] at this
      omega
    have hD : DSof TL i = dsOf x := by unfold DSof; rw [List.getD_eq_getElem?_getD, hx]; rfl
    have fin : ∀ w' , Turned w b o lv TL HS i s (tnOf (i : Int) s (dsOf x) L (HS i)) w' → (dsOf x).length ≤ N → ∃ o' t, w'.heap[b]? = some (.cells (tuC (i : Int) t s lv true) 105 (0, 0)) ∧ Go AT w w' o o' ∧ o' b = 0 ∧ InvL st ps lv TL N M F (j + 1) o' (l ++ [⟨(i : Int), t⟩]) w' := by
      rintro w' ⟨o', CV', y', h1, h2, h3⟩ hn
      refine ⟨o', _, h1, h2, h3, _, _, CV', y', fun q => ?_, ?_⟩
      · rw [Nat.add_mul]
        by_cases e : q = i
        · subst e
          rw [setf_at]
          have := run_len (q : Int) s (dsOf x) ⟨Tn.new, L, 0, HS q⟩
          have h0 := hl q
          have : (tnOf (q : Int) s (dsOf x) L (HS q)).h.length ≤ (HS q).length + (dsOf x).length := this
          omega
        · rw [setf_ne _ _ e]; have := hl q; omega
      · rw [← hF, frm_at st (DSof TL) hpj (by rw [Int.toNat_natCast]; exact hsj), Int.toNat_natCast, hD, List.append_assoc]
        rfl
    cases x with
    | none =>
      refine (turn_nil (i := i) (s := s) y a hb hblk (fun k hk => by rw [hx] at hk; cases hk)).mono ?_
      rintro e w' ⟨rfl, h⟩
      exact ⟨rfl, fin w' h (Nat.zero_le _)⟩
    | some k =>
      obtain ⟨f1, f2⟩ := hf i k hx
      refine (turn_task (i := i) (s := s) y a hb hblk hx s0 s1 (by have := hl i; omega) f2).mono ?_
      rintro e w' ⟨rfl, h⟩
      exact ⟨rfl, fin w' h f1⟩
end Go.Proofs.Ytkjjjibglaffnaa
