/-
  A tick of both: what lies there, side by side.
-/
import Derived.Test.YtkjjjibglaffnaaRxK
namespace Go.Proofs.Ytkjjjibglaffnaa
open Go.RowKit
set_option maxRecDepth 8000
/-- The program's exec and the document's, side by side. -/
structure Bth (B : Nat) (w : World) (q : Nat) (d : Rq) (o : Nat → Nat) (x : Xp) (lv : Value) : Prop where
  xe : Xe B w q o x lv
  rx : Rx w d x
  d9 : ∀ k, d.In k → o k = 9
  r0 : ∀ k, d.Row x k → o k = 0
/-- A tick lies below. -/
structure Tc.Low (B : Nat) (t : Tc) : Prop where
  a : ∀ z, t.a = some z → 0 < t.l.length → z.block < B
  d : ∀ e ∈ t.l, ∀ z, e.a = some z → 0 < e.l.length → z.block < B
theorem Tc.Fits.low {B : Nat} {w w' : World} {N : Nat} {t : Tc} (h : t.Fits w N) (l : t.Low B) (b : But (From B) w w') : t.Fits w' N :=
  ⟨h.1.but b (fun z hz hn s => by have s : B ≤ z.block := s; have := l.a z hz hn; omega), h.2.1, fun e he => ⟨(h.2.2 e he).1.but b (fun z hz hn s => by have s : B ≤ z.block := s; have := l.d e he z hz hn; omega), (h.2.2 e he).2⟩⟩
theorem dsof_eq {TL : List (Option Tk)} {t : Tc} (h : TL.map dsOf = t.l.map Dr.l) : DSof TL = dsT t := by
  funext i
  unfold DSof dsT
  rw [← h]
  simp only [List.getD_eq_getElem?_getD, List.getElem?_map]
  cases TL[i]? <;> rfl
section
variable {B : Nat} {w w' : World} {q : Nat} {d : Rq} {o o' : Nat → Nat} {x : Xp} {lv : Value}
theorem Bth.low (X : Bth B w q d o x lv) {k : Nat} (hk : k < B) : o k = 0 := by
  rcases Nat.eq_zero_or_pos (o k) with e | e
  · exact e
  · have := X.xe.base k (by omega); omega
theorem Bth.inB (X : Bth B w q d o x lv) {k : Nat} (hk : d.In k) : B ≤ k := X.xe.base k (by rw [X.d9 k hk]; decide)
theorem Bth.off (X : Bth B w q d o x lv) {t : Tc} (l : t.Low B) : t.Off d :=
  ⟨fun z hz hn s => by have := X.inB s; have := l.a z hz hn; omega, fun e he z hz hn s => by have := X.inB s; have := l.d e he z hz hn; omega⟩
theorem Bth.after (X : Bth B w q d o x lv) (a : After w w') : Bth B w' q d o x lv := ⟨X.xe.after a, X.rx.after a, X.d9, X.r0⟩
/-- The program's side went on. -/
theorem Bth.prog (X : Bth B w q d o x lv) {A : Nat → Prop} (h0 : ¬ A 0) (h9 : ¬ A 9) (g : Go A w w' o o') : Rx w' d x ∧ (∀ k, d.In k → o' k = 9) ∧ (∀ k, d.Row x k → o' k = 0) ∧ But (From B) w w' :=
  ⟨X.rx.but g.but (fun k hk s => h9 (by rw [← X.d9 k hk]; exact s)) (fun k hk s => h0 (by rw [← X.r0 k hk]; exact s)), fun k hk => (g.ext k (X.rx.lt k (.inl hk))).trans (X.d9 k hk), fun k hk => (g.ext k (X.rx.lt k (.inr hk))).trans (X.r0 k hk), g.but.mono (fun k _ s => X.xe.base k (fun e => h0 (by rw [← e]; exact s)))⟩
end
theorem frd_len {N : Nat} {DS : Nat → List De} (hD : ∀ i, (DS i).length ≤ N) (st : List Int) : ∀ (ps : List Int) (L : List Lk), ∀ e ∈ (frd st DS ps L).1, e.h.length ≤ N
  | [], _, e, he => by cases he
  | p :: r, L, e, he => by
    rcases List.mem_cons.1 he with rfl | he
    · have := run_len p (st.getD p.toNat 0) (DS p.toNat) ⟨Tn.new, L, 0, []⟩
      have h2 := hD p.toNat
      show (tnOf p (st.getD p.toNat 0) (DS p.toNat) L []).h.length ≤ N
      unfold tnOf
      simp only [List.length_nil] at this
      omega
    · exact frd_len hD st r _ e he
theorem joinH_len {N : Nat} : ∀ (l : List Ad) (H : Nat → List He) (M : Nat), (∀ e ∈ l, e.h.length ≤ N) → (∀ i, (H i).length ≤ M) → ∀ i, (joinH l H i).length ≤ M + l.length * N
  | [], _, M, _, hH, i => by have := hH i; simp only [joinH, List.length_nil]; omega
  | x :: r, H, M, hl, hH, i => by
    have := joinH_len r (setf H x.a.p.toNat (H x.a.p.toNat ++ x.h)) (M + N) (fun e he => hl e (List.mem_cons_of_mem _ he)) (fun j => by
      by_cases e : j = x.a.p.toNat
      · rw [e, setf_at, List.length_append]
        have := hH x.a.p.toNat
        have := hl x (List.mem_cons_self ..)
        omega
      · rw [setf_ne _ _ e]; have := hH j; omega) i
    show (joinH r _ i).length ≤ _
    rw [List.length_cons, Nat.add_mul]
    omega
theorem frd_parts (st : List Int) (DS : Nat → List De) : ∀ (ps : List Int) (L : List Lk), (frd st DS ps L).1.map (fun e => e.a.p) = ps
  | [], _ => rfl
  | p :: r, L => by
    show p :: (frd st DS r _).1.map (fun e => e.a.p) = _
    rw [frd_parts st DS r]
/-- Behind both ticks. -/
structure Tkd (B : Nat) (w0 w : World) (q : Nat) (d : Rq) (o : Nat → Nat) (x : Xp) (lv : Value) (TL : List (Option Tk)) (F : List Ad) (va vw : Value) (vb : Value) (Y : List Aw) : Prop where
  bt : ∃ x', Bth B w q d o x' lv
  go : But (From B) w0 w
  ra : ORow anE 48 w 0 va (F.map Ad.a)
  rw : ORow pkE 58 w 0 vw TL
  rb : ORow awE 92 w 0 vb Y
  hs : ∀ y ∈ Y, ORow heE 69 w 0 (.slice y.a y.h.length y.c) y.h
  ad : Y.map Aw.ad = F
  tk : ∀ i k, TL[i]? = some (some k) → ∃ cv, TaIn w o i k (joinH F (fun _ => []) i) cv ∧ Done w o cv
  ps : ∀ e ∈ F, 0 ≤ e.a.p ∧ e.a.p < 8
  ln : ∀ e ∈ F, e.h.length ≤ 1048576
  n8 : F.length ≤ 8
  t8 : TL.length ≤ 8
end Go.Proofs.Ytkjjjibglaffnaa
