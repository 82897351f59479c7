/-
  The closure's surroundings; the closures within it; anywhere.
-/
import Derived.Test.YthgmjeljjladhaaFoM
import Derived.Lib.MinMax
namespace Go.Proofs.Ythgmjeljjladhaa
open Go.RowKit Go.Maps
set_option maxRecDepth 8000
/-- Where what the closure captures lies. -/
structure Pl where
  pl : Nat
  pc : Nat
  pt : Nat
  pf : Nat
  ph : Nat
  g : Nat
  al : Option Addr
  cl : Nat
  ac : Option Addr
  cc : Nat
  aT : Option Addr
  ct : Nat
/-- The closure. -/
abbrev Pl.fn (p : Pl) : Value := .func (.func 42) #[] #[Ptr p.pl, Ptr p.pc, Ptr p.pt, Ptr p.pf, Ptr p.ph]
structure Env (w : World) (p : Pl) (L : List Nd) (C : List Ch) (X : List Tr) : Prop where
  n0 : w.cell? ⟨p.pl, 0, none⟩ = some (.slice p.al L.length p.cl)
  n1 : NRow w p.al L.length L
  c0 : w.cell? ⟨p.pc, 0, none⟩ = some (.slice p.ac C.length p.cc)
  c1 : CRow w p.ac C.length C
  t0 : w.cell? ⟨p.pt, 0, none⟩ = some (.slice p.aT X.length p.ct)
  t1 : TRow w p.aT X.length X
  f0 : w.cell? ⟨p.pf, 0, none⟩ = some (.map (some p.g))
  h0 : w.cell? ⟨p.ph, 0, none⟩ = some p.fn
  mm : Memo w p.g (val L C (rdsOf X)) L.length X.length
theorem Env.after {w w' : World} {p : Pl} {L : List Nd} {C : List Ch} {X : List Tr} (h : Env w p L C X) (a : After w w') : Env w' p L C X :=
  ⟨(a.cell (cell_lt h.n0) _).trans h.n0, h.n1.after a, (a.cell (cell_lt h.c0) _).trans h.c0, h.c1.after a, (a.cell (cell_lt h.t0) _).trans h.t0, h.t1.after a, (a.cell (cell_lt h.f0) _).trans h.f0, (a.cell (cell_lt h.h0) _).trans h.h0, h.mm.after a⟩
theorem Env.keep {w w' : World} {p : Pl} {L : List Nd} {C : List Ch} {X : List Tr} (h : Env w p L C X) (b : But (One p.g) w w') (m : Memo w' p.g (val L C (rdsOf X)) L.length X.length) : Env w' p L C X :=
  ⟨cell_keep h.mm.map b h.n0, h.n1.keep h.mm.map b, cell_keep h.mm.map b h.c0, h.c1.keep h.mm.map b, cell_keep h.mm.map b h.t0, h.t1.keep h.mm.map b, cell_keep h.mm.map b h.f0, cell_keep h.mm.map b h.h0, m⟩
theorem Env.lt {w : World} {p : Pl} {L : List Nd} {C : List Ch} {X : List Tr} (h : Env w p L C X) : p.g < w.heap.size := by
  obtain ⟨es, c, hb⟩ := h.mm.map
  exact blk_lt hb
/-- What the closure says of the j-th node. -/
def Says (p : Pl) (L : List Nd) (C : List Ch) (X : List Tr) (j : Nat) : Prop :=
  ∀ s : Nat, s < X.length → ∀ W, Env W p L C X → Calls Try.prog 42 #[.int .i64 (j : Int), .int .i64 (s : Int), Ptr p.pl, Ptr p.pc, Ptr p.pt, Ptr p.pf, Ptr p.ph] W fun e W' => e = .returned (.bool (val L C (rdsOf X) j s)) ∧ Env W' p L C X ∧ But (One p.g) W W'
theorem in1_any {p : Pl} {L : List Nd} {C : List Ch} {X : List Tr} {j : Nat} (S : Says p L C X j) {s : Nat} (hs : s < X.length) {W : World} (e : Env W p L C X) {q : Nat} (hq : W.cell? ⟨q, 1, none⟩ = some (.int .i64 (j : Int))) :
    Calls Try.prog 45 #[.int .i64 (s : Int), Ptr p.ph, Ptr q] W fun x W' => x = .returned (.bool (val L C (rdsOf X) j s)) ∧ Env W' p L C X ∧ But (One p.g) W W' := by
  have h0 := e.h0
  have H := hideIt (S s hs W e)
  clear S e
  go_enter Try.func45, Try.ntmps45
  go_wp2_with (go_at_call 42; refine H.out.mono ?_; rintro e w1 ⟨rfl, he, hb⟩)
  go_ret
  exact ⟨rfl, he, hb⟩
theorem in2_any {p : Pl} {L : List Nd} {C : List Ch} {X : List Tr} {j : Nat} (S : Says p L C X j) {s : Nat} (hs : s < X.length) {W : World} (e : Env W p L C X) {q : Nat} (hq : W.cell? ⟨q, 1, none⟩ = some (.int .i64 (j : Int))) :
    Calls Try.prog 46 #[.int .i64 (s : Int), Ptr p.ph, Ptr q] W fun x W' => x = .returned (.bool (!val L C (rdsOf X) j s)) ∧ Env W' p L C X ∧ But (One p.g) W W' := by
  have h0 := e.h0
  have H := hideIt (S s hs W e)
  clear S e
  go_enter Try.func46, Try.ntmps46
  go_wp2_with (go_at_call 42; refine H.out.mono ?_; rintro e w1 ⟨rfl, he, hb⟩)
  go_ret
  exact ⟨rfl, he, hb⟩
theorem anyW_none {f : Nat → Bool} {lo t : Nat} (h : ∀ s, lo ≤ s → s < t + 1 → f s = false) : anyW f lo t = false := anyW_false.2 (fun s h1 h2 => h s h1 (by omega))
theorem any1_any {p q : Value} {I : World → Prop} {f : Nat → Bool} {t n : Nat} (S : ∀ s : Nat, s ≤ t → ∀ W, I W → Calls Try.prog 45 #[.int .i64 (s : Int), p, q] W fun x W' => x = .returned (.bool (f s)) ∧ I W') (ht : t < 1000000) (hn : n < 1000000) {w : World} (h : I w) :
    Calls Try.prog 44 #[.int .i64 (t : Int), .int .i64 (n : Int), .func (.func 45) #[] #[p, q]] w fun x w' => x = .returned (.bool (anyW f (t - n) t)) ∧ I w' := by
  obtain ⟨B, hB⟩ : ∃ B, anyW f (t - n) t = B := ⟨_, rfl⟩
  rw [hB]
  have HB := hideIt hB
  have HS := hideIt S
  have HI := hideIt h
  have hm : max ((t : Int) - (n : Int)) 0 = ((t - n : Nat) : Int) := by omega
  clear hB S h
  generalize hlo : t - n = lo at *
  have HL := hideIt hlo
  clear hlo
  go_enter Try.func44, Try.ntmps44
  go_wp2_with fail
  go_loopw [7] (fun i wr => ∃ j : Nat, lo ≤ j ∧ j ≤ t + 1 ∧ i = .int .i64 j ∧ (∀ s, lo ≤ s → s < j → f s = false) ∧ I wr) (fun i _ => t + 1 - (intOf i).toNat)
  case atStart => exact ⟨lo, Nat.le_refl _, by have := HL.out; omega, rfl, fun s h1 h2 => absurd h1 (by omega), HI.out⟩
  case round =>
    obtain ⟨j, hj0, hj, rfl, hm2, aw⟩ := hrel
    by_cases hjn : j ≤ t
    · have i5 : (j : Int) ≤ (t : Int) := by omega
      have HC := hideIt (HS.out j hjn _ aw)
      have HM := hideIt hm2
      clear hm2 aw
      rcases hf : f j with _ | _
      · have HF := hideIt hf
        rw [hf] at HC
        clear hf
        go_wp2_with (go_at_call 45; refine HC.out.mono ?_; rintro e w2 ⟨rfl, a2⟩)
        go_roundw
        case rel => exact ⟨j + 1, by omega, by omega, by go_num, fun s h1 h2 => (if hs : s = j then by rw [hs]; exact HF.out else HM.out s h1 (by omega)), a2⟩
        case measure => simp [intOf]; omega
      · have HF := hideIt hf
        rw [hf] at HC
        clear hf
        go_wp2_with (go_at_call 45; refine HC.out.mono ?_; rintro e w2 ⟨rfl, a2⟩)
        go_ret
        exact ⟨ret_bool (by rw [← HB.out]; exact (anyW_true.2 ⟨j, hj0, hjn, HF.out⟩).symm), a2⟩
    · have i5 : ¬ (j : Int) ≤ (t : Int) := by omega
      have HM := hideIt (And.intro hm2 aw)
      clear hm2 aw
      go_wp2
      go_ret
      exact ⟨ret_bool (by rw [← HB.out]; exact (anyW_none (fun s h1 h2 => HM.out.1 s h1 (by omega))).symm), HM.out.2⟩
theorem any2_any {p q : Value} {I : World → Prop} {f : Nat → Bool} {t n : Nat} (S : ∀ s : Nat, s ≤ t → ∀ W, I W → Calls Try.prog 46 #[.int .i64 (s : Int), p, q] W fun x W' => x = .returned (.bool (f s)) ∧ I W') (ht : t < 1000000) (hn : n < 1000000) {w : World} (h : I w) :
    Calls Try.prog 44 #[.int .i64 (t : Int), .int .i64 (n : Int), .func (.func 46) #[] #[p, q]] w fun x w' => x = .returned (.bool (anyW f (t - n) t)) ∧ I w' := by
  obtain ⟨B, hB⟩ : ∃ B, anyW f (t - n) t = B := ⟨_, rfl⟩
  rw [hB]
  have HB := hideIt hB
  have HS := hideIt S
  have HI := hideIt h
  have hm : max ((t : Int) - (n : Int)) 0 = ((t - n : Nat) : Int) := by omega
  clear hB S h
  generalize hlo : t - n = lo at *
  have HL := hideIt hlo
  clear hlo
  go_enter Try.func44, Try.ntmps44
  go_wp2_with fail
  go_loopw [7] (fun i wr => ∃ j : Nat, lo ≤ j ∧ j ≤ t + 1 ∧ i = .int .i64 j ∧ (∀ s, lo ≤ s → s < j → f s = false) ∧ I wr) (fun i _ => t + 1 - (intOf i).toNat)
  case atStart => exact ⟨lo, Nat.le_refl _, by have := HL.out; omega, rfl, fun s h1 h2 => absurd h1 (by omega), HI.out⟩
  case round =>
    obtain ⟨j, hj0, hj, rfl, hm2, aw⟩ := hrel
    by_cases hjn : j ≤ t
    · have i5 : (j : Int) ≤ (t : Int) := by omega
      have HC := hideIt (HS.out j hjn _ aw)
      have HM := hideIt hm2
      clear hm2 aw
      rcases hf : f j with _ | _
      · have HF := hideIt hf
        rw [hf] at HC
        clear hf
        go_wp2_with (go_at_call 46; refine HC.out.mono ?_; rintro e w2 ⟨rfl, a2⟩)
        go_roundw
        case rel => exact ⟨j + 1, by omega, by omega, by go_num, fun s h1 h2 => (if hs : s = j then by rw [hs]; exact HF.out else HM.out s h1 (by omega)), a2⟩
        case measure => simp [intOf]; omega
      · have HF := hideIt hf
        rw [hf] at HC
        clear hf
        go_wp2_with (go_at_call 46; refine HC.out.mono ?_; rintro e w2 ⟨rfl, a2⟩)
        go_ret
        exact ⟨ret_bool (by rw [← HB.out]; exact (anyW_true.2 ⟨j, hj0, hjn, HF.out⟩).symm), a2⟩
    · have i5 : ¬ (j : Int) ≤ (t : Int) := by omega
      have HM := hideIt (And.intro hm2 aw)
      clear hm2 aw
      go_wp2
      go_ret
      exact ⟨ret_bool (by rw [← HB.out]; exact (anyW_none (fun s h1 h2 => HM.out.1 s h1 (by omega))).symm), HM.out.2⟩
end Go.Proofs.Ythgmjeljjladhaa
