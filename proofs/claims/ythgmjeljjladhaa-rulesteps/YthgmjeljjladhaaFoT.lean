/-
  The document's window and since: what they answer; rows of bools.
-/
import Derived.Test.YthgmjeljjladhaaFoE
namespace Go.Proofs.Ythgmjeljjladhaa
open Go.RowKit
set_option maxRecDepth 8000
def bE : Enc Bool where
  k := 1
  enc b := [.bool b]
  len _ := rfl
  one x u hu := by
    simp only [List.mem_cons, List.not_mem_nil, or_false] at hu
    rcases hu with rfl; rfl
  pos := by decide
/-- A row of rows of bools. -/
structure Br where
  a : Option Addr
  n : Nat
  d : Nat
  l : List Bool
def brE : Enc Br where
  k := 1
  enc x := [.slice x.a x.n x.d]
  len _ := rfl
  one x u hu := by
    simp only [List.mem_cons, List.not_mem_nil, or_false] at hu
    rcases hu with rfl; rfl
  pos := by decide
abbrev BRow := GRow bE
def Br.In (w : World) (x : Br) : Prop := BRow w x.a x.n x.l
theorem brow_at {w : World} {a n xs} (h : BRow w a n xs) {i : Nat} (hi : i < n) : ∃ b off, a = some ⟨b, off, none⟩ ∧ b < w.heap.size ∧ w.cell? ⟨b, off + i, none⟩ = some (.bool (xs.getD i false)) := by
  obtain ⟨b, off, x, e, hb, hx, h1⟩ := h.2 i hi
  refine ⟨b, off, e, hb, ?_⟩
  have := h1 0 _ rfl
  rw [Nat.add_zero, show bE.k = 1 from rfl, Nat.mul_one] at this
  rw [this]
  simp [List.getD, hx]
def wnd (f : Nat → Bool) (lo t : Nat) (al : Bool) : Bool := if al = true then !anyW (fun s => !f s) lo t else anyW f lo t
theorem wnd_hit {f : Nat → Bool} {lo t j : Nat} {al : Bool} (h0 : lo ≤ j) (h1 : j ≤ t) (h : (f j != al) = true) : wnd f lo t al = !al := by
  unfold wnd
  cases al with
  | true =>
    simp at h
    rw [if_pos rfl, anyW_true.2 ⟨j, h0, h1, by simp [h]⟩]
  | false =>
    simp at h
    rw [if_neg (by simp), anyW_true.2 ⟨j, h0, h1, h⟩]
    rfl
theorem wnd_none {f : Nat → Bool} {lo t : Nat} {al : Bool} (h : ∀ s, lo ≤ s → s < t + 1 → (f s != al) = false) : wnd f lo t al = al := by
  unfold wnd
  cases al with
  | true =>
    rw [if_pos rfl, anyW_false.2 (fun s h1 h2 => by have := h s h1 (by omega); simp at this; simp [this])]
    rfl
  | false =>
    rw [if_neg (by simp), anyW_false.2 (fun s h1 h2 => by have := h s h1 (by omega); simpa using this)]
theorem window_any {l : List Bool} {w : World} {a : Option Addr} {n c : Nat} (hr : BRow w a n l) {fr : Int} {lo t : Nat} (hm : max fr 0 = (lo : Int)) (hlo : lo ≤ t) (ht : t < n) (hn : n ≤ 1000) (al : Bool) :
    Calls Try.prog 56 #[.slice a n c, .int .i64 fr, .int .i64 (t : Int), .bool al] w fun e w' => e = .returned (.bool (wnd (fun s => l.getD s false) lo t al)) ∧ w' = w := by
  obtain ⟨f, hf⟩ : ∃ f, (fun s => l.getD s false) = f := ⟨_, rfl⟩
  rw [hf]
  have HR : Hid (∀ i, i < n → ∃ b off, a = some ⟨b, off, none⟩ ∧ b < w.heap.size ∧ w.cell? ⟨b, off + i, none⟩ = some (.bool (f i))) := hideIt (fun i hi => by rw [← hf]; exact brow_at hr hi)
  obtain ⟨R, hR⟩ : ∃ R, wnd f lo t al = R := ⟨_, rfl⟩
  rw [hR]
  have HW := hideIt hR
  have hn' : (n : Int) ≤ 1000 := by omega
  clear hr hf hR
  cases al with
  | true =>
    go_enter Try.func56, Try.ntmps56
    go_wp2_with fail
    go_loopw [9] (fun i wr => ∃ j : Nat, lo ≤ j ∧ j ≤ t + 1 ∧ i = .int .i64 j ∧ (∀ s, lo ≤ s → s < j → (f s != true) = false) ∧ wr = w) (fun i _ => t + 1 - (intOf i).toNat)
    case atStart => exact ⟨lo, Nat.le_refl _, by omega, rfl, fun s h1 h2 => absurd h1 (by omega), rfl⟩
    case round =>
      obtain ⟨j, hj0, hj, rfl, hm2, rfl⟩ := hrel
      by_cases hjn : j ≤ t
      · have i5 : (j : Int) ≤ (t : Int) := by omega
        have i6 : (j : Int) < (n : Int) := by omega
        obtain ⟨b, off, rfl, hb, k0⟩ := HR.out j (by omega)
        have HM := hideIt hm2
        clear hm2
        rcases hq : f j with _ | _
        · rw [hq] at k0
          have HQ := hideIt (show (f j != true) = true by rw [hq]; rfl)
          clear hq
          go_wp2_with fail
          go_ret
          exact ⟨ret_bool (by rw [← HW.out]; exact (wnd_hit hj0 hjn HQ.out).symm), by first | rfl | trivial⟩
        · rw [hq] at k0
          have HQ := hideIt (show (f j != true) = false by rw [hq]; rfl)
          clear hq
          go_wp2_with fail
          go_roundw
          case rel => exact ⟨j + 1, by omega, by omega, by go_num, fun s h1 h2 => (if hs : s = j then by rw [hs]; exact HQ.out else HM.out s h1 (by omega)), by first | rfl | trivial⟩
          case measure => simp [intOf]; omega
      · have i5 : ¬ (j : Int) ≤ (t : Int) := by omega
        have HM := hideIt hm2
        clear hm2
        go_wp2_with fail
        go_ret
        exact ⟨ret_bool (by rw [← HW.out]; exact (wnd_none (fun s h1 h2 => HM.out s h1 (by omega))).symm), by first | rfl | trivial⟩
  | false =>
    go_enter Try.func56, Try.ntmps56
    go_wp2_with fail
    go_loopw [9] (fun i wr => ∃ j : Nat, lo ≤ j ∧ j ≤ t + 1 ∧ i = .int .i64 j ∧ (∀ s, lo ≤ s → s < j → (f s != false) = false) ∧ wr = w) (fun i _ => t + 1 - (intOf i).toNat)
    case atStart => exact ⟨lo, Nat.le_refl _, by omega, rfl, fun s h1 h2 => absurd h1 (by omega), rfl⟩
    case round =>
      obtain ⟨j, hj0, hj, rfl, hm2, rfl⟩ := hrel
      by_cases hjn : j ≤ t
      · have i5 : (j : Int) ≤ (t : Int) := by omega
        have i6 : (j : Int) < (n : Int) := by omega
        obtain ⟨b, off, rfl, hb, k0⟩ := HR.out j (by omega)
        have HM := hideIt hm2
        clear hm2
        rcases hq : f j with _ | _
        · rw [hq] at k0
          have HQ := hideIt (show (f j != false) = false by rw [hq]; rfl)
          clear hq
          go_wp2_with fail
          go_roundw
          case rel => exact ⟨j + 1, by omega, by omega, by go_num, fun s h1 h2 => (if hs : s = j then by rw [hs]; exact HQ.out else HM.out s h1 (by omega)), by first | rfl | trivial⟩
          case measure => simp [intOf]; omega
        · rw [hq] at k0
          have HQ := hideIt (show (f j != false) = true by rw [hq]; rfl)
          clear hq
          go_wp2_with fail
          go_ret
          exact ⟨ret_bool (by rw [← HW.out]; exact (wnd_hit hj0 hjn HQ.out).symm), by first | rfl | trivial⟩
      · have i5 : ¬ (j : Int) ≤ (t : Int) := by omega
        have HM := hideIt hm2
        clear hm2
        go_wp2_with fail
        go_ret
        exact ⟨ret_bool (by rw [← HW.out]; exact (wnd_none (fun s h1 h2 => HM.out s h1 (by omega))).symm), by first | rfl | trivial⟩
theorem refSince_any {l l2 : List Bool} {w : World} {a : Option Addr} {n c : Nat} (hr : BRow w a n l) {a2 : Option Addr} {c2 : Nat} (hr2 : BRow w a2 n l2) {t : Nat} (ht : t < n) (hn : n ≤ 1000) :
    Calls Try.prog 57 #[.slice a n c, .slice a2 n c2, .int .i64 (t : Int)] w fun e w' => e = .returned (.bool (sinc (fun s => l.getD s false) (fun s => l2.getD s false) t)) ∧ w' = w := by
  obtain ⟨f, hf⟩ : ∃ f, (fun s => l.getD s false) = f := ⟨_, rfl⟩
  obtain ⟨g, hg⟩ : ∃ g, (fun s => l2.getD s false) = g := ⟨_, rfl⟩
  rw [hf, hg]
  have HR : Hid (∀ i, i < n → ∃ b off, a = some ⟨b, off, none⟩ ∧ b < w.heap.size ∧ w.cell? ⟨b, off + i, none⟩ = some (.bool (f i))) := hideIt (fun i hi => by rw [← hf]; exact brow_at hr hi)
  have HG : Hid (∀ i, i < n → ∃ b off, a2 = some ⟨b, off, none⟩ ∧ b < w.heap.size ∧ w.cell? ⟨b, off + i, none⟩ = some (.bool (g i))) := hideIt (fun i hi => by rw [← hg]; exact brow_at hr2 hi)
  obtain ⟨R, hR⟩ : ∃ R, sinc f g t = R := ⟨_, rfl⟩
  rw [hR]
  have HW := hideIt hR
  have hn' : (n : Int) ≤ 1000 := by omega
  clear hr hr2 hf hg hR
  go_enter Try.func57, Try.ntmps57
  go_wp2_with fail
  go_loopw [7] (fun i wr => ∃ (k : Nat) (z : Int), k ≤ t + 1 ∧ z = (k : Int) - 1 ∧ i = .int .i64 z ∧ (∀ s, k ≤ s → s ≤ t → g s = false ∧ f s = true) ∧ wr = w) (fun i _ => (intOf i + 1).toNat)
  case atStart => exact ⟨t + 1, _, Nat.le_refl _, by omega, rfl, fun s h1 h2 => absurd h1 (by omega), rfl⟩
  case round =>
    obtain ⟨k, z, hk, hz, rfl, hm, rfl⟩ := hrel
    cases k with
    | zero =>
      obtain rfl : z = -1 := by omega
      have HM := hideIt hm
      clear hm hz
      go_wp2_with fail
      go_ret
      exact ⟨ret_bool (by rw [← HW.out]; exact (sinc_zero HM.out (Nat.le_refl _)).symm), by first | rfl | trivial⟩
    | succ k =>
      obtain rfl : z = (k : Int) := by omega
      have hge : (0 : Int) ≤ (k : Int) := by omega
      have i6 : (k : Int) < (n : Int) := by omega
      obtain ⟨b2, off2, rfl, hb2, k2⟩ := HG.out k (by omega)
      obtain ⟨b, off, rfl, hb, k0⟩ := HR.out k (by omega)
      have HS := hideIt (sinc_at (f := f) (g := g) hm (Nat.le_refl k) (by omega : k ≤ t))
      have HT := hideIt (sinc_at (f := f) (g := g) hm (by omega : k ≤ t) (Nat.le_refl t))
      have HM := hideIt hm
      clear hm hz
      rcases hq : g k with _ | _
      · rw [hq] at k2
        rcases hp : f k with _ | _
        · rw [hp] at k0
          have HN := hideIt (sinc_no (f := f) (g := g) hq hp)
          clear hp hq
          go_wp2_with fail
          go_ret
          exact ⟨ret_bool (by rw [← HW.out, HT.out, HN.out]), by first | rfl | trivial⟩
        · rw [hp] at k0
          have HX := hideIt (And.intro hq hp)
          clear hp hq
          go_wp2_with fail
          go_roundw
          case rel => exact ⟨k, _, by omega, rfl, by go_num, fun s h1 h2 => (if hs : s = k then by rw [hs]; exact HX.out else HM.out s (by omega) h2), by first | rfl | trivial⟩
          case measure => simp [intOf]
      · rw [hq] at k2
        have HN := hideIt (sinc_yes (f := f) (g := g) hq)
        clear hq
        go_wp2_with fail
        go_ret
        exact ⟨ret_bool (by rw [← HW.out, HT.out, HN.out]), by first | rfl | trivial⟩
end Go.Proofs.Ythgmjeljjladhaa
