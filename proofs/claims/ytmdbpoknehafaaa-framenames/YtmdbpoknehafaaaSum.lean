/-
  Sum16 of package crc.
-/
import Derived.Test.YtmdbpoknehafaaaHalfA
namespace Go.Proofs.Ytmdbpoknehafaaa
open Go.RowKit
/-- The world of Sum16: behind the array's making, its block. -/
def sX (K : IntKind) (T : TypeId) (f : Nat → Nat) (w : World) : World := w.alloc (.cells (sixteen fun i => .int K (f i : Int)) T)
theorem sX_cell (K T f) (w : World) (j : Nat) (h : j < 16) : (sX K T f w).cell? ⟨w.heap.size, j, none⟩ = some (.int K (f j : Int)) := by
  have e : (sX K T f w).heap[w.heap.size]? = some (.cells (sixteen fun i => .int K (f i : Int)) T) := by
    show (w.heap.push _)[w.heap.size]? = _
    rw [Array.getElem?_push, if_pos rfl]
  unfold World.cell?
  simp [e, sixteen_at _ j h]
/-- What the walk of Sum16 is told of one byte: letters alone. -/
theorem round16 (F : Nat → Nat) (hF : F = h16) {s x : Nat} (hs : s < 65536) (hx : x < 256) : ∃ j1 p1 j2 p2 : Nat, j1 < 16 ∧ j2 < 16 ∧
    bits .xor .u16 ((s : Int) / 4096) ((x : Int) / 16) = (j1 : Int) ∧ bits .xor .u16 (IntKind.u16.wrap ((s : Int) * 16)) (F j1 : Int) = (p1 : Int) ∧
    bits .and .u8 (x : Int) 15 = (x : Int) % 16 ∧ bits .xor .u16 ((p1 : Int) / 4096) ((x : Int) % 16) = (j2 : Int) ∧ bits .xor .u16 (IntKind.u16.wrap ((p1 : Int) * 16)) (F j2 : Int) = (p2 : Int) ∧ p1 < 65536 ∧ p2 = step16 s x := by
  have l1 : s / 4096 ^^^ x / 16 < 16 := x4 (by omega) (by omega)
  have f1 : ∀ j, j < 16 → F j < 65536 := fun j hj => by rw [hF]; unfold h16; exact r16_lt 4 (by omega)
  obtain ⟨j1, hj1⟩ : ∃ j, j = s / 4096 ^^^ x / 16 := ⟨_, rfl⟩
  rw [← hj1] at l1
  obtain ⟨p1, hp1⟩ : ∃ p, p = s * 16 % 65536 ^^^ F j1 := ⟨_, rfl⟩
  have lp : p1 < 65536 := by rw [hp1]; exact x16 (by omega) (f1 _ l1)
  have l2 : p1 / 4096 ^^^ x % 16 < 16 := x4 (by omega) (by omega)
  obtain ⟨j2, hj2⟩ : ∃ j, j = p1 / 4096 ^^^ x % 16 := ⟨_, rfl⟩
  rw [← hj2] at l2
  refine ⟨j1, p1, j2, p1 * 16 % 65536 ^^^ F j2, l1, l2, ?_, ?_, and15b x hx, ?_, ?_, lp, ?_⟩
  · rw [hj1, ← u16_xor_nat (s / 4096) (x / 16) (by omega) (by omega)]; rfl
  · rw [hp1, ← u16_xor_nat (s * 16 % 65536) (F j1) (by omega) (f1 _ l1), ← shl16]; rfl
  · rw [hj2, ← u16_xor_nat (p1 / 4096) (x % 16) (by omega) (by omega)]; rfl
  · rw [← u16_xor_nat (p1 * 16 % 65536) (F j2) (by omega) (f1 _ l2), ← shl16]; rfl
  · rw [step16_halves hs hx, hj2, hp1, hj1, hF]
set_option maxRecDepth 100000 in
set_option maxHeartbeats 1000000 in
theorem sum16_any (a : Option Addr) (n c : Nat) (zs : List Int) (w : World) (hr : Row w a n zs) (hn : n ≤ 140737488355328) :
    Calls Try.prog 33 #[.slice a n c] w fun e w' => e = .returned (.int .u16 (sum16 zs : Nat)) ∧ After w w' := by
  obtain ⟨F, hF⟩ : ∃ F : Nat → Nat, F = h16 := ⟨_, rfl⟩
  have C := hideIt halves16_any
  rw [← hF] at C
  have HF := hideIt hF
  have HR := hideIt hr
  clear hF hr
  have HN : Hid (∀ k, k ≤ n → fold16 65535 (zs.take k) < 65536) := fun k _ => fold16_lt (by omega) (HR.out.2.1.take k)
  have HM : Hid (∀ k, k < n → fold16 65535 (zs.take (k + 1)) = step16 (fold16 65535 (zs.take k)) (zs.getD k 0).toNat) := fun k hk => fold16_more (by rw [HR.out.1]; exact hk)
  have HE : Hid (fold16 65535 (zs.take n) = sum16 zs) := by
    unfold Hid sum16; rw [← HR.out.1, List.take_length]
  have hz0 : Hid (65535 = fold16 65535 (zs.take 0)) := by
    unfold Hid; rw [List.take_zero]; exact Eq.refl _
  generalize sum16 zs = Z at *
  go_enter Try.func33, Try.ntmps33
  go_wp2_with (go_at_call 35; refine (C.out _).mono ?_; rintro e w1 ⟨rfl, ha⟩; unfold sixteen)
  go_loopw [4, 10] (fun s i W => ∃ k : Nat, k ≤ n ∧ i = .int .i64 k ∧ s = .int .u16 (fold16 65535 (zs.take k) : Nat) ∧ After (sX .u16 59 F w1) W) (fun _ i _ => n - (intOf i).toNat)
  case atStart => exact ⟨0, by omega, rfl, congrArg (fun x : Nat => Value.int .u16 (x : Int)) hz0.out, After.rfl⟩
  case round =>
    obtain ⟨k, hk, rfl, rfl, hX⟩ := hrel
    have hA : After w wr := (ha.alloc _).trans hX
    by_cases hlt : k < n
    · obtain ⟨b, off, x, rfl, hbl, hx, hzx, hcx⟩ := (HR.out.after hA).at hlt
      have e1 := HM.out k hlt
      rw [hzx, Int.toNat_natCast] at e1
      have hs := HN.out k hk
      obtain ⟨S, hS⟩ : ∃ S, S = fold16 65535 (zs.take k) := ⟨_, rfl⟩
      rw [← hS] at e1 hs ⊢
      have E1 := hideIt e1
      obtain ⟨j1, p1, j2, p2, l1, l2, a1, a2, a3, a4, a5, lp, ep⟩ := round16 F HF.out hs hx
      have hc1 : wr.cell? ⟨w1.heap.size, j1, none⟩ = some (.int .u16 (F j1)) := by
        rw [hX.cell (by simp [sX])]; exact sX_cell _ _ _ _ _ l1
      have hc2 : wr.cell? ⟨w1.heap.size, j2, none⟩ = some (.int .u16 (F j2)) := by
        rw [hX.cell (by simp [sX])]; exact sX_cell _ _ _ _ _ l2
      have EP := hideIt ep
      have HX := hideIt hX
      have i1 : (j1 : Int) < 16 := by omega
      have i2 : (j2 : Int) < 16 := by omega
      clear C HF HR HN HM HE hz0 ha hX hA e1 hS hzx ep
      go_wp2
      go_roundw
      case rel => exact ⟨k + 1, by omega, by go_num, by rw [E1.out, ← EP.out], HX.out⟩
      case measure => simp [intOf]; omega
    · obtain rfl : k = n := by omega
      rw [HE.out]
      go_wp2
      go_ret
      exact ⟨rfl, hA⟩
end Go.Proofs.Ytmdbpoknehafaaa
