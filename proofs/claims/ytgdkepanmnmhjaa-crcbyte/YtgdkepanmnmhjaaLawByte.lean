/-
  The walk of CrcByte.
-/
import Derived.Test.YtgdkepanmnmhjaaWorks
import Derived.Test.YtgdkepanmnmhjaaPureB
import Derived.Laws.OwnMore
namespace Go.Proofs.Ytgdkepanmnmhjaa
open Go.RowKit
theorem own_some {w : World} {B : Nat} {v : Value} {n : Nat} {xs : List Value} (h : w.ownsRow B 5 1 v n xs) (h0 : 0 < n) : ∃ g cap, v = .slice (some ⟨g, 0, none⟩) n cap := by
  rcases h.2 with ⟨rfl, rfl⟩ | ⟨g, cap, cur, rfl, _⟩
  · omega
  · exact ⟨g, cap, rfl⟩
theorem bs_set {zs : List Int} (h : Bs zs) (k q : Nat) (hq : q < 256) : Bs (zs.set k (q : Int)) := fun z hz => by
  rcases List.mem_or_eq_of_mem_set hz with h1 | h1
  · exact h z h1
  · subst h1; omega
/-- What is behind the store. -/
theorem byte_store {w w1 w2 : World} {g n c k q : Nat} {zs : List Int} (hA : After w w2) (hs : w.heap.size ≤ w1.heap.size) (ho : w2.ownsRow w1.heap.size 5 1 (.slice (some ⟨g, 0, none⟩) n c) n (u8s zs)) (hb : Bs zs) (hq : q < 256) :
    Row (w2.setCell ⟨g, k, none⟩ (.int .u8 q)) (some ⟨g, 0, none⟩) n (zs.set k (q : Int)) ∧ After w (w2.setCell ⟨g, k, none⟩ (.int .u8 q)) := by
  have h1 := (ho.stored k (.int .u8 q)).1
  have e : (u8s zs).set k (.int .u8 q) = u8s (zs.set k (q : Int)) := by unfold u8s; rw [List.map_set]
  rw [e] at h1
  obtain ⟨a, c', e2, hr, _⟩ := own_row h1 (bs_set hb k q hq)
  cases e2
  exact ⟨hr, hA.set (Nat.le_trans hs (ho.lt g rfl).1) _⟩
/-- The two ways of a byte. -/
theorem byte_sums {zs : List Int} {k x y q : Nat} (hb : Bs zs) (hk : k < zs.length) (hx : x < 256) (hz : zs.getD k 0 = (x : Int)) (hy : y < 256) (hq : q = x ^^^ y) :
    (y = 0 → sum16 (zs.set k (q : Int)) = sum16 zs ∧ sum32 (zs.set k (q : Int)) = sum32 zs) ∧ (y ≠ 0 → sum16 (zs.set k (q : Int)) ≠ sum16 zs ∧ sum32 (zs.set k (q : Int)) ≠ sum32 zs) := by
  have l := x8 hx hy
  have hv : 0 ≤ (q : Int) ∧ (q : Int) ≤ 255 := by omega
  have s1 := sum16_set hb hk hv
  have s2 := sum32_set hb hk hv
  rw [hz] at s1 s2
  have e : (q : Int) = (x : Int) ↔ y = 0 := by
    constructor
    · intro h
      have h2 : x ^^^ y = x ^^^ 0 := by rw [Nat.xor_zero, ← hq]; omega
      exact xor_right_inj h2
    · intro h; rw [hq, h, Nat.xor_zero]
  rw [e] at s1 s2
  exact ⟨fun h => ⟨s1.2 h, s2.2 h⟩, fun h => ⟨fun g => h (s1.1 g), fun g => h (s2.1 g)⟩⟩
set_option maxRecDepth 100000 in
theorem byte_walk (a : Option Addr) (n c : Nat) (zs : List Int) (at_ by_ : Int) (w : World) (hr : Row w a n zs) (ha : a = none → n = 0 ∧ c = 0) (hn : n ≤ 140737488355328) (h1 : -9223372036854775808 ≤ at_) (h2 : at_ ≤ 9223372036854775807) (h3 : 0 ≤ by_) (h4 : by_ ≤ 255) :
    Calls Try.prog 7 #[.slice a n c, .int .i64 at_, .int .u8 by_] w fun e w' => e = .returned (.bool true) ∧ After w w' := by
  by_cases h0 : n = 0
  · subst h0
    clear hr ha hn
    go_enter Try.func7, Try.ntmps7
    go_wp2_with fail
    refine (awake_any _).mono ?_
    rintro e w1 ⟨rfl, hw1⟩
    have A1 := hideIt hw1
    clear hw1
    go_wp2
    go_ret
    exact ⟨rfl, A1.out⟩
  have HP : 0 < n := by omega
  have hne : ((n : Int) == 0) = false := by simp; omega
  obtain ⟨y, rfl⟩ := Int.eq_ofNat_of_zero_le h3
  have hy : y < 256 := by omega
  have HR := hideIt hr
  have HA := hideIt ha
  have HN := hideIt hn
  have HP := hideIt HP
  have HY := hideIt hy
  have HT := hideIt (And.intro h1 h2)
  clear hr ha hn h1 h2 h3 h4 hy h0
  go_enter Try.func7, Try.ntmps7
  go_wp2_with fail
  refine (awake_any _).mono ?_
  rintro e w1 ⟨rfl, hw1⟩
  have A1 := hideIt hw1
  clear hw1
  go_wp2_with fail
  refine (copy_any _ _ _ _ _ (HR.out.after A1.out) HA.out HN.out).mono ?_
  rintro e w2 ⟨v, rfl, o2, hw2⟩
  obtain ⟨g, c2, rfl⟩ := own_some o2 HP.out
  have O2 := hideIt o2
  have A2 := hideIt (A1.out.trans hw2)
  have S1 := hideIt (After.size A1.out)
  clear o2 hw2
  go_wp2_with fail
  refine (bring_any at_ n _ HP.out HN.out HT.out.1 HT.out.2).mono ?_
  rintro e w2' ⟨k, hk, rfl, rfl⟩
  obtain ⟨b, off, x, -, -, hx, hzx, -⟩ := HR.out.at hk
  have hc := O2.out.cellAt k (by omega)
  have hkl : k < zs.length := by rw [HR.out.1]; exact hk
  have hc2 : w2'.cell? ⟨g, k, none⟩ = some (.int .u8 x) := by
    rw [hc, ← hzx]
    simp [u8s, hkl]
  have hf2 := O2.out.frozenAt k
  have hki : (k : Int) < n := by omega
  have hxx : bits .xor .u8 (x : Int) (y : Int) = ((x ^^^ y : Nat) : Int) := u8_xor_nat x y hx HY.out
  have l8 := x8 hx HY.out
  obtain ⟨q, hq⟩ : ∃ q, q = x ^^^ y := ⟨_, rfl⟩
  rw [← hq] at hxx l8
  obtain ⟨r3, h3⟩ := byte_store (k := k) A2.out S1.out O2.out HR.out.2.1 l8
  obtain ⟨y0, y1⟩ := byte_sums HR.out.2.1 hkl hx hzx HY.out hq
  have R3 := hideIt r3
  have A3 := hideIt h3
  have Y0 := hideIt y0
  have Y1 := hideIt y1
  clear hc hkl hx hzx hq hk r3 h3 y0 y1 l8 O2 A2 A1 S1 HA HT
  obtain ⟨Z1, hZ1⟩ : ∃ Z, Z = sum16 (zs.set k (q : Int)) := ⟨_, rfl⟩
  obtain ⟨Z2, hZ2⟩ : ∃ Z, Z = sum32 (zs.set k (q : Int)) := ⟨_, rfl⟩
  obtain ⟨Z3, hZ3⟩ : ∃ Z, Z = sum16 zs := ⟨_, rfl⟩
  obtain ⟨Z4, hZ4⟩ : ∃ Z, Z = sum32 zs := ⟨_, rfl⟩
  rw [← hZ1, ← hZ2, ← hZ3, ← hZ4] at Y0 Y1
  have H1 := hideIt hZ1
  have H2 := hideIt hZ2
  have H3 := hideIt hZ3
  have H4 := hideIt hZ4
  clear hZ1 hZ2 hZ3 hZ4
  go_wp2_with fail
  refine (sum16_any _ _ _ _ _ R3.out HN.out).mono ?_
  rintro e w4 ⟨rfl, h4⟩
  rw [← H1.out]
  have R4 := hideIt (R3.out.after h4)
  have A4 := hideIt (A3.out.trans h4)
  clear h4 R3 A3 hc2 hf2
  go_wp2_with fail
  refine (sum16_any _ _ _ _ _ (HR.out.after A4.out) HN.out).mono ?_
  rintro e w5 ⟨rfl, h5⟩
  rw [← H3.out]
  have R5 := hideIt (R4.out.after h5)
  have A5 := hideIt (A4.out.trans h5)
  clear h5 R4 A4
  by_cases hy0 : y = 0
  · obtain ⟨e1, e2⟩ := Y0.out hy0
    subst hy0
    subst e1
    have E2 := hideIt e2
    clear e2 Y0 Y1
    go_wp2_with fail
    refine (sum32_any _ _ _ _ _ R5.out HN.out).mono ?_
    rintro e w6 ⟨rfl, h6⟩
    rw [← H2.out, E2.out]
    have A6 := hideIt (A5.out.trans h6)
    clear h6 R5 A5
    go_wp2_with fail
    refine (sum32_any _ _ _ _ _ (HR.out.after A6.out) HN.out).mono ?_
    rintro e w7 ⟨rfl, h7⟩
    rw [← H4.out]
    have A7 := hideIt (A6.out.trans h7)
    clear h7 A6
    go_wp2
    go_ret
    exact ⟨rfl, A7.out⟩
  · obtain ⟨e1, e2⟩ := Y1.out hy0
    have b1 : ((Z1 : Int) == (Z3 : Int)) = false := by simp; omega
    have b2 : ((Z2 : Int) == (Z4 : Int)) = false := by simp; omega
    have b3 : ((y : Int) == 0) = false := by simp; omega
    have b4 : ((Z1 : Int) != (Z3 : Int)) = true := by simp; omega
    have b5 : ((Z2 : Int) != (Z4 : Int)) = true := by simp; omega
    have b6 : ((y : Int) != 0) = true := by simp; omega
    clear e1 e2 Y0 Y1 hy0
    go_wp2_with fail
    refine (sum32_any _ _ _ _ _ R5.out HN.out).mono ?_
    rintro e w6 ⟨rfl, h6⟩
    rw [← H2.out]
    have A6 := hideIt (A5.out.trans h6)
    clear h6 R5 A5
    go_wp2_with fail
    refine (sum32_any _ _ _ _ _ (HR.out.after A6.out) HN.out).mono ?_
    rintro e w7 ⟨rfl, h7⟩
    rw [← H4.out]
    have A7 := hideIt (A6.out.trans h7)
    clear h7 A6
    go_wp2
    go_ret
    exact ⟨rfl, A7.out⟩
end Go.Proofs.Ytgdkepanmnmhjaa
