/-
  Numbers that a reader of package mder reads: number, U8, U16, U32; Left.
-/
import Derived.Test.YtigiakhdaaoljaaTake
namespace Go.Proofs.Ytigiakhdaaoljaa
open Go.RowKit
/-- A byte behind a number. -/
theorem or_byte (v x : Nat) (hv : v < 16777216) (hx : x < 256) : bits .or .u32 ((v : Int) * 256) (x : Int) = (v : Int) * 256 + (x : Int) := by
  have h := u32_or_nat (v * 256) x (by omega) (by omega)
  have e : v * 256 ||| x = v * 256 + x := by
    have := Nat.two_pow_add_eq_or_of_lt (i := 8) (b := x) (by omega) v
    have e2 : 2 ^ 8 * v = v * 256 := by omega
    rw [e2] at this
    exact this.symm
  rw [e] at h
  simpa using h
theorem wrap_shl (v : Nat) (hv : v < 16777216) : IntKind.u32.wrap ((v : Int) * 256) = (v : Int) * 256 := by
  rw [IntKind.wrap_u32]; omega
set_option maxRecDepth 100000 in
set_option maxHeartbeats 1000000 in
theorem number_any (w : World) (g h k : Nat) (zs : List Int) (r : RdAt w g h zs) (hk : k ≤ 4) (h0 : 0 < k) :
    Calls Try.prog 86 #[Ptr g, .int .i64 k] w fun e w' => e = .returned (.tuple #[.int .u32 (rdVal k zs), .int .i64 (rdErr k zs)]) ∧ RdAt w' g h (rdRest k zs) ∧ But (One g) w w' := by
  by_cases hl : k ≤ zs.length
  · rw [rdVal_yes hl, rdErr_yes hl, rdRest_yes hl]
    have HT := hideIt (take_yes w g h k zs r hl)
    have HB := hideIt r.bs
    have H0 := hideIt (r.ne (by omega)).1
    have H4 := hideIt hk
    have HL := hideIt hl
    have Z0 := hideIt (be_zero zs).symm
    clear r hk h0 hl
    go_enter Try.func86, Try.ntmps86
    go_wp2_with fail
    refine HT.out.mono ?_
    rintro e w1 ⟨a, rfl, hr, hd, hb, ho, _⟩
    obtain ⟨off, rfl⟩ := ho H0.out
    have HR := hideIt hr
    have HD := hideIt hd
    have HU := hideIt hb
    clear hr hd hb ho HT
    go_wp2_with fail
    go_loop [8, 22] (fun s i => ∃ j : Nat, j ≤ k ∧ i = .int .i64 j ∧ s = .int .u32 (be (zs.take j))) (fun _ i => k - (intOf i).toNat)
    case atStart => exact ⟨0, by omega, rfl, congrArg (fun x : Int => Value.int .u32 x) Z0.out⟩
    case round =>
      obtain ⟨j, hj, rfl, rfl⟩ := hrel
      by_cases hlt : j < k
      · obtain ⟨b, o, x, e, hbl, hx, hzx, hcx⟩ := HR.out.at hlt
        cases e
        rw [getD_take zs hlt] at hzx
        have hm := be_more (zs := zs) (i := j) (by have := HL.out; omega)
        have hbd := be_below HB.out hlt H4.out HL.out
        rw [hzx] at hm
        obtain ⟨v, hv⟩ := Int.eq_ofNat_of_zero_le hbd.1
        rw [hv] at hm hbd ⊢
        have q1 := or_byte v x (by omega) hx
        have q2 := wrap_shl v (by omega)
        have HM := hideIt hm
        have k4 : (k : Int) ≤ 4 := by have := H4.out; omega
        clear HR HD HB HL Z0 hm hv hzx hbd
        go_wp2
        go_round
        case rel => exact ⟨j + 1, by omega, by go_num, congrArg (fun x : Int => Value.int .u32 x) HM.out.symm⟩
        case measure => simp [intOf]; omega
      · obtain rfl : j = k := by omega
        go_wp2
        go_ret2
        exact ⟨rfl, HD.out, HU.out⟩
  · rw [rdVal_no hl, rdErr_no hl, rdRest_no hl]
    have HT := hideIt (take_no w g h k zs r hl)
    have HR := hideIt r
    clear r hk h0 hl
    go_enter Try.func86, Try.ntmps86
    go_wp2_with (go_at_call 88; refine HT.out.mono ?_; rintro e w' ⟨rfl, rfl⟩)
    go_ret2
    exact ⟨rfl, HR.out, But.rfl⟩
theorem u8_any (w : World) (g h : Nat) (zs : List Int) (r : RdAt w g h zs) :
    Calls Try.prog 94 #[Ptr g] w fun e w' => e = .returned (.tuple #[.int .i64 (rdVal 1 zs), .int .i64 (rdErr 1 zs)]) ∧ RdAt w' g h (rdRest 1 zs) ∧ But (One g) w w' := by
  have HT := hideIt (number_any w g h 1 zs r (by decide) (by decide))
  obtain ⟨b1, b2⟩ := rdVal_bound r.bs 1 (by decide)
  generalize rdVal 1 zs = v at *
  generalize rdErr 1 zs = q at *
  generalize rdRest 1 zs = ys at *
  clear r
  go_enter Try.func94, Try.ntmps94
  go_wp2_with (go_at_call 86; refine HT.out.mono ?_; rintro e w1 ⟨rfl, hr, hb⟩; have HR := hideIt hr; have HB := hideIt hb; clear hr hb)
  go_ret2
  exact ⟨rfl, HR.out, HB.out⟩
theorem u16_any (w : World) (g h : Nat) (zs : List Int) (r : RdAt w g h zs) :
    Calls Try.prog 74 #[Ptr g] w fun e w' => e = .returned (.tuple #[.int .i64 (rdVal 2 zs), .int .i64 (rdErr 2 zs)]) ∧ RdAt w' g h (rdRest 2 zs) ∧ But (One g) w w' := by
  have HT := hideIt (number_any w g h 2 zs r (by decide) (by decide))
  obtain ⟨b1, b2⟩ := rdVal_bound r.bs 2 (by decide)
  generalize rdVal 2 zs = v at *
  generalize rdErr 2 zs = q at *
  generalize rdRest 2 zs = ys at *
  clear r
  go_enter Try.func74, Try.ntmps74
  go_wp2_with (go_at_call 86; refine HT.out.mono ?_; rintro e w1 ⟨rfl, hr, hb⟩; have HR := hideIt hr; have HB := hideIt hb; clear hr hb)
  go_ret2
  exact ⟨rfl, HR.out, HB.out⟩
theorem u32_any (w : World) (g h : Nat) (zs : List Int) (r : RdAt w g h zs) :
    Calls Try.prog 92 #[Ptr g] w fun e w' => e = .returned (.tuple #[.int .u32 (rdVal 4 zs), .int .i64 (rdErr 4 zs)]) ∧ RdAt w' g h (rdRest 4 zs) ∧ But (One g) w w' := by
  have HT := hideIt (number_any w g h 4 zs r (by decide) (by decide))
  generalize rdVal 4 zs = v at *
  generalize rdErr 4 zs = q at *
  generalize rdRest 4 zs = ys at *
  clear r
  go_enter Try.func92, Try.ntmps92
  go_wp2_with (go_at_call 86; refine HT.out.mono ?_; rintro e w1 ⟨rfl, hr, hb⟩; have HR := hideIt hr; have HB := hideIt hb; clear hr hb)
  go_ret2
  exact ⟨rfl, HR.out, HB.out⟩
theorem left_any (w : World) (g h : Nat) (zs : List Int) (r : RdAt w g h zs) :
    Calls Try.prog 66 #[Ptr g] w fun e w' => e = .returned (.int .i64 zs.length) ∧ w' = w := by
  obtain ⟨a, n, c, h1, h2, h3, h4, h5⟩ := r
  have HN := hideIt (isNone_no h1)
  obtain ⟨_, hc0, hc1, hf0, hf1⟩ := two_at h1
  have HL := hideIt h2.1
  clear h1 h2 h3 h5 h4
  go_enter Try.func66, Try.ntmps66
  go_wp2_with (go_at_call 79; refine HN.out.mono ?_; rintro e w' ⟨rfl, rfl⟩)
  go_ret
  exact ⟨ret_int (by rw [HL.out]), rfl⟩
end Go.Proofs.Ytigiakhdaaoljaa
