/-
  The walk of MderReads.
-/
import Derived.Test.YtojgkhinddjmaaaRds
namespace Go.Proofs.Ytojgkhinddjmaaa
open Go.RowKit
set_option maxRecDepth 100000 in
set_option maxHeartbeats 4000000 in
theorem reads_walk (a : Option Addr) (n c : Nat) (bs : List Int) (a' : Option Addr) (n' c' : Nat) (ls : List Int) (w : World) (hr : Row w a n bs) (ha : a = none → n = 0 ∧ c = 0) (hn : n ≤ 140737488355328) (hl : RowI w a' n' ls) (hn' : n' ≤ 140737488355328) :
    Calls Try.prog 3 #[.slice a n c, .slice a' n' c'] w fun e w' => e = .returned (.bool true) ∧ After w w' := by
  have HR := hideIt hr
  have HA := hideIt ha
  have HN := hideIt hn
  have HI := hideIt hl
  have hn2 : (n : Int) ≤ 140737488355328 := by omega
  have hn3 : (n' : Int) ≤ 140737488355328 := by omega
  clear hr ha hn hl hn'
  go_enter Try.func3, Try.ntmps3
  go_wp2_with fail
  refine (copy_any _ _ _ _ _ HR.out HA.out HN.out).mono ?_
  rintro e w1 ⟨v, rfl, o1, a1⟩
  obtain ⟨ai, ci, rfl, ri, ti, _⟩ := own_row o1 HR.out.2.1
  have O1 := hideIt o1
  have A1 := hideIt a1
  have RI := hideIt ri
  have TI := hideIt ti
  clear o1 a1 ri ti
  go_wp2_with fail
  refine (new_any _ _ _ _ _ RI.out TI.out HN.out).mono ?_
  rintro e w2 ⟨g, h, rfl, r2, l1, l2, a2⟩
  have R2 := hideIt r2
  have A2 := hideIt a2
  have L2 := hideIt (And.intro l1 l2)
  clear r2 l1 l2 a2
  go_wp2_with fail
  refine (refNew_any _ _ _ _ _ ((HR.out.after A1.out).after A2.out) HA.out HN.out).mono ?_
  rintro e w3 ⟨g', h', rfl, r3, l3, l4, a3⟩
  have P3 := hideIt (show Rds w w3 g h g' h' bs from by
    have q1 := R2.out.lt
    have q2 := R2.out.hlt
    have q3 := A1.out.size
    have q4 := A2.out.size
    have q5 := L2.out
    exact ⟨R2.out.after a3, r3, by omega, by omega, by omega, (A1.out.trans A2.out).trans a3, by omega, by omega, by omega, by omega⟩)
  have O3 := hideIt (own_after (own_after O1.out A2.out) a3)
  have HS := hideIt (show ∀ j, (Value.slice ai n ci).ownBlock = some j → w.heap.size ≤ j ∧ j ≠ g ∧ j ≠ h ∧ j ≠ g' ∧ j ≠ h' from fun j hj => by
    have q1 := O1.out.lt j hj
    have q4 := A2.out.size
    have q5 := L2.out
    omega)
  have H3 := hideIt HR.out.2.1
  clear r3 l3 l4 a3 R2 A2 L2 RI TI HR HA A1 O1
  go_wp2_with fail
  go_loopw [8] (fun i W => ∃ (k : Nat) (xs : List Int), k ≤ n ∧ i = .int .i64 k ∧ W.ownsRow w.heap.size 5 1 (.slice ai n ci) n (u8s xs) ∧ Bs xs ∧ Rds w W g h g' h' bs) (fun i _ => n - (intOf i).toNat)
  case atStart => exact ⟨0, bs, by omega, rfl, O3.out, H3.out, P3.out⟩
  case round =>
    obtain ⟨k, xs, hk, rfl, ho, hb, hp⟩ := hrel
    by_cases hlt : k < n
    · obtain ⟨gi, x, rfl, q1, q2, q3, q4, q5, q6⟩ := own_round ho hb hlt
      obtain ⟨ys, s1, s2, s3⟩ := q6 (((x : Int) + 1) % 256) (by omega)
      have F1 := hideIt s1
      have F2 := hideIt s2
      have F3 := hideIt (hp.but s3 (fun i t => by have t2 : i = gi := t; subst t2; exact HS.out i rfl))
      have hki : (k : Int) < n := by omega
      clear ho hb hp q2 q4 q5 q6 s1 s2 s3 O3 H3 P3 HS
      go_wp2
      go_roundw
      case rel => exact ⟨k + 1, ys, by omega, by go_num, F1.out, F2.out, F3.out⟩
      case measure => simp [intOf]; omega
    · have P4 := hideIt hp
      clear ho hb hp O3 H3 P3 HS
      go_wp2_with fail
      go_loopw [9] (fun i W => ∃ (m : Nat) (zs : List Int), m ≤ n' ∧ i = .int .i64 m ∧ Rds w W g h g' h' zs) (fun i _ => n' - (intOf i).toNat)
      case atStart => exact ⟨0, bs, by omega, rfl, P4.out⟩
      case round =>
        obtain ⟨m, zs, hm, rfl, hp⟩ := hrel
        have P5 := hideIt hp
        clear hp P4 hlt hk
        by_cases hlt : m < n' ∧ m < 100
        · obtain ⟨b, off, rfl, hbl, hc, h1, h2⟩ := HI.out m hlt.1
          have hcl : wr.cell? ⟨b, off + m, none⟩ = some (.int .i64 (ls.getD m 0)) := by rw [P5.out.aft.cell hbl]; exact hc
          have i1 : (m : Int) < n' := by omega
          have i2 : (m : Int) < 100 := by omega
          obtain ⟨y, hy⟩ : ∃ y, ls.getD m 0 = y := ⟨_, rfl⟩
          rw [hy] at hcl h1 h2
          have HY := hideIt (And.intro h1 h2)
          clear hc h1 h2 hy HI hlt
          go_wp2_with fail
          refine (bring_any y _ HY.out.1 HY.out.2).mono ?_
          rintro e wq ⟨rfl, rfl⟩
          have hkd := kindOf_lt y
          obtain ⟨kd, hkd2⟩ : ∃ kd, kindOf y = kd := ⟨_, rfl⟩
          rw [hkd2] at hkd ⊢
          clear hkd2 HY hcl
          have h4 : kd = 0 ∨ kd = 1 ∨ kd = 2 ∨ kd = 3 := by omega
          clear hkd
          rcases h4 with rfl | rfl | rfl | rfl
          · go_wp2_with fail
            refine (u8_any _ _ _ _ P5.out.rd).mono ?_
            rintro e w5 ⟨rfl, r5, b5⟩
            have P6 := hideIt (P5.out.one r5 b5)
            clear r5 b5 P5
            go_wp2_with fail
            refine (refU8_any _ _ _ _ P6.out.rf).mono ?_
            rintro e w6 ⟨rfl, r6, b6⟩
            have P7 := hideIt (P6.out.two r6 b6)
            clear r6 b6 P6
            generalize rdVal 1 zs = va at *
            generalize rdErr 1 zs = ea at *
            obtain ⟨ys, hys⟩ : ∃ ys, rdRest 1 zs = ys := ⟨_, rfl⟩
            rw [hys] at P7
            clear hys
            go_wp2_with fail
            refine (left_any _ _ _ _ P7.out.rd).mono ?_
            rintro e w7 ⟨rfl, rfl⟩
            go_wp2_with fail
            refine (refLeft_any _ _ _ _ P7.out.rf).mono ?_
            rintro e w8 ⟨rfl, a8⟩
            have P8 := hideIt (P7.out.after a8)
            clear a8 P7
            go_wp2
            go_roundw
            case rel => exact ⟨m + 1, ys, by omega, by go_num, P8.out⟩
            case measure => simp [intOf]; omega
          · go_wp2_with fail
            refine (u16_any _ _ _ _ P5.out.rd).mono ?_
            rintro e w5 ⟨rfl, r5, b5⟩
            have P6 := hideIt (P5.out.one r5 b5)
            clear r5 b5 P5
            go_wp2_with fail
            refine (refU16_any _ _ _ _ P6.out.rf).mono ?_
            rintro e w6 ⟨rfl, r6, b6⟩
            have P7 := hideIt (P6.out.two r6 b6)
            clear r6 b6 P6
            generalize rdVal 2 zs = va at *
            generalize rdErr 2 zs = ea at *
            obtain ⟨ys, hys⟩ : ∃ ys, rdRest 2 zs = ys := ⟨_, rfl⟩
            rw [hys] at P7
            clear hys
            go_wp2_with fail
            refine (left_any _ _ _ _ P7.out.rd).mono ?_
            rintro e w7 ⟨rfl, rfl⟩
            go_wp2_with fail
            refine (refLeft_any _ _ _ _ P7.out.rf).mono ?_
            rintro e w8 ⟨rfl, a8⟩
            have P8 := hideIt (P7.out.after a8)
            clear a8 P7
            go_wp2
            go_roundw
            case rel => exact ⟨m + 1, ys, by omega, by go_num, P8.out⟩
            case measure => simp [intOf]; omega
          · go_wp2_with fail
            refine (u32_any _ _ _ _ P5.out.rd).mono ?_
            rintro e w5 ⟨rfl, r5, b5⟩
            have P6 := hideIt (P5.out.one r5 b5)
            clear r5 b5 P5
            go_wp2_with fail
            refine (refU32_any _ _ _ _ P6.out.rf).mono ?_
            rintro e w6 ⟨rfl, r6, b6⟩
            have P7 := hideIt (P6.out.two r6 b6)
            clear r6 b6 P6
            generalize rdVal 4 zs = va at *
            generalize rdErr 4 zs = ea at *
            obtain ⟨ys, hys⟩ : ∃ ys, rdRest 4 zs = ys := ⟨_, rfl⟩
            rw [hys] at P7
            clear hys
            go_wp2_with fail
            refine (left_any _ _ _ _ P7.out.rd).mono ?_
            rintro e w7 ⟨rfl, rfl⟩
            go_wp2_with fail
            refine (refLeft_any _ _ _ _ P7.out.rf).mono ?_
            rintro e w8 ⟨rfl, a8⟩
            have P8 := hideIt (P7.out.after a8)
            clear a8 P7
            go_wp2
            go_roundw
            case rel => exact ⟨m + 1, ys, by omega, by go_num, P8.out⟩
            case measure => simp [intOf]; omega
          · go_wp2_with fail
            refine (octets_any _ _ _ _ P5.out.rd).mono ?_
            rintro e w5 ⟨v5, rfl, o5, r5, b5⟩
            have hbs := P5.out.rd.bs
            have P6 := hideIt (P5.out.one r5 b5)
            have S5 := hideIt b5.size
            have L5 := hideIt (ocVal_len hbs)
            obtain ⟨av, cv, rfl, rv, _, _, tv⟩ := own_row o5 (ocVal_bs hbs)
            have O5 := hideIt o5
            have HV := hideIt (ocVal_bs hbs)
            clear r5 b5 o5 rv tv hbs
            go_wp2_with fail
            refine (refOctets_any _ _ _ _ P6.out.rf).mono ?_
            rintro e w6 ⟨v6, rfl, o6, r6, b6⟩
            have P7 := hideIt (P6.out.two r6 b6)
            have O6 := hideIt (own_but O5.out b6 (fun j hj t => by
              have t2 : j = g' := t
              have q1 := (O5.out.lt j hj).1
              have q2 := P5.out.rf.lt
              omega))
            obtain ⟨av6, cv6, rfl, rv6, _⟩ := own_row o6 HV.out
            obtain ⟨av7, cv7, e7, rv7, _⟩ := own_row O6.out HV.out
            cases e7
            have R6 := hideIt rv6
            have R7 := hideIt rv7
            have HF := hideIt (show ∀ i, (Value.slice av (ocVal zs).length cv).ownBlock = some i → w.heap.size ≤ i ∧ i ≠ g ∧ i ≠ h ∧ i ≠ g' ∧ i ≠ h' from fun i t => by
              have q1 := (O5.out.lt i t).1
              have q2 := P5.out.rd.lt
              have q3 := P5.out.rd.hlt
              have q4 := P5.out.rf.lt
              have q5 := P5.out.rf.hlt
              have q6 := P5.out.aft.size
              omega)
            clear r6 b6 o6 P6 O5 P5 rv6 rv7
            generalize ocErr zs = ea at *
            obtain ⟨ys, hys⟩ : ∃ ys, ocRest zs = ys := ⟨_, rfl⟩
            rw [hys] at P7
            clear hys
            obtain ⟨ov, hov⟩ : ∃ ov, ocVal zs = ov := ⟨_, rfl⟩
            rw [hov] at O6 R6 R7 HF L5 HV ⊢
            clear hov
            obtain ⟨q, hq⟩ : ∃ q, ov.length = q := ⟨_, rfl⟩
            rw [hq] at O6 R6 R7 HF L5 ⊢
            clear hq
            have hqi : (q : Int) < 65536 := by have := L5.out; omega
            go_wp2_with fail
            refine (eqBytes_same _ _ _ _ _ _ _ R7.out R6.out (by have := L5.out; omega)).mono ?_
            rintro e w7 ⟨rfl, a7⟩
            have P8 := hideIt (P7.out.after a7)
            have O8 := hideIt (own_after O6.out a7)
            have SS := hideIt S5.out
            clear a7 P7 O6 R6 R7 S5
            go_wp2_with fail
            go_loopw [26] (fun i W => ∃ (k : Nat) (xs : List Int), k ≤ q ∧ i = .int .i64 k ∧ W.ownsRow wq.heap.size 5 1 (.slice av q cv) q (u8s xs) ∧ Bs xs ∧ Rds w W g h g' h' ys) (fun i _ => q - (intOf i).toNat)
            case atStart => exact ⟨0, ov, by omega, rfl, O8.out, HV.out, P8.out⟩
            case round =>
              obtain ⟨k, xs, hk, rfl, ho, hb, hp⟩ := hrel
              by_cases hlt : k < q
              · obtain ⟨gi, x, rfl, q1, q2, q3, q4, q5, q6⟩ := own_round ho hb hlt
                obtain ⟨us, s1, s2, s3⟩ := q6 (bits .xor .u8 (x : Int) 90) (xor_byte x q2)
                have F1 := hideIt s1
                have F2 := hideIt s2
                have F3 := hideIt (hp.but s3 (fun i t => by have t2 : i = gi := t; subst t2; exact HF.out i rfl))
                have hki : (k : Int) < q := by omega
                clear ho hb hp q2 q4 q5 q6 s1 s2 s3 O8 HV P8 HF
                go_wp2
                go_roundw
                case rel => exact ⟨k + 1, us, by omega, by go_num, F1.out, F2.out, F3.out⟩
                case measure => simp [intOf]; omega
              · have P9 := hideIt hp
                clear ho hb hp O8 HV P8 HF
                go_wp2_with fail
                refine (left_any _ _ _ _ P9.out.rd).mono ?_
                rintro e w7 ⟨rfl, rfl⟩
                go_wp2_with fail
                refine (refLeft_any _ _ _ _ P9.out.rf).mono ?_
                rintro e w8 ⟨rfl, a8⟩
                have PA := hideIt (P9.out.after a8)
                clear a8 P9
                go_wp2
                go_roundw
                case rel => exact ⟨m + 1, ys, by omega, by go_num, PA.out⟩
                case measure => simp [intOf]; omega
        · have A5 := hideIt P5.out.aft
          have hd : ¬ ((m : Int) < n') ∨ ¬ ((m : Int) < 100) := by omega
          clear P5 HI hlt
          by_cases hd1 : (m : Int) < n'
          · have hd2 : ¬ ((m : Int) < 100) := by omega
            clear hd
            go_wp2_with fail
            refine (awake_any _).mono ?_
            rintro e w9 ⟨rfl, a9⟩
            have A9 := hideIt (A5.out.trans a9)
            clear a9
            go_wp2
            go_ret
            exact ⟨rfl, A9.out⟩
          · clear hd
            go_wp2_with fail
            refine (awake_any _).mono ?_
            rintro e w9 ⟨rfl, a9⟩
            have A9 := hideIt (A5.out.trans a9)
            clear a9
            go_wp2
            go_ret
            exact ⟨rfl, A9.out⟩
end Go.Proofs.Ytojgkhinddjmaaa
