/-
  The walk of MderWrites.
-/
import Derived.Test.YtojgkhinddjmaaaWrs
import Derived.Deep.RegionHeld3
import Derived.Deep.DrawnRows
namespace Go.Proofs.Ytojgkhinddjmaaa
open Go.RowKit
attribute [local go_sem ↓] Go.wp_at_zero Go.wp_at_succ
theorem wnNew_grow (zs : List Int) (k m : Nat) (x : Int) (hk : k ≤ 4) : (zs ++ wnNew k m x).length ≤ zs.length + 65537 := by
  have := wnNew_len k m x
  rw [List.length_append]; omega
theorem four_grow (zs : List Int) (x : Int) : (zs ++ bytesOf 4 x).length ≤ zs.length + 65537 := by
  rw [List.length_append, bytesOf_length]; omega
theorem woNew_grow (zs bs : List Int) : (zs ++ woNew bs).length ≤ zs.length + 65537 := by
  rw [List.length_append]
  by_cases h : bs.length ≤ 65535
  · rw [(wo_yes h).2, List.length_append, bytesOf_length]; omega
  · rw [(wo_no h).2, List.length_nil]; omega
theorem u32_of (x : Int) : 0 ≤ IntKind.u32.wrap x ∧ IntKind.u32.wrap x < 4294967296 := by rw [IntKind.wrap_u32]; omega
set_option maxRecDepth 100000 in
set_option maxHeartbeats 4000000 in
theorem writes_walk (a : Option Addr) (n c : Nat) (w : World) (hd : Dos w a n) (hn : n ≤ 140737488355328) :
    Calls Try.prog 4 #[.slice a n c] w fun e w' => e = .returned (.bool true) ∧ After w w' := by
  have HD := hideIt hd
  have hn2 : (n : Int) ≤ 140737488355328 := by omega
  clear hd hn
  go_enter Try.func4, Try.ntmps4
  go_wp2_with fail
  refine (write_any _).mono ?_
  rintro e w1 ⟨rfl, q1, a1⟩
  have Q1 := hideIt q1
  have A1 := hideIt a1
  clear q1 a1
  go_wp2_with fail
  refine (refWrite_any _).mono ?_
  rintro e w2 ⟨rfl, q2, a2⟩
  have P2 := hideIt (Wrs.new A1.out Q1.out (Nat.le_refl _) q2 a2)
  obtain ⟨g, hg⟩ : ∃ g, w.heap.size = g := ⟨_, rfl⟩
  obtain ⟨k, hk⟩ : ∃ k, w1.heap.size = k := ⟨_, rfl⟩
  have P3 : Hid (Wrs w w2 g (.slice none 0 0) k (.slice none 0 0) []) := hideIt (by rw [← hg, ← hk]; exact P2.out)
  rw [hg, hk]
  clear q2 a2 Q1 A1 hg hk P2
  go_wp2_with fail
  go_loopw [5] (fun i W => ∃ (m : Nat) (zs : List Int) (v u : Value), m ≤ n ∧ m ≤ 100 ∧ i = .int .i64 m ∧ Wrs w W g v k u zs ∧ zs.length ≤ capOf m) (fun i _ => n - (intOf i).toNat)
  case atStart => exact ⟨0, [], _, _, by omega, by omega, rfl, P3.out, Nat.zero_le _⟩
  case round =>
    obtain ⟨m, zs, v, u, hm, hm2, rfl, hp, hy⟩ := hrel
    have P5 := hideIt hp
    have HY := hideIt hy
    have HL := hideIt (capOf_low hm2 hy)
    clear hp P3 hy
    by_cases hlt : m < n ∧ m < 100
    · obtain ⟨b, off, kd, x, ab, nb, cb, bs, rfl, d1⟩ := HD.out m hlt.1
      have D1 := hideIt d1
      have D5 := hideIt (d1.after P5.out.aft)
      obtain ⟨_, c0, c1, c2, -, -, -, -, -, -, -, -, -⟩ := D5.out
      have i1 : (m : Int) < n := by omega
      have i2 : (m : Int) < 100 := by omega
      clear hlt d1 HD
      go_wp2_with fail
      refine (copy_any _ _ _ _ _ D5.out.row D5.out.nil D5.out.len).mono ?_
      rintro e w6 ⟨vb, rfl, o6, a6⟩
      obtain ⟨a6', c6', rfl, r6, t6, -, y6⟩ := own_row o6 D5.out.row.2.1
      have O6 := hideIt o6
      have P6 := hideIt (P5.out.after a6)
      have D6 := hideIt (D5.out.after a6)
      have F6 := hideIt (show ∀ j, (Value.slice a6' nb c6').ownBlock = some j → j < w6.heap.size ∧ w.heap.size ≤ j ∧ Apart j g v k u from fun j hj => ⟨(o6.lt j hj).2, P5.out.fresh (o6.lt j hj).1⟩)
      have R6 := hideIt r6
      have T6 := hideIt t6
      have Y6 := hideIt (fun y hy => (y6 y hy).1)
      clear o6 a6 r6 t6 y6 D5 P5 c0 c1 c2
      obtain ⟨_, c0, c1, c2, -, -, -, -, -, -, -, -, -⟩ := D6.out
      go_wp2_with fail
      refine (bring_any kd _ D6.out.k0 D6.out.k1).mono ?_
      rintro e wq ⟨rfl, rfl⟩
      have hkd := kindOf_lt kd
      obtain ⟨kk, hkk⟩ : ∃ kk, kindOf kd = kk := ⟨_, rfl⟩
      rw [hkk] at hkd ⊢
      clear hkk
      have h4 : kk = 0 ∨ kk = 1 ∨ kk = 2 ∨ kk = 3 := by omega
      clear hkd
      rcases h4 with rfl | rfl | rfl | rfl
      · go_wp2_with fail
        refine (wU8_any _ _ _ _ x P6.out.wr (by have := HL.out; omega)).mono ?_
        rintro e w7 ⟨rfl, v7, r7, b7, g7⟩
        have R7 := hideIt r7
        have B7 := hideIt b7
        have G7 := hideIt g7
        have P7 := hideIt (P6.out.half b7)
        have A7 := hideIt (D1.out.after (P6.out.aft.then b7 (fun i hi t => by
          rcases t with t | t
          · have := P6.out.g0; omega
          · have := P6.out.v0 i t; omega)))
        clear r7 b7 g7 c0 c1 c2
        obtain ⟨_, c0, c1, c2, -, -, -, -, -, -, -, -, -⟩ := A7.out
        obtain ⟨er, her⟩ : ∃ er, wnErr 255 x = er := ⟨_, rfl⟩
        have HER := hideIt her
        rw [her]
        clear her
        go_wp2_with fail
        refine (refWU8_any _ _ _ _ x P7.out (by have := HL.out; omega)).mono ?_
        rintro e w8 ⟨rfl, u8, r8, b8, g8⟩
        rw [HER.out]
        have r7 := R7.out
        have b7 := B7.out
        have g7 := G7.out
        clear R7 B7 G7 P7 A7 HER c0 c1 c2
        obtain ⟨p8, f8, b8⟩ := P6.out.step r7 b7 g7 r8 b8 g8
        have P8 := hideIt p8
        have O8 := hideIt (own_but O6.out b8 (fun j hj t => by
          obtain ⟨-, -, q1, q2, q3, q4⟩ := F6.out j hj
          rcases t with (t | t) | (t | t)
          · exact q1 t
          · exact q3 t
          · exact q2 t
          · exact q4 t))
        have F8 := hideIt (show ∀ j, (Value.slice a6' nb c6').ownBlock = some j → w.heap.size ≤ j ∧ Apart j g v7 k u8 from fun j hj => ⟨(F6.out j hj).2.1, f8 j (F6.out j hj).1 (F6.out j hj).2.2⟩)
        have D8 := hideIt (D1.out.after p8.aft)
        clear p8 f8 b8 r7 b7 g7 r8 g8 P6 O6 F6 D6 R6 T6 Y6
        obtain ⟨zt, hzt⟩ : ∃ zt, zs ++ wnNew 1 255 x = zt := ⟨_, rfl⟩
        rw [hzt] at P8
        have HZ := hideIt (show zt.length ≤ capOf (m + 1) by rw [← hzt]; exact capOf_next (wnNew_grow zs 1 255 x (by decide)) HY.out)
        have HZL := hideIt (capOf_low (show m + 1 ≤ 100 by omega) HZ.out)
        clear hzt
        have hcm := P8.out
        obtain ⟨au, cu, ru⟩ := own_slice hcm.rw.2.1
        subst ru
        obtain ⟨_, m0, m1⟩ := one_at hcm.rw.1
        obtain ⟨_, c0, c1, c2, -, -, -, -, -, -, -, -, -⟩ := D8.out
        clear hcm
        go_wp2_with fail
        refine (wBytes_any _ _ _ _ P8.out.wr (by have := HZL.out; omega)).mono ?_
        rintro e w9 ⟨vx, rfl, o9, a9⟩
        obtain ⟨ax, cx, rfl, r9, -, -, y9⟩ := own_row o9 P8.out.wr.2.2.2
        have P9 := hideIt (P8.out.after a9)
        have O9 := hideIt o9
        have R9 := hideIt r9
        have OB9 := hideIt (own_after O8.out a9)
        have F9 := hideIt (show ∀ j, (Value.slice ax zt.length cx).ownBlock = some j → w.heap.size ≤ j ∧ Apart j g v7 k (.slice au zt.length cu) from fun j hj => P8.out.fresh (o9.lt j hj).1)
        have F9b := hideIt (show ∀ i j, (Value.slice a6' nb c6').ownBlock = some i → (Value.slice ax zt.length cx).ownBlock = some j → i ≠ j from fun i j hi hj => by have h1 := (O8.out.lt i hi).2; have h2 := (o9.lt j hj).1; omega)
        have D9 := hideIt (D8.out.after a9)
        have HBS := hideIt P8.out.wr.2.2.2
        clear o9 a9 r9 y9 P8 O8 D8 m0 m1 c0 c1 c2
        obtain ⟨_, m0, m1⟩ := one_at P9.out.rw.1
        obtain ⟨au2, cu2, e2, ru, -⟩ := own_row P9.out.rw.2.1 HBS.out
        cases e2
        obtain ⟨_, c0, c1, c2, -, -, -, -, -, -, -, -, -⟩ := D9.out
        have RU := hideIt ru
        clear ru
        obtain ⟨q, hq⟩ : ∃ q, zt.length = q := ⟨_, rfl⟩
        have HQ := hideIt hq
        rw [hq] at R9 RU O9 F9 F9b m0 P9 ⊢
        clear hq
        have hqi : (q : Int) ≤ 1099511627776 := by have h1 := HZL.out; have h2 := HQ.out; omega
        go_wp2_with fail
        refine (eqBytes_same _ _ _ _ _ _ _ R9.out RU.out (by omega)).mono ?_
        rintro e wa ⟨rfl, aa⟩
        have AA := hideIt aa
        have PA := hideIt (P9.out.after aa)
        have OA := hideIt (own_after O9.out aa)
        have OBA := hideIt (own_after OB9.out aa)
        have DA := hideIt (D9.out.after aa)
        clear aa P9 O9 OB9 D9 R9 RU m0 m1 c0 c1 c2
        obtain ⟨_, c0, c1, c2, rb, -, -, -, -, -, -, -, -⟩ := DA.out
        obtain ⟨a62, c62, e62, rbb, -⟩ := own_row OBA.out rb.2.1
        cases e62
        have RB := hideIt rb
        have RBB := hideIt rbb
        have hnb : (nb : Int) ≤ 140737488355328 := by have := DA.out.len; omega
        clear rb rbb
        go_wp2_with fail
        refine (eqBytes_same _ _ _ _ _ _ _ RBB.out RB.out DA.out.len).mono ?_
        rintro e wb ⟨rfl, ab2⟩
        have PB := hideIt (PA.out.after ab2)
        have OB := hideIt (own_base (own_after OA.out ab2) (C := 0) (fun _ _ => Nat.zero_le _))
        have OBB := hideIt (own_base (own_after OBA.out ab2) (C := 0) (fun _ _ => Nat.zero_le _))
        have HBB := hideIt RB.out.2.1
        clear ab2 PA OA OBA DA RB RBB c0 c1 c2 AA
        go_wp2_with fail
        go_loopw [10] (fun i W => ∃ (j : Nat) (xs : List Int), j ≤ q ∧ i = .int .i64 j ∧ W.ownsRow 0 5 1 (.slice ax q cx) q (u8s xs) ∧ Bs xs ∧ Wrs w W g v7 k (.slice au q cu) zt ∧ W.ownsRow 0 5 1 (.slice a6' nb c6') nb (u8s bs)) (fun i _ => q - (intOf i).toNat)
        case atStart => exact ⟨0, zt, by omega, rfl, OB.out, HBS.out, PB.out, OBB.out⟩
        case round =>
          obtain ⟨j, xs, hj, rfl, ho, hb, hp, hob⟩ := hrel
          by_cases hlj : j < q
          · obtain ⟨gi, y, rfl, q1, q2, q3, q4, q5, q6⟩ := own_round ho hb hlj
            obtain ⟨us, s1, s2, s3⟩ := q6 (bits .xor .u8 (y : Int) 90) (xor_byte y q2)
            have E1 := hideIt s1
            have E2 := hideIt s2
            have E3 := hideIt (hp.but s3 (fun i t => by have t2 : i = gi := t; subst t2; exact F9.out i rfl))
            have E4 := hideIt (own_but hob s3 (fun i hi t => by have t2 : i = gi := t; exact F9b.out i gi hi rfl t2))
            have hki : (j : Int) < q := by omega
            clear ho hb hp hob q2 q4 q5 q6 s1 s2 s3 OB HBS PB OBB F9 F9b
            go_wp2
            go_roundw
            case rel => exact ⟨j + 1, us, by omega, by go_num, E1.out, E2.out, E3.out, E4.out⟩
            case measure => simp [intOf]; omega
          · have PC := hideIt hp
            have OC := hideIt hob
            clear ho hb hp hob OB HBS PB OBB F9 F9b
            go_wp2_with fail
            go_loopw [11] (fun i W => ∃ (j : Nat) (xs : List Int), j ≤ nb ∧ i = .int .i64 j ∧ W.ownsRow 0 5 1 (.slice a6' nb c6') nb (u8s xs) ∧ Bs xs ∧ Wrs w W g v7 k (.slice au q cu) zt) (fun i _ => nb - (intOf i).toNat)
            case atStart => exact ⟨0, bs, by omega, rfl, OC.out, HBB.out, PC.out⟩
            case round =>
              obtain ⟨j2, xs2, hj2, rfl, ho, hb, hp⟩ := hrel
              by_cases hlj2 : j2 < nb
              · obtain ⟨gi, y, rfl, q1, q2, q3, q4, q5, q6⟩ := own_round ho hb hlj2
                obtain ⟨us, s1, s2, s3⟩ := q6 (bits .xor .u8 (y : Int) 90) (xor_byte y q2)
                have E1 := hideIt s1
                have E2 := hideIt s2
                have E3 := hideIt (hp.but s3 (fun i t => by have t2 : i = gi := t; subst t2; have h1 := F8.out i rfl; rw [HQ.out] at h1; exact h1))
                have hki : (j2 : Int) < nb := by omega
                clear ho hb hp q2 q4 q5 q6 s1 s2 s3 OC HBB PC F8
                go_wp2
                go_roundw
                case rel => exact ⟨j2 + 1, us, by omega, by go_num, E1.out, E2.out, E3.out⟩
                case measure => simp [intOf]; omega
              · have PD := hideIt hp
                clear ho hb hp OC HBB PC F8
                go_wp2
                go_roundw
                case rel => exact ⟨m + 1, zt, _, _, by omega, by omega, by go_num, PD.out, HZ.out⟩
                case measure => simp [intOf]; omega
      · go_wp2_with fail
        refine (wU16_any _ _ _ _ x P6.out.wr (by have := HL.out; omega)).mono ?_
        rintro e w7 ⟨rfl, v7, r7, b7, g7⟩
        have R7 := hideIt r7
        have B7 := hideIt b7
        have G7 := hideIt g7
        have P7 := hideIt (P6.out.half b7)
        have A7 := hideIt (D1.out.after (P6.out.aft.then b7 (fun i hi t => by
          rcases t with t | t
          · have := P6.out.g0; omega
          · have := P6.out.v0 i t; omega)))
        clear r7 b7 g7 c0 c1 c2
        obtain ⟨_, c0, c1, c2, -, -, -, -, -, -, -, -, -⟩ := A7.out
        obtain ⟨er, her⟩ : ∃ er, wnErr 65535 x = er := ⟨_, rfl⟩
        have HER := hideIt her
        rw [her]
        clear her
        go_wp2_with fail
        refine (refWU16_any _ _ _ _ x P7.out (by have := HL.out; omega)).mono ?_
        rintro e w8 ⟨rfl, u8, r8, b8, g8⟩
        rw [HER.out]
        have r7 := R7.out
        have b7 := B7.out
        have g7 := G7.out
        clear R7 B7 G7 P7 A7 HER c0 c1 c2
        obtain ⟨p8, f8, b8⟩ := P6.out.step r7 b7 g7 r8 b8 g8
        have P8 := hideIt p8
        have O8 := hideIt (own_but O6.out b8 (fun j hj t => by
          obtain ⟨-, -, q1, q2, q3, q4⟩ := F6.out j hj
          rcases t with (t | t) | (t | t)
          · exact q1 t
          · exact q3 t
          · exact q2 t
          · exact q4 t))
        have F8 := hideIt (show ∀ j, (Value.slice a6' nb c6').ownBlock = some j → w.heap.size ≤ j ∧ Apart j g v7 k u8 from fun j hj => ⟨(F6.out j hj).2.1, f8 j (F6.out j hj).1 (F6.out j hj).2.2⟩)
        have D8 := hideIt (D1.out.after p8.aft)
        clear p8 f8 b8 r7 b7 g7 r8 g8 P6 O6 F6 D6 R6 T6 Y6
        obtain ⟨zt, hzt⟩ : ∃ zt, zs ++ wnNew 2 65535 x = zt := ⟨_, rfl⟩
        rw [hzt] at P8
        have HZ := hideIt (show zt.length ≤ capOf (m + 1) by rw [← hzt]; exact capOf_next (wnNew_grow zs 2 65535 x (by decide)) HY.out)
        have HZL := hideIt (capOf_low (show m + 1 ≤ 100 by omega) HZ.out)
        clear hzt
        have hcm := P8.out
        obtain ⟨au, cu, ru⟩ := own_slice hcm.rw.2.1
        subst ru
        obtain ⟨_, m0, m1⟩ := one_at hcm.rw.1
        obtain ⟨_, c0, c1, c2, -, -, -, -, -, -, -, -, -⟩ := D8.out
        clear hcm
        go_wp2_with fail
        refine (wBytes_any _ _ _ _ P8.out.wr (by have := HZL.out; omega)).mono ?_
        rintro e w9 ⟨vx, rfl, o9, a9⟩
        obtain ⟨ax, cx, rfl, r9, -, -, y9⟩ := own_row o9 P8.out.wr.2.2.2
        have P9 := hideIt (P8.out.after a9)
        have O9 := hideIt o9
        have R9 := hideIt r9
        have OB9 := hideIt (own_after O8.out a9)
        have F9 := hideIt (show ∀ j, (Value.slice ax zt.length cx).ownBlock = some j → w.heap.size ≤ j ∧ Apart j g v7 k (.slice au zt.length cu) from fun j hj => P8.out.fresh (o9.lt j hj).1)
        have F9b := hideIt (show ∀ i j, (Value.slice a6' nb c6').ownBlock = some i → (Value.slice ax zt.length cx).ownBlock = some j → i ≠ j from fun i j hi hj => by have h1 := (O8.out.lt i hi).2; have h2 := (o9.lt j hj).1; omega)
        have D9 := hideIt (D8.out.after a9)
        have HBS := hideIt P8.out.wr.2.2.2
        clear o9 a9 r9 y9 P8 O8 D8 m0 m1 c0 c1 c2
        obtain ⟨_, m0, m1⟩ := one_at P9.out.rw.1
        obtain ⟨au2, cu2, e2, ru, -⟩ := own_row P9.out.rw.2.1 HBS.out
        cases e2
        obtain ⟨_, c0, c1, c2, -, -, -, -, -, -, -, -, -⟩ := D9.out
        have RU := hideIt ru
        clear ru
        obtain ⟨q, hq⟩ : ∃ q, zt.length = q := ⟨_, rfl⟩
        have HQ := hideIt hq
        rw [hq] at R9 RU O9 F9 F9b m0 P9 ⊢
        clear hq
        have hqi : (q : Int) ≤ 1099511627776 := by have h1 := HZL.out; have h2 := HQ.out; omega
        go_wp2_with fail
        refine (eqBytes_same _ _ _ _ _ _ _ R9.out RU.out (by omega)).mono ?_
        rintro e wa ⟨rfl, aa⟩
        have AA := hideIt aa
        have PA := hideIt (P9.out.after aa)
        have OA := hideIt (own_after O9.out aa)
        have OBA := hideIt (own_after OB9.out aa)
        have DA := hideIt (D9.out.after aa)
        clear aa P9 O9 OB9 D9 R9 RU m0 m1 c0 c1 c2
        obtain ⟨_, c0, c1, c2, rb, -, -, -, -, -, -, -, -⟩ := DA.out
        obtain ⟨a62, c62, e62, rbb, -⟩ := own_row OBA.out rb.2.1
        cases e62
        have RB := hideIt rb
        have RBB := hideIt rbb
        have hnb : (nb : Int) ≤ 140737488355328 := by have := DA.out.len; omega
        clear rb rbb
        go_wp2_with fail
        refine (eqBytes_same _ _ _ _ _ _ _ RBB.out RB.out DA.out.len).mono ?_
        rintro e wb ⟨rfl, ab2⟩
        have PB := hideIt (PA.out.after ab2)
        have OB := hideIt (own_base (own_after OA.out ab2) (C := 0) (fun _ _ => Nat.zero_le _))
        have OBB := hideIt (own_base (own_after OBA.out ab2) (C := 0) (fun _ _ => Nat.zero_le _))
        have HBB := hideIt RB.out.2.1
        clear ab2 PA OA OBA DA RB RBB c0 c1 c2 AA
        go_wp2_with fail
        go_loopw [10] (fun i W => ∃ (j : Nat) (xs : List Int), j ≤ q ∧ i = .int .i64 j ∧ W.ownsRow 0 5 1 (.slice ax q cx) q (u8s xs) ∧ Bs xs ∧ Wrs w W g v7 k (.slice au q cu) zt ∧ W.ownsRow 0 5 1 (.slice a6' nb c6') nb (u8s bs)) (fun i _ => q - (intOf i).toNat)
        case atStart => exact ⟨0, zt, by omega, rfl, OB.out, HBS.out, PB.out, OBB.out⟩
        case round =>
          obtain ⟨j, xs, hj, rfl, ho, hb, hp, hob⟩ := hrel
          by_cases hlj : j < q
          · obtain ⟨gi, y, rfl, q1, q2, q3, q4, q5, q6⟩ := own_round ho hb hlj
            obtain ⟨us, s1, s2, s3⟩ := q6 (bits .xor .u8 (y : Int) 90) (xor_byte y q2)
            have E1 := hideIt s1
            have E2 := hideIt s2
            have E3 := hideIt (hp.but s3 (fun i t => by have t2 : i = gi := t; subst t2; exact F9.out i rfl))
            have E4 := hideIt (own_but hob s3 (fun i hi t => by have t2 : i = gi := t; exact F9b.out i gi hi rfl t2))
            have hki : (j : Int) < q := by omega
            clear ho hb hp hob q2 q4 q5 q6 s1 s2 s3 OB HBS PB OBB F9 F9b
            go_wp2
            go_roundw
            case rel => exact ⟨j + 1, us, by omega, by go_num, E1.out, E2.out, E3.out, E4.out⟩
            case measure => simp [intOf]; omega
          · have PC := hideIt hp
            have OC := hideIt hob
            clear ho hb hp hob OB HBS PB OBB F9 F9b
            go_wp2_with fail
            go_loopw [11] (fun i W => ∃ (j : Nat) (xs : List Int), j ≤ nb ∧ i = .int .i64 j ∧ W.ownsRow 0 5 1 (.slice a6' nb c6') nb (u8s xs) ∧ Bs xs ∧ Wrs w W g v7 k (.slice au q cu) zt) (fun i _ => nb - (intOf i).toNat)
            case atStart => exact ⟨0, bs, by omega, rfl, OC.out, HBB.out, PC.out⟩
            case round =>
              obtain ⟨j2, xs2, hj2, rfl, ho, hb, hp⟩ := hrel
              by_cases hlj2 : j2 < nb
              · obtain ⟨gi, y, rfl, q1, q2, q3, q4, q5, q6⟩ := own_round ho hb hlj2
                obtain ⟨us, s1, s2, s3⟩ := q6 (bits .xor .u8 (y : Int) 90) (xor_byte y q2)
                have E1 := hideIt s1
                have E2 := hideIt s2
                have E3 := hideIt (hp.but s3 (fun i t => by have t2 : i = gi := t; subst t2; have h1 := F8.out i rfl; rw [HQ.out] at h1; exact h1))
                have hki : (j2 : Int) < nb := by omega
                clear ho hb hp q2 q4 q5 q6 s1 s2 s3 OC HBB PC F8
                go_wp2
                go_roundw
                case rel => exact ⟨j2 + 1, us, by omega, by go_num, E1.out, E2.out, E3.out⟩
                case measure => simp [intOf]; omega
              · have PD := hideIt hp
                clear ho hb hp OC HBB PC F8
                go_wp2
                go_roundw
                case rel => exact ⟨m + 1, zt, _, _, by omega, by omega, by go_num, PD.out, HZ.out⟩
                case measure => simp [intOf]; omega
      · go_wp2_with fail
        refine (wU32_any _ _ _ _ _ P6.out.wr (by have := HL.out; omega) (u32_of x).1 (u32_of x).2).mono ?_
        rintro e w7 ⟨rfl, v7, r7, b7, g7⟩
        have R7 := hideIt r7
        have B7 := hideIt b7
        have G7 := hideIt g7
        have P7 := hideIt (P6.out.half b7)
        have A7 := hideIt (D1.out.after (P6.out.aft.then b7 (fun i hi t => by
          rcases t with t | t
          · have := P6.out.g0; omega
          · have := P6.out.v0 i t; omega)))
        clear r7 b7 g7 c0 c1 c2
        obtain ⟨_, c0, c1, c2, -, -, -, -, -, -, -, -, -⟩ := A7.out
        go_wp2_with fail
        refine (refWU32_any _ _ _ _ _ P7.out (by have := HL.out; omega) (u32_of x).1 (u32_of x).2).mono ?_
        rintro e w8 ⟨rfl, u8, r8, b8, g8⟩
        have r7 := R7.out
        have b7 := B7.out
        have g7 := G7.out
        clear R7 B7 G7 P7 A7 c0 c1 c2
        obtain ⟨p8, f8, b8⟩ := P6.out.step r7 b7 g7 r8 b8 g8
        have P8 := hideIt p8
        have O8 := hideIt (own_but O6.out b8 (fun j hj t => by
          obtain ⟨-, -, q1, q2, q3, q4⟩ := F6.out j hj
          rcases t with (t | t) | (t | t)
          · exact q1 t
          · exact q3 t
          · exact q2 t
          · exact q4 t))
        have F8 := hideIt (show ∀ j, (Value.slice a6' nb c6').ownBlock = some j → w.heap.size ≤ j ∧ Apart j g v7 k u8 from fun j hj => ⟨(F6.out j hj).2.1, f8 j (F6.out j hj).1 (F6.out j hj).2.2⟩)
        have D8 := hideIt (D1.out.after p8.aft)
        clear p8 f8 b8 r7 b7 g7 r8 g8 P6 O6 F6 D6 R6 T6 Y6
        obtain ⟨zt, hzt⟩ : ∃ zt, zs ++ bytesOf 4 (IntKind.u32.wrap x) = zt := ⟨_, rfl⟩
        rw [hzt] at P8
        have HZ := hideIt (show zt.length ≤ capOf (m + 1) by rw [← hzt]; exact capOf_next (four_grow zs _) HY.out)
        have HZL := hideIt (capOf_low (show m + 1 ≤ 100 by omega) HZ.out)
        clear hzt
        have hcm := P8.out
        obtain ⟨au, cu, ru⟩ := own_slice hcm.rw.2.1
        subst ru
        obtain ⟨_, m0, m1⟩ := one_at hcm.rw.1
        obtain ⟨_, c0, c1, c2, -, -, -, -, -, -, -, -, -⟩ := D8.out
        clear hcm
        go_wp2_with fail
        refine (wBytes_any _ _ _ _ P8.out.wr (by have := HZL.out; omega)).mono ?_
        rintro e w9 ⟨vx, rfl, o9, a9⟩
        obtain ⟨ax, cx, rfl, r9, -, -, y9⟩ := own_row o9 P8.out.wr.2.2.2
        have P9 := hideIt (P8.out.after a9)
        have O9 := hideIt o9
        have R9 := hideIt r9
        have OB9 := hideIt (own_after O8.out a9)
        have F9 := hideIt (show ∀ j, (Value.slice ax zt.length cx).ownBlock = some j → w.heap.size ≤ j ∧ Apart j g v7 k (.slice au zt.length cu) from fun j hj => P8.out.fresh (o9.lt j hj).1)
        have F9b := hideIt (show ∀ i j, (Value.slice a6' nb c6').ownBlock = some i → (Value.slice ax zt.length cx).ownBlock = some j → i ≠ j from fun i j hi hj => by have h1 := (O8.out.lt i hi).2; have h2 := (o9.lt j hj).1; omega)
        have D9 := hideIt (D8.out.after a9)
        have HBS := hideIt P8.out.wr.2.2.2
        clear o9 a9 r9 y9 P8 O8 D8 m0 m1 c0 c1 c2
        obtain ⟨_, m0, m1⟩ := one_at P9.out.rw.1
        obtain ⟨au2, cu2, e2, ru, -⟩ := own_row P9.out.rw.2.1 HBS.out
        cases e2
        obtain ⟨_, c0, c1, c2, -, -, -, -, -, -, -, -, -⟩ := D9.out
        have RU := hideIt ru
        clear ru
        obtain ⟨q, hq⟩ : ∃ q, zt.length = q := ⟨_, rfl⟩
        have HQ := hideIt hq
        rw [hq] at R9 RU O9 F9 F9b m0 P9 ⊢
        clear hq
        have hqi : (q : Int) ≤ 1099511627776 := by have h1 := HZL.out; have h2 := HQ.out; omega
        go_wp2_with fail
        refine (eqBytes_same _ _ _ _ _ _ _ R9.out RU.out (by omega)).mono ?_
        rintro e wa ⟨rfl, aa⟩
        have AA := hideIt aa
        have PA := hideIt (P9.out.after aa)
        have OA := hideIt (own_after O9.out aa)
        have OBA := hideIt (own_after OB9.out aa)
        have DA := hideIt (D9.out.after aa)
        clear aa P9 O9 OB9 D9 R9 RU m0 m1 c0 c1 c2
        obtain ⟨_, c0, c1, c2, rb, -, -, -, -, -, -, -, -⟩ := DA.out
        obtain ⟨a62, c62, e62, rbb, -⟩ := own_row OBA.out rb.2.1
        cases e62
        have RB := hideIt rb
        have RBB := hideIt rbb
        have hnb : (nb : Int) ≤ 140737488355328 := by have := DA.out.len; omega
        clear rb rbb
        go_wp2_with fail
        refine (eqBytes_same _ _ _ _ _ _ _ RBB.out RB.out DA.out.len).mono ?_
        rintro e wb ⟨rfl, ab2⟩
        have PB := hideIt (PA.out.after ab2)
        have OB := hideIt (own_base (own_after OA.out ab2) (C := 0) (fun _ _ => Nat.zero_le _))
        have OBB := hideIt (own_base (own_after OBA.out ab2) (C := 0) (fun _ _ => Nat.zero_le _))
        have HBB := hideIt RB.out.2.1
        clear ab2 PA OA OBA DA RB RBB c0 c1 c2 AA
        go_wp2_with fail
        go_loopw [10] (fun i W => ∃ (j : Nat) (xs : List Int), j ≤ q ∧ i = .int .i64 j ∧ W.ownsRow 0 5 1 (.slice ax q cx) q (u8s xs) ∧ Bs xs ∧ Wrs w W g v7 k (.slice au q cu) zt ∧ W.ownsRow 0 5 1 (.slice a6' nb c6') nb (u8s bs)) (fun i _ => q - (intOf i).toNat)
        case atStart => exact ⟨0, zt, by omega, rfl, OB.out, HBS.out, PB.out, OBB.out⟩
        case round =>
          obtain ⟨j, xs, hj, rfl, ho, hb, hp, hob⟩ := hrel
          by_cases hlj : j < q
          · obtain ⟨gi, y, rfl, q1, q2, q3, q4, q5, q6⟩ := own_round ho hb hlj
            obtain ⟨us, s1, s2, s3⟩ := q6 (bits .xor .u8 (y : Int) 90) (xor_byte y q2)
            have E1 := hideIt s1
            have E2 := hideIt s2
            have E3 := hideIt (hp.but s3 (fun i t => by have t2 : i = gi := t; subst t2; exact F9.out i rfl))
            have E4 := hideIt (own_but hob s3 (fun i hi t => by have t2 : i = gi := t; exact F9b.out i gi hi rfl t2))
            have hki : (j : Int) < q := by omega
            clear ho hb hp hob q2 q4 q5 q6 s1 s2 s3 OB HBS PB OBB F9 F9b
            go_wp2
            go_roundw
            case rel => exact ⟨j + 1, us, by omega, by go_num, E1.out, E2.out, E3.out, E4.out⟩
            case measure => simp [intOf]; omega
          · have PC := hideIt hp
            have OC := hideIt hob
            clear ho hb hp hob OB HBS PB OBB F9 F9b
            go_wp2_with fail
            go_loopw [11] (fun i W => ∃ (j : Nat) (xs : List Int), j ≤ nb ∧ i = .int .i64 j ∧ W.ownsRow 0 5 1 (.slice a6' nb c6') nb (u8s xs) ∧ Bs xs ∧ Wrs w W g v7 k (.slice au q cu) zt) (fun i _ => nb - (intOf i).toNat)
            case atStart => exact ⟨0, bs, by omega, rfl, OC.out, HBB.out, PC.out⟩
            case round =>
              obtain ⟨j2, xs2, hj2, rfl, ho, hb, hp⟩ := hrel
              by_cases hlj2 : j2 < nb
              · obtain ⟨gi, y, rfl, q1, q2, q3, q4, q5, q6⟩ := own_round ho hb hlj2
                obtain ⟨us, s1, s2, s3⟩ := q6 (bits .xor .u8 (y : Int) 90) (xor_byte y q2)
                have E1 := hideIt s1
                have E2 := hideIt s2
                have E3 := hideIt (hp.but s3 (fun i t => by have t2 : i = gi := t; subst t2; have h1 := F8.out i rfl; rw [HQ.out] at h1; exact h1))
                have hki : (j2 : Int) < nb := by omega
                clear ho hb hp q2 q4 q5 q6 s1 s2 s3 OC HBB PC F8
                go_wp2
                go_roundw
                case rel => exact ⟨j2 + 1, us, by omega, by go_num, E1.out, E2.out, E3.out⟩
                case measure => simp [intOf]; omega
              · have PD := hideIt hp
                clear ho hb hp OC HBB PC F8
                go_wp2
                go_roundw
                case rel => exact ⟨m + 1, zt, _, _, by omega, by omega, by go_num, PD.out, HZ.out⟩
                case measure => simp [intOf]; omega
      · go_wp2_with fail
        refine (wOctets_any _ _ _ _ _ _ _ _ P6.out.wr R6.out T6.out (fun y hy _ t => by obtain ⟨-, -, q1, q2, q3, q4⟩ := F6.out _ (Y6.out y hy); rcases t with t | t; exact q1 t; exact q3 t) D6.out.len HL.out).mono ?_
        rintro e w7 ⟨rfl, v7, r7, b7, g7⟩
        have R7 := hideIt r7
        have B7 := hideIt b7
        have G7 := hideIt g7
        have P7 := hideIt (P6.out.half b7)
        have A7 := hideIt (D1.out.after (P6.out.aft.then b7 (fun i hi t => by
          rcases t with t | t
          · have := P6.out.g0; omega
          · have := P6.out.v0 i t; omega)))
        clear r7 b7 g7 c0 c1 c2
        obtain ⟨_, c0, c1, c2, -, -, -, -, -, -, -, -, -⟩ := A7.out
        obtain ⟨er, her⟩ : ∃ er, woErr bs = er := ⟨_, rfl⟩
        have HER := hideIt her
        rw [her]
        clear her
        go_wp2_with fail
        refine (refWOctets_any _ _ _ _ _ _ _ _ P7.out A7.out.row A7.out.nil (fun y hy h0 t => by have h1 := D1.out.old y hy h0; rcases t with t | t; (have t2 : y.block = k := t; have := P6.out.k0; omega); (have := P6.out.u0 _ t; omega)) A7.out.len HL.out).mono ?_
        rintro e w8 ⟨rfl, u8, r8, b8, g8⟩
        rw [HER.out]
        have r7 := R7.out
        have b7 := B7.out
        have g7 := G7.out
        clear R7 B7 G7 P7 A7 HER c0 c1 c2
        obtain ⟨p8, f8, b8⟩ := P6.out.step r7 b7 g7 r8 b8 g8
        have P8 := hideIt p8
        have O8 := hideIt (own_but O6.out b8 (fun j hj t => by
          obtain ⟨-, -, q1, q2, q3, q4⟩ := F6.out j hj
          rcases t with (t | t) | (t | t)
          · exact q1 t
          · exact q3 t
          · exact q2 t
          · exact q4 t))
        have F8 := hideIt (show ∀ j, (Value.slice a6' nb c6').ownBlock = some j → w.heap.size ≤ j ∧ Apart j g v7 k u8 from fun j hj => ⟨(F6.out j hj).2.1, f8 j (F6.out j hj).1 (F6.out j hj).2.2⟩)
        have D8 := hideIt (D1.out.after p8.aft)
        clear p8 f8 b8 r7 b7 g7 r8 g8 P6 O6 F6 D6 R6 T6 Y6
        obtain ⟨zt, hzt⟩ : ∃ zt, zs ++ woNew bs = zt := ⟨_, rfl⟩
        rw [hzt] at P8
        have HZ := hideIt (show zt.length ≤ capOf (m + 1) by rw [← hzt]; exact capOf_next (woNew_grow zs bs) HY.out)
        have HZL := hideIt (capOf_low (show m + 1 ≤ 100 by omega) HZ.out)
        clear hzt
        have hcm := P8.out
        obtain ⟨au, cu, ru⟩ := own_slice hcm.rw.2.1
        subst ru
        obtain ⟨_, m0, m1⟩ := one_at hcm.rw.1
        obtain ⟨_, c0, c1, c2, -, -, -, -, -, -, -, -, -⟩ := D8.out
        clear hcm
        go_wp2_with fail
        refine (wBytes_any _ _ _ _ P8.out.wr (by have := HZL.out; omega)).mono ?_
        rintro e w9 ⟨vx, rfl, o9, a9⟩
        obtain ⟨ax, cx, rfl, r9, -, -, y9⟩ := own_row o9 P8.out.wr.2.2.2
        have P9 := hideIt (P8.out.after a9)
        have O9 := hideIt o9
        have R9 := hideIt r9
        have OB9 := hideIt (own_after O8.out a9)
        have F9 := hideIt (show ∀ j, (Value.slice ax zt.length cx).ownBlock = some j → w.heap.size ≤ j ∧ Apart j g v7 k (.slice au zt.length cu) from fun j hj => P8.out.fresh (o9.lt j hj).1)
        have F9b := hideIt (show ∀ i j, (Value.slice a6' nb c6').ownBlock = some i → (Value.slice ax zt.length cx).ownBlock = some j → i ≠ j from fun i j hi hj => by have h1 := (O8.out.lt i hi).2; have h2 := (o9.lt j hj).1; omega)
        have D9 := hideIt (D8.out.after a9)
        have HBS := hideIt P8.out.wr.2.2.2
        clear o9 a9 r9 y9 P8 O8 D8 m0 m1 c0 c1 c2
        obtain ⟨_, m0, m1⟩ := one_at P9.out.rw.1
        obtain ⟨au2, cu2, e2, ru, -⟩ := own_row P9.out.rw.2.1 HBS.out
        cases e2
        obtain ⟨_, c0, c1, c2, -, -, -, -, -, -, -, -, -⟩ := D9.out
        have RU := hideIt ru
        clear ru
        obtain ⟨q, hq⟩ : ∃ q, zt.length = q := ⟨_, rfl⟩
        have HQ := hideIt hq
        rw [hq] at R9 RU O9 F9 F9b m0 P9 ⊢
        clear hq
        have hqi : (q : Int) ≤ 1099511627776 := by have h1 := HZL.out; have h2 := HQ.out; omega
        go_wp2_with fail
        refine (eqBytes_same _ _ _ _ _ _ _ R9.out RU.out (by omega)).mono ?_
        rintro e wa ⟨rfl, aa⟩
        have AA := hideIt aa
        have PA := hideIt (P9.out.after aa)
        have OA := hideIt (own_after O9.out aa)
        have OBA := hideIt (own_after OB9.out aa)
        have DA := hideIt (D9.out.after aa)
        clear aa P9 O9 OB9 D9 R9 RU m0 m1 c0 c1 c2
        obtain ⟨_, c0, c1, c2, rb, -, -, -, -, -, -, -, -⟩ := DA.out
        obtain ⟨a62, c62, e62, rbb, -⟩ := own_row OBA.out rb.2.1
        cases e62
        have RB := hideIt rb
        have RBB := hideIt rbb
        have hnb : (nb : Int) ≤ 140737488355328 := by have := DA.out.len; omega
        clear rb rbb
        go_wp2_with fail
        refine (eqBytes_same _ _ _ _ _ _ _ RBB.out RB.out DA.out.len).mono ?_
        rintro e wb ⟨rfl, ab2⟩
        have PB := hideIt (PA.out.after ab2)
        have OB := hideIt (own_base (own_after OA.out ab2) (C := 0) (fun _ _ => Nat.zero_le _))
        have OBB := hideIt (own_base (own_after OBA.out ab2) (C := 0) (fun _ _ => Nat.zero_le _))
        have HBB := hideIt RB.out.2.1
        clear ab2 PA OA OBA DA RB RBB c0 c1 c2 AA
        go_wp2_with fail
        go_loopw [10] (fun i W => ∃ (j : Nat) (xs : List Int), j ≤ q ∧ i = .int .i64 j ∧ W.ownsRow 0 5 1 (.slice ax q cx) q (u8s xs) ∧ Bs xs ∧ Wrs w W g v7 k (.slice au q cu) zt ∧ W.ownsRow 0 5 1 (.slice a6' nb c6') nb (u8s bs)) (fun i _ => q - (intOf i).toNat)
        case atStart => exact ⟨0, zt, by omega, rfl, OB.out, HBS.out, PB.out, OBB.out⟩
        case round =>
          obtain ⟨j, xs, hj, rfl, ho, hb, hp, hob⟩ := hrel
          by_cases hlj : j < q
          · obtain ⟨gi, y, rfl, q1, q2, q3, q4, q5, q6⟩ := own_round ho hb hlj
            obtain ⟨us, s1, s2, s3⟩ := q6 (bits .xor .u8 (y : Int) 90) (xor_byte y q2)
            have E1 := hideIt s1
            have E2 := hideIt s2
            have E3 := hideIt (hp.but s3 (fun i t => by have t2 : i = gi := t; subst t2; exact F9.out i rfl))
            have E4 := hideIt (own_but hob s3 (fun i hi t => by have t2 : i = gi := t; exact F9b.out i gi hi rfl t2))
            have hki : (j : Int) < q := by omega
            clear ho hb hp hob q2 q4 q5 q6 s1 s2 s3 OB HBS PB OBB F9 F9b
            go_wp2
            go_roundw
            case rel => exact ⟨j + 1, us, by omega, by go_num, E1.out, E2.out, E3.out, E4.out⟩
            case measure => simp [intOf]; omega
          · have PC := hideIt hp
            have OC := hideIt hob
            clear ho hb hp hob OB HBS PB OBB F9 F9b
            go_wp2_with fail
            go_loopw [11] (fun i W => ∃ (j : Nat) (xs : List Int), j ≤ nb ∧ i = .int .i64 j ∧ W.ownsRow 0 5 1 (.slice a6' nb c6') nb (u8s xs) ∧ Bs xs ∧ Wrs w W g v7 k (.slice au q cu) zt) (fun i _ => nb - (intOf i).toNat)
            case atStart => exact ⟨0, bs, by omega, rfl, OC.out, HBB.out, PC.out⟩
            case round =>
              obtain ⟨j2, xs2, hj2, rfl, ho, hb, hp⟩ := hrel
              by_cases hlj2 : j2 < nb
              · obtain ⟨gi, y, rfl, q1, q2, q3, q4, q5, q6⟩ := own_round ho hb hlj2
                obtain ⟨us, s1, s2, s3⟩ := q6 (bits .xor .u8 (y : Int) 90) (xor_byte y q2)
                have E1 := hideIt s1
                have E2 := hideIt s2
                have E3 := hideIt (hp.but s3 (fun i t => by have t2 : i = gi := t; subst t2; have h1 := F8.out i rfl; rw [HQ.out] at h1; exact h1))
                have hki : (j2 : Int) < nb := by omega
                clear ho hb hp q2 q4 q5 q6 s1 s2 s3 OC HBB PC F8
                go_wp2
                go_roundw
                case rel => exact ⟨j2 + 1, us, by omega, by go_num, E1.out, E2.out, E3.out⟩
                case measure => simp [intOf]; omega
              · have PD := hideIt hp
                clear ho hb hp OC HBB PC F8
                go_wp2
                go_roundw
                case rel => exact ⟨m + 1, zt, _, _, by omega, by omega, by go_num, PD.out, HZ.out⟩
                case measure => simp [intOf]; omega
    · have hdd : ¬ ((m : Int) < n) ∨ ¬ ((m : Int) < 100) := by omega
      obtain ⟨au, cu, ru⟩ := own_slice P5.out.rw.2.1
      subst ru
      obtain ⟨au2, cu2, e2, ru, -⟩ := own_row P5.out.rw.2.1 P5.out.wr.2.2.2
      cases e2
      obtain ⟨hkl, m0, m1⟩ := one_at P5.out.rw.1
      have RU := hideIt ru
      have HB := hideIt P5.out.wr.2.2.2
      have WR := hideIt P5.out.wr
      have AF := hideIt P5.out.aft
      clear HD hlt HY P5 ru
      obtain ⟨q, hq⟩ : ∃ q, zs.length = q := ⟨_, rfl⟩
      have HQ := hideIt hq
      rw [hq] at HL RU m0
      clear hq
      by_cases hd1 : (m : Int) < n
      case' pos => have hd2 : ¬ ((m : Int) < 100) := by omega
      all_goals
        clear hdd
        go_wp2_with fail
        go_region_held3 (fun W => W.cell? ⟨k, 0, none⟩ = some (.slice au q cu) ∧ After wr W)
          (first | exact ⟨m0, But.drew After.rfl⟩ | exact ⟨xb, yb⟩ | exact ⟨xa, ya⟩ | exact ⟨x9, y9⟩ | assumption)
          (first
            | (go_at_call 34; refine (wBytes_any _ _ _ _ (WR.out.after (by first | exact And.right (by assumption) | exact But.drew After.rfl)) (by have h1 := HL.out; have h2 := HQ.out; omega)).mono ?_; rintro e w9 ⟨vx, rfl, o9, a9⟩; obtain ⟨ax, cx, rfl, r9, -⟩ := own_row o9 HB.out; rw [HQ.out] at r9 ⊢; have y9 : After wr w9 := After.trans (by first | exact And.right (by assumption) | exact But.drew After.rfl) a9; have x9 : w9.cell? ⟨k, 0, none⟩ = some (.slice au q cu) := (y9.cell hkl 0).trans m0; have R9 := hideIt r9; have RU9 := hideIt (RU.out.after y9); clear o9 a9 r9)
            | (go_at_call 20; refine (eqBytes_same _ _ _ _ _ _ _ R9.out RU9.out (by have h1 := HL.out; omega)).mono ?_; rintro e wa ⟨rfl, a10⟩; have ya : After wr wa := After.trans y9 a10; have xa : wa.cell? ⟨k, 0, none⟩ = some (.slice au q cu) := (ya.cell hkl 0).trans m0; clear a10)
            | (go_at_call 23; refine (awake_any _).mono ?_; rintro e wb ⟨rfl, a11⟩; have yb : After wr wb := After.trans ya a11; have xb : wb.cell? ⟨k, 0, none⟩ = some (.slice au q cu) := (yb.cell hkl 0).trans m0; clear a11))
        all_goals
          have AB := hideIt (AF.out.trans yb)
          go_wp2
          go_ret
          exact ⟨rfl, AB.out⟩
end Go.Proofs.Ytojgkhinddjmaaa
