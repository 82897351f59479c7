/-
  The statement NotationBlanks, walked.
-/
import Derived.Test.YtlfcihanhfabmaaGreatDoorNtS
import Derived.Test.YtlfcihanhfabmaaGreatDoorNtX
import Derived.Test.YtlfcihanhfabmaaGreatDoorNtZ
namespace Go.Proofs.YtlfcihanhfabmaaGreatDoor
open Go.RowKit
set_option maxRecDepth 8000
open L1 (S)
/-- Bytes in a row. -/
def u8E : Enc UInt8 where
  k := 1
  enc x := [.int .u8 (x.toNat : Int)]
  len _ := rfl
  one x u hu := by
    simp only [List.mem_cons, List.not_mem_nil, or_false] at hu
    rcases hu with rfl; rfl
  pos := by decide
theorem rep_blank : ∀ k, Lib.repeatL [32] k = List.replicate k 32
  | 0 => rfl
  | k + 1 => by
    show [32] ++ Lib.repeatL [32] k = _
    rw [rep_blank k]; rfl
theorem repB_any (k : Nat) (hk : k ≤ 100) (w : World) : Calls Tryz.prog 20 #[.string (S [32]), .int .i64 (k : Int)] w fun e w' => e = .returned (.string (S (List.replicate k 32))) ∧ After w w' := by
  refine (Tryz.strings_Repeat (S [32]) k w (by omega) (by show 1 * k ≤ _; omega)).mono ?_
  rintro e w' ⟨rfl, h⟩
  refine ⟨?_, After.of h⟩
  show Ending.returned (.string (S (Lib.repeatL [32] k))) = _
  rw [rep_blank]
theorem enterRp : ∀ (args : Array Value) (W : World), (callFunc 20 args).run Tryz.prog W = .ok (.enter 20 args) W := enter_of Tryz.func20 (by kernel_rfl) (by kernel_rfl)
section
variable {o : Oper} {a : Act} {w : World} {K : Act → World → Prop} {Q : Exit → Act → World → Prop}
theorem wp_conv {t t' : Nat} {x : Operand} {p v : Value} (ho : o.op = .convert t t' x) (hx : a.eval x = p) (hr : (convert t t' p).run Tryz.prog w = .ok v w) (h : K (a.put o.dst v) w) : Oper.wp Tryz.prog o a w K Q := by
  refine wp_val (r := convert t t' p) ?_ hr h
  unfold execOp
  simp [ho, hx]
theorem wp_strcut {t : Nat} {x y z : Operand} {p q r v : Value} (ho : o.op = .slice t x (some y) (some z) Option.none) (hx : a.eval x = p) (hy : a.eval y = q) (hz : a.eval z = r) (hr : (Instr.sliceAt t p (some q) (some r) Option.none).run Tryz.prog w = .ok v w) (h : K (a.put o.dst v) w) : Oper.wp Tryz.prog o a w K Q := by
  refine wp_val (r := Instr.sliceAt t p (some q) (some r) Option.none) ?_ hr h
  unfold execOp
  simp [ho, hx, hy, hz]
end
theorem remI {n m k : Nat} (hm : 0 < m) (h : n % m = k) (x y : Operand) (w : World) : (do eqGuard .rem 3 x y (.int .i64 (n : Int)) (.int .i64 (m : Int)); binOp .rem 3 (.int .i64 (n : Int)) (.int .i64 (m : Int)) : Sem Value).run Tryz.prog w = .ok (.int .i64 (k : Int)) w := by
  have e : Int.tmod (n : Int) (m : Int) = (k : Int) := by rw [← h]; rfl
  have hm' : ¬ (m : Int) = 0 := by omega
  have hm2 : ¬ m = 0 := by omega
  simp [go_sem, eqGuard, e, hm2]
theorem rem3 {n k : Nat} (_hn : n < 256) (h : n % 3 = k) (x y : Operand) (w : World) : (do eqGuard .rem 5 x y (.int .u8 (n : Int)) (.int .u8 3); binOp .rem 5 (.int .u8 (n : Int)) (.int .u8 3) : Sem Value).run Tryz.prog w = .ok (.int .u8 (k : Int)) w := by
  have e : Int.tmod (n : Int) 3 = (k : Int) := by rw [← h]; rfl
  simp [go_sem, eqGuard, e]
theorem rem2 {n k : Nat} (_hn : n < 256) (h : n % 2 = k) (x y : Operand) (w : World) : (do eqGuard .rem 5 x y (.int .u8 (n : Int)) (.int .u8 2); binOp .rem 5 (.int .u8 (n : Int)) (.int .u8 2) : Sem Value).run Tryz.prog w = .ok (.int .u8 (k : Int)) w := by
  have e : Int.tmod (n : Int) 2 = (k : Int) := by rw [← h]; rfl
  simp [go_sem, eqGuard, e]
theorem quo3 {n k : Nat} (hn : n < 256) (h : n / 3 = k) (x y : Operand) (w : World) : (do eqGuard .quo 5 x y (.int .u8 (n : Int)) (.int .u8 3); binOp .quo 5 (.int .u8 (n : Int)) (.int .u8 3) : Sem Value).run Tryz.prog w = .ok (.int .u8 (k : Int)) w := by
  have e : Int.tdiv (n : Int) 3 = (k : Int) := by rw [← h]; rfl
  have e2 : IntKind.u8.wrap (k : Int) = (k : Int) := by
    unfold IntKind.wrap
    simp [IntKind.bits, IntKind.signed]
    omega
  simp [go_sem, eqGuard, e, e2]
theorem convI {n : Nat} (hn : n < 256) (w : World) : (convert 5 3 (.int .u8 (n : Int))).run Tryz.prog w = .ok (.int .i64 (n : Int)) w := by
  have e : IntKind.i64.wrap (n : Int) = (n : Int) := IntWalk.i64_in _ (by omega)
  simp [go_sem, convert, e]
theorem lenBy (a : Option Addr) (n c : Nat) (ty : TypeId) (w : World) : (Builtin.len_ #[44] ty #[.slice a n c]).run Tryz.prog w = .ok (.int .i64 (n : Int)) w := by
  simp [Builtin.len_, run_underlying Tryz.underlying44, go_sem, goInt, Result.andThen]
theorem indexBy (w : World) (b off n c k : Nat) (hk : (k : Int) < (n : Int)) : (Instr.indexAt 44 (.slice (some ⟨b, off, none⟩) n c) (.int .i64 (k : Int))).run Tryz.prog w = .ok (.pointer (some ⟨b, off + k, none⟩)) w := by
  have h0 : (0 : Int) ≤ (k : Int) := by omega
  have h1 : k < n := by omega
  by_cases h2 : k = 0
  · subst h2; simp [go_sem, h1]
  · simp [go_sem, h0, hk]
theorem loadBy {w : World} {p : Addr} {z : Int} (h : w.cell? p = some (.int .u8 z)) : (Instr.loadAt 5 (.pointer (some p))).run Tryz.prog w = .ok (.int .u8 z) w := by simp [go_sem, h]
theorem cutBy {s : W8} {j : Nat} {c : UInt8} (hc : s[j]? = some c) (w : World) : (Instr.sliceAt 9 (.string (S s)) (some (.int .i64 (j : Int))) (some (.int .i64 ((j : Int) + 1))) Option.none).run Tryz.prog w = .ok (.string (S [c])) w := by
  have hl : j < s.length := (List.getElem?_eq_some_iff.1 hc).1
  have e : (S s).extract j (j + 1) = S [c] := by
    rw [S_extract, Nat.add_sub_cancel_left]
    congr 1
    rw [show s.drop j = c :: s.drop (j + 1) from by
      obtain ⟨hl, rfl⟩ := List.getElem?_eq_some_iff.1 hc
      exact List.drop_eq_getElem_cons hl]
    rfl
  have h1 : ((j : Int) + 1).toNat = j + 1 := by omega
  have h2 : (j : Int) + 1 ≤ ((S s).size : Int) := by rw [L1.S_size]; omega
  have h3 : (0 : Int) ≤ (j : Int) + 1 := by omega
  have h4 : (j : Int) ≤ (j : Int) + 1 := by omega
  simp [go_sem, e, h1, h2, h4]
theorem addJ {j : Nat} (h : j ≤ 1000) (x y : Operand) (w : World) : (do eqGuard .add 3 x y (.int .i64 (j : Int)) (.int .i64 1); binOp .add 3 (.int .i64 (j : Int)) (.int .i64 1) : Sem Value).run Tryz.prog w = .ok (.int .i64 ((j : Int) + 1)) w := by
  have e : IntKind.i64.wrap ((j : Int) + 1) = (j : Int) + 1 := IntWalk.i64_in _ (by omega)
  simp [go_sem, eqGuard, e]
/-- The blanks beside the i-th byte. -/
def byF (l : List UInt8) (i : Nat) : Nat × Nat := ((l.getD (i % l.length) 0).toNat % 3, (l.getD (i % l.length) 0).toNat / 3 % 2)
theorem byF_le (l : List UInt8) (i : Nat) : (byF l i).1 + (byF l i).2 ≤ 3 := by unfold byF; dsimp only; omega
theorem byF_nil (i : Nat) : byF [] i = (0, 0) := by simp [byF]
theorem wide_take {l : List UInt8} {s : W8} {j : Nat} {c : UInt8} (hc : s[j]? = some c) : wide (byF l) 0 (s.take (j + 1)) = wide (byF l) 0 (s.take j) ++ (if spB c = true then List.replicate (byF l j).1 32 ++ c :: List.replicate (byF l j).2 32 else [c]) := by
  have hl : j < s.length := (List.getElem?_eq_some_iff.1 hc).1
  rw [List.take_add_one, hc]
  show wide (byF l) 0 (s.take j ++ [c]) = _
  rw [wide_snoc, List.length_take, Nat.min_eq_left (by omega), Nat.zero_add]
set_option maxHeartbeats 4000000 in
theorem law_blanks (s : W8) (w : World) (hl : Laid w) (hm : s.length ≤ maxLen) (a : Option Addr) (m ct : Nat) (l : List UInt8) (hr : GRow u8E w a m l) : Calls Tryz.prog 6 #[.string (S s), .slice a m ct] w fun e w' => e = .returned (.bool true) ∧ After w w' := by
  have HL := hideIt hl
  by_cases h200 : 200 < s.length
  · have i1 : (200 : Int) < ((S s).size : Int) := by rw [L1.S_size]; omega
    clear hl hm hr h200
    go_enter Tryz.func6, Tryz.ntmps6
    go_wp2_with fail
    refine (works_any w HL.out).mono ?_
    rintro e w1 ⟨rfl, a1⟩
    have HA1 := hideIt a1
    clear a1
    go_wp2
    go_ret
    exact ⟨rfl, HA1.out⟩
  have i1 : ¬ (200 : Int) < ((S s).size : Int) := by rw [L1.S_size]; omega
  have HSl : Hid (s.length ≤ 200) := hideIt (by omega)
  have HP := hideIt (fun W (b : After w W) => parse_slice s W (hl.on b) hm)
  obtain ⟨hw1, hw2⟩ := wide_parse (byF l) (byF_le l) s (by omega)
  have hwl := wide_len (byF l) (byF_le l) s 0
  have HP2 := hideIt (fun W (b : After w W) => parse_slice (32 :: 32 :: (wide (byF l) 0 s ++ [32])) W (hl.on b) (by unfold maxLen; simp; omega))
  have HP3 := hideIt (fun W (b : After w W) => parse_slice (40 :: 40 :: (s ++ [41, 41])) W (hl.on b) (by unfold maxLen; simp; omega))
  rw [hw1, hw2] at HP2
  have HBr := hideIt (fun (he : (parseA s).e = 0) hc => bracket_parse (s := s) (by omega) he hc)
  have HWl := hideIt hwl
  have HR := hideIt hr
  obtain ⟨P, hP⟩ : ∃ P, P = parseA s := ⟨_, rfl⟩
  obtain ⟨P3, hP3⟩ : ∃ P, P = parseA (40 :: 40 :: (s ++ [41, 41])) := ⟨_, rfl⟩
  rw [← hP] at HP HP2 HBr
  rw [← hP3] at HP3 HBr
  have hlen : P.ns.length ≤ 32 := by
    rw [hP]
    unfold parseA
    split
    · simp
    · split
      · simp
      · split
        · simp
        · rename_i h; simp; omega
  obtain ⟨ns, at_, E⟩ := P
  obtain ⟨ns3, at3, E3⟩ := P3
  generalize (parseA (32 :: 32 :: (wide (byF l) 0 s ++ [32]))).at_ = at2 at *
  simp only at HP HP2 HP3 HBr hlen
  have HLen := hideIt hlen
  clear hl hm hr h200 hw1 hw2 hwl hP hP3 hlen
  go_enter Tryz.func6, Tryz.ntmps6
  go_wp2_with fail
  refine (works_any w HL.out).mono ?_
  rintro e w1 ⟨rfl, a1⟩
  have HA1 := hideIt a1
  clear a1
  go_wp2_with fail
  refine (HP.out _ HA1.out).mono ?_
  rintro e w2 ⟨pa, pc, rfl, -, r2, a2⟩
  have HA2 := hideIt (And.intro r2 (HA1.out.trans a2))
  clear r2 a2
  obtain ⟨n, hn⟩ : ∃ n, n = ns.length := ⟨_, rfl⟩
  rw [← hn] at HA2 HP2 ⊢
  have HN := hideIt hn
  clear hn
  go_wp2_with fail
  go_loopw [8, 9] (fun t i wr => ∃ j : Nat, j ≤ s.length ∧ i = .int .i64 (j : Int) ∧ t = .string (S (wide (byF l) 0 (s.take j))) ∧ After w2 wr) (fun _ i _ => s.length - (intOf i).toNat)
  case atStart => exact ⟨0, Nat.zero_le _, rfl, rfl, After.rfl⟩
  case round =>
    obtain ⟨j, hj, rfl, rfl, aw⟩ := hrel
    have HAw := hideIt aw
    obtain ⟨T, hT⟩ : ∃ T, T = wide (byF l) 0 (s.take j) := ⟨_, rfl⟩
    have HT := hideIt hT
    have HTl : Hid (T.length ≤ 800) := hideIt (by
      rw [hT]
      have h1 := wide_len (byF l) (byF_le l) (s.take j) 0
      rw [List.length_take] at h1
      have := HSl.out
      omega)
    have tz : (S T).size ≤ 800 := HTl.out
    rw [← hT]
    clear aw hT
    by_cases hjn : j < s.length
    · have i2 : (j : Int) < ((S s).size : Int) := by rw [L1.S_size]; omega
      have i3 : (0 : Int) ≤ (j : Int) := by omega
      have HJl : Hid (j ≤ 200) := hideIt (by have := HSl.out; omega)
      have i4 : (j : Int) ≤ 200 := by have := HJl.out; omega
      obtain ⟨c, hc⟩ : ∃ c, s[j]? = some c := ⟨s[j], by simp [hjn]⟩
      obtain ⟨hjs, hb⟩ := S_at hc
      by_cases hsp : spB c = true ∧ 0 < m
      · obtain ⟨hs1, hm0⟩ := hsp
        have m1 : (0 : Int) < (m : Int) := by omega
        obtain ⟨r, hr9⟩ : ∃ r, j % m = r := ⟨_, rfl⟩
        have hrm : r < m := by rw [← hr9]; exact Nat.mod_lt _ hm0
        obtain ⟨bb, ob, b8, e9, hlt9, hb8, hc8⟩ := HR.out.2 r hrm
        obtain rfl := e9
        have hbc : w.cell? ⟨bb, ob + r, none⟩ = some (.int .u8 (b8.toNat : Int)) := by simpa [u8E] using hc8 0 _ rfl
        obtain ⟨b, hbe⟩ : ∃ b, b = b8.toNat := ⟨_, rfl⟩
        have hb256 : b < 256 := by rw [hbe]; exact b8.toNat_lt
        rw [← hbe] at hbc
        have HBc : Hid (wr.cell? ⟨bb, ob + r, none⟩ = some (.int .u8 (b : Int))) := hideIt (((HA2.out.2.trans HAw.out).cell hlt9 _).trans hbc)
        obtain ⟨k1, hk1⟩ : ∃ k, b % 3 = k := ⟨_, rfl⟩
        obtain ⟨k3, hk3⟩ : ∃ k, b / 3 = k := ⟨_, rfl⟩
        obtain ⟨k2, hk2⟩ : ∃ k, k3 % 2 = k := ⟨_, rfl⟩
        have HK : Hid (b < 256 ∧ b % 3 = k1 ∧ k3 < 256 ∧ k3 % 2 = k2 ∧ b / 3 = k3 ∧ k1 < 3 ∧ k2 < 2 ∧ r < m) := hideIt ⟨hb256, hk1, by omega, hk2, hk3, by omega, by omega, hrm⟩
        have hby : byF l j = (k1, k2) := by
          have hl9 : l.length = m := HR.out.1
          unfold byF
          rw [hl9, hr9, show l.getD r 0 = b8 from by simp [hb8], ← hbe, hk1, hk3, hk2]
        have HBy1 : Hid (k1 = (byF l j).1 ∧ k2 = (byF l j).2) := hideIt (by rw [hby]; exact ⟨rfl, rfl⟩)
        have HR9 := hideIt hr9
        clear hbc hbe hb256 hk1 hk2 hk3 hby hr9 hrm hc8 hb8 hlt9 HR hj
        unfold spB at hs1
        simp only [Bool.or_eq_true, decide_eq_true_eq] at hs1
        have HR := HR9
        rcases hs1 with (((rfl | rfl) | rfl) | rfl) | rfl
        · have HC := hideIt hc
          have HB := hideIt hb
          have hbb := hb
          clear hc hb
          go_upto_region 11 with fail
          refine region_lastG (by kernel_rfl) [67, 68, 69, 70, 71, 72, 73, 74, 75, 76, 77, 78, 79, 80, 81, 82, 83, 84, 85, 86, 87, 88, 89, 90, 91, 92, 93, 94, 95, 96] [isV (.string (S T)), isV (.slice (some ⟨bb, ob, none⟩) m ct), isV (.int .i64 (j : Int)), isV (.slice (some ⟨bb, ob, none⟩) m ct), isV (.int .i64 (m : Int)), isV (.int .i64 (r : Int)), isV (.pointer (some ⟨bb, ob + r, none⟩)), isV (.int .u8 (b : Int)), isV (.int .u8 (k1 : Int)), isV (.int .i64 (k1 : Int)), isV (.string (S (List.replicate k1 32))), isV (.string (S (T ++ (List.replicate k1 32)))), isV (.string (S s)), isV (.int .i64 (j : Int)), isV (.int .i64 (j : Int)), isV (.int .i64 ((j : Int) + 1)), isV (.string (S [32])), isV (.string (S ((T ++ (List.replicate k1 32)) ++ [32]))), isV (.slice (some ⟨bb, ob, none⟩) m ct), isV (.int .i64 (j : Int)), isV (.slice (some ⟨bb, ob, none⟩) m ct), isV (.int .i64 (m : Int)), isV (.int .i64 (r : Int)), isV (.pointer (some ⟨bb, ob + r, none⟩)), isV (.int .u8 (b : Int)), isV (.int .u8 (k3 : Int)), isV (.int .u8 (k2 : Int)), isV (.int .i64 (k2 : Int)), isV (.string (S (List.replicate k2 32))), isV (.string (S (((T ++ (List.replicate k1 32)) ++ [32]) ++ (List.replicate k2 32))))] 30 _ rfl rfl rfl rfl 12 rfl rfl (stable_all (st_cons (isV_st _) (st_cons (isV_st _) (st_cons (isV_st _) (st_cons (isV_st _) (st_cons (isV_st _) (st_cons (isV_st _) (st_cons (isV_st _) (st_cons (isV_st _) (st_cons (isV_st _) (st_cons (isV_st _) (st_cons (isV_st _) (st_cons (isV_st _) (st_cons (isV_st _) (st_cons (isV_st _) (st_cons (isV_st _) (st_cons (isV_st _) (st_cons (isV_st _) (st_cons (isV_st _) (st_cons (isV_st _) (st_cons (isV_st _) (st_cons (isV_st _) (st_cons (isV_st _) (st_cons (isV_st _) (st_cons (isV_st _) (st_cons (isV_st _) (st_cons (isV_st _) (st_cons (isV_st _) (st_cons (isV_st _) (st_cons (isV_st _) (st_cons (isV_st _) (st_nil)))))))))))))))))))))))))))))))) rfl rfl ?_ ?_
          · exact ⟨⟨rfl, rfl, .inl ⟨(.inl rfl), fun a W9 K hd hb aw hk => wp_move (.inl rfl) (show a.eval (.tmp 8) = .string (S T) from hb 8 rfl) (hk _ _ rfl After.rfl)⟩⟩,
              ⟨rfl, rfl, .inl ⟨(.inl rfl), fun a W9 K hd hb aw hk => wp_move (.inl rfl) (show a.eval (.tmp 1) = .slice (some ⟨bb, ob, none⟩) m ct from hb 1 rfl) (hk _ _ rfl After.rfl)⟩⟩,
              ⟨rfl, rfl, .inl ⟨(.inl rfl), fun a W9 K hd hb aw hk => wp_move (.inl rfl) (show a.eval (.tmp 9) = .int .i64 (j : Int) from hb 9 rfl) (hk _ _ rfl After.rfl)⟩⟩,
              ⟨rfl, rfl, .inl ⟨(.inl rfl), fun a W9 K hd hb aw hk => wp_move (.inl rfl) (show a.eval (.tmp 1) = .slice (some ⟨bb, ob, none⟩) m ct from hb 1 rfl) (hk _ _ rfl After.rfl)⟩⟩,
              ⟨rfl, rfl, .inl ⟨(.inl rfl), fun a W9 K hd hb aw hk => wp_len rfl (hd 3 rfl) (lenBy _ _ _ _ _) (hk _ _ rfl After.rfl)⟩⟩,
              ⟨rfl, rfl, .inl ⟨(.inl rfl), fun a W9 K hd hb aw hk => wp_bin rfl (hd 2 rfl) (hd 4 rfl) (remI (by have := HK.out; omega) HR.out _ _ _) (hk _ _ rfl After.rfl)⟩⟩,
              ⟨rfl, rfl, .inl ⟨(.inl rfl), fun a W9 K hd hb aw hk => wp_index rfl (hd 1 rfl) (hd 5 rfl) (indexBy _ _ _ _ _ _ (by have := HK.out; omega)) (hk _ _ rfl After.rfl)⟩⟩,
              ⟨rfl, rfl, .inl ⟨(.inl rfl), fun a W9 K hd hb aw hk => wp_load rfl (hd 6 rfl) (loadBy ((aw.cell (cell_lt HBc.out) _).trans HBc.out)) (hk _ _ rfl After.rfl)⟩⟩,
              ⟨rfl, rfl, .inl ⟨(.inl rfl), fun a W9 K hd hb aw hk => wp_bin rfl (hd 7 rfl) rfl (rem3 HK.out.1 HK.out.2.1 _ _ _) (hk _ _ rfl After.rfl)⟩⟩,
              ⟨rfl, rfl, .inl ⟨(.inl rfl), fun a W9 K hd hb aw hk => wp_conv rfl (hd 8 rfl) (convI (by have := HK.out; omega) _) (hk _ _ rfl After.rfl)⟩⟩,
              ⟨rfl, rfl, .inl ⟨(.inl rfl), fun a W9 K hd hb aw hk => wp_func2 rfl enterRp rfl (hd 9 rfl) ((repB_any k1 (by have := HK.out; omega) _).mono (fun _ _ ⟨he, hA⟩ => ⟨_, he, hk _ _ rfl hA⟩))⟩⟩,
              ⟨rfl, rfl, .inl ⟨(.inl rfl), fun a W9 K hd hb aw hk => wp_bin rfl (hd 0 rfl) (hd 10 rfl) (addSt _ _ HTl.out (show (List.replicate k1 (32 : UInt8)).length ≤ 100 by rw [List.length_replicate]; have := HK.out; omega) rfl _ _ _) (hk _ _ rfl After.rfl)⟩⟩,
              ⟨rfl, rfl, .inl ⟨(.inl rfl), fun a W9 K hd hb aw hk => wp_move (.inl rfl) (show a.eval (.tmp 0) = .string (S s) from hb 0 rfl) (hk _ _ rfl After.rfl)⟩⟩,
              ⟨rfl, rfl, .inl ⟨(.inl rfl), fun a W9 K hd hb aw hk => wp_move (.inl rfl) (show a.eval (.tmp 9) = .int .i64 (j : Int) from hb 9 rfl) (hk _ _ rfl After.rfl)⟩⟩,
              ⟨rfl, rfl, .inl ⟨(.inl rfl), fun a W9 K hd hb aw hk => wp_move (.inl rfl) (show a.eval (.tmp 9) = .int .i64 (j : Int) from hb 9 rfl) (hk _ _ rfl After.rfl)⟩⟩,
              ⟨rfl, rfl, .inl ⟨(.inl rfl), fun a W9 K hd hb aw hk => wp_bin rfl (hd 14 rfl) rfl (addJ (by have := HJl.out; omega) _ _ _) (hk _ _ rfl After.rfl)⟩⟩,
              ⟨rfl, rfl, .inl ⟨(.inl rfl), fun a W9 K hd hb aw hk => wp_strcut rfl (hd 12 rfl) (hd 13 rfl) (hd 15 rfl) (cutBy HC.out _) (hk _ _ rfl After.rfl)⟩⟩,
              ⟨rfl, rfl, .inl ⟨(.inl rfl), fun a W9 K hd hb aw hk => wp_bin rfl (hd 11 rfl) (hd 16 rfl) (addSt _ _ (cat_le HTl.out (show (List.replicate k1 (32 : UInt8)).length ≤ 100 by rw [List.length_replicate]; have := HK.out; omega)) (Nat.le_of_ble_eq_true rfl : List.length (α := UInt8) [32] ≤ 1) rfl _ _ _) (hk _ _ rfl After.rfl)⟩⟩,
              ⟨rfl, rfl, .inl ⟨(.inl rfl), fun a W9 K hd hb aw hk => wp_move (.inl rfl) (show a.eval (.tmp 1) = .slice (some ⟨bb, ob, none⟩) m ct from hb 1 rfl) (hk _ _ rfl After.rfl)⟩⟩,
              ⟨rfl, rfl, .inl ⟨(.inl rfl), fun a W9 K hd hb aw hk => wp_move (.inl rfl) (show a.eval (.tmp 9) = .int .i64 (j : Int) from hb 9 rfl) (hk _ _ rfl After.rfl)⟩⟩,
              ⟨rfl, rfl, .inl ⟨(.inl rfl), fun a W9 K hd hb aw hk => wp_move (.inl rfl) (show a.eval (.tmp 1) = .slice (some ⟨bb, ob, none⟩) m ct from hb 1 rfl) (hk _ _ rfl After.rfl)⟩⟩,
              ⟨rfl, rfl, .inl ⟨(.inl rfl), fun a W9 K hd hb aw hk => wp_len rfl (hd 20 rfl) (lenBy _ _ _ _ _) (hk _ _ rfl After.rfl)⟩⟩,
              ⟨rfl, rfl, .inl ⟨(.inl rfl), fun a W9 K hd hb aw hk => wp_bin rfl (hd 19 rfl) (hd 21 rfl) (remI (by have := HK.out; omega) HR.out _ _ _) (hk _ _ rfl After.rfl)⟩⟩,
              ⟨rfl, rfl, .inl ⟨(.inl rfl), fun a W9 K hd hb aw hk => wp_index rfl (hd 18 rfl) (hd 22 rfl) (indexBy _ _ _ _ _ _ (by have := HK.out; omega)) (hk _ _ rfl After.rfl)⟩⟩,
              ⟨rfl, rfl, .inl ⟨(.inl rfl), fun a W9 K hd hb aw hk => wp_load rfl (hd 23 rfl) (loadBy ((aw.cell (cell_lt HBc.out) _).trans HBc.out)) (hk _ _ rfl After.rfl)⟩⟩,
              ⟨rfl, rfl, .inl ⟨(.inl rfl), fun a W9 K hd hb aw hk => wp_bin rfl (hd 24 rfl) rfl (quo3 HK.out.1 HK.out.2.2.2.2.1 _ _ _) (hk _ _ rfl After.rfl)⟩⟩,
              ⟨rfl, rfl, .inl ⟨(.inl rfl), fun a W9 K hd hb aw hk => wp_bin rfl (hd 25 rfl) rfl (rem2 HK.out.2.2.1 HK.out.2.2.2.1 _ _ _) (hk _ _ rfl After.rfl)⟩⟩,
              ⟨rfl, rfl, .inl ⟨(.inl rfl), fun a W9 K hd hb aw hk => wp_conv rfl (hd 26 rfl) (convI (by have := HK.out; omega) _) (hk _ _ rfl After.rfl)⟩⟩,
              ⟨rfl, rfl, .inl ⟨(.inl rfl), fun a W9 K hd hb aw hk => wp_func2 rfl enterRp rfl (hd 27 rfl) ((repB_any k2 (by have := HK.out; omega) _).mono (fun _ _ ⟨he, hA⟩ => ⟨_, he, hk _ _ rfl hA⟩))⟩⟩,
              ⟨rfl, rfl, .inl ⟨(.inl rfl), fun a W9 K hd hb aw hk => wp_bin rfl (hd 17 rfl) (hd 28 rfl) (addSt _ _ (cat_le (cat_le HTl.out (show (List.replicate k1 (32 : UInt8)).length ≤ 100 by rw [List.length_replicate]; have := HK.out; omega)) (Nat.le_of_ble_eq_true rfl : List.length (α := UInt8) [32] ≤ 1)) (show (List.replicate k2 (32 : UInt8)).length ≤ 100 by rw [List.length_replicate]; have := HK.out; omega) rfl _ _ _) (hk _ _ rfl After.rfl)⟩⟩,
              trivial⟩
          intro x9 w9 hx9 aw9 K9 hK9
          have t0 : x9 0 = .string (S T) := hx9 0 (Nat.le_of_ble_eq_true rfl)
          have t1 : x9 1 = .slice (some ⟨bb, ob, none⟩) m ct := hx9 1 (Nat.le_of_ble_eq_true rfl)
          have t2 : x9 2 = .int .i64 (j : Int) := hx9 2 (Nat.le_of_ble_eq_true rfl)
          have t3 : x9 3 = .slice (some ⟨bb, ob, none⟩) m ct := hx9 3 (Nat.le_of_ble_eq_true rfl)
          have t4 : x9 4 = .int .i64 (m : Int) := hx9 4 (Nat.le_of_ble_eq_true rfl)
          have t5 : x9 5 = .int .i64 (r : Int) := hx9 5 (Nat.le_of_ble_eq_true rfl)
          have t6 : x9 6 = .pointer (some ⟨bb, ob + r, none⟩) := hx9 6 (Nat.le_of_ble_eq_true rfl)
          have t7 : x9 7 = .int .u8 (b : Int) := hx9 7 (Nat.le_of_ble_eq_true rfl)
          have t8 : x9 8 = .int .u8 (k1 : Int) := hx9 8 (Nat.le_of_ble_eq_true rfl)
          have t9 : x9 9 = .int .i64 (k1 : Int) := hx9 9 (Nat.le_of_ble_eq_true rfl)
          have t10 : x9 10 = .string (S (List.replicate k1 32)) := hx9 10 (Nat.le_of_ble_eq_true rfl)
          have t11 : x9 11 = .string (S (T ++ (List.replicate k1 32))) := hx9 11 (Nat.le_of_ble_eq_true rfl)
          have t12 : x9 12 = .string (S s) := hx9 12 (Nat.le_of_ble_eq_true rfl)
          have t13 : x9 13 = .int .i64 (j : Int) := hx9 13 (Nat.le_of_ble_eq_true rfl)
          have t14 : x9 14 = .int .i64 (j : Int) := hx9 14 (Nat.le_of_ble_eq_true rfl)
          have t15 : x9 15 = .int .i64 ((j : Int) + 1) := hx9 15 (Nat.le_of_ble_eq_true rfl)
          have t16 : x9 16 = .string (S [32]) := hx9 16 (Nat.le_of_ble_eq_true rfl)
          have t17 : x9 17 = .string (S ((T ++ (List.replicate k1 32)) ++ [32])) := hx9 17 (Nat.le_of_ble_eq_true rfl)
          have t18 : x9 18 = .slice (some ⟨bb, ob, none⟩) m ct := hx9 18 (Nat.le_of_ble_eq_true rfl)
          have t19 : x9 19 = .int .i64 (j : Int) := hx9 19 (Nat.le_of_ble_eq_true rfl)
          have t20 : x9 20 = .slice (some ⟨bb, ob, none⟩) m ct := hx9 20 (Nat.le_of_ble_eq_true rfl)
          have t21 : x9 21 = .int .i64 (m : Int) := hx9 21 (Nat.le_of_ble_eq_true rfl)
          have t22 : x9 22 = .int .i64 (r : Int) := hx9 22 (Nat.le_of_ble_eq_true rfl)
          have t23 : x9 23 = .pointer (some ⟨bb, ob + r, none⟩) := hx9 23 (Nat.le_of_ble_eq_true rfl)
          have t24 : x9 24 = .int .u8 (b : Int) := hx9 24 (Nat.le_of_ble_eq_true rfl)
          have t25 : x9 25 = .int .u8 (k3 : Int) := hx9 25 (Nat.le_of_ble_eq_true rfl)
          have t26 : x9 26 = .int .u8 (k2 : Int) := hx9 26 (Nat.le_of_ble_eq_true rfl)
          have t27 : x9 27 = .int .i64 (k2 : Int) := hx9 27 (Nat.le_of_ble_eq_true rfl)
          have t28 : x9 28 = .string (S (List.replicate k2 32)) := hx9 28 (Nat.le_of_ble_eq_true rfl)
          have t29 : x9 29 = .string (S (((T ++ (List.replicate k1 32)) ++ [32]) ++ (List.replicate k2 32))) := hx9 29 (Nat.le_of_ble_eq_true rfl)
          simp only [sets, List.getD_cons_succ, List.getD_cons_zero, List.set_cons_succ, List.set_cons_zero, t0, t1, t2, t3, t4, t5, t6, t7, t8, t9, t10, t11, t12, t13, t14, t15, t16, t17, t18, t19, t20, t21, t22, t23, t24, t25, t26, t27, t28, t29]
          clear hx9 t0 t1 t2 t3 t4 t5 t6 t7 t8 t9 t10 t11 t12 t13 t14 t15 t16 t17 t18 t19 t20 t21 t22 t23 t24 t25 t26 t27 t28 t29 x9
          refine wp_move (.inr rfl) rfl (hK9 _ _ ?_)
          clear hK9
          have HW9 := hideIt (HAw.out.trans aw9)
          clear aw9
          obtain ⟨T2, hT2⟩ : ∃ T2, T2 = (((T ++ (List.replicate k1 32)) ++ [32]) ++ (List.replicate k2 32)) := ⟨_, rfl⟩
          rw [← hT2]
          have HT2 := hideIt hT2
          clear hT2
          go_wp2_with fail
          go_roundw
          case rel =>
            refine ⟨j + 1, by omega, by go_num, ?_, HW9.out⟩
            rw [HT2.out, wide_take HC.out, if_pos (by decide), ← HT.out, ← HBy1.out.1, ← HBy1.out.2]
            congr 2
            simp
          case measure => simp [intOf]; omega
        · have HC := hideIt hc
          have HB := hideIt hb
          have hbb := hb
          clear hc hb
          go_upto_region 11 with fail
          refine region_lastG (by kernel_rfl) [67, 68, 69, 70, 71, 72, 73, 74, 75, 76, 77, 78, 79, 80, 81, 82, 83, 84, 85, 86, 87, 88, 89, 90, 91, 92, 93, 94, 95, 96] [isV (.string (S T)), isV (.slice (some ⟨bb, ob, none⟩) m ct), isV (.int .i64 (j : Int)), isV (.slice (some ⟨bb, ob, none⟩) m ct), isV (.int .i64 (m : Int)), isV (.int .i64 (r : Int)), isV (.pointer (some ⟨bb, ob + r, none⟩)), isV (.int .u8 (b : Int)), isV (.int .u8 (k1 : Int)), isV (.int .i64 (k1 : Int)), isV (.string (S (List.replicate k1 32))), isV (.string (S (T ++ (List.replicate k1 32)))), isV (.string (S s)), isV (.int .i64 (j : Int)), isV (.int .i64 (j : Int)), isV (.int .i64 ((j : Int) + 1)), isV (.string (S [40])), isV (.string (S ((T ++ (List.replicate k1 32)) ++ [40]))), isV (.slice (some ⟨bb, ob, none⟩) m ct), isV (.int .i64 (j : Int)), isV (.slice (some ⟨bb, ob, none⟩) m ct), isV (.int .i64 (m : Int)), isV (.int .i64 (r : Int)), isV (.pointer (some ⟨bb, ob + r, none⟩)), isV (.int .u8 (b : Int)), isV (.int .u8 (k3 : Int)), isV (.int .u8 (k2 : Int)), isV (.int .i64 (k2 : Int)), isV (.string (S (List.replicate k2 32))), isV (.string (S (((T ++ (List.replicate k1 32)) ++ [40]) ++ (List.replicate k2 32))))] 30 _ rfl rfl rfl rfl 12 rfl rfl (stable_all (st_cons (isV_st _) (st_cons (isV_st _) (st_cons (isV_st _) (st_cons (isV_st _) (st_cons (isV_st _) (st_cons (isV_st _) (st_cons (isV_st _) (st_cons (isV_st _) (st_cons (isV_st _) (st_cons (isV_st _) (st_cons (isV_st _) (st_cons (isV_st _) (st_cons (isV_st _) (st_cons (isV_st _) (st_cons (isV_st _) (st_cons (isV_st _) (st_cons (isV_st _) (st_cons (isV_st _) (st_cons (isV_st _) (st_cons (isV_st _) (st_cons (isV_st _) (st_cons (isV_st _) (st_cons (isV_st _) (st_cons (isV_st _) (st_cons (isV_st _) (st_cons (isV_st _) (st_cons (isV_st _) (st_cons (isV_st _) (st_cons (isV_st _) (st_cons (isV_st _) (st_nil)))))))))))))))))))))))))))))))) rfl rfl ?_ ?_
          · exact ⟨⟨rfl, rfl, .inl ⟨(.inl rfl), fun a W9 K hd hb aw hk => wp_move (.inl rfl) (show a.eval (.tmp 8) = .string (S T) from hb 8 rfl) (hk _ _ rfl After.rfl)⟩⟩,
              ⟨rfl, rfl, .inl ⟨(.inl rfl), fun a W9 K hd hb aw hk => wp_move (.inl rfl) (show a.eval (.tmp 1) = .slice (some ⟨bb, ob, none⟩) m ct from hb 1 rfl) (hk _ _ rfl After.rfl)⟩⟩,
              ⟨rfl, rfl, .inl ⟨(.inl rfl), fun a W9 K hd hb aw hk => wp_move (.inl rfl) (show a.eval (.tmp 9) = .int .i64 (j : Int) from hb 9 rfl) (hk _ _ rfl After.rfl)⟩⟩,
              ⟨rfl, rfl, .inl ⟨(.inl rfl), fun a W9 K hd hb aw hk => wp_move (.inl rfl) (show a.eval (.tmp 1) = .slice (some ⟨bb, ob, none⟩) m ct from hb 1 rfl) (hk _ _ rfl After.rfl)⟩⟩,
              ⟨rfl, rfl, .inl ⟨(.inl rfl), fun a W9 K hd hb aw hk => wp_len rfl (hd 3 rfl) (lenBy _ _ _ _ _) (hk _ _ rfl After.rfl)⟩⟩,
              ⟨rfl, rfl, .inl ⟨(.inl rfl), fun a W9 K hd hb aw hk => wp_bin rfl (hd 2 rfl) (hd 4 rfl) (remI (by have := HK.out; omega) HR.out _ _ _) (hk _ _ rfl After.rfl)⟩⟩,
              ⟨rfl, rfl, .inl ⟨(.inl rfl), fun a W9 K hd hb aw hk => wp_index rfl (hd 1 rfl) (hd 5 rfl) (indexBy _ _ _ _ _ _ (by have := HK.out; omega)) (hk _ _ rfl After.rfl)⟩⟩,
              ⟨rfl, rfl, .inl ⟨(.inl rfl), fun a W9 K hd hb aw hk => wp_load rfl (hd 6 rfl) (loadBy ((aw.cell (cell_lt HBc.out) _).trans HBc.out)) (hk _ _ rfl After.rfl)⟩⟩,
              ⟨rfl, rfl, .inl ⟨(.inl rfl), fun a W9 K hd hb aw hk => wp_bin rfl (hd 7 rfl) rfl (rem3 HK.out.1 HK.out.2.1 _ _ _) (hk _ _ rfl After.rfl)⟩⟩,
              ⟨rfl, rfl, .inl ⟨(.inl rfl), fun a W9 K hd hb aw hk => wp_conv rfl (hd 8 rfl) (convI (by have := HK.out; omega) _) (hk _ _ rfl After.rfl)⟩⟩,
              ⟨rfl, rfl, .inl ⟨(.inl rfl), fun a W9 K hd hb aw hk => wp_func2 rfl enterRp rfl (hd 9 rfl) ((repB_any k1 (by have := HK.out; omega) _).mono (fun _ _ ⟨he, hA⟩ => ⟨_, he, hk _ _ rfl hA⟩))⟩⟩,
              ⟨rfl, rfl, .inl ⟨(.inl rfl), fun a W9 K hd hb aw hk => wp_bin rfl (hd 0 rfl) (hd 10 rfl) (addSt _ _ HTl.out (show (List.replicate k1 (32 : UInt8)).length ≤ 100 by rw [List.length_replicate]; have := HK.out; omega) rfl _ _ _) (hk _ _ rfl After.rfl)⟩⟩,
              ⟨rfl, rfl, .inl ⟨(.inl rfl), fun a W9 K hd hb aw hk => wp_move (.inl rfl) (show a.eval (.tmp 0) = .string (S s) from hb 0 rfl) (hk _ _ rfl After.rfl)⟩⟩,
              ⟨rfl, rfl, .inl ⟨(.inl rfl), fun a W9 K hd hb aw hk => wp_move (.inl rfl) (show a.eval (.tmp 9) = .int .i64 (j : Int) from hb 9 rfl) (hk _ _ rfl After.rfl)⟩⟩,
              ⟨rfl, rfl, .inl ⟨(.inl rfl), fun a W9 K hd hb aw hk => wp_move (.inl rfl) (show a.eval (.tmp 9) = .int .i64 (j : Int) from hb 9 rfl) (hk _ _ rfl After.rfl)⟩⟩,
              ⟨rfl, rfl, .inl ⟨(.inl rfl), fun a W9 K hd hb aw hk => wp_bin rfl (hd 14 rfl) rfl (addJ (by have := HJl.out; omega) _ _ _) (hk _ _ rfl After.rfl)⟩⟩,
              ⟨rfl, rfl, .inl ⟨(.inl rfl), fun a W9 K hd hb aw hk => wp_strcut rfl (hd 12 rfl) (hd 13 rfl) (hd 15 rfl) (cutBy HC.out _) (hk _ _ rfl After.rfl)⟩⟩,
              ⟨rfl, rfl, .inl ⟨(.inl rfl), fun a W9 K hd hb aw hk => wp_bin rfl (hd 11 rfl) (hd 16 rfl) (addSt _ _ (cat_le HTl.out (show (List.replicate k1 (32 : UInt8)).length ≤ 100 by rw [List.length_replicate]; have := HK.out; omega)) (Nat.le_of_ble_eq_true rfl : List.length (α := UInt8) [40] ≤ 1) rfl _ _ _) (hk _ _ rfl After.rfl)⟩⟩,
              ⟨rfl, rfl, .inl ⟨(.inl rfl), fun a W9 K hd hb aw hk => wp_move (.inl rfl) (show a.eval (.tmp 1) = .slice (some ⟨bb, ob, none⟩) m ct from hb 1 rfl) (hk _ _ rfl After.rfl)⟩⟩,
              ⟨rfl, rfl, .inl ⟨(.inl rfl), fun a W9 K hd hb aw hk => wp_move (.inl rfl) (show a.eval (.tmp 9) = .int .i64 (j : Int) from hb 9 rfl) (hk _ _ rfl After.rfl)⟩⟩,
              ⟨rfl, rfl, .inl ⟨(.inl rfl), fun a W9 K hd hb aw hk => wp_move (.inl rfl) (show a.eval (.tmp 1) = .slice (some ⟨bb, ob, none⟩) m ct from hb 1 rfl) (hk _ _ rfl After.rfl)⟩⟩,
              ⟨rfl, rfl, .inl ⟨(.inl rfl), fun a W9 K hd hb aw hk => wp_len rfl (hd 20 rfl) (lenBy _ _ _ _ _) (hk _ _ rfl After.rfl)⟩⟩,
              ⟨rfl, rfl, .inl ⟨(.inl rfl), fun a W9 K hd hb aw hk => wp_bin rfl (hd 19 rfl) (hd 21 rfl) (remI (by have := HK.out; omega) HR.out _ _ _) (hk _ _ rfl After.rfl)⟩⟩,
              ⟨rfl, rfl, .inl ⟨(.inl rfl), fun a W9 K hd hb aw hk => wp_index rfl (hd 18 rfl) (hd 22 rfl) (indexBy _ _ _ _ _ _ (by have := HK.out; omega)) (hk _ _ rfl After.rfl)⟩⟩,
              ⟨rfl, rfl, .inl ⟨(.inl rfl), fun a W9 K hd hb aw hk => wp_load rfl (hd 23 rfl) (loadBy ((aw.cell (cell_lt HBc.out) _).trans HBc.out)) (hk _ _ rfl After.rfl)⟩⟩,
              ⟨rfl, rfl, .inl ⟨(.inl rfl), fun a W9 K hd hb aw hk => wp_bin rfl (hd 24 rfl) rfl (quo3 HK.out.1 HK.out.2.2.2.2.1 _ _ _) (hk _ _ rfl After.rfl)⟩⟩,
              ⟨rfl, rfl, .inl ⟨(.inl rfl), fun a W9 K hd hb aw hk => wp_bin rfl (hd 25 rfl) rfl (rem2 HK.out.2.2.1 HK.out.2.2.2.1 _ _ _) (hk _ _ rfl After.rfl)⟩⟩,
              ⟨rfl, rfl, .inl ⟨(.inl rfl), fun a W9 K hd hb aw hk => wp_conv rfl (hd 26 rfl) (convI (by have := HK.out; omega) _) (hk _ _ rfl After.rfl)⟩⟩,
              ⟨rfl, rfl, .inl ⟨(.inl rfl), fun a W9 K hd hb aw hk => wp_func2 rfl enterRp rfl (hd 27 rfl) ((repB_any k2 (by have := HK.out; omega) _).mono (fun _ _ ⟨he, hA⟩ => ⟨_, he, hk _ _ rfl hA⟩))⟩⟩,
              ⟨rfl, rfl, .inl ⟨(.inl rfl), fun a W9 K hd hb aw hk => wp_bin rfl (hd 17 rfl) (hd 28 rfl) (addSt _ _ (cat_le (cat_le HTl.out (show (List.replicate k1 (32 : UInt8)).length ≤ 100 by rw [List.length_replicate]; have := HK.out; omega)) (Nat.le_of_ble_eq_true rfl : List.length (α := UInt8) [40] ≤ 1)) (show (List.replicate k2 (32 : UInt8)).length ≤ 100 by rw [List.length_replicate]; have := HK.out; omega) rfl _ _ _) (hk _ _ rfl After.rfl)⟩⟩,
              trivial⟩
          intro x9 w9 hx9 aw9 K9 hK9
          have t0 : x9 0 = .string (S T) := hx9 0 (Nat.le_of_ble_eq_true rfl)
          have t1 : x9 1 = .slice (some ⟨bb, ob, none⟩) m ct := hx9 1 (Nat.le_of_ble_eq_true rfl)
          have t2 : x9 2 = .int .i64 (j : Int) := hx9 2 (Nat.le_of_ble_eq_true rfl)
          have t3 : x9 3 = .slice (some ⟨bb, ob, none⟩) m ct := hx9 3 (Nat.le_of_ble_eq_true rfl)
          have t4 : x9 4 = .int .i64 (m : Int) := hx9 4 (Nat.le_of_ble_eq_true rfl)
          have t5 : x9 5 = .int .i64 (r : Int) := hx9 5 (Nat.le_of_ble_eq_true rfl)
          have t6 : x9 6 = .pointer (some ⟨bb, ob + r, none⟩) := hx9 6 (Nat.le_of_ble_eq_true rfl)
          have t7 : x9 7 = .int .u8 (b : Int) := hx9 7 (Nat.le_of_ble_eq_true rfl)
          have t8 : x9 8 = .int .u8 (k1 : Int) := hx9 8 (Nat.le_of_ble_eq_true rfl)
          have t9 : x9 9 = .int .i64 (k1 : Int) := hx9 9 (Nat.le_of_ble_eq_true rfl)
          have t10 : x9 10 = .string (S (List.replicate k1 32)) := hx9 10 (Nat.le_of_ble_eq_true rfl)
          have t11 : x9 11 = .string (S (T ++ (List.replicate k1 32))) := hx9 11 (Nat.le_of_ble_eq_true rfl)
          have t12 : x9 12 = .string (S s) := hx9 12 (Nat.le_of_ble_eq_true rfl)
          have t13 : x9 13 = .int .i64 (j : Int) := hx9 13 (Nat.le_of_ble_eq_true rfl)
          have t14 : x9 14 = .int .i64 (j : Int) := hx9 14 (Nat.le_of_ble_eq_true rfl)
          have t15 : x9 15 = .int .i64 ((j : Int) + 1) := hx9 15 (Nat.le_of_ble_eq_true rfl)
          have t16 : x9 16 = .string (S [40]) := hx9 16 (Nat.le_of_ble_eq_true rfl)
          have t17 : x9 17 = .string (S ((T ++ (List.replicate k1 32)) ++ [40])) := hx9 17 (Nat.le_of_ble_eq_true rfl)
          have t18 : x9 18 = .slice (some ⟨bb, ob, none⟩) m ct := hx9 18 (Nat.le_of_ble_eq_true rfl)
          have t19 : x9 19 = .int .i64 (j : Int) := hx9 19 (Nat.le_of_ble_eq_true rfl)
          have t20 : x9 20 = .slice (some ⟨bb, ob, none⟩) m ct := hx9 20 (Nat.le_of_ble_eq_true rfl)
          have t21 : x9 21 = .int .i64 (m : Int) := hx9 21 (Nat.le_of_ble_eq_true rfl)
          have t22 : x9 22 = .int .i64 (r : Int) := hx9 22 (Nat.le_of_ble_eq_true rfl)
          have t23 : x9 23 = .pointer (some ⟨bb, ob + r, none⟩) := hx9 23 (Nat.le_of_ble_eq_true rfl)
          have t24 : x9 24 = .int .u8 (b : Int) := hx9 24 (Nat.le_of_ble_eq_true rfl)
          have t25 : x9 25 = .int .u8 (k3 : Int) := hx9 25 (Nat.le_of_ble_eq_true rfl)
          have t26 : x9 26 = .int .u8 (k2 : Int) := hx9 26 (Nat.le_of_ble_eq_true rfl)
          have t27 : x9 27 = .int .i64 (k2 : Int) := hx9 27 (Nat.le_of_ble_eq_true rfl)
          have t28 : x9 28 = .string (S (List.replicate k2 32)) := hx9 28 (Nat.le_of_ble_eq_true rfl)
          have t29 : x9 29 = .string (S (((T ++ (List.replicate k1 32)) ++ [40]) ++ (List.replicate k2 32))) := hx9 29 (Nat.le_of_ble_eq_true rfl)
          simp only [sets, List.getD_cons_succ, List.getD_cons_zero, List.set_cons_succ, List.set_cons_zero, t0, t1, t2, t3, t4, t5, t6, t7, t8, t9, t10, t11, t12, t13, t14, t15, t16, t17, t18, t19, t20, t21, t22, t23, t24, t25, t26, t27, t28, t29]
          clear hx9 t0 t1 t2 t3 t4 t5 t6 t7 t8 t9 t10 t11 t12 t13 t14 t15 t16 t17 t18 t19 t20 t21 t22 t23 t24 t25 t26 t27 t28 t29 x9
          refine wp_move (.inr rfl) rfl (hK9 _ _ ?_)
          clear hK9
          have HW9 := hideIt (HAw.out.trans aw9)
          clear aw9
          obtain ⟨T2, hT2⟩ : ∃ T2, T2 = (((T ++ (List.replicate k1 32)) ++ [40]) ++ (List.replicate k2 32)) := ⟨_, rfl⟩
          rw [← hT2]
          have HT2 := hideIt hT2
          clear hT2
          go_wp2_with fail
          go_roundw
          case rel =>
            refine ⟨j + 1, by omega, by go_num, ?_, HW9.out⟩
            rw [HT2.out, wide_take HC.out, if_pos (by decide), ← HT.out, ← HBy1.out.1, ← HBy1.out.2]
            congr 2
            simp
          case measure => simp [intOf]; omega
        · have HC := hideIt hc
          have HB := hideIt hb
          have hbb := hb
          clear hc hb
          go_upto_region 11 with fail
          refine region_lastG (by kernel_rfl) [67, 68, 69, 70, 71, 72, 73, 74, 75, 76, 77, 78, 79, 80, 81, 82, 83, 84, 85, 86, 87, 88, 89, 90, 91, 92, 93, 94, 95, 96] [isV (.string (S T)), isV (.slice (some ⟨bb, ob, none⟩) m ct), isV (.int .i64 (j : Int)), isV (.slice (some ⟨bb, ob, none⟩) m ct), isV (.int .i64 (m : Int)), isV (.int .i64 (r : Int)), isV (.pointer (some ⟨bb, ob + r, none⟩)), isV (.int .u8 (b : Int)), isV (.int .u8 (k1 : Int)), isV (.int .i64 (k1 : Int)), isV (.string (S (List.replicate k1 32))), isV (.string (S (T ++ (List.replicate k1 32)))), isV (.string (S s)), isV (.int .i64 (j : Int)), isV (.int .i64 (j : Int)), isV (.int .i64 ((j : Int) + 1)), isV (.string (S [41])), isV (.string (S ((T ++ (List.replicate k1 32)) ++ [41]))), isV (.slice (some ⟨bb, ob, none⟩) m ct), isV (.int .i64 (j : Int)), isV (.slice (some ⟨bb, ob, none⟩) m ct), isV (.int .i64 (m : Int)), isV (.int .i64 (r : Int)), isV (.pointer (some ⟨bb, ob + r, none⟩)), isV (.int .u8 (b : Int)), isV (.int .u8 (k3 : Int)), isV (.int .u8 (k2 : Int)), isV (.int .i64 (k2 : Int)), isV (.string (S (List.replicate k2 32))), isV (.string (S (((T ++ (List.replicate k1 32)) ++ [41]) ++ (List.replicate k2 32))))] 30 _ rfl rfl rfl rfl 12 rfl rfl (stable_all (st_cons (isV_st _) (st_cons (isV_st _) (st_cons (isV_st _) (st_cons (isV_st _) (st_cons (isV_st _) (st_cons (isV_st _) (st_cons (isV_st _) (st_cons (isV_st _) (st_cons (isV_st _) (st_cons (isV_st _) (st_cons (isV_st _) (st_cons (isV_st _) (st_cons (isV_st _) (st_cons (isV_st _) (st_cons (isV_st _) (st_cons (isV_st _) (st_cons (isV_st _) (st_cons (isV_st _) (st_cons (isV_st _) (st_cons (isV_st _) (st_cons (isV_st _) (st_cons (isV_st _) (st_cons (isV_st _) (st_cons (isV_st _) (st_cons (isV_st _) (st_cons (isV_st _) (st_cons (isV_st _) (st_cons (isV_st _) (st_cons (isV_st _) (st_cons (isV_st _) (st_nil)))))))))))))))))))))))))))))))) rfl rfl ?_ ?_
          · exact ⟨⟨rfl, rfl, .inl ⟨(.inl rfl), fun a W9 K hd hb aw hk => wp_move (.inl rfl) (show a.eval (.tmp 8) = .string (S T) from hb 8 rfl) (hk _ _ rfl After.rfl)⟩⟩,
              ⟨rfl, rfl, .inl ⟨(.inl rfl), fun a W9 K hd hb aw hk => wp_move (.inl rfl) (show a.eval (.tmp 1) = .slice (some ⟨bb, ob, none⟩) m ct from hb 1 rfl) (hk _ _ rfl After.rfl)⟩⟩,
              ⟨rfl, rfl, .inl ⟨(.inl rfl), fun a W9 K hd hb aw hk => wp_move (.inl rfl) (show a.eval (.tmp 9) = .int .i64 (j : Int) from hb 9 rfl) (hk _ _ rfl After.rfl)⟩⟩,
              ⟨rfl, rfl, .inl ⟨(.inl rfl), fun a W9 K hd hb aw hk => wp_move (.inl rfl) (show a.eval (.tmp 1) = .slice (some ⟨bb, ob, none⟩) m ct from hb 1 rfl) (hk _ _ rfl After.rfl)⟩⟩,
              ⟨rfl, rfl, .inl ⟨(.inl rfl), fun a W9 K hd hb aw hk => wp_len rfl (hd 3 rfl) (lenBy _ _ _ _ _) (hk _ _ rfl After.rfl)⟩⟩,
              ⟨rfl, rfl, .inl ⟨(.inl rfl), fun a W9 K hd hb aw hk => wp_bin rfl (hd 2 rfl) (hd 4 rfl) (remI (by have := HK.out; omega) HR.out _ _ _) (hk _ _ rfl After.rfl)⟩⟩,
              ⟨rfl, rfl, .inl ⟨(.inl rfl), fun a W9 K hd hb aw hk => wp_index rfl (hd 1 rfl) (hd 5 rfl) (indexBy _ _ _ _ _ _ (by have := HK.out; omega)) (hk _ _ rfl After.rfl)⟩⟩,
              ⟨rfl, rfl, .inl ⟨(.inl rfl), fun a W9 K hd hb aw hk => wp_load rfl (hd 6 rfl) (loadBy ((aw.cell (cell_lt HBc.out) _).trans HBc.out)) (hk _ _ rfl After.rfl)⟩⟩,
              ⟨rfl, rfl, .inl ⟨(.inl rfl), fun a W9 K hd hb aw hk => wp_bin rfl (hd 7 rfl) rfl (rem3 HK.out.1 HK.out.2.1 _ _ _) (hk _ _ rfl After.rfl)⟩⟩,
              ⟨rfl, rfl, .inl ⟨(.inl rfl), fun a W9 K hd hb aw hk => wp_conv rfl (hd 8 rfl) (convI (by have := HK.out; omega) _) (hk _ _ rfl After.rfl)⟩⟩,
              ⟨rfl, rfl, .inl ⟨(.inl rfl), fun a W9 K hd hb aw hk => wp_func2 rfl enterRp rfl (hd 9 rfl) ((repB_any k1 (by have := HK.out; omega) _).mono (fun _ _ ⟨he, hA⟩ => ⟨_, he, hk _ _ rfl hA⟩))⟩⟩,
              ⟨rfl, rfl, .inl ⟨(.inl rfl), fun a W9 K hd hb aw hk => wp_bin rfl (hd 0 rfl) (hd 10 rfl) (addSt _ _ HTl.out (show (List.replicate k1 (32 : UInt8)).length ≤ 100 by rw [List.length_replicate]; have := HK.out; omega) rfl _ _ _) (hk _ _ rfl After.rfl)⟩⟩,
              ⟨rfl, rfl, .inl ⟨(.inl rfl), fun a W9 K hd hb aw hk => wp_move (.inl rfl) (show a.eval (.tmp 0) = .string (S s) from hb 0 rfl) (hk _ _ rfl After.rfl)⟩⟩,
              ⟨rfl, rfl, .inl ⟨(.inl rfl), fun a W9 K hd hb aw hk => wp_move (.inl rfl) (show a.eval (.tmp 9) = .int .i64 (j : Int) from hb 9 rfl) (hk _ _ rfl After.rfl)⟩⟩,
              ⟨rfl, rfl, .inl ⟨(.inl rfl), fun a W9 K hd hb aw hk => wp_move (.inl rfl) (show a.eval (.tmp 9) = .int .i64 (j : Int) from hb 9 rfl) (hk _ _ rfl After.rfl)⟩⟩,
              ⟨rfl, rfl, .inl ⟨(.inl rfl), fun a W9 K hd hb aw hk => wp_bin rfl (hd 14 rfl) rfl (addJ (by have := HJl.out; omega) _ _ _) (hk _ _ rfl After.rfl)⟩⟩,
              ⟨rfl, rfl, .inl ⟨(.inl rfl), fun a W9 K hd hb aw hk => wp_strcut rfl (hd 12 rfl) (hd 13 rfl) (hd 15 rfl) (cutBy HC.out _) (hk _ _ rfl After.rfl)⟩⟩,
              ⟨rfl, rfl, .inl ⟨(.inl rfl), fun a W9 K hd hb aw hk => wp_bin rfl (hd 11 rfl) (hd 16 rfl) (addSt _ _ (cat_le HTl.out (show (List.replicate k1 (32 : UInt8)).length ≤ 100 by rw [List.length_replicate]; have := HK.out; omega)) (Nat.le_of_ble_eq_true rfl : List.length (α := UInt8) [41] ≤ 1) rfl _ _ _) (hk _ _ rfl After.rfl)⟩⟩,
              ⟨rfl, rfl, .inl ⟨(.inl rfl), fun a W9 K hd hb aw hk => wp_move (.inl rfl) (show a.eval (.tmp 1) = .slice (some ⟨bb, ob, none⟩) m ct from hb 1 rfl) (hk _ _ rfl After.rfl)⟩⟩,
              ⟨rfl, rfl, .inl ⟨(.inl rfl), fun a W9 K hd hb aw hk => wp_move (.inl rfl) (show a.eval (.tmp 9) = .int .i64 (j : Int) from hb 9 rfl) (hk _ _ rfl After.rfl)⟩⟩,
              ⟨rfl, rfl, .inl ⟨(.inl rfl), fun a W9 K hd hb aw hk => wp_move (.inl rfl) (show a.eval (.tmp 1) = .slice (some ⟨bb, ob, none⟩) m ct from hb 1 rfl) (hk _ _ rfl After.rfl)⟩⟩,
              ⟨rfl, rfl, .inl ⟨(.inl rfl), fun a W9 K hd hb aw hk => wp_len rfl (hd 20 rfl) (lenBy _ _ _ _ _) (hk _ _ rfl After.rfl)⟩⟩,
              ⟨rfl, rfl, .inl ⟨(.inl rfl), fun a W9 K hd hb aw hk => wp_bin rfl (hd 19 rfl) (hd 21 rfl) (remI (by have := HK.out; omega) HR.out _ _ _) (hk _ _ rfl After.rfl)⟩⟩,
              ⟨rfl, rfl, .inl ⟨(.inl rfl), fun a W9 K hd hb aw hk => wp_index rfl (hd 18 rfl) (hd 22 rfl) (indexBy _ _ _ _ _ _ (by have := HK.out; omega)) (hk _ _ rfl After.rfl)⟩⟩,
              ⟨rfl, rfl, .inl ⟨(.inl rfl), fun a W9 K hd hb aw hk => wp_load rfl (hd 23 rfl) (loadBy ((aw.cell (cell_lt HBc.out) _).trans HBc.out)) (hk _ _ rfl After.rfl)⟩⟩,
              ⟨rfl, rfl, .inl ⟨(.inl rfl), fun a W9 K hd hb aw hk => wp_bin rfl (hd 24 rfl) rfl (quo3 HK.out.1 HK.out.2.2.2.2.1 _ _ _) (hk _ _ rfl After.rfl)⟩⟩,
              ⟨rfl, rfl, .inl ⟨(.inl rfl), fun a W9 K hd hb aw hk => wp_bin rfl (hd 25 rfl) rfl (rem2 HK.out.2.2.1 HK.out.2.2.2.1 _ _ _) (hk _ _ rfl After.rfl)⟩⟩,
              ⟨rfl, rfl, .inl ⟨(.inl rfl), fun a W9 K hd hb aw hk => wp_conv rfl (hd 26 rfl) (convI (by have := HK.out; omega) _) (hk _ _ rfl After.rfl)⟩⟩,
              ⟨rfl, rfl, .inl ⟨(.inl rfl), fun a W9 K hd hb aw hk => wp_func2 rfl enterRp rfl (hd 27 rfl) ((repB_any k2 (by have := HK.out; omega) _).mono (fun _ _ ⟨he, hA⟩ => ⟨_, he, hk _ _ rfl hA⟩))⟩⟩,
              ⟨rfl, rfl, .inl ⟨(.inl rfl), fun a W9 K hd hb aw hk => wp_bin rfl (hd 17 rfl) (hd 28 rfl) (addSt _ _ (cat_le (cat_le HTl.out (show (List.replicate k1 (32 : UInt8)).length ≤ 100 by rw [List.length_replicate]; have := HK.out; omega)) (Nat.le_of_ble_eq_true rfl : List.length (α := UInt8) [41] ≤ 1)) (show (List.replicate k2 (32 : UInt8)).length ≤ 100 by rw [List.length_replicate]; have := HK.out; omega) rfl _ _ _) (hk _ _ rfl After.rfl)⟩⟩,
              trivial⟩
          intro x9 w9 hx9 aw9 K9 hK9
          have t0 : x9 0 = .string (S T) := hx9 0 (Nat.le_of_ble_eq_true rfl)
          have t1 : x9 1 = .slice (some ⟨bb, ob, none⟩) m ct := hx9 1 (Nat.le_of_ble_eq_true rfl)
          have t2 : x9 2 = .int .i64 (j : Int) := hx9 2 (Nat.le_of_ble_eq_true rfl)
          have t3 : x9 3 = .slice (some ⟨bb, ob, none⟩) m ct := hx9 3 (Nat.le_of_ble_eq_true rfl)
          have t4 : x9 4 = .int .i64 (m : Int) := hx9 4 (Nat.le_of_ble_eq_true rfl)
          have t5 : x9 5 = .int .i64 (r : Int) := hx9 5 (Nat.le_of_ble_eq_true rfl)
          have t6 : x9 6 = .pointer (some ⟨bb, ob + r, none⟩) := hx9 6 (Nat.le_of_ble_eq_true rfl)
          have t7 : x9 7 = .int .u8 (b : Int) := hx9 7 (Nat.le_of_ble_eq_true rfl)
          have t8 : x9 8 = .int .u8 (k1 : Int) := hx9 8 (Nat.le_of_ble_eq_true rfl)
          have t9 : x9 9 = .int .i64 (k1 : Int) := hx9 9 (Nat.le_of_ble_eq_true rfl)
          have t10 : x9 10 = .string (S (List.replicate k1 32)) := hx9 10 (Nat.le_of_ble_eq_true rfl)
          have t11 : x9 11 = .string (S (T ++ (List.replicate k1 32))) := hx9 11 (Nat.le_of_ble_eq_true rfl)
          have t12 : x9 12 = .string (S s) := hx9 12 (Nat.le_of_ble_eq_true rfl)
          have t13 : x9 13 = .int .i64 (j : Int) := hx9 13 (Nat.le_of_ble_eq_true rfl)
          have t14 : x9 14 = .int .i64 (j : Int) := hx9 14 (Nat.le_of_ble_eq_true rfl)
          have t15 : x9 15 = .int .i64 ((j : Int) + 1) := hx9 15 (Nat.le_of_ble_eq_true rfl)
          have t16 : x9 16 = .string (S [41]) := hx9 16 (Nat.le_of_ble_eq_true rfl)
          have t17 : x9 17 = .string (S ((T ++ (List.replicate k1 32)) ++ [41])) := hx9 17 (Nat.le_of_ble_eq_true rfl)
          have t18 : x9 18 = .slice (some ⟨bb, ob, none⟩) m ct := hx9 18 (Nat.le_of_ble_eq_true rfl)
          have t19 : x9 19 = .int .i64 (j : Int) := hx9 19 (Nat.le_of_ble_eq_true rfl)
          have t20 : x9 20 = .slice (some ⟨bb, ob, none⟩) m ct := hx9 20 (Nat.le_of_ble_eq_true rfl)
          have t21 : x9 21 = .int .i64 (m : Int) := hx9 21 (Nat.le_of_ble_eq_true rfl)
          have t22 : x9 22 = .int .i64 (r : Int) := hx9 22 (Nat.le_of_ble_eq_true rfl)
          have t23 : x9 23 = .pointer (some ⟨bb, ob + r, none⟩) := hx9 23 (Nat.le_of_ble_eq_true rfl)
          have t24 : x9 24 = .int .u8 (b : Int) := hx9 24 (Nat.le_of_ble_eq_true rfl)
          have t25 : x9 25 = .int .u8 (k3 : Int) := hx9 25 (Nat.le_of_ble_eq_true rfl)
          have t26 : x9 26 = .int .u8 (k2 : Int) := hx9 26 (Nat.le_of_ble_eq_true rfl)
          have t27 : x9 27 = .int .i64 (k2 : Int) := hx9 27 (Nat.le_of_ble_eq_true rfl)
          have t28 : x9 28 = .string (S (List.replicate k2 32)) := hx9 28 (Nat.le_of_ble_eq_true rfl)
          have t29 : x9 29 = .string (S (((T ++ (List.replicate k1 32)) ++ [41]) ++ (List.replicate k2 32))) := hx9 29 (Nat.le_of_ble_eq_true rfl)
          simp only [sets, List.getD_cons_succ, List.getD_cons_zero, List.set_cons_succ, List.set_cons_zero, t0, t1, t2, t3, t4, t5, t6, t7, t8, t9, t10, t11, t12, t13, t14, t15, t16, t17, t18, t19, t20, t21, t22, t23, t24, t25, t26, t27, t28, t29]
          clear hx9 t0 t1 t2 t3 t4 t5 t6 t7 t8 t9 t10 t11 t12 t13 t14 t15 t16 t17 t18 t19 t20 t21 t22 t23 t24 t25 t26 t27 t28 t29 x9
          refine wp_move (.inr rfl) rfl (hK9 _ _ ?_)
          clear hK9
          have HW9 := hideIt (HAw.out.trans aw9)
          clear aw9
          obtain ⟨T2, hT2⟩ : ∃ T2, T2 = (((T ++ (List.replicate k1 32)) ++ [41]) ++ (List.replicate k2 32)) := ⟨_, rfl⟩
          rw [← hT2]
          have HT2 := hideIt hT2
          clear hT2
          go_wp2_with fail
          go_roundw
          case rel =>
            refine ⟨j + 1, by omega, by go_num, ?_, HW9.out⟩
            rw [HT2.out, wide_take HC.out, if_pos (by decide), ← HT.out, ← HBy1.out.1, ← HBy1.out.2]
            congr 2
            simp
          case measure => simp [intOf]; omega
        · have HC := hideIt hc
          have HB := hideIt hb
          have hbb := hb
          clear hc hb
          go_upto_region 11 with fail
          refine region_lastG (by kernel_rfl) [67, 68, 69, 70, 71, 72, 73, 74, 75, 76, 77, 78, 79, 80, 81, 82, 83, 84, 85, 86, 87, 88, 89, 90, 91, 92, 93, 94, 95, 96] [isV (.string (S T)), isV (.slice (some ⟨bb, ob, none⟩) m ct), isV (.int .i64 (j : Int)), isV (.slice (some ⟨bb, ob, none⟩) m ct), isV (.int .i64 (m : Int)), isV (.int .i64 (r : Int)), isV (.pointer (some ⟨bb, ob + r, none⟩)), isV (.int .u8 (b : Int)), isV (.int .u8 (k1 : Int)), isV (.int .i64 (k1 : Int)), isV (.string (S (List.replicate k1 32))), isV (.string (S (T ++ (List.replicate k1 32)))), isV (.string (S s)), isV (.int .i64 (j : Int)), isV (.int .i64 (j : Int)), isV (.int .i64 ((j : Int) + 1)), isV (.string (S [62])), isV (.string (S ((T ++ (List.replicate k1 32)) ++ [62]))), isV (.slice (some ⟨bb, ob, none⟩) m ct), isV (.int .i64 (j : Int)), isV (.slice (some ⟨bb, ob, none⟩) m ct), isV (.int .i64 (m : Int)), isV (.int .i64 (r : Int)), isV (.pointer (some ⟨bb, ob + r, none⟩)), isV (.int .u8 (b : Int)), isV (.int .u8 (k3 : Int)), isV (.int .u8 (k2 : Int)), isV (.int .i64 (k2 : Int)), isV (.string (S (List.replicate k2 32))), isV (.string (S (((T ++ (List.replicate k1 32)) ++ [62]) ++ (List.replicate k2 32))))] 30 _ rfl rfl rfl rfl 12 rfl rfl (stable_all (st_cons (isV_st _) (st_cons (isV_st _) (st_cons (isV_st _) (st_cons (isV_st _) (st_cons (isV_st _) (st_cons (isV_st _) (st_cons (isV_st _) (st_cons (isV_st _) (st_cons (isV_st _) (st_cons (isV_st _) (st_cons (isV_st _) (st_cons (isV_st _) (st_cons (isV_st _) (st_cons (isV_st _) (st_cons (isV_st _) (st_cons (isV_st _) (st_cons (isV_st _) (st_cons (isV_st _) (st_cons (isV_st _) (st_cons (isV_st _) (st_cons (isV_st _) (st_cons (isV_st _) (st_cons (isV_st _) (st_cons (isV_st _) (st_cons (isV_st _) (st_cons (isV_st _) (st_cons (isV_st _) (st_cons (isV_st _) (st_cons (isV_st _) (st_cons (isV_st _) (st_nil)))))))))))))))))))))))))))))))) rfl rfl ?_ ?_
          · exact ⟨⟨rfl, rfl, .inl ⟨(.inl rfl), fun a W9 K hd hb aw hk => wp_move (.inl rfl) (show a.eval (.tmp 8) = .string (S T) from hb 8 rfl) (hk _ _ rfl After.rfl)⟩⟩,
              ⟨rfl, rfl, .inl ⟨(.inl rfl), fun a W9 K hd hb aw hk => wp_move (.inl rfl) (show a.eval (.tmp 1) = .slice (some ⟨bb, ob, none⟩) m ct from hb 1 rfl) (hk _ _ rfl After.rfl)⟩⟩,
              ⟨rfl, rfl, .inl ⟨(.inl rfl), fun a W9 K hd hb aw hk => wp_move (.inl rfl) (show a.eval (.tmp 9) = .int .i64 (j : Int) from hb 9 rfl) (hk _ _ rfl After.rfl)⟩⟩,
              ⟨rfl, rfl, .inl ⟨(.inl rfl), fun a W9 K hd hb aw hk => wp_move (.inl rfl) (show a.eval (.tmp 1) = .slice (some ⟨bb, ob, none⟩) m ct from hb 1 rfl) (hk _ _ rfl After.rfl)⟩⟩,
              ⟨rfl, rfl, .inl ⟨(.inl rfl), fun a W9 K hd hb aw hk => wp_len rfl (hd 3 rfl) (lenBy _ _ _ _ _) (hk _ _ rfl After.rfl)⟩⟩,
              ⟨rfl, rfl, .inl ⟨(.inl rfl), fun a W9 K hd hb aw hk => wp_bin rfl (hd 2 rfl) (hd 4 rfl) (remI (by have := HK.out; omega) HR.out _ _ _) (hk _ _ rfl After.rfl)⟩⟩,
              ⟨rfl, rfl, .inl ⟨(.inl rfl), fun a W9 K hd hb aw hk => wp_index rfl (hd 1 rfl) (hd 5 rfl) (indexBy _ _ _ _ _ _ (by have := HK.out; omega)) (hk _ _ rfl After.rfl)⟩⟩,
              ⟨rfl, rfl, .inl ⟨(.inl rfl), fun a W9 K hd hb aw hk => wp_load rfl (hd 6 rfl) (loadBy ((aw.cell (cell_lt HBc.out) _).trans HBc.out)) (hk _ _ rfl After.rfl)⟩⟩,
              ⟨rfl, rfl, .inl ⟨(.inl rfl), fun a W9 K hd hb aw hk => wp_bin rfl (hd 7 rfl) rfl (rem3 HK.out.1 HK.out.2.1 _ _ _) (hk _ _ rfl After.rfl)⟩⟩,
              ⟨rfl, rfl, .inl ⟨(.inl rfl), fun a W9 K hd hb aw hk => wp_conv rfl (hd 8 rfl) (convI (by have := HK.out; omega) _) (hk _ _ rfl After.rfl)⟩⟩,
              ⟨rfl, rfl, .inl ⟨(.inl rfl), fun a W9 K hd hb aw hk => wp_func2 rfl enterRp rfl (hd 9 rfl) ((repB_any k1 (by have := HK.out; omega) _).mono (fun _ _ ⟨he, hA⟩ => ⟨_, he, hk _ _ rfl hA⟩))⟩⟩,
              ⟨rfl, rfl, .inl ⟨(.inl rfl), fun a W9 K hd hb aw hk => wp_bin rfl (hd 0 rfl) (hd 10 rfl) (addSt _ _ HTl.out (show (List.replicate k1 (32 : UInt8)).length ≤ 100 by rw [List.length_replicate]; have := HK.out; omega) rfl _ _ _) (hk _ _ rfl After.rfl)⟩⟩,
              ⟨rfl, rfl, .inl ⟨(.inl rfl), fun a W9 K hd hb aw hk => wp_move (.inl rfl) (show a.eval (.tmp 0) = .string (S s) from hb 0 rfl) (hk _ _ rfl After.rfl)⟩⟩,
              ⟨rfl, rfl, .inl ⟨(.inl rfl), fun a W9 K hd hb aw hk => wp_move (.inl rfl) (show a.eval (.tmp 9) = .int .i64 (j : Int) from hb 9 rfl) (hk _ _ rfl After.rfl)⟩⟩,
              ⟨rfl, rfl, .inl ⟨(.inl rfl), fun a W9 K hd hb aw hk => wp_move (.inl rfl) (show a.eval (.tmp 9) = .int .i64 (j : Int) from hb 9 rfl) (hk _ _ rfl After.rfl)⟩⟩,
              ⟨rfl, rfl, .inl ⟨(.inl rfl), fun a W9 K hd hb aw hk => wp_bin rfl (hd 14 rfl) rfl (addJ (by have := HJl.out; omega) _ _ _) (hk _ _ rfl After.rfl)⟩⟩,
              ⟨rfl, rfl, .inl ⟨(.inl rfl), fun a W9 K hd hb aw hk => wp_strcut rfl (hd 12 rfl) (hd 13 rfl) (hd 15 rfl) (cutBy HC.out _) (hk _ _ rfl After.rfl)⟩⟩,
              ⟨rfl, rfl, .inl ⟨(.inl rfl), fun a W9 K hd hb aw hk => wp_bin rfl (hd 11 rfl) (hd 16 rfl) (addSt _ _ (cat_le HTl.out (show (List.replicate k1 (32 : UInt8)).length ≤ 100 by rw [List.length_replicate]; have := HK.out; omega)) (Nat.le_of_ble_eq_true rfl : List.length (α := UInt8) [62] ≤ 1) rfl _ _ _) (hk _ _ rfl After.rfl)⟩⟩,
              ⟨rfl, rfl, .inl ⟨(.inl rfl), fun a W9 K hd hb aw hk => wp_move (.inl rfl) (show a.eval (.tmp 1) = .slice (some ⟨bb, ob, none⟩) m ct from hb 1 rfl) (hk _ _ rfl After.rfl)⟩⟩,
              ⟨rfl, rfl, .inl ⟨(.inl rfl), fun a W9 K hd hb aw hk => wp_move (.inl rfl) (show a.eval (.tmp 9) = .int .i64 (j : Int) from hb 9 rfl) (hk _ _ rfl After.rfl)⟩⟩,
              ⟨rfl, rfl, .inl ⟨(.inl rfl), fun a W9 K hd hb aw hk => wp_move (.inl rfl) (show a.eval (.tmp 1) = .slice (some ⟨bb, ob, none⟩) m ct from hb 1 rfl) (hk _ _ rfl After.rfl)⟩⟩,
              ⟨rfl, rfl, .inl ⟨(.inl rfl), fun a W9 K hd hb aw hk => wp_len rfl (hd 20 rfl) (lenBy _ _ _ _ _) (hk _ _ rfl After.rfl)⟩⟩,
              ⟨rfl, rfl, .inl ⟨(.inl rfl), fun a W9 K hd hb aw hk => wp_bin rfl (hd 19 rfl) (hd 21 rfl) (remI (by have := HK.out; omega) HR.out _ _ _) (hk _ _ rfl After.rfl)⟩⟩,
              ⟨rfl, rfl, .inl ⟨(.inl rfl), fun a W9 K hd hb aw hk => wp_index rfl (hd 18 rfl) (hd 22 rfl) (indexBy _ _ _ _ _ _ (by have := HK.out; omega)) (hk _ _ rfl After.rfl)⟩⟩,
              ⟨rfl, rfl, .inl ⟨(.inl rfl), fun a W9 K hd hb aw hk => wp_load rfl (hd 23 rfl) (loadBy ((aw.cell (cell_lt HBc.out) _).trans HBc.out)) (hk _ _ rfl After.rfl)⟩⟩,
              ⟨rfl, rfl, .inl ⟨(.inl rfl), fun a W9 K hd hb aw hk => wp_bin rfl (hd 24 rfl) rfl (quo3 HK.out.1 HK.out.2.2.2.2.1 _ _ _) (hk _ _ rfl After.rfl)⟩⟩,
              ⟨rfl, rfl, .inl ⟨(.inl rfl), fun a W9 K hd hb aw hk => wp_bin rfl (hd 25 rfl) rfl (rem2 HK.out.2.2.1 HK.out.2.2.2.1 _ _ _) (hk _ _ rfl After.rfl)⟩⟩,
              ⟨rfl, rfl, .inl ⟨(.inl rfl), fun a W9 K hd hb aw hk => wp_conv rfl (hd 26 rfl) (convI (by have := HK.out; omega) _) (hk _ _ rfl After.rfl)⟩⟩,
              ⟨rfl, rfl, .inl ⟨(.inl rfl), fun a W9 K hd hb aw hk => wp_func2 rfl enterRp rfl (hd 27 rfl) ((repB_any k2 (by have := HK.out; omega) _).mono (fun _ _ ⟨he, hA⟩ => ⟨_, he, hk _ _ rfl hA⟩))⟩⟩,
              ⟨rfl, rfl, .inl ⟨(.inl rfl), fun a W9 K hd hb aw hk => wp_bin rfl (hd 17 rfl) (hd 28 rfl) (addSt _ _ (cat_le (cat_le HTl.out (show (List.replicate k1 (32 : UInt8)).length ≤ 100 by rw [List.length_replicate]; have := HK.out; omega)) (Nat.le_of_ble_eq_true rfl : List.length (α := UInt8) [62] ≤ 1)) (show (List.replicate k2 (32 : UInt8)).length ≤ 100 by rw [List.length_replicate]; have := HK.out; omega) rfl _ _ _) (hk _ _ rfl After.rfl)⟩⟩,
              trivial⟩
          intro x9 w9 hx9 aw9 K9 hK9
          have t0 : x9 0 = .string (S T) := hx9 0 (Nat.le_of_ble_eq_true rfl)
          have t1 : x9 1 = .slice (some ⟨bb, ob, none⟩) m ct := hx9 1 (Nat.le_of_ble_eq_true rfl)
          have t2 : x9 2 = .int .i64 (j : Int) := hx9 2 (Nat.le_of_ble_eq_true rfl)
          have t3 : x9 3 = .slice (some ⟨bb, ob, none⟩) m ct := hx9 3 (Nat.le_of_ble_eq_true rfl)
          have t4 : x9 4 = .int .i64 (m : Int) := hx9 4 (Nat.le_of_ble_eq_true rfl)
          have t5 : x9 5 = .int .i64 (r : Int) := hx9 5 (Nat.le_of_ble_eq_true rfl)
          have t6 : x9 6 = .pointer (some ⟨bb, ob + r, none⟩) := hx9 6 (Nat.le_of_ble_eq_true rfl)
          have t7 : x9 7 = .int .u8 (b : Int) := hx9 7 (Nat.le_of_ble_eq_true rfl)
          have t8 : x9 8 = .int .u8 (k1 : Int) := hx9 8 (Nat.le_of_ble_eq_true rfl)
          have t9 : x9 9 = .int .i64 (k1 : Int) := hx9 9 (Nat.le_of_ble_eq_true rfl)
          have t10 : x9 10 = .string (S (List.replicate k1 32)) := hx9 10 (Nat.le_of_ble_eq_true rfl)
          have t11 : x9 11 = .string (S (T ++ (List.replicate k1 32))) := hx9 11 (Nat.le_of_ble_eq_true rfl)
          have t12 : x9 12 = .string (S s) := hx9 12 (Nat.le_of_ble_eq_true rfl)
          have t13 : x9 13 = .int .i64 (j : Int) := hx9 13 (Nat.le_of_ble_eq_true rfl)
          have t14 : x9 14 = .int .i64 (j : Int) := hx9 14 (Nat.le_of_ble_eq_true rfl)
          have t15 : x9 15 = .int .i64 ((j : Int) + 1) := hx9 15 (Nat.le_of_ble_eq_true rfl)
          have t16 : x9 16 = .string (S [62]) := hx9 16 (Nat.le_of_ble_eq_true rfl)
          have t17 : x9 17 = .string (S ((T ++ (List.replicate k1 32)) ++ [62])) := hx9 17 (Nat.le_of_ble_eq_true rfl)
          have t18 : x9 18 = .slice (some ⟨bb, ob, none⟩) m ct := hx9 18 (Nat.le_of_ble_eq_true rfl)
          have t19 : x9 19 = .int .i64 (j : Int) := hx9 19 (Nat.le_of_ble_eq_true rfl)
          have t20 : x9 20 = .slice (some ⟨bb, ob, none⟩) m ct := hx9 20 (Nat.le_of_ble_eq_true rfl)
          have t21 : x9 21 = .int .i64 (m : Int) := hx9 21 (Nat.le_of_ble_eq_true rfl)
          have t22 : x9 22 = .int .i64 (r : Int) := hx9 22 (Nat.le_of_ble_eq_true rfl)
          have t23 : x9 23 = .pointer (some ⟨bb, ob + r, none⟩) := hx9 23 (Nat.le_of_ble_eq_true rfl)
          have t24 : x9 24 = .int .u8 (b : Int) := hx9 24 (Nat.le_of_ble_eq_true rfl)
          have t25 : x9 25 = .int .u8 (k3 : Int) := hx9 25 (Nat.le_of_ble_eq_true rfl)
          have t26 : x9 26 = .int .u8 (k2 : Int) := hx9 26 (Nat.le_of_ble_eq_true rfl)
          have t27 : x9 27 = .int .i64 (k2 : Int) := hx9 27 (Nat.le_of_ble_eq_true rfl)
          have t28 : x9 28 = .string (S (List.replicate k2 32)) := hx9 28 (Nat.le_of_ble_eq_true rfl)
          have t29 : x9 29 = .string (S (((T ++ (List.replicate k1 32)) ++ [62]) ++ (List.replicate k2 32))) := hx9 29 (Nat.le_of_ble_eq_true rfl)
          simp only [sets, List.getD_cons_succ, List.getD_cons_zero, List.set_cons_succ, List.set_cons_zero, t0, t1, t2, t3, t4, t5, t6, t7, t8, t9, t10, t11, t12, t13, t14, t15, t16, t17, t18, t19, t20, t21, t22, t23, t24, t25, t26, t27, t28, t29]
          clear hx9 t0 t1 t2 t3 t4 t5 t6 t7 t8 t9 t10 t11 t12 t13 t14 t15 t16 t17 t18 t19 t20 t21 t22 t23 t24 t25 t26 t27 t28 t29 x9
          refine wp_move (.inr rfl) rfl (hK9 _ _ ?_)
          clear hK9
          have HW9 := hideIt (HAw.out.trans aw9)
          clear aw9
          obtain ⟨T2, hT2⟩ : ∃ T2, T2 = (((T ++ (List.replicate k1 32)) ++ [62]) ++ (List.replicate k2 32)) := ⟨_, rfl⟩
          rw [← hT2]
          have HT2 := hideIt hT2
          clear hT2
          go_wp2_with fail
          go_roundw
          case rel =>
            refine ⟨j + 1, by omega, by go_num, ?_, HW9.out⟩
            rw [HT2.out, wide_take HC.out, if_pos (by decide), ← HT.out, ← HBy1.out.1, ← HBy1.out.2]
            congr 2
            simp
          case measure => simp [intOf]; omega
        · have HC := hideIt hc
          have HB := hideIt hb
          have hbb := hb
          clear hc hb
          go_upto_region 11 with fail
          refine region_lastG (by kernel_rfl) [67, 68, 69, 70, 71, 72, 73, 74, 75, 76, 77, 78, 79, 80, 81, 82, 83, 84, 85, 86, 87, 88, 89, 90, 91, 92, 93, 94, 95, 96] [isV (.string (S T)), isV (.slice (some ⟨bb, ob, none⟩) m ct), isV (.int .i64 (j : Int)), isV (.slice (some ⟨bb, ob, none⟩) m ct), isV (.int .i64 (m : Int)), isV (.int .i64 (r : Int)), isV (.pointer (some ⟨bb, ob + r, none⟩)), isV (.int .u8 (b : Int)), isV (.int .u8 (k1 : Int)), isV (.int .i64 (k1 : Int)), isV (.string (S (List.replicate k1 32))), isV (.string (S (T ++ (List.replicate k1 32)))), isV (.string (S s)), isV (.int .i64 (j : Int)), isV (.int .i64 (j : Int)), isV (.int .i64 ((j : Int) + 1)), isV (.string (S [60])), isV (.string (S ((T ++ (List.replicate k1 32)) ++ [60]))), isV (.slice (some ⟨bb, ob, none⟩) m ct), isV (.int .i64 (j : Int)), isV (.slice (some ⟨bb, ob, none⟩) m ct), isV (.int .i64 (m : Int)), isV (.int .i64 (r : Int)), isV (.pointer (some ⟨bb, ob + r, none⟩)), isV (.int .u8 (b : Int)), isV (.int .u8 (k3 : Int)), isV (.int .u8 (k2 : Int)), isV (.int .i64 (k2 : Int)), isV (.string (S (List.replicate k2 32))), isV (.string (S (((T ++ (List.replicate k1 32)) ++ [60]) ++ (List.replicate k2 32))))] 30 _ rfl rfl rfl rfl 12 rfl rfl (stable_all (st_cons (isV_st _) (st_cons (isV_st _) (st_cons (isV_st _) (st_cons (isV_st _) (st_cons (isV_st _) (st_cons (isV_st _) (st_cons (isV_st _) (st_cons (isV_st _) (st_cons (isV_st _) (st_cons (isV_st _) (st_cons (isV_st _) (st_cons (isV_st _) (st_cons (isV_st _) (st_cons (isV_st _) (st_cons (isV_st _) (st_cons (isV_st _) (st_cons (isV_st _) (st_cons (isV_st _) (st_cons (isV_st _) (st_cons (isV_st _) (st_cons (isV_st _) (st_cons (isV_st _) (st_cons (isV_st _) (st_cons (isV_st _) (st_cons (isV_st _) (st_cons (isV_st _) (st_cons (isV_st _) (st_cons (isV_st _) (st_cons (isV_st _) (st_cons (isV_st _) (st_nil)))))))))))))))))))))))))))))))) rfl rfl ?_ ?_
          · exact ⟨⟨rfl, rfl, .inl ⟨(.inl rfl), fun a W9 K hd hb aw hk => wp_move (.inl rfl) (show a.eval (.tmp 8) = .string (S T) from hb 8 rfl) (hk _ _ rfl After.rfl)⟩⟩,
              ⟨rfl, rfl, .inl ⟨(.inl rfl), fun a W9 K hd hb aw hk => wp_move (.inl rfl) (show a.eval (.tmp 1) = .slice (some ⟨bb, ob, none⟩) m ct from hb 1 rfl) (hk _ _ rfl After.rfl)⟩⟩,
              ⟨rfl, rfl, .inl ⟨(.inl rfl), fun a W9 K hd hb aw hk => wp_move (.inl rfl) (show a.eval (.tmp 9) = .int .i64 (j : Int) from hb 9 rfl) (hk _ _ rfl After.rfl)⟩⟩,
              ⟨rfl, rfl, .inl ⟨(.inl rfl), fun a W9 K hd hb aw hk => wp_move (.inl rfl) (show a.eval (.tmp 1) = .slice (some ⟨bb, ob, none⟩) m ct from hb 1 rfl) (hk _ _ rfl After.rfl)⟩⟩,
              ⟨rfl, rfl, .inl ⟨(.inl rfl), fun a W9 K hd hb aw hk => wp_len rfl (hd 3 rfl) (lenBy _ _ _ _ _) (hk _ _ rfl After.rfl)⟩⟩,
              ⟨rfl, rfl, .inl ⟨(.inl rfl), fun a W9 K hd hb aw hk => wp_bin rfl (hd 2 rfl) (hd 4 rfl) (remI (by have := HK.out; omega) HR.out _ _ _) (hk _ _ rfl After.rfl)⟩⟩,
              ⟨rfl, rfl, .inl ⟨(.inl rfl), fun a W9 K hd hb aw hk => wp_index rfl (hd 1 rfl) (hd 5 rfl) (indexBy _ _ _ _ _ _ (by have := HK.out; omega)) (hk _ _ rfl After.rfl)⟩⟩,
              ⟨rfl, rfl, .inl ⟨(.inl rfl), fun a W9 K hd hb aw hk => wp_load rfl (hd 6 rfl) (loadBy ((aw.cell (cell_lt HBc.out) _).trans HBc.out)) (hk _ _ rfl After.rfl)⟩⟩,
              ⟨rfl, rfl, .inl ⟨(.inl rfl), fun a W9 K hd hb aw hk => wp_bin rfl (hd 7 rfl) rfl (rem3 HK.out.1 HK.out.2.1 _ _ _) (hk _ _ rfl After.rfl)⟩⟩,
              ⟨rfl, rfl, .inl ⟨(.inl rfl), fun a W9 K hd hb aw hk => wp_conv rfl (hd 8 rfl) (convI (by have := HK.out; omega) _) (hk _ _ rfl After.rfl)⟩⟩,
              ⟨rfl, rfl, .inl ⟨(.inl rfl), fun a W9 K hd hb aw hk => wp_func2 rfl enterRp rfl (hd 9 rfl) ((repB_any k1 (by have := HK.out; omega) _).mono (fun _ _ ⟨he, hA⟩ => ⟨_, he, hk _ _ rfl hA⟩))⟩⟩,
              ⟨rfl, rfl, .inl ⟨(.inl rfl), fun a W9 K hd hb aw hk => wp_bin rfl (hd 0 rfl) (hd 10 rfl) (addSt _ _ HTl.out (show (List.replicate k1 (32 : UInt8)).length ≤ 100 by rw [List.length_replicate]; have := HK.out; omega) rfl _ _ _) (hk _ _ rfl After.rfl)⟩⟩,
              ⟨rfl, rfl, .inl ⟨(.inl rfl), fun a W9 K hd hb aw hk => wp_move (.inl rfl) (show a.eval (.tmp 0) = .string (S s) from hb 0 rfl) (hk _ _ rfl After.rfl)⟩⟩,
              ⟨rfl, rfl, .inl ⟨(.inl rfl), fun a W9 K hd hb aw hk => wp_move (.inl rfl) (show a.eval (.tmp 9) = .int .i64 (j : Int) from hb 9 rfl) (hk _ _ rfl After.rfl)⟩⟩,
              ⟨rfl, rfl, .inl ⟨(.inl rfl), fun a W9 K hd hb aw hk => wp_move (.inl rfl) (show a.eval (.tmp 9) = .int .i64 (j : Int) from hb 9 rfl) (hk _ _ rfl After.rfl)⟩⟩,
              ⟨rfl, rfl, .inl ⟨(.inl rfl), fun a W9 K hd hb aw hk => wp_bin rfl (hd 14 rfl) rfl (addJ (by have := HJl.out; omega) _ _ _) (hk _ _ rfl After.rfl)⟩⟩,
              ⟨rfl, rfl, .inl ⟨(.inl rfl), fun a W9 K hd hb aw hk => wp_strcut rfl (hd 12 rfl) (hd 13 rfl) (hd 15 rfl) (cutBy HC.out _) (hk _ _ rfl After.rfl)⟩⟩,
              ⟨rfl, rfl, .inl ⟨(.inl rfl), fun a W9 K hd hb aw hk => wp_bin rfl (hd 11 rfl) (hd 16 rfl) (addSt _ _ (cat_le HTl.out (show (List.replicate k1 (32 : UInt8)).length ≤ 100 by rw [List.length_replicate]; have := HK.out; omega)) (Nat.le_of_ble_eq_true rfl : List.length (α := UInt8) [60] ≤ 1) rfl _ _ _) (hk _ _ rfl After.rfl)⟩⟩,
              ⟨rfl, rfl, .inl ⟨(.inl rfl), fun a W9 K hd hb aw hk => wp_move (.inl rfl) (show a.eval (.tmp 1) = .slice (some ⟨bb, ob, none⟩) m ct from hb 1 rfl) (hk _ _ rfl After.rfl)⟩⟩,
              ⟨rfl, rfl, .inl ⟨(.inl rfl), fun a W9 K hd hb aw hk => wp_move (.inl rfl) (show a.eval (.tmp 9) = .int .i64 (j : Int) from hb 9 rfl) (hk _ _ rfl After.rfl)⟩⟩,
              ⟨rfl, rfl, .inl ⟨(.inl rfl), fun a W9 K hd hb aw hk => wp_move (.inl rfl) (show a.eval (.tmp 1) = .slice (some ⟨bb, ob, none⟩) m ct from hb 1 rfl) (hk _ _ rfl After.rfl)⟩⟩,
              ⟨rfl, rfl, .inl ⟨(.inl rfl), fun a W9 K hd hb aw hk => wp_len rfl (hd 20 rfl) (lenBy _ _ _ _ _) (hk _ _ rfl After.rfl)⟩⟩,
              ⟨rfl, rfl, .inl ⟨(.inl rfl), fun a W9 K hd hb aw hk => wp_bin rfl (hd 19 rfl) (hd 21 rfl) (remI (by have := HK.out; omega) HR.out _ _ _) (hk _ _ rfl After.rfl)⟩⟩,
              ⟨rfl, rfl, .inl ⟨(.inl rfl), fun a W9 K hd hb aw hk => wp_index rfl (hd 18 rfl) (hd 22 rfl) (indexBy _ _ _ _ _ _ (by have := HK.out; omega)) (hk _ _ rfl After.rfl)⟩⟩,
              ⟨rfl, rfl, .inl ⟨(.inl rfl), fun a W9 K hd hb aw hk => wp_load rfl (hd 23 rfl) (loadBy ((aw.cell (cell_lt HBc.out) _).trans HBc.out)) (hk _ _ rfl After.rfl)⟩⟩,
              ⟨rfl, rfl, .inl ⟨(.inl rfl), fun a W9 K hd hb aw hk => wp_bin rfl (hd 24 rfl) rfl (quo3 HK.out.1 HK.out.2.2.2.2.1 _ _ _) (hk _ _ rfl After.rfl)⟩⟩,
              ⟨rfl, rfl, .inl ⟨(.inl rfl), fun a W9 K hd hb aw hk => wp_bin rfl (hd 25 rfl) rfl (rem2 HK.out.2.2.1 HK.out.2.2.2.1 _ _ _) (hk _ _ rfl After.rfl)⟩⟩,
              ⟨rfl, rfl, .inl ⟨(.inl rfl), fun a W9 K hd hb aw hk => wp_conv rfl (hd 26 rfl) (convI (by have := HK.out; omega) _) (hk _ _ rfl After.rfl)⟩⟩,
              ⟨rfl, rfl, .inl ⟨(.inl rfl), fun a W9 K hd hb aw hk => wp_func2 rfl enterRp rfl (hd 27 rfl) ((repB_any k2 (by have := HK.out; omega) _).mono (fun _ _ ⟨he, hA⟩ => ⟨_, he, hk _ _ rfl hA⟩))⟩⟩,
              ⟨rfl, rfl, .inl ⟨(.inl rfl), fun a W9 K hd hb aw hk => wp_bin rfl (hd 17 rfl) (hd 28 rfl) (addSt _ _ (cat_le (cat_le HTl.out (show (List.replicate k1 (32 : UInt8)).length ≤ 100 by rw [List.length_replicate]; have := HK.out; omega)) (Nat.le_of_ble_eq_true rfl : List.length (α := UInt8) [60] ≤ 1)) (show (List.replicate k2 (32 : UInt8)).length ≤ 100 by rw [List.length_replicate]; have := HK.out; omega) rfl _ _ _) (hk _ _ rfl After.rfl)⟩⟩,
              trivial⟩
          intro x9 w9 hx9 aw9 K9 hK9
          have t0 : x9 0 = .string (S T) := hx9 0 (Nat.le_of_ble_eq_true rfl)
          have t1 : x9 1 = .slice (some ⟨bb, ob, none⟩) m ct := hx9 1 (Nat.le_of_ble_eq_true rfl)
          have t2 : x9 2 = .int .i64 (j : Int) := hx9 2 (Nat.le_of_ble_eq_true rfl)
          have t3 : x9 3 = .slice (some ⟨bb, ob, none⟩) m ct := hx9 3 (Nat.le_of_ble_eq_true rfl)
          have t4 : x9 4 = .int .i64 (m : Int) := hx9 4 (Nat.le_of_ble_eq_true rfl)
          have t5 : x9 5 = .int .i64 (r : Int) := hx9 5 (Nat.le_of_ble_eq_true rfl)
          have t6 : x9 6 = .pointer (some ⟨bb, ob + r, none⟩) := hx9 6 (Nat.le_of_ble_eq_true rfl)
          have t7 : x9 7 = .int .u8 (b : Int) := hx9 7 (Nat.le_of_ble_eq_true rfl)
          have t8 : x9 8 = .int .u8 (k1 : Int) := hx9 8 (Nat.le_of_ble_eq_true rfl)
          have t9 : x9 9 = .int .i64 (k1 : Int) := hx9 9 (Nat.le_of_ble_eq_true rfl)
          have t10 : x9 10 = .string (S (List.replicate k1 32)) := hx9 10 (Nat.le_of_ble_eq_true rfl)
          have t11 : x9 11 = .string (S (T ++ (List.replicate k1 32))) := hx9 11 (Nat.le_of_ble_eq_true rfl)
          have t12 : x9 12 = .string (S s) := hx9 12 (Nat.le_of_ble_eq_true rfl)
          have t13 : x9 13 = .int .i64 (j : Int) := hx9 13 (Nat.le_of_ble_eq_true rfl)
          have t14 : x9 14 = .int .i64 (j : Int) := hx9 14 (Nat.le_of_ble_eq_true rfl)
          have t15 : x9 15 = .int .i64 ((j : Int) + 1) := hx9 15 (Nat.le_of_ble_eq_true rfl)
          have t16 : x9 16 = .string (S [60]) := hx9 16 (Nat.le_of_ble_eq_true rfl)
          have t17 : x9 17 = .string (S ((T ++ (List.replicate k1 32)) ++ [60])) := hx9 17 (Nat.le_of_ble_eq_true rfl)
          have t18 : x9 18 = .slice (some ⟨bb, ob, none⟩) m ct := hx9 18 (Nat.le_of_ble_eq_true rfl)
          have t19 : x9 19 = .int .i64 (j : Int) := hx9 19 (Nat.le_of_ble_eq_true rfl)
          have t20 : x9 20 = .slice (some ⟨bb, ob, none⟩) m ct := hx9 20 (Nat.le_of_ble_eq_true rfl)
          have t21 : x9 21 = .int .i64 (m : Int) := hx9 21 (Nat.le_of_ble_eq_true rfl)
          have t22 : x9 22 = .int .i64 (r : Int) := hx9 22 (Nat.le_of_ble_eq_true rfl)
          have t23 : x9 23 = .pointer (some ⟨bb, ob + r, none⟩) := hx9 23 (Nat.le_of_ble_eq_true rfl)
          have t24 : x9 24 = .int .u8 (b : Int) := hx9 24 (Nat.le_of_ble_eq_true rfl)
          have t25 : x9 25 = .int .u8 (k3 : Int) := hx9 25 (Nat.le_of_ble_eq_true rfl)
          have t26 : x9 26 = .int .u8 (k2 : Int) := hx9 26 (Nat.le_of_ble_eq_true rfl)
          have t27 : x9 27 = .int .i64 (k2 : Int) := hx9 27 (Nat.le_of_ble_eq_true rfl)
          have t28 : x9 28 = .string (S (List.replicate k2 32)) := hx9 28 (Nat.le_of_ble_eq_true rfl)
          have t29 : x9 29 = .string (S (((T ++ (List.replicate k1 32)) ++ [60]) ++ (List.replicate k2 32))) := hx9 29 (Nat.le_of_ble_eq_true rfl)
          simp only [sets, List.getD_cons_succ, List.getD_cons_zero, List.set_cons_succ, List.set_cons_zero, t0, t1, t2, t3, t4, t5, t6, t7, t8, t9, t10, t11, t12, t13, t14, t15, t16, t17, t18, t19, t20, t21, t22, t23, t24, t25, t26, t27, t28, t29]
          clear hx9 t0 t1 t2 t3 t4 t5 t6 t7 t8 t9 t10 t11 t12 t13 t14 t15 t16 t17 t18 t19 t20 t21 t22 t23 t24 t25 t26 t27 t28 t29 x9
          refine wp_move (.inr rfl) rfl (hK9 _ _ ?_)
          clear hK9
          have HW9 := hideIt (HAw.out.trans aw9)
          clear aw9
          obtain ⟨T2, hT2⟩ : ∃ T2, T2 = (((T ++ (List.replicate k1 32)) ++ [60]) ++ (List.replicate k2 32)) := ⟨_, rfl⟩
          rw [← hT2]
          have HT2 := hideIt hT2
          clear hT2
          go_wp2_with fail
          go_roundw
          case rel =>
            refine ⟨j + 1, by omega, by go_num, ?_, HW9.out⟩
            rw [HT2.out, wide_take HC.out, if_pos (by decide), ← HT.out, ← HBy1.out.1, ← HBy1.out.2]
            congr 2
            simp
          case measure => simp [intOf]; omega
      · have hplain : (0 : Int) < (m : Int) → ((c.toNat : Int) == 32) = false ∧ ((c.toNat : Int) == 40) = false ∧ ((c.toNat : Int) == 41) = false ∧ ((c.toNat : Int) == 62) = false ∧ ((c.toNat : Int) == 60) = false := fun h => by
          have hs : spB c = false := by
            rcases hq : spB c with _ | _
            · rfl
            · exact absurd ⟨hq, by omega⟩ hsp
          unfold spB at hs
          simp only [Bool.or_eq_false_iff, decide_eq_false_iff_not] at hs
          have key : ∀ k : UInt8, ¬ c = k → ((c.toNat : Int) == (k.toNat : Int)) = false := fun k hk => by
            have : ¬ (c.toNat : Int) = (k.toNat : Int) := fun e => hk (UInt8.toNat_inj.1 (by omega))
            simpa using this
          exact ⟨key 32 hs.1.1.1.1, key 40 hs.1.1.1.2, key 41 hs.1.1.2, key 62 hs.1.2, key 60 hs.2⟩
        have HWt : Hid (wide (byF l) 0 (s.take (j + 1)) = T ++ [c]) := hideIt (by
          rw [wide_take hc, HT.out]
          congr 1
          by_cases hs : spB c = true
          · rw [if_pos hs]
            have hm0 : m = 0 := by
              rcases Nat.eq_zero_or_pos m with h | h
              · exact h
              · exact absurd ⟨hs, h⟩ hsp
            have hl0 : l = [] := List.length_eq_zero_iff.1 (by rw [HR.out.1, hm0])
            rw [hl0, byF_nil]
            rfl
          · rw [if_neg hs])
        have ecut : (S s).extract j (j + 1) = S [c] := by
          rw [S_extract, Nat.add_sub_cancel_left]
          congr 1
          rw [show s.drop j = c :: s.drop (j + 1) from by
            obtain ⟨hl, rfl⟩ := List.getElem?_eq_some_iff.1 hc
            exact List.drop_eq_getElem_cons hl]
          rfl
        have ecat : S T ++ S [c] = S (T ++ [c]) := L1.S_cat T [c]
        have l2 : (j : Int) + 1 ≤ ((S s).size : Int) := by rw [L1.S_size]; omega
        have zc : (S [c]).size = 1 := rfl
        by_cases hm0 : (0 : Int) < (m : Int)
        · obtain ⟨f1, f2, f3, f4, f5⟩ := hplain hm0
          clear hc hsp hplain hj
          go_wp2_with fail
          go_roundw
          case rel => exact ⟨j + 1, by omega, by go_num, by rw [HWt.out], HAw.out⟩
          case measure => simp [intOf]; omega
        · have hm1 : m = 0 := by omega
          clear hc hsp hplain hj
          go_wp2_with fail
          go_roundw
          case rel => exact ⟨j + 1, by omega, by go_num, by rw [HWt.out], HAw.out⟩
          case measure => simp [intOf]; omega
    · have hje : j = s.length := by omega
      have i2 : ¬ (j : Int) < ((S s).size : Int) := by rw [L1.S_size]; omega
      have hTs : T = wide (byF l) 0 s := by rw [HT.out, hje, List.take_of_length_le (Nat.le_refl _)]
      rw [← hTs] at HP2
      have HA3 := hideIt (HA2.out.2.trans HAw.out)
      have HSm := hideIt (fun W a b c d (h1 : NRow W a n ns) (h2 : NRow W b n ns) => (by
        have hnn := HN.out
        have := same_yes ns (by have := HLen.out; omega) W a b c d (by rw [← hnn]; exact h1) (by rw [← hnn]; exact h2)
        rw [← hnn] at this
        exact this : Calls Tryz.prog 12 #[.slice a n c, .slice b n d] W fun e w' => e = .returned (.bool true) ∧ After W w'))
      have e1 : (⟨#[32, 32]⟩ : ByteArray) ++ S T = S (32 :: 32 :: T) := L1.S_cat [32, 32] T
      have e2 : S (32 :: 32 :: T) ++ (⟨#[32]⟩ : ByteArray) = S (32 :: 32 :: (T ++ [32])) := L1.S_cat (32 :: 32 :: T) [32]
      have z2 : (S (32 :: 32 :: T)).size ≤ 802 := by rw [L1.S_size]; have := HTl.out; simp; omega
      have sz : (S s).size ≤ 200 := HSl.out
      have e3 : (⟨#[40, 40]⟩ : ByteArray) ++ S s = S (40 :: 40 :: s) := L1.S_cat [40, 40] s
      have e4 : S (40 :: 40 :: s) ++ (⟨#[41, 41]⟩ : ByteArray) = S (40 :: 40 :: (s ++ [41, 41])) := L1.S_cat (40 :: 40 :: s) [41, 41]
      have z4 : (S (40 :: 40 :: s)).size ≤ 202 := by rw [L1.S_size]; have := HSl.out; simp; omega
      obtain ⟨Cn, hCn⟩ : ∃ Cn, Cn = Lib.countByte s 40 := ⟨_, rfl⟩
      have HCt : Hid (∀ W, Calls Tryz.prog 21 #[.string (S s), .string ⟨#[40]⟩] W fun e w' => e = .returned (.int .i64 (Cn : Int)) ∧ w' = W) := hideIt (fun W => by
        have := Tryz.strings_Count_one (S s) 40 W
        rw [L1.S_list, ← hCn] at this
        exact this)
      rw [← hCn] at HBr
      clear hCn hTs hje hj hjn
      go_wp2_with fail
      refine (HP2.out _ HA3.out).mono ?_
      rintro e w4 ⟨qa, qc, rfl, -, r4, a4⟩
      have HA4 := hideIt (And.intro r4 (HA3.out.trans a4))
      have HRa := hideIt ((HA2.out.1.after HAw.out).after a4)
      clear r4 a4
      go_wp2_with fail
      refine (HP3.out _ HA4.out.2).mono ?_
      rintro e w5 ⟨ta, tc, rfl, -, r5, a5⟩
      have HA5 := hideIt (And.intro r5 (And.intro (HA4.out.1.after a5) (And.intro (HRa.out.after a5) (HA4.out.2.trans a5))))
      clear r5 a5
      go_wp2_with fail
      refine (HCt.out _).mono ?_
      rintro e w6 ⟨rfl, rfl⟩
      by_cases hE : E = 0
      · by_cases hdeep : 30 < Cn
        · have d1 : (30 : Int) < (Cn : Int) := by omega
          subst hE
          clear hdeep
          go_wp2_with fail
          refine (HSm.out _ pa qa pc qc HA5.out.2.2.1 HA5.out.2.1).mono ?_
          rintro e w7 ⟨rfl, a7⟩
          have HA7 := hideIt (HA5.out.2.2.2.trans a7)
          clear a7
          go_wp2
          go_ret
          exact ⟨rfl, HA7.out⟩
        · have d1 : ¬ (30 : Int) < (Cn : Int) := by omega
          obtain ⟨q1, q2⟩ := HBr.out hE (by omega)
          subst hE q1
          obtain rfl := q2
          have r5' : NRow w6 ta n ns3 := by rw [HN.out]; exact HA5.out.1
          have HR5 := hideIt r5'
          rw [← HN.out]
          clear hdeep r5'
          go_wp2_with fail
          refine (HSm.out _ pa qa pc qc HA5.out.2.2.1 HA5.out.2.1).mono ?_
          rintro e w7 ⟨rfl, a7⟩
          have HA7 := hideIt (And.intro (HA5.out.2.2.2.trans a7) (And.intro (HA5.out.2.2.1.after a7) (HR5.out.after a7)))
          clear a7
          go_wp2_with fail
          refine (HSm.out _ pa ta pc tc HA7.out.2.1 HA7.out.2.2).mono ?_
          rintro e w8 ⟨rfl, a8⟩
          have HA8 := hideIt (HA7.out.1.trans a8)
          clear a8
          go_wp2
          go_ret
          exact ⟨rfl, HA8.out⟩
      · have hE2 : (E == 0) = false := by simpa using hE
        have hE3 : (E != 0) = true := by simpa using hE
        by_cases hdeep : (30 : Int) < (Cn : Int)
        all_goals
          go_wp2_with fail
          refine (HSm.out _ pa qa pc qc HA5.out.2.2.1 HA5.out.2.1).mono ?_
          rintro e w7 ⟨rfl, a7⟩
          have HA7 := hideIt (HA5.out.2.2.2.trans a7)
          clear a7
          go_wp2
          go_ret
          exact ⟨rfl, HA7.out⟩
end Go.Proofs.YtlfcihanhfabmaaGreatDoor
