/-
  Wrap of package frame, and the document's.
-/
import Derived.Test.YtmdbpoknehafaaaPairs
import Derived.Test.YtmdbpoknehafaaaFr
import Derived.Test.YtmdbpoknehafaaaRef
import Derived.OwnWalk
namespace Go.Proofs.Ytmdbpoknehafaaa
open Go.RowKit
theorem own_slice {w : World} {B : Nat} {e : TypeId} {sz : Nat} {v : Value} {n : Nat} {xs : List Value} (h : w.ownsRow B e sz v n xs) : ∃ a c, v = .slice a n c := by
  rcases h.2 with ⟨rfl, rfl⟩ | ⟨g, cap, cur, rfl, _⟩
  · exact ⟨_, _, rfl⟩
  · exact ⟨_, _, rfl⟩
theorem grown_after {w W w2 : World} {e : TypeId} {sz n : Nat} {v : Value} {xs : List Value} (ha : After w W) (ho : W.ownsRow w.heap.size e sz v n xs) (hg : W.grownBy w2 v.ownBlock) : After w w2 :=
  But.grown ha hg (fun k hk hl => absurd ((ho.lt k hk).1) (by omega))
/-- Owned bytes that are some. -/
theorem own_some {w : World} {B : Nat} {v : Value} {n : Nat} {zs : List Int} (h : w.ownsRow B 5 1 v n (u8s zs)) (hb : Bs zs) (hn : 0 < n) : ∃ g c, v = .slice (some ⟨g, 0, none⟩) n c ∧ Row w (some ⟨g, 0, none⟩) n zs ∧ n ≤ c ∧ B ≤ g ∧ g < w.heap.size := by
  obtain ⟨a, c, rfl, r1, r2, r3, r4⟩ := own_row h hb
  cases a with
  | none => have := r2 rfl; omega
  | some x =>
    obtain ⟨e1, e2⟩ := r4 x rfl
    obtain ⟨l1, l2⟩ := h.lt _ e1
    exact ⟨x.block, c, by rw [← e2], by rw [← e2]; exact r1, r3, l1, l2⟩
theorem sum16_eq {xs ys : List Int} (h : xs = ys) : sum16 xs = sum16 ys := by rw [h]
theorem wrap_two (b : List Int) : wrapOf b = (126 :: (two b.length ++ b)) ++ two (sum16 (two b.length ++ b)) := by simp [wrapOf, two]
set_option maxRecDepth 100000 in
set_option maxHeartbeats 1000000 in
theorem wrap_good (b off n c : Nat) (zs : List Int) (w : World) (hr : Row w (some ⟨b, off, none⟩) n zs) (h1 : 1 ≤ n) (h2 : n ≤ 256) :
    Calls Try.prog 19 #[.slice (some ⟨b, off, none⟩) n c] w fun e w' => ∃ v, e = .returned (.tuple #[v, .int .i64 0]) ∧ w'.ownsRow w.heap.size 5 1 v (n + 5) (u8s (wrapOf zs)) ∧ After w w' := by
  obtain ⟨i0, hi, hz0, hz1, hz2⟩ := info_parts Try.info5
  have HR := hideIt hr
  have HZ := hideIt hr.2.1
  have HL := hideIt hr.1
  clear hr
  have g1 : ((n : Int) == 0) = false := by simp; omega
  have g2 : ¬ (256 : Int) < (n : Int) := by omega
  go_enter Try.func19, Try.ntmps19
  go_wp2_with (first
    | (at_make; refine wpList_make_own _ rfl _ _ _ rfl w.heap.size 5 i0 (.int .u8 0) 1 Try.underlying27 hi hz0 hz1 .i64 .i64 _ (n + 5) rfl rfl (by omega) (by rw [hz2]; omega) (by unfold maxLen; omega) (Nat.le_refl _) ?_; intro w1 hown hgrow; have A1 := hideIt (But.grown (After.rfl (w := w)) hgrow (fun k hk => by cases hk)); have O1 := hideIt (hown.alloc (.cells #[.int .u8 126] 5)); have N1 := hideIt (row_news (lit_row w1 [126] #[.int .u8 126] 1 rfl rfl (bs_of _ (by decide)))); clear hown hgrow)
    | (at_builtin; refine wpList_append_own _ rfl (.tmp 18) (.tmp 19) 27 rfl w.heap.size 5 i0 (.int .u8 0) 1 1 Try.underlying27 hi hz0 hz1 hz2 rfl (by decide) _ 0 [] rfl O1.out _ 1 1 (u8s [126]) rfl rfl N1.out (u8s_one _) (by unfold maxLen; omega) (by omega) (by have := A1.out.size; simp; omega) ?_; intro v2 w2 hown hgrow hnil; have A2 := hideIt (grown_after (A1.out.alloc _) O1.out hgrow); have O2 := hideIt hown; clear hown hgrow hnil))
  obtain ⟨a2, c2, rfl⟩ := own_slice O2.out
  clear O1 N1 A1
  refine (pair_any n w2 (by omega)).mono ?_
  rintro e w3 ⟨rfl, rfl⟩
  have O3 := hideIt (O2.out.alloc (.cells #[.int .u8 ((n / 256 : Nat) : Int), .int .u8 ((n % 256 : Nat) : Int)] 5))
  have N3 := hideIt (row_news (lit_row w2 (two n) #[.int .u8 ((n / 256 : Nat) : Int), .int .u8 ((n % 256 : Nat) : Int)] 2 rfl rfl (two_bs (by omega))))
  have A3 := hideIt (A2.out.alloc (.cells #[.int .u8 ((n / 256 : Nat) : Int), .int .u8 ((n % 256 : Nat) : Int)] 5))
  have L2 := hideIt (show u8s (two n) = [.int .u8 ((n / 256 : Nat) : Int), .int .u8 ((n % 256 : Nat) : Int)] from rfl)
  clear O2 A2
  generalize (Obj.cells #[.int .u8 ((n / 256 : Nat) : Int), .int .u8 ((n % 256 : Nat) : Int)] 5) = ob at *
  go_wp2_with (first
    | (at_builtin; refine wpList_append_own _ rfl (.tmp 21) (.tmp 24) 27 rfl w.heap.size 5 i0 (.int .u8 0) 1 1 Try.underlying27 hi hz0 hz1 hz2 rfl (by decide) _ (0 + 1) _ rfl O3.out _ 2 2 (u8s (two n)) rfl rfl N3.out (u8s_one _) (by unfold maxLen; omega) (by omega) A3.out.size ?_; intro v4 w4 hown hgrow hnil; have A4 := hideIt (grown_after A3.out O3.out hgrow); have O4 := hideIt hown; have R4 := hideIt (row_news (HR.out.after A4.out)); have L4 := hideIt (show (u8s zs).length = n * 1 by rw [u8s_length, HL.out]; omega); clear hown hgrow hnil)
    | (at_builtin; refine wpList_append_own _ rfl (.tmp 26) (.tmp 27) 27 rfl w.heap.size 5 i0 (.int .u8 0) 1 1 Try.underlying27 hi hz0 hz1 hz2 rfl (by decide) _ (0 + 1 + 2) _ rfl O4.out _ n c (u8s zs) rfl L4.out R4.out (u8s_one _) (by unfold maxLen; omega) (by omega) A4.out.size ?_; intro v5 w5 hown hgrow hnil; have A5 := hideIt (grown_after A4.out O4.out hgrow); have O5 := hideIt hown; clear hown hgrow hnil))
  have o5 : w5.ownsRow w.heap.size 5 1 v5 (n + 3) (u8s (126 :: (two n ++ zs))) := by
    have := O5.out
    rw [show 0 + 1 + 2 + n = n + 3 by omega] at this
    exact this
  have hbx : Bs (126 :: (two n ++ zs)) := Bs.append (zs := [126]) (bs_of _ (by decide)) (Bs.append (two_bs (by omega)) HZ.out)
  obtain ⟨g5, c5, rfl, r5, l5, k5, j5⟩ := own_some o5 hbx (by omega)
  have HC := hideIt (checkOf_any g5 0 (n + 3) c5 _ w5 r5 (by omega) l5 (by omega))
  rw [show (126 :: (two n ++ zs) : List Int).drop 1 = two n ++ zs from rfl] at HC
  have hsl := sum16_lt (show Bs (two n ++ zs) from Bs.append (two_bs (by omega)) HZ.out)
  have HW : Hid (u8s (126 :: (two n ++ zs)) ++ u8s (two (sum16 (two n ++ zs))) = u8s (wrapOf zs)) := by
    unfold Hid; rw [wrap_two, u8s_append, HL.out]
  have O6 := hideIt o5
  clear o5 hbx r5 O5 O4 O3 N3 A3 A4 R4 L4 L2 hsl j5 k5
  generalize sum16 (two n ++ zs) = sm at *
  generalize u8s (126 :: (two n ++ zs)) = U at *
  refine HC.out.mono ?_
  rintro e w6 ⟨g6, rfl, r6, a6, l6⟩
  have O7 := hideIt (own_after O6.out a6)
  have A7 := hideIt (A5.out.trans a6)
  have N7 := hideIt (row_news r6)
  clear r6 a6 HC O6
  go_wp2_with (at_builtin; refine wpList_append_own _ rfl (.tmp 29) (.tmp 31) 27 rfl w.heap.size 5 i0 (.int .u8 0) 1 1 Try.underlying27 hi hz0 hz1 hz2 rfl (by decide) _ (n + 3) _ rfl O7.out _ 2 2 (u8s (two sm)) rfl rfl N7.out (u8s_one _) (by unfold maxLen; omega) (by omega) A7.out.size ?_; intro v8 w8 hown hgrow hnil; have A8 := hideIt (grown_after A7.out O7.out hgrow); have O8 := hideIt hown; clear hown hgrow hnil)
  go_ret2
  exact ⟨_, rfl, by rw [← HW.out]; exact O8.out, A8.out⟩
/-- Why there is no frame, and the frame. -/
def wErr (zs : List Int) : Nat := if zs.length = 0 then 2 else if 256 < zs.length then 5 else 0
def wNew (zs : List Int) : List Int := if 1 ≤ zs.length ∧ zs.length ≤ 256 then wrapOf zs else []
theorem wErr_zero (zs : List Int) : wErr zs = 0 ↔ 1 ≤ zs.length ∧ zs.length ≤ 256 := by
  unfold wErr
  split
  · omega
  · split <;> omega
theorem wrap_any (a : Option Addr) (n c : Nat) (zs : List Int) (w : World) (hr : Row w a n zs) (ha : a = none → n = 0 ∧ c = 0) (hn : n ≤ 140737488355328) :
    Calls Try.prog 19 #[.slice a n c] w fun e w' => ∃ v, e = .returned (.tuple #[v, .int .i64 (wErr zs : Nat)]) ∧ w'.ownsRow w.heap.size 5 1 v (wNew zs).length (u8s (wNew zs)) ∧ After w w' := by
  have hl := hr.1
  by_cases h1 : 1 ≤ n
  · by_cases h2 : n ≤ 256
    · obtain ⟨b, off, rfl, _⟩ := hr.2.2 0 (by omega)
      have e1 : wErr zs = 0 := (wErr_zero zs).2 (by omega)
      have e2 : wNew zs = wrapOf zs := by unfold wNew; rw [if_pos (by omega)]
      rw [e1, e2, wrap_length, hl]
      exact wrap_good b off n c zs w hr h1 h2
    · have e1 : wErr zs = 5 := by unfold wErr; rw [if_neg (by omega), if_pos (by omega)]
      have e2 : wNew zs = [] := by unfold wNew; rw [if_neg (by omega)]
      rw [e1, e2]
      clear e1 e2 hr ha
      have g1 : ((n : Int) == 0) = false := by simp; omega
      have g2 : (256 : Int) < (n : Int) := by omega
      go_enter Try.func19, Try.ntmps19
      go_wp2
      go_ret2
      exact ⟨_, rfl, World.ownsRow_nil _ _ _ _, After.rfl⟩
  · obtain rfl : n = 0 := by omega
    have e1 : wErr zs = 2 := by unfold wErr; rw [if_pos (by omega)]
    have e2 : wNew zs = [] := by unfold wNew; rw [if_neg (by omega)]
    rw [e1, e2]
    clear e1 e2 hr ha
    go_enter Try.func19, Try.ntmps19
    go_wp2
    go_ret2
    exact ⟨_, rfl, World.ownsRow_nil _ _ _ _, After.rfl⟩
set_option maxRecDepth 100000 in
set_option maxHeartbeats 1000000 in
theorem refWrap_good (b off n c : Nat) (zs : List Int) (w : World) (hr : Row w (some ⟨b, off, none⟩) n zs) (h1 : 1 ≤ n) (h2 : n ≤ 256) :
    Calls Try.prog 20 #[.slice (some ⟨b, off, none⟩) n c] w fun e w' => ∃ v, e = .returned (.tuple #[v, .int .i64 0]) ∧ w'.ownsRow w.heap.size 5 1 v (n + 5) (u8s (wrapOf zs)) ∧ After w w' := by
  obtain ⟨i0, hi, hz0, hz1, hz2⟩ := info_parts Try.info5
  have HR := hideIt hr
  have HZ := hideIt hr.2.1
  have HL := hideIt hr.1
  clear hr
  have g1 : ((n : Int) == 0) = false := by simp; omega
  have g2 : ¬ (256 : Int) < (n : Int) := by omega
  have O1 := hideIt (World.ownsRow_lit (base := w.heap.size) (e := 5) (size := 1) w #[.int .u8 ((n : Int) / 256), .int .u8 ((n : Int) % 256)] 2 (Nat.le_refl _) (by decide) rfl)
  have A1 := hideIt (After.rfl.alloc (a := w) (b := w) (.cells #[.int .u8 ((n : Int) / 256), .int .u8 ((n : Int) % 256)] 5))
  have N1 := hideIt (row_news (HR.out.after A1.out))
  have L1 := hideIt (show (u8s zs).length = n * 1 by rw [u8s_length, HL.out]; omega)
  go_enter Try.func20, Try.ntmps20
  go_wp2_with (at_builtin; refine wpList_append_own _ rfl (.tmp 22) (.tmp 23) 27 rfl w.heap.size 5 i0 (.int .u8 0) 1 1 Try.underlying27 hi hz0 hz1 hz2 rfl (by decide) _ 2 _ rfl O1.out _ n c (u8s zs) rfl L1.out N1.out (u8s_one _) (by unfold maxLen; omega) (by omega) A1.out.size ?_; intro v2 w2 hown hgrow hnil; have A2 := hideIt (grown_after A1.out O1.out hgrow); have O2 := hideIt hown; clear hown hgrow hnil)
  have o2 : w2.ownsRow w.heap.size 5 1 v2 (n + 2) (u8s (two n ++ zs)) := by
    have := O2.out
    rw [show 2 + n = n + 2 by omega] at this
    exact this
  have hbx : Bs (two n ++ zs) := Bs.append (two_bs (by omega)) HZ.out
  obtain ⟨g2, c2, rfl, r2, l2, k2, j2⟩ := own_some o2 hbx (by omega)
  have HS := hideIt (refSum16_any _ (n + 2) c2 _ w2 r2 (by omega))
  have hsl := sum16_lt hbx
  have HW : Hid (u8s (126 :: (two n ++ zs)) ++ u8s (two (sum16 (two n ++ zs))) = u8s (wrapOf zs)) := by
    unfold Hid; rw [wrap_two, u8s_append, HL.out]
  have hll : (two n ++ zs).length = n + 2 := by have := HL.out; simp [two]; omega
  have N2 := hideIt (row_news (r2.after (After.rfl.alloc (.cells #[.int .u8 126] 5))))
  have L2 := hideIt (show (u8s (two n ++ zs)).length = (n + 2) * 1 by rw [u8s_length, hll]; omega)
  have O3 := hideIt (World.ownsRow_lit (base := w.heap.size) (e := 5) (size := 1) w2 #[.int .u8 126] 1 A2.out.size (by decide) rfl)
  have A3 := hideIt (A2.out.alloc (.cells #[.int .u8 126] 5))
  have U1 := hideIt (show (#[Value.int .u8 126] : Array Value).toList ++ u8s (two n ++ zs) = u8s (126 :: (two n ++ zs)) from rfl)
  clear o2 hbx r2 O2 O1 N1 L1 A1 hll j2 k2
  generalize sum16 (two n ++ zs) = sm at *
  generalize u8s (126 :: (two n ++ zs)) = U at *
  refine HS.out.mono ?_
  rintro e w3 ⟨rfl, rfl⟩
  have hsi : (sm : Int) < 65536 := by omega
  have h0s : (0 : Int) ≤ (sm : Int) := by omega
  clear HS
  go_wp2_with (first
    | (at_builtin; refine wpList_append_own _ rfl (.tmp 28) (.tmp 29) 27 rfl w.heap.size 5 i0 (.int .u8 0) 1 1 Try.underlying27 hi hz0 hz1 hz2 rfl (by decide) _ 1 _ rfl O3.out _ (n + 2) c2 (u8s (two n ++ zs)) rfl L2.out N2.out (u8s_one _) (by unfold maxLen; omega) (by omega) A3.out.size ?_; intro v4 w4 hown hgrow hnil; have A4 := hideIt (grown_after A3.out O3.out hgrow); rw [U1.out] at hown; have O4 := hideIt (hown.alloc (.cells #[.int .u8 ((sm : Int) / 256), .int .u8 ((sm : Int) % 256)] 5)); have A5 := hideIt (A4.out.alloc (.cells #[.int .u8 ((sm : Int) / 256), .int .u8 ((sm : Int) % 256)] 5)); have N5 := hideIt (row_news (lit_row w4 (two sm) #[.int .u8 ((sm : Int) / 256), .int .u8 ((sm : Int) % 256)] 2 rfl rfl (two_bs hsl))); clear hown hgrow hnil)
    | (at_builtin; refine wpList_append_own _ rfl (.tmp 31) (.tmp 38) 27 rfl w.heap.size 5 i0 (.int .u8 0) 1 1 Try.underlying27 hi hz0 hz1 hz2 rfl (by decide) _ (1 + (n + 2)) _ rfl O4.out _ 2 2 (u8s (two sm)) rfl rfl N5.out (u8s_one _) (by unfold maxLen; omega) (by omega) A5.out.size ?_; intro v6 w6 hown hgrow hnil; have A6 := hideIt (grown_after A5.out O4.out hgrow); have O6 := hideIt hown; clear hown hgrow hnil))
  go_ret2
  refine ⟨_, rfl, ?_, A6.out⟩
  rw [← HW.out, show n + 5 = 1 + (n + 2) + 2 by omega]
  exact O6.out
theorem refWrap_any (a : Option Addr) (n c : Nat) (zs : List Int) (w : World) (hr : Row w a n zs) (ha : a = none → n = 0 ∧ c = 0) (hn : n ≤ 140737488355328) :
    Calls Try.prog 20 #[.slice a n c] w fun e w' => ∃ v, e = .returned (.tuple #[v, .int .i64 (wErr zs : Nat)]) ∧ w'.ownsRow w.heap.size 5 1 v (wNew zs).length (u8s (wNew zs)) ∧ After w w' := by
  have hl := hr.1
  by_cases h1 : 1 ≤ n
  · by_cases h2 : n ≤ 256
    · obtain ⟨b, off, rfl, _⟩ := hr.2.2 0 (by omega)
      have e1 : wErr zs = 0 := (wErr_zero zs).2 (by omega)
      have e2 : wNew zs = wrapOf zs := by unfold wNew; rw [if_pos (by omega)]
      rw [e1, e2, wrap_length, hl]
      exact refWrap_good b off n c zs w hr h1 h2
    · have e1 : wErr zs = 5 := by unfold wErr; rw [if_neg (by omega), if_pos (by omega)]
      have e2 : wNew zs = [] := by unfold wNew; rw [if_neg (by omega)]
      rw [e1, e2]
      clear e1 e2 hr ha
      have g1 : ((n : Int) == 0) = false := by simp; omega
      have g2 : (256 : Int) < (n : Int) := by omega
      go_enter Try.func20, Try.ntmps20
      go_wp2
      go_ret2
      exact ⟨_, rfl, World.ownsRow_nil _ _ _ _, After.rfl⟩
  · obtain rfl : n = 0 := by omega
    have e1 : wErr zs = 2 := by unfold wErr; rw [if_pos (by omega)]
    have e2 : wNew zs = [] := by unfold wNew; rw [if_neg (by omega)]
    rw [e1, e2]
    clear e1 e2 hr ha
    go_enter Try.func20, Try.ntmps20
    go_wp2
    go_ret2
    exact ⟨_, rfl, World.ownsRow_nil _ _ _ _, After.rfl⟩
end Go.Proofs.Ytmdbpoknehafaaa
