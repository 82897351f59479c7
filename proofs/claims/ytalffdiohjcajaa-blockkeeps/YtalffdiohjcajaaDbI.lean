/-
  Package block: a device's calls of all arguments; a device that the call made; awake.
-/
import Derived.Test.YtalffdiohjcajaaDbH
import Derived.Test.YtalffdiohjcajaaDbD
namespace Go.Proofs.Ytalffdiohjcajaa
open Go.RowKit
set_option maxRecDepth 8000
theorem writeE_live {x : Dv} (hd : x.dead = false) (i : Int) (b : List Int) : x.writeE i b = if x.may i b then (if x.left = 0 then 220 else 0) else 2 := by
  unfold Dv.writeE
  rw [hd, if_neg (by decide)]
theorem writeS_live {x : Dv} (hd : x.dead = false) (i : Int) (b : List Int) : x.writeS i b = if x.may i b then (if x.left = 0 then x.go else x.go.put i.toNat b) else x := by
  unfold Dv.writeS
  rw [hd, if_neg (by decide)]
theorem flushE_live {x : Dv} (hd : x.dead = false) : x.flushE = if x.left = 0 then 220 else 0 := by
  unfold Dv.flushE
  rw [hd, if_neg (by decide)]
theorem flushS_live {x : Dv} (hd : x.dead = false) : x.flushS = if x.left = 0 then x.go else x.go.flushed := by
  unfold Dv.flushS
  rw [hd, if_neg (by decide)]
theorem readE_live {x : Dv} (hd : x.dead = false) (i : Int) : x.readE i = if 0 ≤ i ∧ i < x.n then 0 else 2 := by
  unfold Dv.readE
  rw [hd, if_neg (by decide)]
theorem DvX.write {w : World} {d g m : Nat} {x : Dv} (h : DvX w d g m x) (i : Int) (a : Option Addr) (n c : Nat) (b : List Int) (hr : Row w a n b) (ha : ∀ y, a = some y → y.block ≠ d) :
    Calls Try.prog 12 #[Ptr d, .int .i64 i, .slice a n c] w fun e w' => e = .returned (.int .i64 (x.writeE i b)) ∧ DvX w' d g m (x.writeS i b) ∧ But (InD d g m) w w' := by
  by_cases hE : x.dead = true ∨ ¬ x.may i b
  · refine (dvWrite_no h i a n c b hr.1 hE).mono ?_
    rintro e w' ⟨rfl, rfl⟩
    refine ⟨rfl, ?_, But.rfl⟩
    rw [show x.writeS i b = x by
      unfold Dv.writeS
      rcases hE with hE | hE
      · rw [hE]; rfl
      · rw [if_neg hE]; split <;> rfl]
    exact h
  · have hd : x.dead = false := by
      cases e : x.dead with
      | false => rfl
      | true => exact absurd (.inl e) hE
    have hm : x.may i b := by
      by_cases e : x.may i b
      · exact e
      · exact absurd (.inr e) hE
    obtain ⟨h0, h1, h2⟩ := hm
    obtain ⟨j, rfl⟩ : ∃ j : Nat, i = j := ⟨i.toNat, by omega⟩
    have hj : j < x.n := by omega
    have hn : n = 64 := hr.1.symm.trans h2
    subst hn
    obtain ⟨q, off, ea, _⟩ := hr.2.2 0 (by omega)
    subst ea
    by_cases hl : x.left = 0
    · have eE : x.writeE j b = 220 := by rw [writeE_live hd, if_pos (show x.may j b from ⟨h0, h1, h2⟩), if_pos hl]
      have eS : x.writeS j b = x.go := by rw [writeS_live hd, if_pos (show x.may j b from ⟨h0, h1, h2⟩), if_pos hl]
      rw [eE, eS]
      refine (dvWrite_die h hj hd hl _ c).mono ?_
      rintro e w' ⟨rfl, h', b'⟩
      exact ⟨rfl, h', b'.mono (fun k _ e => .inl e)⟩
    · have eE : x.writeE j b = 0 := by rw [writeE_live hd, if_pos (show x.may j b from ⟨h0, h1, h2⟩), if_neg hl]
      have eS : x.writeS j b = x.go.put j b := by rw [writeS_live hd, if_pos (show x.may j b from ⟨h0, h1, h2⟩), if_neg hl]; rfl
      rw [eE, eS]
      refine (dvWrite_yes h hj hd hl q off c b hr (ha _ rfl)).mono ?_
      rintro e w' ⟨rfl, h', b'⟩
      exact ⟨rfl, h', b'.mono (fun k _ e => by rcases e with e | e; exact .inl e; exact .inr (.inr e))⟩
theorem DvX.flush {w : World} {d g m : Nat} {x : Dv} (h : DvX w d g m x) :
    Calls Try.prog 14 #[Ptr d] w fun e w' => e = .returned (.int .i64 x.flushE) ∧ DvX w' d g m x.flushS ∧ But (InD d g m) w w' := by
  cases hd : x.dead with
  | true =>
    have eE : x.flushE = 220 := by unfold Dv.flushE; rw [hd]; rfl
    have eS : x.flushS = x := by unfold Dv.flushS; rw [hd]; rfl
    rw [eE, eS]
    refine (dvFlush_dead h hd).mono ?_
    rintro e w' ⟨rfl, rfl⟩
    exact ⟨rfl, h, But.rfl⟩
  | false =>
    by_cases hl : x.left = 0
    · have eE : x.flushE = 220 := by rw [flushE_live hd, if_pos hl]
      have eS : x.flushS = x.go := by rw [flushS_live hd, if_pos hl]
      rw [eE, eS]
      refine (dvFlush_die h hd hl).mono ?_
      rintro e w' ⟨rfl, h', b'⟩
      exact ⟨rfl, h', b'.mono (fun k _ e => .inl e)⟩
    · have eE : x.flushE = 0 := by rw [flushE_live hd, if_neg hl]
      have eS : x.flushS = x.go.flushed := by rw [flushS_live hd, if_neg hl]
      rw [eE, eS]
      exact dvFlush_yes h hd hl
/-- What is answered of a sector. -/
def Ansd (w : World) (B : Nat) (v : Value) (b : List Int) : Prop := (v = .slice none 0 0 ∧ b = []) ∨ ∃ q, v = .slice (some ⟨q, 0, none⟩) 64 64 ∧ SecAt w q b ∧ B ≤ q ∧ Sec b
def Dv.readB (x : Dv) (i : Int) : List Int := if x.readE i = 0 then x.last i.toNat else []
theorem DvX.read {w : World} {d g m : Nat} {x : Dv} (h : DvX w d g m x) (i : Int) :
    Calls Try.prog 18 #[Ptr d, .int .i64 i] w fun e w' => ∃ v, e = .returned (.tuple #[v, .int .i64 (x.readE i)]) ∧ Ansd w' w.heap.size v (x.readB i) ∧ After w w' := by
  by_cases hE : x.readE i = 0
  · have hd : x.dead = false := by
      cases e : x.dead with
      | false => rfl
      | true => unfold Dv.readE at hE; rw [e] at hE; cases hE
    have hi : 0 ≤ i ∧ i < x.n := by
      by_cases e : 0 ≤ i ∧ i < x.n
      · exact e
      · rw [readE_live hd, if_neg e] at hE
        cases hE
    obtain ⟨j, rfl⟩ : ∃ j : Nat, i = j := ⟨i.toNat, by omega⟩
    unfold Dv.readB
    rw [if_pos hE, hE, Int.toNat_natCast]
    refine (dvRead_yes h hd (i := j) (by omega)).mono ?_
    rintro e w' ⟨q, rfl, h1, h2, h3⟩
    exact ⟨_, rfl, .inr ⟨q, rfl, h1, h2, h.ok.s j⟩, h3⟩
  · unfold Dv.readB
    rw [if_neg hE]
    refine (dvRead_no h i hE).mono ?_
    rintro e w' ⟨rfl, rfl⟩
    exact ⟨_, rfl, .inl ⟨rfl, rfl⟩, After.rfl⟩
/-- A device that was made behind w0. -/
structure Sole (w0 w : World) (d g m : Nat) (x : Dv) : Prop where
  dv : DvX w d g m x
  af : After w0 w
  new : ∀ k, InD d g m k → w0.heap.size ≤ k
theorem Sole.step {w0 w w' : World} {d g m : Nat} {x x' : Dv} (s : Sole w0 w d g m x) (h : DvX w' d g m x') (b : But (InD d g m) w w') : Sole w0 w' d g m x' :=
  ⟨h, s.af.then b (fun k hk e => by have := s.new k e; omega), s.new⟩
theorem Sole.after {w0 w w' : World} {d g m : Nat} {x : Dv} (s : Sole w0 w d g m x) (a : After w w') : Sole w0 w' d g m x := ⟨s.dv.after a, s.af.trans a, s.new⟩
theorem sole_new (w : World) (n : Nat) (h0 : 1 ≤ n) (h1 : n ≤ 256) : Calls Try.prog 8 #[.int .i64 n] w fun e w' => ∃ d g m, e = .returned (.tuple #[Ptr d, .int .i64 0]) ∧ Sole w w' d g m (Dv.new n) := by
  refine (dvNew_ok w n h0 h1).mono ?_
  rintro e w' ⟨rfl, h, a⟩
  exact ⟨_, _, _, rfl, h, a, fun k hk => by rcases hk with rfl | rfl | rfl <;> omega⟩
/-- The row that all yields, as what is written. -/
theorem Sole.write {w0 w : World} {d g m : Nat} {x : Dv} (s : Sole w0 w d g m x) (i : Int) (a : Option Addr) (n c : Nat) (b : List Int) (hr : Row w a n b) (ha : ∀ y, a = some y → y.block ≠ d) :
    Calls Try.prog 12 #[Ptr d, .int .i64 i, .slice a n c] w fun e w' => e = .returned (.int .i64 (x.writeE i b)) ∧ Sole w0 w' d g m (x.writeS i b) :=
  (s.dv.write i a n c b hr ha).mono (fun _ _ h => ⟨h.1, s.step h.2.1 h.2.2⟩)
theorem Sole.flush {w0 w : World} {d g m : Nat} {x : Dv} (s : Sole w0 w d g m x) :
    Calls Try.prog 14 #[Ptr d] w fun e w' => e = .returned (.int .i64 x.flushE) ∧ Sole w0 w' d g m x.flushS :=
  s.dv.flush.mono (fun _ _ h => ⟨h.1, s.step h.2.1 h.2.2⟩)
theorem Sole.boot {w0 w : World} {d g m : Nat} {x : Dv} (s : Sole w0 w d g m x) (v : Value) (ch : List Int) (hv : Lft w g v ch 0) :
    Calls Try.prog 17 #[Ptr d, v] w fun e w' => e = .returned (.int .i64 0) ∧ Sole w0 w' d g m (x.boot ch) :=
  (dvBoot s.dv v ch hv).mono (fun _ _ h => ⟨h.1, s.step h.2.1 h.2.2⟩)
theorem Sole.read {w0 w : World} {d g m : Nat} {x : Dv} (s : Sole w0 w d g m x) (i : Int) :
    Calls Try.prog 18 #[Ptr d, .int .i64 i] w fun e w' => ∃ v, e = .returned (.tuple #[v, .int .i64 (x.readE i)]) ∧ Ansd w' w.heap.size v (x.readB i) ∧ After w w' ∧ Sole w0 w' d g m x :=
  (s.dv.read i).mono (fun _ _ ⟨v, h1, h2, h3⟩ => ⟨v, h1, h2, h3, s.after h3⟩)
theorem Sole.arm {w0 w : World} {d g m : Nat} {x : Dv} (s : Sole w0 w d g m x) (n : Int) (h0 : -9223372036854775808 ≤ n) (h1 : n ≤ 9223372036854775807) :
    Calls Try.prog 19 #[Ptr d, .int .i64 n] w fun e w' => e = .returned (.int .i64 x.chk) ∧ Sole w0 w' d g m (x.armS n) :=
  (dvArm s.dv n h0 h1).mono (fun _ _ h => ⟨h.1, s.step h.2.1 (h.2.2.mono (fun _ _ e => .inl e))⟩)
theorem Sole.crash {w0 w : World} {d g m : Nat} {x : Dv} (s : Sole w0 w d g m x) :
    Calls Try.prog 15 #[Ptr d] w fun e w' => e = .returned (.int .i64 x.chk) ∧ Sole w0 w' d g m x.die :=
  (dvCrash s.dv).mono (fun _ _ h => ⟨h.1, s.step h.2.1 (h.2.2.mono (fun _ _ e => .inl e))⟩)
theorem Sole.dead {w0 w : World} {d g m : Nat} {x : Dv} (s : Sole w0 w d g m x) :
    Calls Try.prog 16 #[Ptr d] w fun e w' => e = .returned (.bool x.dead) ∧ w' = w := dvDead s.dv
theorem lft_row {w : World} {g : Nat} {a : Option Addr} {n c : Nat} {ch : List Int} (h : IRow w a n ch) (hc : n ≤ c) (hg : ∀ y, a = some y → 0 < n → y.block ≠ g) : Lft w g (.slice a n c) ch 0 :=
  ⟨a, c, by rw [Nat.sub_zero, h.1], by rw [h.1]; omega, fun q hq => by
    obtain ⟨b, off, rfl, hb, hcell⟩ := h.2 q (by have := h.1; omega)
    refine ⟨b, off, rfl, hg _ rfl (by have := h.1; omega), hb, ?_⟩
    rw [Nat.zero_add]
    exact hcell⟩
def aw0 : Dv := Dv.new 2
def aw1 : Dv := aw0.writeS 0 (allB 1)
def aw2 : Dv := aw1.flushS
def aw3 : Dv := aw2.writeS 0 (allB 2)
def aw4 : Dv := aw3.boot [11]
theorem aw_says : aw0.writeE 0 (allB 1) = 0 ∧ aw1.flushE = 0 ∧ aw2.writeE 0 (allB 2) = 0 ∧ aw4.readE 0 = 0 ∧ (aw4.readB 0)[3]? = some 2 ∧ (aw4.readB 0)[4]? = some 1 := by
  refine ⟨rfl, rfl, rfl, rfl, rfl, rfl⟩
set_option maxHeartbeats 1000000 in
theorem awakeB_any (w : World) : Calls Try.prog 10 #[] w fun e w' => e = .returned (.bool true) ∧ After w w' := by
  have HN := hideIt (sole_new w 2 (by omega) (by omega))
  obtain ⟨e1, e2, e3, e4, e5, e6⟩ := aw_says
  have S1 := hideIt (fun W d g m (s : Sole w W d g m aw0) a n c (hr : Row W a n (allB 1)) ha => s.write 0 a n c _ hr ha)
  have S2 := hideIt (fun W d g m (s : Sole w W d g m aw1) => s.flush)
  have S3 := hideIt (fun W d g m (s : Sole w W d g m aw2) a n c (hr : Row W a n (allB 2)) ha => s.write 0 a n c _ hr ha)
  have S5 := hideIt (fun W d g m (s : Sole w W d g m aw4) => s.read 0)
  rw [e1] at S1
  rw [e2] at S2
  rw [e3] at S3
  rw [e4] at S5
  have HE := hideIt (And.intro e5 e6)
  clear e1 e2 e3 e4 e5 e6
  go_enter Try.func10, Try.ntmps10
  go_wp2_with fail
  refine HN.out.mono ?_
  rintro e w1 ⟨d, g, m, rfl, s0⟩
  have X0 := hideIt s0
  clear s0 HN
  go_wp2_with fail
  refine (all_any w1 1).mono ?_
  rintro e w2 ⟨q1, rfl, r1, n1, a1⟩
  have X1 := hideIt (And.intro r1 (And.intro (X0.out.after a1) (show q1 ≠ d by have := X0.out.dv.lt d (.inl rfl); omega)))
  clear r1 n1 a1
  go_wp2_with fail
  refine (S1.out w2 d g m X1.out.2.1 _ _ 64 X1.out.1 (fun y hy => by cases hy; exact X1.out.2.2)).mono ?_
  rintro e w3 ⟨rfl, s1⟩
  have X2 := hideIt s1
  clear s1 X1 S1
  go_wp2_with fail
  refine (S2.out w3 d g m X2.out).mono ?_
  rintro e w4 ⟨rfl, s2⟩
  have X3 := hideIt s2
  clear s2 X2 S2
  go_wp2_with fail
  refine (all_any w4 2).mono ?_
  rintro e w5 ⟨q2, rfl, r2, n2, a2⟩
  have X4 := hideIt (And.intro r2 (And.intro (X3.out.after a2) (show q2 ≠ d by have := X3.out.dv.lt d (.inl rfl); omega)))
  clear r2 n2 a2
  go_wp2_with fail
  refine (S3.out w5 d g m X4.out.2.1 _ _ 64 X4.out.1 (fun y hy => by cases hy; exact X4.out.2.2)).mono ?_
  rintro e w6 ⟨rfl, s3⟩
  have X5 := hideIt s3
  clear s3 X4 S3
  go_wp2_with fail
  obtain ⟨W7, h7⟩ : ∃ W, W = w6.alloc (.cells #[.int .i64 11] 3) := ⟨_, rfl⟩
  have a7 : After w6 W7 := by rw [h7]; exact After.rfl.alloc _
  have k7 : W7.heap[w6.heap.size]? = some (.cells #[.int .i64 11] 3 (0, 0)) := by rw [h7]; exact heap_alloc_new w6 _
  rw [← h7]
  have l7 : Lft W7 g (.slice (some ⟨w6.heap.size, 0, none⟩) 1 1) [11] 0 := lft_row (lit_irow k7 rfl rfl) (Nat.le_refl _) (fun y hy _ => by cases hy; have := X5.out.dv.lt g (.inr (.inl rfl)); show w6.heap.size ≠ g; omega)
  refine ((X5.out.after a7).boot _ _ l7).mono ?_
  rintro e w8 ⟨rfl, s8⟩
  have X6 := hideIt s8
  clear s8 X5 h7 a7 k7 l7
  go_wp2_with fail
  refine (S5.out w8 d g m X6.out).mono ?_
  rintro e w9 ⟨v, rfl, an, a9, s9⟩
  have hA := s9.af
  rcases an with ⟨_, e0⟩ | ⟨q, rfl, hs, _, _⟩
  · have h3 := HE.out.1
    rw [e0] at h3
    cases h3
  have c3 : w9.cell? ⟨q, 3, none⟩ = some (.int .u8 2) := blk_cell hs (by
    rw [List.getElem?_toArray]
    unfold u8s
    rw [List.getElem?_map, HE.out.1]
    rfl)
  have c4 : w9.cell? ⟨q, 4, none⟩ = some (.int .u8 1) := blk_cell hs (by
    rw [List.getElem?_toArray]
    unfold u8s
    rw [List.getElem?_map, HE.out.2]
    rfl)
  have HA := hideIt hA
  clear hs a9 s9 hA X6 S5 HE
  go_wp2_with fail
  go_ret
  exact ⟨rfl, HA.out⟩
end Go.Proofs.Ytalffdiohjcajaa
