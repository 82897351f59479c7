/-
  The same of any coder, whether it reads or writes: numbers, octets, must, either.
-/
import Derived.Test.YtigiakhdaaoljaaPassO
namespace Go.Proofs.Ytigiakhdaaoljaa
open Go.RowKit
set_option maxRecDepth 8000
/-- A coder has gone on to zs. -/
def Went (w w' : World) (p q : Option Addr) (m : Bool) (S : Nat → Prop) (zs : List Int) : Prop := ∃ S', Cod w' p q m zs S' ∧ Stp S w S' w'
theorem c_u8 (w : World) (p q : Option Addr) (m : Bool) (zs : List Int) (S : Nat → Prop) (x : Int) (c : Cod w p q m zs S) (hl : m = true → zs.length ≤ 1000000000) :
    Calls Try.prog 90 #[Co p q, .int .i64 x] w fun e w' => Ends (num m 1 255 x zs) (fun y ys => e = .returned (.int .i64 y) ∧ Went w w' p q m S ys) (fun c => e = .panicked (Halt c) ∧ But S w w') := by
  rcases c.is with ⟨rfl, g, h, rfl, rfl, r, rfl⟩ | ⟨rfl, g, v, rfl, rfl, r, rfl⟩
  · refine (u8_r w g h zs x r).mono ?_
    intro e w1 h1
    rcases h1.split with ⟨c, e1, rfl, b⟩ | ⟨y, ys, e1, rfl, r1, b⟩
    · exact Ends.bad e1 ⟨rfl, b.mono (fun i _ hi => .inl hi)⟩
    · exact Ends.ok e1 ⟨rfl, rd_step r1 b⟩
  · refine (u8_w w g v zs x r (hl rfl)).mono ?_
    intro e w1 h1
    rcases h1.split with ⟨c, e1, rfl, b⟩ | ⟨y, ys, e1, rfl, r1⟩
    · exact Ends.bad e1 ⟨rfl, b⟩
    · exact Ends.ok e1 ⟨rfl, wr_step r1⟩
theorem c_u16 (w : World) (p q : Option Addr) (m : Bool) (zs : List Int) (S : Nat → Prop) (x : Int) (c : Cod w p q m zs S) (hl : m = true → zs.length ≤ 1000000000) :
    Calls Try.prog 64 #[Co p q, .int .i64 x] w fun e w' => Ends (num m 2 65535 x zs) (fun y ys => e = .returned (.int .i64 y) ∧ Went w w' p q m S ys) (fun c => e = .panicked (Halt c) ∧ But S w w') := by
  rcases c.is with ⟨rfl, g, h, rfl, rfl, r, rfl⟩ | ⟨rfl, g, v, rfl, rfl, r, rfl⟩
  · refine (u16_r w g h zs x r).mono ?_
    intro e w1 h1
    rcases h1.split with ⟨c, e1, rfl, b⟩ | ⟨y, ys, e1, rfl, r1, b⟩
    · exact Ends.bad e1 ⟨rfl, b.mono (fun i _ hi => .inl hi)⟩
    · exact Ends.ok e1 ⟨rfl, rd_step r1 b⟩
  · refine (u16_w w g v zs x r (hl rfl)).mono ?_
    intro e w1 h1
    rcases h1.split with ⟨c, e1, rfl, b⟩ | ⟨y, ys, e1, rfl, r1⟩
    · exact Ends.bad e1 ⟨rfl, b⟩
    · exact Ends.ok e1 ⟨rfl, wr_step r1⟩
theorem c_u32 (w : World) (p q : Option Addr) (m : Bool) (zs : List Int) (S : Nat → Prop) (x : Int) (c : Cod w p q m zs S) (hl : m = true → zs.length ≤ 1000000000) (h0 : 0 ≤ x) (h1 : x < 4294967296) :
    Calls Try.prog 84 #[Co p q, .int .u32 x] w fun e w' => Ends (num m 4 4294967295 x zs) (fun y ys => e = .returned (.int .u32 y) ∧ Went w w' p q m S ys) (fun c => e = .panicked (Halt c) ∧ But S w w') := by
  rcases c.is with ⟨rfl, g, h, rfl, rfl, r, rfl⟩ | ⟨rfl, g, v, rfl, rfl, r, rfl⟩
  · refine (u32_r w g h zs x r).mono ?_
    intro e w1 h1
    rcases h1.split with ⟨c, e1, rfl, b⟩ | ⟨y, ys, e1, rfl, r1, b⟩
    · exact Ends.bad e1 ⟨rfl, b.mono (fun i _ hi => .inl hi)⟩
    · exact Ends.ok e1 ⟨rfl, rd_step r1 b⟩
  · refine (u32_w w g v zs x r (hl rfl) h0 h1).mono ?_
    intro e w1 h1
    rcases h1.split with ⟨c, e1, rfl, b⟩ | ⟨y, ys, e1, rfl, r1⟩
    · exact Ends.bad e1 ⟨rfl, b⟩
    · exact Ends.ok e1 ⟨rfl, wr_step r1⟩
theorem c_must (w : World) (p q : Option Addr) (m : Bool) (zs : List Int) (S : Nat → Prop) (b : Bool) (c : Cod w p q m zs S) :
    Calls Try.prog 42 #[Co p q, .bool b] w fun e w' => (b = true ∧ e = .returned (.tuple #[]) ∨ b = false ∧ e = .panicked (Halt (stp m 4))) ∧ After w w' := by
  cases b with
  | false =>
    refine (must_no w p q).mono ?_
    rintro e w1 ⟨rfl, h⟩
    rw [c.mode]
    exact ⟨.inr ⟨rfl, rfl⟩, h⟩
  | true =>
    refine (must_yes w p q).mono ?_
    rintro e w1 ⟨rfl, h⟩
    exact ⟨.inl ⟨rfl, rfl⟩, h⟩
theorem c_stop (w : World) (p q : Option Addr) (m : Bool) (zs : List Int) (S : Nat → Prop) (x : Int) (c : Cod w p q m zs S) :
    Calls Try.prog 27 #[Co p q, .int .i64 x] w fun e w' => e = .panicked (Halt (stp m x)) ∧ After w w' := by
  have := stop_any w p q x
  rw [c.mode] at this
  exact this
/-- One of two numbers of one byte. -/
def eit (m : Bool) (so : Bool) (y n : Int) (zs : List Int) : Except Int (Bool × List Int) :=
  thn (num m 1 255 (if so then y else n) zs) fun v zs => if v = y ∨ v = n then .ok (decide (v = y), zs) else .error (stp m 4)
theorem eit_len {m so : Bool} {y n : Int} {b : Bool} {zs ys : List Int} (h : eit m so y n zs = .ok (b, ys)) : ys.length ≤ zs.length + 1 := by
  unfold eit at h
  cases hr : num m 1 255 (if so then y else n) zs with
  | error c => rw [thn_bad hr] at h; cases h
  | ok x =>
    obtain ⟨v, us⟩ := x
    rw [thn_ok hr] at h
    split at h
    · cases h; exact num_len hr
    · cases h
theorem c_either (w : World) (p q : Option Addr) (m : Bool) (zs : List Int) (S : Nat → Prop) (so : Bool) (y n : Int) (c : Cod w p q m zs S) (hl : m = true → zs.length ≤ 1000000000) :
    Calls Try.prog 83 #[Co p q, .bool so, .int .i64 y, .int .i64 n] w fun e w' => Ends (eit m so y n zs) (fun b ys => e = .returned (.bool b) ∧ Went w w' p q m S ys) (fun c => e = .panicked (Halt c) ∧ But S w w') := by
  have hA : After w (w.alloc (.cells #[.pointer p, .pointer q] 52)) := After.rfl.alloc _
  obtain ⟨v, hv⟩ : ∃ v, (if so then y else n) = v := ⟨_, rfl⟩
  have HP := hideIt (c_u8 _ p q m zs S v (c.after hA) hl)
  have HV := hideIt c.lt
  have HA := hideIt hA
  have hE : eit m so y n zs = thn (num m 1 255 v zs) fun v zs => if v = y ∨ v = n then .ok (decide (v = y), zs) else .error (stp m 4) := by rw [← hv]; rfl
  have HE := hideIt hE
  clear hl hA hE c
  cases so with
  | true =>
    have hv' : y = v := hv
    subst hv'
    clear hv
    go_enter Try.func83, Try.ntmps83
    go_wp2_with fail
    refine HP.out.mono ?_
    intro e w1 h1
    rcases h1.split with ⟨c, e1, rfl, b⟩ | ⟨x, ys, e1, rfl, S1, c1, s1⟩
    · exact ⟨rfl, Ends.bad (by rw [HE.out, thn_bad e1]) ⟨rfl, HA.out.but.trans b⟩⟩
    · obtain ⟨hc0, hc1⟩ := boxed1 HV.out s1.but
      have HM := hideIt (c_must w1 p q m ys S1 true c1)
      have HM' := hideIt (c_must w1 p q m ys S1 false c1)
      have HC := hideIt c1
      have HS := hideIt s1
      have HE' := hideIt (HE.out.trans (thn_ok e1))
      clear c1 s1 h1 e1 HP HE
      by_cases k1 : x = y
      · have k1' : (x == y) = true := by simpa using k1
        have E := hideIt (HE'.out.trans (if_pos (.inl k1)))
        have kd : decide (x = y) = true := decide_eq_true k1
        rw [kd] at E
        clear k1 kd HE'
        go_wp2_with (go_at_call 42; refine HM.out.mono ?_; rintro e w2 ⟨h, h2⟩; rcases h with ⟨_, rfl⟩ | ⟨h, _⟩; case' inr => cases h)
        go_ret
        exact Ends.ok E.out ⟨rfl, S1, HC.out.after h2, (Stp.behind HA.out HS.out).after h2⟩
      · have k1' : (x == y) = false := by simpa using k1
        have kd : decide (x = y) = false := decide_eq_false k1
        by_cases k2 : x = n
        · have k2' : (x == n) = true := by simpa using k2
          have E := hideIt (HE'.out.trans (if_pos (.inr k2)))
          rw [kd] at E
          clear k1 k2 kd HE'
          go_wp2_with (go_at_call 42; refine HM.out.mono ?_; rintro e w2 ⟨h, h2⟩; rcases h with ⟨_, rfl⟩ | ⟨h, _⟩; case' inr => cases h)
          go_ret
          exact Ends.ok E.out ⟨rfl, S1, HC.out.after h2, (Stp.behind HA.out HS.out).after h2⟩
        · have k2' : (x == n) = false := by simpa using k2
          have E := hideIt (HE'.out.trans (if_neg (fun h => h.elim k1 k2)))
          clear k1 k2 kd HE'
          go_wp2_with (go_at_call 42; refine HM'.out.mono ?_; rintro e w2 ⟨h, h2⟩; rcases h with ⟨h, _⟩ | ⟨_, rfl⟩; case' inl => cases h)
          exact ⟨rfl, Ends.bad E.out ⟨rfl, (HA.out.but.trans HS.out.but).trans h2.but⟩⟩
  | false =>
    have hv' : n = v := hv
    subst hv'
    clear hv
    go_enter Try.func83, Try.ntmps83
    go_wp2_with fail
    refine HP.out.mono ?_
    intro e w1 h1
    rcases h1.split with ⟨c, e1, rfl, b⟩ | ⟨x, ys, e1, rfl, S1, c1, s1⟩
    · exact ⟨rfl, Ends.bad (by rw [HE.out, thn_bad e1]) ⟨rfl, HA.out.but.trans b⟩⟩
    · obtain ⟨hc0, hc1⟩ := boxed1 HV.out s1.but
      have HM := hideIt (c_must w1 p q m ys S1 true c1)
      have HM' := hideIt (c_must w1 p q m ys S1 false c1)
      have HC := hideIt c1
      have HS := hideIt s1
      have HE' := hideIt (HE.out.trans (thn_ok e1))
      clear c1 s1 h1 e1 HP HE
      by_cases k1 : x = y
      · have k1' : (x == y) = true := by simpa using k1
        have E := hideIt (HE'.out.trans (if_pos (.inl k1)))
        have kd : decide (x = y) = true := decide_eq_true k1
        rw [kd] at E
        clear k1 kd HE'
        go_wp2_with (go_at_call 42; refine HM.out.mono ?_; rintro e w2 ⟨h, h2⟩; rcases h with ⟨_, rfl⟩ | ⟨h, _⟩; case' inr => cases h)
        go_ret
        exact Ends.ok E.out ⟨rfl, S1, HC.out.after h2, (Stp.behind HA.out HS.out).after h2⟩
      · have k1' : (x == y) = false := by simpa using k1
        have kd : decide (x = y) = false := decide_eq_false k1
        by_cases k2 : x = n
        · have k2' : (x == n) = true := by simpa using k2
          have E := hideIt (HE'.out.trans (if_pos (.inr k2)))
          rw [kd] at E
          clear k1 k2 kd HE'
          go_wp2_with (go_at_call 42; refine HM.out.mono ?_; rintro e w2 ⟨h, h2⟩; rcases h with ⟨_, rfl⟩ | ⟨h, _⟩; case' inr => cases h)
          go_ret
          exact Ends.ok E.out ⟨rfl, S1, HC.out.after h2, (Stp.behind HA.out HS.out).after h2⟩
        · have k2' : (x == n) = false := by simpa using k2
          have E := hideIt (HE'.out.trans (if_neg (fun h => h.elim k1 k2)))
          clear k1 k2 kd HE'
          go_wp2_with (go_at_call 42; refine HM'.out.mono ?_; rintro e w2 ⟨h, h2⟩; rcases h with ⟨h, _⟩ | ⟨_, rfl⟩; case' inl => cases h)
          exact ⟨rfl, Ends.bad E.out ⟨rfl, (HA.out.but.trans HS.out.but).trans h2.but⟩⟩
end Go.Proofs.Ytigiakhdaaoljaa
