/-
  Laid together: PassO, Cods, Ones, Trip.
-/
import Derived.Test.YthcfdoafncbliaaGreatB03
import Derived.Laws.MakeOwn
import Derived.Laws.CopyOwn
/-
  Octets, by a coder.
-/
namespace Go.Proofs.YthcfdoafncbliaaGreat
open Go.RowKit
set_option maxRecDepth 8000
theorem oct_cw (w : World) (g : Nat) (v : Value) (zs : List Int) (a : Option Addr) (n c : Nat) (bs : List Int) (r : WrAt w g v zs) (rb : Row w a n bs) (ha : a = none → n = 0 ∧ c = 0) (hs : ∀ y, a = some y → 0 < n → ¬ Own g v y.block) (hn : n ≤ 140737488355328) (hl : zs.length ≤ 1000000000) :
    Calls Tryz.prog 82 #[Co none (some ⟨g, 0, none⟩), .slice a n c] w fun e w' => Ends (oct true bs zs) (fun ys us => ys = bs ∧ e = .returned (.slice a n c) ∧ WrTo w w' g v us) (fun c => e = .panicked (Halt c) ∧ But (Own g v) w w') := by
  have hA : After w ((w.alloc (.cells #[.pointer none, .pointer (some ⟨g, 0, none⟩)] 79)).alloc (.cells #[.pointer none, .pointer (some ⟨g, 0, none⟩)] 79)) := (After.rfl.alloc _).alloc _
  have HP := hideIt (wOctets_any _ g v zs a n c bs (r.after hA) (rb.after hA) ha hs hn (by omega))
  have hg := (two_at r.1).1
  have hv : ∀ k, Own g v k → k < w.heap.size := fun k hk => hk.elim (fun e => by rw [e]; exact hg) (fun e => (r.2.1.lt k e).2)
  have HV := hideIt hv
  have HA := hideIt hA
  by_cases hx : bs.length ≤ 65535
  · obtain ⟨e1, e2⟩ := wo_yes hx
    rw [e1, e2] at HP
    have E0 := hideIt (oct_w (zs := zs) hx)
    clear r hl hA hg hv e1 e2 hx ha hs hn rb
    go_enter Tryz.func82, Tryz.ntmps82
    go_wp2_with (first | (go_at_call 92; go_in) | (go_at_call 94; refine HP.out.mono ?_; rintro e w1 ⟨rfl, h1⟩; have H1 := hideIt h1; clear h1))
    go_ret
    exact Ends.ok E0.out ⟨rfl, rfl, WrTo.behind HA.out H1.out⟩
  · obtain ⟨e1, e2⟩ := wo_no hx
    rw [e1, e2] at HP
    have E0 := hideIt (oct_wn (zs := zs) hx)
    clear r hl hA hg hv e1 e2 hx ha hs hn rb
    go_enter Tryz.func82, Tryz.ntmps82
    go_wp2_with (first | (go_at_call 92; go_in) | (go_at_call 94; refine HP.out.mono ?_; rintro e w1 ⟨rfl, h1⟩; obtain ⟨v1, _, b1, _⟩ := h1; have hc := boxed HV.out b1; have H1 := hideIt b1; clear b1) | (go_at_call 41; refine (stop_any _ _ _ _).mono ?_; rintro e w2 ⟨rfl, h2⟩; have H2 := hideIt h2; clear h2))
    exact ⟨rfl, And.intro rfl (Ends.bad E0.out ⟨rfl, (HA.out.but.trans H1.out).trans H2.out.but⟩)⟩
theorem oct_cr (w : World) (g h : Nat) (zs : List Int) (x : Value) (r : RdAt w g h zs) (bs : List Int) :
    Calls Tryz.prog 82 #[Co (some ⟨g, 0, none⟩) none, x] w fun e w' => Ends (oct false bs zs) (fun ys us => (∃ y, e = .returned y ∧ w'.ownsRow w.heap.size 5 1 y ys.length (u8s ys)) ∧ RdAt w' g h us ∧ But (One g) w w') (fun c => e = .panicked (Halt c) ∧ But (One g) w w') := by
  have hA : After w ((w.alloc (.cells #[.pointer (some ⟨g, 0, none⟩), .pointer none] 79)).alloc (.cells #[.pointer (some ⟨g, 0, none⟩), .pointer none] 79)) := (After.rfl.alloc _).alloc _
  have HP := hideIt (octets_any _ g h zs (r.after hA))
  have hg := r.lt
  have hv : ∀ k, One g k → k < w.heap.size := fun k hk => by rw [hk]; exact hg
  have HV := hideIt hv
  have HA := hideIt hA
  by_cases hx : ocIs zs = true
  · have e1 : ocErr zs = 0 := if_pos hx
    rw [e1] at HP
    have E0 := hideIt (oct_r (v := bs) hx)
    clear r hA hg hv hx e1
    go_enter Tryz.func82, Tryz.ntmps82
    go_wp2_with (first | (go_at_call 92; go_in) | (go_at_call 93; refine HP.out.mono ?_; rintro e w1 ⟨y, rfl, ho, h1, h2⟩; obtain ⟨ya, yc, rfl⟩ := own_slice ho; have HO := hideIt ho; have H1 := hideIt h1; have H2 := hideIt h2; clear ho h1 h2))
    go_ret
    exact Ends.ok E0.out ⟨⟨_, rfl, own_base HO.out (fun k e => Nat.le_trans HA.out.size (HO.out.lt k e).1)⟩, H1.out, HA.out.but.trans H2.out⟩
  · have e1 : ocErr zs = 3 := if_neg hx
    rw [e1] at HP
    have E0 := hideIt (oct_rn (v := bs) hx)
    clear r hA hg hv hx e1
    go_enter Tryz.func82, Tryz.ntmps82
    go_wp2_with (first | (go_at_call 92; go_in) | (go_at_call 93; refine HP.out.mono ?_; rintro e w1 ⟨y, rfl, ho, _, b1⟩; obtain ⟨ya, yc, rfl⟩ := own_slice ho; clear ho; have hc := boxed HV.out b1; have H1 := hideIt b1; clear b1) | (go_at_call 41; refine (stop_any _ _ _ _).mono ?_; rintro e w2 ⟨rfl, h2⟩; have H2 := hideIt h2; clear h2))
    exact ⟨rfl, And.intro rfl (Ends.bad E0.out ⟨rfl, (HA.out.but.trans H1.out).trans H2.out.but⟩)⟩
end Go.Proofs.YthcfdoafncbliaaGreat
/-
  The same of any coder, whether it reads or writes: numbers, octets, must, either.
-/
namespace Go.Proofs.YthcfdoafncbliaaGreat
open Go.RowKit
set_option maxRecDepth 8000
/-- A coder has gone on to zs. -/
def Went (w w' : World) (p q : Option Addr) (m : Bool) (S : Nat → Prop) (zs : List Int) : Prop := ∃ S', Cod w' p q m zs S' ∧ Stp S w S' w'
theorem c_u8 (w : World) (p q : Option Addr) (m : Bool) (zs : List Int) (S : Nat → Prop) (x : Int) (c : Cod w p q m zs S) (hl : m = true → zs.length ≤ 1000000000) :
    Calls Tryz.prog 106 #[Co p q, .int .i64 x] w fun e w' => Ends (num m 1 255 x zs) (fun y ys => e = .returned (.int .i64 y) ∧ Went w w' p q m S ys) (fun c => e = .panicked (Halt c) ∧ But S w w') := by
  rcases c.is with ⟨rfl, g, h, rfl, rfl, r, rfl⟩ | ⟨rfl, g, v, rfl, rfl, r, rfl⟩
  · refine (u8_r w g h zs x r).mono ?_
    intro e w1 h1
    rcases h1.split with ⟨c, e1, rfl, b⟩ | ⟨y, ys, e1, rfl, r1, b⟩
    · exact Ends.bad e1 ⟨rfl, b.mono (fun i _ hi => .inl hi)⟩
    · exact Ends.ok e1 ⟨rfl, rd_step r1 b⟩
  · refine (u8_w w g v zs x r (hl rfl)).mono ?_
    intro e w1 h1
    rcases h1.split with ⟨c, e1, rfl, b⟩ | ⟨y, ys, e1, rfl, r1⟩
    · exact Ends.bad e1 ⟨rfl, b⟩
    · exact Ends.ok e1 ⟨rfl, wr_step r1⟩
theorem c_u16 (w : World) (p q : Option Addr) (m : Bool) (zs : List Int) (S : Nat → Prop) (x : Int) (c : Cod w p q m zs S) (hl : m = true → zs.length ≤ 1000000000) :
    Calls Tryz.prog 81 #[Co p q, .int .i64 x] w fun e w' => Ends (num m 2 65535 x zs) (fun y ys => e = .returned (.int .i64 y) ∧ Went w w' p q m S ys) (fun c => e = .panicked (Halt c) ∧ But S w w') := by
  rcases c.is with ⟨rfl, g, h, rfl, rfl, r, rfl⟩ | ⟨rfl, g, v, rfl, rfl, r, rfl⟩
  · refine (u16_r w g h zs x r).mono ?_
    intro e w1 h1
    rcases h1.split with ⟨c, e1, rfl, b⟩ | ⟨y, ys, e1, rfl, r1, b⟩
    · exact Ends.bad e1 ⟨rfl, b.mono (fun i _ hi => .inl hi)⟩
    · exact Ends.ok e1 ⟨rfl, rd_step r1 b⟩
  · refine (u16_w w g v zs x r (hl rfl)).mono ?_
    intro e w1 h1
    rcases h1.split with ⟨c, e1, rfl, b⟩ | ⟨y, ys, e1, rfl, r1⟩
    · exact Ends.bad e1 ⟨rfl, b⟩
    · exact Ends.ok e1 ⟨rfl, wr_step r1⟩
theorem c_u32 (w : World) (p q : Option Addr) (m : Bool) (zs : List Int) (S : Nat → Prop) (x : Int) (c : Cod w p q m zs S) (hl : m = true → zs.length ≤ 1000000000) (h0 : 0 ≤ x) (h1 : x < 4294967296) :
    Calls Tryz.prog 101 #[Co p q, .int .u32 x] w fun e w' => Ends (num m 4 4294967295 x zs) (fun y ys => e = .returned (.int .u32 y) ∧ Went w w' p q m S ys) (fun c => e = .panicked (Halt c) ∧ But S w w') := by
  rcases c.is with ⟨rfl, g, h, rfl, rfl, r, rfl⟩ | ⟨rfl, g, v, rfl, rfl, r, rfl⟩
  · refine (u32_r w g h zs x r).mono ?_
    intro e w1 h1
    rcases h1.split with ⟨c, e1, rfl, b⟩ | ⟨y, ys, e1, rfl, r1, b⟩
    · exact Ends.bad e1 ⟨rfl, b.mono (fun i _ hi => .inl hi)⟩
    · exact Ends.ok e1 ⟨rfl, rd_step r1 b⟩
  · refine (u32_w w g v zs x r (hl rfl) h0 h1).mono ?_
    intro e w1 h1
    rcases h1.split with ⟨c, e1, rfl, b⟩ | ⟨y, ys, e1, rfl, r1⟩
    · exact Ends.bad e1 ⟨rfl, b⟩
    · exact Ends.ok e1 ⟨rfl, wr_step r1⟩
theorem c_must (w : World) (p q : Option Addr) (m : Bool) (zs : List Int) (S : Nat → Prop) (b : Bool) (c : Cod w p q m zs S) :
    Calls Tryz.prog 60 #[Co p q, .bool b] w fun e w' => (b = true ∧ e = .returned (.tuple #[]) ∨ b = false ∧ e = .panicked (Halt (stp m 4))) ∧ After w w' := by
  cases b with
  | false =>
    refine (must_no w p q).mono ?_
    rintro e w1 ⟨rfl, h⟩
    rw [c.mode]
    exact ⟨.inr ⟨rfl, rfl⟩, h⟩
  | true =>
    refine (must_yes w p q).mono ?_
    rintro e w1 ⟨rfl, h⟩
    exact ⟨.inl ⟨rfl, rfl⟩, h⟩
theorem c_stop (w : World) (p q : Option Addr) (m : Bool) (zs : List Int) (S : Nat → Prop) (x : Int) (c : Cod w p q m zs S) :
    Calls Tryz.prog 41 #[Co p q, .int .i64 x] w fun e w' => e = .panicked (Halt (stp m x)) ∧ After w w' := by
  have := stop_any w p q x
  rw [c.mode] at this
  exact this
/-- One of two numbers of one byte. -/
def eit (m : Bool) (so : Bool) (y n : Int) (zs : List Int) : Except Int (Bool × List Int) :=
  thn (num m 1 255 (if so then y else n) zs) fun v zs => if v = y ∨ v = n then .ok (decide (v = y), zs) else .error (stp m 4)
theorem eit_len {m so : Bool} {y n : Int} {b : Bool} {zs ys : List Int} (h : eit m so y n zs = .ok (b, ys)) : ys.length ≤ zs.length + 1 := by
  unfold eit at h
  cases hr : num m 1 255 (if so then y else n) zs with
  | error c => rw [thn_bad hr] at h; cases h
  | ok x =>
    obtain ⟨v, us⟩ := x
    rw [thn_ok hr] at h
    split at h
    · cases h; exact num_len hr
    · cases h
theorem c_either (w : World) (p q : Option Addr) (m : Bool) (zs : List Int) (S : Nat → Prop) (so : Bool) (y n : Int) (c : Cod w p q m zs S) (hl : m = true → zs.length ≤ 1000000000) :
    Calls Tryz.prog 100 #[Co p q, .bool so, .int .i64 y, .int .i64 n] w fun e w' => Ends (eit m so y n zs) (fun b ys => e = .returned (.bool b) ∧ Went w w' p q m S ys) (fun c => e = .panicked (Halt c) ∧ But S w w') := by
  have hA : After w (w.alloc (.cells #[.pointer p, .pointer q] 79)) := After.rfl.alloc _
  obtain ⟨v, hv⟩ : ∃ v, (if so then y else n) = v := ⟨_, rfl⟩
  have HP := hideIt (c_u8 _ p q m zs S v (c.after hA) hl)
  have HV := hideIt c.lt
  have HA := hideIt hA
  have hE : eit m so y n zs = thn (num m 1 255 v zs) fun v zs => if v = y ∨ v = n then .ok (decide (v = y), zs) else .error (stp m 4) := by rw [← hv]; rfl
  have HE := hideIt hE
  clear hl hA hE c
  cases so with
  | true =>
    have hv' : y = v := hv
    subst hv'
    clear hv
    go_enter Tryz.func100, Tryz.ntmps100
    go_wp2_with fail
    refine HP.out.mono ?_
    intro e w1 h1
    rcases h1.split with ⟨c, e1, rfl, b⟩ | ⟨x, ys, e1, rfl, S1, c1, s1⟩
    · exact ⟨rfl, Ends.bad (by rw [HE.out, thn_bad e1]) ⟨rfl, HA.out.but.trans b⟩⟩
    · obtain ⟨hc0, hc1⟩ := boxed1 HV.out s1.but
      have HM := hideIt (c_must w1 p q m ys S1 true c1)
      have HM' := hideIt (c_must w1 p q m ys S1 false c1)
      have HC := hideIt c1
      have HS := hideIt s1
      have HE' := hideIt (HE.out.trans (thn_ok e1))
      clear c1 s1 h1 e1 HP HE
      by_cases k1 : x = y
      · have k1' : (x == y) = true := by simpa using k1
        have E := hideIt (HE'.out.trans (if_pos (.inl k1)))
        have kd : decide (x = y) = true := decide_eq_true k1
        rw [kd] at E
        clear k1 kd HE'
        go_wp2_with (go_at_call 60; refine HM.out.mono ?_; rintro e w2 ⟨h, h2⟩; rcases h with ⟨_, rfl⟩ | ⟨h, _⟩; case' inr => cases h)
        go_ret
        exact Ends.ok E.out ⟨rfl, S1, HC.out.after h2, (Stp.behind HA.out HS.out).after h2⟩
      · have k1' : (x == y) = false := by simpa using k1
        have kd : decide (x = y) = false := decide_eq_false k1
        by_cases k2 : x = n
        · have k2' : (x == n) = true := by simpa using k2
          have E := hideIt (HE'.out.trans (if_pos (.inr k2)))
          rw [kd] at E
          clear k1 k2 kd HE'
          go_wp2_with (go_at_call 60; refine HM.out.mono ?_; rintro e w2 ⟨h, h2⟩; rcases h with ⟨_, rfl⟩ | ⟨h, _⟩; case' inr => cases h)
          go_ret
          exact Ends.ok E.out ⟨rfl, S1, HC.out.after h2, (Stp.behind HA.out HS.out).after h2⟩
        · have k2' : (x == n) = false := by simpa using k2
          have E := hideIt (HE'.out.trans (if_neg (fun h => h.elim k1 k2)))
          clear k1 k2 kd HE'
          go_wp2_with (go_at_call 60; refine HM'.out.mono ?_; rintro e w2 ⟨h, h2⟩; rcases h with ⟨h, _⟩ | ⟨_, rfl⟩; case' inl => cases h)
          exact ⟨rfl, Ends.bad E.out ⟨rfl, (HA.out.but.trans HS.out.but).trans h2.but⟩⟩
  | false =>
    have hv' : n = v := hv
    subst hv'
    clear hv
    go_enter Tryz.func100, Tryz.ntmps100
    go_wp2_with fail
    refine HP.out.mono ?_
    intro e w1 h1
    rcases h1.split with ⟨c, e1, rfl, b⟩ | ⟨x, ys, e1, rfl, S1, c1, s1⟩
    · exact ⟨rfl, Ends.bad (by rw [HE.out, thn_bad e1]) ⟨rfl, HA.out.but.trans b⟩⟩
    · obtain ⟨hc0, hc1⟩ := boxed1 HV.out s1.but
      have HM := hideIt (c_must w1 p q m ys S1 true c1)
      have HM' := hideIt (c_must w1 p q m ys S1 false c1)
      have HC := hideIt c1
      have HS := hideIt s1
      have HE' := hideIt (HE.out.trans (thn_ok e1))
      clear c1 s1 h1 e1 HP HE
      by_cases k1 : x = y
      · have k1' : (x == y) = true := by simpa using k1
        have E := hideIt (HE'.out.trans (if_pos (.inl k1)))
        have kd : decide (x = y) = true := decide_eq_true k1
        rw [kd] at E
        clear k1 kd HE'
        go_wp2_with (go_at_call 60; refine HM.out.mono ?_; rintro e w2 ⟨h, h2⟩; rcases h with ⟨_, rfl⟩ | ⟨h, _⟩; case' inr => cases h)
        go_ret
        exact Ends.ok E.out ⟨rfl, S1, HC.out.after h2, (Stp.behind HA.out HS.out).after h2⟩
      · have k1' : (x == y) = false := by simpa using k1
        have kd : decide (x = y) = false := decide_eq_false k1
        by_cases k2 : x = n
        · have k2' : (x == n) = true := by simpa using k2
          have E := hideIt (HE'.out.trans (if_pos (.inr k2)))
          rw [kd] at E
          clear k1 k2 kd HE'
          go_wp2_with (go_at_call 60; refine HM.out.mono ?_; rintro e w2 ⟨h, h2⟩; rcases h with ⟨_, rfl⟩ | ⟨h, _⟩; case' inr => cases h)
          go_ret
          exact Ends.ok E.out ⟨rfl, S1, HC.out.after h2, (Stp.behind HA.out HS.out).after h2⟩
        · have k2' : (x == n) = false := by simpa using k2
          have E := hideIt (HE'.out.trans (if_neg (fun h => h.elim k1 k2)))
          clear k1 k2 kd HE'
          go_wp2_with (go_at_call 60; refine HM'.out.mono ?_; rintro e w2 ⟨h, h2⟩; rcases h with ⟨h, _⟩ | ⟨_, rfl⟩; case' inl => cases h)
          exact ⟨rfl, Ends.bad E.out ⟨rfl, (HA.out.but.trans HS.out.but).trans h2.but⟩⟩
end Go.Proofs.YthcfdoafncbliaaGreat
/-
  One number of an object, one object, by a coder.
-/
namespace Go.Proofs.YthcfdoafncbliaaGreat
open Go.RowKit
set_option maxRecDepth 8000
/-- A number of an object. -/
structure Bi where
  h : Int
  l : Bool
  b : Int
/-- An object. -/
structure Ob where
  h : Int
  u : Int
  l : Bool
def Bi.val (o : Bi) : Value := .agg #[.int .i64 o.h, .bool o.l, .int .u32 o.b]
def Ob.val (o : Ob) : Value := .agg #[.int .i64 o.h, .int .i64 o.u, .bool o.l]
/-- A number of an object, gone through. -/
def obs1 (m : Bool) (o : Bi) (zs : List Int) : Except Int (Bi × List Int) :=
  thn (num m 2 65535 o.h zs) fun h zs => thn (eit m o.l 4 2 zs) fun l zs => thn (if l then num m 4 4294967295 o.b zs else num m 2 65535 o.b zs) fun b zs => .ok (⟨h, l, b⟩, zs)
/-- An object, gone through; hs: the handles ahead of it. -/
def obj1 (m : Bool) (hs : List Int) (o : Ob) (zs : List Int) : Except Int (Ob × List Int) :=
  thn (num m 2 65535 o.h zs) fun h zs => if h ∈ hs then .error (stp m 4) else thn (num m 2 65535 o.u zs) fun u zs => thn (eit m o.l 1 0 zs) fun l zs => .ok (⟨h, u, l⟩, zs)
theorem num_bound {m : Bool} {k M : Nat} {v x : Int} {zs ys : List Int} (h : num m k M v zs = .ok (x, ys)) (hb : Bs zs) (hk : 256 ^ k ≤ (M : Int) + 1) : 0 ≤ x ∧ x ≤ M := by
  unfold num at h
  split at h
  · split at h
    · cases h; assumption
    · cases h
  · split at h
    · rename_i hl
      cases h
      have := be_bound hb k hl
      omega
    · cases h
/-- The blocks from n up to m are not a coder's. -/
def Off (S : Nat → Prop) (n m : Nat) : Prop := ∀ k, S k → k < n ∨ m ≤ k
theorem Off.step {S S' : Nat → Prop} {w w' : World} {n m : Nat} (f : Off S n m) (s : Stp S w S' w') (h : m ≤ w.heap.size) : Off S' n m := fun k hk => (s.new k hk).elim (f k) (fun h' => .inr (Nat.le_trans h h'))
theorem Off.old {S : Nat → Prop} {w : World} (h : ∀ k, S k → k < w.heap.size) (m : Nat) : Off S w.heap.size m := fun k hk => .inl (h k hk)
theorem blk {S : Nat → Prop} {w w' : World} {n m k : Nat} {o : Obj} (b : But S w w') (f : Off S n m) (h1 : n ≤ k) (h2 : k < m) (h : w.heap[k]? = some o) : w'.heap[k]? = some o :=
  (b.block k (Array.getElem?_eq_some_iff.1 h).1 (fun hk => (f k hk).elim (fun h' => by omega) (fun h' => by omega))).trans h
theorem new1 (w : World) (a : Obj) : (w.alloc a).heap[w.heap.size]? = some a := heap_alloc_new w a
theorem new_past (w : World) (a : Obj) {k : Nat} {o : Obj} (h : w.heap[k]? = some o) : (w.alloc a).heap[k]? = some o := (Below.heap_alloc _ _ _ (Array.getElem?_eq_some_iff.1 h).1).trans h
theorem new2 (w : World) (a b : Obj) : ((w.alloc a).alloc b).heap[w.heap.size]? = some a ∧ ((w.alloc a).alloc b).heap[w.heap.size + 1]? = some b :=
  ⟨new_past _ _ (new1 w a), by have := new1 (w.alloc a) b; rw [World.size_alloc] at this; exact this⟩
theorem new3 (w : World) (a b c : Obj) : (((w.alloc a).alloc b).alloc c).heap[w.heap.size]? = some a ∧ (((w.alloc a).alloc b).alloc c).heap[w.heap.size + 1]? = some b ∧ (((w.alloc a).alloc b).alloc c).heap[w.heap.size + 1 + 1]? = some c :=
  ⟨new_past _ _ (new2 w a b).1, new_past _ _ (new2 w a b).2, by have := new1 ((w.alloc a).alloc b) c; rw [World.size_alloc, World.size_alloc] at this; exact this⟩
theorem set_far {w : World} {g k : Nat} {x : Value} {o : Nat} {ob : Obj} (h : w.heap[k]? = some ob) (hn : k ≠ g) : (w.setCell ⟨g, o, none⟩ x).heap[k]? = some ob := (Below.heap_setCell _ _ _ _ hn).trans h
theorem Cod.set {w : World} {p q : Option Addr} {m : Bool} {zs : List Int} {S : Nat → Prop} (c : Cod w p q m zs S) {g : Nat} (hg : ¬ S g) (o : Nat) (x : Value) : Cod (w.setCell ⟨g, o, none⟩ x) p q m zs S :=
  c.but (T := One g) (But.set (S := One g) But.rfl ⟨g, o, none⟩ (fun _ => rfl) x) (fun k hk h => hg (by rw [← h]; exact hk))
theorem three_at {w : World} {g : Nat} {T : TypeId} {x y z : Value} (h : w.heap[g]? = some (.cells #[x, y, z] T (0, 0))) :
    g < w.heap.size ∧ w.cell? ⟨g, 0, none⟩ = some x ∧ w.cell? ⟨g, 1, none⟩ = some y ∧ w.cell? ⟨g, 2, none⟩ = some z ∧ w.frozen? ⟨g, 0, none⟩ = false ∧ w.frozen? ⟨g, 1, none⟩ = false ∧ w.frozen? ⟨g, 2, none⟩ = false := by
  refine ⟨(Array.getElem?_eq_some_iff.1 h).1, ?_, ?_, ?_, ?_, ?_, ?_⟩
  · simp [World.cell?, h]
  · simp [World.cell?, h]
  · simp [World.cell?, h]
  · simp [World.frozen?, h]
  · simp [World.frozen?, h]
  · simp [World.frozen?, h]
theorem three_set0 {w : World} {g : Nat} {T : TypeId} {x y z : Value} (h : w.heap[g]? = some (.cells #[x, y, z] T (0, 0))) (v : Value) : (w.setCell ⟨g, 0, none⟩ v).heap[g]? = some (.cells #[v, y, z] T (0, 0)) := by
  simp [World.setCell, Array.getElem?_modify, h]
theorem three_set1 {w : World} {g : Nat} {T : TypeId} {x y z : Value} (h : w.heap[g]? = some (.cells #[x, y, z] T (0, 0))) (v : Value) : (w.setCell ⟨g, 1, none⟩ v).heap[g]? = some (.cells #[x, v, z] T (0, 0)) := by
  simp [World.setCell, Array.getElem?_modify, h]
theorem three_set2 {w : World} {g : Nat} {T : TypeId} {x y z : Value} (h : w.heap[g]? = some (.cells #[x, y, z] T (0, 0))) (v : Value) : (w.setCell ⟨g, 2, none⟩ v).heap[g]? = some (.cells #[x, y, v] T (0, 0)) := by
  simp [World.setCell, Array.getElem?_modify, h]
/-- What is stored into a new block is as if nothing was. -/
theorem But.new {S : Nat → Prop} {w w' : World} (b : But S w w') {g : Nat} (hg : w.heap.size ≤ g) (o : Nat) (x : Value) : But S w (w'.setCell ⟨g, o, none⟩ x) := b.set _ (fun h => absurd h (by simp; omega)) x
theorem Stp.newly {S S' : Nat → Prop} {w w' : World} (b : Stp S w S' w') {g : Nat} (hg : w.heap.size ≤ g) (o : Nat) (x : Value) : Stp S w S' (w'.setCell ⟨g, o, none⟩ x) := ⟨b.but.new hg o x, b.new⟩
theorem c_obs (w : World) (p q : Option Addr) (m : Bool) (zs : List Int) (S : Nat → Prop) (o : Bi) (c : Cod w p q m zs S) (hl : m = true → zs.length ≤ 999999990) (hb : 0 ≤ o.b ∧ o.b < 4294967296) :
    Calls Tryz.prog 88 #[Co p q, o.val] w fun e w' => Ends (obs1 m o zs) (fun x ys => e = .returned x.val ∧ Went w w' p q m S ys) (fun c => e = .panicked (Halt c) ∧ But S w w') := by
  obtain ⟨oh, ol, ob⟩ := o
  show Calls Tryz.prog 88 #[Co p q, .agg #[.int .i64 oh, .bool ol, .int .u32 ob]] w _
  have hA : After w (((w.alloc (.cells #[.pointer p, .pointer q] 79)).alloc (.cells #[.int .i64 oh, .bool ol, .int .u32 ob] 54)).alloc (.cells #[.int .i64 0, .bool false, .int .u32 0] 54)) := ((After.rfl.alloc _).alloc _).alloc _
  obtain ⟨b0, b1, b2⟩ := new3 w (.cells #[.pointer p, .pointer q] 79) (.cells #[.int .i64 oh, .bool ol, .int .u32 ob] 54) (.cells #[.int .i64 0, .bool false, .int .u32 0] 54)
  have f0 : Off S w.heap.size (w.heap.size + 3) := Off.old c.lt _
  have HE := hideIt (show obs1 m ⟨oh, ol, ob⟩ zs = thn (num m 2 65535 oh zs) fun h zs => thn (eit m ol 4 2 zs) fun l zs => thn (if l then num m 4 4294967295 ob zs else num m 2 65535 ob zs) fun b zs => .ok (⟨h, l, b⟩, zs) from rfl)
  have H1 := hideIt (c_u16 _ p q m zs S oh (c.after hA) (fun h => by have := hl h; omega))
  have hb' : 0 ≤ ob ∧ ob < 4294967296 := hb
  have hw1 : IntKind.i64.wrap ob = ob := by rw [IntKind.wrap_i64]; omega
  have HX := hideIt (And.intro hA (And.intro b0 (And.intro b1 (And.intro b2 (And.intro f0 hl)))))
  have HB := hideIt hb
  clear hA b0 b1 b2 f0 hl c hb hb'
  go_enter Tryz.func88, Tryz.ntmps88
  go_wp2_with fail
  refine H1.out.mono ?_
  clear H1
  intro e w1 h1
  obtain ⟨hA, b0, b1, b2, f0, hl⟩ := HX.out
  rcases h1.split with ⟨c1, e1, rfl, t⟩ | ⟨x1, z1, e1, rfl, S1, k1, s1⟩
  · exact ⟨rfl, Ends.bad (by rw [HE.out, thn_bad e1]) ⟨rfl, hA.but.trans t⟩⟩
  have q1_0 := blk s1.but f0 (by omega) (by omega) b0
  have q1_1 := blk s1.but f0 (by omega) (by omega) b1
  have q1_2 := blk s1.but f0 (by omega) (by omega) b2
  have f1 := f0.step s1 (by simp; try omega)
  obtain ⟨_, c1_0_0, c1_0_1, z1_0_0, z1_0_1⟩ := two_at q1_0
  obtain ⟨_, c1_1_0, c1_1_1, c1_1_2, z1_1_0, z1_1_1, z1_1_2⟩ := three_at q1_1
  obtain ⟨_, c1_2_0, c1_2_1, c1_2_2, z1_2_0, z1_2_1, z1_2_2⟩ := three_at q1_2
  have r1_0 := set_far (g := w.heap.size + 1) (o := 0) (x := .int .i64 x1) q1_0 (by omega)
  have r1_1 := three_set0 q1_1 (.int .i64 x1)
  have r1_2 := set_far (g := w.heap.size + 1) (o := 0) (x := .int .i64 x1) q1_2 (by omega)
  have k1' := k1.set (g := w.heap.size + 1) (fun h => by have := f1 _ h; omega) 0 (.int .i64 x1)
  have t1 := num_len e1
  have HE1 := hideIt (HE.out.trans (thn_ok e1))
  have HT1 := hideIt (Stp.behind hA s1)
  have H2 := hideIt (c_either _ p q m z1 S1 ol 4 2 k1' (fun h => by have := hl h; omega))
  have HX1 := hideIt (And.intro f1 (And.intro r1_0 (And.intro r1_1 (And.intro r1_2 (And.intro t1 (And.intro hl (And.intro s1.but.size hA.size)))))))
  clear HX h1 hA b0 b1 b2 f0 hl e1 k1 s1 q1_0 q1_1 q1_2 f1 r1_0 r1_1 r1_2 k1' t1 HE
  go_wp2_with fail
  refine H2.out.mono ?_
  clear H2
  intro e w2 h2
  obtain ⟨f1, r1_0, r1_1, r1_2, t1, hl, z1s, z2s⟩ := HX1.out
  rw [World.size_alloc, World.size_alloc, World.size_alloc] at z1s
  rcases h2.split with ⟨c2, e2, rfl, t⟩ | ⟨x2, z2, e2, rfl, S2, k2, s2⟩
  · exact ⟨rfl, Ends.bad (by rw [HE1.out, thn_bad e2]) ⟨rfl, (HT1.out.newly (by omega) _ _).ends t⟩⟩
  have q2_0 := blk s2.but f1 (by omega) (by omega) r1_0
  have q2_1 := blk s2.but f1 (by omega) (by omega) r1_1
  have q2_2 := blk s2.but f1 (by omega) (by omega) r1_2
  have f2 := f1.step s2 (by simp [World.setCell]; try omega)
  obtain ⟨_, c2_0_0, c2_0_1, z2_0_0, z2_0_1⟩ := two_at q2_0
  obtain ⟨_, c2_1_0, c2_1_1, c2_1_2, z2_1_0, z2_1_1, z2_1_2⟩ := three_at q2_1
  obtain ⟨_, c2_2_0, c2_2_1, c2_2_2, z2_2_0, z2_2_1, z2_2_2⟩ := three_at q2_2
  have r2_0 := set_far (g := w.heap.size + 1) (o := 1) (x := .bool x2) q2_0 (by omega)
  have r2_1 := three_set1 q2_1 (.bool x2)
  have r2_2 := set_far (g := w.heap.size + 1) (o := 1) (x := .bool x2) q2_2 (by omega)
  have k2' := k2.set (g := w.heap.size + 1) (fun h => by have := f2 _ h; omega) 1 (.bool x2)
  have t2 := eit_len e2
  have HE2 := hideIt (HE1.out.trans (thn_ok e2))
  have HT2 := hideIt ((HT1.out.newly (g := w.heap.size + 1) (by omega) 0 (.int .i64 x1)).trans s2)
  have HK2 := hideIt (And.intro k2' k2.bs)
  have HX2 := hideIt (And.intro f2 (And.intro r2_0 (And.intro r2_1 (And.intro r2_2 (And.intro (show m = true → z2.length ≤ 1000000000 from fun h => by have := hl h; omega) (And.intro s2.but.size z1s))))))
  clear HX1 h2 f1 r1_0 r1_1 r1_2 t1 hl e2 k2 s2 q2_0 q2_1 q2_2 f2 r2_0 r2_1 r2_2 k2' t2 HE1 HT1 z1s z2s c1_0_0 c1_0_1 c1_1_0 c1_1_1 c1_1_2 c1_2_0 c1_2_1 c1_2_2 z1_0_0 z1_0_1 z1_1_0 z1_1_1 z1_1_2 z1_2_0 z1_2_1 z1_2_2
  cases x2 with
  | true =>
    have H3 := hideIt (c_u32 _ p q m z2 S2 ob HK2.out.1 HX2.out.2.2.2.2.1 HB.out.1 HB.out.2)
    go_wp2_with fail
    refine H3.out.mono ?_
    clear H3
    intro e w3 h3
    obtain ⟨f2, r2_0, r2_1, r2_2, hl, z1s, z2s⟩ := HX2.out
    rw [World.size_setCell] at z1s
    rcases h3.split with ⟨c3, e3, rfl, t⟩ | ⟨x3, z3, e3, rfl, S3, k3, s3⟩
    · exact ⟨rfl, Ends.bad (HE2.out.trans (thn_bad e3)) ⟨rfl, (HT2.out.newly (by omega) _ _).ends t⟩⟩
    have q3_0 := blk s3.but f2 (by omega) (by omega) r2_0
    have q3_1 := blk s3.but f2 (by omega) (by omega) r2_1
    have q3_2 := blk s3.but f2 (by omega) (by omega) r2_2
    have f3 := f2.step s3 (by simp [World.setCell]; omega)
    obtain ⟨_, c3_0_0, c3_0_1, z3_0_0, z3_0_1⟩ := two_at q3_0
    obtain ⟨_, c3_1_0, c3_1_1, c3_1_2, z3_1_0, z3_1_1, z3_1_2⟩ := three_at q3_1
    obtain ⟨_, c3_2_0, c3_2_1, c3_2_2, z3_2_0, z3_2_1, z3_2_2⟩ := three_at q3_2
    have E := hideIt (HE2.out.trans (thn_ok e3))
    have HT3 := hideIt ((HT2.out.newly (g := w.heap.size + 1) (by omega) 1 (.bool true)).trans s3)
    have hw3 : IntKind.u32.wrap x3 = x3 := by have := num_bound e3 HK2.out.2 (by decide); rw [IntKind.wrap_u32]; omega
    have HK3 := hideIt (And.intro k3 f3)
    have HZ := hideIt (And.intro s3.but.size (And.intro z1s z2s))
    clear HX2 h3 f2 r2_0 r2_1 r2_2 hl z1s z2s e3 k3 s3 q3_0 q3_1 q3_2 f3 HE2 HT2 HK2
    go_wp2_with fail
    have f3 := HK3.out.2
    refine bodyPost_ret (v := .agg #[.int .i64 x1, .bool true, .int .u32 x3]) (by simp [results, Tryz.results88, go_sem, c3_2_0, c3_2_1, c3_2_2]) rfl (Ends.ok E.out ⟨rfl, S3, ?_, ?_⟩)
    · iterate 4 refine Cod.set ?_ (fun h => by have := f3 _ h; omega) _ _
      exact HK3.out.1
    · have := HZ.out
      iterate 4 refine Stp.newly ?_ (by omega) _ _
      exact HT3.out
  | false =>
    have H3 := hideIt (c_u16 _ p q m z2 S2 ob HK2.out.1 HX2.out.2.2.2.2.1)
    go_wp2_with fail
    refine H3.out.mono ?_
    clear H3
    intro e w3 h3
    obtain ⟨f2, r2_0, r2_1, r2_2, hl, z1s, z2s⟩ := HX2.out
    rw [World.size_setCell] at z1s
    rcases h3.split with ⟨c3, e3, rfl, t⟩ | ⟨x3, z3, e3, rfl, S3, k3, s3⟩
    · exact ⟨rfl, Ends.bad (HE2.out.trans (thn_bad e3)) ⟨rfl, (HT2.out.newly (by omega) _ _).ends t⟩⟩
    have q3_0 := blk s3.but f2 (by omega) (by omega) r2_0
    have q3_1 := blk s3.but f2 (by omega) (by omega) r2_1
    have q3_2 := blk s3.but f2 (by omega) (by omega) r2_2
    have f3 := f2.step s3 (by simp [World.setCell]; omega)
    obtain ⟨_, c3_0_0, c3_0_1, z3_0_0, z3_0_1⟩ := two_at q3_0
    obtain ⟨_, c3_1_0, c3_1_1, c3_1_2, z3_1_0, z3_1_1, z3_1_2⟩ := three_at q3_1
    obtain ⟨_, c3_2_0, c3_2_1, c3_2_2, z3_2_0, z3_2_1, z3_2_2⟩ := three_at q3_2
    have E := hideIt (HE2.out.trans (thn_ok e3))
    have HT3 := hideIt ((HT2.out.newly (g := w.heap.size + 1) (by omega) 1 (.bool false)).trans s3)
    have hw3 : IntKind.u32.wrap x3 = x3 := by have := num_bound e3 HK2.out.2 (by decide); rw [IntKind.wrap_u32]; omega
    have HK3 := hideIt (And.intro k3 f3)
    have HZ := hideIt (And.intro s3.but.size (And.intro z1s z2s))
    clear HX2 h3 f2 r2_0 r2_1 r2_2 hl z1s z2s e3 k3 s3 q3_0 q3_1 q3_2 f3 HE2 HT2 HK2
    go_wp2_with fail
    have f3 := HK3.out.2
    refine bodyPost_ret (v := .agg #[.int .i64 x1, .bool false, .int .u32 x3]) (by simp [results, Tryz.results88, go_sem, c3_2_0, c3_2_1, c3_2_2]) rfl (Ends.ok E.out ⟨rfl, S3, ?_, ?_⟩)
    · iterate 4 refine Cod.set ?_ (fun h => by have := f3 _ h; omega) _ _
      exact HK3.out.1
    · have := HZ.out
      iterate 4 refine Stp.newly ?_ (by omega) _ _
      exact HT3.out
end Go.Proofs.YthcfdoafncbliaaGreat
/-
  Rows of structs of three cells: made, copied, read, stored into.
-/
namespace Go.Proofs.YthcfdoafncbliaaGreat
open Go.RowKit
set_option maxRecDepth 8000
/-- Three cells. -/
abbrev T3 := Value × Value × Value
def cells3 : List T3 → List Value
  | [] => []
  | x :: r => x.1 :: x.2.1 :: x.2.2 :: cells3 r
def One3 (x : T3) : Prop := x.1.oneCell' = true ∧ x.2.1.oneCell' = true ∧ x.2.2.oneCell' = true
theorem cells3_length (xs : List T3) : (cells3 xs).length = xs.length * 3 := by
  induction xs with
  | nil => rfl
  | cons x r ih => simp only [cells3, List.length_cons, ih]; omega
theorem cells3_at (xs : List T3) (i : Nat) (x : T3) (h : xs[i]? = some x) : (cells3 xs)[i * 3]? = some x.1 ∧ (cells3 xs)[i * 3 + 1]? = some x.2.1 ∧ (cells3 xs)[i * 3 + 2]? = some x.2.2 := by
  induction xs generalizing i with
  | nil => simp at h
  | cons y r ih =>
    cases i with
    | zero => simp at h; subst h; exact ⟨rfl, rfl, rfl⟩
    | succ i =>
      have := ih i (by simpa using h)
      have e : (i + 1) * 3 = i * 3 + 1 + 1 + 1 := by omega
      rw [e]
      exact this
theorem cells3_set (xs : List T3) (i : Nat) (x : T3) : cells3 (xs.set i x) = (((cells3 xs).set (i * 3) x.1).set (i * 3 + 1) x.2.1).set (i * 3 + 2) x.2.2 := by
  induction xs generalizing i with
  | nil => rfl
  | cons y r ih =>
    cases i with
    | zero => rfl
    | succ i =>
      have e : (i + 1) * 3 = i * 3 + 1 + 1 + 1 := by omega
      rw [e]
      show y.1 :: y.2.1 :: y.2.2 :: cells3 (r.set i x) = _
      rw [ih]
      rfl
theorem cells3_append (xs ys : List T3) : cells3 (xs ++ ys) = cells3 xs ++ cells3 ys := by
  induction xs with
  | nil => rfl
  | cons x r ih => simp only [List.cons_append, cells3, ih]
theorem cells3_take (xs : List T3) (k : Nat) : (cells3 xs).take (k * 3) = cells3 (xs.take k) := by
  induction xs generalizing k with
  | nil => simp [cells3]
  | cons x r ih =>
    cases k with
    | zero => simp [cells3]
    | succ k =>
      have e : (k + 1) * 3 = k * 3 + 1 + 1 + 1 := by omega
      rw [e]
      simp only [cells3, List.take_succ_cons, ih]
theorem cells3_drop (xs : List T3) (k : Nat) : (cells3 xs).drop (k * 3) = cells3 (xs.drop k) := by
  induction xs generalizing k with
  | nil => simp [cells3]
  | cons x r ih =>
    cases k with
    | zero => simp
    | succ k =>
      have e : (k + 1) * 3 = k * 3 + 1 + 1 + 1 := by omega
      rw [e]
      simp only [cells3, List.drop_succ_cons, ih]
theorem cells3_one {xs : List T3} (h : ∀ x ∈ xs, One3 x) : ∀ v ∈ cells3 xs, v.oneCell' = true := by
  induction xs with
  | nil => intro v hv; cases hv
  | cons x r ih =>
    intro v hv
    have hx := h x (List.mem_cons_self ..)
    simp only [cells3, List.mem_cons] at hv
    rcases hv with rfl | rfl | rfl | hv
    · exact hx.1
    · exact hx.2.1
    · exact hx.2.2
    · exact ih (fun y hy => h y (List.mem_cons_of_mem _ hy)) v hv
theorem made3 (x y z : Value) (k : Nat) : madeCells #[x, y, z] (k * 3) = (cells3 (List.replicate k (x, y, z))).toArray := by
  apply Array.ext'
  apply List.ext_getElem?
  intro j
  by_cases hj : j < k * 3
  · obtain ⟨i, t, ht, rfl⟩ : ∃ i t, t < 3 ∧ j = i * 3 + t := ⟨j / 3, j % 3, by omega, by omega⟩
    have hi : i < k := by omega
    obtain ⟨e0, e1, e2⟩ := cells3_at (List.replicate k (x, y, z)) i (x, y, z) (by simp [hi])
    have hm : (i * 3 + t) % 3 = t := by omega
    have : t = 0 ∨ t = 1 ∨ t = 2 := by omega
    rcases this with rfl | rfl | rfl
    · simp only [Nat.add_zero] at *; rw [show ((cells3 (List.replicate k (x, y, z))).toArray.toList)[i * 3]? = some x from e0]; simp [madeCells]; exact ⟨i * 3, List.getElem?_range hj, by rw [hm]; rfl⟩
    · rw [show ((cells3 (List.replicate k (x, y, z))).toArray.toList)[i * 3 + 1]? = some y from e1]; simp [madeCells]; exact ⟨i * 3 + 1, List.getElem?_range hj, by rw [hm]; rfl⟩
    · rw [show ((cells3 (List.replicate k (x, y, z))).toArray.toList)[i * 3 + 2]? = some z from e2]; simp [madeCells]; exact ⟨i * 3 + 2, List.getElem?_range hj, by rw [hm]; rfl⟩
  · have h2 := cells3_length (List.replicate k (x, y, z))
    rw [List.length_replicate] at h2
    rw [List.getElem?_eq_none (by simp [madeCells]; omega), List.getElem?_eq_none (by simp; omega)]
/-- Structs lie where a slice of n places leads. -/
def RowT (w : World) (a : Option Addr) (n : Nat) (xs : List T3) : Prop :=
  xs.length = n ∧ ∀ i, i < n → ∃ b off x, a = some ⟨b, off, none⟩ ∧ b < w.heap.size ∧ xs[i]? = some x ∧ w.cell? ⟨b, off + i * 3, none⟩ = some x.1 ∧ w.cell? ⟨b, off + i * 3 + 1, none⟩ = some x.2.1 ∧ w.cell? ⟨b, off + i * 3 + 2, none⟩ = some x.2.2
theorem RowT.but {S : Nat → Prop} {w w' : World} {a n xs} (h : RowT w a n xs) (hb : But S w w') (hn : ∀ y, a = some y → 0 < n → ¬ S y.block) : RowT w' a n xs :=
  ⟨h.1, fun i hi => by
    obtain ⟨b, off, x, e, hl, hx, h1, h2, h3⟩ := h.2 i hi
    have := hn _ e (by omega)
    exact ⟨b, off, x, e, Nat.lt_of_lt_of_le hl hb.size, hx, by rw [hb.cell hl this]; exact h1, by rw [hb.cell hl this]; exact h2, by rw [hb.cell hl this]; exact h3⟩⟩
theorem RowT.after {w w' : World} {a n xs} (h : RowT w a n xs) (hb : After w w') : RowT w' a n xs := h.but hb (fun _ _ _ t => t)
theorem RowT.nil (w : World) (a : Option Addr) : RowT w a 0 [] := ⟨rfl, fun i hi => absurd hi (by omega)⟩
theorem cell_blk {w : World} {b i : Nat} {A : List Value} {T : TypeId} (h : w.heap[b]? = some (.cells A.toArray T (0, 0))) : w.cell? ⟨b, i, none⟩ = A[i]? := by
  simp [World.cell?, h]
theorem frozen_blk {w : World} {b : Nat} {A : Array Value} {T : TypeId} (h : w.heap[b]? = some (.cells A T (0, 0))) (i : Nat) : w.frozen? ⟨b, i, none⟩ = false := by
  simp [World.frozen?, h]
theorem RowT.of {w : World} {b : Nat} {xs : List T3} {T : TypeId} (h : w.heap[b]? = some (.cells (cells3 xs).toArray T (0, 0))) : RowT w (some ⟨b, 0, none⟩) xs.length xs :=
  ⟨rfl, fun i hi => by
    obtain ⟨e0, e1, e2⟩ := cells3_at xs i xs[i] (by simp [hi])
    refine ⟨b, 0, xs[i], rfl, (Array.getElem?_eq_some_iff.1 h).1, by simp [hi], ?_, ?_, ?_⟩
    · rw [cell_blk h, Nat.zero_add]; exact e0
    · rw [cell_blk h, Nat.zero_add]; exact e1
    · rw [cell_blk h, Nat.zero_add]; exact e2⟩
theorem blk_set {w : World} {b i : Nat} {A : List Value} {T : TypeId} (h : w.heap[b]? = some (.cells A.toArray T (0, 0))) (v : Value) : (w.setCell ⟨b, i, none⟩ v).heap[b]? = some (.cells (A.set i v).toArray T (0, 0)) := by
  simp [World.setCell, Array.getElem?_modify, h]
theorem blk_set3 {w : World} {b i : Nat} {xs : List T3} {T : TypeId} (h : w.heap[b]? = some (.cells (cells3 xs).toArray T (0, 0))) (x y z : Value) :
    (((w.setCell ⟨b, i * 3, none⟩ x).setCell ⟨b, i * 3 + 1, none⟩ y).setCell ⟨b, i * 3 + 2, none⟩ z).heap[b]? = some (.cells (cells3 (xs.set i (x, y, z))).toArray T (0, 0)) := by
  rw [cells3_set]
  exact blk_set (blk_set (blk_set h x) y) z
theorem run_copy3 {P : Program} (w : World) (dT sT ty elem : TypeId) (g dLen dCap : Nat) (a : Addr) (sLen sCap : Nat) (cur : Array Value) (t : TypeId) (cs : List Value)
    (hu : P.underlying dT = some (.slice elem)) (hs : (P.info? elem).map (·.size) = some 3)
    (hg : w.heap[g]? = some (.cells cur t (0, 0))) (hn : cs.length = Nat.min sLen dLen * 3)
    (hsrc : ∀ j v, cs[j]? = some v → w.cell? (a.add j) = some v) (hfit : 0 + cs.length ≤ cur.size) (h1 : ∀ v ∈ cs, v.oneCell' = true) :
    (Builtin.copy_ #[dT, sT] ty #[.slice (some ⟨g, 0, none⟩) dLen dCap, .slice (some a) sLen sCap]).run P w =
      .ok (goInt (Nat.min sLen dLen)) (w.setRow g (cur.toList.take 0 ++ cs ++ cur.toList.drop (0 + cs.length)).toArray) := by
  have hl := run_loadCells_list (P := P) w a cs hsrc
  have hst := run_storeCells_at P g 0 t cs 0 cur w hg (by simpa using hfit) h1
  cases hq : P.info? elem with
  | none => simp [hq] at hs
  | some i =>
    have hi : i.size = 3 := by simpa [hq] using hs
    rw [hn] at hl
    simp [Builtin.copy_, run_underlying hu, Builtin.lenOf, Builtin.firstCells, sizeOf, typeInfo, hq, hi, hl]
    have hst' := hst
    simp at hst'
    rw [hst']
    rfl
theorem run_copyAny {P : Program} (w : World) (dT sT ty elem : TypeId) (hu : P.underlying dT = some (.slice elem)) (hsz : (P.info? elem).map (·.size) = some 3)
    (g k kc : Nat) (sp : Option Addr) (sLen sCap : Nat) (t : TypeId) (xs ys : List T3)
    (hg : w.heap[g]? = some (.cells (cells3 xs).toArray t (0, 0))) (hx : xs.length = k) (hy : RowT w sp sLen ys) (h1 : ∀ y ∈ ys, One3 y) (hnil : sp = none → sLen = 0 ∧ sCap = 0) :
    ∃ w', (Builtin.copy_ #[dT, sT] ty #[.slice (some ⟨g, 0, none⟩) k kc, .slice sp sLen sCap]).run P w = .ok (goInt (Nat.min sLen k)) w' ∧ w'.heap[g]? = some (.cells (cells3 (ys.take k ++ xs.drop sLen)).toArray t (0, 0)) ∧ But (One g) w w' := by
  cases sp with
  | none =>
    obtain ⟨rfl, rfl⟩ := hnil rfl
    obtain rfl : ys = [] := List.eq_nil_of_length_eq_zero hy.1
    have hrun := run_copy_nil (P := P) w dT sT ty elem ⟨g, 0, none⟩ k kc hu (by cases h : P.info? elem <;> simp [h] at hsz ⊢)
    rw [show Nat.min 0 k = 0 by simp []]
    exact ⟨w, hrun, by simpa using hg, But.rfl⟩
  | some ad =>
    have hlen : (cells3 (ys.take k)).length = Nat.min sLen k * 3 := by
      rw [cells3_length, List.length_take, hy.1]; congr 1; simp [Nat.min_def]; split <;> split <;> omega
    have hrun := run_copy3 (P := P) w dT sT ty elem g k kc ad sLen sCap (cells3 xs).toArray t (cells3 (ys.take k)) hu hsz hg hlen (fun j v hj => by
      have hjl : j < (cells3 (ys.take k)).length := by
        rcases Nat.lt_or_ge j (cells3 (ys.take k)).length with h' | h'
        · exact h'
        · rw [List.getElem?_eq_none h'] at hj; cases hj
      rw [hlen] at hjl
      have hm : Nat.min sLen k ≤ sLen ∧ Nat.min sLen k ≤ k := ⟨Nat.min_le_left _ _, Nat.min_le_right _ _⟩
      obtain ⟨i, u, hu3, rfl⟩ : ∃ i u, u < 3 ∧ j = i * 3 + u := ⟨j / 3, j % 3, by omega, by omega⟩
      obtain ⟨b, off, x, e, hb, hxi, c0, c1, c2⟩ := hy.2 i (by omega)
      cases e
      obtain ⟨e0, e1, e2⟩ := cells3_at (ys.take k) i x (by rw [List.getElem?_take, if_pos (by omega)]; exact hxi)
      have hadd : ∀ q, (⟨b, off, none⟩ : Addr).add q = ⟨b, off + q, none⟩ := fun q => by unfold Addr.add; split <;> simp_all
      rw [hadd]
      have : u = 0 ∨ u = 1 ∨ u = 2 := by omega
      rcases this with rfl | rfl | rfl
      · rw [Nat.add_zero] at hj ⊢; rw [c0, ← hj, e0]
      · rw [← Nat.add_assoc, c1, ← hj, e1]
      · rw [← Nat.add_assoc, c2, ← hj, e2]) (by
        have := hlen
        have hm : Nat.min sLen k ≤ k := Nat.min_le_right _ _
        have h3 := cells3_length xs
        simp only [List.size_toArray]
        omega) (cells3_one (fun y hy' => h1 y (List.mem_of_mem_take hy')))
    refine ⟨w.setRow g ((cells3 xs).toArray.toList.take 0 ++ cells3 (ys.take k) ++ (cells3 xs).toArray.toList.drop (0 + (cells3 (ys.take k)).length)).toArray, hrun, (by
      have e := setRow_heap w g _ ((cells3 xs).toArray.toList.take 0 ++ cells3 (ys.take k) ++ (cells3 xs).toArray.toList.drop (0 + (cells3 (ys.take k)).length)).toArray t _ hg
      rw [e]
      congr 3
      rw [cells3_append]
      simp only [List.take_zero, List.nil_append, Nat.zero_add, hlen]
      congr 1
      rw [← cells3_drop]
      by_cases hk : sLen ≤ k
      · rw [show Nat.min sLen k = sLen by simp [hk]]
      · have h3 := cells3_length xs
        rw [show Nat.min sLen k = k by simp [Nat.min_def]; omega, List.drop_eq_nil_of_le (by omega), List.drop_eq_nil_of_le (by omega)]), ⟨rfl, rfl, rfl, by simp [World.setRow], fun q _ hq => setRow_other w g q _ (fun h => hq h)⟩⟩
end Go.Proofs.YthcfdoafncbliaaGreat
