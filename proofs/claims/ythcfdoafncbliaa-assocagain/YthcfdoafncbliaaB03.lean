/-
  Laid together: Halt, Pass, PassO, Cods.
-/
import Derived.Test.YthcfdoafncbliaaB02
import Derived.Recover
/-
  What is thrown, and what throws it: stop, must.
-/
namespace Go.Proofs.Ythcfdoafncbliaa
open Go.RowKit
set_option maxRecDepth 8000
/-- A halt for a reason. -/
def Halt (why : Int) : List PanicEntry := [{ v := .iface 77 (.agg #[.int .i64 why]), recovered := false }]
/-- A coder of two pointers. -/
abbrev Co (p q : Option Addr) : Value := .agg #[.pointer p, .pointer q]
/-- The reason that is told: a message that can't be written is an argument that may not be. -/
def stp (m : Bool) (e : Int) : Int := if m then 2 else e
theorem stop_any (w : World) (p q : Option Addr) (x : Int) :
    Calls Try.prog 26 #[Co p q, .int .i64 x] w fun e w' => e = .panicked (Halt (stp q.isSome x)) ∧ After w w' := by
  have HA := hideIt (After.rfl (w := w))
  cases q with
  | none =>
    go_enter Try.func26, Try.ntmps26
    go_wp2
    exact ⟨rfl, rfl, HA.out.alloc _⟩
  | some y =>
    go_enter Try.func26, Try.ntmps26
    go_wp2
    exact ⟨rfl, rfl, HA.out.alloc _⟩
theorem must_yes (w : World) (p q : Option Addr) :
    Calls Try.prog 39 #[Co p q, .bool true] w fun e w' => e = .returned (.tuple #[]) ∧ After w w' := by
  have HA := hideIt (After.rfl (w := w))
  go_enter Try.func39, Try.ntmps39
  go_wp2
  go_end0
  exact ⟨rfl, HA.out.alloc _⟩
theorem must_no (w : World) (p q : Option Addr) :
    Calls Try.prog 39 #[Co p q, .bool false] w fun e w' => e = .panicked (Halt (stp q.isSome 4)) ∧ After w w' := by
  have HA := hideIt (After.rfl (w := w))
  go_enter Try.func39, Try.ntmps39
  go_wp2_with (go_at_call 26; refine (stop_any _ p q 4).mono ?_; rintro e w1 ⟨rfl, h1⟩; have H1 := hideIt h1; clear h1)
  exact ⟨rfl, rfl, (HA.out.alloc _).trans H1.out⟩
/-- What a run ends in. -/
def Ends {α : Type} (r : Except Int (α × List Int)) (ok : α → List Int → Prop) (bad : Int → Prop) : Prop :=
  match r with
  | .ok (x, zs) => ok x zs
  | .error c => bad c
theorem Ends.ok {α : Type} {r : Except Int (α × List Int)} {ok : α → List Int → Prop} {bad : Int → Prop} {x : α} {zs : List Int} (h : r = .ok (x, zs)) (k : ok x zs) : Ends r ok bad := by rw [h]; exact k
theorem Ends.bad {α : Type} {r : Except Int (α × List Int)} {ok : α → List Int → Prop} {bad : Int → Prop} {c : Int} (h : r = .error c) (k : bad c) : Ends r ok bad := by rw [h]; exact k
theorem Ends.split {α : Type} {r : Except Int (α × List Int)} {ok : α → List Int → Prop} {bad : Int → Prop} (h : Ends r ok bad) : (∃ c, r = .error c ∧ bad c) ∨ ∃ x zs, r = .ok (x, zs) ∧ ok x zs := by
  rcases r with c | ⟨x, zs⟩
  · exact .inl ⟨c, rfl, h⟩
  · exact .inr ⟨x, zs, rfl, h⟩
/-- One run, then another. -/
def thn {α β : Type} (r : Except Int (α × List Int)) (f : α → List Int → Except Int β) : Except Int β :=
  match r with
  | .ok (x, zs) => f x zs
  | .error c => .error c
theorem thn_ok {α β : Type} {r : Except Int (α × List Int)} {f : α → List Int → Except Int β} {x : α} {zs : List Int} (h : r = .ok (x, zs)) : thn r f = f x zs := by rw [h]; rfl
theorem thn_bad {α β : Type} {r : Except Int (α × List Int)} {f : α → List Int → Except Int β} {c : Int} (h : r = .error c) : thn r f = .error c := by rw [h]; rfl
/-- A number of k bytes, at most M: written (m), or read. -/
def num (m : Bool) (k M : Nat) (v : Int) (zs : List Int) : Except Int (Int × List Int) :=
  if m then (if 0 ≤ v ∧ v ≤ M then .ok (v, zs ++ bytesOf k v) else .error 2) else if k ≤ zs.length then .ok (be (zs.take k), zs.drop k) else .error 3
/-- Octets. -/
def oct (m : Bool) (v : List Int) (zs : List Int) : Except Int (List Int × List Int) :=
  if m then (if v.length ≤ 65535 then .ok (v, zs ++ (bytesOf 2 v.length ++ v)) else .error 2) else if ocIs zs = true then .ok (ocVal zs, ocRest zs) else .error 3
theorem num_w {k M : Nat} {v : Int} {zs : List Int} (h : 0 ≤ v ∧ v ≤ M) : num true k M v zs = .ok (v, zs ++ bytesOf k v) := by unfold num; rw [if_pos rfl, if_pos h]
theorem num_wn {k M : Nat} {v : Int} {zs : List Int} (h : ¬ (0 ≤ v ∧ v ≤ M)) : num true k M v zs = .error 2 := by unfold num; rw [if_pos rfl, if_neg h]
theorem num_r {k M : Nat} {v : Int} {zs : List Int} (h : k ≤ zs.length) : num false k M v zs = .ok (be (zs.take k), zs.drop k) := by unfold num; rw [if_neg (by decide), if_pos h]
theorem num_rn {k M : Nat} {v : Int} {zs : List Int} (h : ¬ k ≤ zs.length) : num false k M v zs = .error 3 := by unfold num; rw [if_neg (by decide), if_neg h]
theorem oct_w {v zs : List Int} (h : v.length ≤ 65535) : oct true v zs = .ok (v, zs ++ (bytesOf 2 v.length ++ v)) := by unfold oct; rw [if_pos rfl, if_pos h]
theorem oct_wn {v zs : List Int} (h : ¬ v.length ≤ 65535) : oct true v zs = .error 2 := by unfold oct; rw [if_pos rfl, if_neg h]
theorem oct_r {v zs : List Int} (h : ocIs zs = true) : oct false v zs = .ok (ocVal zs, ocRest zs) := by unfold oct; rw [if_neg (by decide), if_pos h]
theorem oct_rn {v zs : List Int} (h : ¬ ocIs zs = true) : oct false v zs = .error 3 := by unfold oct; rw [if_neg (by decide), if_neg h]
theorem num_len {m : Bool} {k M : Nat} {v x : Int} {zs ys : List Int} (h : num m k M v zs = .ok (x, ys)) : ys.length ≤ zs.length + k := by
  unfold num at h
  split at h
  · split at h
    · cases h; rw [List.length_append, bytesOf_length]; omega
    · cases h
  · split at h
    · cases h; rw [List.length_drop]; omega
    · cases h
/-- The blocks of a coder. -/
structure Cod (w : World) (p q : Option Addr) (m : Bool) (zs : List Int) (S : Nat → Prop) : Prop where
  is : (m = false ∧ ∃ g h, p = some ⟨g, 0, none⟩ ∧ q = none ∧ RdAt w g h zs ∧ S = Two g h) ∨ (m = true ∧ ∃ g v, p = none ∧ q = some ⟨g, 0, none⟩ ∧ WrAt w g v zs ∧ S = Own g v)
  lt : ∀ k, S k → k < w.heap.size
theorem Cod.mode {w : World} {p q : Option Addr} {m : Bool} {zs : List Int} {S : Nat → Prop} (c : Cod w p q m zs S) : q.isSome = m := by
  rcases c.is with ⟨rfl, g, h, _, rfl, _⟩ | ⟨rfl, g, v, _, rfl, _⟩ <;> rfl
theorem Cod.bs {w : World} {p q : Option Addr} {m : Bool} {zs : List Int} {S : Nat → Prop} (c : Cod w p q m zs S) : Bs zs := by
  rcases c.is with ⟨rfl, g, h, _, _, r, _⟩ | ⟨rfl, g, v, _, _, r, _⟩
  · exact r.bs
  · exact r.2.2.2
theorem Cod.but {w w' : World} {p q : Option Addr} {m : Bool} {zs : List Int} {S T : Nat → Prop} (c : Cod w p q m zs S) (b : But T w w') (hn : ∀ k, S k → ¬ T k) : Cod w' p q m zs S := by
  refine ⟨?_, fun k hk => Nat.lt_of_lt_of_le (c.lt k hk) b.size⟩
  rcases c.is with ⟨hm, g, h, hp, hq, r, hS⟩ | ⟨hm, g, v, hp, hq, r, hS⟩
  · exact .inl ⟨hm, g, h, hp, hq, r.but b (hn g (by rw [hS]; exact .inl rfl)) (hn h (by rw [hS]; exact .inr rfl)), hS⟩
  · exact .inr ⟨hm, g, v, hp, hq, r.but b (hn g (by rw [hS]; exact .inl rfl)) (fun k hk => hn k (by rw [hS]; exact .inr hk)), hS⟩
theorem Cod.after {w w' : World} {p q : Option Addr} {m : Bool} {zs : List Int} {S : Nat → Prop} (c : Cod w p q m zs S) (b : After w w') : Cod w' p q m zs S := c.but b (fun _ _ t => t)
/-- A coder has gone on. -/
structure Stp (S : Nat → Prop) (w : World) (S' : Nat → Prop) (w' : World) : Prop where
  but : But S w w'
  new : ∀ k, S' k → S k ∨ w.heap.size ≤ k
theorem Stp.rfl {S : Nat → Prop} {w : World} : Stp S w S w := ⟨But.rfl, fun _ h => .inl h⟩
theorem Stp.trans {S S1 S2 : Nat → Prop} {w w1 w2 : World} (a : Stp S w S1 w1) (b : Stp S1 w1 S2 w2) : Stp S w S2 w2 :=
  ⟨a.but.then b.but (fun i hi h => (a.new i h).elim id (fun h' => absurd h' (by omega))), fun k hk => (b.new k hk).elim (a.new k) (fun h => .inr (Nat.le_trans a.but.size h))⟩
theorem Stp.after {S S1 : Nat → Prop} {w w1 w2 : World} (a : Stp S w S1 w1) (b : After w1 w2) : Stp S w S1 w2 := ⟨a.but.trans b.but, a.new⟩
theorem Stp.behind {S S2 : Nat → Prop} {w w1 w2 : World} (a : After w w1) (b : Stp S w1 S2 w2) : Stp S w S2 w2 :=
  ⟨a.but.trans b.but, fun k hk => (b.new k hk).imp_right (fun h => Nat.le_trans a.size h)⟩
theorem Stp.ends {S S1 : Nat → Prop} {w w1 w2 : World} (a : Stp S w S1 w1) (b : But S1 w1 w2) : But S w w2 :=
  a.but.then b (fun i hi h => (a.new i h).elim id (fun h' => absurd h' (by omega)))
end Go.Proofs.Ythcfdoafncbliaa
/-
  Numbers and octets, by a coder: u8, u16, u32, octets.
-/
namespace Go.Proofs.Ythcfdoafncbliaa
open Go.RowKit
set_option maxRecDepth 8000
theorem wr_step {w W : World} {g : Nat} {v : Value} {zs : List Int} (h : WrTo w W g v zs) : ∃ S', Cod W none (some ⟨g, 0, none⟩) true zs S' ∧ Stp (Own g v) w S' W := by
  obtain ⟨v', r, b, gr⟩ := h
  refine ⟨Own g v', ⟨.inr ⟨rfl, g, v', rfl, rfl, r, rfl⟩, fun k hk => ?_⟩, b, fun k hk => ?_⟩
  · rcases hk with rfl | hk
    · exact (two_at r.1).1
    · exact (r.2.1.lt k hk).2
  · rcases hk with rfl | hk
    · exact .inl (.inl rfl)
    · rcases gr with e | ⟨j, e, hj⟩
      · exact .inl (.inr (by rw [← e]; exact hk))
      · rw [e] at hk; cases hk; exact .inr hj
theorem rd_step {w W : World} {g h : Nat} {zs : List Int} (r : RdAt W g h zs) (b : But (One g) w W) : ∃ S', Cod W (some ⟨g, 0, none⟩) none false zs S' ∧ Stp (Two g h) w S' W := by
  refine ⟨Two g h, ⟨.inl ⟨rfl, g, h, rfl, rfl, r, rfl⟩, fun k hk => ?_⟩, b.mono (fun i _ hi => .inl hi), fun k hk => .inl hk⟩
  have hg := r.lt
  rcases hk with rfl | rfl
  · exact hg
  · obtain ⟨a, n, c, _, _, _, _, h5⟩ := r
    rcases h5 with ⟨_, _, _, rfl⟩ | ⟨off, _, _, hl⟩
    · exact hg
    · exact hl
theorem WrTo.behind {w w1 w2 : World} {g : Nat} {v : Value} {zs : List Int} (a : After w w1) (h : WrTo w1 w2 g v zs) : WrTo w w2 g v zs := by
  obtain ⟨v', r, b, gr⟩ := h
  exact ⟨v', r, a.but.trans b, gr.imp_right (fun ⟨k, e, hk⟩ => ⟨k, e, Nat.le_trans a.size hk⟩)⟩
/-- What was boxed second is still there. -/
theorem boxed {S : Nat → Prop} {w W : World} {o : Obj} {x y : Value} {T : TypeId} (hv : ∀ k, S k → k < w.heap.size) (b : But S ((w.alloc o).alloc (.cells #[x, y] T)) W) : W.cell? ⟨w.heap.size + 1, 0, none⟩ = some x ∧ W.cell? ⟨w.heap.size + 1, 1, none⟩ = some y := by
  have h := (b.block (w.heap.size + 1) (by simp) (fun h => absurd (hv _ h) (by omega))).trans (show _ = some (.cells #[x, y] T (0, 0)) by have := two_new (w.alloc o) T x y; rw [World.size_alloc] at this; exact this)
  exact ⟨(two_at h).2.1, (two_at h).2.2.1⟩
/-- What was boxed first is still there. -/
theorem boxed1 {S : Nat → Prop} {w W : World} {x y : Value} {T : TypeId} (hv : ∀ k, S k → k < w.heap.size) (b : But S (w.alloc (.cells #[x, y] T)) W) : W.cell? ⟨w.heap.size, 0, none⟩ = some x ∧ W.cell? ⟨w.heap.size, 1, none⟩ = some y := by
  have h := (b.block w.heap.size (by simp) (fun h => absurd (hv _ h) (by omega))).trans (two_new w T x y)
  exact ⟨(two_at h).2.1, (two_at h).2.2.1⟩
theorem u8_w (w : World) (g : Nat) (v : Value) (zs : List Int) (x : Int) (r : WrAt w g v zs) (hl : zs.length ≤ 1000000000) :
    Calls Try.prog 75 #[Co none (some ⟨g, 0, none⟩), .int .i64 x] w fun e w' => Ends (num true 1 255 x zs) (fun y ys => e = .returned (.int .i64 y) ∧ WrTo w w' g v ys) (fun c => e = .panicked (Halt c) ∧ But (Own g v) w w') := by
  have hA : After w ((w.alloc (.cells #[.pointer none, .pointer (some ⟨g, 0, none⟩)] 65)).alloc (.cells #[.pointer none, .pointer (some ⟨g, 0, none⟩)] 65)) := (After.rfl.alloc _).alloc _
  have HP := hideIt (wU8_any _ g v zs x (r.after hA) (by omega))
  have hg := (two_at r.1).1
  have hv : ∀ k, Own g v k → k < w.heap.size := fun k hk => hk.elim (fun e => by rw [e]; exact hg) (fun e => (r.2.1.lt k e).2)
  have HV := hideIt hv
  have HA := hideIt hA
  by_cases hx : 0 ≤ x ∧ x ≤ (255 : Nat)
  · obtain ⟨e1, e2⟩ := wn_yes (k := 1) hx
    rw [e1, e2] at HP
    have E0 := hideIt (num_w (k := 1) (zs := zs) hx)
    clear r hl hA hg hv e1 e2 hx
    go_enter Try.func75, Try.ntmps75
    go_wp2_with (first | (go_at_call 58; go_in) | (go_at_call 80; refine HP.out.mono ?_; rintro e w1 ⟨rfl, h1⟩; have H1 := hideIt h1; clear h1))
    go_ret
    exact Ends.ok E0.out ⟨rfl, WrTo.behind HA.out H1.out⟩
  · obtain ⟨e1, e2⟩ := wn_no (k := 1) hx
    rw [e1, e2] at HP
    have E0 := hideIt (num_wn (k := 1) (zs := zs) hx)
    clear r hl hA hg hv e1 e2 hx
    go_enter Try.func75, Try.ntmps75
    go_wp2_with (first | (go_at_call 58; go_in) | (go_at_call 80; refine HP.out.mono ?_; rintro e w1 ⟨rfl, h1⟩; obtain ⟨v1, _, b1, _⟩ := h1; have hc := boxed HV.out b1; have H1 := hideIt b1; clear b1) | (go_at_call 26; refine (stop_any _ _ _ _).mono ?_; rintro e w2 ⟨rfl, h2⟩; have H2 := hideIt h2; clear h2))
    exact ⟨rfl, And.intro rfl (Ends.bad E0.out ⟨rfl, (HA.out.but.trans H1.out).trans H2.out.but⟩)⟩
theorem u16_w (w : World) (g : Nat) (v : Value) (zs : List Int) (x : Int) (r : WrAt w g v zs) (hl : zs.length ≤ 1000000000) :
    Calls Try.prog 50 #[Co none (some ⟨g, 0, none⟩), .int .i64 x] w fun e w' => Ends (num true 2 65535 x zs) (fun y ys => e = .returned (.int .i64 y) ∧ WrTo w w' g v ys) (fun c => e = .panicked (Halt c) ∧ But (Own g v) w w') := by
  have hA : After w ((w.alloc (.cells #[.pointer none, .pointer (some ⟨g, 0, none⟩)] 65)).alloc (.cells #[.pointer none, .pointer (some ⟨g, 0, none⟩)] 65)) := (After.rfl.alloc _).alloc _
  have HP := hideIt (wU16_any _ g v zs x (r.after hA) (by omega))
  have hg := (two_at r.1).1
  have hv : ∀ k, Own g v k → k < w.heap.size := fun k hk => hk.elim (fun e => by rw [e]; exact hg) (fun e => (r.2.1.lt k e).2)
  have HV := hideIt hv
  have HA := hideIt hA
  by_cases hx : 0 ≤ x ∧ x ≤ (65535 : Nat)
  · obtain ⟨e1, e2⟩ := wn_yes (k := 2) hx
    rw [e1, e2] at HP
    have E0 := hideIt (num_w (k := 2) (zs := zs) hx)
    clear r hl hA hg hv e1 e2 hx
    go_enter Try.func50, Try.ntmps50
    go_wp2_with (first | (go_at_call 58; go_in) | (go_at_call 60; refine HP.out.mono ?_; rintro e w1 ⟨rfl, h1⟩; have H1 := hideIt h1; clear h1))
    go_ret
    exact Ends.ok E0.out ⟨rfl, WrTo.behind HA.out H1.out⟩
  · obtain ⟨e1, e2⟩ := wn_no (k := 2) hx
    rw [e1, e2] at HP
    have E0 := hideIt (num_wn (k := 2) (zs := zs) hx)
    clear r hl hA hg hv e1 e2 hx
    go_enter Try.func50, Try.ntmps50
    go_wp2_with (first | (go_at_call 58; go_in) | (go_at_call 60; refine HP.out.mono ?_; rintro e w1 ⟨rfl, h1⟩; obtain ⟨v1, _, b1, _⟩ := h1; have hc := boxed HV.out b1; have H1 := hideIt b1; clear b1) | (go_at_call 26; refine (stop_any _ _ _ _).mono ?_; rintro e w2 ⟨rfl, h2⟩; have H2 := hideIt h2; clear h2))
    exact ⟨rfl, And.intro rfl (Ends.bad E0.out ⟨rfl, (HA.out.but.trans H1.out).trans H2.out.but⟩)⟩
theorem u32_w (w : World) (g : Nat) (v : Value) (zs : List Int) (x : Int) (r : WrAt w g v zs) (hl : zs.length ≤ 1000000000) (h0 : 0 ≤ x) (h1 : x < 4294967296) :
    Calls Try.prog 70 #[Co none (some ⟨g, 0, none⟩), .int .u32 x] w fun e w' => Ends (num true 4 4294967295 x zs) (fun y ys => e = .returned (.int .u32 y) ∧ WrTo w w' g v ys) (fun c => e = .panicked (Halt c) ∧ But (Own g v) w w') := by
  have hA : After w ((w.alloc (.cells #[.pointer none, .pointer (some ⟨g, 0, none⟩)] 65)).alloc (.cells #[.pointer none, .pointer (some ⟨g, 0, none⟩)] 65)) := (After.rfl.alloc _).alloc _
  have HP := hideIt (wU32_any _ g v zs x (r.after hA) (by omega) h0 h1)
  have hg := (two_at r.1).1
  have hv : ∀ k, Own g v k → k < w.heap.size := fun k hk => hk.elim (fun e => by rw [e]; exact hg) (fun e => (r.2.1.lt k e).2)
  have HV := hideIt hv
  have HA := hideIt hA
  have e0 : num true 4 4294967295 x zs = .ok (x, zs ++ bytesOf 4 x) := num_w (by omega)
  have E0 := hideIt e0
  clear r hl h0 h1 hA hg hv e0
  go_enter Try.func70, Try.ntmps70
  go_wp2_with (first | (go_at_call 76; go_in) | (go_at_call 78; refine HP.out.mono ?_; rintro e w1 ⟨rfl, h1⟩; have H1 := hideIt h1; clear h1))
  go_ret
  exact Ends.ok E0.out ⟨rfl, WrTo.behind HA.out H1.out⟩
theorem u8_r (w : World) (g h : Nat) (zs : List Int) (x : Int) (r : RdAt w g h zs) :
    Calls Try.prog 75 #[Co (some ⟨g, 0, none⟩) none, .int .i64 x] w fun e w' => Ends (num false 1 255 x zs) (fun y ys => e = .returned (.int .i64 y) ∧ RdAt w' g h ys ∧ But (One g) w w') (fun c => e = .panicked (Halt c) ∧ But (One g) w w') := by
  have hA : After w ((w.alloc (.cells #[.pointer (some ⟨g, 0, none⟩), .pointer none] 65)).alloc (.cells #[.pointer (some ⟨g, 0, none⟩), .pointer none] 65)) := (After.rfl.alloc _).alloc _
  have HP := hideIt (u8_any _ g h zs (r.after hA))
  have hg := r.lt
  have hv : ∀ k, One g k → k < w.heap.size := fun k hk => by rw [hk]; exact hg
  have HV := hideIt hv
  have HA := hideIt hA
  by_cases hx : 1 ≤ zs.length
  · rw [rdVal_yes hx, rdErr_yes hx, rdRest_yes hx] at HP
    have E0 := hideIt (num_r (k := 1) (M := 255) (v := x) hx)
    obtain ⟨y, hy⟩ : ∃ y, be (zs.take 1) = y := ⟨_, rfl⟩
    rw [hy] at HP E0
    clear r hA hg hv hx hy
    go_enter Try.func75, Try.ntmps75
    go_wp2_with (first | (go_at_call 58; go_in) | (go_at_call 79; refine HP.out.mono ?_; rintro e w1 ⟨rfl, h1, h2⟩; have H1 := hideIt h1; have H2 := hideIt h2; clear h1 h2))
    go_ret
    exact Ends.ok E0.out ⟨rfl, H1.out, HA.out.but.trans H2.out⟩
  · rw [rdVal_no hx, rdErr_no hx, rdRest_no hx] at HP
    have E0 := hideIt (num_rn (k := 1) (M := 255) (v := x) hx)
    clear r hA hg hv hx
    go_enter Try.func75, Try.ntmps75
    go_wp2_with (first | (go_at_call 58; go_in) | (go_at_call 79; refine HP.out.mono ?_; rintro e w1 ⟨rfl, _, b1⟩; have hc := boxed HV.out b1; have H1 := hideIt b1; clear b1) | (go_at_call 26; refine (stop_any _ _ _ _).mono ?_; rintro e w2 ⟨rfl, h2⟩; have H2 := hideIt h2; clear h2))
    exact ⟨rfl, And.intro rfl (Ends.bad E0.out ⟨rfl, (HA.out.but.trans H1.out).trans H2.out.but⟩)⟩
theorem u16_r (w : World) (g h : Nat) (zs : List Int) (x : Int) (r : RdAt w g h zs) :
    Calls Try.prog 50 #[Co (some ⟨g, 0, none⟩) none, .int .i64 x] w fun e w' => Ends (num false 2 65535 x zs) (fun y ys => e = .returned (.int .i64 y) ∧ RdAt w' g h ys ∧ But (One g) w w') (fun c => e = .panicked (Halt c) ∧ But (One g) w w') := by
  have hA : After w ((w.alloc (.cells #[.pointer (some ⟨g, 0, none⟩), .pointer none] 65)).alloc (.cells #[.pointer (some ⟨g, 0, none⟩), .pointer none] 65)) := (After.rfl.alloc _).alloc _
  have HP := hideIt (u16_any _ g h zs (r.after hA))
  have hg := r.lt
  have hv : ∀ k, One g k → k < w.heap.size := fun k hk => by rw [hk]; exact hg
  have HV := hideIt hv
  have HA := hideIt hA
  by_cases hx : 2 ≤ zs.length
  · rw [rdVal_yes hx, rdErr_yes hx, rdRest_yes hx] at HP
    have E0 := hideIt (num_r (k := 2) (M := 65535) (v := x) hx)
    obtain ⟨y, hy⟩ : ∃ y, be (zs.take 2) = y := ⟨_, rfl⟩
    rw [hy] at HP E0
    clear r hA hg hv hx hy
    go_enter Try.func50, Try.ntmps50
    go_wp2_with (first | (go_at_call 58; go_in) | (go_at_call 59; refine HP.out.mono ?_; rintro e w1 ⟨rfl, h1, h2⟩; have H1 := hideIt h1; have H2 := hideIt h2; clear h1 h2))
    go_ret
    exact Ends.ok E0.out ⟨rfl, H1.out, HA.out.but.trans H2.out⟩
  · rw [rdVal_no hx, rdErr_no hx, rdRest_no hx] at HP
    have E0 := hideIt (num_rn (k := 2) (M := 65535) (v := x) hx)
    clear r hA hg hv hx
    go_enter Try.func50, Try.ntmps50
    go_wp2_with (first | (go_at_call 58; go_in) | (go_at_call 59; refine HP.out.mono ?_; rintro e w1 ⟨rfl, _, b1⟩; have hc := boxed HV.out b1; have H1 := hideIt b1; clear b1) | (go_at_call 26; refine (stop_any _ _ _ _).mono ?_; rintro e w2 ⟨rfl, h2⟩; have H2 := hideIt h2; clear h2))
    exact ⟨rfl, And.intro rfl (Ends.bad E0.out ⟨rfl, (HA.out.but.trans H1.out).trans H2.out.but⟩)⟩
theorem u32_r (w : World) (g h : Nat) (zs : List Int) (x : Int) (r : RdAt w g h zs) :
    Calls Try.prog 70 #[Co (some ⟨g, 0, none⟩) none, .int .u32 x] w fun e w' => Ends (num false 4 4294967295 x zs) (fun y ys => e = .returned (.int .u32 y) ∧ RdAt w' g h ys ∧ But (One g) w w') (fun c => e = .panicked (Halt c) ∧ But (One g) w w') := by
  have hA : After w ((w.alloc (.cells #[.pointer (some ⟨g, 0, none⟩), .pointer none] 65)).alloc (.cells #[.pointer (some ⟨g, 0, none⟩), .pointer none] 65)) := (After.rfl.alloc _).alloc _
  have HP := hideIt (u32_any _ g h zs (r.after hA))
  have hg := r.lt
  have hv : ∀ k, One g k → k < w.heap.size := fun k hk => by rw [hk]; exact hg
  have HV := hideIt hv
  have HA := hideIt hA
  by_cases hx : 4 ≤ zs.length
  · rw [rdVal_yes hx, rdErr_yes hx, rdRest_yes hx] at HP
    have E0 := hideIt (num_r (k := 4) (M := 4294967295) (v := x) hx)
    obtain ⟨y, hy⟩ : ∃ y, be (zs.take 4) = y := ⟨_, rfl⟩
    rw [hy] at HP E0
    clear r hA hg hv hx hy
    go_enter Try.func70, Try.ntmps70
    go_wp2_with (first | (go_at_call 76; go_in) | (go_at_call 77; refine HP.out.mono ?_; rintro e w1 ⟨rfl, h1, h2⟩; have H1 := hideIt h1; have H2 := hideIt h2; clear h1 h2))
    go_ret
    exact Ends.ok E0.out ⟨rfl, H1.out, HA.out.but.trans H2.out⟩
  · rw [rdVal_no hx, rdErr_no hx, rdRest_no hx] at HP
    have E0 := hideIt (num_rn (k := 4) (M := 4294967295) (v := x) hx)
    clear r hA hg hv hx
    go_enter Try.func70, Try.ntmps70
    go_wp2_with (first | (go_at_call 76; go_in) | (go_at_call 77; refine HP.out.mono ?_; rintro e w1 ⟨rfl, _, b1⟩; have hc := boxed HV.out b1; have H1 := hideIt b1; clear b1) | (go_at_call 26; refine (stop_any _ _ _ _).mono ?_; rintro e w2 ⟨rfl, h2⟩; have H2 := hideIt h2; clear h2))
    exact ⟨rfl, And.intro rfl (Ends.bad E0.out ⟨rfl, (HA.out.but.trans H1.out).trans H2.out.but⟩)⟩
end Go.Proofs.Ythcfdoafncbliaa
/-
  Octets, by a coder.
-/
namespace Go.Proofs.Ythcfdoafncbliaa
open Go.RowKit
set_option maxRecDepth 8000
theorem oct_cw (w : World) (g : Nat) (v : Value) (zs : List Int) (a : Option Addr) (n c : Nat) (bs : List Int) (r : WrAt w g v zs) (rb : Row w a n bs) (ha : a = none → n = 0 ∧ c = 0) (hs : ∀ y, a = some y → 0 < n → ¬ Own g v y.block) (hn : n ≤ 140737488355328) (hl : zs.length ≤ 1000000000) :
    Calls Try.prog 51 #[Co none (some ⟨g, 0, none⟩), .slice a n c] w fun e w' => Ends (oct true bs zs) (fun ys us => ys = bs ∧ e = .returned (.slice a n c) ∧ WrTo w w' g v us) (fun c => e = .panicked (Halt c) ∧ But (Own g v) w w') := by
  have hA : After w ((w.alloc (.cells #[.pointer none, .pointer (some ⟨g, 0, none⟩)] 65)).alloc (.cells #[.pointer none, .pointer (some ⟨g, 0, none⟩)] 65)) := (After.rfl.alloc _).alloc _
  have HP := hideIt (wOctets_any _ g v zs a n c bs (r.after hA) (rb.after hA) ha hs hn (by omega))
  have hg := (two_at r.1).1
  have hv : ∀ k, Own g v k → k < w.heap.size := fun k hk => hk.elim (fun e => by rw [e]; exact hg) (fun e => (r.2.1.lt k e).2)
  have HV := hideIt hv
  have HA := hideIt hA
  by_cases hx : bs.length ≤ 65535
  · obtain ⟨e1, e2⟩ := wo_yes hx
    rw [e1, e2] at HP
    have E0 := hideIt (oct_w (zs := zs) hx)
    clear r hl hA hg hv e1 e2 hx ha hs hn rb
    go_enter Try.func51, Try.ntmps51
    go_wp2_with (first | (go_at_call 61; go_in) | (go_at_call 63; refine HP.out.mono ?_; rintro e w1 ⟨rfl, h1⟩; have H1 := hideIt h1; clear h1))
    go_ret
    exact Ends.ok E0.out ⟨rfl, rfl, WrTo.behind HA.out H1.out⟩
  · obtain ⟨e1, e2⟩ := wo_no hx
    rw [e1, e2] at HP
    have E0 := hideIt (oct_wn (zs := zs) hx)
    clear r hl hA hg hv e1 e2 hx ha hs hn rb
    go_enter Try.func51, Try.ntmps51
    go_wp2_with (first | (go_at_call 61; go_in) | (go_at_call 63; refine HP.out.mono ?_; rintro e w1 ⟨rfl, h1⟩; obtain ⟨v1, _, b1, _⟩ := h1; have hc := boxed HV.out b1; have H1 := hideIt b1; clear b1) | (go_at_call 26; refine (stop_any _ _ _ _).mono ?_; rintro e w2 ⟨rfl, h2⟩; have H2 := hideIt h2; clear h2))
    exact ⟨rfl, And.intro rfl (Ends.bad E0.out ⟨rfl, (HA.out.but.trans H1.out).trans H2.out.but⟩)⟩
theorem oct_cr (w : World) (g h : Nat) (zs : List Int) (x : Value) (r : RdAt w g h zs) (bs : List Int) :
    Calls Try.prog 51 #[Co (some ⟨g, 0, none⟩) none, x] w fun e w' => Ends (oct false bs zs) (fun ys us => (∃ y, e = .returned y ∧ w'.ownsRow w.heap.size 5 1 y ys.length (u8s ys)) ∧ RdAt w' g h us ∧ But (One g) w w') (fun c => e = .panicked (Halt c) ∧ But (One g) w w') := by
  have hA : After w ((w.alloc (.cells #[.pointer (some ⟨g, 0, none⟩), .pointer none] 65)).alloc (.cells #[.pointer (some ⟨g, 0, none⟩), .pointer none] 65)) := (After.rfl.alloc _).alloc _
  have HP := hideIt (octets_any _ g h zs (r.after hA))
  have hg := r.lt
  have hv : ∀ k, One g k → k < w.heap.size := fun k hk => by rw [hk]; exact hg
  have HV := hideIt hv
  have HA := hideIt hA
  by_cases hx : ocIs zs = true
  · have e1 : ocErr zs = 0 := if_pos hx
    rw [e1] at HP
    have E0 := hideIt (oct_r (v := bs) hx)
    clear r hA hg hv hx e1
    go_enter Try.func51, Try.ntmps51
    go_wp2_with (first | (go_at_call 61; go_in) | (go_at_call 62; refine HP.out.mono ?_; rintro e w1 ⟨y, rfl, ho, h1, h2⟩; obtain ⟨ya, yc, rfl⟩ := own_slice ho; have HO := hideIt ho; have H1 := hideIt h1; have H2 := hideIt h2; clear ho h1 h2))
    go_ret
    exact Ends.ok E0.out ⟨⟨_, rfl, own_base HO.out (fun k e => Nat.le_trans HA.out.size (HO.out.lt k e).1)⟩, H1.out, HA.out.but.trans H2.out⟩
  · have e1 : ocErr zs = 3 := if_neg hx
    rw [e1] at HP
    have E0 := hideIt (oct_rn (v := bs) hx)
    clear r hA hg hv hx e1
    go_enter Try.func51, Try.ntmps51
    go_wp2_with (first | (go_at_call 61; go_in) | (go_at_call 62; refine HP.out.mono ?_; rintro e w1 ⟨y, rfl, ho, _, b1⟩; obtain ⟨ya, yc, rfl⟩ := own_slice ho; clear ho; have hc := boxed HV.out b1; have H1 := hideIt b1; clear b1) | (go_at_call 26; refine (stop_any _ _ _ _).mono ?_; rintro e w2 ⟨rfl, h2⟩; have H2 := hideIt h2; clear h2))
    exact ⟨rfl, And.intro rfl (Ends.bad E0.out ⟨rfl, (HA.out.but.trans H1.out).trans H2.out.but⟩)⟩
end Go.Proofs.Ythcfdoafncbliaa
/-
  The same of any coder, whether it reads or writes: numbers, octets, must, either.
-/
namespace Go.Proofs.Ythcfdoafncbliaa
open Go.RowKit
set_option maxRecDepth 8000
/-- A coder has gone on to zs. -/
def Went (w w' : World) (p q : Option Addr) (m : Bool) (S : Nat → Prop) (zs : List Int) : Prop := ∃ S', Cod w' p q m zs S' ∧ Stp S w S' w'
theorem c_u8 (w : World) (p q : Option Addr) (m : Bool) (zs : List Int) (S : Nat → Prop) (x : Int) (c : Cod w p q m zs S) (hl : m = true → zs.length ≤ 1000000000) :
    Calls Try.prog 75 #[Co p q, .int .i64 x] w fun e w' => Ends (num m 1 255 x zs) (fun y ys => e = .returned (.int .i64 y) ∧ Went w w' p q m S ys) (fun c => e = .panicked (Halt c) ∧ But S w w') := by
  rcases c.is with ⟨rfl, g, h, rfl, rfl, r, rfl⟩ | ⟨rfl, g, v, rfl, rfl, r, rfl⟩
  · refine (u8_r w g h zs x r).mono ?_
    intro e w1 h1
    rcases h1.split with ⟨c, e1, rfl, b⟩ | ⟨y, ys, e1, rfl, r1, b⟩
    · exact Ends.bad e1 ⟨rfl, b.mono (fun i _ hi => .inl hi)⟩
    · exact Ends.ok e1 ⟨rfl, rd_step r1 b⟩
  · refine (u8_w w g v zs x r (hl rfl)).mono ?_
    intro e w1 h1
    rcases h1.split with ⟨c, e1, rfl, b⟩ | ⟨y, ys, e1, rfl, r1⟩
    · exact Ends.bad e1 ⟨rfl, b⟩
    · exact Ends.ok e1 ⟨rfl, wr_step r1⟩
theorem c_u16 (w : World) (p q : Option Addr) (m : Bool) (zs : List Int) (S : Nat → Prop) (x : Int) (c : Cod w p q m zs S) (hl : m = true → zs.length ≤ 1000000000) :
    Calls Try.prog 50 #[Co p q, .int .i64 x] w fun e w' => Ends (num m 2 65535 x zs) (fun y ys => e = .returned (.int .i64 y) ∧ Went w w' p q m S ys) (fun c => e = .panicked (Halt c) ∧ But S w w') := by
  rcases c.is with ⟨rfl, g, h, rfl, rfl, r, rfl⟩ | ⟨rfl, g, v, rfl, rfl, r, rfl⟩
  · refine (u16_r w g h zs x r).mono ?_
    intro e w1 h1
    rcases h1.split with ⟨c, e1, rfl, b⟩ | ⟨y, ys, e1, rfl, r1, b⟩
    · exact Ends.bad e1 ⟨rfl, b.mono (fun i _ hi => .inl hi)⟩
    · exact Ends.ok e1 ⟨rfl, rd_step r1 b⟩
  · refine (u16_w w g v zs x r (hl rfl)).mono ?_
    intro e w1 h1
    rcases h1.split with ⟨c, e1, rfl, b⟩ | ⟨y, ys, e1, rfl, r1⟩
    · exact Ends.bad e1 ⟨rfl, b⟩
    · exact Ends.ok e1 ⟨rfl, wr_step r1⟩
theorem c_u32 (w : World) (p q : Option Addr) (m : Bool) (zs : List Int) (S : Nat → Prop) (x : Int) (c : Cod w p q m zs S) (hl : m = true → zs.length ≤ 1000000000) (h0 : 0 ≤ x) (h1 : x < 4294967296) :
    Calls Try.prog 70 #[Co p q, .int .u32 x] w fun e w' => Ends (num m 4 4294967295 x zs) (fun y ys => e = .returned (.int .u32 y) ∧ Went w w' p q m S ys) (fun c => e = .panicked (Halt c) ∧ But S w w') := by
  rcases c.is with ⟨rfl, g, h, rfl, rfl, r, rfl⟩ | ⟨rfl, g, v, rfl, rfl, r, rfl⟩
  · refine (u32_r w g h zs x r).mono ?_
    intro e w1 h1
    rcases h1.split with ⟨c, e1, rfl, b⟩ | ⟨y, ys, e1, rfl, r1, b⟩
    · exact Ends.bad e1 ⟨rfl, b.mono (fun i _ hi => .inl hi)⟩
    · exact Ends.ok e1 ⟨rfl, rd_step r1 b⟩
  · refine (u32_w w g v zs x r (hl rfl) h0 h1).mono ?_
    intro e w1 h1
    rcases h1.split with ⟨c, e1, rfl, b⟩ | ⟨y, ys, e1, rfl, r1⟩
    · exact Ends.bad e1 ⟨rfl, b⟩
    · exact Ends.ok e1 ⟨rfl, wr_step r1⟩
theorem c_must (w : World) (p q : Option Addr) (m : Bool) (zs : List Int) (S : Nat → Prop) (b : Bool) (c : Cod w p q m zs S) :
    Calls Try.prog 39 #[Co p q, .bool b] w fun e w' => (b = true ∧ e = .returned (.tuple #[]) ∨ b = false ∧ e = .panicked (Halt (stp m 4))) ∧ After w w' := by
  cases b with
  | false =>
    refine (must_no w p q).mono ?_
    rintro e w1 ⟨rfl, h⟩
    rw [c.mode]
    exact ⟨.inr ⟨rfl, rfl⟩, h⟩
  | true =>
    refine (must_yes w p q).mono ?_
    rintro e w1 ⟨rfl, h⟩
    exact ⟨.inl ⟨rfl, rfl⟩, h⟩
theorem c_stop (w : World) (p q : Option Addr) (m : Bool) (zs : List Int) (S : Nat → Prop) (x : Int) (c : Cod w p q m zs S) :
    Calls Try.prog 26 #[Co p q, .int .i64 x] w fun e w' => e = .panicked (Halt (stp m x)) ∧ After w w' := by
  have := stop_any w p q x
  rw [c.mode] at this
  exact this
/-- One of two numbers of one byte. -/
def eit (m : Bool) (so : Bool) (y n : Int) (zs : List Int) : Except Int (Bool × List Int) :=
  thn (num m 1 255 (if so then y else n) zs) fun v zs => if v = y ∨ v = n then .ok (decide (v = y), zs) else .error (stp m 4)
theorem eit_len {m so : Bool} {y n : Int} {b : Bool} {zs ys : List Int} (h : eit m so y n zs = .ok (b, ys)) : ys.length ≤ zs.length + 1 := by
  unfold eit at h
  cases hr : num m 1 255 (if so then y else n) zs with
  | error c => rw [thn_bad hr] at h; cases h
  | ok x =>
    obtain ⟨v, us⟩ := x
    rw [thn_ok hr] at h
    split at h
    · cases h; exact num_len hr
    · cases h
theorem c_either (w : World) (p q : Option Addr) (m : Bool) (zs : List Int) (S : Nat → Prop) (so : Bool) (y n : Int) (c : Cod w p q m zs S) (hl : m = true → zs.length ≤ 1000000000) :
    Calls Try.prog 69 #[Co p q, .bool so, .int .i64 y, .int .i64 n] w fun e w' => Ends (eit m so y n zs) (fun b ys => e = .returned (.bool b) ∧ Went w w' p q m S ys) (fun c => e = .panicked (Halt c) ∧ But S w w') := by
  have hA : After w (w.alloc (.cells #[.pointer p, .pointer q] 65)) := After.rfl.alloc _
  obtain ⟨v, hv⟩ : ∃ v, (if so then y else n) = v := ⟨_, rfl⟩
  have HP := hideIt (c_u8 _ p q m zs S v (c.after hA) hl)
  have HV := hideIt c.lt
  have HA := hideIt hA
  have hE : eit m so y n zs = thn (num m 1 255 v zs) fun v zs => if v = y ∨ v = n then .ok (decide (v = y), zs) else .error (stp m 4) := by rw [← hv]; rfl
  have HE := hideIt hE
  clear hl hA hE c
  cases so with
  | true =>
    have hv' : y = v := hv
    subst hv'
    clear hv
    go_enter Try.func69, Try.ntmps69
    go_wp2_with fail
    refine HP.out.mono ?_
    intro e w1 h1
    rcases h1.split with ⟨c, e1, rfl, b⟩ | ⟨x, ys, e1, rfl, S1, c1, s1⟩
    · exact ⟨rfl, Ends.bad (by rw [HE.out, thn_bad e1]) ⟨rfl, HA.out.but.trans b⟩⟩
    · obtain ⟨hc0, hc1⟩ := boxed1 HV.out s1.but
      have HM := hideIt (c_must w1 p q m ys S1 true c1)
      have HM' := hideIt (c_must w1 p q m ys S1 false c1)
      have HC := hideIt c1
      have HS := hideIt s1
      have HE' := hideIt (HE.out.trans (thn_ok e1))
      clear c1 s1 h1 e1 HP HE
      by_cases k1 : x = y
      · have k1' : (x == y) = true := by simpa using k1
        have E := hideIt (HE'.out.trans (if_pos (.inl k1)))
        have kd : decide (x = y) = true := decide_eq_true k1
        rw [kd] at E
        clear k1 kd HE'
        go_wp2_with (go_at_call 39; refine HM.out.mono ?_; rintro e w2 ⟨h, h2⟩; rcases h with ⟨_, rfl⟩ | ⟨h, _⟩; case' inr => cases h)
        go_ret
        exact Ends.ok E.out ⟨rfl, S1, HC.out.after h2, (Stp.behind HA.out HS.out).after h2⟩
      · have k1' : (x == y) = false := by simpa using k1
        have kd : decide (x = y) = false := decide_eq_false k1
        by_cases k2 : x = n
        · have k2' : (x == n) = true := by simpa using k2
          have E := hideIt (HE'.out.trans (if_pos (.inr k2)))
          rw [kd] at E
          clear k1 k2 kd HE'
          go_wp2_with (go_at_call 39; refine HM.out.mono ?_; rintro e w2 ⟨h, h2⟩; rcases h with ⟨_, rfl⟩ | ⟨h, _⟩; case' inr => cases h)
          go_ret
          exact Ends.ok E.out ⟨rfl, S1, HC.out.after h2, (Stp.behind HA.out HS.out).after h2⟩
        · have k2' : (x == n) = false := by simpa using k2
          have E := hideIt (HE'.out.trans (if_neg (fun h => h.elim k1 k2)))
          clear k1 k2 kd HE'
          go_wp2_with (go_at_call 39; refine HM'.out.mono ?_; rintro e w2 ⟨h, h2⟩; rcases h with ⟨h, _⟩ | ⟨_, rfl⟩; case' inl => cases h)
          exact ⟨rfl, Ends.bad E.out ⟨rfl, (HA.out.but.trans HS.out.but).trans h2.but⟩⟩
  | false =>
    have hv' : n = v := hv
    subst hv'
    clear hv
    go_enter Try.func69, Try.ntmps69
    go_wp2_with fail
    refine HP.out.mono ?_
    intro e w1 h1
    rcases h1.split with ⟨c, e1, rfl, b⟩ | ⟨x, ys, e1, rfl, S1, c1, s1⟩
    · exact ⟨rfl, Ends.bad (by rw [HE.out, thn_bad e1]) ⟨rfl, HA.out.but.trans b⟩⟩
    · obtain ⟨hc0, hc1⟩ := boxed1 HV.out s1.but
      have HM := hideIt (c_must w1 p q m ys S1 true c1)
      have HM' := hideIt (c_must w1 p q m ys S1 false c1)
      have HC := hideIt c1
      have HS := hideIt s1
      have HE' := hideIt (HE.out.trans (thn_ok e1))
      clear c1 s1 h1 e1 HP HE
      by_cases k1 : x = y
      · have k1' : (x == y) = true := by simpa using k1
        have E := hideIt (HE'.out.trans (if_pos (.inl k1)))
        have kd : decide (x = y) = true := decide_eq_true k1
        rw [kd] at E
        clear k1 kd HE'
        go_wp2_with (go_at_call 39; refine HM.out.mono ?_; rintro e w2 ⟨h, h2⟩; rcases h with ⟨_, rfl⟩ | ⟨h, _⟩; case' inr => cases h)
        go_ret
        exact Ends.ok E.out ⟨rfl, S1, HC.out.after h2, (Stp.behind HA.out HS.out).after h2⟩
      · have k1' : (x == y) = false := by simpa using k1
        have kd : decide (x = y) = false := decide_eq_false k1
        by_cases k2 : x = n
        · have k2' : (x == n) = true := by simpa using k2
          have E := hideIt (HE'.out.trans (if_pos (.inr k2)))
          rw [kd] at E
          clear k1 k2 kd HE'
          go_wp2_with (go_at_call 39; refine HM.out.mono ?_; rintro e w2 ⟨h, h2⟩; rcases h with ⟨_, rfl⟩ | ⟨h, _⟩; case' inr => cases h)
          go_ret
          exact Ends.ok E.out ⟨rfl, S1, HC.out.after h2, (Stp.behind HA.out HS.out).after h2⟩
        · have k2' : (x == n) = false := by simpa using k2
          have E := hideIt (HE'.out.trans (if_neg (fun h => h.elim k1 k2)))
          clear k1 k2 kd HE'
          go_wp2_with (go_at_call 39; refine HM'.out.mono ?_; rintro e w2 ⟨h, h2⟩; rcases h with ⟨h, _⟩ | ⟨_, rfl⟩; case' inl => cases h)
          exact ⟨rfl, Ends.bad E.out ⟨rfl, (HA.out.but.trans HS.out.but).trans h2.but⟩⟩
end Go.Proofs.Ythcfdoafncbliaa
