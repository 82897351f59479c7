/-
  What stands in a message, alone or within data, by a coder.
-/
import Derived.Test.YtigiakhdaaoljaaPartR
namespace Go.Proofs.Ytigiakhdaaoljaa
open Go.RowKit
set_option maxRecDepth 8000
theorem obsL_len {m : Bool} {all l : List Bi} {zs ys : List Int} (h : obsL m all zs = .ok (l, ys)) : ys.length ≤ zs.length + 7 * all.length := by
  induction all generalizing zs l ys with
  | nil => cases h; simp
  | cons a r ih =>
    unfold obsL at h
    cases e1 : obs1 m a zs with
    | error c => rw [thn_bad e1] at h; cases h
    | ok v =>
      obtain ⟨x, z1⟩ := v
      rw [thn_ok e1] at h
      cases e2 : obsL m r z1 with
      | error c => rw [thn_bad e2] at h; cases h
      | ok v =>
        obtain ⟨l2, z2⟩ := v
        rw [thn_ok e2] at h
        have h1 := obs1_len e1
        have h2 := ih e2
        cases h
        rw [List.length_cons]; omega
theorem objL_len {m : Bool} {hs : List Int} {all l : List Ob} {zs ys : List Int} (h : objL m hs all zs = .ok (l, ys)) : ys.length ≤ zs.length + 5 * all.length := by
  induction all generalizing zs l ys hs with
  | nil => cases h; simp
  | cons a r ih =>
    unfold objL at h
    cases e1 : obj1 m hs a zs with
    | error c => rw [thn_bad e1] at h; cases h
    | ok v =>
      obtain ⟨x, z1⟩ := v
      rw [thn_ok e1] at h
      cases e2 : objL m (hs ++ [x.h]) r z1 with
      | error c => rw [thn_bad e2] at h; cases h
      | ok v =>
        obtain ⟨l2, z2⟩ := v
        rw [thn_ok e2] at h
        have h1 := obj1_len e1
        have h2 := ih e2
        cases h
        rw [List.length_cons]; omega
theorem lstB_len {m : Bool} {all l : List Bi} {zs ys : List Int} (h : lstB m all zs = .ok (l, ys)) : ys.length ≤ zs.length + 500 := by
  unfold lstB at h
  cases e1 : num m 2 65535 all.length zs with
  | error c => rw [thn_bad e1] at h; cases h
  | ok v =>
    obtain ⟨n, z1⟩ := v
    rw [thn_ok e1] at h
    split at h
    · cases h
    · have h1 := num_len e1
      have h2 := obsL_len h
      rw [fillOf_length] at h2
      omega
theorem lstO_len {m : Bool} {all l : List Ob} {zs ys : List Int} (h : lstO m all zs = .ok (l, ys)) : ys.length ≤ zs.length + 500 := by
  unfold lstO at h
  cases e1 : num m 2 65535 all.length zs with
  | error c => rw [thn_bad e1] at h; cases h
  | ok v =>
    obtain ⟨n, z1⟩ := v
    rw [thn_ok e1] at h
    split at h
    · cases h
    · have h1 := num_len e1
      have h2 := objL_len h
      rw [fillOf_length] at h2
      omega
theorem thn_len {α β : Type} {r : Except Int (α × List Int)} {f : α → List Int → Except Int (β × List Int)} {zs us : List Int} {x : β} {a b : Nat} (h1 : ∀ y ys, r = .ok (y, ys) → ys.length ≤ zs.length + a) (h2 : ∀ y ys, r = .ok (y, ys) → ∀ x us, f y ys = .ok (x, us) → us.length ≤ ys.length + b) (h : thn r f = .ok (x, us)) : us.length ≤ zs.length + (a + b) := by
  rcases r with c | ⟨y, ys⟩
  · cases h
  · have := h1 y ys rfl
    have := h2 y ys rfl x us h
    omega
theorem fieldsF_len {m : Bool} {k : Int} {M X : Msg} {zs us : List Int} (h : fieldsF m k M zs = .ok (X, us)) (hb : Bs zs) : us.length ≤ zs.length + 66000 := by
  have nb : ∀ {v : Int} {zs : List Int} {y : Int} {ys : List Int}, num m 2 65535 v zs = .ok (y, ys) → ys.length ≤ zs.length + 2 := fun h => num_len h
  unfold fieldsF at h
  split at h
  · exact Nat.le_trans (thn_len (a := 65537) (b := 2 + 0) (fun y ys e => (sys_len e hb).2) (fun y ys _ x us e => thn_len (a := 2) (b := 0) (fun _ _ e => nb e) (fun _ _ _ _ _ e => by cases e; omega) e) h) (by omega)
  split at h
  · exact Nat.le_trans (thn_len (a := 2) (b := 2 + 0) (fun y ys e => nb e) (fun y ys _ x us e => thn_len (a := 2) (b := 0) (fun _ _ e => nb e) (fun _ _ _ _ _ e => by cases e; omega) e) h) (by omega)
  split at h
  · exact Nat.le_trans (thn_len (a := 2) (b := 0) (fun y ys e => nb e) (fun _ _ _ _ _ e => by cases e; omega) h) (by omega)
  split at h
  · exact Nat.le_trans (thn_len (a := 2) (b := 500 + 0) (fun y ys e => nb e) (fun y ys _ x us e => thn_len (a := 500) (b := 0) (fun _ _ e => lstO_len e) (fun _ _ _ _ _ e => by cases e; omega) e) h) (by omega)
  split at h
  · exact Nat.le_trans (thn_len (a := 2) (b := 2 + 0) (fun y ys e => nb e) (fun y ys _ x us e => thn_len (a := 2) (b := 0) (fun _ _ e => nb e) (fun _ _ _ _ _ e => by cases e; omega) e) h) (by omega)
  split at h
  · exact Nat.le_trans (thn_len (a := 500) (b := 0) (fun y ys e => lstB_len e) (fun _ _ _ _ _ e => by cases e; omega) h) (by omega)
  · cases h; omega
theorem insF_len {m : Bool} {ok : Int → Bool} {k : Int} {M X : Msg} {zs us : List Int} (h : insF m ok k M zs = .ok (X, us)) (hb : Bs zs) : us.length ≤ zs.length + 66000 := by
  unfold insF at h
  split at h
  · exact fieldsF_len h hb
  · cases h
/-- What stands within data, as the function within asks it. -/
theorem clo44 (g : Nat) (m : Bool) (P : Nat → Prop) (M : Msg) (sa : Option Addr) (sc : Nat) (oa : Option Addr) (oc : Nat) (ba : Option Addr) (bc : Nat) (hg : ¬ P g) : Clo 44 g m P M sa sc oa oc ba bc (fun k zs => insF m inData k M zs) := by
  intro w p q zs S k cd kb x hP hl
  refine (in44 w p q m zs S P g k M sa sc oa oc ba bc cd kb x hP hg hl).mono ?_
  intro e w1 h1
  rcases h1.split with ⟨c9, e1, rfl, t⟩ | ⟨X, us, e1, rfl, hv, hs⟩
  · exact Ends.bad e1 ⟨rfl, t.mono (fun _ _ h => .inl h)⟩
  · exact Ends.ok e1 ⟨rfl, hv.c, hs⟩
/-- All that stands in a message. -/
def insD (m : Bool) (M : Msg) (k : Int) (zs : List Int) : Except Int (Msg × List Int) :=
  if k = 59136 then (if m then partW (fun k zs => insF true inData k M zs) M.kind zs else partR (fun k zs => insF false inData k M zs) M.kind zs) else insF m alone k M zs
theorem partW_len {ins : Int → List Int → Except Int (Msg × List Int)} {k : Int} {X : Msg} {zs us : List Int} {N : Nat} (h : partW ins k zs = .ok (X, us)) (_hb : ∀ X bs, ins k [] = .ok (X, bs) → bs.length ≤ N) (hz : Bs zs) : us.length ≤ zs.length + 70000 := by
  unfold partW at h
  cases e0 : ins k [] with
  | error c => rw [thn_bad e0] at h; cases h
  | ok v =>
    obtain ⟨X0, bs⟩ := v
    rw [thn_ok e0] at h
    refine Nat.le_trans (thn_len (zs := zs) (a := 2) (b := 65537 + 0) (fun y ys e => num_len e) (fun y ys e x us e' => thn_len (a := 65537) (b := 0) (fun _ _ e2 => (oct_len e2 (num_bs e hz)).2) (fun _ _ _ _ _ e => by cases e; omega) e') h) (by omega)
theorem insD_len {m : Bool} {M : Msg} {k : Int} {X : Msg} {us : List Int} (h : insD m M k [] = .ok (X, us)) (hm : m = true) : us.length ≤ 1000000 := by
  subst hm
  unfold insD at h
  split at h
  · rw [if_pos rfl] at h
    have := partW_len (N := 1000000) h (fun X bs e => by have := insF_len e Bs.nil; simp at this; omega) Bs.nil
    simp at this; omega
  · have := insF_len h Bs.nil
    simp at this; omega
theorem VarsC.base {w w0 w' : World} {m : Bool} {g : Nat} {P : Nat → Prop} {X : Msg} (h : VarsC w w' m g P X) (hs : w0.heap.size ≤ w.heap.size) : VarsC w0 w' m g P X := by
  obtain ⟨sa, sc, oa, oc, ba, bc, h1, h2⟩ := h
  exact ⟨sa, sc, oa, oc, ba, bc, h1, fun hm => ⟨(h2 hm).1.mono (fun k hk => hk.imp_right (fun h => Nat.le_trans hs h)), own_base (h2 hm).2 (fun k hk => Nat.le_trans hs ((h2 hm).2.lt k hk).1)⟩⟩
theorem StpV.behind {S S' : Nat → Prop} {g : Nat} {w w1 w2 : World} (a : After w w1) (s : StpV S g w1 S' w2) : StpV S g w S' w2 := ⟨a.but.trans s.but, fun k hk => (s.new k hk).imp_right (fun h => Nat.le_trans a.size h)⟩
set_option maxHeartbeats 1000000 in
theorem dat41 (w : World) (p q : Option Addr) (m : Bool) (zs : List Int) (S P : Nat → Prop) (g : Nat) (M : Msg) (sa : Option Addr) (sc : Nat) (oa : Option Addr) (oc : Nat) (ba : Option Addr) (bc : Nat) (cd : Cod w p q m zs S) (kb : Keeps w S g (.cells (M.cells sa sc oa oc ba bc) 26 (0, 0))) (x : MsgX w P M sa sc oa oc ba bc) (hP : ∀ k, P k → ¬ S k ∧ k < w.heap.size) (hg : ¬ P g) (hl : m = true → zs.length ≤ 900000000) :
    Calls Try.prog 41 #[Co p q, .int .i64 59136, Ptr g] w fun e w' => Ends (insD m M 59136 zs) (fun X us => e = .returned (.tuple #[]) ∧ VarsC w w' m g P X ∧ ∃ S', Cod w' p q m us S' ∧ StpV S g w S' w') (fun c => e = .panicked (Halt c) ∧ But (fun k => S k ∨ k = g) w w') := by
  have hmf : ∀ (fn : Fn) (first cap : Array Value) (w : World), (Instr.makeFunc fn first cap).run Try.prog w = .ok (.func fn first cap) w := fun _ _ _ _ => rfl
  have hgw := kb.lt
  have ng1 : ¬ g = w.heap.size := by omega
  have hA : After w (w.alloc (.cells #[.pointer p, .pointer q] 52)) := After.rfl.alloc _
  have hP1 : ∀ k, P k → ¬ S k ∧ k < (w.alloc (.cells #[.pointer p, .pointer q] 52)).heap.size := fun k hk => ⟨(hP k hk).1, Nat.lt_of_lt_of_le (hP k hk).2 hA.size⟩
  have kb0 := kb.at0
  unfold Msg.cells at kb0
  obtain ⟨_, ⟨g0, _⟩, _⟩ := seven_at kb0
  have H1 : Hid (Calls Try.prog 40 #[Co p q, .int .i64 M.kind, .func (.func 44) #[] #[Ptr g]] (w.alloc (.cells #[.pointer p, .pointer q] 52)) fun e w' => Ends (insD m M 59136 zs) (fun X us => e = .returned (.tuple #[]) ∧ VarsC w w' m g P X ∧ ∃ S', Cod w' p q m us S' ∧ StpV S g w S' w') (fun c => e = .panicked (Halt c) ∧ But (fun k => S k ∨ k = g) w w')) := by
    cases m with
    | true =>
      obtain rfl : p = none := by
        rcases cd.is with ⟨h, _⟩ | ⟨_, g', v, e, _⟩
        · cases h
        · exact e
      refine (part_w44 _ q zs S P g M.kind M sa sc oa oc ba bc _ (clo44 g true P M sa sc oa oc ba bc hg) (cd.after hA) (kb.after hA) (x.after hA) hP1 (hl rfl) (fun X bs e => by have := insF_len e Bs.nil; simp at this; omega)).mono ?_
      intro e w1 h1
      rcases h1.split with ⟨c9, e1, rfl, t⟩ | ⟨X, us, e1, rfl, hv, S', k', s'⟩
      · exact Ends.bad e1 ⟨rfl, hA.but.trans t⟩
      · exact Ends.ok e1 ⟨rfl, hv.base hA.size, S', k', StpV.behind hA s'⟩
    | false =>
      obtain rfl : q = none := by
        rcases cd.is with ⟨_, g', v, _, e, _⟩ | ⟨h, _⟩
        · exact e
        · cases h
      refine (part_r44 _ p zs S P g M.kind M sa sc oa oc ba bc _ (clo44 g false P M sa sc oa oc ba bc hg) (cd.after hA) (kb.after hA) (x.after hA) hP1).mono ?_
      intro e w1 h1
      rcases h1.split with ⟨c9, e1, rfl, t⟩ | ⟨X, us, e1, rfl, hv, S', k', s'⟩
      · exact Ends.bad e1 ⟨rfl, hA.but.trans t⟩
      · exact Ends.ok e1 ⟨rfl, hv.base hA.size, S', k', StpV.behind hA s'⟩
  clear hA hP1 cd kb x hP hg hl kb0
  go_enter Try.func41, Try.ntmps41
  go_wp2_with fail
  refine H1.out.mono ?_
  clear H1
  intro e w1 h1
  rcases h1.split with ⟨c9, e1, rfl, t⟩ | ⟨X, us, e1, rfl, hv⟩
  · exact ⟨rfl, Ends.bad e1 ⟨rfl, t⟩⟩
  have HV := hideIt (And.intro e1 hv)
  clear h1 e1 hv
  go_wp2_with fail
  first | go_end0 | refine bodyPost_ret (results_none rfl _ _ _) rfl ?_
  exact Ends.ok HV.out.1 ⟨rfl, HV.out.2⟩
theorem clo41 (g : Nat) (m : Bool) (P : Nat → Prop) (M : Msg) (sa : Option Addr) (sc : Nat) (oa : Option Addr) (oc : Nat) (ba : Option Addr) (bc : Nat) (hg : ¬ P g) : Clo 41 g m P M sa sc oa oc ba bc (insD m M) := by
  intro w p q zs S k cd kb x hP hl
  by_cases hk : k = 59136
  · subst hk
    exact dat41 w p q m zs S P g M sa sc oa oc ba bc cd kb x hP hg hl
  · refine (in41 w p q m zs S P g k M sa sc oa oc ba bc cd kb x hP hg hl hk).mono ?_
    intro e w1 h1
    have hE : insD m M k zs = insF m alone k M zs := if_neg hk
    rcases h1.split with ⟨c9, e1, rfl, t⟩ | ⟨X, us, e1, rfl, hv, hs⟩
    · exact Ends.bad (hE.trans e1) ⟨rfl, t.mono (fun _ _ h => .inl h)⟩
    · exact Ends.ok (hE.trans e1) ⟨rfl, hv.c, hs⟩
end Go.Proofs.Ytigiakhdaaoljaa
