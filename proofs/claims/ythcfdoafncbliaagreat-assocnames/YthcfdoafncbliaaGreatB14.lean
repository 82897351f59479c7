/-
  Laid together: Data, PartWb.
-/
import Derived.Test.YthcfdoafncbliaaGreatB13
/-
  What stands in a message, alone or within data, by a coder.
-/
namespace Go.Proofs.YthcfdoafncbliaaGreat
open Go.RowKit
set_option maxRecDepth 8000
theorem obsL_len {m : Bool} {all l : List Bi} {zs ys : List Int} (h : obsL m all zs = .ok (l, ys)) : ys.length ≤ zs.length + 7 * all.length := by
  induction all generalizing zs l ys with
  | nil => cases h; simp
  | cons a r ih =>
    unfold obsL at h
    cases e1 : obs1 m a zs with
    | error c => rw [thn_bad e1] at h; cases h
    | ok v =>
      obtain ⟨x, z1⟩ := v
      rw [thn_ok e1] at h
      cases e2 : obsL m r z1 with
      | error c => rw [thn_bad e2] at h; cases h
      | ok v =>
        obtain ⟨l2, z2⟩ := v
        rw [thn_ok e2] at h
        have h1 := obs1_len e1
        have h2 := ih e2
        cases h
        rw [List.length_cons]; omega
theorem objL_len {m : Bool} {hs : List Int} {all l : List Ob} {zs ys : List Int} (h : objL m hs all zs = .ok (l, ys)) : ys.length ≤ zs.length + 5 * all.length := by
  induction all generalizing zs l ys hs with
  | nil => cases h; simp
  | cons a r ih =>
    unfold objL at h
    cases e1 : obj1 m hs a zs with
    | error c => rw [thn_bad e1] at h; cases h
    | ok v =>
      obtain ⟨x, z1⟩ := v
      rw [thn_ok e1] at h
      cases e2 : objL m (hs ++ [x.h]) r z1 with
      | error c => rw [thn_bad e2] at h; cases h
      | ok v =>
        obtain ⟨l2, z2⟩ := v
        rw [thn_ok e2] at h
        have h1 := obj1_len e1
        have h2 := ih e2
        cases h
        rw [List.length_cons]; omega
theorem lstB_len {m : Bool} {all l : List Bi} {zs ys : List Int} (h : lstB m all zs = .ok (l, ys)) : ys.length ≤ zs.length + 500 := by
  unfold lstB at h
  cases e1 : num m 2 65535 all.length zs with
  | error c => rw [thn_bad e1] at h; cases h
  | ok v =>
    obtain ⟨n, z1⟩ := v
    rw [thn_ok e1] at h
    split at h
    · cases h
    · have h1 := num_len e1
      have h2 := obsL_len h
      rw [fillOf_length] at h2
      omega
theorem lstO_len {m : Bool} {all l : List Ob} {zs ys : List Int} (h : lstO m all zs = .ok (l, ys)) : ys.length ≤ zs.length + 500 := by
  unfold lstO at h
  cases e1 : num m 2 65535 all.length zs with
  | error c => rw [thn_bad e1] at h; cases h
  | ok v =>
    obtain ⟨n, z1⟩ := v
    rw [thn_ok e1] at h
    split at h
    · cases h
    · have h1 := num_len e1
      have h2 := objL_len h
      rw [fillOf_length] at h2
      omega
theorem thn_len {α β : Type} {r : Except Int (α × List Int)} {f : α → List Int → Except Int (β × List Int)} {zs us : List Int} {x : β} {a b : Nat} (h1 : ∀ y ys, r = .ok (y, ys) → ys.length ≤ zs.length + a) (h2 : ∀ y ys, r = .ok (y, ys) → ∀ x us, f y ys = .ok (x, us) → us.length ≤ ys.length + b) (h : thn r f = .ok (x, us)) : us.length ≤ zs.length + (a + b) := by
  rcases r with c | ⟨y, ys⟩
  · cases h
  · have := h1 y ys rfl
    have := h2 y ys rfl x us h
    omega
theorem fieldsF_len {m : Bool} {k : Int} {M X : Msg} {zs us : List Int} (h : fieldsF m k M zs = .ok (X, us)) (hb : Bs zs) : us.length ≤ zs.length + 66000 := by
  have nb : ∀ {v : Int} {zs : List Int} {y : Int} {ys : List Int}, num m 2 65535 v zs = .ok (y, ys) → ys.length ≤ zs.length + 2 := fun h => num_len h
  unfold fieldsF at h
  split at h
  · exact Nat.le_trans (thn_len (a := 65537) (b := 2 + 0) (fun y ys e => (sys_len e hb).2) (fun y ys _ x us e => thn_len (a := 2) (b := 0) (fun _ _ e => nb e) (fun _ _ _ _ _ e => by cases e; omega) e) h) (by omega)
  split at h
  · exact Nat.le_trans (thn_len (a := 2) (b := 2 + 0) (fun y ys e => nb e) (fun y ys _ x us e => thn_len (a := 2) (b := 0) (fun _ _ e => nb e) (fun _ _ _ _ _ e => by cases e; omega) e) h) (by omega)
  split at h
  · exact Nat.le_trans (thn_len (a := 2) (b := 0) (fun y ys e => nb e) (fun _ _ _ _ _ e => by cases e; omega) h) (by omega)
  split at h
  · exact Nat.le_trans (thn_len (a := 2) (b := 500 + 0) (fun y ys e => nb e) (fun y ys _ x us e => thn_len (a := 500) (b := 0) (fun _ _ e => lstO_len e) (fun _ _ _ _ _ e => by cases e; omega) e) h) (by omega)
  split at h
  · exact Nat.le_trans (thn_len (a := 2) (b := 2 + 0) (fun y ys e => nb e) (fun y ys _ x us e => thn_len (a := 2) (b := 0) (fun _ _ e => nb e) (fun _ _ _ _ _ e => by cases e; omega) e) h) (by omega)
  split at h
  · exact Nat.le_trans (thn_len (a := 500) (b := 0) (fun y ys e => lstB_len e) (fun _ _ _ _ _ e => by cases e; omega) h) (by omega)
  · cases h; omega
theorem insF_len {m : Bool} {ok : Int → Bool} {k : Int} {M X : Msg} {zs us : List Int} (h : insF m ok k M zs = .ok (X, us)) (hb : Bs zs) : us.length ≤ zs.length + 66000 := by
  unfold insF at h
  split at h
  · exact fieldsF_len h hb
  · cases h
/-- What stands within data, as the function within asks it. -/
theorem clo44 (g : Nat) (m : Bool) (P : Nat → Prop) (M : Msg) (sa : Option Addr) (sc : Nat) (oa : Option Addr) (oc : Nat) (ba : Option Addr) (bc : Nat) (hg : ¬ P g) : Clo 62 g m P M sa sc oa oc ba bc (fun k zs => insF m inData k M zs) := by
  intro w p q zs S k cd kb x hP hl
  refine (in44 w p q m zs S P g k M sa sc oa oc ba bc cd kb x hP hg hl).mono ?_
  intro e w1 h1
  rcases h1.split with ⟨c9, e1, rfl, t⟩ | ⟨X, us, e1, rfl, hv, hs⟩
  · exact Ends.bad e1 ⟨rfl, t.mono (fun _ _ h => .inl h)⟩
  · exact Ends.ok e1 ⟨rfl, hv.c, hs⟩
/-- All that stands in a message. -/
def insD (m : Bool) (M : Msg) (k : Int) (zs : List Int) : Except Int (Msg × List Int) :=
  if k = 59136 then (if m then partW (fun k zs => insF true inData k M zs) M.kind zs else partR (fun k zs => insF false inData k M zs) M.kind zs) else insF m alone k M zs
theorem partW_len {ins : Int → List Int → Except Int (Msg × List Int)} {k : Int} {X : Msg} {zs us : List Int} {N : Nat} (h : partW ins k zs = .ok (X, us)) (_hb : ∀ X bs, ins k [] = .ok (X, bs) → bs.length ≤ N) (hz : Bs zs) : us.length ≤ zs.length + 70000 := by
  unfold partW at h
  cases e0 : ins k [] with
  | error c => rw [thn_bad e0] at h; cases h
  | ok v =>
    obtain ⟨X0, bs⟩ := v
    rw [thn_ok e0] at h
    refine Nat.le_trans (thn_len (zs := zs) (a := 2) (b := 65537 + 0) (fun y ys e => num_len e) (fun y ys e x us e' => thn_len (a := 65537) (b := 0) (fun _ _ e2 => (oct_len e2 (num_bs e hz)).2) (fun _ _ _ _ _ e => by cases e; omega) e') h) (by omega)
theorem insD_len {m : Bool} {M : Msg} {k : Int} {X : Msg} {us : List Int} (h : insD m M k [] = .ok (X, us)) (hm : m = true) : us.length ≤ 1000000 := by
  subst hm
  unfold insD at h
  split at h
  · rw [if_pos rfl] at h
    have := partW_len (N := 1000000) h (fun X bs e => by have := insF_len e Bs.nil; simp at this; omega) Bs.nil
    simp at this; omega
  · have := insF_len h Bs.nil
    simp at this; omega
theorem VarsC.base {w w0 w' : World} {m : Bool} {g : Nat} {P : Nat → Prop} {X : Msg} (h : VarsC w w' m g P X) (hs : w0.heap.size ≤ w.heap.size) : VarsC w0 w' m g P X := by
  obtain ⟨sa, sc, oa, oc, ba, bc, h1, h2⟩ := h
  exact ⟨sa, sc, oa, oc, ba, bc, h1, fun hm => ⟨(h2 hm).1.mono (fun k hk => hk.imp_right (fun h => Nat.le_trans hs h)), own_base (h2 hm).2 (fun k hk => Nat.le_trans hs ((h2 hm).2.lt k hk).1)⟩⟩
theorem StpV.behind {S S' : Nat → Prop} {g : Nat} {w w1 w2 : World} (a : After w w1) (s : StpV S g w1 S' w2) : StpV S g w S' w2 := ⟨a.but.trans s.but, fun k hk => (s.new k hk).imp_right (fun h => Nat.le_trans a.size h)⟩
set_option maxHeartbeats 1000000 in
theorem dat41 (w : World) (p q : Option Addr) (m : Bool) (zs : List Int) (S P : Nat → Prop) (g : Nat) (M : Msg) (sa : Option Addr) (sc : Nat) (oa : Option Addr) (oc : Nat) (ba : Option Addr) (bc : Nat) (cd : Cod w p q m zs S) (kb : Keeps w S g (.cells (M.cells sa sc oa oc ba bc) 31 (0, 0))) (x : MsgX w P M sa sc oa oc ba bc) (hP : ∀ k, P k → ¬ S k ∧ k < w.heap.size) (hg : ¬ P g) (hl : m = true → zs.length ≤ 900000000) :
    Calls Tryz.prog 59 #[Co p q, .int .i64 59136, Ptr g] w fun e w' => Ends (insD m M 59136 zs) (fun X us => e = .returned (.tuple #[]) ∧ VarsC w w' m g P X ∧ ∃ S', Cod w' p q m us S' ∧ StpV S g w S' w') (fun c => e = .panicked (Halt c) ∧ But (fun k => S k ∨ k = g) w w') := by
  have hmf : ∀ (fn : Fn) (first cap : Array Value) (w : World), (Instr.makeFunc fn first cap).run Tryz.prog w = .ok (.func fn first cap) w := fun _ _ _ _ => rfl
  have hgw := kb.lt
  have ng1 : ¬ g = w.heap.size := by omega
  have hA : After w (w.alloc (.cells #[.pointer p, .pointer q] 79)) := After.rfl.alloc _
  have hP1 : ∀ k, P k → ¬ S k ∧ k < (w.alloc (.cells #[.pointer p, .pointer q] 79)).heap.size := fun k hk => ⟨(hP k hk).1, Nat.lt_of_lt_of_le (hP k hk).2 hA.size⟩
  have kb0 := kb.at0
  unfold Msg.cells at kb0
  obtain ⟨_, ⟨g0, _⟩, _⟩ := seven_at kb0
  have H1 : Hid (Calls Tryz.prog 58 #[Co p q, .int .i64 M.kind, .func (.func 62) #[] #[Ptr g]] (w.alloc (.cells #[.pointer p, .pointer q] 79)) fun e w' => Ends (insD m M 59136 zs) (fun X us => e = .returned (.tuple #[]) ∧ VarsC w w' m g P X ∧ ∃ S', Cod w' p q m us S' ∧ StpV S g w S' w') (fun c => e = .panicked (Halt c) ∧ But (fun k => S k ∨ k = g) w w')) := by
    cases m with
    | true =>
      obtain rfl : p = none := by
        rcases cd.is with ⟨h, _⟩ | ⟨_, g', v, e, _⟩
        · cases h
        · exact e
      refine (part_w44 _ q zs S P g M.kind M sa sc oa oc ba bc _ (clo44 g true P M sa sc oa oc ba bc hg) (cd.after hA) (kb.after hA) (x.after hA) hP1 (hl rfl) (fun X bs e => by have := insF_len e Bs.nil; simp at this; omega)).mono ?_
      intro e w1 h1
      rcases h1.split with ⟨c9, e1, rfl, t⟩ | ⟨X, us, e1, rfl, hv, S', k', s'⟩
      · exact Ends.bad e1 ⟨rfl, hA.but.trans t⟩
      · exact Ends.ok e1 ⟨rfl, hv.base hA.size, S', k', StpV.behind hA s'⟩
    | false =>
      obtain rfl : q = none := by
        rcases cd.is with ⟨_, g', v, _, e, _⟩ | ⟨h, _⟩
        · exact e
        · cases h
      refine (part_r44 _ p zs S P g M.kind M sa sc oa oc ba bc _ (clo44 g false P M sa sc oa oc ba bc hg) (cd.after hA) (kb.after hA) (x.after hA) hP1).mono ?_
      intro e w1 h1
      rcases h1.split with ⟨c9, e1, rfl, t⟩ | ⟨X, us, e1, rfl, hv, S', k', s'⟩
      · exact Ends.bad e1 ⟨rfl, hA.but.trans t⟩
      · exact Ends.ok e1 ⟨rfl, hv.base hA.size, S', k', StpV.behind hA s'⟩
  clear hA hP1 cd kb x hP hg hl kb0
  go_enter Tryz.func59, Tryz.ntmps59
  go_wp2_with fail
  refine H1.out.mono ?_
  clear H1
  intro e w1 h1
  rcases h1.split with ⟨c9, e1, rfl, t⟩ | ⟨X, us, e1, rfl, hv⟩
  · exact ⟨rfl, Ends.bad e1 ⟨rfl, t⟩⟩
  have HV := hideIt (And.intro e1 hv)
  clear h1 e1 hv
  go_wp2_with fail
  first | go_end0 | refine bodyPost_ret (results_none rfl _ _ _) rfl ?_
  exact Ends.ok HV.out.1 ⟨rfl, HV.out.2⟩
theorem clo41 (g : Nat) (m : Bool) (P : Nat → Prop) (M : Msg) (sa : Option Addr) (sc : Nat) (oa : Option Addr) (oc : Nat) (ba : Option Addr) (bc : Nat) (hg : ¬ P g) : Clo 59 g m P M sa sc oa oc ba bc (insD m M) := by
  intro w p q zs S k cd kb x hP hl
  by_cases hk : k = 59136
  · subst hk
    exact dat41 w p q m zs S P g M sa sc oa oc ba bc cd kb x hP hg hl
  · refine (in41 w p q m zs S P g k M sa sc oa oc ba bc cd kb x hP hg hl hk).mono ?_
    intro e w1 h1
    have hE : insD m M k zs = insF m alone k M zs := if_neg hk
    rcases h1.split with ⟨c9, e1, rfl, t⟩ | ⟨X, us, e1, rfl, hv, hs⟩
    · exact Ends.bad (hE.trans e1) ⟨rfl, t.mono (fun _ _ h => .inl h)⟩
    · exact Ends.ok (hE.trans e1) ⟨rfl, hv.c, hs⟩
end Go.Proofs.YthcfdoafncbliaaGreat
/-
  A kind, how many bytes follow, and what stands in them: writing.
-/
namespace Go.Proofs.YthcfdoafncbliaaGreat
open Go.RowKit
set_option maxRecDepth 8000
set_option maxHeartbeats 1000000 in
theorem part_w41 (w : World) (q : Option Addr) (zs : List Int) (S P : Nat → Prop) (g : Nat) (k : Int) (M : Msg) (sa : Option Addr) (sc : Nat) (oa : Option Addr) (oc : Nat) (ba : Option Addr) (bc : Nat) (ins : Int → List Int → Except Int (Msg × List Int)) (H : Clo 59 g true P M sa sc oa oc ba bc ins) (cd : Cod w none q true zs S) (kb : Keeps w S g (.cells (M.cells sa sc oa oc ba bc) 31 (0, 0))) (x : MsgX w P M sa sc oa oc ba bc) (hP : ∀ k, P k → ¬ S k ∧ k < w.heap.size) (hl : zs.length ≤ 900000000) (hb : ∀ X bs, ins k [] = .ok (X, bs) → bs.length ≤ 1000000) :
    Calls Tryz.prog 58 #[Co none q, .int .i64 k, .func (.func 59) #[] #[Ptr g]] w fun e w' => Ends (partW ins k zs) (fun X us => e = .returned (.tuple #[]) ∧ VarsC w w' true g P X ∧ ∃ S', Cod w' none q true us S' ∧ StpV S g w S' w') (fun c => e = .panicked (Halt c) ∧ But (fun k => S k ∨ k = g) w w') := by
  obtain ⟨gq, rfl⟩ : ∃ gq, q = some ⟨gq, 0, none⟩ := by
    rcases cd.is with ⟨h, _⟩ | ⟨_, g', v, _, e, _⟩
    · cases h
    · exact ⟨g', e⟩
  have hgw := kb.lt
  have HA := hideIt (show After w (w.alloc (.cells #[.pointer none, .pointer (some ⟨gq, 0, none⟩)] 79)) from After.rfl.alloc _)
  have HB0 := hideIt (new1 w (.cells #[.pointer none, .pointer (some ⟨gq, 0, none⟩)] 79))
  have H1 := hideIt (writer_any (w.alloc (.cells #[.pointer none, .pointer (some ⟨gq, 0, none⟩)] 79)))
  have HX := hideIt (And.intro H (And.intro cd (And.intro kb (And.intro x (And.intro hP (And.intro hl hb))))))
  clear H cd kb x hP hl hb
  go_enter Tryz.func58, Tryz.ntmps58
  go_wp2_with fail
  refine H1.out.mono ?_
  clear H1
  rintro e w1 ⟨q2, S2, rfl, c2, a2, hS2⟩
  obtain ⟨g2, rfl⟩ : ∃ g2, q2 = some ⟨g2, 0, none⟩ := by
    rcases c2.is with ⟨h, _⟩ | ⟨_, g', v, _, e, _⟩
    · cases h
    · exact ⟨g', e⟩
  obtain ⟨H, cd, kb, x, hP, hl, hb⟩ := HX.out
  rw [World.size_alloc] at hS2
  have hsz : w.heap.size + 1 ≤ w1.heap.size := by have := a2.size; rw [World.size_alloc] at this; exact this
  have a3 : After w (w1.alloc (.cells #[.pointer none, .pointer (some ⟨g2, 0, none⟩)] 79)) := (HA.out.trans a2).alloc _
  have kn : (w1.alloc (.cells #[.pointer none, .pointer (some ⟨g2, 0, none⟩)] 79)).heap[w.heap.size]? = some (.cells #[.pointer none, .pointer (some ⟨gq, 0, none⟩)] 79 (0, 0)) := new_past _ _ ((But.block a2 _ (by simp) (fun t => t)).trans HB0.out)
  have km := new1 w1 (.cells #[.pointer none, .pointer (some ⟨g2, 0, none⟩)] 79)
  have H2 := hideIt (H _ none (some ⟨g2, 0, none⟩) [] S2 k (c2.after (After.rfl.alloc _)) ⟨(kb.after a3).at0, fun h => by have := hS2 g h; omega⟩ (x.after a3) (fun j hj => ⟨fun h => by have := hS2 j h; have := (hP j hj).2; omega, Nat.lt_of_lt_of_le (hP j hj).2 a3.size⟩) (fun _ => by simp))
  obtain ⟨_, u0, u1, _, _⟩ := two_at kn
  have HY := hideIt (And.intro c2 (And.intro hS2 (And.intro hsz (And.intro a3 (And.intro kn km)))))
  have hbx : (w1.cell? ⟨w.heap.size, 0, none⟩ = some (.pointer none)) ∧ w1.cell? ⟨w.heap.size, 1, none⟩ = some (.pointer (some ⟨gq, 0, none⟩)) := ⟨(two_at ((But.block a2 _ (by simp) (fun t => t)).trans HB0.out)).2.1, (two_at ((But.block a2 _ (by simp) (fun t => t)).trans HB0.out)).2.2.1⟩
  clear H cd kb x hP hl hb c2 a2 hS2 hsz a3 kn km
  go_wp2_with fail
  refine H2.out.mono ?_
  clear H2
  intro e w3 h3
  obtain ⟨H, cd, kb, x, hP, hl, hb⟩ := HX.out
  obtain ⟨c2, hS2, hsz, a3, kn, km⟩ := HY.out
  have hlt2 : ∀ k, S2 k → k < w1.heap.size := c2.lt
  have bw : ∀ {W}, But (fun k => S2 k ∨ k = g) (w1.alloc (.cells #[.pointer none, .pointer (some ⟨g2, 0, none⟩)] 79)) W → But (fun k => S k ∨ k = g) w W := fun {W} t => a3.but.then t (fun i hi h => h.elim (fun h => by have := hS2 i h; omega) .inr)
  rcases h3.split with ⟨c9, e3, rfl, t⟩ | ⟨X, bs, e3, rfl, ⟨xa, xc, ya, yc, za, zc, hv, _⟩, S3, k3, s3⟩
  · exact ⟨rfl, Ends.bad (thn_bad e3) ⟨rfl, bw t⟩⟩
  have hE : partW ins k zs = thn (num true 2 65535 k zs) fun _ zs => thn (oct true bs zs) fun _ zs => .ok (X, zs) := thn_ok e3
  have hbl := hb X bs e3
  have n3 : w3.heap[w.heap.size]? = some (.cells #[.pointer none, .pointer (some ⟨gq, 0, none⟩)] 79 (0, 0)) := (s3.but.block _ (by rw [World.size_alloc]; omega) (fun h => h.elim (fun h => by have := hS2 _ h; omega) (fun h => by omega))).trans kn
  have m3 : w3.heap[w1.heap.size]? = some (.cells #[.pointer none, .pointer (some ⟨g2, 0, none⟩)] 79 (0, 0)) := (s3.but.block _ (by rw [World.size_alloc]; omega) (fun h => h.elim (fun h => by have := hlt2 _ h; omega) (fun h => by omega))).trans km
  have cd3 : Cod w3 none (some ⟨gq, 0, none⟩) true zs S := (cd.after a3).but s3.but (fun j hj h => h.elim (fun h => by have := hS2 j h; have := cd.lt j hj; omega) (fun h => kb.out (by rw [← h]; exact hj)))
  have hS3 : ∀ j, S3 j → w.heap.size < j := fun j hj => (s3.new j hj).elim (fun h => by have := hS2 j h; omega) (fun h => by rw [World.size_alloc] at h; omega)
  have b3 := bw s3.but
  have H3 := hideIt (c_u16 w3 none (some ⟨gq, 0, none⟩) true zs S k cd3 (fun _ => by omega))
  obtain ⟨_, n30, n31, _, _⟩ := two_at n3
  have HZ := hideIt (And.intro hv (And.intro k3 (And.intro hE (And.intro hbl (And.intro n3 (And.intro m3 (And.intro hS3 (And.intro b3 (And.intro cd3 hsz)))))))))
  clear H cd kb x hP hl hb c2 hS2 hsz a3 kn km hlt2 bw h3 e3 hv k3 s3 hE hbl n3 m3 cd3 hS3 b3 hbx
  go_wp2_with fail
  refine H3.out.mono ?_
  clear H3
  intro e w4 h4
  obtain ⟨H, cd, kb, x, hP, hl, hb⟩ := HX.out
  obtain ⟨hv, k3, hE, hbl, n3, m3, hS3, b3, cd3, hsz⟩ := HZ.out
  rcases h4.split with ⟨c9, e4, rfl, t⟩ | ⟨y4, z4, e4, rfl, S4, k4, s4⟩
  · exact ⟨rfl, Ends.bad (hE.trans (thn_bad e4)) ⟨rfl, b3.trans (t.mono (fun _ _ h => .inl h))⟩⟩
  have hl4 := num_len e4
  have hSw : ∀ j, S j → j < w.heap.size := cd.lt
  have n4 : w4.heap[w.heap.size]? = some (.cells #[.pointer none, .pointer (some ⟨gq, 0, none⟩)] 79 (0, 0)) := (s4.but.block _ (Array.getElem?_eq_some_iff.1 n3).1 (fun h => by have := hSw _ h; omega)).trans n3
  have m4 : w4.heap[w1.heap.size]? = some (.cells #[.pointer none, .pointer (some ⟨g2, 0, none⟩)] 79 (0, 0)) := (s4.but.block _ (Array.getElem?_eq_some_iff.1 m3).1 (fun h => by have := hSw _ h; omega)).trans m3
  have hv4 := (s4.but.block g (Array.getElem?_eq_some_iff.1 hv).1 kb.out).trans hv
  have k34 : Cod w4 none (some ⟨g2, 0, none⟩) true bs S3 := k3.but s4.but (fun j hj h => by have := hS3 j hj; have := hSw j h; omega)
  obtain ⟨_, n0, n1, _, _⟩ := two_at n4
  obtain ⟨_, r0, r1, _, _⟩ := two_at m4
  have HLT := hideIt (And.intro (Array.getElem?_eq_some_iff.1 n4).1 (Array.getElem?_eq_some_iff.1 m4).1)
  have HBY := hideIt (fun W (hW : After w4 W) => c_bytes W (some ⟨g2, 0, none⟩) bs S3 (k34.after hW) (by omega))
  have HW := hideIt (And.intro hv4 (And.intro k4 (And.intro (hE.trans (thn_ok e4)) (And.intro hbl (And.intro (b3.trans (s4.but.mono (fun _ _ h => .inl h))) (And.intro (show ∀ j, S4 j → S j ∨ w.heap.size ≤ j from fun j hj => (s4.new j hj).imp_right (fun h => Nat.le_trans b3.size h)) (And.intro (show z4.length ≤ 900000010 by omega) (And.intro (show ¬ S4 w.heap.size ∧ ¬ S4 w1.heap.size from ⟨fun h => (s4.new _ h).elim (fun h => by have := hSw _ h; omega) (fun h => by have := (Array.getElem?_eq_some_iff.1 n3).1; omega), fun h => (s4.new _ h).elim (fun h => by have := hSw _ h; omega) (fun h => by have := (Array.getElem?_eq_some_iff.1 m3).1; omega)⟩) (And.intro k34.bs (show ¬ S4 g from fun h => (s4.new g h).elim kb.out (fun h => by have := (Array.getElem?_eq_some_iff.1 hv).1; omega)))))))))))
  clear H cd kb x hP hl hb hv k3 hE hbl n3 m3 hS3 b3 cd3 hsz h4 e4 k4 s4 hl4 hSw n4 m4 hv4 k34 HX HY HZ
  go_wp2_with fail
  refine wp_region_held_drew (S := (fun W => W.cell? ⟨w.heap.size, 0, none⟩ = some (.pointer none) ∧ W.cell? ⟨w.heap.size, 1, none⟩ = some (.pointer (some ⟨gq, 0, none⟩)) ∧ W.cell? ⟨w1.heap.size, 1, none⟩ = some (.pointer (some ⟨g2, 0, none⟩)))) rfl ⟨n0, n1, r1⟩ (fun hHeld => ?_)
  refine' takeD (i := 0) (d := some 19) (v := _) rfl rfl (by kernel_rfl) (by kernel_rfl) (by kernel_rfl) (fun _ _ _ h => h) (by rfl) hHeld (fun w hSw => ?_) ?_
  rotate_left 1
  · (try dsimp only at hSw)
    go_simp
    try with_reducible rfl
  try simp only [Act.put, List.setIfInBounds_toArray, List.set_cons_zero, List.set_cons_succ]
  refine' takeD (i := 1) (d := some 20) (v := _) rfl rfl (by kernel_rfl) (by kernel_rfl) (by kernel_rfl) (fun _ _ _ h => h) (by rfl) hHeld (fun w hSw => ?_) ?_
  rotate_left 1
  · (try dsimp only at hSw)
    go_simp
    try with_reducible rfl
  try simp only [Act.put, List.setIfInBounds_toArray, List.set_cons_zero, List.set_cons_succ]
  refine' takeD (i := 2) (d := some 21) (v := _) rfl rfl (by kernel_rfl) (by kernel_rfl) (by kernel_rfl) (fun _ _ _ h => h) (by rfl) hHeld (fun w hSw => ?_) ?_
  rotate_left 1
  · (try dsimp only at hSw)
    go_simp
    try with_reducible rfl
  try simp only [Act.put, List.setIfInBounds_toArray, List.set_cons_zero, List.set_cons_succ]
  refine wpAnyH_ready (rs := [3]) (by kernel_rfl) (by simp) ?_
  refine AllReadyH.cons rfl (fun K hK => ?_) AllReadyH.nil
  go_simp
  refine (HBY.out _ (After.rfl.draws 1)).mono ?_
  rintro e w5 ⟨a5, c5, rfl, o5, h5⟩
  try go_wp2_with fail
  refine hK.out _ _ ?_ (fun hHeld3 => ?_)
  · exact ⟨by rw [h5.cell HLT.out.1]; exact hHeld.1, by rw [h5.cell HLT.out.1]; exact hHeld.2.1, by rw [h5.cell HLT.out.2]; exact hHeld.2.2⟩
  clear hK K
  try simp only [Act.put, List.setIfInBounds_toArray, List.set_cons_zero, List.set_cons_succ]
  obtain ⟨hv4, k4, hE, hbl, b4, hn4, hz4, hns, hbs, hg4⟩ := HW.out
  have a45 : After w4 w5 := (After.rfl.draws 1).trans h5
  have c5' := k4.after a45
  have hw45 : w4.heap.size ≤ w5.heap.size := a45.size
  obtain ⟨a6, c6, e6, r6, nil6, _, own6⟩ := own_row o5 hbs
  cases e6
  have hfar : ∀ y, a5 = some y → 0 < bs.length → ¬ S4 y.block := fun y hy _ h => by
    have h1 := (o5.lt _ (own6 y hy).1).1
    have h2 := k4.lt _ h
    have h1 : w4.heap.size ≤ y.block := h1
    omega
  have H6 := hideIt (c_oct _ none (some ⟨gq, 0, none⟩) true z4 S4 a5 bs.length c5 bs c5' r6 nil6 hfar (by omega) (fun _ => by omega))
  have HV := hideIt (And.intro hv4 (And.intro hE (And.intro b4 (And.intro hn4 (And.intro a45 (And.intro hns hg4))))))
  clear hv4 k4 hE hbl b4 hn4 hz4 hns hbs hg4 a45 c5' hw45 r6 nil6 own6 hfar o5
  refine wpAnyH_ready (rs := [4]) (by kernel_rfl) (by simp) ?_
  refine AllReadyH.cons rfl (fun K hK => ?_) AllReadyH.nil
  go_simp
  refine H6.out.mono ?_
  clear H6
  intro e w7 h7
  obtain ⟨hv4, hE, b4, hn4, a45, hns, hg4⟩ := HV.out
  rcases h7.split with ⟨c9, e7, rfl, t⟩ | ⟨ys, us, e7, a7, n7, c7, S7, rfl, _, _, _, k7, s7, _⟩
  · exact ⟨rfl, Ends.bad (hE.trans (thn_bad e7)) ⟨rfl, (b4.trans a45.but).then t (fun i hi h => .inl ((hn4 i h).elim id (fun h => by omega)))⟩⟩
  try go_wp2_with fail
  refine hK.out _ _ ?_ (fun hHeld4 => ?_)
  · have l1 := Nat.lt_of_lt_of_le HLT.out.1 a45.size
    have l2 := Nat.lt_of_lt_of_le HLT.out.2 a45.size
    exact ⟨by rw [s7.but.cell l1 hns.1]; exact hHeld3.1, by rw [s7.but.cell l1 hns.1]; exact hHeld3.2.1, by rw [s7.but.cell l2 hns.2]; exact hHeld3.2.2⟩
  clear hK K
  refine wpAnyH_done (by kernel_rfl) ?_ _
  have HQ := hideIt (And.intro hv4 (And.intro hE (And.intro b4 (And.intro hn4 (And.intro a45 (And.intro hg4 (And.intro e7 (And.intro k7 s7))))))))
  clear hv4 hE b4 hn4 a45 hns hg4 e7 k7 s7 h7 hHeld hHeld3 hHeld4 h5 HV HBY HLT HW n0 n1 r0 r1 n30 n31 u0 u1
  try simp only [Act.put, List.setIfInBounds_toArray, List.set_cons_zero, List.set_cons_succ]
  go_wp2_with fail
  first | go_end0 | refine bodyPost_ret (results_none rfl _ _ _) rfl ?_
  obtain ⟨hv4, hE, b4, hn4, a45, hg4, e7, k7, s7⟩ := HQ.out
  refine Ends.ok (hE.trans (thn_ok e7)) ⟨rfl, ⟨xa, xc, ya, yc, za, zc, ?_, fun h => by cases h⟩, S7, k7, (b4.trans a45.but).then s7.but (fun i hi h => .inl ((hn4 i h).elim id (fun h => by omega))), fun j hj => ?_⟩
  · have l1 := (Array.getElem?_eq_some_iff.1 hv4).1
    exact ((But.block (a45.but.trans s7.but) g l1 hg4).trans hv4)
  · rcases s7.new j hj with h | h
    · exact hn4 j h
    · have := b4.size
      have := a45.size
      exact .inr (by omega)
end Go.Proofs.YthcfdoafncbliaaGreat
