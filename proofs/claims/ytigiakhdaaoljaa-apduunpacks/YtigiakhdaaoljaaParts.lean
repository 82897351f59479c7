/-
  Octets, who asks, and objects, by any coder.
-/
import Derived.Test.YtigiakhdaaoljaaListO
namespace Go.Proofs.Ytigiakhdaaoljaa
open Go.RowKit
set_option maxRecDepth 8000
/-- What octets answer: bytes; where they were read, in memory of their own; and the coder has gone on to us. -/
def Octs (w w' : World) (p q : Option Addr) (m : Bool) (S : Nat → Prop) (a0 : Option Addr) (n0 : Nat) (e : Ending) (ys us : List Int) : Prop :=
  ∃ a n c S', e = .returned (.slice a n c) ∧ Row w' a n ys ∧ (a = none → n = 0 ∧ c = 0) ∧ (m = false → w'.ownsRow w.heap.size 5 1 (.slice a n c) n (u8s ys) ∧ ∀ k, (Value.slice a n c).ownBlock = some k → ¬ S' k) ∧ Cod w' p q m us S' ∧ Stp S w S' w' ∧ (∀ y, a = some y → 0 < n → ¬ S' y.block ∧ ((a0 = some y ∧ 0 < n0) ∨ w.heap.size ≤ y.block))
theorem c_oct (w : World) (p q : Option Addr) (m : Bool) (zs : List Int) (S : Nat → Prop) (a : Option Addr) (n c : Nat) (bs : List Int) (cd : Cod w p q m zs S) (rb : Row w a n bs) (ha : a = none → n = 0 ∧ c = 0) (hs : ∀ y, a = some y → 0 < n → ¬ S y.block) (hn : n ≤ 140737488355328) (hl : m = true → zs.length ≤ 1000000000) :
    Calls Try.prog 65 #[Co p q, .slice a n c] w fun e w' => Ends (oct m bs zs) (fun ys us => Octs w w' p q m S a n e ys us) (fun c => e = .panicked (Halt c) ∧ But S w w') := by
  rcases cd.is with ⟨rfl, g, h, rfl, rfl, r, rfl⟩ | ⟨rfl, g, v, rfl, rfl, r, rfl⟩
  · refine (oct_cr w g h zs (.slice a n c) r bs).mono ?_
    intro e w1 h1
    rcases h1.split with ⟨c, e1, rfl, b⟩ | ⟨ys, us, e1, ⟨y, rfl, ho⟩, r1, b⟩
    · exact Ends.bad e1 ⟨rfl, b.mono (fun i _ hi => .inl hi)⟩
    · refine Ends.ok e1 ?_
      have hb : Bs ys := by
        unfold oct at e1
        rw [if_neg (by decide)] at e1
        split at e1
        · cases e1; exact ocVal_bs r.bs
        · cases e1
      obtain ⟨a', c', rfl, hr, hn', _, hw⟩ := own_row ho hb
      obtain ⟨S', k1, s1⟩ := rd_step r1 b
      refine ⟨a', _, c', Two g h, rfl, hr, hn', (fun _ => ⟨ho, fun k hk h => absurd (cd.lt _ h) (by have := (ho.lt k hk).1; omega)⟩), ⟨.inl ⟨rfl, g, h, rfl, rfl, r1, rfl⟩, fun k hk => Nat.lt_of_lt_of_le (cd.lt k hk) b.size⟩, ⟨b.mono (fun i _ hi => .inl hi), fun k hk => .inl hk⟩, fun y hy _ => ?_⟩
      have h2 := (ho.lt _ (hw y hy).1).1
      exact ⟨fun h => absurd (cd.lt _ h) (by omega), .inr h2⟩
  · refine (oct_cw w g v zs a n c bs r rb ha hs hn (hl rfl)).mono ?_
    intro e w1 h1
    rcases h1.split with ⟨c, e1, rfl, b⟩ | ⟨ys, us, e1, rfl, rfl, r1⟩
    · exact Ends.bad e1 ⟨rfl, b⟩
    · obtain ⟨S', c1, s1⟩ := wr_step r1
      refine Ends.ok e1 ⟨a, n, c, S', rfl, rb.but2 s1.but hs, ha, (fun h => by cases h), c1, s1, fun y hy h0 => ⟨fun h => ?_, .inl ⟨hy, h0⟩⟩⟩
      rcases s1.new _ h with h | h
      · exact hs y hy h0 h
      · obtain ⟨b', off, e, hl, _⟩ := rb.2.2 0 h0
        rw [hy] at e; cases e; dsimp only at h; omega
theorem oct_len {m : Bool} {v ys zs us : List Int} (h : oct m v zs = .ok (ys, us)) (hb : Bs zs) : ys.length ≤ 65535 ∧ us.length ≤ zs.length + 65537 := by
  unfold oct at h
  split at h
  · split at h
    · cases h
      rw [List.length_append, List.length_append, bytesOf_length]; omega
    · cases h
  · split at h
    · rename_i hi
      cases h
      have := ocVal_len hb
      have e : ocRest zs = (zs.drop 2).drop (ocN zs) := if_pos hi
      rw [e, List.length_drop, List.length_drop]; omega
    · cases h
theorem num_bs {m : Bool} {k M : Nat} {v x : Int} {zs ys : List Int} (h : num m k M v zs = .ok (x, ys)) (hb : Bs zs) : Bs ys := by
  unfold num at h
  split at h
  · split at h
    · cases h; exact hb.append (bytesOf_bs _ _)
    · cases h
  · split at h
    · cases h; exact hb.drop _
    · cases h
theorem eit_bs {m so b : Bool} {y n : Int} {zs ys : List Int} (h : eit m so y n zs = .ok (b, ys)) (hb : Bs zs) : Bs ys := by
  unfold eit at h
  cases e : num m 1 255 (if so then y else n) zs with
  | error c => rw [thn_bad e] at h; cases h
  | ok v =>
    obtain ⟨v1, z1⟩ := v
    rw [thn_ok e] at h
    split at h
    · cases h; exact num_bs e hb
    · cases h
theorem obs1_bits {m : Bool} {o x : Bi} {zs ys : List Int} (h : obs1 m o zs = .ok (x, ys)) (hb : Bs zs) : (0 ≤ x.b ∧ x.b < 4294967296) ∧ Bs ys := by
  unfold obs1 at h
  cases e1 : num m 2 65535 o.h zs with
  | error c => rw [thn_bad e1] at h; cases h
  | ok v =>
    obtain ⟨v1, z1⟩ := v
    rw [thn_ok e1] at h
    cases e2 : eit m o.l 4 2 z1 with
    | error c => rw [thn_bad e2] at h; cases h
    | ok v =>
      obtain ⟨v2, z2⟩ := v
      rw [thn_ok e2] at h
      have l2 := eit_bs e2 (num_bs e1 hb)
      cases v2 with
      | true =>
        cases e3 : num m 4 4294967295 o.b z2 with
        | error c => rw [thn_bad (by simpa using e3)] at h; cases h
        | ok v =>
          obtain ⟨v3, z3⟩ := v
          rw [thn_ok (by simpa using e3)] at h
          have l3 := num_bound e3 l2 (by decide)
          have l4 := num_bs e3 l2
          cases h; exact ⟨by dsimp only; omega, l4⟩
      | false =>
        cases e3 : num m 2 65535 o.b z2 with
        | error c => rw [thn_bad (by simpa using e3)] at h; cases h
        | ok v =>
          obtain ⟨v3, z3⟩ := v
          rw [thn_ok (by simpa using e3)] at h
          have l3 := num_bound e3 l2 (by decide)
          have l4 := num_bs e3 l2
          cases h; exact ⟨by dsimp only; omega, l4⟩
theorem obsL_bits {m : Bool} {all l : List Bi} {zs ys : List Int} (h : obsL m all zs = .ok (l, ys)) (hb : Bs zs) : ∀ o ∈ l, 0 ≤ o.b ∧ o.b < 4294967296 := by
  induction all generalizing zs l ys with
  | nil => cases h; intro o ho; cases ho
  | cons a r ih =>
    unfold obsL at h
    cases e1 : obs1 m a zs with
    | error c => rw [thn_bad e1] at h; cases h
    | ok v =>
      obtain ⟨x, z1⟩ := v
      rw [thn_ok e1] at h
      obtain ⟨b1, b2⟩ := obs1_bits e1 hb
      cases e2 : obsL m r z1 with
      | error c => rw [thn_bad e2] at h; cases h
      | ok v =>
        obtain ⟨l2, z2⟩ := v
        rw [thn_ok e2] at h
        have := ih e2 b2
        cases h
        intro o ho
        rcases List.mem_cons.1 ho with rfl | ho
        · exact b1
        · exact this o ho
theorem lstB_bits {m : Bool} {all l : List Bi} {zs ys : List Int} (h : lstB m all zs = .ok (l, ys)) (hb : Bs zs) : ∀ o ∈ l, 0 ≤ o.b ∧ o.b < 4294967296 := by
  unfold lstB at h
  cases e1 : num m 2 65535 all.length zs with
  | error c => rw [thn_bad e1] at h; cases h
  | ok v =>
    obtain ⟨n, z1⟩ := v
    rw [thn_ok e1] at h
    split at h
    · cases h
    · exact obsL_bits h (num_bs e1 hb)
/-- Who asks. -/
def sysF (m : Bool) (s : List Int) (zs : List Int) : Except Int (List Int × List Int) :=
  thn (oct m s zs) fun b zs => if b.length = 8 then .ok (b, zs) else .error (stp m 4)
theorem sys_len {m : Bool} {v ys zs us : List Int} (h : sysF m v zs = .ok (ys, us)) (hb : Bs zs) : ys.length = 8 ∧ us.length ≤ zs.length + 65537 := by
  unfold sysF at h
  cases e : oct m v zs with
  | error c => rw [thn_bad e] at h; cases h
  | ok x =>
    obtain ⟨b, z⟩ := x
    rw [thn_ok e] at h
    split at h
    · rename_i h8
      cases h
      exact ⟨h8, (oct_len e hb).2⟩
    · cases h
theorem c_system (w : World) (p q : Option Addr) (m : Bool) (zs : List Int) (S : Nat → Prop) (a : Option Addr) (n c : Nat) (bs : List Int) (cd : Cod w p q m zs S) (rb : Row w a n bs) (ha : a = none → n = 0 ∧ c = 0) (hs : ∀ y, a = some y → 0 < n → ¬ S y.block) (hn : n ≤ 140737488355328) (hl : m = true → zs.length ≤ 1000000000) :
    Calls Try.prog 67 #[Co p q, .slice a n c] w fun e w' => Ends (sysF m bs zs) (fun ys us => Octs w w' p q m S a n e ys us) (fun c => e = .panicked (Halt c) ∧ But S w w') := by
  have hA : After w (w.alloc (.cells #[.pointer p, .pointer q] 52)) := After.rfl.alloc _
  have b0 := new1 w (.cells #[.pointer p, .pointer q] 52)
  have f0 : Off S w.heap.size (w.heap.size + 1) := Off.old cd.lt _
  have HE := hideIt (show sysF m bs zs = thn (oct m bs zs) fun b zs => if b.length = 8 then .ok (b, zs) else .error (stp m 4) from rfl)
  have H1 := hideIt (c_oct _ p q m zs S a n c bs (cd.after hA) (rb.after hA) ha hs hn hl)
  have HX := hideIt (And.intro hA (And.intro b0 f0))
  clear hA b0 f0 cd rb ha hs hn hl
  go_enter Try.func67, Try.ntmps67
  go_wp2_with fail
  refine H1.out.mono ?_
  clear H1
  intro e w1 h1
  obtain ⟨hA, b0, f0⟩ := HX.out
  rcases h1.split with ⟨c1, e1, rfl, t⟩ | ⟨ys, us, e1, a1, n1, c1, S1, rfl, r1, hn1, ho1, k1, s1, hap⟩
  · exact ⟨rfl, Ends.bad (by rw [HE.out, thn_bad e1]) ⟨rfl, hA.but.trans t⟩⟩
  have q0 := blk s1.but f0 (Nat.le_refl _) (by omega) b0
  obtain ⟨_, y1, y2, _, _⟩ := two_at q0
  have hlen : ys.length = n1 := r1.1
  have HM := hideIt (fun b => c_must w1 p q m us S1 b k1)
  have HE1 := hideIt (HE.out.trans (thn_ok e1))
  have HY := hideIt (And.intro r1 (And.intro hn1 (And.intro ho1 (And.intro k1 (And.intro (Stp.behind hA s1) (And.intro hA.size hap))))))
  clear HX h1 hA b0 f0 e1 k1 s1 q0 r1 hn1 ho1 hap HE
  by_cases h8 : n1 = 8
  · subst h8
    have E := hideIt (HE1.out.trans (if_pos hlen))
    clear HE1 hlen
    go_wp2_with (go_at_call 42; refine (HM.out true).mono ?_; rintro e w2 ⟨h, h2⟩; rcases h with ⟨_, rfl⟩ | ⟨h, _⟩; case' inr => cases h)
    go_ret
    obtain ⟨r1, hn1, ho1, k1, s1, hsz, hap⟩ := HY.out
    exact Ends.ok E.out ⟨a1, 8, c1, S1, rfl, r1.after h2, hn1, (fun h => ⟨own_base (own_after (ho1 h).1 h2) (fun k hk => Nat.le_trans hsz ((ho1 h).1.lt k hk).1), (ho1 h).2⟩), k1.after h2, s1.after h2, fun y hy h0 => ⟨(hap y hy h0).1, (hap y hy h0).2.imp_right (fun h => Nat.le_trans hsz h)⟩⟩
  · have E := hideIt (HE1.out.trans (if_neg (by rw [hlen]; exact h8)))
    have h8' : ((n1 : Int) == 8) = false := by simpa using (show ¬ (n1 : Int) = 8 by omega)
    clear HE1 hlen h8
    go_wp2_with (go_at_call 42; refine (HM.out false).mono ?_; rintro e w2 ⟨h, h2⟩; rcases h with ⟨h, _⟩ | ⟨_, rfl⟩; case' inl => cases h)
    obtain ⟨r1, hn1, ho1, k1, s1, hsz, hap⟩ := HY.out
    exact ⟨rfl, Ends.bad E.out ⟨rfl, s1.but.trans h2.but⟩⟩
theorem c_objects (w : World) (p q : Option Addr) (m : Bool) (zs : List Int) (S : Nat → Prop) (a : Option Addr) (n c : Nat) (all : List Ob) (cd : Cod w p q m zs S) (hr : RowT w a n (all.map Ob.t3)) (hd : ∀ y, a = some y → 0 < n → ¬ S y.block) (ha : a = none → n = 0 ∧ c = 0) (hl : m = true → zs.length ≤ 990000000) :
    Calls Try.prog 68 #[Co p q, .slice a n c] w fun e w' => Ends (lstO m all zs) (fun l ys => (∃ b, e = .returned (.slice (some ⟨b, 0, none⟩) l.length l.length) ∧ RowT w' (some ⟨b, 0, none⟩) l.length (l.map Ob.t3) ∧ w.heap.size ≤ b) ∧ Went w w' p q m S ys) (fun c => e = .panicked (Halt c) ∧ But S w w') := by
  have hmf : ∀ (fn : Fn) (first cap : Array Value) (w : World), (Instr.makeFunc fn first cap).run Try.prog w = .ok (.func fn first cap) w := fun _ _ _ _ => rfl
  have hA : After w ((w.alloc (.cells #[.pointer p, .pointer q] 52)).alloc (.cells #[.slice none 0 0] 111)) := (After.rfl.alloc _).alloc _
  obtain ⟨b0, b1⟩ := new2 w (.cells #[.pointer p, .pointer q] 52) (.cells #[.slice none 0 0] 111)
  have hnd : Hnd _ w.heap.size (w.heap.size + 1) p q m zs [] (HndF (w.heap.size + 1) S (.slice none 0 0)) := ⟨S, .slice none 0 0, ⟨cd.after hA, ⟨b0, fun h => absurd (cd.lt _ h) (by omega)⟩, ⟨b1, fun h => absurd (cd.lt _ h) (by omega)⟩, World.ownsRow_nil _ _ _ _, by omega, (fun h => by cases h), (fun h => by cases h), fun k h => by cases h⟩, rfl⟩
  have hfar : ∀ y, a = some y → 0 < n → ¬ HndF (w.heap.size + 1) S (.slice none 0 0) y.block := fun y hy h0 h => by
    rcases h with h | h | h
    · exact hd y hy h0 h
    · obtain ⟨b, off, x, e, hl, _⟩ := hr.2 0 h0
      rw [hy] at e; cases e; dsimp only at h; omega
    · cases h
  have H1 := hideIt (c_listO _ w.heap.size (w.heap.size + 1) p q m zs _ a n c all hnd (hr.after hA) hfar ha hl)
  have HA := hideIt hA
  clear hA b0 b1 hnd hfar cd hr hd ha hl
  go_enter Try.func68, Try.ntmps68
  go_wp2_with fail
  refine H1.out.mono ?_
  clear H1
  intro e w1 h1
  have hA := HA.out
  have hbut : ∀ {W}, But (HndF (w.heap.size + 1) S (.slice none 0 0)) ((w.alloc (.cells #[.pointer p, .pointer q] 52)).alloc (.cells #[.slice none 0 0] 111)) W → But S w W := fun {W} t =>
    hA.but.then t (fun i hi h => by
      rcases h with h | h | h
      · exact h
      · omega
      · cases h)
  rcases h1.split with ⟨c1, e1, rfl, t⟩ | ⟨l, us, e1, ⟨b, rfl, r1, hb⟩, hs, F', ⟨S', v', x', rfl⟩, s1⟩
  · exact ⟨rfl, Ends.bad e1 ⟨rfl, hbut t⟩⟩
  have hsz : w.heap.size ≤ ((w.alloc (.cells #[.pointer p, .pointer q] 52)).alloc (.cells #[.slice none 0 0] 111)).heap.size := hA.size
  have HY := hideIt (And.intro e1 (And.intro r1 (And.intro (Nat.le_trans hsz hb) (And.intro x'.cod (show Stp S w S' w1 from ⟨hbut s1.but, fun k hk => by
    rcases s1.new k (.inl hk) with h | h
    · rcases h with h | h | h
      · exact .inl h
      · exact .inr (by omega)
      · cases h
    · exact .inr (Nat.le_trans hsz h)⟩)))))
  clear h1 e1 r1 hb x' s1 hbut hsz hA
  obtain ⟨ln, hln⟩ : ∃ ln, l.length = ln := ⟨_, rfl⟩
  have HLN := hideIt hln
  rw [hln]
  clear hln
  go_wp2_with fail
  go_ret
  obtain ⟨e1, r1, hb, k1, s1⟩ := HY.out
  exact Ends.ok e1 ⟨⟨b, by rw [HLN.out]; rfl, r1, hb⟩, S', k1, s1⟩
end Go.Proofs.Ytigiakhdaaoljaa
