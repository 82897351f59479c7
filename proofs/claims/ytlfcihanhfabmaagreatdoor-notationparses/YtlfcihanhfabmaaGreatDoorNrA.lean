/-
  The document's reader, in memory: blanks, word, take, put.
-/
import Derived.Test.YtlfcihanhfabmaaGreatDoorNtB
import Derived.Test.YtlfcihanhfabmaaGreatDoorNtD
namespace Go.Proofs.YtlfcihanhfabmaaGreatDoor
open Go.RowKit
set_option maxRecDepth 8000
open L1 (S)
/-- The document's reader at g: its text, where it is, whether it is wrong, how deep, its nodes in a row v of its own; all of it made behind w0. -/
structure RfM (w0 w : World) (g : Nat) (s : W8) (at_ : Nat) (wr : Bool) (d : Nat) (v : Value) (ns : List Nd) : Prop where
  blk : w.heap[g]? = some (.cells #[.string (S s), .int .i64 (at_ : Int), .bool wr, .int .i64 (d : Int), v] 62 (0, 0))
  own : ORow ndE 33 w w0.heap.size v ns
  base : w0.heap.size ≤ g
  aft : After w0 w
theorem RfM.lt {w0 w : World} {g : Nat} {s : W8} {at_ : Nat} {wr : Bool} {d : Nat} {v : Value} {ns : List Nd} (x : RfM w0 w g s at_ wr d v ns) : g < w.heap.size := blk_lt x.blk
theorem RfM.apart {w0 w : World} {g : Nat} {s : W8} {at_ : Nat} {wr : Bool} {d : Nat} {v : Value} {ns : List Nd} (x : RfM w0 w g s at_ wr d v ns) : v.ownBlock ≠ some g := by
  intro e
  rcases x.own.2 with ⟨rfl, _⟩ | ⟨k, cap, cur, rfl, _, hb, _⟩
  · cases e
  · have : k = g := by simpa [Value.ownBlock] using e
    subst this
    rw [x.blk] at hb
    simp at hb
/-- A cell of the reader's is written. -/
theorem RfM.set {w0 w w' : World} {g : Nat} {s : W8} {at_ : Nat} {wr : Bool} {d : Nat} {v : Value} {ns : List Nd} (x : RfM w0 w g s at_ wr d v ns) (b : But (One g) w w') {at' : Nat} {wr' : Bool} {d' : Nat}
    (h : w'.heap[g]? = some (.cells #[.string (S s), .int .i64 (at' : Int), .bool wr', .int .i64 (d' : Int), v] 62 (0, 0))) : RfM w0 w' g s at' wr' d' v ns :=
  ⟨h, own_but x.own b (fun k hk e => x.apart (by rw [hk, e])), x.base, x.aft.then b (fun i hi e => by have := x.base; rw [show i = g from e] at hi; omega)⟩
theorem RfM.but {S : Nat → Prop} {w0 w w' : World} {g : Nat} {s : W8} {at_ : Nat} {wr : Bool} {d : Nat} {v : Value} {ns : List Nd} (x : RfM w0 w g s at_ wr d v ns) (b : But S w w') (hg : ¬ S g) (hv : ∀ k, v.ownBlock = some k → ¬ S k) (h0 : ∀ k, k < w0.heap.size → ¬ S k) : RfM w0 w' g s at_ wr d v ns :=
  ⟨(b.block g x.lt hg).trans x.blk, own_but x.own b hv, x.base, x.aft.then b h0⟩
theorem RfM.after {w0 w w' : World} {g : Nat} {s : W8} {at_ : Nat} {wr : Bool} {d : Nat} {v : Value} {ns : List Nd} (x : RfM w0 w g s at_ wr d v ns) (b : After w w') : RfM w0 w' g s at_ wr d v ns := x.but b (fun t => t) (fun _ _ t => t) (fun _ _ t => t)
theorem RfM.drew {w0 w : World} {g : Nat} {s : W8} {at_ : Nat} {wr : Bool} {d : Nat} {v : Value} {ns : List Nd} (x : RfM w0 w g s at_ wr d v ns) : RfM w0 w.drew g s at_ wr d v ns := x.after (But.drew After.rfl)
theorem RfM.setAt {w0 w : World} {g : Nat} {s : W8} {at_ : Nat} {wr : Bool} {d : Nat} {v : Value} {ns : List Nd} (x : RfM w0 w g s at_ wr d v ns) (i : Nat) : RfM w0 (w.setCell ⟨g, 1, none⟩ (.int .i64 (i : Int))) g s i wr d v ns :=
  x.set (but_one _ _ _ _) (by rw [blk_put x.blk]; rfl)
theorem RfM.setWr {w0 w : World} {g : Nat} {s : W8} {at_ : Nat} {wr : Bool} {d : Nat} {v : Value} {ns : List Nd} (x : RfM w0 w g s at_ wr d v ns) (t : Bool) : RfM w0 (w.setCell ⟨g, 2, none⟩ (.bool t)) g s at_ t d v ns :=
  x.set (but_one _ _ _ _) (by rw [blk_put x.blk]; rfl)
theorem RfM.setD {w0 w : World} {g : Nat} {s : W8} {at_ : Nat} {wr : Bool} {d : Nat} {v : Value} {ns : List Nd} (x : RfM w0 w g s at_ wr d v ns) (i : Nat) : RfM w0 (w.setCell ⟨g, 3, none⟩ (.int .i64 (i : Int))) g s at_ wr i v ns :=
  x.set (but_one _ _ _ _) (by rw [blk_put x.blk]; rfl)
theorem RfM.atOf {w0 w : World} {g : Nat} {s : W8} {at_ : Nat} {wr : Bool} {d : Nat} {v : Value} {ns : List Nd} (x : RfM w0 w g s at_ wr d v ns) : atOf g w = at_ := by
  unfold YtlfcihanhfabmaaGreatDoor.atOf
  rw [(five_at x.blk).2.2.1]
  simp
theorem plain_doc (w : World) (c : UInt8) : Calls Tryz.prog 99 #[.int .u8 (c.toNat : Int)] w fun e w' => e = .returned (.bool (plainB c)) ∧ w' = w := by
  obtain ⟨k, hk⟩ : ∃ k, k = c.toNat := ⟨_, rfl⟩
  have hlt : k < 256 := by rw [hk]; exact c.toNat_lt
  unfold plainB
  rw [← hk]
  clear hk
  go_enter Tryz.func99, Tryz.ntmps99
  go_wp2
  all_goals
    go_ret
    refine ⟨ret_bool ?_, rfl⟩
    rw [Bool.eq_iff_iff]
    simp only [Bool.or_eq_true, Bool.and_eq_true, decide_eq_true_eq, beq_iff_eq, true_iff]
    omega
theorem drop_head {s : W8} {m : Nat} {c : UInt8} (h : s[m]? = some c) : s.drop m = c :: s.drop (m + 1) := by
  obtain ⟨hl, rfl⟩ := List.getElem?_eq_some_iff.1 h
  exact List.drop_eq_getElem_cons hl
set_option maxHeartbeats 1000000 in
theorem blanks_doc {w0 w : World} {g : Nat} {s : W8} {i : Nat} {wf : Bool} {d : Nat} {v : Value} {ns : List Nd} (x : RfM w0 w g s i wf d v ns) (hi : i ≤ s.length) (hs : s.length ≤ 1024) :
    Calls Tryz.prog 31 #[Ptr g] w fun e w' => e = .returned (.tuple #[]) ∧ RfM w0 w' g s (i + blanks (s.drop i)) wf d v ns ∧ But (One g) w w' := by
  have HX := hideIt x
  have HS := hideIt hs
  have hiS := hideIt hi
  clear x hs hi
  go_enter Tryz.func31, Tryz.ntmps31
  go_wp2_with fail
  go_loopw [2] (fun _ wr => ∃ k, k ≤ blanks (s.drop i) ∧ RfM w0 wr g s (i + k) wf d v ns ∧ But (One g) w wr) (fun _ wr => 1024 - atOf g wr)
  case atStart => exact ⟨0, Nat.zero_le _, HX.out, But.rfl⟩
  case round =>
    obtain ⟨k, hk, x, bw⟩ := hrel
    obtain ⟨hg', d0, d1, d2, d3, d4, hz'⟩ := five_at x.blk
    have z1 := hz' 1
    have hsl := HS.out
    have HX' := hideIt x
    have HB' := hideIt bw
    have HAt := hideIt x.atOf
    by_cases hkb : k < blanks (s.drop i)
    · obtain ⟨hj, hb⟩ := S_at (blanks_lt hkb)
      have HK := hideIt hkb
      clear hz' hk x bw hkb
      obtain ⟨m, hm⟩ : ∃ m, m = i + k := ⟨_, rfl⟩
      have i0 : (0 : Int) ≤ (m : Int) := by omega
      rw [← hm] at d1 hj HX' HAt
      have hb' : (S s)[m]'hj = 32 := by simpa [hm] using hb
      have i1 : (m : Int) < ((S s).size : Int) := by omega
      have i2 : decide ((m : Int) < ((S s).size : Int)) = true := by simpa using i1
      have i3 : (m : Int) ≤ 1024 := by have : m < s.length := hj; omega
      have HM := hideIt hm
      clear hb hm hsl
      go_wp2
      go_quiet (fail)
      go_wp2
      have y := (HX'.out.after (After.draws After.rfl nq)).setAt (m + 1)
      have e1 : ((m + 1 : Nat) : Int) = (m : Int) + 1 := by omega
      rw [e1] at y
      refine ⟨⟨k + 1, HK.out, ?_, ?_⟩, ?_⟩
      · have := HM.out
        rw [show i + (k + 1) = m + 1 by omega]
        exact y
      · exact (HB'.out.draws nq).trans (but_one _ _ _ _)
      · have hlt : m < s.length := hj
        have := HS.out
        rw [y.atOf, HAt.out]; omega
    · have hkb' : k = blanks (s.drop i) := by omega
      obtain ⟨m, hm⟩ : ∃ m, m = i + k := ⟨_, rfl⟩
      have hml : m ≤ s.length := by
        have := blanks_le (s.drop i)
        rw [List.length_drop] at this
        have := hiS.out
        omega
      rw [← hm] at d1 HX' HAt
      have HM := hideIt (show m = i + blanks (s.drop i) by omega)
      clear hz' hk x bw hkb hkb'
      rcases Nat.lt_or_ge m s.length with hlt | hge
      · obtain ⟨c, hc⟩ : ∃ c, s[m]? = some c := ⟨s[m], by simp [hlt]⟩
        have hc32 : c ≠ 32 := blanks_no (i := i) (by rw [← HM.out]; exact hc)
        obtain ⟨hj, hb⟩ := S_at hc
        have hcn : ¬ (c.toNat : Int) = 32 := by
          intro e
          apply hc32
          apply UInt8.toNat_inj.1
          have : c.toNat = 32 := by omega
          rw [this]; rfl
        have i0 : (0 : Int) ≤ (m : Int) := by omega
        have i1 : (m : Int) < ((S s).size : Int) := by omega
        have i2 : decide ((m : Int) < ((S s).size : Int)) = true := by simpa using i1
        have i4 : ((c.toNat : Int) == 32) = false := by simpa using hcn
        clear hcn hc32 hm hml hlt hsl hc
        go_wp2
        go_quiet (fail)
        go_wp2
        go_end0
        exact ⟨rfl, by rw [← HM.out]; exact HX'.out.after (After.draws After.rfl nq), HB'.out.draws nq⟩
      · have i1 : ¬ (m : Int) < ((S s).size : Int) := by rw [L1.S_size]; omega
        have i2 : decide ((m : Int) < ((S s).size : Int)) = false := decide_eq_false i1
        have i3 : ¬ m < (S s).size := by rw [L1.S_size]; omega
        have i4 : decide (m < (S s).size) = false := decide_eq_false i3
        clear hm hml hge hsl
        go_wp2
        go_quiet (fail)
        go_wp2
        go_end0
        exact ⟨rfl, by rw [← HM.out]; exact HX'.out.after (After.draws After.rfl nq), HB'.out.draws nq⟩
set_option maxHeartbeats 1000000 in
/-- The next word, and where it begins. -/
theorem word_doc {w0 w : World} {g : Nat} {s : W8} {i : Nat} {wf : Bool} {d : Nat} {v : Value} {ns : List Nd} (x : RfM w0 w g s i wf d v ns) (hi : i ≤ s.length) (hs : s.length ≤ 1024) :
    Calls Tryz.prog 77 #[Ptr g] w fun e w' => ∃ m, m = i + blanks (s.drop i) ∧ e = .returned (.string (S ((s.drop m).take (wordN (s.drop m))))) ∧ RfM w0 w' g s m wf d v ns ∧ But (One g) w w' := by
  have HB := hideIt (blanks_doc x hi hs)
  have HS := hideIt hs
  obtain ⟨m, hm⟩ : ∃ m, m = i + blanks (s.drop i) := ⟨_, rfl⟩
  have hml : m ≤ s.length := by
    have := blanks_le (s.drop i)
    rw [List.length_drop] at this
    omega
  have HM := hideIt hm
  have HML := hideIt hml
  rw [← hm] at HB
  clear x hi hs hm hml
  go_enter Tryz.func77, Tryz.ntmps77
  go_wp2_with fail
  refine HB.out.mono ?_
  rintro e w1 ⟨rfl, y, b1⟩
  have HY := hideIt (And.intro y b1)
  obtain ⟨hg', d0, d1, d2, d3, d4, hz'⟩ := five_at y.blk
  clear hz' y b1
  by_cases hlt : m < s.length
  · have i1 : (m : Int) < ((S s).size : Int) := by rw [L1.S_size]; omega
    have i2 : ¬ ((S s).size : Int) ≤ (m : Int) := by omega
    have i5 : decide (((S s).size : Int) ≤ (m : Int)) = false := decide_eq_false i2
    have i6 : ¬ (S s).size ≤ m := by omega
    have i3 : (m : Int) ≤ 1024 := by have := HS.out; omega
    obtain ⟨c, hc⟩ : ∃ c, s[m]? = some c := ⟨s[m], by simp [hlt]⟩
    obtain ⟨hj, hb⟩ := S_at hc
    have i0 : (0 : Int) ≤ (m : Int) := by omega
    have HLT := hideIt hlt
    have hle1 : Hid (1 ≤ wordN (s.drop m)) := hideIt (by
      unfold wordN
      split
      · rw [if_neg]
        · omega
        · intro e
          have := List.drop_eq_nil_iff.1 e
          omega
      · omega)
    have HWL : Hid (m + wordN (s.drop m) ≤ s.length) := hideIt (by have := wordN_le (s.drop m); rw [List.length_drop] at this; omega)
    have HC := hideIt hc
    have HPD := hideIt (fun W => plain_doc W c)
    clear hlt hc
    go_wp2
    go_quiet (fail)
    go_wp2_with fail
    obtain ⟨W, hW⟩ : ∃ W, W = w1.drewN nq := ⟨_, rfl⟩
    have y2 : RfM w0 W g s m wf d v ns := by rw [hW]; exact HY.out.1.after (After.draws After.rfl nq)
    have HY2 := hideIt (And.intro y2 (show But (One g) w W by rw [hW]; exact HY.out.2.draws nq))
    obtain ⟨hgW, f0, f1, f2, f3, f4, fz⟩ := five_at y2.blk
    rw [← hW]
    clear d0 d1 d2 d3 d4 y2 fz hW
    go_loopw [3] (fun e W2 => ∃ j : Nat, 1 ≤ j ∧ j ≤ wordN (s.drop m) ∧ e = .int .i64 ((m + j : Nat) : Int) ∧ After W W2) (fun e _ => 2048 - (intOf e).toNat)
    case atStart => exact ⟨1, Nat.le_refl _, hle1.out, by go_num, After.rfl⟩
    case round =>
      obtain ⟨j, hj1, hjw, rfl, aW⟩ := hrel
      have y3 := HY2.out.1.after aW
      have HY3 := hideIt (And.intro y3 (HY2.out.2.then aW (fun _ _ t => t.elim)))
      obtain ⟨hgX, e0, e1, e2, e3, e4, ez⟩ := five_at y3.blk
      obtain ⟨q, hq⟩ : ∃ q, q = m + j := ⟨_, rfl⟩
      rw [← hq]
      have q1 : (m : Int) ≤ (q : Int) := by omega
      have q2 : (q : Int) ≤ ((S s).size : Int) := by rw [L1.S_size]; have := HWL.out; omega
      have q3 : (q : Int) ≤ 1024 := by have := HWL.out; have := HS.out; omega
      have q0 : (0 : Int) ≤ (q : Int) := by omega
      clear y3 ez
      rcases hp : plainB c with _ | _
      · -- a word of one byte
        have hw1 : wordN (s.drop m) = 1 := by
          unfold wordN
          have hz : plains (s.drop m) = 0 := plains_zero (by
            rw [drop_head HC.out]
            exact hp)
          rw [if_pos hz, if_neg]
          intro e
          have := List.drop_eq_nil_iff.1 e
          have := HLT.out
          omega
        have HQ : Hid (q - m = wordN (s.drop m)) := hideIt (by omega)
        rw [hp] at HPD
        clear hp hw1 hj1 hjw hq aW
        go_wp2
        go_quiet (first | (go_at_call_of 99 (Value.int IntKind.u8 (c.toNat : Int)); refine Calls.quiet_of_same (HPD.out _)))
        go_wp2
        go_quiet (fail)
        go_wp2
        go_ret
        refine ⟨m, HM.out, ?_, HY3.out.1.after (After.draws (After.draws After.rfl _) _), (HY3.out.2.draws _).draws _⟩
        rw [S_extract, HQ.out]; rfl
      · have hw1 : wordN (s.drop m) = plains (s.drop m) := by
          unfold wordN
          rw [if_neg]
          exact plains_pos (by
            rw [drop_head HC.out]
            exact hp)
        rw [hp] at HPD
        by_cases hjp : j < plains (s.drop m)
        · obtain ⟨c2, hc2, hp2⟩ := plains_lt hjp
          rw [← hq] at hc2
          obtain ⟨hj2, hb2⟩ := S_at hc2
          have HP2 := hideIt (fun W => plain_doc W c2)
          rw [hp2] at HP2
          have j1 : (q : Int) < ((S s).size : Int) := by omega
          have j2 : decide ((q : Int) < ((S s).size : Int)) = true := by simpa using j1
          have HQ := hideIt (And.intro hq (show q < s.length from hj2))
          have HJ : Hid (j + 1 ≤ wordN (s.drop m)) := hideIt (by omega)
          have HA := hideIt aW
          clear hp hw1 hj1 hjw hq aW hc2 hp2 hjp
          go_wp2
          go_quiet (first | (go_at_call_of 99 (Value.int IntKind.u8 (c.toNat : Int)); refine Calls.quiet_of_same (HPD.out _)) | (go_at_call_of 99 (Value.int IntKind.u8 (c2.toNat : Int)); refine Calls.quiet_of_same (HP2.out _)))
          go_wp2
          go_roundw
          case rel => exact ⟨j + 1, by omega, HJ.out, by have := HQ.out; go_num, HA.out.draws nq⟩
          case measure =>
            have := HS.out
            have := HQ.out.2
            simp [intOf]
            omega
        · have hjp' : j = plains (s.drop m) := by omega
          have HQ : Hid (q - m = wordN (s.drop m)) := hideIt (by omega)
          rcases Nat.lt_or_ge q s.length with hlt | hge
          · obtain ⟨c2, hc2⟩ : ∃ c, s[q]? = some c := ⟨s[q], by simp [hlt]⟩
            have hp2 : plainB c2 = false := plains_no (i := m) (by rw [← hjp', ← hq]; exact hc2)
            obtain ⟨hj2, hb2⟩ := S_at hc2
            have HP2 := hideIt (fun W => plain_doc W c2)
            rw [hp2] at HP2
            have j1 : (q : Int) < ((S s).size : Int) := by omega
            have j2 : decide ((q : Int) < ((S s).size : Int)) = true := by simpa using j1
            clear hp hw1 hj1 hjw hq aW hc2 hp2 hjp hjp' hlt
            go_wp2
            go_quiet (first | (go_at_call_of 99 (Value.int IntKind.u8 (c.toNat : Int)); refine Calls.quiet_of_same (HPD.out _)) | (go_at_call_of 99 (Value.int IntKind.u8 (c2.toNat : Int)); refine Calls.quiet_of_same (HP2.out _)))
            go_wp2
            go_quiet (fail)
            go_wp2
            go_ret
            refine ⟨m, HM.out, ?_, HY3.out.1.after (After.draws (After.draws After.rfl _) _), (HY3.out.2.draws _).draws _⟩
            rw [S_extract, HQ.out]; rfl
          · have j1 : ¬ (q : Int) < ((S s).size : Int) := by rw [L1.S_size]; omega
            have j2 : decide ((q : Int) < ((S s).size : Int)) = false := decide_eq_false j1
            have j5 : ¬ q < (S s).size := by rw [L1.S_size]; omega
            have j6 : decide (q < (S s).size) = false := decide_eq_false j5
            clear hp hw1 hj1 hjw hq aW hjp hjp' hge
            go_wp2
            go_quiet (first | (go_at_call_of 99 (Value.int IntKind.u8 (c.toNat : Int)); refine Calls.quiet_of_same (HPD.out _)))
            go_wp2
            go_quiet (fail)
            go_wp2
            go_ret
            refine ⟨m, HM.out, ?_, HY3.out.1.after (After.draws (After.draws After.rfl _) _), (HY3.out.2.draws _).draws _⟩
            rw [S_extract, HQ.out]; rfl
  · have i1 : ((S s).size : Int) ≤ (m : Int) := by rw [L1.S_size]; omega
    have i5 : decide (((S s).size : Int) ≤ (m : Int)) = true := decide_eq_true i1
    have i6 : (S s).size ≤ m := by omega
    have HE : Hid ((s.drop m).take (wordN (s.drop m)) = []) := hideIt (by rw [List.drop_eq_nil_iff.2 (by omega)]; rfl)
    clear hlt
    go_wp2
    go_quiet (fail)
    go_wp2
    go_ret
    exact ⟨m, HM.out, by rw [HE.out]; rfl, HY.out.1.after (After.draws After.rfl _), HY.out.2.draws _⟩
end Go.Proofs.YtlfcihanhfabmaaGreatDoor
