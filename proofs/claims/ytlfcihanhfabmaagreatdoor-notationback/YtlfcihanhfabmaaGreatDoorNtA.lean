/-
  The reader of package notation, in memory: next, must, takes.
-/
import Derived.Test.YtlfcihanhfabmaaGreatDoorNtP
import Derived.Test.YtlfcihanhfabmaaGreatDoorFoA
import Derived.Test.YtlfcihanhfabmaaGreatDoorX1Text
import Derived.Laws.IdiomStrings
import Derived.Deep.Strs
import Derived.BigQuiet
import Derived.RegionTactic
import Derived.Deep.RegionHeld3
namespace Go.Proofs.YtlfcihanhfabmaaGreatDoor
open Go.RowKit
set_option maxRecDepth 8000
open L1 (S)
theorem five_at {w : World} {g : Nat} {T : TypeId} {x0 x1 x2 x3 x4 : Value} (h : w.heap[g]? = some (.cells #[x0, x1, x2, x3, x4] T (0, 0))) :
    g < w.heap.size ∧ w.cell? ⟨g, 0, none⟩ = some x0 ∧ w.cell? ⟨g, 1, none⟩ = some x1 ∧ w.cell? ⟨g, 2, none⟩ = some x2 ∧ w.cell? ⟨g, 3, none⟩ = some x3 ∧ w.cell? ⟨g, 4, none⟩ = some x4 ∧ ∀ i, w.frozen? ⟨g, i, none⟩ = false := by
  refine ⟨(Array.getElem?_eq_some_iff.1 h).1, ?_, ?_, ?_, ?_, ?_, fun i => ?_⟩ <;> simp [World.cell?, World.frozen?, h]
/-- A reader at g: its text, where its word begins, the word, how deep, its nodes in a row v of its own; all of it made behind w0. -/
structure RdM (w0 w : World) (g : Nat) (s : W8) (at_ : Nat) (wd : W8) (d : Nat) (v : Value) (ns : List Nd) : Prop where
  blk : w.heap[g]? = some (.cells #[.string (S s), .int .i64 (at_ : Int), .string (S wd), .int .i64 (d : Int), v] 57 (0, 0))
  own : ORow ndE 33 w w0.heap.size v ns
  base : w0.heap.size ≤ g
  aft : After w0 w
theorem RdM.lt {w0 w : World} {g : Nat} {s : W8} {at_ : Nat} {wd : W8} {d : Nat} {v : Value} {ns : List Nd} (x : RdM w0 w g s at_ wd d v ns) : g < w.heap.size := blk_lt x.blk
theorem RdM.apart {w0 w : World} {g : Nat} {s : W8} {at_ : Nat} {wd : W8} {d : Nat} {v : Value} {ns : List Nd} (x : RdM w0 w g s at_ wd d v ns) : v.ownBlock ≠ some g := by
  intro e
  rcases x.own.2 with ⟨rfl, _⟩ | ⟨k, cap, cur, rfl, _, hb, _⟩
  · cases e
  · have : k = g := by simpa [Value.ownBlock] using e
    subst this
    rw [x.blk] at hb
    simp at hb
/-- A cell of the reader's is written. -/
theorem RdM.set {w0 w w' : World} {g : Nat} {s : W8} {at_ : Nat} {wd : W8} {d : Nat} {v : Value} {ns : List Nd} (x : RdM w0 w g s at_ wd d v ns) (b : But (One g) w w') {at' : Nat} {wd' : W8} {d' : Nat}
    (h : w'.heap[g]? = some (.cells #[.string (S s), .int .i64 (at' : Int), .string (S wd'), .int .i64 (d' : Int), v] 57 (0, 0))) : RdM w0 w' g s at' wd' d' v ns :=
  ⟨h, own_but x.own b (fun k hk e => x.apart (by rw [hk, e])), x.base, x.aft.then b (fun i hi e => by have := x.base; rw [show i = g from e] at hi; omega)⟩
theorem RdM.but {S : Nat → Prop} {w0 w w' : World} {g : Nat} {s : W8} {at_ : Nat} {wd : W8} {d : Nat} {v : Value} {ns : List Nd} (x : RdM w0 w g s at_ wd d v ns) (b : But S w w') (hg : ¬ S g) (hv : ∀ k, v.ownBlock = some k → ¬ S k) (h0 : ∀ k, k < w0.heap.size → ¬ S k) : RdM w0 w' g s at_ wd d v ns :=
  ⟨(b.block g x.lt hg).trans x.blk, own_but x.own b hv, x.base, x.aft.then b h0⟩
theorem RdM.after {w0 w w' : World} {g : Nat} {s : W8} {at_ : Nat} {wd : W8} {d : Nat} {v : Value} {ns : List Nd} (x : RdM w0 w g s at_ wd d v ns) (b : After w w') : RdM w0 w' g s at_ wd d v ns := x.but b (fun t => t) (fun _ _ t => t) (fun _ _ t => t)
/-- Where a reader's word begins. -/
def atOf (g : Nat) (W : World) : Nat :=
  match W.cell? ⟨g, 1, none⟩ with
  | some (.int _ z) => z.toNat
  | _ => 0
theorem stands_any (w : World) (c : UInt8) : Calls Tryz.prog 72 #[.int .u8 (c.toNat : Int)] w fun e w' => e = .returned (.bool (plainB c)) ∧ w' = w := by
  obtain ⟨k, hk⟩ : ∃ k, k = c.toNat := ⟨_, rfl⟩
  have hlt : k < 256 := by rw [hk]; exact c.toNat_lt
  unfold plainB
  rw [← hk]
  clear hk
  go_enter Tryz.func72, Tryz.ntmps72
  go_wp2
  all_goals
    go_ret
    refine ⟨ret_bool ?_, rfl⟩
    rw [Bool.eq_iff_iff]
    simp only [Bool.or_eq_true, Bool.and_eq_true, decide_eq_true_eq, beq_iff_eq, true_iff]
    omega
theorem RdM.drew {w0 w : World} {g : Nat} {s : W8} {at_ : Nat} {wd : W8} {d : Nat} {v : Value} {ns : List Nd} (x : RdM w0 w g s at_ wd d v ns) : RdM w0 w.drew g s at_ wd d v ns := x.after (But.drew After.rfl)
theorem RdM.setAt {w0 w : World} {g : Nat} {s : W8} {at_ : Nat} {wd : W8} {d : Nat} {v : Value} {ns : List Nd} (x : RdM w0 w g s at_ wd d v ns) (i : Nat) : RdM w0 (w.setCell ⟨g, 1, none⟩ (.int .i64 (i : Int))) g s i wd d v ns :=
  x.set (but_one _ _ _ _) (by rw [blk_put x.blk]; rfl)
theorem RdM.setWd {w0 w : World} {g : Nat} {s : W8} {at_ : Nat} {wd : W8} {d : Nat} {v : Value} {ns : List Nd} (x : RdM w0 w g s at_ wd d v ns) (t : W8) : RdM w0 (w.setCell ⟨g, 2, none⟩ (.string (S t))) g s at_ t d v ns :=
  x.set (but_one _ _ _ _) (by rw [blk_put x.blk]; rfl)
theorem RdM.setD {w0 w : World} {g : Nat} {s : W8} {at_ : Nat} {wd : W8} {d : Nat} {v : Value} {ns : List Nd} (x : RdM w0 w g s at_ wd d v ns) (i : Nat) : RdM w0 (w.setCell ⟨g, 3, none⟩ (.int .i64 (i : Int))) g s at_ wd i v ns :=
  x.set (but_one _ _ _ _) (by rw [blk_put x.blk]; rfl)
theorem RdM.atOf {w0 w : World} {g : Nat} {s : W8} {at_ : Nat} {wd : W8} {d : Nat} {v : Value} {ns : List Nd} (x : RdM w0 w g s at_ wd d v ns) : atOf g w = at_ := by
  unfold YtlfcihanhfabmaaGreatDoor.atOf
  rw [(five_at x.blk).2.2.1]
  simp
theorem S_at {s : W8} {i : Nat} {c : UInt8} (h : s[i]? = some c) : ∃ hi : i < (S s).size, (S s)[i]'hi = c := by
  obtain ⟨hl, he⟩ := List.getElem?_eq_some_iff.1 h
  exact ⟨hl, by show s.toArray[i] = c; simpa using he⟩
theorem S_extract (s : W8) (a b : Nat) : (S s).extract a b = S ((s.drop a).take (b - a)) := by
  unfold S
  rw [ByteArray.ext_iff]
  simp [List.extract_eq_take_drop]
/-- Behind the last store of next. -/
theorem next_end {w0 w W : World} {g : Nat} {s : W8} {at_ i m n q : Nat} {wd : W8} {d : Nat} {v : Value} {ns : List Nd} (y : RdM w0 W g s m wd d v ns) (b : But (One g) w W) (hi : i = at_ + wd.length) (hm : m = i + blanks (s.drop i)) (hn : wordN (s.drop m) = n) (hq : q = m + n) :
    ∃ i b n, i = at_ + wd.length ∧ b = blanks (s.drop i) ∧ n = wordN (s.drop (i + b)) ∧ RdM w0 ((W.setCell ⟨g, 2, none⟩ (.string ((S s).extract m q))).drew) g s (i + b) ((s.drop (i + b)).take n) d v ns ∧ But (One g) w ((W.setCell ⟨g, 2, none⟩ (.string ((S s).extract m q))).drew) := by
  refine ⟨i, blanks (s.drop i), n, hi, rfl, by rw [← hm, hn], ?_, (b.trans (but_one _ _ _ _)).drew⟩
  rw [← hm, S_extract, hq, Nat.add_sub_cancel_left]
  exact (y.setWd _).drew
theorem S_nil : S [] = ByteArray.empty := rfl
/-- The same at the end of the text: there is no word. -/
theorem next_end0 {w0 w W : World} {g : Nat} {s : W8} {at_ i m : Nat} {wd : W8} {d : Nat} {v : Value} {ns : List Nd} (y : RdM w0 W g s m wd d v ns) (b : But (One g) w W) (hi : i = at_ + wd.length) (hm : m = i + blanks (s.drop i)) (hn : wordN (s.drop m) = 0) :
    ∃ i b n, i = at_ + wd.length ∧ b = blanks (s.drop i) ∧ n = wordN (s.drop (i + b)) ∧ RdM w0 ((W.setCell ⟨g, 2, none⟩ (.string ByteArray.empty)).drew) g s (i + b) ((s.drop (i + b)).take n) d v ns ∧ But (One g) w ((W.setCell ⟨g, 2, none⟩ (.string ByteArray.empty)).drew) := by
  refine ⟨i, blanks (s.drop i), 0, hi, rfl, by rw [← hm, hn], ?_, (b.trans (but_one _ _ _ _)).drew⟩
  rw [← hm, List.take_zero, ← S_nil]
  exact (y.setWd _).drew
theorem blanks_lt {s : W8} {i k : Nat} (h : k < blanks (s.drop i)) : s[i + k]? = some 32 := by
  have key : ∀ (t : W8) (k : Nat), k < blanks t → t[k]? = some 32 := by
    intro t
    induction t with
    | nil => intro k h; simp [blanks] at h
    | cons c t ih =>
      intro k h
      unfold blanks at h
      by_cases hc : c = 32
      · rw [if_pos hc] at h
        cases k with
        | zero => simp [hc]
        | succ k => simpa using ih k (by omega)
      · rw [if_neg hc] at h; omega
  have := key _ k h
  rwa [List.getElem?_drop] at this
theorem blanks_no {s : W8} {i : Nat} {c : UInt8} (h : s[i + blanks (s.drop i)]? = some c) : c ≠ 32 := by
  have key : ∀ (t : W8), t[blanks t]? = some c → c ≠ 32 := by
    intro t
    induction t with
    | nil => intro h; simp at h
    | cons b t ih =>
      intro h
      by_cases hc : b = 32
      · have e : blanks (b :: t) = blanks t + 1 := by show (if b = 32 then _ else _) = _; rw [if_pos hc]
        rw [e] at h
        exact ih (by simpa using h)
      · have e : blanks (b :: t) = 0 := by show (if b = 32 then _ else _) = _; rw [if_neg hc]
        rw [e] at h
        simp at h
        rw [← h]; exact hc
  refine key (s.drop i) ?_
  rwa [List.getElem?_drop]
theorem plains_lt {s : W8} {i k : Nat} (h : k < plains (s.drop i)) : ∃ c, s[i + k]? = some c ∧ plainB c = true := by
  have key : ∀ (t : W8) (k : Nat), k < plains t → ∃ c, t[k]? = some c ∧ plainB c = true := by
    intro t
    induction t with
    | nil => intro k h; simp [plains] at h
    | cons c t ih =>
      intro k h
      unfold plains at h
      by_cases hc : plainB c = true
      · rw [if_pos hc] at h
        cases k with
        | zero => exact ⟨c, by simp, hc⟩
        | succ k => simpa using ih k (by omega)
      · rw [if_neg hc] at h; omega
  have := key _ k h
  simpa [List.getElem?_drop] using this
theorem plains_no {s : W8} {i : Nat} {c : UInt8} (h : s[i + plains (s.drop i)]? = some c) : plainB c = false := by
  have key : ∀ (t : W8), t[plains t]? = some c → plainB c = false := by
    intro t
    induction t with
    | nil => intro h; simp at h
    | cons b t ih =>
      intro h
      by_cases hc : plainB b = true
      · have e : plains (b :: t) = plains t + 1 := by show (if plainB b = true then _ else _) = _; rw [if_pos hc]
        rw [e] at h
        exact ih (by simpa using h)
      · have e : plains (b :: t) = 0 := by show (if plainB b = true then _ else _) = _; rw [if_neg hc]
        rw [e] at h
        simp at h
        rw [← h]; simpa using hc
  refine key (s.drop i) ?_
  rwa [List.getElem?_drop]
set_option maxHeartbeats 1000000 in
theorem next_any {w0 w : World} {g : Nat} {s : W8} {at_ : Nat} {wd : W8} {d : Nat} {v : Value} {ns : List Nd} (x : RdM w0 w g s at_ wd d v ns) (hi : at_ + wd.length ≤ s.length) (hs : s.length ≤ 1024) :
    Calls Tryz.prog 48 #[Ptr g] w fun e w' => e = .returned (.tuple #[]) ∧ ∃ i b n, i = at_ + wd.length ∧ b = blanks (s.drop i) ∧ n = wordN (s.drop (i + b)) ∧ RdM w0 w' g s (i + b) ((s.drop (i + b)).take n) d v ns ∧ But (One g) w w' := by
  obtain ⟨hg, c0, c1, c2, c3, c4, hz⟩ := five_at x.blk
  have HX := hideIt x
  have HS := hideIt hs
  have HI := hideIt hi
  have hz1 := hz 1
  have q1 : (at_ : Int) + ((S wd).size : Int) ≤ 1024 := by rw [L1.S_size]; omega
  clear x hs hz hi
  go_enter Tryz.func48, Tryz.ntmps48
  go_wp2
  go_region
  obtain ⟨i, hi⟩ : ∃ i, i = at_ + wd.length := ⟨_, rfl⟩
  have e1 : (at_ : Int) + ((S wd).size : Int) = (i : Int) := by rw [L1.S_size, hi]; omega
  rw [e1]
  go_wp2_with fail
  have HE := hideIt hi
  clear hi e1 q1
  have hiS : Hid (i ≤ s.length) := hideIt (by have := HI.out; have := HE.out; omega)
  go_loopw [36] (fun _ wr => ∃ k, k ≤ blanks (s.drop i) ∧ RdM w0 wr g s (i + k) wd d v ns ∧ But (One g) w wr) (fun _ wr => 1024 - atOf g wr)
  case atStart => exact ⟨0, Nat.zero_le _, (HX.out.setAt i).drew, (but_one _ _ _ _).drew⟩
  case round =>
    obtain ⟨k, hk, x, bw⟩ := hrel
    obtain ⟨hg', d0, d1, d2, d3, d4, hz'⟩ := five_at x.blk
    have z1 := hz' 1
    have hsl := HS.out
    have HX' := hideIt x
    have HB' := hideIt bw
    have HAt := hideIt x.atOf
    by_cases hkb : k < blanks (s.drop i)
    · obtain ⟨hj, hb⟩ := S_at (blanks_lt hkb)
      have HK := hideIt hkb
      clear hz' hk x bw hkb
      obtain ⟨m, hm⟩ : ∃ m, m = i + k := ⟨_, rfl⟩
      have i0 : (0 : Int) ≤ (m : Int) := by omega
      rw [← hm] at d1 hj HX' HAt
      have hb' : (S s)[m]'hj = 32 := by simpa [hm] using hb
      have i1 : (m : Int) < ((S s).size : Int) := by omega
      have i2 : decide ((m : Int) < ((S s).size : Int)) = true := by simpa using i1
      have i3 : (m : Int) ≤ 1024 := by have : m < s.length := hj; omega
      have HM := hideIt hm
      clear hb hm hsl
      go_wp2
      go_quiet (fail)
      go_wp2
      have y := (HX'.out.after (After.draws After.rfl nq)).setAt (m + 1)
      have e1 : ((m + 1 : Nat) : Int) = (m : Int) + 1 := by omega
      rw [e1] at y
      refine ⟨⟨k + 1, HK.out, ?_, ?_⟩, ?_⟩
      · have := HM.out
        rw [show i + (k + 1) = m + 1 by omega]
        exact y
      · exact (HB'.out.draws nq).trans (but_one _ _ _ _)
      · have hlt : m < s.length := hj
        have := HS.out
        rw [y.atOf, HAt.out]; omega
    · have hkb' : k = blanks (s.drop i) := by omega
      obtain ⟨m, hm⟩ : ∃ m, m = i + k := ⟨_, rfl⟩
      have hml : m ≤ s.length := by
        have := blanks_le (s.drop i)
        rw [List.length_drop] at this
        have := hiS.out
        omega
      rw [← hm] at d1 HX' HAt
      have HM := hideIt (show m = i + blanks (s.drop i) by omega)
      have HML := hideIt hml
      have hrest : ∀ (W : World) (nq : Nat), W = wr.drewN nq → True := fun _ _ _ => trivial
      clear hrest
      have HK := hideIt hkb'
      clear hz' hk x bw hkb hkb'
      rcases Nat.lt_or_ge m s.length with hlt | hge
      · obtain ⟨c, hc⟩ : ∃ c, s[m]? = some c := ⟨s[m], by simp [hlt]⟩
        have hc32 : c ≠ 32 := blanks_no (i := i) (by rw [← HM.out]; exact hc)
        obtain ⟨hj, hb⟩ := S_at hc
        have hcn : ¬ (c.toNat : Int) = 32 := by
          intro e
          apply hc32
          apply UInt8.toNat_inj.1
          have : c.toNat = 32 := by omega
          rw [this]; rfl
        have i0 : (0 : Int) ≤ (m : Int) := by omega
        have i1 : (m : Int) < ((S s).size : Int) := by omega
        have i2 : decide ((m : Int) < ((S s).size : Int)) = true := by simpa using i1
        have i4 : ((c.toNat : Int) == 32) = false := by simpa using hcn
        have HLT := hideIt hlt
        clear hcn hc32 hm hml hlt hsl hc
        go_wp2
        go_quiet (fail)
        go_wp2_with fail
        have y := HX'.out.after (After.draws After.rfl nq)
        obtain ⟨W, hW⟩ : ∃ W, W = wr.drewN nq := ⟨_, rfl⟩
        have HBW : Hid (But (One g) w W) := hideIt (by rw [hW]; exact HB'.out.draws nq)
        rw [← hW] at y ⊢
        have HY := hideIt y
        obtain ⟨hgW, f0, f1, f2, f3, f4, fz⟩ := five_at y.blk
        have fz2 := fz 2
        clear d0 d1 d2 d3 d4 z1 y fz hW HX' HB' HAt
        go_loopw [2] (fun e W2 => ∃ j : Nat, j ≤ plains (s.drop m) ∧ e = .int .i64 ((m + j : Nat) : Int) ∧ W2 = W) (fun e _ => 1024 - (intOf e).toNat)
        case atStart => exact ⟨0, Nat.zero_le _, rfl, rfl⟩
        case round =>
          obtain ⟨j, hj, rfl, rfl⟩ := hrel
          obtain ⟨q, hq⟩ : ∃ q, q = m + j := ⟨_, rfl⟩
          rw [← hq]
          by_cases hjp : j < plains (s.drop m)
          · obtain ⟨c, hc, hp⟩ := plains_lt hjp
            rw [← hq] at hc
            obtain ⟨hj', hb'⟩ := S_at hc
            have HP := hideIt (fun W => stands_any W c)
            rw [hp] at HP
            have j0 : (0 : Int) ≤ (q : Int) := by omega
            have j1 : (q : Int) < ((S s).size : Int) := by omega
            have j2 : decide ((q : Int) < ((S s).size : Int)) = true := by simpa using j1
            have j3 : (q : Int) ≤ 1024 := by have := HS.out; have : q < s.length := hj'; omega
            have HQ := hideIt (And.intro hq (show q < s.length from hj'))
            have HJ := hideIt hjp
            clear hc hj hjp hp hq
            go_wp2_with (go_at_call 72; refine (HP.out _).mono ?_; rintro e w2 ⟨rfl, rfl⟩)
            go_roundw
            case rel => exact ⟨j + 1, HJ.out, by have := HQ.out; go_num, by first | exact rfl | trivial⟩
            case measure =>
              have := HS.out
              have := HQ.out.2
              simp [intOf]
              omega
          · have hjp' : j = plains (s.drop m) := by omega
            have hql : q ≤ s.length := by
              have := plains_le (s.drop m)
              rw [List.length_drop] at this
              have := HML.out
              omega
            have HN : Hid (q = m + plains (s.drop m)) := hideIt (by omega)
            clear hj hjp hjp'
            by_cases hpz : plains (s.drop m) = 0
            · have hlt : q < s.length := by have := HN.out; have := HLT.out; omega
              obtain ⟨c, hc⟩ : ∃ c, s[q]? = some c := ⟨s[q], by simp [hlt]⟩
              have hp : plainB c = false := plains_no (i := m) (by rw [← HN.out]; exact hc)
              obtain ⟨hj', hb'⟩ := S_at hc
              have HP := hideIt (fun W => stands_any W c)
              rw [hp] at HP
              have j0 : (0 : Int) ≤ (q : Int) := by omega
              have j1 : (q : Int) < ((S s).size : Int) := by omega
              have j2 : decide ((q : Int) < ((S s).size : Int)) = true := by simpa using j1
              have j3 : (q : Int) ≤ 1024 := by have := HS.out; have : q < s.length := hj'; omega
              have hqm : q = m := by have := HN.out; omega
              have hn : wordN (s.drop m) = 1 := by
                unfold wordN
                rw [if_pos hpz, if_neg]
                intro e
                have := List.drop_eq_nil_iff.1 e
                omega
              have l1 : (m : Int) ≤ (m : Int) + 1 := by omega
              have l2 : (m : Int) + 1 ≤ ((S s).size : Int) := by omega
              have l3 : (0 : Int) ≤ (m : Int) + 1 := by omega
              have HQM := hideIt hqm
              have HNN := hideIt hn
              clear hpz hn hq hql hc hp hlt
              obtain rfl := hqm
              go_wp2_with (go_at_call 72; refine (HP.out _).mono ?_; rintro e w2 ⟨rfl, rfl⟩)
              go_region
              go_wp2
              go_end0
              exact ⟨rfl, next_end HY.out HBW.out HE.out HM.out HNN.out (by first | rfl | omega)⟩
            · rcases Nat.lt_or_ge q s.length with hlt | hge
              · obtain ⟨c, hc⟩ : ∃ c, s[q]? = some c := ⟨s[q], by simp [hlt]⟩
                have hp : plainB c = false := plains_no (i := m) (by rw [← HN.out]; exact hc)
                obtain ⟨hj', hb'⟩ := S_at hc
                have HP := hideIt (fun W => stands_any W c)
                rw [hp] at HP
                have j0 : (0 : Int) ≤ (q : Int) := by omega
                have j1 : (q : Int) < ((S s).size : Int) := by omega
                have j2 : decide ((q : Int) < ((S s).size : Int)) = true := by simpa using j1
                have j3 : (q : Int) ≤ 1024 := by have := HS.out; have : q < s.length := hj'; omega
                have k2 : ¬ (q : Int) = (m : Int) := by have := HN.out; omega
                have k3 : ¬ q = m := by omega
                have hn : wordN (s.drop m) = plains (s.drop m) := by unfold wordN; rw [if_neg hpz]
                have HNN := hideIt hn
                have l1 : (m : Int) ≤ (q : Int) := by have := HN.out; omega
                have l2 : (q : Int) ≤ ((S s).size : Int) := by rw [L1.S_size]; omega
                clear hpz hn hq hql hc hp hlt
                go_wp2_with (go_at_call 72; refine (HP.out _).mono ?_; rintro e w2 ⟨rfl, rfl⟩)
                go_region
                go_wp2
                go_end0
                exact ⟨rfl, next_end HY.out HBW.out HE.out HM.out HNN.out HN.out⟩
              · have j1 : ¬ (q : Int) < ((S s).size : Int) := by rw [L1.S_size]; omega
                have j2 : decide ((q : Int) < ((S s).size : Int)) = false := decide_eq_false j1
                have j5 : ¬ q < (S s).size := by rw [L1.S_size]; omega
                have j3 : (q : Int) ≤ 1024 := by have := HS.out; omega
                have HQE := hideIt (show q = s.length by omega)
                have k2 : ¬ (q : Int) = (m : Int) := by have := HN.out; omega
                have k3 : ¬ q = m := by omega
                have hn : wordN (s.drop m) = plains (s.drop m) := by unfold wordN; rw [if_neg hpz]
                have HNN := hideIt hn
                have l1 : (m : Int) ≤ (q : Int) := by have := HN.out; omega
                have l2 : (q : Int) ≤ ((S s).size : Int) := by rw [L1.S_size]; omega
                clear hpz hn hq hql hge
                go_wp2_with fail
                go_region
                go_wp2
                go_end0
                exact ⟨rfl, next_end HY.out HBW.out HE.out HM.out HNN.out HN.out⟩
      · have hme : m = s.length := by omega
        have i1 : ¬ (m : Int) < ((S s).size : Int) := by rw [L1.S_size]; omega
        have i2 : decide ((m : Int) < ((S s).size : Int)) = false := decide_eq_false i1
        have i3 : ¬ m < (S s).size := by rw [L1.S_size]; omega
        have i4 : decide (m < (S s).size) = false := decide_eq_false i3
        have hpz : plains (s.drop m) = 0 := by rw [List.drop_eq_nil_iff.2 (by omega)]; rfl
        have HPZ := hideIt hpz
        have HME := hideIt hme
        clear hm hml hge hsl hme hpz
        go_wp2
        go_quiet (fail)
        go_wp2_with fail
        have y := HX'.out.after (After.draws After.rfl nq)
        obtain ⟨W, hW⟩ : ∃ W, W = wr.drewN nq := ⟨_, rfl⟩
        have HBW : Hid (But (One g) w W) := hideIt (by rw [hW]; exact HB'.out.draws nq)
        rw [← hW] at y ⊢
        have HY := hideIt y
        obtain ⟨hgW, f0, f1, f2, f3, f4, fz⟩ := five_at y.blk
        have fz2 := fz 2
        clear d0 d1 d2 d3 d4 z1 y fz hW HX' HB' HAt
        go_loopw [2] (fun e W2 => ∃ j : Nat, j ≤ plains (s.drop m) ∧ e = .int .i64 ((m + j : Nat) : Int) ∧ W2 = W) (fun e _ => 1024 - (intOf e).toNat)
        case atStart => exact ⟨0, Nat.zero_le _, rfl, rfl⟩
        case round =>
          obtain ⟨j, hj, rfl, rfl⟩ := hrel
          obtain ⟨q, hq⟩ : ∃ q, q = m + j := ⟨_, rfl⟩
          rw [← hq]
          have hj0 : j = 0 := by have := HPZ.out; omega
          have hpz := HPZ.out
          have HN : Hid (q = m + plains (s.drop m)) := hideIt (by omega)
          have hge : s.length ≤ q := by have := HME.out; omega
          have hql : q ≤ s.length := by have := HME.out; omega
          clear hj
          have j1 : ¬ (q : Int) < ((S s).size : Int) := by rw [L1.S_size]; omega
          have j2 : decide ((q : Int) < ((S s).size : Int)) = false := decide_eq_false j1
          have j5 : ¬ q < (S s).size := by rw [L1.S_size]; omega
          have j3 : (q : Int) ≤ 1024 := by have := HS.out; omega
          have HQE := hideIt (show q = s.length by omega)
          have hqm : q = m := by have := HN.out; omega
          have hn : wordN (s.drop m) = 0 := by
            unfold wordN
            rw [if_pos hpz, if_pos]
            exact List.drop_eq_nil_iff.2 (by have := HQE.out; omega)
          have l1 : m ≤ (S s).size := by rw [L1.S_size]; omega
          have l2 : (m : Int) ≤ ((S s).size : Int) := by rw [L1.S_size]; omega
          have HQM := hideIt hqm
          have HNN := hideIt hn
          clear hpz hn hq hql hge hj0
          obtain rfl := hqm
          go_wp2_with fail
          go_region
          go_wp2
          go_end0
          exact ⟨rfl, next_end0 HY.out HBW.out HE.out HM.out HNN.out⟩
end Go.Proofs.YtlfcihanhfabmaaGreatDoor
