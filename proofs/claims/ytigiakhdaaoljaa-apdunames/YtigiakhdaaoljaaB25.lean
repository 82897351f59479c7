/-
  Laid together: RefRead.
-/
import Derived.Test.YtigiakhdaaoljaaB24
/-
  The document's read: a kind's fields.
-/
namespace Go.Proofs.Ytigiakhdaaoljaa
open Go.RowKit
set_option maxRecDepth 8000
/-- What is held while a kind's fields are read: the reader, the answer, the message that is made. -/
structure RdC (w W : World) (gr g h : Nat) (st : St) (A : Array Value) : Prop where
  rs : RS W gr g h st
  aft : After w W
  b0 : W.heap[w.heap.size]? = some (.cells #[.int .i64 0, .slice none 0 0, .int .i64 0, .int .i64 0, .int .i64 0, .slice none 0 0, .slice none 0 0] 26 (0, 0))
  b1 : W.heap[w.heap.size + 1]? = some (.cells A 26 (0, 0))
  ne : w.heap.size + 2 ≤ gr ∧ w.heap.size + 2 ≤ g ∧ w.heap.size + 2 ≤ h
theorem RdC.call {w W W' : World} {gr g h : Nat} {st st' : St} {A : Array Value} (c : RdC w W gr g h st A) (b : But (Two gr g) W W') (r : RS W' gr g h st') : RdC w W' gr g h st' A :=
  ⟨r, c.aft.but.then b (fun i hi t => by have := c.ne; rcases t with t | t <;> omega), (b.block _ (Array.getElem?_eq_some_iff.1 c.b0).1 (fun t => by have := c.ne; rcases t with t | t <;> omega)).trans c.b0, (b.block _ (Array.getElem?_eq_some_iff.1 c.b1).1 (fun t => by have := c.ne; rcases t with t | t <;> omega)).trans c.b1, c.ne⟩
theorem RdC.bad {w W W' : World} {gr g h : Nat} {st st' : St} {A : Array Value} (c : RdC w W gr g h st A) (b : But (One gr) W W') (r : RS W' gr g h st') : RdC w W' gr g h st' A := c.call (b.mono (fun _i _ t => .inl t)) r
theorem RdC.after {w W W' : World} {gr g h : Nat} {st : St} {A : Array Value} (c : RdC w W gr g h st A) (a : After W W') : RdC w W' gr g h st A := c.call a.but (c.rs.after a)
theorem RdC.set {w W : World} {gr g h : Nat} {st : St} {A : Array Value} (c : RdC w W gr g h st A) (i : Nat) (v : Value) : RdC w (W.setCell ⟨w.heap.size + 1, i, none⟩ v) gr g h st (A.setIfInBounds i v) :=
  ⟨c.rs.but (But.own1 W (w.heap.size + 1) i v) (fun e => by have e' : gr = w.heap.size + 1 := e; have := c.ne; omega) (fun e => by have e' : g = w.heap.size + 1 := e; have := c.ne; omega) (fun e => by have e' : h = w.heap.size + 1 := e; have := c.ne; omega), c.aft.set _ (by simp) _, set_far c.b0 (by omega), blk_setA c.b1 v, c.ne⟩
theorem RdC.cells {w W : World} {gr g h : Nat} {st : St} {A : Array Value} (c : RdC w W gr g h st A) : ∃ e, W.heap[gr]? = some (.cells #[Ptr g, .int .i64 e] 91 (0, 0)) ∧ (∀ zs, st = .ok zs → e = 0) ∧ (∀ x, st = .error x → e = x) := by
  obtain ⟨_, _, zs, e, hb, _, hs⟩ := c.rs
  refine ⟨e, hb, fun zs' h => ?_, fun x h => ?_⟩
  · rcases hs with ⟨_, he⟩ | ⟨c', h', _⟩
    · exact he
    · rw [h] at h'; cases h'
  · rcases hs with ⟨h', _⟩ | ⟨c', h', he, _⟩
    · rw [h] at h'; cases h'
    · rw [h] at h'; cases h'; exact he
theorem RdC.left {w W : World} {gr g h : Nat} {st : St} {A : Array Value} (c : RdC w W gr g h st A) : ∃ L : Nat, (∀ zs, st = .ok zs → L = zs.length) ∧ ∀ W', After W W' → Calls Try.prog 58 #[Ptr g] W' fun e W'' => e = .returned (.int .i64 L) ∧ After W' W'' := by
  obtain ⟨_, _, zs, e, hb, hr, hs⟩ := c.rs
  refine ⟨zs.length, fun zs' h => ?_, fun W' a => refLeft_any W' g h zs (hr.after a)⟩
  rcases hs with ⟨h', _⟩ | ⟨c', h', _⟩
  · rw [h] at h'; cases h'; rfl
  · rw [h] at h'; cases h'
def readF (k : Int) (zs : List Int) : Except Int (Msg × List Int) := thn (fieldsF false k (Msg.zero 0) zs) fun X us => if us.length = 0 then .ok (X, []) else .error 4
/-- What reading answers. -/
def OutR (w w' : World) (e : Ending) (r : Except Int (Msg × List Int)) : Prop :=
  After w w' ∧ Ends r (fun X _ => ∃ sa sc oa oc ba bc, e = .returned (.tuple #[X.val sa sc oa oc ba bc, .int .i64 0]) ∧ MsgX w' (fun k => w.heap.size ≤ k) X sa sc oa oc ba bc) (fun c => c ≠ 0 ∧ ∃ v0 a1 n1 c1 i2 i3 i4 a5 n5 c5 a6 n6 c6, e = .returned (.tuple #[.agg #[.int .i64 v0, .slice a1 n1 c1, .int .i64 i2, .int .i64 i3, .int .i64 i4, .slice a5 n5 c5, .slice a6 n6 c6], .int .i64 c]))
theorem one_word (zs : List Int) (a : Int) (mk : Int → Msg) : Ends (thn (num false 2 65535 a zs) fun x zs => .ok (mk x, zs)) (fun X us => X = mk (rdV 2 (.ok zs)) ∧ rdS 2 (.ok zs) = .ok us) (fun c => rdS 2 (.ok zs) = .error c) := by
  by_cases h1 : 2 ≤ zs.length
  · rw [thn_ok (num_r h1), (rd_ok h1).1, (rd_ok h1).2]
    exact ⟨rfl, rfl⟩
  · rw [thn_bad (num_rn h1), rd_no h1]
    rfl
theorem two_words (zs : List Int) (a b : Int) (mk : Int → Int → Msg) : Ends (thn (num false 2 65535 a zs) fun x zs => thn (num false 2 65535 b zs) fun y zs => .ok (mk x y, zs)) (fun X us => X = mk (rdV 2 (.ok zs)) (rdV 2 (rdS 2 (.ok zs))) ∧ rdS 2 (rdS 2 (.ok zs)) = .ok us) (fun c => rdS 2 (rdS 2 (.ok zs)) = .error c) := by
  by_cases h1 : 2 ≤ zs.length
  · rw [thn_ok (num_r h1), (rd_ok h1).1, (rd_ok h1).2]
    exact one_word (zs.drop 2) b (fun y => mk _ y)
  · rw [thn_bad (num_rn h1), rd_no h1]
    rfl
theorem word_list {α : Type} {zs : List Int} {F : List Int → Except Int (α × List Int)} {l : α} {s2 : St} (a : Int) (mk : Int → α → Msg) (hg : Gos (thnS (rdS 2 (.ok zs)) F) l s2) : Ends (thn (num false 2 65535 a zs) fun c zs => thn (F zs) fun l zs => .ok (mk c l, zs)) (fun X us => X = mk (rdV 2 (.ok zs)) l ∧ s2 = .ok us) (fun c => s2 = .error c) := by
  by_cases h1 : 2 ≤ zs.length
  · rw [thn_ok (num_r h1), (rd_ok h1).1]
    rw [(rd_ok h1).2] at hg
    have hg' : Gos (F (zs.drop 2)) l s2 := hg
    rcases hg'.split with ⟨c, e1, e2⟩ | ⟨x, us, e1, rfl, e2⟩
    · rw [thn_bad e1]; exact e2
    · rw [thn_ok e1]; exact ⟨rfl, e2⟩
  · rw [thn_bad (num_rn h1)]
    rw [rd_no h1] at hg
    exact hg
theorem list_only {α : Type} {zs : List Int} {F : List Int → Except Int (α × List Int)} {l : α} {s2 : St} (mk : α → Msg) (hg : Gos (thnS (.ok zs) F) l s2) : Ends (thn (F zs) fun l zs => .ok (mk l, zs)) (fun X us => X = mk l ∧ s2 = .ok us) (fun c => s2 = .error c) := by
  have hg' : Gos (F zs) l s2 := hg
  rcases hg'.split with ⟨c, e1, e2⟩ | ⟨x, us, e1, rfl, e2⟩
  · rw [thn_bad e1]; exact e2
  · rw [thn_ok e1]; exact ⟨rfl, e2⟩
/-- The state behind octets. -/
def ocS (zs : List Int) : St := if ocIs zs = true then .ok (ocRest zs) else .error 3
theorem sys_word (zs : List Int) (x : List Int) (a : Int) (mk : List Int → Int → Msg) : Ends (thn (sysF false x zs) fun s zs => thn (num false 2 65535 a zs) fun c zs => .ok (mk s c, zs)) (fun X us => X = mk (ocVal zs) (rdV 2 (badS (decide ((ocVal zs).length ≠ 8)) 4 (ocS zs))) ∧ rdS 2 (badS (decide ((ocVal zs).length ≠ 8)) 4 (ocS zs)) = .ok us) (fun c => rdS 2 (badS (decide ((ocVal zs).length ≠ 8)) 4 (ocS zs)) = .error c) := by
  unfold sysF ocS
  by_cases hi : ocIs zs = true
  · rw [if_pos hi, thn_ok (oct_r hi)]
    by_cases h8 : (ocVal zs).length = 8
    · rw [if_pos h8, decide_eq_false (fun h => h h8)]
      have e0 : badS false 4 (.ok (ocRest zs)) = .ok (ocRest zs) := rfl
      rw [e0]
      exact one_word (ocRest zs) a (fun c => mk _ c)
    · rw [if_neg h8, decide_eq_true h8]
      rfl
  · rw [if_neg hi, thn_bad (oct_rn hi)]
    cases decide ((ocVal zs).length ≠ 8) <;> rfl
theorem oc_step {W W' : World} {gr g h : Nat} {zs : List Int} (n1 : gr ≠ g) (n2 : gr ≠ h) (hb : W.heap[gr]? = some (.cells #[Ptr g, .int .i64 0] 91 (0, 0))) (hr : RfAt W' g h (ocRest zs)) (b : But (One g) W W') :
    RS (W'.setCell ⟨gr, 1, none⟩ (.int .i64 (ocErr zs))) gr g h (ocS zs) ∧ But (Two gr g) W (W'.setCell ⟨gr, 1, none⟩ (.int .i64 (ocErr zs))) := by
  have hb' : W'.heap[gr]? = some (.cells #[Ptr g, .int .i64 0] 91 (0, 0)) := (b.block gr (two_at hb).1 (fun e => n1 e)).trans hb
  have b2 : But (One gr) W' (W'.setCell ⟨gr, 1, none⟩ (.int .i64 (ocErr zs))) := But.own1 _ _ _ _
  refine ⟨⟨n1, n2, ocRest zs, ocErr zs, two_set1 hb' _, hr.but b2 (fun e => n1 e.symm) (fun e => n2 e.symm), ?_⟩, (b.mono (fun i _ t => .inr t)).trans (b2.mono (fun i _ t => .inl t))⟩
  unfold ocS ocErr
  by_cases hk : ocIs zs = true
  · rw [if_pos hk, if_pos hk]
    exact .inl ⟨rfl, rfl⟩
  · rw [if_neg hk, if_neg hk]
    exact .inr ⟨3, rfl, rfl, by decide⟩
theorem outR_end {w W W' : World} {gr g h : Nat} {stf : St} {bb : Bool} {L : Nat} {eb k : Int} {zs : List Int} {X : Msg} {sa : Option Addr} {sc : Nat} {oa : Option Addr} {oc : Nat} {ba : Option Addr} {bc : Nat} (hE : Ends (fieldsF false k (Msg.zero 0) zs) (fun Y us => Y = X ∧ stf = .ok us) (fun c => stf = .error c)) (hL : ∀ zs, stf = .ok zs → L = zs.length) (hbb : decide (0 < L) = bb) (rs : RS W' gr g h (badS bb 4 stf)) (h0 : ∀ zs, badS bb 4 stf = .ok zs → eb = 0) (hx : ∀ x, badS bb 4 stf = .error x → eb = x) (aw : After w W) (hM : ∀ us, stf = .ok us → MsgX W (fun k => w.heap.size ≤ k) X sa sc oa oc ba bc) : OutR w W (.returned (.tuple #[X.val sa sc oa oc ba bc, .int .i64 eb])) (readF k zs) := by
  refine ⟨aw, ?_⟩
  have bad : ∀ c, badS bb 4 stf = .error c → readF k zs = .error c → Ends (readF k zs) (fun X' _ => ∃ sa' sc' oa' oc' ba' bc', Ending.returned (.tuple #[X.val sa sc oa oc ba bc, .int .i64 eb]) = .returned (.tuple #[X'.val sa' sc' oa' oc' ba' bc', .int .i64 0]) ∧ MsgX W (fun k => w.heap.size ≤ k) X' sa' sc' oa' oc' ba' bc') (fun c => c ≠ 0 ∧ ∃ v0 a1 n1 c1 i2 i3 i4 a5 n5 c5 a6 n6 c6, Ending.returned (.tuple #[X.val sa sc oa oc ba bc, .int .i64 eb]) = .returned (.tuple #[.agg #[.int .i64 v0, .slice a1 n1 c1, .int .i64 i2, .int .i64 i3, .int .i64 i4, .slice a5 n5 c5, .slice a6 n6 c6], .int .i64 c])) := by
    intro c e1 e2
    rw [e1] at rs
    refine Ends.bad e2 ⟨rs.err.2, X.kind, sa, X.sys.length, sc, X.config, X.result, X.reason, oa, X.objs.length, oc, ba, X.obs.length, bc, ?_⟩
    rw [hx c e1]
    rfl
  rcases hE.split with ⟨c, e1, e2⟩ | ⟨Y, us, e1, rfl, e2⟩
  · exact bad c (by rw [e2]; rfl) (by unfold readF; rw [thn_bad e1])
  · have hl := hL us e2
    by_cases hz : us.length = 0
    · have hb0 : bb = false := by rw [← hbb]; exact decide_eq_false (by omega)
      subst hb0
      have e3 : badS false 4 stf = .ok us := by rw [e2]; rfl
      rw [h0 us e3]
      refine Ends.ok (x := Y) (zs := []) ?_ ⟨sa, sc, oa, oc, ba, bc, rfl, hM us e2⟩
      unfold readF
      rw [thn_ok e1, if_pos hz]
    · have hb0 : bb = true := by rw [← hbb]; exact decide_eq_true (by omega)
      subst hb0
      exact bad 4 (by rw [e2]; rfl) (by unfold readF; rw [thn_ok e1, if_neg hz])
theorem ff_57856 (M : Msg) (zs : List Int) : fieldsF false 57856 M zs = (thn (sysF false M.sys zs) fun s zs => thn (num false 2 65535 M.config zs) fun c zs => .ok (⟨57856, s, c, 0, 0, [], []⟩, zs)) := by
  unfold fieldsF; simp only [Int.reduceEq, if_true, if_false, or_self]
theorem ff_58112 (M : Msg) (zs : List Int) : fieldsF false 58112 M zs = (thn (num false 2 65535 M.result zs) fun r zs => thn (num false 2 65535 M.config zs) fun c zs => .ok (⟨58112, [], c, r, 0, [], []⟩, zs)) := by
  unfold fieldsF; simp only [Int.reduceEq, if_true, if_false, or_self]
theorem ff_3356 (M : Msg) (zs : List Int) : fieldsF false 3356 M zs = (thn (num false 2 65535 M.config zs) fun c zs => thn (lstO false M.objs zs) fun l zs => .ok (⟨3356, [], c, 0, 0, l, []⟩, zs)) := by
  unfold fieldsF; simp only [Int.reduceEq, if_true, if_false, or_self]
theorem ff_3357 (M : Msg) (zs : List Int) : fieldsF false 3357 M zs = (thn (num false 2 65535 M.config zs) fun c zs => thn (num false 2 65535 M.result zs) fun r zs => .ok (⟨3357, [], c, r, 0, [], []⟩, zs)) := by
  unfold fieldsF; simp only [Int.reduceEq, if_true, if_false, or_self]
theorem ff_3358 (M : Msg) (zs : List Int) : fieldsF false 3358 M zs = (thn (lstB false M.obs zs) fun l zs => .ok (⟨3358, [], 0, 0, 0, [], l⟩, zs)) := by
  unfold fieldsF; simp only [Int.reduceEq, if_true, if_false, or_self]
theorem ff_58368 (M : Msg) (zs : List Int) : fieldsF false 58368 M zs = (thn (num false 2 65535 M.reason zs) fun q zs => .ok (⟨58368, [], 0, 0, q, [], []⟩, zs)) := by
  unfold fieldsF; simp only [Int.reduceEq, if_true, if_false, or_self, or_false]
theorem ff_58624 (M : Msg) (zs : List Int) : fieldsF false 58624 M zs = (thn (num false 2 65535 M.reason zs) fun q zs => .ok (⟨58624, [], 0, 0, q, [], []⟩, zs)) := by
  unfold fieldsF; simp only [Int.reduceEq, if_true, if_false, or_false, or_true]
theorem ff_58880 (M : Msg) (zs : List Int) : fieldsF false 58880 M zs = (thn (num false 2 65535 M.reason zs) fun q zs => .ok (⟨58880, [], 0, 0, q, [], []⟩, zs)) := by
  unfold fieldsF; simp only [Int.reduceEq, if_true, if_false, or_true]
set_option maxHeartbeats 600000 in
theorem read_58112 (w : World) (a : Option Addr) (n c : Nat) (zs : List Int) (hr : Row w a n zs) (ha : a = none → n = 0 ∧ c = 0) (hn : n ≤ 140737488355328) :
    Calls Try.prog 37 #[.int .i64 58112, .slice a n c] w fun e w' => OutR w w' e (readF 58112 zs) := by
  obtain ⟨w0, hw0⟩ : ∃ w0, (w.alloc (.cells #[.int .i64 0, .slice none 0 0, .int .i64 0, .int .i64 0, .int .i64 0, .slice none 0 0, .slice none 0 0] 26)).alloc (.cells #[.int .i64 58112, .slice none 0 0, .int .i64 0, .int .i64 0, .int .i64 0, .slice none 0 0, .slice none 0 0] 26) = w0 := ⟨_, rfl⟩
  have hA : After w w0 := by rw [← hw0]; exact (After.rfl.alloc _).alloc _
  obtain ⟨b0, b1⟩ := new2 w (.cells #[.int .i64 0, .slice none 0 0, .int .i64 0, .int .i64 0, .int .i64 0, .slice none 0 0, .slice none 0 0] 26) (.cells #[.int .i64 58112, .slice none 0 0, .int .i64 0, .int .i64 0, .int .i64 0, .slice none 0 0, .slice none 0 0] 26)
  rw [hw0] at b0 b1
  have hsz : w0.heap.size = w.heap.size + 2 := by rw [← hw0, World.size_alloc, World.size_alloc]
  have H1 := hideIt (refNew_any a n c zs w0 (hr.after hA) ha hn)
  have HX := hideIt (And.intro hA (And.intro b0 (And.intro b1 hsz)))
  have HW := hideIt hw0
  have HB := hideIt hr.2.1
  clear hA b0 b1 hsz hw0 hr ha hn
  go_enter Try.func37, Try.ntmps37
  go_wp2_with fail
  rw [HW.out]
  refine H1.out.mono ?_
  clear H1 HW
  rintro e w1 ⟨g, h, rfl, r1, hg, hh, a1⟩
  obtain ⟨hA, b0, b1, hsz⟩ := HX.out
  have ax : After w1 (w1.alloc (.cells #[Ptr g, .int .i64 0] 91)) := After.rfl.alloc _
  have hrl := (show g < w1.heap.size ∧ h < w1.heap.size from by
    refine ⟨r1.lt, ?_⟩
    obtain ⟨a', n', c', k', fs, ⟨h1, _, _, _, _, h5⟩, _⟩ := r1
    rcases h5 with ⟨_, _, _, rfl⟩ | ⟨off, _, _, hl⟩
    · exact (two_at h1).1
    · exact hl)
  have rc : RdC w (w1.alloc (.cells #[Ptr g, .int .i64 0] 91)) w1.heap.size g h (.ok zs) #[.int .i64 58112, .slice none 0 0, .int .i64 0, .int .i64 0, .int .i64 0, .slice none 0 0, .slice none 0 0] :=
    ⟨⟨by omega, by omega, zs, 0, new1 _ _, r1.after ax, .inl ⟨rfl, rfl⟩⟩, hA.trans (a1.trans ax), keep2 b0 (a1.trans ax), keep2 b1 (a1.trans ax), by have := a1.size; omega⟩
  have HR := hideIt rc
  obtain ⟨w2, hw2⟩ : ∃ w2, w1.alloc (.cells #[Ptr g, .int .i64 0] 91) = w2 := ⟨_, rfl⟩
  rw [hw2] at HR
  have HW2 := hideIt hw2
  clear hA b0 b1 hsz ax rc HX r1 hg hh a1 hrl hw2
  obtain ⟨gr, hgr⟩ : ∃ gr, w1.heap.size = gr := ⟨_, rfl⟩
  rw [hgr] at HR
  have HGR := hideIt hgr
  clear hgr
  have hE := two_words zs (Msg.zero 0).result (Msg.zero 0).config (fun r c => ⟨58112, [], c, r, 0, [], []⟩)
  rw [← ff_58112 (Msg.zero 0) zs] at hE
  have HE := hideIt hE
  clear hE
  obtain ⟨v1, hv1⟩ : ∃ v1, rdV 2 (.ok zs) = v1 := ⟨_, rfl⟩
  obtain ⟨s1, hs1⟩ : ∃ s1, rdS 2 (.ok zs) = s1 := ⟨_, rfl⟩
  have HC_v1 := hideIt (word_r w2 gr g h (.ok zs) HR.out.rs)
  rw [hv1, hs1] at HC_v1
  have HE_v1 := hideIt (And.intro hv1 hs1)
  clear hv1 hs1
  go_wp2_with fail
  rw [HGR.out, HW2.out]
  refine HC_v1.out.mono ?_
  clear HC_v1
  rintro e w3 ⟨rfl, r9, b9⟩
  have HR3_0 := HR.out.call b9 r9
  obtain ⟨_, ⟨y0, y1, y2, y3, y4, y5, y6⟩, ⟨z0, z1, z2, z3, z4, z5, z6⟩⟩ := seven_at HR3_0.b1
  have HR3_1 := HR3_0.set 3 (.int .i64 v1)
  simp only [List.setIfInBounds_toArray, List.set_cons_zero, List.set_cons_succ] at HR3_1
  have HR3 := hideIt HR3_1
  clear r9 b9 HR3_0 HR3_1
  obtain ⟨v2, hv2⟩ : ∃ v2, rdV 2 s1 = v2 := ⟨_, rfl⟩
  obtain ⟨s2, hs2⟩ : ∃ s2, rdS 2 s1 = s2 := ⟨_, rfl⟩
  have HC_v2 := hideIt (word_r (w3.setCell ⟨w.heap.size + 1, 3, none⟩ (.int .i64 v1)) gr g h s1 HR3.out.rs)
  rw [hv2, hs2] at HC_v2
  have HE_v2 := hideIt (And.intro hv2 hs2)
  clear hv2 hs2
  go_wp2_with fail
  refine HC_v2.out.mono ?_
  clear HC_v2
  rintro e w4 ⟨rfl, r9, b9⟩
  have HR4_0 := HR3.out.call b9 r9
  obtain ⟨_, ⟨y0, y1, y2, y3, y4, y5, y6⟩, ⟨z0, z1, z2, z3, z4, z5, z6⟩⟩ := seven_at HR4_0.b1
  have HR4_1 := HR4_0.set 2 (.int .i64 v2)
  simp only [List.setIfInBounds_toArray, List.set_cons_zero, List.set_cons_succ] at HR4_1
  have HR4 := hideIt HR4_1
  clear r9 b9 HR4_0 HR4_1
  obtain ⟨L, hL, hleft⟩ := HR4.out.left
  have HLF := hideIt hleft
  obtain ⟨ec, hec, hec0, hecx⟩ := HR4.out.cells
  obtain ⟨_, m0, m1, _, _⟩ := two_at hec
  have HEC := hideIt (And.intro hec0 (And.intro hecx hL))
  clear hleft hec hec0 hecx hL
  obtain ⟨bb, hbb⟩ : ∃ bb, decide (0 < L) = bb := ⟨_, rfl⟩
  have HBD := hideIt (show ∀ W', After (w4.setCell ⟨w.heap.size + 1, 2, none⟩ (.int .i64 v2)) W' → Calls Try.prog 60 #[Ptr gr, .bool bb, .int .i64 4] W' fun e W'' => e = .returned (.tuple #[]) ∧ RdC w W'' gr g h (badS bb 4 s2) #[.int .i64 58112, .slice none 0 0, .int .i64 v2, .int .i64 v1, .int .i64 0, .slice none 0 0, .slice none 0 0] from fun W' a' => (bad_r W' gr g h s2 (HR4.out.after a').rs bb 4 (by decide)).mono fun e W'' ⟨he, r, b⟩ => ⟨he, (HR4.out.after a').bad b r⟩)
  go_wp2_with fail
  refine (HLF.out _ After.rfl).mono ?_
  clear HLF
  rintro e wl ⟨rfl, al⟩
  have HAL := hideIt al
  clear al
  go_wp2_with fail
  try rw [hbb]
  refine (HBD.out _ HAL.out).mono ?_
  rintro e wb ⟨rfl, rcb⟩
  obtain ⟨eb, heb, heb0, hebx⟩ := rcb.cells
  obtain ⟨_, t0, t1, _, _⟩ := two_at heb
  obtain ⟨_, ⟨y0, y1, y2, y3, y4, y5, y6⟩, _⟩ := seven_at rcb.b1
  obtain ⟨_, ⟨q0, q1, q2, q3, q4, q5, q6⟩, ⟨z0, z1, z2, z3, z4, z5, z6⟩⟩ := seven_at rcb.b0
  have hng : ¬ gr = w.heap.size := by have := rcb.ne; omega
  have hng' : ¬ w.heap.size = gr := by have := rcb.ne; omega
  have HRB := hideIt (And.intro rcb (And.intro heb0 hebx))
  have HBB := hideIt hbb
  clear rcb heb heb0 hebx HBD HAL hbb m0 m1
  go_wp2_with fail
  go_region
  go_wp2_with fail
  obtain ⟨rcb, heb0, hebx⟩ := HRB.out
  have bw9 : But (One w.heap.size) wb (((((((wb.setCell ⟨w.heap.size, 0, none⟩ (.int .i64 58112)).setCell ⟨w.heap.size, 1, none⟩ (.slice none 0 0)).setCell ⟨w.heap.size, 2, none⟩ (.int .i64 v2)).setCell ⟨w.heap.size, 3, none⟩ (.int .i64 v1)).setCell ⟨w.heap.size, 4, none⟩ (.int .i64 0)).setCell ⟨w.heap.size, 5, none⟩ (.slice none 0 0)).setCell ⟨w.heap.size, 6, none⟩ (.slice none 0 0)).drew := by
    refine But.trans ?_ (After.rfl.draws 1).but
    iterate 7 refine But.set (S := One w.heap.size) ?_ ⟨w.heap.size, _, none⟩ (fun _ => Eq.refl _) _
    exact But.rfl
  refine bodyPost_ret (v := .tuple #[.agg #[.int .i64 58112, .slice none 0 0, .int .i64 v2, .int .i64 v1, .int .i64 0, .slice none 0 0, .slice none 0 0], .int .i64 eb]) (by simp [results, Try.results37, go_sem, q0, q1, q2, q3, q4, q5, q6]) rfl ?_
  exact outR_end (X := ⟨58112, [], v2, v1, 0, [], []⟩) (sa := none) (sc := 0) (oa := none) (oc := 0) (ba := none) (bc := 0) (by have hE := HE.out; rw [HE_v1.out.1, HE_v1.out.2, HE_v2.out.1, HE_v2.out.2] at hE; exact hE) HEC.out.2.2 HBB.out rcb.rs heb0 hebx (rcb.aft.but.then bw9 (fun i hi t => by have t' : i = w.heap.size := t; omega)) (fun _ _ => MsgX.nils _ _ _ _ _ _)
set_option maxHeartbeats 600000 in
theorem read_3357 (w : World) (a : Option Addr) (n c : Nat) (zs : List Int) (hr : Row w a n zs) (ha : a = none → n = 0 ∧ c = 0) (hn : n ≤ 140737488355328) :
    Calls Try.prog 37 #[.int .i64 3357, .slice a n c] w fun e w' => OutR w w' e (readF 3357 zs) := by
  obtain ⟨w0, hw0⟩ : ∃ w0, (w.alloc (.cells #[.int .i64 0, .slice none 0 0, .int .i64 0, .int .i64 0, .int .i64 0, .slice none 0 0, .slice none 0 0] 26)).alloc (.cells #[.int .i64 3357, .slice none 0 0, .int .i64 0, .int .i64 0, .int .i64 0, .slice none 0 0, .slice none 0 0] 26) = w0 := ⟨_, rfl⟩
  have hA : After w w0 := by rw [← hw0]; exact (After.rfl.alloc _).alloc _
  obtain ⟨b0, b1⟩ := new2 w (.cells #[.int .i64 0, .slice none 0 0, .int .i64 0, .int .i64 0, .int .i64 0, .slice none 0 0, .slice none 0 0] 26) (.cells #[.int .i64 3357, .slice none 0 0, .int .i64 0, .int .i64 0, .int .i64 0, .slice none 0 0, .slice none 0 0] 26)
  rw [hw0] at b0 b1
  have hsz : w0.heap.size = w.heap.size + 2 := by rw [← hw0, World.size_alloc, World.size_alloc]
  have H1 := hideIt (refNew_any a n c zs w0 (hr.after hA) ha hn)
  have HX := hideIt (And.intro hA (And.intro b0 (And.intro b1 hsz)))
  have HW := hideIt hw0
  have HB := hideIt hr.2.1
  clear hA b0 b1 hsz hw0 hr ha hn
  go_enter Try.func37, Try.ntmps37
  go_wp2_with fail
  rw [HW.out]
  refine H1.out.mono ?_
  clear H1 HW
  rintro e w1 ⟨g, h, rfl, r1, hg, hh, a1⟩
  obtain ⟨hA, b0, b1, hsz⟩ := HX.out
  have ax : After w1 (w1.alloc (.cells #[Ptr g, .int .i64 0] 91)) := After.rfl.alloc _
  have hrl := (show g < w1.heap.size ∧ h < w1.heap.size from by
    refine ⟨r1.lt, ?_⟩
    obtain ⟨a', n', c', k', fs, ⟨h1, _, _, _, _, h5⟩, _⟩ := r1
    rcases h5 with ⟨_, _, _, rfl⟩ | ⟨off, _, _, hl⟩
    · exact (two_at h1).1
    · exact hl)
  have rc : RdC w (w1.alloc (.cells #[Ptr g, .int .i64 0] 91)) w1.heap.size g h (.ok zs) #[.int .i64 3357, .slice none 0 0, .int .i64 0, .int .i64 0, .int .i64 0, .slice none 0 0, .slice none 0 0] :=
    ⟨⟨by omega, by omega, zs, 0, new1 _ _, r1.after ax, .inl ⟨rfl, rfl⟩⟩, hA.trans (a1.trans ax), keep2 b0 (a1.trans ax), keep2 b1 (a1.trans ax), by have := a1.size; omega⟩
  have HR := hideIt rc
  obtain ⟨w2, hw2⟩ : ∃ w2, w1.alloc (.cells #[Ptr g, .int .i64 0] 91) = w2 := ⟨_, rfl⟩
  rw [hw2] at HR
  have HW2 := hideIt hw2
  clear hA b0 b1 hsz ax rc HX r1 hg hh a1 hrl hw2
  obtain ⟨gr, hgr⟩ : ∃ gr, w1.heap.size = gr := ⟨_, rfl⟩
  rw [hgr] at HR
  have HGR := hideIt hgr
  clear hgr
  have hE := two_words zs (Msg.zero 0).config (Msg.zero 0).result (fun c r => ⟨3357, [], c, r, 0, [], []⟩)
  rw [← ff_3357 (Msg.zero 0) zs] at hE
  have HE := hideIt hE
  clear hE
  obtain ⟨v1, hv1⟩ : ∃ v1, rdV 2 (.ok zs) = v1 := ⟨_, rfl⟩
  obtain ⟨s1, hs1⟩ : ∃ s1, rdS 2 (.ok zs) = s1 := ⟨_, rfl⟩
  have HC_v1 := hideIt (word_r w2 gr g h (.ok zs) HR.out.rs)
  rw [hv1, hs1] at HC_v1
  have HE_v1 := hideIt (And.intro hv1 hs1)
  clear hv1 hs1
  go_wp2_with fail
  rw [HGR.out, HW2.out]
  refine HC_v1.out.mono ?_
  clear HC_v1
  rintro e w3 ⟨rfl, r9, b9⟩
  have HR3_0 := HR.out.call b9 r9
  obtain ⟨_, ⟨y0, y1, y2, y3, y4, y5, y6⟩, ⟨z0, z1, z2, z3, z4, z5, z6⟩⟩ := seven_at HR3_0.b1
  have HR3_1 := HR3_0.set 2 (.int .i64 v1)
  simp only [List.setIfInBounds_toArray, List.set_cons_zero, List.set_cons_succ] at HR3_1
  have HR3 := hideIt HR3_1
  clear r9 b9 HR3_0 HR3_1
  obtain ⟨v2, hv2⟩ : ∃ v2, rdV 2 s1 = v2 := ⟨_, rfl⟩
  obtain ⟨s2, hs2⟩ : ∃ s2, rdS 2 s1 = s2 := ⟨_, rfl⟩
  have HC_v2 := hideIt (word_r (w3.setCell ⟨w.heap.size + 1, 2, none⟩ (.int .i64 v1)) gr g h s1 HR3.out.rs)
  rw [hv2, hs2] at HC_v2
  have HE_v2 := hideIt (And.intro hv2 hs2)
  clear hv2 hs2
  go_wp2_with fail
  refine HC_v2.out.mono ?_
  clear HC_v2
  rintro e w4 ⟨rfl, r9, b9⟩
  have HR4_0 := HR3.out.call b9 r9
  obtain ⟨_, ⟨y0, y1, y2, y3, y4, y5, y6⟩, ⟨z0, z1, z2, z3, z4, z5, z6⟩⟩ := seven_at HR4_0.b1
  have HR4_1 := HR4_0.set 3 (.int .i64 v2)
  simp only [List.setIfInBounds_toArray, List.set_cons_zero, List.set_cons_succ] at HR4_1
  have HR4 := hideIt HR4_1
  clear r9 b9 HR4_0 HR4_1
  obtain ⟨L, hL, hleft⟩ := HR4.out.left
  have HLF := hideIt hleft
  obtain ⟨ec, hec, hec0, hecx⟩ := HR4.out.cells
  obtain ⟨_, m0, m1, _, _⟩ := two_at hec
  have HEC := hideIt (And.intro hec0 (And.intro hecx hL))
  clear hleft hec hec0 hecx hL
  obtain ⟨bb, hbb⟩ : ∃ bb, decide (0 < L) = bb := ⟨_, rfl⟩
  have HBD := hideIt (show ∀ W', After (w4.setCell ⟨w.heap.size + 1, 3, none⟩ (.int .i64 v2)) W' → Calls Try.prog 60 #[Ptr gr, .bool bb, .int .i64 4] W' fun e W'' => e = .returned (.tuple #[]) ∧ RdC w W'' gr g h (badS bb 4 s2) #[.int .i64 3357, .slice none 0 0, .int .i64 v1, .int .i64 v2, .int .i64 0, .slice none 0 0, .slice none 0 0] from fun W' a' => (bad_r W' gr g h s2 (HR4.out.after a').rs bb 4 (by decide)).mono fun e W'' ⟨he, r, b⟩ => ⟨he, (HR4.out.after a').bad b r⟩)
  go_wp2_with fail
  refine (HLF.out _ After.rfl).mono ?_
  clear HLF
  rintro e wl ⟨rfl, al⟩
  have HAL := hideIt al
  clear al
  go_wp2_with fail
  try rw [hbb]
  refine (HBD.out _ HAL.out).mono ?_
  rintro e wb ⟨rfl, rcb⟩
  obtain ⟨eb, heb, heb0, hebx⟩ := rcb.cells
  obtain ⟨_, t0, t1, _, _⟩ := two_at heb
  obtain ⟨_, ⟨y0, y1, y2, y3, y4, y5, y6⟩, _⟩ := seven_at rcb.b1
  obtain ⟨_, ⟨q0, q1, q2, q3, q4, q5, q6⟩, ⟨z0, z1, z2, z3, z4, z5, z6⟩⟩ := seven_at rcb.b0
  have hng : ¬ gr = w.heap.size := by have := rcb.ne; omega
  have hng' : ¬ w.heap.size = gr := by have := rcb.ne; omega
  have HRB := hideIt (And.intro rcb (And.intro heb0 hebx))
  have HBB := hideIt hbb
  clear rcb heb heb0 hebx HBD HAL hbb m0 m1
  go_wp2_with fail
  go_region
  go_wp2_with fail
  obtain ⟨rcb, heb0, hebx⟩ := HRB.out
  have bw9 : But (One w.heap.size) wb (((((((wb.setCell ⟨w.heap.size, 0, none⟩ (.int .i64 3357)).setCell ⟨w.heap.size, 1, none⟩ (.slice none 0 0)).setCell ⟨w.heap.size, 2, none⟩ (.int .i64 v1)).setCell ⟨w.heap.size, 3, none⟩ (.int .i64 v2)).setCell ⟨w.heap.size, 4, none⟩ (.int .i64 0)).setCell ⟨w.heap.size, 5, none⟩ (.slice none 0 0)).setCell ⟨w.heap.size, 6, none⟩ (.slice none 0 0)).drew := by
    refine But.trans ?_ (After.rfl.draws 1).but
    iterate 7 refine But.set (S := One w.heap.size) ?_ ⟨w.heap.size, _, none⟩ (fun _ => Eq.refl _) _
    exact But.rfl
  refine bodyPost_ret (v := .tuple #[.agg #[.int .i64 3357, .slice none 0 0, .int .i64 v1, .int .i64 v2, .int .i64 0, .slice none 0 0, .slice none 0 0], .int .i64 eb]) (by simp [results, Try.results37, go_sem, q0, q1, q2, q3, q4, q5, q6]) rfl ?_
  exact outR_end (X := ⟨3357, [], v1, v2, 0, [], []⟩) (sa := none) (sc := 0) (oa := none) (oc := 0) (ba := none) (bc := 0) (by have hE := HE.out; rw [HE_v1.out.1, HE_v1.out.2, HE_v2.out.1, HE_v2.out.2] at hE; exact hE) HEC.out.2.2 HBB.out rcb.rs heb0 hebx (rcb.aft.but.then bw9 (fun i hi t => by have t' : i = w.heap.size := t; omega)) (fun _ _ => MsgX.nils _ _ _ _ _ _)
set_option maxHeartbeats 600000 in
theorem read_58368 (w : World) (a : Option Addr) (n c : Nat) (zs : List Int) (hr : Row w a n zs) (ha : a = none → n = 0 ∧ c = 0) (hn : n ≤ 140737488355328) :
    Calls Try.prog 37 #[.int .i64 58368, .slice a n c] w fun e w' => OutR w w' e (readF 58368 zs) := by
  obtain ⟨w0, hw0⟩ : ∃ w0, (w.alloc (.cells #[.int .i64 0, .slice none 0 0, .int .i64 0, .int .i64 0, .int .i64 0, .slice none 0 0, .slice none 0 0] 26)).alloc (.cells #[.int .i64 58368, .slice none 0 0, .int .i64 0, .int .i64 0, .int .i64 0, .slice none 0 0, .slice none 0 0] 26) = w0 := ⟨_, rfl⟩
  have hA : After w w0 := by rw [← hw0]; exact (After.rfl.alloc _).alloc _
  obtain ⟨b0, b1⟩ := new2 w (.cells #[.int .i64 0, .slice none 0 0, .int .i64 0, .int .i64 0, .int .i64 0, .slice none 0 0, .slice none 0 0] 26) (.cells #[.int .i64 58368, .slice none 0 0, .int .i64 0, .int .i64 0, .int .i64 0, .slice none 0 0, .slice none 0 0] 26)
  rw [hw0] at b0 b1
  have hsz : w0.heap.size = w.heap.size + 2 := by rw [← hw0, World.size_alloc, World.size_alloc]
  have H1 := hideIt (refNew_any a n c zs w0 (hr.after hA) ha hn)
  have HX := hideIt (And.intro hA (And.intro b0 (And.intro b1 hsz)))
  have HW := hideIt hw0
  have HB := hideIt hr.2.1
  clear hA b0 b1 hsz hw0 hr ha hn
  go_enter Try.func37, Try.ntmps37
  go_wp2_with fail
  rw [HW.out]
  refine H1.out.mono ?_
  clear H1 HW
  rintro e w1 ⟨g, h, rfl, r1, hg, hh, a1⟩
  obtain ⟨hA, b0, b1, hsz⟩ := HX.out
  have ax : After w1 (w1.alloc (.cells #[Ptr g, .int .i64 0] 91)) := After.rfl.alloc _
  have hrl := (show g < w1.heap.size ∧ h < w1.heap.size from by
    refine ⟨r1.lt, ?_⟩
    obtain ⟨a', n', c', k', fs, ⟨h1, _, _, _, _, h5⟩, _⟩ := r1
    rcases h5 with ⟨_, _, _, rfl⟩ | ⟨off, _, _, hl⟩
    · exact (two_at h1).1
    · exact hl)
  have rc : RdC w (w1.alloc (.cells #[Ptr g, .int .i64 0] 91)) w1.heap.size g h (.ok zs) #[.int .i64 58368, .slice none 0 0, .int .i64 0, .int .i64 0, .int .i64 0, .slice none 0 0, .slice none 0 0] :=
    ⟨⟨by omega, by omega, zs, 0, new1 _ _, r1.after ax, .inl ⟨rfl, rfl⟩⟩, hA.trans (a1.trans ax), keep2 b0 (a1.trans ax), keep2 b1 (a1.trans ax), by have := a1.size; omega⟩
  have HR := hideIt rc
  obtain ⟨w2, hw2⟩ : ∃ w2, w1.alloc (.cells #[Ptr g, .int .i64 0] 91) = w2 := ⟨_, rfl⟩
  rw [hw2] at HR
  have HW2 := hideIt hw2
  clear hA b0 b1 hsz ax rc HX r1 hg hh a1 hrl hw2
  obtain ⟨gr, hgr⟩ : ∃ gr, w1.heap.size = gr := ⟨_, rfl⟩
  rw [hgr] at HR
  have HGR := hideIt hgr
  clear hgr
  have hE := one_word zs (Msg.zero 0).reason (fun q => ⟨58368, [], 0, 0, q, [], []⟩)
  rw [← ff_58368 (Msg.zero 0) zs] at hE
  have HE := hideIt hE
  clear hE
  obtain ⟨v1, hv1⟩ : ∃ v1, rdV 2 (.ok zs) = v1 := ⟨_, rfl⟩
  obtain ⟨s1, hs1⟩ : ∃ s1, rdS 2 (.ok zs) = s1 := ⟨_, rfl⟩
  have HC_v1 := hideIt (word_r w2 gr g h (.ok zs) HR.out.rs)
  rw [hv1, hs1] at HC_v1
  have HE_v1 := hideIt (And.intro hv1 hs1)
  clear hv1 hs1
  go_wp2_with fail
  rw [HGR.out, HW2.out]
  refine HC_v1.out.mono ?_
  clear HC_v1
  rintro e w3 ⟨rfl, r9, b9⟩
  have HR3_0 := HR.out.call b9 r9
  obtain ⟨_, ⟨y0, y1, y2, y3, y4, y5, y6⟩, ⟨z0, z1, z2, z3, z4, z5, z6⟩⟩ := seven_at HR3_0.b1
  have HR3_1 := HR3_0.set 4 (.int .i64 v1)
  simp only [List.setIfInBounds_toArray, List.set_cons_zero, List.set_cons_succ] at HR3_1
  have HR3 := hideIt HR3_1
  clear r9 b9 HR3_0 HR3_1
  obtain ⟨L, hL, hleft⟩ := HR3.out.left
  have HLF := hideIt hleft
  obtain ⟨ec, hec, hec0, hecx⟩ := HR3.out.cells
  obtain ⟨_, m0, m1, _, _⟩ := two_at hec
  have HEC := hideIt (And.intro hec0 (And.intro hecx hL))
  clear hleft hec hec0 hecx hL
  obtain ⟨bb, hbb⟩ : ∃ bb, decide (0 < L) = bb := ⟨_, rfl⟩
  have HBD := hideIt (show ∀ W', After (w3.setCell ⟨w.heap.size + 1, 4, none⟩ (.int .i64 v1)) W' → Calls Try.prog 60 #[Ptr gr, .bool bb, .int .i64 4] W' fun e W'' => e = .returned (.tuple #[]) ∧ RdC w W'' gr g h (badS bb 4 s1) #[.int .i64 58368, .slice none 0 0, .int .i64 0, .int .i64 0, .int .i64 v1, .slice none 0 0, .slice none 0 0] from fun W' a' => (bad_r W' gr g h s1 (HR3.out.after a').rs bb 4 (by decide)).mono fun e W'' ⟨he, r, b⟩ => ⟨he, (HR3.out.after a').bad b r⟩)
  go_wp2_with fail
  refine (HLF.out _ After.rfl).mono ?_
  clear HLF
  rintro e wl ⟨rfl, al⟩
  have HAL := hideIt al
  clear al
  go_wp2_with fail
  try rw [hbb]
  refine (HBD.out _ HAL.out).mono ?_
  rintro e wb ⟨rfl, rcb⟩
  obtain ⟨eb, heb, heb0, hebx⟩ := rcb.cells
  obtain ⟨_, t0, t1, _, _⟩ := two_at heb
  obtain ⟨_, ⟨y0, y1, y2, y3, y4, y5, y6⟩, _⟩ := seven_at rcb.b1
  obtain ⟨_, ⟨q0, q1, q2, q3, q4, q5, q6⟩, ⟨z0, z1, z2, z3, z4, z5, z6⟩⟩ := seven_at rcb.b0
  have hng : ¬ gr = w.heap.size := by have := rcb.ne; omega
  have hng' : ¬ w.heap.size = gr := by have := rcb.ne; omega
  have HRB := hideIt (And.intro rcb (And.intro heb0 hebx))
  have HBB := hideIt hbb
  clear rcb heb heb0 hebx HBD HAL hbb m0 m1
  go_wp2_with fail
  go_region
  go_wp2_with fail
  obtain ⟨rcb, heb0, hebx⟩ := HRB.out
  have bw9 : But (One w.heap.size) wb (((((((wb.setCell ⟨w.heap.size, 0, none⟩ (.int .i64 58368)).setCell ⟨w.heap.size, 1, none⟩ (.slice none 0 0)).setCell ⟨w.heap.size, 2, none⟩ (.int .i64 0)).setCell ⟨w.heap.size, 3, none⟩ (.int .i64 0)).setCell ⟨w.heap.size, 4, none⟩ (.int .i64 v1)).setCell ⟨w.heap.size, 5, none⟩ (.slice none 0 0)).setCell ⟨w.heap.size, 6, none⟩ (.slice none 0 0)).drew := by
    refine But.trans ?_ (After.rfl.draws 1).but
    iterate 7 refine But.set (S := One w.heap.size) ?_ ⟨w.heap.size, _, none⟩ (fun _ => Eq.refl _) _
    exact But.rfl
  refine bodyPost_ret (v := .tuple #[.agg #[.int .i64 58368, .slice none 0 0, .int .i64 0, .int .i64 0, .int .i64 v1, .slice none 0 0, .slice none 0 0], .int .i64 eb]) (by simp [results, Try.results37, go_sem, q0, q1, q2, q3, q4, q5, q6]) rfl ?_
  exact outR_end (X := ⟨58368, [], 0, 0, v1, [], []⟩) (sa := none) (sc := 0) (oa := none) (oc := 0) (ba := none) (bc := 0) (by have hE := HE.out; rw [HE_v1.out.1, HE_v1.out.2] at hE; exact hE) HEC.out.2.2 HBB.out rcb.rs heb0 hebx (rcb.aft.but.then bw9 (fun i hi t => by have t' : i = w.heap.size := t; omega)) (fun _ _ => MsgX.nils _ _ _ _ _ _)
set_option maxHeartbeats 600000 in
theorem read_58624 (w : World) (a : Option Addr) (n c : Nat) (zs : List Int) (hr : Row w a n zs) (ha : a = none → n = 0 ∧ c = 0) (hn : n ≤ 140737488355328) :
    Calls Try.prog 37 #[.int .i64 58624, .slice a n c] w fun e w' => OutR w w' e (readF 58624 zs) := by
  obtain ⟨w0, hw0⟩ : ∃ w0, (w.alloc (.cells #[.int .i64 0, .slice none 0 0, .int .i64 0, .int .i64 0, .int .i64 0, .slice none 0 0, .slice none 0 0] 26)).alloc (.cells #[.int .i64 58624, .slice none 0 0, .int .i64 0, .int .i64 0, .int .i64 0, .slice none 0 0, .slice none 0 0] 26) = w0 := ⟨_, rfl⟩
  have hA : After w w0 := by rw [← hw0]; exact (After.rfl.alloc _).alloc _
  obtain ⟨b0, b1⟩ := new2 w (.cells #[.int .i64 0, .slice none 0 0, .int .i64 0, .int .i64 0, .int .i64 0, .slice none 0 0, .slice none 0 0] 26) (.cells #[.int .i64 58624, .slice none 0 0, .int .i64 0, .int .i64 0, .int .i64 0, .slice none 0 0, .slice none 0 0] 26)
  rw [hw0] at b0 b1
  have hsz : w0.heap.size = w.heap.size + 2 := by rw [← hw0, World.size_alloc, World.size_alloc]
  have H1 := hideIt (refNew_any a n c zs w0 (hr.after hA) ha hn)
  have HX := hideIt (And.intro hA (And.intro b0 (And.intro b1 hsz)))
  have HW := hideIt hw0
  have HB := hideIt hr.2.1
  clear hA b0 b1 hsz hw0 hr ha hn
  go_enter Try.func37, Try.ntmps37
  go_wp2_with fail
  rw [HW.out]
  refine H1.out.mono ?_
  clear H1 HW
  rintro e w1 ⟨g, h, rfl, r1, hg, hh, a1⟩
  obtain ⟨hA, b0, b1, hsz⟩ := HX.out
  have ax : After w1 (w1.alloc (.cells #[Ptr g, .int .i64 0] 91)) := After.rfl.alloc _
  have hrl := (show g < w1.heap.size ∧ h < w1.heap.size from by
    refine ⟨r1.lt, ?_⟩
    obtain ⟨a', n', c', k', fs, ⟨h1, _, _, _, _, h5⟩, _⟩ := r1
    rcases h5 with ⟨_, _, _, rfl⟩ | ⟨off, _, _, hl⟩
    · exact (two_at h1).1
    · exact hl)
  have rc : RdC w (w1.alloc (.cells #[Ptr g, .int .i64 0] 91)) w1.heap.size g h (.ok zs) #[.int .i64 58624, .slice none 0 0, .int .i64 0, .int .i64 0, .int .i64 0, .slice none 0 0, .slice none 0 0] :=
    ⟨⟨by omega, by omega, zs, 0, new1 _ _, r1.after ax, .inl ⟨rfl, rfl⟩⟩, hA.trans (a1.trans ax), keep2 b0 (a1.trans ax), keep2 b1 (a1.trans ax), by have := a1.size; omega⟩
  have HR := hideIt rc
  obtain ⟨w2, hw2⟩ : ∃ w2, w1.alloc (.cells #[Ptr g, .int .i64 0] 91) = w2 := ⟨_, rfl⟩
  rw [hw2] at HR
  have HW2 := hideIt hw2
  clear hA b0 b1 hsz ax rc HX r1 hg hh a1 hrl hw2
  obtain ⟨gr, hgr⟩ : ∃ gr, w1.heap.size = gr := ⟨_, rfl⟩
  rw [hgr] at HR
  have HGR := hideIt hgr
  clear hgr
  have hE := one_word zs (Msg.zero 0).reason (fun q => ⟨58624, [], 0, 0, q, [], []⟩)
  rw [← ff_58624 (Msg.zero 0) zs] at hE
  have HE := hideIt hE
  clear hE
  obtain ⟨v1, hv1⟩ : ∃ v1, rdV 2 (.ok zs) = v1 := ⟨_, rfl⟩
  obtain ⟨s1, hs1⟩ : ∃ s1, rdS 2 (.ok zs) = s1 := ⟨_, rfl⟩
  have HC_v1 := hideIt (word_r w2 gr g h (.ok zs) HR.out.rs)
  rw [hv1, hs1] at HC_v1
  have HE_v1 := hideIt (And.intro hv1 hs1)
  clear hv1 hs1
  go_wp2_with fail
  rw [HGR.out, HW2.out]
  refine HC_v1.out.mono ?_
  clear HC_v1
  rintro e w3 ⟨rfl, r9, b9⟩
  have HR3_0 := HR.out.call b9 r9
  obtain ⟨_, ⟨y0, y1, y2, y3, y4, y5, y6⟩, ⟨z0, z1, z2, z3, z4, z5, z6⟩⟩ := seven_at HR3_0.b1
  have HR3_1 := HR3_0.set 4 (.int .i64 v1)
  simp only [List.setIfInBounds_toArray, List.set_cons_zero, List.set_cons_succ] at HR3_1
  have HR3 := hideIt HR3_1
  clear r9 b9 HR3_0 HR3_1
  obtain ⟨L, hL, hleft⟩ := HR3.out.left
  have HLF := hideIt hleft
  obtain ⟨ec, hec, hec0, hecx⟩ := HR3.out.cells
  obtain ⟨_, m0, m1, _, _⟩ := two_at hec
  have HEC := hideIt (And.intro hec0 (And.intro hecx hL))
  clear hleft hec hec0 hecx hL
  obtain ⟨bb, hbb⟩ : ∃ bb, decide (0 < L) = bb := ⟨_, rfl⟩
  have HBD := hideIt (show ∀ W', After (w3.setCell ⟨w.heap.size + 1, 4, none⟩ (.int .i64 v1)) W' → Calls Try.prog 60 #[Ptr gr, .bool bb, .int .i64 4] W' fun e W'' => e = .returned (.tuple #[]) ∧ RdC w W'' gr g h (badS bb 4 s1) #[.int .i64 58624, .slice none 0 0, .int .i64 0, .int .i64 0, .int .i64 v1, .slice none 0 0, .slice none 0 0] from fun W' a' => (bad_r W' gr g h s1 (HR3.out.after a').rs bb 4 (by decide)).mono fun e W'' ⟨he, r, b⟩ => ⟨he, (HR3.out.after a').bad b r⟩)
  go_wp2_with fail
  refine (HLF.out _ After.rfl).mono ?_
  clear HLF
  rintro e wl ⟨rfl, al⟩
  have HAL := hideIt al
  clear al
  go_wp2_with fail
  try rw [hbb]
  refine (HBD.out _ HAL.out).mono ?_
  rintro e wb ⟨rfl, rcb⟩
  obtain ⟨eb, heb, heb0, hebx⟩ := rcb.cells
  obtain ⟨_, t0, t1, _, _⟩ := two_at heb
  obtain ⟨_, ⟨y0, y1, y2, y3, y4, y5, y6⟩, _⟩ := seven_at rcb.b1
  obtain ⟨_, ⟨q0, q1, q2, q3, q4, q5, q6⟩, ⟨z0, z1, z2, z3, z4, z5, z6⟩⟩ := seven_at rcb.b0
  have hng : ¬ gr = w.heap.size := by have := rcb.ne; omega
  have hng' : ¬ w.heap.size = gr := by have := rcb.ne; omega
  have HRB := hideIt (And.intro rcb (And.intro heb0 hebx))
  have HBB := hideIt hbb
  clear rcb heb heb0 hebx HBD HAL hbb m0 m1
  go_wp2_with fail
  go_region
  go_wp2_with fail
  obtain ⟨rcb, heb0, hebx⟩ := HRB.out
  have bw9 : But (One w.heap.size) wb (((((((wb.setCell ⟨w.heap.size, 0, none⟩ (.int .i64 58624)).setCell ⟨w.heap.size, 1, none⟩ (.slice none 0 0)).setCell ⟨w.heap.size, 2, none⟩ (.int .i64 0)).setCell ⟨w.heap.size, 3, none⟩ (.int .i64 0)).setCell ⟨w.heap.size, 4, none⟩ (.int .i64 v1)).setCell ⟨w.heap.size, 5, none⟩ (.slice none 0 0)).setCell ⟨w.heap.size, 6, none⟩ (.slice none 0 0)).drew := by
    refine But.trans ?_ (After.rfl.draws 1).but
    iterate 7 refine But.set (S := One w.heap.size) ?_ ⟨w.heap.size, _, none⟩ (fun _ => Eq.refl _) _
    exact But.rfl
  refine bodyPost_ret (v := .tuple #[.agg #[.int .i64 58624, .slice none 0 0, .int .i64 0, .int .i64 0, .int .i64 v1, .slice none 0 0, .slice none 0 0], .int .i64 eb]) (by simp [results, Try.results37, go_sem, q0, q1, q2, q3, q4, q5, q6]) rfl ?_
  exact outR_end (X := ⟨58624, [], 0, 0, v1, [], []⟩) (sa := none) (sc := 0) (oa := none) (oc := 0) (ba := none) (bc := 0) (by have hE := HE.out; rw [HE_v1.out.1, HE_v1.out.2] at hE; exact hE) HEC.out.2.2 HBB.out rcb.rs heb0 hebx (rcb.aft.but.then bw9 (fun i hi t => by have t' : i = w.heap.size := t; omega)) (fun _ _ => MsgX.nils _ _ _ _ _ _)
set_option maxHeartbeats 600000 in
theorem read_58880 (w : World) (a : Option Addr) (n c : Nat) (zs : List Int) (hr : Row w a n zs) (ha : a = none → n = 0 ∧ c = 0) (hn : n ≤ 140737488355328) :
    Calls Try.prog 37 #[.int .i64 58880, .slice a n c] w fun e w' => OutR w w' e (readF 58880 zs) := by
  obtain ⟨w0, hw0⟩ : ∃ w0, (w.alloc (.cells #[.int .i64 0, .slice none 0 0, .int .i64 0, .int .i64 0, .int .i64 0, .slice none 0 0, .slice none 0 0] 26)).alloc (.cells #[.int .i64 58880, .slice none 0 0, .int .i64 0, .int .i64 0, .int .i64 0, .slice none 0 0, .slice none 0 0] 26) = w0 := ⟨_, rfl⟩
  have hA : After w w0 := by rw [← hw0]; exact (After.rfl.alloc _).alloc _
  obtain ⟨b0, b1⟩ := new2 w (.cells #[.int .i64 0, .slice none 0 0, .int .i64 0, .int .i64 0, .int .i64 0, .slice none 0 0, .slice none 0 0] 26) (.cells #[.int .i64 58880, .slice none 0 0, .int .i64 0, .int .i64 0, .int .i64 0, .slice none 0 0, .slice none 0 0] 26)
  rw [hw0] at b0 b1
  have hsz : w0.heap.size = w.heap.size + 2 := by rw [← hw0, World.size_alloc, World.size_alloc]
  have H1 := hideIt (refNew_any a n c zs w0 (hr.after hA) ha hn)
  have HX := hideIt (And.intro hA (And.intro b0 (And.intro b1 hsz)))
  have HW := hideIt hw0
  have HB := hideIt hr.2.1
  clear hA b0 b1 hsz hw0 hr ha hn
  go_enter Try.func37, Try.ntmps37
  go_wp2_with fail
  rw [HW.out]
  refine H1.out.mono ?_
  clear H1 HW
  rintro e w1 ⟨g, h, rfl, r1, hg, hh, a1⟩
  obtain ⟨hA, b0, b1, hsz⟩ := HX.out
  have ax : After w1 (w1.alloc (.cells #[Ptr g, .int .i64 0] 91)) := After.rfl.alloc _
  have hrl := (show g < w1.heap.size ∧ h < w1.heap.size from by
    refine ⟨r1.lt, ?_⟩
    obtain ⟨a', n', c', k', fs, ⟨h1, _, _, _, _, h5⟩, _⟩ := r1
    rcases h5 with ⟨_, _, _, rfl⟩ | ⟨off, _, _, hl⟩
    · exact (two_at h1).1
    · exact hl)
  have rc : RdC w (w1.alloc (.cells #[Ptr g, .int .i64 0] 91)) w1.heap.size g h (.ok zs) #[.int .i64 58880, .slice none 0 0, .int .i64 0, .int .i64 0, .int .i64 0, .slice none 0 0, .slice none 0 0] :=
    ⟨⟨by omega, by omega, zs, 0, new1 _ _, r1.after ax, .inl ⟨rfl, rfl⟩⟩, hA.trans (a1.trans ax), keep2 b0 (a1.trans ax), keep2 b1 (a1.trans ax), by have := a1.size; omega⟩
  have HR := hideIt rc
  obtain ⟨w2, hw2⟩ : ∃ w2, w1.alloc (.cells #[Ptr g, .int .i64 0] 91) = w2 := ⟨_, rfl⟩
  rw [hw2] at HR
  have HW2 := hideIt hw2
  clear hA b0 b1 hsz ax rc HX r1 hg hh a1 hrl hw2
  obtain ⟨gr, hgr⟩ : ∃ gr, w1.heap.size = gr := ⟨_, rfl⟩
  rw [hgr] at HR
  have HGR := hideIt hgr
  clear hgr
  have hE := one_word zs (Msg.zero 0).reason (fun q => ⟨58880, [], 0, 0, q, [], []⟩)
  rw [← ff_58880 (Msg.zero 0) zs] at hE
  have HE := hideIt hE
  clear hE
  obtain ⟨v1, hv1⟩ : ∃ v1, rdV 2 (.ok zs) = v1 := ⟨_, rfl⟩
  obtain ⟨s1, hs1⟩ : ∃ s1, rdS 2 (.ok zs) = s1 := ⟨_, rfl⟩
  have HC_v1 := hideIt (word_r w2 gr g h (.ok zs) HR.out.rs)
  rw [hv1, hs1] at HC_v1
  have HE_v1 := hideIt (And.intro hv1 hs1)
  clear hv1 hs1
  go_wp2_with fail
  rw [HGR.out, HW2.out]
  refine HC_v1.out.mono ?_
  clear HC_v1
  rintro e w3 ⟨rfl, r9, b9⟩
  have HR3_0 := HR.out.call b9 r9
  obtain ⟨_, ⟨y0, y1, y2, y3, y4, y5, y6⟩, ⟨z0, z1, z2, z3, z4, z5, z6⟩⟩ := seven_at HR3_0.b1
  have HR3_1 := HR3_0.set 4 (.int .i64 v1)
  simp only [List.setIfInBounds_toArray, List.set_cons_zero, List.set_cons_succ] at HR3_1
  have HR3 := hideIt HR3_1
  clear r9 b9 HR3_0 HR3_1
  obtain ⟨L, hL, hleft⟩ := HR3.out.left
  have HLF := hideIt hleft
  obtain ⟨ec, hec, hec0, hecx⟩ := HR3.out.cells
  obtain ⟨_, m0, m1, _, _⟩ := two_at hec
  have HEC := hideIt (And.intro hec0 (And.intro hecx hL))
  clear hleft hec hec0 hecx hL
  obtain ⟨bb, hbb⟩ : ∃ bb, decide (0 < L) = bb := ⟨_, rfl⟩
  have HBD := hideIt (show ∀ W', After (w3.setCell ⟨w.heap.size + 1, 4, none⟩ (.int .i64 v1)) W' → Calls Try.prog 60 #[Ptr gr, .bool bb, .int .i64 4] W' fun e W'' => e = .returned (.tuple #[]) ∧ RdC w W'' gr g h (badS bb 4 s1) #[.int .i64 58880, .slice none 0 0, .int .i64 0, .int .i64 0, .int .i64 v1, .slice none 0 0, .slice none 0 0] from fun W' a' => (bad_r W' gr g h s1 (HR3.out.after a').rs bb 4 (by decide)).mono fun e W'' ⟨he, r, b⟩ => ⟨he, (HR3.out.after a').bad b r⟩)
  go_wp2_with fail
  refine (HLF.out _ After.rfl).mono ?_
  clear HLF
  rintro e wl ⟨rfl, al⟩
  have HAL := hideIt al
  clear al
  go_wp2_with fail
  try rw [hbb]
  refine (HBD.out _ HAL.out).mono ?_
  rintro e wb ⟨rfl, rcb⟩
  obtain ⟨eb, heb, heb0, hebx⟩ := rcb.cells
  obtain ⟨_, t0, t1, _, _⟩ := two_at heb
  obtain ⟨_, ⟨y0, y1, y2, y3, y4, y5, y6⟩, _⟩ := seven_at rcb.b1
  obtain ⟨_, ⟨q0, q1, q2, q3, q4, q5, q6⟩, ⟨z0, z1, z2, z3, z4, z5, z6⟩⟩ := seven_at rcb.b0
  have hng : ¬ gr = w.heap.size := by have := rcb.ne; omega
  have hng' : ¬ w.heap.size = gr := by have := rcb.ne; omega
  have HRB := hideIt (And.intro rcb (And.intro heb0 hebx))
  have HBB := hideIt hbb
  clear rcb heb heb0 hebx HBD HAL hbb m0 m1
  go_wp2_with fail
  go_region
  go_wp2_with fail
  obtain ⟨rcb, heb0, hebx⟩ := HRB.out
  have bw9 : But (One w.heap.size) wb (((((((wb.setCell ⟨w.heap.size, 0, none⟩ (.int .i64 58880)).setCell ⟨w.heap.size, 1, none⟩ (.slice none 0 0)).setCell ⟨w.heap.size, 2, none⟩ (.int .i64 0)).setCell ⟨w.heap.size, 3, none⟩ (.int .i64 0)).setCell ⟨w.heap.size, 4, none⟩ (.int .i64 v1)).setCell ⟨w.heap.size, 5, none⟩ (.slice none 0 0)).setCell ⟨w.heap.size, 6, none⟩ (.slice none 0 0)).drew := by
    refine But.trans ?_ (After.rfl.draws 1).but
    iterate 7 refine But.set (S := One w.heap.size) ?_ ⟨w.heap.size, _, none⟩ (fun _ => Eq.refl _) _
    exact But.rfl
  refine bodyPost_ret (v := .tuple #[.agg #[.int .i64 58880, .slice none 0 0, .int .i64 0, .int .i64 0, .int .i64 v1, .slice none 0 0, .slice none 0 0], .int .i64 eb]) (by simp [results, Try.results37, go_sem, q0, q1, q2, q3, q4, q5, q6]) rfl ?_
  exact outR_end (X := ⟨58880, [], 0, 0, v1, [], []⟩) (sa := none) (sc := 0) (oa := none) (oc := 0) (ba := none) (bc := 0) (by have hE := HE.out; rw [HE_v1.out.1, HE_v1.out.2] at hE; exact hE) HEC.out.2.2 HBB.out rcb.rs heb0 hebx (rcb.aft.but.then bw9 (fun i hi t => by have t' : i = w.heap.size := t; omega)) (fun _ _ => MsgX.nils _ _ _ _ _ _)
set_option maxHeartbeats 600000 in
theorem read_3356 (w : World) (a : Option Addr) (n c : Nat) (zs : List Int) (hr : Row w a n zs) (ha : a = none → n = 0 ∧ c = 0) (hn : n ≤ 140737488355328) :
    Calls Try.prog 37 #[.int .i64 3356, .slice a n c] w fun e w' => OutR w w' e (readF 3356 zs) := by
  obtain ⟨w0, hw0⟩ : ∃ w0, (w.alloc (.cells #[.int .i64 0, .slice none 0 0, .int .i64 0, .int .i64 0, .int .i64 0, .slice none 0 0, .slice none 0 0] 26)).alloc (.cells #[.int .i64 3356, .slice none 0 0, .int .i64 0, .int .i64 0, .int .i64 0, .slice none 0 0, .slice none 0 0] 26) = w0 := ⟨_, rfl⟩
  have hA : After w w0 := by rw [← hw0]; exact (After.rfl.alloc _).alloc _
  obtain ⟨b0, b1⟩ := new2 w (.cells #[.int .i64 0, .slice none 0 0, .int .i64 0, .int .i64 0, .int .i64 0, .slice none 0 0, .slice none 0 0] 26) (.cells #[.int .i64 3356, .slice none 0 0, .int .i64 0, .int .i64 0, .int .i64 0, .slice none 0 0, .slice none 0 0] 26)
  rw [hw0] at b0 b1
  have hsz : w0.heap.size = w.heap.size + 2 := by rw [← hw0, World.size_alloc, World.size_alloc]
  have H1 := hideIt (refNew_any a n c zs w0 (hr.after hA) ha hn)
  have HX := hideIt (And.intro hA (And.intro b0 (And.intro b1 hsz)))
  have HW := hideIt hw0
  have HB := hideIt hr.2.1
  clear hA b0 b1 hsz hw0 hr ha hn
  go_enter Try.func37, Try.ntmps37
  go_wp2_with fail
  rw [HW.out]
  refine H1.out.mono ?_
  clear H1 HW
  rintro e w1 ⟨g, h, rfl, r1, hg, hh, a1⟩
  obtain ⟨hA, b0, b1, hsz⟩ := HX.out
  have ax : After w1 (w1.alloc (.cells #[Ptr g, .int .i64 0] 91)) := After.rfl.alloc _
  have hrl := (show g < w1.heap.size ∧ h < w1.heap.size from by
    refine ⟨r1.lt, ?_⟩
    obtain ⟨a', n', c', k', fs, ⟨h1, _, _, _, _, h5⟩, _⟩ := r1
    rcases h5 with ⟨_, _, _, rfl⟩ | ⟨off, _, _, hl⟩
    · exact (two_at h1).1
    · exact hl)
  have rc : RdC w (w1.alloc (.cells #[Ptr g, .int .i64 0] 91)) w1.heap.size g h (.ok zs) #[.int .i64 3356, .slice none 0 0, .int .i64 0, .int .i64 0, .int .i64 0, .slice none 0 0, .slice none 0 0] :=
    ⟨⟨by omega, by omega, zs, 0, new1 _ _, r1.after ax, .inl ⟨rfl, rfl⟩⟩, hA.trans (a1.trans ax), keep2 b0 (a1.trans ax), keep2 b1 (a1.trans ax), by have := a1.size; omega⟩
  have HR := hideIt rc
  obtain ⟨w2, hw2⟩ : ∃ w2, w1.alloc (.cells #[Ptr g, .int .i64 0] 91) = w2 := ⟨_, rfl⟩
  rw [hw2] at HR
  have HW2 := hideIt hw2
  clear hA b0 b1 hsz ax rc HX r1 hg hh a1 hrl hw2
  obtain ⟨gr, hgr⟩ : ∃ gr, w1.heap.size = gr := ⟨_, rfl⟩
  rw [hgr] at HR
  have HGR := hideIt hgr
  clear hgr
  obtain ⟨v1, hv1⟩ : ∃ v1, rdV 2 (.ok zs) = v1 := ⟨_, rfl⟩
  obtain ⟨s1, hs1⟩ : ∃ s1, rdS 2 (.ok zs) = s1 := ⟨_, rfl⟩
  have HC_v1 := hideIt (word_r w2 gr g h (.ok zs) HR.out.rs)
  rw [hv1, hs1] at HC_v1
  have HE_v1 := hideIt (And.intro hv1 hs1)
  clear hv1 hs1
  go_wp2_with fail
  rw [HGR.out, HW2.out]
  refine HC_v1.out.mono ?_
  clear HC_v1
  rintro e w3 ⟨rfl, r9, b9⟩
  have HR3_0 := HR.out.call b9 r9
  obtain ⟨_, ⟨y0, y1, y2, y3, y4, y5, y6⟩, ⟨z0, z1, z2, z3, z4, z5, z6⟩⟩ := seven_at HR3_0.b1
  have HR3_1 := HR3_0.set 2 (.int .i64 v1)
  simp only [List.setIfInBounds_toArray, List.set_cons_zero, List.set_cons_succ] at HR3_1
  have HR3 := hideIt HR3_1
  clear r9 b9 HR3_0 HR3_1
  have HC_l := hideIt (objs_r (w3.setCell ⟨w.heap.size + 1, 2, none⟩ (.int .i64 v1)) gr g h s1 HR3.out.rs)
  go_wp2_with fail
  refine HC_l.out.mono ?_
  clear HC_l
  rintro e w4 ⟨la, lc, l, sl, rfl, lrow, ln, lal, r9, b9, hgos⟩
  have HR4_0 := HR3.out.call b9 r9
  obtain ⟨_, ⟨y0, y1, y2, y3, y4, y5, y6⟩, ⟨z0, z1, z2, z3, z4, z5, z6⟩⟩ := seven_at HR4_0.b1
  have HR4_1 := HR4_0.set 5 (.slice la l.length lc)
  simp only [List.setIfInBounds_toArray, List.set_cons_zero, List.set_cons_succ] at HR4_1
  have HR4 := hideIt HR4_1
  have HLR := hideIt (And.intro lrow (And.intro ln (And.intro (show ∀ y, la = some y → gr < y.block ∧ w.heap.size + 2 ≤ y.block from fun y hy => by have h1 := HR3.out.aft.size; have h2 := HR3.out.ne; have h3 := (HR3.out.rs).lt; have h4 := lal y hy; omega) (And.intro hgos HR4_0))))
  clear r9 b9 HR4_0 HR4_1 lrow ln lal hgos
  have HE := hideIt (show Ends (fieldsF false 3356 (Msg.zero 0) zs) (fun X us => X = ⟨3356, [], v1, 0, 0, l, []⟩ ∧ sl = .ok us) (fun c => sl = .error c) from by
    have hg := HLR.out.2.2.2.1
    rw [← HE_v1.out.2] at hg
    have hE := word_list (Msg.zero 0).config (fun c l => (⟨3356, [], c, 0, 0, l, []⟩ : Msg)) hg
    rw [HE_v1.out.1] at hE
    rw [ff_3356]
    exact hE)
  obtain ⟨L, hL, hleft⟩ := HR4.out.left
  have HLF := hideIt hleft
  obtain ⟨ec, hec, hec0, hecx⟩ := HR4.out.cells
  obtain ⟨_, m0, m1, _, _⟩ := two_at hec
  have HEC := hideIt (And.intro hec0 (And.intro hecx hL))
  clear hleft hec hec0 hecx hL
  obtain ⟨bb, hbb⟩ : ∃ bb, decide (0 < L) = bb := ⟨_, rfl⟩
  have HBD := hideIt (show ∀ W', After (w4.setCell ⟨w.heap.size + 1, 5, none⟩ (.slice la l.length lc)) W' → Calls Try.prog 60 #[Ptr gr, .bool bb, .int .i64 4] W' fun e W'' => e = .returned (.tuple #[]) ∧ RdC w W'' gr g h (badS bb 4 sl) #[.int .i64 3356, .slice none 0 0, .int .i64 v1, .int .i64 0, .int .i64 0, .slice la l.length lc, .slice none 0 0] ∧ But (One gr) W' W'' from fun W' a' => (bad_r W' gr g h sl (HR4.out.after a').rs bb 4 (by decide)).mono fun e W'' ⟨he, r, b⟩ => ⟨he, (HR4.out.after a').bad b r, b⟩)
  go_wp2_with fail
  refine (HLF.out _ After.rfl).mono ?_
  clear HLF
  rintro e wl ⟨rfl, al⟩
  have HAL := hideIt al
  clear al
  go_wp2_with fail
  try rw [hbb]
  refine (HBD.out _ HAL.out).mono ?_
  rintro e wb ⟨rfl, rcb, tbw⟩
  obtain ⟨eb, heb, heb0, hebx⟩ := rcb.cells
  obtain ⟨_, t0, t1, _, _⟩ := two_at heb
  obtain ⟨_, ⟨y0, y1, y2, y3, y4, y5, y6⟩, _⟩ := seven_at rcb.b1
  obtain ⟨_, ⟨q0, q1, q2, q3, q4, q5, q6⟩, ⟨z0, z1, z2, z3, z4, z5, z6⟩⟩ := seven_at rcb.b0
  have hng : ¬ gr = w.heap.size := by have := rcb.ne; omega
  have hng' : ¬ w.heap.size = gr := by have := rcb.ne; omega
  have HRB := hideIt (And.intro rcb (And.intro heb0 hebx))
  have HBB := hideIt hbb
  have HTB := hideIt (HAL.out.but.trans tbw)
  clear tbw
  clear rcb heb heb0 hebx HBD HAL hbb m0 m1
  go_wp2_with fail
  go_region
  go_wp2_with fail
  obtain ⟨rcb, heb0, hebx⟩ := HRB.out
  have bw9 : But (One w.heap.size) wb (((((((wb.setCell ⟨w.heap.size, 0, none⟩ (.int .i64 3356)).setCell ⟨w.heap.size, 1, none⟩ (.slice none 0 0)).setCell ⟨w.heap.size, 2, none⟩ (.int .i64 v1)).setCell ⟨w.heap.size, 3, none⟩ (.int .i64 0)).setCell ⟨w.heap.size, 4, none⟩ (.int .i64 0)).setCell ⟨w.heap.size, 5, none⟩ (.slice la l.length lc)).setCell ⟨w.heap.size, 6, none⟩ (.slice none 0 0)).drew := by
    refine But.trans ?_ (After.rfl.draws 1).but
    iterate 7 refine But.set (S := One w.heap.size) ?_ ⟨w.heap.size, _, none⟩ (fun _ => Eq.refl _) _
    exact But.rfl
  refine bodyPost_ret (v := .tuple #[.agg #[.int .i64 3356, .slice none 0 0, .int .i64 v1, .int .i64 0, .int .i64 0, .slice la l.length lc, .slice none 0 0], .int .i64 eb]) (by simp [results, Try.results37, go_sem, q0, q1, q2, q3, q4, q5, q6]) rfl ?_
  exact outR_end (X := ⟨3356, [], v1, 0, 0, l, []⟩) (sa := none) (sc := 0) (oa := la) (oc := lc) (ba := none) (bc := 0) HE.out HEC.out.2.2 HBB.out rcb.rs heb0 hebx (rcb.aft.but.then bw9 (fun i hi t => by have t' : i = w.heap.size := t; omega)) (fun us hus => by
    have rcW := HLR.out.2.2.2.2
    have hne := rcb.ne
    have tt : But (fun k => k = w.heap.size ∨ k = w.heap.size + 1 ∨ k = gr) w4 _ := ((But.own1 w4 (w.heap.size + 1) 5 (.slice la l.length lc)).mono (fun i _ t => .inr (.inl t))).trans ((HTB.out.mono (fun i _ t => .inr (.inr t))).trans (bw9.mono (fun i _ t => .inl t)))
    exact ⟨Row.nil _ _, fun _ => ⟨rfl, rfl⟩, (fun y hy => by cases hy), (by show (0 : Nat) ≤ 140737488355328; omega), HLR.out.1.but tt (fun y hy h0 t => by have := HLR.out.2.2.1 y hy; rcases t with t | t | t <;> omega), HLR.out.2.1, fun y hy _ => by have := HLR.out.2.2.1 y hy; omega, RowT.nil _ _, fun _ => ⟨rfl, rfl⟩, (fun y hy => by cases hy), fun o ho => by cases ho⟩)
set_option maxHeartbeats 600000 in
theorem read_3358 (w : World) (a : Option Addr) (n c : Nat) (zs : List Int) (hr : Row w a n zs) (ha : a = none → n = 0 ∧ c = 0) (hn : n ≤ 140737488355328) :
    Calls Try.prog 37 #[.int .i64 3358, .slice a n c] w fun e w' => OutR w w' e (readF 3358 zs) := by
  obtain ⟨w0, hw0⟩ : ∃ w0, (w.alloc (.cells #[.int .i64 0, .slice none 0 0, .int .i64 0, .int .i64 0, .int .i64 0, .slice none 0 0, .slice none 0 0] 26)).alloc (.cells #[.int .i64 3358, .slice none 0 0, .int .i64 0, .int .i64 0, .int .i64 0, .slice none 0 0, .slice none 0 0] 26) = w0 := ⟨_, rfl⟩
  have hA : After w w0 := by rw [← hw0]; exact (After.rfl.alloc _).alloc _
  obtain ⟨b0, b1⟩ := new2 w (.cells #[.int .i64 0, .slice none 0 0, .int .i64 0, .int .i64 0, .int .i64 0, .slice none 0 0, .slice none 0 0] 26) (.cells #[.int .i64 3358, .slice none 0 0, .int .i64 0, .int .i64 0, .int .i64 0, .slice none 0 0, .slice none 0 0] 26)
  rw [hw0] at b0 b1
  have hsz : w0.heap.size = w.heap.size + 2 := by rw [← hw0, World.size_alloc, World.size_alloc]
  have H1 := hideIt (refNew_any a n c zs w0 (hr.after hA) ha hn)
  have HX := hideIt (And.intro hA (And.intro b0 (And.intro b1 hsz)))
  have HW := hideIt hw0
  have HB := hideIt hr.2.1
  clear hA b0 b1 hsz hw0 hr ha hn
  go_enter Try.func37, Try.ntmps37
  go_wp2_with fail
  rw [HW.out]
  refine H1.out.mono ?_
  clear H1 HW
  rintro e w1 ⟨g, h, rfl, r1, hg, hh, a1⟩
  obtain ⟨hA, b0, b1, hsz⟩ := HX.out
  have ax : After w1 (w1.alloc (.cells #[Ptr g, .int .i64 0] 91)) := After.rfl.alloc _
  have hrl := (show g < w1.heap.size ∧ h < w1.heap.size from by
    refine ⟨r1.lt, ?_⟩
    obtain ⟨a', n', c', k', fs, ⟨h1, _, _, _, _, h5⟩, _⟩ := r1
    rcases h5 with ⟨_, _, _, rfl⟩ | ⟨off, _, _, hl⟩
    · exact (two_at h1).1
    · exact hl)
  have rc : RdC w (w1.alloc (.cells #[Ptr g, .int .i64 0] 91)) w1.heap.size g h (.ok zs) #[.int .i64 3358, .slice none 0 0, .int .i64 0, .int .i64 0, .int .i64 0, .slice none 0 0, .slice none 0 0] :=
    ⟨⟨by omega, by omega, zs, 0, new1 _ _, r1.after ax, .inl ⟨rfl, rfl⟩⟩, hA.trans (a1.trans ax), keep2 b0 (a1.trans ax), keep2 b1 (a1.trans ax), by have := a1.size; omega⟩
  have HR := hideIt rc
  obtain ⟨w2, hw2⟩ : ∃ w2, w1.alloc (.cells #[Ptr g, .int .i64 0] 91) = w2 := ⟨_, rfl⟩
  rw [hw2] at HR
  have HW2 := hideIt hw2
  clear hA b0 b1 hsz ax rc HX r1 hg hh a1 hrl hw2
  obtain ⟨gr, hgr⟩ : ∃ gr, w1.heap.size = gr := ⟨_, rfl⟩
  rw [hgr] at HR
  have HGR := hideIt hgr
  clear hgr
  have HC_l := hideIt (obs_r w2 gr g h (.ok zs) HR.out.rs)
  go_wp2_with fail
  rw [HGR.out, HW2.out]
  refine HC_l.out.mono ?_
  clear HC_l
  rintro e w3 ⟨la, lc, l, sl, rfl, lrow, ln, lal, r9, b9, hgos⟩
  have HR3_0 := HR.out.call b9 r9
  obtain ⟨_, ⟨y0, y1, y2, y3, y4, y5, y6⟩, ⟨z0, z1, z2, z3, z4, z5, z6⟩⟩ := seven_at HR3_0.b1
  have HR3_1 := HR3_0.set 6 (.slice la l.length lc)
  simp only [List.setIfInBounds_toArray, List.set_cons_zero, List.set_cons_succ] at HR3_1
  have HR3 := hideIt HR3_1
  have HLR := hideIt (And.intro lrow (And.intro ln (And.intro (show ∀ y, la = some y → gr < y.block ∧ w.heap.size + 2 ≤ y.block from fun y hy => by have h1 := HR.out.aft.size; have h2 := HR.out.ne; have h3 := (HR.out.rs).lt; have h4 := lal y hy; omega) (And.intro hgos HR3_0))))
  clear r9 b9 HR3_0 HR3_1 lrow ln lal hgos
  have HE := hideIt (show Ends (fieldsF false 3358 (Msg.zero 0) zs) (fun X us => X = ⟨3358, [], 0, 0, 0, [], l⟩ ∧ sl = .ok us) (fun c => sl = .error c) from by
    have hE := list_only (fun l => (⟨3358, [], 0, 0, 0, [], l⟩ : Msg)) HLR.out.2.2.2.1
    rw [ff_3358]
    exact hE)
  obtain ⟨L, hL, hleft⟩ := HR3.out.left
  have HLF := hideIt hleft
  obtain ⟨ec, hec, hec0, hecx⟩ := HR3.out.cells
  obtain ⟨_, m0, m1, _, _⟩ := two_at hec
  have HEC := hideIt (And.intro hec0 (And.intro hecx hL))
  clear hleft hec hec0 hecx hL
  obtain ⟨bb, hbb⟩ : ∃ bb, decide (0 < L) = bb := ⟨_, rfl⟩
  have HBD := hideIt (show ∀ W', After (w3.setCell ⟨w.heap.size + 1, 6, none⟩ (.slice la l.length lc)) W' → Calls Try.prog 60 #[Ptr gr, .bool bb, .int .i64 4] W' fun e W'' => e = .returned (.tuple #[]) ∧ RdC w W'' gr g h (badS bb 4 sl) #[.int .i64 3358, .slice none 0 0, .int .i64 0, .int .i64 0, .int .i64 0, .slice none 0 0, .slice la l.length lc] ∧ But (One gr) W' W'' from fun W' a' => (bad_r W' gr g h sl (HR3.out.after a').rs bb 4 (by decide)).mono fun e W'' ⟨he, r, b⟩ => ⟨he, (HR3.out.after a').bad b r, b⟩)
  go_wp2_with fail
  refine (HLF.out _ After.rfl).mono ?_
  clear HLF
  rintro e wl ⟨rfl, al⟩
  have HAL := hideIt al
  clear al
  go_wp2_with fail
  try rw [hbb]
  refine (HBD.out _ HAL.out).mono ?_
  rintro e wb ⟨rfl, rcb, tbw⟩
  obtain ⟨eb, heb, heb0, hebx⟩ := rcb.cells
  obtain ⟨_, t0, t1, _, _⟩ := two_at heb
  obtain ⟨_, ⟨y0, y1, y2, y3, y4, y5, y6⟩, _⟩ := seven_at rcb.b1
  obtain ⟨_, ⟨q0, q1, q2, q3, q4, q5, q6⟩, ⟨z0, z1, z2, z3, z4, z5, z6⟩⟩ := seven_at rcb.b0
  have hng : ¬ gr = w.heap.size := by have := rcb.ne; omega
  have hng' : ¬ w.heap.size = gr := by have := rcb.ne; omega
  have HRB := hideIt (And.intro rcb (And.intro heb0 hebx))
  have HBB := hideIt hbb
  have HTB := hideIt (HAL.out.but.trans tbw)
  clear tbw
  clear rcb heb heb0 hebx HBD HAL hbb m0 m1
  go_wp2_with fail
  go_region
  go_wp2_with fail
  obtain ⟨rcb, heb0, hebx⟩ := HRB.out
  have bw9 : But (One w.heap.size) wb (((((((wb.setCell ⟨w.heap.size, 0, none⟩ (.int .i64 3358)).setCell ⟨w.heap.size, 1, none⟩ (.slice none 0 0)).setCell ⟨w.heap.size, 2, none⟩ (.int .i64 0)).setCell ⟨w.heap.size, 3, none⟩ (.int .i64 0)).setCell ⟨w.heap.size, 4, none⟩ (.int .i64 0)).setCell ⟨w.heap.size, 5, none⟩ (.slice none 0 0)).setCell ⟨w.heap.size, 6, none⟩ (.slice la l.length lc)).drew := by
    refine But.trans ?_ (After.rfl.draws 1).but
    iterate 7 refine But.set (S := One w.heap.size) ?_ ⟨w.heap.size, _, none⟩ (fun _ => Eq.refl _) _
    exact But.rfl
  refine bodyPost_ret (v := .tuple #[.agg #[.int .i64 3358, .slice none 0 0, .int .i64 0, .int .i64 0, .int .i64 0, .slice none 0 0, .slice la l.length lc], .int .i64 eb]) (by simp [results, Try.results37, go_sem, q0, q1, q2, q3, q4, q5, q6]) rfl ?_
  exact outR_end (X := ⟨3358, [], 0, 0, 0, [], l⟩) (sa := none) (sc := 0) (oa := none) (oc := 0) (ba := la) (bc := lc) HE.out HEC.out.2.2 HBB.out rcb.rs heb0 hebx (rcb.aft.but.then bw9 (fun i hi t => by have t' : i = w.heap.size := t; omega)) (fun us hus => by
    have rcW := HLR.out.2.2.2.2
    have hne := rcb.ne
    have tt : But (fun k => k = w.heap.size ∨ k = w.heap.size + 1 ∨ k = gr) w3 _ := ((But.own1 w3 (w.heap.size + 1) 6 (.slice la l.length lc)).mono (fun i _ t => .inr (.inl t))).trans ((HTB.out.mono (fun i _ t => .inr (.inr t))).trans (bw9.mono (fun i _ t => .inl t)))
    have hbits : ∀ us, sl = .ok us → ∀ o ∈ l, 0 ≤ o.b ∧ o.b < 4294967296 := fun us hus => by
      have hg : Gos (lstB false [] zs) l sl := HLR.out.2.2.2.1
      rcases hg.split with ⟨c9, _, e2⟩ | ⟨x, us', e1, rfl, _⟩
      · rw [e2] at hus; cases hus
      · exact lstB_bits e1 HB.out
    exact ⟨Row.nil _ _, fun _ => ⟨rfl, rfl⟩, (fun y hy => by cases hy), (by show (0 : Nat) ≤ 140737488355328; omega), RowT.nil _ _, fun _ => ⟨rfl, rfl⟩, (fun y hy => by cases hy), HLR.out.1.but tt (fun y hy h0 t => by have := HLR.out.2.2.1 y hy; rcases t with t | t | t <;> omega), HLR.out.2.1, fun y hy _ => by have := HLR.out.2.2.1 y hy; omega, hbits us hus⟩)
end Go.Proofs.Ytigiakhdaaoljaa
