/-
  Laid together: LmA, LmB, LmC, LawAnswers, Frame.
-/
import Derived.Test.YthcfdoafncbliaaB17
import Derived.Test.YthcfdoafncbliaaB16
import Derived.Test.YthcfdoafncbliaaRows
import Derived.ProofKit
import Derived.OpenShut
import Derived.ChangeOld
import Derived.Below
import Derived.SizedLaws
/-
  Messages that the statements make; lists of messages; ask, one, scan of the statements.
-/
namespace Go.Proofs.Ythcfdoafncbliaa
open Go.RowKit Go.Maps
set_option maxRecDepth 8000
/-- A message that was made between two worlds. -/
def GotM (w w' : World) (v : Value) (M : Msg) : Prop := ∃ sa sc oa oc ba bc, v = M.val sa sc oa oc ba bc ∧ MsgX w' (fun k => w.heap.size ≤ k ∧ k < w'.heap.size) M sa sc oa oc ba bc
def askM (c : Int) : Msg := ⟨57856, [1, 2, 3, 4, 5, 6, 7, 8], c, 0, 0, [], []⟩
def oneM (c : Int) : Msg := ⟨3356, [], c, 0, 0, [⟨1, 4, false⟩], []⟩
theorem row_lit {w : World} {b : Nat} {zs : List Int} (h : w.heap[b]? = some (.cells (u8s zs).toArray 5 (0, 0))) (hb : Bs zs) : Row w (some ⟨b, 0, none⟩) zs.length zs :=
  ⟨rfl, hb, fun i hi => ⟨b, 0, rfl, (Array.getElem?_eq_some_iff.1 h).1, by
    rw [cell_blk h, Nat.zero_add]
    simp [u8s, hi]⟩⟩
theorem askL_any (w : World) (c : Int) : Calls Try.prog 14 #[.int .i64 c] w fun e w' => ∃ v, e = .returned v ∧ GotM w w' v (askM c) ∧ After w w' := by
  go_enter Try.func14, Try.ntmps14
  go_wp2
  have h2 := (new2 w (.cells #[.int .i64 57856, .slice (some ⟨w.heap.size + 1, 0, none⟩) 8 8, .int .i64 c, .int .i64 0, .int .i64 0, .slice none 0 0, .slice none 0 0] 36) (.cells (u8s [1, 2, 3, 4, 5, 6, 7, 8]).toArray 5)).2
  refine bodyPost_ret (v := .agg #[.int .i64 57856, .slice (some ⟨w.heap.size + 1, 0, none⟩) 8 8, .int .i64 c, .int .i64 0, .int .i64 0, .slice none 0 0, .slice none 0 0]) (by simp [results, Try.results14, go_sem]) rfl ⟨_, rfl, ⟨some ⟨w.heap.size + 1, 0, none⟩, 8, none, 0, none, 0, rfl, ?_⟩, (After.rfl.alloc _).alloc _⟩
  exact MsgX.ofSys 57856 c 0 0 (row_lit h2 (fun z hz => by simp at hz; omega)) (fun h => by cases h) (fun y hy _ => by cases hy; exact ⟨by show w.heap.size ≤ w.heap.size + 1; omega, by simp⟩) (by decide)
theorem oneL_any (w : World) (c : Int) : Calls Try.prog 15 #[.int .i64 c] w fun e w' => ∃ v, e = .returned v ∧ GotM w w' v (oneM c) ∧ After w w' := by
  go_enter Try.func15, Try.ntmps15
  go_wp2
  have h2 := (new2 w (.cells #[.int .i64 3356, .slice none 0 0, .int .i64 c, .int .i64 0, .int .i64 0, .slice (some ⟨w.heap.size + 1, 0, none⟩) 1 1, .slice none 0 0] 36) (.cells (cells3 ([⟨1, 4, false⟩].map Ob.t3)).toArray 40)).2
  refine bodyPost_ret (v := .agg #[.int .i64 3356, .slice none 0 0, .int .i64 c, .int .i64 0, .int .i64 0, .slice (some ⟨w.heap.size + 1, 0, none⟩) 1 1, .slice none 0 0]) (by simp [results, Try.results15, go_sem]) rfl ⟨_, rfl, ⟨none, 0, some ⟨w.heap.size + 1, 0, none⟩, 1, none, 0, rfl, ?_⟩, (After.rfl.alloc _).alloc _⟩
  exact MsgX.ofObjs 3356 c 0 0 (l := [⟨1, 4, false⟩]) (RowT.of h2) ⟨by show w.heap.size ≤ w.heap.size + 1; omega, by simp⟩
def scnM (l : List Bi) : Msg := ⟨3358, [], 0, 0, 0, [], l⟩
theorem eqS (a b c d : Int) (w : World) : (binOp .eql 44 (.agg #[.int .i64 a, .int .i64 b, .int .i64 c, .int .i64 d]) (.agg #[.int .i64 a, .int .i64 b, .int .i64 c, .int .i64 d])).run Try.prog w = .ok (.bool true) w := by
  simp [go_sem]
theorem neqS (a b c d : Int) (w : World) : (binOp .neq 44 (.agg #[.int .i64 a, .int .i64 b, .int .i64 c, .int .i64 d]) (.agg #[.int .i64 a, .int .i64 b, .int .i64 c, .int .i64 d])).run Try.prog w = .ok (.bool false) w := by
  simp [go_sem]
theorem neqR (b c d : Int) (w : World) : (binOp .neq 42 (.agg #[.int .i64 b, .int .i64 c, .int .i64 d]) (.agg #[.int .i64 b, .int .i64 c, .int .i64 d])).run Try.prog w = .ok (.bool false) w := by
  simp [go_sem]
def fiveO : Bi := ⟨1, false, 61806⟩
theorem h_ask5 : handle Mg.new (askM 5) = ⟨⟨1, 5, []⟩, some ⟨58112, 5, 3, 0⟩, [], 0⟩ := by kernel_rfl
theorem h_one5 : handle ⟨1, 5, []⟩ (oneM 5) = ⟨⟨2, 0, [⟨1, 4, false⟩]⟩, some ⟨3357, 5, 0, 0⟩, [], 0⟩ := by kernel_rfl
theorem h_scan5 : handle ⟨2, 0, [⟨1, 4, false⟩]⟩ (scnM [fiveO]) = ⟨⟨2, 0, [⟨1, 4, false⟩]⟩, none, [⟨1, 0, 366, -1⟩], 0⟩ := by kernel_rfl
end Go.Proofs.Ythcfdoafncbliaa
/-
  awake of the statements.
-/
namespace Go.Proofs.Ythcfdoafncbliaa
open Go.RowKit Go.Maps
set_option maxRecDepth 8000
def All : Nat → Prop := fun _ => True
theorem Steps.all {w w' : World} {P : Nat → Prop} {g : Nat} {e : Ending} {o : Out} (h : Steps w w' P g e o) : MgAt w' All g o.st := h.2.1.mono (fun _ _ => trivial)
theorem ans_at {w : World} {B : Nat} {v : Value} {a : An} (h : AnsAt w B v (some a)) : ∃ b, v = .slice (some ⟨b, 0, none⟩) 1 1 ∧ B ≤ b ∧ w.heap[b]? = some (.cells #[.int .i64 a.kind, .slice none 0 0, .int .i64 a.config, .int .i64 a.result, .int .i64 a.reason, .slice none 0 0, .slice none 0 0] 36 (0, 0)) := h
theorem sm_one {w : World} {B : Nat} {v : Value} {s : Sm} (h : SmAt w B v [s]) : ∃ b off c, v = .slice (some ⟨b, off, none⟩) 1 c ∧ B ≤ b ∧ b < w.heap.size ∧ w.cell? ⟨b, off, none⟩ = some (.int .i64 s.h) ∧ w.cell? ⟨b, off + 1, none⟩ = some (.int .i64 s.k) ∧ w.cell? ⟨b, off + 2, none⟩ = some (.int .i64 s.m) ∧ w.cell? ⟨b, off + 3, none⟩ = some (.int .i64 s.e) := by
  obtain ⟨a, c, rfl, hr, hn, hB⟩ := h
  obtain ⟨b, off, rfl, hb, c0, c1, c2, c3⟩ := hr 0 s rfl
  exact ⟨b, off, c, rfl, hB _ rfl, hb, by simpa using c0, by simpa using c1, by simpa using c2, by simpa using c3⟩
set_option maxHeartbeats 2000000 in
theorem awakeL_any (w : World) : Calls Try.prog 6 #[] w fun e w' => e = .returned (.bool true) ∧ After w w' := by
  obtain ⟨w1, hw1⟩ : ∃ w1, w.alloc (.cells newC 56) = w1 := ⟨_, rfl⟩
  have hN := mgNew_any w
  rw [hw1] at hN
  have a1 : After w w1 := by rw [← hw1]; exact After.rfl.alloc _
  have x1 : MgAt w1 All w.heap.size Mg.new := by rw [← hw1]; exact mg_new (new1 _ _) trivial
  have hg1 : w.heap.size < w1.heap.size := by rw [← hw1, World.size_alloc]; omega
  have HN := hideIt hN
  have HX := hideIt (And.intro a1 x1)
  have HA := hideIt (askL_any w1 5)
  clear hN a1 x1 hw1
  go_enter Try.func6, Try.ntmps6
  go_wp2_with (first | (go_at_call 7; refine HN.out.mono ?_; rintro e w' ⟨rfl, rfl⟩) | (go_at_call 14; refine HA.out.mono ?_; rintro e w2 ⟨v, rfl, hv, a2⟩; have HV := hideIt (And.intro hv a2); clear hv a2))
  obtain ⟨a1, x1⟩ := HX.out
  obtain ⟨⟨sa, sc, oa, oc, ba, bc, rfl, y⟩, a2⟩ := HV.out
  have H3 := hideIt (handle_any (x1.after a2) (askM 5) sa sc oa oc ba bc y (fun h => by omega) (fun k h => h.2))
  rw [h_ask5] at H3
  have HX2 := hideIt (a1.trans a2)
  have hs2 := a2.size
  clear HX HV HA HN a1 x1 a2 y
  refine H3.out.mono ?_
  rintro e w3 ⟨⟨v1, v2, rfl, hv1, hv2⟩, x3, b3⟩
  obtain ⟨b, rfl, hb, hc⟩ := ans_at hv1
  have hs3 := b3.size
  have H4 := hideIt (oneL_any w3 5)
  have HX3 := hideIt (And.intro x3 (And.intro b3 (And.intro hc hb)))
  clear H3 hv1 hv2 x3 b3 hc hb
  go_wp2_with (go_at_call 15; refine H4.out.mono ?_; rintro e w4 ⟨v, rfl, hv, a4⟩; have HV := hideIt (And.intro hv a4); clear hv a4)
  obtain ⟨x3, b3, hc, hb⟩ := HX3.out
  obtain ⟨⟨sa, sc, oa, oc, ba, bc, rfl, y⟩, a4⟩ := HV.out
  have x4 := (x3.mono (T := All) (fun _ _ => trivial)).after a4
  have H5 := hideIt (handle_any x4 (oneM 5) sa sc oa oc ba bc y (fun h => by omega) (fun k h => h.2))
  rw [h_one5] at H5
  have hs4 := a4.size
  have hbl : b < w3.heap.size := (Array.getElem?_eq_some_iff.1 hc).1
  have HX4 := hideIt (And.intro (((HX2.out.but (S := One w.heap.size)).trans b3).trans a4.but) (And.intro (keep3 hc a4) hb))
  clear HX3 HV H4 x3 b3 hc hb a4 y x4 HX2
  refine H5.out.mono ?_
  rintro e w5 ⟨⟨v1, v2', rfl, hv1, hv2⟩, x5, b5⟩
  obtain ⟨b', rfl, hb', hc'⟩ := ans_at hv1
  have hs5 := b5.size
  have HX5 := hideIt (And.intro x5 (And.intro b5 (And.intro hc' hb')))
  clear H5 hv1 hv2 x5 b5 hc' hb'
  obtain ⟨w6, hw6⟩ : ∃ w6, w5.alloc (.cells #[.int .i64 1, .bool false, .int .u32 61806] 49) = w6 := ⟨_, rfl⟩
  have a6 : After w5 w6 := by rw [← hw6]; exact After.rfl.alloc _
  have y6 : w6.heap[w5.heap.size]? = some (.cells (cells3 ([fiveO].map Bi.t3)).toArray 49 (0, 0)) := by rw [← hw6]; exact new1 _ _
  have hs6 : w5.heap.size < w6.heap.size := (Array.getElem?_eq_some_iff.1 y6).1
  obtain ⟨x5, b5, hc', hb'⟩ := HX5.out
  have hg5 : w.heap.size < w5.heap.size := by omega
  have H6 := hideIt (handle_any ((x5.mono (T := All) (fun _ _ => trivial)).after a6) (scnM [fiveO]) none 0 none 0 (some ⟨w5.heap.size, 0, none⟩) 1 (MsgX.ofObs (P := fun k => k = w5.heap.size) 3358 0 0 0 (l := [fiveO]) (RowT.of y6) rfl (by decide)) (fun h => by omega) (fun k h => by omega))
  rw [h_scan5] at H6
  have HX6 := hideIt (And.intro a6 y6)
  clear x5 b5 hc' hb' a6 y6
  unfold scnM Msg.val at H6
  dsimp only [List.length_nil, List.length_cons] at H6
  go_wp2_with fail
  refine H6.out.mono ?_
  rintro e w7 ⟨⟨v1, v2, rfl, hv1, hv2⟩, x7, b7⟩
  obtain ⟨s, so, sc', rfl, hsb, hsl, s0, s1, s2, s3⟩ := sm_one hv2
  obtain ⟨B4, hc4, hb4⟩ := HX4.out
  obtain ⟨x5, b5, hc5, hb5⟩ := HX5.out
  obtain ⟨a6, y6⟩ := HX6.out
  have hcc := ((b5.trans a6.but).trans b7).block b (by have := (Array.getElem?_eq_some_iff.1 hc4).1; omega) (fun e => by cases e; omega)
  obtain ⟨hbl7, ⟨k0, k1, k2, k3, k4, k5, k6⟩, _⟩ := seven_at (hcc.trans hc4)
  have hcc' := (a6.but.trans b7).block b' (by have := (Array.getElem?_eq_some_iff.1 hc5).1; omega) (fun e => by cases e; omega)
  obtain ⟨hbl8, ⟨l0, l1, l2, l3, l4, l5, l6⟩, _⟩ := seven_at (hcc'.trans hc5)
  have HS := hideIt (mgState_any x7)
  have he := eqS 1 0 366 (-1)
  have HZ := hideIt (show After w w7 from ⟨b7.os.trans (a6.os.trans (b5.os.trans B4.os)), b7.tape.trans (a6.tape.trans (b5.tape.trans B4.tape)), b7.output.trans (a6.output.trans (b5.output.trans B4.output)), by have := b7.size; have := B4.size; omega, fun k hk _ => (((B4.trans b5).trans a6.but).trans b7).block k hk (fun e => by cases e; omega)⟩)
  dsimp only at s0 s1 s2 s3 k0 k3 l0 HS
  clear hv1 hv2 x7 b7 B4 hc4 hb4 x5 b5 hc5 hb5 a6 y6 hcc hcc' HX6 HX5 HX4 H6 hw6
  go_wp2_with (go_at_call 8; refine HS.out.mono ?_; rintro e w' ⟨rfl, rfl⟩)
  go_ret
  exact ⟨rfl, HZ.out⟩
end Go.Proofs.Ythcfdoafncbliaa
/-
  Lists of messages that are handed in; AssocAnswers.
-/
namespace Go.Proofs.Ythcfdoafncbliaa
open Go.RowKit Go.Maps
set_option maxRecDepth 8000
/-- The messages l lie where a slice leads, all of them and their lists in blocks of which P holds. -/
def LstM (w : World) (P : Nat → Prop) (a : Option Addr) (l : List Msg) : Prop :=
  ∀ (i : Nat) (M : Msg), l[i]? = some M → ∃ b off sa sc oa oc ba bc, a = some ⟨b, off, none⟩ ∧ P b ∧ b < w.heap.size ∧ (w.cell? ⟨b, off + i * 7, none⟩ = some (.int .i64 M.kind) ∧ w.cell? ⟨b, off + i * 7 + 1, none⟩ = some (.slice sa M.sys.length sc) ∧ w.cell? ⟨b, off + i * 7 + 2, none⟩ = some (.int .i64 M.config) ∧ w.cell? ⟨b, off + i * 7 + 3, none⟩ = some (.int .i64 M.result) ∧ w.cell? ⟨b, off + i * 7 + 4, none⟩ = some (.int .i64 M.reason) ∧ w.cell? ⟨b, off + i * 7 + 5, none⟩ = some (.slice oa M.objs.length oc) ∧ w.cell? ⟨b, off + i * 7 + 6, none⟩ = some (.slice ba M.obs.length bc)) ∧ MsgX w P M sa sc oa oc ba bc ∧ M.objs.length * 24 ≤ 140737488355328 ∧ M.obs.length * 16 ≤ 140737488355328
theorem LstM.but {S P : Nat → Prop} {w w' : World} {a : Option Addr} {l : List Msg} (h : LstM w P a l) (b : But S w w') (hn : ∀ k, P k → ¬ S k) : LstM w' P a l := by
  intro i M hM
  obtain ⟨b', off, sa, sc, oa, oc, ba, bc, e, hp, hb, ⟨c0, c1, c2, c3, c4, c5, c6⟩, x, h1, h2⟩ := h i M hM
  have hn' := hn _ hp
  exact ⟨b', off, sa, sc, oa, oc, ba, bc, e, hp, Nat.lt_of_lt_of_le hb b.size, ⟨by rw [b.cell hb hn']; exact c0, by rw [b.cell hb hn']; exact c1, by rw [b.cell hb hn']; exact c2, by rw [b.cell hb hn']; exact c3, by rw [b.cell hb hn']; exact c4, by rw [b.cell hb hn']; exact c5, by rw [b.cell hb hn']; exact c6⟩, x.but b hn, h1, h2⟩
theorem LstM.mono {P T : Nat → Prop} {w : World} {a : Option Addr} {l : List Msg} (h : LstM w P a l) (hp : ∀ k, P k → T k) : LstM w T a l := by
  intro i M hM
  obtain ⟨b', off, sa, sc, oa, oc, ba, bc, e, hp', hb, hc, x, h1, h2⟩ := h i M hM
  exact ⟨b', off, sa, sc, oa, oc, ba, bc, e, hp _ hp', hb, hc, x.mono hp, h1, h2⟩
def Low (B : Nat) : Nat → Prop := fun k => k < B
theorem low_but {B g : Nat} (h : B ≤ g) : ∀ k, Low B k → ¬ One g k := fun k hk e => by cases e; exact absurd hk (by unfold Low; omega)
/-- An answer, as a message. -/
def An.msg (a : An) : Msg := ⟨a.kind, [], a.config, a.result, a.reason, [], []⟩
def okA : Option An → Prop
  | none => True
  | some a => okB a.msg = true
theorem wd0 : wd 0 = true := by decide
theorem wd1 : wd 1 = true := by decide
theorem wd3 : wd 3 = true := by decide
theorem ans_ok {a : An} (hk : a.kind = 58112 ∨ a.kind = 58624 ∨ a.kind = 58880 ∨ a.kind = 3357) (hc : wd a.config = true) (hr : wd a.result = true) (hq : wd a.reason = true) (h1 : a.kind ≠ 58112 → a.kind ≠ 3357 → a.config = 0 ∧ a.result = 0) (h2 : a.kind = 58112 ∨ a.kind = 3357 → a.reason = 0) : okB a.msg = true := by
  obtain ⟨k, c, r, q⟩ := a
  dsimp only at *
  refine may_ok (fun o ho => by cases ho) ?_ (Nat.zero_le _) (Nat.zero_le _) ⟨?_, hc, hr, hq, ?_, (fun i hi => absurd hi (by simp [An.msg])), (fun i hi => absurd hi (by simp [An.msg]))⟩
  · show alone k = true ∨ inData k = true
    rcases hk with rfl | rfl | rfl | rfl <;> decide
  · unfold An.msg keep eqM
    rcases hk with rfl | rfl | rfl | rfl
    · have := h2 (.inl rfl); subst this; simp
    · obtain ⟨rfl, rfl⟩ := h1 (by decide) (by decide); simp
    · obtain ⟨rfl, rfl⟩ := h1 (by decide) (by decide); simp
    · have := h2 (.inr rfl); subst this; simp
  · unfold An.msg
    rcases hk with rfl | rfl | rfl | rfl <;> simp
theorem handle_ans {st : Mg} {M : Msg} (hbb : ∀ o ∈ M.obs, 0 ≤ o.b ∧ o.b < 4294967296) : okA (handle st M).an := by
  unfold handle
  split
  · rename_i hok
    obtain ⟨u, zs, hp⟩ : ∃ u zs, packAll M = .ok (u, zs) := by
      unfold okB at hok
      split at hok
      · rename_i x hx; exact ⟨x.1, x.2, hx⟩
      · cases hok
    obtain ⟨_, _, _, hm⟩ := ok_may hbb hp
    unfold handF
    split
    · trivial
    · split
      · unfold askF
        split
        · exact ans_ok (.inl rfl) wd0 wd1 wd0 (fun h => absurd rfl h) (fun _ => rfl)
        · exact ans_ok (.inl rfl) hm.2.1 wd3 wd0 (fun h => absurd rfl h) (fun _ => rfl)
      · split
        · unfold cfgF
          split
          · exact ans_ok (.inr (.inr (.inr rfl))) hm.2.1 wd0 wd0 (fun _ h => absurd rfl h) (fun _ => rfl)
          · exact ans_ok (.inr (.inr (.inr rfl))) hm.2.1 wd1 wd0 (fun _ h => absurd rfl h) (fun _ => rfl)
        · split
          · unfold scanF
            split
            · trivial
            · trivial
          · split
            · exact ans_ok (.inr (.inl rfl)) wd0 wd0 hm.2.2.2.1 (fun _ _ => ⟨rfl, rfl⟩) (fun h => by rcases h with h | h <;> cases h)
            · exact ans_ok (.inr (.inr (.inl rfl))) wd0 wd0 wd0 (fun _ _ => ⟨rfl, rfl⟩) (fun h => by rcases h with h | h <;> cases h)
  · trivial
theorem ok_inv {M : Msg} (hbb : ∀ o ∈ M.obs, 0 ≤ o.b ∧ o.b < 4294967296) (h : okB M = true) : (alone M.kind = true ∨ inData M.kind = true) ∧ M.objs.length ≤ 16 ∧ M.obs.length ≤ 64 ∧ MayM M := by
  unfold okB at h
  split at h
  · rename_i x hx; exact ok_may (u := x.1) (zs := x.2) hbb hx
  · cases h
theorem handle_sm {st : Mg} {M : Msg} (hbb : ∀ o ∈ M.obs, 0 ≤ o.b ∧ o.b < 4294967296) : (handle st M).sm.length ≤ 64 := by
  unfold handle
  split
  · rename_i hok
    obtain ⟨_, _, h64, _⟩ := ok_inv hbb hok
    unfold handF
    repeat' split
    · simp [abtF]
    · unfold askF; split <;> simp
    · unfold cfgF; split <;> simp
    · unfold scanF
      split
      · rw [List.length_map]; exact h64
      · simp
    · simp [relF]
    · simp [brk]
  · simp
/-- An answer, none or one, in one form. -/
theorem ans_gen {w : World} {B : Nat} {v : Value} {an : Option An} (h : AnsAt w B v an) : ∃ av cv, v = .slice av an.toList.length cv ∧ ∀ a, an = some a → ∃ b, av = some ⟨b, 0, none⟩ ∧ B ≤ b ∧ w.heap[b]? = some (.cells #[.int .i64 a.kind, .slice none 0 0, .int .i64 a.config, .int .i64 a.result, .int .i64 a.reason, .slice none 0 0, .slice none 0 0] 36 (0, 0)) := by
  cases an with
  | none => exact ⟨none, 0, h, fun a h => by cases h⟩
  | some a =>
    obtain ⟨b, e, hb, hc⟩ := ans_at h
    exact ⟨_, _, e, fun a' h => by cases h; exact ⟨b, rfl, hb, hc⟩⟩
theorem an_le (an : Option An) : an.toList.length ≤ 1 := by cases an <;> simp
theorem an_some {an : Option An} (h : 0 < an.toList.length) : ∃ a, an = some a := by
  cases an with
  | none => simp at h
  | some a => exact ⟨a, rfl⟩
theorem ok_pack {M : Msg} (h : okB M = true) : ∃ zs, packAll M = .ok ((), zs) := by
  unfold okB at h
  split at h
  · rename_i x hx; exact ⟨x.2, hx⟩
  · cases h
end Go.Proofs.Ythcfdoafncbliaa
/-
  AssocAnswers.
-/
namespace Go.Proofs.Ythcfdoafncbliaa
open Go.RowKit Go.Maps
set_option maxRecDepth 8000
set_option maxHeartbeats 2000000 in
theorem law_answers (w : World) (a : Option Addr) (n c : Nat) (l : List Msg) (hl : l.length = n) (hr : LstM w (Low w.heap.size) a l) :
    Calls Try.prog 5 #[.slice a n c] w fun e w' => e = .returned (.bool true) ∧ After w w' := by
  have HA := hideIt (awakeL_any w)
  have HR := hideIt (And.intro hr hl)
  clear hr hl
  go_enter Try.func5, Try.ntmps5
  go_wp2_with fail
  refine HA.out.mono ?_
  rintro e w0 ⟨rfl, a0⟩
  obtain ⟨w1, hw1⟩ : ∃ w1, w0.alloc (.cells newC 56) = w1 := ⟨_, rfl⟩
  have hN := mgNew_any w0
  rw [hw1] at hN
  have a1 : After w0 w1 := by rw [← hw1]; exact After.rfl.alloc _
  have x1 : MgAt w1 All w0.heap.size Mg.new := by rw [← hw1]; exact mg_new (new1 _ _) trivial
  have HN := hideIt hN
  have hs0 := a0.size
  have HX := hideIt (And.intro (a0.trans a1) x1)
  clear hN a1 x1 hw1 a0 HA
  go_wp2_with (go_at_call 7; refine HN.out.mono ?_; rintro e w' ⟨rfl, rfl⟩)
  clear HN
  generalize hg : w0.heap.size = g at *
  clear hg
  go_loopw [4] (fun i W => ∃ (k : Nat) (st : Mg), k ≤ n ∧ k ≤ 100 ∧ i = .int .i64 k ∧ MgAt W All g st ∧ After w W) (fun i _ => 100 - (intOf i).toNat)
  case atStart => exact ⟨0, Mg.new, Nat.zero_le _, by omega, rfl, HX.out.2, HX.out.1⟩
  case round =>
    obtain ⟨k, st, hkn, hk100, rfl, x, aw⟩ := hrel
    by_cases hkn' : k < n
    · by_cases hk' : k < 100
      · have i1 : (k : Int) < (n : Int) := by omega
        have i2 : (k : Int) < 100 := by omega
        obtain ⟨hr, hl⟩ := HR.out
        have hM : l[k]? = some l[k] := List.getElem?_eq_getElem (by omega)
        generalize l[k] = M at hM
        obtain ⟨b, off, sa, sc, oa, oc, ba, bc, rfl, hp, hb, ⟨c0, c1, c2, c3, c4, c5, c6⟩, y, _, _⟩ := (hr.but aw (fun _ _ t => t)) k M hM
        have H1 := hideIt (handle_any x M sa sc oa oc ba bc y (fun h => by unfold Low at h; omega) (fun k h => Nat.lt_of_lt_of_le h aw.size))
        have hok := handle_ans (st := st) y.bb
        have HY := hideIt aw
        rw [show M.val sa sc oa oc ba bc = .agg #[.int .i64 M.kind, .slice sa M.sys.length sc, .int .i64 M.config, .int .i64 M.result, .int .i64 M.reason, .slice oa M.objs.length oc, .slice ba M.obs.length bc] from rfl] at H1
        generalize handle st M = O at *
        clear x aw hr hl hM y hp
        generalize M.kind = mk at *
        generalize M.sys.length = n1 at *
        generalize M.config = mc at *
        generalize M.result = mr at *
        generalize M.reason = mq at *
        generalize M.objs.length = n2 at *
        generalize M.obs.length = n3 at *
        obtain ⟨st', an, sm, er⟩ := O
        dsimp only at hok
        go_wp2_with fail
        refine H1.out.mono ?_
        rintro e w2 ⟨⟨v1, v2, rfl, hv1, hv2⟩, x2, b2⟩
        have HX2 := hideIt (And.intro (x2.mono (T := All) (fun _ _ => trivial)) (show After w w2 from HY.out.but.then b2 (fun i hi e => by cases e; omega)))
        clear HY x2 b2 hv2 H1 c0 c1 c2 c3 c4 c5 c6
        cases an with
        | none =>
          obtain rfl : v1 = .slice none 0 0 := hv1
          go_wp2_with fail
          go_loopw [8] (fun i W => i = .int .i64 0 ∧ W = w2) (fun _ _ => 0)
          case atStart => exact ⟨rfl, rfl⟩
          case round =>
            obtain ⟨rfl, rfl⟩ := hrel
            go_wp2_with fail
            go_roundw
            case rel => exact ⟨k + 1, st', by omega, by omega, by go_num, HX2.out.1, HX2.out.2⟩
            case measure => simp [intOf]; omega
        | some an =>
          obtain ⟨b', rfl, hb', hc'⟩ := ans_at hv1
          obtain ⟨zs, hzs⟩ := ok_pack hok
          obtain ⟨ak, ac, ar, aq⟩ := an
          dsimp only at hc'
          clear hv1 hok
          go_wp2_with fail
          go_loopw [8] (fun i W => ∃ j : Nat, j ≤ 1 ∧ i = .int .i64 j ∧ After w2 W) (fun i _ => 1 - (intOf i).toNat)
          case atStart => exact ⟨0, by omega, rfl, After.rfl⟩
          case round =>
            obtain ⟨j, hj, rfl, a3⟩ := hrel
            by_cases hj0 : j = 0
            · subst hj0
              obtain ⟨hbl, ⟨d0, d1, d2, d3, d4, d5, d6⟩, _⟩ := seven_at (keep3 hc' a3)
              have H2 := hideIt (pack_any wr Non (An.msg ⟨ak, ac, ar, aq⟩) none 0 none 0 none 0 (MsgX.nils _ _ _ _ _ _) (fun k h => h.elim))
              rw [hzs] at H2
              rw [show Msg.val (An.msg ⟨ak, ac, ar, aq⟩) none 0 none 0 none 0 = .agg #[.int .i64 ak, .slice none 0 0, .int .i64 ac, .int .i64 ar, .int .i64 aq, .slice none 0 0, .slice none 0 0] from rfl] at H2
              have HA3 := hideIt a3
              clear hzs hc' a3
              go_wp2_with fail
              refine H2.out.mono ?_
              rintro e w4 ⟨a4, h4⟩
              obtain ⟨_, _, pa, pc, rfl, _⟩ := h4
              have HA4 := hideIt (HA3.out.trans a4)
              clear a4 H2 d0 d1 d2 d3 d4 d5 d6 HA3
              generalize zs.length = nz at *
              go_wp2_with fail
              go_roundw
              case rel => exact ⟨1, by omega, by go_num, HA4.out⟩
              case measure => simp [intOf]
            · obtain rfl : j = 1 := by omega
              have HA3 := hideIt a3
              clear hzs hc' a3 hj0
              go_wp2_with fail
              go_roundw
              case rel => exact ⟨k + 1, st', by omega, by omega, by go_num, HX2.out.1.after HA3.out, HX2.out.2.trans HA3.out⟩
              case measure => simp [intOf]; omega
      · have i1 : (k : Int) < (n : Int) := by omega
        have i2 : ¬ (k : Int) < 100 := by omega
        have HY := hideIt aw
        clear x aw
        go_wp2_with fail
        go_ret
        exact ⟨rfl, HY.out⟩
    · have i1 : ¬ (k : Int) < (n : Int) := by omega
      have HY := hideIt aw
      clear x aw
      go_wp2_with fail
      go_ret
      exact ⟨rfl, HY.out⟩
end Go.Proofs.Ythcfdoafncbliaa
/-
  What every row of this seat shares: bytes that are handed in, opened.
-/
namespace Go.Proofs.Ythcfdoafncbliaa
open Go.ChangeShapes Go.WideShapes Go.ChangeAt Go.RowKit
set_option maxRecDepth 100000
theorem own : ownKnob Try.prog.godebug = none := by kernel_rfl
theorem laidOut : laidOutB Try.prog = true := by kernel_rfl
theorem c5 : Try.prog.cellsOf 5 = 1 := by kernel_rfl
theorem b5 : Try.prog.bytesOf 5 = 1 := by kernel_rfl
theorem c3 : Try.prog.cellsOf 3 = 1 := by kernel_rfl
theorem b3 : Try.prog.bytesOf 3 = 8 := by kernel_rfl
section
variable {H : Type} {enc : TypeId × Value → H} {W : World} {base : Nat} {held : Bool}
/-- How long what is handed in is, by what it reads as. -/
def Shape (d : DataW H) (len : Nat) : Prop := len = 0 ∨ ∃ es sp, d = .slice es sp ∧ es.length = len
theorem open_bytes {r : Reach} {b0 : Nat} {v : Value} {d : DataW H} {p : List MemPlace} (hv : Value.okWide Try.prog W r b0 33 v) (h : DataW.Trod enc Try.prog W base (fun _ => true) held 33 v d p) :
    ∃ a len cap zs, v = .slice a len cap ∧ Row W a len zs ∧ (a = none → len = 0 ∧ cap = 0) ∧ Shape d len ∧ len ≤ cap := by
  obtain ⟨a, len, cap, rfl⟩ := okWide_slice Try.underlying33 hv
  obtain ⟨fuel, hf⟩ := h
  rcases open_ints Try.underlying33 Try.underlying5 c5 hf with ⟨hcs, _⟩ | ⟨x, l, c, zs, hcs, _, hl, hm, hz, hx, hcell, hwz⟩
  · simp [Value.cells] at hcs
    obtain ⟨rfl, rfl, rfl⟩ := hcs
    exact ⟨none, 0, 0, [], rfl, ⟨rfl, fun z hz => by simp at hz, fun i hi => absurd hi (by omega)⟩, fun _ => ⟨rfl, rfl⟩, .inl rfl, Nat.le_refl _⟩
  · simp [Value.cells] at hcs
    obtain ⟨rfl, rfl, rfl⟩ := hcs
    have hz' : zs.length = cap := by simpa using hz
    refine ⟨some x, len, cap, zs.take len, rfl, ⟨by rw [List.length_take]; omega, fun z hz => ?_, fun i hi => ?_⟩, (fun h => by cases h), .inr ⟨_, _, congrArg Prod.fst hx, by simp [lits]; omega⟩, hl⟩
    · have hb := bounds_u8 (hwz z (List.mem_of_mem_take hz))
      omega
    · have hc := hcell i (by omega)
      have hd := hcell 0 (by omega)
      obtain ⟨b, off, spot⟩ := x
      have hspot : spot = none := by simpa [Addr.add] using World.cell?_spot hd
      subst hspot
      have e : (⟨b, off, none⟩ : Addr).add i = ⟨b, off + i, none⟩ := by
        by_cases h0 : i = 0
        · subst h0; simp [Addr.add]
        · simp [Addr.add, h0]
      have hc0 : W.cell? ⟨b, off + i, none⟩ = some (.int .u8 (zs.getD i 0)) := by rw [← e]; exact hc
      have hlt : b < W.heap.size := by
        rcases Nat.lt_or_ge b W.heap.size with h' | h'
        · exact h'
        · unfold World.cell? at hc0
          simp [Array.getElem?_eq_none h'] at hc0
      refine ⟨b, off, rfl, hlt, ?_⟩
      rw [hc0]
      have e : (zs.take len).getD i 0 = zs.getD i 0 := by
        simp [hi]
      rw [e]
theorem sized {ts : List TypeId} {ds : List (DataW H)} {d : DataW H} {len : Nat} (h : (DataW.weightsEach Try.prog ts ds).all (· ≤ reachBytes) = true) (j : Nat) (ht : ts[j]? = some 33) (hd : ds[j]? = some d) (hs : Shape d len) : len ≤ 140737488351232 := by
  rcases hs with rfl | ⟨es, sp, rfl, rfl⟩
  · omega
  · have := sized_slice h ht hd Try.underlying33
    rw [b5] at this
    simp only [reachBytes] at this
    omega
end
end Go.Proofs.Ythcfdoafncbliaa
