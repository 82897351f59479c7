/-
  Laid together: LmB, LmC, PlA, OrdA.
-/
import Derived.Test.YthcfdoafncbliaaGreatB22
import Derived.Test.YthcfdoafncbliaaGreatB18
import Derived.BigQuiet
/-
  awake of the statements.
-/
namespace Go.Proofs.YthcfdoafncbliaaGreat
open Go.RowKit Go.Maps
set_option maxRecDepth 8000
def All : Nat → Prop := fun _ => True
theorem Steps.all {w w' : World} {P : Nat → Prop} {g : Nat} {e : Ending} {o : Out} (h : Steps w w' P g e o) : MgAt w' All g o.st := h.2.1.mono (fun _ _ => trivial)
theorem ans_at {w : World} {B : Nat} {v : Value} {a : An} (h : AnsAt w B v (some a)) : ∃ b, v = .slice (some ⟨b, 0, none⟩) 1 1 ∧ B ≤ b ∧ w.heap[b]? = some (.cells #[.int .i64 a.kind, .slice none 0 0, .int .i64 a.config, .int .i64 a.result, .int .i64 a.reason, .slice none 0 0, .slice none 0 0] 31 (0, 0)) := h
theorem sm_one {w : World} {B : Nat} {v : Value} {s : Sm} (h : SmAt w B v [s]) : ∃ b off c, v = .slice (some ⟨b, off, none⟩) 1 c ∧ B ≤ b ∧ b < w.heap.size ∧ w.cell? ⟨b, off, none⟩ = some (.int .i64 s.h) ∧ w.cell? ⟨b, off + 1, none⟩ = some (.int .i64 s.k) ∧ w.cell? ⟨b, off + 2, none⟩ = some (.int .i64 s.m) ∧ w.cell? ⟨b, off + 3, none⟩ = some (.int .i64 s.e) := by
  obtain ⟨a, c, rfl, hr, hn, hB⟩ := h
  obtain ⟨b, off, rfl, hb, c0, c1, c2, c3⟩ := hr 0 s rfl
  exact ⟨b, off, c, rfl, hB _ rfl, hb, by simpa using c0, by simpa using c1, by simpa using c2, by simpa using c3⟩
set_option maxHeartbeats 2000000 in
theorem awakeL_any (w : World) : Calls Tryz.prog 16 #[] w fun e w' => e = .returned (.bool true) ∧ After w w' := by
  obtain ⟨w1, hw1⟩ : ∃ w1, w.alloc (.cells newC 51) = w1 := ⟨_, rfl⟩
  have hN := mgNew_any w
  rw [hw1] at hN
  have a1 : After w w1 := by rw [← hw1]; exact After.rfl.alloc _
  have x1 : MgAt w1 All w.heap.size Mg.new := by rw [← hw1]; exact mg_new (new1 _ _) trivial
  have hg1 : w.heap.size < w1.heap.size := by rw [← hw1, World.size_alloc]; omega
  have HN := hideIt hN
  have HX := hideIt (And.intro a1 x1)
  have HA := hideIt (askL_any w1 5)
  clear hN a1 x1 hw1
  go_enter Tryz.func16, Tryz.ntmps16
  go_wp2_with (first | (go_at_call 5; refine HN.out.mono ?_; rintro e w' ⟨rfl, rfl⟩) | (go_at_call 17; refine HA.out.mono ?_; rintro e w2 ⟨v, rfl, hv, a2⟩; have HV := hideIt (And.intro hv a2); clear hv a2))
  obtain ⟨a1, x1⟩ := HX.out
  obtain ⟨⟨sa, sc, oa, oc, ba, bc, rfl, y⟩, a2⟩ := HV.out
  have H3 := hideIt (handle_any (x1.after a2) (askM 5) sa sc oa oc ba bc y (fun h => by omega) (fun k h => h.2))
  rw [h_ask5] at H3
  have HX2 := hideIt (a1.trans a2)
  have hs2 := a2.size
  clear HX HV HA HN a1 x1 a2 y
  refine H3.out.mono ?_
  rintro e w3 ⟨⟨v1, v2, rfl, hv1, hv2⟩, x3, b3⟩
  obtain ⟨b, rfl, hb, hc⟩ := ans_at hv1
  have hs3 := b3.size
  have H4 := hideIt (oneL_any w3 5)
  have HX3 := hideIt (And.intro x3 (And.intro b3 (And.intro hc hb)))
  clear H3 hv1 hv2 x3 b3 hc hb
  go_wp2_with (go_at_call 18; refine H4.out.mono ?_; rintro e w4 ⟨v, rfl, hv, a4⟩; have HV := hideIt (And.intro hv a4); clear hv a4)
  obtain ⟨x3, b3, hc, hb⟩ := HX3.out
  obtain ⟨⟨sa, sc, oa, oc, ba, bc, rfl, y⟩, a4⟩ := HV.out
  have x4 := (x3.mono (T := All) (fun _ _ => trivial)).after a4
  have H5 := hideIt (handle_any x4 (oneM 5) sa sc oa oc ba bc y (fun h => by omega) (fun k h => h.2))
  rw [h_one5] at H5
  have hs4 := a4.size
  have hbl : b < w3.heap.size := (Array.getElem?_eq_some_iff.1 hc).1
  have HX4 := hideIt (And.intro (((HX2.out.but (S := One w.heap.size)).trans b3).trans a4.but) (And.intro (keep3 hc a4) hb))
  clear HX3 HV H4 x3 b3 hc hb a4 y x4 HX2
  refine H5.out.mono ?_
  rintro e w5 ⟨⟨v1, v2', rfl, hv1, hv2⟩, x5, b5⟩
  obtain ⟨b', rfl, hb', hc'⟩ := ans_at hv1
  have hs5 := b5.size
  have HX5 := hideIt (And.intro x5 (And.intro b5 (And.intro hc' hb')))
  clear H5 hv1 hv2 x5 b5 hc' hb'
  obtain ⟨w6, hw6⟩ : ∃ w6, w5.alloc (.cells #[.int .i64 1, .bool false, .int .u32 61806] 54) = w6 := ⟨_, rfl⟩
  have a6 : After w5 w6 := by rw [← hw6]; exact After.rfl.alloc _
  have y6 : w6.heap[w5.heap.size]? = some (.cells (cells3 ([fiveO].map Bi.t3)).toArray 54 (0, 0)) := by rw [← hw6]; exact new1 _ _
  have hs6 : w5.heap.size < w6.heap.size := (Array.getElem?_eq_some_iff.1 y6).1
  obtain ⟨x5, b5, hc', hb'⟩ := HX5.out
  have hg5 : w.heap.size < w5.heap.size := by omega
  have H6 := hideIt (handle_any ((x5.mono (T := All) (fun _ _ => trivial)).after a6) (scnM [fiveO]) none 0 none 0 (some ⟨w5.heap.size, 0, none⟩) 1 (MsgX.ofObs (P := fun k => k = w5.heap.size) 3358 0 0 0 (l := [fiveO]) (RowT.of y6) rfl (by decide)) (fun h => by omega) (fun k h => by omega))
  rw [h_scan5] at H6
  have HX6 := hideIt (And.intro a6 y6)
  clear x5 b5 hc' hb' a6 y6
  unfold scnM Msg.val at H6
  dsimp only [List.length_nil, List.length_cons] at H6
  go_wp2_with fail
  refine H6.out.mono ?_
  rintro e w7 ⟨⟨v1, v2, rfl, hv1, hv2⟩, x7, b7⟩
  obtain ⟨s, so, sc', rfl, hsb, hsl, s0, s1, s2, s3⟩ := sm_one hv2
  obtain ⟨B4, hc4, hb4⟩ := HX4.out
  obtain ⟨x5, b5, hc5, hb5⟩ := HX5.out
  obtain ⟨a6, y6⟩ := HX6.out
  have hcc := ((b5.trans a6.but).trans b7).block b (by have := (Array.getElem?_eq_some_iff.1 hc4).1; omega) (fun e => by cases e; omega)
  obtain ⟨hbl7, ⟨k0, k1, k2, k3, k4, k5, k6⟩, _⟩ := seven_at (hcc.trans hc4)
  have hcc' := (a6.but.trans b7).block b' (by have := (Array.getElem?_eq_some_iff.1 hc5).1; omega) (fun e => by cases e; omega)
  obtain ⟨hbl8, ⟨l0, l1, l2, l3, l4, l5, l6⟩, _⟩ := seven_at (hcc'.trans hc5)
  have HS := hideIt (mgState_any x7)
  have he := eqS 1 0 366 (-1)
  have HZ := hideIt (show After w w7 from ⟨b7.os.trans (a6.os.trans (b5.os.trans B4.os)), b7.tape.trans (a6.tape.trans (b5.tape.trans B4.tape)), b7.output.trans (a6.output.trans (b5.output.trans B4.output)), by have := b7.size; have := B4.size; omega, fun k hk _ => (((B4.trans b5).trans a6.but).trans b7).block k hk (fun e => by cases e; omega)⟩)
  dsimp only at s0 s1 s2 s3 k0 k3 l0 HS
  clear hv1 hv2 x7 b7 B4 hc4 hb4 x5 b5 hc5 hb5 a6 y6 hcc hcc' HX6 HX5 HX4 H6 hw6
  go_wp2_with (go_at_call 12; refine HS.out.mono ?_; rintro e w' ⟨rfl, rfl⟩)
  go_ret
  exact ⟨rfl, HZ.out⟩
end Go.Proofs.YthcfdoafncbliaaGreat
/-
  Lists of messages that are handed in; AssocAnswers.
-/
namespace Go.Proofs.YthcfdoafncbliaaGreat
open Go.RowKit Go.Maps
set_option maxRecDepth 8000
/-- The messages l lie where a slice leads, all of them and their lists in blocks of which P holds. -/
def LstM (w : World) (P : Nat → Prop) (a : Option Addr) (l : List Msg) : Prop :=
  ∀ (i : Nat) (M : Msg), l[i]? = some M → ∃ b off sa sc oa oc ba bc, a = some ⟨b, off, none⟩ ∧ P b ∧ b < w.heap.size ∧ (w.cell? ⟨b, off + i * 7, none⟩ = some (.int .i64 M.kind) ∧ w.cell? ⟨b, off + i * 7 + 1, none⟩ = some (.slice sa M.sys.length sc) ∧ w.cell? ⟨b, off + i * 7 + 2, none⟩ = some (.int .i64 M.config) ∧ w.cell? ⟨b, off + i * 7 + 3, none⟩ = some (.int .i64 M.result) ∧ w.cell? ⟨b, off + i * 7 + 4, none⟩ = some (.int .i64 M.reason) ∧ w.cell? ⟨b, off + i * 7 + 5, none⟩ = some (.slice oa M.objs.length oc) ∧ w.cell? ⟨b, off + i * 7 + 6, none⟩ = some (.slice ba M.obs.length bc)) ∧ MsgX w P M sa sc oa oc ba bc ∧ M.objs.length * 24 ≤ 140737488355328 ∧ M.obs.length * 16 ≤ 140737488355328
theorem LstM.but {S P : Nat → Prop} {w w' : World} {a : Option Addr} {l : List Msg} (h : LstM w P a l) (b : But S w w') (hn : ∀ k, P k → ¬ S k) : LstM w' P a l := by
  intro i M hM
  obtain ⟨b', off, sa, sc, oa, oc, ba, bc, e, hp, hb, ⟨c0, c1, c2, c3, c4, c5, c6⟩, x, h1, h2⟩ := h i M hM
  have hn' := hn _ hp
  exact ⟨b', off, sa, sc, oa, oc, ba, bc, e, hp, Nat.lt_of_lt_of_le hb b.size, ⟨by rw [b.cell hb hn']; exact c0, by rw [b.cell hb hn']; exact c1, by rw [b.cell hb hn']; exact c2, by rw [b.cell hb hn']; exact c3, by rw [b.cell hb hn']; exact c4, by rw [b.cell hb hn']; exact c5, by rw [b.cell hb hn']; exact c6⟩, x.but b hn, h1, h2⟩
theorem LstM.mono {P T : Nat → Prop} {w : World} {a : Option Addr} {l : List Msg} (h : LstM w P a l) (hp : ∀ k, P k → T k) : LstM w T a l := by
  intro i M hM
  obtain ⟨b', off, sa, sc, oa, oc, ba, bc, e, hp', hb, hc, x, h1, h2⟩ := h i M hM
  exact ⟨b', off, sa, sc, oa, oc, ba, bc, e, hp _ hp', hb, hc, x.mono hp, h1, h2⟩
def Low (B : Nat) : Nat → Prop := fun k => k < B
theorem low_but {B g : Nat} (h : B ≤ g) : ∀ k, Low B k → ¬ One g k := fun k hk e => by cases e; exact absurd hk (by unfold Low; omega)
/-- An answer, as a message. -/
def An.msg (a : An) : Msg := ⟨a.kind, [], a.config, a.result, a.reason, [], []⟩
def okA : Option An → Prop
  | none => True
  | some a => okB a.msg = true
theorem wd0 : wd 0 = true := by decide
theorem wd1 : wd 1 = true := by decide
theorem wd3 : wd 3 = true := by decide
theorem ans_ok {a : An} (hk : a.kind = 58112 ∨ a.kind = 58624 ∨ a.kind = 58880 ∨ a.kind = 3357) (hc : wd a.config = true) (hr : wd a.result = true) (hq : wd a.reason = true) (h1 : a.kind ≠ 58112 → a.kind ≠ 3357 → a.config = 0 ∧ a.result = 0) (h2 : a.kind = 58112 ∨ a.kind = 3357 → a.reason = 0) : okB a.msg = true := by
  obtain ⟨k, c, r, q⟩ := a
  dsimp only at *
  refine may_ok (fun o ho => by cases ho) ?_ (Nat.zero_le _) (Nat.zero_le _) ⟨?_, hc, hr, hq, ?_, (fun i hi => absurd hi (by simp [An.msg])), (fun i hi => absurd hi (by simp [An.msg]))⟩
  · show alone k = true ∨ inData k = true
    rcases hk with rfl | rfl | rfl | rfl <;> decide
  · unfold An.msg keep eqM
    rcases hk with rfl | rfl | rfl | rfl
    · have := h2 (.inl rfl); subst this; simp
    · obtain ⟨rfl, rfl⟩ := h1 (by decide) (by decide); simp
    · obtain ⟨rfl, rfl⟩ := h1 (by decide) (by decide); simp
    · have := h2 (.inr rfl); subst this; simp
  · unfold An.msg
    rcases hk with rfl | rfl | rfl | rfl <;> simp
theorem handle_ans {st : Mg} {M : Msg} (hbb : ∀ o ∈ M.obs, 0 ≤ o.b ∧ o.b < 4294967296) : okA (handle st M).an := by
  unfold handle
  split
  · rename_i hok
    obtain ⟨u, zs, hp⟩ : ∃ u zs, packAll M = .ok (u, zs) := by
      unfold okB at hok
      split at hok
      · rename_i x hx; exact ⟨x.1, x.2, hx⟩
      · cases hok
    obtain ⟨_, _, _, hm⟩ := ok_may hbb hp
    unfold handF
    split
    · trivial
    · split
      · unfold askF
        split
        · exact ans_ok (.inl rfl) wd0 wd1 wd0 (fun h => absurd rfl h) (fun _ => rfl)
        · exact ans_ok (.inl rfl) hm.2.1 wd3 wd0 (fun h => absurd rfl h) (fun _ => rfl)
      · split
        · unfold cfgF
          split
          · exact ans_ok (.inr (.inr (.inr rfl))) hm.2.1 wd0 wd0 (fun _ h => absurd rfl h) (fun _ => rfl)
          · exact ans_ok (.inr (.inr (.inr rfl))) hm.2.1 wd1 wd0 (fun _ h => absurd rfl h) (fun _ => rfl)
        · split
          · unfold scanF
            split
            · trivial
            · trivial
          · split
            · exact ans_ok (.inr (.inl rfl)) wd0 wd0 hm.2.2.2.1 (fun _ _ => ⟨rfl, rfl⟩) (fun h => by rcases h with h | h <;> cases h)
            · exact ans_ok (.inr (.inr (.inl rfl))) wd0 wd0 wd0 (fun _ _ => ⟨rfl, rfl⟩) (fun h => by rcases h with h | h <;> cases h)
  · trivial
theorem ok_inv {M : Msg} (hbb : ∀ o ∈ M.obs, 0 ≤ o.b ∧ o.b < 4294967296) (h : okB M = true) : (alone M.kind = true ∨ inData M.kind = true) ∧ M.objs.length ≤ 16 ∧ M.obs.length ≤ 64 ∧ MayM M := by
  unfold okB at h
  split at h
  · rename_i x hx; exact ok_may (u := x.1) (zs := x.2) hbb hx
  · cases h
theorem handle_sm {st : Mg} {M : Msg} (hbb : ∀ o ∈ M.obs, 0 ≤ o.b ∧ o.b < 4294967296) : (handle st M).sm.length ≤ 64 := by
  unfold handle
  split
  · rename_i hok
    obtain ⟨_, _, h64, _⟩ := ok_inv hbb hok
    unfold handF
    repeat' split
    · simp [abtF]
    · unfold askF; split <;> simp
    · unfold cfgF; split <;> simp
    · unfold scanF
      split
      · rw [List.length_map]; exact h64
      · simp
    · simp [relF]
    · simp [brk]
  · simp
/-- An answer, none or one, in one form. -/
theorem ans_gen {w : World} {B : Nat} {v : Value} {an : Option An} (h : AnsAt w B v an) : ∃ av cv, v = .slice av an.toList.length cv ∧ ∀ a, an = some a → ∃ b, av = some ⟨b, 0, none⟩ ∧ B ≤ b ∧ w.heap[b]? = some (.cells #[.int .i64 a.kind, .slice none 0 0, .int .i64 a.config, .int .i64 a.result, .int .i64 a.reason, .slice none 0 0, .slice none 0 0] 31 (0, 0)) := by
  cases an with
  | none => exact ⟨none, 0, h, fun a h => by cases h⟩
  | some a =>
    obtain ⟨b, e, hb, hc⟩ := ans_at h
    exact ⟨_, _, e, fun a' h => by cases h; exact ⟨b, rfl, hb, hc⟩⟩
theorem an_le (an : Option An) : an.toList.length ≤ 1 := by cases an <;> simp
theorem an_some {an : Option An} (h : 0 < an.toList.length) : ∃ a, an = some a := by
  cases an with
  | none => simp at h
  | some a => exact ⟨a, rfl⟩
theorem ok_pack {M : Msg} (h : okB M = true) : ∃ zs, packAll M = .ok ((), zs) := by
  unfold okB at h
  split at h
  · rename_i x hx; exact ⟨x.2, hx⟩
  · cases h
end Go.Proofs.YthcfdoafncbliaaGreat
/-
  AssocPlays: two lists that say the same: of messages, of samples, of objects.
-/
namespace Go.Proofs.YthcfdoafncbliaaGreat
open Go.RowKit Go.Maps
set_option maxRecDepth 8000
set_option maxHeartbeats 1000000 in
theorem plObjs_any (w : World) (a a' : Option Addr) (n c c' : Nat) (l : List Ob) (h1 : RowT w a n (l.map Ob.t3)) (h2 : RowT w a' n (l.map Ob.t3)) (hn : n ≤ 16) :
    Calls Tryz.prog 13 #[.slice a n c, .slice a' n c'] w fun e w' => e = .returned (.bool true) ∧ After w w' := by
  have hnn : ((n : Int) != (n : Int)) = false := by simp
  have H9 := hideIt (And.intro h1 h2)
  clear h1 h2
  go_enter Tryz.func13, Tryz.ntmps13
  go_wp2_with fail
  go_loopw [5] (fun i wr => ∃ j m : Nat, j ≤ n ∧ i = .int .i64 j ∧ wr = w.drewN m) (fun i _ => n - (intOf i).toNat)
  case atStart => exact ⟨0, 0, Nat.zero_le _, rfl, rfl⟩
  case round =>
    obtain ⟨j, m, hj, rfl, rfl⟩ := hrel
    by_cases hlt : j < n
    · obtain ⟨b1, o1, h1, u1, l1, rfl, _, x1, c11, c12, c13⟩ := rowO_at H9.out.1 hlt
      obtain ⟨b2, o2, h2, u2, l2, rfl, _, x2, c21, c22, c23⟩ := rowO_at H9.out.2 hlt
      obtain ⟨rfl, rfl, rfl⟩ : h1 = h2 ∧ u1 = u2 ∧ l1 = l2 := by
        rw [x1] at x2
        have e9 := Option.some.inj x2
        injection e9 with e1 e2 e3
        exact ⟨e1, e2, e3⟩
      clear x1 x2
      have hne := neq42 h1 u1 l1
      go_wp2_with fail
      go_region
      go_wp2_with fail
      go_roundw
      case rel => exact ⟨j + 1, m + 1, by omega, by go_num, rfl⟩
      case measure => simp [intOf]; omega
    · go_wp2_with fail
      go_ret
      exact ⟨rfl, After.rfl.draws m⟩
theorem rowQ_at {w : World} {a : Option Addr} {l : List Sm} (h : RowQ w a l) {i : Nat} (hi : i < l.length) : ∃ b off h' k' m' e', a = some ⟨b, off, none⟩ ∧ b < w.heap.size ∧ l[i]? = some ⟨h', k', m', e'⟩ ∧ w.cell? ⟨b, off + i * 4, none⟩ = some (.int .i64 h') ∧ w.cell? ⟨b, off + i * 4 + 1, none⟩ = some (.int .i64 k') ∧ w.cell? ⟨b, off + i * 4 + 2, none⟩ = some (.int .i64 m') ∧ w.cell? ⟨b, off + i * 4 + 3, none⟩ = some (.int .i64 e') := by
  obtain ⟨s, hs⟩ : ∃ s, l[i]? = some s := ⟨l[i], List.getElem?_eq_getElem hi⟩
  obtain ⟨b, off, e, hb, c0, c1, c2, c3⟩ := h i s hs
  exact ⟨b, off, s.h, s.k, s.m, s.e, e, hb, hs, c0, c1, c2, c3⟩
set_option maxHeartbeats 1000000 in
theorem plSams_any (w : World) (a a' : Option Addr) (n c c' : Nat) (l : List Sm) (hl : l.length = n) (h1 : RowQ w a l) (h2 : RowQ w a' l) (hn : n ≤ 64) :
    Calls Tryz.prog 11 #[.slice a n c, .slice a' n c'] w fun e w' => e = .returned (.bool true) ∧ After w w' := by
  have hnn : ((n : Int) != (n : Int)) = false := by simp
  have H9 := hideIt (And.intro h1 (And.intro h2 hl))
  clear h1 h2 hl
  go_enter Tryz.func11, Tryz.ntmps11
  go_wp2_with fail
  go_loopw [5] (fun i wr => ∃ j m : Nat, j ≤ n ∧ i = .int .i64 j ∧ wr = w.drewN m) (fun i _ => n - (intOf i).toNat)
  case atStart => exact ⟨0, 0, Nat.zero_le _, rfl, rfl⟩
  case round =>
    obtain ⟨j, m, hj, rfl, rfl⟩ := hrel
    by_cases hlt : j < n
    · obtain ⟨b1, o1, h1, u1, l1, e1, rfl, _, x1, c11, c12, c13, c14⟩ := rowQ_at H9.out.1 (by rw [H9.out.2.2]; exact hlt)
      obtain ⟨b2, o2, h2, u2, l2, e2, rfl, _, x2, c21, c22, c23, c24⟩ := rowQ_at H9.out.2.1 (by rw [H9.out.2.2]; exact hlt)
      obtain ⟨rfl, rfl, rfl, rfl⟩ : h1 = h2 ∧ u1 = u2 ∧ l1 = l2 ∧ e1 = e2 := by
        rw [x1] at x2
        have e9 := Option.some.inj x2
        injection e9 with e1 e2 e3 e4
        exact ⟨e1, e2, e3, e4⟩
      clear x1 x2
      have hne := neqS h1 u1 l1 e1
      go_wp2_with fail
      go_region
      go_wp2_with fail
      go_roundw
      case rel => exact ⟨j + 1, m + 1, by omega, by go_num, rfl⟩
      case measure => simp [intOf]; omega
    · go_wp2_with fail
      go_ret
      exact ⟨rfl, After.rfl.draws m⟩
theorem eqM_self (M : Msg) : eqM M M = true := by simp [eqM]
set_option maxHeartbeats 2000000 in
theorem plAns_any {w : World} {B B' : Nat} {v v' : Value} {an : Option An} (h1 : AnsAt w B v an) (h2 : AnsAt w B' v' an) :
    Calls Tryz.prog 10 #[v, v'] w fun e w' => e = .returned (.bool true) ∧ After w w' := by
  cases an with
  | none =>
    obtain rfl : v = .slice none 0 0 := h1
    obtain rfl : v' = .slice none 0 0 := h2
    go_enter Tryz.func10, Tryz.ntmps10
    go_wp2_with fail
    go_loopw [5] (fun i wr => i = .int .i64 0 ∧ wr = w) (fun _ _ => 0)
    case atStart => exact ⟨rfl, rfl⟩
    case round =>
      obtain ⟨rfl, rfl⟩ := hrel
      go_wp2_with fail
      go_ret
      exact ⟨rfl, After.rfl⟩
  | some an =>
    obtain ⟨b1, rfl, _, hc1⟩ := ans_at h1
    obtain ⟨b2, rfl, _, hc2⟩ := ans_at h2
    obtain ⟨ak, ac, ar, aq⟩ := an
    dsimp only at hc1 hc2
    have HS := hideIt (fun W => same13 W Non Non (An.msg ⟨ak, ac, ar, aq⟩) (An.msg ⟨ak, ac, ar, aq⟩) none 0 none 0 none 0 none 0 none 0 none 0 (MsgX.nils _ _ _ _ _ _) (MsgX.nils _ _ _ _ _ _) (fun _ => rfl) (fun _ => rfl) (fun _ => rfl) (by simp [An.msg]) (by simp [An.msg]))
    rw [eqM_self, show Msg.val (An.msg ⟨ak, ac, ar, aq⟩) none 0 none 0 none 0 = .agg #[.int .i64 ak, .slice none 0 0, .int .i64 ac, .int .i64 ar, .int .i64 aq, .slice none 0 0, .slice none 0 0] from rfl] at HS
    have HC := hideIt (And.intro hc1 hc2)
    clear h1 h2 hc1 hc2
    go_enter Tryz.func10, Tryz.ntmps10
    go_wp2_with fail
    go_loopw [5] (fun i wr => ∃ j : Nat, j ≤ 1 ∧ i = .int .i64 j ∧ After w wr) (fun i _ => 1 - (intOf i).toNat)
    case atStart => exact ⟨0, Nat.zero_le _, rfl, After.rfl⟩
    case round =>
      obtain ⟨j, hj, rfl, aw⟩ := hrel
      by_cases hlt : j < 1
      · obtain rfl : j = 0 := by omega
        obtain ⟨_, ⟨k0, k1, k2, k3, k4, k5, k6⟩, _⟩ := seven_at (keep3 HC.out.1 aw)
        obtain ⟨_, ⟨z0, z1, z2, z3, z4, z5, z6⟩, _⟩ := seven_at (keep3 HC.out.2 aw)
        have AW := hideIt aw
        clear aw
        go_wp2_with fail
        go_region_with (refine (HS.out _).mono ?_; rintro e w2 ⟨rfl, a2⟩; have H2 := hideIt a2; clear a2)
        all_goals
          go_wp2_with fail
          go_roundw
          case rel => exact ⟨1, by omega, rfl, AW.out.trans (But.trans (by repeat' (first | exact After.rfl | refine But.drew ?_)) H2.out)⟩
          case measure => simp [intOf]
      · obtain rfl : j = 1 := by omega
        have AW := hideIt aw
        clear aw
        go_wp2_with fail
        go_ret
        exact ⟨rfl, AW.out⟩
end Go.Proofs.YthcfdoafncbliaaGreat
/-
  AssocOrder: the parts of its loop, its frame, and the parts that only look at what was answered.
-/
namespace Go.Proofs.YthcfdoafncbliaaGreat
open Go.RowKit Go.Maps
set_option maxRecDepth 8000
def sq1 : Code → Code
  | .seq a _ => a
  | c => c
def sq2 : Code → Code
  | .seq _ b => b
  | c => c
def inBlk : Code → Code
  | .block _ c => c
  | c => c
def inLp : Code → Code
  | .loop c => c
  | c => c
def oB (f : Func) : Code := f.body.getD .skip
/-- From the loop on. -/
def oT (f : Func) : Code := sq2 (sq2 (sq2 (oB f)))
def oL (f : Func) : Code := inLp (inBlk (sq2 (sq1 (oT f))))
def o7 (f : Func) : Code := inBlk (sq1 (sq2 (oL f)))
def o8 (f : Func) : Code := sq2 (o7 f)
def o9 (f : Func) : Code := sq2 (o8 f)
def o10 (f : Func) : Code := sq2 (o9 f)
def o11 (f : Func) : Code := sq2 (o10 f)
def o13 (f : Func) : Code := sq2 (o11 f)
def o16 (f : Func) : Code := sq2 (o13 f)
def o17 (f : Func) : Code := sq2 (o16 f)
def o19 (f : Func) : Code := sq2 (o17 f)
def o21 (f : Func) : Code := sq2 (o19 f)
def o34 (f : Func) : Code := sq2 (o21 f)
theorem oT_eq : (oT Tryz.f20) = .seq (sq1 (oT Tryz.f20)) (sq2 (oT Tryz.f20)) := by kernel_rfl
theorem oL_eq : (oL Tryz.f20) = .seq (sq1 (oL Tryz.f20)) (.seq (.block 1 (o7 Tryz.f20)) (sq2 (sq2 (oL Tryz.f20)))) := by kernel_rfl
theorem o7_eq : (o7 Tryz.f20) = .seq (sq1 (o7 Tryz.f20)) (o8 Tryz.f20) := by kernel_rfl
theorem o8_eq : (o8 Tryz.f20) = .seq (sq1 (o8 Tryz.f20)) (o9 Tryz.f20) := by kernel_rfl
theorem o9_eq : (o9 Tryz.f20) = .seq (sq1 (o9 Tryz.f20)) (o10 Tryz.f20) := by kernel_rfl
theorem o10_eq : (o10 Tryz.f20) = .seq (sq1 (o10 Tryz.f20)) (o11 Tryz.f20) := by kernel_rfl
theorem o11_eq : (o11 Tryz.f20) = .seq (sq1 (o11 Tryz.f20)) (o13 Tryz.f20) := by kernel_rfl
theorem o13_eq : (o13 Tryz.f20) = .seq (sq1 (o13 Tryz.f20)) (o16 Tryz.f20) := by kernel_rfl
theorem o16_eq : (o16 Tryz.f20) = .seq (sq1 (o16 Tryz.f20)) (o17 Tryz.f20) := by kernel_rfl
theorem o17_eq : (o17 Tryz.f20) = .seq (sq1 (o17 Tryz.f20)) (o19 Tryz.f20) := by kernel_rfl
theorem o19_eq : (o19 Tryz.f20) = .seq (sq1 (o19 Tryz.f20)) (o21 Tryz.f20) := by kernel_rfl
theorem o21_eq : (o21 Tryz.f20) = .seq (sq1 (o21 Tryz.f20)) (o34 Tryz.f20) := by kernel_rfl
theorem o34_eq : (o34 Tryz.f20) = .seq (sq1 (o34 Tryz.f20)) (sq2 (o34 Tryz.f20)) := by kernel_rfl
/-- What the frame holds: the list, the manager, the counter. -/
structure F0 (a : Act) (v0 v3 v4 : Value) : Prop where
  size : a.tmps.size = 288
  defers : a.defers = []
  s0 : a.tmps.getD 0 undef = v0
  s3 : a.tmps.getD 3 undef = v3
  s4 : a.tmps.getD 4 undef = v4
/-- And what was answered. -/
structure F1 (a : Act) (v0 v3 v4 v5 v6 v7 v8 v9 v11 v12 : Value) : Prop where
  size : a.tmps.size = 288
  defers : a.defers = []
  s0 : a.tmps.getD 0 undef = v0
  s3 : a.tmps.getD 3 undef = v3
  s4 : a.tmps.getD 4 undef = v4
  s5 : a.tmps.getD 5 undef = v5
  s6 : a.tmps.getD 6 undef = v6
  s7 : a.tmps.getD 7 undef = v7
  s8 : a.tmps.getD 8 undef = v8
  s9 : a.tmps.getD 9 undef = v9
  s11 : a.tmps.getD 11 undef = v11
  s12 : a.tmps.getD 12 undef = v12
theorem F1.base {a : Act} {v0 v3 v4 v5 v6 v7 v8 v9 v11 v12 : Value} (h : F1 a v0 v3 v4 v5 v6 v7 v8 v9 v11 v12) : F0 a v0 v3 v4 := ⟨h.size, h.defers, h.s0, h.s3, h.s4⟩
set_option maxRecDepth 100000 in
theorem lit288 (a : Act) (h : a.tmps.size = 288) (hd : a.defers = []) : ∃ u : Nat → Value, (∀ i, u i = a.tmps.getD i undef) ∧ a = ⟨#[u 0, u 1, u 2, u 3, u 4, u 5, u 6, u 7, u 8, u 9, u 10, u 11, u 12, u 13, u 14, u 15, u 16, u 17, u 18, u 19, u 20, u 21, u 22, u 23, u 24, u 25, u 26, u 27, u 28, u 29, u 30, u 31, u 32, u 33, u 34, u 35, u 36, u 37, u 38, u 39, u 40, u 41, u 42, u 43, u 44, u 45, u 46, u 47, u 48, u 49, u 50, u 51, u 52, u 53, u 54, u 55, u 56, u 57, u 58, u 59, u 60, u 61, u 62, u 63, u 64, u 65, u 66, u 67, u 68, u 69, u 70, u 71, u 72, u 73, u 74, u 75, u 76, u 77, u 78, u 79, u 80, u 81, u 82, u 83, u 84, u 85, u 86, u 87, u 88, u 89, u 90, u 91, u 92, u 93, u 94, u 95, u 96, u 97, u 98, u 99, u 100, u 101, u 102, u 103, u 104, u 105, u 106, u 107, u 108, u 109, u 110, u 111, u 112, u 113, u 114, u 115, u 116, u 117, u 118, u 119, u 120, u 121, u 122, u 123, u 124, u 125, u 126, u 127, u 128, u 129, u 130, u 131, u 132, u 133, u 134, u 135, u 136, u 137, u 138, u 139, u 140, u 141, u 142, u 143, u 144, u 145, u 146, u 147, u 148, u 149, u 150, u 151, u 152, u 153, u 154, u 155, u 156, u 157, u 158, u 159, u 160, u 161, u 162, u 163, u 164, u 165, u 166, u 167, u 168, u 169, u 170, u 171, u 172, u 173, u 174, u 175, u 176, u 177, u 178, u 179, u 180, u 181, u 182, u 183, u 184, u 185, u 186, u 187, u 188, u 189, u 190, u 191, u 192, u 193, u 194, u 195, u 196, u 197, u 198, u 199, u 200, u 201, u 202, u 203, u 204, u 205, u 206, u 207, u 208, u 209, u 210, u 211, u 212, u 213, u 214, u 215, u 216, u 217, u 218, u 219, u 220, u 221, u 222, u 223, u 224, u 225, u 226, u 227, u 228, u 229, u 230, u 231, u 232, u 233, u 234, u 235, u 236, u 237, u 238, u 239, u 240, u 241, u 242, u 243, u 244, u 245, u 246, u 247, u 248, u 249, u 250, u 251, u 252, u 253, u 254, u 255, u 256, u 257, u 258, u 259, u 260, u 261, u 262, u 263, u 264, u 265, u 266, u 267, u 268, u 269, u 270, u 271, u 272, u 273, u 274, u 275, u 276, u 277, u 278, u 279, u 280, u 281, u 282, u 283, u 284, u 285, u 286, u 287], []⟩ := by
  refine ⟨fun i => a.tmps.getD i undef, fun _ => rfl, ?_⟩
  obtain ⟨t, d⟩ := a
  dsimp only at h hd
  subst hd
  have e : t = ((List.range 288).map (fun i => t.getD i undef)).toArray := by
    apply Array.ext
    · simp [h]
    · intro i h1 h2
      simp [Array.getD, h1]
  refine congrArg (fun t' => Act.mk t' []) (e.trans ?_)
  rfl
theorem F1.lit {a : Act} {v0 v3 v4 v5 v6 v7 v8 v9 v11 v12 : Value} (h : F1 a v0 v3 v4 v5 v6 v7 v8 v9 v11 v12) : ∃ u : Nat → Value, (∀ i, u i = a.tmps.getD i undef) ∧ a = ⟨#[v0, u 1, u 2, v3, v4, v5, v6, v7, v8, v9, u 10, v11, v12, u 13, u 14, u 15, u 16, u 17, u 18, u 19, u 20, u 21, u 22, u 23, u 24, u 25, u 26, u 27, u 28, u 29, u 30, u 31, u 32, u 33, u 34, u 35, u 36, u 37, u 38, u 39, u 40, u 41, u 42, u 43, u 44, u 45, u 46, u 47, u 48, u 49, u 50, u 51, u 52, u 53, u 54, u 55, u 56, u 57, u 58, u 59, u 60, u 61, u 62, u 63, u 64, u 65, u 66, u 67, u 68, u 69, u 70, u 71, u 72, u 73, u 74, u 75, u 76, u 77, u 78, u 79, u 80, u 81, u 82, u 83, u 84, u 85, u 86, u 87, u 88, u 89, u 90, u 91, u 92, u 93, u 94, u 95, u 96, u 97, u 98, u 99, u 100, u 101, u 102, u 103, u 104, u 105, u 106, u 107, u 108, u 109, u 110, u 111, u 112, u 113, u 114, u 115, u 116, u 117, u 118, u 119, u 120, u 121, u 122, u 123, u 124, u 125, u 126, u 127, u 128, u 129, u 130, u 131, u 132, u 133, u 134, u 135, u 136, u 137, u 138, u 139, u 140, u 141, u 142, u 143, u 144, u 145, u 146, u 147, u 148, u 149, u 150, u 151, u 152, u 153, u 154, u 155, u 156, u 157, u 158, u 159, u 160, u 161, u 162, u 163, u 164, u 165, u 166, u 167, u 168, u 169, u 170, u 171, u 172, u 173, u 174, u 175, u 176, u 177, u 178, u 179, u 180, u 181, u 182, u 183, u 184, u 185, u 186, u 187, u 188, u 189, u 190, u 191, u 192, u 193, u 194, u 195, u 196, u 197, u 198, u 199, u 200, u 201, u 202, u 203, u 204, u 205, u 206, u 207, u 208, u 209, u 210, u 211, u 212, u 213, u 214, u 215, u 216, u 217, u 218, u 219, u 220, u 221, u 222, u 223, u 224, u 225, u 226, u 227, u 228, u 229, u 230, u 231, u 232, u 233, u 234, u 235, u 236, u 237, u 238, u 239, u 240, u 241, u 242, u 243, u 244, u 245, u 246, u 247, u 248, u 249, u 250, u 251, u 252, u 253, u 254, u 255, u 256, u 257, u 258, u 259, u 260, u 261, u 262, u 263, u 264, u 265, u 266, u 267, u 268, u 269, u 270, u 271, u 272, u 273, u 274, u 275, u 276, u 277, u 278, u 279, u 280, u 281, u 282, u 283, u 284, u 285, u 286, u 287], []⟩ := by
  obtain ⟨u, hu, e⟩ := lit288 a h.size h.defers
  refine ⟨u, hu, e.trans ?_⟩
  rw [(hu 0).trans h.s0, (hu 3).trans h.s3, (hu 4).trans h.s4, (hu 5).trans h.s5, (hu 6).trans h.s6, (hu 7).trans h.s7, (hu 8).trans h.s8, (hu 9).trans h.s9, (hu 11).trans h.s11, (hu 12).trans h.s12]
theorem F0.lit {a : Act} {v0 v3 v4 : Value} (h : F0 a v0 v3 v4) : ∃ u : Nat → Value, a = ⟨#[v0, u 1, u 2, v3, v4, u 5, u 6, u 7, u 8, u 9, u 10, u 11, u 12, u 13, u 14, u 15, u 16, u 17, u 18, u 19, u 20, u 21, u 22, u 23, u 24, u 25, u 26, u 27, u 28, u 29, u 30, u 31, u 32, u 33, u 34, u 35, u 36, u 37, u 38, u 39, u 40, u 41, u 42, u 43, u 44, u 45, u 46, u 47, u 48, u 49, u 50, u 51, u 52, u 53, u 54, u 55, u 56, u 57, u 58, u 59, u 60, u 61, u 62, u 63, u 64, u 65, u 66, u 67, u 68, u 69, u 70, u 71, u 72, u 73, u 74, u 75, u 76, u 77, u 78, u 79, u 80, u 81, u 82, u 83, u 84, u 85, u 86, u 87, u 88, u 89, u 90, u 91, u 92, u 93, u 94, u 95, u 96, u 97, u 98, u 99, u 100, u 101, u 102, u 103, u 104, u 105, u 106, u 107, u 108, u 109, u 110, u 111, u 112, u 113, u 114, u 115, u 116, u 117, u 118, u 119, u 120, u 121, u 122, u 123, u 124, u 125, u 126, u 127, u 128, u 129, u 130, u 131, u 132, u 133, u 134, u 135, u 136, u 137, u 138, u 139, u 140, u 141, u 142, u 143, u 144, u 145, u 146, u 147, u 148, u 149, u 150, u 151, u 152, u 153, u 154, u 155, u 156, u 157, u 158, u 159, u 160, u 161, u 162, u 163, u 164, u 165, u 166, u 167, u 168, u 169, u 170, u 171, u 172, u 173, u 174, u 175, u 176, u 177, u 178, u 179, u 180, u 181, u 182, u 183, u 184, u 185, u 186, u 187, u 188, u 189, u 190, u 191, u 192, u 193, u 194, u 195, u 196, u 197, u 198, u 199, u 200, u 201, u 202, u 203, u 204, u 205, u 206, u 207, u 208, u 209, u 210, u 211, u 212, u 213, u 214, u 215, u 216, u 217, u 218, u 219, u 220, u 221, u 222, u 223, u 224, u 225, u 226, u 227, u 228, u 229, u 230, u 231, u 232, u 233, u 234, u 235, u 236, u 237, u 238, u 239, u 240, u 241, u 242, u 243, u 244, u 245, u 246, u 247, u 248, u 249, u 250, u 251, u 252, u 253, u 254, u 255, u 256, u 257, u 258, u 259, u 260, u 261, u 262, u 263, u 264, u 265, u 266, u 267, u 268, u 269, u 270, u 271, u 272, u 273, u 274, u 275, u 276, u 277, u 278, u 279, u 280, u 281, u 282, u 283, u 284, u 285, u 286, u 287], []⟩ := by
  obtain ⟨u, hu, e⟩ := lit288 a h.size h.defers
  refine ⟨u, e.trans ?_⟩
  rw [(hu 0).trans h.s0, (hu 3).trans h.s3, (hu 4).trans h.s4]
/-- Nothing wrong with the error, the state, the number of answers and the objects. -/
theorem part11 {Q : Exit → Act → World → Prop} {a : Act} {w : World} {g : Nat} {st : Mg} (x : MgAt w All g st) {v0 v4 v6 v8 : Value} {av : Option Addr} {m cv : Nat} {s er f : Int} (hf : F1 a v0 (Ptr g) v4 (.int .i64 s) v6 (.slice av m cv) v8 (.int .i64 er) (.int .i64 f) (.int .i64 st.state))
    (he : (er = 2 ∧ (f != 0) = true ∧ st.state = s) ∨ ((er == 2) = false ∧ f = 0)) (hm : m ≤ 1) (hK : ∀ a' w', F1 a' v0 (Ptr g) v4 (.int .i64 s) v6 (.slice av m cv) v8 (.int .i64 er) (.int .i64 f) (.int .i64 st.state) → After w w' → Q .normal a' w') : Code.wp Tryz.prog (sq1 (o11 Tryz.f20)) Q a w := by
  obtain ⟨u, hu0, rfl⟩ := hf.lit
  clear hu0
  have hmi : ¬ (1 : Int) < (m : Int) := by omega
  have HO := hideIt (mgObjs_any x)
  have hno : st.state ≠ 2 → st.objs = [] := by obtain ⟨_, _, _, xx⟩ := x; exact xx.no
  have HK := hideIt hK
  clear hf hK x hm
  obtain ⟨s', cfg, ob⟩ := st
  dsimp only at *
  conv => arg 2; whnf
  by_cases h2 : s' = 2
  · subst h2
    clear hno HO
    rcases he with ⟨rfl, hf, rfl⟩ | ⟨he, rfl⟩
    · go_wp2_with fail
      exact HK.out _ _ ⟨rfl, rfl, rfl, rfl, rfl, rfl, rfl, rfl, rfl, rfl, rfl, rfl⟩ After.rfl
    · go_wp2_with fail
      exact HK.out _ _ ⟨rfl, rfl, rfl, rfl, rfl, rfl, rfl, rfl, rfl, rfl, rfl, rfl⟩ After.rfl
  · obtain rfl := hno h2
    have h2b : (s' != 2) = true := by simpa using h2
    clear hno h2
    rcases he with ⟨rfl, hf, rfl⟩ | ⟨he, rfl⟩
    · have hss : (s' != s') = false := by simp
      go_wp2_with fail
      refine HO.out.mono ?_
      rintro e w5 ⟨o5, rfl, ho5, a5⟩
      obtain ⟨oa5, oc5, rfl, _, _, _⟩ := own_rowT ho5
      have HA5 := hideIt a5
      clear ho5 a5 HO
      dsimp only [List.length_nil]
      go_wp2_with fail
      exact HK.out _ _ ⟨rfl, rfl, rfl, rfl, rfl, rfl, rfl, rfl, rfl, rfl, rfl, rfl⟩ HA5.out
    · go_wp2_with fail
      refine HO.out.mono ?_
      rintro e w5 ⟨o5, rfl, ho5, a5⟩
      obtain ⟨oa5, oc5, rfl, _, _, _⟩ := own_rowT ho5
      have HA5 := hideIt a5
      clear ho5 a5 HO
      dsimp only [List.length_nil]
      go_wp2_with fail
      exact HK.out _ _ ⟨rfl, rfl, rfl, rfl, rfl, rfl, rfl, rfl, rfl, rfl, rfl, rfl⟩ HA5.out
/-- Of a message that may not be: go on. -/
theorem part13_bad {Q : Exit → Act → World → Prop} {a : Act} {w : World} {v0 v3 v4 v5 v6 v11 v12 : Value} {av sv : Option Addr} {cv scv : Nat} (hf : F1 a v0 v3 v4 v5 v6 (.slice av 0 cv) (.slice sv 0 scv) (.int .i64 2) v11 v12) (hK : ∀ a', F0 a' v0 v3 v4 → Q (.exit 1) a' w) : Code.wp Tryz.prog (sq1 (o13 Tryz.f20)) Q a w := by
  obtain ⟨u, hu0, rfl⟩ := hf.lit
  clear hu0
  have HK := hideIt hK
  clear hf hK
  conv => arg 2; whnf
  go_wp2_with fail
  exact HK.out _ ⟨rfl, rfl, rfl, rfl, rfl⟩
theorem part13_ok {Q : Exit → Act → World → Prop} {a : Act} {w : World} {v0 v3 v4 v5 v6 v7 v8 v11 v12 : Value} {er : Int} (hf : F1 a v0 v3 v4 v5 v6 v7 v8 (.int .i64 er) v11 v12) (he : (er == 2) = false) (hK : ∀ a', F1 a' v0 v3 v4 v5 v6 v7 v8 (.int .i64 er) v11 v12 → Q .normal a' w) : Code.wp Tryz.prog (sq1 (o13 Tryz.f20)) Q a w := by
  obtain ⟨u, hu0, rfl⟩ := hf.lit
  clear hu0
  have HK := hideIt hK
  clear hf hK
  conv => arg 2; whnf
  go_wp2_with fail
  exact HK.out _ ⟨rfl, rfl, rfl, rfl, rfl, rfl, rfl, rfl, rfl, rfl, rfl, rfl⟩
/-- Which ways a manager may go. -/
def Ups (s s' mk : Int) : Prop := (s' = s ∧ (s = 0 ∨ s = 1 ∨ s = 2)) ∨ (s' = 0 ∧ (s = 1 ∨ s = 2)) ∨ (s = 0 ∧ s' = 1 ∧ mk = 57856) ∨ (s = 1 ∧ s' = 2 ∧ mk = 3356)
theorem part16 {Q : Exit → Act → World → Prop} {a : Act} {w : World} {v3 v6 v7 v8 v9 v11 : Value} {b off n c k : Nat} {s s' mk : Int} (hf : F1 a (.slice (some ⟨b, off, none⟩) n c) v3 (.int .i64 (k : Int)) (.int .i64 s) v6 v7 v8 v9 v11 (.int .i64 s')) (hu : Ups s s' mk) (hkn : (k : Int) < (n : Int)) (hz : w.cell? ⟨b, off + k * 7, none⟩ = some (.int .i64 mk)) (_hb : b < w.heap.size)
    (hK : ∀ a', F1 a' (.slice (some ⟨b, off, none⟩) n c) v3 (.int .i64 (k : Int)) (.int .i64 s) v6 v7 v8 v9 v11 (.int .i64 s') → (∃ up, a'.tmps.getD 13 undef = .bool up ∧ (up = true ∨ s' = s ∨ s' = 0)) → Q .normal a' w) : Code.wp Tryz.prog (sq1 (o16 Tryz.f20)) Q a w := by
  obtain ⟨u, hu0, rfl⟩ := hf.lit
  clear hu0
  have HK := hideIt hK
  clear hf hK
  conv => arg 2; whnf
  rcases hu with ⟨rfl, rfl | rfl | rfl⟩ | ⟨rfl, rfl | rfl⟩ | ⟨rfl, rfl, rfl⟩ | ⟨rfl, rfl, rfl⟩
  · go_wp2_with fail
    exact HK.out _ ⟨rfl, rfl, rfl, rfl, rfl, rfl, rfl, rfl, rfl, rfl, rfl, rfl⟩ ⟨_, rfl, by simp⟩
  · go_wp2_with fail
    exact HK.out _ ⟨rfl, rfl, rfl, rfl, rfl, rfl, rfl, rfl, rfl, rfl, rfl, rfl⟩ ⟨_, rfl, by simp⟩
  · go_wp2_with fail
    exact HK.out _ ⟨rfl, rfl, rfl, rfl, rfl, rfl, rfl, rfl, rfl, rfl, rfl, rfl⟩ ⟨_, rfl, by simp⟩
  · go_wp2_with fail
    exact HK.out _ ⟨rfl, rfl, rfl, rfl, rfl, rfl, rfl, rfl, rfl, rfl, rfl, rfl⟩ ⟨_, rfl, by simp⟩
  · go_wp2_with fail
    exact HK.out _ ⟨rfl, rfl, rfl, rfl, rfl, rfl, rfl, rfl, rfl, rfl, rfl, rfl⟩ ⟨_, rfl, by simp⟩
  · go_wp2_with fail
    exact HK.out _ ⟨rfl, rfl, rfl, rfl, rfl, rfl, rfl, rfl, rfl, rfl, rfl, rfl⟩ ⟨_, rfl, by simp⟩
  · go_wp2_with fail
    exact HK.out _ ⟨rfl, rfl, rfl, rfl, rfl, rfl, rfl, rfl, rfl, rfl, rfl, rfl⟩ ⟨_, rfl, by simp⟩
theorem part17 {Q : Exit → Act → World → Prop} {a : Act} {w : World} {v0 v3 v4 v6 v7 v8 v9 v11 : Value} {s s' : Int} {up : Bool} (hf : F1 a v0 v3 v4 (.int .i64 s) v6 v7 v8 v9 v11 (.int .i64 s')) (h13 : a.tmps.getD 13 undef = .bool up) (hup : up = true ∨ s' = s ∨ s' = 0)
    (hK : ∀ a', F1 a' v0 v3 v4 (.int .i64 s) v6 v7 v8 v9 v11 (.int .i64 s') → Q .normal a' w) : Code.wp Tryz.prog (sq1 (o17 Tryz.f20)) Q a w := by
  obtain ⟨u, hu, e⟩ := hf.lit
  have e13 := (hu 13).trans h13
  subst e
  rw [e13]
  have HK := hideIt hK
  clear hf hK hu h13 e13
  conv => arg 2; whnf
  by_cases h1 : s' = s
  · subst h1
    have hss : (s' != s') = false := by simp
    go_wp2_with fail
    exact HK.out _ ⟨rfl, rfl, rfl, rfl, rfl, rfl, rfl, rfl, rfl, rfl, rfl, rfl⟩
  · have h1b : (s' != s) = true := by simpa using h1
    by_cases h2 : s' = 0
    · subst h2
      go_wp2_with fail
      exact HK.out _ ⟨rfl, rfl, rfl, rfl, rfl, rfl, rfl, rfl, rfl, rfl, rfl, rfl⟩
    · have h2b : (s' != 0) = true := by simpa using h2
      obtain rfl : up = true := by rcases hup with h | h | h; exact h; exact absurd h h1; exact absurd h h2
      clear h1 h2 hup
      go_wp2_with fail
      exact HK.out _ ⟨rfl, rfl, rfl, rfl, rfl, rfl, rfl, rfl, rfl, rfl, rfl, rfl⟩
theorem part19 {Q : Exit → Act → World → Prop} {a : Act} {w : World} {v3 v6 v7 v11 : Value} {b off n c k : Nat} {sv ba : Option Addr} {ns scv n3 bc : Nat} {s s' er : Int} (hf : F1 a (.slice (some ⟨b, off, none⟩) n c) v3 (.int .i64 (k : Int)) (.int .i64 s) v6 v7 (.slice sv ns scv) (.int .i64 er) v11 (.int .i64 s')) (hkn : (k : Int) < (n : Int)) (hz : w.cell? ⟨b, off + k * 7 + 6, none⟩ = some (.slice ba n3 bc)) (_hb : b < w.heap.size)
    (hs : ns = 0 ∨ (0 < ns ∧ s = 2 ∧ s' = 2 ∧ n3 = ns ∧ er = 0)) (hK : ∀ a', F1 a' (.slice (some ⟨b, off, none⟩) n c) v3 (.int .i64 (k : Int)) (.int .i64 s) v6 v7 (.slice sv ns scv) (.int .i64 er) v11 (.int .i64 s') → Q .normal a' w) : Code.wp Tryz.prog (sq1 (o19 Tryz.f20)) Q a w := by
  obtain ⟨u, hu0, rfl⟩ := hf.lit
  clear hu0
  have HK := hideIt hK
  clear hf hK
  conv => arg 2; whnf
  rcases hs with rfl | ⟨hp, rfl, rfl, rfl, rfl⟩
  · go_wp2_with fail
    exact HK.out _ ⟨rfl, rfl, rfl, rfl, rfl, rfl, rfl, rfl, rfl, rfl, rfl, rfl⟩
  · have hpi : (0 : Int) < (n3 : Int) := by omega
    have hnn : ((n3 : Int) != (n3 : Int)) = false := by simp
    go_wp2_with fail
    exact HK.out _ ⟨rfl, rfl, rfl, rfl, rfl, rfl, rfl, rfl, rfl, rfl, rfl, rfl⟩
theorem part34 {Q : Exit → Act → World → Prop} {a : Act} {w : World} {v0 v3 v4 v5 v6 v8 v9 v11 v12 : Value} {av : Option Addr} {cv : Nat} {an : Option An} (hf : F1 a v0 v3 v4 v5 v6 (.slice av an.toList.length cv) v8 v9 v11 v12) (han : ∀ x, an = some x → ∃ b, av = some ⟨b, 0, none⟩ ∧ w.heap[b]? = some (.cells #[.int .i64 x.kind, .slice none 0 0, .int .i64 x.config, .int .i64 x.result, .int .i64 x.reason, .slice none 0 0, .slice none 0 0] 31 (0, 0)))
    (hK : ∀ a' br, F1 a' v0 v3 v4 v5 v6 (.slice av an.toList.length cv) v8 v9 v11 v12 → a'.tmps.getD 18 undef = .bool br → (br = true ↔ ∃ x, an = some x ∧ x.kind = 58880) → Q .normal a' w) : Code.wp Tryz.prog (sq1 (o34 Tryz.f20)) Q a w := by
  obtain ⟨u, hu0, rfl⟩ := hf.lit
  clear hu0
  have HK := hideIt hK
  clear hf hK
  conv => arg 2; whnf
  cases an with
  | none =>
    dsimp only [Option.toList_none, List.length_nil] at *
    go_wp2_with fail
    exact HK.out _ _ ⟨rfl, rfl, rfl, rfl, rfl, rfl, rfl, rfl, rfl, rfl, rfl, rfl⟩ rfl ⟨fun h => (by cases h), fun h => by obtain ⟨x, h, _⟩ := h; cases h⟩
  | some x =>
    obtain ⟨bb, rfl, hc⟩ := han x rfl
    obtain ⟨hl, ⟨t0, _, _, _, _, _, _⟩, _⟩ := seven_at hc
    clear hc han
    dsimp only [Option.toList_some, List.length_cons, List.length_nil] at *
    obtain ⟨xk, xc, xr, xq⟩ := x
    dsimp only at t0
    by_cases hk : xk = 58880
    · subst hk
      go_wp2_with fail
      exact HK.out _ _ ⟨rfl, rfl, rfl, rfl, rfl, rfl, rfl, rfl, rfl, rfl, rfl, rfl⟩ rfl ⟨fun _ => ⟨_, rfl, rfl⟩, fun _ => rfl⟩
    · have hkb : (xk == 58880) = false := by simpa using hk
      have HKK := hideIt hk
      clear hk
      go_wp2_with fail
      exact HK.out _ _ ⟨rfl, rfl, rfl, rfl, rfl, rfl, rfl, rfl, rfl, rfl, rfl, rfl⟩ rfl ⟨fun h => (by cases h), fun h => by obtain ⟨x, h, h2⟩ := h; cases h; exact absurd h2 HKK.out⟩
theorem part35 {Q : Exit → Act → World → Prop} {a : Act} {w : World} {v3 v6 v7 v11 : Value} {b off n c k : Nat} {sv ba : Option Addr} {ns scv n3 bc : Nat} {s s' er mk : Int} {br : Bool} (hf : F1 a (.slice (some ⟨b, off, none⟩) n c) v3 (.int .i64 (k : Int)) (.int .i64 s) v6 v7 (.slice sv ns scv) (.int .i64 er) v11 (.int .i64 s')) (h18 : a.tmps.getD 18 undef = .bool br) (hkn : (k : Int) < (n : Int)) (hz0 : w.cell? ⟨b, off + k * 7, none⟩ = some (.int .i64 mk)) (hz6 : w.cell? ⟨b, off + k * 7 + 6, none⟩ = some (.slice ba n3 bc)) (_hb : b < w.heap.size)
    (hs : (br = true ∧ er = 70 ∧ s' = 0) ∨ (br = false ∧ er = 70 ∧ s = 2 ∧ mk = 3358 ∧ ns < n3) ∨ (br = false ∧ (er == 70) = false ∧ ¬ (s = 2 ∧ mk = 3358 ∧ ns < n3))) (hK : ∀ a', F0 a' (.slice (some ⟨b, off, none⟩) n c) v3 (.int .i64 (k : Int)) → Q .normal a' w) : Code.wp Tryz.prog (sq2 (o34 Tryz.f20)) Q a w := by
  obtain ⟨u, hu, e⟩ := hf.lit
  have e18 := (hu 18).trans h18
  subst e
  rw [e18]
  have HK := hideIt hK
  clear hf hK hu h18 e18
  conv => arg 2; whnf
  rcases hs with ⟨rfl, rfl, rfl⟩ | ⟨rfl, rfl, rfl, rfl, hlt⟩ | ⟨rfl, he, hno⟩
  · go_wp2_with fail
    exact HK.out _ ⟨rfl, rfl, rfl, rfl, rfl⟩
  · have hl : (ns : Int) < (n3 : Int) := by omega
    go_wp2_with fail
    exact HK.out _ ⟨rfl, rfl, rfl, rfl, rfl⟩
  · by_cases h2 : s = 2
    · subst h2
      by_cases h3 : mk = 3358
      · subst h3
        have hl : ¬ (ns : Int) < (n3 : Int) := by omega
        clear hno
        go_wp2_with fail
        exact HK.out _ ⟨rfl, rfl, rfl, rfl, rfl⟩
      · have h3b : (mk == 3358) = false := by simpa using h3
        clear hno h3
        go_wp2_with fail
        exact HK.out _ ⟨rfl, rfl, rfl, rfl, rfl⟩
    · have h2b : (s == 2) = false := by simpa using h2
      clear hno h2
      go_wp2_with fail
      exact HK.out _ ⟨rfl, rfl, rfl, rfl, rfl⟩
end Go.Proofs.YthcfdoafncbliaaGreat
