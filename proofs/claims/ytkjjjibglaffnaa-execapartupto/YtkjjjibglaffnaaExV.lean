/-
  The statements' tasks: a list of tasks out of a list of lists of deeds.
-/
import Derived.Test.YtkjjjibglaffnaaExU
namespace Go.Proofs.Ytkjjjibglaffnaa
open Go.RowKit
set_option maxRecDepth 8000
def pkE : Enc (Option Tk) where
  k := 1
  enc x := [ptV x]
  len _ := rfl
  one x u hu := by
    simp only [List.mem_cons, List.not_mem_nil, or_false] at hu
    rcases hu with rfl
    cases x <;> rfl
  pos := by decide
/-- A list of deeds: where it lies. -/
structure Dr where
  a : Option Addr
  c : Nat
  l : List De
def drE : Enc Dr where
  k := 1
  enc d := [.slice d.a d.l.length d.c]
  len _ := rfl
  one x u hu := by
    simp only [List.mem_cons, List.not_mem_nil, or_false] at hu
    rcases hu with rfl; rfl
  pos := by decide
/-- It lies there, and in no labelled block. -/
def Dr.In (w : World) (o : Nat → Nat) (d : Dr) : Prop := GRow deE w d.a d.l.length d.l ∧ ∀ z, d.a = some z → 0 < d.l.length → o z.block = 0
def A56 : Nat → Prop := fun l => l = 5 ∨ l = 6
theorem Dr.In.go {A : Nat → Prop} (h0 : ¬ A 0) {w w' : World} {o o' : Nat → Nat} {d : Dr} (h : d.In w o) (g : Go A w w' o o') : d.In w' o' :=
  ⟨h.1.but g.but (fun z hz hn s => h0 (by rw [← h.2 z hz hn]; exact s)), fun z hz hn => by
    obtain ⟨b, off, e, hb⟩ := h.1.lt hn
    rw [hz] at e
    cases e
    exact (g.ext _ hb).trans (h.2 _ hz hn)⟩
/-- Tasks, and the lists of them, as they are made. -/
structure Tms (w0 : World) (o0 : Nat → Nat) (w : World) (o : Nat → Nat) (lv : Value) (L : List Lk) (TL XO XW : List (Option Tk)) (vo vw : Value) : Prop where
  sy : Sy w o lv L TL (fun _ => []) (fun _ => .pointer none)
  oo : ORow ivE 97 w 0 vo (XO.map ivOf)
  l5 : ∀ k, vo.ownBlock = some k → o k = 5
  ow : ORow pkE 58 w 0 vw XW
  l6 : ∀ k, vw.ownBlock = some k → o k = 6
  go : Go A56 w0 w o0 o
theorem Tms.after {w0 w w' : World} {o0 o : Nat → Nat} {lv : Value} {L : List Lk} {TL XO XW : List (Option Tk)} {vo vw : Value} (h : Tms w0 o0 w o lv L TL XO XW vo vw) (a : After w w') : Tms w0 o0 w' o lv L TL XO XW vo vw :=
  ⟨h.sy.after a, own_after h.oo a, h.l5, own_after h.ow a, h.l6, h.go.trans (Go.same a)⟩
theorem Tms.out {w0 w w' : World} {o0 o : Nat → Nat} {lv : Value} {L : List Lk} {TL XO XW : List (Option Tk)} {vo vw : Value} (h : Tms w0 o0 w o lv L TL XO XW vo vw) {x : Option Tk} {g n cap : Nat} (h1 : ORow ivE 97 w' 0 (.slice (some ⟨g, 0, none⟩) n cap) ((XO ++ [x]).map ivOf)) (h2 : But (fun k => vo.ownBlock = some k) w w') (h3 : vo.ownBlock = some g ∨ g = w.heap.size) (h4 : g < w'.heap.size) :
    Tms w0 o0 w' (upd o g 5) lv L TL (XO ++ [x]) XW (.slice (some ⟨g, 0, none⟩) n cap) vw := by
  have hg : w.heap.size ≤ g ∨ o g = 5 := by
    rcases h3 with h3 | h3
    · exact .inr (h.l5 g h3)
    · exact .inl (by omega)
  have he : ∀ k, k < w.heap.size → upd o g 5 k = o k := fun k hk => by
    by_cases e : k = g
    · rw [e, upd_at]
      rcases hg with hg | hg
      · omega
      · exact hg.symm
    · exact upd_ne _ _ e
  refine ⟨h.sy.labC ⟨by decide, by decide, by decide⟩ h2 (fun k _ s => h.l5 k s) hg h4, h1, fun k hk => by cases hk; exact upd_at _ _ _, own_but h.ow h2 (fun k hk s => by have := h.l5 k s; have := h.l6 k hk; omega), fun k hk => (he k (h.ow.lt k hk).2).trans (h.l6 k hk), h.go.trans ⟨h2.mono (fun k _ s => .inl (h.l5 k s)), he⟩⟩
theorem Tms.own {w0 w w' : World} {o0 o : Nat → Nat} {lv : Value} {L : List Lk} {TL XO XW : List (Option Tk)} {vo vw : Value} (h : Tms w0 o0 w o lv L TL XO XW vo vw) {x : Option Tk} {g n cap : Nat} (h1 : ORow pkE 58 w' 0 (.slice (some ⟨g, 0, none⟩) n cap) (XW ++ [x])) (h2 : But (fun k => vw.ownBlock = some k) w w') (h3 : vw.ownBlock = some g ∨ g = w.heap.size) (h4 : g < w'.heap.size) :
    Tms w0 o0 w' (upd o g 6) lv L TL XO (XW ++ [x]) vo (.slice (some ⟨g, 0, none⟩) n cap) := by
  have hg : w.heap.size ≤ g ∨ o g = 6 := by
    rcases h3 with h3 | h3
    · exact .inr (h.l6 g h3)
    · exact .inl (by omega)
  have he : ∀ k, k < w.heap.size → upd o g 6 k = o k := fun k hk => by
    by_cases e : k = g
    · rw [e, upd_at]
      rcases hg with hg | hg
      · omega
      · exact hg.symm
    · exact upd_ne _ _ e
  refine ⟨h.sy.labC ⟨by decide, by decide, by decide⟩ h2 (fun k _ s => h.l6 k s) hg h4, own_but h.oo h2 (fun k hk s => by have := h.l6 k s; have := h.l5 k hk; omega), fun k hk => (he k (h.oo.lt k hk).2).trans (h.l5 k hk), h1, fun k hk => by cases hk; exact upd_at _ _ _, h.go.trans ⟨h2.mono (fun k _ s => .inr (h.l6 k s)), he⟩⟩
theorem Tms.task {w0 w : World} {o0 o : Nat → Nat} {lv : Value} {L : List Lk} {TL XO XW : List (Option Tk)} {vo vw : Value} (h : Tms w0 o0 w o lv L TL XO XW vo vw) {d : Dr} (hd : d.In w o) {W : World} (hW : W = w.alloc (.cells #[.slice d.a d.l.length d.c, .slice none 0 0, .pointer none] 63)) :
    Tms w0 o0 W (upd o w.heap.size (10 + 2 * TL.length)) lv L (TL ++ [some ⟨w.heap.size, d.a, d.c, d.l⟩]) XO XW vo vw := by
  have a : After w W := by rw [hW]; exact After.rfl.alloc _
  have he : ∀ k, k < w.heap.size → upd o w.heap.size (10 + 2 * TL.length) k = o k := fun k hk => upd_ne _ _ (by omega)
  have y := h.sy.add a (k := ⟨w.heap.size, d.a, d.c, d.l⟩) (by rw [hW]; exact heap_alloc_new w _) (Nat.le_refl _) (hd.1.after a) (fun z hz hn => ⟨hd.2 z hz hn, by
    obtain ⟨b, off, e, hb⟩ := hd.1.lt hn
    rw [show d.a = some z from hz] at e
    cases e
    show b ≠ w.heap.size
    omega⟩)
  rw [setf_same (fun _ => ([] : List He)) TL.length, setf_same (fun _ => Value.pointer none) TL.length] at y
  exact ⟨y, own_after h.oo a, fun k hk => (he k (h.oo.lt k hk).2).trans (h.l5 k hk), own_after h.ow a, fun k hk => (he k (h.ow.lt k hk).2).trans (h.l6 k hk), h.go.trans ⟨a.but, he⟩⟩
theorem dr_at {w : World} {a : Option Addr} {n : Nat} {xs : List Dr} (h : GRow drE w a n xs) {i : Nat} (hi : i < n) : ∃ b off x, a = some ⟨b, off, none⟩ ∧ b < w.heap.size ∧ xs[i]? = some x ∧ w.cell? ⟨b, off + i, none⟩ = some (.slice x.a x.l.length x.c) := by
  obtain ⟨b, off, x, e, hb, hx, h1⟩ := h.2 i hi
  have := h1 0 _ rfl
  rw [show drE.k = 1 from rfl, Nat.mul_one, Nat.add_zero] at this
  exact ⟨b, off, x, e, hb, hx, this⟩
theorem Try.infoPk : (Try.prog.info? 58).map (fun i => (i.zero, i.size, i.bytes)) = some (some (.pointer none), 1, 8) := by kernel_rfl
/-- A task that is there has deeds. -/
def Ned (TL : List (Option Tk)) : Prop := ∀ (i : Nat) (k : Tk), TL[i]? = some (some k) → k.D ≠ []
theorem Ned.add {TL : List (Option Tk)} (h : Ned TL) {x : Option Tk} (hx : ∀ k, x = some k → k.D ≠ []) : Ned (TL ++ [x]) := fun i k hk => by
  by_cases hi : i < TL.length
  · rw [List.getElem?_append_left hi] at hk
    exact h i k hk
  · have h1 := (List.getElem?_eq_some_iff.1 hk).1
    rw [List.length_append, List.length_singleton] at h1
    obtain rfl : i = TL.length := by omega
    rw [List.getElem?_append_right (Nat.le_refl _), Nat.sub_self] at hk
    simp at hk
    exact hx k hk
/-- What tasks answers. -/
def Tasked (w : World) (o : Nat → Nat) (lv : Value) (L : List Lk) (ds : List Dr) (e : Ending) (w' : World) : Prop :=
  ∃ o' TL vo vw, e = .returned (.tuple #[vo, vw]) ∧ Tms w o w' o' lv L TL TL TL vo vw ∧ TL.map dsOf = ds.map Dr.l ∧ Ned TL
set_option maxHeartbeats 4000000 in
theorem tasks_any {w : World} {o : Nat → Nat} {lv : Value} {L : List Lk} (y : Sy w o lv L [] (fun _ => []) (fun _ => .pointer none)) {a : Option Addr} {c : Nat} {ds : List Dr} (hr : GRow drE w a ds.length ds) (ha : ∀ z, a = some z → 0 < ds.length → o z.block = 0) (hd : ∀ d ∈ ds, d.In w o) (hn : ds.length ≤ 4000000) :
    Calls Try.prog 16 #[.slice a ds.length c] w (Tasked w o lv L ds) := by
  have HH := hideIt (And.intro y (And.intro hr (And.intro ha hd)))
  have i0 : (ds.length : Int) ≤ 4000000 := by omega
  clear y hr ha hd
  go_enter Try.func16, Try.ntmps16
  go_wp2_with fail
  go_loopw [4, 5, 6] (fun vo vw iv wr => ∃ (j : Nat) (o' : Nat → Nat) (TL : List (Option Tk)), j ≤ ds.length ∧ iv = .int .i64 j ∧ Tms w o wr o' lv L TL TL TL vo vw ∧ TL.map dsOf = (ds.take j).map Dr.l ∧ Ned TL) (fun _ _ iv _ => ds.length - (intOf iv).toNat)
  case atStart => exact ⟨0, o, [], Nat.zero_le _, rfl, ⟨HH.out.1, orow_nil _ _ _ _, fun k hk => (by cases hk), orow_nil _ _ _ _, fun k hk => (by cases hk), Go.rfl⟩, rfl, fun i k h => (by simp at h)⟩
  case round =>
    obtain ⟨j, o', TL, hj, rfl, tm, hds, hned⟩ := hrel
    have HNe := hideIt hned
    clear hned
    have hlen : TL.length = j := by
      have := congrArg List.length hds
      rw [List.length_map, List.length_map, List.length_take] at this
      omega
    by_cases hjn : j < ds.length
    · have i1 : (j : Int) < (ds.length : Int) := by omega
      have h56 : ¬ A56 0 := by unfold A56; omega
      have hr' : GRow drE wr a ds.length ds := HH.out.2.1.but tm.go.but (fun z hz hn s => h56 (by rw [← HH.out.2.2.1 z hz hn]; exact s))
      obtain ⟨b, off, d, ea, hb, hdj, c0⟩ := dr_at hr' hjn
      have hdi := (HH.out.2.2.2 d (List.mem_of_getElem? hdj)).go h56 tm.go
      have hts : (ds.take (j + 1)).map Dr.l = TL.map dsOf ++ [d.l] := by
        obtain ⟨h1, h2⟩ := List.getElem?_eq_some_iff.1 hdj
        rw [List.take_succ_eq_append_getElem h1, List.map_append, hds, h2]; rfl
      have HT := hideIt (And.intro tm (And.intro hdi hts))
      have HN := hideIt (show (TL.map ivOf).length ≤ 1073741824 ∧ TL.length ≤ 1073741824 by rw [List.length_map]; omega)
      obtain ⟨ao, co, eo, _⟩ := tm.oo.row
      obtain ⟨aw, cw, ew, _⟩ := tm.ow.row
      rw [List.length_map] at eo
      subst eo
      subst ew
      clear tm hds hlen hr' hdj hdi hts
      subst ea
      by_cases hz : d.l.length = 0
      · have hzi : ((d.l.length : Int) == 0) = true := by rw [hz]; rfl
        have hdl : d.l = [] := List.length_eq_zero_iff.1 hz
        clear hz
        go_wp2_with (at_builtin; go_must (refine app_lie (E := ivE) rfl (.tmp 20) (.tmp 21) 46 97 Try.underlying46 Try.infoIf rfl (by decide) rfl _ (TL.map ivOf) rfl (own_after HT.out.1.oo (After.rfl.alloc _)) ⟨wr.heap.size, 0, none⟩ 1 (ivOf none) rfl (lit_row (heap_alloc_new wr _) rfl rfl) HN.out.1 ?_))
        intro g1 cp1 w1 p1 p2 p3 p4
        have T1 := hideIt ((HT.out.1.after (After.rfl.alloc (.cells #[.nilIface] 97))).out (x := none) (by rw [List.map_append]; exact p1) p2 (by rw [World.size_alloc]; exact p3) p4)
        clear p1 p2 p3 p4
        go_wp2_with (at_builtin; go_must (refine app_lie (E := pkE) rfl (.tmp 23) (.tmp 24) 55 58 Try.underlying55 Try.infoPk rfl (by decide) rfl _ TL rfl (own_after T1.out.ow (After.rfl.alloc _)) ⟨w1.heap.size, 0, none⟩ 1 none rfl (lit_row (heap_alloc_new w1 _) rfl rfl) HN.out.2 ?_))
        intro g2 cp2 w2 p1 p2 p3 p4
        have T2 := hideIt ((T1.out.after (After.rfl.alloc (.cells #[.pointer none] 58))).own (x := none) p1 p2 (by rw [World.size_alloc]; exact p3) p4)
        clear p1 p2 p3 p4 T1
        go_wp2_with fail
        go_roundw
        case rel =>
          exact ⟨j + 1, _, TL ++ [none], by omega, by go_num, ⟨T2.out.sy.addNone, T2.out.oo, T2.out.l5, T2.out.ow, T2.out.l6, T2.out.go⟩, by rw [List.map_append, HT.out.2.2, hdl]; rfl, HNe.out.add (fun k hk => by cases hk)⟩
        case measure => simp [intOf]; omega
      · have hzi : ((d.l.length : Int) == 0) = false := by
          have e : ¬ (d.l.length : Int) = 0 := by omega
          simpa using e
        obtain ⟨W, hW⟩ : ∃ W, W = wr.alloc (.cells #[.slice d.a d.l.length d.c, .slice none 0 0, .pointer none] 63) := ⟨_, rfl⟩
        have T0 := HT.out.1.task HT.out.2.1 hW
        have T0 := hideIt T0
        have hs : W.heap.size = wr.heap.size + 1 := by rw [hW]; simp
        have HW := hideIt (And.intro hW hs)
        have HDn := hideIt (show d.l ≠ [] from fun e => hz (by rw [e]; rfl))
        clear hz hW hs
        go_wp2_with (at_builtin; rw [← HW.out.1]; go_must (refine app_lie (E := ivE) rfl (.tmp 32) (.tmp 35) 46 97 Try.underlying46 Try.infoIf rfl (by decide) rfl _ (TL.map ivOf) rfl (own_after T0.out.oo (After.rfl.alloc _)) ⟨wr.heap.size + 1, 0, none⟩ 1 (ivOf (some ⟨wr.heap.size, d.a, d.c, d.l⟩)) rfl (lit_row (by rw [← HW.out.2]; exact heap_alloc_new W _) rfl rfl) HN.out.1 ?_))
        intro g1 cp1 w1 p1 p2 p3 p4
        have T1 := hideIt ((T0.out.after (After.rfl.alloc (.cells #[.iface 58 (Ptr wr.heap.size)] 97))).out (x := some ⟨wr.heap.size, d.a, d.c, d.l⟩) (by rw [List.map_append]; exact p1) p2 (by rw [World.size_alloc]; exact p3) p4)
        clear p1 p2 p3 p4 T0
        go_wp2_with (at_builtin; go_must (refine app_lie (E := pkE) rfl (.tmp 37) (.tmp 39) 55 58 Try.underlying55 Try.infoPk rfl (by decide) rfl _ TL rfl (own_after T1.out.ow (After.rfl.alloc _)) ⟨w1.heap.size, 0, none⟩ 1 (some ⟨wr.heap.size, d.a, d.c, d.l⟩) rfl (lit_row (heap_alloc_new w1 _) rfl rfl) HN.out.2 ?_))
        intro g2 cp2 w2 p1 p2 p3 p4
        have T2 := hideIt ((T1.out.after (After.rfl.alloc (.cells #[Ptr wr.heap.size] 58))).own (x := some ⟨wr.heap.size, d.a, d.c, d.l⟩) p1 p2 (by rw [World.size_alloc]; exact p3) p4)
        clear p1 p2 p3 p4 T1
        go_wp2_with fail
        go_roundw
        case rel =>
          exact ⟨j + 1, _, TL ++ [some ⟨wr.heap.size, d.a, d.c, d.l⟩], by omega, by go_num, T2.out, by rw [List.map_append, HT.out.2.2]; rfl, HNe.out.add (fun k hk e => by cases hk; exact HDn.out e)⟩
        case measure => simp [intOf]; omega
    · have i1 : ¬ (j : Int) < (ds.length : Int) := by omega
      rw [List.take_of_length_le (by omega)] at hds
      have HT := hideIt (And.intro tm hds)
      obtain ⟨ao, co, eo, _⟩ := tm.oo.row
      obtain ⟨aw, cw, ew, _⟩ := tm.ow.row
      rw [List.length_map] at eo
      subst eo
      subst ew
      clear tm hds hlen
      go_wp2_with fail
      go_ret2
      exact ⟨o', TL, _, _, rfl, HT.out.1, HT.out.2, HNe.out⟩
end Go.Proofs.Ytkjjjibglaffnaa
