/-
  Laid together: RefFld, RefBox.
-/
import Derived.Test.YthcfdoafncbliaaGreatB17
import Derived.Test.YthcfdoafncbliaaGreatB20
/-
  The document's fields and box: what a message has, as bytes.
-/
namespace Go.Proofs.YthcfdoafncbliaaGreat
open Go.RowKit
set_option maxRecDepth 8000
/-- At block g there is a writer that was made behind w0, and all that it has. -/
def RwN (w0 W : World) (g : Nat) (zs : List Int) : Prop := w0.heap.size ≤ g ∧ ∃ v, RwAt W g v zs ∧ (∀ k, v.ownBlock = some k → w0.heap.size ≤ k) ∧ After w0 W
theorem RwN.after {w0 W : World} {g : Nat} {zs : List Int} (n : RwN w0 W g zs) : After w0 W := n.2.choose_spec.2.2
theorem RwN.step {w0 W W' : World} {g : Nat} {v : Value} {zs : List Int} (hg : w0.heap.size ≤ g) (ho : ∀ k, v.ownBlock = some k → w0.heap.size ≤ k) (a : After w0 W) (t : RwTo W W' g v zs) : RwN w0 W' g zs := by
  obtain ⟨v', r, b, gr⟩ := t
  refine ⟨hg, v', r, fun k hk => ?_, a.but.then b (fun i hi h => ?_)⟩
  · rcases gr with h | ⟨k', h, hk'⟩
    · exact ho k (by rw [← h]; exact hk)
    · rw [h] at hk; cases hk; exact Nat.le_trans a.size hk'
  · rcases h with h | h
    · omega
    · have := ho i h; omega
theorem RwN.on {w0 W W' : World} {g : Nat} {zs : List Int} (n : RwN w0 W g zs) (a : After W W') : RwN w0 W' g zs := by
  obtain ⟨hg, v, r, ho, aw⟩ := n
  exact ⟨hg, v, r.after a, ho, aw.trans a⟩
theorem RwN.at {w0 W : World} {g p : Nat} {zs : List Int} {o : Obj} (n : RwN w0 W g zs) (h : w0.heap[p]? = some o) : W.heap[p]? = some o := keep2 h n.after
theorem n_u16 (w0 W : World) (g : Nat) (zs : List Int) (x : Int) (n : RwN w0 W g zs) (hl : zs.length ≤ 1000000) : Calls Tryz.prog 73 #[Ptr g, .int .i64 x] W fun e W' => ∃ E, e = .returned (.int .i64 E) ∧ RwN w0 W' g (zs ++ wnNew 2 65535 x) := by
  obtain ⟨hg, v, r, ho, aw⟩ := n
  exact (refWU16_any W g v zs x r (by omega)).mono fun e W' ⟨he, t⟩ => ⟨_, he, RwN.step hg ho aw t⟩
theorem n_u8 (w0 W : World) (g : Nat) (zs : List Int) (x : Int) (n : RwN w0 W g zs) (hl : zs.length ≤ 1000000) : Calls Tryz.prog 75 #[Ptr g, .int .i64 x] W fun e W' => ∃ E, e = .returned (.int .i64 E) ∧ RwN w0 W' g (zs ++ wnNew 1 255 x) := by
  obtain ⟨hg, v, r, ho, aw⟩ := n
  exact (refWU8_any W g v zs x r (by omega)).mono fun e W' ⟨he, t⟩ => ⟨_, he, RwN.step hg ho aw t⟩
theorem n_u32 (w0 W : World) (g : Nat) (zs : List Int) (x : Int) (n : RwN w0 W g zs) (hl : zs.length ≤ 1000000) (h0 : 0 ≤ x) (h1 : x < 4294967296) : Calls Tryz.prog 77 #[Ptr g, .int .u32 x] W fun e W' => ∃ E, e = .returned (.int .i64 E) ∧ RwN w0 W' g (zs ++ bytesOf 4 x) := by
  obtain ⟨hg, v, r, ho, aw⟩ := n
  exact (refWU32_any W g v zs x r (by omega) h0 h1).mono fun e W' ⟨he, t⟩ => ⟨_, he, RwN.step hg ho aw t⟩
theorem n_oct (w0 W : World) (g : Nat) (zs : List Int) (a : Option Addr) (n c : Nat) (bs : List Int) (hn : RwN w0 W g zs) (rb : Row w0 a n bs) (ha : a = none → n = 0 ∧ c = 0) (hn' : n ≤ 140737488355328) (hl : zs.length ≤ 1000000) : Calls Tryz.prog 74 #[Ptr g, .slice a n c] W fun e W' => ∃ E, e = .returned (.int .i64 E) ∧ RwN w0 W' g (zs ++ woNew bs) := by
  obtain ⟨hg, v, r, ho, aw⟩ := hn
  refine (refWOctets_any W g v zs a n c bs r (rb.after aw) ha (fun y hy h0 hO => ?_) hn' (by omega)).mono fun e W' ⟨he, t⟩ => ⟨_, he, RwN.step hg ho aw t⟩
  obtain ⟨b, off, e, hl', _⟩ := rb.2.2 0 h0
  rw [hy] at e
  cases e
  rcases hO with h | h
  · have h : b = g := h; omega
  · have := ho _ h; simp at this; omega
theorem wo_len (bs : List Int) : (woNew bs).length ≤ 1000000 := by
  unfold woNew
  split
  · rw [List.length_append, bytesOf_length]; omega
  · simp
def objB (o : Ob) : List Int := wnNew 2 65535 o.h ++ (wnNew 2 65535 o.u ++ wnNew 1 255 (if o.l = true then 1 else 0))
def obsB (o : Bi) : List Int := wnNew 2 65535 o.h ++ (wnNew 1 255 (2 + 2 * (if o.l = true then 1 else 0)) ++ (if o.l = true then bytesOf 4 o.b else wnNew 2 65535 o.b))
def fldB (M : Msg) : List Int :=
  if M.kind = 57856 then woNew M.sys ++ wnNew 2 65535 M.config
  else if M.kind = 58112 then wnNew 2 65535 M.result ++ wnNew 2 65535 M.config
  else if M.kind = 3356 then wnNew 2 65535 M.config ++ wnNew 2 65535 M.objs.length ++ M.objs.flatMap objB
  else if M.kind = 3357 then wnNew 2 65535 M.config ++ wnNew 2 65535 M.result
  else if M.kind = 3358 then wnNew 2 65535 M.obs.length ++ M.obs.flatMap obsB
  else wnNew 2 65535 M.reason
theorem flat_more {α : Type} (f : α → List Int) (l : List α) (j : Nat) (o : α) (h : l[j]? = some o) : (l.take (j + 1)).flatMap f = (l.take j).flatMap f ++ f o := by
  have hj : j < l.length := by
    rcases Nat.lt_or_ge j l.length with h' | h'
    · exact h'
    · rw [List.getElem?_eq_none h'] at h; cases h
  rw [List.take_succ_eq_append_getElem hj, List.flatMap_append]
  have e : l[j] = o := by rw [List.getElem?_eq_getElem hj] at h; exact Option.some.inj h
  rw [e]
  simp
theorem objB_len (o : Ob) : (objB o).length ≤ 5 := by
  unfold objB
  rw [List.length_append, List.length_append]
  have := wnNew_len 2 65535 o.h
  have := wnNew_len 2 65535 o.u
  have := wnNew_len 1 255 (if o.l = true then 1 else 0)
  omega
theorem obsB_len (o : Bi) : (obsB o).length ≤ 7 := by
  unfold obsB
  rw [List.length_append, List.length_append]
  have := wnNew_len 2 65535 o.h
  have := wnNew_len 1 255 (2 + 2 * (if o.l = true then 1 else 0))
  have h : (if o.l = true then bytesOf 4 o.b else wnNew 2 65535 o.b).length ≤ 4 := by
    split
    · rw [bytesOf_length]; omega
    · have := wnNew_len 2 65535 o.b; omega
  omega
theorem flat_len {α : Type} (f : α → List Int) (K : Nat) (hf : ∀ o, (f o).length ≤ K) (l : List α) : (l.flatMap f).length ≤ K * l.length := by
  induction l with
  | nil => simp
  | cons a r ih =>
    rw [List.flatMap_cons, List.length_append, List.length_cons]
    have := hf a
    rw [Nat.mul_add]
    omega
/-- What the document answers of a message's fields. -/
def Flds (w w' : World) (e : Ending) (bs : List Int) : Prop := ∃ v, e = .returned v ∧ w'.ownsRow w.heap.size 5 1 v bs.length (u8s bs) ∧ Bs bs ∧ After w w'
theorem RwN.ends {w w0 W : World} {g : Nat} {zs : List Int} (a : After w w0) (n : RwN w0 W g zs) : ∃ v, W.cell? ⟨g, 0, none⟩ = some v ∧ Flds w W (.returned v) zs := by
  obtain ⟨hg, v, r, ho, aw⟩ := n
  exact ⟨v, (one_at r.1).2.1, v, rfl, own_base r.2.1 (fun k hk => Nat.le_trans a.size (ho k hk)), r.2.2.2, a.trans aw⟩
set_option maxHeartbeats 2000000 in
theorem fld_57856 (w : World) (P : Nat → Prop) (ms : List Int) (c r q : Int) (mo : List Ob) (mb : List Bi) (sa : Option Addr) (sc : Nat) (oa : Option Addr) (oc : Nat) (ba : Option Addr) (bc : Nat) (x : MsgX w P ⟨57856, ms, c, r, q, mo, mb⟩ sa sc oa oc ba bc) (hol : mo.length ≤ 16) (hbl : mb.length ≤ 64) :
    Calls Tryz.prog 52 #[(⟨57856, ms, c, r, q, mo, mb⟩ : Msg).val sa sc oa oc ba bc] w fun e w' => Flds w w' e (fldB ⟨57856, ms, c, r, q, mo, mb⟩) := by
  obtain ⟨w0, hw0⟩ : ∃ w0, w.alloc (.cells #[.int .i64 57856, .slice sa ms.length sc, .int .i64 c, .int .i64 r, .int .i64 q, .slice oa mo.length oc, .slice ba mb.length bc] 31) = w0 := ⟨_, rfl⟩
  have hA : After w w0 := by rw [← hw0]; exact After.rfl.alloc _
  have b0 : w0.heap[w.heap.size]? = some (.cells #[.int .i64 57856, .slice sa ms.length sc, .int .i64 c, .int .i64 r, .int .i64 q, .slice oa mo.length oc, .slice ba mb.length bc] 31 (0, 0)) := by rw [← hw0]; exact new1 _ _
  have HX := hideIt (And.intro hA (And.intro b0 (x.after hA)))
  have HL := hideIt (And.intro hol hbl)
  have HW := hideIt hw0
  unfold Msg.val
  dsimp only
  clear hA b0 hw0 x hol hbl
  generalize hms : ms.length = s at HX HW ⊢
  generalize hmo : mo.length = o at HX HW HL ⊢
  generalize hmb : mb.length = b at HX HW HL ⊢
  have HS := hideIt (And.intro hms (And.intro hmo hmb))
  clear hms hmo hmb
  go_enter Tryz.func52, Tryz.ntmps52
  go_wp2_with fail
  rw [HW.out]
  refine (refWrite_any w0).mono ?_
  rintro e w1 ⟨rfl, r1, a1⟩
  have n1 : RwN w0 w1 w0.heap.size [] := ⟨Nat.le_refl _, _, r1, (fun k h => by cases h), a1⟩
  generalize w0.heap.size = g at n1 ⊢
  obtain ⟨_, ⟨c0, c1, c2, c3, c4, c5, c6⟩, _⟩ := seven_at (n1.at HX.out.2.1)
  have HN := hideIt n1
  clear r1 a1 n1
  go_wp2_with fail
  refine (n_oct w0 _ g [] sa s sc ms HN.out (HS.out.1 ▸ HX.out.2.2.sr) (fun h => HS.out.1 ▸ HX.out.2.2.sn h) (HS.out.1 ▸ HX.out.2.2.sl) (by simp)).mono ?_
  rintro e w2 ⟨E2, rfl, n2⟩
  clear c0 c1 c2 c3 c4 c5 c6
  obtain ⟨_, ⟨c0, c1, c2, c3, c4, c5, c6⟩, _⟩ := seven_at (n2.at HX.out.2.1)
  have HN2 := hideIt n2
  clear n2
  go_wp2_with fail
  refine (n_u16 w0 _ g _ c HN2.out (by rw [List.nil_append]; exact wo_len ms)).mono ?_
  rintro e w3 ⟨E3, rfl, n3⟩
  clear c0 c1 c2 c3 c4 c5 c6
  obtain ⟨_, ⟨c0, c1, c2, c3, c4, c5, c6⟩, _⟩ := seven_at (n3.at HX.out.2.1)
  have HN3 := hideIt n3
  clear n3
  obtain ⟨v9, cv, hfl⟩ := RwN.ends HX.out.1 HN3.out
  have HF := hideIt hfl
  clear hfl
  go_wp2_with fail
  go_ret
  have hfl := HF.out
  rw [List.nil_append] at hfl
  exact hfl
set_option maxHeartbeats 2000000 in
theorem fld_58112 (w : World) (P : Nat → Prop) (ms : List Int) (c r q : Int) (mo : List Ob) (mb : List Bi) (sa : Option Addr) (sc : Nat) (oa : Option Addr) (oc : Nat) (ba : Option Addr) (bc : Nat) (x : MsgX w P ⟨58112, ms, c, r, q, mo, mb⟩ sa sc oa oc ba bc) (hol : mo.length ≤ 16) (hbl : mb.length ≤ 64) :
    Calls Tryz.prog 52 #[(⟨58112, ms, c, r, q, mo, mb⟩ : Msg).val sa sc oa oc ba bc] w fun e w' => Flds w w' e (fldB ⟨58112, ms, c, r, q, mo, mb⟩) := by
  obtain ⟨w0, hw0⟩ : ∃ w0, w.alloc (.cells #[.int .i64 58112, .slice sa ms.length sc, .int .i64 c, .int .i64 r, .int .i64 q, .slice oa mo.length oc, .slice ba mb.length bc] 31) = w0 := ⟨_, rfl⟩
  have hA : After w w0 := by rw [← hw0]; exact After.rfl.alloc _
  have b0 : w0.heap[w.heap.size]? = some (.cells #[.int .i64 58112, .slice sa ms.length sc, .int .i64 c, .int .i64 r, .int .i64 q, .slice oa mo.length oc, .slice ba mb.length bc] 31 (0, 0)) := by rw [← hw0]; exact new1 _ _
  have HX := hideIt (And.intro hA (And.intro b0 (x.after hA)))
  have HL := hideIt (And.intro hol hbl)
  have HW := hideIt hw0
  unfold Msg.val
  dsimp only
  clear hA b0 hw0 x hol hbl
  generalize hms : ms.length = s at HX HW ⊢
  generalize hmo : mo.length = o at HX HW HL ⊢
  generalize hmb : mb.length = b at HX HW HL ⊢
  have HS := hideIt (And.intro hms (And.intro hmo hmb))
  clear hms hmo hmb
  go_enter Tryz.func52, Tryz.ntmps52
  go_wp2_with fail
  rw [HW.out]
  refine (refWrite_any w0).mono ?_
  rintro e w1 ⟨rfl, r1, a1⟩
  have n1 : RwN w0 w1 w0.heap.size [] := ⟨Nat.le_refl _, _, r1, (fun k h => by cases h), a1⟩
  generalize w0.heap.size = g at n1 ⊢
  obtain ⟨_, ⟨c0, c1, c2, c3, c4, c5, c6⟩, _⟩ := seven_at (n1.at HX.out.2.1)
  have HN := hideIt n1
  clear r1 a1 n1
  go_wp2_with fail
  refine (n_u16 w0 _ g [] r HN.out (by simp)).mono ?_
  rintro e w2 ⟨E2, rfl, n2⟩
  clear c0 c1 c2 c3 c4 c5 c6
  obtain ⟨_, ⟨c0, c1, c2, c3, c4, c5, c6⟩, _⟩ := seven_at (n2.at HX.out.2.1)
  have HN2 := hideIt n2
  clear n2
  go_wp2_with fail
  refine (n_u16 w0 _ g _ c HN2.out (by rw [List.nil_append]; have := wnNew_len 2 65535 r; omega)).mono ?_
  rintro e w3 ⟨E3, rfl, n3⟩
  clear c0 c1 c2 c3 c4 c5 c6
  obtain ⟨_, ⟨c0, c1, c2, c3, c4, c5, c6⟩, _⟩ := seven_at (n3.at HX.out.2.1)
  have HN3 := hideIt n3
  clear n3
  obtain ⟨v9, cv, hfl⟩ := RwN.ends HX.out.1 HN3.out
  have HF := hideIt hfl
  clear hfl
  go_wp2_with fail
  go_ret
  have hfl := HF.out
  rw [List.nil_append] at hfl
  exact hfl
set_option maxHeartbeats 2000000 in
theorem fld_3357 (w : World) (P : Nat → Prop) (ms : List Int) (c r q : Int) (mo : List Ob) (mb : List Bi) (sa : Option Addr) (sc : Nat) (oa : Option Addr) (oc : Nat) (ba : Option Addr) (bc : Nat) (x : MsgX w P ⟨3357, ms, c, r, q, mo, mb⟩ sa sc oa oc ba bc) (hol : mo.length ≤ 16) (hbl : mb.length ≤ 64) :
    Calls Tryz.prog 52 #[(⟨3357, ms, c, r, q, mo, mb⟩ : Msg).val sa sc oa oc ba bc] w fun e w' => Flds w w' e (fldB ⟨3357, ms, c, r, q, mo, mb⟩) := by
  obtain ⟨w0, hw0⟩ : ∃ w0, w.alloc (.cells #[.int .i64 3357, .slice sa ms.length sc, .int .i64 c, .int .i64 r, .int .i64 q, .slice oa mo.length oc, .slice ba mb.length bc] 31) = w0 := ⟨_, rfl⟩
  have hA : After w w0 := by rw [← hw0]; exact After.rfl.alloc _
  have b0 : w0.heap[w.heap.size]? = some (.cells #[.int .i64 3357, .slice sa ms.length sc, .int .i64 c, .int .i64 r, .int .i64 q, .slice oa mo.length oc, .slice ba mb.length bc] 31 (0, 0)) := by rw [← hw0]; exact new1 _ _
  have HX := hideIt (And.intro hA (And.intro b0 (x.after hA)))
  have HL := hideIt (And.intro hol hbl)
  have HW := hideIt hw0
  unfold Msg.val
  dsimp only
  clear hA b0 hw0 x hol hbl
  generalize hms : ms.length = s at HX HW ⊢
  generalize hmo : mo.length = o at HX HW HL ⊢
  generalize hmb : mb.length = b at HX HW HL ⊢
  have HS := hideIt (And.intro hms (And.intro hmo hmb))
  clear hms hmo hmb
  go_enter Tryz.func52, Tryz.ntmps52
  go_wp2_with fail
  rw [HW.out]
  refine (refWrite_any w0).mono ?_
  rintro e w1 ⟨rfl, r1, a1⟩
  have n1 : RwN w0 w1 w0.heap.size [] := ⟨Nat.le_refl _, _, r1, (fun k h => by cases h), a1⟩
  generalize w0.heap.size = g at n1 ⊢
  obtain ⟨_, ⟨c0, c1, c2, c3, c4, c5, c6⟩, _⟩ := seven_at (n1.at HX.out.2.1)
  have HN := hideIt n1
  clear r1 a1 n1
  go_wp2_with fail
  refine (n_u16 w0 _ g [] c HN.out (by simp)).mono ?_
  rintro e w2 ⟨E2, rfl, n2⟩
  clear c0 c1 c2 c3 c4 c5 c6
  obtain ⟨_, ⟨c0, c1, c2, c3, c4, c5, c6⟩, _⟩ := seven_at (n2.at HX.out.2.1)
  have HN2 := hideIt n2
  clear n2
  go_wp2_with fail
  refine (n_u16 w0 _ g _ r HN2.out (by rw [List.nil_append]; have := wnNew_len 2 65535 c; omega)).mono ?_
  rintro e w3 ⟨E3, rfl, n3⟩
  clear c0 c1 c2 c3 c4 c5 c6
  obtain ⟨_, ⟨c0, c1, c2, c3, c4, c5, c6⟩, _⟩ := seven_at (n3.at HX.out.2.1)
  have HN3 := hideIt n3
  clear n3
  obtain ⟨v9, cv, hfl⟩ := RwN.ends HX.out.1 HN3.out
  have HF := hideIt hfl
  clear hfl
  go_wp2_with fail
  go_ret
  have hfl := HF.out
  rw [List.nil_append] at hfl
  exact hfl
set_option maxHeartbeats 2000000 in
theorem fld_58368 (w : World) (P : Nat → Prop) (ms : List Int) (c r q : Int) (mo : List Ob) (mb : List Bi) (sa : Option Addr) (sc : Nat) (oa : Option Addr) (oc : Nat) (ba : Option Addr) (bc : Nat) (x : MsgX w P ⟨58368, ms, c, r, q, mo, mb⟩ sa sc oa oc ba bc) (hol : mo.length ≤ 16) (hbl : mb.length ≤ 64) :
    Calls Tryz.prog 52 #[(⟨58368, ms, c, r, q, mo, mb⟩ : Msg).val sa sc oa oc ba bc] w fun e w' => Flds w w' e (fldB ⟨58368, ms, c, r, q, mo, mb⟩) := by
  obtain ⟨w0, hw0⟩ : ∃ w0, w.alloc (.cells #[.int .i64 58368, .slice sa ms.length sc, .int .i64 c, .int .i64 r, .int .i64 q, .slice oa mo.length oc, .slice ba mb.length bc] 31) = w0 := ⟨_, rfl⟩
  have hA : After w w0 := by rw [← hw0]; exact After.rfl.alloc _
  have b0 : w0.heap[w.heap.size]? = some (.cells #[.int .i64 58368, .slice sa ms.length sc, .int .i64 c, .int .i64 r, .int .i64 q, .slice oa mo.length oc, .slice ba mb.length bc] 31 (0, 0)) := by rw [← hw0]; exact new1 _ _
  have HX := hideIt (And.intro hA (And.intro b0 (x.after hA)))
  have HL := hideIt (And.intro hol hbl)
  have HW := hideIt hw0
  unfold Msg.val
  dsimp only
  clear hA b0 hw0 x hol hbl
  generalize hms : ms.length = s at HX HW ⊢
  generalize hmo : mo.length = o at HX HW HL ⊢
  generalize hmb : mb.length = b at HX HW HL ⊢
  have HS := hideIt (And.intro hms (And.intro hmo hmb))
  clear hms hmo hmb
  go_enter Tryz.func52, Tryz.ntmps52
  go_wp2_with fail
  rw [HW.out]
  refine (refWrite_any w0).mono ?_
  rintro e w1 ⟨rfl, r1, a1⟩
  have n1 : RwN w0 w1 w0.heap.size [] := ⟨Nat.le_refl _, _, r1, (fun k h => by cases h), a1⟩
  generalize w0.heap.size = g at n1 ⊢
  obtain ⟨_, ⟨c0, c1, c2, c3, c4, c5, c6⟩, _⟩ := seven_at (n1.at HX.out.2.1)
  have HN := hideIt n1
  clear r1 a1 n1
  go_wp2_with fail
  refine (n_u16 w0 _ g [] q HN.out (by simp)).mono ?_
  rintro e w2 ⟨E2, rfl, n2⟩
  clear c0 c1 c2 c3 c4 c5 c6
  obtain ⟨_, ⟨c0, c1, c2, c3, c4, c5, c6⟩, _⟩ := seven_at (n2.at HX.out.2.1)
  have HN2 := hideIt n2
  clear n2
  obtain ⟨v9, cv, hfl⟩ := RwN.ends HX.out.1 HN2.out
  have HF := hideIt hfl
  clear hfl
  go_wp2_with fail
  go_ret
  have hfl := HF.out
  rw [List.nil_append] at hfl
  exact hfl
set_option maxHeartbeats 2000000 in
theorem fld_58624 (w : World) (P : Nat → Prop) (ms : List Int) (c r q : Int) (mo : List Ob) (mb : List Bi) (sa : Option Addr) (sc : Nat) (oa : Option Addr) (oc : Nat) (ba : Option Addr) (bc : Nat) (x : MsgX w P ⟨58624, ms, c, r, q, mo, mb⟩ sa sc oa oc ba bc) (hol : mo.length ≤ 16) (hbl : mb.length ≤ 64) :
    Calls Tryz.prog 52 #[(⟨58624, ms, c, r, q, mo, mb⟩ : Msg).val sa sc oa oc ba bc] w fun e w' => Flds w w' e (fldB ⟨58624, ms, c, r, q, mo, mb⟩) := by
  obtain ⟨w0, hw0⟩ : ∃ w0, w.alloc (.cells #[.int .i64 58624, .slice sa ms.length sc, .int .i64 c, .int .i64 r, .int .i64 q, .slice oa mo.length oc, .slice ba mb.length bc] 31) = w0 := ⟨_, rfl⟩
  have hA : After w w0 := by rw [← hw0]; exact After.rfl.alloc _
  have b0 : w0.heap[w.heap.size]? = some (.cells #[.int .i64 58624, .slice sa ms.length sc, .int .i64 c, .int .i64 r, .int .i64 q, .slice oa mo.length oc, .slice ba mb.length bc] 31 (0, 0)) := by rw [← hw0]; exact new1 _ _
  have HX := hideIt (And.intro hA (And.intro b0 (x.after hA)))
  have HL := hideIt (And.intro hol hbl)
  have HW := hideIt hw0
  unfold Msg.val
  dsimp only
  clear hA b0 hw0 x hol hbl
  generalize hms : ms.length = s at HX HW ⊢
  generalize hmo : mo.length = o at HX HW HL ⊢
  generalize hmb : mb.length = b at HX HW HL ⊢
  have HS := hideIt (And.intro hms (And.intro hmo hmb))
  clear hms hmo hmb
  go_enter Tryz.func52, Tryz.ntmps52
  go_wp2_with fail
  rw [HW.out]
  refine (refWrite_any w0).mono ?_
  rintro e w1 ⟨rfl, r1, a1⟩
  have n1 : RwN w0 w1 w0.heap.size [] := ⟨Nat.le_refl _, _, r1, (fun k h => by cases h), a1⟩
  generalize w0.heap.size = g at n1 ⊢
  obtain ⟨_, ⟨c0, c1, c2, c3, c4, c5, c6⟩, _⟩ := seven_at (n1.at HX.out.2.1)
  have HN := hideIt n1
  clear r1 a1 n1
  go_wp2_with fail
  refine (n_u16 w0 _ g [] q HN.out (by simp)).mono ?_
  rintro e w2 ⟨E2, rfl, n2⟩
  clear c0 c1 c2 c3 c4 c5 c6
  obtain ⟨_, ⟨c0, c1, c2, c3, c4, c5, c6⟩, _⟩ := seven_at (n2.at HX.out.2.1)
  have HN2 := hideIt n2
  clear n2
  obtain ⟨v9, cv, hfl⟩ := RwN.ends HX.out.1 HN2.out
  have HF := hideIt hfl
  clear hfl
  go_wp2_with fail
  go_ret
  have hfl := HF.out
  rw [List.nil_append] at hfl
  exact hfl
set_option maxHeartbeats 2000000 in
theorem fld_58880 (w : World) (P : Nat → Prop) (ms : List Int) (c r q : Int) (mo : List Ob) (mb : List Bi) (sa : Option Addr) (sc : Nat) (oa : Option Addr) (oc : Nat) (ba : Option Addr) (bc : Nat) (x : MsgX w P ⟨58880, ms, c, r, q, mo, mb⟩ sa sc oa oc ba bc) (hol : mo.length ≤ 16) (hbl : mb.length ≤ 64) :
    Calls Tryz.prog 52 #[(⟨58880, ms, c, r, q, mo, mb⟩ : Msg).val sa sc oa oc ba bc] w fun e w' => Flds w w' e (fldB ⟨58880, ms, c, r, q, mo, mb⟩) := by
  obtain ⟨w0, hw0⟩ : ∃ w0, w.alloc (.cells #[.int .i64 58880, .slice sa ms.length sc, .int .i64 c, .int .i64 r, .int .i64 q, .slice oa mo.length oc, .slice ba mb.length bc] 31) = w0 := ⟨_, rfl⟩
  have hA : After w w0 := by rw [← hw0]; exact After.rfl.alloc _
  have b0 : w0.heap[w.heap.size]? = some (.cells #[.int .i64 58880, .slice sa ms.length sc, .int .i64 c, .int .i64 r, .int .i64 q, .slice oa mo.length oc, .slice ba mb.length bc] 31 (0, 0)) := by rw [← hw0]; exact new1 _ _
  have HX := hideIt (And.intro hA (And.intro b0 (x.after hA)))
  have HL := hideIt (And.intro hol hbl)
  have HW := hideIt hw0
  unfold Msg.val
  dsimp only
  clear hA b0 hw0 x hol hbl
  generalize hms : ms.length = s at HX HW ⊢
  generalize hmo : mo.length = o at HX HW HL ⊢
  generalize hmb : mb.length = b at HX HW HL ⊢
  have HS := hideIt (And.intro hms (And.intro hmo hmb))
  clear hms hmo hmb
  go_enter Tryz.func52, Tryz.ntmps52
  go_wp2_with fail
  rw [HW.out]
  refine (refWrite_any w0).mono ?_
  rintro e w1 ⟨rfl, r1, a1⟩
  have n1 : RwN w0 w1 w0.heap.size [] := ⟨Nat.le_refl _, _, r1, (fun k h => by cases h), a1⟩
  generalize w0.heap.size = g at n1 ⊢
  obtain ⟨_, ⟨c0, c1, c2, c3, c4, c5, c6⟩, _⟩ := seven_at (n1.at HX.out.2.1)
  have HN := hideIt n1
  clear r1 a1 n1
  go_wp2_with fail
  refine (n_u16 w0 _ g [] q HN.out (by simp)).mono ?_
  rintro e w2 ⟨E2, rfl, n2⟩
  clear c0 c1 c2 c3 c4 c5 c6
  obtain ⟨_, ⟨c0, c1, c2, c3, c4, c5, c6⟩, _⟩ := seven_at (n2.at HX.out.2.1)
  have HN2 := hideIt n2
  clear n2
  obtain ⟨v9, cv, hfl⟩ := RwN.ends HX.out.1 HN2.out
  have HF := hideIt hfl
  clear hfl
  go_wp2_with fail
  go_ret
  have hfl := HF.out
  rw [List.nil_append] at hfl
  exact hfl
set_option maxHeartbeats 2000000 in
theorem fld_3356 (w : World) (P : Nat → Prop) (ms : List Int) (c r q : Int) (mo : List Ob) (mb : List Bi) (sa : Option Addr) (sc : Nat) (oa : Option Addr) (oc : Nat) (ba : Option Addr) (bc : Nat) (x : MsgX w P ⟨3356, ms, c, r, q, mo, mb⟩ sa sc oa oc ba bc) (hol : mo.length ≤ 16) (hbl : mb.length ≤ 64) :
    Calls Tryz.prog 52 #[(⟨3356, ms, c, r, q, mo, mb⟩ : Msg).val sa sc oa oc ba bc] w fun e w' => Flds w w' e (fldB ⟨3356, ms, c, r, q, mo, mb⟩) := by
  obtain ⟨w0, hw0⟩ : ∃ w0, w.alloc (.cells #[.int .i64 3356, .slice sa ms.length sc, .int .i64 c, .int .i64 r, .int .i64 q, .slice oa mo.length oc, .slice ba mb.length bc] 31) = w0 := ⟨_, rfl⟩
  have hA : After w w0 := by rw [← hw0]; exact After.rfl.alloc _
  have b0 : w0.heap[w.heap.size]? = some (.cells #[.int .i64 3356, .slice sa ms.length sc, .int .i64 c, .int .i64 r, .int .i64 q, .slice oa mo.length oc, .slice ba mb.length bc] 31 (0, 0)) := by rw [← hw0]; exact new1 _ _
  have HX := hideIt (And.intro hA (And.intro b0 (x.after hA)))
  have HL := hideIt (And.intro hol hbl)
  have HW := hideIt hw0
  unfold Msg.val
  dsimp only
  clear hA b0 hw0 x hol hbl
  generalize hms : ms.length = s at HX HW ⊢
  generalize hmo : mo.length = o at HX HW HL ⊢
  generalize hmb : mb.length = b at HX HW HL ⊢
  have HS := hideIt (And.intro hms (And.intro hmo hmb))
  clear hms hmo hmb
  go_enter Tryz.func52, Tryz.ntmps52
  go_wp2_with fail
  rw [HW.out]
  refine (refWrite_any w0).mono ?_
  rintro e w1 ⟨rfl, r1, a1⟩
  have n1 : RwN w0 w1 w0.heap.size [] := ⟨Nat.le_refl _, _, r1, (fun k h => by cases h), a1⟩
  generalize w0.heap.size = g at n1 ⊢
  obtain ⟨_, ⟨c0, c1, c2, c3, c4, c5, c6⟩, _⟩ := seven_at (n1.at HX.out.2.1)
  have HN := hideIt n1
  clear r1 a1 n1
  go_wp2_with fail
  refine (n_u16 w0 _ g [] c HN.out (by simp)).mono ?_
  rintro e w2 ⟨E2, rfl, n2⟩
  clear c0 c1 c2 c3 c4 c5 c6
  obtain ⟨_, ⟨c0, c1, c2, c3, c4, c5, c6⟩, _⟩ := seven_at (n2.at HX.out.2.1)
  have HN2 := hideIt n2
  clear n2
  go_wp2_with fail
  refine (n_u16 w0 _ g _ o HN2.out (by rw [List.nil_append]; have := wnNew_len 2 65535 c; omega)).mono ?_
  rintro e w3 ⟨E3, rfl, n3⟩
  clear c0 c1 c2 c3 c4 c5 c6
  obtain ⟨_, ⟨c0, c1, c2, c3, c4, c5, c6⟩, _⟩ := seven_at (n3.at HX.out.2.1)
  have HN3 := hideIt n3
  clear n3
  obtain ⟨pre, hpre⟩ : ∃ pre, [] ++ wnNew 2 65535 c ++ wnNew 2 65535 (o : Int) = pre := ⟨_, rfl⟩
  have hpl : pre.length ≤ 4 := by rw [← hpre, List.nil_append, List.length_append]; have := wnNew_len 2 65535 c; have := wnNew_len 2 65535 (o : Int); omega
  rw [hpre] at HN3
  have HPR := hideIt hpre
  clear hpre HN HN2
  have hlo := HL.out.1
  go_wp2_with fail
  go_loopw [4] (fun i W => ∃ j : Nat, j ≤ o ∧ i = .int .i64 j ∧ RwN w0 W g (pre ++ (mo.take j).flatMap objB)) (fun i _ => o - (intOf i).toNat)
  case atStart => exact ⟨0, Nat.zero_le _, rfl, by rw [List.take_zero, List.flatMap_nil, List.append_nil]; exact HN3.out⟩
  case round =>
    obtain ⟨j, hj, rfl, nr⟩ := hrel
    clear c0 c1 c2 c3 c4 c5 c6
    obtain ⟨_, ⟨c0, c1, c2, c3, c4, c5, c6⟩, _⟩ := seven_at (nr.at HX.out.2.1)
    have HNR := hideIt nr
    clear nr
    by_cases hlt : j < o
    · have hrow := HX.out.2.2.or
      rw [show (⟨3356, ms, c, r, q, mo, mb⟩ : Msg).objs.length = o from HS.out.2.1] at hrow
      obtain ⟨b1, o1, h1, u1, l1, rfl, hb1, x1, d1, d2, d3⟩ := rowO_at (hrow.after HNR.out.after) hlt
      have HX1 := hideIt x1
      have HRO := hideIt hrow
      have hpl2 : (pre ++ (mo.take j).flatMap objB).length ≤ 1000 := by
        rw [List.length_append]
        have := flat_len objB 5 objB_len (mo.take j)
        rw [List.length_take] at this
        omega
      clear x1 hb1 hrow
      obtain ⟨pj, hpj⟩ : ∃ pj, pre ++ (mo.take j).flatMap objB = pj := ⟨_, rfl⟩
      rw [hpj] at HNR hpl2
      have HPJ := hideIt hpj
      clear hpj
      go_wp2_with fail
      refine (n_u16 w0 _ g pj h1 HNR.out (by omega)).mono ?_
      rintro e w4 ⟨E4, rfl, n4⟩
      clear c0 c1 c2 c3 c4 c5 c6 d1 d2 d3
      obtain ⟨_, ⟨c0, c1, c2, c3, c4, c5, c6⟩, _⟩ := seven_at (n4.at HX.out.2.1)
      obtain ⟨b2, o2, h2, u2, l2, e2, _, x2, d1, d2, d3⟩ := rowO_at (HRO.out.after n4.after) hlt
      cases e2
      obtain ⟨rfl, rfl, rfl⟩ : h1 = h2 ∧ u1 = u2 ∧ l1 = l2 := by
        rw [HX1.out] at x2
        injection (Option.some.inj x2) with e1 e2 e3
        exact ⟨e1, e2, e3⟩
      have HN4 := hideIt n4
      clear n4 x2
      go_wp2_with fail
      refine (n_u16 w0 _ g _ u1 HN4.out (by rw [List.length_append]; have := wnNew_len 2 65535 h1; omega)).mono ?_
      rintro e w5 ⟨E5, rfl, n5⟩
      clear c0 c1 c2 c3 c4 c5 c6 d1 d2 d3
      obtain ⟨_, ⟨c0, c1, c2, c3, c4, c5, c6⟩, _⟩ := seven_at (n5.at HX.out.2.1)
      obtain ⟨b2, o2, h2, u2, l2, e2, _, x2, d1, d2, d3⟩ := rowO_at (HRO.out.after n5.after) hlt
      cases e2
      obtain ⟨rfl, rfl, rfl⟩ : h1 = h2 ∧ u1 = u2 ∧ l1 = l2 := by
        rw [HX1.out] at x2
        injection (Option.some.inj x2) with e1 e2 e3
        exact ⟨e1, e2, e3⟩
      have HN5 := hideIt n5
      clear n5 x2
      cases l1 with
      | false =>
        go_wp2_with (go_at_call 76; refine (yes_any _ false).mono ?_; rintro e w9 ⟨rfl, rfl⟩)
        refine (n_u8 w0 _ g _ 0 HN5.out (by rw [List.length_append, List.length_append]; have := wnNew_len 2 65535 h1; have := wnNew_len 2 65535 u1; omega)).mono ?_
        rintro e w6 ⟨E6, rfl, n6⟩
        have HN6 := hideIt n6
        clear n6
        go_wp2_with fail
        go_roundw
        case rel => exact ⟨j + 1, by omega, by go_num, by
          have n6 := HN6.out
          rw [← HPJ.out] at n6
          rw [flat_more objB mo j _ HX1.out]
          unfold objB
          unfold objB at n6
          simpa only [List.append_assoc, Bool.false_eq_true, if_false, reduceIte] using n6⟩
        case measure => simp [intOf]; omega
      | true =>
        go_wp2_with (go_at_call 76; refine (yes_any _ true).mono ?_; rintro e w9 ⟨rfl, rfl⟩)
        refine (n_u8 w0 _ g _ 1 HN5.out (by rw [List.length_append, List.length_append]; have := wnNew_len 2 65535 h1; have := wnNew_len 2 65535 u1; omega)).mono ?_
        rintro e w6 ⟨E6, rfl, n6⟩
        have HN6 := hideIt n6
        clear n6
        go_wp2_with fail
        go_roundw
        case rel => exact ⟨j + 1, by omega, by go_num, by
          have n6 := HN6.out
          rw [← HPJ.out] at n6
          rw [flat_more objB mo j _ HX1.out]
          unfold objB
          unfold objB at n6
          simpa only [List.append_assoc, if_true, reduceIte] using n6⟩
        case measure => simp [intOf]; omega
    · obtain rfl : j = o := by omega
      obtain ⟨v9, cv, hfl⟩ := RwN.ends HX.out.1 HNR.out
      have HF := hideIt hfl
      clear hfl
      go_wp2_with fail
      go_ret
      have hfl := HF.out
      rw [List.take_of_length_le (by rw [HS.out.2.1]; exact Nat.le_refl _), ← HPR.out, List.nil_append] at hfl
      rw [← HS.out.2.1] at hfl
      exact hfl
set_option maxHeartbeats 2000000 in
theorem fld_3358 (w : World) (P : Nat → Prop) (ms : List Int) (c r q : Int) (mo : List Ob) (mb : List Bi) (sa : Option Addr) (sc : Nat) (oa : Option Addr) (oc : Nat) (ba : Option Addr) (bc : Nat) (x : MsgX w P ⟨3358, ms, c, r, q, mo, mb⟩ sa sc oa oc ba bc) (hol : mo.length ≤ 16) (hbl : mb.length ≤ 64) :
    Calls Tryz.prog 52 #[(⟨3358, ms, c, r, q, mo, mb⟩ : Msg).val sa sc oa oc ba bc] w fun e w' => Flds w w' e (fldB ⟨3358, ms, c, r, q, mo, mb⟩) := by
  obtain ⟨w0, hw0⟩ : ∃ w0, w.alloc (.cells #[.int .i64 3358, .slice sa ms.length sc, .int .i64 c, .int .i64 r, .int .i64 q, .slice oa mo.length oc, .slice ba mb.length bc] 31) = w0 := ⟨_, rfl⟩
  have hA : After w w0 := by rw [← hw0]; exact After.rfl.alloc _
  have b0 : w0.heap[w.heap.size]? = some (.cells #[.int .i64 3358, .slice sa ms.length sc, .int .i64 c, .int .i64 r, .int .i64 q, .slice oa mo.length oc, .slice ba mb.length bc] 31 (0, 0)) := by rw [← hw0]; exact new1 _ _
  have HX := hideIt (And.intro hA (And.intro b0 (x.after hA)))
  have HL := hideIt (And.intro hol hbl)
  have HW := hideIt hw0
  unfold Msg.val
  dsimp only
  clear hA b0 hw0 x hol hbl
  generalize hms : ms.length = s at HX HW ⊢
  generalize hmo : mo.length = o at HX HW HL ⊢
  generalize hmb : mb.length = b at HX HW HL ⊢
  have HS := hideIt (And.intro hms (And.intro hmo hmb))
  clear hms hmo hmb
  go_enter Tryz.func52, Tryz.ntmps52
  go_wp2_with fail
  rw [HW.out]
  refine (refWrite_any w0).mono ?_
  rintro e w1 ⟨rfl, r1, a1⟩
  have n1 : RwN w0 w1 w0.heap.size [] := ⟨Nat.le_refl _, _, r1, (fun k h => by cases h), a1⟩
  generalize w0.heap.size = g at n1 ⊢
  obtain ⟨_, ⟨c0, c1, c2, c3, c4, c5, c6⟩, _⟩ := seven_at (n1.at HX.out.2.1)
  have HN := hideIt n1
  clear r1 a1 n1
  go_wp2_with fail
  refine (n_u16 w0 _ g [] b HN.out (by simp)).mono ?_
  rintro e w2 ⟨E2, rfl, n2⟩
  clear c0 c1 c2 c3 c4 c5 c6
  obtain ⟨_, ⟨c0, c1, c2, c3, c4, c5, c6⟩, _⟩ := seven_at (n2.at HX.out.2.1)
  have HN2 := hideIt n2
  clear n2
  obtain ⟨pre, hpre⟩ : ∃ pre, [] ++ wnNew 2 65535 (b : Int) = pre := ⟨_, rfl⟩
  have hpl : pre.length ≤ 4 := by rw [← hpre, List.nil_append]; have := wnNew_len 2 65535 (b : Int); omega
  rw [hpre] at HN2
  have HPR := hideIt hpre
  clear hpre HN
  have hlb := HL.out.2
  go_wp2_with fail
  go_loopw [5] (fun i W => ∃ j : Nat, j ≤ b ∧ i = .int .i64 j ∧ RwN w0 W g (pre ++ (mb.take j).flatMap obsB)) (fun i _ => b - (intOf i).toNat)
  case atStart => exact ⟨0, Nat.zero_le _, rfl, by rw [List.take_zero, List.flatMap_nil, List.append_nil]; exact HN2.out⟩
  case round =>
    obtain ⟨j, hj, rfl, nr⟩ := hrel
    clear c0 c1 c2 c3 c4 c5 c6
    obtain ⟨_, ⟨c0, c1, c2, c3, c4, c5, c6⟩, _⟩ := seven_at (nr.at HX.out.2.1)
    have HNR := hideIt nr
    clear nr
    by_cases hlt : j < b
    · have hrow := HX.out.2.2.br
      have hbb := HX.out.2.2.bb
      rw [show (⟨3358, ms, c, r, q, mo, mb⟩ : Msg).obs.length = b from HS.out.2.2] at hrow
      obtain ⟨b1, o1, h1, l1, u1, rfl, hb1, x1, d1, d2, d3⟩ := rowB_at (hrow.after HNR.out.after) hlt
      have hbu := hbb _ (List.mem_of_getElem? x1)
      dsimp only at hbu
      have HX1 := hideIt x1
      have HRO := hideIt hrow
      have HBU := hideIt hbu
      have hpl2 : (pre ++ (mb.take j).flatMap obsB).length ≤ 1000 := by
        rw [List.length_append]
        have := flat_len obsB 7 obsB_len (mb.take j)
        rw [List.length_take] at this
        omega
      clear x1 hb1 hrow hbb hbu
      obtain ⟨pj, hpj⟩ : ∃ pj, pre ++ (mb.take j).flatMap obsB = pj := ⟨_, rfl⟩
      rw [hpj] at HNR hpl2
      have HPJ := hideIt hpj
      clear hpj
      go_wp2_with fail
      refine (n_u16 w0 _ g pj h1 HNR.out (by omega)).mono ?_
      rintro e w4 ⟨E4, rfl, n4⟩
      clear c0 c1 c2 c3 c4 c5 c6 d1 d2 d3
      obtain ⟨_, ⟨c0, c1, c2, c3, c4, c5, c6⟩, _⟩ := seven_at (n4.at HX.out.2.1)
      obtain ⟨b2, o2, h2, l2, u2, e2, _, x2, d1, d2, d3⟩ := rowB_at (HRO.out.after n4.after) hlt
      cases e2
      obtain ⟨rfl, rfl, rfl⟩ : h1 = h2 ∧ l1 = l2 ∧ u1 = u2 := by
        rw [HX1.out] at x2
        injection (Option.some.inj x2) with e1 e2 e3
        exact ⟨e1, e2, e3⟩
      have HN4 := hideIt n4
      clear n4 x2
      cases l1 with
      | false =>
        go_wp2_with (go_at_call 76; refine (yes_any _ false).mono ?_; rintro e w9 ⟨rfl, rfl⟩)
        refine (n_u8 w0 _ g _ 2 HN4.out (by rw [List.length_append]; have := wnNew_len 2 65535 h1; omega)).mono ?_
        rintro e w5 ⟨E5, rfl, n5⟩
        clear c0 c1 c2 c3 c4 c5 c6 d1 d2 d3
        obtain ⟨_, ⟨c0, c1, c2, c3, c4, c5, c6⟩, _⟩ := seven_at (n5.at HX.out.2.1)
        obtain ⟨b2, o2, h2, l2, u2, e2, _, x2, d1, d2, d3⟩ := rowB_at (HRO.out.after n5.after) hlt
        cases e2
        obtain ⟨rfl, rfl, rfl⟩ : h1 = h2 ∧ false = l2 ∧ u1 = u2 := by
          rw [HX1.out] at x2
          injection (Option.some.inj x2) with e1 e2 e3
          exact ⟨e1, e2, e3⟩
        have HN5 := hideIt n5
        have hu0 := HBU.out.1
        have hu1 := HBU.out.2
        clear n5 x2
        go_wp2_with fail
        refine (n_u16 w0 _ g _ u1 HN5.out (by rw [List.length_append, List.length_append]; have := wnNew_len 2 65535 h1; have := wnNew_len 1 255 2; omega)).mono ?_
        rintro e w6 ⟨E6, rfl, n6⟩
        have HN6 := hideIt n6
        clear n6
        go_wp2_with fail
        go_roundw
        case rel => exact ⟨j + 1, by omega, by go_num, by
          have n6 := HN6.out
          rw [← HPJ.out] at n6
          rw [flat_more obsB mb j _ HX1.out]
          unfold obsB
          unfold obsB at n6
          simpa only [List.append_assoc, Bool.false_eq_true, if_false, Int.reduceMul, Int.reduceAdd, reduceIte] using n6⟩
        case measure => simp [intOf]; omega
      | true =>
        go_wp2_with (go_at_call 76; refine (yes_any _ true).mono ?_; rintro e w9 ⟨rfl, rfl⟩)
        refine (n_u8 w0 _ g _ 4 HN4.out (by rw [List.length_append]; have := wnNew_len 2 65535 h1; omega)).mono ?_
        rintro e w5 ⟨E5, rfl, n5⟩
        clear c0 c1 c2 c3 c4 c5 c6 d1 d2 d3
        obtain ⟨_, ⟨c0, c1, c2, c3, c4, c5, c6⟩, _⟩ := seven_at (n5.at HX.out.2.1)
        obtain ⟨b2, o2, h2, l2, u2, e2, _, x2, d1, d2, d3⟩ := rowB_at (HRO.out.after n5.after) hlt
        cases e2
        obtain ⟨rfl, rfl, rfl⟩ : h1 = h2 ∧ true = l2 ∧ u1 = u2 := by
          rw [HX1.out] at x2
          injection (Option.some.inj x2) with e1 e2 e3
          exact ⟨e1, e2, e3⟩
        have HN5 := hideIt n5
        have hu0 := HBU.out.1
        have hu1 := HBU.out.2
        clear n5 x2
        go_wp2_with fail
        refine (n_u32 w0 _ g _ u1 HN5.out (by rw [List.length_append, List.length_append]; have := wnNew_len 2 65535 h1; have := wnNew_len 1 255 4; omega) HBU.out.1 HBU.out.2).mono ?_
        rintro e w6 ⟨E6, rfl, n6⟩
        have HN6 := hideIt n6
        clear n6
        go_wp2_with fail
        go_roundw
        case rel => exact ⟨j + 1, by omega, by go_num, by
          have n6 := HN6.out
          rw [← HPJ.out] at n6
          rw [flat_more obsB mb j _ HX1.out]
          unfold obsB
          unfold obsB at n6
          simpa only [List.append_assoc, if_true, Int.reduceMul, Int.reduceAdd, reduceIte] using n6⟩
        case measure => simp [intOf]; omega
    · obtain rfl : j = b := by omega
      obtain ⟨v9, cv, hfl⟩ := RwN.ends HX.out.1 HNR.out
      have HF := hideIt hfl
      clear hfl
      go_wp2_with fail
      go_ret
      have hfl := HF.out
      rw [List.take_of_length_le (by rw [HS.out.2.2]; exact Nat.le_refl _), ← HPR.out, List.nil_append] at hfl
      rw [← HS.out.2.2] at hfl
      exact hfl
theorem fields_all (w : World) (P : Nat → Prop) (M : Msg) (sa : Option Addr) (sc : Nat) (oa : Option Addr) (oc : Nat) (ba : Option Addr) (bc : Nat) (x : MsgX w P M sa sc oa oc ba bc) (hk : alone M.kind = true ∨ inData M.kind = true) (hol : M.objs.length ≤ 16) (hbl : M.obs.length ≤ 64) :
    Calls Tryz.prog 52 #[M.val sa sc oa oc ba bc] w fun e w' => Flds w w' e (fldB M) := by
  obtain ⟨k, ms, c, r, q, mo, mb⟩ := M
  dsimp only at hk hol hbl
  rcases hk.imp of_decide_eq_true of_decide_eq_true with (rfl | rfl | rfl | rfl | rfl) | (rfl | rfl | rfl)
  · exact fld_57856 w P ms c r q mo mb sa sc oa oc ba bc x hol hbl
  · exact fld_58112 w P ms c r q mo mb sa sc oa oc ba bc x hol hbl
  · exact fld_58368 w P ms c r q mo mb sa sc oa oc ba bc x hol hbl
  · exact fld_58624 w P ms c r q mo mb sa sc oa oc ba bc x hol hbl
  · exact fld_58880 w P ms c r q mo mb sa sc oa oc ba bc x hol hbl
  · exact fld_3356 w P ms c r q mo mb sa sc oa oc ba bc x hol hbl
  · exact fld_3357 w P ms c r q mo mb sa sc oa oc ba bc x hol hbl
  · exact fld_3358 w P ms c r q mo mb sa sc oa oc ba bc x hol hbl
end Go.Proofs.YthcfdoafncbliaaGreat
/-
  The document's box: a kind, a length, and bytes.
-/
namespace Go.Proofs.YthcfdoafncbliaaGreat
open Go.RowKit
set_option maxRecDepth 8000
theorem box_any (w : World) (k : Int) (a : Option Addr) (n c : Nat) (bs : List Int) (rb : Row w a n bs) (ha : a = none → n = 0 ∧ c = 0) (hn : n ≤ 1000000) :
    Calls Tryz.prog 51 #[.int .i64 k, .slice a n c] w fun e w' => Flds w w' e (wnNew 2 65535 k ++ wnNew 2 65535 n ++ bs) := by
  have HR := hideIt (And.intro rb (And.intro ha hn))
  have H1 := hideIt (refWrite_any w)
  clear rb ha hn
  go_enter Tryz.func51, Tryz.ntmps51
  go_wp2_with fail
  refine H1.out.mono ?_
  clear H1
  rintro e w1 ⟨rfl, r1, a1⟩
  have n1 : RwN w w1 w.heap.size [] := ⟨Nat.le_refl _, _, r1, (fun k h => by cases h), a1⟩
  obtain ⟨g, hg⟩ : ∃ g, w.heap.size = g := ⟨_, rfl⟩
  rw [hg] at n1 ⊢
  have H2 := hideIt (n_u16 w w1 g [] k n1 (by simp))
  have HG := hideIt hg
  clear r1 a1 n1 hg
  go_wp2_with fail
  refine H2.out.mono ?_
  clear H2
  rintro e w2 ⟨E2, rfl, n2⟩
  have H3 := hideIt (n_u16 w w2 g _ n n2 (by rw [List.nil_append]; have := wnNew_len 2 65535 k; omega))
  clear n2
  go_wp2_with fail
  refine H3.out.mono ?_
  clear H3
  rintro e w3 ⟨E3, rfl, n3⟩
  obtain ⟨v, cv, v', hv', ho, hbs, a3⟩ := RwN.ends After.rfl n3
  cases hv'
  obtain ⟨rb, ha, hn⟩ := HR.out
  rw [List.nil_append] at ho hbs
  have hl : (wnNew 2 65535 k ++ wnNew 2 65535 (n : Int)).length ≤ 4 := by rw [List.length_append]; have := wnNew_len 2 65535 k; have := wnNew_len 2 65535 (n : Int); omega
  obtain ⟨zs, hzs⟩ : ∃ zs, wnNew 2 65535 k ++ wnNew 2 65535 (n : Int) = zs := ⟨_, rfl⟩
  rw [hzs] at ho hbs hl
  have HZS := hideIt hzs
  obtain ⟨m, hm⟩ : ∃ m, zs.length = m := ⟨_, rfl⟩
  rw [hm] at ho hl
  have HO := hideIt ho
  have HRB := hideIt (rb.after a3)
  have HA := hideIt ha
  have hnm : m + n ≤ 140737488355328 := by omega
  have HSZ := hideIt a3.size
  have HZ := hideIt (And.intro a3 (And.intro hbs (And.intro rb hm)))
  clear ho rb ha hn hl hzs hbs a3 n3 HR hm
  go_wp2_with (at_builtin; refine app_row rfl (.tmp 17) (.tmp 18) rfl w.heap.size _ m zs rfl HO.out a n c bs rfl HRB.out HA.out hnm HSZ.out ?_; intro v6 w6 hown hgrow; have O6 := hideIt hown; have G6 := hideIt hgrow; clear hown hgrow)
  go_ret
  obtain ⟨a3, hbs, rb, hm⟩ := HZ.out
  rw [HZS.out]
  refine ⟨v6, rfl, ?_, hbs.append rb.2.1, a3.but.then G6.out (fun i hi h => by have := (HO.out.lt i h).1; omega)⟩
  rw [List.length_append, hm, rb.1]
  exact O6.out
end Go.Proofs.YthcfdoafncbliaaGreat
