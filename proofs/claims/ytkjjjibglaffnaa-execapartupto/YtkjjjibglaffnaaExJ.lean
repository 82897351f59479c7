/-
  An exec in memory; takeFrame; lists copied.
-/
import Derived.Test.YtkjjjibglaffnaaExI
namespace Go.Proofs.Ytkjjjibglaffnaa
open Go.RowKit
set_option maxRecDepth 8000
/-- An exec: its minor frames, steps, links, where it is. -/
structure Xp where
  fr : List (List Int)
  st : List Int
  L : List Lk
  at_ : Nat
structure Xp.Ok (x : Xp) : Prop where
  f1 : 1 ≤ x.fr.length
  f2 : x.fr.length ≤ 16
  fs : ∀ r ∈ x.fr, r.length ≤ 8 ∧ ∀ q ∈ r, 0 ≤ q ∧ q < (x.st.length : Int)
  s1 : 1 ≤ x.st.length
  s2 : x.st.length ≤ 8
  ss : ∀ s ∈ x.st, 0 ≤ s ∧ s ≤ 1048576
  l2 : x.L.length ≤ 16
  ls : ∀ q ∈ skel x.L, (0 ≤ q.1 ∧ q.1 < (x.st.length : Int)) ∧ (0 ≤ q.2 ∧ q.2 < (x.st.length : Int))
  a1 : x.at_ < x.fr.length
/-- A minor frame's row. -/
structure Fw where
  a : Option Addr
  c : Nat
  l : List Int
def fwE : Enc Fw where
  k := 1
  enc f := [.slice f.a f.l.length f.c]
  len _ := rfl
  one x u hu := by
    simp only [List.mem_cons, List.not_mem_nil, or_false] at hu
    rcases hu with rfl; rfl
  pos := by decide
/-- A row of the exec's own, that nothing is stored into. -/
def Lab (o : Nat → Nat) (a : Option Addr) (n : Nat) : Prop := ∀ x, a = some x → 0 < n → o x.block = 3
structure ExX (w : World) (p : Nat) (o : Nat → Nat) (x : Xp) (lv : Value) (way : Bool) (fa : Option Addr) (fc : Nat) (sa : Option Addr) (sc : Nat) (fws : List Fw) : Prop where
  at0 : w.heap[p]? = some (.cells (exC (.slice fa fws.length fc) (.slice sa x.st.length sc) lv (x.at_ : Int) way) 73 (0, 0))
  op : o p = 1
  rf : GRow fwE w fa fws.length fws
  ff : Lab o fa fws.length
  fr : fws.map Fw.l = x.fr
  fw : ∀ f ∈ fws, GRow inE w f.a f.l.length f.l ∧ Lab o f.a f.l.length
  rs : GRow inE w sa x.st.length x.st
  fs : Lab o sa x.st.length
  ok : x.Ok
def ExS (w : World) (p : Nat) (o : Nat → Nat) (x : Xp) (lv : Value) (way : Bool) : Prop := ∃ fa fc sa sc fws, ExX w p o x lv way fa fc sa sc fws
theorem GRow.lab {α : Type} {E : Enc α} {S : Nat → Prop} {w w' : World} {o o' : Nat → Nat} {a : Option Addr} {n : Nat} {xs : List α} (h : GRow E w a n xs) (f : Lab o a n) (b : But S w w') (hS : ∀ k, k < w.heap.size → S k → o k ≠ 3) (he : ∀ k, k < w.heap.size → o' k = o k) : GRow E w' a n xs ∧ Lab o' a n := by
  have hl : ∀ x, a = some x → 0 < n → x.block < w.heap.size := fun x hx hn => by
    obtain ⟨b, off, e, hlt⟩ := h.lt hn
    rw [hx] at e
    cases e
    exact hlt
  exact ⟨h.but b (fun x hx hn s => hS _ (hl x hx hn) s (f x hx hn)), fun x hx hn => (he _ (hl x hx hn)).trans (f x hx hn)⟩
theorem ExX.len {w : World} {p : Nat} {o : Nat → Nat} {x : Xp} {lv : Value} {way : Bool} {fa : Option Addr} {fc : Nat} {sa : Option Addr} {sc : Nat} {fws : List Fw} (h : ExX w p o x lv way fa fc sa sc fws) : fws.length = x.fr.length := by rw [← h.fr, List.length_map]
theorem ExX.rows {S : Nat → Prop} {w w' : World} {p : Nat} {o o' : Nat → Nat} {x x' : Xp} {lv lv' : Value} {way way' : Bool} {fa : Option Addr} {fc : Nat} {sa : Option Addr} {sc : Nat} {fws : List Fw} (h : ExX w p o x lv way fa fc sa sc fws) (b : But S w w') (hS : ∀ k, k < w.heap.size → S k → o k ≠ 3) (he : ∀ k, k < w.heap.size → o' k = o k) (h0 : w'.heap[p]? = some (.cells (exC (.slice fa fws.length fc) (.slice sa x.st.length sc) lv' (x'.at_ : Int) way') 73 (0, 0))) (e1 : x'.fr = x.fr) (e2 : x'.st = x.st) (ok : x'.Ok) : ExX w' p o' x' lv' way' fa fc sa sc fws :=
  ⟨by rw [e2]; exact h0, (he p (blk_lt h.at0)).trans h.op, (h.rf.lab h.ff b hS he).1, (h.rf.lab h.ff b hS he).2, h.fr.trans e1.symm, fun f hf => (h.fw f hf).1.lab (h.fw f hf).2 b hS he, by rw [e2]; exact (h.rs.lab h.fs b hS he).1, by rw [e2]; exact (h.rs.lab h.fs b hS he).2, ok⟩
theorem ExX.but {S : Nat → Prop} {w w' : World} {p : Nat} {o o' : Nat → Nat} {x : Xp} {lv : Value} {way : Bool} {fa : Option Addr} {fc : Nat} {sa : Option Addr} {sc : Nat} {fws : List Fw} (h : ExX w p o x lv way fa fc sa sc fws) (b : But S w w') (hS : ∀ k, k < w.heap.size → S k → o k ≠ 1 ∧ o k ≠ 3) (he : ∀ k, k < w.heap.size → o' k = o k) : ExX w' p o' x lv way fa fc sa sc fws :=
  h.rows b (fun k hk s => (hS k hk s).2) he ((b.block p (blk_lt h.at0) (fun s => (hS p (blk_lt h.at0) s).1 h.op)).trans h.at0) rfl rfl h.ok
/-- A cell of the exec is stored into. -/
theorem ExX.put {w : World} {p : Nat} {o : Nat → Nat} {x x' : Xp} {lv : Value} {way way' : Bool} {fa : Option Addr} {fc : Nat} {sa : Option Addr} {sc : Nat} {fws : List Fw} (h : ExX w p o x lv way fa fc sa sc fws) (i : Nat) (u : Value) (e0 : (exC (.slice fa fws.length fc) (.slice sa x.st.length sc) lv (x.at_ : Int) way).setIfInBounds i u = exC (.slice fa fws.length fc) (.slice sa x.st.length sc) lv (x'.at_ : Int) way') (e1 : x'.fr = x.fr) (e2 : x'.st = x.st) (ok : x'.Ok) : ExX (w.setCell ⟨p, i, none⟩ u) p o x' lv way' fa fc sa sc fws :=
  h.rows (but_one w p i u) (fun k _ s => by rw [show k = p from s, h.op]; decide) (fun _ _ => rfl) (by rw [← e0]; exact blk_put h.at0 i u) e1 e2 ok
def Xp.next (x : Xp) : Xp := { x with at_ := (x.at_ + 1) % x.fr.length }
theorem next_ok {x : Xp} (h : x.Ok) : x.next.Ok := ⟨h.f1, h.f2, h.fs, h.s1, h.s2, h.ss, h.l2, h.ls, Nat.mod_lt _ h.f1⟩
/-- What takeFrame answers, and leaves behind. -/
def TookFr (w : World) (p : Nat) (o : Nat → Nat) (x : Xp) (lv : Value) (way : Bool) (fa : Option Addr) (fc : Nat) (sa : Option Addr) (sc : Nat) (fws : List Fw) (f : Fw) (e : Ending) (w' : World) : Prop :=
  e = .returned (.slice f.a f.l.length f.c) ∧ ExX w' p o x.next lv way fa fc sa sc fws ∧ But (One p) w w'
theorem fw_at {w : World} {a : Option Addr} {n : Nat} {fs : List Fw} (h : GRow fwE w a n fs) {i : Nat} (hi : i < n) : ∃ b off f, a = some ⟨b, off, none⟩ ∧ b < w.heap.size ∧ fs[i]? = some f ∧ w.cell? ⟨b, off + i, none⟩ = some (.slice f.a f.l.length f.c) := by
  obtain ⟨b, off, x, e, hb, hx, h1⟩ := h.2 i hi
  have := h1 0 _ rfl
  rw [show fwE.k = 1 from rfl, Nat.mul_one, Nat.add_zero] at this
  exact ⟨b, off, x, e, hb, hx, this⟩
set_option maxHeartbeats 1000000 in
theorem takeFrame_any {w : World} {p : Nat} {o : Nat → Nat} {x : Xp} {lv : Value} {way : Bool} {fa : Option Addr} {fc : Nat} {sa : Option Addr} {sc : Nat} {fws : List Fw} (h : ExX w p o x lv way fa fc sa sc fws) {f : Fw} (hff : fws[x.at_]? = some f) : Calls Try.prog 25 #[Ptr p] w (TookFr w p o x lv way fa fc sa sc fws f) := by
  have hln := h.len
  have ha : x.at_ < fws.length := by rw [hln]; exact h.ok.a1
  obtain ⟨b, off, f2, rfl, hb, hf, c0⟩ := fw_at h.rf ha
  rw [hff] at hf
  cases hf
  have i1 : (x.at_ : Int) < (fws.length : Int) := by omega
  have i2 : (fws.length : Int) ≤ 16 := by have := h.ok.f2; omega
  have i3 : (0 : Int) < (fws.length : Int) := by omega
  have i4 : ¬ (fws.length : Int) = 0 := by omega
  have e0 := blk_cell h.at0 (i := 0) rfl
  have e3 := blk_cell h.at0 (i := 3) rfl
  have s3 := blk_soft h.at0 3
  have lp := blk_lt h.at0
  have HN := hideIt (show ((x.at_ : Int) + 1).tmod (fws.length : Int) = (x.next.at_ : Int) by
    rw [Int.tmod_eq_emod_of_nonneg (by omega)]
    show _ = (((x.at_ + 1) % x.fr.length : Nat) : Int)
    rw [← hln]; simp)
  have HH := hideIt h
  clear h hff ha hln
  go_enter Try.func25, Try.ntmps25
  go_wp2_with fail
  go_region
  go_wp2_with fail
  go_region
  go_wp2_with fail
  go_ret
  have e : ((x.at_ : Int) + 1) % (fws.length : Int) = (x.next.at_ : Int) := by rw [← HN.out, Int.tmod_eq_emod_of_nonneg (by omega)]
  rw [e]
  have h := HH.out
  have h1 := h.put 3 (.int .i64 (x.next.at_ : Int)) (x' := x.next) rfl rfl rfl (next_ok h.ok)
  have a2 : After (w.setCell ⟨p, 3, none⟩ (.int .i64 (x.next.at_ : Int))) ((w.setCell ⟨p, 3, none⟩ (.int .i64 (x.next.at_ : Int))).drew.drew) := But.drew (But.drew But.rfl)
  exact ⟨rfl, h1.but a2 (fun _ _ t => t.elim) (fun _ _ => rfl), (but_one w p 3 _).trans a2.but⟩
theorem Try.infoIf : (Try.prog.info? 97).map (fun i => (i.zero, i.size, i.bytes)) = some (some .nilIface, 1, 16) := by kernel_rfl
theorem Try.infoIn : (Try.prog.info? 3).map (fun i => (i.zero, i.size, i.bytes)) = some (some (.int .i64 0), 1, 8) := by kernel_rfl
theorem clone_iv (a : Option Addr) (n c : Nat) (L : List Iv) (w : World) (hr : GRow ivE w a n L) (ha : a = none → n = 0 ∧ c = 0) (hn : n ≤ 1000) :
    Calls Try.prog 26 #[.slice a n c] w fun e w' => ∃ v, e = .returned v ∧ ORow ivE 97 w' w.heap.size v L ∧ After w w' := by
  cases a with
  | none =>
    obtain ⟨rfl, rfl⟩ := ha rfl
    have hz : L = [] := List.length_eq_zero_iff.1 hr.1
    subst hz
    clear hr
    have hq := fun W => Lib.run_eql_slice_nil (P := Try.prog) W 46 97 none 0 0 0 0 Try.underlying46
    go_enter Try.func26, Try.ntmps26
    go_wp2
    go_ret
    exact ⟨_, rfl, orow_nil ivE _ _ _, After.rfl⟩
  | some x =>
    have HO1 := hideIt (show ORow ivE 97 (w.alloc (.cells #[] 97)) w.heap.size (.slice (some ⟨w.heap.size, 0, none⟩) 0 0) [] from World.ownsRow_lit (base := w.heap.size) (e := 97) (size := 1) w #[] 0 (Nat.le_refl _) (by decide) rfl)
    have HR := hideIt (hr.after (After.rfl.alloc (.cells #[] 97)))
    have hn' : ([] : List Iv).length + n ≤ maxLen := by unfold maxLen; simp; omega
    clear hr ha
    have hq := fun W => Lib.run_eql_slice_nil (P := Try.prog) W 46 97 (some x) n c 0 0 Try.underlying46
    go_enter Try.func26, Try.ntmps26
    go_wp2_with (at_builtin; refine app_row (E := ivE) rfl (.tmp 5) (.tmp 6) 46 97 Try.underlying46 Try.infoIf rfl (by decide) rfl w.heap.size _ [] rfl HO1.out (some x) n c L rfl HR.out (fun h => by cases h) hn' (by simp; omega) (by simp) ?_; intro v' w1 hown hb; have HO := hideIt (And.intro hown hb); clear hown hb)
    go_ret
    refine ⟨_, rfl, HO.out.1, (After.rfl.alloc _).then HO.out.2 (fun i hi h => ?_)⟩
    have := (HO1.out.lt i h).1
    omega
theorem clone_in (a : Option Addr) (n c : Nat) (L : List Int) (w : World) (hr : GRow inE w a n L) (ha : a = none → n = 0 ∧ c = 0) (hn : n ≤ 1000) :
    Calls Try.prog 21 #[.slice a n c] w fun e w' => ∃ v, e = .returned v ∧ ORow inE 3 w' w.heap.size v L ∧ After w w' := by
  cases a with
  | none =>
    obtain ⟨rfl, rfl⟩ := ha rfl
    have hz : L = [] := List.length_eq_zero_iff.1 hr.1
    subst hz
    clear hr
    have hq := fun W => Lib.run_eql_slice_nil (P := Try.prog) W 23 3 none 0 0 0 0 Try.underlying23
    go_enter Try.func21, Try.ntmps21
    go_wp2
    go_ret
    exact ⟨_, rfl, orow_nil inE _ _ _, After.rfl⟩
  | some x =>
    have HO1 := hideIt (show ORow inE 3 (w.alloc (.cells #[] 3)) w.heap.size (.slice (some ⟨w.heap.size, 0, none⟩) 0 0) [] from World.ownsRow_lit (base := w.heap.size) (e := 3) (size := 1) w #[] 0 (Nat.le_refl _) (by decide) rfl)
    have HR := hideIt (hr.after (After.rfl.alloc (.cells #[] 3)))
    have hn' : ([] : List Int).length + n ≤ maxLen := by unfold maxLen; simp; omega
    clear hr ha
    have hq := fun W => Lib.run_eql_slice_nil (P := Try.prog) W 23 3 (some x) n c 0 0 Try.underlying23
    go_enter Try.func21, Try.ntmps21
    go_wp2_with (at_builtin; refine app_row (E := inE) rfl (.tmp 5) (.tmp 6) 23 3 Try.underlying23 Try.infoIn rfl (by decide) rfl w.heap.size _ [] rfl HO1.out (some x) n c L rfl HR.out (fun h => by cases h) hn' (by simp; omega) (by simp) ?_; intro v' w1 hown hb; have HO := hideIt (And.intro hown hb); clear hown hb)
    go_ret
    refine ⟨_, rfl, HO.out.1, (After.rfl.alloc _).then HO.out.2 (fun i hi h => ?_)⟩
    have := (HO1.out.lt i h).1
    omega
end Go.Proofs.Ytkjjjibglaffnaa
