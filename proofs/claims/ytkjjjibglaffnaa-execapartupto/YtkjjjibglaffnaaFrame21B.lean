/-
  What is handed in to the statements of this seat, opened: rows of rows, plans, ticks; the bound of what is handed in.
-/
import Derived.Test.YtkjjjibglaffnaaExW
import Derived.Test.YtkjjjibglaffnaaFrame21
namespace Go.Proofs.Ytkjjjibglaffnaa
open Go.ChangeShapes Go.WideShapes Go.ChangeAt Go.RowKit
set_option maxRecDepth 100000
/-- It is of bulk within the bound. -/
def Sml {H : Type} (d : DataW H) : Prop := Rows.uptoBulk d ≤ 1048576
theorem bulk_one {H : Type} (d : DataW H) : 1 ≤ Rows.uptoBulk d := by
  cases d with
  | lit l => cases l <;> simp [Rows.uptoBulk]
  | nil => simp [Rows.uptoBulk]
  | ptr d => simp [Rows.uptoBulk]
  | slice elems spare => simp [Rows.uptoBulk]
  | agg parts => simp [Rows.uptoBulk]
  | iface t d => simp [Rows.uptoBulk]
  | map entries => simp [Rows.uptoBulk]
  | held h => simp [Rows.uptoBulk]
theorem bulk_part {H : Type} {d : DataW H} {l : List (DataW H)} (h : d ∈ l) : Rows.uptoBulk d ≤ Rows.uptoBulkAll l := by
  induction l with
  | nil => cases h
  | cons x r ih =>
    simp only [Rows.uptoBulkAll]
    rcases List.mem_cons.1 h with e | e
    · subst e; omega
    · have := ih e; omega
theorem bulk_length {H : Type} (l : List (DataW H)) : l.length ≤ Rows.uptoBulkAll l := by
  induction l with
  | nil => simp [Rows.uptoBulkAll]
  | cons x r ih => have := bulk_one x; simp only [Rows.uptoBulkAll, List.length_cons]; omega
theorem sml_of {H : Type} {l : List (DataW H)} {d : DataW H} (hk : Rows.uptoSmall H l = true) (hd : d ∈ l) : Sml d := by
  have h1 : Rows.uptoBulkAll l ≤ 1048576 := of_decide_eq_true hk
  exact Nat.le_trans (bulk_part hd) h1
theorem sml_el {H : Type} {es rest : List (DataW H)} (h : Sml (.slice es rest)) : ∀ d ∈ es, Sml d := fun d hd => by
  unfold Sml at h ⊢
  simp only [Rows.uptoBulk] at h
  have := bulk_part hd
  omega
theorem sml_part {H : Type} {es : List (DataW H)} (h : Sml (.agg es)) : ∀ d ∈ es, Sml d := fun d hd => by
  unfold Sml at h ⊢
  simp only [Rows.uptoBulk] at h
  have := bulk_part hd
  omega
theorem sml_len {H : Type} {d : DataW H} {len : Nat} (h : Sml d) (hs : d = .nil ∧ len = 0 ∨ ∃ es rest, d = .slice es rest ∧ es.length = len) : len ≤ 1048576 := by
  rcases hs with ⟨_, rfl⟩ | ⟨es, sp, rfl, rfl⟩
  · omega
  · unfold Sml at h
    simp only [Rows.uptoBulk] at h
    have := bulk_length es
    omega
section
variable {H : Type} {enc : TypeId × Value → H} {W : World} {base : Nat} {sp : Nat → Bool} {held : Bool}
theorem open_growS {β : Type} (E : Enc β) {e T : TypeId} (hT : Try.prog.underlying T = some (.slice e)) (hk : Try.prog.cellsOf e = E.k) (P : β → Prop) (hel : ∀ {fuel : Nat} {cs : List Value} {y : DataW H × List MemPlace}, DataW.trod enc Try.prog W base sp held fuel e cs = some y → cs.length = E.k → Sml y.1 → ∃ x, cs = E.enc x ∧ P x)
    {fuel : Nat} {v : Value} {y : DataW H × List MemPlace} (h : DataW.trod enc Try.prog W base sp held fuel T [v] = some y) (hD : Sml y.1) :
    ∃ a cap xs, v = .slice a xs.length cap ∧ GRow E W a xs.length xs ∧ (a = none → xs.length = 0 ∧ cap = 0) ∧ (∀ x ∈ xs, P x) ∧ xs.length ≤ 1048576 := by
  rcases DataW.trod_slice hT h with ⟨hcs, hy⟩ | ⟨a, l, c, elems, rest, n, _, hcs, hx, _, hl, _, hel', hat, _, _⟩
  · simp at hcs
    subst hcs
    exact ⟨none, 0, [], rfl, GRow.nil E W none, fun _ => ⟨rfl, rfl⟩, (fun x hx => by cases hx), Nat.zero_le _⟩
  · simp at hcs
    subst hcs
    have hpos := E.pos
    have hy1 : y.1 = .slice (elems.map (·.1)) (rest.map (·.1)) := by rw [hx]
    have hlen : l ≤ 1048576 := sml_len hD (.inr ⟨_, _, hy1, by simp [hel']⟩)
    have hD' : ∀ d ∈ elems.map (·.1), Sml d := by rw [hy1] at hD; exact sml_el hD
    have each : ∀ i, i < l → ∃ o : β, P o ∧ ∃ b off, a = ⟨b, off, none⟩ ∧ b < W.heap.size ∧ ∀ j v, (E.enc o)[j]? = some v → W.cell? ⟨b, off + i * E.k + j, none⟩ = some v := by
      intro i hi
      have hi2 := hat i hi
      rw [hk] at hi2
      have hei : elems[i]? = some (elems[i]'(by omega)) := List.getElem?_eq_getElem (by omega)
      rw [hei, Option.bind_eq_some_iff] at hi2
      obtain ⟨cs, hcs, htr⟩ := hi2
      obtain ⟨_, hlen, hcell⟩ := World.cells?_some hcs
      obtain ⟨o, ho, hP⟩ := hel htr hlen (hD' _ (List.mem_map.2 ⟨_, List.getElem_mem _, rfl⟩))
      obtain ⟨b, off, spot⟩ := a
      have hspot : spot = none := by
        have hi0 := hat 0 (by omega)
        rw [hk, List.getElem?_eq_getElem (show 0 < elems.length by omega), Option.bind_eq_some_iff] at hi0
        obtain ⟨cs0, hcs0, _⟩ := hi0
        obtain ⟨_, hl0, hc0⟩ := World.cells?_some hcs0
        have h0 := hc0 0 hpos
        rw [List.getElem?_eq_getElem (show 0 < cs0.length by omega)] at h0
        simpa [Addr.add] using World.cell?_spot h0
      subst hspot
      have hce : ∀ j v, (E.enc o)[j]? = some v → W.cell? ⟨b, off + i * E.k + j, none⟩ = some v := by
        intro j v hj
        have hjk : j < E.k := by
          rcases Nat.lt_or_ge j E.k with h' | h'
          · exact h'
          · rw [List.getElem?_eq_none (by rw [E.len]; exact h')] at hj; cases hj
        have := hcell j hjk
        rw [add_off, add_off, ho, hj] at this
        exact this
      have h1 : (E.enc o)[0]? = some ((E.enc o)[0]'(by rw [E.len]; exact hpos)) := List.getElem?_eq_getElem _
      exact ⟨o, hP, b, off, rfl, cell_lt (hce 0 _ h1), hce⟩
    obtain ⟨xs, hxl, hq⟩ := list_of l each
    subst hxl
    refine ⟨some a, c, xs, rfl, ⟨rfl, fun i hi => ?_⟩, (fun h => by cases h), fun x hx => ?_, hlen⟩
    · obtain ⟨_, b, off, e1, hlt, hc⟩ := hq i xs[i] (by simp [hi])
      exact ⟨b, off, xs[i], by rw [e1], hlt, by simp [hi], hc⟩
    · obtain ⟨i, hi, rfl⟩ := List.getElem_of_mem hx
      exact (hq i xs[i] (List.getElem?_eq_getElem hi)).1
theorem cDeed : Try.prog.cellsOf 67 = 3 := by kernel_rfl
theorem cRow1 : Try.prog.cellsOf 23 = 1 := by kernel_rfl
theorem cRowD : Try.prog.cellsOf 54 = 1 := by kernel_rfl
theorem cRowDD : Try.prog.cellsOf 36 = 1 := by kernel_rfl
theorem cPlan : Try.prog.cellsOf 26 = 3 := by kernel_rfl
theorem el_int {fuel : Nat} {cs : List Value} {y : DataW H × List MemPlace} (h : DataW.trod enc Try.prog W base sp held fuel 3 cs = some y) (hl : cs.length = 1) : ∃ x : Int, cs = inE.enc x ∧ True := by
  match cs, hl with
  | [x0], _ =>
    obtain ⟨n, rfl, _, _⟩ := trod_i64 h
    exact ⟨n, rfl, trivial⟩
theorem el_deed {fuel : Nat} {cs : List Value} {y : DataW H × List MemPlace} (h : DataW.trod enc Try.prog W base sp held fuel 67 cs = some y) (hl : cs.length = 3) : ∃ x : De, cs = deE.enc x ∧ (-9223372036854775808 ≤ x.k ∧ x.k ≤ 9223372036854775807) := by
  match cs, hl with
  | [x0, x1, x2], _ =>
    obtain ⟨z0, z1, z2, n2, _, _, s0, s1, s2⟩ := Go.Deep.trod_struct3 Try.underlying67 h
    simp only [cInt, List.drop_succ_cons, List.drop_zero, List.take_succ_cons, List.take_zero] at s0 s1 s2
    obtain ⟨f0, rfl, _, w0⟩ := trod_i64 s0
    obtain ⟨f1, rfl, _, _⟩ := trod_i64 s1
    obtain ⟨f2, rfl, _, _⟩ := trod_i64 s2
    exact ⟨⟨f0, f1, f2⟩, rfl, bounds_i64 w0⟩
theorem el_pair {fuel : Nat} {cs : List Value} {y : DataW H × List MemPlace} (h : DataW.trod enc Try.prog W base sp held fuel 65 cs = some y) (hl : cs.length = 2) : ∃ x : Int × Int, cs = prE.enc x ∧ True := by
  match cs, hl with
  | [x0, x1], _ =>
    obtain ⟨xs, m, _, _, _, hl, hel⟩ := DataW.trod_array Try.underlying65 h
    match xs, hl with
    | [y0, y1], _ =>
      have s0 := hel 0 (by decide)
      have s1 := hel 1 (by decide)
      simp only [cInt, Nat.zero_mul, Nat.one_mul, List.drop_succ_cons, List.drop_zero, List.take_succ_cons, List.take_zero, List.getElem?_cons_zero, List.getElem?_cons_succ] at s0 s1
      obtain ⟨f0, rfl, _, _⟩ := trod_i64 s0
      obtain ⟨f1, rfl, _, _⟩ := trod_i64 s1
      exact ⟨(f0, f1), rfl, trivial⟩
theorem el_fw {fuel : Nat} {cs : List Value} {y : DataW H × List MemPlace} (h : DataW.trod enc Try.prog W base sp held fuel 23 cs = some y) (hl : cs.length = 1) (hs : Sml y.1) : ∃ f : Fw, cs = fwE.enc f ∧ (GRow inE W f.a f.l.length f.l ∧ (f.a = none → f.l.length = 0 ∧ f.c = 0) ∧ f.l.length ≤ 1048576) := by
  match cs, hl with
  | [x0], _ =>
    obtain ⟨a, c, xs, rfl, hr, hn, _, hb⟩ := open_growS inE Try.underlying23 cInt (fun _ => True) (fun h hl _ => el_int h hl) h hs
    exact ⟨⟨a, c, xs⟩, rfl, hr, hn, hb⟩
theorem el_dr {fuel : Nat} {cs : List Value} {y : DataW H × List MemPlace} (h : DataW.trod enc Try.prog W base sp held fuel 54 cs = some y) (hl : cs.length = 1) (hs : Sml y.1) : ∃ d : Dr, cs = drE.enc d ∧ d.Fits W 1048576 := by
  match cs, hl with
  | [x0], _ =>
    obtain ⟨a, c, xs, rfl, hr, hn, hP, hb⟩ := open_growS deE Try.underlying54 cDeed _ (fun h hl _ => el_deed h hl) h hs
    exact ⟨⟨a, c, xs⟩, rfl, hr, hb, hP⟩
theorem el_tc {fuel : Nat} {cs : List Value} {y : DataW H × List MemPlace} (h : DataW.trod enc Try.prog W base sp held fuel 36 cs = some y) (hl : cs.length = 1) (hs : Sml y.1) : ∃ t : Tc, cs = tcE.enc t ∧ t.Fits W 1048576 := by
  match cs, hl with
  | [x0], _ =>
    obtain ⟨a, c, xs, rfl, hr, hn, hP, hb⟩ := open_growS drE Try.underlying36 cRowD _ (fun h hl hd => el_dr h hl hd) h hs
    exact ⟨⟨a, c, xs⟩, rfl, hr, hb, hP⟩
/-- Ticks, opened. -/
theorem open_ticks {r : Reach} {b0 : Nat} {v : Value} {d : DataW H} {p : List MemPlace} (hv : Value.okWide Try.prog W r b0 27 v) (h : DataW.Trod enc Try.prog W base sp held 27 v d p) (hs : Sml d) :
    ∃ a c ks, v = .slice a ks.length c ∧ GRow tcE W a ks.length ks ∧ (∀ t ∈ ks, t.Fits W 1048576) ∧ ks.length ≤ 1048576 := by
  obtain ⟨a', l', c', rfl⟩ := okWide_slice Try.underlying27 hv
  obtain ⟨n, hn⟩ := h
  have hn' : DataW.trod enc Try.prog W base sp held n 27 [.slice a' l' c'] = some (d, p) := by simpa [Value.cells] using hn
  obtain ⟨a, c, ks, e, hr, _, hP, hb⟩ := open_growS tcE Try.underlying27 cRowDD _ (fun h hl hd => el_tc h hl hd) hn' hs
  rw [e]
  exact ⟨a, c, ks, rfl, hr, hP, hb⟩
/-- A plan, opened. -/
theorem open_plan {r : Reach} {b0 : Nat} {v : Value} {d : DataW H} {p : List MemPlace} (hv : Value.okWide Try.prog W r b0 26 v) (h : DataW.Trod enc Try.prog W base sp held 26 v d p) (hs : Sml d) :
    ∃ x : Pl, v = .agg x.cs ∧ x.Fits W 1048576 := by
  obtain ⟨v0, v1, v2, y0, y1, y2, n, rfl, rfl, rfl, h0, h1, h2⟩ := _root_.Go.Joins.open_agg3 Try.underlying26 (by kernel_rfl) cPlan hv h
  have hp := sml_part hs
  obtain ⟨fa, fc, fs, rfl, hf, _, hfw, nf⟩ := open_growS fwE Try.underlying22 cRow1 _ (fun h hl hd => el_fw h hl hd) h0 (hp y0.1 (by simp))
  obtain ⟨sa, sc, st, rfl, hst, hsn, _, ns⟩ := open_growS inE Try.underlying23 cInt (fun _ => True) (fun h hl _ => el_int h hl) h1 (hp y1.1 (by simp))
  obtain ⟨la, lc, lk, rfl, hl, hln, _, nl⟩ := open_growS prE Try.underlying24 cPair (fun _ => True) (fun h hl _ => el_pair h hl) h2 (hp y2.1 (by simp))
  exact ⟨⟨fa, fc, fs, sa, sc, st, la, lc, lk⟩, rfl, hf, hfw, hst, hsn, hl, nf, ns, nl, hln⟩
end
end Go.Proofs.Ytkjjjibglaffnaa
