/-
  The document's exec, in memory: get, put.
-/
import Derived.Test.YtkjjjibglaffnaaExW
namespace Go.Proofs.Ytkjjjibglaffnaa
open Go.RowKit
set_option maxRecDepth 8000
theorem blk_range {w : World} {g : Nat} {cs : Array Value} {T : TypeId} (hb : w.heap[g]? = some (.cells cs T (0, 0))) : ∀ j v, cs.toList[j]? = some v → w.cell? ⟨g, 0 + j, none⟩ = some v := by
  intro j v hv
  rw [Nat.zero_add]
  exact blk_cell hb (by simpa using hv)
/-- A whole block is read. -/
theorem load_blk {w : World} {g : Nat} {cs : Array Value} {T T' : TypeId} {d : TypeDesc} (hb : w.heap[g]? = some (.cells cs T' (0, 0))) (hu : Try.prog.underlying T = some d) (hd : d.isRow = true) (hi : (Try.prog.info? T).map (·.size) = some cs.size) :
    (loadVar T ⟨g, 0, none⟩).run Try.prog w = .ok (.agg cs) w := by
  have := run_loadVar_mid (P := Try.prog) w g 0 T cs.toList d (blk_range hb) hu hd (by simpa using hi)
  simpa using this
/-- A result that lies in a cell, of whatever size. -/
theorem ret_cell {F : Func} {R : Ending → World → Prop} {a : Act} {w : World} {p : Tmp} {T T' : TypeId} {g : Nat} {cs : Array Value} {d : TypeDesc} (hr : F.results = #[.cell p T]) (hp : a.tmps.getD p undef = Ptr g) (hb : w.heap[g]? = some (.cells cs T' (0, 0)))
    (hu : Try.prog.underlying T = some d) (hd : d.isRow = true) (hi : (Try.prog.info? T).map (·.size) = some cs.size) (hf : a.defers = []) (hR : R (.returned (.agg cs)) w) : bodyPost Try.prog F R .ret a w := by
  refine bodyPost_ret (v := .agg cs) ?_ hf hR
  have hl := load_blk hb hu hd hi
  have hp' : a.tmps[p]?.getD undef = Ptr g := by simpa using hp
  simp only [results, hr]
  simp [hp', asAddr, hl]
theorem Try.infoHeard : (Try.prog.info? 69).map (·.size) = some 2 := by kernel_rfl
/-- Where the document's exec has its own. -/
structure Rq where
  q : Nat
  hb : Nat
  vb : Nat
  fa : Option Addr
  fc : Nat
  fs : List Fw
  sa : Option Addr
  sc : Nat
  la : Option Addr
  lc : Nat
  hc : Nat
  vc : Nat
/-- The blocks that are stored into. -/
def Rq.In (d : Rq) (k : Nat) : Prop := k = d.q ∨ k = d.hb ∨ k = d.vb
def lkH (L : List Lk) : Array Value := (L.map fun l => Value.bool l.o.isSome).toArray
def lkV (L : List Lk) : Array Value := (L.map fun l => Value.int .i64 (l.o.getD 0)).toArray
abbrev Rq.cs (d : Rq) (x : Xp) : Array Value := #[.slice d.fa d.fs.length d.fc, .slice d.sa x.st.length d.sc, .slice d.la x.L.length d.lc, .slice (some ⟨d.hb, 0, none⟩) x.L.length d.hc, .slice (some ⟨d.vb, 0, none⟩) x.L.length d.vc, .int .i64 x.at_]
/-- The blocks of its rows. -/
def Rq.Row (d : Rq) (x : Xp) (k : Nat) : Prop := (∃ z, d.fa = some z ∧ 0 < d.fs.length ∧ z.block = k) ∨ (∃ f ∈ d.fs, ∃ z, f.a = some z ∧ 0 < f.l.length ∧ z.block = k) ∨ (∃ z, d.sa = some z ∧ 0 < x.st.length ∧ z.block = k) ∨ ∃ z, d.la = some z ∧ 0 < x.L.length ∧ z.block = k
/-- The document's exec lies there. -/
structure Rx (w : World) (d : Rq) (x : Xp) : Prop where
  at0 : w.heap[d.q]? = some (.cells (d.cs x) 86 (0, 0))
  fr : d.fs.map Fw.l = x.fr
  rf : GRow fwE w d.fa d.fs.length d.fs
  fw : ∀ f ∈ d.fs, GRow inE w f.a f.l.length f.l
  rs : GRow inE w d.sa x.st.length x.st
  rl : GRow prE w d.la x.L.length (skel x.L)
  bh : w.heap[d.hb]? = some (.cells (lkH x.L) 4 (0, 0))
  bv : w.heap[d.vb]? = some (.cells (lkV x.L) 3 (0, 0))
  ne : d.q ≠ d.hb ∧ d.q ≠ d.vb ∧ d.hb ≠ d.vb
  dr : ∀ k, d.Row x k → ¬ d.In k
  ok : x.Ok
/-- What others do. -/
theorem Rx.but {S : Nat → Prop} {w w' : World} {d : Rq} {x : Xp} (h : Rx w d x) (b : But S w w') (hI : ∀ k, d.In k → ¬ S k) (hR : ∀ k, d.Row x k → ¬ S k) : Rx w' d x :=
  ⟨(b.block _ (blk_lt h.at0) (hI _ (.inl rfl))).trans h.at0, h.fr, h.rf.but b (fun z hz hn s => hR _ (.inl ⟨z, hz, hn, rfl⟩) s), fun f hf => (h.fw f hf).but b (fun z hz hn s => hR _ (.inr (.inl ⟨f, hf, z, hz, hn, rfl⟩)) s), h.rs.but b (fun z hz hn s => hR _ (.inr (.inr (.inl ⟨z, hz, hn, rfl⟩))) s), h.rl.but b (fun z hz hn s => hR _ (.inr (.inr (.inr ⟨z, hz, hn, rfl⟩))) s),
    (b.block _ (blk_lt h.bh) (hI _ (.inr (.inl rfl)))).trans h.bh, (b.block _ (blk_lt h.bv) (hI _ (.inr (.inr rfl)))).trans h.bv, h.ne, h.dr, h.ok⟩
theorem Rx.after {w w' : World} {d : Rq} {x : Xp} (h : Rx w d x) (a : After w w') : Rx w' d x := h.but a (fun _ _ t => t) (fun _ _ t => t)
/-- A link's row, and what it has. -/
theorem Rx.link {w : World} {d : Rq} {x : Xp} (h : Rx w d x) {k : Nat} {l : Lk} (hl : x.L[k]? = some l) : ∃ b off, d.la = some ⟨b, off, none⟩ ∧ b < w.heap.size ∧ w.cell? ⟨b, off + k * 2, none⟩ = some (.int .i64 l.f) ∧ w.cell? ⟨b, off + k * 2 + 1, none⟩ = some (.int .i64 l.t) ∧ w.cell? ⟨d.hb, k, none⟩ = some (.bool l.o.isSome) ∧ w.cell? ⟨d.vb, k, none⟩ = some (.int .i64 (l.o.getD 0)) := by
  have hk : k < x.L.length := (List.getElem?_eq_some_iff.1 hl).1
  obtain ⟨b, off, y, e, hb, hy, c0, c1⟩ := pr_at h.rl hk
  have : y = (l.f, l.t) := by
    unfold skel at hy
    rw [List.getElem?_map, hl] at hy
    cases hy; rfl
  subst this
  exact ⟨b, off, e, hb, c0, c1, blk_cell h.bh (by unfold lkH; simp [hl]), blk_cell h.bv (by unfold lkV; simp [hl])⟩
set_option maxHeartbeats 1000000 in
theorem rget_any {w : World} {d : Rq} {x : Xp} (h : Rx w d x) (p i : Int) : Calls Try.prog 40 #[Ptr d.q, .int .i64 p, .int .i64 i] w fun e w' => e = .returned (.agg #[.int .i64 (getA x.L p i).v, .bool (getA x.L p i).is]) ∧ After w w' := by
  have c2 : w.cell? ⟨d.q, 2, none⟩ = some (.slice d.la x.L.length d.lc) := blk_cell h.at0 (i := 2) rfl
  have c3 : w.cell? ⟨d.q, 3, none⟩ = some (.slice (some ⟨d.hb, 0, none⟩) x.L.length d.hc) := blk_cell h.at0 (i := 3) rfl
  have c4 : w.cell? ⟨d.q, 4, none⟩ = some (.slice (some ⟨d.vb, 0, none⟩) x.L.length d.vc) := blk_cell h.at0 (i := 4) rfl
  have lq := blk_lt h.at0
  have lh := blk_lt h.bh
  have lv := blk_lt h.bv
  have i0 : (x.L.length : Int) ≤ 16 := by have := h.ok.l2; omega
  rcases hl : lkAt x.L i with _ | l
  · have e1 : getA x.L p i = ⟨0, false⟩ := by unfold getA; rw [hl]
    rw [e1]
    have hi : i < 0 ∨ (¬ i < 0 ∧ (x.L.length : Int) ≤ i) := by
      unfold lkAt at hl
      split at hl
      · have := List.getElem?_eq_none_iff.1 hl; omega
      · omega
    clear hl e1 h
    rcases hi with h1 | ⟨h1, h2⟩
    · go_enter Try.func40, Try.ntmps40
      go_wp2
      exact ret_cell Try.results40 rfl (heap_alloc_new w _) Try.underlying69 rfl Try.infoHeard rfl ⟨rfl, After.rfl.alloc _⟩
    · go_enter Try.func40, Try.ntmps40
      go_wp2
      exact ret_cell Try.results40 rfl (heap_alloc_new w _) Try.underlying69 rfl Try.infoHeard rfl ⟨rfl, After.rfl.alloc _⟩
  · obtain ⟨hi, hk, hkl⟩ := lkAt_nat hl
    obtain ⟨k, rfl⟩ : ∃ k : Nat, i = (k : Int) := ⟨i.toNat, by omega⟩
    rw [Int.toNat_natCast] at hk hkl
    obtain ⟨b, off, e, hb, d0, d1, d2, d3⟩ := h.link hk
    rw [e] at c2
    have i1 : (k : Int) < (x.L.length : Int) := by omega
    have i2 : ¬ x.L.length ≤ k := by omega
    have i3 : ¬ (k : Int) < 0 := by omega
    by_cases hp : l.t = p
    · have e1 : getA x.L p k = ⟨l.o.getD 0, l.o.isSome⟩ := by unfold getA; rw [hl]; exact if_pos hp
      rw [e1]
      have hne : (l.t != p) = false := by simp [hp]
      obtain ⟨lf, lt, lo⟩ := l
      dsimp only at *
      clear hl e1 h hp
      rcases lo with _ | v
      · dsimp only [Option.isSome, Option.getD] at *
        go_enter Try.func40, Try.ntmps40
        go_wp2
        exact ret_cell Try.results40 rfl (heap_alloc_new w _) Try.underlying69 rfl Try.infoHeard rfl ⟨rfl, After.rfl.alloc _⟩
      · dsimp only [Option.isSome, Option.getD] at *
        go_enter Try.func40, Try.ntmps40
        go_wp2
        exact ret_cell Try.results40 rfl (heap_alloc_new w _) Try.underlying69 rfl Try.infoHeard rfl ⟨rfl, After.rfl.alloc _⟩
    · have e1 : getA x.L p k = ⟨0, false⟩ := by unfold getA; rw [hl]; exact if_neg hp
      rw [e1]
      have hne : (l.t != p) = true := by simpa using hp
      clear hl e1 h hp
      go_enter Try.func40, Try.ntmps40
      go_wp2
      exact ret_cell Try.results40 rfl (heap_alloc_new w _) Try.underlying69 rfl Try.infoHeard rfl ⟨rfl, After.rfl.alloc _⟩
theorem Xp.Ok.links {x : Xp} (h : x.Ok) {L' : List Lk} (hs : skel L' = skel x.L) : ({ x with L := L' } : Xp).Ok := by
  have hl := congrArg List.length hs
  unfold skel at hl
  rw [List.length_map, List.length_map] at hl
  exact ⟨h.f1, h.f2, h.fs, h.s1, h.s2, h.ss, by show L'.length ≤ 16; rw [hl]; exact h.l2, by show ∀ q ∈ skel L', _; rw [hs]; exact h.ls, h.a1⟩
theorem skel_set {L : List Lk} {k : Nat} {l : Lk} (hl : L[k]? = some l) (v : Int) : skel (L.set k { l with o := some v }) = skel L := by
  unfold skel
  rw [List.map_set]
  obtain ⟨hk, e⟩ := List.getElem?_eq_some_iff.1 hl
  apply List.ext_getElem (by simp)
  intro i h1 h2
  rw [List.getElem_set]
  split
  · subst_vars; simp
  · rfl
/-- What is put. -/
theorem Rx.put {w : World} {d : Rq} {x : Xp} (h : Rx w d x) {k : Nat} {l : Lk} (hl : x.L[k]? = some l) (v : Int) : Rx ((w.setCell ⟨d.hb, k, none⟩ (.bool true)).setCell ⟨d.vb, k, none⟩ (.int .i64 v)) d { x with L := x.L.set k { l with o := some v } } ∧ But d.In w ((w.setCell ⟨d.hb, k, none⟩ (.bool true)).setCell ⟨d.vb, k, none⟩ (.int .i64 v)) := by
  have b1 := (but_one w d.hb k (.bool true)).mono (T := d.In) (fun i _ e => .inr (.inl e))
  have b2 := (but_one (w.setCell ⟨d.hb, k, none⟩ (.bool true)) d.vb k (.int .i64 v)).mono (T := d.In) (fun i _ e => .inr (.inr e))
  have b := b1.trans b2
  obtain ⟨n1, n2, n3⟩ := h.ne
  have hs := skel_set hl v
  have hn : (x.L.set k { l with o := some v }).length = x.L.length := List.length_set ..
  have hR : ∀ z, d.Row x z → ¬ d.In z := h.dr
  refine ⟨⟨?_, h.fr, h.rf.but b (fun z hz hn s => hR _ (.inl ⟨z, hz, hn, rfl⟩) s), fun f hf => (h.fw f hf).but b (fun z hz hn s => hR _ (.inr (.inl ⟨f, hf, z, hz, hn, rfl⟩)) s), h.rs.but b (fun z hz hn s => hR _ (.inr (.inr (.inl ⟨z, hz, hn, rfl⟩))) s), ?_, ?_, ?_, h.ne, ?_, h.ok.links hs⟩, b⟩
  · refine Eq.trans ?_ (congrArg some (congrArg (fun c => Obj.cells c 86 (0, 0)) (show d.cs x = d.cs { x with L := x.L.set k { l with o := some v } } by unfold Rq.cs; dsimp only; rw [hn])))
    exact ((but_one _ d.vb k _).block d.q (Nat.lt_of_lt_of_le (blk_lt h.at0) b1.size) n2).trans (((but_one w d.hb k _).block d.q (blk_lt h.at0) n1).trans h.at0)
  · dsimp only
    rw [hn, hs]
    exact h.rl.but b (fun z hz hn s => hR _ (.inr (.inr (.inr ⟨z, hz, hn, rfl⟩))) s)
  · refine ((but_one _ d.vb k _).block d.hb (Nat.lt_of_lt_of_le (blk_lt h.bh) b1.size) n3).trans ((blk_put h.bh k (.bool true)).trans ?_)
    unfold lkH
    dsimp only
    rw [List.map_set]
    simp
  · refine (blk_put (((but_one w d.hb k _).block d.vb (blk_lt h.bv) (fun e => n3 e.symm)).trans h.bv) k (.int .i64 v)).trans ?_
    unfold lkV
    dsimp only
    rw [List.map_set]
    simp
  · intro z hz
    unfold Rq.Row at hz
    dsimp only at hz
    rw [hn] at hz
    exact hR z hz
/-- What put leaves behind. -/
def RPut (w : World) (d : Rq) (x : Xp) (w' : World) : Prop := Rx w' d x ∧ But d.In w w'
abbrev turC (p : Int) (t : Tn) (vh : Value) : Array Value := #[.int .i64 p, .int .i64 t.u, .bool t.ov, .bool t.fa, vh]
end Go.Proofs.Ytkjjjibglaffnaa
