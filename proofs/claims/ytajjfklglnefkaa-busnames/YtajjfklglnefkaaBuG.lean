/-
  The document's Join.
-/
import Derived.Test.YtajjfklglnefkaaBuF
namespace Go.Proofs.Ytajjfklglnefkaa
open Go.RowKit
set_option maxRecDepth 8000
theorem Try.infoRp : (Try.prog.info? 72).map (fun i => (i.zero, i.size, i.bytes)) = some (some (.pointer none), 1, 8) := by kernel_rfl
/-- A thing is appended: where the new row lies. -/
theorem app_lie {α : Type} {E : Enc α} {w : World} {ops : Array Oper} {rest : List Oper} {o : Oper} {act : Act} {Q : Exit → Act → World → Prop} (hgd : o.guard = none) (s x : Operand) (T t : TypeId) {z : Value} {bts : Nat}
    (hT : Try.prog.underlying T = some (.slice t)) (hinfo : (Try.prog.info? t).map (fun i => (i.zero, i.size, i.bytes)) = some (some z, E.k, bts)) (hz : z.cells.size = E.k) (hbt : bts ≤ 64)
    (ho : o.op = .call { callee := .builtin .append, args := #[s, x], argTypes := #[T, T] }) (v : Value) (xs : List α) (hs : act.eval s = v) (hown : ORow E t w 0 v xs)
    (ad : Addr) (c : Nat) (y : α) (hx : act.eval x = .slice (some ad) 1 c) (hr : GRow E w (some ad) 1 [y]) (hb : xs.length ≤ 1000)
    (h : ∀ g cap w', ORow E t w' 0 (.slice (some ⟨g, 0, none⟩) (xs.length + 1) cap) (xs ++ [y]) → But (fun k => v.ownBlock = some k) w w' → (v.ownBlock = some g ∨ g = w.heap.size) → g < w'.heap.size → wpList Try.prog ops Q rest (act.put o.dst (.slice (some ⟨g, 0, none⟩) (xs.length + 1) cap)) w') : wpList Try.prog ops Q (o :: rest) act w := by
  obtain ⟨i0, hi, hz'⟩ := Option.map_eq_some_iff.1 hinfo
  simp only [Prod.mk.injEq] at hz'
  obtain ⟨hz0, hz1, hz2⟩ := hz'
  have hl1 : (E.flat [y]).length = 1 * E.k := by rw [E.flat_length]; rfl
  refine wpList_append_lies w hgd s x T ho 0 t i0 z E.k bts hT hi hz0 hz1 hz2 hz E.pos v xs.length (E.flat xs) hs hown ad 1 c (E.flat [y]) hx hl1 hr.news (E.flat_one _) (by omega) (by unfold maxLen; omega) (by
    have h1 : (xs.length + 1) * bts ≤ 1001 * 64 := Nat.mul_le_mul (by omega) hbt
    omega) (by omega) w.heap.size rfl ?_
  intro g cap w' h1 h2 h3 h4
  rw [← E.flat_append] at h1
  refine h g cap w' ?_ (But.grown But.rfl h2 (fun k hk _ => hk)) h3 h4
  show w'.ownsRow 0 t E.k _ (xs ++ [y]).length (E.flat (xs ++ [y]))
  rw [show (xs ++ [y]).length = xs.length + 1 by rw [List.length_append, List.length_singleton]]
  exact h1
def rjoined (o : Nat → Nat) (n q m gt gr : Nat) : Nat → Nat := fun k => if k < n then o k else if k = q then m else if k = gt then 2 else if k = gr then 3 else 0
theorem rjoin_none {w : World} {g : Nat} {o : Nat → Nat} {b : Bz} (x : Rb w g o b) {t : Int} (h : t < 0 ∨ b.n ≤ t) : Calls Try.prog 19 #[Ptr g, .int .i64 t] w fun e w' => e = .returned (.tuple #[.int .i64 0, .int .i64 200]) ∧ w' = w := by
  obtain ⟨cs, vt, vr, ts, ps, x⟩ := x
  have c := blk_cell x.at0 x.c0
  clear x
  by_cases g1 : t < 0
  · clear h
    go_enter Try.func19, Try.ntmps19
    go_wp2
    go_ret2
    exact ⟨rfl, rfl⟩
  · have g2 : b.n ≤ t := by omega
    clear h
    go_enter Try.func19, Try.ntmps19
    go_wp2
    go_ret2
    exact ⟨rfl, rfl⟩
theorem rjoin_many {w : World} {g : Nat} {o : Nat → Nat} {b : Bz} (x : Rb w g o b) {t : Int} (h1 : 0 ≤ t) (h2 : t < b.n) (hl : b.ls.length = 8) : Calls Try.prog 19 #[Ptr g, .int .i64 t] w fun e w' => e = .returned (.tuple #[.int .i64 0, .int .i64 6]) ∧ w' = w := by
  obtain ⟨cs, vt, vr, ts, ps, x⟩ := x
  have hln := x.tlen
  obtain ⟨a, c, e, _⟩ := ORow.row x.ownT
  rw [hln, hl] at e
  subst e
  have c0 := blk_cell x.at0 x.c0
  have c2 := blk_cell x.at0 x.c2
  have g1 : ¬ t < 0 := by omega
  have g2 : ¬ b.n ≤ t := by omega
  clear x h1 hl hln
  go_enter Try.func19, Try.ntmps19
  go_wp2
  go_ret2
  exact ⟨rfl, rfl⟩
/-- What stands behind both appends is a bus with a listener more. -/
theorem rb_join {w w1 w2 w3 w4 : World} {g q gt gr ct cr : Nat} {o : Nat → Nat} {b : Bz} {cs : Array Value} {vt vr : Value} {ts : List Int} {ps : List Nat} {t : Int} (x : RbX w g o b cs vt vr ts ps) (hl : b.ls.length < 8)
    (a1 : After w w1) (hq : w.heap.size ≤ q) (hq1 : w1.heap[q]? = some (.cells #[.int .i64 (16 : Int), .slice none 0 0, .int .i64 0, .int .i64 0] 85 (0, 0)))
    (ot : ORow inE 3 w2 0 (.slice (some ⟨gt, 0, none⟩) (ts.length + 1) ct) (ts ++ [t])) (b2 : But (fun k => vt.ownBlock = some k) w1 w2) (at2 : vt.ownBlock = some gt ∨ gt = w1.heap.size) (lt2 : gt < w2.heap.size)
    (a3 : After (w2.setCell ⟨g, 2, none⟩ (.slice (some ⟨gt, 0, none⟩) (ts.length + 1) ct)) w3)
    (or : ORow ptE 72 w4 0 (.slice (some ⟨gr, 0, none⟩) (ps.length + 1) cr) (ps ++ [q])) (b4 : But (fun k => vr.ownBlock = some k) w3 w4) (at4 : vr.ownBlock = some gr ∨ gr = w3.heap.size) (lt4 : gr < w4.heap.size) :
    ∃ o', Rb (w4.setCell ⟨g, 3, none⟩ (.slice (some ⟨gr, 0, none⟩) (ps.length + 1) cr)) g o' (b.join t) ∧ Goes w (w4.setCell ⟨g, 3, none⟩ (.slice (some ⟨gr, 0, none⟩) (ps.length + 1) cr)) o o' := by
  have hg := blk_lt x.at0
  have hq' := blk_lt hq1
  have hsz := x.size
  have hvt : ∀ k, vt.ownBlock = some k → k < w.heap.size := fun k hk => x.bnd k (by rw [x.lt k hk]; decide)
  have hvr : ∀ k, vr.ownBlock = some k → k < w.heap.size := fun k hk => x.bnd k (by rw [x.lr k hk]; decide)
  have ngt : ¬ vt.ownBlock = some g := fun h => by have := x.lt g h; rw [x.lp] at this; cases this
  have ngr : ¬ vr.ownBlock = some g := fun h => by have := x.lr g h; rw [x.lp] at this; cases this
  have s1 := a1.size
  have s2 := b2.size
  have s3 : w2.heap.size ≤ w3.heap.size := by have := a3.size; simpa [World.setCell] using this
  have s4 := b4.size
  have bg := but_one w2 g 2 (.slice (some ⟨gt, 0, none⟩) (ts.length + 1) ct)
  have bg' := but_one w4 g 3 (.slice (some ⟨gr, 0, none⟩) (ps.length + 1) cr)
  -- the bus's block
  have k2 := (b2.block g (Nat.lt_of_lt_of_le hg s1) ngt).trans ((a1.block g hg (fun t => t)).trans x.at0)
  have k3 := (a3.block g (by have : g < w2.heap.size := by omega
                             simpa [World.setCell] using this) (fun t => t)).trans (blk_put k2 2 (.slice (some ⟨gt, 0, none⟩) (ts.length + 1) ct))
  have k4 := blk_put ((b4.block g (by omega) ngr).trans k3) 3 (.slice (some ⟨gr, 0, none⟩) (ps.length + 1) cr)
  -- where the rows lie
  have gtg : gt ≠ g := fun h => by
    rcases at2 with h' | h'
    · exact ngt (by rw [h'.trans (by rw [h])])
    · omega
  have grg : gr ≠ g := fun h => by
    rcases at4 with h' | h'
    · exact ngr (by rw [h'.trans (by rw [h])])
    · omega
  have gtr : ¬ vr.ownBlock = some gt := fun h => by
    have e1 := x.lr gt h
    rcases at2 with h' | h'
    · have e2 := x.lt gt h'; omega
    · have := hvr gt h; omega
  have gtq : gt ≠ q := fun h => by
    rcases at2 with h' | h'
    · have := hvt gt h'; omega
    · omega
  have grq : gr ≠ q := fun h => by
    rcases at4 with h' | h'
    · have := hvr gr h'; omega
    · omega
  have hvtq : ¬ vt.ownBlock = some q := fun h => by have := hvt q h; omega
  have hvrq : ¬ vr.ownBlock = some q := fun h => by have := hvr q h; omega
  have gq : ¬ q = g := by omega
  have one1 : ∀ k, (Value.slice (some ⟨gt, 0, none⟩) (ts.length + 1) ct).ownBlock = some k → k = gt := fun k hk => by cases hk; rfl
  have one2 : ∀ k, (Value.slice (some ⟨gr, 0, none⟩) (ps.length + 1) cr).ownBlock = some k → k = gr := fun k hk => by cases hk; rfl
  -- labels
  have L0 : ∀ k, k < w.heap.size → rjoined o w.heap.size q (4 + ps.length) gt gr k = o k := fun k hk => if_pos hk
  have Lq : rjoined o w.heap.size q (4 + ps.length) gt gr q = 4 + ps.length := by
    unfold rjoined; rw [if_neg (by omega), if_pos rfl]
  have Lt : rjoined o w.heap.size q (4 + ps.length) gt gr gt = 2 := by
    unfold rjoined
    by_cases h : gt < w.heap.size
    · rw [if_pos h]
      rcases at2 with h' | h'
      · exact x.lt gt h'
      · omega
    · rw [if_neg h, if_neg gtq, if_pos rfl]
  have Lr : rjoined o w.heap.size q (4 + ps.length) gt gr gr = 3 := by
    unfold rjoined
    by_cases h : gr < w.heap.size
    · rw [if_pos h]
      rcases at4 with h' | h'
      · exact x.lr gr h'
      · omega
    · have : gr ≠ gt := fun e => by
        rcases at4 with h' | h'
        · have := hvr gr h'; omega
        · omega
      rw [if_neg h, if_neg grq, if_neg this, if_pos rfl]
  -- a block that is not of the bus's rows keeps what it holds
  have keep : ∀ k, k < w1.heap.size → k ≠ g → ¬ vt.ownBlock = some k → ¬ vr.ownBlock = some k → (w4.setCell ⟨g, 3, none⟩ (.slice (some ⟨gr, 0, none⟩) (ps.length + 1) cr)).heap[k]? = w1.heap[k]? := fun k hk n1 n2 n3 => by
    have h2 := b2.block k hk n2
    have h3 := a3.block k (by have : k < w2.heap.size := by omega
                              simpa [World.setCell] using this) (fun t => t)
    have h3' := bg.block k (by omega) n1
    have h4 := b4.block k (by omega) n3
    have h5 := bg'.block k (by omega) n1
    exact h5.trans (h4.trans (h3.trans (h3'.trans h2)))
  have go1 : But (fun k => k = g ∨ vt.ownBlock = some k ∨ vr.ownBlock = some k) w (w4.setCell ⟨g, 3, none⟩ (.slice (some ⟨gr, 0, none⟩) (ps.length + 1) cr)) := by
    have h1 : But (fun k => k = g ∨ vt.ownBlock = some k ∨ vr.ownBlock = some k) w w2 := a1.but.then b2 (fun i _ h => .inr (.inl h))
    have h2 : But (fun k => k = g ∨ vt.ownBlock = some k ∨ vr.ownBlock = some k) w w3 := (h1.then bg (fun i _ h => .inl h)).trans a3.but
    exact (h2.then b4 (fun i _ h => .inr (.inr h))).then bg' (fun i _ h => .inl h)
  have go : But (fun k => o k ≠ 0) w (w4.setCell ⟨g, 3, none⟩ (.slice (some ⟨gr, 0, none⟩) (ps.length + 1) cr)) := go1.mono (fun k _ h => by
    rcases h with h | h | h
    · rw [h, x.lp]; decide
    · rw [x.lt k h]; decide
    · rw [x.lr k h]; decide)
  refine ⟨rjoined o w.heap.size q (4 + ps.length) gt gr, ⟨_, .slice (some ⟨gt, 0, none⟩) (ts.length + 1) ct, .slice (some ⟨gr, 0, none⟩) (ps.length + 1) cr, ts ++ [t], ps ++ [q], k4, by simp [hsz], ?_, ?_, ?_, set_at (by simp [hsz]) _, fun i hi => ?_, ?_, ?_, ?_, ?_, ?_, fun i q' y hq' hy => ?_, ?_, fun k hk => ?_, fun k hk => ?_, fun k hk => ?_, join_ok x.ok hl t⟩, go, L0⟩
  · rw [set_off (by omega), set_off (by omega)]; exact x.c0
  · rw [set_off (by omega), set_off (by omega)]; exact x.c1
  · rw [set_off (by omega), set_at (by omega)]
  · rw [set_off (by omega), set_off (by omega)]; exact x.cl i hi
  · rw [set_off (by omega), set_off (by omega)]; exact x.c8
  · show ts ++ [t] = (b.ls ++ [(t, Sg.new)]).map Prod.fst
    rw [List.map_append, x.hts]; rfl
  · exact own_but (own_but (own_after (own_but ot bg (fun k hk e => gtg (by rw [← one1 k hk]; exact e))) a3) b4 (fun k hk e => gtr (by rw [← one1 k hk]; exact e))) bg' (fun k hk e => gtg (by rw [← one1 k hk]; exact e))
  · exact own_but or bg' (fun k hk e => grg (by rw [← one2 k hk]; exact e))
  · show (ps ++ [q]).length = (b.ls ++ [(t, Sg.new)]).length
    rw [List.length_append, List.length_append, x.len]; rfl
  · have hy : (b.ls ++ [(t, Sg.new)])[i]? = some y := hy
    by_cases hi : i < ps.length
    · rw [List.getElem?_append_left hi] at hq'
      rw [List.getElem?_append_left (by rw [← x.len]; exact hi)] at hy
      refine ((x.rings i q' y hq' hy).but go1 (fun k hk h => ?_)).mono (fun k hk => ?_)
      · have hk : o k = 4 + i := hk
        rcases h with h | h | h
        · rw [h, x.lp] at hk; omega
        · rw [x.lt k h] at hk; omega
        · rw [x.lr k h] at hk; omega
      · have hk : o k = 4 + i := hk
        exact (L0 k (x.bnd k (by omega))).trans hk
    · have h1 := (List.getElem?_eq_some_iff.1 hq').1
      rw [List.length_append, List.length_singleton] at h1
      obtain rfl : i = ps.length := by omega
      rw [List.getElem?_append_right (Nat.le_refl _)] at hq'
      rw [List.getElem?_append_right (by rw [x.len]; exact Nat.le_refl _)] at hy
      simp at hq'
      rw [x.len] at hy
      simp at hy
      subst hq'
      subst hy
      exact rf_new Lq ((keep q hq' gq hvtq hvrq).trans hq1) (by omega) (by omega)
  · rw [L0 g hg]; exact x.lp
  · rw [one1 k hk]; exact Lt
  · rw [one2 k hk]; exact Lr
  · have hz : (w4.setCell ⟨g, 3, none⟩ (.slice (some ⟨gr, 0, none⟩) (ps.length + 1) cr)).heap.size = w4.heap.size := by simp [World.setCell]
    rw [hz]
    unfold rjoined at hk
    by_cases c1 : k < w.heap.size
    · omega
    rw [if_neg c1] at hk
    by_cases c2 : k = q
    · omega
    rw [if_neg c2] at hk
    by_cases c3 : k = gt
    · omega
    rw [if_neg c3] at hk
    by_cases c4 : k = gr
    · omega
    rw [if_neg c4] at hk
    exact absurd rfl hk
end Go.Proofs.Ytajjfklglnefkaa
