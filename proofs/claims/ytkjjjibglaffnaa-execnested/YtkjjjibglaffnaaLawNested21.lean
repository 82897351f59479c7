/-
  ExecNested: a Tick within a Tick is refused, and changes nothing.
-/
import Derived.Test.YtkjjjibglaffnaaExU
namespace Go.Proofs.Ytkjjjibglaffnaa
open Go.RowKit
set_option maxRecDepth 8000
/-- A literal of one's own. -/
theorem lit_own {α : Type} {E : Enc α} {w : World} {B g c : Nat} {cs : Array Value} {T : TypeId} {xs : List α} (h : w.heap[g]? = some (.cells cs T (0, 0))) (hB : B ≤ g) (hz : cs.toList = E.flat xs) (hc : c = xs.length) (hm : c ≤ maxLen) : ORow E T w B (.slice (some ⟨g, 0, none⟩) c c) xs := by
  subst hc
  have hl := E.flat_length xs
  refine ⟨hl, .inr ⟨g, xs.length, cs, rfl, hB, h, Nat.le_refl _, hm, ?_, ?_⟩⟩
  · rw [← Array.length_toList, hz, hl]
  · rw [hz, ← hl, List.take_length]
theorem Try.runNested (g : Nat) (w : World) : (method 230 40 (Ptr g) "Run").run Try.prog w = .ok (59, Ptr g) w := by kernel_rfl
/-- The task that asks for a Tick: what its run does. -/
theorem nested_any {w : World} {p q c b : Nat} {fa sa : Option Addr} {fn fc sn sc : Nat} {lv : Value} {at_ : Int} {n e0 : Int} {s : Int} {lv2 : Value} {pt : Int} (hp : w.heap[p]? = some (.cells (exC (.slice fa fn fc) (.slice sa sn sc) lv at_ true) 73 (0, 0))) (hf : 1 ≤ fn) (hq : w.heap[q]? = some (.cells #[Ptr p, .int .i64 n, .int .i64 e0] 42 (0, 0))) (cl : Cl w c b pt Tn.new s lv2 false) (h0 : 2 ≤ s) (h1 : s ≤ 1048576) :
    Calls Try.prog 59 #[Ptr q, Ptr c] w fun e w' => e = .returned (.tuple #[]) ∧ Cl w' c b pt ⟨2, false, false⟩ s lv2 false ∧ w'.heap[q]? = some (.cells #[Ptr p, .int .i64 0, .int .i64 210] 42 (0, 0)) ∧ But (fun k => k = q ∨ k = b) w w' := by
  obtain ⟨W, hW⟩ : ∃ W, W = w.alloc (.cells #[.nilIface] 97) := ⟨_, rfl⟩
  have aW : After w W := by rw [hW]; exact After.rfl.alloc _
  have HB := hideIt (tick_busy ((aW.block p (blk_lt hp) (fun t => t)).trans hp) hf (.slice (some ⟨w.heap.size, 0, none⟩) 1 1))
  have c0 := blk_cell hq (i := 0) rfl
  have HQ := hideIt (And.intro ((aW.block q (blk_lt hq) (fun t => t)).trans hq) (And.intro (cl.after aW) aW))
  have HW := hideIt hW
  have lq := blk_lt hq
  have HS := hideIt (And.intro h0 h1)
  clear hp hf hq cl h0 h1 hW aW
  go_enter Try.func59, Try.ntmps59
  go_wp2_with fail
  rw [← HW.out]
  refine HB.out.mono ?_
  rintro e w1 ⟨rfl, a1⟩
  have q1 := (a1.block q (blk_lt HQ.out.1) (fun t => t)).trans HQ.out.1
  have d1 := blk_cell q1 (i := 1) rfl
  have d2 := blk_cell q1 (i := 2) rfl
  have s1 := blk_soft q1 1
  have s2 := blk_soft q1 2
  have qb : q ≠ b := fun e => by
    have := HQ.out.2.1.t0
    rw [← e, HQ.out.1] at this
    simp at this
  have qc : q ≠ c := fun e => by
    have := HQ.out.2.1.c0
    rw [← e, HQ.out.1] at this
    simp at this
  have b2 : But (One q) w1 ((w1.setCell ⟨q, 1, none⟩ (.int .i64 0)).setCell ⟨q, 2, none⟩ (.int .i64 210)) := (but_one _ q 1 _).trans (but_one _ q 2 _)
  have cl2 := (HQ.out.2.1.after a1).but b2 (fun e => qc (show c = q from e).symm) (fun e => qb (show b = q from e).symm)
  have HU := hideIt (use_any cl2 ⟨Int.le_refl 0, by have := HS.out.1; show (0 : Int) ≤ s; omega⟩ HS.out.2 2)
  have q2 := blk_put (blk_put q1 1 (.int .i64 0)) 2 (.int .i64 210)
  have HR := hideIt (And.intro q2 (And.intro b2 (And.intro (HQ.out.2.2.trans a1) qb)))
  clear q1 b2 cl2 a1 q2 qb qc
  go_wp2_with fail
  refine HU.out.mono ?_
  rintro e w2 ⟨rfl, cl3, b3⟩
  have hU : useT s Tn.new 2 = ⟨2, false, false⟩ := by
    unfold useT Tn.new Tn.stop
    have := HS.out.1
    simp
    omega
  rw [hU] at cl3
  go_wp2_with fail
  go_end0
  refine ⟨rfl, cl3, (b3.block q (blk_lt HR.out.1) (fun e => HR.out.2.2.2 (show q = b from e))).trans HR.out.1, (HR.out.2.2.1.but.trans (HR.out.2.1.mono (fun _ _ h => .inl h))).then b3 (fun _ _ h => .inr h)⟩
/-- Beside the turn of such a task: the exec's own block, and the task's. -/
def InvN (p q : Nat) (fn : Nat) (j : Nat) (o : Nat → Nat) (l : List An) (w : World) : Prop :=
  (∃ fa fc sa sn sc lv at_, w.heap[p]? = some (.cells (exC (.slice fa fn fc) (.slice sa sn sc) lv at_ true) 73 (0, 0))) ∧ o p = 1 ∧ o q = 10 ∧ (∀ k, o k ≠ 0 → k < w.heap.size) ∧ l = List.replicate j ⟨0, ⟨2, false, false⟩⟩ ∧
  (if j = 0 then ∃ n e, w.heap[q]? = some (.cells #[Ptr p, .int .i64 n, .int .i64 e] 42 (0, 0)) else w.heap[q]? = some (.cells #[Ptr p, .int .i64 0, .int .i64 210] 42 (0, 0)))
theorem inv_step {p q fn : Nat} {j : Nat} {o o' : Nat → Nat} {l : List An} {w w' : World} (h : InvN p q fn j o l w) {S : Nat → Prop} (b : But S w w') (hp : ¬ S p) (hq : ¬ S q) (ep : o' p = o p) (eq : o' q = o q) (hb : ∀ k, o' k ≠ 0 → k < w'.heap.size) : InvN p q fn j o' l w' := by
  obtain ⟨⟨fa, fc, sa, sn, sc, lv, at_, hx⟩, op, oq, bnd, hl, hz⟩ := h
  refine ⟨⟨fa, fc, sa, sn, sc, lv, at_, (b.block p (blk_lt hx) hp).trans hx⟩, ep.trans op, eq.trans oq, hb, hl, ?_⟩
  by_cases e : j = 0
  · rw [if_pos e] at hz ⊢
    obtain ⟨n, e, hz⟩ := hz
    exact ⟨n, e, (b.block q (blk_lt hz) hq).trans hz⟩
  · rw [if_neg e] at hz ⊢
    exact (b.block q (blk_lt hz) hq).trans hz
theorem ifc_nested (q : Nat) : Ifc (.iface 40 (Ptr q)) := .inr ⟨_, q, rfl⟩
def ivN (q : Nat) : Iv := ⟨.iface 40 (Ptr q), ifc_nested q⟩
theorem InvN.lts {p q fn : Nat} {j : Nat} {o : Nat → Nat} {l : List An} {w : World} (h : InvN p q fn j o l w) : p < w.heap.size ∧ q < w.heap.size := by
  obtain ⟨_, op, oq, bnd, _⟩ := h
  exact ⟨bnd p (by omega), bnd q (by omega)⟩
theorem bes_nested {p q fn : Nat} {lv : Value} (hfn : 1 ≤ fn) : Beside (InvN p q fn) [5] [0] lv [ivN q] where
  after := fun h a => inv_step h a (fun t => t) (fun t => t) rfl rfl (fun k hk => Nat.lt_of_lt_of_le (h.2.2.2.1 k hk) a.size)
  lab := fun {j o l w w' S g} h b h1 h2 h3 => by
    have lts := h.lts
    have op := h.2.1
    have oq := h.2.2.1
    have np : p ≠ g := fun e => by rcases h2 with h2 | h2 <;> rw [← e] at h2 <;> omega
    have nq : q ≠ g := fun e => by rcases h2 with h2 | h2 <;> rw [← e] at h2 <;> omega
    refine inv_step h b (fun s => by have := h1 p lts.1 s; omega) (fun s => by have := h1 q lts.2 s; omega) (upd_ne _ _ np) (upd_ne _ _ nq) (fun k hk => ?_)
    by_cases e : k = g
    · rw [e]; exact h3
    · rw [upd_ne _ _ e] at hk
      exact Nat.lt_of_lt_of_le (h.2.2.2.1 k hk) b.size
  bnd := fun h => h.2.2.2.1
  turn := by
    rintro j o l w w1 b pt s v h a hb hpj hsj hvj hblk
    match j, hpj with
    | j + 1, hpj => simp at hpj
    | 0, hpj =>
      simp at hpj
      subst hpj
      simp at hsj hvj
      subst hsj
      subst hvj
      have lts := h.lts
      obtain ⟨⟨fa, fc, sa, sn, sc, lv', at_, hx⟩, op, oq, bnd, hl, hz⟩ := h
      rw [if_pos rfl] at hz
      obtain ⟨n, e0, hz⟩ := hz
      have ob : o b = 0 := by
        rcases Nat.eq_zero_or_pos (o b) with e | e
        · exact e
        · have := bnd b (by omega); omega
      have sa1 := a.size
      refine (give_task hblk (Try.runNested q) (enterC Try.func59 (by kernel_rfl) (by kernel_rfl)) (fun c t' w2 => t' = ⟨2, false, false⟩ ∧ (∃ W, After w1 W ∧ But (fun k => k = q ∨ k = b) W w2) ∧ w2.heap[q]? = some (.cells #[Ptr p, .int .i64 0, .int .i64 210] 42 (0, 0))) ?_).mono ?_
      · intro gt gk c W m
        have aW := a.trans m.aft
        refine (nested_any ((aW.block p lts.1 (fun t => t)).trans hx) hfn ((aW.block q lts.2 (fun t => t)).trans hz) m.cl (by decide) (by decide)).mono ?_
        rintro e w2 ⟨rfl, cl, hq2, b2⟩
        have far : ∀ z, w1.heap.size ≤ z → z ≠ b → z < W.heap.size → w2.heap[z]? = W.heap[z]? := fun z h1 h2 h3 => b2.block z h3 (fun h => by omega)
        have bl := blk_lt hblk
        exact ⟨rfl, ⟨2, false, false⟩, cl.t0, far gt m.nt (by have := m.nt; omega) (blk_lt m.kt), far gk m.nk (by have := m.nk; omega) (blk_lt m.kk), rfl, ⟨W, m.aft, b2⟩, hq2⟩
      · rintro e w' ⟨rfl, w2, t', c, ⟨rfl, ⟨W, aW, b2⟩, hq2⟩, ⟨gk, qk, hgk, hb', bg, _⟩, _⟩
        have BB : But (fun k => k = q ∨ k = b ∨ k = gk) w w' := (((a.trans aW).but).trans (b2.mono (fun _ _ h => h.elim .inl (fun h => .inr (.inl h))))).then bg (fun _ _ h => h.elim (fun h => .inr (.inr h)) (fun h => .inr (.inl h)))
        have hS : ∀ k, k < w.heap.size → (k = q ∨ k = b ∨ k = gk) → k = q := fun k hk h => by omega
        have pq : p ≠ q := fun e => by rw [e, oq] at op; omega
        have aS := aW.size
        have hq' : w'.heap[q]? = some (.cells #[Ptr p, .int .i64 0, .int .i64 210] 42 (0, 0)) := (bg.block q (blk_lt hq2) (fun h => by omega)).trans hq2
        refine ⟨rfl, o, ⟨2, false, false⟩, hb', ⟨BB.mono (fun k hk h => ?_), fun _ _ => rfl⟩, ob, ⟨⟨fa, fc, sa, sn, sc, lv', at_, (BB.block p lts.1 (fun h => pq (hS p lts.1 h))).trans hx⟩, op, oq, fun k hk => Nat.lt_of_lt_of_le (bnd k hk) BB.size, ?_, ?_⟩⟩
        · rw [hS k hk h, oq]; unfold AT; omega
        · rw [hl]; rfl
        · rw [if_neg (by omega)]; exact hq'
theorem chk_rep {n : Nat} (h1 : 1 ≤ n) (h2 : n ≤ 16) : chkT (List.replicate n [0]) [5] [] = 0 := by
  have h : ∀ k : Fin 17, 1 ≤ k.val → chkT (List.replicate k.val [0]) [5] [] = 0 := by decide
  exact h ⟨n, by omega⟩ h1
/-- An exec in its loop. -/
def Nst (B : Nat) (w : World) (p n : Nat) : Prop := ∃ o at_ lv, ExS w p o ⟨List.replicate n [0], [5], [], at_⟩ lv false ∧ (∃ a m c, lv = .slice a m c) ∧ (∀ k, o k ≠ 0 → k < w.heap.size) ∧ (∀ k, o k ≠ 0 → B ≤ k)
theorem nst_tick {B : Nat} {w : World} {p n : Nat} (h : Nst B w p n) (hB : B ≤ w.heap.size) {W : World} (hW : W = (w.alloc (.cells #[Ptr p, .int .i64 0, .int .i64 0] 42)).alloc (.cells #[.iface 40 (Ptr w.heap.size)] 97)) :
    Calls Try.prog 14 #[Ptr p, .slice (some ⟨w.heap.size + 1, 0, none⟩) 1 1] W fun e w' => ∃ g c, e = .returned (.tuple #[.slice (some ⟨g, 0, none⟩) 1 c, .int .i64 0]) ∧ w'.cell? ⟨g, 0, none⟩ = some (.int .i64 0) ∧ w'.cell? ⟨g, 1, none⟩ = some (.int .i64 2) ∧ w'.cell? ⟨g, 2, none⟩ = some (.bool false) ∧ w'.cell? ⟨g, 3, none⟩ = some (.bool false) ∧ w'.heap[w.heap.size]? = some (.cells #[Ptr p, .int .i64 0, .int .i64 210] 42 (0, 0)) ∧ Nst B w' p n ∧ (∀ w0, After w0 W → w0.heap.size ≤ B → After w0 w') ∧ B ≤ w'.heap.size := by
  obtain ⟨o, at_, lv, ⟨fa, fc, sa, sc, fws, hx⟩, hlv, bnd, base⟩ := h
  obtain ⟨q, hq⟩ : ∃ q, q = w.heap.size := ⟨_, rfl⟩
  rw [← hq] at hW ⊢
  have s1 : (w.alloc (.cells #[Ptr p, .int .i64 0, .int .i64 0] 42)).heap.size = q + 1 := by rw [hq]; simp
  have aW : After w W := by rw [hW]; exact (After.rfl.alloc _).alloc _
  have h0 : W.heap[q]? = some (.cells #[Ptr p, .int .i64 0, .int .i64 0] 42 (0, 0)) := by
    rw [hW, hq]
    exact ((After.rfl.alloc (.cells #[.iface 40 (Ptr w.heap.size)] 97)).block _ (by simp) (fun t => t)).trans (heap_alloc_new w _)
  have h1 : W.heap[q + 1]? = some (.cells #[.iface 40 (Ptr q)] 97 (0, 0)) := by
    rw [hW, ← s1]
    exact heap_alloc_new _ _
  have hX := hx.but aW (o' := upd o q 10) (fun _ _ t => t.elim) (fun k hk => upd_ne _ _ (by omega))
  have ha : at_ < fws.length := by rw [hx.len]; exact hx.ok.a1
  have hfa : fws[at_]? = some (fws[at_]'ha) := List.getElem?_eq_getElem ha
  obtain ⟨f, hf⟩ : ∃ f, f = fws[at_]'ha := ⟨_, rfl⟩
  rw [← hf] at hfa
  have hfl : f.l = [0] := by
    have hm : f.l ∈ List.replicate n [0] := by
      have this : f.l ∈ fws.map Fw.l := List.mem_map.2 ⟨f, List.mem_of_getElem? hfa, rfl⟩
      rw [hx.fr] at this
      exact this
    exact (List.mem_replicate.1 hm).2
  have lp := blk_lt hx.at0
  have hfn : 1 ≤ fws.length := by omega
  have bnd' : ∀ k, upd o q 10 k ≠ 0 → k < W.heap.size := fun k hk => by
    by_cases e : k = q
    · rw [e]; exact blk_lt h0
    · rw [upd_ne _ _ e] at hk
      exact Nat.lt_of_lt_of_le (bnd k hk) aW.size
  have bs : Beside (InvN p q fws.length) [5] f.l lv [ivN q] := by rw [hfl]; exact bes_nested hfn
  have hT := tick_any (tc := 1) (iv := [ivN q]) hX hfa hlv (lit_row (E := ivE) h1 rfl rfl) (fun y hy _ => by cases hy; show q + 1 ≠ p; omega) (fun h => by cases h) rfl bs (fun w' b x' => ⟨⟨fa, fc, sa, _, sc, lv, _, x'.at0⟩, x'.op, upd_at _ _ _, fun k hk => Nat.lt_of_lt_of_le (bnd' k hk) b.size, rfl, by
    rw [if_pos rfl]
    exact ⟨0, 0, (b.block q (blk_lt h0) (fun e => by have e : q = p := e; omega)).trans h0⟩⟩) bnd'
  rw [show [ivN q].length = 1 from rfl, hfl] at hT
  refine hT.mono ?_
  rintro e w' ⟨v, l, o', w1, rfl, own, hl, inv, b1, x', go, lab⟩
  have hl' : l = [⟨0, ⟨2, false, false⟩⟩] := inv.2.2.2.2.1
  subst hl'
  obtain ⟨g, c, rfl, _, hr⟩ := own_some own (by decide)
  have hz := inv.2.2.2.2.2
  rw [if_neg (by decide)] at hz
  have pq : p ≠ q := by omega
  have base' : ∀ k, o' k ≠ 0 → B ≤ k := fun k hk => by
    rcases Nat.lt_or_ge k W.heap.size with h | h
    · rw [go.ext k h] at hk
      by_cases e : k = q
      · omega
      · rw [upd_ne _ _ e] at hk; exact base k hk
    · have := aW.size; omega
  refine ⟨g, c, rfl, cells_of hr (j := 0) rfl, cells_of hr (j := 1) rfl, cells_of hr (j := 2) rfl, cells_of hr (j := 3) rfl, (b1.block q (blk_lt hz) (fun e => pq (show q = p from e).symm)).trans hz, ⟨o', _, lv, ⟨fa, fc, sa, sc, fws, x'⟩, hlv, fun k hk => Nat.lt_of_lt_of_le (inv.2.2.2.1 k hk) b1.size, base'⟩, fun w0 a0 h0 => a0.then go.but (fun k hk h => ?_), Nat.le_trans (Nat.le_trans hB aW.size) go.but.size⟩
  have h2 := AK0 h
  have := base' k (by rw [go.ext k (Nat.lt_of_lt_of_le hk a0.size)]; exact h2)
  omega
set_option maxHeartbeats 4000000 in
theorem law_nested21 (w : World) (many more : Int) (hv1 : -9223372036854775808 ≤ many) (hv2 : many ≤ 9223372036854775807) (ht1 : -9223372036854775808 ≤ more) (ht2 : more ≤ 9223372036854775807) :
    Calls Try.prog 4 #[.int .i64 many, .int .i64 more] w fun e w' => e = .returned (.bool true) ∧ After w w' := by
  have HA := hideIt (awake_any w)
  have HB := hideIt (fun V => bring_any many 16 V hv1 hv2 (by decide) (by decide))
  have HT := hideIt (fun V => bring_any more 20 V ht1 ht2 (by decide) (by decide))
  have hK := broughtTo_lt many (m := 16) (by decide)
  have hT := broughtTo_lt more (m := 20) (by decide)
  generalize broughtTo many 16 = K at *
  generalize broughtTo more 20 = T at *
  have i0 : (T : Int) < 20 := by omega
  have k0 : (K : Int) < 16 := by omega
  clear hv1 hv2 ht1 ht2
  go_enter Try.func4, Try.ntmps4
  go_wp2_with fail
  refine HA.out.mono ?_
  rintro e w1 ⟨rfl, af1⟩
  have A1 := hideIt af1
  clear af1 HA
  go_wp2_with fail
  go_loopw [5, 6] (fun fv iv wr => ∃ (j : Nat) (fs : List Fw), j ≤ 1 + K ∧ iv = .int .i64 j ∧ fs.map Fw.l = List.replicate j [0] ∧ ORow fwE 23 wr 0 fv fs ∧ (∀ f ∈ fs, ORow inE 3 wr 0 (.slice f.a f.l.length f.c) f.l) ∧ After w wr ∧ (∀ k, fv.ownBlock = some k → w.heap.size ≤ k)) (fun _ iv _ => 1 + K - (intOf iv).toNat)
  case atStart => exact ⟨0, [], Nat.zero_le _, rfl, rfl, orow_nil _ _ _ _, fun f hf => (by cases hf), A1.out, fun k hk => (by cases hk)⟩
  case round =>
    obtain ⟨j, fs, hj, rfl, hfs, own, inn, af, hown⟩ := hrel
    by_cases hjn : j < 1 + K
    · have i1 : (j : Int) < 1 + (K : Int) := by omega
      have HI := hideIt (And.intro hfs (And.intro own (And.intro inn (And.intro af hown))))
      have HN := hideIt (show fs.length ≤ 1073741824 by
        have := congrArg List.length hfs
        rw [List.length_map, List.length_replicate] at this
        omega)
      clear hfs own inn af hown
      have HL := hideIt (And.intro (show ((wr.alloc (.cells #[.int .i64 0] 3)).alloc (.cells #[.slice (some ⟨wr.heap.size, 0, none⟩) 1 1] 23)).heap[wr.heap.size + 0]? = some (.cells #[.int .i64 0] 3 (0, 0)) from allocs_at [(#[.int .i64 0], 3), (#[.slice (some ⟨wr.heap.size, 0, none⟩) 1 1], 23)] wr 0 _ _ rfl) (show ((wr.alloc (.cells #[.int .i64 0] 3)).alloc (.cells #[.slice (some ⟨wr.heap.size, 0, none⟩) 1 1] 23)).heap[wr.heap.size + 1]? = some (.cells #[.slice (some ⟨wr.heap.size, 0, none⟩) 1 1] 23 (0, 0)) from allocs_at [(#[.int .i64 0], 3), (#[.slice (some ⟨wr.heap.size, 0, none⟩) 1 1], 23)] wr 1 _ _ rfl))
      have HAf := hideIt (show After wr ((wr.alloc (.cells #[.int .i64 0] 3)).alloc (.cells #[.slice (some ⟨wr.heap.size, 0, none⟩) 1 1] 23)) from (After.rfl.alloc _).alloc _)
      go_wp2_with fail
      refine (HB.out wr).mono ?_
      rintro e w2 ⟨rfl, hw⟩
      obtain rfl := hw.symm
      go_wp2_with (at_builtin; go_must (refine app_lie (E := fwE) rfl (.tmp 22) (.tmp 24) 22 23 Try.underlying22 Try.infoFw rfl (by decide) rfl _ fs rfl (own_after HI.out.2.1 HAf.out) ⟨wr.heap.size + 1, 0, none⟩ 1 ⟨some ⟨wr.heap.size, 0, none⟩, 1, [0]⟩ rfl (lit_row HL.out.2 rfl rfl) HN.out ?_))
      intro g cap w3 h1 h2 h3 h4
      have HZ := hideIt (And.intro h1 (And.intro h2 h3))
      clear h1 h2 h3 h4
      go_wp2_with fail
      go_roundw
      case rel =>
        obtain ⟨h1, h2, h3⟩ := HZ.out
        obtain ⟨hfs, own, inn, af, hown⟩ := HI.out
        have own' := own_after own HAf.out
        have l0 : ORow inE 3 _ 0 (.slice (some ⟨wr.heap.size, 0, none⟩) 1 1) [0] := lit_own (E := inE) (B := 0) (xs := [0]) HL.out.1 (Nat.zero_le _) rfl rfl (by decide)
        have hg : w.heap.size ≤ g := by
          rcases h3 with h3 | h3
          · exact hown g h3
          · have := af.size; omega
        refine ⟨j + 1, fs ++ [⟨some ⟨wr.heap.size, 0, none⟩, 1, [0]⟩], by omega, by go_num, by rw [List.map_append, hfs, List.replicate_succ']; rfl, h1, fun f hf => ?_, (af.trans HAf.out).then h2 (fun k hk e => by have := hown k e; omega), fun k hk => by cases hk; exact hg⟩
        rcases List.mem_append.1 hf with hf | hf
        · have h5 := own_after (inn f hf) HAf.out
          exact own_but h5 h2 (fun k hk e => own_apart own' h5 (by decide) hk e)
        · rw [List.mem_singleton] at hf
          subst hf
          exact own_but l0 h2 (fun k hk e => own_apart own' l0 (by decide) hk e)
      case measure => simp [intOf]; omega
    · have i1 : ¬ (j : Int) < 1 + (K : Int) := by omega
      have ej : j = 1 + K := by omega
      rw [ej] at hfs
      have hlen : fs.length = 1 + K := by
        have := congrArg List.length hfs
        rw [List.length_map, List.length_replicate] at this
        exact this
      obtain ⟨af0, cf0, ef0, rF, nF, _⟩ := own.row
      subst ef0
      obtain ⟨W5, hW5⟩ : ∃ W, W = wr.alloc (.cells #[.int .i64 5] 3) := ⟨_, rfl⟩
      have a5 : After wr W5 := by rw [hW5]; exact After.rfl.alloc _
      have h5 : W5.heap[wr.heap.size]? = some (.cells #[.int .i64 5] 3 (0, 0)) := by rw [hW5]; exact heap_alloc_new wr _
      have HNw := hideIt (new_xe (w0 := W5) (fa := af0) (fn := fs.length) (fc := cf0) (fs0 := fs) (sa := some ⟨wr.heap.size, 0, none⟩) (sn := 1) (sc := 1) (st := [5]) (la := none) (ln := 0) (lc := 0) (lk := []) rfl rfl rfl (rF.after a5) (fun f hf => by
        obtain ⟨a, c, e, r, n0, _⟩ := (inn f hf).row
        cases e
        have hl : f.l = [0] := by
          have : f.l ∈ fs.map Fw.l := List.mem_map.2 ⟨f, hf, rfl⟩
          rw [hfs] at this
          exact (List.mem_replicate.1 this).2
        exact ⟨r.after a5, n0, by rw [hl]; show (1 : Nat) ≤ 1000; decide⟩) (lit_row h5 rfl rfl) (fun h => by cases h) (GRow.nil _ _ _) (by rw [hfs]; exact chk_rep (by omega) (by omega)))
      rw [hfs] at HNw
      have HA5 := hideIt (af.trans a5)
      have HW5 := hideIt hW5
      have HJ := hideIt hj
      clear hfs own inn af hown rF nF a5 h5 hW5 ej hlen hj hjn A1
      go_wp2_with fail
      refine (HB.out wr).mono ?_
      rintro e w2 ⟨rfl, hw⟩
      obtain rfl := hw.symm
      go_wp2_with fail
      rw [← HW5.out]
      refine HNw.out.mono ?_
      rintro e w6 ⟨p, o, lv, rfl, X, af6, hp⟩
      have HS := hideIt (show Nst W5.heap.size w6 p (1 + K) ∧ After W5 w6 from ⟨⟨o, 0, lv, X.ex, by obtain ⟨a, c, e, _⟩ := X.lk.row; exact ⟨a, _, c, e⟩, X.bnd, X.base⟩, af6⟩)
      clear X af6 hp HNw HW5
      go_wp2_with fail
      go_loopw [9] (fun iv wr => ∃ t : Nat, t ≤ 1 + T ∧ iv = .int .i64 t ∧ Nst W5.heap.size wr p (1 + K) ∧ After W5 wr) (fun iv _ => 1 + T - (intOf iv).toNat)
      case atStart => exact ⟨0, Nat.zero_le _, rfl, HS.out⟩
      case round =>
        obtain ⟨t, ht, rfl, ns, ar⟩ := hrel
        by_cases htT : t < 1 + T
        · have i2 : (t : Int) < 1 + (T : Int) := by omega
          have HTk := hideIt (nst_tick ns ar.size rfl)
          have HAr := hideIt ar
          clear ns ar HS
          go_wp2_with fail
          refine (HT.out _).mono ?_
          rintro e w2 ⟨rfl, hw⟩
          obtain rfl := hw.symm
          go_wp2_with fail
          refine HTk.out.mono ?_
          rintro e w7 ⟨g, c, rfl, c0, c1, c2, c3, hq, ns, aa, B7⟩
          have d1 := blk_cell hq (i := 1) rfl
          have d2 := blk_cell hq (i := 2) rfl
          have lg := cell_lt c0
          have HQ := hideIt (And.intro ns (aa _ ((HAr.out.alloc _).alloc _) (Nat.le_refl _)))
          clear hq ns aa B7 HTk
          go_wp2_with fail
          go_roundw
          case rel => exact ⟨t + 1, by omega, by go_num, HQ.out⟩
          case measure => simp [intOf]; omega
        · have i2 : ¬ (t : Int) < 1 + (T : Int) := by omega
          have HAr := hideIt ar
          clear ns ar HS
          go_wp2_with fail
          refine (HT.out _).mono ?_
          rintro e w2 ⟨rfl, hw⟩
          obtain rfl := hw.symm
          go_wp2_with fail
          go_ret
          exact ⟨rfl, HA5.out.trans HAr.out⟩
end Go.Proofs.Ytkjjjibglaffnaa
