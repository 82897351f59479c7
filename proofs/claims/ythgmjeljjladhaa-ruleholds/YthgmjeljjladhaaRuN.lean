/-
  New: a machine is made.
-/
import Derived.Test.YthgmjeljjladhaaRuB
import Derived.Deep.Cut
namespace Go.Proofs.Ythgmjeljjladhaa
open Go.RowKit
set_option maxRecDepth 8000
section
variable {o : Oper} {a : Act} {w w' : World} {K : Act → World → Prop} {Q : Exit → Act → World → Prop}
theorem wp_nil {x : Operand} {p : Addr} (ho : o.op = .nilCheck x) (hx : a.eval x = .pointer (some p)) (h : K (a.put o.dst (.pointer (some p))) w) : Oper.wp Try.prog o a w K Q := by
  unfold Oper.wp execOp
  simp only [ho, hx]
  exact h
/-- Things that are appended to things of one's own, whatever the frame. -/
theorem wp_appE {α : Type} {E : Enc α} {T t : TypeId} {z : Value} {bts : Nat} (hT : Try.prog.underlying T = some (.slice t)) (hinfo : (Try.prog.info? t).map (fun i => (i.zero, i.size, i.bytes)) = some (some z, E.k, bts)) (hz : z.cells.size = E.k) (s x : Operand) (ho : o.op = .call { callee := .builtin .append, args := #[s, x], argTypes := #[T, T] }) {B : Nat} {v : Value} {xs : List α} (hs : a.eval s = v) (hown : ORow E t w B v xs)
    {ad : Addr} {m c : Nat} {ys : List α} (hx : a.eval x = .slice (some ad) m c) (hr : GRow E w (some ad) m ys) (hb : xs.length + m ≤ maxLen) (hb2 : (xs.length + m) * bts ≤ 140737488355328) (hbase : B ≤ w.heap.size)
    (h : ∀ v' w', ORow E t w' B v' (xs ++ ys) → But (fun k => v.ownBlock = some k) w w' → K (a.put o.dst v') w') : Oper.wp Try.prog o a w K Q := by
  obtain ⟨i0, hi, hz'⟩ := Option.map_eq_some_iff.1 hinfo
  simp only [Prod.mk.injEq] at hz'
  obtain ⟨hz0, hz1, hz2⟩ := hz'
  have hl1 : (E.flat ys).length = m * E.k := by rw [E.flat_length, hr.1]
  refine wp_append_own w s x T ho B t i0 z E.k bts hT hi hz0 hz1 hz2 hz E.pos v xs.length (E.flat xs) hs hown ad m c (E.flat ys) hx hl1 hr.news (E.flat_one _) hb hb2 hbase ?_
  intro v' w' h1 h2 _
  rw [← E.flat_append] at h1
  have e : xs.length + m = (xs ++ ys).length := by rw [List.length_append, hr.1]
  rw [e] at h1
  exact h v' w' h1 (But.grown But.rfl h2 (fun k hk _ => hk))
/-- A slice of keepers that is stored. -/
theorem wp_storeK {x y : Operand} {g j : Nat} {v : Value} {q : Value} (ho : o.op = .store 59 x y) (hd : o.dst = Option.none) (hx : a.eval x = .pointer (some ⟨g, j, Option.none⟩)) (hy : a.eval y = v) (hv : ∃ b n c, v = .slice b n c) (hc : w.cell? ⟨g, j, Option.none⟩ = some q) (hf : w.frozen? ⟨g, j, Option.none⟩ = false) (h : K a (w.setCell ⟨g, j, Option.none⟩ v)) : Oper.wp Try.prog o a w K Q := by
  obtain ⟨b, n, c, rfl⟩ := hv
  have hr : (Instr.storeAt 59 (.pointer (some ⟨g, j, Option.none⟩)) (.slice b n c)).run Try.prog w = .ok () (w.setCell ⟨g, j, Option.none⟩ (.slice b n c)) := by simp [go_sem, hc, hf]
  unfold Oper.wp execOp
  simp only [ho]
  rw [hx, hy]
  simp [hr, Oper.upon]
  rw [hd]
  exact h
end
theorem isV_stB (S : Nat → Prop) (u : Value) : (isV u).StableB S := fun _ _ _ h _ => h
def AllB (S : Nat → Prop) (A : Nat) : Nat → List Wd → Prop
  | _, [] => True
  | k, P :: Ts => (k = A ∨ P.StableB S) ∧ AllB S A (k + 1) Ts
theorem AllB.at {S : Nat → Prop} {A : Nat} : ∀ {Ts : List Wd} {k i : Nat} {P : Wd}, AllB S A k Ts → Ts[i]? = some P → k + i ≠ A → P.StableB S
  | [], _, _, _, _, h, _ => by simp at h
  | Q :: Ts, k, 0, P, h, hp, hn => by
    simp at hp
    subst hp
    rcases h.1 with e | e
    · exact absurd e hn
    · exact e
  | Q :: Ts, k, i + 1, P, h, hp, hn => AllB.at (i := i) h.2 (by simpa using hp) (by omega)
theorem AllB.all {S : Nat → Prop} {A : Nat} {Ts : List Wd} (h : AllB S A 0 Ts) : ∀ i, i ≠ A → (wdAt Ts i).StableB S := by
  intro i hi
  unfold wdAt
  rcases hq : Ts[i]? with _ | P
  · simp [List.getD, hq]
    exact fun _ _ _ _ _ => trivial
  · simp [List.getD, hq]
    exact h.at hq (by omega)
theorem Kp.wide {w : World} {lo hi lo' hi' : Nat} {x : Nd} {z : Int} {v : Kv} (h : Kp w lo hi x z v) (h1 : lo' ≤ lo) (h2 : hi ≤ hi') : Kp w lo' hi' x z v := by
  obtain ⟨h9, h10, h11, h12⟩ := h
  refine ⟨fun e => ?_, fun e => ?_, fun e => ?_, fun e => ?_⟩
  · obtain ⟨q, a1, a2, a3, a4⟩ := h9 e
    exact ⟨q, by omega, by omega, a3, a4⟩
  · obtain ⟨p, q, a1, a2, a3, a4, a5, a6⟩ := h10 e
    exact ⟨p, q, by omega, a2, by omega, a4, a5, a6⟩
  · obtain ⟨p, q, r, a1, a2, a3, a4, a5⟩ := h11 e
    exact ⟨p, q, r, by omega, a2, a3, by omega, a5⟩
  · obtain ⟨q, a1, a2, a3, a4⟩ := h12 e
    exact ⟨q, by omega, by omega, a3, a4⟩
/-- Blocks of other types are written to: a keeper stays. -/
theorem Kp.keep {S : Nat → Prop} {w w' : World} {lo hi : Nat} {x : Nd} {z : Int} {v : Kv} (h : Kp w lo hi x z v) (b : But S w w') (hn : ∀ k, S k → ∃ cs t, w.heap[k]? = some (.cells cs t (0, 0)) ∧ t ≠ 3 ∧ t ≠ 64) : Kp w' lo hi x z v := by
  have n1 : ∀ {q : Nat} {z : Int}, IntB w q z → ¬ S q := fun {q z} hq hs => by
    obtain ⟨cs, t, e, h1, _⟩ := hn q hs
    rw [hq] at e
    simp at e
    exact h1 e.2.symm
  have n2 : ∀ {q : Nat} {u : Value}, w.heap[q]? = some (.cells #[u] 64 (0, 0)) → ¬ S q := fun {q u} hq hs => by
    obtain ⟨cs, t, e, _, h1⟩ := hn q hs
    rw [hq] at e
    simp at e
    exact h1 e.2.symm
  obtain ⟨h9, h10, h11, h12⟩ := h
  refine ⟨fun e => ?_, fun e => ?_, fun e => ?_, fun e => ?_⟩
  · obtain ⟨q, a1, a2, a3, a4⟩ := h9 e
    exact ⟨q, a1, a2, a3, a4.but b (n1 a4)⟩
  · obtain ⟨p, q, a1, a2, a3, a4, a5, a6⟩ := h10 e
    exact ⟨p, q, a1, a2, a3, a4, a5.but b (n1 a5), a6.but b (n1 a6)⟩
  · obtain ⟨p, q, r, a1, a2, a3, a4, a5, a6, a7, a8⟩ := h11 e
    exact ⟨p, q, r, a1, a2, a3, a4, a5, a6.but b (n1 a6), a7.but b (n1 a7), (b.block r (blk_lt a8) (n2 a8)).trans a8⟩
  · obtain ⟨q, a1, a2, a3, a4⟩ := h12 e
    exact ⟨q, a1, a2, a3, a4.but b (n1 a4)⟩
theorem own_blk {α : Type} {E : Enc α} {t : TypeId} {w : World} {B : Nat} {v : Value} {xs : List α} (h : ORow E t w B v xs) {k : Nat} (hk : v.ownBlock = some k) : ∃ cs, w.heap[k]? = some (.cells cs t (0, 0)) := by
  rcases h.2 with ⟨rfl, _⟩ | ⟨g', cap, cur, rfl, _, hg, _⟩
  · cases hk
  · have : g' = k := by simpa [Value.ownBlock] using hk
    subst this
    exact ⟨_, hg⟩
/-- A new keeper. -/
def isKp (H : Nat) (x : Nd) : Wd := fun v w => ∃ k hi, v = .agg #[Kv.val k] ∧ Kp w H hi x 0 k ∧ hi ≤ w.heap.size
def isKr (H : Nat) (x : Nd) : Wd := fun v w => ∃ k hi g, v = .slice (some ⟨g, 0, none⟩) 1 1 ∧ H ≤ g ∧ w.heap[g]? = some (.cells #[Kv.val k] 66 (0, 0)) ∧ Kp w H hi x 0 k ∧ hi ≤ w.heap.size
def isKo (B : Nat) (K : List Kv) (H : Nat) (x : Nd) : Wd := fun v w => ∃ k hi, ORow kvE 66 w B v (K ++ [k]) ∧ Kp w H hi x 0 k ∧ hi ≤ w.heap.size
theorem isKp_stB {S : Nat → Prop} {H : Nat} (hS : ∀ k, S k → k < H) (x : Nd) : (isKp H x).StableB S := fun _ _ _ h b => by
  obtain ⟨k, hi, e, h1, h2⟩ := h
  exact ⟨k, hi, e, h1.but b (fun q q1 _ s => by have := hS q s; omega), Nat.le_trans h2 b.size⟩
theorem isKr_stB {S : Nat → Prop} {H : Nat} (hS : ∀ k, S k → k < H) (x : Nd) : (isKr H x).StableB S := fun _ _ _ h b => by
  obtain ⟨k, hi, g, e, hg, hb, h1, h2⟩ := h
  exact ⟨k, hi, g, e, hg, (b.block g (blk_lt hb) (fun s => by have := hS g s; omega)).trans hb, h1.but b (fun q q1 _ s => by have := hS q s; omega), Nat.le_trans h2 b.size⟩
theorem isKp_st (H : Nat) (x : Nd) : (isKp H x).Stable := fun v w w' h b => isKp_stB (S := Non) (fun _ t => t.elim) x v w w' h b
theorem isKr_st (H : Nat) (x : Nd) : (isKr H x).Stable := fun v w w' h b => isKr_stB (S := Non) (fun _ t => t.elim) x v w w' h b
theorem isKo_st (B : Nat) (K : List Kv) (H : Nat) (x : Nd) : (isKo B K H x).Stable := fun v w w' h b => by
  obtain ⟨k, hi, h1, h2, h3⟩ := h
  exact ⟨k, hi, own_after h1 b, h2.after b, Nat.le_trans h3 (But.size b)⟩
theorem buildK (k : Kv) (w : World) : (Instr.buildSlice 59 1 #[(0, .agg #[k.val])]).run Try.prog w = .ok (.slice (some ⟨w.heap.size, 0, none⟩) 1 1) (w.alloc (.cells #[k.val] 66)) := by
  obtain ⟨f, cs⟩ := k
  cases f with
  | none => simp [Kv.val, go_sem]
  | some f => simp [Kv.val, go_sem]
theorem fieldM (g : Nat) (w : World) (i : Nat) (hi : i < 3) : (Instr.fieldAt 61 (Ptr g) i).run Try.prog w = .ok (.pointer (some ⟨g, i, none⟩)) w := by
  unfold Ptr
  rcases (by omega : i = 0 ∨ i = 1 ∨ i = 2) with rfl | rfl | rfl
  all_goals simp [go_sem]
theorem loadKs {w : World} {g i : Nat} {a : Option Addr} {n c : Nat} (h0 : w.cell? ⟨g, i, none⟩ = some (.slice a n c)) : (Instr.loadAt 59 (.pointer (some ⟨g, i, none⟩))).run Try.prog w = .ok (.slice a n c) w := by
  simp [go_sem, h0]
theorem new_no {L : List Nd} {C : List Ch} (w : World) (al : Option Addr) (n cl : Nat) (h1 : NRow w al n L) (ac : Option Addr) (nc cc : Nat) (h2 : CRow w ac nc C) (hc : chk L (C.length : Int) ≠ 0) :
    Calls Try.prog 10 #[.slice al n cl, .slice ac nc cc] w fun e w' => e = .returned (.tuple #[.pointer none, .int .i64 (chk L (C.length : Int))]) ∧ After w w' := by
  have H0 := hideIt (check_any L w al n cl h1 (C.length : Int))
  rw [h2.1] at H0 hc ⊢
  have hc' : (chk L (nc : Int) != 0) = true := by simp [hc]
  clear h1 h2 hc
  generalize chk L (nc : Int) = k at *
  go_enter Try.func10, Try.ntmps10
  go_wp2_with (go_at_call 19; refine H0.out.mono ?_; rintro e w1 ⟨rfl, a1⟩)
  go_ret2
  exact ⟨rfl, a1⟩
set_option maxHeartbeats 2000000 in
theorem new_ok {L : List Nd} {C : List Ch} (w : World) (al : Option Addr) (cl : Nat) (h1 : NRow w al L.length L) (ha : al = none → L.length = 0 ∧ cl = 0) (ac : Option Addr) (cc : Nat) (h2 : CRow w ac C.length C) (hca : ac = none → C.length = 0 ∧ cc = 0) (hc : chk L (C.length : Int) = 0) :
    Calls Try.prog 10 #[.slice al L.length cl, .slice ac C.length cc] w fun e w' => ∃ m : Mp, e = .returned (.tuple #[Ptr m.p, .int .i64 0]) ∧ Mc w' w.heap.size w'.heap.size m L C (fun _ => 0) ∧ After w w' := by
  obtain ⟨c1, c2, c3, c4, c5⟩ := chk_zero hc
  have H0 := hideIt (check_any L w al L.length cl h1 (C.length : Int))
  rw [hc] at H0
  have HH := hideIt (And.intro h1 (And.intro ha (And.intro h2 hca)))
  have HN := hideIt (fun W (hW : After w W) => cloneN_any al L.length cl L W (h1.after hW) ha (by omega))
  have HC := hideIt (fun W (hW : After w W) => cloneC_any ac C.length cc C W (h2.after hW) hca (by omega))
  have hL : (L.length : Int) ≤ 32 := by omega
  clear h1 ha h2 hca hc c1 c2 c3 c5
  go_enter Try.func10, Try.ntmps10
  go_wp2_with fail
  refine H0.out.mono ?_
  rintro e w1 ⟨rfl, a1⟩
  have A1 := hideIt a1
  clear a1 H0
  go_wp2_with fail
  refine (HN.out w1 A1.out).mono ?_
  rintro e w2 ⟨vn, rfl, on, a2⟩
  obtain ⟨an, cn, rfl, j1, j2, j3⟩ := ORow.row on
  clear j1 j2 j3
  have A2 := hideIt (A1.out.trans a2)
  have ON := hideIt (own_base on (C := w.heap.size) (fun k hk => Nat.le_trans A1.out.size (on.lt k hk).1))
  clear on a2
  go_wp2_with fail
  refine (HC.out w2 A2.out).mono ?_
  rintro e w3 ⟨vc, rfl, oc, a3⟩
  obtain ⟨av, cv, rfl, j1, j2, j3⟩ := ORow.row oc
  clear j1 j2 j3
  have A3 := hideIt (A2.out.trans a3)
  have OC := hideIt (own_base oc (C := w.heap.size) (fun k hk => Nat.le_trans A2.out.size (oc.lt k hk).1))
  have ON3 := hideIt (own_after ON.out a3)
  clear oc a3
  have QS : Hid (Mq (w3.alloc (.cells #[.slice an L.length cn, .slice av C.length cv, .slice none 0 0] 61)) w.heap.size (w3.heap.size + 1) ⟨w3.heap.size, .slice an L.length cn, .slice av C.length cv, .slice none 0 0, [], fun _ => w3.heap.size + 1⟩ L C (fun _ => 0)) := hideIt {
    blk := heap_alloc_new w3 _
    pin := ⟨A3.out.size, Nat.lt_succ_self _⟩
    on := own_after ON3.out (After.rfl.alloc _)
    oc := own_after OC.out (After.rfl.alloc _)
    ok := orow_nil kvE _ _ _
    inn := fun k hk => by have := (ON3.out.lt k hk).2; omega
    inc := fun k hk => by have := (OC.out.lt k hk).2; omega
    ink := fun k hk => by cases hk
    ks := fun i x _ hi => by simp at hi
    mono := fun _ _ _ => Nat.le_refl _
    b0 := by have := A3.out.size; show w.heap.size ≤ w3.heap.size + 1; omega
    bh := fun _ => Nat.le_refl _ }
  obtain ⟨P, hP⟩ : ∃ P, P = w3.heap.size := ⟨_, rfl⟩
  have AS : Hid (After w (w3.alloc (.cells #[.slice an L.length cn, .slice av C.length cv, .slice none 0 0] 61))) := hideIt (A3.out.alloc _)
  have HSz : Hid ((w3.alloc (.cells #[.slice an L.length cn, .slice av C.length cv, .slice none 0 0] 61)).heap.size = w3.heap.size + 1) := hideIt (size_alloc _ _)
  go_wp2_with fail
  rw [← hP] at QS HSz ⊢
  clear hP A1 A2 A3 ON ON3 OC HN HC
  go_loopw [25] (fun i wr => ∃ (j : Nat) (vk : Value) (K : List Kv) (b : Nat → Nat), j ≤ L.length ∧ i = .int .i64 (j : Int) ∧ K.length = j ∧ Mq wr w.heap.size wr.heap.size ⟨P, .slice an L.length cn, .slice av C.length cv, vk, K, b⟩ L C (fun _ => 0) ∧ After w wr) (fun i _ => L.length - (intOf i).toNat)
  case atStart => exact ⟨0, _, _, _, Nat.zero_le _, rfl, rfl, by rw [HSz.out]; exact QS.out, AS.out⟩
  case round =>
    clear QS AS HSz
    obtain ⟨j, vk, K, b, hj, rfl, hKl, hq, aw⟩ := hrel
    by_cases hjn : j < L.length
    · have i1 : (j : Int) < (L.length : Int) := by omega
      obtain ⟨nb, noff, x, rfl, hnb, hx, k0, k1, k2, k3⟩ := nrow_at (HH.out.1.after aw) hjn
      obtain ⟨ak, ck, e, j1, j2, j3⟩ := ORow.row hq.ok
      simp only at e
      subst e
      clear j1 j2 j3
      have HQ := hideIt (And.intro hKl (And.intro hq (And.intro aw hx)))
      clear hq aw hKl hx
      obtain ⟨U, hU⟩ : ∃ U, U = wr.alloc (.cells #[.int .i64 x.op, .int .i64 x.a, .int .i64 x.b, .int .i64 x.n] 38) := ⟨_, rfl⟩
      have aU : After wr U := by rw [hU]; exact After.rfl.alloc _
      have hUb : U.heap[wr.heap.size]? = some (.cells #[.int .i64 x.op, .int .i64 x.a, .int .i64 x.b, .int .i64 x.n] 38 (0, 0)) := by rw [hU]; exact heap_alloc_new wr _
      have HU := hideIt (And.intro hU (And.intro aU hUb))
      clear hU aU hUb
      have hqq := HQ.out.2.1
      have hS8 : ∀ k, (Value.slice ak K.length ck).ownBlock = some k → k < wr.heap.size := fun k hk => (hqq.ok.lt k hk).2
      have hS9 : ∀ k, (Value.slice ak K.length ck).ownBlock = some k → k < U.heap.size := fun k hk => Nat.lt_of_lt_of_le (hS8 k hk) HU.out.2.1.size
      have hPt : (Value.slice ak K.length ck).ownBlock ≠ some P := own_farT hqq.ok (by decide) hqq.blk
      have HP : Hid (∀ V, But (fun k => (Value.slice ak K.length ck).ownBlock = some k) U V → V.heap[P]? = some (.cells #[.slice an L.length cn, .slice av C.length cv, .slice ak K.length ck] 61 (0, 0))) := hideIt (fun V hV => by
        have b0 := (HU.out.2.1.block P (blk_lt hqq.blk) (fun t => t)).trans hqq.blk
        exact (hV.block P (blk_lt b0) hPt).trans b0)
      have HX : Hid (∀ V, But (fun k => (Value.slice ak K.length ck).ownBlock = some k) U V → (Instr.loadAt 38 (Ptr wr.heap.size)).run Try.prog V = .ok x.val V) := hideIt (fun V hV => by
        have h := (hV.block _ (blk_lt HU.out.2.2) (fun e => by have := hS8 _ e; omega)).trans HU.out.2.2
        exact loadNode (blk_cell h rfl) (blk_cell h rfl) (blk_cell h rfl) (blk_cell h rfl))
      have HOk : Hid (ORow kvE 66 U w.heap.size (.slice ak K.length ck) K) := hideIt (own_after hqq.ok HU.out.2.1)
      have HL9 : Hid (K.length ≤ 32) := hideIt (by have := HQ.out.1; omega)
      have HWs : Hid (w.heap.size ≤ U.heap.size) := hideIt (Nat.le_trans HQ.out.2.2.1.size HU.out.2.1.size)
      clear hqq
      go_upto_region 8 with fail
      rw [← HU.out.1]
      refine region_own (S := fun k => (Value.slice ak K.length ck).ownBlock = some k) (A := 8) (by kernel_rfl) [29, 30, 31, 32, 33, 34, 35, 36, 37, 38, 39] [isV (Ptr P), isV (Ptr P), isV (Ptr P), isV (.pointer (some ⟨P, 2, none⟩)), isV (.slice ak K.length ck), isV x.val, isKp U.heap.size x, isKr U.heap.size x, isKo w.heap.size K U.heap.size x, isV (Ptr P), isV (.pointer (some ⟨P, 2, none⟩))] 11 _ rfl rfl rfl rfl 12 rfl rfl (stable_all (st_cons (isV_st _) (st_cons (isV_st _) (st_cons (isV_st _) (st_cons (isV_st _) (st_cons (isV_st _) (st_cons (isV_st _) (st_cons (isKp_st _ _) (st_cons (isKr_st _ _) (st_cons (isKo_st _ _ _ _) (st_cons (isV_st _) (st_cons (isV_st _) (st_nil))))))))))))) (AllB.all ⟨.inr (isV_stB _ _), .inr (isV_stB _ _), .inr (isV_stB _ _), .inr (isV_stB _ _), .inr (isV_stB _ _), .inr (isV_stB _ _), .inr (isKp_stB hS9 _), .inr (isKr_stB hS9 _), .inl rfl, .inr (isV_stB _ _), .inr (isV_stB _ _), trivial⟩) rfl rfl ?_ ?_
      · exact ⟨⟨rfl, rfl, (.inl rfl), fun a W9 K9 hd hb aw na hk => wp_move (.inl rfl) (show a.eval (.tmp 7) = Ptr P from hb 7 rfl) (hk _ _ rfl (.inl After.rfl))⟩,
          ⟨rfl, rfl, (.inl rfl), fun a W9 K9 hd hb aw na hk => wp_move (.inl rfl) (show a.eval (.tmp 7) = Ptr P from hb 7 rfl) (hk _ _ rfl (.inl After.rfl))⟩,
          ⟨rfl, rfl, (.inl rfl), fun a W9 K9 hd hb aw na hk => wp_nil rfl (hd 1 rfl) (hk _ _ rfl (.inl After.rfl))⟩,
          ⟨rfl, rfl, (.inl rfl), fun a W9 K9 hd hb aw na hk => wp_field rfl (hd 2 rfl) (fieldM _ _ 2 (by decide)) (hk _ _ rfl (.inl After.rfl))⟩,
          ⟨rfl, rfl, (.inl rfl), fun a W9 K9 hd hb aw na hk => wp_load rfl (hd 3 rfl) (loadKs (blk_cell (HP.out W9 aw) (i := 2) rfl)) (hk _ _ rfl (.inl After.rfl))⟩,
          ⟨rfl, rfl, (.inl rfl), fun a W9 K9 hd hb aw na hk => wp_load rfl (show a.eval (.tmp 9) = Ptr wr.heap.size from hb 9 rfl) (HX.out W9 aw) (hk _ _ rfl (.inl After.rfl))⟩,
          ⟨rfl, rfl, (.inl rfl), fun a W9 K9 hd hb aw na hk => wp_func1 rfl (enter_of Try.func26 (by kernel_rfl) (by kernel_rfl)) (hd 5 rfl) ((keeperOf_any x W9).mono (fun e w1 h => by obtain ⟨v1, h1, h2, h3⟩ := h; exact ⟨_, h1, hk _ _ ⟨v1, _, rfl, h2.wide (But.size aw) (Nat.le_refl _), Nat.le_refl _⟩ (.inl h3)⟩))⟩,
          ⟨rfl, rfl, (.inl rfl), fun a W9 K9 hd hb aw na hk => by
              obtain ⟨v1, h9, e9, q9, r9⟩ := hd 6 rfl
              exact wp_slice1 rfl e9 (buildK v1 W9) (hk _ _ ⟨v1, h9, _, rfl, But.size aw, heap_alloc_new W9 _, q9.after (After.rfl.alloc _), by rw [size_alloc]; omega⟩ (.inl (After.rfl.alloc _)))⟩,
          ⟨rfl, rfl, (.inl rfl), fun a W9 K9 hd hb aw na hk => by
              obtain ⟨v1, h9, g9, e9, hg9, hb9, q9, r9⟩ := hd 7 rfl
              exact wp_appE (E := kvE) Try.underlying59 Try.infoKeeper rfl (.tmp 33) (.tmp 36) rfl (hd 4 rfl) (own_after HOk.out (na rfl)) e9 (lit_row (xs := [v1]) hb9 rfl rfl) (by have := HL9.out; unfold maxLen; omega) (by have := HL9.out; omega) (Nat.le_trans HWs.out (But.size aw)) (fun v2 w2 h1 h2 => hk _ _ ⟨v1, h9, h1, q9.but h2 (fun q q1 _ sq => by have := hS9 q sq; omega), Nat.le_trans r9 h2.size⟩ (.inr ⟨rfl, h2⟩))⟩,
          ⟨rfl, rfl, (.inl rfl), fun a W9 K9 hd hb aw na hk => wp_nil rfl (hd 0 rfl) (hk _ _ rfl (.inl After.rfl))⟩,
          ⟨rfl, rfl, (.inl rfl), fun a W9 K9 hd hb aw na hk => wp_field rfl (hd 9 rfl) (fieldM _ _ 2 (by decide)) (hk _ _ rfl (.inl After.rfl))⟩,
          trivial⟩
      intro x9 w9 hx9 aw9 K9 hK9
      have t0 : x9 0 = (Ptr P) := hx9 0 (Nat.le_of_ble_eq_true rfl)
      have t1 : x9 1 = (Ptr P) := hx9 1 (Nat.le_of_ble_eq_true rfl)
      have t2 : x9 2 = (Ptr P) := hx9 2 (Nat.le_of_ble_eq_true rfl)
      have t3 : x9 3 = (.pointer (some ⟨P, 2, none⟩)) := hx9 3 (Nat.le_of_ble_eq_true rfl)
      have t4 : x9 4 = (.slice ak K.length ck) := hx9 4 (Nat.le_of_ble_eq_true rfl)
      have t5 : x9 5 = x.val := hx9 5 (Nat.le_of_ble_eq_true rfl)
      have t9 : x9 9 = (Ptr P) := hx9 9 (Nat.le_of_ble_eq_true rfl)
      have t10 : x9 10 = (.pointer (some ⟨P, 2, none⟩)) := hx9 10 (Nat.le_of_ble_eq_true rfl)
      have o8 : isKo w.heap.size K U.heap.size x (x9 8) w9 := hx9 8 (Nat.le_of_ble_eq_true rfl)
      simp only [sets, List.getD_cons_succ, List.getD_cons_zero, List.set_cons_succ, List.set_cons_zero, t0, t1, t2, t3, t4, t5, t9, t10]
      clear hx9 t0 t1 t2 t3 t4 t5 t9 t10
      generalize x9 6 = y6 at *
      generalize x9 7 = y7 at *
      generalize x9 8 = y8 at *
      clear x9
      obtain ⟨kv, hi9, o8, q8, r8⟩ := o8
      obtain ⟨ak', ck', rfl, j1, j2, j3⟩ := ORow.row o8
      clear j1 j2 j3
      have bP := HP.out w9 aw9
      refine wp_storeK (v := .slice ak' (K ++ [kv]).length ck') rfl rfl rfl rfl ⟨_, _, _, rfl⟩ (blk_cell bP (i := 2) rfl) (blk_soft bP 2) (hK9 _ _ ?_)
      obtain ⟨z1, z2, z3, z4⟩ := HQ.out
      have aU := HU.out.2.1
      have bw : But (fun k => (Value.slice ak K.length ck).ownBlock = some k) wr w9 := aU.but.trans aw9
      have bS := but_one w9 P 2 (.slice ak' (K ++ [kv]).length ck')
      obtain ⟨W5, hW5⟩ : ∃ W5, W5 = w9.setCell ⟨P, 2, none⟩ (.slice ak' (K ++ [kv]).length ck') := ⟨_, rfl⟩
      have hW5b : W5.heap[P]? = some (.cells #[.slice an L.length cn, .slice av C.length cv, .slice ak' (K ++ [kv]).length ck'] 61 (0, 0)) := by rw [hW5]; exact blk_put bP 2 _
      rw [← hW5] at bS ⊢
      have bT : But (fun k => (Value.slice ak K.length ck).ownBlock = some k ∨ k = P) wr W5 := (bw.mono (fun _ _ h => .inl h)).then bS (fun _ _ h => .inr h)
      have nP : ∀ k, (fun k => (Value.slice ak K.length ck).ownBlock = some k ∨ k = P) k → w.heap.size ≤ k := fun k hk => by
        rcases hk with h | h
        · exact (z2.ok.lt k h).1
        · rw [h]; exact z2.pin.1
      have hsz : wr.heap.size ≤ W5.heap.size := bT.size
      have hs9 : w9.heap.size ≤ W5.heap.size := bS.size
      have hUw : wr.heap.size ≤ U.heap.size := aU.size
      have hU9 : U.heap.size ≤ w9.heap.size := aw9.size
      have NQ : Mq W5 w.heap.size W5.heap.size ⟨P, .slice an L.length cn, .slice av C.length cv, .slice ak' (K ++ [kv]).length ck', K ++ [kv], fun i => if i ≤ j then b i else W5.heap.size⟩ L C (fun _ => 0) := {
        blk := hW5b
        pin := ⟨z2.pin.1, Nat.lt_of_lt_of_le z2.pin.2 hsz⟩
        on := own_but z2.on bT (fun k hk e => by
          rcases e with e | e
          · obtain ⟨cs, hcs⟩ := own_blk z2.ok e
            exact own_farT z2.on (by decide) hcs hk
          · exact own_farT z2.on (by decide) z2.blk (by rw [hk, e]))
        oc := own_but z2.oc bT (fun k hk e => by
          rcases e with e | e
          · obtain ⟨cs, hcs⟩ := own_blk z2.ok e
            exact own_farT z2.oc (by decide) hcs hk
          · exact own_farT z2.oc (by decide) z2.blk (by rw [hk, e]))
        ok := own_but o8 bS (fun k hk e => own_farT o8 (by decide) bP (by rw [hk, show k = P from e]))
        inn := fun k hk => Nat.lt_of_lt_of_le (z2.inn k hk) hsz
        inc := fun k hk => Nat.lt_of_lt_of_le (z2.inc k hk) hsz
        ink := fun k hk => Nat.lt_of_lt_of_le (o8.lt k hk).2 hs9
        ks := fun i y hy hi => by
          simp only [List.length_append, List.length_cons, List.length_nil] at hi
          rcases Nat.lt_or_ge i j with h' | h'
          · obtain ⟨v, v1, v2⟩ := z2.ks i y hy (by simp only; omega)
            simp only at v1 v2
            refine ⟨v, by simp only; rw [List.getElem?_append_left (by omega)]; exact v1, ?_⟩
            simp only
            rw [if_pos (by omega), if_pos (by omega)]
            refine v2.keep bT (fun k hk => ?_)
            rcases hk with h | h
            · obtain ⟨cs, hcs⟩ := own_blk z2.ok h
              exact ⟨cs, _, hcs, by decide, by decide⟩
            · rw [h]
              exact ⟨_, _, z2.blk, by decide, by decide⟩
          · obtain rfl : i = j := by omega
            rw [z4] at hy
            cases hy
            refine ⟨kv, by simp only; rw [List.getElem?_append_right (by omega), z1]; simp, ?_⟩
            simp only
            rw [if_pos (Nat.le_refl _), if_neg (by omega)]
            exact (q8.but bS (fun k k1 _ e => by have := blk_lt z2.blk; have e : k = P := e; simp only at this; omega)).wide (Nat.le_trans (z2.bh i) hUw) (Nat.le_trans r8 hs9)
        mono := fun i i' hii => by
          simp only
          split
          · split
            · exact z2.mono i i' hii
            · exact Nat.le_trans (z2.bh i) hsz
          · rw [if_neg (by omega)]; exact Nat.le_refl _
        b0 := by simp only; rw [if_pos (Nat.zero_le _)]; exact z2.b0
        bh := fun i => by
          simp only
          split
          · exact Nat.le_trans (z2.bh i) hsz
          · exact Nat.le_refl _ }
      have HF := hideIt (And.intro NQ (And.intro (z3.then bT (fun i hi h => by have := nP i h; omega)) (show (K ++ [kv]).length = j + 1 by simp [z1])))
      clear NQ z1 z2 z3 z4 aU bw bS bT nP hsz hs9 hUw hU9 hW5 hW5b bP o8 q8 r8 hK9 aw9 HP HX HOk HL9 HWs hS8 hS9 hPt HU HQ
      go_wp2_with fail
      go_roundw
      case rel => exact ⟨j + 1, _, _, _, by omega, by go_num, HF.out.2.2, HF.out.1, HF.out.2.1⟩
      case measure => simp [intOf]; omega
    · have i1 : ¬ (j : Int) < (L.length : Int) := by omega
      have HF := hideIt (And.intro hq (And.intro aw (show K.length = L.length by omega)))
      clear hq aw hKl
      go_wp2_with fail
      go_ret2
      exact ⟨_, rfl, ⟨HF.out.1, HF.out.2.2⟩, HF.out.2.1⟩
end Go.Proofs.Ythgmjeljjladhaa
