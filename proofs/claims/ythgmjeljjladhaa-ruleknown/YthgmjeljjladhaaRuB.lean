/-
  A machine in memory; copies of nodes and channels; isNone, Words.
-/
import Derived.Test.YthgmjeljjladhaaRuA
import Derived.Test.YthgmjeljjladhaaFoS
import Derived.Test.YthgmjeljjladhaaSloQ
import Derived.Test.YthgmjeljjladhaaSloB
namespace Go.Proofs.Ythgmjeljjladhaa
open Go.RowKit
set_option maxRecDepth 8000
/-- Where a machine lies. -/
structure Mp where
  p : Nat
  vn : Value
  vc : Value
  vk : Value
  K : List Kv
  b : Nat → Nat
/-- A machine of these nodes and channels lies in blocks from lo on, ahead of hi; as far as it has keepers they keep Z. -/
structure Mq (w : World) (lo hi : Nat) (m : Mp) (L : List Nd) (C : List Ch) (Z : Nat → Int) : Prop where
  blk : w.heap[m.p]? = some (.cells #[m.vn, m.vc, m.vk] 61 (0, 0))
  pin : lo ≤ m.p ∧ m.p < hi
  on : ORow ndE 38 w lo m.vn L
  oc : ORow chE 42 w lo m.vc C
  ok : ORow kvE 66 w lo m.vk m.K
  inn : ∀ k, m.vn.ownBlock = some k → k < hi
  inc : ∀ k, m.vc.ownBlock = some k → k < hi
  ink : ∀ k, m.vk.ownBlock = some k → k < hi
  ks : ∀ i x, L[i]? = some x → i < m.K.length → ∃ v, m.K[i]? = some v ∧ Kp w (m.b i) (m.b (i + 1)) x (Z i) v
  mono : ∀ i j, i ≤ j → m.b i ≤ m.b j
  b0 : lo ≤ m.b 0
  bh : ∀ i, m.b i ≤ hi
/-- A machine, whole. -/
structure Mc (w : World) (lo hi : Nat) (m : Mp) (L : List Nd) (C : List Ch) (Z : Nat → Int) : Prop where
  q : Mq w lo hi m L C Z
  len : m.K.length = L.length
theorem Mq.but {S : Nat → Prop} {w w' : World} {lo hi : Nat} {m : Mp} {L : List Nd} {C : List Ch} {Z : Nat → Int} (h : Mq w lo hi m L C Z) (b : But S w w') (hn : ∀ k, lo ≤ k → k < hi → ¬ S k) : Mq w' lo hi m L C Z where
  blk := (b.block m.p (blk_lt h.blk) (hn _ h.pin.1 h.pin.2)).trans h.blk
  pin := h.pin
  on := own_but h.on b (fun k hk => hn k (h.on.lt k hk).1 (h.inn k hk))
  oc := own_but h.oc b (fun k hk => hn k (h.oc.lt k hk).1 (h.inc k hk))
  ok := own_but h.ok b (fun k hk => hn k (h.ok.lt k hk).1 (h.ink k hk))
  inn := h.inn
  inc := h.inc
  ink := h.ink
  ks := fun i x hx hi => by
    obtain ⟨v, h1, h2⟩ := h.ks i x hx hi
    exact ⟨v, h1, h2.but b (fun k k1 k2 => hn k (Nat.le_trans h.b0 (Nat.le_trans (h.mono 0 i (by omega)) k1)) (Nat.lt_of_lt_of_le k2 (h.bh _)))⟩
  mono := h.mono
  b0 := h.b0
  bh := h.bh
theorem Mc.but {S : Nat → Prop} {w w' : World} {lo hi : Nat} {m : Mp} {L : List Nd} {C : List Ch} {Z : Nat → Int} (h : Mc w lo hi m L C Z) (b : But S w w') (hn : ∀ k, lo ≤ k → k < hi → ¬ S k) : Mc w' lo hi m L C Z := ⟨h.q.but b hn, h.len⟩
theorem Mc.after {w w' : World} {lo hi : Nat} {m : Mp} {L : List Nd} {C : List Ch} {Z : Nat → Int} (h : Mc w lo hi m L C Z) (b : After w w') : Mc w' lo hi m L C Z := h.but b (fun _ _ _ t => t)
theorem Mc.num {w : World} {lo hi : Nat} {m : Mp} {L : List Nd} {C : List Ch} {Z Z' : Nat → Int} (h : Mc w lo hi m L C Z) (hz : ∀ i, i < L.length → Z i = Z' i) : Mc w lo hi m L C Z' :=
  ⟨{ h.q with ks := fun i x hx hi => by rw [← hz i (List.getElem?_eq_some_iff.1 hx).1]; exact h.q.ks i x hx hi }, h.len⟩
theorem own_farT {α : Type} {E : Enc α} {t : TypeId} {w : World} {B : Nat} {v : Value} {xs : List α} (h : ORow E t w B v xs) {g : Nat} {cs : Array Value} {t' : TypeId} (ht : t' ≠ t) (hb : w.heap[g]? = some (.cells cs t' (0, 0))) : v.ownBlock ≠ some g := by
  intro e
  rcases h.2 with ⟨rfl, _⟩ | ⟨g', cap, cur, rfl, _, hg, _⟩
  · cases e
  · have : g' = g := by simpa [Value.ownBlock] using e
    subst this
    rw [hb] at hg
    simp at hg
    exact ht hg.2
theorem own_notInt {α : Type} {E : Enc α} {t : TypeId} {w : World} {B : Nat} {v : Value} {xs : List α} (h : ORow E t w B v xs) (ht : t ≠ 3) {q : Nat} {z : Int} (hq : IntB w q z) : v.ownBlock ≠ some q := by
  intro e
  rcases h.2 with ⟨rfl, _⟩ | ⟨g', cap, cur, rfl, _, hg, _⟩
  · cases e
  · have : g' = q := by simpa [Value.ownBlock] using e
    subst this
    rw [hq] at hg
    simp at hg
    exact ht hg.2.symm
/-- One keeper went on. -/
theorem Mc.step {w w' : World} {lo hi : Nat} {m : Mp} {L : List Nd} {C : List Ch} {Z : Nat → Int} (h : Mc w lo hi m L C Z) {i : Nat} {x : Nd} {v : Kv} (hx : L[i]? = some x) (hv : m.K[i]? = some v) {q : Nat} (q1 : m.b i ≤ q) (q2 : q < m.b (i + 1)) {z z' : Int} (hq : IntB w q z) (b : But (One q) w w') (hk : Kp w' (m.b i) (m.b (i + 1)) x z' v) :
    Mc w' lo hi m L C (fun j => if j = i then z' else Z j) where
  len := h.len
  q := by
    have hp : m.p ≠ q := by
      intro e
      have := h.q.blk
      rw [e, hq] at this
      simp at this
    exact {
      blk := (b.block m.p (blk_lt h.q.blk) hp).trans h.q.blk
      pin := h.q.pin
      on := own_but h.q.on b (fun k hk e => own_notInt h.q.on (by decide) hq (by rw [hk, show k = q from e]))
      oc := own_but h.q.oc b (fun k hk e => own_notInt h.q.oc (by decide) hq (by rw [hk, show k = q from e]))
      ok := own_but h.q.ok b (fun k hk e => own_notInt h.q.ok (by decide) hq (by rw [hk, show k = q from e]))
      inn := h.q.inn
      inc := h.q.inc
      ink := h.q.ink
      ks := fun j y hy hj => by
        by_cases e : j = i
        · subst e
          rw [hx] at hy
          cases hy
          exact ⟨v, hv, by rw [if_pos rfl]; exact hk⟩
        · obtain ⟨u, h1, h2⟩ := h.q.ks j y hy hj
          refine ⟨u, h1, ?_⟩
          rw [if_neg e]
          refine h2.but b (fun k k1 k2 ek => ?_)
          have ek : k = q := ek
          rcases Nat.lt_or_ge j i with h' | h'
          · have := h.q.mono (j + 1) i h'
            omega
          · have := h.q.mono (i + 1) j (by omega)
            omega
      mono := h.q.mono
      b0 := h.q.b0
      bh := h.q.bh }
theorem Try.infoChan : (Try.prog.info? 42).map (fun i => (i.zero, i.size, i.bytes)) = some (some (.agg #[.int .i64 0, .int .i64 0, .int .i64 0, .int .i64 0, .int .i64 0, .int .i64 0, .int .i64 0]), 7, 56) := by kernel_rfl
theorem Try.infoKeeper : (Try.prog.info? 66).map (fun i => (i.zero, i.size, i.bytes)) = some (some (.agg #[.nilFunc]), 1, 8) := by kernel_rfl
theorem Try.infoReading : (Try.prog.info? 48).map (fun i => (i.zero, i.size, i.bytes)) = some (some (.agg #[.int .i64 0, .int .i64 0]), 2, 16) := by kernel_rfl
theorem cloneN_any (a : Option Addr) (n c : Nat) (L : List Nd) (w : World) (hr : NRow w a n L) (ha : a = none → n = 0 ∧ c = 0) (hn : n ≤ 1000) :
    Calls Try.prog 24 #[.slice a n c] w fun e w' => ∃ v, e = .returned v ∧ ORow ndE 38 w' w.heap.size v L ∧ After w w' := by
  cases a with
  | none =>
    obtain ⟨rfl, rfl⟩ := ha rfl
    have hz : L = [] := List.length_eq_zero_iff.1 hr.1
    subst hz
    clear hr
    have hq := fun W => Lib.run_eql_slice_nil (P := Try.prog) W 22 38 none 0 0 0 0 Try.underlying22
    go_enter Try.func24, Try.ntmps24
    go_wp2
    go_ret
    exact ⟨_, rfl, orow_nil ndE _ _ _, After.rfl⟩
  | some x =>
    have HO1 := hideIt (show ORow ndE 38 (w.alloc (.cells #[] 38)) w.heap.size (.slice (some ⟨w.heap.size, 0, none⟩) 0 0) [] from World.ownsRow_lit (base := w.heap.size) (e := 38) (size := 4) w #[] 0 (Nat.le_refl _) (by decide) rfl)
    have HR := hideIt (hr.after (After.rfl.alloc (.cells #[] 38)))
    have hn' : ([] : List Nd).length + n ≤ maxLen := by unfold maxLen; simp; omega
    clear hr ha
    have hq := fun W => Lib.run_eql_slice_nil (P := Try.prog) W 22 38 (some x) n c 0 0 Try.underlying22
    go_enter Try.func24, Try.ntmps24
    go_wp2_with (at_builtin; refine app_row (E := ndE) rfl (.tmp 5) (.tmp 6) 22 38 Try.underlying22 Try.infoNode rfl (by decide) rfl w.heap.size _ [] rfl HO1.out (some x) n c L rfl HR.out (fun h => by cases h) hn' (by simp; omega) (by simp) ?_; intro v' w1 hown hb; have HO := hideIt (And.intro hown hb); clear hown hb)
    go_ret
    refine ⟨_, rfl, HO.out.1, (After.rfl.alloc _).then HO.out.2 (fun i hi h => ?_)⟩
    have := (HO1.out.lt i h).1
    omega
theorem cloneC_any (a : Option Addr) (n c : Nat) (L : List Ch) (w : World) (hr : CRow w a n L) (ha : a = none → n = 0 ∧ c = 0) (hn : n ≤ 1000) :
    Calls Try.prog 25 #[.slice a n c] w fun e w' => ∃ v, e = .returned v ∧ ORow chE 42 w' w.heap.size v L ∧ After w w' := by
  cases a with
  | none =>
    obtain ⟨rfl, rfl⟩ := ha rfl
    have hz : L = [] := List.length_eq_zero_iff.1 hr.1
    subst hz
    clear hr
    have hq := fun W => Lib.run_eql_slice_nil (P := Try.prog) W 23 42 none 0 0 0 0 Try.underlying23
    go_enter Try.func25, Try.ntmps25
    go_wp2
    go_ret
    exact ⟨_, rfl, orow_nil chE _ _ _, After.rfl⟩
  | some x =>
    have HO1 := hideIt (show ORow chE 42 (w.alloc (.cells #[] 42)) w.heap.size (.slice (some ⟨w.heap.size, 0, none⟩) 0 0) [] from World.ownsRow_lit (base := w.heap.size) (e := 42) (size := 7) w #[] 0 (Nat.le_refl _) (by decide) rfl)
    have HR := hideIt (hr.after (After.rfl.alloc (.cells #[] 42)))
    have hn' : ([] : List Ch).length + n ≤ maxLen := by unfold maxLen; simp; omega
    clear hr ha
    have hq := fun W => Lib.run_eql_slice_nil (P := Try.prog) W 23 42 (some x) n c 0 0 Try.underlying23
    go_enter Try.func25, Try.ntmps25
    go_wp2_with (at_builtin; refine app_row (E := chE) rfl (.tmp 5) (.tmp 6) 23 42 Try.underlying23 Try.infoChan rfl (by decide) rfl w.heap.size _ [] rfl HO1.out (some x) n c L rfl HR.out (fun h => by cases h) hn' (by simp; omega) (by simp) ?_; intro v' w1 hown hb; have HO := hideIt (And.intro hown hb); clear hown hb)
    go_ret
    refine ⟨_, rfl, HO.out.1, (After.rfl.alloc _).then HO.out.2 (fun i hi h => ?_)⟩
    have := (HO1.out.lt i h).1
    omega
theorem isNone_nil (w : World) : Calls Try.prog 28 #[.pointer none] w fun e w' => e = .returned (.bool true) ∧ w' = w := by
  go_enter Try.func28, Try.ntmps28
  go_wp2
  go_ret
  exact ⟨rfl, rfl⟩
theorem isNone_zero {w : World} {p : Nat} {u v : Value} (h : w.heap[p]? = some (.cells #[.slice none 0 0, u, v] 61 (0, 0))) : Calls Try.prog 28 #[Ptr p] w fun e w' => e = .returned (.bool true) ∧ w' = w := by
  have h0 := blk_cell h (i := 0) rfl
  have h1 := blk_lt h
  clear h
  go_enter Try.func28, Try.ntmps28
  go_wp2
  go_ret
  exact ⟨rfl, rfl⟩
theorem isNone_no {w : World} {p : Nat} {a : Option Addr} {n c : Nat} {u v : Value} (hn : 0 < n) (h : w.heap[p]? = some (.cells #[.slice a n c, u, v] 61 (0, 0))) : Calls Try.prog 28 #[Ptr p] w fun e w' => e = .returned (.bool false) ∧ w' = w := by
  have h0 := blk_cell h (i := 0) rfl
  have h1 := blk_lt h
  have i0 : ((n : Int) == 0) = false := by simp; omega
  clear h
  go_enter Try.func28, Try.ntmps28
  go_wp2
  go_ret
  exact ⟨rfl, rfl⟩
theorem words_none {w : World} {v : Value} (h : Calls Try.prog 28 #[v] w fun e w' => e = .returned (.bool true) ∧ w' = w) : Calls Try.prog 12 #[v] w fun e w' => e = .returned (.int .i64 0) ∧ w' = w := by
  have H := hideIt h
  clear h
  go_enter Try.func12, Try.ntmps12
  go_wp2_with (go_at_call 28; refine H.out.mono ?_; rintro e w' ⟨rfl, rfl⟩)
  go_ret
  exact ⟨rfl, rfl⟩
theorem words_any {w : World} {lo hi : Nat} {m : Mp} {L : List Nd} {C : List Ch} {Z : Nat → Int} (h : Mc w lo hi m L C Z) (hL : 0 < L.length) : Calls Try.prog 12 #[Ptr m.p] w fun e w' => e = .returned (.int .i64 (memA L).1) ∧ After w w' := by
  obtain ⟨p, vn, vc, vk, K, b⟩ := m
  obtain ⟨a, c, e, hg, _, _⟩ := ORow.row h.q.on
  have hb := h.q.blk
  simp only at e hb ⊢
  subst e
  have H := hideIt (isNone_no hL hb)
  have HM := hideIt (memory_any L w a L.length c hg)
  have h0 := blk_cell hb (i := 0) rfl
  have h1 := blk_lt hb
  clear h hg hb
  generalize (memA L).1 = r at *
  generalize (memA L).2 = s at *
  go_enter Try.func12, Try.ntmps12
  go_wp2_with (first | (go_at_call 28; refine H.out.mono ?_; rintro e w' ⟨rfl, rfl⟩) | (go_at_call 20; refine HM.out.mono ?_; rintro e w' ⟨rfl, h⟩; have H2 := hideIt h; clear h))
  go_ret
  exact ⟨rfl, H2.out⟩
end Go.Proofs.Ythgmjeljjladhaa
