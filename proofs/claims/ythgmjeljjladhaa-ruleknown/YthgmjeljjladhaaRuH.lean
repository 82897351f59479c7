/-
  holds: what a node says at a tick; what it keeps then.
-/
import Derived.Test.YthgmjeljjladhaaRuN
import Derived.Test.YthgmjeljjladhaaSloT
import Derived.Test.YthgmjeljjladhaaFoV
namespace Go.Proofs.Ythgmjeljjladhaa
open Go.RowKit
set_option maxRecDepth 8000
theorem wp_funcV2 {o : Oper} {a : Act} {w : World} {K : Act → World → Prop} {Q : Exit → Act → World → Prop} {f : Nat} {cs : Array Value} {ts : Array Nat} {x0 x1 : Operand} {y : Nat} {u0 u1 : Value} (ho : o.op = .call { callee := .value (.tmp y), args := #[x0, x1], argTypes := ts }) (hy : a.eval (.tmp y) = .func (.func f) #[] cs) (hf : ∀ args W, (callFunc f args).run Try.prog W = .ok (.enter f args) W) (h0 : a.eval x0 = u0) (h1 : a.eval x1 = u1) (h : Calls Try.prog f (#[u0, u1] ++ cs) w fun e w' => ∃ v, e = .returned v ∧ K (a.put o.dst v) w') : Oper.wp Try.prog o a w K Q := by
  unfold Oper.wp execOp
  simp [ho, resolve, hy, Deferred.ofValue, invoke, hf, Oper.upon, h0, h1]
  refine Calls.mono h ?_
  rintro e w' ⟨v, rfl, hk⟩
  exact hk
/-- What lies in memory when a node is asked. -/
structure Asked (w : World) (lo hi : Nat) (m : Mp) (L : List Nd) (C : List Ch) (Z : Nat → Int) (T : List (List Rd)) (t i : Nat) (x : Nd) (g : Nat) (l : List Bool) (ar : Option Addr) (R : List Rd) : Prop where
  mc : Mc w lo hi m L C Z
  ok : okAll L (C.length : Int) = true
  hL : L.length ≤ 32
  hx : L[i]? = some x
  hz : Z i = zOf L C T t i
  og : OutAt w g l
  ll : l.length = L.length
  gh : hi ≤ g
  dr : DRow w ar C.length R
  tr : T.getD t [] = R
  vs : ∀ j, j < i → l.getD j false = val L C T j t
/-- What the answer is to be. -/
def Said (w : World) (lo hi : Nat) (m : Mp) (L : List Nd) (C : List Ch) (Z : Nat → Int) (T : List (List Rd)) (t i : Nat) (e : Ending) (w' : World) : Prop :=
  e = .returned (.bool (val L C T i t)) ∧ Mc w' lo hi m L C (fun j => if j = i then zOf L C T (t + 1) i else Z j) ∧ But (Rng lo hi) w w'
theorem Asked.lt {w : World} {lo hi : Nat} {m : Mp} {L : List Nd} {C : List Ch} {Z : Nat → Int} {T : List (List Rd)} {t i : Nat} {x : Nd} {g : Nat} {l : List Bool} {ar : Option Addr} {R : List Rd} (h : Asked w lo hi m L C Z T t i x g l ar R) : i < L.length := (List.getElem?_eq_some_iff.1 h.hx).1
/-- Nothing is kept: the machine is as it was. -/
theorem Asked.same {w w' : World} {lo hi : Nat} {m : Mp} {L : List Nd} {C : List Ch} {Z : Nat → Int} {T : List (List Rd)} {t i : Nat} {x : Nd} {g : Nat} {l : List Bool} {ar : Option Addr} {R : List Rd} (h : Asked w lo hi m L C Z T t i x g l ar R) (hop : x.op ≤ 8) (a : After w w') : Mc w' lo hi m L C (fun j => if j = i then zOf L C T (t + 1) i else Z j) :=
  (h.mc.after a).num (fun j _ => by
    by_cases e : j = i
    · subst e
      rw [if_pos rfl, zOf_succ h.hx]
      unfold nxtK
      rw [if_neg (by omega), if_neg (by omega), if_neg (by omega), if_neg (by omega), h.hz]
    · rw [if_neg e])
/-- What is read of memory at the beginning. -/
structure Heads (w : World) (p : Nat) (nb noff n cn i : Nat) (x : Nd) (u v : Value) : Prop where
  c0 : w.cell? ⟨p, 0, none⟩ = some (.slice (some ⟨nb, noff, none⟩) n cn)
  c1 : w.cell? ⟨p, 1, none⟩ = some u
  c2 : w.cell? ⟨p, 2, none⟩ = some v
  k0 : w.cell? ⟨nb, noff + i * 4, none⟩ = some (.int .i64 x.op)
  k1 : w.cell? ⟨nb, noff + i * 4 + 1, none⟩ = some (.int .i64 x.a)
  k2 : w.cell? ⟨nb, noff + i * 4 + 2, none⟩ = some (.int .i64 x.b)
  k3 : w.cell? ⟨nb, noff + i * 4 + 3, none⟩ = some (.int .i64 x.n)
  lt : (i : Int) < (n : Int)
theorem Asked.heads {w : World} {lo hi : Nat} {m : Mp} {L : List Nd} {C : List Ch} {Z : Nat → Int} {T : List (List Rd)} {t i : Nat} {x : Nd} {g : Nat} {l : List Bool} {ar : Option Addr} {R : List Rd} (h : Asked w lo hi m L C Z T t i x g l ar R) : ∃ nb noff cn, Heads w m.p nb noff L.length cn i x m.vc m.vk := by
  obtain ⟨a, c, e, hg, _, _⟩ := ORow.row h.mc.q.on
  obtain ⟨b, off, y, rfl, hb, hy, k0, k1, k2, k3⟩ := nrow_at hg h.lt
  rw [h.hx] at hy
  cases hy
  have hblk := h.mc.q.blk
  rw [e] at hblk
  exact ⟨b, off, c, blk_cell hblk rfl, blk_cell hblk rfl, blk_cell hblk rfl, k0, k1, k2, k3, by have := h.lt; omega⟩
theorem Asked.now {w : World} {lo hi : Nat} {m : Mp} {L : List Nd} {C : List Ch} {Z : Nat → Int} {T : List (List Rd)} {t i : Nat} {x : Nd} {g : Nat} {l : List Bool} {ar : Option Addr} {R : List Rd} (h : Asked w lo hi m L C Z T t i x g l ar R) {j : Nat} (hj : j < i) : w.cell? ⟨g, j, none⟩ = some (.bool (val L C T j t)) ∧ (j : Int) < (L.length : Int) := by
  have := h.lt
  have hc := blk_cell h.og (bcs_at (i := j) (by rw [h.ll]; omega))
  rw [h.vs j hj] at hc
  exact ⟨hc, by omega⟩
theorem holds_0 {w : World} {lo hi : Nat} {m : Mp} {L : List Nd} {C : List Ch} {Z : Nat → Int} {T : List (List Rd)} {t i : Nat} {g : Nat} {l : List Bool} {ar : Option Addr} {cr : Nat} {R : List Rd} {a b n : Int} (h : Asked w lo hi m L C Z T t i ⟨0, a, b, n⟩ g l ar R) :
    Calls Try.prog 30 #[Ptr m.p, .int .i64 (i : Int), .slice (some ⟨g, 0, none⟩) L.length L.length, .slice ar C.length cr] w (Said w lo hi m L C Z T t i) := by
  obtain ⟨nb, noff, cn, ⟨c0, c1, c2, k0, k1, k2, k3, lt⟩⟩ := h.heads
  have hv : val L C T i t = true := by rw [val_eq h.ok C T h.hx]; simp [stepv]
  unfold Said
  rw [hv]
  have HH := hideIt (fun w' => h.same (w' := w') (by show (0 : Int) ≤ 8; decide))
  have hp := cell_lt c0
  have hn := cell_lt k0
  simp only at k0 k1 k2 k3
  clear h hv c1 c2
  go_enter Try.func30, Try.ntmps30
  go_wp2
  go_ret
  exact ⟨rfl, HH.out _ (After.rfl.alloc _), (After.rfl.alloc _).but⟩
theorem holds_6 {w : World} {lo hi : Nat} {m : Mp} {L : List Nd} {C : List Ch} {Z : Nat → Int} {T : List (List Rd)} {t i : Nat} {g : Nat} {l : List Bool} {ar : Option Addr} {cr : Nat} {R : List Rd} {ja : Nat} {b n : Int} (h : Asked w lo hi m L C Z T t i ⟨6, (ja : Int), b, n⟩ g l ar R) (hja : ja < i) :
    Calls Try.prog 30 #[Ptr m.p, .int .i64 (i : Int), .slice (some ⟨g, 0, none⟩) L.length L.length, .slice ar C.length cr] w (Said w lo hi m L C Z T t i) := by
  obtain ⟨nb, noff, cn, ⟨c0, c1, c2, k0, k1, k2, k3, lt⟩⟩ := h.heads
  obtain ⟨n1, n2⟩ := h.now hja
  have hv : val L C T i t = !val L C T ja t := by rw [val_eq h.ok C T h.hx]; simp [stepv]
  unfold Said
  rw [hv]
  have HH := hideIt (fun w' => h.same (w' := w') (by show (6 : Int) ≤ 8; decide))
  have hp := cell_lt c0
  have hn := cell_lt k0
  have hg := cell_lt n1
  simp only at k0 k1 k2 k3
  clear h hv c1 c2
  generalize val L C T ja t = A at *
  go_enter Try.func30, Try.ntmps30
  go_wp2
  go_ret
  exact ⟨rfl, HH.out _ (After.rfl.alloc _), (After.rfl.alloc _).but⟩
theorem holds_7 {w : World} {lo hi : Nat} {m : Mp} {L : List Nd} {C : List Ch} {Z : Nat → Int} {T : List (List Rd)} {t i : Nat} {g : Nat} {l : List Bool} {ar : Option Addr} {cr : Nat} {R : List Rd} {ja jb : Nat} {n : Int} (h : Asked w lo hi m L C Z T t i ⟨7, (ja : Int), (jb : Int), n⟩ g l ar R) (hja : ja < i) (hjb : jb < i) :
    Calls Try.prog 30 #[Ptr m.p, .int .i64 (i : Int), .slice (some ⟨g, 0, none⟩) L.length L.length, .slice ar C.length cr] w (Said w lo hi m L C Z T t i) := by
  obtain ⟨nb, noff, cn, ⟨c0, c1, c2, k0, k1, k2, k3, lt⟩⟩ := h.heads
  obtain ⟨n1, n2⟩ := h.now hja
  obtain ⟨n3, n4⟩ := h.now hjb
  have hv : val L C T i t = (val L C T ja t && val L C T jb t) := by rw [val_eq h.ok C T h.hx]; simp [stepv]
  unfold Said
  rw [hv]
  have HH := hideIt (fun w' => h.same (w' := w') (by show (7 : Int) ≤ 8; decide))
  have hp := cell_lt c0
  have hn := cell_lt k0
  have hg := cell_lt n1
  simp only at k0 k1 k2 k3
  clear h hv c1 c2
  generalize val L C T jb t = B at *
  rcases hA : val L C T ja t with _ | _
  all_goals
    rw [hA] at n1
    clear hA
    go_enter Try.func30, Try.ntmps30
    go_wp2
    go_ret
    exact ⟨rfl, HH.out _ (After.rfl.alloc _), (After.rfl.alloc _).but⟩
theorem holds_8 {w : World} {lo hi : Nat} {m : Mp} {L : List Nd} {C : List Ch} {Z : Nat → Int} {T : List (List Rd)} {t i : Nat} {g : Nat} {l : List Bool} {ar : Option Addr} {cr : Nat} {R : List Rd} {ja jb : Nat} {n : Int} (h : Asked w lo hi m L C Z T t i ⟨8, (ja : Int), (jb : Int), n⟩ g l ar R) (hja : ja < i) (hjb : jb < i) :
    Calls Try.prog 30 #[Ptr m.p, .int .i64 (i : Int), .slice (some ⟨g, 0, none⟩) L.length L.length, .slice ar C.length cr] w (Said w lo hi m L C Z T t i) := by
  obtain ⟨nb, noff, cn, ⟨c0, c1, c2, k0, k1, k2, k3, lt⟩⟩ := h.heads
  obtain ⟨n1, n2⟩ := h.now hja
  obtain ⟨n3, n4⟩ := h.now hjb
  have hv : val L C T i t = (val L C T ja t || val L C T jb t) := by rw [val_eq h.ok C T h.hx]; simp [stepv]
  unfold Said
  rw [hv]
  have HH := hideIt (fun w' => h.same (w' := w') (by show (8 : Int) ≤ 8; decide))
  have hp := cell_lt c0
  have hn := cell_lt k0
  have hg := cell_lt n1
  simp only at k0 k1 k2 k3
  clear h hv c1 c2
  generalize val L C T jb t = B at *
  rcases hA : val L C T ja t with _ | _
  all_goals
    rw [hA] at n1
    clear hA
    go_enter Try.func30, Try.ntmps30
    go_wp2
    go_ret
    exact ⟨rfl, HH.out _ (After.rfl.alloc _), (After.rfl.alloc _).but⟩
end Go.Proofs.Ythgmjeljjladhaa
