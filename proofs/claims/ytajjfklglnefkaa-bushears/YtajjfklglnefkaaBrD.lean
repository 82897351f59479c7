/-
  Put and Take of the document's ring.
-/
import Derived.Test.YtajjfklglnefkaaBrC
namespace Go.Proofs.Ytajjfklglnefkaa
open Go.RowKit
set_option maxRecDepth 8000
theorem rfTake_empty {w : World} {S : Nat → Prop} {g n a b : Nat} (x : Rf w S g n ⟨[], a, b⟩) :
    Calls Try.prog 38 #[Ptr g] w fun e w' => e = .returned (.tuple #[.int .i64 0, .int .i64 0, .int .i64 8]) ∧ w' = w := by
  obtain ⟨ad, c, x⟩ := x
  obtain ⟨⟨_, c1, _, _⟩, _⟩ := four_at x.at0
  dsimp only [List.length_nil] at c1
  clear x
  go_enter Try.func38, Try.ntmps38
  go_wp2
  go_ret3
  exact ⟨rfl, rfl⟩
theorem four_set1 {w : World} {g : Nat} {T : TypeId} {x0 x1 x2 x3 : Value} (h : w.heap[g]? = some (.cells #[x0, x1, x2, x3] T (0, 0))) (v : Value) : (w.setCell ⟨g, 1, none⟩ v).heap[g]? = some (.cells #[x0, v, x2, x3] T (0, 0)) := blk_put h 1 v
theorem four_set2 {w : World} {g : Nat} {T : TypeId} {x0 x1 x2 x3 : Value} (h : w.heap[g]? = some (.cells #[x0, x1, x2, x3] T (0, 0))) (v : Value) : (w.setCell ⟨g, 2, none⟩ v).heap[g]? = some (.cells #[x0, x1, v, x3] T (0, 0)) := blk_put h 2 v
theorem four_set3 {w : World} {g : Nat} {T : TypeId} {x0 x1 x2 x3 : Value} (h : w.heap[g]? = some (.cells #[x0, x1, x2, x3] T (0, 0))) (v : Value) : (w.setCell ⟨g, 3, none⟩ v).heap[g]? = some (.cells #[x0, x1, x2, v] T (0, 0)) := blk_put h 3 v
theorem but_in {S : Nat → Prop} {g : Nat} (h : S g) (w : World) (i : Nat) (v : Value) : But S w (w.setCell ⟨g, i, none⟩ v) := But.set (S := S) But.rfl ⟨g, i, none⟩ (fun _ => h) v
theorem Que.own {w : World} {P : Nat → Prop} {g i : Nat} {v : Value} {a : Option Addr} {n c : Nat} {xs : List Int} (h : Que w (fun k => P k ∧ k ≠ g) a n c xs) : Que (w.setCell ⟨g, i, Option.none⟩ v) (fun k => P k ∧ k ≠ g) a n c xs :=
  h.but (but_one w g i v) (fun _k hk e => hk.2 e)
theorem Que.drew {w : World} {P : Nat → Prop} {a : Option Addr} {n c : Nat} {xs : List Int} (h : Que w P a n c xs) : Que w.drew P a n c xs := h.but (S := Non) But.rfl.drew (fun _ _ t => t)
theorem rf_take_end {w : World} {S : Nat → Prop} {g n : Nat} (hS : S g) {v u : Value} {r : List Int} {a' : Option Addr} {c' b : Nat} (h0 : w.heap[g]? = some (.cells #[.int .i64 (n : Int), v, u, .int .i64 (b : Int)] 85 (0, 0))) (hq : Que w (fun k => S k ∧ k ≠ g) a' r.length c' r) (hb : b ≤ 1000000) (hl : r.length + 1 ≤ n) (hn : n ≤ 16) {k : Nat} (hk : k = r.length) :
    Rf (((w.setCell ⟨g, 1, none⟩ (.slice a' k c')).setCell ⟨g, 2, none⟩ (.int .i64 0)).drew) S g n ⟨r, 0, b⟩ ∧ But S w (((w.setCell ⟨g, 1, none⟩ (.slice a' k c')).setCell ⟨g, 2, none⟩ (.int .i64 0)).drew) := by
  subst hk
  exact ⟨⟨a', c', four_set2 (four_set1 h0 _) _, hS, hq.own.own.drew, by omega, hn, by show r.length ≤ n; omega, Nat.zero_le _, hb⟩, ((but_in hS _ _ _).trans (but_in hS _ _ _)).drew⟩
set_option maxHeartbeats 1000000 in
theorem rfTake_some {w : World} {S : Nat → Prop} {g n : Nat} {y : Int} {r : List Int} {a b : Nat} (x : Rf w S g n ⟨y :: r, a, b⟩) :
    Calls Try.prog 38 #[Ptr g] w fun e w' => e = .returned (.tuple #[.int .i64 y, .int .i64 (a : Int), .int .i64 0]) ∧ Rf w' S g n ⟨r, 0, b⟩ ∧ But S w w' := by
  obtain ⟨ad, c, x⟩ := x
  obtain ⟨⟨_, c1, c2, _⟩, f1, f2, _⟩ := four_at x.at0
  obtain ⟨bb, off, rfl, hb1, hb2, hc0, hcp⟩ := x.que.first
  dsimp only [List.length_cons] at c1 c2
  have hS := x.inS
  have hq : Que w (fun k => S k ∧ k ≠ g) (some ⟨bb, off, none⟩) (r.length + 1) c (y :: r) := x.que
  have hle := hq.le
  have ne : ¬ bb = g := hb1.2
  have ne' : ¬ g = bb := fun e => hb1.2 e.symm
  obtain ⟨m, hm⟩ : ∃ m : Nat, m = r.length := ⟨_, rfl⟩
  have h0 : w.heap[g]? = some (.cells #[.int .i64 (n : Int), .slice (some ⟨bb, off, none⟩) (m + 1) c, .int .i64 (a : Int), .int .i64 (b : Int)] 85 (0, 0)) := by rw [hm]; exact x.at0
  have hall : b ≤ 1000000 := x.hall
  have hlm : m + 1 ≤ n := by have := x.hl; rw [hm]; exact this
  have hn16 := x.hn
  rw [← hm] at c1 hle hq
  have X := hideIt (And.intro hS (And.intro h0 (And.intro hq (And.intro hall (And.intro hlm (And.intro hn16 hm))))))
  clear hS hb1
  have m1 : (1 : Int) ≤ (m : Int) + 1 := by omega
  have m3 : (m : Int) + 1 ≤ 16 := by omega
  have m2 : ¬ (m : Int) + 1 = 0 := by omega
  clear x hq h0 hm
  by_cases hc1 : c = 1
  · subst hc1
    go_enter Try.func38, Try.ntmps38
    go_wp2
    go_region
    go_wp2
    go_ret3
    obtain ⟨hS, h0, hq, hall, hlm, hn16, rfl⟩ := X.out
    obtain rfl : r = [] := List.eq_nil_of_length_eq_zero (by omega)
    exact ⟨rfl, rf_take_end hS h0 hq.cut1 hall hlm hn16 rfl⟩
  · obtain ⟨c, rfl⟩ : ∃ c', c = c' + 2 := ⟨c - 2, by omega⟩
    go_enter Try.func38, Try.ntmps38
    go_wp2
    go_region
    go_wp2
    go_ret3
    obtain ⟨hS, h0, hq, hall, hlm, hn16, rfl⟩ := X.out
    exact ⟨rfl, rf_take_end hS h0 hq.cut hall hlm hn16 rfl⟩
set_option maxHeartbeats 1000000 in
theorem rfPut_any {w : World} {S : Nat → Prop} {g n : Nat} {s : Sg} (x : Rf w S g n s) (hb : s.all < 1000000) (y : Int) :
    Calls Try.prog 36 #[Ptr g, .int .i64 y] w fun e w' => e = .returned (.int .i64 0) ∧ Rf w' (fun k => S k ∨ w.heap.size ≤ k) g n (s.put n y) ∧ But S w w' := by
  have hlt := x.lt
  obtain ⟨ad, c, x⟩ := x
  obtain ⟨⟨_, c1, _, _⟩, f1, _, _⟩ := four_at x.at0
  obtain ⟨m, hm⟩ : ∃ m : Nat, m = s.l.length := ⟨_, rfl⟩
  rw [← hm] at c1
  have hm16 : m ≤ 16 := by have := x.hl; have := x.hn; omega
  have hq : Que w (fun k => S k ∧ k ≠ g) ad m c s.l := by rw [hm]; exact x.que
  have hS := x.inS
  have HQ := hideIt (hq.but (S := Non) (After.rfl.alloc (.cells #[.int .i64 y] 3)) (fun _ _ t => t))
  have hnew : (w.alloc (.cells #[.int .i64 y] 3)).cell? ⟨w.heap.size, 0, none⟩ = some (.int .i64 y) := blk_cell (heap_alloc_new w _) rfl
  have HN := hideIt hnew
  have X := hideIt (And.intro x hm)
  clear x hm hq hnew
  go_enter Try.func36, Try.ntmps36
  go_wp2_with (at_builtin; refine app_que rfl (.tmp 9) (.tmp 11) rfl (fun k => S k ∧ k ≠ g) ad m c s.l rfl HQ.out ⟨w.heap.size, 0, none⟩ y rfl HN.out ?hle ?hK)
  case hle => omega
  case hK =>
    intro a1 c2 w1 q1 b1
    obtain ⟨x, hm⟩ := X.out
    have h1 : w1.heap[g]? = some (.cells #[.int .i64 (n : Int), .slice ad m c, .int .i64 (s.since : Int), .int .i64 (s.all : Int)] 85 (0, 0)) := by
      rw [b1.block g (by simp; omega) (fun t => t.2 rfl), Below.heap_alloc _ _ _ hlt, hm]
      exact x.at0
    have b2 : But S w w1 := (After.rfl.alloc (.cells #[.int .i64 y] 3)).but.trans (b1.mono (fun k _ hk => hk.1))
    have q1 : Que w1 (fun k => (S k ∨ w.heap.size ≤ k) ∧ k ≠ g) a1 (m + 1) c2 (s.l ++ [y]) := q1.mono (fun k hk => by
      rcases hk with hk | hk
      · exact ⟨.inl hk.1, hk.2⟩
      · have hk : w.heap.size + 1 ≤ k := hk
        exact ⟨.inr (by omega), by omega⟩)
    have hn := x.hn
    have hl := x.hl
    have hpos := x.pos
    have hsince := x.hsince
    have hl' : m ≤ n := by omega
    have HM := hideIt hm
    clear X x b1 HQ HN c1 f1 hlt hm hl
    obtain ⟨⟨c0, c1, _, _⟩, f1, _, _⟩ := four_at h1
    have HX := hideIt (And.intro h1 (And.intro q1 b2))
    clear h1 q1 b2
    go_wp2_with fail
    have h2 := four_set1 HX.out.1 (.slice a1 (m + 1) c2)
    have q2 := HX.out.2.1.own (i := 1) (v := .slice a1 (m + 1) c2)
    have b2 := HX.out.2.2.trans (but_in hS w1 1 (.slice a1 (m + 1) c2))
    generalize w1.setCell ⟨g, 1, none⟩ (.slice a1 (m + 1) c2) = w2 at h2 q2 b2 ⊢
    clear c0 c1 f1 HX
    obtain ⟨⟨c0, c1, d2, d3⟩, f1, f2, f3⟩ := four_at h2
    have m0 : (0 : Int) ≤ (m : Int) := by omega
    have m16 : (m : Int) ≤ 16 := by omega
    by_cases hr : m < n
    · have hg : ¬ (n : Int) < (m : Int) + 1 := by omega
      have HX := hideIt (And.intro h2 (And.intro q2 (And.intro b2 (And.intro HM.out (And.intro hr (And.intro hn hsince))))))
      clear h2 q2 b2 hr hl'
      go_region
      go_wp2_with fail
      go_ret
      obtain ⟨h2, q2, b2, hm, hr, hn, hsince⟩ := HX.out
      rw [hm] at hr
      rw [put_room hr]
      have hll : (s.l ++ [y]).length = m + 1 := by rw [List.length_append, List.length_singleton, hm]
      refine ⟨rfl, ⟨a1, c2, ?_, .inl hS, ?_, hpos, hn, by show (s.l ++ [y]).length ≤ n; omega, hsince, by show s.all ≤ 1000000; omega⟩, b2.drew⟩
      · rw [hll]; exact h2
      · rw [hll]; exact q2.drew
    · obtain ⟨l, a, b⟩ := s
      obtain rfl : m = n := by omega
      cases l with
      | nil => have : m = 0 := HM.out
               omega
      | cons u r =>
        have hm' : m = r.length + 1 := HM.out
        have hg : (m : Int) < (m : Int) + 1 := by omega
        have hle := q2.le
        obtain ⟨c3, rfl⟩ : ∃ c', c2 = c' + 2 := ⟨c2 - 2, by omega⟩
        obtain ⟨bb, off, rfl, hb1, _, _, _⟩ := q2.first
        have m1 : (1 : Int) ≤ (m : Int) + 1 := by omega
        have m3 : (m : Int) + 1 ≤ 17 := by omega
        have s0 : (a : Int) ≤ 1000000 := by dsimp only at hsince hb; omega
        have s1 : (b : Int) < 1000000 := by dsimp only at hb; omega
        have s2 : (0 : Int) ≤ (a : Int) := by omega
        have s3 : (0 : Int) ≤ (b : Int) := by omega
        dsimp only at d2 d3
        have HX := hideIt (And.intro h2 (And.intro q2 (And.intro b2 (And.intro hm' (And.intro hn hsince)))))
        clear h2 q2 b2 HM hm' hr hl' hle hsince
        go_region
        go_wp2_with fail
        go_ret
        obtain ⟨h2, q2, b2, hm, hn, hsince⟩ := HX.out
        rw [put_full (by show ¬ r.length + 1 < m; omega)]
        have hll : (r ++ [y]).length = m := by rw [List.length_append, List.length_singleton, hm]
        have q3 : Que w2 (fun k => (S k ∨ w.heap.size ≤ k) ∧ k ≠ g) (some ⟨bb, off + 1, none⟩) m (c3 + 1) (r ++ [y]) := q2.cut
        have i1 : ((a + 1 : Nat) : Int) = (a : Int) + 1 := by omega
        have i2 : ((b + 1 : Nat) : Int) = (b : Int) + 1 := by omega
        refine ⟨rfl, ⟨some ⟨bb, off + 1, none⟩, c3 + 1, ?_, .inl hS, ?_, hpos, hn, by show (r ++ [y]).length ≤ m; omega, by show a + 1 ≤ b + 1; omega, hb⟩, (((b2.trans (but_in hS _ _ _)).trans (but_in hS _ _ _)).trans (but_in hS _ _ _)).drew⟩
        · rw [hll]
          show _ = some (Obj.cells #[.int .i64 (m : Int), _, .int .i64 ((a + 1 : Nat) : Int), .int .i64 ((b + 1 : Nat) : Int)] _ _)
          rw [i1, i2]
          exact four_set3 (four_set2 (four_set1 h2 _) _) _
        · rw [hll]; exact q3.own.own.own.drew
end Go.Proofs.Ytajjfklglnefkaa
