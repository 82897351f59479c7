/-
  Reals in rows; which steps may be; a reading.
-/
import Derived.Test.YtgapnimicaopcaaFiG
namespace Go.Proofs.Ytgapnimicaopcaa
open Go.RowKit
set_option maxRecDepth 8000
/-- Reals lie where a slice of n places leads. -/
def RRow (w : World) (a : Option Addr) (n : Nat) (xs : List Rl) : Prop :=
  xs.length = n ∧ ∀ i, i < n → ∃ b off x, a = some ⟨b, off, none⟩ ∧ b < w.heap.size ∧ xs[i]? = some x ∧ w.cell? ⟨b, off + i * 3, none⟩ = some (.int .i64 x.k) ∧ w.cell? ⟨b, off + i * 3 + 1, none⟩ = some (.int .i64 x.m) ∧ w.cell? ⟨b, off + i * 3 + 2, none⟩ = some (.int .i64 x.e)
theorem RRow.but {S : Nat → Prop} {w w' : World} {a n xs} (h : RRow w a n xs) (ha : But S w w') (hn : ∀ x, a = some x → 0 < n → ¬ S x.block) : RRow w' a n xs :=
  ⟨h.1, fun i hi => by
    obtain ⟨b, off, x, e, hb, hx, h1, h2, h3⟩ := h.2 i hi
    have hnb := hn _ e (by omega)
    exact ⟨b, off, x, e, Nat.lt_of_lt_of_le hb ha.size, hx, (ha.cell hb hnb _).trans h1, (ha.cell hb hnb _).trans h2, (ha.cell hb hnb _).trans h3⟩⟩
theorem RRow.after {w w' : World} {a n xs} (h : RRow w a n xs) (ha : After w w') : RRow w' a n xs := h.but ha (fun _ _ _ t => t)
theorem RRow.nil (w : World) (a : Option Addr) : RRow w a 0 [] := ⟨rfl, fun i hi => absurd hi (by omega)⟩
theorem RRow.lt {w : World} {a n xs} (h : RRow w a n xs) (hn : 0 < n) : ∃ b off, a = some ⟨b, off, none⟩ ∧ b < w.heap.size := by
  obtain ⟨b, off, x, e, hb, _⟩ := h.2 0 hn
  exact ⟨b, off, e, hb⟩
theorem RRow.at_ {w : World} {a n xs} (h : RRow w a n xs) {i : Nat} (hi : i < n) : ∃ b off x, a = some ⟨b, off, none⟩ ∧ b < w.heap.size ∧ xs[i]? = some x ∧ w.cell? ⟨b, off + i * 3, none⟩ = some (.int .i64 x.k) ∧ w.cell? ⟨b, off + i * 3 + 1, none⟩ = some (.int .i64 x.m) ∧ w.cell? ⟨b, off + i * 3 + 2, none⟩ = some (.int .i64 x.e) := h.2 i hi
theorem mayBe_any (r : Rl) (w : World) : Calls Try.prog 41 #[r.val] w fun x w' => x = .returned (.bool r.may) ∧ After w w' := by
  have H := hideIt (fun W => L2.packLong_any r.k r.m r.e W)
  unfold Rl.may
  unfold L2.plE at H
  generalize L2.plV r.k r.m r.e = V at *
  generalize L2.mayB r.k r.m r.e = M at *
  cases M
  all_goals
    simp only [if_true, if_false, Bool.false_eq_true] at H
    go_enter Try.func41, Try.ntmps41
    go_wp2_with (go_at_call 20; refine (H.out _).mono ?_; rintro e w1 ⟨rfl, ha⟩)
    go_ret
    exact ⟨rfl, (After.rfl.alloc _).trans (After.of ha)⟩
theorem mays_take_succ {l : List Rl} {j : Nat} {x : Rl} (h : l[j]? = some x) : mays (l.take (j + 1)) = (mays (l.take j) && x.may) := by
  unfold mays
  rw [List.take_add_one, h]
  simp
theorem mays_no {l : List Rl} {j : Nat} {x : Rl} (h : l[j]? = some x) (hx : x.may = false) : mays l = false := by
  unfold mays
  rw [List.all_eq_false]
  exact ⟨x, List.mem_of_getElem? h, by simp [hx]⟩
/-- A task that is none. -/
def NoneT (w : World) (v : Value) : Prop := v = .pointer none ∨ ∃ p x0 x1 x2 x3 x5 x6 x7, v = Ptr p ∧ w.heap[p]? = some (.cells #[x0, x1, x2, x3, .pointer none, x5, x6, x7] 58 (0, 0))
theorem NoneT.after {w w' : World} {v : Value} (h : NoneT w v) (a : After w w') : NoneT w' v := by
  rcases h with h | ⟨p, x0, x1, x2, x3, x5, x6, x7, h, hp⟩
  · exact .inl h
  · exact .inr ⟨p, x0, x1, x2, x3, x5, x6, x7, h, (a.block p (blk_lt hp) (fun t => t)).trans hp⟩
theorem check_none {w : World} {v : Value} (h : NoneT w v) (t : Int) (a : Option Addr) (n c : Nat) : Calls Try.prog 26 #[v, .int .i64 t, .slice a n c] w fun e w' => e = .returned (.int .i64 1) ∧ w' = w := by
  rcases h with rfl | ⟨p, x0, x1, x2, x3, x5, x6, x7, rfl, hp⟩
  · go_enter Try.func26, Try.ntmps26
    go_wp2
    go_ret
    exact ⟨rfl, rfl⟩
  · have c4 := blk_cell hp (i := 4) rfl
    clear hp
    go_enter Try.func26, Try.ntmps26
    go_wp2
    go_ret
    exact ⟨rfl, rfl⟩
theorem stepT_none {w : World} {v : Value} (h : NoneT w v) (t : Int) (a : Option Addr) (n c : Nat) : Calls Try.prog 14 #[v, .int .i64 t, .slice a n c] w fun e w' => e = .returned (.tuple #[.agg #[.int .i64 0, .int .i64 0], .int .i64 1]) ∧ After w w' := by
  have H := hideIt (fun W (a1 : After w W) => check_none (h.after a1) t a n c)
  clear h
  go_enter Try.func14, Try.ntmps14
  go_wp2_with (go_at_call 26; refine (H.out _ (After.rfl.alloc _)).mono ?_; rintro e w1 ⟨rfl, rfl⟩)
  exact bodyPost_ret (v := .tuple #[.agg #[.int .i64 0, .int .i64 0], .int .i64 1]) (by simp [results, Try.results14, go_sem]) rfl ⟨rfl, After.rfl.alloc _⟩
theorem check_any {w : World} {p q : Nat} {v : Value} {S : Nat → Prop} {c : Cf} {s : Ts} (x : TkX w p q v S c s) (t : Int) (a : Option Addr) (n d : Nat) (l : List Rl) (hr : RRow w a n l) : Calls Try.prog 26 #[Ptr p, .int .i64 t, .slice a n d] w fun e w' => e = .returned (.int .i64 (s.err t l)) ∧ After w w' := by
  have c4 := blk_cell x.at0 (i := 4) rfl
  have c7 := blk_cell x.at0 (i := 7) rfl
  have hl := hr.1
  clear x
  unfold Ts.err
  generalize s.next = N at *
  by_cases h1 : t < N
  · rw [if_pos (.inl h1)]
    clear hr
    go_enter Try.func26, Try.ntmps26
    go_wp2
    go_ret
    exact ⟨rfl, After.rfl⟩
  by_cases h2 : 2147483647 < t
  · rw [if_pos (.inr h2)]
    clear hr
    go_enter Try.func26, Try.ntmps26
    go_wp2
    go_ret
    exact ⟨rfl, After.rfl⟩
  rw [if_neg (by omega), hl]
  by_cases h3 : 64 < n
  · rw [if_pos h3]
    have h3' : (64 : Int) < (n : Int) := by omega
    clear hr h3
    go_enter Try.func26, Try.ntmps26
    go_wp2
    go_ret
    exact ⟨rfl, After.rfl⟩
  rw [if_neg h3]
  have h3' : ¬ (64 : Int) < (n : Int) := by omega
  have HR := hideIt hr
  clear hr h3
  obtain ⟨E, hE⟩ : ∃ E : Int, (if mays l = true then (0 : Int) else 2) = E := ⟨_, rfl⟩
  have HE := hideIt hE
  rw [hE]
  clear hE
  go_enter Try.func26, Try.ntmps26
  go_wp2_with fail
  go_loopw [36] (fun i wr => ∃ j : Nat, j ≤ n ∧ i = .int .i64 j ∧ mays (l.take j) = true ∧ After w wr) (fun i _ => n - (intOf i).toNat)
  case atStart => exact ⟨0, Nat.zero_le _, rfl, rfl, After.rfl⟩
  case round =>
    obtain ⟨j, hj, rfl, hm, aw⟩ := hrel
    by_cases hjn : j < n
    · have i1 : (j : Int) < (n : Int) := by omega
      obtain ⟨b, off, r, rfl, hb, hx, k0, k1, k2⟩ := HR.out.at_ hjn
      have k0' := (aw.cell hb _).trans k0
      have k1' := (aw.cell hb _).trans k1
      have k2' := (aw.cell hb _).trans k2
      have HM := hideIt (fun W => mayBe_any r W)
      have HS := hideIt (And.intro hm (And.intro hx aw))
      have hlt : b < wr.heap.size := Nat.lt_of_lt_of_le hb aw.size
      rcases hmay : r.may with _ | _
      · have HN := hideIt (mays_no hx hmay)
        rw [hmay] at HM
        clear hm hx aw k0 k1 k2 hmay
        go_wp2_with (go_at_call 41; refine (HM.out _).mono ?_; rintro e w2 ⟨rfl, a2⟩)
        go_ret
        exact ⟨ret_int (by rw [← HE.out, HN.out]; rfl), (HS.out.2.2.alloc _).trans a2⟩
      · have HN := hideIt hmay
        rw [hmay] at HM
        clear hm hx aw k0 k1 k2 hmay
        go_wp2_with (go_at_call 41; refine (HM.out _).mono ?_; rintro e w2 ⟨rfl, a2⟩)
        go_roundw
        case rel => exact ⟨j + 1, by omega, by go_num, by rw [mays_take_succ HS.out.2.1, HS.out.1, HN.out]; rfl, (HS.out.2.2.alloc _).trans a2⟩
        case measure => simp [intOf]; omega
    · have i1 : ¬ (j : Int) < (n : Int) := by omega
      have HS := hideIt (And.intro hm aw)
      clear hm aw
      go_wp2
      go_ret
      have hjn' : j = n := by omega
      have hm := HS.out.1
      rw [hjn', ← hl, List.take_length] at hm
      exact ⟨ret_int (by rw [← HE.out, if_pos hm]), HS.out.2⟩
theorem reading_any {w : World} {p q : Nat} {v : Value} {S : Nat → Prop} {c : Cf} {s : Ts} (x : TkX w p q v S c s) (st : Int) : Calls Try.prog 30 #[Ptr p, .int .i64 st] w fun e w' => e = .returned (.agg #[.int .i64 (s.rd st).s, .int .i64 (s.rd st).v]) ∧ After w w' := by
  have c5 := blk_cell x.at0 (i := 5) rfl
  have c6 := blk_cell x.at0 (i := 6) rfl
  have hlt := x.lt
  clear x
  unfold Ts.rd
  generalize s.value = V at *
  generalize s.known = K at *
  cases K
  · by_cases h1 : st = 1
    · subst h1
      go_enter Try.func30, Try.ntmps30
      go_wp2
      exact bodyPost_ret (v := .agg #[.int .i64 0, .int .i64 0]) (by simp [results, Try.results30, go_sem]) rfl ⟨rfl, After.rfl.alloc _⟩
    · by_cases h2 : st = 2
      · subst h2
        go_enter Try.func30, Try.ntmps30
        go_wp2
        exact bodyPost_ret (v := .agg #[.int .i64 0, .int .i64 0]) (by simp [results, Try.results30, go_sem]) rfl ⟨rfl, After.rfl.alloc _⟩
      · rw [if_neg (by simp), if_neg (by omega)]
        have e1 : (st == 1) = false := by simp [h1]
        have e2 : (st == 2) = false := by simp [h2]
        go_enter Try.func30, Try.ntmps30
        go_wp2
        exact bodyPost_ret (v := .agg #[.int .i64 st, .int .i64 0]) (by simp [results, Try.results30, go_sem]) rfl ⟨rfl, After.rfl.alloc _⟩
  · go_enter Try.func30, Try.ntmps30
    go_wp2
    exact bodyPost_ret (v := .agg #[.int .i64 st, .int .i64 V]) (by simp [results, Try.results30, go_sem]) rfl ⟨rfl, After.rfl.alloc _⟩
end Go.Proofs.Ytgapnimicaopcaa
