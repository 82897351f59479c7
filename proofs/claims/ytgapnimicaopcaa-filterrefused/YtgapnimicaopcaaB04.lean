/-
  Laid together: FiM, FiN.
-/
import Derived.Test.YtgapnimicaopcaaB03
import Derived.Deep.RegionLaw
import Derived.Deep.RegionWith
import Derived.Deep.Cut
import Derived.Test.YtgapnimicaopcaaB01
/-
  may: a filter that may be, and steps that may be, out of any.
-/
namespace Go.Proofs.Ytgapnimicaopcaa
open Go.RowKit
set_option maxRecDepth 8000
def broughtTo (i : Int) (m : Nat) : Nat := (i % (m : Int)).toNat
theorem broughtTo_lt (i : Int) {m : Nat} (h : 0 < m) : broughtTo i m < m := by
  unfold broughtTo
  have := Int.emod_lt_of_pos i (show (0 : Int) < (m : Int) by omega)
  have := Int.emod_nonneg i (show (m : Int) ≠ 0 by omega)
  omega
theorem bring_any (i : Int) (m : Nat) (w : World) (_h1 : -9223372036854775808 ≤ i) (_h2 : i ≤ 9223372036854775807) (hm : 0 < m) (hm2 : (m : Int) ≤ 1073741824) :
    Calls Try.prog 19 #[.int .i64 i, .int .i64 m] w fun e w' => e = .returned (.int .i64 (broughtTo i m : Nat)) ∧ w' = w := by
  have hmp : (0 : Int) < (m : Int) := by omega
  have b1 := Int.lt_tmod_of_pos i hmp
  have b2 := Int.tmod_lt_of_pos i hmp
  have m1 := Int.emod_nonneg i (show (m : Int) ≠ 0 by omega)
  have m2 := Int.emod_lt_of_pos i hmp
  have e1 : (0 ≤ i.tmod m ∧ i.tmod m = i % m) ∨ (i.tmod m < 0 ∧ i.tmod m = i % m - m) := by
    by_cases h0 : 0 ≤ i
    · left
      have : i.tmod m = i % m := Int.tmod_eq_emod_of_nonneg h0
      omega
    · have e := Int.tmod_eq_emod (a := i) (b := (m : Int))
      by_cases hd : (m : Int) ∣ i
      · left
        rw [if_pos (.inr hd)] at e
        omega
      · right
        rw [if_neg (by intro h; rcases h with h | h; exact h0 h; exact hd h)] at e
        omega
  have HK := hideIt (show (broughtTo i m : Int) = i % m by unfold broughtTo; omega)
  have hne : ¬ (m : Int) = 0 := by omega
  generalize i % (m : Int) = e at *
  have HE := hideIt e1
  clear e1
  go_enter Try.func19, Try.ntmps19
  go_wp2
  all_goals go_ret
  · exact ⟨ret_int (by have := HK.out; have := HE.out; first | omega | (unfold wrap64; omega)), rfl⟩
  · exact ⟨ret_int (by have := HK.out; have := HE.out; omega), rfl⟩
/-- The filter that is made. -/
def mayN (k : Nat) (n : Int) : Nat := if k = 1 then 1 + 2 * broughtTo n 8 else if k = 2 then 1 + broughtTo n 15 else if k = 3 then 1 + broughtTo n 1000 else if k = 4 then 2 + broughtTo n 7 else 0
def mayC (k n st : Int) : Cf := ⟨broughtTo k 5, mayN (broughtTo k 5) n, 1 + broughtTo st 40⟩
theorem mayC_ok (k n st : Int) : (mayC k n st).Ok := by
  have h5 := broughtTo_lt k (m := 5) (by omega)
  have h40 := broughtTo_lt st (m := 40) (by omega)
  have h8 := broughtTo_lt n (m := 8) (by omega)
  have h15 := broughtTo_lt n (m := 15) (by omega)
  have h1000 := broughtTo_lt n (m := 1000) (by omega)
  have h7 := broughtTo_lt n (m := 7) (by omega)
  refine ⟨?_, ?_, ?_⟩
  · show broughtTo k 5 = 0 ∧ mayN (broughtTo k 5) n = 0 ∨ broughtTo k 5 = 1 ∧ 1 ≤ mayN (broughtTo k 5) n ∧ mayN (broughtTo k 5) n ≤ 15 ∧ mayN (broughtTo k 5) n % 2 = 1 ∨ broughtTo k 5 = 2 ∧ 1 ≤ mayN (broughtTo k 5) n ∧ mayN (broughtTo k 5) n ≤ 15 ∨ broughtTo k 5 = 3 ∧ 1 ≤ mayN (broughtTo k 5) n ∧ mayN (broughtTo k 5) n ≤ 1000 ∨ broughtTo k 5 = 4 ∧ 2 ≤ mayN (broughtTo k 5) n ∧ mayN (broughtTo k 5) n ≤ 8
    rcases (by omega : broughtTo k 5 = 0 ∨ broughtTo k 5 = 1 ∨ broughtTo k 5 = 2 ∨ broughtTo k 5 = 3 ∨ broughtTo k 5 = 4) with h | h | h | h | h
    all_goals
      rw [h]
      simp [mayN]
      try omega
  · show 1 ≤ 1 + broughtTo st 40
    omega
  · show 1 + broughtTo st 40 ≤ 10000
    omega
/-- A step whose reals lie in a row of its own, from block B on. -/
def Stp.Own (w : World) (B : Nat) (x : Stp) : Prop := ORls w B (.slice x.a x.n x.d) x.l
theorem Stp.Own.in_ {w : World} {B : Nat} {x : Stp} (h : x.Own w B) : x.In w := by
  obtain ⟨a, c, e, hr, hz, _⟩ := own_rrow h
  injection e with e1 e2 e3
  unfold Stp.In
  rw [e1, e2, e3]
  exact ⟨hr, hz⟩
theorem Stp.Own.but {S : Nat → Prop} {w w' : World} {B : Nat} {x : Stp} (h : x.Own w B) (b : But S w w') (hn : ∀ k, (Value.slice x.a x.n x.d).ownBlock = some k → ¬ S k) : x.Own w' B := own_but h b hn
theorem Stp.Own.after {w w' : World} {B : Nat} {x : Stp} (h : x.Own w B) (a : After w w') : x.Own w' B := own_after h a
/-- What may has made of the first j. -/
structure Mad (xs : List Stp) (j : Nat) (A : Int) : Prop where
  fine : Fine xs
  len : xs.length = j
  lo : -1 ≤ A
  hi : A ≤ 30 * (j : Int) - 1
  few : j ≤ 60
  eight : ∀ x ∈ xs, x.l.length ≤ 8
  all : ∀ (i : Nat) (x : Stp), xs[i]? = some x → x.tick ≤ A
theorem Mad.nil : Mad [] 0 (-1) := ⟨Fine.nil, rfl, Int.le_refl _, by omega, by omega, (fun x h => by cases h), (fun i x h => by simp at h)⟩
theorem snoc_at {xs : List Stp} {y : Stp} {i : Nat} {x : Stp} (h : (xs ++ [y])[i]? = some x) : (xs[i]? = some x ∧ i < xs.length) ∨ (i = xs.length ∧ x = y) := by
  rcases Nat.lt_or_ge i xs.length with hi | hi
  · rw [List.getElem?_append_left hi] at h
    exact .inl ⟨h, hi⟩
  · rw [List.getElem?_append_right hi] at h
    have h0 : i - xs.length = 0 := by
      rcases Nat.eq_zero_or_pos (i - xs.length) with e | e
      · exact e
      · rw [List.getElem?_eq_none (by simp; omega)] at h; cases h
    rw [h0] at h
    simp at h
    exact .inr ⟨by omega, h.symm⟩
theorem Fine.snoc {xs : List Stp} {y : Stp} (h : Fine xs) (h0 : 0 ≤ y.tick) (h1 : y.tick ≤ 2147483647) (h2 : y.l.length ≤ 64) (h3 : mays y.l = true) (h4 : ∀ (i : Nat) (x : Stp), xs[i]? = some x → x.tick < y.tick) : Fine (xs ++ [y]) := by
  refine ⟨fun i x hx => ?_, fun i x hx => ?_, fun i x hx => ?_, fun i x hx => ?_, fun i x z hx hz => ?_⟩
  · rcases snoc_at hx with ⟨hx, _⟩ | ⟨_, rfl⟩
    · exact h.lo i x hx
    · exact h0
  · rcases snoc_at hx with ⟨hx, _⟩ | ⟨_, rfl⟩
    · exact h.hi i x hx
    · exact h1
  · rcases snoc_at hx with ⟨hx, _⟩ | ⟨_, rfl⟩
    · exact h.few i x hx
    · exact h2
  · rcases snoc_at hx with ⟨hx, _⟩ | ⟨_, rfl⟩
    · exact h.may i x hx
    · exact h3
  · rcases snoc_at hx with ⟨hx', hi⟩ | ⟨hi, _⟩
    · rcases snoc_at hz with ⟨hz', _⟩ | ⟨_, e⟩
      · exact h.up i x z hx' hz'
      · rw [e]; exact h4 i x hx'
    · rcases snoc_at hz with ⟨_, h5⟩ | ⟨h5, _⟩
      · omega
      · omega
theorem Mad.snoc {xs : List Stp} {j : Nat} {A B : Int} (h : Mad xs j A) (h1 : A < B) (h2 : B ≤ A + 30) (hj : j < 60) {a : Option Addr} {n d : Nat} {l : List Rl} (hl : l.length ≤ 8) (hm : mays l = true) : Mad (xs ++ [⟨B, a, n, d, l⟩]) (j + 1) B := by
  have hlo := h.lo
  have hhi := h.hi
  refine ⟨h.fine.snoc (by show 0 ≤ B; omega) (by show B ≤ 2147483647; omega) (by show l.length ≤ 64; omega) hm (fun i x hx => by have := h.all i x hx; show x.tick < B; omega), by simp [h.len], by omega, by omega, by omega, fun x hx => ?_, fun i x hx => ?_⟩
  · rcases List.mem_append.1 hx with hx | hx
    · exact h.eight x hx
    · rw [List.mem_singleton.1 hx]; exact hl
  · rcases snoc_at hx with ⟨hx, _⟩ | ⟨_, rfl⟩
    · have := h.all i x hx; omega
    · exact Int.le_refl _
theorem mk_keep {w3 W w4 : World} {g : Nat} {vL : Value} {rs : List Rl} {o : Obj} (ho : ORls w3 (g + 1) vL rs) (h : w3.heap[g]? = some o) (aW : After w3 W) (hgrow : W.grownBy w4 vL.ownBlock) : w4.heap[g]? = some o :=
  (hgrow.block g (blk_lt (old_blk aW h)) (fun e => by have := (ho.lt g e.symm).1; omega)).trans (old_blk aW h)
/-- A step that is being made lies in block g. -/
structure Mks (wA : World) (g : Nat) (B : Int) (q : Nat) (w : World) (vL : Value) (rs : List Rl) : Prop where
  aft : After wA w
  at0 : w.heap[g]? = some (.cells #[.int .i64 B, vL] 35 (0, 0))
  own : ORls w (g + 1) vL rs
  may : mays rs = true
  few : rs.length ≤ q
/-- What holds between the operations that make the filter. -/
structure MyW (w0 : World) (K T : Nat) (L : Nat → Bool) (u : Nat → Value) (w : World) : Prop where
  ord : L 9 = true → L 8 = true
  aft : After w0 w
  pre : L 8 = false → w.heap.size = w0.heap.size
  al : L 8 = true → w.heap[w0.heap.size]? = some (.cells (if L 9 then #[.int .i64 (K : Int), .int .i64 0, .int .i64 (1 + (T : Int))] else #[.int .i64 0, .int .i64 0, .int .i64 0]) 23 (0, 0))
theorem MyW.keep {w0 : World} {K T : Nat} {k : Nat} {v : Value} {Tb : Tab} (h8 : 8 ≠ k) (h9 : 9 ≠ k) (L : Nat → Bool) (u : Nat → Value) (w : World) (x : MyW w0 K T L u w) : MyW w0 K T (more L k) (Tb.set k v u) w := by
  refine ⟨?_, x.aft, ?_, ?_⟩
  · rw [more_ne L h8, more_ne L h9]; exact x.ord
  · rw [more_ne L h8]; exact x.pre
  · rw [more_ne L h8, more_ne L h9]; exact x.al
theorem run_allocFilter (w : World) : (Instr.alloc 23 true (.tuple #[])).run Try.prog w = .ok (.pointer (some ⟨w.heap.size, 0, none⟩)) (w.alloc (.cells #[.int .i64 0, .int .i64 0, .int .i64 0] 23)) := by
  simp [go_sem]
theorem three_at {w : World} {g : Nat} {T : TypeId} {x y z : Value} (h : w.heap[g]? = some (.cells #[x, y, z] T (0, 0))) : w.cell? ⟨g, 0, none⟩ = some x ∧ w.cell? ⟨g, 1, none⟩ = some y ∧ w.cell? ⟨g, 2, none⟩ = some z ∧ (∀ i, w.frozen? ⟨g, i, none⟩ = false) :=
  ⟨blk_cell h rfl, blk_cell h rfl, blk_cell h rfl, fun i => blk_soft h i⟩
theorem run_storeFilter {w : World} {g : Nat} {x0 y0 z0 : Value} (h : w.heap[g]? = some (.cells #[x0, y0, z0] 23 (0, 0))) (x y z : Int) : ∃ w', (Instr.storeAt 23 (Ptr g) (.agg #[.int .i64 x, .int .i64 y, .int .i64 z])).run Try.prog w = .ok () w' ∧ w'.heap[g]? = some (.cells #[.int .i64 x, .int .i64 y, .int .i64 z] 23 (0, 0)) ∧ But (One g) w w' := by
  have h1 := blk_put h 0 (.int .i64 x)
  have h2 := blk_put h1 1 (.int .i64 y)
  have h3 := blk_put h2 2 (.int .i64 z)
  have c0 := blk_cell h (i := 0) rfl
  have f0 := blk_soft h 0
  have c1 := blk_cell h1 (i := 1) rfl
  have f1 := blk_soft h1 1
  have c2 := blk_cell h2 (i := 2) rfl
  have f2 := blk_soft h2 2
  refine ⟨_, ?_, h3, ((but_one w g 0 _).trans (but_one _ g 1 _)).trans (but_one _ g 2 _)⟩
  simp [go_sem, c0, f0, c1, f1, c2, f2]
theorem fieldF0 (w : World) (b : Nat) : (Instr.fieldAt 23 (.pointer (some ⟨b, 0, none⟩)) 0).run Try.prog w = .ok (.pointer (some ⟨b, 0, none⟩)) w := by
  simp [go_sem]
theorem fieldF2 (w : World) (b : Nat) : (Instr.fieldAt 23 (.pointer (some ⟨b, 0, none⟩)) 2).run Try.prog w = .ok (.pointer (some ⟨b, 2, none⟩)) w := by
  simp [go_sem]
theorem addI (x y : Operand) (n m : Int) (h : IntKind.i64.wrap (n + m) = n + m) (w : World) : (do eqGuard .add 3 x y (.int .i64 n) (.int .i64 m); binOp .add 3 (.int .i64 n) (.int .i64 m) : Sem Value).run Try.prog w = .ok (.int .i64 (n + m)) w := by
  simp [go_sem, eqGuard, h]
theorem buildF (x y : Int) (w : World) : (Instr.build 23 #[(0, .int .i64 x), (2, .int .i64 y)]).run Try.prog w = .ok (.agg #[.int .i64 x, .int .i64 0, .int .i64 y]) w := by
  simp [go_sem]
set_option maxHeartbeats 1000000 in
theorem may_any (w : World) (k n st : Int) (hk : -9223372036854775808 ≤ k ∧ k ≤ 9223372036854775807) (hn : -9223372036854775808 ≤ n ∧ n ≤ 9223372036854775807) (hst : -9223372036854775808 ≤ st ∧ st ≤ 9223372036854775807) (a : Option Addr) (m d : Nat) (zs : List Stp) (hr : SRow w a m zs) (hb : ∀ x ∈ zs, -9223372036854775808 ≤ x.tick ∧ x.tick ≤ 9223372036854775807) :
    Calls Try.prog 9 #[fVal k n st, .slice a m d] w fun e w' => ∃ v xs, e = .returned (.tuple #[fVal (mayC k n st).k (mayC k n st).n (mayC k n st).st, v]) ∧ OSts w' w.heap.size v xs ∧ (∀ x ∈ xs, x.Own w' w.heap.size) ∧ Fine xs ∧ xs.length ≤ 60 ∧ (∀ x ∈ xs, x.l.length ≤ 8) ∧ After w w' := by
  have H5 := hideIt (fun W => bring_any k 5 W hk.1 hk.2 (by omega) (by omega))
  have H40 := hideIt (fun W => bring_any st 40 W hst.1 hst.2 (by omega) (by omega))
  have q5 := broughtTo_lt k (m := 5) (by omega)
  have q40 := broughtTo_lt st (m := 40) (by omega)
  have HC : Hid (mayC k n st = ⟨broughtTo k 5, mayN (broughtTo k 5) n, 1 + broughtTo st 40⟩) := rfl
  generalize mayC k n st = c at *
  generalize broughtTo k 5 = K at *
  generalize broughtTo st 40 = T at *
  have t2 : IntKind.i64.wrap (1 + (T : Int)) = 1 + (T : Int) := IntWalk.i64_in _ (by omega)
  have HR := hideIt (And.intro hr hb)
  have H8 := hideIt (fun W => bring_any n 8 W hn.1 hn.2 (by omega) (by omega))
  have H15 := hideIt (fun W => bring_any n 15 W hn.1 hn.2 (by omega) (by omega))
  have H1000 := hideIt (fun W => bring_any n 1000 W hn.1 hn.2 (by omega) (by omega))
  have H7 := hideIt (fun W => bring_any n 7 W hn.1 hn.2 (by omega) (by omega))
  have p8 := broughtTo_lt n (m := 8) (by omega)
  have p15 := broughtTo_lt n (m := 15) (by omega)
  have p1000 := broughtTo_lt n (m := 1000) (by omega)
  have p7 := broughtTo_lt n (m := 7) (by omega)
  clear hr hb hk hn hst
  go_enter Try.func9, Try.ntmps9
  go_wp2_with fail
  generalize hW0 : World.alloc (World.alloc w _) _ = w0
  have hf0 : w0.heap[w.heap.size]? = some (.cells #[.int .i64 k, .int .i64 n, .int .i64 st] 23 (0, 0)) := by rw [← hW0]; exact nth_blk (After.rfl.alloc _) rfl
  have hr0 : w0.heap[w.heap.size + 1]? = some (.cells #[.int .i64 0, .int .i64 0, .int .i64 0] 23 (0, 0)) := by rw [← hW0]; exact nth_blk After.rfl (by simp)
  have ha0 : After w w0 := by rw [← hW0]; exact (After.rfl.alloc _).alloc _
  have hs0 : w0.heap.size = w.heap.size + 2 := by rw [← hW0]; simp
  have HF := hideIt (And.intro hf0 (And.intro hr0 (And.intro ha0 hs0)))
  clear hW0 hf0 hr0 ha0 hs0
  refine region_inv (by kernel_rfl) (Tab.J (⟨10, fun i => [14, 15, 16, 17, 18, 19, 20, 21, 6, 1009].getD i 0, fun i => ([some (.pointer (some ⟨w.heap.size, 0, none⟩)), some (.int .i64 k), some (.int .i64 (K : Int)), some (.pointer (some ⟨w.heap.size, 2, none⟩)), some (.int .i64 st), some (.int .i64 (T : Int)), some (.int .i64 (1 + (T : Int))), some (.agg #[.int .i64 (K : Int), .int .i64 0, .int .i64 (1 + (T : Int))]), some (Ptr w0.heap.size), none] : List (Option Value)).getD i none, MyW w0 K T⟩ : Tab) _) ⟨rfl, rfl, fun _ _ => rfl, (fun _ _ _ _ h => by cases h), ⟨(fun h => by cases h), After.rfl.draws 1, fun _ => rfl, (fun h => by cases h)⟩⟩ ?_ ?_
  · exact ⟨inv_field rfl rfl rfl rfl rfl rfl rfl rfl rfl (MyW.keep (neB rfl) (neB rfl)) rfl (fun w => fieldF0 w _),
      inv_load rfl rfl rfl rfl rfl rfl rfl rfl rfl (MyW.keep (neB rfl) (neB rfl)) rfl (fun L u W h => loadI (blk_cell (old_blk h.aft HF.out.1) rfl)),
      inv_call rfl rfl rfl rfl rfl rfl rfl rfl (enterP Try.func19 (by kernel_rfl) (by kernel_rfl)) (fun a W L hv hd hl h => by
        rw [show (#[Operand.tmp 15, .const (.int .i64 5)] : Array Operand).map a.eval = #[a.eval (.tmp 15), a.eval (.const (.int .i64 5))] from by simp, hv (.tmp 15) _ rfl]
        refine (H5.out W).mono ?_
        rintro e w2 ⟨rfl, rfl⟩
        exact ⟨_, rfl, (fun v' h' => by cases h'; rfl), MyW.keep (neB rfl) (neB rfl) L _ _ h⟩),
      inv_field rfl rfl rfl rfl rfl rfl rfl rfl rfl (MyW.keep (neB rfl) (neB rfl)) rfl (fun w => fieldF2 w _),
      inv_load rfl rfl rfl rfl rfl rfl rfl rfl rfl (MyW.keep (neB rfl) (neB rfl)) rfl (fun L u W h => loadI (blk_cell (old_blk h.aft HF.out.1) rfl)),
      inv_call rfl rfl rfl rfl rfl rfl rfl rfl (enterP Try.func19 (by kernel_rfl) (by kernel_rfl)) (fun a W L hv hd hl h => by
        rw [show (#[Operand.tmp 18, .const (.int .i64 40)] : Array Operand).map a.eval = #[a.eval (.tmp 18), a.eval (.const (.int .i64 40))] from by simp, hv (.tmp 18) _ rfl]
        refine (H40.out W).mono ?_
        rintro e w2 ⟨rfl, rfl⟩
        exact ⟨_, rfl, (fun v' h' => by cases h'; rfl), MyW.keep (neB rfl) (neB rfl) L _ _ h⟩),
      inv_bin rfl rfl rfl rfl rfl rfl rfl rfl rfl (MyW.keep (neB rfl) (neB rfl)) rfl rfl (addI _ _ _ _ t2),
      inv_val (r := fun a => Instr.build 23 #[(0, a.eval (.tmp 16)), (2, a.eval (.tmp 20))]) rfl rfl rfl rfl rfl rfl rfl rfl (MyW.keep (neB rfl) (neB rfl)) (fun a => by unfold execOp; simp) (fun a W hv => by
        rw [hv (.tmp 16) _ rfl, hv (.tmp 20) _ rfl]
        exact buildF _ _ W),
      inv_gen (r := fun _ => Instr.alloc 23 true (.tuple #[])) rfl rfl rfl rfl rfl rfl rfl (fun a => by unfold execOp; rfl) (fun a W L hv hd hl h => by
        refine ⟨_, _, run_allocFilter W, (fun v' h' => by cases h'; rw [h.pre hl]), ?_, h.aft.alloc _, ?_, ?_⟩
        · intro _; exact more_self L 8
        · rw [more_self]; intro h'; cases h'
        · intro _
          have h9 : L 9 = false := by
            rcases h9 : L 9 with _ | _
            · rfl
            · rw [h.ord h9] at hl; cases hl
          rw [more_ne L (neB rfl), h9, ← h.pre hl]
          exact heap_alloc_new W _),
      inv_store rfl rfl rfl rfl rfl rfl rfl (fun L a W hv hd hl h => by
        have h8 := hd 8 rfl
        have hb := h.al h8
        rw [hl] at hb
        obtain ⟨W', k1, k2, k3⟩ := run_storeFilter hb (K : Int) 0 (1 + (T : Int))
        rw [hv (.tmp 6) _ rfl]
        refine ⟨W', k1, ?_, h.aft.then k3 (fun i hi e => by cases e; omega), ?_, ?_⟩
        · intro _; rw [more_ne L (neB rfl)]; exact h8
        · rw [more_ne L (neB rfl), h8]; intro h'; cases h'
        · intro _; rw [more_self]; exact k2),
      trivial⟩
  intro a7 w7 L7 hL7 J7
  have e7 := J7.fin hL7 rfl
  have hb7 := J7.other.al (hL7 8 (Nat.le_of_ble_eq_true rfl))
  have aw7 := J7.other.aft
  rw [hL7 9 (Nat.le_of_ble_eq_true rfl)] at hb7
  clear J7
  rw [e7]
  clear e7 hL7
  simp only [Tab.puts, List.getD_cons_succ, List.getD_cons_zero, Option.getD_some, Option.getD_none, List.setIfInBounds_toArray, List.set_cons_succ, List.set_cons_zero, List.set_nil]
  have HB := hideIt (And.intro hb7 aw7)
  clear hb7 aw7 a7
  go_upto_region 2 with fail
  rename_i Q1 K1 hK1 K0 hK0
  have HREST : Hid (∀ (v14 v15 v16 v17 v18 v19 v20 v21 v22 v23 v24 v25 v26 v27 v28 v29 v30 v31 v32 v33 v34 v35 v36 v37 v38 v39 v40 v41 v42 v43 v44 v45 v46 v47 v48 v49 v50 v51 v52 : Value) (w1 : World), w1.heap[w0.heap.size]? = some (.cells #[.int .i64 (K : Int), .int .i64 (mayN K n : Nat), .int .i64 (1 + (T : Int))] 23 (0, 0)) → After w0 w1 → K1 ⟨#[fVal k n st, .slice a m d, .pointer (some ⟨w.heap.size, 0, none⟩), undef, .pointer (some ⟨w.heap.size + 1, 0, none⟩), .slice none 0 0, Ptr w0.heap.size, undef, undef, undef, undef, undef, undef, undef, v14, v15, v16, v17, v18, v19, v20, v21, v22, v23, v24, v25, v26, v27, v28, v29, v30, v31, v32, v33, v34, v35, v36, v37, v38, v39, v40, v41, v42, v43, v44, v45, v46, v47, v48, v49, v50, v51, v52, undef, undef, undef, undef, undef, undef, undef, undef, undef, undef, undef, undef, undef, undef, undef, undef, undef, undef, undef, undef, undef, undef, undef, undef, undef, undef, undef, undef, undef, undef, undef, undef, undef, undef, undef, undef, undef, undef, undef, undef, undef, undef, undef, undef, undef, undef, undef, undef, undef, undef, undef, undef, undef, undef, undef, undef, undef, undef, undef, undef, undef, undef, undef, undef, undef, undef, undef, undef], []⟩ w1) := by
    intro v14 v15 v16 v17 v18 v19 v20 v21 v22 v23 v24 v25 v26 v27 v28 v29 v30 v31 v32 v33 v34 v35 v36 v37 v38 v39 v40 v41 v42 v43 v44 v45 v46 v47 v48 v49 v50 v51 v52 w1 hfb aw1
    clear hK0
    apply hK1
    have HFB := hideIt (And.intro hfb aw1)
    clear hfb aw1 HB hK1 p8 p15 p1000 p7 H8 H15 H1000 H7 H5 H40
    go_wp2_with fail
    go_loopw [7, 8, 9] (fun o t i wr => ∃ (j : Nat) (A : Int) (xs : List Stp), j ≤ m ∧ t = .int .i64 A ∧ i = .int .i64 j ∧ Mad xs j A ∧ OSts wr w1.heap.size o xs ∧ (∀ x ∈ xs, x.Own wr w1.heap.size) ∧ After w1 wr) (fun _ _ i _ => 60 - (intOf i).toNat)
    case atStart => exact ⟨0, -1, [], Nat.zero_le _, rfl, rfl, Mad.nil, World.ownsRow_nil _ _ _ _, (fun x h => by cases h), After.rfl⟩
    case round =>
      obtain ⟨j, A, xs, hj, rfl, rfl, mad, hown, hall, af⟩ := hrel
      by_cases hgo : j < m ∧ j < 60
      · obtain ⟨hjm, hj6⟩ := hgo
        have i1 : (j : Int) < (m : Int) := by omega
        have i2 : (j : Int) < 60 := by omega
        obtain ⟨b, off, x, rfl, hbl, hx, k0, k1, hin⟩ := HR.out.1.at_ hjm
        have aw : After w wr := (HF.out.2.2.1.trans HFB.out.2).trans af
        have c0 := (aw.cell hbl _).trans k0
        have hxb := HR.out.2 x (List.mem_of_getElem? hx)
        have HBR := hideIt (fun W => bring_any x.tick 30 W hxb.1 hxb.2 (by omega) (by omega))
        have hbr := broughtTo_lt x.tick (m := 30) (by omega)
        have a1 := mad.lo
        have a2 : A ≤ 1800 := by have := mad.hi; omega
        have HM := hideIt (And.intro mad (And.intro hown (And.intro hall (And.intro af (And.intro aw (And.intro hin (And.intro hbl k1)))))))
        have hlt : b < wr.heap.size := Nat.lt_of_lt_of_le hbl aw.size
        clear mad hown hall af aw hin k0 k1 hxb hx
        generalize broughtTo x.tick 30 = r at *
        obtain ⟨B, hB⟩ : ∃ B, B = A + 1 + (r : Int) := ⟨_, rfl⟩
        have hB' : A + 1 + (r : Int) = B := hB.symm
        have b1 : A < B := by omega
        have b2 : B ≤ A + 30 := by omega
        have w1' : wrap64 (A + 1) = A + 1 := by unfold wrap64; omega
        have w2' : wrap64 (A + 1 + (r : Int)) = B := by rw [hB']; unfold wrap64; omega
        clear hB hbr
        go_wp2_with fail
        refine (HBR.out _).mono ?_
        rintro e w2 ⟨rfl, rfl⟩
        clear HBR c0
        go_wp2_with fail
        go_loopw [11] (fun kk W => ∃ (q : Nat) (vL : Value) (rs : List Rl), kk = .int .i64 q ∧ q ≤ 8 ∧ Mks w2 w2.heap.size B q W vL rs) (fun kk _ => 8 - (intOf kk).toNat)
        case atStart => exact ⟨0, .slice none 0 0, [], rfl, by omega, After.rfl.alloc _, heap_alloc_new _ _, World.ownsRow_nil _ _ _ _, rfl, Nat.le_refl _⟩
        case round =>
          obtain ⟨q, vL, rs, rfl, hq8, mk⟩ := hrel
          obtain ⟨mad, hown, hall, af, aw, hin, hbl', k1⟩ := HM.out
          have awi : After w wr := aw.trans mk.aft
          have cL := (awi.cell hbl' _).trans k1
          have hlt' : b < wr.heap.size := Nat.lt_of_lt_of_le hbl' awi.size
          by_cases hgo : q < x.n ∧ q < 8
          · obtain ⟨hqn, hq⟩ := hgo
            have j1 : (q : Int) < (x.n : Int) := by omega
            have j2 : (q : Int) < 8 := by omega
            obtain ⟨b3, off3, r3, hxa, hb3, hx3, m0, m1, m2⟩ := hin.1.at_ hqn
            have m0' := (awi.cell hb3 _).trans m0
            have m1' := (awi.cell hb3 _).trans m1
            have m2' := (awi.cell hb3 _).trans m2
            have hlt3 : b3 < wr.heap.size := Nat.lt_of_lt_of_le hb3 awi.size
            rw [hxa] at cL
            have HP := hideIt (fun W => L2.packLong_any r3.k r3.m r3.e W)
            unfold L2.plE at HP
            generalize L2.plV r3.k r3.m r3.e = V at *
            have HMk := hideIt (And.intro mk (And.intro awi (And.intro hb3 (And.intro m0 (And.intro m1 (And.intro m2 (And.intro hbl' (And.intro cL hxa))))))))
            have c00 := (blk_cell mk.at0 (i := 1) rfl)
            clear mad hown hall af aw hin mk awi m0 m1 m2 hx3 k1
            rcases hmay : L2.mayB r3.k r3.m r3.e with _ | _
            · rw [hmay, if_neg (by simp)] at HP
              clear hmay
              go_wp2_with (go_at_call 20; refine (HP.out _).mono ?_; rintro e w3 ⟨rfl, ha⟩)
              go_roundw
              case rel =>
                have mk := HMk.out.1
                have a3 := After.of ha
                exact ⟨q + 1, vL, rs, by go_num, by omega, mk.aft.trans a3, old_blk a3 mk.at0, own_after mk.own a3, mk.may, by have := mk.few; omega⟩
              case measure => simp [intOf]; omega
            · rw [hmay, if_pos rfl] at HP
              have HMy := hideIt hmay
              clear hmay
              go_wp2_with (go_at_call 20; refine (HP.out _).mono ?_; rintro e w3 ⟨rfl, ha⟩; have a3 := After.of ha; have n0 := (a3.cell hlt3 _).trans m0'; have n1 := (a3.cell hlt3 _).trans m1'; have n2 := (a3.cell hlt3 _).trans m2'; have nL := (a3.cell hlt' _).trans cL; have hg3 := old_blk a3 HMk.out.1.at0; have ng := blk_cell hg3 (i := 1) rfl; have ns := blk_soft hg3 1; have HG3 := hideIt (And.intro hg3 a3); have hl3 : b3 < w3.heap.size := Nat.lt_of_lt_of_le hlt3 a3.size; have hl4 : b < w3.heap.size := Nat.lt_of_lt_of_le hlt' a3.size; have hl5 : w2.heap.size < w3.heap.size := blk_lt hg3; clear ha a3 hg3)
              obtain ⟨i0, hi0, hz⟩ := Option.map_eq_some_iff.1 Try.infoReal
              simp only [Prod.mk.injEq] at hz
              obtain ⟨hz0, hz1, hz2⟩ := hz
              have HO3 := hideIt (own_after HMk.out.1.own HG3.out.2)
              go_region_law
                (refine step_append_lies _ (by rfl) _ _ _ (by rfl) (w2.heap.size + 1) 37 i0 _ 3 24 Try.underlying33 hi0 hz0 hz1 hz2 rfl (by omega) vL rs.length (rls rs) (by rfl) ((HO3.out.alloc _).drew)
                    ⟨w3.heap.size, 0, none⟩ 1 1 [.int .i64 r3.k, .int .i64 r3.m, .int .i64 r3.e] (by rfl) (by rfl) (World.news_of_block (cs := #[_, _, _]) (t := 37) (fr := (0, 0)) (heap_alloc_new w3 _)) (by simp [Value.oneCell'])
                    (by omega) (by have := HMk.out.1.few; unfold maxLen; omega) (by have := HMk.out.1.few; omega) (by have := HG3.out.2.size; have := blk_lt HMk.out.1.at0; simp; omega) (w3.heap.size + 1) (by simp) ?_; intro gg cap w4 hown1 hgrow hat hlt2; have hg4 := mk_keep HO3.out HG3.out.1 ((After.rfl.alloc _).draws 1) hgrow; have c4 := blk_cell hg4 (i := 1) rfl; have f4 := blk_soft hg4 1; have HW4 := hideIt (And.intro hg4 (And.intro hown1 (And.intro hgrow hat))); clear hg4 hown1 hgrow hat)
              all_goals
                go_wp2_with fail
                go_roundw
                case rel =>
                  obtain ⟨hg4, hown1, hgrow, hat⟩ := HW4.out
                  have mk := HMk.out.1
                  have a3 := HG3.out.2
                  have b4 : But (fun i => vL.ownBlock = some i) w3 w4 := ((After.rfl.alloc _).draws 1).but.then (But.grown But.rfl hgrow (fun k hk _ => hk)) (fun _ _ t => t)
                  have hB4 : But (One w2.heap.size) w4 (w4.setCell ⟨w2.heap.size, 1, none⟩ (.slice (some ⟨gg, 0, none⟩) (rs.length + 1) cap)) := but_one w4 _ 1 _
                  have hof : ∀ i, vL.ownBlock = some i → w2.heap.size + 1 ≤ i := fun i hi => (mk.own.lt i hi).1
                  refine ⟨q + 1, _, rs ++ [r3], by go_num, by omega, ?_, two_set1 hg4 _, ?_, ?_, ?_⟩
                  · exact ((mk.aft.trans a3).then b4 (fun i hi t => by have := hof i t; omega)).then hB4 (fun i hi e => by cases e; omega)
                  · have e : rls rs ++ [Value.int .i64 r3.k, .int .i64 r3.m, .int .i64 r3.e] = rls (rs ++ [r3]) := by rw [rls_append]; rfl
                    rw [e] at hown1
                    have el : (rs ++ [r3]).length = rs.length + 1 := by simp
                    unfold ORls
                    rw [el]
                    exact own_but hown1 hB4 (fun k hk e => by
                      cases e
                      have := (hown1.lt _ hk).1
                      omega)
                  · unfold mays
                    rw [List.all_append]
                    have h1 := mk.may
                    unfold mays at h1
                    rw [h1]
                    simp only [List.all_cons, List.all_nil, Bool.and_true, Bool.true_and]
                    exact HMy.out
                  · have := mk.few
                    simp
                    omega
                case measure => simp [intOf]; omega
          · have hdd : (q < x.n ∧ ¬ q < 8) ∨ ¬ q < x.n := by omega
            have ho2 := own_after hown mk.aft
            have g0 := blk_cell mk.at0 (i := 0) rfl
            have g1 := blk_cell mk.at0 (i := 1) rfl
            have hlg : w2.heap.size < wr.heap.size := blk_lt mk.at0
            obtain ⟨i0, hi0, hz⟩ := Option.map_eq_some_iff.1 Try.infoStep
            simp only [Prod.mk.injEq] at hz
            obtain ⟨hz0, hz1, hz2⟩ := hz
            obtain ⟨la, lc, hvl, _⟩ := own_rrow mk.own
            have HE := hideIt (And.intro mk (And.intro ho2 (And.intro hall (And.intro af (And.intro mad hown)))))
            have hlen : xs.length = j := mad.len
            have hoL : OSts wr w1.heap.size u7 xs := ho2
            rw [hvl] at g1
            clear mad hall af aw hin mk awi k1 hgo ho2 hown
            have HO := hideIt (And.intro hoL hlen)
            clear hoL hlen
            rcases hdd with ⟨e1, e2⟩ | e1
            all_goals
              first | (have f1 : (q : Int) < (x.n : Int) := by omega) | (have f1 : ¬ (q : Int) < (x.n : Int) := by omega)
              try have f2 : ¬ (q : Int) < 8 := by omega
              go_wp2_with (at_builtin; refine wpList_append_own_at _ rfl (.tmp 115) (.tmp 117) 24 rfl w1.heap.size 35 i0 _ 2 32 Try.underlying24 hi0 hz0 hz1 hz2 rfl (by decide) u7 _ (stps xs) rfl (HO.out.1.alloc _) ⟨wr.heap.size, 0, none⟩ 1 1 [.int .i64 B, .slice la rs.length lc] rfl rfl (World.news_of_block (cs := #[_, _]) (t := 35) (fr := (0, 0)) (heap_alloc_new wr _)) (by simp [Value.oneCell']) (by have := HO.out.2; unfold maxLen; omega) (by have := HO.out.2; omega) (by have := HE.out.1.aft.size; have := HE.out.2.2.2.1.size; simp; omega) ?_; intro v8 w8 h1 h2 _ h4; have HV := hideIt (And.intro h1 (And.intro h2 h4)); clear h1 h2 h4)
              go_roundw
              case rel =>
                obtain ⟨mk, ho2, hall, af, mad, hown⟩ := HE.out
                obtain ⟨h1, h2, h4⟩ := HV.out
                have b8 : But (fun i => u7.ownBlock = some i) wr w8 := (After.rfl.alloc _).but.then (But.grown But.rfl h2 (fun k hk _ => hk)) (fun _ _ t => t)
                have hof : ∀ i, u7.ownBlock = some i → w1.heap.size ≤ i := fun i hi => (ho2.lt i hi).1
                have hno : ∀ (v : Value) (zs : List Rl) (B' : Nat), ORls wr B' v zs → ∀ k, v.ownBlock = some k → ¬ u7.ownBlock = some k := fun v zs B' hv k hk e => by
                  obtain ⟨cs, fr, q1⟩ := own_typ hv hk
                  obtain ⟨cs', fr', q2⟩ := own_typ ho2 e
                  rw [q1] at q2
                  simp at q2
                have mkown := mk.own
                rw [hvl] at mkown
                refine ⟨j + 1, B, xs ++ [⟨B, la, rs.length, lc, rs⟩], by omega, rfl, by go_num, mad.snoc b1 b2 hj6 (by have := mk.few; omega) mk.may, ?_, ?_, (af.trans mk.aft).then b8 (fun i hi t => by have := hof i t; omega)⟩
                · have e : stps xs ++ [Value.int .i64 B, .slice la rs.length lc] = stps (xs ++ [⟨B, la, rs.length, lc, rs⟩]) := by rw [stps_append]; rfl
                  rw [e] at h1
                  have el : (xs ++ [(⟨B, la, rs.length, lc, rs⟩ : Stp)]).length = xs.length + 1 := by simp
                  unfold OSts
                  rw [el]
                  exact h1
                · intro y hy
                  rcases List.mem_append.1 hy with hy | hy
                  · exact ((hall y hy).after mk.aft).but b8 (hno _ _ _ ((hall y hy).after mk.aft))
                  · rw [List.mem_singleton.1 hy]
                    have h9 : ORls w8 (w2.heap.size + 1) (.slice la rs.length lc) rs := own_but mkown b8 (hno _ _ _ mkown)
                    exact own_base h9 (fun k hk => by have := (h9.lt k hk).1; have := af.size; omega)
              case measure => simp [intOf]; omega
      · have hdd : (j < m ∧ ¬ j < 60) ∨ ¬ j < m := by omega
        have hfb := old_blk af HFB.out.1
        have hres := old_blk ((HFB.out.2).trans af) HF.out.2.1
        have hlr := blk_lt hres
        have k0 := blk_cell hfb (i := 0) rfl
        have k1 := blk_cell hfb (i := 1) rfl
        have k2 := blk_cell hfb (i := 2) rfl
        have l0 := blk_cell hres (i := 0) rfl
        have l1 := blk_cell hres (i := 1) rfl
        have l2 := blk_cell hres (i := 2) rfl
        have f0 := blk_soft hres 0
        have f1 := blk_soft hres 1
        have f2 := blk_soft hres 2
        have HE := hideIt (And.intro hres (And.intro hown (And.intro hall (And.intro mad (((HF.out.2.2.1).trans HFB.out.2).trans af)))))
        have HEs := hideIt (And.intro HF.out.2.2.1.size (And.intro HFB.out.2.size HF.out.2.2.2))
        clear hown hall mad af hgo hfb hres
        rcases hdd with ⟨e1, e2⟩ | e1
        all_goals
          first | (have g1 : (j : Int) < (m : Int) := by omega) | (have g1 : ¬ (j : Int) < (m : Int) := by omega)
          try have g2 : ¬ (j : Int) < 60 := by omega
          go_wp2_with fail
          obtain ⟨hres, hown, hall, mad, aw⟩ := HE.out
          obtain ⟨s1, s2, s3⟩ := HEs.out
          have hp := blk_put (blk_put (blk_put hres 0 (.int .i64 (K : Int))) 1 (.int .i64 (mayN K n : Nat))) 2 (.int .i64 (1 + (T : Int)))
          have z0 := blk_cell hp (i := 0) rfl
          have z1 := blk_cell hp (i := 1) rfl
          have z2 := blk_cell hp (i := 2) rfl
          have bp : But (One (w.heap.size + 1)) wr (((wr.setCell ⟨w.heap.size + 1, 0, none⟩ (.int .i64 (K : Int))).setCell ⟨w.heap.size + 1, 1, none⟩ (.int .i64 (mayN K n : Nat))).setCell ⟨w.heap.size + 1, 2, none⟩ (.int .i64 (1 + (T : Int)))) := ((but_one wr _ 0 _).trans (but_one _ _ 1 _)).trans (but_one _ _ 2 _)
          have hne : ∀ (k : Nat), w1.heap.size ≤ k → ¬ One (w.heap.size + 1) k := fun k hk e => by cases e; omega
          refine bodyPost_ret (v := .tuple #[.agg #[.int .i64 (K : Int), .int .i64 (mayN K n : Nat), .int .i64 (1 + (T : Int))], u7]) (by simp [results, Try.results9, go_sem, z0, z1, z2]) rfl ⟨u7, by rw [HC.out]; simp, xs, own_base (own_but hown bp (fun k hk => hne k (hown.lt k hk).1)) (fun k hk => by have := (hown.lt k hk).1; omega), fun x hx => own_base ((hall x hx).but bp (fun k hk => hne k ((hall x hx).lt k hk).1)) (fun k hk => by have := ((hall x hx).lt k hk).1; omega), mad.fine, by have := mad.len; have := mad.few; omega, mad.eight, aw.then bp (fun i hi e => by cases e; omega)⟩
  clear hK1
  have hx := HB.out.1
  have k0 := blk_cell hx (i := 0) rfl
  have k1 := blk_cell hx (i := 1) rfl
  have s1 := blk_soft hx 1
  have hf := old_blk HB.out.2 HF.out.1
  have n1 := blk_cell hf (i := 1) rfl
  have hlf := blk_lt hf
  clear hx hf
  rcases (by omega : K = 0 ∨ K = 1 ∨ K = 2 ∨ K = 3 ∨ K = 4) with hK | hK | hK | hK | hK
  · subst hK
    have hm : mayN 0 n = 0 := rfl
    rw [hm] at HREST
    go_wp2_with fail
    exact HREST.out _ _ _ _ _ _ _ _ _ _ _ _ _ _ _ _ _ _ _ _ _ _ _ _ _ _ _ _ _ _ _ _ _ _ _ _ _ _ _ _ HB.out.1 HB.out.2
  · subst hK
    have hm : mayN 1 n = 1 + 2 * broughtTo n 8 := rfl
    have HBR := hideIt H8.out
    rw [hm] at HREST
    generalize broughtTo n 8 = r at *
    clear hm
    go_wp2_with fail
    refine (HBR.out _).mono ?_
    rintro e w2 ⟨rfl, rfl⟩
    go_wp2_with fail
    refine HREST.out _ _ _ _ _ _ _ _ _ _ _ _ _ _ _ _ _ _ _ _ _ _ _ _ _ _ _ _ _ _ _ _ _ _ _ _ _ _ _ _ ?_ (HB.out.2.then (but_one _ _ 1 _) (fun i hi e => by cases e; omega))
    have hp := blk_put HB.out.1 1 (.int .i64 (1 + 2 * (r : Int)))
    refine hp.trans ?_
    simp
  · subst hK
    have hm : mayN 2 n = 1 + broughtTo n 15 := rfl
    have HBR := hideIt H15.out
    rw [hm] at HREST
    generalize broughtTo n 15 = r at *
    clear hm
    go_wp2_with fail
    refine (HBR.out _).mono ?_
    rintro e w2 ⟨rfl, rfl⟩
    go_wp2_with fail
    refine HREST.out _ _ _ _ _ _ _ _ _ _ _ _ _ _ _ _ _ _ _ _ _ _ _ _ _ _ _ _ _ _ _ _ _ _ _ _ _ _ _ _ ?_ (HB.out.2.then (but_one _ _ 1 _) (fun i hi e => by cases e; omega))
    have hp := blk_put HB.out.1 1 (.int .i64 (1 + (r : Int)))
    refine hp.trans ?_
    simp
  · subst hK
    have hm : mayN 3 n = 1 + broughtTo n 1000 := rfl
    have HBR := hideIt H1000.out
    rw [hm] at HREST
    generalize broughtTo n 1000 = r at *
    clear hm
    go_wp2_with fail
    refine (HBR.out _).mono ?_
    rintro e w2 ⟨rfl, rfl⟩
    go_wp2_with fail
    refine HREST.out _ _ _ _ _ _ _ _ _ _ _ _ _ _ _ _ _ _ _ _ _ _ _ _ _ _ _ _ _ _ _ _ _ _ _ _ _ _ _ _ ?_ (HB.out.2.then (but_one _ _ 1 _) (fun i hi e => by cases e; omega))
    have hp := blk_put HB.out.1 1 (.int .i64 (1 + (r : Int)))
    refine hp.trans ?_
    simp
  · subst hK
    have hm : mayN 4 n = 2 + broughtTo n 7 := rfl
    have HBR := hideIt H7.out
    rw [hm] at HREST
    generalize broughtTo n 7 = r at *
    clear hm
    go_wp2_with fail
    refine (HBR.out _).mono ?_
    rintro e w2 ⟨rfl, rfl⟩
    go_wp2_with fail
    refine HREST.out _ _ _ _ _ _ _ _ _ _ _ _ _ _ _ _ _ _ _ _ _ _ _ _ _ _ _ _ _ _ _ _ _ _ _ _ _ _ _ _ ?_ (HB.out.2.then (but_one _ _ 1 _) (fun i hi e => by cases e; omega))
    have hp := blk_put HB.out.1 1 (.int .i64 (2 + (r : Int)))
    refine hp.trans ?_
    simp
end Go.Proofs.Ytgapnimicaopcaa
/-
  What follows of a filter over plain data: what is forgotten, what is as good as unheard, what a plain one reads.
-/
namespace Go.Proofs.Ytgapnimicaopcaa
open Go.RowKit
set_option maxRecDepth 8000
/-- A number, or off. -/
def Rl.rel (r : Rl) : Bool := r.k == 0 || r.k == 2
def Stp.rel (x : Stp) : Bool := x.l.any Rl.rel
theorem may_num {r : Rl} (h : r.may = true) (hk : r.k = 0) : r.num = true := by
  unfold Rl.may at h
  have := L2.mayB_iff.1 h
  unfold Rl.num L2.numB
  rw [hk]
  rcases this with h | h
  · rw [L2.fitL_iff.2 h.2]; rfl
  · omega
theorem num_kind {r : Rl} (h : r.num = true) : r.k = 0 := (L2.num_bd h).1
theorem hear_irrel {c : Cf} {t : Int} {s : Ts} {r : Rl} (hr : r.rel = false) : s.hear c t r = s := by
  unfold Rl.rel at hr
  simp only [Bool.or_eq_false_iff, beq_eq_false_iff_ne] at hr
  unfold Ts.hear
  rw [if_neg (fun h => hr.1 (num_kind h)), if_neg hr.2]
/-- Two that have forgotten all, but for when they heard last. -/
structure Sim (s s' : Ts) : Prop where
  i1 : s.ins = Si.new
  i2 : s'.ins = Si.new
  v1 : s.value = 0
  v2 : s'.value = 0
  k1 : s.known = false
  k2 : s'.known = false
  nx : s.next = s'.next
  l1 : s.lp.last ≤ s.next
  l2 : s'.lp.last ≤ s'.next
theorem hear_rel {c : Cf} {t : Int} {s s' : Ts} {r : Rl} (i : s.ins = s'.ins) (v : s.value = s'.value) (k : s.known = s'.known) (n : s.next = s'.next) (f : s.lp.Fits t) (f' : s'.lp.Fits t) (hm : r.may = true) (hr : r.rel = true) : s.hear c t r = s'.hear c t r := by
  unfold Ts.hear Ts.lap Ts.take
  rw [L13.Ls.hear_yes f, L13.Ls.hear_yes f', L13.Ls.hear_yes f, L13.Ls.hear_yes f', i, v, k, n]
  unfold Rl.rel at hr
  simp only [Bool.or_eq_true, beq_iff_eq] at hr
  rcases hr with h | h
  · rw [if_pos (may_num hm h), if_pos (may_num hm h)]
  · have hn : ¬ r.num = true := fun e => by have := num_kind e; omega
    rw [if_neg hn, if_neg hn, if_pos h, if_pos h]
theorem fold_irrel {c : Cf} {t : Int} : ∀ (l : List Rl) (s : Ts), l.any Rl.rel = false → l.foldl (Ts.hear c t) s = s
  | [], s, _ => rfl
  | r :: l, s, h => by
    simp only [List.any_cons, Bool.or_eq_false_iff] at h
    rw [List.foldl_cons, hear_irrel h.1]
    exact fold_irrel l s h.2
theorem fold_rel {c : Cf} {t : Int} : ∀ (l : List Rl) (s s' : Ts), s.ins = s'.ins → s.value = s'.value → s.known = s'.known → s.next = s'.next → s.lp.Fits t → s'.lp.Fits t → mays l = true → l.any Rl.rel = true → l.foldl (Ts.hear c t) s = l.foldl (Ts.hear c t) s'
  | [], s, s', _, _, _, _, _, _, _, h => by cases h
  | r :: l, s, s', i, v, k, n, f, f', hm, h => by
    unfold mays at hm
    simp only [List.all_cons, Bool.and_eq_true] at hm
    rw [List.foldl_cons, List.foldl_cons]
    rcases hr : r.rel with _ | _
    · rw [hear_irrel hr, hear_irrel hr]
      simp only [List.any_cons, hr, Bool.false_or] at h
      exact fold_rel l s s' i v k n f f' hm.2 h
    · rw [hear_rel i v k n f f' hm.1 hr]
theorem opn_forgot {c : Cf} {t : Int} {s : Ts} (i : s.ins = Si.new) (v : s.value = 0) (k : s.known = false) : s.opn c t = s.goes t := by
  unfold Ts.opn Ts.anew Ts.goes
  rw [i, v, k]
  split <;> rfl
/-- One step further on. -/
theorem Sim.step {c : Cf} {s s' : Ts} (h : Sim s s') {t : Int} (h1 : s.next ≤ t) (h2 : t ≤ 2147483647) {l : List Rl} (hm : mays l = true) :
    (l.any Rl.rel = true → s.step c t l = s'.step c t l ∧ s.read c t l = s'.read c t l) ∧ (l.any Rl.rel = false → Sim (s.step c t l) (s'.step c t l)) := by
  have o1 := opn_forgot (c := c) (t := t) h.i1 h.v1 h.k1
  have o2 := opn_forgot (c := c) (t := t) h.i2 h.v2 h.k2
  have n1 := h.l1
  have n2 := h.l2
  have nn := h.nx
  refine ⟨fun ha => ?_, fun ha => ?_⟩
  · have e : s.hears c t l = s'.hears c t l := by
      unfold Ts.hears
      rw [o1, o2]
      exact fold_rel l _ _ (h.i1.trans h.i2.symm) (h.v1.trans h.v2.symm) (h.k1.trans h.k2.symm) rfl ⟨by show s.lp.last ≤ t; omega, h2⟩ ⟨by show s'.lp.last ≤ t; omega, h2⟩ hm ha
    unfold Ts.read Ts.step
    rw [e]
    exact ⟨rfl, rfl⟩
  · have e1 : s.hears c t l = s.goes t := by unfold Ts.hears; rw [o1, fold_irrel _ _ ha]
    have e2 : s'.hears c t l = s'.goes t := by unfold Ts.hears; rw [o2, fold_irrel _ _ ha]
    have g1 : s.step c t l = s.goes t := by
      unfold Ts.step Ts.shut
      rw [e1]
      split
      · unfold Ts.anew Ts.goes; rw [h.i1, h.v1, h.k1]
      · rfl
    have g2 : s'.step c t l = s'.goes t := by
      unfold Ts.step Ts.shut
      rw [e2]
      split
      · unfold Ts.anew Ts.goes; rw [h.i2, h.v2, h.k2]
      · rfl
    rw [g1, g2]
    exact ⟨h.i1, h.i2, h.v1, h.v2, h.k1, h.k2, rfl, by show s.lp.last ≤ t + 1; omega, by show s'.lp.last ≤ t + 1; omega⟩
theorem hear_last {c : Cf} {t : Int} {s : Ts} {r : Rl} (h : s.lp.last ≤ t) : (s.hear c t r).lp.last ≤ t := by
  have e : ∀ o, (s.lap t o).lp.last ≤ t := fun o => by
    show (s.lp.hear t o).last ≤ t
    unfold L13.Ls.hear
    split
    · exact Int.le_refl _
    · exact h
  unfold Ts.hear
  split
  · exact e false
  · split
    · exact e true
    · exact h
theorem fold_last {c : Cf} {t : Int} : ∀ (l : List Rl) (s : Ts), s.lp.last ≤ t → (l.foldl (Ts.hear c t) s).lp.last ≤ t
  | [], _, h => h
  | _r :: l, _s, h => fold_last l _ (hear_last h)
theorem hears_last {c : Cf} {t : Int} {s : Ts} {l : List Rl} (h : s.lp.last ≤ t) : (s.hears c t l).lp.last ≤ t := by
  unfold Ts.hears
  refine fold_last l _ ?_
  unfold Ts.opn
  split <;> exact h
theorem step_last {c : Cf} {t : Int} {s : Ts} {l : List Rl} (h : s.lp.last ≤ t) : (s.step c t l).lp.last ≤ t := by
  unfold Ts.step Ts.shut
  split <;> exact hears_last h
theorem run_last {c : Cf} {xs : List Stp} (hf : Fine xs) : ∀ j, j ≤ xs.length → (Ts.new.run c (xs.take j)).lp.last ≤ (Ts.new.run c (xs.take j)).next := by
  intro j
  induction j with
  | zero => intro _; exact Int.le_refl _
  | succ j ih =>
    intro hj
    have hx : xs[j]? = some xs[j] := List.getElem?_eq_getElem (by omega)
    have h1 := ih (by omega)
    have h2 := hf.next c hx
    rw [Ts.run_succ c _ hx, Ts.step_next]
    have := step_last (c := c) (l := xs[j].l) (Int.le_trans h1 h2)
    omega
theorem rd_state {x : Int} {s : Ts} (h : (s.rd x).s = 3 ∨ (s.rd x).s = 4) : x = 3 ∨ x = 4 := by
  unfold Ts.rd at h
  split at h
  · exact h
  · split at h
    · rcases h with h | h <;> cases h
    · exact h
/-- Stale or off: all is forgotten. -/
theorem forgot {c : Cf} {t : Int} {s : Ts} {l : List Rl} (h : (s.read c t l).s = 3 ∨ (s.read c t l).s = 4) : (s.step c t l).ins = Si.new ∧ (s.step c t l).value = 0 ∧ (s.step c t l).known = false := by
  have hx := rd_state h
  unfold Ts.step Ts.shut
  rw [if_pos hx]
  exact ⟨rfl, rfl, rfl⟩
theorem off_first {c : Cf} {t : Int} (_h0 : 0 ≤ t) (_h1 : t ≤ 2147483647) : (Ts.new.step c t [⟨2, 0, 0⟩]).ins = Si.new ∧ (Ts.new.step c t [⟨2, 0, 0⟩]).value = 0 ∧ (Ts.new.step c t [⟨2, 0, 0⟩]).known = false := by
  have o : Ts.new.opn c t = Ts.new.goes t := opn_forgot rfl rfl rfl
  have hn : ¬ (⟨2, 0, 0⟩ : Rl).num = true := by decide
  have e : Ts.new.hears c t [⟨2, 0, 0⟩] = (Ts.new.goes t).lap t true := by
    unfold Ts.hears
    rw [o, List.foldl_cons, List.foldl_nil]
    unfold Ts.hear
    rw [if_neg hn, if_pos rfl]
  unfold Ts.step Ts.shut
  rw [e]
  split
  · exact ⟨rfl, rfl, rfl⟩
  · exact ⟨rfl, rfl, rfl⟩
theorem Fine.cons {y : Stp} {zs : List Stp} (h : Fine zs) (h0 : 0 ≤ y.tick) (h1 : y.tick ≤ 2147483647) (h2 : y.l.length ≤ 64) (h3 : mays y.l = true) (h4 : ∀ z, zs[0]? = some z → y.tick < z.tick) : Fine (y :: zs) := by
  refine ⟨fun i x hx => ?_, fun i x hx => ?_, fun i x hx => ?_, fun i x hx => ?_, fun i x z hx hz => ?_⟩
  all_goals
    cases i with
    | zero => ?_
    | succ i => ?_
  · simp at hx; subst hx; exact h0
  · exact h.lo i x (by simpa using hx)
  · simp at hx; subst hx; exact h1
  · exact h.hi i x (by simpa using hx)
  · simp at hx; subst hx; exact h2
  · exact h.few i x (by simpa using hx)
  · simp at hx; subst hx; exact h3
  · exact h.may i x (by simpa using hx)
  · simp at hx; subst hx; exact h4 z (by simpa using hz)
  · exact h.up i x z (by simpa using hx) (by simpa using hz)
/-- The list that begins with off, and goes on as the other does. -/
theorem alone_fine {xs : List Stp} (hf : Fine xs) {i : Nat} {x y : Stp} (hx : xs[i]? = some x) (hy : y.tick = x.tick) (hl : y.l = [⟨2, 0, 0⟩]) : Fine (y :: xs.drop (i + 1)) :=
  (hf.drop (i + 1)).cons (by rw [hy]; exact hf.lo i x hx) (by rw [hy]; exact hf.hi i x hx) (by rw [hl]; decide) (by rw [hl]; rfl) (fun z hz => by rw [List.getElem?_drop] at hz; rw [hy]; exact hf.up i x z hx hz)
theorem forgets {c : Cf} {xs : List Stp} (hf : Fine xs) {i : Nat} {x y : Stp} (hx : xs[i]? = some x) (hs : ((Ts.new.run c (xs.take i)).read c x.tick x.l).s = 3 ∨ ((Ts.new.run c (xs.take i)).read c x.tick x.l).s = 4) (hy : y.tick = x.tick) (hl : y.l = [⟨2, 0, 0⟩]) :
    ∀ m, i + 1 + m ≤ xs.length → (((xs.drop (i + 1)).take m).any Stp.rel = true → Ts.new.run c (xs.take (i + 1 + m)) = Ts.new.run c ((y :: xs.drop (i + 1)).take (m + 1))) ∧ (((xs.drop (i + 1)).take m).any Stp.rel = false → Sim (Ts.new.run c (xs.take (i + 1 + m))) (Ts.new.run c ((y :: xs.drop (i + 1)).take (m + 1)))) := by
  have ha := alone_fine hf hx hy hl
  intro m
  induction m with
  | zero =>
    intro hm
    refine ⟨(fun h => by simp at h), fun _ => ?_⟩
    have e1 : Ts.new.run c (xs.take (i + 1 + 0)) = (Ts.new.run c (xs.take i)).step c x.tick x.l := Ts.run_succ c _ hx
    have e2 : Ts.new.run c ((y :: xs.drop (i + 1)).take (0 + 1)) = Ts.new.step c y.tick y.l := rfl
    have f1 := forgot hs
    have f2 := off_first (c := c) (t := y.tick) (by rw [hy]; exact hf.lo i x hx) (by rw [hy]; exact hf.hi i x hx)
    rw [← hl] at f2
    have l1 := run_last (c := c) hf (i + 1) (by omega)
    have l2 := run_last (c := c) ha 1 (by simp)
    rw [Ts.run_succ c _ hx] at l1
    have l2' : (Ts.new.step c y.tick y.l).lp.last ≤ (Ts.new.step c y.tick y.l).next := l2
    rw [e1, e2]
    exact ⟨f1.1, f2.1, f1.2.1, f2.2.1, f1.2.2, f2.2.2, by rw [Ts.step_next, Ts.step_next, hy], l1, l2'⟩
  | succ m ih =>
    intro hm
    obtain ⟨ih1, ih2⟩ := ih (by omega)
    have hz : xs[i + 1 + m]? = some xs[i + 1 + m] := List.getElem?_eq_getElem (by omega)
    have hz' : (y :: xs.drop (i + 1))[m + 1]? = some xs[i + 1 + m] := by
      rw [List.getElem?_cons_succ, List.getElem?_drop]; exact hz
    have hzd : (xs.drop (i + 1))[m]? = some xs[i + 1 + m] := by rw [List.getElem?_drop]; exact hz
    have e1 := Ts.run_succ c Ts.new hz
    have e2 := Ts.run_succ c Ts.new hz'
    have et : (xs.drop (i + 1)).take (m + 1) = (xs.drop (i + 1)).take m ++ [xs[i + 1 + m]] := take_stp hzd
    have ea : ((xs.drop (i + 1)).take (m + 1)).any Stp.rel = (((xs.drop (i + 1)).take m).any Stp.rel || (xs[i + 1 + m]).rel) := by rw [et, List.any_append]; simp
    rw [show i + 1 + (m + 1) = i + 1 + m + 1 by omega, e1, e2, ea]
    rcases h1 : ((xs.drop (i + 1)).take m).any Stp.rel with _ | _
    · have sm := ih2 h1
      have st := sm.step (c := c) (hf.next c hz) (hf.hi _ _ hz) (hf.may _ _ hz)
      refine ⟨fun h => (st.1 (by rw [Bool.false_or] at h; exact h)).1, fun h => st.2 (by rw [Bool.false_or] at h; exact h)⟩
    · rw [ih1 h1]
      exact ⟨fun _ => rfl, fun h => by simp at h⟩
/-- What is read behind it. -/
theorem forgets_read {c : Cf} {xs : List Stp} (hf : Fine xs) {i : Nat} {x y z : Stp} (hx : xs[i]? = some x) (hs : ((Ts.new.run c (xs.take i)).read c x.tick x.l).s = 3 ∨ ((Ts.new.run c (xs.take i)).read c x.tick x.l).s = 4) (hy : y.tick = x.tick) (hl : y.l = [⟨2, 0, 0⟩]) {m : Nat} (hz : xs[i + 1 + m]? = some z) (ha : ((xs.drop (i + 1)).take (m + 1)).any Stp.rel = true) :
    (Ts.new.outs c xs)[i + 1 + m]? = (Ts.new.outs c (y :: xs.drop (i + 1)))[m + 1]? := by
  have hlt : i + 1 + m < xs.length := by
    rcases Nat.lt_or_ge (i + 1 + m) xs.length with h' | h'
    · exact h'
    · rw [List.getElem?_eq_none h'] at hz; cases hz
  have hz' : (y :: xs.drop (i + 1))[m + 1]? = some z := by
    rw [List.getElem?_cons_succ, List.getElem?_drop]; exact hz
  have hzd : (xs.drop (i + 1))[m]? = some z := by rw [List.getElem?_drop]; exact hz
  rw [Ts.outs_at c Ts.new hz, Ts.outs_at c Ts.new hz']
  obtain ⟨ih1, ih2⟩ := forgets hf hx hs hy hl m (by omega)
  have et : (xs.drop (i + 1)).take (m + 1) = (xs.drop (i + 1)).take m ++ [z] := take_stp hzd
  rw [et, List.any_append] at ha
  rcases h1 : ((xs.drop (i + 1)).take m).any Stp.rel with _ | _
  · have st := (ih2 h1).step (c := c) (hf.next c hz) (hf.hi _ _ hz) (hf.may _ _ hz)
    rw [(st.1 (by rw [h1] at ha; simpa [Stp.rel] using ha)).2]
  · rw [ih1 h1]
end Go.Proofs.Ytgapnimicaopcaa
