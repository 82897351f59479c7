/-
  The statements' helpers: Bring, EqInts, stands, works.
-/
import Derived.Test.YtnjdhnoippifaaaLpA
namespace Go.Proofs.Ytnjdhnoippifaaa
open Go.RowKit
set_option maxRecDepth 8000
def broughtTo (i : Int) (m : Nat) : Nat := (i % (m : Int)).toNat
theorem broughtTo_lt (i : Int) {m : Nat} (h : 0 < m) : broughtTo i m < m := by
  unfold broughtTo
  have := Int.emod_lt_of_pos i (show (0 : Int) < (m : Int) by omega)
  have := Int.emod_nonneg i (show (m : Int) ≠ 0 by omega)
  omega
theorem bring_any (i : Int) (m : Nat) (w : World) (_h1 : -9223372036854775808 ≤ i) (_h2 : i ≤ 9223372036854775807) (hm : 0 < m) (hm2 : (m : Int) ≤ 1073741824) :
    Calls Try.prog 15 #[.int .i64 i, .int .i64 m] w fun e w' => e = .returned (.int .i64 (broughtTo i m : Nat)) ∧ w' = w := by
  have hmp : (0 : Int) < (m : Int) := by omega
  have b1 := Int.lt_tmod_of_pos i hmp
  have b2 := Int.tmod_lt_of_pos i hmp
  have m1 := Int.emod_nonneg i (show (m : Int) ≠ 0 by omega)
  have m2 := Int.emod_lt_of_pos i hmp
  have e1 : (0 ≤ i.tmod m ∧ i.tmod m = i % m) ∨ (i.tmod m < 0 ∧ i.tmod m = i % m - m) := by
    by_cases h0 : 0 ≤ i
    · left
      have : i.tmod m = i % m := Int.tmod_eq_emod_of_nonneg h0
      omega
    · have e := Int.tmod_eq_emod (a := i) (b := (m : Int))
      by_cases hd : (m : Int) ∣ i
      · left
        rw [if_pos (.inr hd)] at e
        omega
      · right
        rw [if_neg (by intro h; rcases h with h | h; exact h0 h; exact hd h)] at e
        omega
  have HK := hideIt (show (broughtTo i m : Int) = i % m by unfold broughtTo; omega)
  have hne : ¬ (m : Int) = 0 := by omega
  generalize i % (m : Int) = e at *
  have HE := hideIt e1
  clear e1
  go_enter Try.func15, Try.ntmps15
  go_wp2
  all_goals go_ret
  · exact ⟨ret_int (by have := HK.out; have := HE.out; first | omega | (unfold wrap64; omega)), rfl⟩
  · exact ⟨ret_int (by have := HK.out; have := HE.out; omega), rfl⟩
theorem IRow.cellAt {w : World} {a : Option Addr} {n : Nat} {zs : List Int} (h : IRow w a n zs) {i : Nat} (hi : i < n) : ∃ b off, a = some ⟨b, off, none⟩ ∧ b < w.heap.size ∧ w.cell? ⟨b, off + i, none⟩ = some (.int .i64 (zs.getD i 0)) := h.2 i hi
set_option maxHeartbeats 1000000 in
theorem eqInts_same (w : World) (a a' : Option Addr) (n c c' : Nat) (xs : List Int) (hx : IRow w a n xs) (hy : IRow w a' n xs) (hn : n ≤ 17592186044416) :
    Calls Try.prog 17 #[.slice a n c, .slice a' n c'] w fun e w' => e = .returned (.bool true) ∧ After w w' := by
  have HX := hideIt hx
  have HY := hideIt hy
  have hne : ((n : Int) != (n : Int)) = false := by simp
  have hn' : (n : Int) ≤ 17592186044416 := by omega
  clear hx hy
  go_enter Try.func17, Try.ntmps17
  go_wp2_with fail
  go_loopw [5] (fun i wr => ∃ j : Nat, j ≤ n ∧ i = .int .i64 j ∧ After w wr) (fun i _ => n - (intOf i).toNat)
  case atStart => exact ⟨0, Nat.zero_le _, rfl, After.rfl⟩
  case round =>
    obtain ⟨j, hj, rfl, af⟩ := hrel
    by_cases hjn : j < n
    · have i1 : (j : Int) < (n : Int) := by omega
      obtain ⟨b, off, rfl, hb, e1⟩ := (HX.out.after af).cellAt hjn
      obtain ⟨b', off', rfl, hb', e2⟩ := (HY.out.after af).cellAt hjn
      have AF := hideIt af
      clear af
      generalize xs.getD j 0 = x at *
      have hb : (x != x) = false := by simp
      go_wp2
      go_region
      go_wp2
      go_roundw
      case rel => exact ⟨j + 1, by omega, by go_num, But.drew AF.out⟩
      case measure => simp [intOf]; omega
    · have i1 : ¬ (j : Int) < (n : Int) := by omega
      have AF := hideIt af
      clear af
      go_wp2
      go_ret
      exact ⟨rfl, AF.out⟩
/-- What State answers of v, from w on. -/
def Says (w : World) (v : Value) (A E : Int → Int) : Prop := ∀ W, After w W → ∀ t, Calls Try.prog 12 #[v, .int .i64 t] W fun e w' => e = .returned (.tuple #[.int .i64 (A t), .int .i64 (E t)]) ∧ w' = W
/-- Which errors there are. -/
def Errs (E : Int → Int) : Prop := ∀ t, E t = 0 ∨ E t = 1 ∨ E t = 9
theorem says_of {w : World} {p n : Nat} {s : Ls} (x : LpX w p n s) : Says w (Ptr p) (s.ans n) s.err := fun _ h t => lpState_any (x.after h) t
theorem errs_of (s : Ls) : Errs s.err := fun t => by
  by_cases h : s.Fits t
  · exact .inl (Ls.err_yes h)
  · exact .inr (.inr (Ls.err_no h))
theorem says_nil (w : World) : Says w (.pointer none) (fun _ => 0) (fun _ => 1) := fun W _ t => lpState_none (lpNone_nil W) t
theorem says_zero {w : World} {p : Nat} {x y z : Value} (h : w.heap[p]? = some (.cells #[.int .i64 0, x, y, z] 43 (0, 0))) : Says w (Ptr p) (fun _ => 0) (fun _ => 1) := fun _W a t => lpState_none (lpNone_zero ((a.block p (blk_lt h) (fun t => t)).trans h)) t
theorem errs_one : Errs (fun _ => 1) := fun _ => .inr (.inl rfl)
def tell (A E : Int → Int) (t : Int) : Int := if E t = 0 then A t else 10 + E t
theorem tells {A E : Int → Int} (h : Errs E) (t : Int) : (E t = 0 ∧ A t = tell A E t) ∨ (E t = 1 ∧ 11 = tell A E t) ∨ (E t = 9 ∧ 19 = tell A E t) := by
  unfold tell
  rcases h t with e | e | e
  · exact .inl ⟨e, by rw [if_pos e]⟩
  · exact .inr (.inl ⟨e, by rw [e]; rfl⟩)
  · exact .inr (.inr ⟨e, by rw [e]; rfl⟩)
/-- What is told of the first ticks. -/
def tlds (A E : Int → Int) (zs : List Int) (j : Nat) : List Int := (zs.take j).map (tell A E)
theorem told_snoc (A E : Int → Int) {zs : List Int} {j : Nat} (h : j < zs.length) : tlds A E zs (j + 1) = tlds A E zs j ++ [tell A E (zs.getD j 0)] := by
  unfold tlds
  rw [List.take_succ_eq_append_getElem h, List.map_append]
  simp [h]
set_option maxHeartbeats 1000000 in
theorem stands_any (w : World) (v : Value) (A E : Int → Int) (hs : Says w v A E) (he : Errs E) (a : Option Addr) (k c : Nat) (zs : List Int) (hr : IRow w a k zs) (hk : k ≤ 17592186043904) :
    Calls Try.prog 18 #[v, .slice a k c] w fun e w' => ∃ u, e = .returned u ∧ OInts w' w.heap.size u (tlds A E zs k) ∧ After w w' := by
  have hlen := hr.1
  have HR := hideIt hr
  have HL := hideIt hlen
  have HSA := hideIt hs
  have HEE := hideIt he
  have k0 : (k : Int) ≤ 17592186043904 := by omega
  clear hr hlen hs he
  go_enter Try.func18, Try.ntmps18
  go_wp2_with fail
  go_loopw [5, 6] (fun o i wr => ∃ (j : Nat), j ≤ k ∧ i = .int .i64 j ∧ OInts wr w.heap.size o (tlds A E zs j) ∧ After w wr) (fun _ i _ => k - (intOf i).toNat)
  case atStart => exact ⟨0, Nat.zero_le _, rfl, own_nil _ _, After.rfl⟩
  case round =>
    obtain ⟨j, hj, rfl, hown, af⟩ := hrel
    by_cases hjk : j < k
    · have i1 : (j : Int) < (k : Int) := by omega
      obtain ⟨b, off, rfl, hb, e1⟩ := (HR.out.after af).cellAt hjk
      have hzl : j < zs.length := by have := HL.out; omega
      have HP := hideIt (HSA.out _ af (zs.getD j 0))
      have HS := hideIt (And.intro hown af)
      have HT := hideIt (told_snoc A E hzl)
      have HZ := hideIt (show (tlds A E zs j).length + 1 ≤ 17592186044416 by unfold tlds; rw [List.length_map, List.length_take]; omega)
      have hy := tells (A := A) HEE.out (zs.getD j 0)
      clear hown af hzl
      generalize zs.getD j 0 = z at *
      generalize tell A E z = y at *
      generalize E z = ee at *
      generalize A z = aa at *
      rcases hy with ⟨rfl, rfl⟩ | ⟨rfl, rfl⟩ | ⟨rfl, rfl⟩
      · go_wp2_with fail
        refine HP.out.mono ?_
        rintro e w2 ⟨rfl, rfl⟩
        clear HP
        go_wp2_with (at_builtin; refine app_ints rfl (.tmp 28) (.tmp 30) rfl w.heap.size _ (tlds A E zs j) rfl (own_after HS.out.1 (After.rfl.alloc _)) (some ⟨w2.heap.size, 0, none⟩) 1 1 [aa] rfl (lit_irow (heap_alloc_new w2 _) rfl rfl) (fun h => by cases h) HZ.out (Nat.le_trans HS.out.2.size ((After.rfl.alloc _).size)) ?_)
        intro v3 w3 o3 b3
        rw [HT.out.symm] at o3
        have b4 : But (From w.heap.size) w2 w3 := (After.rfl.alloc _).but.then b3 (fun i hi t => (own_lt HS.out.1 t).1)
        have HF := hideIt (And.intro o3 (HS.out.2.then b4 (fun i hi t => by have : w.heap.size ≤ i := t; omega)))
        clear o3 b3 b4 HS
        go_wp2
        go_roundw
        case rel => exact ⟨j + 1, by omega, by go_num, HF.out.1, HF.out.2⟩
        case measure => simp [intOf]; omega
      · go_wp2_with fail
        refine HP.out.mono ?_
        rintro e w2 ⟨rfl, rfl⟩
        clear HP
        go_wp2_with (at_builtin; refine app_ints rfl (.tmp 28) (.tmp 30) rfl w.heap.size _ (tlds A E zs j) rfl (own_after HS.out.1 (After.rfl.alloc _)) (some ⟨w2.heap.size, 0, none⟩) 1 1 [11] rfl (lit_irow (heap_alloc_new w2 _) rfl rfl) (fun h => by cases h) HZ.out (Nat.le_trans HS.out.2.size ((After.rfl.alloc _).size)) ?_)
        intro v3 w3 o3 b3
        rw [HT.out.symm] at o3
        have b4 : But (From w.heap.size) w2 w3 := (After.rfl.alloc _).but.then b3 (fun i hi t => (own_lt HS.out.1 t).1)
        have HF := hideIt (And.intro o3 (HS.out.2.then b4 (fun i hi t => by have : w.heap.size ≤ i := t; omega)))
        clear o3 b3 b4 HS
        go_wp2
        go_roundw
        case rel => exact ⟨j + 1, by omega, by go_num, HF.out.1, HF.out.2⟩
        case measure => simp [intOf]; omega
      · go_wp2_with fail
        refine HP.out.mono ?_
        rintro e w2 ⟨rfl, rfl⟩
        clear HP
        go_wp2_with (at_builtin; refine app_ints rfl (.tmp 28) (.tmp 30) rfl w.heap.size _ (tlds A E zs j) rfl (own_after HS.out.1 (After.rfl.alloc _)) (some ⟨w2.heap.size, 0, none⟩) 1 1 [19] rfl (lit_irow (heap_alloc_new w2 _) rfl rfl) (fun h => by cases h) HZ.out (Nat.le_trans HS.out.2.size ((After.rfl.alloc _).size)) ?_)
        intro v3 w3 o3 b3
        rw [HT.out.symm] at o3
        have b4 : But (From w.heap.size) w2 w3 := (After.rfl.alloc _).but.then b3 (fun i hi t => (own_lt HS.out.1 t).1)
        have HF := hideIt (And.intro o3 (HS.out.2.then b4 (fun i hi t => by have : w.heap.size ≤ i := t; omega)))
        clear o3 b3 b4 HS
        go_wp2
        go_roundw
        case rel => exact ⟨j + 1, by omega, by go_num, HF.out.1, HF.out.2⟩
        case measure => simp [intOf]; omega
    · obtain rfl : j = k := by omega
      have i1 : ¬ (j : Int) < (j : Int) := by omega
      have HF := hideIt (And.intro hown af)
      clear hown af
      go_wp2
      go_ret
      exact ⟨_, rfl, HF.out⟩
theorem stands_lit {w : World} {v : Value} {A E : Int → Int} (hs : Says w v A E) (he : Errs E) (cs : Array Value) (xs ys : List Int) (k : Nat) (hz : cs.toList = i64s xs) (hk : k = xs.length) (hy : xs.map (tell A E) = ys) (hb : k ≤ 100) :
    Calls Try.prog 18 #[v, .slice (some ⟨w.heap.size, 0, none⟩) k k] (w.alloc (.cells cs 3)) fun e w' => ∃ a c, e = .returned (.slice a k c) ∧ IRow w' a k ys ∧ After w w' := by
  have hrow : IRow (w.alloc (.cells cs 3)) (some ⟨w.heap.size, 0, none⟩) k xs := lit_irow (heap_alloc_new w _) hz hk
  refine (stands_any _ v A E (fun W h => hs W ((After.rfl.alloc _).trans h)) he _ k k _ hrow (by omega)).mono ?_
  rintro e w2 ⟨u, rfl, own, a2⟩
  have et : xs.take k = xs := List.take_of_length_le (by omega)
  unfold tlds at own
  rw [et, hy] at own
  have el : ys.length = k := by rw [← hy, List.length_map, hk]
  obtain ⟨a, c, rfl, ir, -, -, -⟩ := own_irow own
  rw [el] at ir ⊢
  exact ⟨a, c, rfl, ir, (After.rfl.alloc _).trans a2⟩
theorem eq_lit {w : World} {a : Option Addr} {c : Nat} (cs : Array Value) (ys : List Int) (k : Nat) (hz : cs.toList = i64s ys) (hk : k = ys.length) (ir : IRow w a k ys) (hb : k ≤ 17592186044416) :
    Calls Try.prog 17 #[.slice a k c, .slice (some ⟨w.heap.size, 0, none⟩) k k] (w.alloc (.cells cs 3)) fun e w' => e = .returned (.bool true) ∧ After w w' := by
  have hrow : IRow (w.alloc (.cells cs 3)) (some ⟨w.heap.size, 0, none⟩) k ys := lit_irow (heap_alloc_new w _) hz hk
  refine (eqInts_same _ _ _ k c k _ (ir.after (After.rfl.alloc _)) hrow (by omega)).mono ?_
  rintro e w2 ⟨rfl, a2⟩
  exact ⟨rfl, (After.rfl.alloc _).trans a2⟩
theorem lpHeard_lit {w : World} {p n : Nat} {s : Ls} (x : LpX w p n s) (t : Int) (o : Bool) (s' : Ls) (E : Int) (hE : s.err t = E) (hs : s.hear t o = s') : Calls Try.prog 10 #[Ptr p, .int .i64 t, .bool o] w fun e w' => e = .returned (.int .i64 E) ∧ LpX w' p n s' ∧ But (One p) w w' := by
  subst hE hs
  exact lpHeard_any x t o
/-- One that was made behind w, and what was heard. -/
structure Wk (w W : World) (p n : Nat) (s : Ls) : Prop where
  lp : LpX W p n s
  aft : After w W
  wp : w.heap.size ≤ p
theorem Wk.after {w W W' : World} {p n : Nat} {s : Ls} (x : Wk w W p n s) (a : After W W') : Wk w W' p n s := ⟨x.lp.after a, x.aft.trans a, x.wp⟩
theorem Wk.hear {w W : World} {p n : Nat} {s : Ls} (x : Wk w W p n s) (t : Int) (o : Bool) (s' : Ls) (E : Int) (hE : s.err t = E) (hs : s.hear t o = s') : Calls Try.prog 10 #[Ptr p, .int .i64 t, .bool o] W fun e w' => e = .returned (.int .i64 E) ∧ Wk w w' p n s' :=
  (lpHeard_lit x.lp t o s' E hE hs).mono (fun _ _ q => ⟨q.1, q.2.1, x.aft.then q.2.2 (fun i hi t => by have : i = p := t; have := x.wp; omega), x.wp⟩)
set_option maxHeartbeats 2000000 in
theorem works_any (w : World) : Calls Try.prog 14 #[] w fun e w' => e = .returned (.bool true) ∧ After w w' := by
  have HN := hideIt (lpNew_ok w 3 (by unfold May; omega))
  have x0 : Wk w (w.alloc (.cells #[.int .i64 3, .bool false, .bool false, .int .i64 0] 43)) w.heap.size 3 Ls.new := ⟨lp_new (heap_alloc_new w _) (by omega) (by omega), After.rfl.alloc _, Nat.le_refl _⟩
  generalize w.alloc (.cells #[.int .i64 3, .bool false, .bool false, .int .i64 0] 43) = w1 at HN x0
  have X := hideIt x0
  clear x0
  go_enter Try.func14, Try.ntmps14
  go_wp2_with fail
  refine HN.out.mono ?_
  rintro e w' ⟨rfl, rfl⟩
  clear HN
  have HR := hideIt (stands_lit (w := w') (says_of X.out.lp) (errs_of _) #[.int .i64 0, .int .i64 3, .int .i64 4] [0, 3, 4] [0, 0, 3] 3 rfl rfl (by decide) (by decide))
  go_wp2_with fail
  refine HR.out.mono ?_
  rintro e x2 ⟨ra2, rc2, rfl, ri, a2⟩
  have Y := hideIt (X.out.after a2)
  have HE := hideIt (eq_lit (w := x2) (c := rc2) #[.int .i64 0, .int .i64 0, .int .i64 3] [0, 0, 3] 3 rfl rfl ri (by decide))
  clear ri a2 HR X
  go_wp2_with fail
  refine HE.out.mono ?_
  rintro e y2 ⟨rfl, c2⟩
  have X := hideIt (Y.out.after c2)
  clear c2 Y HE
  have HR := hideIt (X.out.hear 5 false ⟨true, false, 5⟩ 0 (by decide) rfl)
  go_wp2_with fail
  refine HR.out.mono ?_
  rintro e y3 ⟨rfl, x3⟩
  have X := hideIt x3
  clear x3 HR
  have HR := hideIt (stands_lit (w := y3) (says_of X.out.lp) (errs_of _) #[.int .i64 5, .int .i64 6, .int .i64 8, .int .i64 9] [5, 6, 8, 9] [1, 2, 2, 3] 4 rfl rfl (by decide) (by decide))
  go_wp2_with fail
  refine HR.out.mono ?_
  rintro e x4 ⟨ra4, rc4, rfl, ri, a4⟩
  have Y := hideIt (X.out.after a4)
  have HE := hideIt (eq_lit (w := x4) (c := rc4) #[.int .i64 1, .int .i64 2, .int .i64 2, .int .i64 3] [1, 2, 2, 3] 4 rfl rfl ri (by decide))
  clear ri a4 HR X
  go_wp2_with fail
  refine HE.out.mono ?_
  rintro e y4 ⟨rfl, c4⟩
  have X := hideIt (Y.out.after c4)
  clear c4 Y HE
  have HR := hideIt (X.out.hear 9 true ⟨true, true, 9⟩ 0 (by decide) rfl)
  go_wp2_with fail
  refine HR.out.mono ?_
  rintro e y5 ⟨rfl, x5⟩
  have X := hideIt x5
  clear x5 HR
  have HR := hideIt (stands_lit (w := y5) (says_of X.out.lp) (errs_of _) #[.int .i64 9, .int .i64 12, .int .i64 13, .int .i64 8] [9, 12, 13, 8] [4, 4, 3, 19] 4 rfl rfl (by decide) (by decide))
  go_wp2_with fail
  refine HR.out.mono ?_
  rintro e x6 ⟨ra6, rc6, rfl, ri, a6⟩
  have Y := hideIt (X.out.after a6)
  have HE := hideIt (eq_lit (w := x6) (c := rc6) #[.int .i64 4, .int .i64 4, .int .i64 3, .int .i64 19] [4, 4, 3, 19] 4 rfl rfl ri (by decide))
  clear ri a6 HR X
  go_wp2_with fail
  refine HE.out.mono ?_
  rintro e y6 ⟨rfl, c6⟩
  have X := hideIt (Y.out.after c6)
  clear c6 Y HE
  have HR := hideIt (X.out.hear 9 false ⟨true, false, 9⟩ 0 (by decide) rfl)
  go_wp2_with fail
  refine HR.out.mono ?_
  rintro e y7 ⟨rfl, x7⟩
  have X := hideIt x7
  clear x7 HR
  have HR := hideIt (stands_lit (w := y7) (says_of X.out.lp) (errs_of _) #[.int .i64 9] [9] [1] 1 rfl rfl (by decide) (by decide))
  go_wp2_with fail
  refine HR.out.mono ?_
  rintro e x8 ⟨ra8, rc8, rfl, ri, a8⟩
  have Y := hideIt (X.out.after a8)
  have HE := hideIt (eq_lit (w := x8) (c := rc8) #[.int .i64 1] [1] 1 rfl rfl ri (by decide))
  clear ri a8 HR X
  go_wp2_with fail
  refine HE.out.mono ?_
  rintro e y8 ⟨rfl, c8⟩
  have X := hideIt (Y.out.after c8)
  clear c8 Y HE
  have HR := hideIt (X.out.hear 8 false ⟨true, false, 9⟩ 9 (by decide) rfl)
  go_wp2_with fail
  refine HR.out.mono ?_
  rintro e y9 ⟨rfl, x9⟩
  have X := hideIt x9
  clear x9 HR
  go_wp2
  go_ret
  exact ⟨rfl, X.out.aft⟩
end Go.Proofs.Ytnjdhnoippifaaa
