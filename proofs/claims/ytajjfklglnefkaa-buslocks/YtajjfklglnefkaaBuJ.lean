/-
  The document's Hear.
-/
import Derived.Test.YtajjfklglnefkaaBuI
import Derived.Test.YtajjfklglnefkaaBuE
namespace Go.Proofs.Ytajjfklglnefkaa
open Go.RowKit
set_option maxRecDepth 8000
def lenOf : Value → Nat
  | .slice _ n _ => n
  | _ => 0
theorem lenOf_own {w : World} {B : Nat} {v : Value} {zs : List Int} (h : OInts w B v zs) : lenOf v = zs.length := by
  obtain ⟨a, c, rfl, _⟩ := own_irow h
  rfl
theorem rhear_no {w : World} {g : Nat} {o : Nat → Nat} {b : Bz} (x : Rb w g o b) {i : Int} (h : i < 0 ∨ (b.ls.length : Int) ≤ i) : Calls Try.prog 21 #[Ptr g, .int .i64 i] w fun e w' => e = .returned (.tuple #[.slice none 0 0, .int .i64 0, .int .i64 2]) ∧ w' = w := by
  obtain ⟨cs, vt, vr, ts, ps, x⟩ := x
  rw [← x.tlen] at h
  obtain ⟨a, c, e, _⟩ := ORow.row x.ownT
  have c2 := blk_cell x.at0 x.c2
  rw [e] at c2
  clear x e
  by_cases g1 : i < 0
  · clear h
    go_enter Try.func21, Try.ntmps21
    go_wp2
    go_ret3
    exact ⟨rfl, rfl⟩
  · have g2 : (ts.length : Int) ≤ i := by omega
    clear h
    go_enter Try.func21, Try.ntmps21
    go_wp2
    go_ret3
    exact ⟨rfl, rfl⟩
set_option maxHeartbeats 2000000 in
theorem rhear_yes {w : World} {g : Nat} {o : Nat → Nat} {b : Bz} (x : Rb w g o b) {i : Nat} {T : Int} {s : Sg} (hi : b.ls[i]? = some (T, s)) : Calls Try.prog 21 #[Ptr g, .int .i64 (i : Int)] w fun e w' => ∃ v, e = .returned (.tuple #[v, .int .i64 (s.gone : Int), .int .i64 0]) ∧ OInts w' w.heap.size v s.l ∧ Rb w' g o (b.hear i) ∧ But (fun k => o k ≠ 0) w w' := by
  obtain ⟨cs, vt, vr, ts, ps, x⟩ := x
  have hln := x.tlen
  have hpl := x.len
  have hil := (List.getElem?_eq_some_iff.1 hi).1
  obtain ⟨a, c, e, _⟩ := ORow.row x.ownT
  obtain ⟨a', c', e', hr', _⟩ := ORow.row x.ownR
  obtain ⟨bb', off', q, rfl, _, hq, _⟩ := prow_at hr' (show i < ps.length by omega)
  have c2 := blk_cell x.at0 x.c2
  rw [e] at c2
  have r := x.rings i q _ hq hi
  have hs : s.since ≤ 1000000 := by
    obtain ⟨ad, cc, r⟩ := r
    have h1 := r.hsince
    have h2 := r.hall
    have h1 : s.since ≤ s.all := h1
    have h2 : s.all ≤ 1000000 := h2
    omega
  have hl16 : s.l.length ≤ 16 := by
    obtain ⟨ad, cc, r⟩ := r
    exact r.hl
  obtain ⟨n, hn⟩ : ∃ n : Nat, n = s.l.length := ⟨_, rfl⟩
  have n16 : (n : Int) ≤ 16 := by omega
  have x0 : RbX w g o { b with ls := b.ls.set i (T, ⟨s.l.drop 0, leftTo s 0, s.all⟩) } cs vt vr ts ps := by
    rw [List.drop_zero, show (Sg.mk s.l (leftTo s 0) s.all) = s from rfl, list_set_same hi]; exact x
  have i1 : ¬ (i : Int) < 0 := by omega
  have i2 : (i : Int) < (ts.length : Int) := by omega
  have i3 : ¬ (ts.length : Int) ≤ (i : Int) := by omega
  have i4 : (i : Int) < (ps.length : Int) := by omega
  have HX := hideIt (And.intro x0 (And.intro hi (And.intro hq (And.intro hn (And.intro hs e')))))
  have HE := hideIt (And.intro x.bnd hil)
  have h0 : OInts w w.heap.size (.slice none 0 0) (s.l.take 0) := by rw [List.take_zero]; exact own_nil _ _
  have H0 := hideIt h0
  clear x x0 hi hq hr' r hs hl16 hn hln hpl hil e e' h0
  go_enter Try.func21, Try.ntmps21
  go_wp2_with fail
  go_loopw [7, 8] (fun av lv wr => ∃ (j : Nat), j ≤ n ∧ lv = .int .i64 (lostTo s j : Int) ∧ OInts wr w.heap.size av (s.l.take j) ∧ RbX wr g o { b with ls := b.ls.set i (T, ⟨s.l.drop j, leftTo s j, s.all⟩) } cs vt vr ts ps ∧ But (fun k => o k ≠ 0) w wr) (fun av _ _ => n - lenOf av)
  case atStart => exact ⟨0, Nat.zero_le _, rfl, H0.out, HX.out.1, But.rfl⟩
  case round =>
    obtain ⟨j, hj, rfl, hown, x, bw⟩ := hrel
    have hq := HX.out.2.2.1
    have hlt : i < (b.ls.set i (T, ⟨s.l.drop j, leftTo s j, s.all⟩)).length := by rw [List.length_set]; exact HE.out.2
    have r := x.rings i q _ hq (List.getElem?_set_self HE.out.2)
    dsimp only at r
    have c3 := blk_cell x.at0 x.c3
    have e' := HX.out.2.2.2.2.2
    rw [e'] at c3
    obtain ⟨_, _, e1, hr', _⟩ := ORow.row x.ownR
    rw [e'] at e1
    cases e1
    obtain ⟨_, _, q', e2, _, hq', d1⟩ := prow_at hr' (show i < ps.length by omega)
    cases e2
    rw [hq] at hq'
    cases hq'
    have HL := hideIt (rfLen_any r)
    by_cases hgo : j < n
    · have hn := HX.out.2.2.2.1
      obtain ⟨y, hy⟩ : ∃ y, s.l[j]? = some y := ⟨_, List.getElem?_eq_getElem (by rw [← hn]; exact hgo)⟩
      have hpos : (0 : Int) < ((s.l.drop j).length : Int) := by rw [List.length_drop]; omega
      rw [drop_at hy] at r
      have HT := hideIt (rfTake_some r)
      have hsum := lost_left s j
      have hs := HX.out.2.2.2.2.1
      have l1 : (lostTo s j : Int) ≤ 1000000 := by unfold lostTo; split <;> omega
      have l2 : (leftTo s j : Int) ≤ 1000000 := by unfold leftTo; split <;> omega
      have HO := hideIt (And.intro hown (And.intro bw (And.intro hy (And.intro hsum x))))
      clear hown bw hy hsum hs r x hj hn hq e' hr' hlt
      generalize hA : leftTo s j = A at *
      generalize hB : lostTo s j = B at *
      generalize ((s.l.drop j).length : Int) = D at *
      have HAB := hideIt (And.intro hA hB)
      clear hA hB
      go_wp2_with (go_at_call 37; refine HL.out.mono ?_; rintro e w0 ⟨rfl, hw0⟩; obtain rfl := hw0.symm)
      refine HT.out.mono ?_
      rintro e w3 ⟨rfl, r3, b3⟩
      have hbw : ∀ k, o k ≠ 0 → k < wr.heap.size := HO.out.2.2.2.2.bnd
      have x3 := rb_ring HO.out.2.2.2.2 HX.out.2.2.1 (List.getElem?_set_self HE.out.2) b3 (fun _ _ => Eq.refl _) (fun k hk => Nat.lt_of_lt_of_le (hbw k hk) b3.size) r3
      dsimp only at x3
      rw [List.set_set] at x3
      have hnew : ∀ k, w.heap.size ≤ k → o k = 0 := fun k hk => by
        rcases Nat.eq_zero_or_pos (o k) with h | h
        · exact h
        · have := HE.out.1 k (by omega); omega
      have hown3 := own_but HO.out.1 b3 (fun k hk e => by have h1 := hnew k (own_lt HO.out.1 hk).1; have e : o k = 4 + i := e; omega)
      have hb3 : But (fun k => o k ≠ 0) w w3 := HO.out.2.1.trans (b3.mono (fun k _ e => by have e : o k = 4 + i := e; show o k ≠ 0; omega))
      have H3 := hideIt (And.intro x3 (And.intro hb3 (And.intro hown3 hnew)))
      have hl17 : (s.l.take j).length + 1 ≤ 17592186044416 := by have := HX.out.2.2.2.1; rw [List.length_take]; omega
      have HZ := hideIt hl17
      clear r3 b3 hown3 HT hl17 x3 hnew hbw hb3
      go_wp2_with (at_builtin; go_must (refine app_ints rfl (.tmp 44) (.tmp 46) rfl w.heap.size _ (s.l.take j) rfl (own_after H3.out.2.2.1 (After.rfl.alloc _)) (some ⟨w3.heap.size, 0, none⟩) 1 1 [y] rfl (lit_irow (heap_alloc_new w3 _) rfl rfl) (fun h => by cases h) HZ.out (by have := H3.out.2.1.size; have := ((After.rfl (w := w3)).alloc (.cells #[.int .i64 y] 3)).size; omega) ?_))
      intro v4 w4 o4 b4
      rw [← take_at HO.out.2.2.1] at o4
      have hown := HO.out.1
      have b5 : But (fun k => w.heap.size ≤ k) w3 w4 := (After.rfl.alloc _).but.then b4 (fun k _ hk => (own_lt hown hk).1)
      have H4 := hideIt (And.intro o4 (And.intro (H3.out.1.but b5 (fun k hk e => by have h1 := H3.out.2.2.2 k e; omega)) (H3.out.2.1.then b5 (fun k hk e => by have : w.heap.size ≤ k := e; omega))))
      clear o4 b4 b5 hown H3
      have hw2 : IntKind.i64.wrap ((B : Int) + (A : Int)) = (B : Int) + (A : Int) := wrap_small _ (by omega) (by omega)
      go_wp2_with fail
      go_roundw
      case rel =>
        obtain ⟨eA, eB⟩ := HAB.out
        subst eA
        subst eB
        refine ⟨j + 1, hgo, ?_, H4.out.1, ?_, H4.out.2.2⟩
        · rw [← HO.out.2.2.2.1]; go_num
        · rw [left_succ]; exact H4.out.2.1
      case measure =>
        have h1 := lenOf_own H4.out.1
        have h2 := lenOf_own HO.out.1
        have hn := HX.out.2.2.2.1
        rw [List.length_take] at h1 h2
        omega
    · obtain rfl : j = n := by omega
      have hn := HX.out.2.2.2.1
      have hpos : ((s.l.drop j).length : Int) = 0 := by rw [List.length_drop]; omega
      rw [hpos] at HL
      have HO := hideIt (And.intro hown (And.intro x (And.intro bw hn)))
      clear hown x bw hgo hj r hq hr' hlt e' hpos hn
      go_wp2_with (go_at_call 37; refine HL.out.mono ?_; rintro e w0 ⟨rfl, hw0⟩; obtain rfl := hw0.symm)
      go_ret3
      obtain ⟨hown, x, bw, hn⟩ := HO.out
      subst hn
      rw [left_end] at x
      rw [List.take_length] at hown
      rw [lost_end]
      rw [show b.ls.set i (T, s.bare) = b.ls.modify i hear1 from (modify_at hear1 HX.out.2.1).symm] at x
      exact ⟨_, rfl, hown, ⟨cs, vt, vr, ts, ps, x⟩, bw⟩
end Go.Proofs.Ytajjfklglnefkaa
