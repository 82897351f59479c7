/-
  The statements' helpers: usual, awake, CopyBytes, join, Bring.
-/
import Derived.Test.YtgdkepanmnmhjaaRef
import Derived.Test.YtgdkepanmnmhjaaRefB
import Derived.Laws.AppendOwnNone
namespace Go.Proofs.Ytgdkepanmnmhjaa
open Go.RowKit
theorem Try.info5 : (Try.prog.info? 5).map (fun i => (i.zero, i.size, i.bytes)) = some (some (.int .u8 0), 1, 1) := by kernel_rfl
def u8s (zs : List Int) : List Value := zs.map (Value.int .u8)
theorem own_after {w W : World} {B : Nat} {e : TypeId} {sz : Nat} {v : Value} {n : Nat} {xs : List Value} (h : w.ownsRow B e sz v n xs) (ha : After w W) : W.ownsRow B e sz v n xs := by
  refine ⟨h.1, ?_⟩
  rcases h.2 with hn | ⟨g, cap, cur, h1, h2, h3, h4⟩
  · exact Or.inl hn
  · have hlt : g < w.heap.size := by
      rcases Nat.lt_or_ge g w.heap.size with h' | h'
      · exact h'
      · rw [Array.getElem?_eq_none h'] at h3; cases h3
    exact Or.inr ⟨g, cap, cur, h1, h2, (Below.block ha g hlt).trans h3, h4⟩
/-- What is owned is a row. -/
theorem own_row {w : World} {B : Nat} {v : Value} {n : Nat} {zs : List Int} (h : w.ownsRow B 5 1 v n (u8s zs)) (hb : Bs zs) : ∃ a c, v = .slice a n c ∧ Row w a n zs ∧ (a = none → n = 0 ∧ c = 0) := by
  have hl : zs.length = n := by have := h.1; simp [u8s] at this; exact this
  rcases h.2 with ⟨rfl, rfl⟩ | ⟨g, cap, cur, rfl, _⟩
  · exact ⟨none, 0, rfl, ⟨hl, hb, fun i hi => absurd hi (by omega)⟩, fun _ => ⟨rfl, rfl⟩⟩
  · refine ⟨_, _, rfl, ⟨hl, hb, fun i hi => ⟨g, 0, rfl, (h.lt g rfl).2, ?_⟩⟩, fun h => by cases h⟩
    have := h.cellAt i (by omega)
    rw [Nat.zero_add, this]
    have hi' : i < zs.length := by omega
    simp [u8s, hi']
theorem row_news {w : World} {x : Addr} {n : Nat} {zs : List Int} (h : Row w (some x) n zs) : ∀ j u, (u8s zs)[j]? = some u → w.cell? (x.add j) = some u := by
  intro j u hj
  have hjl : j < zs.length := by
    rcases Nat.lt_or_ge j zs.length with h' | h'
    · exact h'
    · simp [u8s, h'] at hj
  obtain ⟨b, off, e, _, hc⟩ := h.2.2 j (by rw [← h.1]; exact hjl)
  cases e
  have hu : u = .int .u8 (zs.getD j 0) := by simp [u8s, hjl] at hj; simp [hjl, ← hj]
  rw [hu]
  have e : (⟨b, off, none⟩ : Addr).add j = ⟨b, off + j, none⟩ := by simp [Addr.add]
  rw [e]; exact hc
theorem u8s_one (zs : List Int) : ∀ u ∈ u8s zs, u.oneCell' = true := by
  intro u hu
  obtain ⟨z, _, rfl⟩ := List.mem_map.1 hu
  rfl
theorem usual_any (w : World) : Calls Try.prog 22 #[] w fun e w' => ∃ a c, e = .returned (.slice a 9 c) ∧ Row w' a 9 [49, 50, 51, 52, 53, 54, 55, 56, 57] ∧ After w w' := by
  go_enter Try.func22, Try.ntmps22
  go_wp2
  go_ret
  refine ⟨_, _, rfl, ?_, After.rfl.alloc _⟩
  have h := World.ownsRow_lit (base := w.heap.size) (e := 5) (size := 1) w #[.int .u8 49, .int .u8 50, .int .u8 51, .int .u8 52, .int .u8 53, .int .u8 54, .int .u8 55, .int .u8 56, .int .u8 57] 9 (Nat.le_refl _) (by decide) rfl
  obtain ⟨a, c, e, hr, _⟩ := own_row (zs := [49, 50, 51, 52, 53, 54, 55, 56, 57]) h (by intro z hz; simp at hz; omega)
  cases e
  exact hr
theorem usual16 : sum16 [49, 50, 51, 52, 53, 54, 55, 56, 57] = 10673 := by decide +kernel
theorem usual32 : sum32 [49, 50, 51, 52, 53, 54, 55, 56, 57] = 3421780262 := by decide +kernel
theorem usualStep : step16 65535 0 = 57840 := by decide +kernel
theorem awake_any (w : World) : Calls Try.prog 15 #[] w fun e w' => e = .returned (.bool true) ∧ After w w' := by
  go_enter Try.func15, Try.ntmps15
  go_wp2_with fail
  refine (usual_any _).mono ?_
  rintro e w1 ⟨a1, c1, rfl, r1, h1⟩
  have R1 := hideIt r1
  have A1 := hideIt h1
  clear r1 h1
  go_wp2_with fail
  refine (sum16_any _ _ _ _ _ R1.out (by decide)).mono ?_
  rintro e w2 ⟨rfl, h2⟩
  rw [usual16]
  have A2 := hideIt (A1.out.trans h2)
  clear h2 R1 A1
  go_wp2_with fail
  refine (usual_any _).mono ?_
  rintro e w3 ⟨a3, c3, rfl, r3, h3⟩
  have R3 := hideIt r3
  have A3 := hideIt (A2.out.trans h3)
  clear r3 h3 A2
  go_wp2_with fail
  refine (sum32_any _ _ _ _ _ R3.out (by decide)).mono ?_
  rintro e w4 ⟨rfl, h4⟩
  rw [usual32]
  have A4 := hideIt (A3.out.trans h4)
  clear h4 R3 A3
  go_wp2_with fail
  refine (step16_any 65535 0 _ (by decide) (by decide)).mono ?_
  rintro e w5 ⟨rfl, rfl⟩
  rw [usualStep]
  go_wp2
  go_ret
  exact ⟨rfl, A4.out⟩
theorem copy_any (a : Option Addr) (n c : Nat) (zs : List Int) (w : World) (hr : Row w a n zs) (ha : a = none → n = 0 ∧ c = 0) (hn : n ≤ 140737488355328) :
    Calls Try.prog 9 #[.slice a n c] w fun e w' => ∃ v, e = .returned v ∧ w'.ownsRow w.heap.size 5 1 v n (u8s zs) ∧ After w w' := by
  obtain ⟨i0, hi, hz0, hz1, hz2⟩ := info_parts Try.info5
  cases a with
  | none =>
    obtain ⟨rfl, rfl⟩ := ha rfl
    have hz : zs = [] := List.length_eq_zero_iff.1 hr.1
    subst hz
    clear hr
    go_enter Try.func9, Try.ntmps9
    go_wp2_with (at_builtin; refine wpList_append_own_none rfl (.tmp 4) (.tmp 5) 22 rfl w.heap.size 5 i0 1 Try.underlying22 hi _ 0 [] rfl (World.ownsRow_nil _ _ _ _) rfl ?_)
    go_ret
    exact ⟨_, rfl, World.ownsRow_nil _ _ _ _, After.rfl⟩
  | some x =>
    have hl : (u8s zs).length = n * 1 := by simp [u8s, hr.1]
    have hnews := row_news hr
    have HL := hideIt hl
    have HW := hideIt hnews
    clear hr ha hl hnews
    go_enter Try.func9, Try.ntmps9
    go_wp2_with (at_builtin; refine wpList_append_own _ rfl (.tmp 4) (.tmp 5) 22 rfl w.heap.size 5 i0 (.int .u8 0) 1 1 Try.underlying22 hi hz0 hz1 hz2 rfl (by decide) _ 0 [] rfl (World.ownsRow_nil _ _ _ _) x n c (u8s zs) rfl HL.out HW.out (u8s_one _) (by unfold maxLen; omega) (by omega) (Nat.le_refl _) ?_; intro v' w1 hown hgrow hnil; rw [Nat.zero_add, List.nil_append] at hown; have HO := hideIt hown; have HG := hideIt hgrow; clear hown hgrow hnil)
    go_ret
    exact ⟨_, rfl, HO.out, After.of (Below.grown (Below.refl _ _) HG.out (Nat.le_refl _) (fun k hk => by cases hk))⟩
theorem join_any (a : Option Addr) (n c : Nat) (zs : List Int) (a' : Option Addr) (n' c' : Nat) (ys : List Int) (w : World) (hr : Row w a n zs) (ha : a = none → n = 0 ∧ c = 0) (hr' : Row w a' n' ys) (ha' : a' = none → n' = 0 ∧ c' = 0) (hn : n + n' ≤ 140737488355328) :
    Calls Try.prog 18 #[.slice a n c, .slice a' n' c'] w fun e w' => ∃ v, e = .returned v ∧ w'.ownsRow w.heap.size 5 1 v (n + n') (u8s (zs ++ ys)) ∧ After w w' := by
  obtain ⟨i0, hi, hz0, hz1, hz2⟩ := info_parts Try.info5
  have HR := hideIt hr
  have HR' := hideIt hr'
  have HA' := hideIt ha'
  clear hr hr' ha'
  have hu : Hid (u8s zs ++ u8s ys = u8s (zs ++ ys)) := by unfold Hid u8s; rw [List.map_append]
  /- behind the first append -/
  have second : ∀ (v : Value) (w1 : World), w1.ownsRow w.heap.size 5 1 v n (u8s zs) → After w w1 → ∀ (ops : Array Oper) (rest : List Oper) (o : Oper) (act : Act) (Q : Exit → Act → World → Prop), o.guard = none → o.op = .call { callee := .builtin .append, args := #[.tmp 9, .tmp 10], argTypes := #[22, 22] } → act.eval (.tmp 9) = v → act.eval (.tmp 10) = .slice a' n' c' → (∀ v' w', w'.ownsRow w.heap.size 5 1 v' (n + n') (u8s (zs ++ ys)) → After w w' → wpList Try.prog ops Q rest (act.put o.dst v') w') → wpList Try.prog ops Q (o :: rest) act w1 := by
    intro v w1 hown hA ops rest o act Q hg ho h9 h10 hK
    cases a' with
    | none =>
      obtain ⟨rfl, rfl⟩ := HA'.out rfl
      have hy : ys = [] := List.length_eq_zero_iff.1 HR'.out.1
      subst hy
      refine wpList_append_own_none hg (.tmp 9) (.tmp 10) 22 ho w.heap.size 5 i0 1 Try.underlying22 hi v n (u8s zs) h9 hown h10 ?_
      exact hK _ _ (by rw [List.append_nil]; exact hown) hA
    | some x =>
      have hl : (u8s ys).length = n' * 1 := by simp [u8s, HR'.out.1]
      refine wpList_append_own _ hg (.tmp 9) (.tmp 10) 22 ho w.heap.size 5 i0 (.int .u8 0) 1 1 Try.underlying22 hi hz0 hz1 hz2 rfl (by decide) v n (u8s zs) h9 hown x n' c' (u8s ys) h10 hl (row_news (HR'.out.after hA)) (u8s_one _) (by unfold maxLen; omega) (by omega) (After.size hA) ?_
      intro v' w' hown' hgrow _
      rw [hu.out] at hown'
      exact hK _ _ hown' (After.of (Below.grown hA hgrow (After.size hA) (fun k hk => (hown.lt k hk).1)))
  have S2 := hideIt second
  clear second
  cases a with
  | none =>
    obtain ⟨rfl, rfl⟩ := ha rfl
    have hz : zs = [] := List.length_eq_zero_iff.1 HR.out.1
    subst hz
    clear HR
    go_enter Try.func18, Try.ntmps18
    go_wp2_with (first | (at_builtin; refine wpList_append_own_none rfl (.tmp 6) (.tmp 7) 22 rfl w.heap.size 5 i0 1 Try.underlying22 hi _ 0 [] rfl (World.ownsRow_nil _ _ _ _) rfl ?_) | (at_builtin; refine S2.out _ _ (World.ownsRow_nil _ _ _ _) After.rfl _ _ _ _ _ rfl rfl rfl rfl ?_; intro v' w' hown' hA'; rw [Nat.zero_add, List.nil_append] at hown'; have HO := hideIt hown'; have HA := hideIt hA'; clear hown' hA'))
    go_ret
    exact ⟨_, rfl, HO.out, HA.out⟩
  | some x =>
    have hl : (u8s zs).length = n * 1 := by simp [u8s, HR.out.1]
    have HL := hideIt hl
    have HW := hideIt (row_news HR.out)
    clear hl ha HR
    go_enter Try.func18, Try.ntmps18
    go_wp2_with (first | (at_builtin; refine wpList_append_own _ rfl (.tmp 6) (.tmp 7) 22 rfl w.heap.size 5 i0 (.int .u8 0) 1 1 Try.underlying22 hi hz0 hz1 hz2 rfl (by decide) _ 0 [] rfl (World.ownsRow_nil _ _ _ _) x n c (u8s zs) rfl HL.out HW.out (u8s_one _) (by unfold maxLen; omega) (by omega) (Nat.le_refl _) ?_; intro v' w1 hown hgrow hnil; rw [Nat.zero_add, List.nil_append] at hown; have HO := hideIt hown; have HG := hideIt (After.of (Below.grown (Below.refl _ _) hgrow (Nat.le_refl _) (fun k hk => by cases hk))); clear hown hgrow hnil) | (at_builtin; refine S2.out _ _ HO.out HG.out _ _ _ _ _ rfl rfl rfl rfl ?_; intro v2 w2 hown2 hA2; have HO2 := hideIt hown2; have HA2 := hideIt hA2; clear hown2 hA2))
    go_ret
    exact ⟨_, rfl, HO2.out, HA2.out⟩
theorem bring_any (i : Int) (n : Nat) (w : World) (h0 : 0 < n) (hn : n ≤ 140737488355328) (_h1 : -9223372036854775808 ≤ i) (_h2 : i ≤ 9223372036854775807) :
    Calls Try.prog 19 #[.int .i64 i, .int .i64 n] w fun e w' => ∃ k : Nat, k < n ∧ e = .returned (.int .i64 k) ∧ w' = w := by
  go_enter Try.func19, Try.ntmps19
  have b1 := Int.lt_tmod_of_pos i (show (0 : Int) < (n : Int) by omega)
  have b2 := Int.tmod_lt_of_pos i (show (0 : Int) < (n : Int) by omega)
  go_wp2
  all_goals go_ret
  · exact ⟨(i.tmod n + n).toNat, by omega, ret_int (by first | omega | (unfold wrap64; omega)), rfl⟩
  · exact ⟨(i.tmod n).toNat, by omega, ret_int (by omega), rfl⟩
end Go.Proofs.Ytgdkepanmnmhjaa
