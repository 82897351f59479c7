/-
  Frames over lists of whole numbers, no program in sight: what stands at the front of bytes, what is found, dropped and left of them.
-/
import Derived.Test.YtmdbpoknehafaaaPure
namespace Go.Proofs.Ytmdbpoknehafaaa
open Go.RowKit
/-- The length that is said. -/
def lenOf (zs : List Int) : Nat := (zs.getD 1 0).toNat * 256 + (zs.getD 2 0).toNat
/-- The check that is due. -/
def dueOf (zs : List Int) : Nat := sum16 ((zs.drop 1).take (lenOf zs + 2))
/-- The check that stands there. -/
def saidOf (zs : List Int) : Nat := (zs.getD (lenOf zs + 3) 0).toNat * 256 + (zs.getD (lenOf zs + 4) 0).toNat
/-- What stands at the front: 0 too few bytes, 1 no frame, 2 a frame. -/
def kindOf (zs : List Int) : Nat :=
  if zs.length = 0 then 0 else if zs.getD 0 0 ≠ 126 then 1 else if zs.length < 3 then 0 else if lenOf zs < 1 ∨ 256 < lenOf zs then 1 else if zs.length < lenOf zs + 5 then 0 else if dueOf zs ≠ saidOf zs then 1 else 2
/-- How many bytes are gone by it. -/
def goneOf (zs : List Int) : Nat := if kindOf zs = 0 then 0 else if kindOf zs = 1 then 1 else lenOf zs + 5
/-- A frame's body. -/
def bodyOf (zs : List Int) : List Int := (zs.drop 3).take (lenOf zs)
theorem kind_lt (zs : List Int) : kindOf zs < 3 := by
  unfold kindOf
  repeat (split <;> try omega)
theorem kind_pos {zs : List Int} (h : kindOf zs ≠ 0) : 0 < zs.length := by
  rcases Nat.eq_zero_or_pos zs.length with e | e
  · exact absurd (by unfold kindOf; rw [if_pos e]) h
  · exact e
theorem kind_two {zs : List Int} (h : kindOf zs = 2) : zs.getD 0 0 = 126 ∧ 1 ≤ lenOf zs ∧ lenOf zs ≤ 256 ∧ lenOf zs + 5 ≤ zs.length ∧ dueOf zs = saidOf zs := by
  unfold kindOf at h
  split at h
  · omega
  · split at h
    · omega
    · split at h
      · omega
      · split at h
        · omega
        · split at h
          · omega
          · split at h
            · omega
            · rename_i h1 h2 h3 h4 h5 h6
              exact ⟨Decidable.not_not.1 h2, by omega, by omega, by omega, Decidable.not_not.1 h6⟩
theorem kind_none {zs : List Int} (h : kindOf zs = 0) : zs.length ≤ 260 := by
  unfold kindOf at h
  split at h
  · omega
  · split at h
    · omega
    · split at h
      · omega
      · split at h
        · omega
        · split at h
          · omega
          · split at h
            · omega
            · omega
theorem gone_le (zs : List Int) : goneOf zs ≤ zs.length := by
  unfold goneOf
  split
  · omega
  · rename_i h0
    have := kind_pos h0
    split
    · omega
    · rename_i h1
      have h2 : kindOf zs = 2 := by have := kind_lt zs; omega
      have := kind_two h2
      omega
theorem gone_pos {zs : List Int} (h : kindOf zs ≠ 0) : 0 < goneOf zs := by
  unfold goneOf; rw [if_neg h]; split <;> omega
/-- The frames, the bytes dropped and the bytes left: so many steps at most. -/
def runs : Nat → List Int → List (List Int) × Nat × List Int
  | 0, zs => ([], 0, zs)
  | n + 1, zs => if kindOf zs = 0 then ([], 0, zs) else
      if kindOf zs = 1 then ((runs n (zs.drop 1)).1, (runs n (zs.drop 1)).2.1 + 1, (runs n (zs.drop 1)).2.2)
      else (bodyOf zs :: (runs n (zs.drop (lenOf zs + 5))).1, (runs n (zs.drop (lenOf zs + 5))).2.1, (runs n (zs.drop (lenOf zs + 5))).2.2)
theorem runs_none {n : Nat} {zs : List Int} (h : kindOf zs = 0) : runs n zs = ([], 0, zs) := by
  cases n with
  | zero => rfl
  | succ n => show (if kindOf zs = 0 then _ else _) = _; rw [if_pos h]
theorem runs_more (n m : Nat) (zs : List Int) (h : zs.length ≤ n) (hm : zs.length ≤ m) : runs n zs = runs m zs := by
  induction n generalizing m zs with
  | zero =>
    have h0 : kindOf zs = 0 := by unfold kindOf; rw [if_pos (by omega)]
    rw [runs_none h0, runs_none h0]
  | succ n ih =>
    by_cases h0 : kindOf zs = 0
    · rw [runs_none h0, runs_none h0]
    · have hp := kind_pos h0
      cases m with
      | zero => omega
      | succ m =>
        have e1 := ih m (zs.drop 1) (by rw [List.length_drop]; omega) (by rw [List.length_drop]; omega)
        have e2 := ih m (zs.drop (lenOf zs + 5)) (by rw [List.length_drop]; omega) (by rw [List.length_drop]; omega)
        simp only [runs, e1, e2]
/-- The frames that are found, how many bytes are dropped, what is left. -/
def frs (zs : List Int) : List (List Int) := (runs zs.length zs).1
def drp (zs : List Int) : Nat := (runs zs.length zs).2.1
def rst (zs : List Int) : List Int := (runs zs.length zs).2.2
theorem fed_none {zs : List Int} (h : kindOf zs = 0) : frs zs = [] ∧ drp zs = 0 ∧ rst zs = zs := by
  unfold frs drp rst; rw [runs_none h]; exact ⟨rfl, rfl, rfl⟩
theorem fed_drop {zs : List Int} (h : kindOf zs = 1) : frs zs = frs (zs.drop 1) ∧ drp zs = drp (zs.drop 1) + 1 ∧ rst zs = rst (zs.drop 1) := by
  have hp := kind_pos (zs := zs) (by omega)
  obtain ⟨n, hn⟩ : ∃ n, zs.length = n + 1 := ⟨zs.length - 1, by omega⟩
  have e := runs_more n (zs.drop 1).length (zs.drop 1) (by rw [List.length_drop]; omega) (Nat.le_refl _)
  unfold frs drp rst
  rw [hn]
  simp only [runs, h, e]
  exact ⟨rfl, rfl, rfl⟩
theorem fed_frame {zs : List Int} (h : kindOf zs = 2) : frs zs = bodyOf zs :: frs (zs.drop (lenOf zs + 5)) ∧ drp zs = drp (zs.drop (lenOf zs + 5)) ∧ rst zs = rst (zs.drop (lenOf zs + 5)) := by
  have hp := kind_pos (zs := zs) (by omega)
  obtain ⟨n, hn⟩ : ∃ n, zs.length = n + 1 := ⟨zs.length - 1, by omega⟩
  have e := runs_more n (zs.drop (lenOf zs + 5)).length (zs.drop (lenOf zs + 5)) (by rw [List.length_drop]; omega) (Nat.le_refl _)
  unfold frs drp rst
  rw [hn]
  simp only [runs, h, e]
  exact ⟨rfl, rfl, rfl⟩
/-- Induction along what is gone. -/
theorem fed_induct {P : List Int → Prop} (h0 : ∀ zs, kindOf zs = 0 → P zs) (h1 : ∀ zs, kindOf zs = 1 → P (zs.drop 1) → P zs) (h2 : ∀ zs, kindOf zs = 2 → P (zs.drop (lenOf zs + 5)) → P zs) : ∀ zs, P zs := by
  have main : ∀ n zs, zs.length ≤ n → P zs := by
    intro n
    induction n with
    | zero => intro zs hz; exact h0 zs (by unfold kindOf; rw [if_pos (by omega)])
    | succ n ih =>
      intro zs hz
      by_cases k0 : kindOf zs = 0
      · exact h0 zs k0
      · have hp := kind_pos k0
        by_cases k1 : kindOf zs = 1
        · exact h1 zs k1 (ih _ (by rw [List.length_drop]; omega))
        · have k2 : kindOf zs = 2 := by have := kind_lt zs; omega
          exact h2 zs k2 (ih _ (by rw [List.length_drop]; omega))
  exact fun zs => main zs.length zs (Nat.le_refl _)
theorem rst_none (zs : List Int) : kindOf (rst zs) = 0 := by
  refine fed_induct (P := fun zs => kindOf (rst zs) = 0) (fun zs h => ?_) (fun zs h k => ?_) (fun zs h k => ?_) zs
  · rw [(fed_none h).2.2]; exact h
  · rw [(fed_drop h).2.2]; exact k
  · rw [(fed_frame h).2.2]; exact k
theorem rst_len (zs : List Int) : (rst zs).length ≤ 260 := kind_none (rst_none zs)
theorem rst_bs {zs : List Int} : Bs zs → Bs (rst zs) := by
  refine fed_induct (P := fun zs => Bs zs → Bs (rst zs)) (fun zs h b => ?_) (fun zs h k b => ?_) (fun zs h k b => ?_) zs
  · rw [(fed_none h).2.2]; exact b
  · rw [(fed_drop h).2.2]; exact k (b.drop 1)
  · rw [(fed_frame h).2.2]; exact k (b.drop _)
/-- How many bytes some frames have. -/
def wide : List (List Int) → Nat
  | [] => 0
  | f :: r => f.length + 5 + wide r
theorem wide_append (l r : List (List Int)) : wide (l ++ r) = wide l + wide r := by
  induction l with
  | nil => simp [wide]
  | cons f l ih => simp only [List.cons_append, wide, ih]; omega
theorem body_length {zs : List Int} (h : kindOf zs = 2) : (bodyOf zs).length = lenOf zs := by
  have := kind_two h
  unfold bodyOf; rw [List.length_take, List.length_drop]; omega
theorem fed_count (zs : List Int) : zs.length = drp zs + wide (frs zs) + (rst zs).length := by
  refine fed_induct (P := fun zs => zs.length = drp zs + wide (frs zs) + (rst zs).length) (fun zs h => ?_) (fun zs h k => ?_) (fun zs h k => ?_) zs
  · obtain ⟨e1, e2, e3⟩ := fed_none h
    rw [e1, e2, e3]; simp [wide]
  · obtain ⟨e1, e2, e3⟩ := fed_drop h
    rw [e1, e2, e3]
    rw [List.length_drop] at k
    have := kind_pos (zs := zs) (by omega)
    omega
  · obtain ⟨e1, e2, e3⟩ := fed_frame h
    rw [e1, e2, e3]
    simp only [wide, body_length h]
    rw [List.length_drop] at k
    have := kind_two h
    omega
theorem fed_bodies (zs : List Int) : ∀ f ∈ frs zs, 1 ≤ f.length ∧ f.length ≤ 256 := by
  refine fed_induct (P := fun zs => ∀ f ∈ frs zs, 1 ≤ f.length ∧ f.length ≤ 256) (fun zs h => ?_) (fun zs h k => ?_) (fun zs h k => ?_) zs
  · rw [(fed_none h).1]; intro f hf; cases hf
  · rw [(fed_drop h).1]; exact k
  · rw [(fed_frame h).1]
    intro f hf
    rcases List.mem_cons.1 hf with e | e
    · rw [e, body_length h]; have := kind_two h; omega
    · exact k f e
theorem wide_length (l : List (List Int)) : l.length * 5 ≤ wide l := by
  induction l with
  | nil => simp [wide]
  | cons f l ih => simp only [List.length_cons, wide]; omega
theorem frs_length (zs : List Int) : (frs zs).length ≤ zs.length := by
  have := fed_count zs
  have := wide_length (frs zs)
  omega
theorem drp_le (zs : List Int) : drp zs ≤ zs.length := by
  have := fed_count zs
  omega
theorem getD_append (zs ys : List Int) {i : Nat} (h : i < zs.length) : (zs ++ ys).getD i 0 = zs.getD i 0 := by
  simp [List.getD_eq_getElem?_getD, List.getElem?_append_left h]
theorem len_append (zs ys : List Int) (h : 3 ≤ zs.length) : lenOf (zs ++ ys) = lenOf zs := by
  unfold lenOf; rw [getD_append zs ys (by omega), getD_append zs ys (by omega)]
theorem drop_take_append (zs ys : List Int) (a b : Nat) (h : a + b ≤ zs.length) : ((zs ++ ys).drop a).take b = (zs.drop a).take b := by
  rw [List.drop_append_of_le_length (by omega), List.take_append_of_le_length (by rw [List.length_drop]; omega)]
/-- What is told at the front is told with more behind it. -/
theorem kind_append (zs ys : List Int) (h : kindOf zs ≠ 0) : kindOf (zs ++ ys) = kindOf zs := by
  have hp := kind_pos h
  have g0 := getD_append zs ys hp
  by_cases c1 : zs.getD 0 0 ≠ 126
  · unfold kindOf
    rw [g0, if_neg (by rw [List.length_append]; omega), if_pos c1, if_neg (by omega), if_pos c1]
  · by_cases c2 : zs.length < 3
    · exact absurd (by unfold kindOf; rw [if_neg (by omega), if_neg c1, if_pos c2]) h
    · have hl := len_append zs ys (by omega)
      by_cases c3 : lenOf zs < 1 ∨ 256 < lenOf zs
      · unfold kindOf
        rw [g0, hl, if_neg (by rw [List.length_append]; omega), if_neg c1, if_neg (by rw [List.length_append]; omega), if_pos c3, if_neg (by omega), if_neg c1, if_neg c2, if_pos c3]
      · by_cases c4 : zs.length < lenOf zs + 5
        · exact absurd (by unfold kindOf; rw [if_neg (by omega), if_neg c1, if_neg c2, if_neg c3, if_pos c4]) h
        · have hd : dueOf (zs ++ ys) = dueOf zs := by
            unfold dueOf; rw [hl, drop_take_append zs ys 1 _ (by omega)]
          have hs : saidOf (zs ++ ys) = saidOf zs := by
            unfold saidOf; rw [hl, getD_append zs ys (by omega), getD_append zs ys (by omega)]
          unfold kindOf
          rw [g0, hl, hd, hs, if_neg (by rw [List.length_append]; omega), if_neg c1, if_neg (by rw [List.length_append]; omega), if_neg c3, if_neg (by rw [List.length_append]; omega), if_neg (show ¬ zs.length = 0 by omega), if_neg c1, if_neg c2, if_neg c3, if_neg c4]
/-- However bytes are cut. -/
theorem fed_append (ys zs : List Int) : frs (zs ++ ys) = frs zs ++ frs (rst zs ++ ys) ∧ drp (zs ++ ys) = drp zs + drp (rst zs ++ ys) ∧ rst (zs ++ ys) = rst (rst zs ++ ys) := by
  refine fed_induct (P := fun zs => frs (zs ++ ys) = frs zs ++ frs (rst zs ++ ys) ∧ drp (zs ++ ys) = drp zs + drp (rst zs ++ ys) ∧ rst (zs ++ ys) = rst (rst zs ++ ys)) (fun zs h => ?_) (fun zs h k => ?_) (fun zs h k => ?_) zs
  · obtain ⟨e1, e2, e3⟩ := fed_none h
    rw [e1, e2, e3]; exact ⟨rfl, by omega, rfl⟩
  · obtain ⟨e1, e2, e3⟩ := fed_drop h
    have hp := kind_pos (zs := zs) (by omega)
    obtain ⟨f1, f2, f3⟩ := fed_drop (zs := zs ++ ys) (by rw [kind_append zs ys (by omega)]; exact h)
    rw [e1, e2, e3, f1, f2, f3, List.drop_append_of_le_length (by omega)]
    exact ⟨k.1, by rw [k.2.1]; omega, k.2.2⟩
  · obtain ⟨e1, e2, e3⟩ := fed_frame h
    have hk := kind_two h
    have hl := len_append zs ys (by omega)
    obtain ⟨f1, f2, f3⟩ := fed_frame (zs := zs ++ ys) (by rw [kind_append zs ys (by omega)]; exact h)
    have hb : bodyOf (zs ++ ys) = bodyOf zs := by unfold bodyOf; rw [hl, drop_take_append zs ys 3 _ (by omega)]
    rw [e1, e2, e3, f1, f2, f3, hl, hb, List.drop_append_of_le_length (by omega)]
    exact ⟨by rw [k.1]; rfl, k.2.1, k.2.2⟩
/-- A frame of some bytes. -/
def wrapOf (b : List Int) : List Int := 126 :: ((b.length / 256 : Nat) : Int) :: ((b.length % 256 : Nat) : Int) :: (b ++ [((sum16 (((b.length / 256 : Nat) : Int) :: ((b.length % 256 : Nat) : Int) :: b) / 256 : Nat) : Int), ((sum16 (((b.length / 256 : Nat) : Int) :: ((b.length % 256 : Nat) : Int) :: b) % 256 : Nat) : Int)])
theorem wrap_length (b : List Int) : (wrapOf b).length = b.length + 5 := by simp [wrapOf]
theorem wrap_len (b : List Int) : lenOf (wrapOf b) = b.length := by
  unfold lenOf wrapOf
  simp only [List.getD_cons_succ, List.getD_cons_zero, Int.toNat_natCast]
  omega
theorem wrap_kind {b : List Int} (h1 : 1 ≤ b.length) (h2 : b.length ≤ 256) : kindOf (wrapOf b) = 2 := by
  have hl := wrap_len b
  have hn := wrap_length b
  have hd : dueOf (wrapOf b) = sum16 (((b.length / 256 : Nat) : Int) :: ((b.length % 256 : Nat) : Int) :: b) := by
    unfold dueOf
    rw [hl]
    unfold wrapOf
    simp only [List.drop_succ_cons, List.drop_zero, List.take_succ_cons]
    rw [List.take_append_of_le_length (Nat.le_refl _), List.take_length]
  have hs : saidOf (wrapOf b) = sum16 (((b.length / 256 : Nat) : Int) :: ((b.length % 256 : Nat) : Int) :: b) := by
    unfold saidOf
    rw [hl]
    unfold wrapOf
    simp only [List.getD_cons_succ]
    generalize sum16 (((b.length / 256 : Nat) : Int) :: ((b.length % 256 : Nat) : Int) :: b) = s
    have e1 : (b ++ [((s / 256 : Nat) : Int), ((s % 256 : Nat) : Int)]).getD b.length 0 = ((s / 256 : Nat) : Int) := by
      simp [List.getD_eq_getElem?_getD]
    have e2 : (b ++ [((s / 256 : Nat) : Int), ((s % 256 : Nat) : Int)]).getD (b.length + 1) 0 = ((s % 256 : Nat) : Int) := by
      simp [List.getD_eq_getElem?_getD]
    rw [e1, e2, Int.toNat_natCast, Int.toNat_natCast]
    omega
  have g0 : (wrapOf b).getD 0 0 = 126 := rfl
  unfold kindOf
  rw [if_neg (by omega), g0, if_neg (by simp), if_neg (by omega), hl, if_neg (by omega), if_neg (by omega), hd, hs, if_neg (by simp)]
theorem wrap_body {b : List Int} : bodyOf (wrapOf b) = b := by
  unfold bodyOf
  rw [wrap_len]
  unfold wrapOf
  simp only [List.drop_succ_cons, List.drop_zero]
  rw [List.take_append_of_le_length (Nat.le_refl _), List.take_length]
theorem wrap_fed {b : List Int} (h1 : 1 ≤ b.length) (h2 : b.length ≤ 256) (ys : List Int) : frs (wrapOf b ++ ys) = b :: frs ys ∧ drp (wrapOf b ++ ys) = drp ys ∧ rst (wrapOf b ++ ys) = rst ys := by
  have hk := wrap_kind h1 h2
  have hn := wrap_length b
  have hl := len_append (wrapOf b) ys (by omega)
  obtain ⟨f1, f2, f3⟩ := fed_frame (zs := wrapOf b ++ ys) (by rw [kind_append _ ys (by omega)]; exact hk)
  have hb : bodyOf (wrapOf b ++ ys) = b := by
    have e : bodyOf (wrapOf b ++ ys) = bodyOf (wrapOf b) := by unfold bodyOf; rw [hl, drop_take_append _ ys 3 _ (by rw [wrap_len]; omega)]
    rw [e]; exact wrap_body
  have hd : (wrapOf b ++ ys).drop (lenOf (wrapOf b ++ ys) + 5) = ys := by
    rw [hl, wrap_len, ← hn, List.drop_left]
  rw [hb, hd] at f1
  rw [hd] at f2 f3
  exact ⟨f1, f2, f3⟩
/-- Bytes without a mark ahead of others hide nothing. -/
theorem plain_fed (ys : List Int) : ∀ zs : List Int, (∀ z ∈ zs, z ≠ 126) → frs (zs ++ ys) = frs ys ∧ drp (zs ++ ys) = zs.length + drp ys ∧ rst (zs ++ ys) = rst ys
  | [], _ => ⟨rfl, by simp, rfl⟩
  | z :: zs, h => by
    have hk : kindOf (z :: zs ++ ys) = 1 := by
      unfold kindOf
      rw [if_neg (by simp), if_pos (by show z ≠ 126; exact h z (List.mem_cons_self ..))]
    obtain ⟨f1, f2, f3⟩ := fed_drop hk
    obtain ⟨g1, g2, g3⟩ := plain_fed ys zs (fun x hx => h x (List.mem_cons_of_mem _ hx))
    have hd : (z :: zs ++ ys).drop 1 = zs ++ ys := rfl
    rw [hd] at f1 f2 f3
    rw [f1, f2, f3, g1, g2, g3]
    exact ⟨rfl, by simp only [List.length_cons]; omega, rfl⟩
theorem fed_nil : frs [] = [] ∧ drp [] = 0 ∧ rst [] = [] := fed_none rfl
end Go.Proofs.Ytmdbpoknehafaaa
