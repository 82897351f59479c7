/-
  What nodes behind a formula tell, over lists alone: as in any logic; windows; tick by tick.
-/
import Derived.Test.YtgbaibnlfmeklaaFoL
namespace Go.Proofs.Ytgbaibnlfmeklaa
/-- A formula, with nodes behind it, may be, and tells so. -/
def TextIs (L M : List Nd) (C : List Ch) (T : List (List Rd)) (S : ByteArray) : Prop := chk (L ++ M) (C.length : Int) = 0 ∧ bitsOf (val (L ++ M) C T ((L ++ M).length - 1)) T.length = S
theorem chk_more {L M : List Nd} {n : Int} (hc : chk L n = 0) (hM : okFrom n L.length M = true) (hl : L.length + M.length ≤ 32) : chk (L ++ M) n = 0 := by
  obtain ⟨c1, c2, c3, c4, c5⟩ := chk_zero hc
  unfold chk
  rw [List.length_append, if_neg (by omega), if_neg (by omega), if_neg (by omega), if_pos]
  unfold okAll
  rw [okFrom_append, Nat.zero_add, hM, Bool.and_true]
  exact c5
theorem val_snoc {L M : List Nd} {n : Int} (h : okAll (L ++ M) n = true) (C : List Ch) (T : List (List Rd)) {q : Nat} {x : Nd} (hx : M[q]? = some x) (t : Nat) : val (L ++ M) C T (L.length + q) t = stepv x C T (val (L ++ M) C T) t :=
  val_eq h C T (by rw [List.getElem?_append_right (by omega), show L.length + q - L.length = q by omega]; exact hx) t
theorem textIs_of {L M : List Nd} {C : List Ch} {T : List (List Rd)} (hc : chk L (C.length : Int) = 0) (hM : okFrom (C.length : Int) L.length M = true) (hl : L.length + M.length ≤ 32) {q : Nat} (hq : M.length = q + 1) {f : Nat → Bool}
    (hf : okAll (L ++ M) (C.length : Int) = true → (∀ j t, j < L.length → val (L ++ M) C T j t = val L C T j t) → ∀ t, val (L ++ M) C T (L.length + q) t = f t) : TextIs L M C T (bitsOf f T.length) := by
  have h1 := chk_more hc hM hl
  refine ⟨h1, ?_⟩
  have e : (L ++ M).length - 1 = L.length + q := by rw [List.length_append, hq]; omega
  rw [e]
  exact bitsOf_congr (fun t _ => hf (chk_zero h1).2.2.2.2 (fun j t hj => val_more (chk_zero hc).2.2.2.2 M C T hj t) t)
theorem tx_notnot {L : List Nd} {C : List Ch} {T : List (List Rd)} {m : Nat} (hm : L.length = m + 1) (hc : chk L (C.length : Int) = 0) (hl : L.length + 8 ≤ 32) : TextIs L [⟨6, (m : Int), 0, 0⟩, ⟨6, (L.length : Int), 0, 0⟩] C T (bitsOf (val L C T m) T.length) := by
  refine textIs_of hc (by simp [okFrom, okN, idx]; omega) (by simp; omega) (q := 1) rfl (fun h ho t => ?_)
  rw [val_snoc h C T (q := 1) rfl]
  have h0 := fun s => val_snoc h C T (q := 0) (x := ⟨6, (m : Int), 0, 0⟩) rfl s
  simp only [Nat.add_zero] at h0
  simp [stepv, h0, ho m _ (by omega)]
theorem tx_and {L : List Nd} {C : List Ch} {T : List (List Rd)} {m : Nat} (hm : L.length = m + 1) (hc : chk L (C.length : Int) = 0) (hl : L.length + 8 ≤ 32) : TextIs L [⟨7, (m : Int), (m : Int), 0⟩] C T (bitsOf (val L C T m) T.length) := by
  refine textIs_of hc (by simp [okFrom, okN, idx]; omega) (by simp; omega) (q := 0) rfl (fun h ho t => ?_)
  rw [val_snoc h C T (q := 0) rfl]
  simp [stepv, ho m _ (by omega)]
theorem tx_or {L : List Nd} {C : List Ch} {T : List (List Rd)} {m : Nat} (hm : L.length = m + 1) (hc : chk L (C.length : Int) = 0) (hl : L.length + 8 ≤ 32) : TextIs L [⟨8, (m : Int), (m : Int), 0⟩] C T (bitsOf (val L C T m) T.length) := by
  refine textIs_of hc (by simp [okFrom, okN, idx]; omega) (by simp; omega) (q := 0) rfl (fun h ho t => ?_)
  rw [val_snoc h C T (q := 0) rfl]
  simp [stepv, ho m _ (by omega)]
theorem tx_nand {L : List Nd} {C : List Ch} {T : List (List Rd)} {m : Nat} (hm : L.length = m + 1) (hc : chk L (C.length : Int) = 0) (hl : L.length + 8 ≤ 32) : TextIs L [⟨7, (m : Int), 0, 0⟩, ⟨6, (L.length : Int), 0, 0⟩] C T (bitsOf (fun t => !val L C T m t || !val L C T 0 t) T.length) := by
  refine textIs_of hc (by simp [okFrom, okN, idx]; omega) (by simp; omega) (q := 1) rfl (fun h ho t => ?_)
  rw [val_snoc h C T (q := 1) rfl]
  have h0 := fun s => val_snoc h C T (q := 0) (x := ⟨7, (m : Int), 0, 0⟩) rfl s
  simp only [Nat.add_zero] at h0
  simp [stepv, h0, ho m _ (by omega), ho 0 _ (by omega)]
theorem tx_nors {L : List Nd} {C : List Ch} {T : List (List Rd)} {m : Nat} (hm : L.length = m + 1) (hc : chk L (C.length : Int) = 0) (hl : L.length + 8 ≤ 32) : TextIs L [⟨6, (m : Int), 0, 0⟩, ⟨6, 0, 0, 0⟩, ⟨8, (L.length : Int), (L.length : Int) + 1, 0⟩] C T (bitsOf (fun t => !val L C T m t || !val L C T 0 t) T.length) := by
  refine textIs_of hc (by simp [okFrom, okN, idx]; omega) (by simp; omega) (q := 2) rfl (fun h ho t => ?_)
  rw [val_snoc h C T (q := 2) rfl]
  have h0 := fun s => val_snoc h C T (q := 0) (x := ⟨6, (m : Int), 0, 0⟩) rfl s
  have h1 := fun s => val_snoc h C T (q := 1) (x := ⟨6, 0, 0, 0⟩) rfl s
  have e1 : ((L.length : Int) + 1).toNat = L.length + 1 := by omega
  simp only [Nat.add_zero] at h0
  simp [stepv, h0, h1, e1, ho m _ (by omega), ho 0 _ (by omega)]
theorem tx_once {L : List Nd} {C : List Ch} {T : List (List Rd)} {m : Nat} (hm : L.length = m + 1) (hc : chk L (C.length : Int) = 0) (hl : L.length + 1 ≤ 32) {N : Nat} (hN : N ≤ 64) : TextIs L [⟨10, (m : Int), 0, (N : Int)⟩] C T (bitsOf (fun t => anyW (val L C T m) (t - N) t) T.length) := by
  refine textIs_of hc (by simp [okFrom, okN, idx]; omega) (by simp; omega) (q := 0) rfl (fun h ho t => ?_)
  rw [val_snoc h C T (q := 0) rfl]
  simp only [stepv]
  simp
  exact anyW_congr (fun s _ => ho m s (by omega))
theorem tx_hist {L : List Nd} {C : List Ch} {T : List (List Rd)} {m : Nat} (hm : L.length = m + 1) (hc : chk L (C.length : Int) = 0) (hl : L.length + 1 ≤ 32) {N : Nat} (hN : N ≤ 64) : TextIs L [⟨11, (m : Int), 0, (N : Int)⟩] C T (bitsOf (fun t => !anyW (fun s => !val L C T m s) (t - N) t) T.length) := by
  refine textIs_of hc (by simp [okFrom, okN, idx]; omega) (by simp; omega) (q := 0) rfl (fun h ho t => ?_)
  rw [val_snoc h C T (q := 0) rfl]
  simp only [stepv]
  simp
  exact anyW_congr (fun s _ => by rw [ho m s (by omega)])
theorem tx_nothist {L : List Nd} {C : List Ch} {T : List (List Rd)} {m : Nat} (hm : L.length = m + 1) (hc : chk L (C.length : Int) = 0) (hl : L.length + 8 ≤ 32) {N : Nat} (hN : N ≤ 64) : TextIs L [⟨6, (m : Int), 0, 0⟩, ⟨11, (L.length : Int), 0, (N : Int)⟩, ⟨6, (L.length : Int) + 1, 0, 0⟩] C T (bitsOf (fun t => anyW (val L C T m) (t - N) t) T.length) := by
  refine textIs_of hc (by simp [okFrom, okN, idx]; omega) (by simp; omega) (q := 2) rfl (fun h ho t => ?_)
  rw [val_snoc h C T (q := 2) rfl]
  have h0 := fun s => val_snoc h C T (q := 0) (x := ⟨6, (m : Int), 0, 0⟩) rfl s
  have h1 := val_snoc h C T (q := 1) (x := ⟨11, (L.length : Int), 0, (N : Int)⟩) rfl t
  have e1 : ((L.length : Int) + 1).toNat = L.length + 1 := by omega
  simp only [Nat.add_zero] at h0
  simp only [stepv] at h0 h1 ⊢
  simp [e1, h1]
  refine anyW_congr (fun s _ => ?_)
  rw [h0]
  simp [ho m s (by omega)]
theorem tx_once0 {L : List Nd} {C : List Ch} {T : List (List Rd)} {m : Nat} (hm : L.length = m + 1) (hc : chk L (C.length : Int) = 0) (hl : L.length + 8 ≤ 32) : TextIs L [⟨10, (m : Int), 0, 0⟩] C T (bitsOf (val L C T m) T.length) := by
  have := tx_once (T := T) hm hc (by omega) (N := 0) (by omega)
  refine ⟨this.1, this.2.trans (bitsOf_congr (fun t _ => ?_))⟩
  show anyW (val L C T m) (t - 0) t = _
  rw [Nat.sub_zero, anyW_one]
theorem tx_hist0 {L : List Nd} {C : List Ch} {T : List (List Rd)} {m : Nat} (hm : L.length = m + 1) (hc : chk L (C.length : Int) = 0) (hl : L.length + 8 ≤ 32) : TextIs L [⟨11, (m : Int), 0, 0⟩] C T (bitsOf (val L C T m) T.length) := by
  have := tx_hist (T := T) hm hc (by omega) (N := 0) (by omega)
  refine ⟨this.1, this.2.trans (bitsOf_congr (fun t _ => ?_))⟩
  show (!anyW (fun s => !val L C T m s) (t - 0) t) = _
  rw [Nat.sub_zero, anyW_one, Bool.not_not]
theorem tx_since {L : List Nd} {C : List Ch} {T : List (List Rd)} {m : Nat} (hm : L.length = m + 1) (hc : chk L (C.length : Int) = 0) (hl : L.length + 6 ≤ 32) : TextIs L [⟨12, 0, (m : Int), 0⟩] C T (bitsOf (fun t => sinc (val L C T 0) (val L C T m) t) T.length) := by
  refine textIs_of hc (by simp [okFrom, okN, idx]; omega) (by simp; omega) (q := 0) rfl (fun h ho t => ?_)
  rw [val_snoc h C T (q := 0) rfl]
  simp only [stepv]
  simp
  exact sinc_congr (fun s _ => ho 0 s (by omega)) (fun s _ => ho m s (by omega))
theorem tx_since4 {L : List Nd} {C : List Ch} {T : List (List Rd)} {m : Nat} (hm : L.length = m + 1) (hc : chk L (C.length : Int) = 0) (hl : L.length + 6 ≤ 32) : TextIs L [⟨12, 0, (m : Int), 0⟩, ⟨9, (L.length : Int), 0, 0⟩, ⟨7, 0, (L.length : Int) + 1, 0⟩, ⟨8, (m : Int), (L.length : Int) + 2, 0⟩] C T (bitsOf (fun t => sinc (val L C T 0) (val L C T m) t) T.length) := by
  refine textIs_of hc (by simp [okFrom, okN, idx]; omega) (by simp; omega) (q := 3) rfl (fun h ho t => ?_)
  rw [val_snoc h C T (q := 3) rfl]
  have h0 := fun s => val_snoc h C T (q := 0) (x := ⟨12, 0, (m : Int), 0⟩) rfl s
  have h1 := val_snoc h C T (q := 1) (x := ⟨9, (L.length : Int), 0, 0⟩) rfl t
  have h2 := val_snoc h C T (q := 2) (x := ⟨7, 0, (L.length : Int) + 1, 0⟩) rfl t
  have e1 : ((L.length : Int) + 1).toNat = L.length + 1 := by omega
  have e2 : ((L.length : Int) + 2).toNat = L.length + 2 := by omega
  have hs : ∀ s, val (L ++ [⟨12, 0, (m : Int), 0⟩, ⟨9, (L.length : Int), 0, 0⟩, ⟨7, 0, (L.length : Int) + 1, 0⟩, ⟨8, (m : Int), (L.length : Int) + 2, 0⟩]) C T L.length s = sinc (val L C T 0) (val L C T m) s := fun s => by
    have := h0 s
    simp only [Nat.add_zero] at this
    rw [this]
    simp only [stepv]
    simp
    exact sinc_congr (fun s _ => ho 0 s (by omega)) (fun s _ => ho m s (by omega))
  simp only [stepv] at h1 h2 ⊢
  simp [e1, e2, h2, h1, hs, ho m _ (by omega), ho 0 _ (by omega)]
  cases t with
  | zero => simp [sinc]
  | succ t => simp [sinc]
theorem tx_once3 {L : List Nd} {C : List Ch} {T : List (List Rd)} {m : Nat} (hm : L.length = m + 1) (hc : chk L (C.length : Int) = 0) (hl : L.length + 6 ≤ 32) {N : Nat} (hN : N ≤ 63) : TextIs L [⟨10, (m : Int), 0, (N : Int)⟩, ⟨9, (L.length : Int), 0, 0⟩, ⟨8, (m : Int), (L.length : Int) + 1, 0⟩] C T (bitsOf (fun t => anyW (val L C T m) (t - (N + 1)) t) T.length) := by
  refine textIs_of hc (by simp [okFrom, okN, idx]; omega) (by simp; omega) (q := 2) rfl (fun h ho t => ?_)
  rw [val_snoc h C T (q := 2) rfl]
  have h0 := fun s => val_snoc h C T (q := 0) (x := ⟨10, (m : Int), 0, (N : Int)⟩) rfl s
  have h1 := val_snoc h C T (q := 1) (x := ⟨9, (L.length : Int), 0, 0⟩) rfl t
  have e1 : ((L.length : Int) + 1).toNat = L.length + 1 := by omega
  have hs : ∀ s, val (L ++ [⟨10, (m : Int), 0, (N : Int)⟩, ⟨9, (L.length : Int), 0, 0⟩, ⟨8, (m : Int), (L.length : Int) + 1, 0⟩]) C T L.length s = anyW (val L C T m) (s - N) s := fun s => by
    have := h0 s
    simp only [Nat.add_zero] at this
    rw [this]
    simp only [stepv]
    simp
    exact anyW_congr (fun s _ => ho m s (by omega))
  simp only [stepv] at h1 ⊢
  simp [e1, h1, hs, ho m _ (by omega)]
  rcases he : anyW (val L C T m) (t - (N + 1)) t with _ | _
  · rw [anyW_false] at he
    rw [he t (by omega) (Nat.le_refl _), Bool.false_or]
    rcases Nat.eq_zero_or_pos t with h0 | h0
    · subst h0; rfl
    · have : anyW (val L C T m) (t - 1 - N) (t - 1) = false := anyW_false.2 (fun s h1 h2 => he s (by omega) (by omega))
      rw [this, Bool.and_false]
  · rw [anyW_true] at he
    obtain ⟨s, h1, h2, h3⟩ := he
    rcases Nat.lt_or_ge s t with h4 | h4
    · have : anyW (val L C T m) (t - 1 - N) (t - 1) = true := anyW_true.2 ⟨s, by omega, by omega, h3⟩
      rw [this, decide_eq_true (show 0 < t by omega)]
      simp
    · obtain rfl : s = t := by omega
      rw [h3, Bool.true_or]
end Go.Proofs.Ytgbaibnlfmeklaa
