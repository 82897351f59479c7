/-
  Words of texts that are put together; where a text is wrong, with something else behind.
-/
import Derived.Test.YtlfcihanhfabmaaGreatDoorNtQ
namespace Go.Proofs.YtlfcihanhfabmaaGreatDoor
/-- The last byte and the first one behind make one word. -/
def joint : W8 → W8 → Bool
  | [], _ => false
  | [c], r => plainB c && plainH r
  | _ :: d :: a, r => joint (d :: a) r
theorem lex_head {p : Nat} {s : W8} (h : plainH s = true) : lex p s ≠ [] := by
  cases s with
  | nil => cases h
  | cons c s =>
    have hc : plainB c = true := h
    have hn : c ≠ 32 := by rintro rfl; rw [plainB_blank] at hc; cases hc
    unfold lex
    rw [if_neg hn]
    split
    · unfold glue; split <;> simp
    · simp
theorem glue_app {p : Nat} {c : UInt8} {a b : List (Nat × W8)} (h : a ≠ []) : glue p c (a ++ b) = glue p c a ++ b := by
  cases a with
  | nil => exact absurd rfl h
  | cons t a => rfl
theorem lex_cons (p : Nat) (c : UInt8) (s : W8) : lex p (c :: s) = if c = 32 then lex (p + 1) s else if plainB c && plainH s then glue p c (lex (p + 1) s) else (p, [c]) :: lex (p + 1) s := rfl
theorem lex_split : ∀ (a r : W8) (p : Nat), joint a r = false → lex p (a ++ r) = lex p a ++ lex (p + a.length) r
  | [], _, _, _ => rfl
  | [c], r, p, h => by
    have h' : (plainB c && plainH r) = false := h
    show lex p (c :: r) = lex p [c] ++ lex (p + 1) r
    rw [lex_cons, lex_cons]
    by_cases h32 : c = 32
    · rw [if_pos h32, if_pos h32]; rfl
    · rw [if_neg h32, if_neg h32, h']
      have : (plainB c && plainH []) = false := by unfold plainH; simp
      rw [this]
      rfl
  | c :: d :: a, r, p, h => by
    have ih := lex_split (d :: a) r (p + 1) h
    show lex p (c :: ((d :: a) ++ r)) = lex p (c :: d :: a) ++ lex (p + (a.length + 1 + 1)) r
    have e : p + 1 + (d :: a).length = p + (a.length + 1 + 1) := by simp; omega
    rw [e] at ih
    have eh : plainH ((d :: a) ++ r) = plainH (d :: a) := rfl
    rw [lex_cons, lex_cons p c (d :: a), eh, ih]
    by_cases h32 : c = 32
    · rw [if_pos h32, if_pos h32]
    rw [if_neg h32, if_neg h32]
    rcases hp : (plainB c && plainH (d :: a)) with _ | _
    · rw [if_neg (by simp), if_neg (by simp)]; rfl
    · rw [if_pos rfl, if_pos rfl]
      refine glue_app (lex_head ?_)
      rw [Bool.and_eq_true] at hp
      exact hp.2
/-- A word in its place. -/
structure WordAt (s : W8) (p : Nat) (x : W8) : Prop where
  lt : p < s.length
  bl : blanks (s.drop p) = 0
  is : x = (s.drop p).take (wordN (s.drop p))
theorem cur_tail {s : W8} {t : Nat × W8} {r : List (Nat × W8)} (h : Cur s (t :: r)) : Cur s r := by
  obtain ⟨pre, hp⟩ := h.tail
  exact (cur_of h.le ⟨pre ++ [t], by rw [hp]; simp⟩ h.rest).2.2
theorem word_of {s : W8} {p i : Nat} {x : W8} {r : List (Nat × W8)} (_hi : i ≤ s.length) (hl : lex i (s.drop i) = (p, x) :: r) : WordAt s p x := by
  have hz := blanks_drop (s.drop i)
  rw [lex_blanks, List.drop_drop] at hl
  rw [List.drop_drop] at hz
  generalize i + blanks (s.drop i) = m at *
  by_cases h0 : s.drop m = []
  · rw [h0] at hl; cases hl
  · rw [lex_word m _ hz h0] at hl
    cases hl
    refine ⟨?_, hz, rfl⟩
    rcases Nat.lt_or_ge p s.length with h | h
    · exact h
    · exact absurd (List.drop_eq_nil_iff.2 h) h0
theorem cur_go {s : W8} : ∀ (pre ts : List (Nat × W8)), Cur s (pre ++ ts) → (∀ p x r, pre ++ ts = (p, x) :: r → WordAt s p x) → Cur s ts ∧ ∀ p x r, ts = (p, x) :: r → WordAt s p x
  | [], _, h, k => ⟨h, k⟩
  | t :: pre, ts, h, _ => cur_go pre ts (cur_tail h) (fun p x r e => word_of h.le (by rw [h.rest]; exact e))
theorem cur_all {s : W8} (pre ts : List (Nat × W8)) (h : lex 0 s = pre ++ ts) : Cur s ts ∧ ∀ p x r, ts = (p, x) :: r → WordAt s p x := by
  have base := (cur_of (s := s) (i := 0) (Nat.zero_le _) ⟨[], rfl⟩ (by rw [List.drop_zero] : lex 0 (s.drop 0) = lex 0 s)).2.2
  rw [h] at base
  exact cur_go pre ts base (fun p x r e => word_of (i := 0) (Nat.zero_le _) (by rw [List.drop_zero, h]; exact e))
theorem word_len {s : W8} {p : Nat} {x : W8} (h : WordAt s p x) : x.length = wordN (s.drop p) ∧ p + x.length ≤ s.length := by
  have := wordN_le (s.drop p)
  rw [List.length_drop] at this
  have hl := h.lt
  rw [h.is, List.length_take, List.length_drop]
  constructor
  · omega
  · omega
theorem joint_one {c : UInt8} {r : W8} (h : plainB c = false) : joint [c] r = false := by show (plainB c && plainH r) = false; rw [h]; rfl
theorem joint_last : ∀ (a : W8) (c : UInt8) (r : W8), joint (a ++ [c]) r = (plainB c && plainH r)
  | [], _, _ => rfl
  | [_], _, _ => rfl
  | _ :: e :: a, c, r => joint_last (e :: a) c r
/-- The text up to a word's end, and something behind that does not go on with the word. -/
theorem word_joint {s : W8} {p : Nat} {x r : W8} (h : WordAt s p x) (hr : plainH r = true → plains (s.drop p) = 0) : joint (s.take (p + x.length)) r = false := by
  obtain ⟨hl, hle⟩ := word_len h
  have hx : 0 < x.length := by
    rw [hl]
    unfold wordN
    have hn : s.drop p ≠ [] := fun e => by have := List.drop_eq_nil_iff.1 e; have := h.lt; omega
    by_cases h0 : plains (s.drop p) = 0
    · rw [if_pos h0, if_neg hn]; omega
    · rw [if_neg h0]; omega
  obtain ⟨q, hq⟩ : ∃ q, p + x.length = q + 1 := ⟨p + x.length - 1, by omega⟩
  have hql : q < s.length := by omega
  rw [hq, List.take_add_one]
  have hg : s[q]? = some s[q] := by simp [hql]
  rw [hg]
  show joint (s.take q ++ [s[q]]) r = false
  rw [joint_last]
  rcases hpr : plainH r with _ | _
  · simp
  · have h0 := hr hpr
    have hw : wordN (s.drop p) = 1 := by
      unfold wordN
      have hn : s.drop p ≠ [] := fun e => by have := List.drop_eq_nil_iff.1 e; have := h.lt; omega
      rw [if_pos h0, if_neg hn]
    have hqp : q = p := by omega
    subst hqp
    have : plainB s[q] = false := plains_no (i := q) (by rw [h0]; simp)
    rw [this]; rfl
/-- What is behind a word does not go on with it. -/
theorem word_end {s : W8} {p : Nat} {x : W8} (h : WordAt s p x) : plainH (s.drop (p + x.length)) = true → plains (s.drop p) = 0 := by
  intro hp
  rcases Nat.eq_zero_or_pos (plains (s.drop p)) with h0 | h0
  · exact h0
  · exfalso
    obtain ⟨hl, hle⟩ := word_len h
    have hw : wordN (s.drop p) = plains (s.drop p) := by unfold wordN; rw [if_neg (by omega)]
    rw [hl, hw] at hp
    rcases hd : s.drop (p + plains (s.drop p)) with _ | ⟨c, r⟩
    · rw [hd] at hp; cases hp
    · have hc : s[p + plains (s.drop p)]? = some c := by
        have := List.getElem?_drop (xs := s) (i := p + plains (s.drop p)) (j := 0)
        rw [hd] at this
        simpa using this.symm
      rw [hd] at hp
      have h2 := plains_no hc
      have h3 : plainB c = true := hp
      rw [h2] at h3; cases h3
theorem lex_upto {s : W8} {pre post : List (Nat × W8)} {p : Nat} {x : W8} (h : lex 0 s = pre ++ (p, x) :: post) (r : W8) (hr : plainH r = true → plains (s.drop p) = 0) : lex 0 (s.take (p + x.length) ++ r) = pre ++ (p, x) :: lex (p + x.length) r := by
  obtain ⟨hc, hw⟩ := cur_all pre _ h
  have hw := hw p x post rfl
  obtain ⟨hl, hle⟩ := word_len hw
  have hlen : (s.take (p + x.length)).length = p + x.length := by rw [List.length_take]; omega
  have e0 := lex_split (s.take (p + x.length)) (s.drop (p + x.length)) 0 (word_joint hw (word_end hw))
  rw [List.take_append_drop, h, Nat.zero_add, hlen] at e0
  have hrest : lex (p + x.length) (s.drop (p + x.length)) = post := hc.rest
  rw [hrest] at e0
  have e1 : lex 0 (s.take (p + x.length)) = pre ++ [(p, x)] := by
    have : (pre ++ [(p, x)]) ++ post = lex 0 (s.take (p + x.length)) ++ post := by rw [← e0]; simp
    exact (List.append_cancel_right this).symm
  rw [lex_split _ r 0 (word_joint hw hr), Nat.zero_add, hlen, e1]
  simp
theorem parse_err {s : W8} (h : (parseA s).e = 4) : s.length ≤ 1024 ∧ ∃ k, wholeP (wds (lex 0 s)) = .error k ∧ parseA s = ⟨[], plc s k, 4⟩ := by
  unfold parseA at h
  split at h
  · simp at h
  · rename_i h1
    have e0 : parseA s = match wholeP (wds (lex 0 s)) with
      | .error k => ⟨[], plc s k, 4⟩
      | .ok g => if 32 < g.ns.length then ⟨[], s.length, 6⟩ else ⟨g.ns, 0, 0⟩ := by unfold parseA; rw [if_neg h1]; rfl
    refine ⟨by omega, ?_⟩
    rcases hr : wholeP (wds (lex 0 s)) with k | g
    · rw [hr] at e0
      exact ⟨k, rfl, e0⟩
    · rw [hr] at h
      dsimp only at h
      split at h <;> simp at h
theorem parse_of_err {s : W8} {k : Nat} (h0 : s.length ≤ 1024) (h : wholeP (wds (lex 0 s)) = .error k) : parseA s = ⟨[], plc s k, 4⟩ := by
  unfold parseA
  rw [if_neg (by omega), h]
theorem whole_fine (ws : List W8) : Fine (wholeP ws) ws [] := by
  unfold wholeP
  refine (fine_or (fine_pU _ 0) ws []).bnd (fun g hg => ?_)
  have hF := fine_or (fine_pU (ws.length + 1) 0) ws []
  rw [hg] at hF
  split
  · exact ⟨Tail.rfl, ⟨[], by simp⟩, hF.2.2.1, Nat.le_refl _⟩
  · exact Nat.le_refl _
/-- Where a text is wrong it is wrong, whatever stands behind the word. -/
theorem place_is {s r : W8} {at_ e : Nat} (h4 : (parseA s).e = 4) (hat : (parseA s).at_ = at_) (hlt : at_ < s.length) (he : ∀ x, WordAt s at_ x → at_ + x.length ≤ e) (_hes : e ≤ s.length) (hr : plainH r = false) (hlong : (s.take e ++ r).length ≤ 1024) : parseA (s.take e ++ r) = ⟨[], at_, 4⟩ := by
  obtain ⟨hs, k, hk, hp⟩ := parse_err h4
  have hF := whole_fine (wds (lex 0 s))
  rw [hk] at hF
  have hkl : k ≤ (lex 0 s).length := by
    have : k ≤ (wds (lex 0 s)).length := hF
    rwa [wds_length] at this
  have hplc : plc s k = at_ := by rw [hp] at hat; exact hat
  unfold plc at hplc
  obtain ⟨pre, ts, hts, hsp⟩ : ∃ pre ts, (lex 0 s).drop ((lex 0 s).length - k) = ts ∧ lex 0 s = pre ++ ts := ⟨(lex 0 s).take ((lex 0 s).length - k), _, rfl, (List.take_append_drop _ _).symm⟩
  have htl : ts.length = k := by rw [← hts, List.length_drop]; omega
  rw [hts] at hplc
  cases ts with
  | nil => exact absurd hplc (by show ¬ s.length = at_; omega)
  | cons t post =>
    obtain ⟨p, x⟩ := t
    have hpa : p = at_ := hplc
    subst hpa
    have hw := (cur_all pre _ hsp).2 p x post rfl
    have hxe := he x hw
    obtain ⟨hl, hle⟩ := word_len hw
    -- the longer text, parted behind the word
    have e1 : s.take e ++ r = s.take (p + x.length) ++ ((s.drop (p + x.length)).take (e - (p + x.length)) ++ r) := by
      have : s.take e = s.take (p + x.length) ++ (s.drop (p + x.length)).take (e - (p + x.length)) := by
        have h1 : e = (p + x.length) + (e - (p + x.length)) := by omega
        conv => lhs; rw [h1, List.take_add]
      rw [this, List.append_assoc]
    have e2 := lex_upto hsp ((s.drop (p + x.length)).take (e - (p + x.length)) ++ r) (fun hh => by
      refine word_end hw ?_
      rcases hd : s.drop (p + x.length) with _ | ⟨c, q⟩
      · rw [hd] at hh
        rw [List.take_nil, List.nil_append, hr] at hh; cases hh
      · rw [hd] at hh
        rcases hz : e - (p + x.length) with _ | m
        · rw [hz, List.take_zero, List.nil_append, hr] at hh; cases hh
        · rw [hz] at hh; exact hh)
    rw [← e1] at e2
    have hk1 : k = (wds post).length + 1 := by rw [wds_length]; simpa using htl.symm
    have hw1 : wds (lex 0 s) = (wds pre ++ [x]) ++ wds post := by rw [hsp]; simp [wds]
    have hw2 : wds (lex 0 (s.take e ++ r)) = (wds pre ++ [x]) ++ wds (lex (p + x.length) ((s.drop (p + x.length)).take (e - (p + x.length)) ++ r)) := by rw [e2]; simp [wds]
    rw [hw1, hk1] at hk
    have hk2 := whole_place (u1 := wds (lex (p + x.length) ((s.drop (p + x.length)).take (e - (p + x.length)) ++ r))) hk
    rw [← hw2] at hk2
    rw [parse_of_err hlong hk2]
    congr 1
    unfold plc
    rw [e2, wds_length]
    simp only [List.length_append, List.length_cons]
    rw [show pre.length + ((lex (p + x.length) ((s.drop (p + x.length)).take (e - (p + x.length)) ++ r)).length + 1) - ((lex (p + x.length) ((s.drop (p + x.length)).take (e - (p + x.length)) ++ r)).length + 1) = pre.length by omega, List.drop_left]
    rfl
end Go.Proofs.YtlfcihanhfabmaaGreatDoor
