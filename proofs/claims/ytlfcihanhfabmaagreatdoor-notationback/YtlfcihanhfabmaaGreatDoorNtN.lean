/-
  Formulas as trees, further: the words of what is written, how long it is, what the program writes, what holds; over lists alone.
-/
import Derived.Test.YtlfcihanhfabmaaGreatDoorNtM
namespace Go.Proofs.YtlfcihanhfabmaaGreatDoor
/-- All bytes are of longer words. -/
def allP (w : W8) : Bool := w.all plainB
theorem wof_plain : ∀ (w : W8), w ≠ [] → allP w = true → wof w = [w]
  | [], h, _ => absurd rfl h
  | [c], _, h => by
    have hc : plainB c = true := by simpa [allP] using h
    have h32 : c ≠ 32 := by rintro rfl; rw [plainB_blank] at hc; cases hc
    show (if c = 32 then _ else if plainB c && false then _ else [c] :: []) = _
    rw [if_neg h32, Bool.and_false, if_neg (by simp)]
  | c :: d :: r, _, h => by
    simp only [allP, List.all_cons, Bool.and_eq_true] at h
    have ih := wof_plain (d :: r) (by simp) (by simp only [allP, List.all_cons, Bool.and_eq_true]; exact h.2)
    have h32 : c ≠ 32 := by rintro rfl; rw [plainB_blank] at h; cases h.1
    show (if c = 32 then _ else if plainB c && plainB d then glueW c (wof (d :: r)) else _) = _
    rw [if_neg h32, h.1, h.2.1, Bool.and_self, if_pos rfl, ih]
    rfl
theorem wof_blank (s t : W8) : wof (s ++ 32 :: t) = wof s ++ wof t := by
  rw [(wof_append (c := 32) (by decide) t s).1]
  rfl
theorem wof_brk (s : W8) : wof (40 :: (s ++ [41])) = [40] :: (wof s ++ [[41]]) := by
  have h1 : ∀ t, wof (40 :: t) = [40] :: wof t := fun t => by
    show (if (40 : UInt8) = 32 then _ else if plainB 40 && plainH t then _ else _) = _
    rw [if_neg (by decide), show plainB 40 = false from by decide, Bool.false_and, if_neg (by simp)]
  rw [h1, (wof_append (c := 41) (by decide) [] s).1]
  rfl
theorem wof_brt {p : Pt} (h : wof p.tx = p.ws) (m : Nat) : wof (brt p m) = brk p m := by
  unfold brt brk
  split
  · rw [wof_brk, h]
  · exact h
theorem plain_digit (n : Nat) (h : n < 10) : plainB (UInt8.ofNat (48 + n)) = true := by
  rcases (by omega : n = 0 ∨ n = 1 ∨ n = 2 ∨ n = 3 ∨ n = 4 ∨ n = 5 ∨ n = 6 ∨ n = 7 ∨ n = 8 ∨ n = 9) with rfl | rfl | rfl | rfl | rfl | rfl | rfl | rfl | rfl | rfl <;> decide
theorem plain_dig (n : Nat) (h : n < 100) : allP (dig n) = true ∧ dig n ≠ [] := by
  unfold dig allP
  split
  · rename_i h1
    exact ⟨by rw [List.all_cons, plain_digit n h1]; rfl, by simp⟩
  · exact ⟨by rw [List.all_cons, List.all_cons, plain_digit (n / 10) (by omega), plain_digit (n % 10) (by omega)]; rfl, by simp⟩
theorem plain_chan (n : Nat) (h : n < 100) : allP (chanW n) = true ∧ chanW n ≠ [] := by
  refine ⟨?_, List.cons_ne_nil _ _⟩
  have := (plain_dig n h).1
  unfold allP at this ⊢
  unfold chanW
  rw [List.all_cons, this]
  rfl
theorem plain_of_dig {l : List UInt8} (h : L1.digB l = true) : allP l = true := by
  unfold L1.digB at h
  unfold allP
  rw [List.all_eq_true] at h ⊢
  intro c hc
  have := h c hc
  simp only [decide_eq_true_eq] at this
  unfold plainB
  simp only [Bool.or_eq_true, Bool.and_eq_true, decide_eq_true_eq]
  omega
theorem plain_dgB (d : Int) (h0 : 0 ≤ d) (h9 : d ≤ 9) : plainB (L1.dgB d) = true := by
  obtain ⟨n, rfl⟩ : ∃ n : Nat, d = n := ⟨d.toNat, by omega⟩
  have : L1.dgB (n : Int) = UInt8.ofNat (48 + n) := by unfold L1.dgB; congr 1
  rw [this]
  exact plain_digit n (by omega)
theorem plain_part (p : Int) (h0 : 0 ≤ p) (h1 : p < 1000) : allP (L1.partL p) = true := by
  have p46 : plainB 46 = true := by decide
  have k1 := plain_dgB (p / 100) (by omega) (by omega)
  have k2 := plain_dgB (p % 100 / 10) (by omega) (by omega)
  have k3 := plain_dgB (p % 10) (by omega) (by omega)
  unfold L1.partL allP
  split
  · rfl
  split
  · simp [p46, k1]
  split
  · simp [p46, k1, k2]
  · simp [p46, k1, k2, k3]
theorem plain_text (v : Int) : allP (L1.textL v) = true ∧ L1.textL v ≠ [] := by
  have c1 := L1.cl_lo v; have c2 := L1.cl_hi v
  have a1 : 0 ≤ L1.ab (L1.cl v) := by rw [L1.ab_def]; omega
  have hi : Lib.itoa (L1.ab (L1.cl v) / 1000) = Lib.decDigits (L1.ab (L1.cl v) / 1000).toNat := by
    unfold Lib.itoa
    rw [if_neg (by omega)]
  have hd := plain_of_dig (L1.dec_dig (L1.ab (L1.cl v) / 1000).toNat)
  have hp := plain_part (L1.ab (L1.cl v) % 1000) (by omega) (by omega)
  have hpos := L1.dec_pos (L1.ab (L1.cl v) / 1000).toNat
  unfold L1.textL
  rw [hi]
  constructor
  · unfold allP at hd hp ⊢
    rw [List.all_append, List.all_append, hd, hp]
    split <;> rfl
  · intro e
    have := congrArg List.length e
    rw [List.length_append, List.length_append, List.length_nil] at this
    omega
theorem wof_word (op : Int) : wof (wordOf op) = [wordOf op] := by
  unfold wordOf
  repeat' split
  all_goals decide
theorem wof_at {x : Nd} {i : Nat} (ho : okN x (i : Int) 8 = true) (h5 : x.op ≤ 5) : wof (atP x).tx = (atP x).ws := by
  have hc : ∀ A : Nat, (A : Int) < 8 → wof (chanW A) = [chanW A] := fun A hA => wof_plain _ (plain_chan A (by omega)).2 (plain_chan A (by omega)).1
  rcases okN_cases ho with rfl | ⟨A, hA, h1, h2, e⟩ | ⟨A, hA, e⟩ | ⟨A, hA, e⟩ | ⟨A, N, hA, hN, e⟩ | ⟨A, B, hA, hB, e⟩
  · decide
  · have ht := wof_plain _ (plain_text x.n).2 (plain_text x.n).1
    rcases e with e | e
    · rw [e]
      show wof (chanW A ++ 32 :: (wordOf 1 ++ 32 :: L1.textL x.n)) = [chanW A, wordOf 1, L1.textL x.n]
      rw [wof_blank, wof_blank, hc A hA, ht, wof_word]
      rfl
    · rw [e]
      show wof (chanW A ++ 32 :: (wordOf 2 ++ 32 :: L1.textL x.n)) = [chanW A, wordOf 2, L1.textL x.n]
      rw [wof_blank, wof_blank, hc A hA, ht, wof_word]
      rfl
  · rcases e with rfl | rfl | rfl
    · show wof (chanW A ++ 32 :: wordOf 3) = [chanW A, wordOf 3]
      rw [wof_blank, hc A hA, wof_word]; rfl
    · show wof (chanW A ++ 32 :: wordOf 4) = [chanW A, wordOf 4]
      rw [wof_blank, hc A hA, wof_word]; rfl
    · show wof (chanW A ++ 32 :: wordOf 5) = [chanW A, wordOf 5]
      rw [wof_blank, hc A hA, wof_word]; rfl
  · rcases e with rfl | rfl <;> exact absurd h5 (by simp)
  · rcases e with rfl | rfl <;> exact absurd h5 (by simp)
  · rcases e with rfl | rfl | rfl <;> exact absurd h5 (by simp)
/-- The words of a text are those that were written. -/
theorem wof_tx {L : List Nd} (h : okAll L 8 = true) : ∀ i, i < L.length → wof (pt L i).tx = (pt L i).ws := by
  intro i
  induction i using Nat.strongRecOn with
  | ind i ih =>
    intro hi
    rcases pt_kinds h hi with ⟨x, _, ho, h5, e⟩ | ⟨op, nn, A, hw, ht, _, hA, e, hk⟩ | ⟨op, A, B, _, hA, hB, hop, e⟩
    · rw [e]; exact wof_at ho h5
    · have hb := wof_brt (ih A hA (by omega)) 3
      rw [e]
      show wof (ht ++ brt (pt L A) 3) = hw ++ brk (pt L A) 3
      rcases hk with ⟨_, _, rfl, rfl⟩ | ⟨N, _, _, hN, rfl, rfl⟩
      · rw [List.append_assoc]
        show wof (wordOf op ++ 32 :: brt (pt L A) 3) = _
        rw [wof_blank, wof_word, hb]
      · have e1 : wordOf op ++ 32 :: (dig N ++ [32]) ++ brt (pt L A) 3 = wordOf op ++ 32 :: (dig N ++ 32 :: brt (pt L A) 3) := by simp
        rw [e1, wof_blank, wof_blank, wof_word, hb, wof_plain _ (plain_dig N (by omega)).2 (plain_dig N (by omega)).1]
        rfl
    · have hb1 := wof_brt (ih A hA (by omega)) (laO op)
      have hb2 := wof_brt (ih B hB (by omega)) (lbO op)
      rw [e]
      show wof (brt (pt L A) (laO op) ++ 32 :: (wordOf op ++ 32 :: brt (pt L B) (lbO op))) = brk (pt L A) (laO op) ++ wordOf op :: brk (pt L B) (lbO op)
      rw [wof_blank, wof_blank, wof_word, hb1, hb2]
      rfl
theorem brt_len (p : Pt) (m : Nat) : p.tx.length ≤ (brt p m).length ∧ (brt p m).length ≤ p.tx.length + 2 := by
  unfold brt
  split
  · simp; omega
  · omega
/-- How long a text is. -/
theorem tx_len {L : List Nd} (h : okAll L 8 = true) : ∀ i, i < L.length → ∀ b, (pt L i).tx.length + 2 ≤ 31 * ((pt L i).us b).length := by
  intro i
  induction i using Nat.strongRecOn with
  | ind i ih =>
    intro hi b
    rcases pt_kinds h hi with ⟨x, _, ho, h5, e⟩ | ⟨op, nn, A, hw, ht, _, hA, e, hk⟩ | ⟨op, A, B, _, hA, hB, hop, e⟩
    · rw [e, atP_us]
      show (atP x).tx.length + 2 ≤ 31 * 1
      unfold atP
      split
      · show wTrue.length + 2 ≤ 31 * 1
        decide
      split
      · show (chanW x.a.toNat ++ 32 :: (wordOf x.op ++ 32 :: L1.textL x.n)).length + 2 ≤ 31
        have := chanW_len x.a.toNat; have := wordOf_len x.op; have := textL_len x.n
        simp; omega
      · show (chanW x.a.toNat ++ 32 :: wordOf x.op).length + 2 ≤ 31
        have := chanW_len x.a.toNat; have := wordOf_len x.op
        simp; omega
    · have h1 := ih A hA (by omega) b
      have h2 := (brt_len (pt L A) 3).2
      rw [e]
      show (ht ++ brt (pt L A) 3).length + 2 ≤ 31 * ((pt L A).us b ++ [_]).length
      have h3 : ht.length ≤ 12 := by
        have := wordOf_len op
        rcases hk with ⟨_, _, _, rfl⟩ | ⟨N, _, _, hN, _, rfl⟩
        · simp; omega
        · have := dig_len N; simp; omega
      rw [List.length_append, List.length_append]
      simp only [List.length_cons, List.length_nil]
      omega
    · have h1 := ih A hA (by omega) b
      have h2 := ih B hB (by omega) (b + ((pt L A).us b).length)
      have h3 := (brt_len (pt L A) (laO op)).2
      have h4 := (brt_len (pt L B) (lbO op)).2
      have h5 := wordOf_len op
      rw [e]
      show (brt (pt L A) (laO op) ++ 32 :: (wordOf op ++ 32 :: brt (pt L B) (lbO op))).length + 2 ≤ 31 * ((pt L A).us b ++ (pt L B).us (b + ((pt L A).us b).length) ++ [_]).length
      simp only [List.length_append, List.length_cons, List.length_nil]
      omega
/-- A part's operation is its node's. -/
theorem pt_op {L : List Nd} (h : okAll L 8 = true) {i : Nat} {x : Nd} (hx : L[i]? = some x) : (pt L i).op = x.op := by
  have hi : i < L.length := (List.getElem?_eq_some_iff.1 hx).1
  rcases pt_kinds h hi with ⟨y, hy, ho, h5, e⟩ | ⟨op, nn, A, hw, ht, hy, hA, e, hk⟩ | ⟨op, A, B, hy, hA, hB, hop, e⟩
  · rw [hy] at hx; cases hx
    rw [e]
    unfold atP
    split
    · rename_i h0; exact h0.symm
    split <;> rfl
  · rw [hy] at hx; cases hx
    rw [e]; rfl
  · rw [hy] at hx; cases hx
    rw [e]; rfl
/-- What the program writes of a node: the text, or what is too long. -/
def Wrt (t : W8) (p : Pt) : Prop := (t = p.tx ∧ p.tx.length ≤ 1024) ∨ (1024 < p.tx.length ∧ t.length = 1025)
theorem wrt_take {t : W8} {p : Pt} (h : t = p.tx ∨ (1025 ≤ t.length ∧ 1024 < p.tx.length)) : Wrt (t.take 1025) p := by
  rcases h with rfl | ⟨h1, h2⟩
  · by_cases hl : p.tx.length ≤ 1024
    · exact .inl ⟨List.take_of_length_le (by omega), hl⟩
    · exact .inr ⟨by omega, by rw [List.length_take]; omega⟩
  · exact .inr ⟨h2, by rw [List.length_take]; omega⟩
theorem parT_wrt {L : List Nd} (h : okAll L 8 = true) {T : List W8} {k m : Nat} (hk : k < L.length) (hw : Wrt (txAt T (k : Int)) (pt L k)) : (parT L T (k : Int) m = brt (pt L k) m ∧ (pt L k).tx.length ≤ 1024) ∨ (1025 ≤ (parT L T (k : Int) m).length ∧ 1024 < (pt L k).tx.length) := by
  have hx : L[k]? = some L[k] := List.getElem?_eq_getElem hk
  have ho : (ndAt L (k : Int)).op = (pt L k).op := by
    rw [pt_op h hx]
    unfold ndAt
    simp [hk]
  unfold parT brt
  rw [ho]
  rcases hw with ⟨h1, h2⟩ | ⟨h1, h2⟩
  · rw [h1]
    exact .inl ⟨rfl, h2⟩
  · right
    refine ⟨?_, h1⟩
    split
    · simp; omega
    · omega
theorem txs_at {L : List Nd} (hok : okAll L 8 = true) {i : Nat} {x : Nd} (hx : L[i]? = some x) : (txs L L [])[i]? = some ((nodeT L (txs L L []) x).take 1025) := by
  have hi : i < L.length := (List.getElem?_eq_some_iff.1 hx).1
  have ho := okAll_at hok hx
  have key : ∀ j, j ≤ L.length → ∃ P, txs L (L.take j) [] ++ P = txs L L [] := by
    intro j hj
    have e2 : ∀ (A B : List Nd) (T : List W8), ∃ P, txs L (A ++ B) T = txs L A T ++ P := by
      intro A B
      induction B generalizing A with
      | nil => intro T; exact ⟨[], by simp⟩
      | cons y B ih =>
        intro T
        obtain ⟨P, hP⟩ := ih (A ++ [y]) T
        rw [List.append_assoc] at hP
        have : A ++ ([y] ++ B) = A ++ y :: B := rfl
        rw [this, txs_snoc] at hP
        exact ⟨_, by rw [hP, List.append_assoc]⟩
    obtain ⟨P, hP⟩ := e2 (L.take j) (L.drop j) []
    rw [List.take_append_drop] at hP
    exact ⟨P, hP.symm⟩
  obtain ⟨P, hP⟩ := key i (by omega)
  obtain ⟨Q, hQ⟩ := key (i + 1) hi
  have e3 : L.take (i + 1) = L.take i ++ [x] := by rw [List.take_add_one, hx]; rfl
  have hlen : (txs L (L.take i) []).length = i := by rw [txs_length, List.length_take]; simp; omega
  have e1 : nodeT L (txs L L []) x = nodeT L (txs L (L.take i) []) x := by
    rw [← hP]
    exact nodeT_pad ho (by omega)
  rw [e1, ← hQ, e3, txs_snoc, List.append_assoc]
  rw [List.getElem?_append_right (by omega), hlen, Nat.sub_self]
  rfl
theorem txs_wrt {L : List Nd} (h : okAll L 8 = true) : ∀ i, i < L.length → Wrt (txAt (txs L L []) (i : Int)) (pt L i) := by
  intro i
  induction i using Nat.strongRecOn with
  | ind i ih =>
    intro hi
    have hx : L[i]? = some L[i] := List.getElem?_eq_getElem hi
    have hT : txAt (txs L L []) (i : Int) = (nodeT L (txs L L []) L[i]).take 1025 := by
      unfold txAt
      simp [txs_at h hx]
    rw [hT]
    apply wrt_take
    have ho := okAll_at h hx
    have hp := pt_eq h hx
    have P := fun (k m : Nat) (hk : (k : Int) < i) => parT_wrt (m := m) h (show k < L.length by omega) (ih k (by omega) (by omega))
    generalize L[i] = x at *
    rw [hp]
    generalize hTT : txs L L [] = T at *
    rcases okN_cases ho with rfl | ⟨A, hA, h1, h2, e⟩ | ⟨A, hA, e⟩ | ⟨A, hA, e⟩ | ⟨A, N, hA, hN, e⟩ | ⟨A, B, hA, hB, e⟩
    · exact .inl rfl
    · rcases e with e | e <;> (rw [e]; exact .inl rfl)
    · rcases e with rfl | rfl | rfl <;> exact .inl rfl
    · rcases e with rfl | rfl
      · show wordOf 6 ++ 32 :: parT L T (A : Int) 3 = (wordOf 6 ++ [32]) ++ brt (pt L A) 3 ∨ (1025 ≤ (wordOf 6 ++ 32 :: parT L T (A : Int) 3).length ∧ 1024 < ((wordOf 6 ++ [32]) ++ brt (pt L A) 3).length)
        rcases P A 3 hA with ⟨q1, _⟩ | ⟨q1, q2⟩
        · left; rw [q1]; simp
        · right
          have := (brt_len (pt L A) 3).1
          simp only [List.length_append, List.length_cons, List.length_nil]; omega
      · show wordOf 9 ++ 32 :: parT L T (A : Int) 3 = (wordOf 9 ++ [32]) ++ brt (pt L A) 3 ∨ (1025 ≤ (wordOf 9 ++ 32 :: parT L T (A : Int) 3).length ∧ 1024 < ((wordOf 9 ++ [32]) ++ brt (pt L A) 3).length)
        rcases P A 3 hA with ⟨q1, _⟩ | ⟨q1, q2⟩
        · left; rw [q1]; simp
        · right
          have := (brt_len (pt L A) 3).1
          simp only [List.length_append, List.length_cons, List.length_nil]; omega
    · rcases e with rfl | rfl
      · show wordOf 10 ++ 32 :: (dig N ++ 32 :: parT L T (A : Int) 3) = (wordOf 10 ++ 32 :: (dig N ++ [32])) ++ brt (pt L A) 3 ∨ (1025 ≤ (wordOf 10 ++ 32 :: (dig N ++ 32 :: parT L T (A : Int) 3)).length ∧ 1024 < ((wordOf 10 ++ 32 :: (dig N ++ [32])) ++ brt (pt L A) 3).length)
        rcases P A 3 hA with ⟨q1, _⟩ | ⟨q1, q2⟩
        · left; rw [q1]; simp
        · right
          have := (brt_len (pt L A) 3).1
          simp only [List.length_append, List.length_cons, List.length_nil]; omega
      · show wordOf 11 ++ 32 :: (dig N ++ 32 :: parT L T (A : Int) 3) = (wordOf 11 ++ 32 :: (dig N ++ [32])) ++ brt (pt L A) 3 ∨ (1025 ≤ (wordOf 11 ++ 32 :: (dig N ++ 32 :: parT L T (A : Int) 3)).length ∧ 1024 < ((wordOf 11 ++ 32 :: (dig N ++ [32])) ++ brt (pt L A) 3).length)
        rcases P A 3 hA with ⟨q1, _⟩ | ⟨q1, q2⟩
        · left; rw [q1]; simp
        · right
          have := (brt_len (pt L A) 3).1
          simp only [List.length_append, List.length_cons, List.length_nil]; omega
    · have bin : ∀ (op : Int) (wd : W8) (la lb : Nat), (parT L T (A : Int) la ++ 32 :: (wd ++ 32 :: parT L T (B : Int) lb) = brt (pt L A) la ++ 32 :: (wd ++ 32 :: brt (pt L B) lb)) ∨ (1025 ≤ (parT L T (A : Int) la ++ 32 :: (wd ++ 32 :: parT L T (B : Int) lb)).length ∧ 1024 < (brt (pt L A) la ++ 32 :: (wd ++ 32 :: brt (pt L B) lb)).length) := fun op wd la lb => by
        have b1 := (brt_len (pt L A) la).1
        have b2 := (brt_len (pt L B) lb).1
        rcases P A la hA with ⟨q1, _⟩ | ⟨q1, q2⟩
        · rcases P B lb hB with ⟨r1, _⟩ | ⟨r1, r2⟩
          · left; rw [q1, r1]
          · right
            simp only [List.length_append, List.length_cons]; omega
        · right
          simp only [List.length_append, List.length_cons]; omega
      rcases e with rfl | rfl | rfl
      · exact bin 7 wAnd 1 2
      · exact bin 8 wOr 0 1
      · exact bin 12 wSince 3 3
/-- What Text answers, of formulas that may be. -/
theorem text_pt {L : List Nd} (hc : chk L 8 = 0) : (textE L = 0 ∧ textV L = (pt L (L.length - 1)).tx ∧ (pt L (L.length - 1)).tx.length ≤ 1024) ∨ (textE L = 5 ∧ 1024 < (pt L (L.length - 1)).tx.length) := by
  have hn : 0 < L.length ∧ L.length ≤ 32 ∧ okAll L 8 = true := by
    unfold chk at hc
    split at hc
    · omega
    split at hc
    · omega
    split at hc
    · omega
    split at hc
    · rename_i h; exact ⟨by omega, by omega, h⟩
    · omega
  have hw := txs_wrt hn.2.2 (L.length - 1) (by omega)
  have hr : txAt (txs L L []) ((L.length - 1 : Nat) : Int) = rootT L := by unfold txAt rootT; simp
  rw [hr] at hw
  unfold textE textV
  rw [if_pos hc, if_pos hc]
  rcases hw with ⟨h1, h2⟩ | ⟨h1, h2⟩
  · left
    rw [if_neg (by rw [h1]; omega), if_neg (by rw [h1]; omega)]
    exact ⟨rfl, h1, h2⟩
  · right
    rw [if_pos (by omega)]
    exact ⟨rfl, h1⟩
end Go.Proofs.YtlfcihanhfabmaaGreatDoor
