/-
  Blanks more, and brackets around the whole: over lists alone.
-/
import Derived.Test.YtlfcihanhfabmaaGreatDoorNtP
import Derived.Lib.Repeat
namespace Go.Proofs.YtlfcihanhfabmaaGreatDoor
/-- A byte more at the front of the first word. -/
def glueW (c : UInt8) : List W8 → List W8
  | [] => [[c]]
  | t :: r => (c :: t) :: r
/-- The words of a text, without their places. -/
def wof : W8 → List W8
  | [] => []
  | c :: s => if c = 32 then wof s else if plainB c && plainH s then glueW c (wof s) else [c] :: wof s
theorem wds_glue (p : Nat) (c : UInt8) (l : List (Nat × W8)) : wds (glue p c l) = glueW c (wds l) := by cases l <;> rfl
theorem wds_lex : ∀ (s : W8) (p : Nat), wds (lex p s) = wof s
  | [], _ => rfl
  | c :: s, p => by
    unfold lex wof
    split
    · exact wds_lex s _
    · split
      · rw [wds_glue, wds_lex s]
      · show [c] :: wds (lex (p + 1) s) = _
        rw [wds_lex s]
/-- What Parse answers hangs on the words alone, but for the place. -/
theorem parse_words {s t : W8} (hs : s.length ≤ 1024) (ht : t.length ≤ 1024) (h : wof s = wof t) : (parseA s).ns = (parseA t).ns ∧ (parseA s).e = (parseA t).e := by
  unfold parseA
  rw [if_neg (by omega), if_neg (by omega), wds_lex, wds_lex, h]
  rcases wholeP (wof t) with k | g
  · exact ⟨rfl, rfl⟩
  · by_cases hg : 32 < g.ns.length
    · simp only [if_pos hg]; exact ⟨trivial, trivial⟩
    · simp only [if_neg hg]; exact ⟨trivial, trivial⟩
theorem wof_blanks (k : Nat) (s : W8) : wof (List.replicate k 32 ++ s) = wof s := by
  induction k with
  | zero => rfl
  | succ k ih =>
    rw [List.replicate_succ, List.cons_append]
    show (if (32 : UInt8) = 32 then _ else _) = _
    rw [if_pos rfl, ih]
theorem plainH_blanks (k : Nat) (s : W8) (h : plainH s = false) : plainH (List.replicate k 32 ++ s) = false := by
  cases k with
  | zero => exact h
  | succ k => rw [List.replicate_succ, List.cons_append]; rfl
/-- Beside these bytes blanks say nothing. -/
def spB (c : UInt8) : Bool := decide (c = 32) || decide (c = 40) || decide (c = 41) || decide (c = 62) || decide (c = 60)
theorem sp_plain {c : UInt8} (h : spB c = true) : plainB c = false := by
  unfold spB at h
  simp only [Bool.or_eq_true, decide_eq_true_eq] at h
  rcases h with (((rfl | rfl) | rfl) | rfl) | rfl <;> decide
/-- A text with blanks more: f i of them ahead of the i-th byte, and behind it. -/
def wide (f : Nat → Nat × Nat) : Nat → W8 → W8
  | _, [] => []
  | i, c :: s => (if spB c = true then List.replicate (f i).1 32 ++ c :: List.replicate (f i).2 32 else [c]) ++ wide f (i + 1) s
theorem wide_wof (f : Nat → Nat × Nat) : ∀ (s : W8) (i : Nat), wof (wide f i s) = wof s ∧ plainH (wide f i s) = plainH s
  | [], _ => ⟨rfl, rfl⟩
  | c :: s, i => by
    obtain ⟨h1, h2⟩ := wide_wof f s (i + 1)
    by_cases hc : spB c = true
    · have hp := sp_plain hc
      have e : wide f i (c :: s) = List.replicate (f i).1 32 ++ (c :: (List.replicate (f i).2 32 ++ wide f (i + 1) s)) := by
        show (if spB c = true then _ else _) ++ _ = _
        rw [if_pos hc]; simp
      rw [e, wof_blanks]
      constructor
      · by_cases h32 : c = 32
        · subst h32
          show (if (32 : UInt8) = 32 then _ else _) = (if (32 : UInt8) = 32 then _ else _)
          rw [if_pos rfl, if_pos rfl, wof_blanks, h1]
        · have k1 : ∀ t, wof (c :: t) = [c] :: wof t := fun t => by
            show (if c = 32 then _ else if plainB c && plainH t then _ else _) = _
            rw [if_neg h32, hp, Bool.false_and, if_neg (by simp)]
          rw [k1, k1, wof_blanks, h1]
      · rw [plainH_blanks _ _ (show plainH (c :: _) = false from hp)]
        exact hp.symm
    · have e : wide f i (c :: s) = c :: wide f (i + 1) s := by
        show (if spB c = true then _ else _) ++ _ = _
        rw [if_neg hc]; rfl
      rw [e]
      refine ⟨?_, rfl⟩
      show (if c = 32 then _ else if plainB c && plainH (wide f (i + 1) s) then _ else _) = (if c = 32 then _ else if plainB c && plainH s then _ else _)
      rw [h1, h2]
theorem wide_len (f : Nat → Nat × Nat) (hf : ∀ i, (f i).1 + (f i).2 ≤ 3) : ∀ (s : W8) (i : Nat), (wide f i s).length ≤ 4 * s.length
  | [], _ => by simp [wide]
  | c :: s, i => by
    have h1 := wide_len f hf s (i + 1)
    have h2 := hf i
    show ((if spB c = true then _ else _) ++ wide f (i + 1) s).length ≤ _
    split
    · simp; omega
    · simp; omega
theorem wide_snoc (f : Nat → Nat × Nat) : ∀ (s : W8) (c : UInt8) (i : Nat), wide f i (s ++ [c]) = wide f i s ++ (if spB c = true then List.replicate (f (i + s.length)).1 32 ++ c :: List.replicate (f (i + s.length)).2 32 else [c])
  | [], c, i => by
    show (if spB c = true then _ else _) ++ [] = [] ++ _
    rw [List.append_nil]
    rfl
  | b :: s, c, i => by
    have h := wide_snoc f s c (i + 1)
    show (if spB b = true then _ else _) ++ wide f (i + 1) (s ++ [c]) = ((if spB b = true then _ else _) ++ wide f (i + 1) s) ++ _
    rw [h, List.append_assoc, List.length_cons, show i + (s.length + 1) = i + 1 + s.length by omega]
theorem wof_end : ∀ (s : W8), wof (s ++ [32]) = wof s ∧ plainH (s ++ [32]) = plainH s
  | [] => ⟨rfl, rfl⟩
  | c :: s => by
    obtain ⟨h1, h2⟩ := wof_end s
    refine ⟨?_, rfl⟩
    show (if c = 32 then wof (s ++ [32]) else if plainB c && plainH (s ++ [32]) then glueW c (wof (s ++ [32])) else [c] :: wof (s ++ [32])) = _
    rw [h1, h2]
    rfl
/-- Blanks more change nothing. -/
theorem wide_parse (f : Nat → Nat × Nat) (hf : ∀ i, (f i).1 + (f i).2 ≤ 3) (s : W8) (hs : s.length ≤ 200) : (parseA (32 :: 32 :: (wide f 0 s ++ [32]))).ns = (parseA s).ns ∧ (parseA (32 :: 32 :: (wide f 0 s ++ [32]))).e = (parseA s).e := by
  refine parse_words ?_ (by omega) ?_
  · have := wide_len f hf s 0
    simp; omega
  · show (if (32 : UInt8) = 32 then (if (32 : UInt8) = 32 then wof (wide f 0 s ++ [32]) else _) else _) = _
    rw [if_pos rfl, if_pos rfl, (wof_end _).1, (wide_wof f s 0).1]
/-- Words behind words, where the latter open with a bracket. -/
theorem wof_append {c : UInt8} (hc : plainB c = false) (t : W8) : ∀ (s : W8), wof (s ++ c :: t) = wof s ++ wof (c :: t) ∧ plainH (s ++ c :: t) = plainH s
  | [] => ⟨rfl, hc⟩
  | b :: s => by
    obtain ⟨h1, h2⟩ := wof_append hc t s
    refine ⟨?_, rfl⟩
    show (if b = 32 then wof (s ++ c :: t) else if plainB b && plainH (s ++ c :: t) then glueW b (wof (s ++ c :: t)) else [b] :: wof (s ++ c :: t)) = (if b = 32 then wof s else if plainB b && plainH s then glueW b (wof s) else [b] :: wof s) ++ _
    rw [h1, h2]
    split
    · rfl
    · split
      · rename_i hb
        cases hw : wof s with
        | nil =>
          exfalso
          have hp : plainH s = true := by simp only [Bool.and_eq_true] at hb; exact hb.2
          cases s with
          | nil => cases hp
          | cons d s =>
            have hd : plainB d = true := hp
            have h32 : d ≠ 32 := by rintro rfl; rw [plainB_blank] at hd; cases hd
            have : wof (d :: s) = if plainB d && plainH s then glueW d (wof s) else [d] :: wof s := by
              show (if d = 32 then _ else _) = _
              rw [if_neg h32]
            rw [this] at hw
            split at hw
            · unfold glueW at hw; split at hw <;> cases hw
            · cases hw
        | cons t0 r => rfl
      · rfl
theorem wof_ne : ∀ (s : W8), ∀ t ∈ wof s, t ≠ []
  | [], _, h => by cases h
  | c :: s, t, h => by
    have ih := wof_ne s
    unfold wof at h
    split at h
    · exact ih t h
    split at h
    · unfold glueW at h
      split at h
      · simp at h; rw [h]; simp
      · rename_i t0 r he
        rcases List.mem_cons.1 h with rfl | h'
        · simp
        · exact ih t (by rw [he]; exact List.mem_cons_of_mem _ h')
    · rcases List.mem_cons.1 h with rfl | h'
      · simp
      · exact ih t h'
/-- How many brackets are opened. -/
def cntB (ws : List W8) : Nat := ws.countP (fun t => decide (t = [40]))
theorem cnt_wof : ∀ (s : W8), cntB (wof s) ≤ Lib.countByte s 40
  | [] => Nat.zero_le _
  | c :: s => by
    have ih := cnt_wof s
    have hcb : Lib.countByte (c :: s) 40 = (if c = 40 then 1 else 0) + Lib.countByte s 40 := by
      unfold Lib.countByte
      rw [List.count_cons]
      by_cases h : c = 40
      · simp [h]; omega
      · simp [h]
    unfold wof
    split
    · omega
    · split
      · rename_i hb
        have hc : c ≠ 40 := by rintro rfl; simp at hb; exact absurd hb.1 (by decide)
        have : cntB (glueW c (wof s)) ≤ cntB (wof s) := by
          unfold glueW
          split
          · have : ([c] : W8) ≠ [40] := by simpa using hc
            simp [cntB, this]
          · rename_i t r he
            rw [he]
            have : (c :: t : W8) ≠ [40] := by
              intro e
              cases e
              exact hc rfl
            simp only [cntB, List.countP_cons, this, decide_false]
            simp
        omega
      · by_cases hc : c = 40
        · subst hc
          have : cntB ([40] :: wof s) = cntB (wof s) + 1 := by simp [cntB]
          rw [this, hcb, if_pos rfl]
          omega
        · have h2 : ([c] : W8) ≠ [40] := by simpa using hc
          have : cntB ([c] :: wof s) = cntB (wof s) := by simp [cntB, hc]
          rw [this, hcb]
          omega
theorem cnt_tail {a b : List W8} (h : Tail a b) : cntB a ≤ cntB b := by
  obtain ⟨p, rfl⟩ := h
  simp [cntB]
/-- What is read stays so with a closed bracket behind, within brackets and with more fuel. -/
def Ext (t : List W8) (p p' : List W8 → List Nd → Rs) (m : Nat) : Prop := ∀ ws ns g, cntB ws ≤ m → p ws ns = .ok g → p' (ws ++ t) ns = .ok ⟨g.i, g.ws ++ t, g.ns⟩
theorem hd_app {t : List W8} {ws : List W8} {x : W8} (hx : x ≠ []) (h : hd ws = x) : hd (ws ++ t) = x ∧ (ws ++ t).tail = ws.tail ++ t := by
  cases ws with
  | nil => exact absurd h.symm hx
  | cons a r => exact ⟨h, rfl⟩
theorem hd_app_no {t : List W8} {ws : List W8} {x : W8} (ht : hd t ≠ x) (h : hd ws ≠ x) : hd (ws ++ t) ≠ x := by
  cases ws with
  | nil => exact ht
  | cons a r => exact h
theorem bnd_eq_ok {r : Rs} {f : Got → Rs} {g : Got} (h : bnd r f = .ok g) : ∃ g1, r = .ok g1 ∧ f g1 = .ok g := by
  rcases r with k | g1
  · cases h
  · exact ⟨g1, rfl, h⟩
section
variable {t : List W8}
theorem ext_loop {w : W8} {op : Int} {p p' : List W8 → List Nd → Rs} {m : Nat} (hw : w ≠ []) (ht : hd t ≠ w) (hp : ∀ ws ns, Fine (p ws ns) ws ns) (E : Ext t p p' m) : ∀ f f' (g g2 : Got), f ≤ f' → cntB g.ws ≤ m → loopP w op p f g = .ok g2 → loopP w op p' f' ⟨g.i, g.ws ++ t, g.ns⟩ = .ok ⟨g2.i, g2.ws ++ t, g2.ns⟩
  | 0, _, _, _, _, _, h => by cases h
  | f + 1, f', g, g2, hf, hm, h => by
    obtain ⟨f', rfl⟩ : ∃ q, f' = q + 1 := ⟨f' - 1, by omega⟩
    unfold loopP at h ⊢
    by_cases hs : hd g.ws = w
    · rw [if_pos hs] at h
      obtain ⟨h1, h2⟩ := hd_app (t := t) hw hs
      rw [if_pos h1]
      obtain ⟨g1, e1, e2⟩ := bnd_eq_ok h
      have hf1 := hp g.ws.tail g.ns
      rw [e1] at hf1
      have hc1 : cntB g.ws.tail ≤ m := Nat.le_trans (cnt_tail Tail.rfl.tail) hm
      have k1 := E _ _ _ hc1 e1
      show bnd (p' (g.ws ++ t).tail g.ns) _ = _
      rw [h2, bnd_ok k1]
      exact ext_loop hw ht hp E f f' ⟨g1.ns.length, g1.ws, g1.ns ++ [⟨op, g.i, g1.i, 0⟩]⟩ g2 (by omega) (Nat.le_trans (cnt_tail hf1.1) hc1) e2
    · rw [if_neg hs] at h
      cases h
      rw [if_neg (hd_app_no ht hs)]
theorem ext_bin {w : W8} {op : Int} {p p' : List W8 → List Nd → Rs} {m : Nat} (hw : w ≠ []) (ht : hd t ≠ w) (hp : ∀ ws ns, Fine (p ws ns) ws ns) (E : Ext t p p' m) : Ext t (binP w op p) (binP w op p') m := by
  intro ws ns g hm h
  unfold binP at h ⊢
  obtain ⟨g1, e1, e2⟩ := bnd_eq_ok h
  have hf1 := hp ws ns
  rw [e1] at hf1
  rw [bnd_ok (E _ _ _ hm e1)]
  exact ext_loop hw ht hp E _ _ g1 g (by simp) (Nat.le_trans (cnt_tail hf1.1) hm) e2
theorem ext_sin {u u' : List W8 → List Nd → Rs} {m : Nat} (ht : hd t ≠ wSince) (hu : ∀ ws ns, Fine (u ws ns) ws ns) (E : Ext t u u' m) : Ext t (sinP u) (sinP u') m := by
  intro ws ns g hm h
  unfold sinP at h ⊢
  obtain ⟨g1, e1, e2⟩ := bnd_eq_ok h
  have hf1 := hu ws ns
  rw [e1] at hf1
  rw [bnd_ok (E _ _ _ hm e1)]
  by_cases hs : hd g1.ws = wSince
  · rw [if_pos hs] at e2
    obtain ⟨h1, h2⟩ := hd_app (t := t) (by decide) hs
    show (if hd (g1.ws ++ t) = wSince then bnd (u' (g1.ws ++ t).tail g1.ns) _ else _) = _
    rw [if_pos h1, h2]
    obtain ⟨g3, e3, e4⟩ := bnd_eq_ok e2
    rw [bnd_ok (E _ _ _ (Nat.le_trans (cnt_tail (Tail.rfl.tail)) (Nat.le_trans (cnt_tail hf1.1) hm)) e3)]
    cases e4
    rfl
  · rw [if_neg hs] at e2
    injection e2 with e2
    subst e2
    show (if hd (g1.ws ++ t) = wSince then _ else _) = _
    rw [if_neg (hd_app_no ht hs)]
theorem ext_un {op n : Int} {r r' : Rs} {g : Got} (h : unP op n r = .ok g) (E : ∀ g1, r = .ok g1 → r' = .ok ⟨g1.i, g1.ws ++ t, g1.ns⟩) : unP op n r' = .ok ⟨g.i, g.ws ++ t, g.ns⟩ := by
  unfold unP at h ⊢
  obtain ⟨g1, e1, e2⟩ := bnd_eq_ok h
  rw [bnd_ok (E g1 e1)]
  cases e2
  rfl
theorem numOf_nil : numOf [] = none := by decide
theorem ext_cmp {op : Int} {c : Nat} {ws : List W8} {ns : List Nd} {g : Got} (h : cmpP op c ws ns = .ok g) : cmpP op c (ws ++ t) ns = .ok ⟨g.i, g.ws ++ t, g.ns⟩ := by
  cases ws with
  | nil =>
    unfold cmpP at h
    rw [show hd ([] : List W8) = [] from rfl, numOf_nil] at h
    cases h
  | cons a r =>
    unfold cmpP at h ⊢
    rw [show hd (a :: r ++ t) = a from rfl]
    rw [show hd (a :: r) = a from rfl] at h
    rcases hn : numOf a with _ | v
    · rw [hn] at h; cases h
    · rw [hn] at h
      cases h
      rfl
theorem ext_ch {c : Nat} {ws : List W8} {ns : List Nd} {g : Got} (h : chP c ws ns = .ok g) : chP c (ws ++ t) ns = .ok ⟨g.i, g.ws ++ t, g.ns⟩ := by
  cases ws with
  | nil =>
    unfold chP at h
    rw [if_neg (by decide), if_neg (by decide), if_neg (by decide), if_neg (by decide), if_neg (by decide)] at h
    cases h
  | cons a r =>
    unfold chP at h ⊢
    rw [show hd (a :: r ++ t) = a from rfl, show (a :: r ++ t).tail = r ++ t from rfl]
    rw [show hd (a :: r) = a from rfl, show (a :: r).tail = r from rfl] at h
    by_cases h1 : a = [62]
    · rw [if_pos h1] at h ⊢; exact ext_cmp h
    rw [if_neg h1] at h ⊢
    by_cases h2 : a = [60]
    · rw [if_pos h2] at h ⊢; exact ext_cmp h
    rw [if_neg h2] at h ⊢
    by_cases h3 : a = wHigh
    · rw [if_pos h3] at h ⊢; cases h; rfl
    rw [if_neg h3] at h ⊢
    by_cases h4 : a = wLow
    · rw [if_pos h4] at h ⊢; cases h; rfl
    rw [if_neg h4] at h ⊢
    by_cases h5 : a = wKnown
    · rw [if_pos h5] at h ⊢; cases h; rfl
    rw [if_neg h5] at h
    cases h
theorem tickOf_nil : tickOf [] = none := by decide
theorem ext_tk {op : Int} {p p' : List W8 → List Nd → Rs} {m : Nat} (E : Ext t p p' m) {ws : List W8} {ns : List Nd} {g : Got} (hm : cntB ws ≤ m) (h : tkP op p ws ns = .ok g) : tkP op p' (ws ++ t) ns = .ok ⟨g.i, g.ws ++ t, g.ns⟩ := by
  cases ws with
  | nil =>
    unfold tkP at h
    rw [show hd ([] : List W8) = [] from rfl, tickOf_nil] at h
    cases h
  | cons a r =>
    unfold tkP at h ⊢
    rw [show hd (a :: r ++ t) = a from rfl, show (a :: r ++ t).tail = r ++ t from rfl]
    rw [show hd (a :: r) = a from rfl, show (a :: r).tail = r from rfl] at h
    rcases hn : tickOf a with _ | v
    · rw [hn] at h; cases h
    · rw [hn] at h
      exact ext_un h (fun g1 e1 => E _ _ _ (Nat.le_trans (cnt_tail (Tail.rfl (ws := a :: r)).tail) hm) e1)
theorem ext_atom {d d' m : Nat} {p p' : List W8 → List Nd → Rs} (_hp : ∀ ws ns, Fine (p ws ns) ws ns) (hd32 : m + d' ≤ 32) (E : ∀ q, m = q + 1 → Ext t p p' q) {ws : List W8} {ns : List Nd} {g : Got} (hm : cntB ws ≤ m) (h : atomP d p ws ns = .ok g) : atomP d' p' (ws ++ t) ns = .ok ⟨g.i, g.ws ++ t, g.ns⟩ := by
  cases ws with
  | nil =>
    unfold atomP at h
    rw [if_neg (by decide), if_neg (by decide), show hd ([] : List W8) = [] from rfl, chanOf_nil] at h
    cases h
  | cons a r =>
    unfold atomP at h ⊢
    rw [show hd (a :: r ++ t) = a from rfl]
    rw [show hd (a :: r) = a from rfl] at h
    by_cases h1 : a = [40]
    · rw [if_pos h1] at h ⊢
      have hc : cntB (a :: r) = cntB r + 1 := by subst h1; simp [cntB]
      obtain ⟨q, rfl⟩ : ∃ q, m = q + 1 := ⟨m - 1, by omega⟩
      unfold brP at h ⊢
      by_cases hd1 : d < 32
      · rw [if_pos hd1] at h
        rw [if_pos (by omega)]
        obtain ⟨g1, e1, e2⟩ := bnd_eq_ok h
        have e1' : p r ns = .ok g1 := e1
        rw [show (a :: r ++ t).tail = r ++ t from rfl, bnd_ok (E q rfl _ _ _ (by omega) e1')]
        by_cases hb : hd g1.ws = [41]
        · rw [if_pos hb] at e2
          cases e2
          obtain ⟨h2, h3⟩ := hd_app (t := t) (by decide) hb
          show (if hd (g1.ws ++ t) = [41] then Except.ok (Got.mk g1.i (g1.ws ++ t).tail g1.ns) else _) = _
          rw [if_pos h2, h3]
        · rw [if_neg hb] at e2
          cases e2
      · rw [if_neg hd1] at h
        cases h
    rw [if_neg h1] at h ⊢
    by_cases h2 : a = wTrue
    · rw [if_pos h2] at h ⊢
      cases h
      rfl
    rw [if_neg h2] at h ⊢
    rcases hn : chanOf a with _ | c
    · rw [hn] at h; cases h
    · rw [hn] at h
      exact ext_ch h
theorem ext_pU (h1 : hd t ≠ wSince) (h2 : hd t ≠ wAnd) (h3 : hd t ≠ wOr) : ∀ n n' d d' m, n ≤ n' → m + d' ≤ 32 → Ext t (pU n d) (pU n' d') m
  | 0, _, _, _, _, _, _ => fun _ _ _ _ h => by cases h
  | n + 1, n', d, d', m, hn, hm => by
    obtain ⟨n', rfl⟩ : ∃ q, n' = q + 1 := ⟨n' - 1, by omega⟩
    have ih := fun d d' m hm => ext_pU h1 h2 h3 n n' d d' m (by omega) hm
    intro ws ns g hc h
    cases ws with
    | nil =>
      unfold pU at h
      rw [if_neg (by decide), if_neg (by decide), if_neg (by decide), if_neg (by decide)] at h
      unfold atomP at h
      rw [if_neg (by decide), if_neg (by decide), show hd ([] : List W8) = [] from rfl, chanOf_nil] at h
      cases h
    | cons a r =>
      have hr : cntB r ≤ m := Nat.le_trans (cnt_tail (Tail.rfl (ws := a :: r)).tail) hc
      unfold pU at h ⊢
      rw [show hd (a :: r ++ t) = a from rfl, show (a :: r ++ t).tail = r ++ t from rfl]
      rw [show hd (a :: r) = a from rfl, show (a :: r).tail = r from rfl] at h
      by_cases k1 : a = wNot
      · rw [if_pos k1] at h ⊢
        exact ext_un h (fun g1 e1 => ih d d' m hm _ _ _ hr e1)
      rw [if_neg k1] at h ⊢
      by_cases k2 : a = wPrev
      · rw [if_pos k2] at h ⊢
        exact ext_un h (fun g1 e1 => ih d d' m hm _ _ _ hr e1)
      rw [if_neg k2] at h ⊢
      by_cases k3 : a = wOnce
      · rw [if_pos k3] at h ⊢
        exact ext_tk (ih d d' m hm) hr h
      rw [if_neg k3] at h ⊢
      by_cases k4 : a = wHist
      · rw [if_pos k4] at h ⊢
        exact ext_tk (ih d d' m hm) hr h
      rw [if_neg k4] at h ⊢
      exact ext_atom (ws := a :: r) (fine_or (fine_pU n (d + 1))) hm (fun q e => ext_bin (by decide) h3 (fine_and (fine_pU n (d + 1))) (ext_bin (by decide) h2 (fine_sin (fine_pU n (d + 1))) (ext_sin h1 (fine_pU n (d + 1)) (ih (d + 1) (d' + 1) q (by omega))))) hc h
theorem ext_or (h1 : hd t ≠ wSince) (h2 : hd t ≠ wAnd) (h3 : hd t ≠ wOr) {n n' d d' m : Nat} (hn : n ≤ n') (hm : m + d' ≤ 32) : Ext t (orP (pU n d)) (orP (pU n' d')) m :=
  ext_bin (by decide) h3 (fine_and (fine_pU n d)) (ext_bin (by decide) h2 (fine_sin (fine_pU n d)) (ext_sin h1 (fine_pU n d) (ext_pU h1 h2 h3 n n' d d' m hn hm)))
end
/-- One pair of brackets around what is read. -/
theorem or_bracket {n d : Nat} {ws rest : List W8} {ns : List Nd} {g : Got} (hd32 : d < 32) (h : orP (pU n (d + 1)) (ws ++ [41] :: rest) ns = .ok ⟨g.i, [41] :: rest, g.ns⟩) (h1 : hd rest ≠ wSince) (h2 : hd rest ≠ wAnd) (h3 : hd rest ≠ wOr) :
    orP (pU (n + 1) d) ([40] :: (ws ++ [41] :: rest)) ns = .ok ⟨g.i, rest, g.ns⟩ := by
  have e1 : pU (n + 1) d ([40] :: (ws ++ [41] :: rest)) ns = .ok ⟨g.i, rest, g.ns⟩ := by
    unfold pU
    rw [show hd ([40] :: (ws ++ [41] :: rest)) = [40] from rfl, if_neg (by decide), if_neg (by decide), if_neg (by decide), if_neg (by decide)]
    unfold atomP
    rw [show hd ([40] :: (ws ++ [41] :: rest)) = [40] from rfl, if_pos rfl]
    unfold brP
    rw [if_pos hd32, show ([40] :: (ws ++ [41] :: rest)).tail = ws ++ [41] :: rest from rfl, bnd_ok h]
    rfl
  have e2 : sinP (pU (n + 1) d) ([40] :: (ws ++ [41] :: rest)) ns = .ok ⟨g.i, rest, g.ns⟩ := by
    unfold sinP
    rw [bnd_ok e1]
    show (if hd rest = wSince then _ else _) = _
    rw [if_neg h1]
  have e3 : andP (pU (n + 1) d) ([40] :: (ws ++ [41] :: rest)) ns = .ok ⟨g.i, rest, g.ns⟩ := by
    unfold andP binP
    rw [bnd_ok e2]
    unfold loopP
    rw [if_neg h2]
  unfold orP binP
  rw [bnd_ok e3]
  unfold loopP
  rw [if_neg h3]
/-- Brackets around the whole change nothing. -/
theorem bracket_parse {s : W8} (hs : s.length ≤ 1000) (he : (parseA s).e = 0) (hc : Lib.countByte s 40 ≤ 30) : (parseA (40 :: 40 :: (s ++ [41, 41]))).e = 0 ∧ (parseA (40 :: 40 :: (s ++ [41, 41]))).ns = (parseA s).ns := by
  have hw : wof (40 :: 40 :: (s ++ [41, 41])) = [40] :: [40] :: (wof s ++ [[41], [41]]) := by
    have h1 : ∀ t, wof (40 :: t) = [40] :: wof t := fun t => by
      show (if (40 : UInt8) = 32 then _ else if plainB 40 && plainH t then _ else _) = _
      rw [if_neg (by decide), show plainB 40 = false from by decide, Bool.false_and, if_neg (by simp)]
    rw [h1, h1, (wof_append (c := 41) (by decide) [41] s).1]
    rfl
  unfold parseA at he
  rw [if_neg (by omega), wds_lex] at he
  rcases hr : wholeP (wof s) with k | g
  · rw [hr] at he; simp at he
  · rw [hr] at he
    have hg : ¬ 32 < g.ns.length := fun h => by simp [if_pos h] at he
    have hw2 : wholeP ([40] :: [40] :: (wof s ++ [[41], [41]])) = .ok ⟨g.i, [], g.ns⟩ := by
      unfold wholeP at hr
      obtain ⟨g1, e1, e2⟩ := bnd_eq_ok hr
      by_cases hh : hd g1.ws = []
      · rw [if_pos hh] at e2
        cases e2
        have hf := fine_or (fine_pU ((wof s).length + 1) 0) (wof s) []
        rw [e1] at hf
        have hnil : g.ws = [] := by
          cases hgw : g.ws with
          | nil => rfl
          | cons a r =>
            exfalso
            rw [hgw] at hh
            obtain ⟨pre, hp⟩ := hf.1
            exact wof_ne s a (by rw [hp, hgw]; simp) hh
        have k1 := ext_or (t := [[41], [41]]) (by decide) (by decide) (by decide) (n := (wof s).length + 1) (n' := (wof s).length + 3) (d := 0) (d' := 2) (m := 30) (by omega) (by omega) _ _ _ (Nat.le_trans (cnt_wof s) hc) e1
        rw [hnil] at k1
        have k2 := or_bracket (d := 1) (rest := [[41]]) (by omega) k1 (by decide) (by decide) (by decide)
        have e : ([40] : W8) :: (wof s ++ [[41], [41]]) = ([40] :: (wof s ++ [[41]])) ++ [41] :: [] := by simp
        rw [e] at k2
        have k3 := or_bracket (d := 0) (rest := []) (g := g) (by omega) k2 (by decide) (by decide) (by decide)
        rw [← e] at k3
        unfold wholeP
        rw [show ([40] :: [40] :: (wof s ++ [[41], [41]])).length + 1 = (wof s).length + 3 + 1 + 1 by simp, bnd_ok k3]
        rfl
      · rw [if_neg hh] at e2
        cases e2
    unfold parseA
    rw [if_neg (by simp; omega), if_neg (by omega), wds_lex, wds_lex, hw, hw2, hr]
    simp only [if_neg hg]
    exact ⟨trivial, trivial⟩
end Go.Proofs.YtlfcihanhfabmaaGreatDoor
