/-
  Texts and their words, and how words are read, over lists alone.
-/
import Derived.Test.YtlfcihanhfabmaaGreatDoorFoP
import Derived.Test.YtlfcihanhfabmaaGreatDoorX1Pure3
namespace Go.Proofs.YtlfcihanhfabmaaGreatDoor
/-- A word; bytes. -/
abbrev W8 := List UInt8
/-- A byte of longer words. -/
def plainB (c : UInt8) : Bool := (decide (97 ≤ c.toNat) && decide (c.toNat ≤ 122)) || (decide (48 ≤ c.toNat) && decide (c.toNat ≤ 57)) || decide (c.toNat = 46) || decide (c.toNat = 45)
/-- The first byte is of longer words. -/
def plainH : W8 → Bool
  | [] => false
  | c :: _ => plainB c
/-- A byte more at the front of the first word. -/
def glue (p : Nat) (c : UInt8) : List (Nat × W8) → List (Nat × W8)
  | [] => [(p, [c])]
  | t :: r => (p, c :: t.2) :: r
/-- The words of a text that begins at a place, each with its own. -/
def lex : Nat → W8 → List (Nat × W8)
  | _, [] => []
  | p, c :: s => if c = 32 then lex (p + 1) s else if plainB c && plainH s then glue p c (lex (p + 1) s) else (p, [c]) :: lex (p + 1) s
/-- How many blanks stand ahead. -/
def blanks : W8 → Nat
  | [] => 0
  | c :: s => if c = 32 then blanks s + 1 else 0
/-- How many bytes of longer words stand ahead. -/
def plains : W8 → Nat
  | [] => 0
  | c :: s => if plainB c = true then plains s + 1 else 0
/-- How long the first word is, where no blank stands ahead. -/
def wordN (s : W8) : Nat := if plains s = 0 then (if s = [] then 0 else 1) else plains s
/-- Where the first of these words begins; there is none: the end. -/
def pl (L : Nat) : List (Nat × W8) → Nat
  | [] => L
  | t :: _ => t.1
/-- The first of these words. -/
def hdT : List (Nat × W8) → W8
  | [] => []
  | t :: _ => t.2
theorem plainB_blank : plainB 32 = false := by decide
theorem lex_blanks (p : Nat) (s : W8) : lex p s = lex (p + blanks s) (s.drop (blanks s)) := by
  induction s generalizing p with
  | nil => simp [blanks]
  | cons c s ih =>
    unfold blanks
    by_cases h : c = 32
    · rw [if_pos h, List.drop_succ_cons]
      conv => lhs; unfold lex
      rw [if_pos h, ih (p + 1)]
      congr 1; omega
    · rw [if_neg h]; simp
theorem blanks_le (s : W8) : blanks s ≤ s.length := by
  induction s with
  | nil => simp [blanks]
  | cons c s ih =>
    unfold blanks
    split
    · simpa using ih
    · simp
theorem plains_le (s : W8) : plains s ≤ s.length := by
  induction s with
  | nil => simp [plains]
  | cons c s ih =>
    unfold plains
    split
    · simpa using ih
    · simp
theorem wordN_le (s : W8) : wordN s ≤ s.length := by
  unfold wordN
  split
  · split
    · omega
    · rename_i h
      have : s.length ≠ 0 := fun e => h (List.length_eq_zero_iff.1 e)
      omega
  · exact plains_le s
theorem blanks_drop (s : W8) : blanks (s.drop (blanks s)) = 0 := by
  induction s with
  | nil => rfl
  | cons c s ih =>
    by_cases h : c = 32
    · have e : blanks (c :: s) = blanks s + 1 := by show (if c = 32 then _ else _) = _; rw [if_pos h]
      rw [e, List.drop_succ_cons]; exact ih
    · have e : blanks (c :: s) = 0 := by show (if c = 32 then _ else _) = _; rw [if_neg h]
      rw [e, List.drop_zero, e]
theorem plains_zero {s : W8} (h : plainH s = false) : plains s = 0 := by
  cases s with
  | nil => rfl
  | cons c s =>
    have h' : plainB c = false := h
    unfold plains
    rw [h']; rfl
theorem plains_pos {s : W8} (h : plainH s = true) : plains s ≠ 0 := by
  cases s with
  | nil => cases h
  | cons c s =>
    have h' : plainB c = true := h
    unfold plains
    rw [if_pos h']; omega
/-- The first word, where no blank stands ahead. -/
theorem lex_word (p : Nat) (s : W8) (hb : blanks s = 0) (hs : s ≠ []) : lex p s = (p, s.take (wordN s)) :: lex (p + wordN s) (s.drop (wordN s)) := by
  induction s generalizing p with
  | nil => exact absurd rfl hs
  | cons c s ih =>
    have hc : c ≠ 32 := by
      intro e
      unfold blanks at hb
      rw [if_pos e] at hb
      omega
    conv => lhs; unfold lex
    rw [if_neg hc]
    by_cases hp : plainB c = true
    · by_cases hh : plainH s = true
      · rw [hp, hh, Bool.and_self, if_pos rfl]
        have hs' : s ≠ [] := by rintro rfl; cases hh
        have hb' : blanks s = 0 := by
          cases s with
          | nil => rfl
          | cons d s =>
            unfold blanks
            rw [if_neg]
            rintro rfl
            rw [plainH, plainB_blank] at hh; cases hh
        rw [ih (p + 1) hb' hs']
        have h1 : wordN (c :: s) = wordN s + 1 := by
          have e : plains (c :: s) = plains s + 1 := by show (if plainB c = true then _ else _) = _; rw [if_pos hp]
          unfold wordN
          rw [if_neg (plains_pos hh), e, if_neg (by omega)]
        rw [h1, glue, List.take_succ_cons, List.drop_succ_cons]
        congr 2
        omega
      · rw [Bool.not_eq_true] at hh
        have h1 : wordN (c :: s) = 1 := by
          have e : plains (c :: s) = 1 := by show (if plainB c = true then _ else _) = _; rw [if_pos hp, plains_zero hh]
          unfold wordN
          rw [e]
          rfl
        rw [hp, hh, h1]
        simp
    · rw [Bool.not_eq_true] at hp
      have h1 : wordN (c :: s) = 1 := by
        have e : plains (c :: s) = 0 := by show (if plainB c = true then _ else _) = _; rw [hp]; rfl
        unfold wordN
        rw [e]
        rfl
      rw [hp, h1]
      simp
/-- Words are read from here on: nodes in order; the node's number, the words that are left, the nodes. -/
structure Got where
  i : Nat
  ws : List W8
  ns : List Nd
/-- What is read, or how many words are left where it can't go on. -/
abbrev Rs := Except Nat Got
def bnd (r : Rs) (f : Got → Rs) : Rs :=
  match r with
  | .ok g => f g
  | .error k => .error k
theorem bnd_ok {r : Rs} {f : Got → Rs} {g : Got} (h : r = .ok g) : bnd r f = f g := by rw [h]; rfl
theorem bnd_no {r : Rs} {f : Got → Rs} {k : Nat} (h : r = .error k) : bnd r f = .error k := by rw [h]; rfl
def hd (ws : List W8) : W8 := ws.headD []
def putN (ns : List Nd) (x : Nd) (ws : List W8) : Rs := .ok ⟨ns.length, ws, ns ++ [x]⟩
def wTrue : W8 := [116, 114, 117, 101]
def wHigh : W8 := [104, 105, 103, 104]
def wLow : W8 := [108, 111, 119]
def wKnown : W8 := [107, 110, 111, 119, 110]
def wNot : W8 := [110, 111, 116]
def wAnd : W8 := [97, 110, 100]
def wOr : W8 := [111, 114]
def wPrev : W8 := [112, 114, 101, 118]
def wOnce : W8 := [111, 110, 99, 101]
def wHist : W8 := [104, 105, 115, 116]
def wSince : W8 := [115, 105, 110, 99, 101]
/-- What an operation is called. -/
def wordOf (op : Int) : W8 :=
  if op = 0 then wTrue else if op = 1 then [62] else if op = 2 then [60] else if op = 3 then wHigh else if op = 4 then wLow else if op = 5 then wKnown else if op = 6 then wNot
  else if op = 7 then wAnd else if op = 8 then wOr else if op = 9 then wPrev else if op = 10 then wOnce else if op = 11 then wHist else wSince
/-- Several in a row. -/
def loopP (w : W8) (op : Int) (p : List W8 → List Nd → Rs) : Nat → Got → Rs
  | 0, _ => .error 0
  | f + 1, g => if hd g.ws = w then bnd (p g.ws.tail g.ns) (fun h => loopP w op p f ⟨h.ns.length, h.ws, h.ns ++ [⟨op, g.i, h.i, 0⟩]⟩) else .ok g
def binP (w : W8) (op : Int) (p : List W8 → List Nd → Rs) (ws : List W8) (ns : List Nd) : Rs := bnd (p ws ns) (loopP w op p (ws.length + 1))
def sinP (u : List W8 → List Nd → Rs) (ws : List W8) (ns : List Nd) : Rs :=
  bnd (u ws ns) (fun g => if hd g.ws = wSince then bnd (u g.ws.tail g.ns) (fun h => putN h.ns ⟨12, g.i, h.i, 0⟩ h.ws) else .ok g)
def andP (u : List W8 → List Nd → Rs) : List W8 → List Nd → Rs := binP wAnd 7 (sinP u)
def orP (u : List W8 → List Nd → Rs) : List W8 → List Nd → Rs := binP wOr 8 (andP u)
def unP (op n : Int) (r : Rs) : Rs := bnd r (fun g => putN g.ns ⟨op, g.i, 0, n⟩ g.ws)
/-- Digits of a number below 100. -/
def dig (n : Nat) : W8 := if n < 10 then [UInt8.ofNat (48 + n)] else [UInt8.ofNat (48 + n / 10), UInt8.ofNat (48 + n % 10)]
def tickOf (w : W8) : Option Nat := (List.range 65).find? (fun n => decide (dig n = w))
def chanW (c : Nat) : W8 := 99 :: dig c
def chanOf (w : W8) : Option Nat := (List.range 8).find? (fun c => decide (chanW c = w))
def numOf (w : W8) : Option Int := if L1.parseE w = 0 then some (L1.parseV w) else none
def cmpP (op : Int) (c : Nat) (ws : List W8) (ns : List Nd) : Rs :=
  match numOf (hd ws) with
  | some v => putN ns ⟨op, c, 0, v⟩ ws.tail
  | none => .error ws.length
def chP (c : Nat) (ws : List W8) (ns : List Nd) : Rs :=
  if hd ws = [62] then cmpP 1 c ws.tail ns
  else if hd ws = [60] then cmpP 2 c ws.tail ns
  else if hd ws = wHigh then putN ns ⟨3, c, 0, 0⟩ ws.tail
  else if hd ws = wLow then putN ns ⟨4, c, 0, 0⟩ ws.tail
  else if hd ws = wKnown then putN ns ⟨5, c, 0, 0⟩ ws.tail
  else .error ws.length
def tkP (op : Int) (p : List W8 → List Nd → Rs) (ws : List W8) (ns : List Nd) : Rs :=
  match tickOf (hd ws) with
  | some k => unP op k (p ws.tail ns)
  | none => .error ws.length
def brP (d : Nat) (p : List W8 → List Nd → Rs) (ws : List W8) (ns : List Nd) : Rs :=
  if d < 32 then bnd (p ws.tail ns) (fun g => if hd g.ws = [41] then .ok ⟨g.i, g.ws.tail, g.ns⟩ else .error g.ws.length) else .error ws.length
def atomP (d : Nat) (p : List W8 → List Nd → Rs) (ws : List W8) (ns : List Nd) : Rs :=
  if hd ws = [40] then brP d p ws ns
  else if hd ws = wTrue then putN ns ⟨0, 0, 0, 0⟩ ws.tail
  else match chanOf (hd ws) with
    | some c => chP c ws.tail ns
    | none => .error ws.length
def pU : Nat → Nat → List W8 → List Nd → Rs
  | 0, _, _, _ => .error 0
  | n + 1, d, ws, ns =>
    if hd ws = wNot then unP 6 0 (pU n d ws.tail ns)
    else if hd ws = wPrev then unP 9 0 (pU n d ws.tail ns)
    else if hd ws = wOnce then tkP 10 (pU n d) ws.tail ns
    else if hd ws = wHist then tkP 11 (pU n d) ws.tail ns
    else atomP d (orP (pU n (d + 1))) ws ns
def wholeP (ws : List W8) : Rs := bnd (orP (pU (ws.length + 1) 0) ws []) (fun g => if hd g.ws = [] then .ok g else .error g.ws.length)
def wds (ts : List (Nat × W8)) : List W8 := ts.map Prod.snd
/-- Where the text can't go on, if so many words are left. -/
def plc (s : W8) (k : Nat) : Nat := pl s.length ((lex 0 s).drop ((lex 0 s).length - k))
/-- What Parse answers: nodes, place, error. -/
structure Ans where
  ns : List Nd
  at_ : Nat
  e : Int
def parseA (s : W8) : Ans :=
  if 1024 < s.length then ⟨[], 1024, 5⟩
  else match wholeP (wds (lex 0 s)) with
    | .error k => ⟨[], plc s k, 4⟩
    | .ok g => if 32 < g.ns.length then ⟨[], s.length, 6⟩ else ⟨g.ns, 0, 0⟩
/-- Words that are left are the last ones. -/
def Tail (ws' ws : List W8) : Prop := ∃ pre, ws = pre ++ ws'
theorem Tail.rfl {ws : List W8} : Tail ws ws := ⟨[], Eq.refl _⟩
theorem Tail.trans {a b c : List W8} (h : Tail a b) (k : Tail b c) : Tail a c := by
  obtain ⟨p, rfl⟩ := h
  obtain ⟨q, rfl⟩ := k
  exact ⟨q ++ p, by simp⟩
theorem Tail.tail {a b : List W8} (h : Tail a b) : Tail a.tail b := by
  cases a with
  | nil => exact h
  | cons x a => exact Tail.trans ⟨[x], Eq.refl _⟩ h
theorem Tail.len {a b : List W8} (h : Tail a b) : a.length ≤ b.length := by
  obtain ⟨p, rfl⟩ := h
  simp
/-- What is read leaves the last words, makes nodes of some, and its number is the last node's; where it can't go on some words are left. -/
def Fine (r : Rs) (ws : List W8) (ns : List Nd) : Prop :=
  match r with
  | .ok g => Tail g.ws ws ∧ (∃ seg, g.ns = ns ++ seg) ∧ g.i + 1 = g.ns.length ∧ g.ns.length + g.ws.length ≤ ns.length + ws.length
  | .error k => k ≤ ws.length
theorem Fine.bnd {r : Rs} {f : Got → Rs} {ws : List W8} {ns : List Nd} (h : Fine r ws ns) (k : ∀ g, r = .ok g → Fine (f g) g.ws g.ns) : Fine (bnd r f) ws ns := by
  rcases r with e | g
  · exact h
  · have h2 := k g rfl
    show Fine (f g) ws ns
    obtain ⟨t1, ⟨s1, e1⟩, i1, l1⟩ := h
    rcases hf : f g with e | g'
    · rw [hf] at h2
      exact Nat.le_trans h2 t1.len
    · rw [hf] at h2
      obtain ⟨t2, ⟨s2, e2⟩, i2, l2⟩ := h2
      exact ⟨t2.trans t1, ⟨s1 ++ s2, by rw [e2, e1]; simp⟩, i2, by omega⟩
theorem Fine.less {r : Rs} {ws ws' : List W8} {ns : List Nd} (h : Fine r ws' ns) (t : Tail ws' ws) : Fine r ws ns := by
  rcases r with e | g
  · exact Nat.le_trans h t.len
  · exact ⟨h.1.trans t, h.2.1, h.2.2.1, by have := h.2.2.2; have := t.len; omega⟩
theorem hd_tail {ws : List W8} (h : hd ws ≠ []) : ws.tail.length + 1 = ws.length := by
  cases ws with
  | nil => exact absurd rfl h
  | cons x r => rfl
theorem fine_put {ns : List Nd} {x : Nd} {ws ws' : List W8} (t : Tail ws' ws) (hl : ws'.length + 1 ≤ ws.length) : Fine (putN ns x ws') ws ns :=
  ⟨t, ⟨[x], rfl⟩, by simp, by simp; omega⟩
theorem fine_loop {w : W8} {op : Int} {p : List W8 → List Nd → Rs} (hw : w ≠ []) (hp : ∀ ws ns, Fine (p ws ns) ws ns) : ∀ f (g : Got), g.i + 1 = g.ns.length → Fine (loopP w op p f g) g.ws g.ns
  | 0, _, _ => Nat.zero_le _
  | f + 1, g, hi => by
    unfold loopP
    by_cases h : hd g.ws = w
    · rw [if_pos h]
      have hl := hd_tail (ws := g.ws) (by rw [h]; exact hw)
      have h0 := hp g.ws.tail g.ns
      rcases hr : p g.ws.tail g.ns with e | h'
      · rw [hr] at h0
        show e ≤ g.ws.length
        have : e ≤ g.ws.tail.length := h0
        omega
      · rw [hr] at h0
        obtain ⟨t1, ⟨s1, e1⟩, i1, l1⟩ := h0
        have h2 := fine_loop (op := op) hw hp f ⟨h'.ns.length, h'.ws, h'.ns ++ [⟨op, g.i, h'.i, 0⟩]⟩ (by simp)
        show Fine (loopP w op p f ⟨h'.ns.length, h'.ws, h'.ns ++ [⟨op, g.i, h'.i, 0⟩]⟩) g.ws g.ns
        rcases hf : loopP w op p f ⟨h'.ns.length, h'.ws, h'.ns ++ [⟨op, g.i, h'.i, 0⟩]⟩ with e | g'
        · rw [hf] at h2 ⊢
          show e ≤ g.ws.length
          exact Nat.le_trans h2 (t1.trans (Tail.rfl.tail)).len
        · rw [hf] at h2 ⊢
          obtain ⟨t2, ⟨s2, e2⟩, i2, l2⟩ := h2
          refine ⟨(t2.trans t1).trans Tail.rfl.tail, ⟨s1 ++ [⟨op, g.i, h'.i, 0⟩] ++ s2, by rw [e2]; simp [e1]⟩, i2, ?_⟩
          simp at l2
          omega
    · rw [if_neg h]
      exact ⟨Tail.rfl, ⟨[], by simp⟩, hi, Nat.le_refl _⟩
theorem fine_bin {w : W8} {op : Int} {p : List W8 → List Nd → Rs} (hw : w ≠ []) (hp : ∀ ws ns, Fine (p ws ns) ws ns) (ws : List W8) (ns : List Nd) : Fine (binP w op p ws ns) ws ns := by
  unfold binP
  refine (hp ws ns).bnd (fun g hg => ?_)
  have h := hp ws ns
  rw [hg] at h
  exact fine_loop hw hp _ g h.2.2.1
theorem fine_sin {u : List W8 → List Nd → Rs} (hu : ∀ ws ns, Fine (u ws ns) ws ns) (ws : List W8) (ns : List Nd) : Fine (sinP u ws ns) ws ns := by
  unfold sinP
  refine (hu ws ns).bnd (fun g hg => ?_)
  have h := hu ws ns
  rw [hg] at h
  by_cases hs : hd g.ws = wSince
  · rw [if_pos hs]
    have hl := hd_tail (ws := g.ws) (by rw [hs]; decide)
    have h0 := hu g.ws.tail g.ns
    rcases hr : u g.ws.tail g.ns with e | h'
    · rw [hr] at h0
      show e ≤ g.ws.length
      have : e ≤ g.ws.tail.length := h0
      omega
    · rw [hr] at h0
      obtain ⟨t1, ⟨s1, e1⟩, i1, l1⟩ := h0
      refine ⟨t1.trans Tail.rfl.tail, ⟨s1 ++ [⟨12, g.i, h'.i, 0⟩], by show h'.ns ++ _ = _; rw [e1]; simp⟩, by show h'.ns.length + 1 = (h'.ns ++ _).length; simp, ?_⟩
      show (h'.ns ++ _).length + h'.ws.length ≤ _
      simp
      omega
  · rw [if_neg hs]
    exact ⟨Tail.rfl, ⟨[], by simp⟩, h.2.2.1, Nat.le_refl _⟩
theorem fine_and {u : List W8 → List Nd → Rs} (hu : ∀ ws ns, Fine (u ws ns) ws ns) (ws : List W8) (ns : List Nd) : Fine (andP u ws ns) ws ns := fine_bin (by decide) (fine_sin hu) ws ns
theorem fine_or {u : List W8 → List Nd → Rs} (hu : ∀ ws ns, Fine (u ws ns) ws ns) (ws : List W8) (ns : List Nd) : Fine (orP u ws ns) ws ns := fine_bin (by decide) (fine_and hu) ws ns
theorem fine_un {op n : Int} {r : Rs} {ws : List W8} {ns : List Nd} (hw : hd ws ≠ []) (h : Fine r ws.tail ns) : Fine (unP op n r) ws ns := by
  have hl := hd_tail hw
  rcases r with e | g
  · show e ≤ ws.length
    have : e ≤ ws.tail.length := h
    omega
  · obtain ⟨t1, ⟨s1, e1⟩, i1, l1⟩ := h
    refine ⟨t1.trans Tail.rfl.tail, ⟨s1 ++ [⟨op, g.i, 0, n⟩], by show g.ns ++ _ = _; rw [e1]; simp⟩, by show g.ns.length + 1 = (g.ns ++ _).length; simp, ?_⟩
    show (g.ns ++ _).length + g.ws.length ≤ _
    simp
    omega
theorem fine_ch {c : Nat} {ws : List W8} {ns : List Nd} (hw : hd ws ≠ []) : Fine (chP c ws.tail ns) ws ns := by
  have hl := hd_tail hw
  have t2 : Tail ws.tail.tail ws := Tail.rfl.tail.tail
  have l2 : ws.tail.tail.length ≤ ws.tail.length := by simp
  have cm : ∀ op, Fine (cmpP op c ws.tail.tail ns) ws ns := fun op => by
    unfold cmpP
    split
    · exact fine_put t2.tail (by simp at l2 hl ⊢; omega)
    · exact t2.len
  unfold chP
  split
  · exact cm 1
  split
  · exact cm 2
  split
  · exact fine_put t2 (by omega)
  split
  · exact fine_put t2 (by omega)
  split
  · exact fine_put t2 (by omega)
  · exact Tail.rfl.tail.len
theorem fine_tk {op : Int} {p : List W8 → List Nd → Rs} {ws : List W8} {ns : List Nd} (hw : hd ws ≠ []) (hp : ∀ ws ns, Fine (p ws ns) ws ns) : Fine (tkP op p ws.tail ns) ws ns := by
  unfold tkP
  split
  · refine fine_un hw ((hp _ _).less Tail.rfl.tail)
  · exact Tail.rfl.tail.len
theorem chanOf_nil : chanOf [] = none := by decide
theorem fine_atom {d : Nat} {p : List W8 → List Nd → Rs} (hp : ∀ ws ns, Fine (p ws ns) ws ns) (ws : List W8) (ns : List Nd) : Fine (atomP d p ws ns) ws ns := by
  unfold atomP
  split
  · unfold brP
    split
    · refine ((hp _ _).less Tail.rfl.tail).bnd (fun g hg => ?_)
      split
      · have h := hp ws.tail ns
        rw [hg] at h
        exact ⟨Tail.rfl.tail, ⟨[], by simp⟩, h.2.2.1, by simp⟩
      · exact Nat.le_refl _
    · exact Nat.le_refl _
  split
  · rename_i h
    exact fine_put Tail.rfl.tail (by have := hd_tail (ws := ws) (by rw [h]; decide); omega)
  split
  · rename_i c h
    exact fine_ch (fun e => by rw [e, chanOf_nil] at h; cases h)
  · exact Nat.le_refl _
theorem fine_pU : ∀ n d ws ns, Fine (pU n d ws ns) ws ns
  | 0, _, _, _ => Nat.zero_le _
  | n + 1, d, ws, ns => by
    unfold pU
    split
    · rename_i h
      exact fine_un (by rw [h]; decide) (fine_pU n d _ _)
    split
    · rename_i h
      exact fine_un (by rw [h]; decide) (fine_pU n d _ _)
    split
    · rename_i h
      exact fine_tk (by rw [h]; decide) (fine_pU n d)
    split
    · rename_i h
      exact fine_tk (by rw [h]; decide) (fine_pU n d)
    · exact fine_atom (fine_or (fine_pU n (d + 1))) ws ns
end Go.Proofs.YtlfcihanhfabmaaGreatDoor
