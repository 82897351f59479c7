/-
  Formulas as trees: what is written of a node, its words, its nodes laid anew; how the words are read. Over lists alone.
-/
import Derived.Test.YtlfcihanhfabmaaGreatDoorNtS
import Derived.Test.YtlfcihanhfabmaaGreatDoorNtV
import Derived.Test.YtlfcihanhfabmaaGreatDoorX1Pure4
namespace Go.Proofs.YtlfcihanhfabmaaGreatDoor
/-- A node's value out of those of its parts. -/
def tr {α : Type} (z : α) (st : Nd → (Nat → α) → α) (L : List Nd) : Nat → Nat → α
  | 0, _ => z
  | f + 1, i => st (L.getD i Nd.none) (tr z st L f)
/-- What is made of a node hangs on its parts alone. -/
def Parted {α : Type} (st : Nd → (Nat → α) → α) : Prop := ∀ (x : Nd) (i : Nat) (r r' : Nat → α), okN x (i : Int) 8 = true → (∀ j, j < i → r j = r' j) → st x r = st x r'
theorem tr_fuel {α : Type} {z : α} {st : Nd → (Nat → α) → α} (hs : Parted st) {L : List Nd} (h : okAll L 8 = true) : ∀ (i f f' : Nat), i < f → i < f' → i < L.length → tr z st L f i = tr z st L f' i := by
  intro i
  induction i using Nat.strongRecOn with
  | ind i ih =>
    intro f f' hf hf' hi
    obtain ⟨f, rfl⟩ : ∃ q, f = q + 1 := ⟨f - 1, by omega⟩
    obtain ⟨f', rfl⟩ : ∃ q, f' = q + 1 := ⟨f' - 1, by omega⟩
    show st _ (tr z st L f) = st _ (tr z st L f')
    exact hs _ i _ _ (okAll_getD h hi) (fun j hj => ih j hj f f' (by omega) (by omega) (by omega))
theorem tr_more {α : Type} {z : α} {st : Nd → (Nat → α) → α} (hs : Parted st) {L : List Nd} (h : okAll L 8 = true) (M : List Nd) : ∀ (i f : Nat), i < L.length → tr z st (L ++ M) f i = tr z st L f i := by
  intro i
  induction i using Nat.strongRecOn with
  | ind i ih =>
    intro f hi
    cases f with
    | zero => rfl
    | succ f =>
      show st _ (tr z st (L ++ M) f) = st _ (tr z st L f)
      have e : (L ++ M).getD i Nd.none = L.getD i Nd.none := by simp [List.getD, List.getElem?_append_left hi]
      rw [e]
      exact hs _ i _ _ (okAll_getD h hi) (fun j hj => ih j hj f (by omega))
/-- A part: its operation, its words, its text, its nodes laid behind so many. -/
structure Pt where
  op : Int
  ws : List W8
  tx : W8
  us : Nat → List Nd
def brk (p : Pt) (least : Nat) : List W8 := if lvl p.op < least then [40] :: (p.ws ++ [[41]]) else p.ws
def brt (p : Pt) (least : Nat) : W8 := if lvl p.op < least then 40 :: (p.tx ++ [41]) else p.tx
/-- How tight a left and a right part bind at least. -/
def laO (op : Int) : Nat := if op = 12 then 3 else lvl op
def lbO (op : Int) : Nat := if op = 12 then 3 else lvl op + 1
def atP (x : Nd) : Pt :=
  if x.op = 0 then ⟨0, [wTrue], wTrue, fun _ => [x]⟩
  else if x.op = 1 ∨ x.op = 2 then ⟨x.op, [chanW x.a.toNat, wordOf x.op, L1.textL x.n], chanW x.a.toNat ++ 32 :: (wordOf x.op ++ 32 :: L1.textL x.n), fun _ => [x]⟩
  else ⟨x.op, [chanW x.a.toNat, wordOf x.op], chanW x.a.toNat ++ 32 :: wordOf x.op, fun _ => [x]⟩
def unPt (op n : Int) (hw : List W8) (ht : W8) (p : Pt) : Pt := ⟨op, hw ++ brk p 3, ht ++ brt p 3, fun b => p.us b ++ [⟨op, ((b + (p.us b).length - 1 : Nat) : Int), 0, n⟩]⟩
def binPt (op : Int) (p q : Pt) : Pt := ⟨op, brk p (laO op) ++ wordOf op :: brk q (lbO op), brt p (laO op) ++ 32 :: (wordOf op ++ 32 :: brt q (lbO op)), fun b => p.us b ++ q.us (b + (p.us b).length) ++ [⟨op, ((b + (p.us b).length - 1 : Nat) : Int), ((b + (p.us b).length + (q.us (b + (p.us b).length)).length - 1 : Nat) : Int), 0⟩]⟩
def stP (x : Nd) (r : Nat → Pt) : Pt :=
  if x.op ≤ 5 then atP x
  else if x.op = 6 ∨ x.op = 9 then unPt x.op 0 [wordOf x.op] (wordOf x.op ++ [32]) (r x.a.toNat)
  else if x.op = 10 ∨ x.op = 11 then unPt x.op x.n [wordOf x.op, dig x.n.toNat] (wordOf x.op ++ 32 :: (dig x.n.toNat ++ [32])) (r x.a.toNat)
  else binPt x.op (r x.a.toNat) (r x.b.toNat)
theorem parted_stP : Parted stP := by
  intro x i r r' h hr
  have ha := okN_ahead h
  have ho := okN_op h
  unfold stP
  split
  · rfl
  split
  · rw [hr _ (ha.1 (by omega) (by omega))]
  split
  · rw [hr _ (ha.1 (by omega) (by omega))]
  · rw [hr _ (ha.1 (by omega) (by omega)), hr _ (ha.2 (by omega))]
def pt (L : List Nd) (i : Nat) : Pt := tr ⟨0, [], [], fun _ => []⟩ stP L (i + 1) i
theorem pt_eq {L : List Nd} (h : okAll L 8 = true) {i : Nat} {x : Nd} (hx : L[i]? = some x) : pt L i = stP x (pt L) := by
  have hi : i < L.length := (List.getElem?_eq_some_iff.1 hx).1
  have e : L.getD i Nd.none = x := by simp [List.getD, hx]
  have ho := okAll_getD h hi
  unfold pt
  show stP (L.getD i Nd.none) _ = _
  rw [e] at ho ⊢
  exact parted_stP x i _ _ ho (fun j hj => tr_fuel parted_stP h j i (j + 1) hj (by omega) (by omega))
theorem pt_more {L : List Nd} (h : okAll L 8 = true) (M : List Nd) {i : Nat} (hi : i < L.length) : pt (L ++ M) i = pt L i := tr_more parted_stP h M i _ hi
/-- The three kinds of nodes. -/
theorem pt_kinds {L : List Nd} (h : okAll L 8 = true) {i : Nat} (hi : i < L.length) :
    (∃ x, L[i]? = some x ∧ okN x (i : Int) 8 = true ∧ x.op ≤ 5 ∧ pt L i = atP x)
    ∨ (∃ (op n : Int) (A : Nat) (hw : List W8) (ht : W8), L[i]? = some ⟨op, A, 0, n⟩ ∧ A < i ∧ pt L i = unPt op n hw ht (pt L A) ∧ (((op = 6 ∨ op = 9) ∧ n = 0 ∧ hw = [wordOf op] ∧ ht = wordOf op ++ [32]) ∨ (∃ N : Nat, (op = 10 ∨ op = 11) ∧ n = N ∧ N ≤ 64 ∧ hw = [wordOf op, dig N] ∧ ht = wordOf op ++ 32 :: (dig N ++ [32]))))
    ∨ (∃ (op : Int) (A B : Nat), L[i]? = some ⟨op, A, B, 0⟩ ∧ A < i ∧ B < i ∧ (op = 7 ∨ op = 8 ∨ op = 12) ∧ pt L i = binPt op (pt L A) (pt L B)) := by
  have hx : L[i]? = some L[i] := List.getElem?_eq_getElem hi
  have ho := okAll_at h hx
  have hp := pt_eq h hx
  generalize L[i] = x at *
  rcases okN_cases ho with rfl | ⟨A, hA, h1, h2, e⟩ | ⟨A, hA, e⟩ | ⟨A, hA, e⟩ | ⟨A, N, hA, hN, e⟩ | ⟨A, B, hA, hB, e⟩
  · exact .inl ⟨_, hx, ho, by decide, hp⟩
  · refine .inl ⟨x, hx, ho, ?_, ?_⟩
    · rcases e with e | e <;> (rw [e]; show (_ : Int) ≤ 5; simp)
    · rw [hp]
      rcases e with e | e <;> (rw [e]; rfl)
  · refine .inl ⟨x, hx, ho, ?_, ?_⟩
    · rcases e with rfl | rfl | rfl <;> simp
    · rw [hp]
      rcases e with rfl | rfl | rfl <;> rfl
  · refine .inr (.inl ?_)
    rcases e with rfl | rfl
    · exact ⟨6, 0, A, _, _, hx, by omega, hp, .inl ⟨.inl rfl, rfl, rfl, rfl⟩⟩
    · exact ⟨9, 0, A, _, _, hx, by omega, hp, .inl ⟨.inr rfl, rfl, rfl, rfl⟩⟩
  · refine .inr (.inl ?_)
    rcases e with rfl | rfl
    · exact ⟨10, N, A, _, _, hx, by omega, hp, .inr ⟨N, .inl rfl, rfl, hN, rfl, rfl⟩⟩
    · exact ⟨11, N, A, _, _, hx, by omega, hp, .inr ⟨N, .inr rfl, rfl, hN, rfl, rfl⟩⟩
  · refine .inr (.inr ?_)
    rcases e with rfl | rfl | rfl
    · exact ⟨7, A, B, hx, by omega, by omega, .inl rfl, hp⟩
    · exact ⟨8, A, B, hx, by omega, by omega, .inr (.inl rfl), hp⟩
    · exact ⟨12, A, B, hx, by omega, by omega, .inr (.inr rfl), hp⟩
theorem atP_us {x : Nd} : (atP x).us = fun _ => [x] := by
  unfold atP
  split
  · rfl
  split <;> rfl
theorem atP_lvl {x : Nd} (h : x.op ≤ 5) : lvl (atP x).op = 3 := by
  unfold atP
  split
  · rfl
  split
  · rename_i h1
    rcases h1 with h1 | h1 <;> (show lvl x.op = 3; rw [h1]; rfl)
  · show lvl x.op = 3
    unfold lvl
    rw [if_neg (by omega), if_neg (by omega), if_neg (by omega)]
theorem us_pos {L : List Nd} (h : okAll L 8 = true) {i : Nat} (hi : i < L.length) (b : Nat) : 1 ≤ ((pt L i).us b).length := by
  rcases pt_kinds h hi with ⟨x, _, _, _, e⟩ | ⟨op, n, A, hw, ht, _, _, e, _⟩ | ⟨op, A, B, _, _, _, _, e⟩
  · rw [e, atP_us]; simp
  · rw [e]; simp [unPt]
  · rw [e]; simp [binPt]; omega
/-- The parser's loop, with fuel enough. -/
theorem loop_fuel {w : W8} {op : Int} {p : List W8 → List Nd → Rs} (hw : w ≠ []) (hp : ∀ ws ns, Fine (p ws ns) ws ns) : ∀ f f' (g : Got), g.ws.length < f → g.ws.length < f' → loopP w op p f g = loopP w op p f' g
  | 0, _, _, h, _ => by omega
  | f + 1, f', g, h, h' => by
    obtain ⟨f', rfl⟩ : ∃ q, f' = q + 1 := ⟨f' - 1, by omega⟩
    unfold loopP
    by_cases hs : hd g.ws = w
    · rw [if_pos hs, if_pos hs]
      have hl := hd_tail (ws := g.ws) (by rw [hs]; exact hw)
      have hf := hp g.ws.tail g.ns
      rcases hr : p g.ws.tail g.ns with k | g1
      · rfl
      · rw [hr] at hf
        have hln := hf.1.len
        exact loop_fuel hw hp f f' ⟨g1.ns.length, g1.ws, g1.ns ++ [⟨op, g.i, g1.i, 0⟩]⟩ (by show g1.ws.length < f; omega) (by show g1.ws.length < f'; omega)
    · rw [if_neg hs, if_neg hs]
def loopI (w : W8) (op : Int) (p : List W8 → List Nd → Rs) (g : Got) : Rs := loopP w op p (g.ws.length + 1) g
theorem loopI_end {w : W8} {op : Int} {p : List W8 → List Nd → Rs} {g : Got} (h : hd g.ws ≠ w) : loopI w op p g = .ok g := by
  unfold loopI loopP
  rw [if_neg h]
theorem loopI_step {w : W8} {op : Int} {p : List W8 → List Nd → Rs} (hw : w ≠ []) (hp : ∀ ws ns, Fine (p ws ns) ws ns) {g g1 : Got} (h : hd g.ws = w) (h1 : p g.ws.tail g.ns = .ok g1) : loopI w op p g = loopI w op p ⟨g1.ns.length, g1.ws, g1.ns ++ [⟨op, g.i, g1.i, 0⟩]⟩ := by
  have hl := hd_tail (ws := g.ws) (by rw [h]; exact hw)
  have hf := hp g.ws.tail g.ns
  rw [h1] at hf
  have hln := hf.1.len
  conv => lhs; unfold loopI loopP
  rw [if_pos h, bnd_ok h1]
  unfold loopI
  exact loop_fuel hw hp _ _ _ (by show g1.ws.length < _; omega) (Nat.lt_succ_self _)
/-- What is read of a part: its nodes, behind those that there are. -/
def Gt (p : Pt) (rest : List W8) (ns : List Nd) : Got := ⟨ns.length + (p.us ns.length).length - 1, rest, ns ++ p.us ns.length⟩
/-- A part's words are read as that part, wherever they stand. -/
structure Rdd (p : Pt) (n d : Nat) : Prop where
  u : lvl p.op = 3 → ∀ rest ns, pU n d (p.ws ++ rest) ns = .ok (Gt p rest ns)
  s : 2 ≤ lvl p.op → ∀ rest ns, hd rest ≠ wSince → sinP (pU n d) (p.ws ++ rest) ns = .ok (Gt p rest ns)
  a : 1 ≤ lvl p.op → ∀ rest ns, hd rest ≠ wSince → andP (pU n d) (p.ws ++ rest) ns = loopI wAnd 7 (sinP (pU n d)) (Gt p rest ns)
  o : ∀ rest ns, hd rest ≠ wSince → hd rest ≠ wAnd → orP (pU n d) (p.ws ++ rest) ns = loopI wOr 8 (andP (pU n d)) (Gt p rest ns)
theorem up_sin {u : List W8 → List Nd → Rs} {ws rest : List W8} {ns : List Nd} {g : Got} (h : u ws ns = .ok g) (hg : g.ws = rest) (hr : hd rest ≠ wSince) : sinP u ws ns = .ok g := by
  unfold sinP
  rw [bnd_ok h, if_neg (by rw [hg]; exact hr)]
theorem up_bin {w : W8} {op : Int} {p : List W8 → List Nd → Rs} (hw : w ≠ []) (hp : ∀ ws ns, Fine (p ws ns) ws ns) {ws : List W8} {ns : List Nd} {g : Got} (h : p ws ns = .ok g) : binP w op p ws ns = loopI w op p g := by
  have hf := hp ws ns
  rw [h] at hf
  have := hf.1.len
  unfold binP
  rw [bnd_ok h]
  exact loop_fuel hw hp _ _ _ (by omega) (by omega)
/-- Where a unary operation may stand. -/
theorem rdd_u {p : Pt} {n d : Nat} (_hl : lvl p.op = 3) (h : ∀ rest ns, pU n d (p.ws ++ rest) ns = .ok (Gt p rest ns)) : Rdd p n d := by
  have hs : ∀ rest ns, hd rest ≠ wSince → sinP (pU n d) (p.ws ++ rest) ns = .ok (Gt p rest ns) := fun rest ns hr => up_sin (h rest ns) rfl hr
  have ha : ∀ rest ns, hd rest ≠ wSince → andP (pU n d) (p.ws ++ rest) ns = loopI wAnd 7 (sinP (pU n d)) (Gt p rest ns) := fun rest ns hr => up_bin (by decide) (fine_sin (fine_pU n d)) (hs rest ns hr)
  exact ⟨fun _ => h, fun _ => hs, fun _ => ha, fun rest ns h1 h2 => up_bin (by decide) (fine_and (fine_pU n d)) ((ha rest ns h1).trans (loopI_end h2))⟩
theorem rdd_s {p : Pt} {n d : Nat} (hl : lvl p.op = 2) (h : ∀ rest ns, hd rest ≠ wSince → sinP (pU n d) (p.ws ++ rest) ns = .ok (Gt p rest ns)) : Rdd p n d := by
  have ha : ∀ rest ns, hd rest ≠ wSince → andP (pU n d) (p.ws ++ rest) ns = loopI wAnd 7 (sinP (pU n d)) (Gt p rest ns) := fun rest ns hr => up_bin (by decide) (fine_sin (fine_pU n d)) (h rest ns hr)
  exact ⟨fun h' => by omega, fun _ => h, fun _ => ha, fun rest ns h1 h2 => up_bin (by decide) (fine_and (fine_pU n d)) ((ha rest ns h1).trans (loopI_end h2))⟩
theorem rdd_a {p : Pt} {n d : Nat} (hl : lvl p.op = 1) (h : ∀ rest ns, hd rest ≠ wSince → andP (pU n d) (p.ws ++ rest) ns = loopI wAnd 7 (sinP (pU n d)) (Gt p rest ns)) : Rdd p n d :=
  ⟨fun h' => by omega, fun h' => by omega, fun _ => h, fun rest ns h1 h2 => up_bin (by decide) (fine_and (fine_pU n d)) ((h rest ns h1).trans (loopI_end h2))⟩
/-- A part in brackets. -/
theorem brk_u {p : Pt} {n d : Nat} (hd32 : d < 32) (R : Rdd p n (d + 1)) (rest : List W8) (ns : List Nd) : pU (n + 1) d (([40] :: (p.ws ++ [[41]])) ++ rest) ns = .ok (Gt p rest ns) := by
  have h1 := (R.o ([41] :: rest) ns (by show ([41] : W8) ≠ wSince; decide) (by show ([41] : W8) ≠ wAnd; decide)).trans (loopI_end (show ([41] : W8) ≠ wOr by decide))
  have e : ([40] : W8) :: (p.ws ++ [[41]]) ++ rest = [40] :: (p.ws ++ [41] :: rest) := by simp
  rw [e]
  unfold pU
  rw [show hd ([40] :: (p.ws ++ [41] :: rest)) = [40] from rfl, if_neg (by decide), if_neg (by decide), if_neg (by decide), if_neg (by decide)]
  unfold atomP
  rw [show hd ([40] :: (p.ws ++ [41] :: rest)) = [40] from rfl, if_pos rfl]
  unfold brP
  rw [if_pos hd32, show ([40] :: (p.ws ++ [41] :: rest)).tail = p.ws ++ [41] :: rest from rfl, bnd_ok h1]
  rfl
/-- A part where only what binds tight may stand. -/
theorem part_u {p : Pt} {n d : Nat} (hn : (brk p 3).length < n) (hd32 : d < 32) (R : ∀ m e, p.ws.length < m → e ≤ d + 1 → Rdd p m e) (rest : List W8) (ns : List Nd) : pU n d (brk p 3 ++ rest) ns = .ok (Gt p rest ns) := by
  unfold brk at hn ⊢
  by_cases hl : lvl p.op < 3
  · rw [if_pos hl] at hn ⊢
    obtain ⟨n, rfl⟩ : ∃ q, n = q + 1 := ⟨n - 1, by omega⟩
    exact brk_u hd32 (R n (d + 1) (by simp at hn; omega) (Nat.le_refl _)) rest ns
  · rw [if_neg hl] at hn ⊢
    exact (R n d hn (by omega)).u (by unfold lvl at hl ⊢; split at hl; omega; split at hl; omega; split at hl; omega; rename_i h1 h2 h3; rw [if_neg h1, if_neg h2, if_neg h3]) rest ns
theorem part_s {p : Pt} {n d : Nat} (hn : (brk p 2).length < n) (hd32 : d < 32) (R : ∀ m e, p.ws.length < m → e ≤ d + 1 → Rdd p m e) (rest : List W8) (ns : List Nd) (hr : hd rest ≠ wSince) : sinP (pU n d) (brk p 2 ++ rest) ns = .ok (Gt p rest ns) := by
  unfold brk at hn ⊢
  by_cases hl : lvl p.op < 2
  · rw [if_pos hl] at hn ⊢
    obtain ⟨n, rfl⟩ : ∃ q, n = q + 1 := ⟨n - 1, by omega⟩
    exact up_sin (brk_u hd32 (R n (d + 1) (by simp at hn; omega) (Nat.le_refl _)) rest ns) rfl hr
  · rw [if_neg hl] at hn ⊢
    exact (R n d hn (by omega)).s (by omega) rest ns hr
theorem part_a {p : Pt} {n d : Nat} (hn : (brk p 1).length < n) (hd32 : d < 32) (R : ∀ m e, p.ws.length < m → e ≤ d + 1 → Rdd p m e) (rest : List W8) (ns : List Nd) (hr : hd rest ≠ wSince) : andP (pU n d) (brk p 1 ++ rest) ns = loopI wAnd 7 (sinP (pU n d)) (Gt p rest ns) := by
  unfold brk at hn ⊢
  by_cases hl : lvl p.op < 1
  · rw [if_pos hl] at hn ⊢
    obtain ⟨n, rfl⟩ : ∃ q, n = q + 1 := ⟨n - 1, by omega⟩
    exact up_bin (by decide) (fine_sin (fine_pU (n + 1) d)) (up_sin (brk_u hd32 (R n (d + 1) (by simp at hn; omega) (Nat.le_refl _)) rest ns) rfl hr)
  · rw [if_neg hl] at hn ⊢
    exact (R n d hn (by omega)).a (by omega) rest ns hr
theorem brk_ge (p : Pt) (m : Nat) : p.ws.length ≤ (brk p m).length := by
  unfold brk
  split
  · simp; omega
  · exact Nat.le_refl _
theorem chan_is : ∀ A, A < 8 → chanOf (chanW A) = some A := by
  intro A hA
  rcases (by omega : A = 0 ∨ A = 1 ∨ A = 2 ∨ A = 3 ∨ A = 4 ∨ A = 5 ∨ A = 6 ∨ A = 7) with rfl | rfl | rfl | rfl | rfl | rfl | rfl | rfl <;> decide
theorem tick_is : ∀ N : Fin 65, tickOf (dig N.val) = some N.val := by decide
theorem num_is (v : Int) (h1 : -2147483647 ≤ v) (h2 : v ≤ 2147483647) : numOf (L1.textL v) = some v := by
  unfold numOf
  rw [(L1.read_text v).2, if_pos rfl, (L1.read_text v).1, L1.cl_id v h1 h2]
theorem chan_first : ∀ A, A < 8 → chanW A ≠ wNot ∧ chanW A ≠ wPrev ∧ chanW A ≠ wOnce ∧ chanW A ≠ wHist ∧ chanW A ≠ [40] ∧ chanW A ≠ wTrue := by
  intro A hA
  rcases (by omega : A = 0 ∨ A = 1 ∨ A = 2 ∨ A = 3 ∨ A = 4 ∨ A = 5 ∨ A = 6 ∨ A = 7) with rfl | rfl | rfl | rfl | rfl | rfl | rfl | rfl <;> decide
/-- Words that open with a channel are an atom's. -/
theorem pU_chan {n d A : Nat} (hA : A < 8) (r : List W8) (ns : List Nd) : pU (n + 1) d (chanW A :: r) ns = chP A r ns := by
  obtain ⟨h1, h2, h3, h4, h5, h6⟩ := chan_first A hA
  unfold pU
  rw [show hd (chanW A :: r) = chanW A from rfl, if_neg h1, if_neg h2, if_neg h3, if_neg h4]
  unfold atomP
  rw [show hd (chanW A :: r) = chanW A from rfl, if_neg h5, if_neg h6, chan_is A hA]
  rfl
theorem rdd_atom {x : Nd} {i : Nat} (ho : okN x (i : Int) 8 = true) (h5 : x.op ≤ 5) {n d : Nat} (hn : (atP x).ws.length < n) : Rdd (atP x) n d := by
  refine rdd_u (atP_lvl h5) (fun rest ns => ?_)
  obtain ⟨n, rfl⟩ : ∃ q, n = q + 1 := ⟨n - 1, by omega⟩
  have hG : Gt (atP x) rest ns = ⟨ns.length, rest, ns ++ [x]⟩ := by
    unfold Gt
    rw [atP_us]
    simp
  rw [hG]
  rcases okN_cases ho with rfl | ⟨A, hA, h1, h2, e⟩ | ⟨A, hA, e⟩ | ⟨A, hA, e⟩ | ⟨A, N, hA, hN, e⟩ | ⟨A, B, hA, hB, e⟩
  · show pU (n + 1) d (wTrue :: rest) ns = _
    unfold pU
    rw [show hd (wTrue :: rest) = wTrue from rfl, if_neg (by decide), if_neg (by decide), if_neg (by decide), if_neg (by decide)]
    unfold atomP
    rw [show hd (wTrue :: rest) = wTrue from rfl, if_neg (by decide), if_pos rfl]
    rfl
  · have hv := num_is x.n h1 h2
    rcases e with e | e
    · rw [e]
      show pU (n + 1) d (chanW A :: [62] :: L1.textL x.n :: rest) ns = _
      rw [pU_chan (by omega)]
      unfold chP
      rw [show hd ([62] :: L1.textL x.n :: rest) = [62] from rfl, if_pos rfl]
      unfold cmpP
      rw [show ([62] :: L1.textL x.n :: rest).tail = L1.textL x.n :: rest from rfl, show hd (L1.textL x.n :: rest) = L1.textL x.n from rfl, hv]
      rfl
    · rw [e]
      show pU (n + 1) d (chanW A :: [60] :: L1.textL x.n :: rest) ns = _
      rw [pU_chan (by omega)]
      unfold chP
      rw [show hd ([60] :: L1.textL x.n :: rest) = [60] from rfl, if_neg (by decide), if_pos rfl]
      unfold cmpP
      rw [show ([60] :: L1.textL x.n :: rest).tail = L1.textL x.n :: rest from rfl, show hd (L1.textL x.n :: rest) = L1.textL x.n from rfl, hv]
      rfl
  · rcases e with rfl | rfl | rfl
    · show pU (n + 1) d (chanW A :: wHigh :: rest) ns = _
      rw [pU_chan (by omega)]
      unfold chP
      rw [show hd (wHigh :: rest) = wHigh from rfl, if_neg (by decide), if_neg (by decide), if_pos rfl]
      rfl
    · show pU (n + 1) d (chanW A :: wLow :: rest) ns = _
      rw [pU_chan (by omega)]
      unfold chP
      rw [show hd (wLow :: rest) = wLow from rfl, if_neg (by decide), if_neg (by decide), if_neg (by decide), if_pos rfl]
      rfl
    · show pU (n + 1) d (chanW A :: wKnown :: rest) ns = _
      rw [pU_chan (by omega)]
      unfold chP
      rw [show hd (wKnown :: rest) = wKnown from rfl, if_neg (by decide), if_neg (by decide), if_neg (by decide), if_neg (by decide), if_pos rfl]
      rfl
  · rcases e with rfl | rfl <;> exact absurd h5 (by simp)
  · rcases e with rfl | rfl <;> exact absurd h5 (by simp)
  · rcases e with rfl | rfl | rfl <;> exact absurd h5 (by simp)
theorem gt_un {op nn : Int} {hw : List W8} {ht : W8} {p : Pt} (rest : List W8) (ns : List Nd) (_hp : 1 ≤ (p.us ns.length).length) : unP op nn (.ok (Gt p rest ns)) = .ok (Gt (unPt op nn hw ht p) rest ns) := by
  unfold unP Gt unPt putN
  show Except.ok _ = _
  congr 2
  · simp
  · simp
theorem rdd_un {op nn : Int} {hw : List W8} {ht : W8} {p : Pt} {n d : Nat} (hk : ((op = 6 ∨ op = 9) ∧ nn = 0 ∧ hw = [wordOf op] ∧ ht = wordOf op ++ [32]) ∨ (∃ N : Nat, (op = 10 ∨ op = 11) ∧ nn = N ∧ N ≤ 64 ∧ hw = [wordOf op, dig N] ∧ ht = wordOf op ++ 32 :: (dig N ++ [32])))
    (hn : (unPt op nn hw ht p).ws.length < n) (hd32 : d < 32) (hp : ∀ b, 1 ≤ (p.us b).length) (R : ∀ m e, p.ws.length < m → e ≤ d + 1 → Rdd p m e) : Rdd (unPt op nn hw ht p) n d := by
  refine rdd_u ?_ (fun rest ns => ?_)
  · show lvl op = 3
    rcases hk with ⟨h | h, _⟩ | ⟨N, h | h, _⟩ <;> (rw [h]; rfl)
  · obtain ⟨n, rfl⟩ : ∃ q, n = q + 1 := ⟨n - 1, by omega⟩
    have hl : (brk p 3).length < n := by
      have h9 : (hw ++ brk p 3).length < n + 1 := hn
      rcases hk with ⟨_, _, e, _⟩ | ⟨N, _, _, _, e, _⟩ <;> (rw [e] at h9; simp at h9; omega)
    have hu := part_u hl hd32 R rest ns
    have hg := gt_un (op := op) (nn := nn) (hw := hw) (ht := ht) rest ns (hp _)
    show pU (n + 1) d (hw ++ brk p 3 ++ rest) ns = _
    rcases hk with ⟨h | h, rfl, rfl, rfl⟩ | ⟨N, h | h, rfl, hN, rfl, rfl⟩
    · subst h
      show pU (n + 1) d (wNot :: (brk p 3 ++ rest)) ns = _
      unfold pU
      rw [show hd (wNot :: (brk p 3 ++ rest)) = wNot from rfl, if_pos rfl, show (wNot :: (brk p 3 ++ rest)).tail = brk p 3 ++ rest from rfl, hu]
      exact hg
    · subst h
      show pU (n + 1) d (wPrev :: (brk p 3 ++ rest)) ns = _
      unfold pU
      rw [show hd (wPrev :: (brk p 3 ++ rest)) = wPrev from rfl, if_neg (by decide), if_pos rfl, show (wPrev :: (brk p 3 ++ rest)).tail = brk p 3 ++ rest from rfl, hu]
      exact hg
    · subst h
      show pU (n + 1) d (wOnce :: dig N :: (brk p 3 ++ rest)) ns = _
      unfold pU
      rw [show hd (wOnce :: dig N :: (brk p 3 ++ rest)) = wOnce from rfl, if_neg (by decide), if_neg (by decide), if_pos rfl]
      unfold tkP
      rw [show (wOnce :: dig N :: (brk p 3 ++ rest)).tail = dig N :: (brk p 3 ++ rest) from rfl, show hd (dig N :: (brk p 3 ++ rest)) = dig N from rfl, tick_is ⟨N, by omega⟩]
      show unP 10 (N : Int) (pU n d (brk p 3 ++ rest) ns) = _
      rw [hu]
      exact hg
    · subst h
      show pU (n + 1) d (wHist :: dig N :: (brk p 3 ++ rest)) ns = _
      unfold pU
      rw [show hd (wHist :: dig N :: (brk p 3 ++ rest)) = wHist from rfl, if_neg (by decide), if_neg (by decide), if_neg (by decide), if_pos rfl]
      unfold tkP
      rw [show (wHist :: dig N :: (brk p 3 ++ rest)).tail = dig N :: (brk p 3 ++ rest) from rfl, show hd (dig N :: (brk p 3 ++ rest)) = dig N from rfl, tick_is ⟨N, by omega⟩]
      show unP 11 (N : Int) (pU n d (brk p 3 ++ rest) ns) = _
      rw [hu]
      exact hg
theorem gt_bin (op : Int) {p q : Pt} (rest : List W8) (ns : List Nd) (r1 : List W8) (hp : ∀ b, 1 ≤ (p.us b).length) (hq : ∀ b, 1 ≤ (q.us b).length) :
    (⟨(Gt q rest (Gt p r1 ns).ns).ns.length, rest, (Gt q rest (Gt p r1 ns).ns).ns ++ [⟨op, (Gt p r1 ns).i, (Gt q rest (Gt p r1 ns).ns).i, 0⟩]⟩ : Got) = Gt (binPt op p q) rest ns := by
  have h1 := hp ns.length
  have h2 := hq (ns.length + (p.us ns.length).length)
  unfold Gt binPt
  simp only [List.length_append, List.length_cons, List.length_nil, List.append_assoc]
  congr 1
theorem rdd_bin {op : Int} {p q : Pt} {n d : Nat} (hop : op = 7 ∨ op = 8 ∨ op = 12) (hn : (binPt op p q).ws.length < n) (hd32 : d < 32) (hp : ∀ b, 1 ≤ (p.us b).length) (hq : ∀ b, 1 ≤ (q.us b).length)
    (R : ∀ m e, p.ws.length < m → e ≤ d + 1 → Rdd p m e) (S : ∀ m e, q.ws.length < m → e ≤ d + 1 → Rdd q m e) : Rdd (binPt op p q) n d := by
  have hnn : (brk p (laO op)).length + 1 + (brk q (lbO op)).length < n := by
    have h9 : (brk p (laO op) ++ wordOf op :: brk q (lbO op)).length < n := hn
    simp at h9
    omega
  have ew : ∀ rest, (binPt op p q).ws ++ rest = brk p (laO op) ++ (wordOf op :: (brk q (lbO op) ++ rest)) := fun rest => by
    show (brk p (laO op) ++ wordOf op :: brk q (lbO op)) ++ rest = _
    simp
  rcases hop with rfl | rfl | rfl
  · -- and
    have e1 : laO 7 = 1 := rfl
    have e2 : lbO 7 = 2 := rfl
    rw [e1, e2] at hnn
    refine rdd_a rfl (fun rest ns hr => ?_)
    rw [ew, e1, e2, show wordOf 7 = wAnd from rfl]
    rw [part_a (by omega) hd32 R _ ns (by show wAnd ≠ wSince; decide)]
    have hs := part_s (p := q) (n := n) (d := d) (by omega) hd32 S rest (Gt p (wAnd :: (brk q 2 ++ rest)) ns).ns hr
    rw [loopI_step (w := wAnd) (op := 7) (by decide) (fine_sin (fine_pU n d)) (g := Gt p (wAnd :: (brk q 2 ++ rest)) ns) rfl hs]
    congr 1
    exact gt_bin 7 rest ns _ hp hq
  · -- or
    have e1 : laO 8 = 0 := rfl
    have e2 : lbO 8 = 1 := rfl
    rw [e1, e2] at hnn
    have hb0 : brk p 0 = p.ws := by unfold brk; rw [if_neg (by omega)]
    refine ⟨fun h => absurd h (by show ¬ lvl 8 = 3; decide), fun h => absurd h (by show ¬ 2 ≤ lvl 8; decide), fun h => absurd h (by show ¬ 1 ≤ lvl 8; decide), fun rest ns h1 h2 => ?_⟩
    rw [ew, e1, e2, hb0, show wordOf 8 = wOr from rfl]
    rw [hb0] at hnn
    rw [(R n d (by omega) (by omega)).o _ ns (by show wOr ≠ wSince; decide) (by show wOr ≠ wAnd; decide)]
    have hs := (part_a (p := q) (n := n) (d := d) (by omega) hd32 S rest (Gt p (wOr :: (brk q 1 ++ rest)) ns).ns h1).trans (loopI_end (show hd (Gt q rest _).ws ≠ wAnd from h2))
    rw [loopI_step (w := wOr) (op := 8) (by decide) (fine_and (fine_pU n d)) (g := Gt p (wOr :: (brk q 1 ++ rest)) ns) rfl hs]
    congr 1
    exact gt_bin 8 rest ns _ hp hq
  · -- since
    have e1 : laO 12 = 3 := rfl
    have e2 : lbO 12 = 3 := rfl
    rw [e1, e2] at hnn
    refine rdd_s rfl (fun rest ns _ => ?_)
    rw [ew, e1, e2, show wordOf 12 = wSince from rfl]
    have h1 := part_u (p := p) (n := n) (d := d) (by omega) hd32 R (wSince :: (brk q 3 ++ rest)) ns
    have h2 := part_u (p := q) (n := n) (d := d) (by omega) hd32 S rest (Gt p (wSince :: (brk q 3 ++ rest)) ns).ns
    unfold sinP
    rw [bnd_ok h1, show (Gt p (wSince :: (brk q 3 ++ rest)) ns).ws = wSince :: (brk q 3 ++ rest) from rfl, if_pos (show hd (wSince :: (brk q 3 ++ rest)) = wSince from rfl), show (wSince :: (brk q 3 ++ rest)).tail = brk q 3 ++ rest from rfl, bnd_ok h2]
    unfold putN
    congr 1
    exact gt_bin 12 rest ns _ hp hq
/-- What is written of a formula is read as that, however deep. -/
theorem rdd_all {L : List Nd} (h : okAll L 8 = true) : ∀ i, i < L.length → ∀ n d, (pt L i).ws.length < n → d + i ≤ 32 → Rdd (pt L i) n d := by
  intro i
  induction i using Nat.strongRecOn with
  | ind i ih =>
    intro hi n d hn hd32
    rcases pt_kinds h hi with ⟨x, _, ho, h5, e⟩ | ⟨op, nn, A, hw, ht, _, hA, e, hk⟩ | ⟨op, A, B, _, hA, hB, hop, e⟩
    · rw [e] at hn ⊢
      exact rdd_atom ho h5 hn
    · rw [e] at hn ⊢
      exact rdd_un hk hn (by omega) (us_pos h (by omega)) (fun m e hm he => ih A hA (by omega) m e hm (by omega))
    · rw [e] at hn ⊢
      exact rdd_bin hop hn (by omega) (us_pos h (by omega)) (us_pos h (by omega)) (fun m e hm he => ih A hA (by omega) m e hm (by omega)) (fun m e hm he => ih B hB (by omega) m e hm (by omega))
theorem whole_words {L : List Nd} (h : okAll L 8 = true) {i : Nat} (hi : i < L.length) (h32 : i ≤ 32) : wholeP (pt L i).ws = .ok ⟨((pt L i).us 0).length - 1, [], (pt L i).us 0⟩ := by
  have R := rdd_all h i hi ((pt L i).ws.length + 1) 0 (by omega) (by omega)
  have h1 := (R.o [] [] (by decide) (by decide)).trans (loopI_end (show hd ([] : List W8) ≠ wOr by decide))
  rw [List.append_nil] at h1
  unfold wholeP
  rw [bnd_ok h1]
  show (if hd ([] : List W8) = [] then Except.ok (Gt (pt L i) [] []) else _) = _
  rw [if_pos (show hd ([] : List W8) = [] from rfl)]
  unfold Gt
  simp
end Go.Proofs.YtlfcihanhfabmaaGreatDoor
