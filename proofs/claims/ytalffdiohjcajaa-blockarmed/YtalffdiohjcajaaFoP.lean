/-
  Formulas over whole numbers and lists alone: which may be, what holds at a tick; what follows.
-/
import Derived.Test.YtalffdiohjcajaaBase
namespace Go.Proofs.Ytalffdiohjcajaa
/-- A node. -/
structure Nd where
  op : Int
  a : Int
  b : Int
  n : Int
/-- A channel. -/
structure Ch where
  p : Int
  h : Int
  k : Int
  m : Int
  s : Int
  lo : Int
  hi : Int
/-- A reading. -/
structure Rd where
  s : Int
  v : Int
def Nd.none : Nd := ⟨0, 0, 0, 0⟩
def Ch.none : Ch := ⟨0, 0, 0, 0, 0, 0, 0⟩
def Rd.none : Rd := ⟨0, 0⟩
def Nd.val (x : Nd) : Value := .agg #[.int .i64 x.op, .int .i64 x.a, .int .i64 x.b, .int .i64 x.n]
def Ch.val (c : Ch) : Value := .agg #[.int .i64 c.p, .int .i64 c.h, .int .i64 c.k, .int .i64 c.m, .int .i64 c.s, .int .i64 c.lo, .int .i64 c.hi]
def Rd.val (r : Rd) : Value := .agg #[.int .i64 r.s, .int .i64 r.v]
/-- It has a value. -/
def Rd.has (r : Rd) : Bool := decide (r.s = 1) || decide (r.s = 2)
def Rd.num (r : Rd) : Int := if r.has = true then r.v else 0
/-- The Op is an atom's. -/
def atomic (op : Int) : Bool := decide (1 ≤ op) && decide (op ≤ 5)
/-- An atom holds. -/
def atom (x : Nd) (c : Ch) (r : Rd) : Bool :=
  r.has && (if x.op = 1 then decide (x.n < r.v) else if x.op = 2 then decide (r.v < x.n) else if x.op = 3 then decide (c.hi < r.v) else if x.op = 4 then decide (r.v < c.lo) else true)
def idx (i n : Int) : Bool := decide (0 ≤ i) && decide (i < n)
/-- A node may be, with i ahead of it, of n channels. -/
def okN (x : Nd) (i n : Int) : Bool :=
  if x.op = 0 then decide (x.a = 0) && decide (x.b = 0) && decide (x.n = 0)
  else if x.op = 1 ∨ x.op = 2 then idx x.a n && decide (x.b = 0) && decide (-2147483647 ≤ x.n) && decide (x.n ≤ 2147483647)
  else if x.op = 3 ∨ x.op = 4 ∨ x.op = 5 then idx x.a n && decide (x.b = 0) && decide (x.n = 0)
  else if x.op = 6 ∨ x.op = 9 then idx x.a i && decide (x.b = 0) && decide (x.n = 0)
  else if x.op = 10 ∨ x.op = 11 then idx x.a i && decide (x.b = 0) && decide (0 ≤ x.n) && decide (x.n ≤ 64)
  else if x.op = 7 ∨ x.op = 8 ∨ x.op = 12 then idx x.a i && idx x.b i && decide (x.n = 0)
  else false
/-- All nodes from the k-th on may be. -/
def okFrom (n : Int) : Nat → List Nd → Bool
  | _, [] => true
  | k, x :: r => okN x k n && okFrom n (k + 1) r
def okAll (L : List Nd) (n : Int) : Bool := okFrom n 0 L
/-- What Check answers. -/
def chk (L : List Nd) (n : Int) : Int :=
  if 32 < L.length then 6 else if n < 0 ∨ 8 < n then 2 else if L.length = 0 then 150 else if okAll L n = true then 0 else 150
theorem okFrom_at {n : Int} : ∀ {L : List Nd} {k i : Nat} {x : Nd}, okFrom n k L = true → L[i]? = some x → okN x ((k + i : Nat) : Int) n = true
  | [], _, _, _, _, h => by simp at h
  | y :: r, k, 0, x, h, hx => by
    simp at hx
    subst hx
    unfold okFrom at h
    rw [Bool.and_eq_true] at h
    exact h.1
  | y :: r, k, i + 1, x, h, hx => by
    unfold okFrom at h
    rw [Bool.and_eq_true] at h
    have := okFrom_at h.2 (i := i) (x := x) (by simpa using hx)
    rw [show k + (i + 1) = k + 1 + i by omega]
    exact this
theorem okFrom_take {n : Int} : ∀ {L : List Nd} {k j : Nat} {x : Nd}, L[j]? = some x → okFrom n k (L.take (j + 1)) = (okFrom n k (L.take j) && okN x ((k + j : Nat) : Int) n)
  | [], _, _, _, h => by simp at h
  | y :: r, k, 0, x, h => by
    simp at h
    subst h
    simp [okFrom]
  | y :: r, k, j + 1, x, h => by
    have := okFrom_take (n := n) (k := k + 1) (L := r) (j := j) (x := x) (by simpa using h)
    simp only [List.take_succ_cons, okFrom, this, Bool.and_assoc]
    rw [show k + (j + 1) = k + 1 + j by omega]
theorem okFrom_no {n : Int} {L : List Nd} {k j : Nat} {x : Nd} (h : L[j]? = some x) (hx : okN x ((k + j : Nat) : Int) n = false) : okFrom n k L = false := by
  rcases ho : okFrom n k L with _ | _
  · rfl
  · rw [okFrom_at ho h] at hx
    cases hx
theorem okAll_at {L : List Nd} {n : Int} {i : Nat} {x : Nd} (h : okAll L n = true) (hx : L[i]? = some x) : okN x (i : Int) n = true := by
  have := okFrom_at h hx
  rw [Nat.zero_add] at this
  exact this
/-- Somewhere from lo to t. -/
def anyW (f : Nat → Bool) (lo t : Nat) : Bool := (List.range' lo (t + 1 - lo)).any f
theorem anyW_true {f : Nat → Bool} {lo t : Nat} : anyW f lo t = true ↔ ∃ s, lo ≤ s ∧ s ≤ t ∧ f s = true := by
  unfold anyW
  rw [List.any_eq_true]
  constructor
  · rintro ⟨s, hs, h⟩
    rw [List.mem_range'_1] at hs
    exact ⟨s, hs.1, by omega, h⟩
  · rintro ⟨s, h1, h2, h⟩
    exact ⟨s, by rw [List.mem_range'_1]; omega, h⟩
theorem anyW_false {f : Nat → Bool} {lo t : Nat} : anyW f lo t = false ↔ ∀ s, lo ≤ s → s ≤ t → f s = false := by
  rw [← Bool.not_eq_true, anyW_true]
  constructor
  · intro h s h1 h2
    rcases hf : f s with _ | _
    · rfl
    · exact absurd ⟨s, h1, h2, hf⟩ h
  · rintro h ⟨s, h1, h2, h3⟩
    rw [h s h1 h2] at h3
    cases h3
theorem anyW_congr {f g : Nat → Bool} {lo t : Nat} (h : ∀ s, s ≤ t → f s = g s) : anyW f lo t = anyW g lo t := by
  rcases hg : anyW g lo t with _ | _
  · rw [anyW_false] at hg ⊢
    intro s h1 h2
    rw [h s h2]; exact hg s h1 h2
  · rw [anyW_true] at hg ⊢
    obtain ⟨s, h1, h2, h3⟩ := hg
    exact ⟨s, h1, h2, by rw [h s h2]; exact h3⟩
theorem anyW_one (f : Nat → Bool) (t : Nat) : anyW f t t = f t := by
  unfold anyW
  rw [show t + 1 - t = 1 by omega]
  simp
/-- One ever since the other. -/
def sinc (f g : Nat → Bool) : Nat → Bool
  | 0 => g 0
  | t + 1 => g (t + 1) || (f (t + 1) && sinc f g t)
theorem sinc_congr {f g f' g' : Nat → Bool} : ∀ {t : Nat}, (∀ s, s ≤ t → f s = f' s) → (∀ s, s ≤ t → g s = g' s) → sinc f g t = sinc f' g' t
  | 0, _, hg => hg 0 (Nat.le_refl _)
  | t + 1, hf, hg => by
    unfold sinc
    rw [hf _ (Nat.le_refl _), hg _ (Nat.le_refl _), sinc_congr (fun s hs => hf s (by omega)) (fun s hs => hg s (by omega))]
/-- What a node makes of its parts at a tick. -/
def stepv (x : Nd) (C : List Ch) (T : List (List Rd)) (r : Nat → Nat → Bool) (t : Nat) : Bool :=
  if x.op = 0 then true
  else if x.op = 6 then !r x.a.toNat t
  else if x.op = 7 then r x.a.toNat t && r x.b.toNat t
  else if x.op = 8 then r x.a.toNat t || r x.b.toNat t
  else if x.op = 9 then decide (0 < t) && r x.a.toNat (t - 1)
  else if x.op = 10 then anyW (r x.a.toNat) (t - x.n.toNat) t
  else if x.op = 11 then !anyW (fun s => !r x.a.toNat s) (t - x.n.toNat) t
  else if x.op = 12 then sinc (r x.a.toNat) (r x.b.toNat) t
  else atom x (C.getD x.a.toNat Ch.none) ((T.getD t []).getD x.a.toNat Rd.none)
def hv (L : List Nd) (C : List Ch) (T : List (List Rd)) : Nat → Nat → Nat → Bool
  | 0, _, _ => false
  | f + 1, i, t => stepv (L.getD i Nd.none) C T (hv L C T f) t
/-- The i-th node holds at the tick t. -/
def val (L : List Nd) (C : List Ch) (T : List (List Rd)) (i t : Nat) : Bool := hv L C T (i + 1) i t
/-- Its parts are ahead of it. -/
def ahead (x : Nd) (i : Nat) : Prop := (6 ≤ x.op → x.op ≤ 12 → x.a.toNat < i) ∧ (x.op = 7 ∨ x.op = 8 ∨ x.op = 12 → x.b.toNat < i)
theorem okN_ahead {x : Nd} {i : Nat} {n : Int} (h : okN x i n = true) : ahead x i := by
  unfold okN idx at h
  refine ⟨fun h1 h2 => ?_, fun h1 => ?_⟩
  · rw [if_neg (by omega), if_neg (by omega), if_neg (by omega)] at h
    split at h
    · simp only [Bool.and_eq_true, decide_eq_true_eq] at h; omega
    · split at h
      · simp only [Bool.and_eq_true, decide_eq_true_eq] at h; omega
      · split at h
        · simp only [Bool.and_eq_true, decide_eq_true_eq] at h; omega
        · cases h
  · rw [if_neg (by omega), if_neg (by omega), if_neg (by omega), if_neg (by omega), if_neg (by omega), if_pos h1] at h
    simp only [Bool.and_eq_true, decide_eq_true_eq] at h
    omega
theorem okN_op {x : Nd} {i n : Int} (h : okN x i n = true) : 0 ≤ x.op ∧ x.op ≤ 12 := by
  rcases (by omega : (0 ≤ x.op ∧ x.op ≤ 12) ∨ x.op < 0 ∨ 12 < x.op) with h1 | h1 | h1
  · exact h1
  · unfold okN at h
    rw [if_neg (by omega), if_neg (by omega), if_neg (by omega), if_neg (by omega), if_neg (by omega), if_neg (by omega)] at h
    cases h
  · unfold okN at h
    rw [if_neg (by omega), if_neg (by omega), if_neg (by omega), if_neg (by omega), if_neg (by omega), if_neg (by omega)] at h
    cases h
theorem stepv_congr {x : Nd} {i : Nat} (h : ahead x i) (_hop : 0 ≤ x.op ∧ x.op ≤ 12) {C : List Ch} {T : List (List Rd)} {r r' : Nat → Nat → Bool} {t : Nat} (hr : ∀ j s, j < i → s ≤ t → r j s = r' j s) : stepv x C T r t = stepv x C T r' t := by
  unfold stepv
  split
  · rfl
  split
  · rw [hr _ _ (h.1 (by omega) (by omega)) (Nat.le_refl _)]
  split
  · rw [hr _ _ (h.1 (by omega) (by omega)) (Nat.le_refl _), hr _ _ (h.2 (by omega)) (Nat.le_refl _)]
  split
  · rw [hr _ _ (h.1 (by omega) (by omega)) (Nat.le_refl _), hr _ _ (h.2 (by omega)) (Nat.le_refl _)]
  split
  · rw [hr _ _ (h.1 (by omega) (by omega)) (by omega)]
  split
  · exact anyW_congr (fun s hs => hr _ _ (h.1 (by omega) (by omega)) hs)
  split
  · rw [anyW_congr (fun s hs => by rw [hr _ _ (h.1 (by omega) (by omega)) hs])]
  split
  · exact sinc_congr (fun s hs => hr _ _ (h.1 (by omega) (by omega)) hs) (fun s hs => hr _ _ (h.2 (by omega)) hs)
  · rfl
theorem okAll_getD {L : List Nd} {n : Int} (h : okAll L n = true) {i : Nat} (hi : i < L.length) : okN (L.getD i Nd.none) (i : Int) n = true := by
  have e : L.getD i Nd.none = L[i] := by simp [hi]
  rw [e]
  exact okAll_at h (List.getElem?_eq_getElem hi)
theorem hv_fuel {L : List Nd} {n : Int} (h : okAll L n = true) (C : List Ch) (T : List (List Rd)) : ∀ (i f t : Nat), i < f → i < L.length → hv L C T f i t = val L C T i t := by
  intro i
  induction i using Nat.strongRecOn with
  | ind i ih =>
    intro f t hf hi
    cases f with
    | zero => omega
    | succ f =>
      unfold val
      show stepv _ C T (hv L C T f) t = stepv _ C T (hv L C T i) t
      have ho := okAll_getD h hi
      refine stepv_congr (okN_ahead ho) (okN_op ho) (fun j s hj _ => ?_)
      rw [ih j hj f s (by omega) (by omega), ih j hj i s hj (by omega)]
/-- What holds, by its parts. -/
theorem val_eq {L : List Nd} {n : Int} (h : okAll L n = true) (C : List Ch) (T : List (List Rd)) {i : Nat} {x : Nd} (hx : L[i]? = some x) (t : Nat) : val L C T i t = stepv x C T (val L C T) t := by
  have hi : i < L.length := (List.getElem?_eq_some_iff.1 hx).1
  have e : L.getD i Nd.none = x := by simp [List.getD, hx]
  have ho := okAll_getD h hi
  rw [e] at ho
  unfold val
  show stepv (L.getD i Nd.none) C T (hv L C T i) t = _
  rw [e]
  exact stepv_congr (okN_ahead ho) (okN_op ho) (fun j s hj _ => hv_fuel h C T j i s hj (by omega))
/-- What holds at a tick hangs on the readings up to it. -/
theorem hv_past (L : List Nd) (C : List Ch) (T T' : List (List Rd)) : ∀ (f i t : Nat), (∀ s, s ≤ t → T.getD s [] = T'.getD s []) → hv L C T f i t = hv L C T' f i t
  | 0, _, _, _ => rfl
  | f + 1, i, t, h => by
    show stepv _ C T (hv L C T f) t = stepv _ C T' (hv L C T' f) t
    have hr : ∀ j s, s ≤ t → hv L C T f j s = hv L C T' f j s := fun j s hs => hv_past L C T T' f j s (fun q hq => h q (by omega))
    unfold stepv
    rw [h t (Nat.le_refl _), hr _ t (Nat.le_refl _), hr _ t (Nat.le_refl _), hr _ (t - 1) (by omega), anyW_congr (fun s hs => hr _ s hs), anyW_congr (fun s hs => by rw [hr _ s hs] : ∀ s, s ≤ t → (!hv L C T f (L.getD i Nd.none).a.toNat s) = (!hv L C T' f (L.getD i Nd.none).a.toNat s)),
      sinc_congr (fun s hs => hr _ s hs) (fun s hs => hr _ s hs)]
theorem val_past (L : List Nd) (C : List Ch) {T T' : List (List Rd)} (i : Nat) {t : Nat} (h : ∀ s, s ≤ t → T.getD s [] = T'.getD s []) : val L C T i t = val L C T' i t := hv_past L C T T' _ i t h
/-- Nodes behind a formula change nothing. -/
theorem val_more {L : List Nd} {n : Int} (h : okAll L n = true) (M : List Nd) (C : List Ch) (T : List (List Rd)) {i : Nat} (hi : i < L.length) (t : Nat) : val (L ++ M) C T i t = val L C T i t := by
  have key : ∀ i f t, i < L.length → hv (L ++ M) C T f i t = hv L C T f i t := by
    intro i
    induction i using Nat.strongRecOn with
    | ind i ih =>
      intro f t hi
      cases f with
      | zero => rfl
      | succ f =>
        show stepv ((L ++ M).getD i Nd.none) C T (hv (L ++ M) C T f) t = stepv (L.getD i Nd.none) C T (hv L C T f) t
        have e : (L ++ M).getD i Nd.none = L.getD i Nd.none := by simp [List.getD, List.getElem?_append_left hi]
        have ho := okAll_getD h hi
        rw [e]
        exact stepv_congr (okN_ahead ho) (okN_op ho) (fun j s hj _ => ih j hj f s (by omega))
  exact key i _ t hi
theorem okFrom_append (n : Int) : ∀ (L M : List Nd) (k : Nat), okFrom n k (L ++ M) = (okFrom n k L && okFrom n (k + L.length) M)
  | [], M, k => by simp [okFrom]
  | x :: r, M, k => by
    simp only [List.cons_append, okFrom, okFrom_append n r M (k + 1), List.length_cons, Bool.and_assoc]
    rw [show k + 1 + r.length = k + (r.length + 1) by omega]
/-- Noughts and ones. -/
def bitsOf (f : Nat → Bool) : Nat → ByteArray
  | 0 => ⟨#[]⟩
  | j + 1 => bitsOf f j ++ (if f j = true then ⟨#[49]⟩ else ⟨#[48]⟩)
theorem bitsOf_congr {f g : Nat → Bool} : ∀ {n : Nat}, (∀ s, s < n → f s = g s) → bitsOf f n = bitsOf g n
  | 0, _ => rfl
  | n + 1, h => by
    unfold bitsOf
    rw [bitsOf_congr (fun s hs => h s (by omega)), h n (by omega)]
theorem bitsOf_size (f : Nat → Bool) : ∀ n, (bitsOf f n).size = n
  | 0 => rfl
  | n + 1 => by
    unfold bitsOf
    rw [ByteArray.size_append, bitsOf_size f n]
    split <;> rfl
end Go.Proofs.Ytalffdiohjcajaa
