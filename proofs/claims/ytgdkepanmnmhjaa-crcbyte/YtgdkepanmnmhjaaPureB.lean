/-
  What follows, over whole numbers: a check goes on byte by byte; exclusive ors go together; one byte turned turns the sum.
-/
import Derived.Test.YtgdkepanmnmhjaaPure
namespace Go.Proofs.Ytgdkepanmnmhjaa
/-- Bytes with their sum behind them come to 0. -/
theorem r16_low8 {n : Nat} (h : n < 256) : rep t16 8 n = n * 256 := by
  have e1 := r16_low4 (show n < 4096 by omega)
  have e2 := r16_low4 (show n * 16 < 4096 by omega)
  rw [rep8, e1, e2]; omega
theorem xor_none {a b : Nat} (e : a ^^^ b = 0) : a = b := by rw [← xor_can a b, e, Nat.zero_xor]
theorem fold_cons (f : Nat → Nat → Nat) (s : Nat) (z : Int) (l : List Int) : fold f s (z :: l) = fold f (f s z.toNat) l := rfl
theorem fold16_cons (s : Nat) (z : Int) (l : List Int) : fold16 s (z :: l) = fold16 (step16 s z.toNat) l := fold_cons step16 s z l
theorem fold32_cons (s : Nat) (z : Int) (l : List Int) : fold32 s (z :: l) = fold32 (step32 s z.toNat) l := fold_cons step32 s z l
theorem r16_zero : rep t16 8 0 = 0 := by decide +kernel
theorem step_hi {s : Nat} (_hs : s < 65536) : step16 s (s / 256) = s % 256 * 256 := by
  have p : s = s % 256 ^^^ s / 256 * 256 := parts_xor s 8
  have e : s ^^^ s / 256 * 256 = s % 256 := by
    calc s ^^^ s / 256 * 256 = (s % 256 ^^^ s / 256 * 256) ^^^ s / 256 * 256 := by rw [← p]
      _ = s % 256 := xor_can _ _
  unfold step16
  rw [e, r16_low8 (by omega)]
theorem step_lo (x : Nat) : step16 (x * 256) x = 0 := by
  unfold step16
  rw [Nat.xor_self, r16_zero]
theorem behind {s : Nat} (hs : s < 65536) : step16 (step16 s (s / 256)) (s % 256) = 0 := by rw [step_hi hs, step_lo]
theorem sum16_behind {l : List Int} (h : Bs l) : sum16 (l ++ [((sum16 l / 256 : Nat) : Int), ((sum16 l % 256 : Nat) : Int)]) = 0 := by
  have hs : sum16 l < 65536 := fold16_lt (by omega) h
  have e : sum16 (l ++ [((sum16 l / 256 : Nat) : Int), ((sum16 l % 256 : Nat) : Int)]) = fold16 (sum16 l) [((sum16 l / 256 : Nat) : Int), ((sum16 l % 256 : Nat) : Int)] := fold16_append _ _ _
  rw [e]
  generalize sum16 l = s at *
  have e2 : fold16 s [((s / 256 : Nat) : Int), ((s % 256 : Nat) : Int)] = step16 (step16 s (s / 256)) (s % 256) := by
    have g : ∀ f : Nat → Nat → Nat, fold f s [((s / 256 : Nat) : Int), ((s % 256 : Nat) : Int)] = f (f s (s / 256)) (s % 256) := fun f => rfl
    exact g step16
  rw [e2, behind hs]
/-- Exclusive ors go together. -/
theorem step16_xor {a b x y : Nat} (ha : a < 65536) (hb : b < 65536) (hx : x < 256) (hy : y < 256) : step16 (a ^^^ b) (x ^^^ y) = step16 a x ^^^ step16 b y := by
  have q : (x ^^^ y) * 256 = x * 256 ^^^ y * 256 := mul_xor x y 8
  unfold step16
  rw [q, xor_swap, r16_xor 8 (x16 ha (by omega)) (x16 hb (by omega))]
theorem step32_xor (a b x y : Nat) : step32 (a ^^^ b) (x ^^^ y) = step32 a x ^^^ step32 b y := by
  unfold step32
  rw [xor_swap, r32_xor 8]
/-- The exclusive or of three lists, byte by byte. -/
def xors : List Int → List Int → List Int → List Int
  | x :: a, y :: b, z :: c => ((x.toNat ^^^ y.toNat ^^^ z.toNat : Nat) : Int) :: xors a b c
  | _, _, _ => []
theorem xors_bs {a b c : List Int} (ha : Bs a) (hb : Bs b) (hc : Bs c) : Bs (xors a b c) := by
  induction a generalizing b c with
  | nil => intro z hz; simp [xors] at hz
  | cons x a ih =>
    match b, c with
    | [], _ => intro z hz; simp [xors] at hz
    | _ :: _, [] => intro z hz; simp [xors] at hz
    | y :: b, u :: c =>
      intro z hz
      simp only [xors, List.mem_cons] at hz
      have h1 := ha x (by simp); have h2 := hb y (by simp); have h3 := hc u (by simp)
      rcases hz with rfl | hz
      · have := x8 (x8 (show x.toNat < 256 by omega) (show y.toNat < 256 by omega)) (show u.toNat < 256 by omega)
        omega
      · exact ih (fun v hv => ha v (by simp [hv])) (fun v hv => hb v (by simp [hv])) (fun v hv => hc v (by simp [hv])) z hz
theorem fold16_xors {a b c : List Int} (h1 : a.length = b.length) (h2 : b.length = c.length) (ha : Bs a) (hb : Bs b) (hc : Bs c) {s t r : Nat} (hs : s < 65536) (ht : t < 65536) (hr : r < 65536) :
    fold16 (s ^^^ t ^^^ r) (xors a b c) = fold16 s a ^^^ fold16 t b ^^^ fold16 r c := by
  induction a generalizing b c s t r with
  | nil =>
    have hb0 : b = [] := List.length_eq_zero_iff.1 h1.symm
    subst hb0
    have hc0 : c = [] := List.length_eq_zero_iff.1 h2.symm
    subst hc0
    rfl
  | cons x a ih =>
    match b, c, h1, h2 with
    | y :: b, z :: c, h1, h2 =>
      have b1 := ha x (by simp); have b2 := hb y (by simp); have b3 := hc z (by simp)
      have l1 : x.toNat < 256 := by omega
      have l2 : y.toNat < 256 := by omega
      have l3 : z.toNat < 256 := by omega
      have e : step16 (s ^^^ t ^^^ r) (x.toNat ^^^ y.toNat ^^^ z.toNat) = step16 s x.toNat ^^^ step16 t y.toNat ^^^ step16 r z.toNat := by
        rw [step16_xor (x16 hs ht) hr (x8 l1 l2) l3, step16_xor hs ht l1 l2]
      have g := ih (b := b) (c := c) (by simpa using h1) (by simpa using h2) (fun v hv => ha v (by simp [hv])) (fun v hv => hb v (by simp [hv])) (fun v hv => hc v (by simp [hv])) (step16_lt hs l1) (step16_lt ht l2) (step16_lt hr l3)
      rw [xors, fold16_cons, fold16_cons, fold16_cons, fold16_cons, Int.toNat_natCast, e, g]
theorem fold32_xors {a b c : List Int} (h1 : a.length = b.length) (h2 : b.length = c.length) (s t r : Nat) :
    fold32 (s ^^^ t ^^^ r) (xors a b c) = fold32 s a ^^^ fold32 t b ^^^ fold32 r c := by
  induction a generalizing b c s t r with
  | nil =>
    have hb0 : b = [] := List.length_eq_zero_iff.1 h1.symm
    subst hb0
    have hc0 : c = [] := List.length_eq_zero_iff.1 h2.symm
    subst hc0
    rfl
  | cons x a ih =>
    match b, c, h1, h2 with
    | y :: b, z :: c, h1, h2 =>
      have e : step32 (s ^^^ t ^^^ r) (x.toNat ^^^ y.toNat ^^^ z.toNat) = step32 s x.toNat ^^^ step32 t y.toNat ^^^ step32 r z.toNat := by
        rw [step32_xor, step32_xor]
      have g := ih (b := b) (c := c) (by simpa using h1) (by simpa using h2) (step32 s x.toNat) (step32 t y.toNat) (step32 r z.toNat)
      rw [xors, fold32_cons, fold32_cons, fold32_cons, fold32_cons, Int.toNat_natCast, e, g]
theorem sum16_xors {a b c : List Int} (h1 : a.length = b.length) (h2 : b.length = c.length) (ha : Bs a) (hb : Bs b) (hc : Bs c) : sum16 (xors a b c) = sum16 a ^^^ sum16 b ^^^ sum16 c := by
  have g := fold16_xors h1 h2 ha hb hc (s := 65535) (t := 65535) (r := 65535) (by omega) (by omega) (by omega)
  have e : 65535 ^^^ 65535 ^^^ 65535 = 65535 := by decide
  rw [e] at g
  exact g
theorem ones_xor (z : Nat) (h : z < 4294967296) : 4294967295 ^^^ z = 4294967295 - z := by
  have e := congrArg BitVec.toNat (BitVec.allOnes_xor (x := BitVec.ofNat 32 z))
  rw [BitVec.toNat_xor, BitVec.toNat_not, BitVec.toNat_allOnes, BitVec.toNat_ofNat, Nat.mod_eq_of_lt (by omega)] at e
  exact e
theorem sum32_xors {a b c : List Int} (h1 : a.length = b.length) (h2 : b.length = c.length) (ha : Bs a) (hb : Bs b) (hc : Bs c) : sum32 (xors a b c) = sum32 a ^^^ sum32 b ^^^ sum32 c := by
  have g := fold32_xors h1 h2 4294967295 4294967295 4294967295
  have e : 4294967295 ^^^ 4294967295 ^^^ 4294967295 = 4294967295 := by decide
  rw [e] at g
  have la : fold32 4294967295 a < 4294967296 := fold32_lt (by omega) ha
  have lb : fold32 4294967295 b < 4294967296 := fold32_lt (by omega) hb
  have lc : fold32 4294967295 c < 4294967296 := fold32_lt (by omega) hc
  unfold sum32
  rw [g]
  generalize fold32 4294967295 a = p at *
  generalize fold32 4294967295 b = q at *
  generalize fold32 4294967295 c = r at *
  rw [← ones_xor _ (x32 (x32 la lb) lc), ← ones_xor p la, ← ones_xor q lb, ← ones_xor r lc]
  have e2 : (4294967295 ^^^ p) ^^^ (4294967295 ^^^ q) = p ^^^ q := by rw [xor_swap, Nat.xor_self, Nat.zero_xor]
  rw [e2, Nat.xor_comm (p ^^^ q) (4294967295 ^^^ r), Nat.xor_assoc 4294967295, Nat.xor_comm r]
/-- One byte turned turns the sum. -/
theorem t16_zero {n : Nat} (h : n < 65536) (e : t16 n = 0) : n = 0 := by
  unfold t16 at e
  by_cases g : 32768 ≤ n
  · rw [if_pos g] at e
    have e2 : 2 * n - 65536 = 4129 := xor_none e
    omega
  · rw [if_neg g] at e; omega
theorem t32_zero {n : Nat} (h : n < 4294967296) (e : t32 n = 0) : n = 0 := by
  unfold t32 at e
  by_cases g : n % 2 = 1
  · rw [if_pos g] at e
    have e2 : n / 2 = 3988292384 := xor_none e
    omega
  · rw [if_neg g] at e; omega
theorem r16_zero_inv {k n : Nat} (h : n < 65536) (e : rep t16 k n = 0) : n = 0 := by
  induction k with
  | zero => exact e
  | succ k ih => exact ih (t16_zero (r16_lt k h) e)
theorem r32_zero_inv {k n : Nat} (h : n < 4294967296) (e : rep t32 k n = 0) : n = 0 := by
  induction k with
  | zero => exact e
  | succ k ih => exact ih (t32_zero (r32_lt k h) e)
theorem r16_inj {k a b : Nat} (ha : a < 65536) (hb : b < 65536) (e : rep t16 k a = rep t16 k b) : a = b := by
  have e1 : rep t16 k (a ^^^ b) = 0 := by rw [r16_xor k ha hb, e, Nat.xor_self]
  exact xor_none (r16_zero_inv (x16 ha hb) e1)
theorem r32_inj {k a b : Nat} (ha : a < 4294967296) (hb : b < 4294967296) (e : rep t32 k a = rep t32 k b) : a = b := by
  have e1 : rep t32 k (a ^^^ b) = 0 := by rw [r32_xor k, e, Nat.xor_self]
  exact xor_none (r32_zero_inv (x32 ha hb) e1)
theorem xor_left_inj {a b c : Nat} (e : a ^^^ c = b ^^^ c) : a = b := by rw [← xor_can a c, e, xor_can]
theorem xor_right_inj {a b c : Nat} (e : c ^^^ a = c ^^^ b) : a = b := by rw [← xor_can' a c, e, xor_can']
theorem step16_inj {s t x y : Nat} (hs : s < 65536) (ht : t < 65536) (hx : x < 256) (hy : y < 256) (e : step16 s x = step16 t y) : (x = y → s = t) ∧ (s = t → x = y) := by
  have e1 : s ^^^ x * 256 = t ^^^ y * 256 := r16_inj (k := 8) (x16 hs (by omega)) (x16 ht (by omega)) e
  refine ⟨fun h => ?_, fun h => ?_⟩
  · subst h; exact xor_left_inj e1
  · subst h; have := xor_right_inj e1; omega
theorem step32_inj {s t x y : Nat} (hs : s < 4294967296) (ht : t < 4294967296) (hx : x < 256) (hy : y < 256) (e : step32 s x = step32 t y) : (x = y → s = t) ∧ (s = t → x = y) := by
  have e1 : s ^^^ x = t ^^^ y := r32_inj (k := 8) (x32 hs (by omega)) (x32 ht (by omega)) e
  refine ⟨fun h => ?_, fun h => ?_⟩
  · subst h; exact xor_left_inj e1
  · subst h; exact xor_right_inj e1
theorem fold_inj {f : Nat → Nat → Nat} {B : Nat} (hf : ∀ s b, s < B → b < 256 → f s b < B) (hi : ∀ s t x, s < B → t < B → x < 256 → f s x = f t x → s = t) {l : List Int} (hl : Bs l) {s t : Nat} (hs : s < B) (ht : t < B) (e : fold f s l = fold f t l) : s = t := by
  induction l generalizing s t with
  | nil => exact e
  | cons z l ih =>
    have hz := hl z (by simp)
    have lz : z.toNat < 256 := by omega
    exact hi s t _ hs ht lz (ih (fun y hy => hl y (by simp [hy])) (hf _ _ hs lz) (hf _ _ ht lz) e)
/-- A list and the same with another byte at one place. -/
theorem fold_set {f : Nat → Nat → Nat} {B : Nat} (hf : ∀ s b, s < B → b < 256 → f s b < B) (hi : ∀ s t x, s < B → t < B → x < 256 → f s x = f t x → s = t) (hy : ∀ s x y, s < B → x < 256 → y < 256 → f s x = f s y → x = y)
    {l : List Int} (hl : Bs l) {k : Nat} (hk : k < l.length) {v : Int} (hv : 0 ≤ v ∧ v ≤ 255) {s : Nat} (hs : s < B) (e : fold f s (l.set k v) = fold f s l) : v = l.getD k 0 := by
  induction l generalizing k s with
  | nil => simp at hk
  | cons z l ih =>
    have hz := hl z (by simp)
    have lz : z.toNat < 256 := by omega
    have lv : v.toNat < 256 := by omega
    have hl' : Bs l := fun y hy => hl y (by simp [hy])
    match k with
    | 0 =>
      have e1 : f s v.toNat = f s z.toNat := fold_inj hf hi hl' (hf _ _ hs lv) (hf _ _ hs lz) e
      have := hy s _ _ hs lv lz e1
      show v = z
      omega
    | k + 1 => exact ih hl' (by simpa using hk) (hf _ _ hs lz) e
theorem sum16_set {l : List Int} (hl : Bs l) {k : Nat} (hk : k < l.length) {v : Int} (hv : 0 ≤ v ∧ v ≤ 255) : sum16 (l.set k v) = sum16 l ↔ v = l.getD k 0 := by
  constructor
  · exact fold_set (f := step16) (B := 65536) (fun _ _ a b => step16_lt a b) (fun _ _ _ a b c e => (step16_inj a b c c e).1 rfl) (fun _ _ _ a b c e => (step16_inj a a b c e).2 rfl) hl hk hv (s := 65535) (by omega)
  · intro h
    have e : l.set k v = l := by rw [h]; simp [hk]
    rw [e]
theorem sum32_set {l : List Int} (hl : Bs l) {k : Nat} (hk : k < l.length) {v : Int} (hv : 0 ≤ v ∧ v ≤ 255) : sum32 (l.set k v) = sum32 l ↔ v = l.getD k 0 := by
  constructor
  · intro h
    have hb : Bs (l.set k v) := fun z hz => by
      rcases List.mem_or_eq_of_mem_set hz with h1 | h1
      · exact hl z h1
      · subst h1; exact hv
    have l1 : fold32 4294967295 (l.set k v) < 4294967296 := fold32_lt (by omega) hb
    have l2 : fold32 4294967295 l < 4294967296 := fold32_lt (by omega) hl
    unfold sum32 at h
    have h2 : fold32 4294967295 (l.set k v) = fold32 4294967295 l := by omega
    exact fold_set (f := step32) (B := 4294967296) (fun _ _ a b => step32_lt a b) (fun _ _ _ a b c e => (step32_inj a b c c e).1 rfl) (fun _ _ _ a b c e => (step32_inj a a b c e).2 rfl) hl hk hv (s := 4294967295) (by omega) h2
  · intro h
    have e : l.set k v = l := by rw [h]; simp [hk]
    rw [e]
end Go.Proofs.Ytgdkepanmnmhjaa
