/-
  Numbers as bytes, over lists of whole numbers alone: what is read of bytes, what is written.
-/
import Derived.Test.YtigiakhdaaoljaaBase
namespace Go.Proofs.Ytigiakhdaaoljaa
/-- A number, its highest byte first. -/
def be (zs : List Int) : Int := zs.foldl (fun v x => v * 256 + x) 0
theorem be_snoc (zs : List Int) (x : Int) : be (zs ++ [x]) = be zs * 256 + x := by unfold be; rw [List.foldl_append]; rfl
theorem take_more {zs : List Int} {i : Nat} (h : i < zs.length) : zs.take (i + 1) = zs.take i ++ [zs.getD i 0] := by
  rw [List.take_succ_eq_append_getElem h]; simp [h]
theorem be_more {zs : List Int} {i : Nat} (h : i < zs.length) : be (zs.take (i + 1)) = be (zs.take i) * 256 + zs.getD i 0 := by rw [take_more h, be_snoc]
theorem be_zero (zs : List Int) : be (zs.take 0) = 0 := by rw [List.take_zero]; rfl
theorem be_bound {zs : List Int} (hb : Bs zs) : ∀ i, i ≤ zs.length → 0 ≤ be (zs.take i) ∧ be (zs.take i) < 256 ^ i := by
  intro i
  induction i with
  | zero => intro _; rw [be_zero]; decide
  | succ i ih =>
    intro h
    have h1 := ih (by omega)
    have h2 := hb.at (i := i) (by omega)
    rw [be_more (by omega), Int.pow_succ]
    generalize (256 : Int) ^ i = P at *
    omega
theorem be_bound1 {zs : List Int} (hb : Bs zs) (h : 1 ≤ zs.length) : 0 ≤ be (zs.take 1) ∧ be (zs.take 1) < 256 := be_bound hb 1 h
theorem be_bound2 {zs : List Int} (hb : Bs zs) (h : 2 ≤ zs.length) : 0 ≤ be (zs.take 2) ∧ be (zs.take 2) < 65536 := be_bound hb 2 h
theorem be_bound4 {zs : List Int} (hb : Bs zs) (h : 4 ≤ zs.length) : 0 ≤ be (zs.take 4) ∧ be (zs.take 4) < 4294967296 := be_bound hb 4 h
theorem be_below {zs : List Int} (hb : Bs zs) {i k : Nat} (hi : i < k) (hk : k ≤ 4) (h : k ≤ zs.length) : 0 ≤ be (zs.take i) ∧ be (zs.take i) < 16777216 := by
  have h1 := be_bound hb i (by omega)
  have hp : (256 : Int) ^ i ≤ 16777216 := by
    have : i = 0 ∨ i = 1 ∨ i = 2 ∨ i = 3 := by omega
    rcases this with rfl | rfl | rfl | rfl <;> decide
  omega
/-- What a number of k bytes reads. -/
def rdVal (k : Nat) (zs : List Int) : Int := if k ≤ zs.length then be (zs.take k) else 0
def rdErr (k : Nat) (zs : List Int) : Int := if k ≤ zs.length then 0 else 3
def rdRest (k : Nat) (zs : List Int) : List Int := if k ≤ zs.length then zs.drop k else zs
theorem rdVal_yes {k : Nat} {zs : List Int} (h : k ≤ zs.length) : rdVal k zs = be (zs.take k) := if_pos h
theorem rdErr_yes {k : Nat} {zs : List Int} (h : k ≤ zs.length) : rdErr k zs = 0 := if_pos h
theorem rdRest_yes {k : Nat} {zs : List Int} (h : k ≤ zs.length) : rdRest k zs = zs.drop k := if_pos h
theorem rdVal_no {k : Nat} {zs : List Int} (h : ¬ k ≤ zs.length) : rdVal k zs = 0 := if_neg h
theorem rdErr_no {k : Nat} {zs : List Int} (h : ¬ k ≤ zs.length) : rdErr k zs = 3 := if_neg h
theorem rdRest_no {k : Nat} {zs : List Int} (h : ¬ k ≤ zs.length) : rdRest k zs = zs := if_neg h
theorem rdVal_bound {zs : List Int} (hb : Bs zs) (k : Nat) (hk : k ≤ 4) : 0 ≤ rdVal k zs ∧ rdVal k zs < 4294967296 := by
  unfold rdVal
  split
  · rename_i h
    have h1 := be_bound hb k h
    have hp : (256 : Int) ^ k ≤ 4294967296 := by
      have : k = 0 ∨ k = 1 ∨ k = 2 ∨ k = 3 ∨ k = 4 := by omega
      rcases this with rfl | rfl | rfl | rfl | rfl <;> decide
    omega
  · omega
/-- How many bytes octets say. -/
def ocN (zs : List Int) : Nat := (be (zs.take 2)).toNat
theorem ocN_int {zs : List Int} (hb : Bs zs) (h : 2 ≤ zs.length) : be (zs.take 2) = (ocN zs : Int) ∧ ocN zs < 65536 := by
  have := be_bound2 hb h
  unfold ocN; omega
def ocIs (zs : List Int) : Bool := decide (2 ≤ zs.length ∧ ocN zs ≤ zs.length - 2)
def ocVal (zs : List Int) : List Int := if ocIs zs = true then (zs.drop 2).take (ocN zs) else []
def ocErr (zs : List Int) : Int := if ocIs zs = true then 0 else 3
def ocRest (zs : List Int) : List Int := if ocIs zs = true then (zs.drop 2).drop (ocN zs) else zs
theorem ocIs_yes {zs : List Int} (h : 2 ≤ zs.length) (k : ocN zs ≤ zs.length - 2) : ocIs zs = true := decide_eq_true ⟨h, k⟩
theorem ocIs_no {zs : List Int} (h : ¬ (2 ≤ zs.length ∧ ocN zs ≤ zs.length - 2)) : ocIs zs = false := decide_eq_false h
theorem oc_yes {zs : List Int} (h : 2 ≤ zs.length) (k : ocN zs ≤ zs.length - 2) : ocVal zs = (zs.drop 2).take (ocN zs) ∧ ocErr zs = 0 ∧ ocRest zs = (zs.drop 2).drop (ocN zs) ∧ (ocVal zs).length = ocN zs := by
  have e := ocIs_yes h k
  have e1 : ocVal zs = (zs.drop 2).take (ocN zs) := if_pos e
  refine ⟨e1, if_pos e, if_pos e, ?_⟩
  rw [e1, List.length_take, List.length_drop]; omega
theorem oc_no {zs : List Int} (h : ¬ (2 ≤ zs.length ∧ ocN zs ≤ zs.length - 2)) : ocVal zs = [] ∧ ocErr zs = 3 ∧ ocRest zs = zs := by
  have e := ocIs_no h
  exact ⟨if_neg (by simp [e]), if_neg (by simp [e]), if_neg (by simp [e])⟩
theorem ocVal_bs {zs : List Int} (hb : Bs zs) : Bs (ocVal zs) := by
  unfold ocVal
  split
  · exact (hb.drop 2).take _
  · exact Bs.nil
theorem ocVal_len {zs : List Int} (hb : Bs zs) : (ocVal zs).length < 65536 := by
  by_cases h : 2 ≤ zs.length ∧ ocN zs ≤ zs.length - 2
  · rw [(oc_yes h.1 h.2).2.2.2]; exact (ocN_int hb h.1).2
  · rw [(oc_no h).1]; decide
/-- The k bytes of a number, the highest first. -/
def bytesOf : Nat → Int → List Int
  | 0, _ => []
  | k + 1, v => v / 256 ^ k % 256 :: bytesOf k v
theorem bytesOf_bs (k : Nat) (v : Int) : Bs (bytesOf k v) := by
  induction k with
  | zero => exact Bs.nil
  | succ k ih =>
    intro z hz
    rcases List.mem_cons.1 hz with e | e
    · omega
    · exact ih z e
theorem bytesOf_length (k : Nat) (v : Int) : (bytesOf k v).length = k := by
  induction k with
  | zero => rfl
  | succ k ih => show (bytesOf k v).length + 1 = _; rw [ih]
end Go.Proofs.Ytigiakhdaaoljaa
