/-
  Calls that were done: what they wrote, and how it is read.
-/
import Derived.Test.YtojgkhinddjmaaaPureB
namespace Go.Proofs.Ytojgkhinddjmaaa
open Go.RowKit
/-- A call that was done. -/
structure It where
  kd : Nat
  x : Int
  a : Option Addr
  n : Nat
  c : Nat
  bs : List Int
/-- What it wrote. -/
def It.enc (i : It) : List Int := if i.kd = 0 then bytesOf 1 i.x else if i.kd = 1 then bytesOf 2 i.x else if i.kd = 2 then bytesOf 4 (IntKind.u32.wrap i.x) else bytesOf 2 i.bs.length ++ i.bs
/-- That it may be. -/
structure It.Ok (w : World) (i : It) : Prop where
  k4 : i.kd < 4
  u8 : i.kd = 0 → 0 ≤ i.x ∧ i.x ≤ 255
  u16 : i.kd = 1 → 0 ≤ i.x ∧ i.x ≤ 65535
  row : Row w i.a i.n i.bs
  len : i.n ≤ 300
/-- Its cells. -/
def It.cells (i : It) : List Value := [.int .i64 i.kd, .int .i64 i.x, .slice i.a i.n i.c]
def encs (l : List It) : List Int := l.flatMap It.enc
def cellsAll (l : List It) : List Value := l.flatMap It.cells
theorem encs_snoc (l : List It) (i : It) : encs (l ++ [i]) = encs l ++ i.enc := by simp [encs]
theorem cellsAll_snoc (l : List It) (i : It) : cellsAll (l ++ [i]) = cellsAll l ++ i.cells := by simp [cellsAll]
theorem cellsAll_length (l : List It) : (cellsAll l).length = l.length * 3 := by
  induction l with
  | nil => rfl
  | cons i r ih =>
    show (i.cells ++ cellsAll r).length = _
    rw [List.length_append, ih, List.length_cons]
    show 3 + r.length * 3 = _
    omega
theorem cellsAll_at (l : List It) (j : Nat) (hj : j < l.length) (t : Nat) (ht : t < 3) : (cellsAll l)[j * 3 + t]? = (l[j]).cells[t]? := by
  induction l generalizing j with
  | nil => simp at hj
  | cons i r ih =>
    have e : cellsAll (i :: r) = i.cells ++ cellsAll r := rfl
    have hl : i.cells.length = 3 := rfl
    rw [e]
    cases j with
    | zero => rw [List.getElem?_append_left (by omega)]; simp
    | succ j =>
      rw [List.getElem?_append_right (by omega), hl, show (j + 1) * 3 + t - 3 = j * 3 + t by omega, ih j (by simpa using hj)]
      simp
theorem encs_drop (l : List It) (j : Nat) (hj : j < l.length) : encs (l.drop j) = (l[j]).enc ++ encs (l.drop (j + 1)) := by
  rw [List.drop_eq_getElem_cons hj]; rfl
theorem encs_end (l : List It) : encs (l.drop l.length) = [] := by rw [List.drop_length]; rfl
theorem take_left2 (xs ys : List Int) (k : Nat) (h : xs.length = k) : (xs ++ ys).take k = xs ∧ (xs ++ ys).drop k = ys := by
  subst h; exact ⟨List.take_left, List.drop_left⟩
theorem be1 {x : Int} (h : 0 ≤ x ∧ x ≤ 255) : be (bytesOf 1 x) = x := by
  show 0 * 256 + x / 1 % 256 = x
  omega
theorem be2 {x : Int} (h : 0 ≤ x ∧ x ≤ 65535) : be (bytesOf 2 x) = x := by
  show (0 * 256 + x / 256 % 256) * 256 + x / 1 % 256 = x
  omega
theorem be4 {x : Int} (h : 0 ≤ x ∧ x < 4294967296) : be (bytesOf 4 x) = x := by
  show (((0 * 256 + x / 16777216 % 256) * 256 + x / 65536 % 256) * 256 + x / 256 % 256) * 256 + x / 1 % 256 = x
  omega
theorem read_k {x : Int} {k : Nat} {r : List Int} (h : be (bytesOf k x) = x) : rdVal k (bytesOf k x ++ r) = x ∧ rdErr k (bytesOf k x ++ r) = 0 ∧ rdRest k (bytesOf k x ++ r) = r := by
  have hl : k ≤ (bytesOf k x ++ r).length := by rw [List.length_append, bytesOf_length]; omega
  obtain ⟨e1, e2⟩ := take_left2 (bytesOf k x) r k (bytesOf_length k x)
  exact ⟨by rw [rdVal_yes hl, e1, h], rdErr_yes hl, by rw [rdRest_yes hl, e2]⟩
theorem read_o {bs r : List Int} (h : bs.length ≤ 65535) : ocVal (bytesOf 2 bs.length ++ bs ++ r) = bs ∧ ocErr (bytesOf 2 bs.length ++ bs ++ r) = 0 ∧ ocRest (bytesOf 2 bs.length ++ bs ++ r) = r := by
  rw [List.append_assoc]
  obtain ⟨e1, e2⟩ := take_left2 (bytesOf 2 (bs.length : Int)) (bs ++ r) 2 (bytesOf_length 2 _)
  have hn : ocN (bytesOf 2 (bs.length : Int) ++ (bs ++ r)) = bs.length := by
    unfold ocN; rw [e1, be2 (by omega)]; omega
  have hl : (bytesOf 2 (bs.length : Int) ++ (bs ++ r)).length = 2 + (bs.length + r.length) := by rw [List.length_append, bytesOf_length, List.length_append]
  obtain ⟨f1, f2, f3, _⟩ := oc_yes (zs := bytesOf 2 (bs.length : Int) ++ (bs ++ r)) (by omega) (by rw [hn, hl]; omega)
  obtain ⟨g1, g2⟩ := take_left2 bs r bs.length rfl
  exact ⟨by rw [f1, e2, hn, g1], f2, by rw [f3, e2, hn, g2]⟩
theorem It.enc0 {i : It} (h : i.kd = 0) : i.enc = bytesOf 1 i.x := if_pos h
theorem It.enc1 {i : It} (h : i.kd = 1) : i.enc = bytesOf 2 i.x := by unfold It.enc; rw [if_neg (by omega), if_pos h]
theorem It.enc2 {i : It} (h : i.kd = 2) : i.enc = bytesOf 4 (IntKind.u32.wrap i.x) := by unfold It.enc; rw [if_neg (by omega), if_neg (by omega), if_pos h]
theorem It.enc3 {i : It} (h : i.kd = 3) : i.enc = bytesOf 2 i.bs.length ++ i.bs := by unfold It.enc; rw [if_neg (by omega), if_neg (by omega), if_neg (by omega)]
/-- A block of three cells. -/
theorem three_at {w : World} {g : Nat} {T : TypeId} {x y z : Value} (h : w.heap[g]? = some (.cells #[x, y, z] T (0, 0))) :
    g < w.heap.size ∧ w.cell? ⟨g, 0, none⟩ = some x ∧ w.cell? ⟨g, 1, none⟩ = some y ∧ w.cell? ⟨g, 2, none⟩ = some z ∧ w.frozen? ⟨g, 0, none⟩ = false ∧ w.frozen? ⟨g, 1, none⟩ = false ∧ w.frozen? ⟨g, 2, none⟩ = false := by
  refine ⟨(Array.getElem?_eq_some_iff.1 h).1, ?_, ?_, ?_, ?_, ?_, ?_⟩
  · simp [World.cell?, h]
  · simp [World.cell?, h]
  · simp [World.cell?, h]
  · simp [World.frozen?, h]
  · simp [World.frozen?, h]
  · simp [World.frozen?, h]
theorem three_set0 {w : World} {g : Nat} {T : TypeId} {x y z : Value} (h : w.heap[g]? = some (.cells #[x, y, z] T (0, 0))) (v : Value) : (w.setCell ⟨g, 0, none⟩ v).heap[g]? = some (.cells #[v, y, z] T (0, 0)) := by
  simp [World.setCell, Array.getElem?_modify, h]
theorem three_set2 {w : World} {g : Nat} {T : TypeId} {x y z : Value} (h : w.heap[g]? = some (.cells #[x, y, z] T (0, 0))) (v : Value) : (w.setCell ⟨g, 2, none⟩ v).heap[g]? = some (.cells #[x, y, v] T (0, 0)) := by
  simp [World.setCell, Array.getElem?_modify, h]
theorem Try.info48 : (Try.prog.info? 48).map (fun i => (i.zero, i.size, i.bytes)) = some (some (.agg #[.int .i64 0, .int .i64 0, .slice none 0 0]), 3, 40) := by kernel_rfl
end Go.Proofs.Ytojgkhinddjmaaa
