/-
  What was read, written again.
-/
import Derived.Test.YtojgkhinddjmaaaWr
namespace Go.Proofs.Ytojgkhinddjmaaa
theorem back1 {zs : List Int} (hb : Bs zs) (h : 1 ≤ zs.length) : bytesOf 1 (be (zs.take 1)) = zs.take 1 := by
  match zs, h with
  | a :: r, _ =>
    have ha := hb a (by simp)
    show [(0 * 256 + a) / 1 % 256] = [a]
    rw [show (0 * 256 + a) / 1 % 256 = a by omega]
theorem back2 {zs : List Int} (hb : Bs zs) (h : 2 ≤ zs.length) : bytesOf 2 (be (zs.take 2)) = zs.take 2 := by
  match zs, h with
  | a :: b :: r, _ =>
    have ha := hb a (by simp)
    have hc := hb b (by simp)
    show [((0 * 256 + a) * 256 + b) / 256 % 256, ((0 * 256 + a) * 256 + b) / 1 % 256] = [a, b]
    rw [show ((0 * 256 + a) * 256 + b) / 256 % 256 = a by omega, show ((0 * 256 + a) * 256 + b) / 1 % 256 = b by omega]
theorem back4 {zs : List Int} (hb : Bs zs) (h : 4 ≤ zs.length) : bytesOf 4 (be (zs.take 4)) = zs.take 4 := by
  match zs, h with
  | a :: b :: c :: d :: r, _ =>
    have ha := hb a (by simp)
    have hc := hb b (by simp)
    have hd := hb c (by simp)
    have he := hb d (by simp)
    show [((((0 * 256 + a) * 256 + b) * 256 + c) * 256 + d) / 16777216 % 256, ((((0 * 256 + a) * 256 + b) * 256 + c) * 256 + d) / 65536 % 256, ((((0 * 256 + a) * 256 + b) * 256 + c) * 256 + d) / 256 % 256, ((((0 * 256 + a) * 256 + b) * 256 + c) * 256 + d) / 1 % 256] = [a, b, c, d]
    rw [show ((((0 * 256 + a) * 256 + b) * 256 + c) * 256 + d) / 16777216 % 256 = a by omega, show ((((0 * 256 + a) * 256 + b) * 256 + c) * 256 + d) / 65536 % 256 = b by omega, show ((((0 * 256 + a) * 256 + b) * 256 + c) * 256 + d) / 256 % 256 = c by omega, show ((((0 * 256 + a) * 256 + b) * 256 + c) * 256 + d) / 1 % 256 = d by omega]
/-- What a step of reading and writing again leaves: ys were written, zs are left; then k bytes more. -/
def Step (bs ys zs us xs : List Int) (q : Nat) : Prop := us ++ xs = bs ∧ us.length ≤ ys.length + q ∧ xs.length < zs.length
theorem step1 {bs ys zs : List Int} (hb : Bs zs) (h : 1 ≤ zs.length) (e : ys ++ zs = bs) : wnErr 255 (be (zs.take 1)) = 0 ∧ Step bs ys zs (ys ++ wnNew 1 255 (be (zs.take 1))) (zs.drop 1) 65537 := by
  have b1 := be_bound1 hb h
  obtain ⟨e1, e2⟩ := wn_yes (k := 1) (m := 255) (x := be (zs.take 1)) (by omega)
  refine ⟨e1, ?_⟩
  rw [e2, back1 hb h]
  exact ⟨by rw [List.append_assoc, List.take_append_drop, e], by rw [List.length_append, List.length_take]; omega, by rw [List.length_drop]; omega⟩
theorem step2 {bs ys zs : List Int} (hb : Bs zs) (h : 2 ≤ zs.length) (e : ys ++ zs = bs) : wnErr 65535 (be (zs.take 2)) = 0 ∧ Step bs ys zs (ys ++ wnNew 2 65535 (be (zs.take 2))) (zs.drop 2) 65537 := by
  have b1 := be_bound2 hb h
  obtain ⟨e1, e2⟩ := wn_yes (k := 2) (m := 65535) (x := be (zs.take 2)) (by omega)
  refine ⟨e1, ?_⟩
  rw [e2, back2 hb h]
  exact ⟨by rw [List.append_assoc, List.take_append_drop, e], by rw [List.length_append, List.length_take]; omega, by rw [List.length_drop]; omega⟩
theorem step4 {bs ys zs : List Int} (hb : Bs zs) (h : 4 ≤ zs.length) (e : ys ++ zs = bs) : Step bs ys zs (ys ++ bytesOf 4 (be (zs.take 4))) (zs.drop 4) 65537 := by
  rw [back4 hb h]
  exact ⟨by rw [List.append_assoc, List.take_append_drop, e], by rw [List.length_append, List.length_take]; omega, by rw [List.length_drop]; omega⟩
theorem stepO {bs ys zs : List Int} (hb : Bs zs) (h : 2 ≤ zs.length) (k : ocN zs ≤ zs.length - 2) (e : ys ++ zs = bs) : woErr (ocVal zs) = 0 ∧ Step bs ys zs (ys ++ woNew (ocVal zs)) (ocRest zs) 65537 := by
  obtain ⟨h1, h2, h3, h4⟩ := oc_yes h k
  have hn := ocN_int hb h
  obtain ⟨e1, e2⟩ := wo_yes (bs := ocVal zs) (by omega)
  refine ⟨e1, ?_⟩
  rw [e2, h3, h4, ← hn.1, back2 hb h, h1]
  refine ⟨?_, ?_, ?_⟩
  · rw [List.append_assoc, List.append_assoc, List.take_append_drop, List.take_append_drop, e]
  · rw [List.length_append, List.length_append, List.length_take, List.length_take]; omega
  · rw [List.length_drop, List.length_drop]; omega
/-- How much m calls write at most. -/
def capOf (m : Nat) : Nat := m * 65537
theorem capOf_more (m : Nat) : capOf (m + 1) = capOf m + 65537 := by unfold capOf; rw [Nat.add_mul, Nat.one_mul]
theorem capOf_next {a b m : Nat} (h : a ≤ b + 65537) (k : b ≤ capOf m) : a ≤ capOf (m + 1) := by rw [capOf_more]; exact Nat.le_trans h (Nat.add_le_add_right k _)
theorem capOf_stay {b m : Nat} (k : b ≤ capOf m) : b ≤ capOf (m + 1) := by rw [capOf_more]; exact Nat.le_trans k (Nat.le_add_right _ _)
theorem capOf_low {b m : Nat} (hm : m ≤ 100) (k : b ≤ capOf m) : b + 65541 ≤ 1099511627776 := by unfold capOf at *; omega
end Go.Proofs.Ytojgkhinddjmaaa
