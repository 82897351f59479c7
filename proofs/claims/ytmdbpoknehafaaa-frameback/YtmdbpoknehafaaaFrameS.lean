/-
  What the bounds give of lists of lists of bytes that are handed in: how long they are.
-/
import Derived.Test.YtmdbpoknehafaaaFrameL
namespace Go.Proofs.Ytmdbpoknehafaaa
open Go.ChangeShapes Go.WideShapes Go.ChangeAt Go.RowKit
/-- What the bound gives: how long each list is. -/
theorem bulk_one {H : Type} (d : DataW H) : 1 ≤ Rows.uptoBulk d := by
  cases d with
  | lit l => cases l <;> simp [Rows.uptoBulk]
  | nil => simp [Rows.uptoBulk]
  | ptr d => simp [Rows.uptoBulk]
  | slice elems spare => simp [Rows.uptoBulk]
  | agg parts => simp [Rows.uptoBulk]
  | iface t d => simp [Rows.uptoBulk]
  | map entries => simp [Rows.uptoBulk]
  | held h => simp [Rows.uptoBulk]
theorem bulk_part {H : Type} {d : DataW H} {l : List (DataW H)} (h : d ∈ l) : Rows.uptoBulk d ≤ Rows.uptoBulkAll l := by
  induction l with
  | nil => cases h
  | cons x r ih =>
    simp only [Rows.uptoBulkAll]
    rcases List.mem_cons.1 h with e | e
    · subst e; omega
    · have := ih e; omega
theorem bulk_length {H : Type} (l : List (DataW H)) : l.length ≤ Rows.uptoBulkAll l := by
  induction l with
  | nil => simp [Rows.uptoBulkAll]
  | cons x r ih => have := bulk_one x; simp only [Rows.uptoBulkAll, List.length_cons]; omega
theorem upto_len {H : Type} {l : List (DataW H)} {d : DataW H} {len : Nat} (hk : Rows.uptoSmall H l = true) (hd : d ∈ l) (hs : Shape d len) : len ≤ 1048576 := by
  rcases hs with rfl | ⟨es, sp, rfl, rfl⟩
  · omega
  · have h1 : Rows.uptoBulkAll l ≤ 1048576 := of_decide_eq_true hk
    have h2 := bulk_part hd
    have h3 := bulk_length es
    simp only [Rows.uptoBulk] at h2
    omega
theorem upto_in {H : Type} {l : List (DataW H)} {d : DataW H} (hk : Rows.uptoSmall H l = true) (hd : d ∈ l) : ∀ es sp, d = .slice es sp → ∀ y ∈ es, ∀ len, Shape y len → len ≤ 1048576 := by
  intro es sp e y hy len hs
  subst e
  rcases hs with rfl | ⟨es2, sp2, rfl, rfl⟩
  · omega
  · have h1 : Rows.uptoBulkAll l ≤ 1048576 := of_decide_eq_true hk
    have h2 := bulk_part hd
    have h3 := bulk_length es2
    have h4 := bulk_part hy
    simp only [Rows.uptoBulk] at h2 h4
    omega
theorem sized_in {H : Type} {ts : List TypeId} {ds : List (DataW H)} {d : DataW H} (h : (DataW.weightsEach Try.prog ts ds).all (· ≤ reachBytes) = true) (j : Nat) (ht : ts[j]? = some 22) (hd : ds[j]? = some d) : ∀ es sp, d = .slice es sp → ∀ y ∈ es, ∀ len, Shape y len → len ≤ 140737488355328 := by
  intro es sp e y hy len hs
  subst e
  rcases hs with rfl | ⟨es2, sp2, rfl, rfl⟩
  · omega
  · have hm : (es2.length + sp2.length) * Try.prog.bytesOf 5 ∈ (DataW.slice es2 sp2 : DataW H).weights Try.prog 27 := by
      simp [DataW.weights, Try.underlying27]
    have hm2 := weights_all (P := Try.prog) (e := 27) hy _ hm
    have := List.all_eq_true.1 h _ (DataW.weights_mem_each ht hd _ (show (es2.length + sp2.length) * Try.prog.bytesOf 5 ∈ _ by
      simp only [DataW.weights, Try.underlying22, List.mem_cons, List.mem_append]
      exact .inr (.inl hm2)))
    have h3 : (es2.length + sp2.length) * Try.prog.bytesOf 5 ≤ reachBytes := by simpa using this
    rw [b5] at h3
    simp only [reachBytes] at h3
    omega
theorem sized22 {H : Type} {ts : List TypeId} {ds : List (DataW H)} {d : DataW H} {len : Nat} (h : (DataW.weightsEach Try.prog ts ds).all (· ≤ reachBytes) = true) (j : Nat) (ht : ts[j]? = some 22) (hd : ds[j]? = some d) (hs : Shape d len) : len ≤ 140737488355328 := by
  rcases hs with rfl | ⟨es, sp, rfl, rfl⟩
  · omega
  · have := sized_slice h ht hd Try.underlying22
    rw [b27] at this
    simp only [reachBytes] at this
    omega
theorem reach {H : Type} {ts : List TypeId} {ds : List (DataW H)} {d : DataW H} {len : Nat} (h : (DataW.weightsEach Try.prog ts ds).all (· ≤ reachBytes) = true) (j : Nat) (ht : ts[j]? = some 27) (hd : ds[j]? = some d) (hs : Shape d len) : len ≤ 140737488351232 := by
  rcases hs with rfl | ⟨es, sp, rfl, rfl⟩
  · omega
  · have := sized_slice h ht hd Try.underlying27
    rw [b5] at this
    simp only [reachBytes] at this
    omega
end Go.Proofs.Ytmdbpoknehafaaa
