/-
  The list of calls that MderNames hands in.
-/
import Derived.Test.YtojgkhinddjmaaaDos
import Derived.Laws.MakeOwn
namespace Go.Proofs.Ytojgkhinddjmaaa
open Go.RowKit
/-- The cells of n noughts. -/
def mc (n : Nat) : Array Value := madeCells #[.int .u8 0] n
theorem mc_at (n i : Nat) (h : i < n) : (mc n)[i]? = some (.int .u8 0) := by
  simp [mc, madeCells, h, Nat.mod_one]
def nils (n : Nat) : List Int := List.replicate n 0
theorem nils_length (n : Nat) : (nils n).length = n := List.length_replicate
theorem mc_row {W : World} {p n : Nat} (h : W.heap[p]? = some (.cells (mc n) 5 (0, 0))) : Row W (some ⟨p, 0, none⟩) n (nils n) := by
  refine ⟨nils_length n, fun z hz => ?_, fun i hi => ⟨p, 0, rfl, (Array.getElem?_eq_some_iff.1 h).1, ?_⟩⟩
  · have : z = 0 := List.eq_of_mem_replicate hz
    omega
  · have e : (nils n).getD i 0 = 0 := by simp [nils, List.getD_eq_getElem?_getD, hi]
    rw [e, Nat.zero_add, cell_of_row W p i (mc n) 5 (0, 0) h]
    exact mc_at n i hi
theorem make_run (n : Nat) (hn : n ≤ 65536) (W : World) : (Instr.makeSlice 22 (.int .i64 (n : Int)) (.int .i64 (n : Int))).run Try.prog W = .ok (.slice (some ⟨W.heap.size, 0, none⟩) n n) (W.alloc (.cells (mc n) 5)) := by
  obtain ⟨i0, hi, hz0, hz1, hz2⟩ := info_parts Try.info5
  have h := run_makeSlice (P := Try.prog) W 22 5 i0 (.int .u8 0) Try.underlying22 hi hz0 .i64 .i64 (n : Int) (n : Int) (by omega) (by omega) (by rw [hz1]; omega) (by rw [hz2]; omega) (by omega)
  rw [Int.toNat_natCast, hz1, Nat.mul_one] at h
  exact h
theorem make_65535 (W : World) : (Instr.makeSlice 22 (.int .i64 65535) (.int .i64 65535)).run Try.prog W = .ok (.slice (some ⟨W.heap.size, 0, none⟩) 65535 65535) (W.alloc (.cells (mc 65535) 5)) := make_run 65535 (by decide) W
theorem make_65536 (W : World) : (Instr.makeSlice 22 (.int .i64 65536) (.int .i64 65536)).run Try.prog W = .ok (.slice (some ⟨W.heap.size, 0, none⟩) 65536 65536) (W.alloc (.cells (mc 65536) 5)) := make_run 65536 (by decide) W
theorem one_row {W : World} {p : Nat} (h : W.heap[p]? = some (.cells #[.int .u8 1] 5 (0, 0))) : Row W (some ⟨p, 0, none⟩) 1 [1] := by
  refine ⟨rfl, fun z hz => by rw [List.mem_singleton.1 hz]; omega, fun i hi => ⟨p, 0, rfl, (Array.getElem?_eq_some_iff.1 h).1, ?_⟩⟩
  obtain rfl : i = 0 := by omega
  rw [Nat.zero_add, cell_of_row W p 0 _ 5 (0, 0) h]
  rfl
/-- One call, by its three cells. -/
theorem do_of {W : World} {B o : Nat} {cs : Array Value} {kd x : Int} {a : Option Addr} {n c : Nat} {bs : List Int} (hB : W.heap[B]? = some (.cells cs 48 (0, 0))) (h0 : cs[o]? = some (.int .i64 kd)) (h1 : cs[o + 1]? = some (.int .i64 x)) (h2 : cs[o + 2]? = some (.slice a n c)) (hr : Row W a n bs) (ha : a = none → n = 0 ∧ c = 0) (hn : n ≤ 140737488355328) (hc : n ≤ c) (hk : -9223372036854775808 ≤ kd ∧ kd ≤ 9223372036854775807) (hx : -9223372036854775808 ≤ x ∧ x ≤ 9223372036854775807) : Do1 W B o kd x a n c bs := by
  refine ⟨(Array.getElem?_eq_some_iff.1 hB).1, by rw [cell_of_row W B o cs 48 (0, 0) hB, h0], by rw [cell_of_row W B (o + 1) cs 48 (0, 0) hB, h1], by rw [cell_of_row W B (o + 2) cs 48 (0, 0) hB, h2], hr, ha, hn, hc, fun y hy h => ?_, hk.1, hk.2, hx.1, hx.2⟩
  obtain ⟨b, off, e, hb, _⟩ := hr.2.2 0 h
  rw [hy] at e
  cases e
  exact hb
set_option maxRecDepth 100000 in
theorem dos_names {W : World} {B p q r : Nat} (hB : W.heap[B]? = some (.cells #[.int .i64 0, .int .i64 255, .slice none 0 0, .int .i64 0, .int .i64 256, .slice none 0 0, .int .i64 0, .int .i64 (-1), .slice none 0 0, .int .i64 1, .int .i64 65535, .slice none 0 0, .int .i64 1, .int .i64 65536, .slice none 0 0, .int .i64 1, .int .i64 (-1), .slice none 0 0, .int .i64 2, .int .i64 4294967295, .slice none 0 0, .int .i64 2, .int .i64 0, .slice none 0 0, .int .i64 3, .int .i64 0, .slice none 0 0, .int .i64 3, .int .i64 0, .slice (some ⟨p, 0, none⟩) 65535 65535, .int .i64 3, .int .i64 0, .slice (some ⟨q, 0, none⟩) 65536 65536, .int .i64 3, .int .i64 0, .slice (some ⟨r, 0, none⟩) 1 1] 48 (0, 0)))
    (hp : W.heap[p]? = some (.cells (mc 65535) 5 (0, 0))) (hq : W.heap[q]? = some (.cells (mc 65536) 5 (0, 0))) (hr : W.heap[r]? = some (.cells #[.int .u8 1] 5 (0, 0))) : Dos W (some ⟨B, 0, none⟩) 12 := by
  intro i hi
  have h : i = 0 ∨ i = 1 ∨ i = 2 ∨ i = 3 ∨ i = 4 ∨ i = 5 ∨ i = 6 ∨ i = 7 ∨ i = 8 ∨ i = 9 ∨ i = 10 ∨ i = 11 := by omega
  rcases h with rfl | rfl | rfl | rfl | rfl | rfl | rfl | rfl | rfl | rfl | rfl | rfl
  · exact ⟨B, 0, 0, 255, none, 0, 0, [], rfl, do_of hB rfl rfl rfl (Row.nil _ _) (fun _ => ⟨rfl, rfl⟩) (by decide) (by decide) (by decide) (by decide)⟩
  · exact ⟨B, 0, 0, 256, none, 0, 0, [], rfl, do_of hB rfl rfl rfl (Row.nil _ _) (fun _ => ⟨rfl, rfl⟩) (by decide) (by decide) (by decide) (by decide)⟩
  · exact ⟨B, 0, 0, -1, none, 0, 0, [], rfl, do_of hB rfl rfl rfl (Row.nil _ _) (fun _ => ⟨rfl, rfl⟩) (by decide) (by decide) (by decide) (by decide)⟩
  · exact ⟨B, 0, 1, 65535, none, 0, 0, [], rfl, do_of hB rfl rfl rfl (Row.nil _ _) (fun _ => ⟨rfl, rfl⟩) (by decide) (by decide) (by decide) (by decide)⟩
  · exact ⟨B, 0, 1, 65536, none, 0, 0, [], rfl, do_of hB rfl rfl rfl (Row.nil _ _) (fun _ => ⟨rfl, rfl⟩) (by decide) (by decide) (by decide) (by decide)⟩
  · exact ⟨B, 0, 1, -1, none, 0, 0, [], rfl, do_of hB rfl rfl rfl (Row.nil _ _) (fun _ => ⟨rfl, rfl⟩) (by decide) (by decide) (by decide) (by decide)⟩
  · exact ⟨B, 0, 2, 4294967295, none, 0, 0, [], rfl, do_of hB rfl rfl rfl (Row.nil _ _) (fun _ => ⟨rfl, rfl⟩) (by decide) (by decide) (by decide) (by decide)⟩
  · exact ⟨B, 0, 2, 0, none, 0, 0, [], rfl, do_of hB rfl rfl rfl (Row.nil _ _) (fun _ => ⟨rfl, rfl⟩) (by decide) (by decide) (by decide) (by decide)⟩
  · exact ⟨B, 0, 3, 0, none, 0, 0, [], rfl, do_of hB rfl rfl rfl (Row.nil _ _) (fun _ => ⟨rfl, rfl⟩) (by decide) (by decide) (by decide) (by decide)⟩
  · exact ⟨B, 0, 3, 0, some ⟨p, 0, none⟩, 65535, 65535, nils 65535, rfl, do_of hB rfl rfl rfl (mc_row hp) (fun e => by cases e) (by decide) (Nat.le_refl _) (by decide) (by decide)⟩
  · exact ⟨B, 0, 3, 0, some ⟨q, 0, none⟩, 65536, 65536, nils 65536, rfl, do_of hB rfl rfl rfl (mc_row hq) (fun e => by cases e) (by decide) (Nat.le_refl _) (by decide) (by decide)⟩
  · exact ⟨B, 0, 3, 0, some ⟨r, 0, none⟩, 1, 1, [1], rfl, do_of hB rfl rfl rfl (one_row hr) (fun e => by cases e) (by decide) (Nat.le_refl _) (by decide) (by decide)⟩
/-- Four blocks, one behind the other. -/
theorem four_blocks (w : World) (o1 o2 o3 o4 : Obj) : ((((w.alloc o1).alloc o2).alloc o3).alloc o4).drew.heap[w.heap.size]? = some o1 ∧ ((((w.alloc o1).alloc o2).alloc o3).alloc o4).drew.heap[w.heap.size + 1]? = some o2 ∧ ((((w.alloc o1).alloc o2).alloc o3).alloc o4).drew.heap[w.heap.size + 1 + 1]? = some o3 ∧ ((((w.alloc o1).alloc o2).alloc o3).alloc o4).drew.heap[w.heap.size + 1 + 1 + 1]? = some o4 := by
  have s1 : (w.alloc o1).heap.size = w.heap.size + 1 := by simp
  have s2 : ((w.alloc o1).alloc o2).heap.size = w.heap.size + 1 + 1 := by simp
  have s3 : (((w.alloc o1).alloc o2).alloc o3).heap.size = w.heap.size + 1 + 1 + 1 := by simp
  have e : ∀ j : Nat, ((((w.alloc o1).alloc o2).alloc o3).alloc o4).drew.heap[j]? = ((((w.alloc o1).alloc o2).alloc o3).alloc o4).heap[j]? := fun _ => rfl
  refine ⟨?_, ?_, ?_, ?_⟩
  · rw [e, Below.heap_alloc _ _ _ (by omega), Below.heap_alloc _ _ _ (by omega), Below.heap_alloc _ _ _ (by omega)]; exact heap_alloc_new w o1
  · rw [e, Below.heap_alloc _ _ _ (by omega), Below.heap_alloc _ _ _ (by omega), ← s1]; exact heap_alloc_new _ o2
  · rw [e, Below.heap_alloc _ _ _ (by omega), ← s2]; exact heap_alloc_new _ o3
  · rw [e, ← s3]; exact heap_alloc_new _ o4
/-- Ints that are written out. -/
theorem lit_ints (w : World) (zs : List Int) (cs : Array Value) (n : Nat) (hc : cs.toList = zs.map (Value.int .i64)) (hn : zs.length = n) (hb : ∀ z ∈ zs, -9223372036854775808 ≤ z ∧ z ≤ 9223372036854775807) : RowI (w.alloc (.cells cs 3)) (some ⟨w.heap.size, 0, none⟩) n zs := by
  intro i hi
  have hz := hb (zs.getD i 0) (by simp [show i < zs.length by omega])
  refine ⟨w.heap.size, 0, rfl, by simp, ?_, hz.1, hz.2⟩
  have h := World.news_of_block (heap_alloc_new w (.cells cs 3)) i (.int .i64 (zs.getD i 0)) (by rw [hc]; simp [show i < zs.length by omega])
  have e : (⟨w.heap.size, 0, none⟩ : Addr).add i = ⟨w.heap.size, 0 + i, none⟩ := by
    by_cases h0 : i = 0
    · subst h0; simp [Addr.add]
    · simp [Addr.add, h0]
  rw [e] at h; exact h
theorem lit_ints_at (w : World) (zs : List Int) (cs : Array Value) (n j : Nat) (hj : w.heap.size = j) (hc : cs.toList = zs.map (Value.int .i64)) (hn : zs.length = n) (hb : zs.all (fun z => decide (-9223372036854775808 ≤ z) && decide (z ≤ 9223372036854775807)) = true) : RowI (w.alloc (.cells cs 3)) (some ⟨j, 0, none⟩) n zs := by
  subst hj
  refine lit_ints w zs cs n hc hn (fun z hz => ?_)
  have := List.all_eq_true.1 hb z hz
  simp at this
  exact this
end Go.Proofs.Ytojgkhinddjmaaa
