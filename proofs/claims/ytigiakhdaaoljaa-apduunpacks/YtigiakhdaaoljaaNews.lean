/-
  New coders; how many bytes are left to one; what one has written.
-/
import Derived.Test.YtigiakhdaaoljaaInsA
namespace Go.Proofs.Ytigiakhdaaoljaa
open Go.RowKit
set_option maxRecDepth 8000
theorem writer_any (w : World) : Calls Try.prog 22 #[] w fun e w' => ∃ q S, e = .returned (Co none q) ∧ Cod w' none q true [] S ∧ After w w' ∧ ∀ k, S k → w.heap.size ≤ k := by
  have HA := hideIt (show After w (w.alloc (.cells #[.pointer none, .pointer none] 52)) from After.rfl.alloc _)
  have b0 := new1 w (.cells #[.pointer none, .pointer none] 52)
  have HB := hideIt b0
  have H1 := hideIt (write_any (w.alloc (.cells #[.pointer none, .pointer none] 52)))
  clear b0
  go_enter Try.func22, Try.ntmps22
  go_wp2_with fail
  refine H1.out.mono ?_
  rintro e w1 ⟨rfl, r1, a1⟩
  have hb : w1.heap[w.heap.size]? = some (.cells #[.pointer none, .pointer none] 52 (0, 0)) := (But.block a1 _ (by simp) (fun t => t)).trans HB.out
  obtain ⟨_, c0, c1, f0, f1⟩ := two_at hb
  have HX := hideIt (And.intro r1 a1)
  rw [World.size_alloc]
  clear r1 a1 hb H1
  go_wp2_with fail
  obtain ⟨r1, a1⟩ := HX.out
  rw [World.size_alloc] at r1
  refine bodyPost_ret (v := Co none (some ⟨w.heap.size + 1, 0, none⟩)) (by simp [results, Try.results22, go_sem, c0, c1]) rfl ⟨some ⟨w.heap.size + 1, 0, none⟩, Own (w.heap.size + 1) (.slice none 0 0), rfl, ⟨.inr ⟨rfl, w.heap.size + 1, .slice none 0 0, rfl, rfl, ?_, rfl⟩, fun k hk => ?_⟩, ?_, fun k hk => ?_⟩
  · refine r1.but (S := One w.heap.size) ?_ (fun h => by have : w.heap.size + 1 = w.heap.size := h; omega) (fun k hk => by cases hk)
    iterate 2 refine But.set (S := One w.heap.size) ?_ ⟨w.heap.size, _, none⟩ (fun _ => Eq.refl _) _
    exact But.rfl
  · rcases hk with rfl | hk
    · have := (two_at r1.1).1; simpa using this
    · cases hk
  · iterate 2 refine After.set ?_ _ (Nat.le_refl _) _
    exact HA.out.trans a1
  · rcases hk with rfl | hk
    · omega
    · cases hk
theorem reader_any (w : World) (a : Option Addr) (n c : Nat) (bs : List Int) (hr : Row w a n bs) (ha : a = none → n = 0 ∧ c = 0) (hn : n ≤ 140737488355328) :
    Calls Try.prog 34 #[.slice a n c] w fun e w' => ∃ p S, e = .returned (Co p none) ∧ Cod w' p none false bs S ∧ After w w' ∧ ∀ k, S k → w.heap.size ≤ k := by
  have HA := hideIt (show After w (w.alloc (.cells #[.pointer none, .pointer none] 52)) from After.rfl.alloc _)
  have HB := hideIt (new1 w (.cells #[.pointer none, .pointer none] 52))
  have H1 := hideIt (new_any a n c bs _ (hr.after HA.out) ha hn)
  clear hr ha hn
  go_enter Try.func34, Try.ntmps34
  go_wp2_with fail
  refine H1.out.mono ?_
  rintro e w1 ⟨g, h, rfl, r1, hg, hh, a1⟩
  have hb : w1.heap[w.heap.size]? = some (.cells #[.pointer none, .pointer none] 52 (0, 0)) := (But.block a1 _ (by simp) (fun t => t)).trans HB.out
  obtain ⟨_, c0, c1, f0, f1⟩ := two_at hb
  rw [World.size_alloc] at hg hh
  have HX := hideIt (And.intro r1 (And.intro a1 (And.intro hg hh)))
  clear r1 a1 hb H1 hg hh
  go_wp2_with fail
  obtain ⟨r1, a1, hg, hh⟩ := HX.out
  obtain ⟨S', k1, s1⟩ := rd_step r1 (But.rfl (S := One g) (w := w1))
  refine bodyPost_ret (v := Co (some ⟨g, 0, none⟩) none) (by simp [results, Try.results34, go_sem, c0, c1]) rfl ⟨some ⟨g, 0, none⟩, Two g h, rfl, ⟨.inl ⟨rfl, g, h, rfl, rfl, ?_, rfl⟩, fun k hk => ?_⟩, ?_, fun k hk => ?_⟩
  · refine r1.but (S := One w.heap.size) ?_ (fun e => by have : g = w.heap.size := e; omega) (fun e => by have : h = w.heap.size := e; omega)
    iterate 2 refine But.set (S := One w.heap.size) ?_ ⟨w.heap.size, _, none⟩ (fun _ => Eq.refl _) _
    exact But.rfl
  · have hgl := r1.lt
    rw [World.size_setCell, World.size_setCell]
    rcases hk with rfl | rfl
    · exact hgl
    · obtain ⟨a', n', c', _, _, _, _, h5⟩ := r1
      rcases h5 with ⟨_, _, _, rfl⟩ | ⟨off, _, _, hl⟩
      · exact hgl
      · exact hl
  · iterate 2 refine After.set ?_ _ (Nat.le_refl _) _
    exact HA.out.trans a1
  · rcases hk with rfl | rfl <;> omega
/-- How many bytes are left. -/
theorem c_left (w : World) (p : Option Addr) (zs : List Int) (S : Nat → Prop) (c : Cod w p none false zs S) : Calls Try.prog 66 #[.pointer p] w fun e w' => e = .returned (.int .i64 zs.length) ∧ w' = w := by
  rcases c.is with ⟨_, g, h, rfl, _, r, _⟩ | ⟨h, _⟩
  · exact left_any w g h zs r
  · cases h
/-- What was written. -/
theorem c_bytes (w : World) (q : Option Addr) (zs : List Int) (S : Nat → Prop) (c : Cod w none q true zs S) (hl : zs.length ≤ 1000000000) : Calls Try.prog 28 #[.pointer q] w fun e w' => ∃ a c, e = .returned (.slice a zs.length c) ∧ w'.ownsRow w.heap.size 5 1 (.slice a zs.length c) zs.length (u8s zs) ∧ After w w' := by
  rcases c.is with ⟨h, _⟩ | ⟨_, g, v, _, rfl, r, _⟩
  · cases h
  · refine (wBytes_any w g v zs r (by omega)).mono ?_
    rintro e w1 ⟨x, rfl, ho, ha⟩
    obtain ⟨a, c, rfl⟩ := own_slice ho
    exact ⟨a, c, rfl, ho, ha⟩
end Go.Proofs.Ytigiakhdaaoljaa
