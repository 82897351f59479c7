/-
  What the loops of the closed statement FixedKnown leave, round by round.
-/
import Derived.Test.YtiiehpnnfofcaaaDoorKnown1
namespace Go.Proofs.YtiiehpnnfofcaaaDoor
open Go.RowKit
theorem cell_drawn {b : Nat} (W : World) (n : Nat) (C : Array Value) (t : TypeId) (j : Nat) (hb : b = W.heap.size) : ((W.drewN n).alloc (.cells C t)).cell? ⟨b, j, none⟩ = C[j]? := by
  subst hb; exact World.cell?_alloc_mark (W.drewN n) C t (0, 0) j
theorem cell_new (W : World) (C : Array Value) (t : TypeId) (j : Nat) : (W.alloc (.cells C t)).cell? ⟨W.heap.size, j, none⟩ = C[j]? := World.cell?_alloc_mark W C t (0, 0) j
theorem After.alloc {a b : World} (h : After a b) (o : Obj) : After a (b.alloc o) := Below.alloc h (Below.size h) o
theorem info3 : (Tryd.prog.info? 3).map (fun i => (i.zero, i.size, i.bytes)) = some (some (.int .i64 0), 1, 8) := by kernel_rfl
/-- An owned row is owned behind new blocks and draws. -/
theorem own_after {w W : World} {B : Nat} {e : TypeId} {sz : Nat} {v : Value} {n : Nat} {xs : List Value} (h : w.ownsRow B e sz v n xs) (ha : After w W) : W.ownsRow B e sz v n xs := by
  refine ⟨h.1, ?_⟩
  rcases h.2 with hn | ⟨g, cap, cur, h1, h2, h3, h4⟩
  · exact Or.inl hn
  · have hlt : g < w.heap.size := by
      rcases Nat.lt_or_ge g w.heap.size with h' | h'
      · exact h'
      · rw [Array.getElem?_eq_none h'] at h3; cases h3
    exact Or.inr ⟨g, cap, cur, h1, h2, (Below.block ha g hlt).trans h3, h4⟩
/-- What a round of the loops leaves. -/
theorem loop_rel {b T : Nat} {w0 wr W w2 : World} {got : Value} {n : Nat} {xs : List Value} {f : Nat → Value} (hb : After w0 wr) (hle : w0.heap.size ≤ b) (hsz : b + 1 ≤ wr.heap.size) (hcell : ∀ j, j < T → wr.cell? ⟨b, j, none⟩ = some (f j))
    (hown : wr.ownsRow (b + 1) 3 1 got n xs) (ha : After wr W) (hg : W.grownBy w2 got.ownBlock) : After w0 w2 ∧ b + 1 ≤ w2.heap.size ∧ ∀ j, j < T → w2.cell? ⟨b, j, none⟩ = some (f j) := by
  have hW : Below (b + 1) wr W := Below.mono ha hsz
  have h2 : Below (b + 1) wr w2 := hW.grown hg (Nat.le_trans hsz hW.size) (fun k hk => by
    rcases hown.2 with ⟨rfl, _⟩ | ⟨g, cap, cur, rfl, hge, _⟩
    · simp [Value.ownBlock] at hk
    · simp [Value.ownBlock] at hk; omega)
  refine ⟨Below.trans hb (h2.mono (by omega)), Nat.le_trans hsz h2.size, fun j hj => ?_⟩
  rw [h2.cell (p := ⟨b, j, none⟩) (Nat.lt_succ_self b)]
  exact hcell j hj
theorem cells_after {b T : Nat} {wr W : World} {f : Nat → Value} (hsz : b + 1 ≤ wr.heap.size) (hcell : ∀ j, j < T → wr.cell? ⟨b, j, none⟩ = some (f j)) (ha : After wr W) : b + 1 ≤ W.heap.size ∧ ∀ j, j < T → W.cell? ⟨b, j, none⟩ = some (f j) := by
  refine ⟨Nat.le_trans hsz (Below.size ha), fun j hj => ?_⟩
  rw [Below.cell ha (p := ⟨b, j, none⟩) (Nat.lt_of_lt_of_le (Nat.lt_succ_self b) hsz)]
  exact hcell j hj
theorem two_drawn {b : Nat} (W : World) (n : Nat) (x y : Value) (hb : b = W.heap.size) : ∀ (j : Nat) (u : Value), [x, y][j]? = some u → ((W.drewN n).alloc (Obj.cells #[x, y] 3)).cell? ((⟨b, 0, none⟩ : Addr).add j) = some u := by
  intro j u hj
  have ha : ((⟨b, 0, none⟩ : Addr).add j) = ⟨b, j, none⟩ := by simp [Addr.add]; omega
  rw [ha, cell_drawn W n _ _ _ hb]
  simpa using hj
theorem two_new (W : World) (x y : Value) : ∀ (j : Nat) (u : Value), [x, y][j]? = some u → (W.alloc (Obj.cells #[x, y] 3)).cell? ((⟨W.heap.size, 0, none⟩ : Addr).add j) = some u := two_drawn W 0 x y rfl
theorem two_one (a b : Int) : ∀ u, u ∈ [Value.int .i64 a, Value.int .i64 b] → u.oneCell' = true := by
  intro u hu; simp at hu; rcases hu with rfl | rfl <;> rfl
def vals (l : List Int) : List Value := l.map (Value.int .i64)
theorem own_shape3 {W : World} {B : Nat} {v : Value} {n : Nat} {xs : List Value} (h : W.ownsRow B 3 1 v n xs) (hn : 0 < n) : ∃ g cap, v = .slice (some ⟨g, 0, none⟩) n cap := by
  rcases h.2 with ⟨_, h0⟩ | ⟨g, cap, cur, rfl, _⟩
  · omega
  · exact ⟨g, cap, rfl⟩
theorem own_cells {W : World} {B g cap : Nat} {l : List Int} {n : Nat} (hn : n = l.length) (h : W.ownsRow B 3 1 (.slice (some ⟨g, 0, none⟩) n cap) n (vals l)) : ∀ j, j < n → W.cell? ⟨g, j, none⟩ = some (.int .i64 (l.getD j 0)) := by
  subst hn
  rcases h.2 with ⟨h0, _⟩ | ⟨g', cap', cur, hv, _, hblk, _, _, _, htk⟩
  · cases h0
  · cases hv
    intro j hj
    rw [Nat.mul_one] at htk
    have hc : cur.toList[j]? = some (.int .i64 (l.getD j 0)) := by
      have : (cur.toList.take l.length)[j]? = some (.int .i64 (l.getD j 0)) := by
        rw [htk]; unfold vals; simp [hj]
      rw [List.getElem?_take, if_pos hj] at this
      exact this
    unfold World.cell?
    simp [hblk]
    simpa using hc
theorem new_cells (W : World) (l : List Int) {C : Array Value} (hC : C = (vals l).toArray) {n : Nat} (hn : n = l.length) : ∀ j, j < n → (W.alloc (.cells C 3)).cell? ⟨W.heap.size, j, none⟩ = some (.int .i64 (l.getD j 0)) := by
  subst hn hC
  intro j hj
  rw [cell_new]
  unfold vals
  simp [hj]
def tbl1 : List Int := [1000, 3000, -1, 2000, 5, 0, 2147483647, 1, -9223372036854775808, 9223372036854775807, 1, -2000, 0, 5]
def res1 : List Int := [333, 0, -1, 0, 0, 9, 2147483647, 0, -1000, 0, -1, 0, 0, 0]
def tbl2 : List Int := [7, 1, 2, -7, 1, 2, 1, 1, 0, 9223372036854775807, 9223372036854775807, 1, 9223372036854775807, 9223372036854775807, -9223372036854775808, 3, -1, -2, 0, 0, 1]
def res2 : List Int := [4, 0, -4, 0, 0, 9, 2147483647, 0, -2147483647, 0, 2, 0, 0, 0]
def str3 : List ByteArray := [⟨#[50, 46, 48, 48, 48]⟩, ⟨#[45, 48, 46, 48, 48, 53]⟩, ⟨#[50, 49, 52, 55, 52, 56, 51, 46, 54, 52, 55]⟩, ⟨#[50, 49, 52, 55, 52, 56, 51, 46, 54, 52, 56]⟩, ⟨#[45, 50, 49, 52, 55, 52, 56, 51, 46, 54, 52, 56]⟩, ⟨#[57, 57, 57, 57, 57, 57, 57, 46, 57, 57, 57]⟩, ⟨#[48, 46, 48]⟩, ⟨#[49, 46, 53, 48]⟩, ⟨#[48]⟩]
def res3 : List Int := [2000, 0, -5, 0, 2147483647, 0, 0, 9, 0, 9, 0, 9, 0, 0, 1500, 0, 0, 0]
def str4 : List ByteArray := [⟨#[]⟩, ⟨#[45]⟩, ⟨#[46]⟩, ⟨#[45, 48]⟩, ⟨#[45, 48, 46, 48, 48, 48]⟩, ⟨#[48, 49]⟩, ⟨#[48, 48]⟩, ⟨#[46, 53]⟩, ⟨#[53, 46]⟩, ⟨#[49, 46, 50, 51, 52, 53]⟩, ⟨#[49, 50, 51, 52, 53, 54, 55, 56]⟩, ⟨#[43, 49]⟩, ⟨#[49, 101, 51]⟩, ⟨#[32, 49]⟩, ⟨#[49, 32]⟩, ⟨#[45, 45, 49]⟩, ⟨#[49, 46, 45, 53]⟩, ⟨#[49, 46, 46, 53]⟩, ⟨#[49, 46, 53, 46, 53]⟩, ⟨#[48, 120, 49]⟩]
def tab1 (j : Nat) : Value := .int .i64 (tbl1.getD j 0)
def tab2 (j : Nat) : Value := .int .i64 (tbl2.getD j 0)
def tab3 (j : Nat) : Value := .string (str3.getD j ⟨#[]⟩)
def tab4 (j : Nat) : Value := .string (str4.getD j ⟨#[]⟩)
end Go.Proofs.YtiiehpnnfofcaaaDoor
