/-
  Both devices side by side; the document's calls of all arguments; the bytes of a call.
-/
import Derived.Test.YtalffdiohjcajaaDbW
import Derived.Test.YtalffdiohjcajaaIvGO
namespace Go.Proofs.Ytalffdiohjcajaa.Ig
open Go.RowKit
set_option maxRecDepth 8000
theorem rv_write {S : Nat → Prop} {w : World} {p : Pl} {x : Dv} (h : RvX w S p x) (i : Int) (a : Option Addr) (n c : Nat) (b : List Int) (hr : Row w a n b) (ha : ∀ y, a = some y → y.block ≠ p.e) :
    Calls Try.prog 25 #[Ptr p.e, .int .i64 i, .slice a n c] w fun e w' => e = .returned (.int .i64 (x.writeE i b)) ∧ RvX w' S p (x.writeS i b) ∧ But p.In w w' := by
  by_cases hE : x.dead = true ∨ ¬ x.may i b
  · refine (Iv.rvWrite_no h i a n c b hr.1 hE).mono ?_
    rintro e w' ⟨rfl, rfl⟩
    refine ⟨rfl, ?_, But.rfl⟩
    rw [show x.writeS i b = x by
      unfold Dv.writeS
      rcases hE with hE | hE
      · rw [hE]; rfl
      · rw [if_neg hE]; split <;> rfl]
    exact h
  · have hd : x.dead = false := by
      cases e : x.dead with
      | false => rfl
      | true => exact absurd (.inl e) hE
    have hm : x.may i b := by
      by_cases e : x.may i b
      · exact e
      · exact absurd (.inr e) hE
    obtain ⟨h0, h1, h2⟩ := hm
    obtain ⟨j, rfl⟩ : ∃ j : Nat, i = j := ⟨i.toNat, by omega⟩
    have hj : j < x.n := by omega
    have hn : n = 64 := hr.1.symm.trans h2
    subst hn
    obtain ⟨q, off, ea, _⟩ := hr.2.2 0 (by omega)
    subst ea
    by_cases hl : x.left = 0
    · have eE : x.writeE j b = 220 := by rw [writeE_live hd, if_pos (show x.may j b from ⟨h0, h1, h2⟩), if_pos hl]
      have eS : x.writeS j b = x.go := by rw [writeS_live hd, if_pos (show x.may j b from ⟨h0, h1, h2⟩), if_pos hl]
      rw [eE, eS]
      refine (Iv.rvWrite_die h hj hd hl _ c).mono ?_
      rintro e w' ⟨rfl, h', b'⟩
      exact ⟨rfl, h', b'.mono (fun k _ e => .inl e)⟩
    · have eE : x.writeE j b = 0 := by rw [writeE_live hd, if_pos (show x.may j b from ⟨h0, h1, h2⟩), if_neg hl]
      have eS : x.writeS j b = x.go.put j b := by rw [writeS_live hd, if_pos (show x.may j b from ⟨h0, h1, h2⟩), if_neg hl]; rfl
      rw [eE, eS]
      exact Iv.rvWrite_yes h hj hd hl ⟨q, off, none⟩ c b hr (ha _ rfl)
theorem rv_flush {S : Nat → Prop} {w : World} {p : Pl} {x : Dv} (h : RvX w S p x) :
    Calls Try.prog 26 #[Ptr p.e] w fun e w' => e = .returned (.int .i64 x.flushE) ∧ RvX w' S p x.flushS ∧ But p.In w w' := by
  cases hd : x.dead with
  | true =>
    have eE : x.flushE = 220 := by unfold Dv.flushE; rw [hd]; rfl
    have eS : x.flushS = x := by unfold Dv.flushS; rw [hd]; rfl
    rw [eE, eS]
    refine (Iv.rvFlush_no h hd).mono ?_
    rintro e w' ⟨rfl, rfl⟩
    exact ⟨rfl, h, But.rfl⟩
  | false =>
    by_cases hl : x.left = 0
    · have eE : x.flushE = 220 := by rw [flushE_live hd, if_pos hl]
      have eS : x.flushS = x.go := by rw [flushS_live hd, if_pos hl]
      rw [eE, eS]
      refine (Iv.rvFlush_die h hd hl).mono ?_
      rintro e w' ⟨rfl, h', b'⟩
      exact ⟨rfl, h', b'.mono (fun k _ e => .inl e)⟩
    · have eE : x.flushE = 0 := by rw [flushE_live hd, if_neg hl]
      have eS : x.flushS = x.go.flushed := by rw [flushS_live hd, if_neg hl]
      rw [eE, eS]
      exact Iv.rvFlush_yes h hd hl
/-- It goes on where other blocks are avoided, too. -/
theorem RvX.wide {S S' : Nat → Prop} {w w1 : World} {p : Pl} {x : Dv} (h : RvX w S p x) (a : After w w1) (hS : ∀ k, k < w.heap.size → S' k → S k) (hI : ∀ b, p.In b → S' b) (hb : ∀ b, S' b → b < w1.heap.size) : RvX w1 S' p x :=
  { h.after a with rk := (h.rk.widen hS).but a (fun t => t) (fun _ _ t => t.elim), rl := (h.rl.widen hS).but a (fun t => t) (fun _ _ t => t.elim), inS := hI, bd := hb }
/-- Where both lie, and what else is written. -/
def Bth (d g m : Nat) (p : Pl) : Nat → Prop := fun k => InD d g m k ∨ p.In k
/-- Both devices, made behind w0. -/
structure Pb (w0 W : World) (d g m : Nat) (p : Pl) (x : Dv) : Prop where
  dv : DvX W d g m x
  rv : RvX W (Bth d g m p) p x
  aft : After w0 W
  new : ∀ k, Bth d g m p k → w0.heap.size ≤ k
  dis : ∀ k, InD d g m k → ¬ p.In k
theorem Pb.after {w0 W W' : World} {d g m : Nat} {p : Pl} {x : Dv} (h : Pb w0 W d g m p x) (a : After W W') : Pb w0 W' d g m p x :=
  { h with dv := h.dv.after a, rv := h.rv.after a, aft := h.aft.trans a }
theorem Pb.lt {w0 W : World} {d g m : Nat} {p : Pl} {x : Dv} (h : Pb w0 W d g m p x) : ∀ k, Bth d g m p k → k < W.heap.size := h.rv.bd
/-- The bytes that go on from a number. -/
def byt (v : Int) (n : Nat) : List Int := (List.range n).map (fun i => (v + (i : Nat)) % 256)
theorem byt_len (v : Int) (n : Nat) : (byt v n).length = n := by simp [byt]
theorem byt_bs (v : Int) (n : Nat) : Bs (byt v n) := fun z hz => by
  obtain ⟨i, _, rfl⟩ := List.mem_map.1 hz
  omega
theorem byt_succ (v : Int) (n : Nat) : byt v (n + 1) = byt v n ++ [(v + (n : Nat)) % 256] := by
  unfold byt
  rw [List.range_succ, List.map_append]
  rfl
/-- How many. -/
def bytN (s : Int) : Nat := (64 - (if s < -1 then -1 else if 64 < s then 64 else s)).toNat
theorem bytN_le (s : Int) : bytN s ≤ 65 := by
  unfold bytN
  split
  · decide
  · split
    · decide
    · omega
theorem one_row {w : World} {q : Nat} {T : TypeId} {y : Int} (h : w.heap[q]? = some (.cells #[.int .u8 y] T (0, 0))) (hb : Bs [y]) : Row w (some ⟨q, 0, none⟩) 1 [y] :=
  ⟨rfl, hb, fun i hi => ⟨q, 0, rfl, blk_lt h, by
    obtain rfl : i = 0 := by omega
    exact blk_cell h rfl⟩⟩
structure Dox where
  k : Int
  i : Int
  v : Int
  s : Int
  a : Option Addr
  n : Nat
  c : Nat
abbrev Dox.cs (x : Dox) : Array Value := #[.int .i64 x.k, .int .i64 x.i, .int .i64 x.v, .int .i64 x.s, .slice x.a x.n x.c]
abbrev Dox.val (x : Dox) : Value := .agg x.cs
set_option maxHeartbeats 1000000 in
theorem bytes_any (w : World) (x : Dox) (_h0 : -9223372036854775808 ≤ x.v) (_h1 : x.v ≤ 9223372036854775807) :
    Calls Try.prog 24 #[x.val] w fun e w' => ∃ v, e = .returned v ∧ w'.ownsRow w.heap.size 5 1 v (bytN x.s) (u8s (byt x.v (bytN x.s))) ∧ After w w' := by
  obtain ⟨k, i, v, s, a, n, c⟩ := x
  dsimp only at _h0 _h1 ⊢
  have HC := hideIt (fun W => clip_any W s (-1) 64)
  have hN : (64 - (if s < -1 then -1 else if 64 < s then 64 else s)) = ((bytN s : Nat) : Int) := by
    unfold bytN
    split
    · rfl
    · split
      · rfl
      · omega
  have hle := bytN_le s
  generalize (if s < -1 then -1 else if 64 < s then 64 else s) = C at *
  generalize bytN s = N at *
  obtain ⟨i0, hi, hz0, hz1, hz2⟩ := info_parts Try.info5
  have HI := hideIt (And.intro hi (And.intro hz0 (And.intro hz1 hz2)))
  clear hi hz0 hz1 hz2
  have hC : (64 : Int) - C = (N : Int) := hN
  have hw : IntKind.i64.wrap (N : Int) = (N : Int) := wrapS _ (by omega) (by omega)
  obtain ⟨W1, hW1⟩ : ∃ W, W = w.alloc (.cells #[.int .i64 k, .int .i64 i, .int .i64 v, .int .i64 s, .slice a n c] 34) := ⟨_, rfl⟩
  have k1 : W1.heap[w.heap.size]? = some (.cells #[.int .i64 k, .int .i64 i, .int .i64 v, .int .i64 s, .slice a n c] 34 (0, 0)) := by rw [hW1]; exact heap_alloc_new w _
  have a1 : After w W1 := by rw [hW1]; exact After.rfl.alloc _
  have H1 := hideIt (And.intro k1 a1)
  have HS1 := hideIt (show W1.heap.size = w.heap.size + 1 by rw [hW1]; simp)
  clear hN k1 a1
  go_enter Try.func24, Try.ntmps24
  go_wp2_with fail
  rw [← hW1]
  clear hW1
  obtain ⟨B, hB⟩ : ∃ B, w.heap.size = B := ⟨_, rfl⟩
  rw [hB] at H1 HS1 ⊢
  go_loopw [3, 4] (fun rv iv wr => ∃ j : Nat, j ≤ N ∧ iv = .int .i64 j ∧ wr.ownsRow (B + 1) 5 1 rv j (u8s (byt v j)) ∧ After W1 wr) (fun _ iv _ => N - (intOf iv).toNat)
  case atStart => exact ⟨0, Nat.zero_le _, rfl, World.ownsRow_nil _ _ _ _, After.rfl⟩
  case round =>
    obtain ⟨j, hj, rfl, ho, aw⟩ := hrel
    have kb := After.at aw H1.out.1
    have c2 := blk_cell kb (i := 2) (v := .int .i64 v) rfl
    have c3 := blk_cell kb (i := 3) (v := .int .i64 s) rfl
    have hlt := blk_lt kb
    have HO := hideIt (And.intro ho aw)
    clear ho aw kb
    by_cases hjn : j < N
    · have i1 : (j : Int) < (N : Int) := by omega
      have hu : wrap64 (v + (j : Int)) % 256 = (v + (j : Int)) % 256 := by unfold wrap64; omega
      have hyb : Bs [(v + (j : Int)) % 256] := fun z hz => by rw [List.mem_singleton.1 hz]; omega
      obtain ⟨ra, rc, rfl, _, _, _, _⟩ := own_row HO.out.1 (byt_bs v j)
      have hsu := byt_succ v j
      generalize (v + (j : Int)) % 256 = y at *
      have HS := hideIt (And.intro hsu hyb)
      clear hsu hyb
      go_wp2_with (first
        | (go_at_call 41; refine (HC.out _).mono ?_; rintro e w4 ⟨rfl, hw4⟩; obtain rfl := hw4.symm)
        | (at_builtin; refine wpList_append_own _ rfl (.tmp 13) (.tmp 19) 38 rfl (B + 1) 5 i0 (.int .u8 0) 1 1 Try.underlying38 HI.out.1 HI.out.2.1 HI.out.2.2.1 HI.out.2.2.2 rfl (by decide) _ j (u8s (byt v j)) rfl (own_after HO.out.1 (After.rfl.alloc (.cells #[.int .u8 y] 5))) ⟨wr.heap.size, 0, none⟩ 1 1 (u8s [y]) rfl rfl (row_news (one_row (heap_alloc_new wr _) HS.out.2)) (u8s_one _) (by unfold maxLen; omega) (by omega) (by have := hlt; simp; omega) ?_; intro v' w5 hown hgrow hnil; rw [u8s_append, ← HS.out.1] at hown; have HO2 := hideIt (And.intro hown hgrow); clear hown hgrow hnil)
        | fail)
      refine ⟨⟨j + 1, by omega, by simp, HO2.out.1, ?_⟩, by simp [intOf]; omega⟩
      exact (HO.out.2.alloc _).then (But.grown But.rfl HO2.out.2 (S := fun k => (Value.slice ra j rc).ownBlock = some k) (fun k hk _ => hk)) (fun k hk e => by have := (HO.out.1.lt k e).1; have := HS1.out; omega)
    · obtain rfl : j = N := by omega
      go_wp2_with (first
        | (go_at_call 41; refine (HC.out _).mono ?_; rintro e w4 ⟨rfl, hw4⟩; obtain rfl := hw4.symm)
        | fail)
      go_ret
      refine ⟨_, rfl, own_base HO.out.1 (fun k hk => by have := (HO.out.1.lt k hk).1; omega), H1.out.2.trans HO.out.2⟩
end Go.Proofs.Ytalffdiohjcajaa.Ig
