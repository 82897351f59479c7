/-
  The chapter's frame, behind a byte 7e.
-/
import Derived.Test.YtmdbpoknehafaaaSame
namespace Go.Proofs.Ytmdbpoknehafaaa
open Go.RowKit
theorem Row.get {w : World} {b off n : Nat} {zs : List Int} (h : Row w (some ⟨b, off, none⟩) n zs) {i : Nat} (hi : i < n) : w.cell? ⟨b, off + i, none⟩ = some (.int .u8 (zs.getD i 0)) := by
  obtain ⟨b', off', e, _, hc⟩ := h.2.2 i hi
  cases e
  exact hc
/-- A deframer's bytes, behind a feed. -/
theorem DfAt.fresh {w w' : World} {g : Nat} (hb : But (One g) w w') (w0 : World) (h0 : After w0 w) (hg : w0.heap.size ≤ g) : After w0 w' :=
  After.then h0 hb (fun i hi t => by have t2 : i = g := t; omega)
theorem wrap7 : wNew [7] = [126, 0, 1, 7, 143, 74] := by decide +kernel
theorem fed7 : frs ([] ++ [126]) = [] ∧ drp ([] ++ [126]) = 0 ∧ rst ([] ++ [126]) = [126] := by decide +kernel
theorem fed8 : frs ([126] ++ [126, 0, 1, 7, 143, 74]) = [[7]] ∧ drp ([126] ++ [126, 0, 1, 7, 143, 74]) = 1 ∧ rst ([126] ++ [126, 0, 1, 7, 143, 74]) = [] := by decide +kernel
set_option maxRecDepth 100000 in
set_option maxHeartbeats 1000000 in
theorem awake_any (w : World) : Calls Try.prog 18 #[] w fun e w' => e = .returned (.bool true) ∧ After w w' := by
  go_enter Try.func18, Try.ntmps18
  go_wp2_with fail
  refine (wrap_any _ 1 1 [7] _ (lit_row w _ _ 1 rfl rfl (bs_of _ (by decide))) (fun e => by cases e) (by decide)).mono ?_
  rintro e w1 ⟨v, rfl, o1, a1⟩
  rw [wrap7] at o1
  rw [show wErr [7] = 0 from by decide]
  obtain ⟨gw, cw, rfl, r1, lw, bw, sw⟩ := own_some o1 (bs_of _ (by decide)) (by decide)
  rw [show ([126, 0, 1, 7, 143, 74] : List Int).length = 6 from rfl] at r1 lw ⊢
  have R1 := hideIt r1
  have A1 := hideIt ((After.rfl.alloc _).trans a1)
  have SW := hideIt sw
  have LW := hideIt lw
  clear r1 o1 a1 bw sw lw
  go_wp2_with fail
  refine (new_any _).mono ?_
  rintro e w2 ⟨rfl, d2, a2⟩
  have D2 := hideIt d2
  have R2 := hideIt (R1.out.after a2)
  have A2 := hideIt (A1.out.trans a2)
  have c0 : w2.cell? ⟨gw, 0, none⟩ = some (.int .u8 126) := R2.out.get (i := 0) (by decide)
  have c2 : w2.cell? ⟨gw, 2, none⟩ = some (.int .u8 1) := by have := R2.out.get (i := 2) (by decide); rw [Nat.zero_add] at this; exact this
  have c3 : w2.cell? ⟨gw, 3, none⟩ = some (.int .u8 7) := by have := R2.out.get (i := 3) (by decide); rw [Nat.zero_add] at this; exact this
  have G0 := hideIt A1.out.size
  have GW := hideIt SW.out
  clear d2 a2 R1 A1 SW
  generalize w1.heap.size = g at *
  go_wp2_with fail
  clear c0 c2 c3
  have hne : gw ≠ g := by have := GW.out; omega
  refine (feed_any _ g g [] _ 1 1 [126] (D2.out.after (After.rfl.alloc _)) (lit_row w2 _ _ 1 rfl rfl (bs_of _ (by decide))) (fun e => by cases e) (by decide) (by rw [fed7.1]; decide)).mono ?_
  rintro e w3 ⟨v3, h3, rfl, f3, d3, l3, b3⟩
  rw [fed7.1] at f3
  rw [fed7.2.2] at d3
  rw [fed7.2.1]
  have A3 := hideIt (DfAt.fresh b3 w (A2.out.alloc _) G0.out)
  have R3 := hideIt (Row.but (R2.out.after (After.rfl.alloc _)) b3 (fun x hx t => by cases hx; exact hne t))
  have D3 := hideIt d3
  obtain ⟨xs3, f3a, _⟩ := f3
  obtain ⟨p3, q3, rfl⟩ := own_slice f3a
  clear d3 l3 b3 f3a D2 R2 A2
  go_wp2_with fail
  refine (feed_any _ g h3 [126] _ 6 cw [126, 0, 1, 7, 143, 74] D3.out R3.out (fun e => by cases e) (by decide) (by rw [fed8.1]; decide)).mono ?_
  rintro e w4 ⟨v4, h4, rfl, f4, d4, _, b4⟩
  rw [fed8.1] at f4
  rw [fed8.2.2] at d4
  rw [fed8.2.1]
  have A4 := hideIt (DfAt.fresh b4 w A3.out G0.out)
  have D4 := hideIt d4
  obtain ⟨p4, q4, rfl, l4⟩ := (f4.gat (fun f hf => by simp at hf; subst hf; decide)).lst
  obtain ⟨bb, oo, a5, c5, rfl, _, c4, r5, _, _, _⟩ := l4.at (i := 0) (by decide)
  rw [show ([[7]] : List (List Int)).getD 0 [] = [7] from rfl, show ([7] : List Int).length = 1 from rfl] at c4 r5
  rw [show ([[7]] : List (List Int)).length = 1 from rfl]
  rw [Nat.add_zero] at c4
  have R5 := hideIt r5
  clear d4 b4 f4 l4 r5 D3 R3 A3
  go_wp2_with fail
  refine (eqBytes_same _ _ 1 _ _ [7] _ (R5.out.after (After.rfl.alloc _)) (lit_row w4 _ _ 1 rfl rfl (bs_of _ (by decide))) (by decide)).mono ?_
  rintro e w5 ⟨rfl, a5'⟩
  have D5 := hideIt (D4.out.after ((After.rfl.alloc _).trans a5'))
  have A5 := hideIt (A4.out.trans ((After.rfl.alloc _).trans a5'))
  clear a5' D4 A4 R5 c4
  go_wp2_with fail
  refine (pending_any _ _ _ _ D5.out).mono ?_
  rintro e w6 ⟨rfl, rfl⟩
  go_wp2
  go_ret
  exact ⟨rfl, A5.out⟩
end Go.Proofs.Ytmdbpoknehafaaa
