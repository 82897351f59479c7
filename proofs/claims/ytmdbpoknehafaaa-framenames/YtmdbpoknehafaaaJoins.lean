/-
  Frames that are appended to frames; noughts.
-/
import Derived.Test.YtmdbpoknehafaaaTurned
import Derived.Laws.MakeOwn
namespace Go.Proofs.Ytmdbpoknehafaaa
open Go.RowKit
/-- Some frames more. -/
theorem Frs.join {w w2 : World} {B : Nat} {v v' : Value} {fs gs : List (List Int)} {xs ys : List Value} (h1 : w.ownsRow B 27 1 v fs.length xs) (h2 : Each (OwnB w B) xs fs) (k2 : Each (OwnB w B) ys gs) (hg : But (fun k => v.ownBlock = some k) w w2) (ho : w2.ownsRow B 27 1 v' (fs.length + gs.length) (xs ++ ys)) : Frs w2 B v' (fs ++ gs) := by
  have keep : ∀ y z, OwnB w B y z → OwnB w2 B y z := fun y z e => ⟨by
    refine own_but e.1 hg (fun k hk t => ?_)
    rcases e.1.2 with ⟨e1, _⟩ | ⟨g, cap, cur, e1, _, e3, _⟩
    · rw [e1] at hk; cases hk
    · rw [e1] at hk; cases hk
      rcases row_type h1 After.rfl g t with h' | ⟨cur', h'⟩
      · rw [h'] at e3; cases e3
      · rw [h'] at e3; injection e3 with e3; injection e3 with _ e4; exact absurd e4 (by decide), e.2⟩
  exact ⟨xs ++ ys, by rw [List.length_append]; exact ho, Each.append (h2.mono keep) (k2.mono keep)⟩
theorem slices_one {E : Value → List Int → Prop} {ys : List Value} {gs : List (List Int)} (h : Each E ys gs) (hE : ∀ x z, E x z → ∃ a n c, x = .slice a n c) : ∀ u ∈ ys, u.oneCell' = true := by
  intro u hu
  obtain ⟨i, hi, rfl⟩ := List.mem_iff_getElem.1 hu
  obtain ⟨x, e1, e2⟩ := h.at (i := i) (by rw [← h.1]; exact hi)
  rw [List.getElem?_eq_getElem hi] at e1
  cases e1
  obtain ⟨a, n, c, e⟩ := hE _ _ e2
  rw [e]; rfl
theorem app_frs {w : World} {ops : Array Oper} {rest : List Oper} {o : Oper} {act : Act} {Q : Exit → Act → World → Prop} (hgd : o.guard = none) (s x : Operand)
    (ho : o.op = .call { callee := .builtin .append, args := #[s, x], argTypes := #[22, 22] }) (B : Nat) (v : Value) (fs : List (List Int)) (hs : act.eval s = v) (hf : Frs w B v fs)
    (u : Value) (gs : List (List Int)) (hx : act.eval x = u) (hu : Frs w B u gs) (hb : (fs.length + gs.length) * 24 ≤ 140737488355328) (hbase : B ≤ w.heap.size)
    (h : ∀ v' w', Frs w' B v' (fs ++ gs) → But (fun k => v.ownBlock = some k) w w' → (v'.ownBlock = v.ownBlock ∨ v'.ownBlock = some w.heap.size) → wpList Try.prog ops Q rest (act.put o.dst v') w') : wpList Try.prog ops Q (o :: rest) act w := by
  obtain ⟨i0, hi, hz0, hz1, hz2⟩ := info_parts Try.info27
  obtain ⟨xs, h1, h2⟩ := hf
  obtain ⟨ys, k1, k2⟩ := hu
  rcases k1.2 with ⟨rfl, e0⟩ | ⟨g, cap, cur, rfl, _, e3, _⟩
  · have hgs : gs = [] := List.length_eq_zero_iff.1 e0
    subst hgs
    refine wpList_append_own_none hgd s x 22 ho B 27 i0 1 Try.underlying22 hi v fs.length xs hs h1 hx ?_
    refine h v w ?_ But.rfl (.inl rfl)
    rw [List.append_nil]; exact ⟨xs, h1, h2⟩
  · refine wpList_append_own_at w hgd s x 22 ho B 27 i0 (.slice none 0 0) 1 24 Try.underlying22 hi hz0 hz1 hz2 rfl (by decide) v fs.length xs hs h1 ⟨g, 0, none⟩ gs.length cap ys hx (by rw [k1.1]) (fun j y hj => k1.cells rfl j y hj) (slices_one k2 (fun y z e => by obtain ⟨a, c, e⟩ := own_slice e.1; exact ⟨a, _, c, e⟩)) (by unfold maxLen; omega) hb hbase ?_
    intro v' w' p1 p2 _ p4
    have hB : But (fun k => v.ownBlock = some k) w w' := But.grown But.rfl p2 (fun k hk _ => hk)
    exact h v' w' (Frs.join h1 h2 k2 hB p1) hB p4
/-- The cells of n noughts. -/
def mc (n : Nat) : Array Value := madeCells #[.int .u8 0] n
theorem mc_at (n i : Nat) (h : i < n) : (mc n)[i]? = some (.int .u8 0) := by
  simp [mc, madeCells, h, Nat.mod_one]
def nils (n : Nat) : List Int := List.replicate n 0
theorem nils_length (n : Nat) : (nils n).length = n := List.length_replicate
theorem mc_row {W : World} {p n : Nat} (h : W.heap[p]? = some (.cells (mc n) 5 (0, 0))) : Row W (some ⟨p, 0, none⟩) n (nils n) := by
  refine ⟨nils_length n, fun z hz => ?_, fun i hi => ⟨p, 0, rfl, (Array.getElem?_eq_some_iff.1 h).1, ?_⟩⟩
  · have : z = 0 := List.eq_of_mem_replicate hz
    omega
  · have e : (nils n).getD i 0 = 0 := by simp [nils, List.getD_eq_getElem?_getD, hi]
    rw [e, Nat.zero_add, cell_of_row W p i (mc n) 5 (0, 0) h]
    exact mc_at n i hi
theorem make_run (n : Nat) (hn : n ≤ 65536) (W : World) : (Instr.makeSlice 27 (.int .i64 (n : Int)) (.int .i64 (n : Int))).run Try.prog W = .ok (.slice (some ⟨W.heap.size, 0, none⟩) n n) (W.alloc (.cells (mc n) 5)) := by
  obtain ⟨i0, hi, hz0, hz1, hz2⟩ := info_parts Try.info5
  have h := run_makeSlice (P := Try.prog) W 27 5 i0 (.int .u8 0) Try.underlying27 hi hz0 .i64 .i64 (n : Int) (n : Int) (by omega) (by omega) (by rw [hz1]; omega) (by rw [hz2]; omega) (by omega)
  rw [Int.toNat_natCast, hz1, Nat.mul_one] at h
  exact h
theorem make_300 (W : World) : (Instr.makeSlice 27 (.int .i64 300) (.int .i64 300)).run Try.prog W = .ok (.slice (some ⟨W.heap.size, 0, none⟩) 300 300) (W.alloc (.cells (mc 300) 5)) := make_run 300 (by decide) W
end Go.Proofs.Ytmdbpoknehafaaa
