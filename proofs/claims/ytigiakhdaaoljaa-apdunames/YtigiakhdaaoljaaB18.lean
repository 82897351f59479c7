/-
  Laid together: App.
-/
import Derived.Test.YtigiakhdaaoljaaB17
/-
  Bytes that are appended to bytes of one's own; a number that is brought into a range.
-/
namespace Go.Proofs.Ytigiakhdaaoljaa
open Go.RowKit
set_option maxRecDepth 8000
/-- Bytes that are appended to bytes of one's own. -/
theorem app_row {w : World} {ops : Array Oper} {rest : List Oper} {o : Oper} {act : Act} {Q : Exit → Act → World → Prop} (hgd : o.guard = none) (s x : Operand)
    (ho : o.op = .call { callee := .builtin .append, args := #[s, x], argTypes := #[22, 22] }) (B : Nat) (v : Value) (n : Nat) (zs : List Int) (hs : act.eval s = v) (hown : w.ownsRow B 5 1 v n (u8s zs))
    (a : Option Addr) (m c : Nat) (ys : List Int) (hx : act.eval x = .slice a m c) (hr : Row w a m ys) (ha : a = none → m = 0 ∧ c = 0) (hb : n + m ≤ 140737488355328) (hbase : B ≤ w.heap.size)
    (h : ∀ v' w', w'.ownsRow B 5 1 v' (n + m) (u8s (zs ++ ys)) → But (fun k => v.ownBlock = some k) w w' → wpList Try.prog ops Q rest (act.put o.dst v') w') : wpList Try.prog ops Q (o :: rest) act w := by
  obtain ⟨i0, hi, hz0, hz1, hz2⟩ := info_parts Try.info5
  cases a with
  | none =>
    obtain ⟨rfl, rfl⟩ := ha rfl
    have hz : ys = [] := List.length_eq_zero_iff.1 hr.1
    subst hz
    refine wpList_append_own_none hgd s x 22 ho B 5 i0 1 Try.underlying22 hi v n (u8s zs) hs hown hx ?_
    refine h v w ?_ But.rfl
    rw [List.append_nil]; exact hown
  | some ad =>
    have hl1 : (u8s ys).length = m * 1 := by simp [u8s, hr.1]
    refine wpList_append_own w hgd s x 22 ho B 5 i0 (.int .u8 0) 1 1 Try.underlying22 hi hz0 hz1 hz2 rfl (by decide) v n (u8s zs) hs hown ad m c (u8s ys) hx hl1 (row_news hr) (u8s_one _) (by unfold maxLen; omega) (by omega) hbase ?_
    intro v' w' h1 h2 _
    rw [u8s_append] at h1
    exact h v' w' h1 (But.grown But.rfl h2 (fun k hk _ => hk))
/-- A number that is brought into 0 .. m - 1. -/
def broughtTo (i : Int) (m : Nat) : Nat := (i % (m : Int)).toNat
theorem brought_lt (i : Int) {m : Nat} (h : 0 < m) : broughtTo i m < m := by
  unfold broughtTo
  have h1 := Int.emod_nonneg i (show (m : Int) ≠ 0 by omega)
  have h2 := Int.emod_lt_of_pos i (show (0 : Int) < (m : Int) by omega)
  omega
theorem bring_any (i : Int) (m : Nat) (w : World) (_h1 : -9223372036854775808 ≤ i) (_h2 : i ≤ 9223372036854775807) (hm : 0 < m) (hm2 : m ≤ 9223372036854775807) :
    Calls Try.prog 19 #[.int .i64 i, .int .i64 m] w fun e w' => e = .returned (.int .i64 (broughtTo i m : Nat)) ∧ w' = w := by
  have hmp : (0 : Int) < (m : Int) := by omega
  have b1 := Int.lt_tmod_of_pos i hmp
  have b2 := Int.tmod_lt_of_pos i hmp
  have m1 := Int.emod_nonneg i (show (m : Int) ≠ 0 by omega)
  have m2 := Int.emod_lt_of_pos i hmp
  have e1 : (0 ≤ i.tmod m ∧ i.tmod m = i % m) ∨ (i.tmod m < 0 ∧ i.tmod m = i % m - m) := by
    by_cases h0 : 0 ≤ i
    · left
      have : i.tmod m = i % m := Int.tmod_eq_emod_of_nonneg h0
      omega
    · have e := Int.tmod_eq_emod (a := i) (b := (m : Int))
      by_cases hd : (m : Int) ∣ i
      · left
        rw [if_pos (.inr hd)] at e
        omega
      · right
        rw [if_neg (by intro h; rcases h with h | h; exact h0 h; exact hd h)] at e
        omega
  have HK := hideIt (show (broughtTo i m : Int) = i % m by unfold broughtTo; omega)
  have hne : ¬ (m : Int) = 0 := by omega
  generalize i % (m : Int) = e at *
  have HE := hideIt e1
  clear e1
  go_enter Try.func19, Try.ntmps19
  go_wp2
  all_goals go_ret
  · exact ⟨ret_int (by have := HK.out; have := HE.out; first | omega | (unfold wrap64; omega)), rfl⟩
  · exact ⟨ret_int (by have := HK.out; have := HE.out; omega), rfl⟩
theorem own_some {w : World} {B : Nat} {v : Value} {n : Nat} {zs : List Int} (h : w.ownsRow B 5 1 v n (u8s zs)) (hb : Bs zs) (hn : 0 < n) : ∃ g c, v = .slice (some ⟨g, 0, none⟩) n c ∧ Row w (some ⟨g, 0, none⟩) n zs ∧ n ≤ c ∧ B ≤ g ∧ g < w.heap.size := by
  obtain ⟨a, c, rfl, r1, r2, r3, r4⟩ := own_row h hb
  cases a with
  | none => have := r2 rfl; omega
  | some x =>
    obtain ⟨e1, e2⟩ := r4 x rfl
    obtain ⟨l1, l2⟩ := h.lt _ e1
    exact ⟨x.block, c, by rw [← e2], by rw [← e2]; exact r1, r3, l1, l2⟩
/-- No message is longer than a few hundred bytes. -/
theorem oct_w_len {v b zs us : List Int} (h : oct true v zs = .ok (b, us)) : us.length = zs.length + 2 + v.length ∧ b = v := by
  by_cases hv : v.length ≤ 65535
  · rw [oct_w hv] at h
    cases h
    rw [List.length_append, List.length_append, bytesOf_length]
    exact ⟨by omega, rfl⟩
  · rw [oct_wn hv] at h; cases h
theorem fields_short {k : Int} {M X : Msg} {us : List Int} (h : fieldsF true k M [] = .ok (X, us)) : us.length ≤ 510 := by
  have nb : ∀ {v : Int} {zs : List Int} {y : Int} {ys : List Int}, num true 2 65535 v zs = .ok (y, ys) → ys.length ≤ zs.length + 2 := fun h => num_len h
  have sb : ∀ {v zs y ys : List Int}, sysF true v zs = .ok (y, ys) → ys.length ≤ zs.length + 10 := by
    intro v zs y ys h
    obtain ⟨b, z1, e1, h1⟩ := thn_inv h
    obtain ⟨hl, rfl⟩ := oct_w_len e1
    split at h1
    · cases h1; omega
    · cases h1
  suffices hh : us.length ≤ ([] : List Int).length + 510 by simpa using hh
  unfold fieldsF at h
  split at h
  · exact Nat.le_trans (thn_len (a := 10) (b := 2 + 0) (fun y ys e => sb e) (fun y ys _ x us e => thn_len (a := 2) (b := 0) (fun _ _ e => nb e) (fun _ _ _ _ _ e => by cases e; omega) e) h) (by omega)
  split at h
  · exact Nat.le_trans (thn_len (a := 2) (b := 2 + 0) (fun y ys e => nb e) (fun y ys _ x us e => thn_len (a := 2) (b := 0) (fun _ _ e => nb e) (fun _ _ _ _ _ e => by cases e; omega) e) h) (by omega)
  split at h
  · exact Nat.le_trans (thn_len (a := 2) (b := 0) (fun y ys e => nb e) (fun _ _ _ _ _ e => by cases e; omega) h) (by omega)
  split at h
  · exact Nat.le_trans (thn_len (a := 2) (b := 500 + 0) (fun y ys e => nb e) (fun y ys _ x us e => thn_len (a := 500) (b := 0) (fun _ _ e => lstO_len e) (fun _ _ _ _ _ e => by cases e; omega) e) h) (by omega)
  split at h
  · exact Nat.le_trans (thn_len (a := 2) (b := 2 + 0) (fun y ys e => nb e) (fun y ys _ x us e => thn_len (a := 2) (b := 0) (fun _ _ e => nb e) (fun _ _ _ _ _ e => by cases e; omega) e) h) (by omega)
  split at h
  · exact Nat.le_trans (thn_len (a := 500) (b := 0) (fun y ys e => lstB_len e) (fun _ _ _ _ _ e => by cases e; omega) h) (by omega)
  · cases h; omega
theorem ins_short {ok : Int → Bool} {k : Int} {M X : Msg} {us : List Int} (h : insF true ok k M [] = .ok (X, us)) : us.length ≤ 510 := by
  unfold insF at h
  split at h
  · exact fields_short h
  · cases h
theorem box_len (k : Int) (bs : List Int) : (boxB k bs).length = 4 + bs.length := by
  unfold boxB
  rw [List.length_append, List.length_append, bytesOf_length, bytesOf_length]
  omega
theorem pack_short {M : Msg} {u : Unit} {ys : List Int} (h : packAll M = .ok (u, ys)) : ys.length ≤ 600 := by
  obtain ⟨e, _⟩ := pack_inv h
  obtain ⟨bs, e1, _, _, rfl⟩ := partW_inv e
  rw [List.nil_append, box_len]
  unfold insD at e1
  split at e1
  · rw [if_pos rfl] at e1
    obtain ⟨cs, e2, _, _, rfl⟩ := partW_inv e1
    have := ins_short e2
    rw [List.nil_append, box_len]
    omega
  · have := ins_short e1
    omega
end Go.Proofs.Ytigiakhdaaoljaa
