/-
  Laid together: Awake, Packed, App.
-/
import Derived.Test.YthcfdoafncbliaaGreatB18
import Derived.Test.YthcfdoafncbliaaGreatB17
/-
  The statements' own messages: scan, awake.
-/
namespace Go.Proofs.YthcfdoafncbliaaGreat
open Go.RowKit
set_option maxRecDepth 8000
def scanM : Msg := ⟨3358, [], 0, 0, 0, [], [⟨1, false, 366⟩]⟩
def ansM : Msg := ⟨58112, [], 258, 3, 0, [], []⟩
theorem ans_bytes : packAll ansM = .ok ((), [227, 0, 0, 4, 0, 3, 1, 2]) := by kernel_rfl
theorem scan_bytes : packAll scanM = .ok ((), [231, 0, 0, 11, 13, 30, 0, 7, 0, 1, 0, 1, 2, 1, 110]) := by kernel_rfl
theorem scan_back : unpackF [231, 0, 0, 11, 13, 30, 0, 7, 0, 1, 0, 1, 2, 1, 110] = .ok (scanM, []) := by kernel_rfl
theorem lit_row (w : World) (zs : List Int) (cs : Array Value) (n : Nat) (hc : cs.toList = u8s zs) (hn : zs.length = n) (hb : Bs zs) : Row (w.alloc (.cells cs 5)) (some ⟨w.heap.size, 0, none⟩) n zs := by
  refine ⟨hn, hb, fun i hi => ⟨w.heap.size, 0, rfl, by simp, ?_⟩⟩
  have h := World.news_of_block (heap_alloc_new w (.cells cs 5)) i (.int .u8 (zs.getD i 0)) (by rw [hc]; simp [u8s, show i < zs.length by omega])
  have e : (⟨w.heap.size, 0, none⟩ : Addr).add i = ⟨w.heap.size, 0 + i, none⟩ := by
    by_cases h0 : i = 0
    · subst h0; simp [Addr.add]
    · simp [Addr.add, h0]
  rw [e] at h; exact h
theorem bs_of (zs : List Int) (h : zs.all (fun z => decide (0 ≤ z) && decide (z ≤ 255)) = true) : Bs zs := fun z hz => by
  have := List.all_eq_true.1 h z hz
  simp at this
  exact this
theorem MsgX.upto {w : World} {P : Nat → Prop} {M : Msg} {sa : Option Addr} {sc : Nat} {oa : Option Addr} {oc : Nat} {ba : Option Addr} {bc : Nat} (x : MsgX w P M sa sc oa oc ba bc) : MsgX w (fun k => P k ∧ k < w.heap.size) M sa sc oa oc ba bc :=
  ⟨x.sr, x.sn, fun y hy h0 => ⟨x.sp y hy h0, by obtain ⟨b, off, e, hl, _⟩ := x.sr.2.2 0 h0; rw [hy] at e; cases e; exact hl⟩, x.sl, x.or, x.on, fun y hy h0 => ⟨x.op y hy h0, by obtain ⟨b, off, _, e, hl, _⟩ := x.or.2 0 h0; rw [hy] at e; cases e; exact hl⟩, x.br, x.bn, fun y hy h0 => ⟨x.bp y hy h0, by obtain ⟨b, off, _, e, hl, _⟩ := x.br.2 0 h0; rw [hy] at e; cases e; exact hl⟩, x.bb⟩
end Go.Proofs.YthcfdoafncbliaaGreat
/-
  What was packed is unpacked as it was, what was unpacked is packed into the same bytes; cut, and with more behind.
-/
namespace Go.Proofs.YthcfdoafncbliaaGreat
open Go.RowKit
theorem sameM_self (M : Msg) : sameM M M = true := decide_eq_true ⟨rfl, rfl, rfl, rfl, rfl, rfl⟩
theorem once_pack {zs rest : List Int} {X : Msg} (hz : Bs zs) (h : unpackF zs = .ok (X, rest)) : packAll X = .ok ((), zs) ∧ X.objs.length ≤ 16 ∧ X.obs.length ≤ 64 := by
  obtain ⟨_, e, hk, h1, h2⟩ := msg_once hz h
  refine ⟨?_, h1, h2⟩
  unfold packAll
  rw [if_neg (by rintro ⟨a, b⟩; rcases hk with h | h; rw [h] at a; cases a; rw [h] at b; cases b), if_neg (by omega)]
  unfold packF
  rw [thn_ok e, if_pos (sameM_self X)]
theorem pack_inv {M : Msg} {u : Unit} {ys : List Int} (h : packAll M = .ok (u, ys)) : msgF true M [] = .ok (M, ys) ∧ M.objs.length ≤ 16 ∧ M.obs.length ≤ 64 := by
  unfold packAll at h
  split at h
  · cases h
  split at h
  · cases h
  · rename_i hl
    obtain ⟨X, zs, e, h⟩ := thn_inv h
    split at h
    · rename_i hs
      cases h
      obtain ⟨_, hX, _⟩ := msg_back e M
      rw [hX] at hs
      have := keep_same hs rfl
      rw [this] at hX
      rw [hX] at e
      exact ⟨e, by omega, by omega⟩
    · cases h
theorem back_unpack {M : Msg} {u : Unit} {ys : List Int} (h : packAll M = .ok (u, ys)) : unpackF ys = .ok (M, []) ∧ (∀ p s, p ++ s = ys → s ≠ [] → unpackF p = .error 3) ∧ (∀ s, s ≠ [] → unpackF (ys ++ s) = .error 4) := by
  obtain ⟨e, _⟩ := pack_inv h
  obtain ⟨_, _, h1, h2, h3⟩ := msg_back e (Msg.zero 0)
  exact ⟨h1, h2, h3⟩
end Go.Proofs.YthcfdoafncbliaaGreat
/-
  Bytes that are appended to bytes of one's own; a number that is brought into a range.
-/
namespace Go.Proofs.YthcfdoafncbliaaGreat
open Go.RowKit
set_option maxRecDepth 8000
/-- Bytes that are appended to bytes of one's own. -/
theorem app_row {w : World} {ops : Array Oper} {rest : List Oper} {o : Oper} {act : Act} {Q : Exit → Act → World → Prop} (hgd : o.guard = none) (s x : Operand)
    (ho : o.op = .call { callee := .builtin .append, args := #[s, x], argTypes := #[27, 27] }) (B : Nat) (v : Value) (n : Nat) (zs : List Int) (hs : act.eval s = v) (hown : w.ownsRow B 5 1 v n (u8s zs))
    (a : Option Addr) (m c : Nat) (ys : List Int) (hx : act.eval x = .slice a m c) (hr : Row w a m ys) (ha : a = none → m = 0 ∧ c = 0) (hb : n + m ≤ 140737488355328) (hbase : B ≤ w.heap.size)
    (h : ∀ v' w', w'.ownsRow B 5 1 v' (n + m) (u8s (zs ++ ys)) → But (fun k => v.ownBlock = some k) w w' → wpList Tryz.prog ops Q rest (act.put o.dst v') w') : wpList Tryz.prog ops Q (o :: rest) act w := by
  obtain ⟨i0, hi, hz0, hz1, hz2⟩ := info_parts Tryz.info5
  cases a with
  | none =>
    obtain ⟨rfl, rfl⟩ := ha rfl
    have hz : ys = [] := List.length_eq_zero_iff.1 hr.1
    subst hz
    refine wpList_append_own_none hgd s x 27 ho B 5 i0 1 Tryz.underlying27 hi v n (u8s zs) hs hown hx ?_
    refine h v w ?_ But.rfl
    rw [List.append_nil]; exact hown
  | some ad =>
    have hl1 : (u8s ys).length = m * 1 := by simp [u8s, hr.1]
    refine wpList_append_own w hgd s x 27 ho B 5 i0 (.int .u8 0) 1 1 Tryz.underlying27 hi hz0 hz1 hz2 rfl (by decide) v n (u8s zs) hs hown ad m c (u8s ys) hx hl1 (row_news hr) (u8s_one _) (by unfold maxLen; omega) (by omega) hbase ?_
    intro v' w' h1 h2 _
    rw [u8s_append] at h1
    exact h v' w' h1 (But.grown But.rfl h2 (fun k hk _ => hk))
/-- A number that is brought into 0 .. m - 1. -/
def broughtTo (i : Int) (m : Nat) : Nat := (i % (m : Int)).toNat
theorem brought_lt (i : Int) {m : Nat} (h : 0 < m) : broughtTo i m < m := by
  unfold broughtTo
  have h1 := Int.emod_nonneg i (show (m : Int) ≠ 0 by omega)
  have h2 := Int.emod_lt_of_pos i (show (0 : Int) < (m : Int) by omega)
  omega
theorem own_some {w : World} {B : Nat} {v : Value} {n : Nat} {zs : List Int} (h : w.ownsRow B 5 1 v n (u8s zs)) (hb : Bs zs) (hn : 0 < n) : ∃ g c, v = .slice (some ⟨g, 0, none⟩) n c ∧ Row w (some ⟨g, 0, none⟩) n zs ∧ n ≤ c ∧ B ≤ g ∧ g < w.heap.size := by
  obtain ⟨a, c, rfl, r1, r2, r3, r4⟩ := own_row h hb
  cases a with
  | none => have := r2 rfl; omega
  | some x =>
    obtain ⟨e1, e2⟩ := r4 x rfl
    obtain ⟨l1, l2⟩ := h.lt _ e1
    exact ⟨x.block, c, by rw [← e2], by rw [← e2]; exact r1, r3, l1, l2⟩
/-- No message is longer than a few hundred bytes. -/
theorem oct_w_len {v b zs us : List Int} (h : oct true v zs = .ok (b, us)) : us.length = zs.length + 2 + v.length ∧ b = v := by
  by_cases hv : v.length ≤ 65535
  · rw [oct_w hv] at h
    cases h
    rw [List.length_append, List.length_append, bytesOf_length]
    exact ⟨by omega, rfl⟩
  · rw [oct_wn hv] at h; cases h
theorem fields_short {k : Int} {M X : Msg} {us : List Int} (h : fieldsF true k M [] = .ok (X, us)) : us.length ≤ 510 := by
  have nb : ∀ {v : Int} {zs : List Int} {y : Int} {ys : List Int}, num true 2 65535 v zs = .ok (y, ys) → ys.length ≤ zs.length + 2 := fun h => num_len h
  have sb : ∀ {v zs y ys : List Int}, sysF true v zs = .ok (y, ys) → ys.length ≤ zs.length + 10 := by
    intro v zs y ys h
    obtain ⟨b, z1, e1, h1⟩ := thn_inv h
    obtain ⟨hl, rfl⟩ := oct_w_len e1
    split at h1
    · cases h1; omega
    · cases h1
  suffices hh : us.length ≤ ([] : List Int).length + 510 by simpa using hh
  unfold fieldsF at h
  split at h
  · exact Nat.le_trans (thn_len (a := 10) (b := 2 + 0) (fun y ys e => sb e) (fun y ys _ x us e => thn_len (a := 2) (b := 0) (fun _ _ e => nb e) (fun _ _ _ _ _ e => by cases e; omega) e) h) (by omega)
  split at h
  · exact Nat.le_trans (thn_len (a := 2) (b := 2 + 0) (fun y ys e => nb e) (fun y ys _ x us e => thn_len (a := 2) (b := 0) (fun _ _ e => nb e) (fun _ _ _ _ _ e => by cases e; omega) e) h) (by omega)
  split at h
  · exact Nat.le_trans (thn_len (a := 2) (b := 0) (fun y ys e => nb e) (fun _ _ _ _ _ e => by cases e; omega) h) (by omega)
  split at h
  · exact Nat.le_trans (thn_len (a := 2) (b := 500 + 0) (fun y ys e => nb e) (fun y ys _ x us e => thn_len (a := 500) (b := 0) (fun _ _ e => lstO_len e) (fun _ _ _ _ _ e => by cases e; omega) e) h) (by omega)
  split at h
  · exact Nat.le_trans (thn_len (a := 2) (b := 2 + 0) (fun y ys e => nb e) (fun y ys _ x us e => thn_len (a := 2) (b := 0) (fun _ _ e => nb e) (fun _ _ _ _ _ e => by cases e; omega) e) h) (by omega)
  split at h
  · exact Nat.le_trans (thn_len (a := 500) (b := 0) (fun y ys e => lstB_len e) (fun _ _ _ _ _ e => by cases e; omega) h) (by omega)
  · cases h; omega
theorem ins_short {ok : Int → Bool} {k : Int} {M X : Msg} {us : List Int} (h : insF true ok k M [] = .ok (X, us)) : us.length ≤ 510 := by
  unfold insF at h
  split at h
  · exact fields_short h
  · cases h
theorem box_len (k : Int) (bs : List Int) : (boxB k bs).length = 4 + bs.length := by
  unfold boxB
  rw [List.length_append, List.length_append, bytesOf_length, bytesOf_length]
  omega
theorem pack_short {M : Msg} {u : Unit} {ys : List Int} (h : packAll M = .ok (u, ys)) : ys.length ≤ 600 := by
  obtain ⟨e, _⟩ := pack_inv h
  obtain ⟨bs, e1, _, _, rfl⟩ := partW_inv e
  rw [List.nil_append, box_len]
  unfold insD at e1
  split at e1
  · rw [if_pos rfl] at e1
    obtain ⟨cs, e2, _, _, rfl⟩ := partW_inv e1
    have := ins_short e2
    rw [List.nil_append, box_len]
    omega
  · have := ins_short e1
    omega
end Go.Proofs.YthcfdoafncbliaaGreat
