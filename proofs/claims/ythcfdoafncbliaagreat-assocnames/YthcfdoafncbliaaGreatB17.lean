/-
  Laid together: DualsC, Pack, RefK, Unpack.
-/
import Derived.Test.YthcfdoafncbliaaGreatB16
/-
  The same of whole messages: written and read, read and written, cut, and with more behind them.
-/
namespace Go.Proofs.YthcfdoafncbliaaGreat
open Go.RowKit
set_option maxRecDepth 8000

theorem ins_back {ok : Int → Bool} {k : Int} {M X : Msg} {zs ys : List Int} (h : insF true ok k M zs = .ok (X, ys)) : ok k = true ∧ X = keep k M ∧ ∃ bs, ys = zs ++ bs ∧ ∀ M' rest, insF false ok k M' (bs ++ rest) = .ok (X, rest) := by
  unfold insF at h
  split at h
  · rename_i hk
    obtain ⟨rfl, bs, rfl, r⟩ := (fields_dual k).back h
    exact ⟨hk, rfl, bs, rfl, fun M' rest => by unfold insF; rw [if_pos hk]; exact r M' rest trivial⟩
  · cases h
theorem fields_keep {k : Int} {M X : Msg} {zs r : List Int} (hz : Bs zs) (h : fieldsF false k M zs = .ok (X, r)) : X = keep k X := by
  obtain ⟨_, bs, _, w⟩ := (fields_dual k).once hz h
  exact ((fields_dual k).back (w [])).1
theorem keep_kind (k : Int) (M : Msg) : (keep k M).kind = k := by
  unfold keep Msg.zero
  repeat' split
  all_goals rfl
theorem fields_bound {k : Int} {M X : Msg} {zs r : List Int} (hz : Bs zs) (h : fieldsF false k M zs = .ok (X, r)) : X.objs.length ≤ 16 ∧ X.obs.length ≤ 64 := by
  unfold fieldsF at h
  split at h
  · obtain ⟨_, _, _, h⟩ := thn_inv h; obtain ⟨_, _, _, h⟩ := thn_inv h; cases h; simp
  split at h
  · obtain ⟨_, _, _, h⟩ := thn_inv h; obtain ⟨_, _, _, h⟩ := thn_inv h; cases h; simp
  split at h
  · obtain ⟨_, _, _, h⟩ := thn_inv h; cases h; simp
  split at h
  · obtain ⟨_, _, e, h⟩ := thn_inv h
    have hz1 := num_bs e hz
    obtain ⟨l, _, e, h⟩ := thn_inv h
    cases h
    exact ⟨lstO_dual.2 hz1 e, by simp⟩
  split at h
  · obtain ⟨_, _, _, h⟩ := thn_inv h; obtain ⟨_, _, _, h⟩ := thn_inv h; cases h; simp
  split at h
  · obtain ⟨l, _, e, h⟩ := thn_inv h
    cases h
    exact ⟨by simp, lstB_dual.2 hz e⟩
  · cases h; simp [Msg.zero]
theorem ins_once {ok : Int → Bool} {k : Int} {M X : Msg} {zs rest : List Int} (hz : Bs zs) (h : insF false ok k M zs = .ok (X, rest)) : ok k = true ∧ X.kind = k ∧ (X.objs.length ≤ 16 ∧ X.obs.length ≤ 64) ∧ ∃ bs, zs = bs ++ rest ∧ ∀ ws, insF true ok k X ws = .ok (X, ws ++ bs) := by
  unfold insF at h
  split at h
  · rename_i hk
    obtain ⟨_, bs, e, r⟩ := (fields_dual k).once hz h
    have hX := fields_keep hz h
    have hB := fields_bound hz h
    exact ⟨hk, by rw [hX, keep_kind], hB, bs, e, fun ws => by unfold insF; rw [if_pos hk]; exact r ws⟩
  · cases h
theorem ins_errw {ok : Int → Bool} {k : Int} {M : Msg} {zs : List Int} {c : Int} (h : insF true ok k M zs = .error c) : c = 2 := by
  unfold insF at h
  split at h
  · exact (fields_dual k).errw h
  · cases h; rfl
theorem ins_errr {ok : Int → Bool} {k : Int} {M : Msg} {zs : List Int} {c : Int} (h : insF false ok k M zs = .error c) : c = 3 ∨ c = 4 ∨ c = 5 := by
  unfold insF at h
  split at h
  · exact (fields_dual k).errr h
  · cases h; exact .inr (.inl rfl)
/-- A part's bytes. -/
def boxB (k : Int) (bs : List Int) : List Int := bytesOf 2 k ++ (bytesOf 2 bs.length ++ bs)
theorem partW_inv {ins : Int → List Int → Except Int (Msg × List Int)} {k : Int} {zs ys : List Int} {X : Msg} (h : partW ins k zs = .ok (X, ys)) : ∃ bs, ins k [] = .ok (X, bs) ∧ (0 ≤ k ∧ k ≤ 65535) ∧ bs.length ≤ 65535 ∧ ys = zs ++ boxB k bs := by
  obtain ⟨X', bs, e1, h1⟩ := thn_inv h
  obtain ⟨a, z1, e2, h2⟩ := thn_inv h1
  obtain ⟨b, z2, e3, h3⟩ := thn_inv h2
  clear h h1 h2
  cases h3
  by_cases hk : 0 ≤ k ∧ k ≤ (65535 : Nat)
  · rw [num_w hk] at e2
    cases e2
    by_cases hb : bs.length ≤ 65535
    · rw [oct_w hb] at e3
      cases e3
      exact ⟨_, e1, ⟨hk.1, hk.2⟩, hb, by unfold boxB; rw [List.append_assoc]⟩
    · rw [oct_wn hb] at e3; cases e3
  · rw [num_wn hk] at e2; cases e2
theorem partW_do {ins : Int → List Int → Except Int (Msg × List Int)} {k : Int} {zs bs : List Int} {X : Msg} (h : ins k [] = .ok (X, bs)) (hk : 0 ≤ k ∧ k ≤ 65535) (hb : bs.length ≤ 65535) : partW ins k zs = .ok (X, zs ++ boxB k bs) := by
  unfold partW boxB
  rw [thn_ok h, thn_ok (num_w (M := 65535) ⟨hk.1, hk.2⟩), thn_ok (oct_w hb), List.append_assoc]
theorem box_kind (k k' : Int) (r : List Int) (hk : 0 ≤ k ∧ k ≤ 65535) : num false 2 65535 k' (bytesOf 2 k ++ r) = .ok (k, r) := by
  obtain ⟨e1, e2⟩ := take_left2 (bytesOf 2 k) r 2 (bytesOf_length 2 k)
  rw [num_r (by rw [List.length_append, bytesOf_length]; omega), e1, e2, be2 hk]
theorem box_in (bs r v : List Int) (hb : bs.length ≤ 65535) : oct false v (bytesOf 2 bs.length ++ bs ++ r) = .ok (bs, r) := by
  have h : oct true bs [] = .ok (bs, [] ++ (bytesOf 2 bs.length ++ bs)) := oct_w hb
  obtain ⟨_, b, e, r1⟩ := oct_dual.back h
  rw [List.nil_append, List.nil_append] at e
  rw [e]
  exact r1 v r trivial
theorem partR_box {ins : Int → List Int → Except Int (Msg × List Int)} {k : Int} (k' : Int) {bs : List Int} {X : Msg} (h : ins k bs = .ok (X, [])) (hk : 0 ≤ k ∧ k ≤ 65535) (hb : bs.length ≤ 65535) : partR ins k' (boxB k bs) = .ok (X, []) := by
  unfold partR boxB
  have := box_in bs [] [] hb
  rw [List.append_nil] at this
  rw [thn_ok (box_kind k k' _ hk), thn_ok this, if_pos List.length_nil, thn_ok h, if_pos List.length_nil]
theorem partR_more (ins : Int → List Int → Except Int (Msg × List Int)) {k : Int} (k' : Int) {bs s : List Int} (hk : 0 ≤ k ∧ k ≤ 65535) (hb : bs.length ≤ 65535) (hs : s ≠ []) : partR ins k' (boxB k bs ++ s) = .error 4 := by
  unfold partR boxB
  rw [List.append_assoc, thn_ok (box_kind k k' _ hk), thn_ok (box_in bs s [] hb), if_neg (by rw [List.length_eq_zero_iff]; exact hs)]
theorem partR_cut (ins : Int → List Int → Except Int (Msg × List Int)) {k : Int} (k' : Int) {bs p s : List Int} (hb : bs.length ≤ 65535) (e : p ++ s = boxB k bs) (hs : s ≠ []) : partR ins k' p = .error 3 := by
  have hsl : 0 < s.length := List.length_pos_iff.2 hs
  have hl : p.length + s.length = 4 + bs.length := by
    have := congrArg List.length e
    unfold boxB at this
    rw [List.length_append, List.length_append, List.length_append, bytesOf_length, bytesOf_length] at this
    omega
  unfold partR
  by_cases h2 : 2 ≤ p.length
  · rw [thn_ok (num_r h2)]
    have hd : p.drop 2 ++ s = bytesOf 2 bs.length ++ bs := by
      have := congrArg (List.drop 2) e
      rw [List.drop_append_of_le_length h2] at this
      rw [this]
      exact (take_left2 _ _ 2 (bytesOf_length 2 k)).2
    have hno : ocIs (p.drop 2) = false := by
      apply ocIs_no
      rintro ⟨g1, g2⟩
      have ht : (p.drop 2).take 2 = bytesOf 2 (bs.length : Int) := by
        have := congrArg (List.take 2) hd
        rw [List.take_append_of_le_length g1] at this
        rw [this]
        exact (take_left2 _ _ 2 (bytesOf_length 2 _)).1
      have hn : ocN (p.drop 2) = bs.length := by
        unfold ocN
        rw [ht, be2 (by omega)]
        omega
      rw [hn, List.length_drop] at g2
      rw [List.length_drop] at g1
      omega
    rw [thn_bad (oct_rn (by rw [hno]; decide))]
  · rw [thn_bad (num_rn h2)]
theorem partR_inv {ins : Int → List Int → Except Int (Msg × List Int)} {k' : Int} {zs rest : List Int} {X : Msg} (hz : Bs zs) (h : partR ins k' zs = .ok (X, rest)) : rest = [] ∧ ∃ k b, zs = boxB k b ∧ (0 ≤ k ∧ k ≤ 65535) ∧ b.length ≤ 65535 ∧ Bs b ∧ ins k b = .ok (X, []) := by
  obtain ⟨k, z1, e1, h1⟩ := thn_inv h
  obtain ⟨b, z2, e2, h2⟩ := thn_inv h1
  clear h h1
  have hk := num_bound e1 hz (by decide)
  have hz1 := num_bs e1 hz
  have hbl := (oct_len e2 hz1).1
  have hbb : Bs b := by
    by_cases hi : ocIs z1 = true
    · rw [oct_r hi] at e2; cases e2; exact ocVal_bs hz1
    · rw [oct_rn hi] at e2; cases e2
  split at h2
  · rename_i h0
    have h0' : z2 = [] := List.length_eq_zero_iff.1 h0
    subst h0'
    obtain ⟨X', r, e3, h3⟩ := thn_inv h2
    split at h3
    · rename_i hr
      have hr' : r = [] := List.length_eq_zero_iff.1 hr
      subst hr'
      cases h3
      obtain ⟨_, b1, rfl, w1⟩ := dual2.once hz e1
      obtain ⟨_, b2, rfl, w2⟩ := oct_dual.once hz1 e2
      have w1' := w1 []
      have w2' := w2 []
      rw [num_w (M := 65535) hk] at w1'
      rw [oct_w hbl] at w2'
      rw [List.nil_append, List.nil_append] at w1' w2'
      have f1 : b1 = bytesOf 2 k := (congrArg Prod.snd (Except.ok.inj w1')).symm
      have f2 : b2 = bytesOf 2 b.length ++ b := (congrArg Prod.snd (Except.ok.inj w2')).symm
      refine ⟨rfl, k, b, ?_, ⟨hk.1, hk.2⟩, hbl, hbb, e3⟩
      unfold boxB
      rw [f1, f2, List.append_nil]
    · cases h3
  · cases h2
theorem partW_err {ins : Int → List Int → Except Int (Msg × List Int)} {k : Int} {zs : List Int} {c : Int} (hi : ∀ k zs c, ins k zs = .error c → c = 2) (h : partW ins k zs = .error c) : c = 2 := by
  rcases thn_err h with h | ⟨_, _, _, h⟩
  · exact hi _ _ _ h
  rcases thn_err h with h | ⟨_, _, _, h⟩
  · exact dual2.errw h
  rcases thn_err h with h | ⟨_, _, _, h⟩
  · exact oct_dual.errw h
  · cases h
theorem partR_err {ins : Int → List Int → Except Int (Msg × List Int)} {k : Int} {zs : List Int} {c : Int} (hi : ∀ k zs c, ins k zs = .error c → c = 3 ∨ c = 4 ∨ c = 5) (h : partR ins k zs = .error c) : c = 3 ∨ c = 4 ∨ c = 5 := by
  rcases thn_err h with h | ⟨_, _, _, h⟩
  · exact dual2.errr h
  rcases thn_err h with h | ⟨_, _, _, h⟩
  · exact oct_dual.errr h
  split at h
  · rcases thn_err h with h | ⟨_, _, _, h⟩
    · exact hi _ _ _ h
    · split at h
      · cases h
      · cases h; exact .inr (.inl rfl)
  · cases h; exact .inr (.inl rfl)
theorem insD_errw {M : Msg} {k : Int} {zs : List Int} {c : Int} (h : insD true M k zs = .error c) : c = 2 := by
  unfold insD at h
  split at h
  · exact partW_err (fun _ _ _ => ins_errw) h
  · exact ins_errw h
theorem insD_errr {M : Msg} {k : Int} {zs : List Int} {c : Int} (h : insD false M k zs = .error c) : c = 3 ∨ c = 4 ∨ c = 5 := by
  unfold insD at h
  split at h
  · exact partR_err (fun _ _ _ => ins_errr) h
  · exact ins_errr h
theorem msg_errw {M : Msg} {zs : List Int} {c : Int} (h : msgF true M zs = .error c) : c = 2 := partW_err (fun _ _ _ => insD_errw) h
theorem msg_errr {M : Msg} {zs : List Int} {c : Int} (h : msgF false M zs = .error c) : c = 3 ∨ c = 4 ∨ c = 5 := partR_err (fun _ _ _ => insD_errr) h
theorem packF_err {M : Msg} {c : Int} (h : packF M = .error c) : c = 2 := by
  rcases thn_err h with h | ⟨_, _, _, h⟩
  · exact msg_errw h
  · split at h
    · cases h
    · cases h; rfl
theorem alone_not {k : Int} (h : alone k = true) : inData k = false ∧ k ≠ 59136 := by
  rcases of_decide_eq_true h with rfl | rfl | rfl | rfl | rfl <;> exact ⟨rfl, by decide⟩
theorem msg_back {M X : Msg} {ys : List Int} (h : msgF true M [] = .ok (X, ys)) (Z : Msg) : (alone M.kind = true ∨ inData M.kind = true) ∧ X = keep M.kind M ∧ msgF false Z ys = .ok (X, []) ∧ (∀ p s, p ++ s = ys → s ≠ [] → msgF false Z p = .error 3) ∧ (∀ s, s ≠ [] → msgF false Z (ys ++ s) = .error 4) := by
  obtain ⟨bs, e1, hk, hb, rfl⟩ := partW_inv h
  rw [List.nil_append] at h ⊢
  have fin : ∀ (k : Int), k = outer M.kind → insD false Z k bs = .ok (X, []) → msgF false Z (boxB (outer M.kind) bs) = .ok (X, []) := fun k hk' hi => partR_box (ins := insD false Z) (outer Z.kind) (by rw [← hk']; exact hi) hk hb
  have cut : ∀ p s, p ++ s = boxB (outer M.kind) bs → s ≠ [] → msgF false Z p = .error 3 := fun p s e hs => partR_cut (insD false Z) (outer Z.kind) hb e hs
  have more : ∀ s, s ≠ [] → msgF false Z (boxB (outer M.kind) bs ++ s) = .error 4 := fun s hs => partR_more (insD false Z) (outer Z.kind) hk hb hs
  have inner : insD true M 59136 [] = .ok (X, bs) → inData M.kind = true ∧ X = keep M.kind M ∧ insD false Z 59136 bs = .ok (X, []) := by
    intro e
    unfold insD at e
    rw [if_pos rfl, if_pos rfl] at e
    obtain ⟨cs, e2, hk2, hb2, rfl⟩ := partW_inv e
    obtain ⟨hd, hX, ds, rfl, r⟩ := ins_back e2
    refine ⟨hd, hX, ?_⟩
    unfold insD
    rw [if_pos rfl, if_neg (by decide), List.nil_append]
    have r0 := r Z []
    rw [List.append_nil] at r0
    exact partR_box _ r0 hk2 hb2
  cases hd : inData M.kind with
  | true =>
    have ho : outer M.kind = 59136 := by unfold outer; rw [if_pos hd]
    rw [ho] at e1
    obtain ⟨_, hX, hi⟩ := inner e1
    exact ⟨.inr rfl, hX, fin 59136 ho.symm hi, cut, more⟩
  | false =>
    have ho : outer M.kind = M.kind := by unfold outer; rw [if_neg (by rw [hd]; decide)]
    rw [ho] at e1
    by_cases hk9 : M.kind = 59136
    · rw [hk9] at e1
      obtain ⟨hd', _⟩ := inner e1
      rw [hd] at hd'
      cases hd'
    · unfold insD at e1
      rw [if_neg hk9] at e1
      obtain ⟨ha, hX, ds, rfl, r⟩ := ins_back e1
      refine ⟨.inl ha, hX, fin M.kind ho.symm ?_, cut, more⟩
      unfold insD
      have r0 := r Z []
      rw [List.append_nil] at r0
      rw [if_neg hk9]
      exact r0
theorem keep_same {k : Int} {M : Msg} (h : sameM M (keep k M) = true) (hk : M.kind = k) : keep k M = M := by
  obtain ⟨mk, ms, mc, mr, mq, mo, mb⟩ := M
  dsimp only at hk
  subst hk
  have h := of_decide_eq_true h
  unfold keep Msg.zero at h ⊢
  repeat' split at h
  all_goals (
    simp at h
    rename_i h1
    first
    | (obtain ⟨h2, h3, h4, h5, h6, h7⟩ := h; subst_vars; simp_all)
    | simp_all)
theorem msg_once {Z X : Msg} {zs rest : List Int} (hz : Bs zs) (h : msgF false Z zs = .ok (X, rest)) : rest = [] ∧ msgF true X [] = .ok (X, zs) ∧ (alone X.kind = true ∨ inData X.kind = true) ∧ X.objs.length ≤ 16 ∧ X.obs.length ≤ 64 := by
  obtain ⟨rfl, k, b, rfl, hk, hb, hbb, e⟩ := partR_inv hz h
  refine ⟨rfl, ?_⟩
  unfold insD at e
  split at e
  · rename_i hk9
    rw [if_neg (by decide)] at e
    obtain ⟨_, k2, b2, rfl, hk2, hb2, hbb2, e2⟩ := partR_inv hbb e
    obtain ⟨hd, hX, hB, bs, e3, r⟩ := ins_once hbb2 e2
    rw [List.append_nil] at e3
    subst e3
    have ho : outer X.kind = 59136 := by unfold outer; rw [hX, if_pos hd]
    refine ⟨?_, .inr (by rw [hX]; exact hd), hB⟩
    have h2 : insD true X 59136 [] = .ok (X, boxB k2 b2) := by
      unfold insD
      rw [if_pos rfl, if_pos rfl, hX]
      have := r []
      rw [List.nil_append] at this
      have := partW_do (ins := fun k zs => insF true inData k X zs) (zs := []) this hk2 hb2
      rw [List.nil_append] at this
      exact this
    show partW (insD true X) (outer X.kind) [] = _
    rw [ho]
    have := partW_do (ins := insD true X) (zs := []) h2 ⟨by decide, by decide⟩ hb
    rw [List.nil_append] at this
    rw [this, hk9]
  · rename_i hk9
    obtain ⟨ha, hX, hB, bs, e3, r⟩ := ins_once hbb e
    rw [List.append_nil] at e3
    subst e3
    have ho : outer X.kind = k := by unfold outer; rw [hX, if_neg (by rw [(alone_not ha).1]; decide)]
    refine ⟨?_, .inl (by rw [hX]; exact ha), hB⟩
    have h2 : insD true X k [] = .ok (X, b) := by
      unfold insD
      rw [if_neg hk9]
      have := r []
      rw [List.nil_append] at this
      exact this
    show partW (insD true X) (outer X.kind) [] = _
    rw [ho]
    have := partW_do (ins := insD true X) (zs := []) h2 hk hb
    rw [List.nil_append] at this
    exact this
end Go.Proofs.YthcfdoafncbliaaGreat
/-
  Pack.
-/
namespace Go.Proofs.YthcfdoafncbliaaGreat
open Go.RowKit
set_option maxRecDepth 8000
/-- A message's bytes, or why it has none. -/
def packAll (M : Msg) : Except Int (Unit × List Int) :=
  if alone M.kind = false ∧ inData M.kind = false then .error 2 else if 16 < M.objs.length ∨ 64 < M.obs.length then .error 5 else packF M
theorem packF_len {M : Msg} {u : Unit} {ys : List Int} (h : packF M = .ok (u, ys)) : ys.length ≤ 65539 := by
  obtain ⟨X, zs, e, h⟩ := thn_inv h
  split at h
  · cases h
    obtain ⟨bs, _, _, hb, rfl⟩ := partW_inv e
    unfold boxB
    rw [List.nil_append, List.length_append, List.length_append, bytesOf_length, bytesOf_length]
    omega
  · cases h
set_option maxHeartbeats 1000000 in
theorem pack_any (w : World) (P : Nat → Prop) (M : Msg) (sa : Option Addr) (sc : Nat) (oa : Option Addr) (oc : Nat) (ba : Option Addr) (bc : Nat) (x : MsgX w P M sa sc oa oc ba bc) (hP : ∀ k, P k → k < w.heap.size) :
    Calls Tryz.prog 25 #[M.val sa sc oa oc ba bc] w fun e w' => After w w' ∧ Ends (packAll M) (fun _ zs => Bs zs ∧ zs.length ≤ 65539 ∧ ∃ a c, e = .returned (.tuple #[.slice a zs.length c, .int .i64 0]) ∧ w'.ownsRow w.heap.size 5 1 (.slice a zs.length c) zs.length (u8s zs)) (fun c => e = .returned (.tuple #[.slice none 0 0, .int .i64 c]) ∧ (c = 2 ∨ c = 5)) := by
  have hmf : ∀ (fn : Fn) (first cap : Array Value) (w : World), (Instr.makeFunc fn first cap).run Tryz.prog w = .ok (.func fn first cap) w := fun _ _ _ _ => rfl
  obtain ⟨w0, hw0⟩ : ∃ w0, w.alloc (.cells (M.cells sa sc oa oc ba bc) 31) = w0 := ⟨_, rfl⟩
  have hA : After w w0 := by rw [← hw0]; exact After.rfl.alloc _
  have b0 : w0.heap[w.heap.size]? = some (.cells (M.cells sa sc oa oc ba bc) 31 (0, 0)) := by rw [← hw0]; exact new1 _ _
  have hsz : w0.heap.size = w.heap.size + 1 := by rw [← hw0, World.size_alloc]
  have H1 := hideIt (writer_any w0)
  have HX := hideIt (And.intro hA (And.intro b0 (And.intro hsz (And.intro x hP))))
  have HL := hideIt (fun W => alone_any W M.kind)
  have HD := hideIt (fun W => inData_any W M.kind)
  have HE1 : Hid (alone M.kind = false → inData M.kind = false → packAll M = .error 2) := fun h1 h2 => if_pos ⟨h1, h2⟩
  have HE2 : Hid (¬ (alone M.kind = false ∧ inData M.kind = false) → 16 < M.objs.length ∨ 64 < M.obs.length → packAll M = .error 5) := fun h1 h2 => (if_neg h1).trans (if_pos h2)
  have HE3 : Hid (¬ (alone M.kind = false ∧ inData M.kind = false) → ¬ (16 < M.objs.length ∨ 64 < M.obs.length) → packAll M = packF M) := fun h1 h2 => (if_neg h1).trans (if_neg h2)
  have HCell := hideIt (show M.cells sa sc oa oc ba bc = #[.int .i64 M.kind, .slice sa M.sys.length sc, .int .i64 M.config, .int .i64 M.result, .int .i64 M.reason, .slice oa M.objs.length oc, .slice ba M.obs.length bc] from rfl)
  have hw0' := hw0
  rw [HCell.out] at hw0'
  have HW0 := hideIt hw0'
  clear hA b0 hsz x hP hw0 hw0'
  unfold Msg.val
  generalize packAll M = PA at HE1 HE2 HE3 ⊢
  obtain ⟨d1, h1⟩ : ∃ d, alone M.kind = d := ⟨_, rfl⟩
  obtain ⟨d2, h2⟩ : ∃ d, inData M.kind = d := ⟨_, rfl⟩
  rw [h1] at HL HE1 HE2 HE3
  rw [h2] at HD HE1 HE2 HE3
  clear h1 h2
  generalize hn1 : M.objs.length = n1 at HE2 HE3 HCell HW0 ⊢
  generalize hn2 : M.obs.length = n2 at HE2 HE3 HCell HW0 ⊢
  clear hn1 hn2
  by_cases hk : d1 = false ∧ d2 = false
  · obtain ⟨rfl, rfl⟩ := hk
    have e := hideIt (HE1.out rfl rfl)
    clear HE1 HE2 HE3 HCell
    go_enter Tryz.func25, Tryz.ntmps25
    go_wp2_with (first | (go_at_call 34; refine (HL.out _).mono ?_; rintro e w9 ⟨rfl, rfl⟩) | (go_at_call 35; refine (HD.out _).mono ?_; rintro e w9 ⟨rfl, rfl⟩))
    go_ret2
    exact ⟨by rw [HW0.out]; exact HX.out.1, Ends.bad e.out ⟨rfl, .inl rfl⟩⟩
  cases d1 with
  | true =>
    by_cases hl1 : (16 : Int) < (n1 : Int)
    · have e := hideIt (HE2.out hk (by omega))
      clear HE1 HE2 HE3 HCell hk
      go_enter Tryz.func25, Tryz.ntmps25
      go_wp2_with (first | (go_at_call 34; refine (HL.out _).mono ?_; rintro e w9 ⟨rfl, rfl⟩) | (go_at_call 35; refine (HD.out _).mono ?_; rintro e w9 ⟨rfl, rfl⟩))
      go_ret2
      exact ⟨by rw [HW0.out]; exact HX.out.1, Ends.bad e.out ⟨rfl, .inr rfl⟩⟩
    by_cases hl2 : (64 : Int) < (n2 : Int)
    · have e := hideIt (HE2.out hk (by omega))
      clear HE1 HE2 HE3 HCell hk
      go_enter Tryz.func25, Tryz.ntmps25
      go_wp2_with (first | (go_at_call 34; refine (HL.out _).mono ?_; rintro e w9 ⟨rfl, rfl⟩) | (go_at_call 35; refine (HD.out _).mono ?_; rintro e w9 ⟨rfl, rfl⟩))
      go_ret2
      exact ⟨by rw [HW0.out]; exact HX.out.1, Ends.bad e.out ⟨rfl, .inr rfl⟩⟩
    · have eP := hideIt (HE3.out hk (by omega))
      clear hk
      clear HE1 HE2 HE3
      go_enter Tryz.func25, Tryz.ntmps25
      go_wp2_with (first | (go_at_call 34; refine (HL.out _).mono ?_; rintro e w9 ⟨rfl, rfl⟩) | (go_at_call 35; refine (HD.out _).mono ?_; rintro e w9 ⟨rfl, rfl⟩))
      rw [HW0.out]
      refine H1.out.mono ?_
      clear H1 HL HD
      rintro e w1 ⟨q, S, rfl, cd, a1, hS⟩
      obtain ⟨hA, b0, hsz, x, hP⟩ := HX.out
      have b01 := (But.block a1 _ (by omega) (fun t => t)).trans b0
      have hsl := a1.size
      have ax : After w1 (w1.alloc (.cells #[.pointer none, .pointer q] 79)) := After.rfl.alloc _
      have ka : Keeps (w1.alloc (.cells #[.pointer none, .pointer q] 79)) S w.heap.size (.cells (M.cells sa sc oa oc ba bc) 31 (0, 0)) := ⟨new_past _ _ b01, fun h => by have := hS _ h; omega⟩
      have kc : Keeps (w1.alloc (.cells #[.pointer none, .pointer q] 79)) S w1.heap.size (.cells #[.pointer none, .pointer q] 79 (0, 0)) := ⟨new1 _ _, fun h => by have := cd.lt _ h; omega⟩
      have hall := hA.trans (a1.trans ax)
      have H2 := hideIt (caught24 _ w.heap.size w1.heap.size q S P M sa sc oa oc ba bc ka kc (cd.after ax) (x.after hall) (fun k hk => ⟨fun h => by have := hS _ h; have := hP _ hk; omega, Nat.lt_of_lt_of_le (hP k hk) hall.size⟩))
      have HY := hideIt (And.intro hall (And.intro kc (And.intro hS hA.size)))
      clear hA b0 hsz b01 hsl ax ka kc HX HW0 cd a1 hS x hP hall
      go_wp2_with fail
      refine H2.out.mono ?_
      clear H2
      intro e w2 h2
      obtain ⟨hall, kc, hS, hsz⟩ := HY.out
      rcases h2.split with ⟨c9, e1, rfl, t⟩ | ⟨_, us, e1, rfl, S', k', s'⟩
      · have hc : c9 = 2 := packF_err e1
        subst hc
        have HZ := hideIt (And.intro (eP.out.trans e1) (show After w w2 from hall.but.then t (fun i hi h => by have := hS _ h; omega)))
        clear hall kc hS hsz h2 e1 t HY eP
        go_wp2_with fail
        go_ret2
        exact ⟨HZ.out.2, Ends.bad HZ.out.1 ⟨rfl, .inl rfl⟩⟩
      · have kc2 := kc.step s'
        obtain ⟨_, y0, y1, _, _⟩ := two_at kc2.at0
        have aw : After w w2 := hall.but.then s'.but (fun i hi h => by have := hS _ h; omega)
        have hl9 := packF_len e1
        have H3 := hideIt (c_bytes w2 q us S' k' (by omega))
        have HZ := hideIt (And.intro (eP.out.trans e1) (And.intro aw (And.intro k'.bs hl9)))
        clear hall kc hS hsz h2 e1 HY eP kc2 s' aw k' hl9
        go_wp2_with fail
        refine H3.out.mono ?_
        clear H3
        rintro e w3 ⟨xa, xc, rfl, ho, a3⟩
        have HO := hideIt (And.intro ho a3)
        clear ho a3
        generalize hus : us.length = nu at HO HZ ⊢
        have HUS := hideIt hus
        clear hus
        go_wp2_with fail
        go_ret2
        obtain ⟨ho, a3⟩ := HO.out
        obtain ⟨e1, aw, hbs, hl9⟩ := HZ.out
        rw [← HUS.out] at ho hl9 ⊢
        exact ⟨aw.trans a3, Ends.ok e1 ⟨hbs, hl9, xa, xc, rfl, own_base ho (fun k hk => Nat.le_trans aw.size (ho.lt k hk).1)⟩⟩
  | false =>
    obtain rfl : d2 = true := by
      cases d2
      · exact absurd ⟨rfl, rfl⟩ hk
      · rfl
    by_cases hl1 : (16 : Int) < (n1 : Int)
    · have e := hideIt (HE2.out hk (by omega))
      clear HE1 HE2 HE3 HCell hk
      go_enter Tryz.func25, Tryz.ntmps25
      go_wp2_with (first | (go_at_call 34; refine (HL.out _).mono ?_; rintro e w9 ⟨rfl, rfl⟩) | (go_at_call 35; refine (HD.out _).mono ?_; rintro e w9 ⟨rfl, rfl⟩))
      go_ret2
      exact ⟨by rw [HW0.out]; exact HX.out.1, Ends.bad e.out ⟨rfl, .inr rfl⟩⟩
    by_cases hl2 : (64 : Int) < (n2 : Int)
    · have e := hideIt (HE2.out hk (by omega))
      clear HE1 HE2 HE3 HCell hk
      go_enter Tryz.func25, Tryz.ntmps25
      go_wp2_with (first | (go_at_call 34; refine (HL.out _).mono ?_; rintro e w9 ⟨rfl, rfl⟩) | (go_at_call 35; refine (HD.out _).mono ?_; rintro e w9 ⟨rfl, rfl⟩))
      go_ret2
      exact ⟨by rw [HW0.out]; exact HX.out.1, Ends.bad e.out ⟨rfl, .inr rfl⟩⟩
    · have eP := hideIt (HE3.out hk (by omega))
      clear hk
      clear HE1 HE2 HE3
      go_enter Tryz.func25, Tryz.ntmps25
      go_wp2_with (first | (go_at_call 34; refine (HL.out _).mono ?_; rintro e w9 ⟨rfl, rfl⟩) | (go_at_call 35; refine (HD.out _).mono ?_; rintro e w9 ⟨rfl, rfl⟩))
      rw [HW0.out]
      refine H1.out.mono ?_
      clear H1 HL HD
      rintro e w1 ⟨q, S, rfl, cd, a1, hS⟩
      obtain ⟨hA, b0, hsz, x, hP⟩ := HX.out
      have b01 := (But.block a1 _ (by omega) (fun t => t)).trans b0
      have hsl := a1.size
      have ax : After w1 (w1.alloc (.cells #[.pointer none, .pointer q] 79)) := After.rfl.alloc _
      have ka : Keeps (w1.alloc (.cells #[.pointer none, .pointer q] 79)) S w.heap.size (.cells (M.cells sa sc oa oc ba bc) 31 (0, 0)) := ⟨new_past _ _ b01, fun h => by have := hS _ h; omega⟩
      have kc : Keeps (w1.alloc (.cells #[.pointer none, .pointer q] 79)) S w1.heap.size (.cells #[.pointer none, .pointer q] 79 (0, 0)) := ⟨new1 _ _, fun h => by have := cd.lt _ h; omega⟩
      have hall := hA.trans (a1.trans ax)
      have H2 := hideIt (caught24 _ w.heap.size w1.heap.size q S P M sa sc oa oc ba bc ka kc (cd.after ax) (x.after hall) (fun k hk => ⟨fun h => by have := hS _ h; have := hP _ hk; omega, Nat.lt_of_lt_of_le (hP k hk) hall.size⟩))
      have HY := hideIt (And.intro hall (And.intro kc (And.intro hS hA.size)))
      clear hA b0 hsz b01 hsl ax ka kc HX HW0 cd a1 hS x hP hall
      go_wp2_with fail
      refine H2.out.mono ?_
      clear H2
      intro e w2 h2
      obtain ⟨hall, kc, hS, hsz⟩ := HY.out
      rcases h2.split with ⟨c9, e1, rfl, t⟩ | ⟨_, us, e1, rfl, S', k', s'⟩
      · have hc : c9 = 2 := packF_err e1
        subst hc
        have HZ := hideIt (And.intro (eP.out.trans e1) (show After w w2 from hall.but.then t (fun i hi h => by have := hS _ h; omega)))
        clear hall kc hS hsz h2 e1 t HY eP
        go_wp2_with fail
        go_ret2
        exact ⟨HZ.out.2, Ends.bad HZ.out.1 ⟨rfl, .inl rfl⟩⟩
      · have kc2 := kc.step s'
        obtain ⟨_, y0, y1, _, _⟩ := two_at kc2.at0
        have aw : After w w2 := hall.but.then s'.but (fun i hi h => by have := hS _ h; omega)
        have hl9 := packF_len e1
        have H3 := hideIt (c_bytes w2 q us S' k' (by omega))
        have HZ := hideIt (And.intro (eP.out.trans e1) (And.intro aw (And.intro k'.bs hl9)))
        clear hall kc hS hsz h2 e1 HY eP kc2 s' aw k' hl9
        go_wp2_with fail
        refine H3.out.mono ?_
        clear H3
        rintro e w3 ⟨xa, xc, rfl, ho, a3⟩
        have HO := hideIt (And.intro ho a3)
        clear ho a3
        generalize hus : us.length = nu at HO HZ ⊢
        have HUS := hideIt hus
        clear hus
        go_wp2_with fail
        go_ret2
        obtain ⟨ho, a3⟩ := HO.out
        obtain ⟨e1, aw, hbs, hl9⟩ := HZ.out
        rw [← HUS.out] at ho hl9 ⊢
        exact ⟨aw.trans a3, Ends.ok e1 ⟨hbs, hl9, xa, xc, rfl, own_base ho (fun k hk => Nat.le_trans aw.size (ho.lt k hk).1)⟩⟩
end Go.Proofs.YthcfdoafncbliaaGreat
/-
  The document's helpers: known, word, yes, kept.
-/
namespace Go.Proofs.YthcfdoafncbliaaGreat
open Go.RowKit
set_option maxRecDepth 8000
theorem known_any (w : World) (k : Int) : Calls Tryz.prog 49 #[.int .i64 k] w fun e w' => e = .returned (.tuple #[.bool (alone k || inData k), .bool (inData k)]) ∧ w' = w := by
  by_cases h : k = 57856 ∨ k = 58112 ∨ k = 58368 ∨ k = 58624 ∨ k = 58880
  · rcases h with rfl | rfl | rfl | rfl | rfl
    all_goals
      go_enter Tryz.func49, Tryz.ntmps49
      go_wp2_with fail
      go_ret2
      exact ⟨rfl, rfl⟩
  · by_cases h' : k = 3356 ∨ k = 3357 ∨ k = 3358
    · rcases h' with rfl | rfl | rfl
      all_goals
        go_enter Tryz.func49, Tryz.ntmps49
        go_wp2_with fail
        go_ret2
        exact ⟨rfl, rfl⟩
    · rw [show alone k = false from decide_eq_false h, show inData k = false from decide_eq_false h']
      have n1 : (k == 57856) = false := by simpa using fun e => h (.inl e)
      have n2 : (k == 58112) = false := by simpa using fun e => h (.inr (.inl e))
      have n3 : (k == 58368) = false := by simpa using fun e => h (.inr (.inr (.inl e)))
      have n4 : (k == 58624) = false := by simpa using fun e => h (.inr (.inr (.inr (.inl e))))
      have n5 : (k == 58880) = false := by simpa using fun e => h (.inr (.inr (.inr (.inr e))))
      have m1 : (k == 3356) = false := by simpa using fun e => h' (.inl e)
      have m2 : (k == 3357) = false := by simpa using fun e => h' (.inr (.inl e))
      have m3 : (k == 3358) = false := by simpa using fun e => h' (.inr (.inr e))
      clear h h'
      go_enter Tryz.func49, Tryz.ntmps49
      go_wp2_with fail
      go_ret2
      exact ⟨rfl, rfl⟩
/-- May a number be? -/
def wd (n : Int) : Bool := decide (0 ≤ n ∧ n ≤ 65535)
theorem word_any (w : World) (n : Int) : Calls Tryz.prog 71 #[.int .i64 n] w fun e w' => e = .returned (.bool (wd n)) ∧ w' = w := by
  by_cases h0 : 0 ≤ n
  · by_cases h1 : n ≤ 65535
    · rw [show wd n = true from decide_eq_true ⟨h0, h1⟩]
      go_enter Tryz.func71, Tryz.ntmps71
      go_wp2_with fail
      go_ret
      exact ⟨rfl, rfl⟩
    · rw [show wd n = false from decide_eq_false (fun h => h1 h.2)]
      go_enter Tryz.func71, Tryz.ntmps71
      go_wp2_with fail
      go_ret
      exact ⟨rfl, rfl⟩
  · rw [show wd n = false from decide_eq_false (fun h => h0 h.1)]
    go_enter Tryz.func71, Tryz.ntmps71
    go_wp2_with fail
    go_ret
    exact ⟨rfl, rfl⟩
theorem yes_any (w : World) (b : Bool) : Calls Tryz.prog 76 #[.bool b] w fun e w' => e = .returned (.int .i64 (if b = true then 1 else 0)) ∧ w' = w := by
  cases b
  all_goals
    go_enter Tryz.func76, Tryz.ntmps76
    go_wp2_with fail
    go_ret
    exact ⟨rfl, rfl⟩
theorem kept_57856 (w : World) (sa oa ba : Option Addr) (s sc o oc b bc : Nat) (c r q : Int) :
    Calls Tryz.prog 70 #[.agg #[.int .i64 57856, .slice sa s sc, .int .i64 c, .int .i64 r, .int .i64 q, .slice oa o oc, .slice ba b bc]] w fun e w' => e = .returned (.agg #[.int .i64 57856, .slice sa s sc, .int .i64 c, .int .i64 0, .int .i64 0, .slice none 0 0, .slice none 0 0]) ∧ After w w' := by
  have HA := hideIt (show After w w from After.rfl)
  go_enter Tryz.func70, Tryz.ntmps70
  go_wp2_with fail
  refine bodyPost_ret (v := .agg #[.int .i64 57856, .slice sa s sc, .int .i64 c, .int .i64 0, .int .i64 0, .slice none 0 0, .slice none 0 0]) (by simp [results, Tryz.results70, go_sem]) rfl ⟨rfl, ?_⟩
  repeat (first | exact HA.out | refine After.set ?_ _ (by first | exact Nat.le_refl _ | omega | simp) _ | refine After.alloc ?_ _)
theorem kept_58112 (w : World) (sa oa ba : Option Addr) (s sc o oc b bc : Nat) (c r q : Int) :
    Calls Tryz.prog 70 #[.agg #[.int .i64 58112, .slice sa s sc, .int .i64 c, .int .i64 r, .int .i64 q, .slice oa o oc, .slice ba b bc]] w fun e w' => e = .returned (.agg #[.int .i64 58112, .slice none 0 0, .int .i64 c, .int .i64 r, .int .i64 0, .slice none 0 0, .slice none 0 0]) ∧ After w w' := by
  have HA := hideIt (show After w w from After.rfl)
  go_enter Tryz.func70, Tryz.ntmps70
  go_wp2_with fail
  refine bodyPost_ret (v := .agg #[.int .i64 58112, .slice none 0 0, .int .i64 c, .int .i64 r, .int .i64 0, .slice none 0 0, .slice none 0 0]) (by simp [results, Tryz.results70, go_sem]) rfl ⟨rfl, ?_⟩
  repeat (first | exact HA.out | refine After.set ?_ _ (by first | exact Nat.le_refl _ | omega | simp) _ | refine After.alloc ?_ _)
theorem kept_3357 (w : World) (sa oa ba : Option Addr) (s sc o oc b bc : Nat) (c r q : Int) :
    Calls Tryz.prog 70 #[.agg #[.int .i64 3357, .slice sa s sc, .int .i64 c, .int .i64 r, .int .i64 q, .slice oa o oc, .slice ba b bc]] w fun e w' => e = .returned (.agg #[.int .i64 3357, .slice none 0 0, .int .i64 c, .int .i64 r, .int .i64 0, .slice none 0 0, .slice none 0 0]) ∧ After w w' := by
  have HA := hideIt (show After w w from After.rfl)
  go_enter Tryz.func70, Tryz.ntmps70
  go_wp2_with fail
  refine bodyPost_ret (v := .agg #[.int .i64 3357, .slice none 0 0, .int .i64 c, .int .i64 r, .int .i64 0, .slice none 0 0, .slice none 0 0]) (by simp [results, Tryz.results70, go_sem]) rfl ⟨rfl, ?_⟩
  repeat (first | exact HA.out | refine After.set ?_ _ (by first | exact Nat.le_refl _ | omega | simp) _ | refine After.alloc ?_ _)
theorem kept_3356 (w : World) (sa oa ba : Option Addr) (s sc o oc b bc : Nat) (c r q : Int) :
    Calls Tryz.prog 70 #[.agg #[.int .i64 3356, .slice sa s sc, .int .i64 c, .int .i64 r, .int .i64 q, .slice oa o oc, .slice ba b bc]] w fun e w' => e = .returned (.agg #[.int .i64 3356, .slice none 0 0, .int .i64 c, .int .i64 0, .int .i64 0, .slice oa o oc, .slice none 0 0]) ∧ After w w' := by
  have HA := hideIt (show After w w from After.rfl)
  go_enter Tryz.func70, Tryz.ntmps70
  go_wp2_with fail
  refine bodyPost_ret (v := .agg #[.int .i64 3356, .slice none 0 0, .int .i64 c, .int .i64 0, .int .i64 0, .slice oa o oc, .slice none 0 0]) (by simp [results, Tryz.results70, go_sem]) rfl ⟨rfl, ?_⟩
  repeat (first | exact HA.out | refine After.set ?_ _ (by first | exact Nat.le_refl _ | omega | simp) _ | refine After.alloc ?_ _)
theorem kept_3358 (w : World) (sa oa ba : Option Addr) (s sc o oc b bc : Nat) (c r q : Int) :
    Calls Tryz.prog 70 #[.agg #[.int .i64 3358, .slice sa s sc, .int .i64 c, .int .i64 r, .int .i64 q, .slice oa o oc, .slice ba b bc]] w fun e w' => e = .returned (.agg #[.int .i64 3358, .slice none 0 0, .int .i64 0, .int .i64 0, .int .i64 0, .slice none 0 0, .slice ba b bc]) ∧ After w w' := by
  have HA := hideIt (show After w w from After.rfl)
  go_enter Tryz.func70, Tryz.ntmps70
  go_wp2_with fail
  refine bodyPost_ret (v := .agg #[.int .i64 3358, .slice none 0 0, .int .i64 0, .int .i64 0, .int .i64 0, .slice none 0 0, .slice ba b bc]) (by simp [results, Tryz.results70, go_sem]) rfl ⟨rfl, ?_⟩
  repeat (first | exact HA.out | refine After.set ?_ _ (by first | exact Nat.le_refl _ | omega | simp) _ | refine After.alloc ?_ _)
theorem kept_58368 (w : World) (sa oa ba : Option Addr) (s sc o oc b bc : Nat) (c r q : Int) :
    Calls Tryz.prog 70 #[.agg #[.int .i64 58368, .slice sa s sc, .int .i64 c, .int .i64 r, .int .i64 q, .slice oa o oc, .slice ba b bc]] w fun e w' => e = .returned (.agg #[.int .i64 58368, .slice none 0 0, .int .i64 0, .int .i64 0, .int .i64 q, .slice none 0 0, .slice none 0 0]) ∧ After w w' := by
  have HA := hideIt (show After w w from After.rfl)
  go_enter Tryz.func70, Tryz.ntmps70
  go_wp2_with fail
  refine bodyPost_ret (v := .agg #[.int .i64 58368, .slice none 0 0, .int .i64 0, .int .i64 0, .int .i64 q, .slice none 0 0, .slice none 0 0]) (by simp [results, Tryz.results70, go_sem]) rfl ⟨rfl, ?_⟩
  repeat (first | exact HA.out | refine After.set ?_ _ (by first | exact Nat.le_refl _ | omega | simp) _ | refine After.alloc ?_ _)
theorem kept_58624 (w : World) (sa oa ba : Option Addr) (s sc o oc b bc : Nat) (c r q : Int) :
    Calls Tryz.prog 70 #[.agg #[.int .i64 58624, .slice sa s sc, .int .i64 c, .int .i64 r, .int .i64 q, .slice oa o oc, .slice ba b bc]] w fun e w' => e = .returned (.agg #[.int .i64 58624, .slice none 0 0, .int .i64 0, .int .i64 0, .int .i64 q, .slice none 0 0, .slice none 0 0]) ∧ After w w' := by
  have HA := hideIt (show After w w from After.rfl)
  go_enter Tryz.func70, Tryz.ntmps70
  go_wp2_with fail
  refine bodyPost_ret (v := .agg #[.int .i64 58624, .slice none 0 0, .int .i64 0, .int .i64 0, .int .i64 q, .slice none 0 0, .slice none 0 0]) (by simp [results, Tryz.results70, go_sem]) rfl ⟨rfl, ?_⟩
  repeat (first | exact HA.out | refine After.set ?_ _ (by first | exact Nat.le_refl _ | omega | simp) _ | refine After.alloc ?_ _)
theorem kept_58880 (w : World) (sa oa ba : Option Addr) (s sc o oc b bc : Nat) (c r q : Int) :
    Calls Tryz.prog 70 #[.agg #[.int .i64 58880, .slice sa s sc, .int .i64 c, .int .i64 r, .int .i64 q, .slice oa o oc, .slice ba b bc]] w fun e w' => e = .returned (.agg #[.int .i64 58880, .slice none 0 0, .int .i64 0, .int .i64 0, .int .i64 q, .slice none 0 0, .slice none 0 0]) ∧ After w w' := by
  have HA := hideIt (show After w w from After.rfl)
  go_enter Tryz.func70, Tryz.ntmps70
  go_wp2_with fail
  refine bodyPost_ret (v := .agg #[.int .i64 58880, .slice none 0 0, .int .i64 0, .int .i64 0, .int .i64 q, .slice none 0 0, .slice none 0 0]) (by simp [results, Tryz.results70, go_sem]) rfl ⟨rfl, ?_⟩
  repeat (first | exact HA.out | refine After.set ?_ _ (by first | exact Nat.le_refl _ | omega | simp) _ | refine After.alloc ?_ _)
theorem kept_any (w : World) (P : Nat → Prop) (M : Msg) (sa : Option Addr) (sc : Nat) (oa : Option Addr) (oc : Nat) (ba : Option Addr) (bc : Nat) (x : MsgX w P M sa sc oa oc ba bc) (hk : alone M.kind = true ∨ inData M.kind = true) :
    Calls Tryz.prog 70 #[M.val sa sc oa oc ba bc] w fun e w' => ∃ sa' sc' oa' oc' ba' bc', e = .returned ((keep M.kind M).val sa' sc' oa' oc' ba' bc') ∧ MsgX w' P (keep M.kind M) sa' sc' oa' oc' ba' bc' ∧ After w w' := by
  obtain ⟨k, ms, c, r, q, mo, mb⟩ := M
  dsimp only at hk ⊢
  rcases hk.imp of_decide_eq_true of_decide_eq_true with (rfl | rfl | rfl | rfl | rfl) | (rfl | rfl | rfl)
  · exact (kept_57856 w sa oa ba ms.length sc mo.length oc mb.length bc c r q).mono fun e w' ⟨he, h⟩ => ⟨sa, sc, none, 0, none, 0, he, MsgX.ofSys _ _ _ _ (x.after h).sr x.sn x.sp x.sl, h⟩
  · exact (kept_58112 w sa oa ba ms.length sc mo.length oc mb.length bc c r q).mono fun e w' ⟨he, h⟩ => ⟨none, 0, none, 0, none, 0, he, MsgX.nils _ _ _ _ _ _, h⟩
  · exact (kept_58368 w sa oa ba ms.length sc mo.length oc mb.length bc c r q).mono fun e w' ⟨he, h⟩ => ⟨none, 0, none, 0, none, 0, he, MsgX.nils _ _ _ _ _ _, h⟩
  · exact (kept_58624 w sa oa ba ms.length sc mo.length oc mb.length bc c r q).mono fun e w' ⟨he, h⟩ => ⟨none, 0, none, 0, none, 0, he, MsgX.nils _ _ _ _ _ _, h⟩
  · exact (kept_58880 w sa oa ba ms.length sc mo.length oc mb.length bc c r q).mono fun e w' ⟨he, h⟩ => ⟨none, 0, none, 0, none, 0, he, MsgX.nils _ _ _ _ _ _, h⟩
  · exact (kept_3356 w sa oa ba ms.length sc mo.length oc mb.length bc c r q).mono fun e w' ⟨he, h⟩ => ⟨none, 0, oa, oc, none, 0, he, ⟨Row.nil _ _, fun _ => ⟨rfl, rfl⟩, (fun y hy => by cases hy), (by show (0 : Nat) ≤ 140737488355328; omega), (x.after h).or, x.on, x.op, RowT.nil _ _, fun _ => ⟨rfl, rfl⟩, (fun y hy => by cases hy), fun o ho => by cases ho⟩, h⟩
  · exact (kept_3357 w sa oa ba ms.length sc mo.length oc mb.length bc c r q).mono fun e w' ⟨he, h⟩ => ⟨none, 0, none, 0, none, 0, he, MsgX.nils _ _ _ _ _ _, h⟩
  · exact (kept_3358 w sa oa ba ms.length sc mo.length oc mb.length bc c r q).mono fun e w' ⟨he, h⟩ => ⟨none, 0, none, 0, ba, bc, he, ⟨Row.nil _ _, fun _ => ⟨rfl, rfl⟩, (fun y hy => by cases hy), (by show (0 : Nat) ≤ 140737488355328; omega), RowT.nil _ _, fun _ => ⟨rfl, rfl⟩, (fun y hy => by cases hy), (x.after h).br, x.bn, x.bp, x.bb⟩, h⟩
end Go.Proofs.YthcfdoafncbliaaGreat
/-
  Unpack.
-/
namespace Go.Proofs.YthcfdoafncbliaaGreat
open Go.RowKit
set_option maxRecDepth 8000
/-- The message of bytes. -/
def unpackF (zs : List Int) : Except Int (Msg × List Int) := msgF false (Msg.zero 0) zs
/-- A message that was answered, in memory of its own. -/
def Got (w w' : World) (v : Value) (X : Msg) : Prop :=
  ∃ sa sc oa oc ba bc, v = X.val sa sc oa oc ba bc ∧ MsgX w' (fun k => w.heap.size ≤ k) X sa sc oa oc ba bc ∧ w'.ownsRow w.heap.size 5 1 (.slice sa X.sys.length sc) X.sys.length (u8s X.sys)
end Go.Proofs.YthcfdoafncbliaaGreat
