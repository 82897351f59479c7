/-
  Laid together: PureP, RefPack.
-/
import Derived.Test.YtigiakhdaaoljaaB16
import Derived.Test.YtigiakhdaaoljaaB19
/-
  What the program packs is what the document packs.
-/
namespace Go.Proofs.Ytigiakhdaaoljaa
open Go.RowKit
set_option maxRecDepth 8000
theorem wd_of {n : Int} (h : wd n = true) : 0 ≤ n ∧ n ≤ (65535 : Nat) := by have := of_decide_eq_true h; omega
theorem wd_mk {n : Int} (h : 0 ≤ n ∧ n ≤ (65535 : Nat)) : wd n = true := decide_eq_true (by omega)
theorem num_may {n : Int} (zs : List Int) (h : wd n = true) : num true 2 65535 n zs = .ok (n, zs ++ wnNew 2 65535 n) := by rw [num_w (wd_of h), (wn_yes (wd_of h)).2]
theorem num_was {n x : Int} {zs ys : List Int} (h : num true 2 65535 n zs = .ok (x, ys)) : wd n = true := by
  by_cases hn : 0 ≤ n ∧ n ≤ (65535 : Nat)
  · exact wd_mk hn
  · rw [num_wn hn] at h; cases h
theorem eit_may (l : Bool) (y n : Int) (hy : 0 ≤ y ∧ y ≤ (255 : Nat)) (hn : 0 ≤ n ∧ n ≤ (255 : Nat)) (hne : n ≠ y) (zs : List Int) : eit true l y n zs = .ok (l, zs ++ wnNew 1 255 (if l = true then y else n)) := by
  have hv : 0 ≤ (if l = true then y else n) ∧ (if l = true then y else n) ≤ (255 : Nat) := by split <;> assumption
  unfold eit
  rw [thn_ok (num_w hv), (wn_yes hv).2]
  cases l
  · rw [if_pos (.inr rfl)]
    exact congrArg Except.ok (congrArg (·, _) (decide_eq_false hne))
  · rw [if_pos (.inl rfl)]
    exact congrArg Except.ok (congrArg (·, _) (decide_eq_true rfl))
theorem obs1_may (o : Bi) (zs : List Int) (h1 : wd o.h = true) (h2 : o.l = false → o.b ≤ 65535) (hb : 0 ≤ o.b ∧ o.b < 4294967296) : obs1 true o zs = .ok (o, zs ++ obsB o) := by
  obtain ⟨h, l, b⟩ := o
  dsimp only at h1 h2 hb
  unfold obs1 obsB
  dsimp only
  rw [thn_ok (num_may zs h1), thn_ok (eit_may l 4 2 (by decide) (by decide) (by decide) _)]
  cases l
  · have hw : wd b = true := wd_mk ⟨hb.1, by have := h2 rfl; omega⟩
    simp only [Bool.false_eq_true, if_false]
    rw [thn_ok (num_may _ hw)]
    simp only [List.append_assoc]
    rfl
  · simp only [if_true]
    rw [thn_ok (num_w (k := 4) (M := 4294967295) ⟨hb.1, by have := hb.2; omega⟩)]
    simp only [List.append_assoc]
    rfl
theorem obj1_may (hs : List Int) (o : Ob) (zs : List Int) (h1 : wd o.h = true) (h2 : wd o.u = true) (hn : o.h ∉ hs) : obj1 true hs o zs = .ok (o, zs ++ objB o) := by
  obtain ⟨h, u, l⟩ := o
  dsimp only at h1 h2 hn
  unfold obj1 objB
  dsimp only
  rw [thn_ok (num_may zs h1), if_neg hn, thn_ok (num_may _ h2), thn_ok (eit_may l 1 0 (by decide) (by decide) (by decide) _)]
  simp only [List.append_assoc]
theorem obsL_may (l : List Bi) (zs : List Int) (h : ∀ o ∈ l, wd o.h = true ∧ (o.l = false → o.b ≤ 65535) ∧ 0 ≤ o.b ∧ o.b < 4294967296) : obsL true l zs = .ok (l, zs ++ l.flatMap obsB) := by
  induction l generalizing zs with
  | nil => unfold obsL; simp
  | cons o r ih =>
    obtain ⟨h1, h2, h3⟩ := h o (by simp)
    unfold obsL
    rw [thn_ok (obs1_may o zs h1 h2 h3), thn_ok (ih _ (fun o ho => h o (List.mem_cons_of_mem _ ho)))]
    rw [List.flatMap_cons, List.append_assoc]
theorem objL_may (hs : List Int) (l : List Ob) (zs : List Int) (h : ∀ o ∈ l, wd o.h = true ∧ wd o.u = true ∧ o.h ∉ hs) (hp : l.Pairwise (fun a b => a.h ≠ b.h)) : objL true hs l zs = .ok (l, zs ++ l.flatMap objB) := by
  induction l generalizing zs hs with
  | nil => unfold objL; simp
  | cons o r ih =>
    obtain ⟨h1, h2, h3⟩ := h o (by simp)
    obtain ⟨p1, p2⟩ := List.pairwise_cons.1 hp
    unfold objL
    rw [thn_ok (obj1_may hs o zs h1 h2 h3), thn_ok (ih _ _ (fun o' ho => ⟨(h o' (List.mem_cons_of_mem _ ho)).1, (h o' (List.mem_cons_of_mem _ ho)).2.1, fun hm => by
      rcases List.mem_append.1 hm with hm | hm
      · exact (h o' (List.mem_cons_of_mem _ ho)).2.2 hm
      · exact p1 o' ho (List.mem_singleton.1 hm).symm⟩) p2)]
    rw [List.flatMap_cons, List.append_assoc]
theorem len_wd {n : Nat} (h : n ≤ 64) : wd (n : Int) = true := wd_mk ⟨by omega, by omega⟩
theorem lstB_may (l : List Bi) (zs : List Int) (hl : l.length ≤ 64) (h : ∀ o ∈ l, wd o.h = true ∧ (o.l = false → o.b ≤ 65535) ∧ 0 ≤ o.b ∧ o.b < 4294967296) : lstB true l zs = .ok (l, zs ++ (wnNew 2 65535 l.length ++ l.flatMap obsB)) := by
  unfold lstB
  rw [thn_ok (num_may zs (len_wd hl)), if_neg (by omega), Int.toNat_natCast, fillOf_self, obsL_may l _ h, List.append_assoc]
theorem lstO_may (l : List Ob) (zs : List Int) (hl : l.length ≤ 16) (h : ∀ o ∈ l, wd o.h = true ∧ wd o.u = true) (hp : l.Pairwise (fun a b => a.h ≠ b.h)) : lstO true l zs = .ok (l, zs ++ (wnNew 2 65535 l.length ++ l.flatMap objB)) := by
  unfold lstO
  rw [thn_ok (num_may zs (len_wd (by omega))), if_neg (by omega), Int.toNat_natCast, fillOf_self, objL_may [] l _ (fun o ho => ⟨(h o ho).1, (h o ho).2, by simp⟩) hp, List.append_assoc]
theorem goodO_all {l : List Ob} (h : ∀ i, i < l.length → goodO l i) : (∀ o ∈ l, wd o.h = true ∧ wd o.u = true) ∧ l.Pairwise (fun a b => a.h ≠ b.h) := by
  refine ⟨fun o ho => ?_, List.pairwise_iff_getElem.2 fun i j hi hj hij => ?_⟩
  · obtain ⟨i, hi, rfl⟩ := List.mem_iff_getElem.1 ho
    have := h i hi _ (List.getElem?_eq_getElem hi)
    exact ⟨this.1, this.2.1⟩
  · exact (h j hj _ (List.getElem?_eq_getElem hj)).2.2 i _ hij (List.getElem?_eq_getElem hi)
theorem goodB_all {l : List Bi} (h : ∀ i, i < l.length → goodB l i) : ∀ o ∈ l, wd o.h = true ∧ (o.l = false → o.b ≤ 65535) := by
  intro o ho
  obtain ⟨i, hi, rfl⟩ := List.mem_iff_getElem.1 ho
  exact h i hi _ (List.getElem?_eq_getElem hi)
theorem objL_was {hs : List Int} {l x : List Ob} {zs ys : List Int} (h : objL true hs l zs = .ok (x, ys)) : (∀ o ∈ l, wd o.h = true ∧ wd o.u = true ∧ o.h ∉ hs) ∧ l.Pairwise (fun a b => a.h ≠ b.h) := by
  induction l generalizing hs zs x ys with
  | nil => exact ⟨fun o ho => (by cases ho), List.Pairwise.nil⟩
  | cons o r ih =>
    obtain ⟨a, z1, e1, h1⟩ := thn_inv h
    obtain ⟨b, z2, e2, h2⟩ := thn_inv h1
    have hao : a = o := ((obj1_dual hs).back e1).1
    subst hao
    obtain ⟨i1, i2⟩ := ih e2
    have ha : wd a.h = true ∧ wd a.u = true ∧ a.h ∉ hs := by
      obtain ⟨h', z3, f1, g1⟩ := thn_inv e1
      have w1 := num_was f1
      obtain ⟨rfl, _⟩ := dual2.back f1
      dsimp only [id] at g1
      split at g1
      · cases g1
      · rename_i hm
        obtain ⟨u', z4, f2, g2⟩ := thn_inv g1
        exact ⟨w1, num_was f2, hm⟩
    refine ⟨fun o' ho => ?_, List.pairwise_cons.2 ⟨fun o' ho e => ?_, i2⟩⟩
    · rcases List.mem_cons.1 ho with rfl | ho
      · exact ha
      · obtain ⟨q1, q2, q3⟩ := i1 o' ho
        exact ⟨q1, q2, fun hm => q3 (List.mem_append_left _ hm)⟩
    · exact (i1 o' ho).2.2 (List.mem_append_right _ (List.mem_singleton.2 e.symm))
theorem obsL_was {l x : List Bi} {zs ys : List Int} (h : obsL true l zs = .ok (x, ys)) : ∀ o ∈ l, wd o.h = true ∧ (o.l = false → o.b ≤ 65535) := by
  induction l generalizing zs x ys with
  | nil => exact fun o ho => (by cases ho)
  | cons o r ih =>
    obtain ⟨a, z1, e1, h1⟩ := thn_inv h
    obtain ⟨b, z2, e2, h2⟩ := thn_inv h1
    have i1 := ih e2
    intro o' ho
    rcases List.mem_cons.1 ho with rfl | ho
    · obtain ⟨h', z3, f1, g1⟩ := thn_inv e1
      obtain ⟨l', z4, f2, g2⟩ := thn_inv g1
      obtain ⟨b', z5, f3, g3⟩ := thn_inv g2
      obtain ⟨rfl, _⟩ := (eit_dual 4 2 (by decide) (by decide) (by decide)).back f2
      refine ⟨num_was f1, fun hl => ?_⟩
      rw [show (id o'.l) = o'.l from rfl, hl] at f3
      simp only [Bool.false_eq_true, if_false] at f3
      have := wd_of (num_was f3)
      omega
    · exact i1 o' ho
theorem goodO_of {l : List Ob} (h1 : ∀ o ∈ l, wd o.h = true ∧ wd o.u = true) (h2 : l.Pairwise (fun a b => a.h ≠ b.h)) : ∀ i, i < l.length → goodO l i := by
  intro i hi o ho
  have hm := List.mem_of_getElem? ho
  refine ⟨(h1 o hm).1, (h1 o hm).2, fun k o' hk ho' => ?_⟩
  have hkl : k < l.length := by omega
  have e := List.pairwise_iff_getElem.1 h2 k i hkl hi hk
  rw [List.getElem?_eq_getElem hkl] at ho'
  rw [List.getElem?_eq_getElem hi] at ho
  cases ho'
  cases ho
  exact e
theorem goodB_of {l : List Bi} (h1 : ∀ o ∈ l, wd o.h = true ∧ (o.l = false → o.b ≤ 65535)) : ∀ i, i < l.length → goodB l i := fun _i _ o ho => h1 o (List.mem_of_getElem? ho)
theorem lst_was {α : Type} {L : Goes (List α)} {z : α} {K : Nat} {all x : List α} {zs ys : List Int} (h : (thn (num true 2 65535 all.length zs) fun n zs => if n > K then .error (stp true 5) else L true (fillOf n.toNat all z) zs) = .ok (x, ys)) : ∃ z1, L true all z1 = .ok (x, ys) := by
  obtain ⟨n, z1, e1, h1⟩ := thn_inv h
  obtain ⟨rfl, _⟩ := dual2.back e1
  dsimp only [id] at h1
  split at h1
  · cases h1
  · rw [Int.toNat_natCast, fillOf_self] at h1
    exact ⟨z1, h1⟩
/-- What the fields of a message that may be are. -/
theorem fields_may {M : Msg} (hm : MayM M) (hk : alone M.kind = true ∨ inData M.kind = true) (hol : M.objs.length ≤ 16) (hbl : M.obs.length ≤ 64) (hbb : ∀ o ∈ M.obs, 0 ≤ o.b ∧ o.b < 4294967296) : fieldsF true M.kind M [] = .ok (keep M.kind M, fldB M) := by
  obtain ⟨_, hc, hr, hq, hs, ho, hb⟩ := hm
  obtain ⟨go, gp⟩ := goodO_all ho
  have gb := goodB_all hb
  obtain ⟨k, ms, c, r, q, mo, mb⟩ := M
  dsimp only at hc hr hq hs go gp gb hk hol hbl hbb ⊢
  rcases hk.imp of_decide_eq_true of_decide_eq_true with (rfl | rfl | rfl | rfl | rfl) | (rfl | rfl | rfl)
  · have h8 : ms.length = 8 := by
      by_cases h : ms.length = 8
      · exact h
      · exact absurd ⟨rfl, h⟩ hs
    show (thn (sysF true ms []) fun s zs => thn (num true 2 65535 c zs) fun c zs => .ok ((⟨57856, s, c, 0, 0, [], []⟩ : Msg), zs)) = .ok (⟨57856, ms, c, 0, 0, [], []⟩, woNew ms ++ wnNew 2 65535 c)
    have e1 : sysF true ms [] = .ok (ms, woNew ms) := by
      unfold sysF
      rw [thn_ok (oct_w (by omega)), if_pos h8, (wo_yes (by omega)).2, List.nil_append]
    rw [thn_ok e1, thn_ok (num_may _ hc)]
  · show (thn (num true 2 65535 r []) fun r zs => thn (num true 2 65535 c zs) fun c zs => .ok ((⟨58112, [], c, r, 0, [], []⟩ : Msg), zs)) = .ok (⟨58112, [], c, r, 0, [], []⟩, wnNew 2 65535 r ++ wnNew 2 65535 c)
    rw [thn_ok (num_may _ hr), thn_ok (num_may _ hc), List.nil_append]
  iterate 3
    · show (thn (num true 2 65535 q []) fun q zs => .ok ((⟨_, [], 0, 0, q, [], []⟩ : Msg), zs)) = .ok (⟨_, [], 0, 0, q, [], []⟩, wnNew 2 65535 q)
      rw [thn_ok (num_may _ hq), List.nil_append]
  · show (thn (num true 2 65535 c []) fun c zs => thn (lstO true mo zs) fun l zs => .ok ((⟨3356, [], c, 0, 0, l, []⟩ : Msg), zs)) = .ok (⟨3356, [], c, 0, 0, mo, []⟩, wnNew 2 65535 c ++ wnNew 2 65535 mo.length ++ mo.flatMap objB)
    rw [thn_ok (num_may _ hc), thn_ok (lstO_may mo _ hol go gp), List.nil_append]
    simp only [List.append_assoc]
  · show (thn (num true 2 65535 c []) fun c zs => thn (num true 2 65535 r zs) fun r zs => .ok ((⟨3357, [], c, r, 0, [], []⟩ : Msg), zs)) = .ok (⟨3357, [], c, r, 0, [], []⟩, wnNew 2 65535 c ++ wnNew 2 65535 r)
    rw [thn_ok (num_may _ hc), thn_ok (num_may _ hr), List.nil_append]
  · show (thn (lstB true mb []) fun l zs => .ok ((⟨3358, [], 0, 0, 0, [], l⟩ : Msg), zs)) = .ok (⟨3358, [], 0, 0, 0, [], mb⟩, wnNew 2 65535 mb.length ++ mb.flatMap obsB)
    rw [thn_ok (lstB_may mb _ hbl (fun o ho => ⟨(gb o ho).1, (gb o ho).2, hbb o ho⟩)), List.nil_append]
theorem msg_mk {M X : Msg} {bs : List Int} (h : fieldsF true M.kind M [] = .ok (X, bs)) (hk : alone M.kind = true ∨ inData M.kind = true) (hl : bs.length ≤ 60000) : msgF true M [] = .ok (X, if inData M.kind = true then boxB 59136 (boxB M.kind bs) else boxB M.kind bs) := by
  have hkr : 0 ≤ M.kind ∧ M.kind ≤ 65535 := by
    rcases hk.imp of_decide_eq_true of_decide_eq_true with (h | h | h | h | h) | (h | h | h) <;> omega
  show partW (insD true M) (outer M.kind) [] = _
  cases hd : inData M.kind with
  | true =>
    have ho : outer M.kind = 59136 := by unfold outer; rw [if_pos hd]
    have e1 : insF true inData M.kind M [] = .ok (X, bs) := by unfold insF; rw [if_pos hd]; exact h
    have e2 : insD true M 59136 [] = .ok (X, boxB M.kind bs) := by
      unfold insD
      rw [if_pos rfl, if_pos rfl]
      have := partW_do (ins := fun k zs => insF true inData k M zs) (zs := []) e1 hkr (by omega)
      rw [List.nil_append] at this
      exact this
    have := partW_do (ins := insD true M) (zs := []) e2 ⟨by decide, by decide⟩ (by rw [box_len]; omega)
    rw [List.nil_append] at this
    rw [ho, if_pos rfl]
    exact this
  | false =>
    have ha : alone M.kind = true := hk.resolve_right (by rw [hd]; decide)
    have ho : outer M.kind = M.kind := by unfold outer; rw [if_neg (by rw [hd]; decide)]
    have e1 : insD true M M.kind [] = .ok (X, bs) := by
      unfold insD insF
      rw [if_neg (alone_not ha).2, if_pos ha]
      exact h
    have := partW_do (ins := insD true M) (zs := []) e1 hkr (by omega)
    rw [List.nil_append] at this
    rw [ho, if_neg (by decide)]
    exact this
theorem msg_fields {M X : Msg} {ys : List Int} (h : msgF true M [] = .ok (X, ys)) : ∃ bs, fieldsF true M.kind M [] = .ok (X, bs) := by
  obtain ⟨bs, e1, _, _, _⟩ := partW_inv h
  obtain ⟨hk, _⟩ := msg_back h M
  unfold insD at e1
  split at e1
  · rw [if_pos rfl] at e1
    obtain ⟨cs, e2, _⟩ := partW_inv e1
    unfold insF at e2
    split at e2
    · exact ⟨cs, e2⟩
    · cases e2
  · rename_i h9
    have ho : outer M.kind = M.kind := by
      unfold outer
      unfold outer at h9
      split
      · rename_i hd; rw [if_pos hd] at h9; exact absurd rfl h9
      · rfl
    rw [ho] at e1
    unfold insF at e1
    split at e1
    · exact ⟨bs, e1⟩
    · cases e1
theorem may_of {M : Msg} {ys : List Int} (h : msgF true M [] = .ok (M, ys)) : MayM M := by
  obtain ⟨hk, hX, _⟩ := msg_back h M
  obtain ⟨bs, hf⟩ := msg_fields h
  have heq : eqM M (keep M.kind M) = true := by rw [← hX]; exact decide_eq_true ⟨rfl, rfl, rfl, rfl, rfl, rfl, rfl⟩
  have w0 : wd 0 = true := rfl
  obtain ⟨k, ms, c, r, q, mo, mb⟩ := M
  refine ⟨heq, ?_⟩
  dsimp only at hX hf hk ⊢
  rcases hk.imp of_decide_eq_true of_decide_eq_true with (rfl | rfl | rfl | rfl | rfl) | (rfl | rfl | rfl)
  · have hX' : (⟨57856, ms, c, r, q, mo, mb⟩ : Msg) = ⟨57856, ms, c, 0, 0, [], []⟩ := hX
    injection hX' with _ _ _ e3 e4 e5 e6
    subst e3 e4 e5 e6
    obtain ⟨s, z1, e1, h1⟩ := thn_inv hf
    obtain ⟨c', z2, e2, _⟩ := thn_inv h1
    obtain ⟨rfl, _⟩ := sysF_dual.back e1
    have hl8 := (sys_len e1 Bs.nil).1
    exact ⟨num_was e2, w0, w0, fun h => h.2 hl8, fun i hi => absurd hi (by simp), fun i hi => absurd hi (by simp)⟩
  · have hX' : (⟨58112, ms, c, r, q, mo, mb⟩ : Msg) = ⟨58112, [], c, r, 0, [], []⟩ := hX
    injection hX' with _ e1 _ _ e4 e5 e6
    subst e1 e4 e5 e6
    obtain ⟨s, z1, e1, h1⟩ := thn_inv hf
    obtain ⟨c', z2, e2, _⟩ := thn_inv h1
    exact ⟨num_was e2, num_was e1, w0, fun h => absurd h.1 (by decide), fun i hi => absurd hi (by simp), fun i hi => absurd hi (by simp)⟩
  iterate 3
    · have hX' : (⟨_, ms, c, r, q, mo, mb⟩ : Msg) = ⟨_, [], 0, 0, q, [], []⟩ := hX
      injection hX' with _ e1 e2 e3 _ e5 e6
      subst e1 e2 e3 e5 e6
      obtain ⟨s, z1, e1, h1⟩ := thn_inv hf
      exact ⟨w0, w0, num_was e1, fun h => absurd h.1 (by decide), fun i hi => absurd hi (by simp), fun i hi => absurd hi (by simp)⟩
  · have hX' : (⟨3356, ms, c, r, q, mo, mb⟩ : Msg) = ⟨3356, [], c, 0, 0, mo, []⟩ := hX
    injection hX' with _ e1 _ e3 e4 _ e6
    subst e1 e3 e4 e6
    obtain ⟨s, z1, e1, h1⟩ := thn_inv hf
    obtain ⟨c', z2, e2, _⟩ := thn_inv h1
    obtain ⟨z3, e3⟩ := lst_was (L := fun m v zs => objL m [] v zs) e2
    obtain ⟨g1, g2⟩ := objL_was e3
    exact ⟨num_was e1, w0, w0, fun h => absurd h.1 (by decide), goodO_of (fun o ho => ⟨(g1 o ho).1, (g1 o ho).2.1⟩) g2, fun i hi => absurd hi (by simp)⟩
  · have hX' : (⟨3357, ms, c, r, q, mo, mb⟩ : Msg) = ⟨3357, [], c, r, 0, [], []⟩ := hX
    injection hX' with _ e1 _ _ e4 e5 e6
    subst e1 e4 e5 e6
    obtain ⟨s, z1, e1, h1⟩ := thn_inv hf
    obtain ⟨c', z2, e2, _⟩ := thn_inv h1
    exact ⟨num_was e1, num_was e2, w0, fun h => absurd h.1 (by decide), fun i hi => absurd hi (by simp), fun i hi => absurd hi (by simp)⟩
  · have hX' : (⟨3358, ms, c, r, q, mo, mb⟩ : Msg) = ⟨3358, [], 0, 0, 0, [], mb⟩ := hX
    injection hX' with _ e1 e2 e3 e4 e5 _
    subst e1 e2 e3 e4 e5
    obtain ⟨s, z1, e1, h1⟩ := thn_inv hf
    obtain ⟨z3, e3⟩ := lst_was (L := obsL) e1
    exact ⟨w0, w0, w0, fun h => absurd h.1 (by decide), fun i hi => absurd hi (by simp), goodB_of (obsL_was e3)⟩
def boxD (k : Int) (bs : List Int) : List Int := wnNew 2 65535 k ++ wnNew 2 65535 bs.length ++ bs
def docBytes (M : Msg) : List Int := if inData M.kind = true then boxD 59136 (boxD M.kind (fldB M)) else boxD M.kind (fldB M)
theorem boxD_eq {k : Int} {bs : List Int} (hk : 0 ≤ k ∧ k ≤ 65535) (hb : bs.length ≤ 65535) : boxD k bs = boxB k bs := by
  unfold boxD boxB
  rw [(wn_yes (k := 2) (m := 65535) (x := k) ⟨hk.1, hk.2⟩).2, (wn_yes (k := 2) (m := 65535) (x := (bs.length : Int)) ⟨by omega, by omega⟩).2, List.append_assoc]
theorem pack_doc {M : Msg} (hk : alone M.kind = true ∨ inData M.kind = true) (hol : M.objs.length ≤ 16) (hbl : M.obs.length ≤ 64) (hbb : ∀ o ∈ M.obs, 0 ≤ o.b ∧ o.b < 4294967296) : (MayM M → packAll M = .ok ((), docBytes M)) ∧ (¬ MayM M → packAll M = .error 2) := by
  have hp : packAll M = packF M := by
    unfold packAll
    rw [if_neg (by rintro ⟨a, b⟩; rcases hk with h | h; rw [h] at a; cases a; rw [h] at b; cases b), if_neg (by omega)]
  refine ⟨fun hm => ?_, fun hm => ?_⟩
  · have hf := fields_may hm hk hol hbl hbb
    have hl := fields_short hf
    have hmsg := msg_mk hf hk (by omega)
    have hs : sameM M (keep M.kind M) = true := decide_eq_true (of_decide_eq_true hm.1).2 |> fun h => by
      obtain ⟨h1, h2, h3, h4, h5, h6, h7⟩ := of_decide_eq_true hm.1
      exact decide_eq_true ⟨h2, h3, h4, h5, h6, h7⟩
    have hkr : 0 ≤ M.kind ∧ M.kind ≤ 65535 := by
      rcases hk.imp of_decide_eq_true of_decide_eq_true with (h | h | h | h | h) | (h | h | h) <;> omega
    rw [hp]
    unfold packF
    rw [thn_ok hmsg, if_pos hs]
    unfold docBytes
    rw [boxD_eq hkr (by omega)]
    rw [boxD_eq (k := 59136) ⟨by decide, by decide⟩ (by rw [box_len]; omega)]
  · cases hpf : packF M with
    | ok v =>
      obtain ⟨u, ys⟩ := v
      exact absurd (may_of (pack_inv (hp.trans hpf)).1) hm
    | error c =>
      rw [hp, hpf, packF_err hpf]
end Go.Proofs.Ytigiakhdaaoljaa
/-
  The document's Pack.
-/
namespace Go.Proofs.Ytigiakhdaaoljaa
open Go.RowKit
set_option maxRecDepth 8000
/-- What is answered where bytes are asked. -/
def Byts (w w' : World) (e : Ending) (zs : List Int) : Prop := Bs zs ∧ zs.length ≤ 600 ∧ ∃ a c, e = .returned (.tuple #[.slice a zs.length c, .int .i64 0]) ∧ w'.ownsRow w.heap.size 5 1 (.slice a zs.length c) zs.length (u8s zs)
set_option maxHeartbeats 4000000 in
theorem rpack_any (w : World) (P : Nat → Prop) (M : Msg) (sa : Option Addr) (sc : Nat) (oa : Option Addr) (oc : Nat) (ba : Option Addr) (bc : Nat) (x : MsgX w P M sa sc oa oc ba bc) :
    Calls Try.prog 11 #[M.val sa sc oa oc ba bc] w fun e w' => After w w' ∧ Ends (packAll M) (fun _ zs => Byts w w' e zs) (fun c => e = .returned (.tuple #[.slice none 0 0, .int .i64 c])) := by
  obtain ⟨w0, hw0⟩ : ∃ w0, w.alloc (.cells (M.cells sa sc oa oc ba bc) 26) = w0 := ⟨_, rfl⟩
  have hA : After w w0 := by rw [← hw0]; exact After.rfl.alloc _
  have b0 : w0.heap[w.heap.size]? = some (.cells (M.cells sa sc oa oc ba bc) 26 (0, 0)) := by rw [← hw0]; exact new1 _ _
  have HK := hideIt (fun W => known_any W M.kind)
  have HE1 : Hid (alone M.kind = false → inData M.kind = false → packAll M = .error 2) := fun h1 h2 => if_pos ⟨h1, h2⟩
  have HE2 : Hid (alone M.kind = true ∨ inData M.kind = true → 16 < M.objs.length ∨ 64 < M.obs.length → packAll M = .error 5) := fun h1 h2 => by
    unfold packAll
    rw [if_neg (by rintro ⟨a, b⟩; rcases h1 with h | h; rw [h] at a; cases a; rw [h] at b; cases b), if_pos h2]
  have HE3 : Hid (alone M.kind = true ∨ inData M.kind = true → M.objs.length ≤ 16 → M.obs.length ≤ 64 → (MayM M → packAll M = .ok ((), docBytes M)) ∧ (¬ MayM M → packAll M = .error 2)) := fun h1 h2 h3 => pack_doc h1 h2 h3 x.bb
  have HM := hideIt (show alone M.kind = true ∨ inData M.kind = true → M.objs.length ≤ 16 → M.obs.length ≤ 64 → ∀ W, After w0 W → Calls Try.prog 30 #[M.val sa sc oa oc ba bc] W fun e w' => ∃ f, e = .returned (.bool f) ∧ (f = true ↔ MayM M) ∧ After W w' from fun h1 h2 h3 W hW => may_any W P M sa sc oa oc ba bc (x.after (hA.trans hW)) h1 (by omega) (by omega))
  have HF := hideIt (show alone M.kind = true ∨ inData M.kind = true → M.objs.length ≤ 16 → M.obs.length ≤ 64 → ∀ W, After w0 W → Calls Try.prog 32 #[M.val sa sc oa oc ba bc] W fun e w' => Flds W w' e (fldB M) from fun h1 h2 h3 W hW => fields_all W P M sa sc oa oc ba bc (x.after (hA.trans hW)) h1 h2 h3)
  have HDB := hideIt (show ∀ zs, packAll M = .ok ((), zs) → zs.length ≤ 600 from fun zs h => pack_short h)
  have HDO := hideIt (show docBytes M = if inData M.kind = true then boxD 59136 (boxD M.kind (fldB M)) else boxD M.kind (fldB M) from rfl)
  unfold Msg.cells at b0 hw0
  obtain ⟨_, ⟨g0, g1, g2, g3, g4, g5, g6⟩, _⟩ := seven_at b0
  have HX := hideIt (And.intro hA (And.intro b0 (show w.heap.size < w0.heap.size by rw [← hw0, World.size_alloc]; omega)))
  have HW := hideIt hw0
  clear x hA b0 hw0
  generalize hPA : packAll M = PA at HE1 HE2 HE3 HDB ⊢
  generalize hDB : docBytes M = DB at HE3 HDO
  generalize hFB : fldB M = FB at HF HDO
  generalize hMM : MayM M = MM at HE3 HM
  obtain ⟨d1, h1⟩ : ∃ d, alone M.kind = d := ⟨_, rfl⟩
  obtain ⟨d2, h2⟩ : ∃ d, inData M.kind = d := ⟨_, rfl⟩
  rw [h1] at HK HE1 HE2 HE3 HM HF
  rw [h2] at HK HE1 HE2 HE3 HM HF HDO
  have HNN := hideIt (show ¬ (d1 = true ∧ d2 = true) from fun h => by rw [← h1, ← h2] at h; have := (alone_not h.1).1; rw [h.2] at this; cases this)
  clear h1 h2 hPA hDB hFB hMM
  unfold Msg.val at HM HF
  unfold Msg.val
  obtain ⟨k, ms, c, r, q, mo, mb⟩ := M
  dsimp only at HK HE1 HE2 HE3 HM HF HX HW HDO g0 g1 g2 g3 g4 g5 g6 ⊢
  generalize ms.length = s at HM HF HX HW g1 ⊢
  generalize mo.length = o at HE2 HE3 HM HF HX HW g5 ⊢
  generalize mb.length = b at HE2 HE3 HM HF HX HW g6 ⊢
  cases d1 with
  | false =>
    cases d2 with
    | false =>
      have e := hideIt (HE1.out rfl rfl)
      clear HE1 HE2 HE3 HM HF HDB HDO
      go_enter Try.func11, Try.ntmps11
      go_wp2_with fail
      rw [HW.out]
      refine (HK.out _).mono ?_
      rintro e w9 ⟨rfl, hw9⟩
      have hw8 := hw9.symm
      subst hw8
      simp only [Bool.or_self]
      go_wp2_with fail
      go_ret2
      exact ⟨HX.out.1, Ends.bad e.out rfl⟩
    | true =>
      have e2 := hideIt (HE2.out (.inr rfl))
      have e3 := hideIt (HE3.out (.inr rfl))
      have hm := hideIt (HM.out (.inr rfl))
      have hf := hideIt (HF.out (.inr rfl))
      clear HE1 HE2 HE3 HM HF
      go_enter Try.func11, Try.ntmps11
      go_wp2_with fail
      rw [HW.out]
      refine (HK.out _).mono ?_
      rintro e w9 ⟨rfl, hw9⟩
      have hw8 := hw9.symm
      subst hw8
      simp only [Bool.or_true]
      by_cases hl1 : (16 : Int) < (o : Int)
      · have e := hideIt (e2.out (by omega))
        clear e2 e3 hm hf HDB HDO
        go_wp2_with fail
        go_ret2
        exact ⟨HX.out.1, Ends.bad e.out rfl⟩
      by_cases hl2 : (64 : Int) < (b : Int)
      · have e := hideIt (e2.out (by omega))
        clear e2 e3 hm hf HDB HDO
        go_wp2_with fail
        go_ret2
        exact ⟨HX.out.1, Ends.bad e.out rfl⟩
      have e4 := hideIt (e3.out (by omega) (by omega))
      have hm2 := hideIt (hm.out (by omega) (by omega))
      have hf2 := hideIt (hf.out (by omega) (by omega))
      clear e2 e3 hm hf
      go_wp2_with fail
      refine (hm2.out _ After.rfl).mono ?_
      clear hm2
      rintro e w3 ⟨f, rfl, hff, h3⟩
      cases f with
      | false =>
        have e := hideIt (e4.out.2 (fun h => by have := hff.2 h; cases this))
        have HZ := hideIt (HX.out.1.trans h3)
        clear e4 hf2 HDB HDO hff h3
        go_wp2_with fail
        go_ret2
        exact ⟨HZ.out, Ends.bad e.out rfl⟩
      | true =>
        have e := hideIt (e4.out.1 (hff.1 rfl))
        have hdl := hideIt (HDB.out _ e.out)
        have hb3 := keep2 HX.out.2.1 h3
        clear g0 g1 g2 g3 g4 g5 g6
        obtain ⟨_, ⟨g0, g1, g2, g3, g4, g5, g6⟩, _⟩ := seven_at hb3
        have HA3 := hideIt h3
        clear e4 HDB hff h3 hb3
        go_wp2_with fail
        refine wp_region_held_drew (S := (fun W => W.cell? ⟨w.heap.size, 0, none⟩ = some (.int .i64 k) ∧ W.cell? ⟨w.heap.size, 1, none⟩ = some (.slice sa s sc) ∧ W.cell? ⟨w.heap.size, 2, none⟩ = some (.int .i64 c) ∧ W.cell? ⟨w.heap.size, 3, none⟩ = some (.int .i64 r) ∧ W.cell? ⟨w.heap.size, 4, none⟩ = some (.int .i64 q) ∧ W.cell? ⟨w.heap.size, 5, none⟩ = some (.slice oa o oc) ∧ W.cell? ⟨w.heap.size, 6, none⟩ = some (.slice ba b bc) ∧ After w0 W ∧ w.heap.size < W.heap.size)) rfl ⟨g0, g1, g2, g3, g4, g5, g6, HA3.out.draws 1, by rw [World.size_drew]; exact Nat.lt_of_lt_of_le HX.out.2.2 HA3.out.size⟩ (fun hHeld => ?_)
        generalize w3.drew = w4 at hHeld ⊢
        clear g0 g1 g2 g3 g4 g5 g6 HA3
        refine' takeD (i := 0) (d := some 28) (v := _) rfl rfl (by kernel_rfl) (by kernel_rfl) (by kernel_rfl) (fun _ _ _ h => h) (by rfl) hHeld (fun w hSw => ?_) ?_
        rotate_left 1
        · (try dsimp only at hSw)
          go_simp
          try with_reducible rfl
        try simp only [Act.put, List.setIfInBounds_toArray, List.set_cons_zero, List.set_cons_succ]
        refine' takeD (i := 1) (d := some 29) (v := _) rfl rfl (by kernel_rfl) (by kernel_rfl) (by kernel_rfl) (fun _ _ _ h => h) (by rfl) hHeld (fun w hSw => ?_) ?_
        rotate_left 1
        · (try dsimp only at hSw)
          go_simp
          try with_reducible rfl
        try simp only [Act.put, List.setIfInBounds_toArray, List.set_cons_zero, List.set_cons_succ]
        refine' takeD (i := 2) (d := some 30) (v := _) rfl rfl (by kernel_rfl) (by kernel_rfl) (by kernel_rfl) (fun _ _ _ h => h) (by rfl) hHeld (fun w hSw => ?_) ?_
        rotate_left 1
        · (try dsimp only at hSw)
          go_simp
          try with_reducible rfl
        try simp only [Act.put, List.setIfInBounds_toArray, List.set_cons_zero, List.set_cons_succ]
        refine wpAnyH_ready (rs := [3]) (by kernel_rfl) (by simp) ?_
        refine AllReadyH.cons rfl (fun K hK => ?_) AllReadyH.nil
        go_simp
        refine (hf2.out _ hHeld.2.2.2.2.2.2.2.1).mono ?_
        clear hf2
        rintro e w5 ⟨v5, rfl, o5, bs5, h5⟩
        obtain ⟨a5, c5, rfl, r5, n5, _, _⟩ := own_row o5 bs5
        have H5 := hideIt (And.intro r5 n5)
        clear o5 bs5 r5 n5
        generalize hfl : FB.length = nf at H5 ⊢
        have HFL := hideIt hfl
        clear hfl
        try go_wp2_with fail
        refine hK.out _ _ ?_ (fun hHeld3 => ?_)
        · exact ⟨by rw [h5.cell hHeld.2.2.2.2.2.2.2.2]; exact hHeld.1, by rw [h5.cell hHeld.2.2.2.2.2.2.2.2]; exact hHeld.2.1, by rw [h5.cell hHeld.2.2.2.2.2.2.2.2]; exact hHeld.2.2.1, by rw [h5.cell hHeld.2.2.2.2.2.2.2.2]; exact hHeld.2.2.2.1, by rw [h5.cell hHeld.2.2.2.2.2.2.2.2]; exact hHeld.2.2.2.2.1, by rw [h5.cell hHeld.2.2.2.2.2.2.2.2]; exact hHeld.2.2.2.2.2.1, by rw [h5.cell hHeld.2.2.2.2.2.2.2.2]; exact hHeld.2.2.2.2.2.2.1, hHeld.2.2.2.2.2.2.2.1.trans h5, Nat.lt_of_lt_of_le hHeld.2.2.2.2.2.2.2.2 h5.size⟩
        clear hK K
        try simp only [Act.put, List.setIfInBounds_toArray, List.set_cons_zero, List.set_cons_succ]
        have hnf : nf ≤ 600 := by
          have h9 := hdl.out
          rw [HDO.out] at h9
          rw [← HFL.out]
          simp only [if_true, boxD, List.length_append] at h9
          omega
        refine wpAnyH_ready (rs := [4]) (by kernel_rfl) (by simp) ?_
        refine AllReadyH.cons rfl (fun K hK => ?_) AllReadyH.nil
        go_simp
        refine (box_any _ k a5 nf c5 FB H5.out.1 H5.out.2 (by omega)).mono ?_
        rintro e w6 ⟨v6, rfl, o6, bs6, h6⟩
        rw [← HFL.out] at o6 bs6
        have o6' : w6.ownsRow w5.heap.size 5 1 v6 (boxD k FB).length (u8s (boxD k FB)) := o6
        have bs6' : Bs (boxD k FB) := bs6
        obtain ⟨a6, c6, rfl, r6, n6, _, _⟩ := own_row o6' bs6'
        have H6 := hideIt (And.intro r6 (And.intro n6 (And.intro (own_base o6' (fun k' hk => Nat.le_trans (Nat.le_trans HX.out.1.size hHeld3.2.2.2.2.2.2.2.1.size) (o6'.lt k' hk).1)) bs6')))
        clear o6 bs6 r6 n6 o6' bs6' H5
        generalize hgl : (boxD k FB).length = ng at H6 ⊢
        have HGL := hideIt hgl
        clear hgl
        try go_wp2_with fail
        refine hK.out _ _ ?_ (fun hHeld4 => ?_)
        · exact ⟨by rw [h6.cell hHeld3.2.2.2.2.2.2.2.2]; exact hHeld3.1, by rw [h6.cell hHeld3.2.2.2.2.2.2.2.2]; exact hHeld3.2.1, by rw [h6.cell hHeld3.2.2.2.2.2.2.2.2]; exact hHeld3.2.2.1, by rw [h6.cell hHeld3.2.2.2.2.2.2.2.2]; exact hHeld3.2.2.2.1, by rw [h6.cell hHeld3.2.2.2.2.2.2.2.2]; exact hHeld3.2.2.2.2.1, by rw [h6.cell hHeld3.2.2.2.2.2.2.2.2]; exact hHeld3.2.2.2.2.2.1, by rw [h6.cell hHeld3.2.2.2.2.2.2.2.2]; exact hHeld3.2.2.2.2.2.2.1, hHeld3.2.2.2.2.2.2.2.1.trans h6, Nat.lt_of_lt_of_le hHeld3.2.2.2.2.2.2.2.2 h6.size⟩
        clear hK K
        try simp only [Act.put, List.setIfInBounds_toArray, List.set_cons_zero, List.set_cons_succ]
        refine wpAnyH_ready (rs := [5]) (by kernel_rfl) (by simp) ?_
        refine AllReadyH.cons rfl (fun K hK => ?_) AllReadyH.nil
        go_simp
        try go_wp2_with fail
        refine hK.out _ _ ?_ (fun hHeld5 => ?_)
        · exact hHeld4
        clear hK K
        try simp only [Act.put, List.setIfInBounds_toArray, List.set_cons_zero, List.set_cons_succ]
        refine wpAnyH_done (by kernel_rfl) ?_ _
        have HA6 := hideIt (HX.out.1.trans hHeld5.2.2.2.2.2.2.2.1)
        have HB6 := hideIt (HX.out.1.size)
        clear hHeld hHeld3 hHeld4 hHeld5 h5 h6
        have hng : ng ≤ 600 := by
          have h9 := hdl.out
          rw [HDO.out] at h9
          rw [← HGL.out]
          simp only [if_true] at h9
          unfold boxD at h9 ⊢
          simp only [List.length_append] at h9 ⊢
          omega
        go_wp2_with fail
        refine (box_any _ 59136 a6 ng c6 (boxD k FB) H6.out.1 H6.out.2.1 (by omega)).mono ?_
        rintro e w7 ⟨v7, rfl, o7, bs7, h7⟩
        rw [← HGL.out] at o7 bs7
        have hDB : DB = boxD 59136 (boxD k FB) := HDO.out.trans (if_pos (by first | rfl | trivial))
        have o7' : w7.ownsRow w6.heap.size 5 1 v7 DB.length (u8s DB) := by rw [hDB]; exact o7
        have bs7' : Bs DB := by rw [hDB]; exact bs7
        obtain ⟨a7, c7, rfl⟩ := own_slice o7'
        have H7 := hideIt (And.intro (own_base o7' (fun k' hk => Nat.le_trans HA6.out.size (o7'.lt k' hk).1)) (And.intro bs7' (HA6.out.trans h7)))
        clear o7 bs7 o7' bs7' h7 hDB
        generalize hml : DB.length = nm at H7 ⊢
        have HML := hideIt hml
        clear hml
        go_wp2_with fail
        go_ret2
        obtain ⟨o7, bs7, a7'⟩ := H7.out
        refine ⟨a7', Ends.ok e.out ?_⟩
        rw [← HML.out] at o7 ⊢
        exact ⟨bs7, hdl.out, a7, c7, rfl, o7⟩
  | true =>
    cases d2 with
    | false =>
      have e2 := hideIt (HE2.out (.inl rfl))
      have e3 := hideIt (HE3.out (.inl rfl))
      have hm := hideIt (HM.out (.inl rfl))
      have hf := hideIt (HF.out (.inl rfl))
      clear HE1 HE2 HE3 HM HF
      go_enter Try.func11, Try.ntmps11
      go_wp2_with fail
      rw [HW.out]
      refine (HK.out _).mono ?_
      rintro e w9 ⟨rfl, hw9⟩
      have hw8 := hw9.symm
      subst hw8
      simp only [Bool.or_false]
      by_cases hl1 : (16 : Int) < (o : Int)
      · have e := hideIt (e2.out (by omega))
        clear e2 e3 hm hf HDB HDO
        go_wp2_with fail
        go_ret2
        exact ⟨HX.out.1, Ends.bad e.out rfl⟩
      by_cases hl2 : (64 : Int) < (b : Int)
      · have e := hideIt (e2.out (by omega))
        clear e2 e3 hm hf HDB HDO
        go_wp2_with fail
        go_ret2
        exact ⟨HX.out.1, Ends.bad e.out rfl⟩
      have e4 := hideIt (e3.out (by omega) (by omega))
      have hm2 := hideIt (hm.out (by omega) (by omega))
      have hf2 := hideIt (hf.out (by omega) (by omega))
      clear e2 e3 hm hf
      go_wp2_with fail
      refine (hm2.out _ After.rfl).mono ?_
      clear hm2
      rintro e w3 ⟨f, rfl, hff, h3⟩
      cases f with
      | false =>
        have e := hideIt (e4.out.2 (fun h => by have := hff.2 h; cases this))
        have HZ := hideIt (HX.out.1.trans h3)
        clear e4 hf2 HDB HDO hff h3
        go_wp2_with fail
        go_ret2
        exact ⟨HZ.out, Ends.bad e.out rfl⟩
      | true =>
        have e := hideIt (e4.out.1 (hff.1 rfl))
        have hdl := hideIt (HDB.out _ e.out)
        have hb3 := keep2 HX.out.2.1 h3
        clear g0 g1 g2 g3 g4 g5 g6
        obtain ⟨_, ⟨g0, g1, g2, g3, g4, g5, g6⟩, _⟩ := seven_at hb3
        have HA3 := hideIt h3
        clear e4 HDB hff h3 hb3
        go_wp2_with fail
        refine wp_region_held_drew (S := (fun W => W.cell? ⟨w.heap.size, 0, none⟩ = some (.int .i64 k) ∧ W.cell? ⟨w.heap.size, 1, none⟩ = some (.slice sa s sc) ∧ W.cell? ⟨w.heap.size, 2, none⟩ = some (.int .i64 c) ∧ W.cell? ⟨w.heap.size, 3, none⟩ = some (.int .i64 r) ∧ W.cell? ⟨w.heap.size, 4, none⟩ = some (.int .i64 q) ∧ W.cell? ⟨w.heap.size, 5, none⟩ = some (.slice oa o oc) ∧ W.cell? ⟨w.heap.size, 6, none⟩ = some (.slice ba b bc) ∧ After w0 W ∧ w.heap.size < W.heap.size)) rfl ⟨g0, g1, g2, g3, g4, g5, g6, HA3.out.draws 1, by rw [World.size_drew]; exact Nat.lt_of_lt_of_le HX.out.2.2 HA3.out.size⟩ (fun hHeld => ?_)
        generalize w3.drew = w4 at hHeld ⊢
        clear g0 g1 g2 g3 g4 g5 g6 HA3
        refine' takeD (i := 0) (d := some 28) (v := _) rfl rfl (by kernel_rfl) (by kernel_rfl) (by kernel_rfl) (fun _ _ _ h => h) (by rfl) hHeld (fun w hSw => ?_) ?_
        rotate_left 1
        · (try dsimp only at hSw)
          go_simp
          try with_reducible rfl
        try simp only [Act.put, List.setIfInBounds_toArray, List.set_cons_zero, List.set_cons_succ]
        refine' takeD (i := 1) (d := some 29) (v := _) rfl rfl (by kernel_rfl) (by kernel_rfl) (by kernel_rfl) (fun _ _ _ h => h) (by rfl) hHeld (fun w hSw => ?_) ?_
        rotate_left 1
        · (try dsimp only at hSw)
          go_simp
          try with_reducible rfl
        try simp only [Act.put, List.setIfInBounds_toArray, List.set_cons_zero, List.set_cons_succ]
        refine' takeD (i := 2) (d := some 30) (v := _) rfl rfl (by kernel_rfl) (by kernel_rfl) (by kernel_rfl) (fun _ _ _ h => h) (by rfl) hHeld (fun w hSw => ?_) ?_
        rotate_left 1
        · (try dsimp only at hSw)
          go_simp
          try with_reducible rfl
        try simp only [Act.put, List.setIfInBounds_toArray, List.set_cons_zero, List.set_cons_succ]
        refine wpAnyH_ready (rs := [3]) (by kernel_rfl) (by simp) ?_
        refine AllReadyH.cons rfl (fun K hK => ?_) AllReadyH.nil
        go_simp
        refine (hf2.out _ hHeld.2.2.2.2.2.2.2.1).mono ?_
        clear hf2
        rintro e w5 ⟨v5, rfl, o5, bs5, h5⟩
        obtain ⟨a5, c5, rfl, r5, n5, _, _⟩ := own_row o5 bs5
        have H5 := hideIt (And.intro r5 n5)
        clear o5 bs5 r5 n5
        generalize hfl : FB.length = nf at H5 ⊢
        have HFL := hideIt hfl
        clear hfl
        try go_wp2_with fail
        refine hK.out _ _ ?_ (fun hHeld3 => ?_)
        · exact ⟨by rw [h5.cell hHeld.2.2.2.2.2.2.2.2]; exact hHeld.1, by rw [h5.cell hHeld.2.2.2.2.2.2.2.2]; exact hHeld.2.1, by rw [h5.cell hHeld.2.2.2.2.2.2.2.2]; exact hHeld.2.2.1, by rw [h5.cell hHeld.2.2.2.2.2.2.2.2]; exact hHeld.2.2.2.1, by rw [h5.cell hHeld.2.2.2.2.2.2.2.2]; exact hHeld.2.2.2.2.1, by rw [h5.cell hHeld.2.2.2.2.2.2.2.2]; exact hHeld.2.2.2.2.2.1, by rw [h5.cell hHeld.2.2.2.2.2.2.2.2]; exact hHeld.2.2.2.2.2.2.1, hHeld.2.2.2.2.2.2.2.1.trans h5, Nat.lt_of_lt_of_le hHeld.2.2.2.2.2.2.2.2 h5.size⟩
        clear hK K
        try simp only [Act.put, List.setIfInBounds_toArray, List.set_cons_zero, List.set_cons_succ]
        have hnf : nf ≤ 600 := by
          have h9 := hdl.out
          rw [HDO.out] at h9
          rw [← HFL.out]
          simp only [Bool.false_eq_true, if_false, boxD, List.length_append] at h9
          omega
        refine wpAnyH_ready (rs := [4]) (by kernel_rfl) (by simp) ?_
        refine AllReadyH.cons rfl (fun K hK => ?_) AllReadyH.nil
        go_simp
        refine (box_any _ k a5 nf c5 FB H5.out.1 H5.out.2 (by omega)).mono ?_
        rintro e w6 ⟨v6, rfl, o6, bs6, h6⟩
        rw [← HFL.out] at o6 bs6
        have o6' : w6.ownsRow w5.heap.size 5 1 v6 (boxD k FB).length (u8s (boxD k FB)) := o6
        have bs6' : Bs (boxD k FB) := bs6
        obtain ⟨a6, c6, rfl, r6, n6, _, _⟩ := own_row o6' bs6'
        have H6 := hideIt (And.intro r6 (And.intro n6 (And.intro (own_base o6' (fun k' hk => Nat.le_trans (Nat.le_trans HX.out.1.size hHeld3.2.2.2.2.2.2.2.1.size) (o6'.lt k' hk).1)) bs6')))
        clear o6 bs6 r6 n6 o6' bs6' H5
        generalize hgl : (boxD k FB).length = ng at H6 ⊢
        have HGL := hideIt hgl
        clear hgl
        try go_wp2_with fail
        refine hK.out _ _ ?_ (fun hHeld4 => ?_)
        · exact ⟨by rw [h6.cell hHeld3.2.2.2.2.2.2.2.2]; exact hHeld3.1, by rw [h6.cell hHeld3.2.2.2.2.2.2.2.2]; exact hHeld3.2.1, by rw [h6.cell hHeld3.2.2.2.2.2.2.2.2]; exact hHeld3.2.2.1, by rw [h6.cell hHeld3.2.2.2.2.2.2.2.2]; exact hHeld3.2.2.2.1, by rw [h6.cell hHeld3.2.2.2.2.2.2.2.2]; exact hHeld3.2.2.2.2.1, by rw [h6.cell hHeld3.2.2.2.2.2.2.2.2]; exact hHeld3.2.2.2.2.2.1, by rw [h6.cell hHeld3.2.2.2.2.2.2.2.2]; exact hHeld3.2.2.2.2.2.2.1, hHeld3.2.2.2.2.2.2.2.1.trans h6, Nat.lt_of_lt_of_le hHeld3.2.2.2.2.2.2.2.2 h6.size⟩
        clear hK K
        try simp only [Act.put, List.setIfInBounds_toArray, List.set_cons_zero, List.set_cons_succ]
        refine wpAnyH_ready (rs := [5]) (by kernel_rfl) (by simp) ?_
        refine AllReadyH.cons rfl (fun K hK => ?_) AllReadyH.nil
        go_simp
        try go_wp2_with fail
        refine hK.out _ _ ?_ (fun hHeld5 => ?_)
        · exact hHeld4
        clear hK K
        try simp only [Act.put, List.setIfInBounds_toArray, List.set_cons_zero, List.set_cons_succ]
        refine wpAnyH_done (by kernel_rfl) ?_ _
        have HA6 := hideIt (HX.out.1.trans hHeld5.2.2.2.2.2.2.2.1)
        have HB6 := hideIt (HX.out.1.size)
        clear hHeld hHeld3 hHeld4 hHeld5 h5 h6
        go_wp2_with fail
        go_ret2
        have hDB : DB = boxD k FB := HDO.out.trans (if_neg (by first | decide | exact fun h => h))
        obtain ⟨r6, n6, o6, bs6⟩ := H6.out
        refine ⟨HA6.out, Ends.ok e.out ?_⟩
        have hl := hdl.out
        rw [hDB] at hl ⊢
        rw [← HGL.out] at o6 ⊢
        exact ⟨bs6, hl, a6, c6, rfl, o6⟩
    | true =>
      exact absurd ⟨rfl, rfl⟩ HNN.out
end Go.Proofs.Ytigiakhdaaoljaa
