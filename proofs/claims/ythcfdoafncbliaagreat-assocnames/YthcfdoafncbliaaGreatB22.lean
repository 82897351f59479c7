/-
  Laid together: PureP, MgI, MgJ, LmA.
-/
import Derived.Test.YthcfdoafncbliaaGreatB19
import Derived.Test.YthcfdoafncbliaaGreatB21
import Derived.Test.YthcfdoafncbliaaGreatB10
import Derived.Test.YthcfdoafncbliaaGreatB17
import Derived.Maps.RangeWalk
import Derived.Test.YthcfdoafncbliaaGreatB18
/-
  What the program packs is what the document packs.
-/
namespace Go.Proofs.YthcfdoafncbliaaGreat
open Go.RowKit
set_option maxRecDepth 8000
theorem wd_of {n : Int} (h : wd n = true) : 0 ≤ n ∧ n ≤ (65535 : Nat) := by have := of_decide_eq_true h; omega
theorem wd_mk {n : Int} (h : 0 ≤ n ∧ n ≤ (65535 : Nat)) : wd n = true := decide_eq_true (by omega)
theorem num_may {n : Int} (zs : List Int) (h : wd n = true) : num true 2 65535 n zs = .ok (n, zs ++ wnNew 2 65535 n) := by rw [num_w (wd_of h), (wn_yes (wd_of h)).2]
theorem num_was {n x : Int} {zs ys : List Int} (h : num true 2 65535 n zs = .ok (x, ys)) : wd n = true := by
  by_cases hn : 0 ≤ n ∧ n ≤ (65535 : Nat)
  · exact wd_mk hn
  · rw [num_wn hn] at h; cases h
theorem eit_may (l : Bool) (y n : Int) (hy : 0 ≤ y ∧ y ≤ (255 : Nat)) (hn : 0 ≤ n ∧ n ≤ (255 : Nat)) (hne : n ≠ y) (zs : List Int) : eit true l y n zs = .ok (l, zs ++ wnNew 1 255 (if l = true then y else n)) := by
  have hv : 0 ≤ (if l = true then y else n) ∧ (if l = true then y else n) ≤ (255 : Nat) := by split <;> assumption
  unfold eit
  rw [thn_ok (num_w hv), (wn_yes hv).2]
  cases l
  · rw [if_pos (.inr rfl)]
    exact congrArg Except.ok (congrArg (·, _) (decide_eq_false hne))
  · rw [if_pos (.inl rfl)]
    exact congrArg Except.ok (congrArg (·, _) (decide_eq_true rfl))
theorem obs1_may (o : Bi) (zs : List Int) (h1 : wd o.h = true) (h2 : o.l = false → o.b ≤ 65535) (hb : 0 ≤ o.b ∧ o.b < 4294967296) : obs1 true o zs = .ok (o, zs ++ obsB o) := by
  obtain ⟨h, l, b⟩ := o
  dsimp only at h1 h2 hb
  unfold obs1 obsB
  dsimp only
  rw [thn_ok (num_may zs h1), thn_ok (eit_may l 4 2 (by decide) (by decide) (by decide) _)]
  cases l
  · have hw : wd b = true := wd_mk ⟨hb.1, by have := h2 rfl; omega⟩
    simp only [Bool.false_eq_true, if_false]
    rw [thn_ok (num_may _ hw)]
    simp only [List.append_assoc]
    rfl
  · simp only [if_true]
    rw [thn_ok (num_w (k := 4) (M := 4294967295) ⟨hb.1, by have := hb.2; omega⟩)]
    simp only [List.append_assoc]
    rfl
theorem obj1_may (hs : List Int) (o : Ob) (zs : List Int) (h1 : wd o.h = true) (h2 : wd o.u = true) (hn : o.h ∉ hs) : obj1 true hs o zs = .ok (o, zs ++ objB o) := by
  obtain ⟨h, u, l⟩ := o
  dsimp only at h1 h2 hn
  unfold obj1 objB
  dsimp only
  rw [thn_ok (num_may zs h1), if_neg hn, thn_ok (num_may _ h2), thn_ok (eit_may l 1 0 (by decide) (by decide) (by decide) _)]
  simp only [List.append_assoc]
theorem obsL_may (l : List Bi) (zs : List Int) (h : ∀ o ∈ l, wd o.h = true ∧ (o.l = false → o.b ≤ 65535) ∧ 0 ≤ o.b ∧ o.b < 4294967296) : obsL true l zs = .ok (l, zs ++ l.flatMap obsB) := by
  induction l generalizing zs with
  | nil => unfold obsL; simp
  | cons o r ih =>
    obtain ⟨h1, h2, h3⟩ := h o (by simp)
    unfold obsL
    rw [thn_ok (obs1_may o zs h1 h2 h3), thn_ok (ih _ (fun o ho => h o (List.mem_cons_of_mem _ ho)))]
    rw [List.flatMap_cons, List.append_assoc]
theorem objL_may (hs : List Int) (l : List Ob) (zs : List Int) (h : ∀ o ∈ l, wd o.h = true ∧ wd o.u = true ∧ o.h ∉ hs) (hp : l.Pairwise (fun a b => a.h ≠ b.h)) : objL true hs l zs = .ok (l, zs ++ l.flatMap objB) := by
  induction l generalizing zs hs with
  | nil => unfold objL; simp
  | cons o r ih =>
    obtain ⟨h1, h2, h3⟩ := h o (by simp)
    obtain ⟨p1, p2⟩ := List.pairwise_cons.1 hp
    unfold objL
    rw [thn_ok (obj1_may hs o zs h1 h2 h3), thn_ok (ih _ _ (fun o' ho => ⟨(h o' (List.mem_cons_of_mem _ ho)).1, (h o' (List.mem_cons_of_mem _ ho)).2.1, fun hm => by
      rcases List.mem_append.1 hm with hm | hm
      · exact (h o' (List.mem_cons_of_mem _ ho)).2.2 hm
      · exact p1 o' ho (List.mem_singleton.1 hm).symm⟩) p2)]
    rw [List.flatMap_cons, List.append_assoc]
theorem len_wd {n : Nat} (h : n ≤ 64) : wd (n : Int) = true := wd_mk ⟨by omega, by omega⟩
theorem lstB_may (l : List Bi) (zs : List Int) (hl : l.length ≤ 64) (h : ∀ o ∈ l, wd o.h = true ∧ (o.l = false → o.b ≤ 65535) ∧ 0 ≤ o.b ∧ o.b < 4294967296) : lstB true l zs = .ok (l, zs ++ (wnNew 2 65535 l.length ++ l.flatMap obsB)) := by
  unfold lstB
  rw [thn_ok (num_may zs (len_wd hl)), if_neg (by omega), Int.toNat_natCast, fillOf_self, obsL_may l _ h, List.append_assoc]
theorem lstO_may (l : List Ob) (zs : List Int) (hl : l.length ≤ 16) (h : ∀ o ∈ l, wd o.h = true ∧ wd o.u = true) (hp : l.Pairwise (fun a b => a.h ≠ b.h)) : lstO true l zs = .ok (l, zs ++ (wnNew 2 65535 l.length ++ l.flatMap objB)) := by
  unfold lstO
  rw [thn_ok (num_may zs (len_wd (by omega))), if_neg (by omega), Int.toNat_natCast, fillOf_self, objL_may [] l _ (fun o ho => ⟨(h o ho).1, (h o ho).2, by simp⟩) hp, List.append_assoc]
theorem goodO_all {l : List Ob} (h : ∀ i, i < l.length → goodO l i) : (∀ o ∈ l, wd o.h = true ∧ wd o.u = true) ∧ l.Pairwise (fun a b => a.h ≠ b.h) := by
  refine ⟨fun o ho => ?_, List.pairwise_iff_getElem.2 fun i j hi hj hij => ?_⟩
  · obtain ⟨i, hi, rfl⟩ := List.mem_iff_getElem.1 ho
    have := h i hi _ (List.getElem?_eq_getElem hi)
    exact ⟨this.1, this.2.1⟩
  · exact (h j hj _ (List.getElem?_eq_getElem hj)).2.2 i _ hij (List.getElem?_eq_getElem hi)
theorem goodB_all {l : List Bi} (h : ∀ i, i < l.length → goodB l i) : ∀ o ∈ l, wd o.h = true ∧ (o.l = false → o.b ≤ 65535) := by
  intro o ho
  obtain ⟨i, hi, rfl⟩ := List.mem_iff_getElem.1 ho
  exact h i hi _ (List.getElem?_eq_getElem hi)
theorem objL_was {hs : List Int} {l x : List Ob} {zs ys : List Int} (h : objL true hs l zs = .ok (x, ys)) : (∀ o ∈ l, wd o.h = true ∧ wd o.u = true ∧ o.h ∉ hs) ∧ l.Pairwise (fun a b => a.h ≠ b.h) := by
  induction l generalizing hs zs x ys with
  | nil => exact ⟨fun o ho => (by cases ho), List.Pairwise.nil⟩
  | cons o r ih =>
    obtain ⟨a, z1, e1, h1⟩ := thn_inv h
    obtain ⟨b, z2, e2, h2⟩ := thn_inv h1
    have hao : a = o := ((obj1_dual hs).back e1).1
    subst hao
    obtain ⟨i1, i2⟩ := ih e2
    have ha : wd a.h = true ∧ wd a.u = true ∧ a.h ∉ hs := by
      obtain ⟨h', z3, f1, g1⟩ := thn_inv e1
      have w1 := num_was f1
      obtain ⟨rfl, _⟩ := dual2.back f1
      dsimp only [id] at g1
      split at g1
      · cases g1
      · rename_i hm
        obtain ⟨u', z4, f2, g2⟩ := thn_inv g1
        exact ⟨w1, num_was f2, hm⟩
    refine ⟨fun o' ho => ?_, List.pairwise_cons.2 ⟨fun o' ho e => ?_, i2⟩⟩
    · rcases List.mem_cons.1 ho with rfl | ho
      · exact ha
      · obtain ⟨q1, q2, q3⟩ := i1 o' ho
        exact ⟨q1, q2, fun hm => q3 (List.mem_append_left _ hm)⟩
    · exact (i1 o' ho).2.2 (List.mem_append_right _ (List.mem_singleton.2 e.symm))
theorem obsL_was {l x : List Bi} {zs ys : List Int} (h : obsL true l zs = .ok (x, ys)) : ∀ o ∈ l, wd o.h = true ∧ (o.l = false → o.b ≤ 65535) := by
  induction l generalizing zs x ys with
  | nil => exact fun o ho => (by cases ho)
  | cons o r ih =>
    obtain ⟨a, z1, e1, h1⟩ := thn_inv h
    obtain ⟨b, z2, e2, h2⟩ := thn_inv h1
    have i1 := ih e2
    intro o' ho
    rcases List.mem_cons.1 ho with rfl | ho
    · obtain ⟨h', z3, f1, g1⟩ := thn_inv e1
      obtain ⟨l', z4, f2, g2⟩ := thn_inv g1
      obtain ⟨b', z5, f3, g3⟩ := thn_inv g2
      obtain ⟨rfl, _⟩ := (eit_dual 4 2 (by decide) (by decide) (by decide)).back f2
      refine ⟨num_was f1, fun hl => ?_⟩
      rw [show (id o'.l) = o'.l from rfl, hl] at f3
      simp only [Bool.false_eq_true, if_false] at f3
      have := wd_of (num_was f3)
      omega
    · exact i1 o' ho
theorem goodO_of {l : List Ob} (h1 : ∀ o ∈ l, wd o.h = true ∧ wd o.u = true) (h2 : l.Pairwise (fun a b => a.h ≠ b.h)) : ∀ i, i < l.length → goodO l i := by
  intro i hi o ho
  have hm := List.mem_of_getElem? ho
  refine ⟨(h1 o hm).1, (h1 o hm).2, fun k o' hk ho' => ?_⟩
  have hkl : k < l.length := by omega
  have e := List.pairwise_iff_getElem.1 h2 k i hkl hi hk
  rw [List.getElem?_eq_getElem hkl] at ho'
  rw [List.getElem?_eq_getElem hi] at ho
  cases ho'
  cases ho
  exact e
theorem goodB_of {l : List Bi} (h1 : ∀ o ∈ l, wd o.h = true ∧ (o.l = false → o.b ≤ 65535)) : ∀ i, i < l.length → goodB l i := fun _i _ o ho => h1 o (List.mem_of_getElem? ho)
theorem lst_was {α : Type} {L : Goes (List α)} {z : α} {K : Nat} {all x : List α} {zs ys : List Int} (h : (thn (num true 2 65535 all.length zs) fun n zs => if n > K then .error (stp true 5) else L true (fillOf n.toNat all z) zs) = .ok (x, ys)) : ∃ z1, L true all z1 = .ok (x, ys) := by
  obtain ⟨n, z1, e1, h1⟩ := thn_inv h
  obtain ⟨rfl, _⟩ := dual2.back e1
  dsimp only [id] at h1
  split at h1
  · cases h1
  · rw [Int.toNat_natCast, fillOf_self] at h1
    exact ⟨z1, h1⟩
/-- What the fields of a message that may be are. -/
theorem fields_may {M : Msg} (hm : MayM M) (hk : alone M.kind = true ∨ inData M.kind = true) (hol : M.objs.length ≤ 16) (hbl : M.obs.length ≤ 64) (hbb : ∀ o ∈ M.obs, 0 ≤ o.b ∧ o.b < 4294967296) : fieldsF true M.kind M [] = .ok (keep M.kind M, fldB M) := by
  obtain ⟨_, hc, hr, hq, hs, ho, hb⟩ := hm
  obtain ⟨go, gp⟩ := goodO_all ho
  have gb := goodB_all hb
  obtain ⟨k, ms, c, r, q, mo, mb⟩ := M
  dsimp only at hc hr hq hs go gp gb hk hol hbl hbb ⊢
  rcases hk.imp of_decide_eq_true of_decide_eq_true with (rfl | rfl | rfl | rfl | rfl) | (rfl | rfl | rfl)
  · have h8 : ms.length = 8 := by
      by_cases h : ms.length = 8
      · exact h
      · exact absurd ⟨rfl, h⟩ hs
    show (thn (sysF true ms []) fun s zs => thn (num true 2 65535 c zs) fun c zs => .ok ((⟨57856, s, c, 0, 0, [], []⟩ : Msg), zs)) = .ok (⟨57856, ms, c, 0, 0, [], []⟩, woNew ms ++ wnNew 2 65535 c)
    have e1 : sysF true ms [] = .ok (ms, woNew ms) := by
      unfold sysF
      rw [thn_ok (oct_w (by omega)), if_pos h8, (wo_yes (by omega)).2, List.nil_append]
    rw [thn_ok e1, thn_ok (num_may _ hc)]
  · show (thn (num true 2 65535 r []) fun r zs => thn (num true 2 65535 c zs) fun c zs => .ok ((⟨58112, [], c, r, 0, [], []⟩ : Msg), zs)) = .ok (⟨58112, [], c, r, 0, [], []⟩, wnNew 2 65535 r ++ wnNew 2 65535 c)
    rw [thn_ok (num_may _ hr), thn_ok (num_may _ hc), List.nil_append]
  iterate 3
    · show (thn (num true 2 65535 q []) fun q zs => .ok ((⟨_, [], 0, 0, q, [], []⟩ : Msg), zs)) = .ok (⟨_, [], 0, 0, q, [], []⟩, wnNew 2 65535 q)
      rw [thn_ok (num_may _ hq), List.nil_append]
  · show (thn (num true 2 65535 c []) fun c zs => thn (lstO true mo zs) fun l zs => .ok ((⟨3356, [], c, 0, 0, l, []⟩ : Msg), zs)) = .ok (⟨3356, [], c, 0, 0, mo, []⟩, wnNew 2 65535 c ++ wnNew 2 65535 mo.length ++ mo.flatMap objB)
    rw [thn_ok (num_may _ hc), thn_ok (lstO_may mo _ hol go gp), List.nil_append]
    simp only [List.append_assoc]
  · show (thn (num true 2 65535 c []) fun c zs => thn (num true 2 65535 r zs) fun r zs => .ok ((⟨3357, [], c, r, 0, [], []⟩ : Msg), zs)) = .ok (⟨3357, [], c, r, 0, [], []⟩, wnNew 2 65535 c ++ wnNew 2 65535 r)
    rw [thn_ok (num_may _ hc), thn_ok (num_may _ hr), List.nil_append]
  · show (thn (lstB true mb []) fun l zs => .ok ((⟨3358, [], 0, 0, 0, [], l⟩ : Msg), zs)) = .ok (⟨3358, [], 0, 0, 0, [], mb⟩, wnNew 2 65535 mb.length ++ mb.flatMap obsB)
    rw [thn_ok (lstB_may mb _ hbl (fun o ho => ⟨(gb o ho).1, (gb o ho).2, hbb o ho⟩)), List.nil_append]
theorem msg_mk {M X : Msg} {bs : List Int} (h : fieldsF true M.kind M [] = .ok (X, bs)) (hk : alone M.kind = true ∨ inData M.kind = true) (hl : bs.length ≤ 60000) : msgF true M [] = .ok (X, if inData M.kind = true then boxB 59136 (boxB M.kind bs) else boxB M.kind bs) := by
  have hkr : 0 ≤ M.kind ∧ M.kind ≤ 65535 := by
    rcases hk.imp of_decide_eq_true of_decide_eq_true with (h | h | h | h | h) | (h | h | h) <;> omega
  show partW (insD true M) (outer M.kind) [] = _
  cases hd : inData M.kind with
  | true =>
    have ho : outer M.kind = 59136 := by unfold outer; rw [if_pos hd]
    have e1 : insF true inData M.kind M [] = .ok (X, bs) := by unfold insF; rw [if_pos hd]; exact h
    have e2 : insD true M 59136 [] = .ok (X, boxB M.kind bs) := by
      unfold insD
      rw [if_pos rfl, if_pos rfl]
      have := partW_do (ins := fun k zs => insF true inData k M zs) (zs := []) e1 hkr (by omega)
      rw [List.nil_append] at this
      exact this
    have := partW_do (ins := insD true M) (zs := []) e2 ⟨by decide, by decide⟩ (by rw [box_len]; omega)
    rw [List.nil_append] at this
    rw [ho, if_pos rfl]
    exact this
  | false =>
    have ha : alone M.kind = true := hk.resolve_right (by rw [hd]; decide)
    have ho : outer M.kind = M.kind := by unfold outer; rw [if_neg (by rw [hd]; decide)]
    have e1 : insD true M M.kind [] = .ok (X, bs) := by
      unfold insD insF
      rw [if_neg (alone_not ha).2, if_pos ha]
      exact h
    have := partW_do (ins := insD true M) (zs := []) e1 hkr (by omega)
    rw [List.nil_append] at this
    rw [ho, if_neg (by decide)]
    exact this
theorem msg_fields {M X : Msg} {ys : List Int} (h : msgF true M [] = .ok (X, ys)) : ∃ bs, fieldsF true M.kind M [] = .ok (X, bs) := by
  obtain ⟨bs, e1, _, _, _⟩ := partW_inv h
  obtain ⟨hk, _⟩ := msg_back h M
  unfold insD at e1
  split at e1
  · rw [if_pos rfl] at e1
    obtain ⟨cs, e2, _⟩ := partW_inv e1
    unfold insF at e2
    split at e2
    · exact ⟨cs, e2⟩
    · cases e2
  · rename_i h9
    have ho : outer M.kind = M.kind := by
      unfold outer
      unfold outer at h9
      split
      · rename_i hd; rw [if_pos hd] at h9; exact absurd rfl h9
      · rfl
    rw [ho] at e1
    unfold insF at e1
    split at e1
    · exact ⟨bs, e1⟩
    · cases e1
theorem may_of {M : Msg} {ys : List Int} (h : msgF true M [] = .ok (M, ys)) : MayM M := by
  obtain ⟨hk, hX, _⟩ := msg_back h M
  obtain ⟨bs, hf⟩ := msg_fields h
  have heq : eqM M (keep M.kind M) = true := by rw [← hX]; exact decide_eq_true ⟨rfl, rfl, rfl, rfl, rfl, rfl, rfl⟩
  have w0 : wd 0 = true := rfl
  obtain ⟨k, ms, c, r, q, mo, mb⟩ := M
  refine ⟨heq, ?_⟩
  dsimp only at hX hf hk ⊢
  rcases hk.imp of_decide_eq_true of_decide_eq_true with (rfl | rfl | rfl | rfl | rfl) | (rfl | rfl | rfl)
  · have hX' : (⟨57856, ms, c, r, q, mo, mb⟩ : Msg) = ⟨57856, ms, c, 0, 0, [], []⟩ := hX
    injection hX' with _ _ _ e3 e4 e5 e6
    subst e3 e4 e5 e6
    obtain ⟨s, z1, e1, h1⟩ := thn_inv hf
    obtain ⟨c', z2, e2, _⟩ := thn_inv h1
    obtain ⟨rfl, _⟩ := sysF_dual.back e1
    have hl8 := (sys_len e1 Bs.nil).1
    exact ⟨num_was e2, w0, w0, fun h => h.2 hl8, fun i hi => absurd hi (by simp), fun i hi => absurd hi (by simp)⟩
  · have hX' : (⟨58112, ms, c, r, q, mo, mb⟩ : Msg) = ⟨58112, [], c, r, 0, [], []⟩ := hX
    injection hX' with _ e1 _ _ e4 e5 e6
    subst e1 e4 e5 e6
    obtain ⟨s, z1, e1, h1⟩ := thn_inv hf
    obtain ⟨c', z2, e2, _⟩ := thn_inv h1
    exact ⟨num_was e2, num_was e1, w0, fun h => absurd h.1 (by decide), fun i hi => absurd hi (by simp), fun i hi => absurd hi (by simp)⟩
  iterate 3
    · have hX' : (⟨_, ms, c, r, q, mo, mb⟩ : Msg) = ⟨_, [], 0, 0, q, [], []⟩ := hX
      injection hX' with _ e1 e2 e3 _ e5 e6
      subst e1 e2 e3 e5 e6
      obtain ⟨s, z1, e1, h1⟩ := thn_inv hf
      exact ⟨w0, w0, num_was e1, fun h => absurd h.1 (by decide), fun i hi => absurd hi (by simp), fun i hi => absurd hi (by simp)⟩
  · have hX' : (⟨3356, ms, c, r, q, mo, mb⟩ : Msg) = ⟨3356, [], c, 0, 0, mo, []⟩ := hX
    injection hX' with _ e1 _ e3 e4 _ e6
    subst e1 e3 e4 e6
    obtain ⟨s, z1, e1, h1⟩ := thn_inv hf
    obtain ⟨c', z2, e2, _⟩ := thn_inv h1
    obtain ⟨z3, e3⟩ := lst_was (L := fun m v zs => objL m [] v zs) e2
    obtain ⟨g1, g2⟩ := objL_was e3
    exact ⟨num_was e1, w0, w0, fun h => absurd h.1 (by decide), goodO_of (fun o ho => ⟨(g1 o ho).1, (g1 o ho).2.1⟩) g2, fun i hi => absurd hi (by simp)⟩
  · have hX' : (⟨3357, ms, c, r, q, mo, mb⟩ : Msg) = ⟨3357, [], c, r, 0, [], []⟩ := hX
    injection hX' with _ e1 _ _ e4 e5 e6
    subst e1 e4 e5 e6
    obtain ⟨s, z1, e1, h1⟩ := thn_inv hf
    obtain ⟨c', z2, e2, _⟩ := thn_inv h1
    exact ⟨num_was e1, num_was e2, w0, fun h => absurd h.1 (by decide), fun i hi => absurd hi (by simp), fun i hi => absurd hi (by simp)⟩
  · have hX' : (⟨3358, ms, c, r, q, mo, mb⟩ : Msg) = ⟨3358, [], 0, 0, 0, [], mb⟩ := hX
    injection hX' with _ e1 e2 e3 e4 e5 _
    subst e1 e2 e3 e4 e5
    obtain ⟨s, z1, e1, h1⟩ := thn_inv hf
    obtain ⟨z3, e3⟩ := lst_was (L := obsL) e1
    exact ⟨w0, w0, w0, fun h => absurd h.1 (by decide), fun i hi => absurd hi (by simp), goodB_of (obsL_was e3)⟩
def boxD (k : Int) (bs : List Int) : List Int := wnNew 2 65535 k ++ wnNew 2 65535 bs.length ++ bs
def docBytes (M : Msg) : List Int := if inData M.kind = true then boxD 59136 (boxD M.kind (fldB M)) else boxD M.kind (fldB M)
theorem boxD_eq {k : Int} {bs : List Int} (hk : 0 ≤ k ∧ k ≤ 65535) (hb : bs.length ≤ 65535) : boxD k bs = boxB k bs := by
  unfold boxD boxB
  rw [(wn_yes (k := 2) (m := 65535) (x := k) ⟨hk.1, hk.2⟩).2, (wn_yes (k := 2) (m := 65535) (x := (bs.length : Int)) ⟨by omega, by omega⟩).2, List.append_assoc]
theorem pack_doc {M : Msg} (hk : alone M.kind = true ∨ inData M.kind = true) (hol : M.objs.length ≤ 16) (hbl : M.obs.length ≤ 64) (hbb : ∀ o ∈ M.obs, 0 ≤ o.b ∧ o.b < 4294967296) : (MayM M → packAll M = .ok ((), docBytes M)) ∧ (¬ MayM M → packAll M = .error 2) := by
  have hp : packAll M = packF M := by
    unfold packAll
    rw [if_neg (by rintro ⟨a, b⟩; rcases hk with h | h; rw [h] at a; cases a; rw [h] at b; cases b), if_neg (by omega)]
  refine ⟨fun hm => ?_, fun hm => ?_⟩
  · have hf := fields_may hm hk hol hbl hbb
    have hl := fields_short hf
    have hmsg := msg_mk hf hk (by omega)
    have hs : sameM M (keep M.kind M) = true := decide_eq_true (of_decide_eq_true hm.1).2 |> fun h => by
      obtain ⟨h1, h2, h3, h4, h5, h6, h7⟩ := of_decide_eq_true hm.1
      exact decide_eq_true ⟨h2, h3, h4, h5, h6, h7⟩
    have hkr : 0 ≤ M.kind ∧ M.kind ≤ 65535 := by
      rcases hk.imp of_decide_eq_true of_decide_eq_true with (h | h | h | h | h) | (h | h | h) <;> omega
    rw [hp]
    unfold packF
    rw [thn_ok hmsg, if_pos hs]
    unfold docBytes
    rw [boxD_eq hkr (by omega)]
    rw [boxD_eq (k := 59136) ⟨by decide, by decide⟩ (by rw [box_len]; omega)]
  · cases hpf : packF M with
    | ok v =>
      obtain ⟨u, ys⟩ := v
      exact absurd (may_of (pack_inv (hp.trans hpf)).1) hm
    | error c =>
      rw [hp, hpf, packF_err hpf]
end Go.Proofs.YthcfdoafncbliaaGreat
/-
  Which step a message leads to; Handle of package assoc.
-/
namespace Go.Proofs.YthcfdoafncbliaaGreat
open Go.RowKit Go.Maps
set_option maxRecDepth 8000
/-- The number of the step that a message leads to. -/
def stepFn (s k : Int) : Nat :=
  if k = 58880 then 43
  else if k = 57856 ∧ s = 0 then 44
  else if k = 3356 ∧ s = 1 then 45
  else if k = 3358 ∧ s = 2 then 46
  else if k = 58368 ∧ s ≠ 0 then 47
  else 48
theorem leads_any (w : World) (s k : Int) : Calls Tryz.prog 26 #[.int .i64 s, .int .i64 k] w fun e w' => e = .returned (.func (.func (stepFn s k)) #[] #[]) ∧ w' = w := by
  by_cases h1 : k = 58880
  · subst h1
    rw [show stepFn s 58880 = 43 from rfl]
    go_enter Tryz.func26, Tryz.ntmps26
    go_wp2
    go_ret
    exact ⟨rfl, rfl⟩
  have b1 : (k == 58880) = false := by simpa using h1
  by_cases h2 : k = 57856
  · subst h2
    by_cases h3 : s = 0
    · subst h3
      rw [show stepFn 0 57856 = 44 from rfl]
      go_enter Tryz.func26, Tryz.ntmps26
      go_wp2
      go_ret
      exact ⟨rfl, rfl⟩
    · have b3 : (s == 0) = false := by simpa using h3
      have e : stepFn s 57856 = 48 := by
        unfold stepFn
        rw [if_neg (by decide), if_neg (fun h => h3 h.2), if_neg (fun h => by cases h.1), if_neg (fun h => by cases h.1), if_neg (fun h => by cases h.1)]
      rw [e]
      clear e h1 h3
      go_enter Tryz.func26, Tryz.ntmps26
      go_wp2
      go_ret
      exact ⟨rfl, rfl⟩
  have b2 : (k == 57856) = false := by simpa using h2
  by_cases h4 : k = 3356
  · subst h4
    by_cases h3 : s = 1
    · subst h3
      rw [show stepFn 1 3356 = 45 from rfl]
      go_enter Tryz.func26, Tryz.ntmps26
      go_wp2
      go_ret
      exact ⟨rfl, rfl⟩
    · have b3 : (s == 1) = false := by simpa using h3
      have e : stepFn s 3356 = 48 := by
        unfold stepFn
        rw [if_neg (by decide), if_neg (fun h => by cases h.1), if_neg (fun h => h3 h.2), if_neg (fun h => by cases h.1), if_neg (fun h => by cases h.1)]
      rw [e]
      clear e h1 h2 h3
      go_enter Tryz.func26, Tryz.ntmps26
      go_wp2
      go_ret
      exact ⟨rfl, rfl⟩
  have b4 : (k == 3356) = false := by simpa using h4
  by_cases h5 : k = 3358
  · subst h5
    by_cases h3 : s = 2
    · subst h3
      rw [show stepFn 2 3358 = 46 from rfl]
      go_enter Tryz.func26, Tryz.ntmps26
      go_wp2
      go_ret
      exact ⟨rfl, rfl⟩
    · have b3 : (s == 2) = false := by simpa using h3
      have e : stepFn s 3358 = 48 := by
        unfold stepFn
        rw [if_neg (by decide), if_neg (fun h => by cases h.1), if_neg (fun h => by cases h.1), if_neg (fun h => h3 h.2), if_neg (fun h => by cases h.1)]
      rw [e]
      clear e h1 h2 h3 h4
      go_enter Tryz.func26, Tryz.ntmps26
      go_wp2
      go_ret
      exact ⟨rfl, rfl⟩
  have b5 : (k == 3358) = false := by simpa using h5
  by_cases h6 : k = 58368
  · subst h6
    by_cases h3 : s = 0
    · subst h3
      rw [show stepFn 0 58368 = 48 from rfl]
      go_enter Tryz.func26, Tryz.ntmps26
      go_wp2
      go_ret
      exact ⟨rfl, rfl⟩
    · have b3 : (s != 0) = true := by simpa using h3
      have e : stepFn s 58368 = 47 := by
        unfold stepFn
        rw [if_neg (by decide), if_neg (fun h => by cases h.1), if_neg (fun h => by cases h.1), if_neg (fun h => by cases h.1), if_pos ⟨rfl, h3⟩]
      rw [e]
      clear e h1 h2 h3 h4 h5
      go_enter Tryz.func26, Tryz.ntmps26
      go_wp2
      go_ret
      exact ⟨rfl, rfl⟩
  have b6 : (k == 58368) = false := by simpa using h6
  have e : stepFn s k = 48 := by
    unfold stepFn
    rw [if_neg h1, if_neg (fun h => h2 h.1), if_neg (fun h => h4 h.1), if_neg (fun h => h5 h.1), if_neg (fun h => h6 h.1)]
  rw [e]
  clear e h1 h2 h4 h5 h6
  go_enter Tryz.func26, Tryz.ntmps26
  go_wp2
  go_ret
  exact ⟨rfl, rfl⟩
/-- A message may be: package apdu packs it. -/
def okB (M : Msg) : Bool := match packAll M with | .ok _ => true | .error _ => false
/-- What a manager makes of a message. -/
def handle (st : Mg) (M : Msg) : Out := if okB M = true then handF st M else ⟨st, none, [], 2⟩
theorem ok_may {M : Msg} {u : Unit} {zs : List Int} (hbb : ∀ o ∈ M.obs, 0 ≤ o.b ∧ o.b < 4294967296) (h : packAll M = .ok (u, zs)) : (alone M.kind = true ∨ inData M.kind = true) ∧ M.objs.length ≤ 16 ∧ M.obs.length ≤ 64 ∧ MayM M := by
  have hk : alone M.kind = true ∨ inData M.kind = true := by
    unfold packAll at h
    split at h
    · cases h
    · rename_i hn
      cases h1 : alone M.kind
      · cases h2 : inData M.kind
        · exact absurd ⟨h1, h2⟩ hn
        · exact .inr rfl
      · exact .inl rfl
  have hl : ¬ (16 < M.objs.length ∨ 64 < M.obs.length) := by
    intro hl
    unfold packAll at h
    split at h
    · cases h
    · cases h
  refine ⟨hk, by omega, by omega, ?_⟩
  by_cases hm : MayM M
  · exact hm
  · rw [(pack_doc hk (by omega) (by omega) hbb).2 hm] at h
    cases h
theorem may_ok {M : Msg} (hbb : ∀ o ∈ M.obs, 0 ≤ o.b ∧ o.b < 4294967296) (hk : alone M.kind = true ∨ inData M.kind = true) (ho : M.objs.length ≤ 16) (hb : M.obs.length ≤ 64) (hm : MayM M) : okB M = true := by
  unfold okB
  rw [(pack_doc hk ho hb hbb).1 hm]
theorem wd_int {n : Int} (h : wd n = true) : 0 ≤ n ∧ n ≤ 65535 := of_decide_eq_true h
theorem may_objs {M : Msg} (h : MayM M) : (∀ o ∈ M.objs, 0 ≤ o.h ∧ o.h ≤ 65535) ∧ M.objs.Pairwise (fun a b => a.h ≠ b.h) := by
  obtain ⟨h1, h2⟩ := goodO_all h.2.2.2.2.2.1
  exact ⟨fun o ho => wd_int (h1 o ho).1, h2⟩
theorem may_obs {M : Msg} (h : MayM M) : ∀ o ∈ M.obs, 0 ≤ o.h ∧ o.h ≤ 65535 := fun o ho => wd_int (goodB_all h.2.2.2.2.2.2 o ho).1
theorem in_step (s k : Int) (c : Array Value) (w : World) : (callFunc (stepFn s k) c).run Tryz.prog w = .ok (.enter (stepFn s k) c) w := by
  unfold stepFn
  repeat' split
  all_goals simp [go_sem]
theorem after_steps {w w' : World} {P : Nat → Prop} {g : Nat} {st : Mg} {e : Ending} {o : Out} (x : MgAt w P g st) (h : Says w w' e o) (a : After w w') (hst : o.st = st) : Steps w w' P g e o :=
  ⟨h, by rw [hst]; exact (x.after a).mono (fun k hk => .inl hk), a.but⟩
theorem step_any {w : World} {P T : Nat → Prop} {g : Nat} {st : Mg} (x : MgAt w P g st) (M : Msg) (sa : Option Addr) (sc : Nat) (oa : Option Addr) (oc : Nat) (ba : Option Addr) (bc : Nat) (y : MsgX w T M sa sc oa oc ba bc) (hT : ¬ T g) (hl : M.objs.length ≤ 16) (hb : M.obs.length ≤ 64) (hm : MayM M) :
    Calls Tryz.prog (stepFn st.state M.kind) #[Ptr g, M.val sa sc oa oc ba bc] w fun e w' => Steps w w' P g e (handF st M) := by
  unfold stepFn handF
  by_cases h1 : M.kind = 58880
  · rw [if_pos h1, if_pos h1]
    exact aborted_any x _ _ _ _ _ _ _
  rw [if_neg h1, if_neg h1]
  by_cases h2 : M.kind = 57856 ∧ st.state = 0
  · rw [if_pos h2, if_pos h2]
    exact asked_any x h2.2 _ _ _ _ _ _ _ M rfl
  rw [if_neg h2, if_neg h2]
  by_cases h3 : M.kind = 3356 ∧ st.state = 1
  · rw [if_pos h3, if_pos h3]
    exact configured_any x h3.2 M sa sc oa oc ba bc y hT hl (may_objs hm).2 (may_objs hm).1
  rw [if_neg h3, if_neg h3]
  by_cases h4 : M.kind = 3358 ∧ st.state = 2
  · rw [if_pos h4, if_pos h4]
    refine (scanned_any x h4.2 M sa sc oa oc ba bc y hb (may_obs hm)).mono ?_
    rintro e w' ⟨h, a⟩
    refine after_steps x h a ?_
    unfold scanF
    split <;> rfl
  rw [if_neg h4, if_neg h4]
  by_cases h5 : M.kind = 58368 ∧ st.state ≠ 0
  · rw [if_pos h5, if_pos h5]
    exact released_any x _ _ _ _ _ _ _ M rfl
  rw [if_neg h5, if_neg h5]
  exact breakOff_any x _ _ _ _ _ _ _
end Go.Proofs.YthcfdoafncbliaaGreat
/-
  Handle of package assoc.
-/
namespace Go.Proofs.YthcfdoafncbliaaGreat
open Go.RowKit Go.Maps
set_option maxRecDepth 8000
theorem steps_behind {w w1 W w2 w3 : World} {P : Nat → Prop} {g : Nat} {o : Out} {v1 v2 : Value} (a1 : After w w1) (aW : After w1 W) (h : AnsAt w2 W.heap.size v1 o.an ∧ SmAt w2 W.heap.size v2 o.sm ∧ MgAt w2 (fun k => P k ∨ W.heap.size ≤ k) g o.st ∧ But (One g) W w2) (a3 : After w2 w3) : Steps w w3 P g (.returned (.tuple #[v1, v2, .int .i64 o.er])) o := by
  obtain ⟨h1, h2, h3, h4⟩ := h
  have hs : w.heap.size ≤ W.heap.size := Nat.le_trans a1.size aW.size
  exact ⟨⟨v1, v2, rfl, (h1.after a3).mono hs, (h2.after a3).mono hs⟩, (h3.after a3).mono (fun k hk => hk.imp id (Nat.le_trans hs)), ((a1.trans aW).but.trans h4).trans a3.but⟩
set_option maxHeartbeats 2000000 in
theorem handle_any {w : World} {P T : Nat → Prop} {g : Nat} {st : Mg} (x : MgAt w P g st) (M : Msg) (sa : Option Addr) (sc : Nat) (oa : Option Addr) (oc : Nat) (ba : Option Addr) (bc : Nat) (y : MsgX w T M sa sc oa oc ba bc) (hT : ¬ T g) (hTl : ∀ k, T k → k < w.heap.size) :
    Calls Tryz.prog 8 #[Ptr g, M.val sa sc oa oc ba bc] w fun e w' => Steps w w' P g e (handle st M) := by
  obtain ⟨w0, hw0⟩ : ∃ w0, w.alloc (.cells #[.int .i64 M.kind, .slice sa M.sys.length sc, .int .i64 M.config, .int .i64 M.result, .int .i64 M.reason, .slice oa M.objs.length oc, .slice ba M.obs.length bc] 31) = w0 := ⟨_, rfl⟩
  have hA : After w w0 := by rw [← hw0]; exact After.rfl.alloc _
  have hB : w0.heap[w.heap.size]? = some (.cells #[.int .i64 M.kind, .slice sa M.sys.length sc, .int .i64 M.config, .int .i64 M.result, .int .i64 M.reason, .slice oa M.objs.length oc, .slice ba M.obs.length bc] 31 (0, 0)) := by rw [← hw0]; exact new1 _ _
  obtain ⟨_, ⟨k0, k1, k2, k3, k4, k5, k6⟩, _⟩ := seven_at hB
  have x0 := x.after hA
  have HN : Hid (Calls Tryz.prog 24 #[Ptr g] w0 fun e w' => e = .returned (.bool false) ∧ w' = w0) := by
    obtain ⟨_, _, _, xx⟩ := x0
    exact mgNone_no xx.at0
  have HPK := hideIt (pack_any w0 T M sa sc oa oc ba bc (y.after hA) (fun k hk => Nat.lt_of_lt_of_le (hTl k hk) hA.size))
  have HV := hideIt (show M.val sa sc oa oc ba bc = .agg #[.int .i64 M.kind, .slice sa M.sys.length sc, .int .i64 M.config, .int .i64 M.result, .int .i64 M.reason, .slice oa M.objs.length oc, .slice ba M.obs.length bc] from rfl)
  have HE1 : Hid (∀ c, packAll M = .error c → handle st M = ⟨st, none, [], 2⟩) := fun c h => by unfold handle okB; rw [h]; rfl
  have HE2 : Hid (∀ u zs, packAll M = .ok (u, zs) → handle st M = handF st M) := fun u zs h => by unfold handle okB; rw [h]; rfl
  have HX := hideIt (And.intro x (And.intro y (And.intro hA (And.intro hB hT))))
  have HVM := hideIt (show ∀ W, After w0 W → MayM M → M.objs.length ≤ 16 → M.obs.length ≤ 64 → Calls Tryz.prog (stepFn st.state M.kind) #[Ptr g, M.val sa sc oa oc ba bc] W fun e w' => Steps W w' P g e (handF st M) from fun W aW hm hl hb => step_any (x0.after aW) M sa sc oa oc ba bc ((y.after hA).after aW) hT hl hb hm)
  rw [HV.out] at HPK HVM ⊢
  clear x x0 y hA hB hT hTl
  have HL := hideIt (leads_any · st.state M.kind)
  have HIN := hideIt (in_step st.state M.kind)
  generalize handle st M = HD at *
  generalize hks : stepFn st.state M.kind = fn at *
  clear hks
  generalize M.kind = mk at *
  generalize M.sys.length = n1 at *
  generalize M.config = mc at *
  generalize M.result = mr at *
  generalize M.reason = mq at *
  generalize hn2 : M.objs.length = n2 at *
  generalize hn3 : M.obs.length = n3 at *
  have HLN := hideIt (And.intro hn2 hn3)
  clear hn2 hn3
  go_enter Tryz.func8, Tryz.ntmps8
  go_wp2_with (go_at_call 24; refine HN.out.mono ?_; rintro e w' ⟨rfl, rfl⟩)
  refine HPK.out.mono ?_
  rintro e w1 ⟨a1, h1⟩
  obtain ⟨x, y, hA, hB, hT⟩ := HX.out
  rcases h1.split with ⟨c9, e1, rfl, hc9⟩ | ⟨_, us, e1, hbs, hl, pa, pc, rfl, o1⟩
  · have HE := hideIt (HE1.out c9 e1)
    have hcb : (c9 != 0) = true := by rcases hc9 with rfl | rfl <;> rfl
    have HY := hideIt (hA.trans a1)
    clear h1 e1 hc9 x y hA hB hT a1 HPK HE1 HE2 HVM HL HIN HN
    go_wp2_with fail
    go_ret3
    rw [HE.out]
    exact after_steps HX.out.1 ⟨_, _, rfl, rfl, SmAt.nil _ _⟩ HY.out rfl
  · have HE := hideIt (HE2.out _ us e1)
    obtain ⟨_, hl16, hl64, hmay⟩ := ok_may y.bb e1
    rw [HLN.out.1] at hl16
    rw [HLN.out.2] at hl64
    have xx := x.after (hA.trans a1)
    obtain ⟨ma, mcc, pv, xx⟩ := xx
    obtain ⟨hgl, ⟨_, d1, _, _, _⟩, _⟩ := five_at xx.at0
    clear k0 k1 k2 k3 k4 k5 k6
    obtain ⟨_, ⟨k0, k1, k2, k3, k4, k5, k6⟩, _⟩ := seven_at (keep3 hB a1)
    have HS := hideIt (fun W (aW : After w1 W) => HVM.out W (a1.trans aW) hmay hl16 hl64)
    have HY := hideIt (And.intro x (hA.trans a1))
    have hin := HIN.out
    generalize handF st M = O at *
    clear h1 e1 hbs hl o1 hl16 hl64 hmay x y hA hB hT a1 xx HE1 HE2 HVM HPK HN HX HIN hw0
    go_wp2_with fail
    go_region_with (first | (go_at_call 26; refine (HL.out _).mono ?_; rintro e w' ⟨rfl, rfl⟩) | (refine (HS.out _ (by repeat' (first | exact After.rfl | refine But.drew ?_))).mono ?_; rintro e w2 ⟨⟨v1, v2, rfl, hv1, hv2⟩, h3, h4⟩; have H3 := hideIt (And.intro hv1 (And.intro hv2 (And.intro h3 h4))); clear hv1 hv2 h3 h4))
    all_goals
      simp only [Act.put, List.getElem_toArray, List.getElem_cons_succ, List.getElem_cons_zero, List.setIfInBounds_toArray, List.set_cons_succ, List.set_cons_zero]
      go_wp2_with fail
      go_ret3
      rw [HE.out]
      refine steps_behind (v1 := v1) (v2 := v2) HY.out.2 (by repeat' (first | exact After.rfl | refine But.drew ?_)) H3.out ?_
      repeat' (first | exact After.rfl | refine But.drew ?_)
end Go.Proofs.YthcfdoafncbliaaGreat
/-
  Messages that the statements make; lists of messages; ask, one, scan of the statements.
-/
namespace Go.Proofs.YthcfdoafncbliaaGreat
open Go.RowKit Go.Maps
set_option maxRecDepth 8000
/-- A message that was made between two worlds. -/
def GotM (w w' : World) (v : Value) (M : Msg) : Prop := ∃ sa sc oa oc ba bc, v = M.val sa sc oa oc ba bc ∧ MsgX w' (fun k => w.heap.size ≤ k ∧ k < w'.heap.size) M sa sc oa oc ba bc
def askM (c : Int) : Msg := ⟨57856, [1, 2, 3, 4, 5, 6, 7, 8], c, 0, 0, [], []⟩
def oneM (c : Int) : Msg := ⟨3356, [], c, 0, 0, [⟨1, 4, false⟩], []⟩
theorem row_lit {w : World} {b : Nat} {zs : List Int} (h : w.heap[b]? = some (.cells (u8s zs).toArray 5 (0, 0))) (hb : Bs zs) : Row w (some ⟨b, 0, none⟩) zs.length zs :=
  ⟨rfl, hb, fun i hi => ⟨b, 0, rfl, (Array.getElem?_eq_some_iff.1 h).1, by
    rw [cell_blk h, Nat.zero_add]
    simp [u8s, hi]⟩⟩
theorem askL_any (w : World) (c : Int) : Calls Tryz.prog 17 #[.int .i64 c] w fun e w' => ∃ v, e = .returned v ∧ GotM w w' v (askM c) ∧ After w w' := by
  go_enter Tryz.func17, Tryz.ntmps17
  go_wp2
  have h2 := (new2 w (.cells #[.int .i64 57856, .slice (some ⟨w.heap.size + 1, 0, none⟩) 8 8, .int .i64 c, .int .i64 0, .int .i64 0, .slice none 0 0, .slice none 0 0] 31) (.cells (u8s [1, 2, 3, 4, 5, 6, 7, 8]).toArray 5)).2
  refine bodyPost_ret (v := .agg #[.int .i64 57856, .slice (some ⟨w.heap.size + 1, 0, none⟩) 8 8, .int .i64 c, .int .i64 0, .int .i64 0, .slice none 0 0, .slice none 0 0]) (by simp [results, Tryz.results17, go_sem]) rfl ⟨_, rfl, ⟨some ⟨w.heap.size + 1, 0, none⟩, 8, none, 0, none, 0, rfl, ?_⟩, (After.rfl.alloc _).alloc _⟩
  exact MsgX.ofSys 57856 c 0 0 (row_lit h2 (fun z hz => by simp at hz; omega)) (fun h => by cases h) (fun y hy _ => by cases hy; exact ⟨by show w.heap.size ≤ w.heap.size + 1; omega, by simp⟩) (by decide)
theorem oneL_any (w : World) (c : Int) : Calls Tryz.prog 18 #[.int .i64 c] w fun e w' => ∃ v, e = .returned v ∧ GotM w w' v (oneM c) ∧ After w w' := by
  go_enter Tryz.func18, Tryz.ntmps18
  go_wp2
  have h2 := (new2 w (.cells #[.int .i64 3356, .slice none 0 0, .int .i64 c, .int .i64 0, .int .i64 0, .slice (some ⟨w.heap.size + 1, 0, none⟩) 1 1, .slice none 0 0] 31) (.cells (cells3 ([⟨1, 4, false⟩].map Ob.t3)).toArray 46)).2
  refine bodyPost_ret (v := .agg #[.int .i64 3356, .slice none 0 0, .int .i64 c, .int .i64 0, .int .i64 0, .slice (some ⟨w.heap.size + 1, 0, none⟩) 1 1, .slice none 0 0]) (by simp [results, Tryz.results18, go_sem]) rfl ⟨_, rfl, ⟨none, 0, some ⟨w.heap.size + 1, 0, none⟩, 1, none, 0, rfl, ?_⟩, (After.rfl.alloc _).alloc _⟩
  exact MsgX.ofObjs 3356 c 0 0 (l := [⟨1, 4, false⟩]) (RowT.of h2) ⟨by show w.heap.size ≤ w.heap.size + 1; omega, by simp⟩
def scnM (l : List Bi) : Msg := ⟨3358, [], 0, 0, 0, [], l⟩
theorem scanL_any (w : World) (a : Option Addr) (n c : Nat) (l : List Bi) (P : Nat → Prop) (hr : RowT w a n (l.map Bi.t3)) (ha : a = none → n = 0 ∧ c = 0) (hp : ∀ y, a = some y → 0 < n → P y.block) (hb : ∀ o ∈ l, 0 ≤ o.b ∧ o.b < 4294967296) :
    Calls Tryz.prog 19 #[.slice a n c] w fun e w' => e = .returned ((scnM l).val none 0 none 0 a c) ∧ MsgX w' P (scnM l) none 0 none 0 a c ∧ After w w' := by
  have hl : l.length = n := by have := hr.1; simpa using this
  have HX := hideIt (And.intro hr (And.intro ha (And.intro hp (And.intro hb hl))))
  clear hr ha hp hb hl
  go_enter Tryz.func19, Tryz.ntmps19
  go_wp2
  obtain ⟨hr, ha, hp, hb, hl⟩ := HX.out
  subst hl
  refine bodyPost_ret (v := .agg #[.int .i64 3358, .slice none 0 0, .int .i64 0, .int .i64 0, .int .i64 0, .slice none 0 0, .slice a l.length c]) (by simp [results, Tryz.results19, go_sem]) rfl ⟨rfl, ?_, After.rfl.alloc _⟩
  exact ⟨Row.nil _ _, fun _ => ⟨rfl, rfl⟩, (fun y hy => by cases hy), by simp [scnM], RowT.nil _ _, fun _ => ⟨rfl, rfl⟩, (fun y hy => by cases hy), hr.after (After.rfl.alloc _), ha, hp, hb⟩
theorem eqS (a b c d : Int) (w : World) : (binOp .eql 69 (.agg #[.int .i64 a, .int .i64 b, .int .i64 c, .int .i64 d]) (.agg #[.int .i64 a, .int .i64 b, .int .i64 c, .int .i64 d])).run Tryz.prog w = .ok (.bool true) w := by
  simp [go_sem]
theorem neqS (a b c d : Int) (w : World) : (binOp .neq 69 (.agg #[.int .i64 a, .int .i64 b, .int .i64 c, .int .i64 d]) (.agg #[.int .i64 a, .int .i64 b, .int .i64 c, .int .i64 d])).run Tryz.prog w = .ok (.bool false) w := by
  simp [go_sem]
theorem neqR (b c d : Int) (w : World) : (binOp .neq 67 (.agg #[.int .i64 b, .int .i64 c, .int .i64 d]) (.agg #[.int .i64 b, .int .i64 c, .int .i64 d])).run Tryz.prog w = .ok (.bool false) w := by
  simp [go_sem]
def fiveO : Bi := ⟨1, false, 61806⟩
theorem h_ask5 : handle Mg.new (askM 5) = ⟨⟨1, 5, []⟩, some ⟨58112, 5, 3, 0⟩, [], 0⟩ := by kernel_rfl
theorem h_one5 : handle ⟨1, 5, []⟩ (oneM 5) = ⟨⟨2, 0, [⟨1, 4, false⟩]⟩, some ⟨3357, 5, 0, 0⟩, [], 0⟩ := by kernel_rfl
theorem h_scan5 : handle ⟨2, 0, [⟨1, 4, false⟩]⟩ (scnM [fiveO]) = ⟨⟨2, 0, [⟨1, 4, false⟩]⟩, none, [⟨1, 0, 366, -1⟩], 0⟩ := by kernel_rfl
end Go.Proofs.YthcfdoafncbliaaGreat
