/-
  Laid together: Same.
-/
import Derived.Test.YthcfdoafncbliaaGreatB17
import Derived.Laws.StructEq
/-
  Two messages that have the same in them: Same, same.
-/
namespace Go.Proofs.YthcfdoafncbliaaGreat
open Go.RowKit
set_option maxRecDepth 8000
theorem eqBytes_len (a a' : Option Addr) (n n' c c' : Nat) (w : World) (h : n ≠ n') :
    Calls Tryz.prog 31 #[.slice a n c, .slice a' n' c'] w fun e w' => e = .returned (.bool false) ∧ w' = w := by
  have h' : ((n : Int) != (n' : Int)) = true := by simpa using (show ¬ (n : Int) = n' from fun e => h (by omega))
  clear h
  go_enter Tryz.func31, Tryz.ntmps31
  go_wp2_with fail
  go_ret
  exact ⟨rfl, rfl⟩
def eqM (M X : Msg) : Bool := decide (M.kind = X.kind ∧ M.sys.length = X.sys.length ∧ M.config = X.config ∧ M.result = X.result ∧ M.reason = X.reason ∧ M.objs.length = X.objs.length ∧ M.obs.length = X.obs.length)
theorem keep2 {w w' : World} {k : Nat} {o : Obj} (h : w.heap[k]? = some o) (a : After w w') : w'.heap[k]? = some o := (But.block a k (Array.getElem?_eq_some_iff.1 h).1 (fun t => t)).trans h
theorem rowO_at {w : World} {a : Option Addr} {n : Nat} {l : List Ob} (h : RowT w a n (l.map Ob.t3)) {i : Nat} (hi : i < n) : ∃ b off h' u' l', a = some ⟨b, off, none⟩ ∧ b < w.heap.size ∧ l[i]? = some ⟨h', u', l'⟩ ∧ w.cell? ⟨b, off + i * 3, none⟩ = some (.int .i64 h') ∧ w.cell? ⟨b, off + i * 3 + 1, none⟩ = some (.int .i64 u') ∧ w.cell? ⟨b, off + i * 3 + 2, none⟩ = some (.bool l') := by
  obtain ⟨b, off, x, e, hl, hx, h1, h2, h3⟩ := h.2 i hi
  rw [List.getElem?_map] at hx
  cases ho : l[i]? with
  | none => rw [ho] at hx; cases hx
  | some o =>
    rw [ho] at hx
    cases hx
    exact ⟨b, off, o.h, o.u, o.l, e, hl, rfl, h1, h2, h3⟩
theorem rowB_at {w : World} {a : Option Addr} {n : Nat} {l : List Bi} (h : RowT w a n (l.map Bi.t3)) {i : Nat} (hi : i < n) : ∃ b off h' l' u', a = some ⟨b, off, none⟩ ∧ b < w.heap.size ∧ l[i]? = some ⟨h', l', u'⟩ ∧ w.cell? ⟨b, off + i * 3, none⟩ = some (.int .i64 h') ∧ w.cell? ⟨b, off + i * 3 + 1, none⟩ = some (.bool l') ∧ w.cell? ⟨b, off + i * 3 + 2, none⟩ = some (.int .u32 u') := by
  obtain ⟨b, off, x, e, hl, hx, h1, h2, h3⟩ := h.2 i hi
  rw [List.getElem?_map] at hx
  cases ho : l[i]? with
  | none => rw [ho] at hx; cases hx
  | some o =>
    rw [ho] at hx
    cases hx
    exact ⟨b, off, o.h, o.l, o.b, e, hl, rfl, h1, h2, h3⟩
theorem neq42 (h u : Int) (l : Bool) (w : World) : (binOp .neq 46 (.agg #[.int .i64 h, .int .i64 u, .bool l]) (.agg #[.int .i64 h, .int .i64 u, .bool l])).run Tryz.prog w = .ok (.bool false) w := by
  simp [go_sem]
theorem neq46 (h u : Int) (l : Bool) (w : World) : (binOp .neq 54 (.agg #[.int .i64 h, .bool l, .int .u32 u]) (.agg #[.int .i64 h, .bool l, .int .u32 u])).run Tryz.prog w = .ok (.bool false) w := by
  simp [go_sem]
set_option maxHeartbeats 2000000 in
theorem same13 (w : World) (P P' : Nat → Prop) (M X : Msg) (sa : Option Addr) (sc : Nat) (oa : Option Addr) (oc : Nat) (ba : Option Addr) (bc : Nat) (sa' : Option Addr) (sc' : Nat) (oa' : Option Addr) (oc' : Nat) (ba' : Option Addr) (bc' : Nat) (x : MsgX w P M sa sc oa oc ba bc) (y : MsgX w P' X sa' sc' oa' oc' ba' bc') (hs : M.sys.length = X.sys.length → M.sys = X.sys) (ho : M.objs.length = X.objs.length → M.objs = X.objs) (hb : M.obs.length = X.obs.length → M.obs = X.obs) (hol : M.objs.length ≤ 140737488355328) (hbl : M.obs.length ≤ 140737488355328) :
    Calls Tryz.prog 15 #[M.val sa sc oa oc ba bc, X.val sa' sc' oa' oc' ba' bc'] w fun e w' => e = .returned (.bool (eqM M X)) ∧ After w w' := by
  obtain ⟨k, ms, c, r, q, mo, mb⟩ := M
  obtain ⟨k', xs, c', r', q', xo, xb⟩ := X
  unfold Msg.val eqM
  obtain ⟨sr, sn, sp, sl, or, on, op, br, bn, bp, bb⟩ := x
  obtain ⟨sr', sn', sp', sl', or', on', op', br', bn', bp', bb'⟩ := y
  dsimp only at hs ho hb hol hbl sr sn sl or on br bn sr' sn' sl' or' on' br' bn' ⊢
  obtain ⟨w0, hw0⟩ : ∃ w0, (w.alloc (.cells #[.int .i64 k, .slice sa ms.length sc, .int .i64 c, .int .i64 r, .int .i64 q, .slice oa mo.length oc, .slice ba mb.length bc] 31)).alloc (.cells #[.int .i64 k', .slice sa' xs.length sc', .int .i64 c', .int .i64 r', .int .i64 q', .slice oa' xo.length oc', .slice ba' xb.length bc'] 31) = w0 := ⟨_, rfl⟩
  have hA : After w w0 := by rw [← hw0]; exact (After.rfl.alloc _).alloc _
  obtain ⟨d0, d1⟩ := new2 w (.cells #[.int .i64 k, .slice sa ms.length sc, .int .i64 c, .int .i64 r, .int .i64 q, .slice oa mo.length oc, .slice ba mb.length bc] 31) (.cells #[.int .i64 k', .slice sa' xs.length sc', .int .i64 c', .int .i64 r', .int .i64 q', .slice oa' xo.length oc', .slice ba' xb.length bc'] 31)
  rw [hw0] at d0 d1
  have HY := hideIt (show ms.length = xs.length → Calls Tryz.prog 31 #[.slice sa ms.length sc, .slice sa' xs.length sc'] w0 fun e w' => e = .returned (.bool true) ∧ After w0 w' from fun e => by
    have e2 := hs e
    subst e2
    exact eqBytes_same sa sa' _ sc sc' ms w0 (sr.after hA) (sr'.after hA) sl)
  have HN := hideIt (show ms.length ≠ xs.length → Calls Tryz.prog 31 #[.slice sa ms.length sc, .slice sa' xs.length sc'] w0 fun e w' => e = .returned (.bool false) ∧ w' = w0 from fun e => eqBytes_len sa sa' _ _ sc sc' w0 e)
  have HX := hideIt (And.intro hA (And.intro d0 d1))
  have HO := hideIt (show mo.length = xo.length → mo = xo from ho)
  have HB := hideIt (show mb.length = xb.length → mb = xb from hb)
  have HR := hideIt (And.intro (or.after hA) (And.intro (or'.after hA) (And.intro (br.after hA) (br'.after hA))))
  have HW := hideIt hw0
  have HLo := hideIt (And.intro hol hbl)
  clear sr sn sp sl or on op br bn bp bb sr' sn' sp' sl' or' on' op' br' bn' bp' bb' hA d0 d1 hw0 hs ho hb hol hbl
  generalize hms : ms.length = s at HY HN HX HW ⊢
  generalize hxs : xs.length = s' at HY HN HX HW ⊢
  generalize hmo : mo.length = o at HO HX HR HW HLo ⊢
  generalize hxo : xo.length = o' at HO HX HR HW HLo ⊢
  generalize hmb : mb.length = b at HB HX HR HW HLo ⊢
  generalize hxb : xb.length = b' at HB HX HR HW HLo ⊢
  clear hms hxs
  have HZ := hideIt (And.intro hmo (And.intro hxo (And.intro hmb hxb)))
  clear hmo hxo hmb hxb
  obtain ⟨f, hf⟩ : ∃ f, decide (k = k' ∧ s = s' ∧ c = c' ∧ r = r' ∧ q = q' ∧ o = o' ∧ b = b') = f := ⟨_, rfl⟩
  rw [hf]
  by_cases h0 : k = k'
  rotate_left
  · have k0 : (k != k') = true := by simpa using (show ¬ k = k' from fun e => h0 (by omega))
    obtain rfl : f = false := by rw [← hf]; exact decide_eq_false (fun t => h0 t.1)
    clear hf h0 HY HN HO HB HR HLo HZ
    go_enter Tryz.func15, Tryz.ntmps15
    go_wp2_with fail
    go_ret
    rw [HW.out]
    exact ⟨rfl, HX.out.1⟩
  subst h0
  by_cases h1 : s = s'
  rotate_left
  · have k1 : (((s : Nat) : Int) != ((s' : Nat) : Int)) = true := by simpa using (show ¬ ((s : Nat) : Int) = s' from fun e => h1 (by omega))
    obtain rfl : f = false := by rw [← hf]; exact decide_eq_false (fun t => h1 t.2.1)
    have HE := hideIt (HN.out h1)
    clear hf h1 HY HN HO HB HR HLo HZ
    go_enter Tryz.func15, Tryz.ntmps15
    go_wp2_with (go_at_call 31; rw [HW.out]; refine HE.out.mono ?_; rintro e w1 ⟨rfl, rfl⟩; rw [← HW.out])
    go_ret
    rw [HW.out]
    exact ⟨rfl, HX.out.1⟩
  subst h1
  have HE := hideIt (HY.out rfl)
  clear HY HN
  by_cases h2 : c = c'
  rotate_left
  · have k2 : (c != c') = true := by simpa using (show ¬ c = c' from fun e => h2 (by omega))
    obtain rfl : f = false := by rw [← hf]; exact decide_eq_false (fun t => h2 t.2.2.1)
    clear hf h2 HO HB HR HLo HZ
    go_enter Tryz.func15, Tryz.ntmps15
    go_wp2_with (go_at_call 31; rw [HW.out]; refine HE.out.mono ?_; rintro e w1 ⟨rfl, h1⟩; have H1 := hideIt h1; clear h1; obtain ⟨_, ⟨c0, c1, c2, c3, c4, c5, c6⟩, _⟩ := seven_at (keep2 HX.out.2.1 H1.out); obtain ⟨_, ⟨e0, e1, e2, e3, e4, e5, e6⟩, _⟩ := seven_at (keep2 HX.out.2.2 H1.out))
    go_ret
    exact ⟨rfl, HX.out.1.trans H1.out⟩
  subst h2
  by_cases h3 : r = r'
  rotate_left
  · have k3 : (r != r') = true := by simpa using (show ¬ r = r' from fun e => h3 (by omega))
    obtain rfl : f = false := by rw [← hf]; exact decide_eq_false (fun t => h3 t.2.2.2.1)
    clear hf h3 HO HB HR HLo HZ
    go_enter Tryz.func15, Tryz.ntmps15
    go_wp2_with (go_at_call 31; rw [HW.out]; refine HE.out.mono ?_; rintro e w1 ⟨rfl, h1⟩; have H1 := hideIt h1; clear h1; obtain ⟨_, ⟨c0, c1, c2, c3, c4, c5, c6⟩, _⟩ := seven_at (keep2 HX.out.2.1 H1.out); obtain ⟨_, ⟨e0, e1, e2, e3, e4, e5, e6⟩, _⟩ := seven_at (keep2 HX.out.2.2 H1.out))
    go_ret
    exact ⟨rfl, HX.out.1.trans H1.out⟩
  subst h3
  by_cases h4 : q = q'
  rotate_left
  · have k4 : (q != q') = true := by simpa using (show ¬ q = q' from fun e => h4 (by omega))
    obtain rfl : f = false := by rw [← hf]; exact decide_eq_false (fun t => h4 t.2.2.2.2.1)
    clear hf h4 HO HB HR HLo HZ
    go_enter Tryz.func15, Tryz.ntmps15
    go_wp2_with (go_at_call 31; rw [HW.out]; refine HE.out.mono ?_; rintro e w1 ⟨rfl, h1⟩; have H1 := hideIt h1; clear h1; obtain ⟨_, ⟨c0, c1, c2, c3, c4, c5, c6⟩, _⟩ := seven_at (keep2 HX.out.2.1 H1.out); obtain ⟨_, ⟨e0, e1, e2, e3, e4, e5, e6⟩, _⟩ := seven_at (keep2 HX.out.2.2 H1.out))
    go_ret
    exact ⟨rfl, HX.out.1.trans H1.out⟩
  subst h4
  by_cases h5 : o = o'
  rotate_left
  · have k5 : (((o : Nat) : Int) != ((o' : Nat) : Int)) = true := by simpa using (show ¬ ((o : Nat) : Int) = o' from fun e => h5 (by omega))
    obtain rfl : f = false := by rw [← hf]; exact decide_eq_false (fun t => h5 t.2.2.2.2.2.1)
    clear hf h5 HO HB HR HLo HZ
    go_enter Tryz.func15, Tryz.ntmps15
    go_wp2_with (go_at_call 31; rw [HW.out]; refine HE.out.mono ?_; rintro e w1 ⟨rfl, h1⟩; have H1 := hideIt h1; clear h1; obtain ⟨_, ⟨c0, c1, c2, c3, c4, c5, c6⟩, _⟩ := seven_at (keep2 HX.out.2.1 H1.out); obtain ⟨_, ⟨e0, e1, e2, e3, e4, e5, e6⟩, _⟩ := seven_at (keep2 HX.out.2.2 H1.out))
    go_ret
    exact ⟨rfl, HX.out.1.trans H1.out⟩
  subst h5
  by_cases h6 : b = b'
  rotate_left
  · have k6 : (((b : Nat) : Int) != ((b' : Nat) : Int)) = true := by simpa using (show ¬ ((b : Nat) : Int) = b' from fun e => h6 (by omega))
    obtain rfl : f = false := by rw [← hf]; exact decide_eq_false (fun t => h6 t.2.2.2.2.2.2)
    clear hf h6 HO HB HR HLo HZ
    go_enter Tryz.func15, Tryz.ntmps15
    go_wp2_with (go_at_call 31; rw [HW.out]; refine HE.out.mono ?_; rintro e w1 ⟨rfl, h1⟩; have H1 := hideIt h1; clear h1; obtain ⟨_, ⟨c0, c1, c2, c3, c4, c5, c6⟩, _⟩ := seven_at (keep2 HX.out.2.1 H1.out); obtain ⟨_, ⟨e0, e1, e2, e3, e4, e5, e6⟩, _⟩ := seven_at (keep2 HX.out.2.2 H1.out))
    go_ret
    exact ⟨rfl, HX.out.1.trans H1.out⟩
  subst h6
  obtain rfl : f = true := by rw [← hf]; simp
  clear hf
  have ho' := HO.out rfl
  subst ho'
  have hb' := HB.out rfl
  subst hb'
  have HRR := HR
  clear HO HB HR
  go_enter Tryz.func15, Tryz.ntmps15
  go_wp2_with (go_at_call 31; rw [HW.out]; refine HE.out.mono ?_; rintro e w1 ⟨rfl, h1⟩; have H1 := hideIt h1; clear h1; obtain ⟨_, ⟨c0, c1, c2, c3, c4, c5, c6⟩, _⟩ := seven_at (keep2 HX.out.2.1 H1.out); obtain ⟨_, ⟨e0, e1, e2, e3, e4, e5, e6⟩, _⟩ := seven_at (keep2 HX.out.2.2 H1.out))
  have H9 := hideIt (And.intro (HRR.out.1.after H1.out) (And.intro (HRR.out.2.1.after H1.out) (And.intro (HRR.out.2.2.1.after H1.out) (HRR.out.2.2.2.after H1.out))))
  have hlo := HLo.out.1
  have hlb := HLo.out.2
  go_loopw [5] (fun i wr => ∃ j m : Nat, j ≤ o ∧ i = .int .i64 j ∧ wr = w1.drewN m) (fun i _ => o - (intOf i).toNat)
  case atStart => exact ⟨0, 0, Nat.zero_le _, rfl, rfl⟩
  case round =>
    obtain ⟨j, m, hj, rfl, rfl⟩ := hrel
    by_cases hlt : j < o
    · obtain ⟨b1, o1, h1, u1, l1, rfl, _, x1, c11, c12, c13⟩ := rowO_at H9.out.1 hlt
      obtain ⟨b2, o2, h2, u2, l2, rfl, _, x2, c21, c22, c23⟩ := rowO_at H9.out.2.1 hlt
      obtain ⟨rfl, rfl, rfl⟩ : h1 = h2 ∧ u1 = u2 ∧ l1 = l2 := by
        rw [x1] at x2
        have e9 := Option.some.inj x2
        injection e9 with e1 e2 e3
        exact ⟨e1, e2, e3⟩
      clear x1 x2
      have hne := neq42 h1 u1 l1
      go_wp2_with fail
      go_region
      go_wp2_with fail
      go_roundw
      case rel => exact ⟨j + 1, m + 1, by omega, by go_num, rfl⟩
      case measure => simp [intOf]; omega
    · go_wp2_with fail
      have d6 : (w1.drewN m).cell? ⟨w.heap.size, 6, none⟩ = some (.slice ba b bc) := c6
      go_loopw [6] (fun i wr => ∃ j m' : Nat, j ≤ b ∧ i = .int .i64 j ∧ wr = w1.drewN m') (fun i _ => b - (intOf i).toNat)
      case atStart => exact ⟨0, m, Nat.zero_le _, rfl, rfl⟩
      case round =>
        obtain ⟨j, m', hj, rfl, rfl⟩ := hrel
        by_cases hlt : j < b
        · obtain ⟨b1, o1, h1, l1, u1, rfl, _, x1, c11, c12, c13⟩ := rowB_at H9.out.2.2.1 hlt
          obtain ⟨b2, o2, h2, l2, u2, rfl, _, x2, c21, c22, c23⟩ := rowB_at H9.out.2.2.2 hlt
          obtain ⟨rfl, rfl, rfl⟩ : h1 = h2 ∧ l1 = l2 ∧ u1 = u2 := by
            rw [x1] at x2
            have e9 := Option.some.inj x2
            injection e9 with e1 e2 e3
            exact ⟨e1, e2, e3⟩
          clear x1 x2
          have hne := neq46 h1 u1 l1
          go_wp2_with fail
          go_region
          go_wp2_with fail
          go_roundw
          case rel => exact ⟨j + 1, m' + 1, by omega, by go_num, rfl⟩
          case measure => simp [intOf]; omega
        · go_wp2_with fail
          go_ret
          exact ⟨rfl, HX.out.1.trans (H1.out.trans (After.rfl.draws m'))⟩
end Go.Proofs.YthcfdoafncbliaaGreat
