/-
  PanelSignals: Signal and Of answer as the chapter says, of all states and locks; what is handed in stays.
-/
import Derived.Test.YtaiagijepnaalaaLawTop19
namespace Go.Proofs.Ytaiagijepnaalaa
open Go.RowKit
set_option maxRecDepth 8000
theorem Try.infoState : (Try.prog.info? 35).map (fun i => (i.zero, i.size, i.bytes)) = some (some (.agg #[.int .i64 0, .int .i64 0, .int .i64 0, .int .i64 0]), 4, 32) := by kernel_rfl
/-- Both answers, whatever is handed in. -/
def ofR (l : List As) (fl : Bool) (bs : List Bool) : Vec × Int := if l.length ≤ 26 ∧ bs.length ≤ 4 then (ofV l fl bs, 0) else (Vec.zero, 2)
theorem ofR_ok (l : List As) (fl : Bool) (bs : List Bool) : (ofR l fl bs).1.Ok := by
  unfold ofR
  split
  · exact ofV_ok _ _ _
  · exact Vec.Ok.zero
theorem of_any (w : World) (a a' : Option Addr) (n c m c' : Nat) (fl : Bool) (l : List As) (bs : List Bool) (hl : GRow asE w a n l) (hb : GRow blE w a' m bs) :
    Calls Try.prog 9 #[.slice a n c, .bool fl, .slice a' m c'] w fun e w' => e = .returned (.tuple #[(ofR l fl bs).1.v, .int .i64 (ofR l fl bs).2]) ∧ After w w' := by
  unfold ofR
  by_cases h : l.length ≤ 26 ∧ bs.length ≤ 4
  · rw [if_pos h]
    exact of_yes w a a' n c m c' fl l bs hl hb (by rw [← hl.1]; exact h.1) (by rw [← hb.1]; exact h.2)
  · rw [if_neg h]
    exact of_no w a a' n c m c' fl (by rw [hl.1, hb.1] at h; omega)
theorem refOf_any (w : World) (a a' : Option Addr) (n c m c' : Nat) (fl : Bool) (l : List As) (bs : List Bool) (hl : GRow asE w a n l) (hb : GRow blE w a' m bs) :
    Calls Try.prog 10 #[.slice a n c, .bool fl, .slice a' m c'] w fun e w' => e = .returned (.tuple #[(ofR l fl bs).1.v, .int .i64 (ofR l fl bs).2]) ∧ After w w' := by
  unfold ofR
  by_cases h : l.length ≤ 26 ∧ bs.length ≤ 4
  · rw [if_pos h]
    exact refOf_yes w a a' n c m c' fl l bs hl hb (by rw [← hl.1]; exact h.1) (by rw [← hb.1]; exact h.2)
  · rw [if_neg h]
    exact refOf_no w a a' n c m c' fl (by rw [hl.1, hb.1] at h; omega)
theorem wl_bin {ops : Array Oper} {rest : List Oper} {o : Oper} {a : Act} {w : World} {Q : Exit → Act → World → Prop} {op : BinOp} {t t' : Nat} {x y : Operand} {p q v : Value} (ho : o.op = .binOp op t x y t') (hgd : o.guard = none) (hx : a.eval x = p) (hy : a.eval y = q) (hr : (do eqGuard op t x y p q; binOp op t p q : Sem Value).run Try.prog w = .ok v w) (h : wpList Try.prog ops Q rest (a.put o.dst v) w) : wpList Try.prog ops Q (o :: rest) a w := by
  refine wl_val (s := do eqGuard op t x y (a.eval x) (a.eval y); binOp op t (a.eval x) (a.eval y)) hgd (by unfold execOp; rw [ho]) ?_ h
  rw [hx, hy]
  exact hr
theorem neAs (x y : Operand) (s : As) (w : World) : (do eqGuard .neq 35 x y s.v s.v; binOp .neq 35 s.v s.v : Sem Value).run Try.prog w = .ok (.bool false) w := by
  simp [go_sem]
theorem neSg (x y : Operand) (s : Sg) (w : World) : (do eqGuard .neq 25 x y s.v s.v; binOp .neq 25 s.v s.v : Sem Value).run Try.prog w = .ok (.bool false) w := by
  simp [go_sem]
theorem pw_pick {o : Oper} {a : Act} {w : World} {K : Act → World → Prop} {Q : Exit → Act → World → Prop} {c x y : Operand} {q : Bool} {v : Value} (ho : o.op = .pick c x y) (hc : a.eval c = .bool q) (hx : a.eval (if q then x else y) = v) (h : K (a.put o.dst v) w) : Oper.wp Try.prog o a w K Q := by
  refine pw_val (r := pure v) (v := v) (w' := w) ?_ (by simp) h
  unfold execOp
  simp only [ho, hc]
  cases q <;> simp_all [asBool]
set_option maxHeartbeats 1000000 in
theorem law_signals (w : World) (a : Option Addr) (n c : Nat) (l : List As) (fl : Bool) (a' : Option Addr) (m c' : Nat) (bs : List Bool) (hl : In19 w a n c l) (hn : n ≤ 4398046510976) (hb : GRow blE w a' m bs) :
    Calls Try.prog 3 #[.slice a n c, .bool fl, .slice a' m c'] w fun e w' => e = .returned (.bool true) ∧ After w w' := by
  have HI := hideIt hl
  have HB := hideIt (fun V (x : After w V) => hb.after x)
  have hn' : ([] : List As).length + n ≤ maxLen := by unfold maxLen; simp; omega
  have hn2 : (([] : List As).length + n) * 32 ≤ 140737488355328 := by simp; omega
  have HN := hideIt (And.intro hn' hn2)
  have kR := ofR_ok l fl bs
  have O1 := fun V x y z (h : GRow asE V x y l) (b : After w V) => of_any V x a' y z m c' fl l bs h (hb.after b)
  have O2 := fun V (b : After w V) => refOf_any V a a' n c m c' fl l bs (hl.row.after b) (hb.after b)
  generalize ofR l fl bs = RR at *
  obtain ⟨R, E⟩ := RR
  have KR := hideIt (And.intro kR (And.intro O1 O2))
  have nb : (n : Int) ≤ 4398046510976 := by omega
  clear hl hb hn' hn2 kR O1 O2 hn
  go_enter Try.func3, Try.ntmps3
  go_wp2_with (at_builtin; refine app_row (E := asE) rfl (.tmp 13) (.tmp 14) 22 35 Try.underlying22 Try.infoState rfl (by decide) rfl w.heap.size _ [] rfl (orow_nil asE _ _ _) a n c l rfl HI.out.row HI.out.nil HN.out.1 HN.out.2 (Nat.le_refl _) ?_; intro v' w1 hown hb1; have HO := hideIt (And.intro hown (show After w w1 from But.mono hb1 (fun i hi h => by cases h))); clear hown hb1)
  obtain ⟨a1, c1, ev, r1, -, -⟩ := HO.out.1.row
  have en : ([] ++ l).length = n := by simp; exact HI.out.row.1
  rw [en] at ev r1
  rw [List.nil_append] at r1
  subst ev
  have H1 := hideIt (And.intro r1 HO.out.2)
  clear r1 en HO
  refine (KR.out.2.1 w1 a1 n c1 H1.out.1 H1.out.2).mono ?_
  rintro e w2 ⟨rfl, a2⟩
  have H2 := hideIt (And.intro (H1.out.1.after a2) (H1.out.2.trans a2))
  clear a2 H1
  go_upto_region 4 with (first | (show wpList _ _ _ (_ :: _) _ _; refine wl_avec rfl rfl ?_; intro wa va ba sa) | (show wpList _ _ _ (_ :: _) _ _; refine wl_vec _ _ rfl rfl rfl (v := R) rfl Vec.Ok.zero KR.out.1 va ?_; intro w3 v3 bs ss) | fail)
  have hz : w.heap.size ≤ w2.heap.size := H2.out.2.size
  have b3 : After w2 w3 := But.then ba bs (fun i hi (t : i = w2.heap.size) => by omega)
  have H3 := hideIt (And.intro (H2.out.1.after b3) (And.intro (H2.out.2.trans b3) v3))
  clear va ba sa bs ss b3 v3 H2 hz
  generalize w2.heap.size = g at *
  go_wp2_with fail
  refine (KR.out.2.2 w3 H3.out.2.1).mono ?_
  rintro e w4 ⟨rfl, a4⟩
  have H4 := hideIt (And.intro (H3.out.1.after a4) (And.intro (H3.out.2.1.trans a4) (H3.out.2.2.after a4)))
  clear a4 H3
  go_upto_region 5 with (first | (show wpList _ _ _ (_ :: _) _ _; refine wl_avec rfl rfl ?_; intro wa va ba sa) | (show wpList _ _ _ (_ :: _) _ _; refine wl_vec _ _ rfl rfl rfl (v := R) rfl Vec.Ok.zero KR.out.1 va ?_; intro w5 v5 bs ss) | fail)
  have b5 : After w4 w5 := But.then ba bs (fun i hi (t : i = w4.heap.size) => by omega)
  have H5 := hideIt (And.intro (H4.out.1.after b5) (And.intro (H4.out.2.1.trans b5) (And.intro (H4.out.2.2.after b5) v5)))
  clear va ba sa bs ss b5 v5 H4
  generalize w4.heap.size = h at *
  have eE : (E != E) = false := by simp
  go_upto_region 7 with (first | (show wpList _ _ _ (_ :: _) _ _; refine wl_gvec (.tmp 8) rfl rfl rfl KR.out.1 H5.out.2.2.1 ?_) | (show wpList _ _ _ (_ :: _) _ _; refine wl_gvec (.tmp 10) rfl rfl rfl KR.out.1 H5.out.2.2.2 ?_) | (show wpList _ _ _ (_ :: _) _ _; refine wl_bin (t := 29) (p := R.v) (q := R.v) rfl rfl rfl rfl (neVecs _ _ KR.out.1 _) ?_) | fail)
  generalize R.v = V0
  generalize Value.tuple #[V0, Value.int IntKind.i64 E] = V1
  have H := hideIt (And.intro H5.out.1 H5.out.2.1)
  clear H5 eE
  go_wp2_with fail
  go_loopw [12] (fun i wr => ∃ j : Nat, j ≤ n ∧ i = .int .i64 j ∧ After w5 wr) (fun i _ => n - (intOf i).toNat)
  case atStart => exact ⟨0, by omega, rfl, After.rfl⟩
  case round =>
    obtain ⟨j, hj, rfl, af⟩ := hrel
    by_cases hjn : j < n
    · have i1 : (j : Int) < (n : Int) := by omega
      obtain ⟨b, off, x, rfl, hlt, hlx, c0, c1', c2, c3⟩ := asrow_at (HI.out.row.after (H.out.2.trans af)) hjn
      obtain ⟨b2, off2, x2, e2, hlt2, hlx2, d0, d1, d2, d3⟩ := asrow_at (H.out.1.after af) hjn
      rw [hlx] at hlx2
      cases hlx2
      subst e2
      have HC : ∀ V, After wr V → (Instr.loadAt 35 (.pointer (some ⟨b, off + j * 4, none⟩))).run Try.prog V = .ok x.v V ∧ (Instr.loadAt 35 (.pointer (some ⟨b2, off2 + j * 4, none⟩))).run Try.prog V = .ok x.v V := fun V av =>
        ⟨loadAs ((After.cell av hlt _).trans c0) ((After.cell av hlt _).trans c1') ((After.cell av hlt _).trans c2) ((After.cell av hlt _).trans c3), loadAs ((After.cell av hlt2 _).trans d0) ((After.cell av hlt2 _).trans d1) ((After.cell av hlt2 _).trans d2) ((After.cell av hlt2 _).trans d3)⟩
      have HC' := hideIt HC
      have AF := hideIt af
      have S := hideIt (And.intro (fun V => signal_any V x) (fun V => refSignal_any V x))
      clear HC c0 c1' c2 c3 d0 d1 d2 d3 hlx af KR
      generalize sgOf x = y at *
      go_upto_region 10 with fail
      refine region_phase (by kernel_rfl) (fun i => ([.slice (some ⟨b, off, none⟩) n c, .int .i64 j, .pointer (some ⟨b, off + j * 4, none⟩), x.v, y.v, .slice (some ⟨b, off, none⟩) n c, .int .i64 j, .pointer (some ⟨b, off + j * 4, none⟩), x.v, y.v, .bool false, .bool false, .slice (some ⟨b2, off2, none⟩) n c1, .int .i64 j, .pointer (some ⟨b2, off2 + j * 4, none⟩), x.v, .slice (some ⟨b, off, none⟩) n c, .int .i64 j, .pointer (some ⟨b, off + j * 4, none⟩), x.v, .bool false]).getD i undef) 44 21 (fun _ V => After wr V) _ rfl rfl (Nat.le_of_ble_eq_true rfl) (But.drew After.rfl) ?_ rfl rfl 21 rfl ?_
      · exact ⟨ph_move rfl rfl rfl rfl rfl (fun _ _ h => h),
          ph_move rfl rfl rfl rfl rfl (fun _ _ h => h),
          ph_index rfl rfl rfl rfl rfl rfl (fun V => indexAs V _ _ hjn) (fun _ _ h => h),
          ph_load rfl rfl rfl rfl rfl (fun _ V h => (HC'.out V h).1) (fun _ _ h => h),
          ph_call (vs := [x.v]) rfl rfl rfl rfl (enterP Try.func11 (by kernel_rfl) (by kernel_rfl)) rfl (fun _ V _ _ h => (S.out.1 V).mono (fun e w' q => ⟨q.1, h.trans q.2⟩)),
          ph_move rfl rfl rfl rfl rfl (fun _ _ h => h),
          ph_move rfl rfl rfl rfl rfl (fun _ _ h => h),
          ph_index rfl rfl rfl rfl rfl rfl (fun V => indexAs V _ _ hjn) (fun _ _ h => h),
          ph_load rfl rfl rfl rfl rfl (fun _ V h => (HC'.out V h).1) (fun _ _ h => h),
          ph_call (vs := [x.v]) rfl rfl rfl rfl (enterP Try.func12 (by kernel_rfl) (by kernel_rfl)) rfl (fun _ V _ _ h => (S.out.2 V).mono (fun e w' q => ⟨q.1, h.trans q.2⟩)),
          ph_bin rfl rfl rfl rfl rfl rfl (fun V => neSg _ _ y V) (fun _ _ h => h),
          ph_move rfl rfl rfl rfl rfl (fun _ _ h => h),
          ph_move rfl rfl rfl rfl rfl (fun _ _ h => h),
          ph_move rfl rfl rfl rfl rfl (fun _ _ h => h),
          ph_index rfl rfl rfl rfl rfl rfl (fun V => indexAs V _ _ hjn) (fun _ _ h => h),
          ph_load rfl rfl rfl rfl rfl (fun _ V h => (HC'.out V h).2) (fun _ _ h => h),
          ph_move rfl rfl rfl rfl rfl (fun _ _ h => h),
          ph_move rfl rfl rfl rfl rfl (fun _ _ h => h),
          ph_index rfl rfl rfl rfl rfl rfl (fun V => indexAs V _ _ hjn) (fun _ _ h => h),
          ph_load rfl rfl rfl rfl rfl (fun _ V h => (HC'.out V h).1) (fun _ _ h => h),
          ph_bin rfl rfl rfl rfl rfl rfl (fun V => neAs _ _ x V) (fun _ _ h => h),
          trivial⟩
      intro w6 Ls hL h6 K' hK'
      simp only [puts, List.getD_cons_succ, List.getD_cons_zero, List.setIfInBounds_toArray, List.set_cons_succ, List.set_cons_zero, Nat.reduceAdd]
      refine pw_pick (q := false) (v := .bool false) rfl rfl rfl (hK' _ _ ?_)
      have E6 := hideIt (AF.out.trans h6)
      clear hL hK' h6 S HC' AF HB HN
      have jw : IntKind.i64.wrap ((j : Int) + 1) = (j : Int) + 1 := IntWalk.i64_in _ (by omega)
      go_wp2
      exact ⟨⟨j + 1, by omega, by simp, E6.out⟩, by simp [intOf]; omega⟩
    · obtain rfl : j = n := by omega
      have AF := hideIt af
      have i2 : ¬ (j : Int) < (j : Int) := by omega
      clear hjn hj af KR HB HN
      go_wp2_with fail
      refine (works_any wr).mono ?_
      rintro e w7 ⟨rfl, a7⟩
      have A7 := hideIt (H.out.2.trans (AF.out.trans a7))
      clear a7 H AF HI
      go_wp2
      go_ret
      exact ⟨rfl, A7.out⟩
end Go.Proofs.Ytaiagijepnaalaa
