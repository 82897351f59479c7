/-
  One call of both devices.
-/
import Derived.Test.YtalffdiohjcajaaDbY
namespace Go.Proofs.Ytalffdiohjcajaa.Ig
open Go.RowKit
set_option maxRecDepth 8000
theorem lenSl (w : World) (T ty : TypeId) (a : Option Addr) (n c : Nat) (hT : ∃ e, Try.prog.underlying T = some (.slice e)) : (Builtin.len_ #[T] ty #[.slice a n c]).run Try.prog w = .ok (.int .i64 (n : Nat)) w := by
  obtain ⟨e, he⟩ := hT
  simp [Builtin.len_, run_underlying he, goInt]
/-- Bytes that are handed to both, and may be written over. -/
structure Rq (a : Option Addr) (n : Nat) (zs : List Int) (V : World) : Prop where
  row : Row V a n zs
  bz : ∀ q, a = some q → BzAt V q.block n
theorem Rq.but {T : Nat → Prop} {a : Option Addr} {n : Nat} {zs : List Int} {V V' : World} (h : Rq a n zs V) (b : But T V V') (hn : ∀ q, a = some q → ¬ T q.block) : Rq a n zs V' := ⟨h.row.but b hn, fun q hq => (h.bz q hq).but b (hn q hq)⟩
theorem Rq.after {a : Option Addr} {n : Nat} {zs : List Int} {V V' : World} (h : Rq a n zs V) (b : After V V') : Rq a n zs V' := h.but b (fun _ _ t => t)
theorem neqI (E : Int) (w : World) (t : TypeId) (x y : Operand) : (do eqGuard .neq t x y (.int .i64 E) (.int .i64 E); binOp .neq t (.int .i64 E) (.int .i64 E) : Sem Value).run Try.prog w = .ok (.bool false) w := by
  simp [go_sem]
theorem irow_but {S : Nat → Prop} {w w' : World} {a : Option Addr} {n : Nat} {zs : List Int} (h : IRow w a n zs) (ha : But S w w') (hn : ∀ x, a = some x → 0 < n → ¬ S x.block) : IRow w' a n zs :=
  ⟨h.1, fun i hi => by
    obtain ⟨b, off, e, hb, hc⟩ := h.2 i hi
    exact ⟨b, off, e, Nat.lt_of_lt_of_le hb ha.size, (ha.cell hb (hn _ e (by omega)) _).trans hc⟩⟩
set_option maxHeartbeats 4000000 in
theorem step_any (w0 w : World) (d g m : Nat) (p : Pl) (y : Dv) (pb : Pb w0 w d g m p y) (x : Dox) (ch : List Int) (hin : Din w (Bth d g m p) x ch) :
    Calls Try.prog 11 #[Ptr d, Ptr p.e, x.val] w fun e w' => e = .returned (.bool true) ∧ ∃ y', Pb w0 w' d g m p y' := by
  obtain ⟨b5, hb5⟩ : ∃ b, w.heap.size = b := ⟨_, rfl⟩
  have a1 : After w (w.alloc (.cells x.cs 34)) := After.rfl.alloc _
  have k1 : (w.alloc (.cells x.cs 34)).heap[b5]? = some (.cells x.cs 34 (0, 0)) := by rw [← hb5]; exact heap_alloc_new w _
  have hnb : ¬ Bth d g m p b5 := fun e => by have := pb.lt b5 e; omega
  have hws := pb.after a1
  have HD := hideIt (hin.after a1)
  have HP := hideIt (And.intro hnb (And.intro pb.new pb.dis))
  have HB := hideIt (fun W => bring_any x.k 6 W hin.k0 hin.k1 (by decide) (by decide))
  have hK := broughtTo_lt x.k (m := 6) (by decide)
  have HX := hideIt (show Ws w0 (Bth d g m p) d g m p b5 x y y (w.alloc (.cells x.cs 34)) from ⟨hws.dv, hws.rv, hws.aft, k1⟩)
  have HIN := hideIt (And.intro (show ∀ k, InD d g m k → Bth d g m p k from fun _ h => .inl h) (And.intro (show ∀ k, p.In k → Bth d g m p k from fun _ h => .inr h) (show b5 < (w.alloc (.cells x.cs 34)).heap.size from blk_lt k1)))
  obtain ⟨c0, c1, _, _, c4⟩ := doB k1
  clear hin pb a1 hws k1 hnb
  generalize broughtTo x.k 6 = K at *
  go_enter Try.func11, Try.ntmps11
  go_upto_region 1 with fail
  generalize w.alloc (.cells x.cs 34) = W1 at *
  clear hb5
  have hK6 : K = 0 ∨ K = 1 ∨ K = 2 ∨ K = 3 ∨ K = 4 ∨ K = 5 := by omega
  clear hK
  rcases hK6 with rfl | rfl | rfl | rfl | rfl | rfl
  · have HF := hideIt (HX.out.dv.read x.i)
    have HG := hideIt (fun V (a : After W1 V) => rvRead (HX.out.after a).rv x.i)
    have hne : (y.readE x.i != y.readE x.i) = false := bne_self_eq_false _
    generalize y.readE x.i = E at *
    generalize y.readB x.i = b at *
    clear c4
    go_upto_region 6 with (first
      | (go_at_call 22; refine (HB.out _).mono ?_; rintro e W3 ⟨rfl, h3⟩; obtain rfl := h3.symm)
      | (go_at_call 18; refine HF.out.mono ?_; rintro e W5 ⟨v5, rfl, an5, a5⟩; have X5 := hideIt (And.intro an5 a5); clear an5 a5)
      | fail)
    have c1' := (X5.out.2.cell HIN.out.2.2 1).trans c1
    go_upto_region 7 with (first
      | (go_at_call 23; refine (HG.out _ X5.out.2).mono ?_; rintro e W6 ⟨v6, rfl, an6, a6⟩; have X6 := hideIt (And.intro an6 a6); clear an6 a6)
      | fail)
    have hb5 := HIN.out.2.2
    clear c1' c1 HF HG
    have hcase := X5.out.1
    have hcase6 := X6.out.1
    rcases hcase with ⟨rfl, hbn⟩ | ⟨q, rfl, hsec, hqn, hbs⟩
    · have hv6 : ∃ a6 c6, v6 = .slice a6 0 c6 ∧ Row W6 a6 0 b := by
        rcases hcase6 with ⟨rfl, _⟩ | ⟨q6, c6, rfl, hr6, _⟩
        · exact ⟨none, 0, rfl, by rw [hbn]; exact Row.nil _ _⟩
        · have h1 := hr6.1
          rw [hbn] at h1
          cases h1
      obtain ⟨a6, c6, rfl, hr6⟩ := hv6
      have HQ := hideIt (eqB_same none a6 0 0 c6 b W6 (by rw [hbn]; exact Row.nil _ _) hr6 (by omega))
      clear hcase6 hr6 hbn
      go_wp2_with (first
        | (go_at_call 20; refine HQ.out.mono ?_; rintro e W7 ⟨rfl, a7⟩; have X7 := hideIt (HX.out.after (X5.out.2.trans (X6.out.2.trans a7))); clear a7)
        | fail)
      clear X5 X6 HQ HX hne
      go_loopw [11] (fun iv wr => iv = .int .i64 0 ∧ wr = W7) (fun _ _ => 0)
      case atStart => exact ⟨rfl, rfl⟩
      case round =>
        obtain ⟨rfl, rfl⟩ := hrel
        go_upto_region 30 with fail
        have E1 := hideIt (dvDead X7.out.dv)
        have E2 := hideIt (rvDead X7.out.rv)
        have E3 := hideIt (dvSectors X7.out.dv)
        have E4 := hideIt (rvSectors X7.out.rv)
        have HPB := hideIt (And.intro X7.out.dv (And.intro X7.out.rv X7.out.aft))
        clear X7
        generalize hy2 : y.dead = q2 at *
        generalize hn2 : y.n = n2 at *
        have hq2 : (q2 == q2) = true := beq_self_eq_true _
        go_wp2_with (first
          | (go_at_call 16; refine E1.out.mono ?_; rintro e W4 ⟨rfl, h4⟩; obtain rfl := h4.symm)
          | (go_at_call 31; refine E2.out.mono ?_; rintro e W4 ⟨rfl, h4⟩; obtain rfl := h4.symm)
          | (go_at_call 21; refine E3.out.mono ?_; rintro e W4 ⟨rfl, h4⟩; obtain rfl := h4.symm)
          | (go_at_call 32; refine E4.out.mono ?_; rintro e W4 ⟨rfl, h4⟩; obtain rfl := h4.symm)
          | fail)
        go_ret
        exact ⟨rfl, y, HPB.out.1, HPB.out.2.1, HPB.out.2.2, HP.out.2.1, HP.out.2.2⟩
    · have hv6 : ∃ a6 c6, v6 = .slice a6 64 c6 ∧ Row W6 a6 64 b := by
        rcases hcase6 with ⟨_, h0⟩ | ⟨q6, c6, rfl, hr6, _⟩
        · have h1 := hbs.1
          rw [h0] at h1
          cases h1
        · exact ⟨_, _, rfl, hr6⟩
      obtain ⟨a6, c6, rfl, hr6⟩ := hv6
      have hbz := (bz_sec hsec hbs.1).but X6.out.2 (fun t => t)
      have HQ := hideIt (eqB_same (some ⟨q, 0, none⟩) a6 64 64 c6 b W6 ((hsec.row hbs).after X6.out.2) hr6 (by omega))
      have HBZ := hideIt (And.intro hbz hqn)
      clear hcase6 hr6 hsec hbs hbz hqn
      go_wp2_with (first
        | (go_at_call 20; refine HQ.out.mono ?_; rintro e W7 ⟨rfl, a7⟩; have X7 := hideIt (And.intro (X5.out.2.trans (X6.out.2.trans a7)) (HBZ.out.1.but a7 (fun t => t))); clear a7)
        | fail)
      clear X6 HQ hne
      go_loopw [11] (fun iv wr => ∃ j : Nat, j ≤ 64 ∧ iv = .int .i64 j ∧ After W1 wr ∧ BzAt wr q 64) (fun iv _ => 64 - (intOf iv).toNat)
      case atStart => exact ⟨0, Nat.zero_le _, rfl, X7.out.1, X7.out.2⟩
      case round =>
        obtain ⟨j, hj, rfl, aq, bz⟩ := hrel
        by_cases hjn : j < 64
        · have i1 : (j : Int) < 64 := by omega
          have i0 : (0 : Int) ≤ (j : Int) := by omega
          obtain ⟨z, cz, fz⟩ := bz.cell hjn
          have AQ := hideIt (And.intro aq bz)
          clear aq bz X7
          go_wp2_with fail
          exact ⟨⟨j + 1, by omega, by simp, AQ.out.1.set ⟨q, j, none⟩ HBZ.out.2 _, AQ.out.2.put _ _⟩, by simp [intOf]; omega⟩
        · obtain rfl : j = 64 := by omega
          have X8 := hideIt (HX.out.after aq)
          clear aq bz X7 HX X5
          go_upto_region 30 with fail
          have E1 := hideIt (dvDead X8.out.dv)
          have E2 := hideIt (rvDead X8.out.rv)
          have E3 := hideIt (dvSectors X8.out.dv)
          have E4 := hideIt (rvSectors X8.out.rv)
          have HPB := hideIt (And.intro X8.out.dv (And.intro X8.out.rv X8.out.aft))
          clear X8
          generalize hy2 : y.dead = q2 at *
          generalize hn2 : y.n = n2 at *
          have hq2 : (q2 == q2) = true := beq_self_eq_true _
          go_wp2_with (first
            | (go_at_call 16; refine E1.out.mono ?_; rintro e W4 ⟨rfl, h4⟩; obtain rfl := h4.symm)
            | (go_at_call 31; refine E2.out.mono ?_; rintro e W4 ⟨rfl, h4⟩; obtain rfl := h4.symm)
            | (go_at_call 21; refine E3.out.mono ?_; rintro e W4 ⟨rfl, h4⟩; obtain rfl := h4.symm)
            | (go_at_call 32; refine E4.out.mono ?_; rintro e W4 ⟨rfl, h4⟩; obtain rfl := h4.symm)
            | fail)
          go_ret
          exact ⟨rfl, y, HPB.out.1, HPB.out.2.1, HPB.out.2.2, HP.out.2.1, HP.out.2.2⟩
  · have HBy := hideIt (fun V (a : After W1 V) => bytes_any V x HD.out.v0 HD.out.v1)
    obtain ⟨d0, d1, d2, d3, d4⟩ := doB HX.out.box
    go_upto_region 15 with (first
      | (go_at_call 22; refine (HB.out _).mono ?_; rintro e W3 ⟨rfl, h3⟩; obtain rfl := h3.symm)
      | (go_at_call 24; refine (HBy.out _ After.rfl).mono ?_; rintro e W2 ⟨v2, rfl, ho, a2⟩; have X2 := hideIt (And.intro ho a2); clear ho a2)
      | fail)
    obtain ⟨a, c, rfl, hrow, hnil, hnc, hown⟩ := own_row X2.out.1 (byt_bs _ _)
    have hq1 : ∀ q, a = some q → W1.heap.size ≤ q.block ∧ q.block < W2.heap.size ∧ q = ⟨q.block, 0, none⟩ := fun q hq => ⟨(X2.out.1.lt _ (hown q hq).1).1, (X2.out.1.lt _ (hown q hq).1).2, (hown q hq).2⟩
    have hnB : ∀ q, a = some q → ¬ Bth d g m p q.block := fun q hq e => by
      have h1 := (hq1 q hq).1
      have h2 := HX.out.rv.bd _ e
      omega
    have hbz : ∀ q, a = some q → BzAt W2 q.block (bytN x.s) := fun q hq => by
      have ho := X2.out.1
      rw [hq, (hq1 q hq).2.2] at ho
      exact bz_own ho (byt_len _ _)
    have hws := HX.out.after X2.out.2
    have hrv : RvX W2 (fun k => Bth d g m p k ∨ ∃ q, a = some q ∧ k = q.block) p y := RvX.wide HX.out.rv X2.out.2 (fun k hk e => by
      rcases e with e | ⟨q, hq, rfl⟩
      · exact e
      · have := (hq1 q hq).1
        omega) (fun b hb => .inl (.inr hb)) (fun b hb => by
      rcases hb with e | ⟨q, hq, rfl⟩
      · exact Nat.lt_of_lt_of_le (HX.out.rv.bd _ e) X2.out.2.size
      · exact (hq1 q hq).2.1)
    have HX2 := hideIt (show Ws w0 (fun k => Bth d g m p k ∨ ∃ q, a = some q ∧ k = q.block) d g m p b5 x y y W2 ∧ Rq a (bytN x.s) (byt x.v (bytN x.s)) W2 from ⟨⟨hws.dv, hrv, hws.aft, hws.box⟩, ⟨hrow, hbz⟩⟩)
    have hw0 : w0.heap.size ≤ W1.heap.size := HX.out.aft.size
    have HN := hideIt (And.intro hq1 (And.intro hw0 (And.intro hnB (And.intro hnil hnc))))
    obtain ⟨E, hE⟩ : ∃ E, y.writeE x.i (byt x.v (bytN x.s)) = E := ⟨_, rfl⟩
    obtain ⟨y2, hy2⟩ : ∃ y2, y.writeS x.i (byt x.v (bytN x.s)) = y2 := ⟨_, rfl⟩
    have HY2 := hideIt (And.intro hE hy2)
    have HWB := hideIt (show ∀ (i : Nat) (v : Value) (V : World), i ≤ 5 → (fun i (v : Value) V => match i with | 0 => Ws w0 (fun k => Bth d g m p k ∨ ∃ q, a = some q ∧ k = q.block) d g m p b5 x y y V ∧ Rq a (bytN x.s) (byt x.v (bytN x.s)) V | 1 => Ws w0 (fun k => Bth d g m p k ∨ ∃ q, a = some q ∧ k = q.block) d g m p b5 x y2 y V ∧ Rq a (bytN x.s) (byt x.v (bytN x.s)) V | 2 => (Ws w0 (fun k => Bth d g m p k ∨ ∃ q, a = some q ∧ k = q.block) d g m p b5 x y2 y V ∧ Rq a (bytN x.s) (byt x.v (bytN x.s)) V) ∧ ∃ a4 c4, v = .slice a4 (bytN x.s) c4 ∧ Row V a4 (bytN x.s) (byt x.v (bytN x.s)) ∧ ∀ q, a4 = some q → q.block ≠ p.e | 3 => Ws w0 (fun k => Bth d g m p k ∨ ∃ q, a = some q ∧ k = q.block) d g m p b5 x y2 y2 V ∧ Rq a (bytN x.s) (byt x.v (bytN x.s)) V | 4 => (Ws w0 (fun k => Bth d g m p k ∨ ∃ q, a = some q ∧ k = q.block) d g m p b5 x y2 y2 V ∧ Rq a (bytN x.s) (byt x.v (bytN x.s)) V) ∧ ∃ a4 c4, v = .slice a4 (bytN x.s) c4 ∧ Row V a4 (bytN x.s) (byt x.v (bytN x.s)) ∧ ∀ q, a4 = some q → q.block ≠ p.e | _ => Ws w0 (fun k => Bth d g m p k ∨ ∃ q, a = some q ∧ k = q.block) d g m p b5 x y2 y2 V ∧ Rq a (bytN x.s) (byt x.v (bytN x.s)) V) i v V → V.heap[b5]? = some (.cells x.cs 34 (0, 0)) from fun i v V hi h => by
      rcases (by omega : i = 0 ∨ i = 1 ∨ i = 2 ∨ i = 3 ∨ i = 4 ∨ i = 5) with rfl | rfl | rfl | rfl | rfl | rfl
      · exact h.1.box
      · exact h.1.box
      · exact h.1.1.box
      · exact h.1.box
      · exact h.1.1.box
      · exact h.1.box)
    clear c1 c4 d0 d1 d2 d3 d4 HBy hrow hnil hnc hown hq1 hnB hbz hws hrv hw0 hE hy2 HX X2
    refine region_inv (by kernel_rfl) (Tab.J (⟨19, fun k' => [70, 71, 72, 73, 74, 75, 76, 77, 78, 79, 80, 81, 82, 83, 84, 85, 86, 87, 88].getD k' 0, fun k' => ([some (Ptr d), some (.pointer (some ⟨b5, 1, none⟩)), some (.int .i64 x.i), some (.slice a (bytN x.s) c), some (.int .i64 E), some (Ptr p.e), some (.pointer (some ⟨b5, 1, none⟩)), some (.int .i64 x.i), some x.val, none, some (.int .i64 E), some (.bool false), some (.bool false), some (.slice a (bytN x.s) c), some x.val, none, some (.bool true), some (.bool false), some (.bool false)] : List (Option Value)).getD k' none, Cn 5 (fun i => [4, 9, 10, 15, 16].getD i 900) (fun i (v : Value) V => match i with | 0 => Ws w0 (fun k => Bth d g m p k ∨ ∃ q, a = some q ∧ k = q.block) d g m p b5 x y y V ∧ Rq a (bytN x.s) (byt x.v (bytN x.s)) V | 1 => Ws w0 (fun k => Bth d g m p k ∨ ∃ q, a = some q ∧ k = q.block) d g m p b5 x y2 y V ∧ Rq a (bytN x.s) (byt x.v (bytN x.s)) V | 2 => (Ws w0 (fun k => Bth d g m p k ∨ ∃ q, a = some q ∧ k = q.block) d g m p b5 x y2 y V ∧ Rq a (bytN x.s) (byt x.v (bytN x.s)) V) ∧ ∃ a4 c4, v = .slice a4 (bytN x.s) c4 ∧ Row V a4 (bytN x.s) (byt x.v (bytN x.s)) ∧ ∀ q, a4 = some q → q.block ≠ p.e | 3 => Ws w0 (fun k => Bth d g m p k ∨ ∃ q, a = some q ∧ k = q.block) d g m p b5 x y2 y2 V ∧ Rq a (bytN x.s) (byt x.v (bytN x.s)) V | 4 => (Ws w0 (fun k => Bth d g m p k ∨ ∃ q, a = some q ∧ k = q.block) d g m p b5 x y2 y2 V ∧ Rq a (bytN x.s) (byt x.v (bytN x.s)) V) ∧ ∃ a4 c4, v = .slice a4 (bytN x.s) c4 ∧ Row V a4 (bytN x.s) (byt x.v (bytN x.s)) ∧ ∀ q, a4 = some q → q.block ≠ p.e | _ => Ws w0 (fun k => Bth d g m p k ∨ ∃ q, a = some q ∧ k = q.block) d g m p b5 x y2 y2 V ∧ Rq a (bytN x.s) (byt x.v (bytN x.s)) V)⟩ : Tab) _) ⟨rfl, rfl, fun _ _ => rfl, (fun _ _ _ _ h => by cases h), Cn.start ⟨HX2.out.1.after (But.drew But.rfl), HX2.out.2.after (But.drew But.rfl)⟩⟩ ?_ ?_
    · exact ⟨inv_move (.inl rfl) rfl (.inl rfl) rfl rfl rfl rfl rfl rfl (Cn.keep rfl) rfl,
        inv_field rfl rfl (.inl rfl) rfl rfl rfl rfl rfl rfl (Cn.keep rfl) rfl (fun w => fieldDo w _ 1 (by decide)),
        inv_load rfl rfl (.inl rfl) rfl rfl rfl rfl rfl rfl (Cn.keep rfl) rfl (fun L u V h => loadInt (doB (h.any (fun i v hi h => HWB.out i v V hi h))).2.1),
        inv_move (.inl rfl) rfl (.inl rfl) rfl rfl rfl rfl rfl rfl (Cn.keep rfl) rfl,
        inv_call rfl rfl (.inl rfl) rfl rfl rfl rfl rfl (enterP Try.func12 (by kernel_rfl) (by kernel_rfl)) (fun a8 V L hv hd hl h => by
            rw [show (#[Operand.tmp 70, Operand.tmp 72, Operand.tmp 73] : Array Operand).map a8.eval = #[a8.eval (.tmp 70), a8.eval (.tmp 72), a8.eval (.tmp 73)] from by simp, hv (.tmp 70) _ rfl, hv (.tmp 72) _ rfl, hv (.tmp 73) _ rfl]
            have n0 := h.at_ 0 (by decide) hl (.inl rfl)
            refine (n0.1.dv.write x.i a (bytN x.s) c _ n0.2.row (fun q hq e => (HN.out.2.2.1 q hq) (.inl (.inl e)))).mono ?_
            rintro e V' ⟨rfl, s, b⟩
            exact ⟨_, rfl, (fun v7 h7 => by cases h7; exact congrArg (Value.int .i64) HY2.out.1.symm), Cn.step h 0 (by decide) hl (.inl rfl) rfl ⟨HY2.out.2 ▸ n0.1.stepD s b (fun k hk => .inl (.inl hk)) HP.out.2.2 (fun k hk => HP.out.2.1 k (.inl hk)) (fun e => HP.out.1 (.inl e)), n0.2.but b (fun q hq e => HN.out.2.2.1 q hq (.inl e))⟩⟩),
        inv_move (.inl rfl) rfl (.inl rfl) rfl rfl rfl rfl rfl rfl (Cn.keep rfl) rfl,
        inv_field rfl rfl (.inl rfl) rfl rfl rfl rfl rfl rfl (Cn.keep rfl) rfl (fun w => fieldDo w _ 1 (by decide)),
        inv_load rfl rfl (.inl rfl) rfl rfl rfl rfl rfl rfl (Cn.keep rfl) rfl (fun L u V h => loadInt (doB (h.any (fun i v hi h => HWB.out i v V hi h))).2.1),
        inv_load rfl rfl (.inl rfl) rfl rfl rfl rfl rfl rfl (Cn.keep rfl) rfl (fun L u V h => loadDo (h.any (fun i v hi h => HWB.out i v V hi h))),
        inv_call rfl rfl (.inl rfl) rfl rfl rfl rfl rfl (enterP Try.func24 (by kernel_rfl) (by kernel_rfl)) (fun a8 V L hv hd hl h => by
            rw [show (#[Operand.tmp 78] : Array Operand).map a8.eval = #[a8.eval (.tmp 78)] from by simp, hv (.tmp 78) _ rfl]
            have n0 := h.at_ 1 (by decide) hl (.inr (hd 4 rfl))
            refine (bytes_any V x HD.out.v0 HD.out.v1).mono ?_
            rintro e V' ⟨v, rfl, ho, af⟩
            obtain ⟨a4, c4, rfl, r2, _, _, r5⟩ := own_row ho (byt_bs _ _)
            refine ⟨_, rfl, (fun v7 h7 => by cases h7), Cn.step h 1 (by decide) hl (.inr (hd 4 rfl)) rfl ⟨⟨n0.1.after af, n0.2.after af⟩, a4, c4, rfl, r2, fun q hq e => ?_⟩⟩
            have h1 := (ho.lt _ (r5 q hq).1).1
            have h2 := n0.1.rv.bd p.e (n0.1.rv.inS _ (.inl rfl))
            omega),
        inv_call rfl rfl (.inl rfl) rfl rfl rfl rfl rfl (enterP Try.func25 (by kernel_rfl) (by kernel_rfl)) (fun a8 V L hv hd hl h => by
            obtain ⟨n0, a4, c4, ev, r4, hne⟩ := h.at_ 2 (by decide) hl (.inr (hd 9 rfl))
            rw [show (#[Operand.tmp 75, Operand.tmp 77, Operand.tmp 79] : Array Operand).map a8.eval = #[a8.eval (.tmp 75), a8.eval (.tmp 77), a8.eval (.tmp 79)] from by simp, hv (.tmp 75) _ rfl, hv (.tmp 77) _ rfl, show a8.eval (.tmp 79) = _ from ev]
            refine (rv_write n0.1.rv x.i a4 (bytN x.s) c4 _ r4 hne).mono ?_
            rintro e V' ⟨rfl, s, b⟩
            exact ⟨_, rfl, (fun v7 h7 => by cases h7; exact congrArg (Value.int .i64) HY2.out.1.symm), Cn.step h 2 (by decide) hl (.inr (hd 9 rfl)) rfl ⟨n0.1.stepR (HY2.out.2 ▸ s) b HP.out.2.2 (fun k hk => HP.out.2.1 k (.inr hk)) (fun e => HP.out.1 (.inr e)), n0.2.but b (fun q hq e => HN.out.2.2.1 q hq (.inr e))⟩⟩),
        inv_bin rfl rfl (.inl rfl) rfl rfl rfl rfl rfl rfl (Cn.keep rfl) rfl rfl (fun V => neqI E V _ _ _),
        inv_move (.inl rfl) rfl (.inl rfl) rfl rfl rfl rfl rfl rfl (Cn.keep rfl) rfl,
        inv_move (.inl rfl) rfl (gok 12 false rfl rfl rfl rfl rfl rfl rfl) rfl rfl rfl rfl rfl rfl (Cn.keep rfl) rfl,
        inv_load rfl rfl (gok 12 false rfl rfl rfl rfl rfl rfl rfl) rfl rfl rfl rfl rfl rfl (Cn.keep rfl) rfl (fun L u V h => loadDo (h.any (fun i v hi h => HWB.out i v V hi h))),
        inv_call rfl rfl (gok 12 false rfl rfl rfl rfl rfl rfl rfl) rfl rfl rfl rfl rfl (enterP Try.func24 (by kernel_rfl) (by kernel_rfl)) (fun a8 V L hv hd hl h => by
            rw [show (#[Operand.tmp 84] : Array Operand).map a8.eval = #[a8.eval (.tmp 84)] from by simp, hv (.tmp 84) _ rfl]
            have n0 := h.at_ 3 (by decide) hl (.inr (hd 10 rfl))
            refine (bytes_any V x HD.out.v0 HD.out.v1).mono ?_
            rintro e V' ⟨v, rfl, ho, af⟩
            obtain ⟨a4, c4, rfl, r2, _, _, r5⟩ := own_row ho (byt_bs _ _)
            refine ⟨_, rfl, (fun v7 h7 => by cases h7), Cn.step h 3 (by decide) hl (.inr (hd 10 rfl)) rfl ⟨⟨n0.1.after af, n0.2.after af⟩, a4, c4, rfl, r2, fun q hq e => ?_⟩⟩
            have h1 := (ho.lt _ (r5 q hq).1).1
            have h2 := n0.1.rv.bd p.e (n0.1.rv.inS _ (.inl rfl))
            omega),
        inv_call rfl rfl (gok 12 false rfl rfl rfl rfl rfl rfl rfl) rfl rfl rfl rfl rfl (enterP Try.func20 (by kernel_rfl) (by kernel_rfl)) (fun a8 V L hv hd hl h => by
            obtain ⟨n0, a4, c4, ev, r4, _⟩ := h.at_ 4 (by decide) hl (.inr (hd 15 rfl))
            rw [show (#[Operand.tmp 83, Operand.tmp 85] : Array Operand).map a8.eval = #[a8.eval (.tmp 83), a8.eval (.tmp 85)] from by simp, hv (.tmp 83) _ rfl, show a8.eval (.tmp 85) = _ from ev]
            refine (eqB_same a a4 (bytN x.s) c c4 _ V n0.2.row r4 (by have := bytN_le x.s; omega)).mono ?_
            rintro e V' ⟨rfl, af⟩
            exact ⟨_, rfl, (fun v7 h7 => by cases h7; rfl), Cn.step h 4 (by decide) hl (.inr (hd 15 rfl)) rfl ⟨n0.1.after af, n0.2.after af⟩⟩),
        inv_not rfl rfl (gok 12 false rfl rfl rfl rfl rfl rfl rfl) rfl rfl rfl rfl rfl rfl (Cn.keep rfl) rfl rfl,
        inv_pick rfl rfl (.inl rfl) rfl rfl rfl rfl rfl rfl (Cn.keep rfl) rfl rfl,
        trivial⟩
    · intro a7 w7 L7 hL7 J7
      have e7 := J7.fin hL7 rfl
      have W7 := J7.other
      obtain ⟨vl7, h7⟩ := W7.done (fun j hj => hL7 _ (by rcases (by omega : j = 0 ∨ j = 1 ∨ j = 2 ∨ j = 3 ∨ j = 4) with rfl | rfl | rfl | rfl | rfl <;> exact Nat.le_of_ble_eq_true rfl))
      clear J7 W7
      rw [e7]
      clear e7
      generalize hv7 : Tab.u _ a7 = U7 at *
      simp only [Tab.puts, List.getD_cons_succ, List.getD_cons_zero, Option.getD_some, Option.getD_none, List.setIfInBounds_toArray, List.set_cons_succ, List.set_cons_zero]
      clear hv7 hL7
      have X6 := hideIt (show Ws w0 (fun k => Bth d g m p k ∨ ∃ q, a = some q ∧ k = q.block) d g m p b5 x y2 y2 w7 ∧ Rq a (bytN x.s) (byt x.v (bytN x.s)) w7 from h7)
      clear h7 HX2 HWB HY2
      have hN65 := bytN_le x.s
      generalize byt x.v (bytN x.s) = zs at *
      generalize hNN : bytN x.s = N at *
      have HNN := hideIt hN65
      have hN65' : (N : Int) ≤ 65 := by omega
      clear hNN
      go_wp2_with fail
      go_loopw [13] (fun iv wr => ∃ j : Nat, j ≤ N ∧ iv = .int .i64 j ∧ Ws w0 (fun k => Bth d g m p k ∨ ∃ q, a = some q ∧ k = q.block) d g m p b5 x y2 y2 wr ∧ ∀ q, a = some q → BzAt wr q.block N) (fun iv _ => N - (intOf iv).toNat)
      case atStart => exact ⟨0, Nat.zero_le _, rfl, X6.out.1, X6.out.2.bz⟩
      case round =>
        obtain ⟨j, hj, rfl, ws, bz⟩ := hrel
        by_cases hjn : j < N
        · have i1 : (j : Int) < (N : Int) := by omega
          have i0 : (0 : Int) ≤ (j : Int) := by omega
          obtain ⟨bq, oq, rfl, _⟩ := X6.out.2.row.2.2 j hjn
          have h1 := HN.out.1 _ rfl
          have h2 := HN.out.2.2.1 _ rfl
          have h3 := HN.out.2.1
          have ho0 : oq = 0 := by
            have := h1.2.2
            injection this
          subst ho0
          have bzq := bz _ rfl
          obtain ⟨z, cz, fz⟩ := bzq.cell hjn
          have hq1 : W1.heap.size ≤ bq := h1.1
          have hbq : b5 ≠ bq := by have := HIN.out.2.2; omega
          have hw0 : w0.heap.size ≤ bq := Nat.le_trans h3 hq1
          have hst := fun v => ws.stepQ (q := bq) (i := j) (v := v) (fun e => h2 (.inl e)) (fun e => h2 (.inr e)) (.inr ⟨_, rfl, rfl⟩) hw0 hbq
          have HQ := hideIt (And.intro hst bzq)
          clear ws bz bzq h1 h2 h3 X6 hst hq1 hbq hw0
          go_wp2_with fail
          refine ⟨⟨j + 1, by omega, by simp, HQ.out.1 _, fun q hq => ?_⟩, by simp [intOf]; omega⟩
          cases hq
          exact HQ.out.2.put _ _
        · obtain rfl : j = N := by omega
          have X8 := hideIt (show Ws w0 (Bth d g m p) d g m p b5 x y2 y2 wr from ⟨ws.dv, ws.rv.widen (fun k _ e => .inl e) (fun b hb => .inr hb) (fun b hb => ws.rv.bd b (.inl hb)), ws.aft, ws.box⟩)
          clear ws bz X6
          go_upto_region 30 with fail
          have E1 := hideIt (dvDead X8.out.dv)
          have E2 := hideIt (rvDead X8.out.rv)
          have E3 := hideIt (dvSectors X8.out.dv)
          have E4 := hideIt (rvSectors X8.out.rv)
          have HPB := hideIt (And.intro X8.out.dv (And.intro X8.out.rv X8.out.aft))
          clear X8
          generalize hy2 : y2.dead = q2 at *
          generalize hn2 : y2.n = n2 at *
          have hq2 : (q2 == q2) = true := beq_self_eq_true _
          go_wp2_with (first
            | (go_at_call 16; refine E1.out.mono ?_; rintro e W4 ⟨rfl, h4⟩; obtain rfl := h4.symm)
            | (go_at_call 31; refine E2.out.mono ?_; rintro e W4 ⟨rfl, h4⟩; obtain rfl := h4.symm)
            | (go_at_call 21; refine E3.out.mono ?_; rintro e W4 ⟨rfl, h4⟩; obtain rfl := h4.symm)
            | (go_at_call 32; refine E4.out.mono ?_; rintro e W4 ⟨rfl, h4⟩; obtain rfl := h4.symm)
            | fail)
          go_ret
          exact ⟨rfl, y2, HPB.out.1, HPB.out.2.1, HPB.out.2.2, HP.out.2.1, HP.out.2.2⟩
  · have HF := hideIt (HX.out.dv.flush.mono (fun e w' h => And.intro h.1 (HX.out.stepD h.2.1 h.2.2 HIN.out.1 HP.out.2.2 (fun k hk => HP.out.2.1 k (.inl hk)) (fun e => HP.out.1 (.inl e)))))
    have HG := hideIt (fun V (s : Ws w0 (Bth d g m p) d g m p b5 x y.flushS y V) => (rv_flush s.rv).mono (fun e w' h => And.intro h.1 (s.stepR h.2.1 h.2.2 HP.out.2.2 (fun k hk => HP.out.2.1 k (.inr hk)) (fun e => HP.out.1 (.inr e)))))
    have hne : (y.flushE != y.flushE) = false := bne_self_eq_false _
    generalize y.flushE = E at *
    generalize y.flushS = y2 at *
    clear HX c1 c4
    go_upto_region 30 with (first
      | (go_at_call 22; refine (HB.out _).mono ?_; rintro e W3 ⟨rfl, h3⟩; obtain rfl := h3.symm)
      | (go_at_call 14; refine HF.out.mono ?_; rintro e W5 ⟨rfl, s5⟩; have X5 := hideIt s5; clear s5)
      | (go_at_call 26; refine (HG.out _ X5.out).mono ?_; rintro e W6 ⟨rfl, s6⟩; have X6 := hideIt s6; clear s6)
      | fail)
    clear HF HG X5 hne
    have E1 := hideIt (dvDead X6.out.dv)
    have E2 := hideIt (rvDead X6.out.rv)
    have E3 := hideIt (dvSectors X6.out.dv)
    have E4 := hideIt (rvSectors X6.out.rv)
    have HPB := hideIt (And.intro X6.out.dv (And.intro X6.out.rv X6.out.aft))
    clear X6
    generalize hy2 : y2.dead = q2 at *
    generalize hn2 : y2.n = n2 at *
    have hq2 : (q2 == q2) = true := beq_self_eq_true _
    go_wp2_with (first
      | (go_at_call 16; refine E1.out.mono ?_; rintro e W4 ⟨rfl, h4⟩; obtain rfl := h4.symm)
      | (go_at_call 31; refine E2.out.mono ?_; rintro e W4 ⟨rfl, h4⟩; obtain rfl := h4.symm)
      | (go_at_call 21; refine E3.out.mono ?_; rintro e W4 ⟨rfl, h4⟩; obtain rfl := h4.symm)
      | (go_at_call 32; refine E4.out.mono ?_; rintro e W4 ⟨rfl, h4⟩; obtain rfl := h4.symm)
      | fail)
    go_ret
    exact ⟨rfl, y2, HPB.out.1, HPB.out.2.1, HPB.out.2.2, HP.out.2.1, HP.out.2.2⟩
  · have HF := hideIt (fun V (s : Ws w0 (Bth d g m p) d g m p b5 x y y V) => (dvArm s.dv x.i HD.out.i0 HD.out.i1).mono (fun e w' h => And.intro h.1 (s.stepD h.2.1 (h.2.2.mono (fun _ _ e => .inl e)) HIN.out.1 HP.out.2.2 (fun k hk => HP.out.2.1 k (.inl hk)) (fun e => HP.out.1 (.inl e)))))
    have HG := hideIt (fun V (s : Ws w0 (Bth d g m p) d g m p b5 x (y.armS x.i) y V) => (rvArm s.rv x.i HD.out.i0 HD.out.i1).mono (fun e w' h => And.intro h.1 (s.stepR h.2.1 (h.2.2.mono (fun _ _ e => .inl e)) HP.out.2.2 (fun k hk => HP.out.2.1 k (.inr hk)) (fun e => HP.out.1 (.inr e)))))
    generalize y.chk = E at *
    generalize y.armS x.i = y2 at *
    have HWB := hideIt (show ∀ (i : Nat) (v : Value) (V : World), i ≤ 2 → (fun i (_ : Value) V => match i with | 0 => Ws w0 (Bth d g m p) d g m p b5 x y y V | 1 => Ws w0 (Bth d g m p) d g m p b5 x y2 y V | _ => Ws w0 (Bth d g m p) d g m p b5 x y2 y2 V) i v V → V.heap[b5]? = some (.cells x.cs 34 (0, 0)) from fun i v V hi h => by
      rcases (by omega : i = 0 ∨ i = 1 ∨ i = 2) with rfl | rfl | rfl
      · exact Ws.box h
      · exact Ws.box h
      · exact Ws.box h)
    go_upto_region 25 with (go_at_call 22; refine (HB.out _).mono ?_; rintro e W3 ⟨rfl, h3⟩; obtain rfl := h3.symm)
    clear c1 c4
    refine region_inv (by kernel_rfl) (Tab.J (⟨9, fun k' => [112, 113, 114, 115, 116, 117, 118, 119, 120].getD k' 0, fun k' => ([some (Ptr d), some (.pointer (some ⟨b5, 1, none⟩)), some (.int .i64 x.i), some (.int .i64 E), some (Ptr p.e), some (.pointer (some ⟨b5, 1, none⟩)), some (.int .i64 x.i), some (.int .i64 E), some (.bool false)] : List (Option Value)).getD k' none, Cn 2 (fun i => [3, 7].getD i 900) (fun i (_ : Value) V => match i with | 0 => Ws w0 (Bth d g m p) d g m p b5 x y y V | 1 => Ws w0 (Bth d g m p) d g m p b5 x y2 y V | _ => Ws w0 (Bth d g m p) d g m p b5 x y2 y2 V)⟩ : Tab) _) ⟨rfl, rfl, fun _ _ => rfl, (fun _ _ _ _ h => by cases h), Cn.start (HX.out.after (But.drew But.rfl))⟩ ?_ ?_
    · exact ⟨inv_move (.inl rfl) rfl (.inl rfl) rfl rfl rfl rfl rfl rfl (Cn.keep rfl) rfl,
        inv_field rfl rfl (.inl rfl) rfl rfl rfl rfl rfl rfl (Cn.keep rfl) rfl (fun w => fieldDo w _ 1 (by decide)),
        inv_load rfl rfl (.inl rfl) rfl rfl rfl rfl rfl rfl (Cn.keep rfl) rfl (fun L u V h => loadInt (doB (h.any (fun i v hi h => HWB.out i v V hi h))).2.1),
        inv_call rfl rfl (.inl rfl) rfl rfl rfl rfl rfl (enterP Try.func19 (by kernel_rfl) (by kernel_rfl)) (fun a V L hv hd hl h => by
            rw [show (#[Operand.tmp 112, Operand.tmp 114] : Array Operand).map a.eval = #[a.eval (.tmp 112), a.eval (.tmp 114)] from by simp, hv (.tmp 112) _ rfl, hv (.tmp 114) _ rfl]
            have n0 : Ws w0 (Bth d g m p) d g m p b5 x y y V := h.at_ 0 (by decide) hl (.inl rfl)
            refine (HF.out V n0).mono ?_
            rintro e V' ⟨rfl, s⟩
            exact ⟨_, rfl, (fun v7 h7 => by cases h7; rfl), Cn.step h 0 (by decide) hl (.inl rfl) rfl s⟩),
        inv_move (.inl rfl) rfl (.inl rfl) rfl rfl rfl rfl rfl rfl (Cn.keep rfl) rfl,
        inv_field rfl rfl (.inl rfl) rfl rfl rfl rfl rfl rfl (Cn.keep rfl) rfl (fun w => fieldDo w _ 1 (by decide)),
        inv_load rfl rfl (.inl rfl) rfl rfl rfl rfl rfl rfl (Cn.keep rfl) rfl (fun L u V h => loadInt (doB (h.any (fun i v hi h => HWB.out i v V hi h))).2.1),
        inv_call rfl rfl (.inl rfl) rfl rfl rfl rfl rfl (enterP Try.func27 (by kernel_rfl) (by kernel_rfl)) (fun a V L hv hd hl h => by
            rw [show (#[Operand.tmp 116, Operand.tmp 118] : Array Operand).map a.eval = #[a.eval (.tmp 116), a.eval (.tmp 118)] from by simp, hv (.tmp 116) _ rfl, hv (.tmp 118) _ rfl]
            have n0 : Ws w0 (Bth d g m p) d g m p b5 x y2 y V := h.at_ 1 (by decide) hl (.inr (hd 3 rfl))
            refine (HG.out V n0).mono ?_
            rintro e V' ⟨rfl, s⟩
            exact ⟨_, rfl, (fun v7 h7 => by cases h7; rfl), Cn.step h 1 (by decide) hl (.inr (hd 3 rfl)) rfl s⟩),
        inv_bin rfl rfl (.inl rfl) rfl rfl rfl rfl rfl rfl (Cn.keep rfl) rfl rfl (fun V => neqI E V _ _ _),
        trivial⟩
    · intro a7 w7 L7 hL7 J7
      have e7 := J7.fin hL7 rfl
      have W7 := J7.other
      obtain ⟨vl7, h7⟩ := W7.done (fun j hj => hL7 _ (by rcases (by omega : j = 0 ∨ j = 1) with rfl | rfl <;> exact Nat.le_of_ble_eq_true rfl))
      clear J7 W7
      rw [e7]
      clear e7
      generalize hv7 : Tab.u _ a7 = U7 at *
      simp only [Tab.puts, List.getD_cons_succ, List.getD_cons_zero, Option.getD_some, List.setIfInBounds_toArray, List.set_cons_succ, List.set_cons_zero]
      clear hv7 hL7
      have X6 := hideIt (show Ws w0 (Bth d g m p) d g m p b5 x y2 y2 w7 from h7)
      clear h7 HF HG HX HWB
      go_upto_region 30 with fail
      have E1 := hideIt (dvDead X6.out.dv)
      have E2 := hideIt (rvDead X6.out.rv)
      have E3 := hideIt (dvSectors X6.out.dv)
      have E4 := hideIt (rvSectors X6.out.rv)
      have HPB := hideIt (And.intro X6.out.dv (And.intro X6.out.rv X6.out.aft))
      clear X6
      generalize hy2 : y2.dead = q2 at *
      generalize hn2 : y2.n = n2 at *
      have hq2 : (q2 == q2) = true := beq_self_eq_true _
      go_wp2_with (first
        | (go_at_call 16; refine E1.out.mono ?_; rintro e W4 ⟨rfl, h4⟩; obtain rfl := h4.symm)
        | (go_at_call 31; refine E2.out.mono ?_; rintro e W4 ⟨rfl, h4⟩; obtain rfl := h4.symm)
        | (go_at_call 21; refine E3.out.mono ?_; rintro e W4 ⟨rfl, h4⟩; obtain rfl := h4.symm)
        | (go_at_call 32; refine E4.out.mono ?_; rintro e W4 ⟨rfl, h4⟩; obtain rfl := h4.symm)
        | fail)
      go_ret
      exact ⟨rfl, y2, HPB.out.1, HPB.out.2.1, HPB.out.2.2, HP.out.2.1, HP.out.2.2⟩
  · have HF := hideIt ((dvCrash HX.out.dv).mono (fun e w' h => And.intro h.1 (HX.out.stepD h.2.1 (h.2.2.mono (fun _ _ e => .inl e)) HIN.out.1 HP.out.2.2 (fun k hk => HP.out.2.1 k (.inl hk)) (fun e => HP.out.1 (.inl e)))))
    have HG := hideIt (fun V (s : Ws w0 (Bth d g m p) d g m p b5 x y.die y V) => (rvCrash s.rv).mono (fun e w' h => And.intro h.1 (s.stepR h.2.1 (h.2.2.mono (fun _ _ e => .inl e)) HP.out.2.2 (fun k hk => HP.out.2.1 k (.inr hk)) (fun e => HP.out.1 (.inr e)))))
    have hne : (y.chk != y.chk) = false := bne_self_eq_false _
    generalize y.chk = E at *
    generalize y.die = y2 at *
    clear HX c1 c4
    go_upto_region 30 with (first
      | (go_at_call 22; refine (HB.out _).mono ?_; rintro e W3 ⟨rfl, h3⟩; obtain rfl := h3.symm)
      | (go_at_call 15; refine HF.out.mono ?_; rintro e W5 ⟨rfl, s5⟩; have X5 := hideIt s5; clear s5)
      | (go_at_call 28; refine (HG.out _ X5.out).mono ?_; rintro e W6 ⟨rfl, s6⟩; have X6 := hideIt s6; clear s6)
      | fail)
    clear HF HG X5 hne
    have E1 := hideIt (dvDead X6.out.dv)
    have E2 := hideIt (rvDead X6.out.rv)
    have E3 := hideIt (dvSectors X6.out.dv)
    have E4 := hideIt (rvSectors X6.out.rv)
    have HPB := hideIt (And.intro X6.out.dv (And.intro X6.out.rv X6.out.aft))
    clear X6
    generalize hy2 : y2.dead = q2 at *
    generalize hn2 : y2.n = n2 at *
    have hq2 : (q2 == q2) = true := beq_self_eq_true _
    go_wp2_with (first
      | (go_at_call 16; refine E1.out.mono ?_; rintro e W4 ⟨rfl, h4⟩; obtain rfl := h4.symm)
      | (go_at_call 31; refine E2.out.mono ?_; rintro e W4 ⟨rfl, h4⟩; obtain rfl := h4.symm)
      | (go_at_call 21; refine E3.out.mono ?_; rintro e W4 ⟨rfl, h4⟩; obtain rfl := h4.symm)
      | (go_at_call 32; refine E4.out.mono ?_; rintro e W4 ⟨rfl, h4⟩; obtain rfl := h4.symm)
      | fail)
    go_ret
    exact ⟨rfl, y2, HPB.out.1, HPB.out.2.1, HPB.out.2.2, HP.out.2.1, HP.out.2.2⟩
  · obtain ⟨y2, hy2⟩ : ∃ y2, y.boot ch = y2 := ⟨_, rfl⟩
    have HY2 := hideIt hy2
    clear hy2
    have HWB := hideIt (show ∀ (i : Nat) (v : Value) (V : World), i ≤ 3 → (fun i (v : Value) V => match i with | 0 => Ws w0 (Bth d g m p) d g m p b5 x y y V ∧ After W1 V | 1 => (Ws w0 (Bth d g m p) d g m p b5 x y y V ∧ After W1 V) ∧ ∃ a2 c2, v = .slice a2 x.n c2 ∧ IRow V a2 x.n ch ∧ x.n ≤ c2 ∧ ∀ q, a2 = some q → 0 < x.n → q.block ≠ g | 2 => Ws w0 (Bth d g m p) d g m p b5 x y2 y V ∧ IRow V x.a x.n ch | _ => Ws w0 (Bth d g m p) d g m p b5 x y2 y2 V) i v V → V.heap[b5]? = some (.cells x.cs 34 (0, 0)) from fun i v V hi h => by
      rcases (by omega : i = 0 ∨ i = 1 ∨ i = 2 ∨ i = 3) with rfl | rfl | rfl | rfl
      · exact h.1.box
      · exact h.1.1.box
      · exact h.1.box
      · exact Ws.box h)
    go_upto_region 2 with (go_at_call 22; refine (HB.out _).mono ?_; rintro e W3 ⟨rfl, h3⟩; obtain rfl := h3.symm)
    clear c1 c4
    refine region_inv (by kernel_rfl) (Tab.J (⟨10, fun k' => [17, 18, 19, 20, 21, 22, 23, 24, 25, 26].getD k' 0, fun k' => ([some (Ptr d), some (.pointer (some ⟨b5, 4, none⟩)), some (.slice x.a x.n x.c), none, some (.int .i64 0), some (Ptr p.e), some (.pointer (some ⟨b5, 4, none⟩)), some (.slice x.a x.n x.c), some (.int .i64 0), some (.bool false)] : List (Option Value)).getD k' none, Cn 3 (fun i => [3, 4, 8].getD i 900) (fun i (v : Value) V => match i with | 0 => Ws w0 (Bth d g m p) d g m p b5 x y y V ∧ After W1 V | 1 => (Ws w0 (Bth d g m p) d g m p b5 x y y V ∧ After W1 V) ∧ ∃ a2 c2, v = .slice a2 x.n c2 ∧ IRow V a2 x.n ch ∧ x.n ≤ c2 ∧ ∀ q, a2 = some q → 0 < x.n → q.block ≠ g | 2 => Ws w0 (Bth d g m p) d g m p b5 x y2 y V ∧ IRow V x.a x.n ch | _ => Ws w0 (Bth d g m p) d g m p b5 x y2 y2 V)⟩ : Tab) _) ⟨rfl, rfl, fun _ _ => rfl, (fun _ _ _ _ h => by cases h), Cn.start ⟨HX.out.after (But.drew But.rfl), But.drew But.rfl⟩⟩ ?_ ?_
    · exact ⟨inv_move (.inl rfl) rfl (.inl rfl) rfl rfl rfl rfl rfl rfl (Cn.keep rfl) rfl,
        inv_field rfl rfl (.inl rfl) rfl rfl rfl rfl rfl rfl (Cn.keep rfl) rfl (fun w => fieldDo w _ 4 (by decide)),
        inv_load rfl rfl (.inl rfl) rfl rfl rfl rfl rfl rfl (Cn.keep rfl) rfl (fun L u V h => loadInts (doB (h.any (fun i v hi h => HWB.out i v V hi h))).2.2.2.2),
        inv_call rfl rfl (.inl rfl) rfl rfl rfl rfl rfl (enterP Try.func29 (by kernel_rfl) (by kernel_rfl)) (fun a V L hv hd hl h => by
            rw [show (#[Operand.tmp 19] : Array Operand).map a.eval = #[a.eval (.tmp 19)] from by simp, hv (.tmp 19) _ rfl]
            have n0 : Ws w0 (Bth d g m p) d g m p b5 x y y V ∧ After W1 V := h.at_ 0 (by decide) hl (.inl rfl)
            refine (copyI_any x.a x.n x.c ch V (HD.out.row.after n0.2) HD.out.nil HD.out.big).mono ?_
            rintro e V' ⟨v, rfl, ho, af⟩
            obtain ⟨a2, c2, rfl, r2, _, r4, r5⟩ := own_irow ho
            rw [HD.out.row.1] at r2 r4
            rw [HD.out.row.1]
            refine ⟨_, rfl, (fun v7 h7 => by cases h7), Cn.step h 0 (by decide) hl (.inl rfl) rfl ⟨⟨n0.1.after af, n0.2.trans af⟩, a2, c2, rfl, r2, r4, fun q hq _ e => ?_⟩⟩
            have h1 := (r5 q hq).2.2
            have h2 := n0.1.dv.lt g (.inr (.inl rfl))
            omega),
        inv_call rfl rfl (.inl rfl) rfl rfl rfl rfl rfl (enterP Try.func17 (by kernel_rfl) (by kernel_rfl)) (fun a V L hv hd hl h => by
            obtain ⟨n0, a2, c2, ev, hr, hc2, hg2⟩ := h.at_ 1 (by decide) hl (.inr (hd 3 rfl))
            rw [show (#[Operand.tmp 17, Operand.tmp 20] : Array Operand).map a.eval = #[a.eval (.tmp 17), a.eval (.tmp 20)] from by simp, hv (.tmp 17) _ rfl, show a.eval (.tmp 20) = _ from ev]
            refine (dvBoot n0.1.dv _ ch (lft_row hr hc2 hg2)).mono ?_
            rintro e V' ⟨rfl, s, b⟩
            exact ⟨_, rfl, (fun v7 h7 => by cases h7; rfl), Cn.step h 1 (by decide) hl (.inr (hd 3 rfl)) rfl ⟨HY2.out ▸ n0.1.stepD s b HIN.out.1 HP.out.2.2 (fun k hk => HP.out.2.1 k (.inl hk)) (fun e => HP.out.1 (.inl e)), irow_but (HD.out.row.after n0.2) b (fun q hq h0 e => HD.out.off q hq h0 (.inl e))⟩⟩),
        inv_move (.inl rfl) rfl (.inl rfl) rfl rfl rfl rfl rfl rfl (Cn.keep rfl) rfl,
        inv_field rfl rfl (.inl rfl) rfl rfl rfl rfl rfl rfl (Cn.keep rfl) rfl (fun w => fieldDo w _ 4 (by decide)),
        inv_load rfl rfl (.inl rfl) rfl rfl rfl rfl rfl rfl (Cn.keep rfl) rfl (fun L u V h => loadInts (doB (h.any (fun i v hi h => HWB.out i v V hi h))).2.2.2.2),
        inv_call rfl rfl (.inl rfl) rfl rfl rfl rfl rfl (enterP Try.func30 (by kernel_rfl) (by kernel_rfl)) (fun a V L hv hd hl h => by
            rw [show (#[Operand.tmp 22, Operand.tmp 24] : Array Operand).map a.eval = #[a.eval (.tmp 22), a.eval (.tmp 24)] from by simp, hv (.tmp 22) _ rfl, hv (.tmp 24) _ rfl]
            obtain ⟨n0, hr⟩ := h.at_ 2 (by decide) hl (.inr (hd 4 rfl))
            refine (Iv.rvBoot n0.rv x.a x.n x.c ch hr HD.out.big HD.out.bd (fun q hq h0 e => HD.out.off q hq h0 (.inr e))).mono ?_
            rintro e V' ⟨rfl, s, b⟩
            exact ⟨_, rfl, (fun v7 h7 => by cases h7; rfl), Cn.step h 2 (by decide) hl (.inr (hd 4 rfl)) rfl (n0.stepR (HY2.out ▸ s) b HP.out.2.2 (fun k hk => HP.out.2.1 k (.inr hk)) (fun e => HP.out.1 (.inr e)))⟩),
        inv_bin rfl rfl (.inl rfl) rfl rfl rfl rfl rfl rfl (Cn.keep rfl) rfl rfl (fun V => neqI 0 V _ _ _),
        trivial⟩
    · intro a7 w7 L7 hL7 J7
      have e7 := J7.fin hL7 rfl
      have W7 := J7.other
      obtain ⟨vl7, h7⟩ := W7.done (fun j hj => hL7 _ (by rcases (by omega : j = 0 ∨ j = 1 ∨ j = 2) with rfl | rfl | rfl <;> exact Nat.le_of_ble_eq_true rfl))
      clear J7 W7
      rw [e7]
      clear e7
      generalize hv7 : Tab.u _ a7 = U7 at *
      simp only [Tab.puts, List.getD_cons_succ, List.getD_cons_zero, Option.getD_some, Option.getD_none, List.setIfInBounds_toArray, List.set_cons_succ, List.set_cons_zero]
      clear hv7 hL7
      have X6 := hideIt (show Ws w0 (Bth d g m p) d g m p b5 x y2 y2 w7 from h7)
      clear h7 HX HWB
      go_upto_region 30 with fail
      have E1 := hideIt (dvDead X6.out.dv)
      have E2 := hideIt (rvDead X6.out.rv)
      have E3 := hideIt (dvSectors X6.out.dv)
      have E4 := hideIt (rvSectors X6.out.rv)
      have HPB := hideIt (And.intro X6.out.dv (And.intro X6.out.rv X6.out.aft))
      clear X6
      generalize hy2 : y2.dead = q2 at *
      generalize hn2 : y2.n = n2 at *
      have hq2 : (q2 == q2) = true := beq_self_eq_true _
      go_wp2_with (first
        | (go_at_call 16; refine E1.out.mono ?_; rintro e W4 ⟨rfl, h4⟩; obtain rfl := h4.symm)
        | (go_at_call 31; refine E2.out.mono ?_; rintro e W4 ⟨rfl, h4⟩; obtain rfl := h4.symm)
        | (go_at_call 21; refine E3.out.mono ?_; rintro e W4 ⟨rfl, h4⟩; obtain rfl := h4.symm)
        | (go_at_call 32; refine E4.out.mono ?_; rintro e W4 ⟨rfl, h4⟩; obtain rfl := h4.symm)
        | fail)
      go_ret
      exact ⟨rfl, y2, HPB.out.1, HPB.out.2.1, HPB.out.2.2, HP.out.2.1, HP.out.2.2⟩
end Go.Proofs.Ytalffdiohjcajaa.Ig
