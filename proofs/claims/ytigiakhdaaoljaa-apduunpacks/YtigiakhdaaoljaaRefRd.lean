/-
  The document's reader with its first error: word, byte, bad.
-/
import Derived.Test.YtigiakhdaaoljaaRefK
namespace Go.Proofs.Ytigiakhdaaoljaa
open Go.RowKit
set_option maxRecDepth 8000
abbrev St := Except Int (List Int)
/-- A reader at gr, over the document's reader at g whose bytes lie in h. -/
def RS (W : World) (gr g h : Nat) (st : St) : Prop :=
  gr ≠ g ∧ gr ≠ h ∧ ∃ zs e, W.heap[gr]? = some (.cells #[Ptr g, .int .i64 e] 91 (0, 0)) ∧ RfAt W g h zs ∧ (st = .ok zs ∧ e = 0 ∨ ∃ c, st = .error c ∧ e = c ∧ c ≠ 0)
theorem RS.but {S : Nat → Prop} {w w' : World} {gr g h : Nat} {st : St} (r : RS w gr g h st) (b : But S w w') (h1 : ¬ S gr) (h2 : ¬ S g) (h3 : ¬ S h) : RS w' gr g h st := by
  obtain ⟨n1, n2, zs, e, hb, hr, hs⟩ := r
  exact ⟨n1, n2, zs, e, (b.block gr (two_at hb).1 h1).trans hb, hr.but b h2 h3, hs⟩
theorem RS.after {w w' : World} {gr g h : Nat} {st : St} (r : RS w gr g h st) (b : After w w') : RS w' gr g h st := r.but b (fun t => t) (fun t => t) (fun t => t)
theorem RS.lt {w : World} {gr g h : Nat} {st : St} (r : RS w gr g h st) : gr < w.heap.size ∧ g < w.heap.size ∧ h < w.heap.size := by
  obtain ⟨n1, n2, zs, e, hb, hr, hs⟩ := r
  refine ⟨(two_at hb).1, hr.lt, ?_⟩
  obtain ⟨a, n, c, k, fs, ⟨h1, h2, h3, h4, h6, h5⟩, h7⟩ := hr
  rcases h5 with ⟨_, _, _, rfl⟩ | ⟨off, _, _, hl⟩
  · exact (two_at h1).1
  · exact hl
theorem RS.bs {w : World} {gr g h : Nat} {zs : List Int} (r : RS w gr g h (.ok zs)) : Bs zs := by
  obtain ⟨n1, n2, zs', e, hb, hr, hs⟩ := r
  rcases hs with ⟨hs, _⟩ | ⟨c, hs, _⟩
  · cases hs; exact hr.bs
  · cases hs
/-- A number that is read, and the state behind it. -/
def rdV (k : Nat) : St → Int
  | .ok zs => rdVal k zs
  | .error _ => 0
def rdS (k : Nat) : St → St
  | .ok zs => if k ≤ zs.length then .ok (zs.drop k) else .error 3
  | .error c => .error c
def badS (b : Bool) (c : Int) : St → St
  | .ok zs => if b = true then .error c else .ok zs
  | .error c' => .error c'
theorem rf_step {W W' : World} {gr g h : Nat} {zs : List Int} {k : Nat} (n1 : gr ≠ g) (n2 : gr ≠ h) (hb : W.heap[gr]? = some (.cells #[Ptr g, .int .i64 0] 91 (0, 0))) (hr : RfAt W' g h (rdRest k zs)) (b : But (One g) W W') :
    RS (W'.setCell ⟨gr, 1, none⟩ (.int .i64 (rdErr k zs))) gr g h (rdS k (.ok zs)) ∧ But (Two gr g) W (W'.setCell ⟨gr, 1, none⟩ (.int .i64 (rdErr k zs))) := by
  have hb' : W'.heap[gr]? = some (.cells #[Ptr g, .int .i64 0] 91 (0, 0)) := (b.block gr (two_at hb).1 (fun e => n1 e)).trans hb
  have b2 : But (One gr) W' (W'.setCell ⟨gr, 1, none⟩ (.int .i64 (rdErr k zs))) := But.own1 _ _ _ _
  refine ⟨⟨n1, n2, rdRest k zs, rdErr k zs, two_set1 hb' _, hr.but b2 (fun e => n1 e.symm) (fun e => n2 e.symm), ?_⟩, (b.mono (fun i _ t => .inr t)).trans (b2.mono (fun i _ t => .inl t))⟩
  by_cases hk : k ≤ zs.length
  · rw [rdErr_yes hk, rdRest_yes hk]
    exact .inl ⟨if_pos hk, rfl⟩
  · rw [rdErr_no hk]
    exact .inr ⟨3, if_neg hk, rfl, by decide⟩
set_option maxHeartbeats 1000000 in
theorem word_r (W : World) (gr g h : Nat) (st : St) (r : RS W gr g h st) :
    Calls Try.prog 61 #[Ptr gr] W fun e W' => e = .returned (.int .i64 (rdV 2 st)) ∧ RS W' gr g h (rdS 2 st) ∧ But (Two gr g) W W' := by
  obtain ⟨n1, n2, zs, e, hb, hr, hs⟩ := r
  obtain ⟨_, c0, c1, f0, f1⟩ := two_at hb
  rcases hs with ⟨rfl, rfl⟩ | ⟨c, rfl, rfl, hc⟩
  · have H1 := hideIt (refU16_any W g h zs hr)
    have HX := hideIt (And.intro n1 (And.intro n2 hb))
    have HV := hideIt (show rdV 2 (.ok zs) = rdVal 2 zs from rfl)
    clear n1 n2 hb hr
    generalize rdV 2 (.ok zs) = vv at HV ⊢
    go_enter Try.func61, Try.ntmps61
    go_wp2_with fail
    refine H1.out.mono ?_
    clear H1
    rintro e w1 ⟨rfl, r1, b1⟩
    obtain ⟨n1, n2, hb⟩ := HX.out
    have hst := rf_step n1 n2 hb r1 b1
    have hb' : w1.heap[gr]? = some (.cells #[Ptr g, .int .i64 0] 91 (0, 0)) := (b1.block gr (two_at hb).1 (fun e => n1 e)).trans hb
    obtain ⟨_, d0, d1, k0, k1⟩ := two_at hb'
    have HS := hideIt hst
    clear n1 n2 hb hst hb' r1 b1 HX c0 c1 f0 f1
    generalize rdVal 2 zs = v at HV ⊢
    generalize rdErr 2 zs = q at HS ⊢
    go_wp2_with fail
    go_ret
    rw [HV.out]
    exact ⟨rfl, HS.out⟩
  · have hcb : (e != 0) = true := by simpa using hc
    have HX := hideIt (show RS W gr g h (.error e) from ⟨n1, n2, zs, e, hb, hr, .inr ⟨e, rfl, rfl, hc⟩⟩)
    clear n1 n2 hb hr hc
    go_enter Try.func61, Try.ntmps61
    go_wp2_with fail
    go_ret
    exact ⟨rfl, HX.out, But.rfl⟩
set_option maxHeartbeats 1000000 in
theorem byte_r (W : World) (gr g h : Nat) (st : St) (r : RS W gr g h st) :
    Calls Try.prog 72 #[Ptr gr] W fun e W' => e = .returned (.int .i64 (rdV 1 st)) ∧ RS W' gr g h (rdS 1 st) ∧ But (Two gr g) W W' := by
  obtain ⟨n1, n2, zs, e, hb, hr, hs⟩ := r
  obtain ⟨_, c0, c1, f0, f1⟩ := two_at hb
  rcases hs with ⟨rfl, rfl⟩ | ⟨c, rfl, rfl, hc⟩
  · have H1 := hideIt (refU8_any W g h zs hr)
    have HX := hideIt (And.intro n1 (And.intro n2 hb))
    have HV := hideIt (show rdV 1 (.ok zs) = rdVal 1 zs from rfl)
    clear n1 n2 hb hr
    generalize rdV 1 (.ok zs) = vv at HV ⊢
    go_enter Try.func72, Try.ntmps72
    go_wp2_with fail
    refine H1.out.mono ?_
    clear H1
    rintro e w1 ⟨rfl, r1, b1⟩
    obtain ⟨n1, n2, hb⟩ := HX.out
    have hst := rf_step n1 n2 hb r1 b1
    have hb' : w1.heap[gr]? = some (.cells #[Ptr g, .int .i64 0] 91 (0, 0)) := (b1.block gr (two_at hb).1 (fun e => n1 e)).trans hb
    obtain ⟨_, d0, d1, k0, k1⟩ := two_at hb'
    have HS := hideIt hst
    clear n1 n2 hb hst hb' r1 b1 HX c0 c1 f0 f1
    generalize rdVal 1 zs = v at HV ⊢
    generalize rdErr 1 zs = q at HS ⊢
    go_wp2_with fail
    go_ret
    rw [HV.out]
    exact ⟨rfl, HS.out⟩
  · have hcb : (e != 0) = true := by simpa using hc
    have HX := hideIt (show RS W gr g h (.error e) from ⟨n1, n2, zs, e, hb, hr, .inr ⟨e, rfl, rfl, hc⟩⟩)
    clear n1 n2 hb hr hc
    go_enter Try.func72, Try.ntmps72
    go_wp2_with fail
    go_ret
    exact ⟨rfl, HX.out, But.rfl⟩
set_option maxHeartbeats 1000000 in
theorem bad_r (W : World) (gr g h : Nat) (st : St) (r : RS W gr g h st) (b : Bool) (x : Int) (hx : x ≠ 0) :
    Calls Try.prog 60 #[Ptr gr, .bool b, .int .i64 x] W fun e W' => e = .returned (.tuple #[]) ∧ RS W' gr g h (badS b x st) ∧ But (One gr) W W' := by
  obtain ⟨n1, n2, zs, e, hb, hr, hs⟩ := r
  obtain ⟨_, c0, c1, f0, f1⟩ := two_at hb
  rcases hs with ⟨rfl, rfl⟩ | ⟨c, rfl, rfl, hc⟩
  · cases b with
    | false =>
      have HX := hideIt (show RS W gr g h (.ok zs) from ⟨n1, n2, zs, 0, hb, hr, .inl ⟨rfl, rfl⟩⟩)
      clear n1 n2 hb hr hx
      go_enter Try.func60, Try.ntmps60
      go_wp2_with fail
      first | go_end0 | refine bodyPost_ret (results_none rfl _ _ _) rfl ?_
      exact ⟨rfl, HX.out, But.rfl⟩
    | true =>
      have b2 : But (One gr) W (W.setCell ⟨gr, 1, none⟩ (.int .i64 x)) := But.own1 _ _ _ _
      have HX := hideIt (show RS (W.setCell ⟨gr, 1, none⟩ (.int .i64 x)) gr g h (.error x) from ⟨n1, n2, zs, x, two_set1 hb _, hr.but b2 (fun e => n1 e.symm) (fun e => n2 e.symm), .inr ⟨x, rfl, rfl, hx⟩⟩)
      have HB := hideIt b2
      clear n1 n2 hb hr hx b2
      go_enter Try.func60, Try.ntmps60
      go_wp2_with fail
      first | go_end0 | refine bodyPost_ret (results_none rfl _ _ _) rfl ?_
      exact ⟨rfl, HX.out, HB.out⟩
  · have hcb : (e == 0) = false := by simpa using hc
    have HX := hideIt (show RS W gr g h (.error e) from ⟨n1, n2, zs, e, hb, hr, .inr ⟨e, rfl, rfl, hc⟩⟩)
    clear n1 n2 hb hr hc hx
    go_enter Try.func60, Try.ntmps60
    go_wp2_with fail
    first | go_end0 | refine bodyPost_ret (results_none rfl _ _ _) rfl ?_
    exact ⟨rfl, HX.out, But.rfl⟩
end Go.Proofs.Ytigiakhdaaoljaa
