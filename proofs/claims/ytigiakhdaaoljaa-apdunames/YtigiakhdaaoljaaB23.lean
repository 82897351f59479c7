/-
  Laid together: RefRd, RefObj.
-/
import Derived.Test.YtigiakhdaaoljaaB13
import Derived.Test.YtigiakhdaaoljaaB21
/-
  The document's reader with its first error: word, byte, bad.
-/
namespace Go.Proofs.Ytigiakhdaaoljaa
open Go.RowKit
set_option maxRecDepth 8000
abbrev St := Except Int (List Int)
/-- A reader at gr, over the document's reader at g whose bytes lie in h. -/
def RS (W : World) (gr g h : Nat) (st : St) : Prop :=
  gr ≠ g ∧ gr ≠ h ∧ ∃ zs e, W.heap[gr]? = some (.cells #[Ptr g, .int .i64 e] 91 (0, 0)) ∧ RfAt W g h zs ∧ (st = .ok zs ∧ e = 0 ∨ ∃ c, st = .error c ∧ e = c ∧ c ≠ 0)
theorem RS.but {S : Nat → Prop} {w w' : World} {gr g h : Nat} {st : St} (r : RS w gr g h st) (b : But S w w') (h1 : ¬ S gr) (h2 : ¬ S g) (h3 : ¬ S h) : RS w' gr g h st := by
  obtain ⟨n1, n2, zs, e, hb, hr, hs⟩ := r
  exact ⟨n1, n2, zs, e, (b.block gr (two_at hb).1 h1).trans hb, hr.but b h2 h3, hs⟩
theorem RS.after {w w' : World} {gr g h : Nat} {st : St} (r : RS w gr g h st) (b : After w w') : RS w' gr g h st := r.but b (fun t => t) (fun t => t) (fun t => t)
theorem RS.lt {w : World} {gr g h : Nat} {st : St} (r : RS w gr g h st) : gr < w.heap.size ∧ g < w.heap.size ∧ h < w.heap.size := by
  obtain ⟨n1, n2, zs, e, hb, hr, hs⟩ := r
  refine ⟨(two_at hb).1, hr.lt, ?_⟩
  obtain ⟨a, n, c, k, fs, ⟨h1, h2, h3, h4, h6, h5⟩, h7⟩ := hr
  rcases h5 with ⟨_, _, _, rfl⟩ | ⟨off, _, _, hl⟩
  · exact (two_at h1).1
  · exact hl
theorem RS.bs {w : World} {gr g h : Nat} {zs : List Int} (r : RS w gr g h (.ok zs)) : Bs zs := by
  obtain ⟨n1, n2, zs', e, hb, hr, hs⟩ := r
  rcases hs with ⟨hs, _⟩ | ⟨c, hs, _⟩
  · cases hs; exact hr.bs
  · cases hs
/-- A number that is read, and the state behind it. -/
def rdV (k : Nat) : St → Int
  | .ok zs => rdVal k zs
  | .error _ => 0
def rdS (k : Nat) : St → St
  | .ok zs => if k ≤ zs.length then .ok (zs.drop k) else .error 3
  | .error c => .error c
def badS (b : Bool) (c : Int) : St → St
  | .ok zs => if b = true then .error c else .ok zs
  | .error c' => .error c'
theorem rf_step {W W' : World} {gr g h : Nat} {zs : List Int} {k : Nat} (n1 : gr ≠ g) (n2 : gr ≠ h) (hb : W.heap[gr]? = some (.cells #[Ptr g, .int .i64 0] 91 (0, 0))) (hr : RfAt W' g h (rdRest k zs)) (b : But (One g) W W') :
    RS (W'.setCell ⟨gr, 1, none⟩ (.int .i64 (rdErr k zs))) gr g h (rdS k (.ok zs)) ∧ But (Two gr g) W (W'.setCell ⟨gr, 1, none⟩ (.int .i64 (rdErr k zs))) := by
  have hb' : W'.heap[gr]? = some (.cells #[Ptr g, .int .i64 0] 91 (0, 0)) := (b.block gr (two_at hb).1 (fun e => n1 e)).trans hb
  have b2 : But (One gr) W' (W'.setCell ⟨gr, 1, none⟩ (.int .i64 (rdErr k zs))) := But.own1 _ _ _ _
  refine ⟨⟨n1, n2, rdRest k zs, rdErr k zs, two_set1 hb' _, hr.but b2 (fun e => n1 e.symm) (fun e => n2 e.symm), ?_⟩, (b.mono (fun i _ t => .inr t)).trans (b2.mono (fun i _ t => .inl t))⟩
  by_cases hk : k ≤ zs.length
  · rw [rdErr_yes hk, rdRest_yes hk]
    exact .inl ⟨if_pos hk, rfl⟩
  · rw [rdErr_no hk]
    exact .inr ⟨3, if_neg hk, rfl, by decide⟩
set_option maxHeartbeats 1000000 in
theorem word_r (W : World) (gr g h : Nat) (st : St) (r : RS W gr g h st) :
    Calls Try.prog 61 #[Ptr gr] W fun e W' => e = .returned (.int .i64 (rdV 2 st)) ∧ RS W' gr g h (rdS 2 st) ∧ But (Two gr g) W W' := by
  obtain ⟨n1, n2, zs, e, hb, hr, hs⟩ := r
  obtain ⟨_, c0, c1, f0, f1⟩ := two_at hb
  rcases hs with ⟨rfl, rfl⟩ | ⟨c, rfl, rfl, hc⟩
  · have H1 := hideIt (refU16_any W g h zs hr)
    have HX := hideIt (And.intro n1 (And.intro n2 hb))
    have HV := hideIt (show rdV 2 (.ok zs) = rdVal 2 zs from rfl)
    clear n1 n2 hb hr
    generalize rdV 2 (.ok zs) = vv at HV ⊢
    go_enter Try.func61, Try.ntmps61
    go_wp2_with fail
    refine H1.out.mono ?_
    clear H1
    rintro e w1 ⟨rfl, r1, b1⟩
    obtain ⟨n1, n2, hb⟩ := HX.out
    have hst := rf_step n1 n2 hb r1 b1
    have hb' : w1.heap[gr]? = some (.cells #[Ptr g, .int .i64 0] 91 (0, 0)) := (b1.block gr (two_at hb).1 (fun e => n1 e)).trans hb
    obtain ⟨_, d0, d1, k0, k1⟩ := two_at hb'
    have HS := hideIt hst
    clear n1 n2 hb hst hb' r1 b1 HX c0 c1 f0 f1
    generalize rdVal 2 zs = v at HV ⊢
    generalize rdErr 2 zs = q at HS ⊢
    go_wp2_with fail
    go_ret
    rw [HV.out]
    exact ⟨rfl, HS.out⟩
  · have hcb : (e != 0) = true := by simpa using hc
    have HX := hideIt (show RS W gr g h (.error e) from ⟨n1, n2, zs, e, hb, hr, .inr ⟨e, rfl, rfl, hc⟩⟩)
    clear n1 n2 hb hr hc
    go_enter Try.func61, Try.ntmps61
    go_wp2_with fail
    go_ret
    exact ⟨rfl, HX.out, But.rfl⟩
set_option maxHeartbeats 1000000 in
theorem byte_r (W : World) (gr g h : Nat) (st : St) (r : RS W gr g h st) :
    Calls Try.prog 72 #[Ptr gr] W fun e W' => e = .returned (.int .i64 (rdV 1 st)) ∧ RS W' gr g h (rdS 1 st) ∧ But (Two gr g) W W' := by
  obtain ⟨n1, n2, zs, e, hb, hr, hs⟩ := r
  obtain ⟨_, c0, c1, f0, f1⟩ := two_at hb
  rcases hs with ⟨rfl, rfl⟩ | ⟨c, rfl, rfl, hc⟩
  · have H1 := hideIt (refU8_any W g h zs hr)
    have HX := hideIt (And.intro n1 (And.intro n2 hb))
    have HV := hideIt (show rdV 1 (.ok zs) = rdVal 1 zs from rfl)
    clear n1 n2 hb hr
    generalize rdV 1 (.ok zs) = vv at HV ⊢
    go_enter Try.func72, Try.ntmps72
    go_wp2_with fail
    refine H1.out.mono ?_
    clear H1
    rintro e w1 ⟨rfl, r1, b1⟩
    obtain ⟨n1, n2, hb⟩ := HX.out
    have hst := rf_step n1 n2 hb r1 b1
    have hb' : w1.heap[gr]? = some (.cells #[Ptr g, .int .i64 0] 91 (0, 0)) := (b1.block gr (two_at hb).1 (fun e => n1 e)).trans hb
    obtain ⟨_, d0, d1, k0, k1⟩ := two_at hb'
    have HS := hideIt hst
    clear n1 n2 hb hst hb' r1 b1 HX c0 c1 f0 f1
    generalize rdVal 1 zs = v at HV ⊢
    generalize rdErr 1 zs = q at HS ⊢
    go_wp2_with fail
    go_ret
    rw [HV.out]
    exact ⟨rfl, HS.out⟩
  · have hcb : (e != 0) = true := by simpa using hc
    have HX := hideIt (show RS W gr g h (.error e) from ⟨n1, n2, zs, e, hb, hr, .inr ⟨e, rfl, rfl, hc⟩⟩)
    clear n1 n2 hb hr hc
    go_enter Try.func72, Try.ntmps72
    go_wp2_with fail
    go_ret
    exact ⟨rfl, HX.out, But.rfl⟩
set_option maxHeartbeats 1000000 in
theorem bad_r (W : World) (gr g h : Nat) (st : St) (r : RS W gr g h st) (b : Bool) (x : Int) (hx : x ≠ 0) :
    Calls Try.prog 60 #[Ptr gr, .bool b, .int .i64 x] W fun e W' => e = .returned (.tuple #[]) ∧ RS W' gr g h (badS b x st) ∧ But (One gr) W W' := by
  obtain ⟨n1, n2, zs, e, hb, hr, hs⟩ := r
  obtain ⟨_, c0, c1, f0, f1⟩ := two_at hb
  rcases hs with ⟨rfl, rfl⟩ | ⟨c, rfl, rfl, hc⟩
  · cases b with
    | false =>
      have HX := hideIt (show RS W gr g h (.ok zs) from ⟨n1, n2, zs, 0, hb, hr, .inl ⟨rfl, rfl⟩⟩)
      clear n1 n2 hb hr hx
      go_enter Try.func60, Try.ntmps60
      go_wp2_with fail
      first | go_end0 | refine bodyPost_ret (results_none rfl _ _ _) rfl ?_
      exact ⟨rfl, HX.out, But.rfl⟩
    | true =>
      have b2 : But (One gr) W (W.setCell ⟨gr, 1, none⟩ (.int .i64 x)) := But.own1 _ _ _ _
      have HX := hideIt (show RS (W.setCell ⟨gr, 1, none⟩ (.int .i64 x)) gr g h (.error x) from ⟨n1, n2, zs, x, two_set1 hb _, hr.but b2 (fun e => n1 e.symm) (fun e => n2 e.symm), .inr ⟨x, rfl, rfl, hx⟩⟩)
      have HB := hideIt b2
      clear n1 n2 hb hr hx b2
      go_enter Try.func60, Try.ntmps60
      go_wp2_with fail
      first | go_end0 | refine bodyPost_ret (results_none rfl _ _ _) rfl ?_
      exact ⟨rfl, HX.out, HB.out⟩
  · have hcb : (e == 0) = false := by simpa using hc
    have HX := hideIt (show RS W gr g h (.error e) from ⟨n1, n2, zs, e, hb, hr, .inr ⟨e, rfl, rfl, hc⟩⟩)
    clear n1 n2 hb hr hc hx
    go_enter Try.func60, Try.ntmps60
    go_wp2_with fail
    first | go_end0 | refine bodyPost_ret (results_none rfl _ _ _) rfl ?_
    exact ⟨rfl, HX.out, But.rfl⟩
end Go.Proofs.Ytigiakhdaaoljaa
/-
  The document's objects, read.
-/
namespace Go.Proofs.Ytigiakhdaaoljaa
open Go.RowKit
set_option maxRecDepth 8000
def thnS {α : Type} (st : St) (F : List Int → Except Int (α × List Int)) : Except Int (α × List Int) := match st with
  | .ok zs => F zs
  | .error c => .error c
def Gos {α : Type} (r : Except Int (α × List Int)) (x : α) (st' : St) : Prop := Ends r (fun y us => x = y ∧ st' = .ok us) (fun c => st' = .error c)
theorem RS.err {W : World} {gr g h : Nat} {c : Int} (r : RS W gr g h (.error c)) : W.heap[gr]? = some (.cells #[Ptr g, .int .i64 c] 91 (0, 0)) ∧ c ≠ 0 := by
  obtain ⟨_, _, zs, e, hb, _, hs⟩ := r
  rcases hs with ⟨h, _⟩ | ⟨c', h, rfl, hc⟩
  · cases h
  · cases h; exact ⟨hb, hc⟩
theorem RS.fine {W : World} {gr g h : Nat} {zs : List Int} (r : RS W gr g h (.ok zs)) : W.heap[gr]? = some (.cells #[Ptr g, .int .i64 0] 91 (0, 0)) := by
  obtain ⟨_, _, zs, e, hb, _, hs⟩ := r
  rcases hs with ⟨h, rfl⟩ | ⟨c', h, _⟩
  · exact hb
  · cases h
theorem badS_two (b b' : Bool) (c : Int) (st : St) : badS b c (badS b' c st) = badS (b' || b) c st := by
  cases st <;> cases b <;> cases b' <;> rfl
/-- An object that is read, whatever comes of it. -/
def objR (hs : List Int) (st : St) : Ob × St :=
  (⟨rdV 2 st, rdV 2 (badS (decide (rdV 2 st ∈ hs)) 4 (rdS 2 st)), decide (rdV 1 (rdS 2 (badS (decide (rdV 2 st ∈ hs)) 4 (rdS 2 st))) = 1)⟩, badS (decide (1 < rdV 1 (rdS 2 (badS (decide (rdV 2 st ∈ hs)) 4 (rdS 2 st))))) 4 (rdS 1 (rdS 2 (badS (decide (rdV 2 st ∈ hs)) 4 (rdS 2 st)))))
theorem rd_ok {k : Nat} {zs : List Int} (h : k ≤ zs.length) : rdV k (.ok zs) = be (zs.take k) ∧ rdS k (.ok zs) = .ok (zs.drop k) := ⟨rdVal_yes h, if_pos h⟩
theorem rd_no {k : Nat} {zs : List Int} (h : ¬ k ≤ zs.length) : rdS k (.ok zs) = .error 3 := if_neg h
theorem objR_one (hs : List Int) (o : Ob) (zs : List Int) (hb : Bs zs) : Ends (obj1 false hs o zs) (fun x us => objR hs (.ok zs) = (x, .ok us)) (fun c => (objR hs (.ok zs)).2 = .error c) := by
  unfold obj1 objR
  by_cases h1 : 2 ≤ zs.length
  · rw [thn_ok (num_r h1), (rd_ok h1).1, (rd_ok h1).2]
    by_cases hm : be (zs.take 2) ∈ hs
    · rw [if_pos hm, decide_eq_true hm]
      rfl
    · rw [if_neg hm, decide_eq_false hm]
      have e0 : badS false 4 (.ok (zs.drop 2)) = .ok (zs.drop 2) := rfl
      rw [e0]
      by_cases h2 : 2 ≤ (zs.drop 2).length
      · rw [thn_ok (num_r h2), (rd_ok h2).1, (rd_ok h2).2]
        by_cases h3 : 1 ≤ ((zs.drop 2).drop 2).length
        · rw [(rd_ok h3).1, (rd_ok h3).2]
          have hv := be_bound1 ((hb.drop 2).drop 2) h3
          unfold eit
          rw [thn_ok (num_r h3)]
          by_cases hl : be (((zs.drop 2).drop 2).take 1) = 1 ∨ be (((zs.drop 2).drop 2).take 1) = 0
          · rw [if_pos hl, decide_eq_false (show ¬ 1 < be (((zs.drop 2).drop 2).take 1) by omega)]
            rfl
          · rw [if_neg hl, decide_eq_true (show 1 < be (((zs.drop 2).drop 2).take 1) by omega)]
            rfl
        · rw [rd_no h3]
          unfold eit
          rw [thn_bad (num_rn h3)]
          rfl
      · rw [thn_bad (num_rn h2), rd_no h2]
        rfl
  · rw [thn_bad (num_rn h1), rd_no h1]
    rfl
theorem take_map_more {l : List Ob} {k : Nat} {o : Ob} (h : l[k]? = some o) : (l.take (k + 1)).map Ob.h = (l.take k).map Ob.h ++ [o.h] := by
  have hk : k < l.length := by
    rcases Nat.lt_or_ge k l.length with h' | h'
    · exact h'
    · rw [List.getElem?_eq_none h'] at h; cases h
  rw [List.take_succ_eq_append_getElem hk, List.map_append]
  rw [List.getElem?_eq_getElem hk] at h
  cases h
  rfl
theorem mem_snoc (x y : Int) (l : List Int) : decide (x ∈ l ++ [y]) = (decide (x ∈ l) || (y == x)) := by
  by_cases h : x ∈ l
  · simp [h]
  · by_cases h2 : y = x
    · subst h2; simp
    · have : ¬ x = y := fun e => h2 e.symm
      simp [h, h2, this]
def OutO (W W' : World) (gr g h : Nat) (RR : Except Int (List Ob × List Int)) (e : Ending) : Prop :=
  ∃ a c l st', e = .returned (.slice a (List.length l) c) ∧ RowT W' a l.length (l.map Ob.t3) ∧ (a = none → l.length = 0 ∧ c = 0) ∧ (∀ y, a = some y → W.heap.size ≤ y.block) ∧ RS W' gr g h st' ∧ But (Two gr g) W W' ∧ Gos RR l st'
set_option maxHeartbeats 1000000 in
theorem objs_r (W : World) (gr g h : Nat) (st : St) (r : RS W gr g h st) :
    Calls Try.prog 62 #[Ptr gr] W fun e W' => OutO W W' gr g h (thnS st (lstO false [])) e := by
  have H1 := hideIt (word_r W gr g h st r)
  have HL := hideIt r.lt
  have HB := hideIt (show ∀ zs, st = .ok zs → Bs zs from fun zs e => by subst e; exact r.bs)
  clear r
  have HC : Hid ((∃ c, rdV 2 st = 0 ∧ rdS 2 st = .error c ∧ thnS st (lstO false []) = .error c) ∨ ∃ (n : Nat) (z1 : List Int), rdV 2 st = (n : Int) ∧ rdS 2 st = .ok z1 ∧ Bs z1 ∧ n ≤ 65535 ∧ thnS st (lstO false []) = if (n : Int) > 16 then .error 5 else objL false [] (List.replicate n ⟨0, 0, false⟩) z1) := by
    cases st with
    | error c => exact .inl ⟨c, rfl, rfl, rfl⟩
    | ok zs =>
      by_cases h2 : 2 ≤ zs.length
      · right
        have hb := HB.out zs rfl
        have hv := be_bound2 hb h2
        obtain ⟨n, hn⟩ := Int.eq_ofNat_of_zero_le hv.1
        refine ⟨n, zs.drop 2, by rw [(rd_ok h2).1, hn], (rd_ok h2).2, hb.drop 2, by omega, ?_⟩
        show lstO false [] zs = _
        unfold lstO
        rw [thn_ok (num_r h2), hn, Int.toNat_natCast]
        congr 1
        unfold fillOf
        simp
      · refine .inl ⟨3, rdVal_no h2, rd_no h2, ?_⟩
        show lstO false [] zs = _
        unfold lstO
        rw [thn_bad (num_rn h2)]
  generalize thnS st (lstO false []) = RR at HC ⊢
  generalize rdV 2 st = nv at H1 HC
  generalize rdS 2 st = s1 at H1 HC
  clear HB
  rcases HC.out with ⟨c, rfl, rfl, rfl⟩ | ⟨n, z1, rfl, rfl, hbz, hn, hRR⟩
  · clear HC
    go_enter Try.func62, Try.ntmps62
    go_wp2_with fail
    refine H1.out.mono ?_
    clear H1
    rintro e w1 ⟨rfl, r1, b1⟩
    have H2 := hideIt (bad_r w1 gr g h (.error c) r1 false 5 (by decide))
    have HB1 := hideIt b1
    clear r1 b1
    go_wp2_with fail
    refine H2.out.mono ?_
    clear H2
    rintro e w2 ⟨rfl, r2, b2⟩
    have r2' : RS w2 gr g h (.error c) := r2
    have HX := hideIt (And.intro r2' b2)
    clear r2 b2 r2'
    go_wp2_with fail
    go_loopw [4, 5] (fun v i wr => v = .slice none 0 0 ∧ i = .int .i64 0 ∧ wr = w2) (fun _ _ _ => 0)
    case atStart => exact ⟨rfl, rfl, rfl⟩
    case round =>
      obtain ⟨rfl, rfl, rfl⟩ := hrel
      go_wp2_with fail
      go_ret
      exact ⟨none, 0, [], _, rfl, RowT.nil _ _, fun _ => ⟨rfl, rfl⟩, (fun y hy => by cases hy), HX.out.1, HB1.out.trans (HX.out.2.mono (fun i _ t => .inl t)), rfl⟩
  have HNN := hideIt hn
  clear HC hn
  by_cases h16 : (16 : Int) < (n : Int)
  · rw [if_pos h16] at hRR
    subst hRR
    go_enter Try.func62, Try.ntmps62
    go_wp2_with fail
    refine H1.out.mono ?_
    clear H1
    rintro e w1 ⟨rfl, r1, b1⟩
    have H2 := hideIt (bad_r w1 gr g h (.ok z1) r1 true 5 (by decide))
    have HB1 := hideIt b1
    clear r1 b1
    go_wp2_with fail
    refine H2.out.mono ?_
    clear H2
    rintro e w2 ⟨rfl, r2, b2⟩
    have r2' : RS w2 gr g h (.error 5) := r2
    obtain ⟨_, c0, c1, _, _⟩ := two_at r2'.err.1
    have HX := hideIt (And.intro r2' b2)
    clear r2 b2 r2'
    have hn0 : (0 : Int) < (n : Int) := by omega
    go_wp2_with fail
    go_loopw [4, 5] (fun v i wr => v = .slice none 0 0 ∧ i = .int .i64 0 ∧ wr = w2) (fun _ _ _ => 0)
    case atStart => exact ⟨rfl, rfl, rfl⟩
    case round =>
      obtain ⟨rfl, rfl, rfl⟩ := hrel
      go_wp2_with fail
      go_ret
      exact ⟨none, 0, [], _, rfl, RowT.nil _ _, fun _ => ⟨rfl, rfl⟩, (fun y hy => by cases hy), HX.out.1, HB1.out.trans (HX.out.2.mono (fun i _ t => .inl t)), rfl⟩
  rw [if_neg h16] at hRR
  have HRR := hideIt hRR
  clear hRR
  have h16d : decide ((16 : Int) < (n : Int)) = false := decide_eq_false h16
  go_enter Try.func62, Try.ntmps62
  go_wp2_with fail
  refine H1.out.mono ?_
  clear H1
  rintro e w1 ⟨rfl, r1, b1⟩
  have H2 := hideIt (bad_r w1 gr g h (.ok z1) r1 false 5 (by decide))
  have HB1 := hideIt b1
  clear r1 b1
  go_wp2_with fail
  refine H2.out.mono ?_
  clear H2
  rintro e w2 ⟨rfl, r2, b2⟩
  have HX := hideIt (And.intro (show RS w2 gr g h (.ok z1) from r2) (HB1.out.trans (b2.mono (fun i _ t => .inl t))))
  have HBZ := hideIt hbz
  clear r2 b2 HB1 hbz
  have HN16 := hideIt (show n ≤ 16 by omega)
  go_wp2_with fail
  go_loopw [4, 5] (fun v i wr => ∃ (dn rs : List Ob) (sj : St), i = .int .i64 (dn.length : Nat) ∧ dn.length + rs.length = n ∧ wr.ownsRow W.heap.size 42 3 v dn.length (cells3 (dn.map Ob.t3)) ∧ RS wr gr g h sj ∧ But (Two gr g) W wr ∧ ((∃ ys, sj = .ok ys ∧ Bs ys ∧ RR = thn (objL false (dn.map Ob.h) rs ys) (fun l us => .ok (dn ++ l, us))) ∨ ∃ c, sj = .error c ∧ RR = .error c)) (fun _ i _ => n - (intOf i).toNat)
  case atStart =>
    refine ⟨[], List.replicate n ⟨0, 0, false⟩, .ok z1, rfl, by simp, World.ownsRow_nil _ _ _ _, HX.out.1, HX.out.2, .inl ⟨z1, rfl, HBZ.out, ?_⟩⟩
    rw [HRR.out]
    show _ = thn (objL false [] (List.replicate n ⟨0, 0, false⟩) z1) _
    cases objL false [] (List.replicate n ⟨0, 0, false⟩) z1 with
    | error c => rfl
    | ok x => rfl
  case round =>
    obtain ⟨wo, hwo⟩ : ∃ wo, wo = wr := ⟨_, rfl⟩
    subst hwo
    obtain ⟨dn, rl, sj, rfl, hdr, own, rs, bw, hst⟩ := hrel
    have hdn : dn.length ≤ n := by omega
    have HDR := hideIt hdr
    clear hdr
    obtain ⟨a4, c4, rfl, row4, an4, al4⟩ := own_rowT own
    rcases hst with ⟨ys, rfl, hby, hgo⟩ | ⟨c, rfl, hgo⟩
    rotate_left
    · obtain ⟨hbl, hc⟩ := rs.err
      obtain ⟨_, c0, c1, _, _⟩ := two_at hbl
      have hcb : (c == 0) = false := by simpa using hc
      have HZ := hideIt (And.intro row4 (And.intro an4 (And.intro al4 (And.intro rs (And.intro bw hgo)))))
      clear row4 an4 al4 rs bw hgo own hbl hc HX
      generalize hdl : dn.length = j at HZ hdn ⊢
      have HDL := hideIt hdl
      clear hdl
      by_cases hlt : (j : Int) < (n : Int)
      all_goals
        go_wp2_with fail
        go_ret
        obtain ⟨row4, an4, al4, rs, bw, hgo⟩ := HZ.out
        rw [← HDL.out] at row4 an4 ⊢
        exact ⟨a4, c4, dn, .error c, rfl, row4, an4, al4, rs, bw, Ends.bad hgo rfl⟩
    · obtain ⟨_, c0, c1, _, _⟩ := two_at rs.fine
      by_cases hlt : dn.length < n
      rotate_left
      · have hj : dn.length = n := by omega
        have HZ := hideIt (And.intro row4 (And.intro an4 (And.intro al4 (And.intro rs (And.intro bw hgo)))))
        clear row4 an4 al4 rs bw hgo own HX
        have HJ := hideIt hj
        rw [hj]
        clear hj hlt
        go_wp2_with fail
        go_ret
        obtain ⟨row4, an4, al4, rs, bw, hgo⟩ := HZ.out
        rw [← HJ.out]
        refine ⟨a4, c4, dn, .ok ys, rfl, row4, an4, al4, rs, bw, ?_⟩
        have hrl : rl = [] := List.length_eq_zero_iff.1 (by have := HDR.out; have := HJ.out; omega)
        rw [hrl] at hgo
        refine Ends.ok (x := dn) (zs := ys) ?_ ⟨rfl, rfl⟩
        rw [hgo]
        show Except.ok (dn ++ [], ys) = _
        rw [List.append_nil]
      · have hlt' : (dn.length : Int) < (n : Int) := by omega
        have HW1 := hideIt (word_r wo gr g h (.ok ys) rs)
        have HZ := hideIt (And.intro own (And.intro row4 (And.intro al4 (And.intro bw (And.intro hgo hby)))))
        have hwr := bw.size
        clear row4 an4 al4 rs bw hgo own HX hby
        generalize hdl : dn.length = j at HZ hdn hlt hlt' ⊢
        have HDL := hideIt hdl
        clear hdl
        obtain ⟨hv, hhv⟩ : ∃ hv, rdV 2 (.ok ys) = hv := ⟨_, rfl⟩
        obtain ⟨s2, hs2⟩ : ∃ s2, rdS 2 (.ok ys) = s2 := ⟨_, rfl⟩
        rw [hhv, hs2] at HW1
        have HH := hideIt (And.intro hhv hs2)
        clear hhv hs2
        go_wp2_with fail
        refine HW1.out.mono ?_
        clear HW1
        rintro e w3 ⟨rfl, r3, b3⟩
        have hw3 := b3.size
        obtain ⟨own, row4, al4, bw, hgo, hby⟩ := HZ.out
        have hL := HL.out
        have ownE : ∀ W', But (fun k => k = gr ∨ k = g ∨ k = w3.heap.size) wo W' → W'.ownsRow W.heap.size 42 3 (.slice a4 j c4) j (cells3 (dn.map Ob.t3)) := fun W' t => own_but own t (fun k hk t => by have := (own.lt k hk); rcases t with t | t | t <;> omega)
        obtain ⟨w4, hw4⟩ : ∃ w4, w3.alloc (.cells #[.int .i64 hv, .int .i64 0, .bool false] 42) = w4 := ⟨_, rfl⟩
        have a4' : After w3 w4 := by rw [← hw4]; exact After.rfl.alloc _
        have bx : w4.heap[w3.heap.size]? = some (.cells #[.int .i64 hv, .int .i64 0, .bool false] 42 (0, 0)) := by rw [← hw4]; exact new1 _ _
        have HS4 := hideIt (And.intro (r3.after a4') (And.intro bx (b3.trans a4'.but)))
        have HOE := hideIt ownE
        have HW4 := hideIt hw4
        clear own row4 al4 bw hgo hby hL ownE a4' bx hw4 r3 b3 c0 c1
        generalize hgx : w3.heap.size = gx at HS4 HOE hw3 ⊢
        have HGX := hideIt hgx
        have HGXS := hideIt (show W.heap.size ≤ gx by rw [← hgx]; have := hwr; have := hw3; omega)
        clear hgx
        go_wp2_with fail
        rw [HGX.out]
        rw [HW4.out]
        go_loopw [7] (fun i wr2 => ∃ kk : Nat, i = .int .i64 kk ∧ kk ≤ j ∧ RS wr2 gr g h (badS (decide (hv ∈ (dn.take kk).map Ob.h)) 4 s2) ∧ wr2.heap[gx]? = some (.cells #[.int .i64 hv, .int .i64 0, .bool false] 42 (0, 0)) ∧ But (Two gr g) wo wr2) (fun i _ => j - (intOf i).toNat)
        case atStart =>
          refine ⟨0, rfl, Nat.zero_le _, ?_, HS4.out.2.1, HS4.out.2.2⟩
          have : badS (decide (hv ∈ (dn.take 0).map Ob.h)) 4 s2 = s2 := by cases s2 <;> simp [badS]
          rw [this]
          exact HS4.out.1
        case round =>
          obtain ⟨kk, rfl, hkk, rk, bk, tk⟩ := hrel
          obtain ⟨_, x0, x1, x2, xf0, xf1, xf2⟩ := three_at bk
          have hgxl := (Array.getElem?_eq_some_iff.1 bk).1
          by_cases hlk : kk < j
          · have hlk' : (kk : Int) < (j : Int) := by omega
            have ownk := HOE.out _ (tk.mono (fun i _ t => t.elim .inl (fun t => .inr (.inl t))))
            obtain ⟨a5, c5, e5, row5, _, al6⟩ := own_rowT ownk
            cases e5
            obtain ⟨b6, o6, h6, u6, l6, rfl, hb6, x6, d1, d2, d3⟩ := rowO_at row5 hlk
            have HBD := hideIt (fun (b : Bool) W' (t : After wr W') => bad_r W' gr g h _ (rk.after t) b 4 (by decide))
            have HK := hideIt (And.intro bk (And.intro tk x6))
            have HBL := hideIt (And.intro hgxl rk.lt)
            have HB6 := hideIt (show b6 < wr.heap.size ∧ gr < b6 ∧ gr < gx from ⟨hb6, by have h9 := al6 _ rfl; have h8 := HL.out; dsimp only at h9; omega, by have := HL.out; have := HGXS.out; omega⟩)
            clear rk bk tk ownk row5 x6 hb6 hgxl al6
            obtain ⟨bb, hbb⟩ : ∃ bb : Bool, (h6 == hv) = bb := ⟨_, rfl⟩
            go_wp2_with fail
            refine wp_region_held_drew (S := (fun W => W.cell? ⟨b6, o6 + kk * 3, none⟩ = some (.int .i64 h6) ∧ W.cell? ⟨gx, 0, none⟩ = some (.int .i64 hv))) rfl ⟨d1, x0⟩ (fun hHeld => ?_)
            refine' takeD (i := 0) (d := some 35) (v := _) rfl rfl (by kernel_rfl) (by kernel_rfl) (by kernel_rfl) (fun _ _ _ h => h) (by rfl) hHeld (fun w hSw => ?_) ?_
            rotate_left 1
            · (try dsimp only at hSw)
              go_simp
              try with_reducible rfl
            try simp only [Act.put, List.setIfInBounds_toArray, List.set_cons_zero, List.set_cons_succ]
            refine' takeD (i := 1) (d := some 36) (v := _) rfl rfl (by kernel_rfl) (by kernel_rfl) (by kernel_rfl) (fun _ _ _ h => h) (by rfl) hHeld (fun w hSw => ?_) ?_
            rotate_left 1
            · (try dsimp only at hSw)
              go_simp
              try with_reducible rfl
            try simp only [Act.put, List.setIfInBounds_toArray, List.set_cons_zero, List.set_cons_succ]
            refine' takeD (i := 2) (d := some 37) (v := _) rfl rfl (by kernel_rfl) (by kernel_rfl) (by kernel_rfl) (fun _ _ _ h => h) (by rfl) hHeld (fun w hSw => ?_) ?_
            rotate_left 1
            · (try dsimp only at hSw)
              go_simp
              try with_reducible rfl
            try simp only [Act.put, List.setIfInBounds_toArray, List.set_cons_zero, List.set_cons_succ]
            refine' takeD (i := 3) (d := some 38) (v := _) rfl rfl (by kernel_rfl) (by kernel_rfl) (by kernel_rfl) (fun _ _ _ h => h) (by rfl) hHeld (fun w hSw => ?_) ?_
            rotate_left 1
            · (try dsimp only at hSw)
              go_simp
              try with_reducible rfl
            try simp only [Act.put, List.setIfInBounds_toArray, List.set_cons_zero, List.set_cons_succ]
            refine' takeD (i := 4) (d := some 39) (v := _) rfl rfl (by kernel_rfl) (by kernel_rfl) (by kernel_rfl) (fun _ _ _ h => h) (by rfl) hHeld (fun w hSw => ?_) ?_
            rotate_left 1
            · (try dsimp only at hSw)
              go_simp
              try with_reducible rfl
            try simp only [Act.put, List.setIfInBounds_toArray, List.set_cons_zero, List.set_cons_succ]
            refine' takeD (i := 5) (d := some 40) (v := _) rfl rfl (by kernel_rfl) (by kernel_rfl) (by kernel_rfl) (fun _ _ _ h => h) (by rfl) hHeld (fun w hSw => ?_) ?_
            rotate_left 1
            · (try dsimp only at hSw)
              go_simp
              try with_reducible rfl
            try simp only [Act.put, List.setIfInBounds_toArray, List.set_cons_zero, List.set_cons_succ]
            refine' takeD (i := 6) (d := some 41) (v := _) rfl rfl (by kernel_rfl) (by kernel_rfl) (by kernel_rfl) (fun _ _ _ h => h) (by rfl) hHeld (fun w hSw => ?_) ?_
            rotate_left 1
            · (try dsimp only at hSw)
              go_simp
              try with_reducible rfl
            try simp only [Act.put, List.setIfInBounds_toArray, List.set_cons_zero, List.set_cons_succ]
            refine' takeD (i := 7) (d := some 42) (v := _) rfl rfl (by kernel_rfl) (by kernel_rfl) (by kernel_rfl) (fun _ _ _ h => h) (by rfl) hHeld (fun w hSw => ?_) ?_
            rotate_left 1
            · (try dsimp only at hSw)
              go_simp
              try with_reducible rfl
            try simp only [Act.put, List.setIfInBounds_toArray, List.set_cons_zero, List.set_cons_succ]
            refine' takeD (i := 8) (d := some 43) (v := _) rfl rfl (by kernel_rfl) (by kernel_rfl) (by kernel_rfl) (fun _ _ _ h => h) (by rfl) hHeld (fun w hSw => ?_) ?_
            rotate_left 1
            · (try dsimp only at hSw)
              go_simp
              try with_reducible rfl
            try simp only [Act.put, List.setIfInBounds_toArray, List.set_cons_zero, List.set_cons_succ]
            refine wpAnyH_ready (rs := [9]) (by kernel_rfl) (by simp) ?_
            refine AllReadyH.cons rfl (fun K hK => ?_) AllReadyH.nil
            go_simp
            try rw [hbb]
            refine (HBD.out bb _ (After.rfl.draws 1)).mono ?_
            rintro e w5 ⟨rfl, r5, t5⟩
            try go_wp2_with fail
            refine hK.out _ _ ?_ (fun hHeld9 => ?_)
            · obtain ⟨q1, q2, q3⟩ := HBL.out
              have hne1 : ¬ One gr b6 := fun e => by have e' : b6 = gr := e; have := HB6.out; omega
              have hne2 : ¬ One gr gx := fun e => by have e' : gx = gr := e; have := HB6.out; omega
              exact ⟨by rw [t5.cell (Nat.lt_of_lt_of_le HB6.out.1 (After.rfl.draws 1).size) hne1]; exact hHeld.1, by rw [t5.cell (Nat.lt_of_lt_of_le q1 (After.rfl.draws 1).size) hne2]; exact hHeld.2⟩
            clear hK K
            try simp only [Act.put, List.setIfInBounds_toArray, List.set_cons_zero, List.set_cons_succ]
            refine wpAnyH_done (by kernel_rfl) ?_ _
            obtain ⟨bk, tk, x6⟩ := HK.out
            have hne2 : ¬ One gr gx := fun e => by have e' : gx = gr := e; have := HB6.out; omega
            have bk5 := (t5.block gx (Nat.lt_of_lt_of_le HBL.out.1 (After.rfl.draws 1).size) hne2).trans (keep2 bk (After.rfl.draws 1))
            have HR5 := hideIt (And.intro r5 (And.intro bk5 ((tk.trans (After.rfl.draws 1).but).trans (t5.mono (fun i _ t => .inl t)))))
            have HX6 := hideIt (And.intro x6 hbb)
            clear hHeld hHeld9 bk tk x6 hbb bk5 r5 t5 hne2
            go_wp2_with fail
            go_roundw
            case rel =>
              obtain ⟨r5, bk5, t5⟩ := HR5.out
              refine ⟨kk + 1, by go_num, by omega, ?_, bk5, t5⟩
              rw [badS_two] at r5
              have e9 : (decide (hv ∈ (dn.take (kk + 1)).map Ob.h)) = (decide (hv ∈ (dn.take kk).map Ob.h) || bb) := by
                rw [← HX6.out.2, take_map_more HX6.out.1, mem_snoc]
              rw [e9]
              exact r5
            case measure => simp [intOf]; omega
          · obtain rfl : kk = j := by omega
            have htk : dn.take kk = dn := List.take_of_length_le (by rw [HDL.out]; exact Nat.le_refl _)
            rw [htk] at rk
            obtain ⟨s3, hs3⟩ : ∃ s3, badS (decide (hv ∈ dn.map Ob.h)) 4 s2 = s3 := ⟨_, rfl⟩
            rw [hs3] at rk
            obtain ⟨uv, huv⟩ : ∃ uv, rdV 2 s3 = uv := ⟨_, rfl⟩
            obtain ⟨s4, hs4⟩ : ∃ s4, rdS 2 s3 = s4 := ⟨_, rfl⟩
            obtain ⟨lv, hlv⟩ : ∃ lv, rdV 1 s4 = lv := ⟨_, rfl⟩
            obtain ⟨s5, hs5⟩ : ∃ s5, rdS 1 s4 = s5 := ⟨_, rfl⟩
            have HW5 := hideIt (word_r wr gr g h s3 rk)
            rw [huv, hs4] at HW5
            have hlt3 : gr < gx ∧ g < gx ∧ h < gx ∧ gr < W.heap.size ∧ g < W.heap.size ∧ h < W.heap.size ∧ wo.heap.size ≤ gx ∧ W.heap.size ≤ wo.heap.size := by have := HL.out; have := HGXS.out; omega
            have HNE := hideIt hlt3
            have HV := hideIt (And.intro hs3 (And.intro huv (And.intro hs4 (And.intro hlv hs5))))
            have HBK := hideIt (And.intro bk tk)
            clear rk bk tk hgxl htk hs3 huv hs4 hlt3 x0 x1 x2 xf0 xf1 xf2
            go_wp2_with fail
            refine HW5.out.mono ?_
            clear HW5
            rintro e w6 ⟨rfl, r6, b6⟩
            have n6 : ¬ Two gr g gx := fun e => by have := HNE.out; rcases e with e | e <;> omega
            have k6 := (b6.block gx (Array.getElem?_eq_some_iff.1 HBK.out.1).1 n6).trans HBK.out.1
            obtain ⟨_, x0, x1, x2, xf0, xf1, xf2⟩ := three_at k6
            have bs6 : But (One gx) w6 (w6.setCell ⟨gx, 1, none⟩ (.int .i64 uv)) := But.own1 _ _ _ _
            have r6' := r6.but bs6 (fun e => by have := HNE.out; have e' : gr = gx := e; omega) (fun e => by have := HNE.out; have e' : g = gx := e; omega) (fun e => by have := HNE.out; have e' : h = gx := e; omega)
            have HW6 := hideIt (byte_r _ gr g h s4 r6')
            rw [hlv, hs5] at HW6
            have HK6 := hideIt (And.intro (three_set1 k6 (.int .i64 uv)) (((HBK.out.2.mono (T := (fun k => k = gr ∨ k = g ∨ k = gx)) (fun i _ t => t.elim .inl (fun t => .inr (.inl t)))).trans (b6.mono (fun i _ t => t.elim .inl (fun t => .inr (.inl t))))).trans (bs6.mono (fun i _ t => .inr (.inr t)))))
            clear r6 b6 n6 k6 bs6 r6' HBK hlv hs5
            go_wp2_with fail
            refine HW6.out.mono ?_
            clear HW6
            rintro e w8 ⟨rfl, r8, b8⟩
            have n8 : ¬ Two gr g gx := fun e => by have := HNE.out; rcases e with e | e <;> omega
            have k8 := (b8.block gx (Array.getElem?_eq_some_iff.1 HK6.out.1).1 n8).trans HK6.out.1
            have HK8 := hideIt (And.intro k8 (HK6.out.2.trans (b8.mono (fun i _ t => t.elim .inl (fun t => .inr (.inl t))))))
            obtain ⟨b9, hb9⟩ : ∃ b9, decide ((1 : Int) < lv) = b9 := ⟨_, rfl⟩
            obtain ⟨lb, hlb⟩ : ∃ lb, (lv == 1) = lb := ⟨_, rfl⟩
            have HB9 := hideIt (bad_r w8 gr g h s5 r8 b9 4 (by decide))
            clear r8 b8 n8 k8 HK6 x0 x1 x2 xf0 xf1 xf2
            go_wp2_with fail
            refine HB9.out.mono ?_
            clear HB9
            rintro e w9 ⟨rfl, r9, b9'⟩
            have n9 : ¬ One gr gx := fun e => by have := HNE.out; have e' : gx = gr := e; omega
            have k9 := (b9'.block gx (Array.getElem?_eq_some_iff.1 HK8.out.1).1 n9).trans HK8.out.1
            obtain ⟨_, x0, x1, x2, xf0, xf1, xf2⟩ := three_at k9
            have bs9 : But (One gx) w9 (w9.setCell ⟨gx, 2, none⟩ (.bool lb)) := But.own1 _ _ _ _
            have r9' := r9.but bs9 (fun e => by have := HNE.out; have e' : gr = gx := e; omega) (fun e => by have := HNE.out; have e' : g = gx := e; omega) (fun e => by have := HNE.out; have e' : h = gx := e; omega)
            have al9 : After (w9.setCell ⟨gx, 2, none⟩ (.bool lb)) ((w9.setCell ⟨gx, 2, none⟩ (.bool lb)).alloc (.cells #[.int .i64 hv, .int .i64 uv, .bool lb] 42)) := After.rfl.alloc _
            have t9 := ((HK8.out.2.trans (b9'.mono (fun i _ t => .inl t))).trans (bs9.mono (fun i _ t => .inr (.inr t)))).trans al9.but
            have OW9 := hideIt (HOE.out _ t9)
            have HS9 := hideIt (And.intro (r9'.after al9) t9)
            have NW9 := hideIt (show ∀ jj u, [Value.int .i64 hv, Value.int .i64 uv, Value.bool lb][jj]? = some u → ((w9.setCell ⟨gx, 2, none⟩ (.bool lb)).alloc (.cells #[.int .i64 hv, .int .i64 uv, .bool lb] 42)).cell? ((⟨w9.heap.size, 0, none⟩ : Addr).add jj) = some u from fun jj u hu => by
              have hnb := new1 (w9.setCell ⟨gx, 2, none⟩ (.bool lb)) (.cells #[.int .i64 hv, .int .i64 uv, .bool lb] 42)
              rw [World.size_setCell] at hnb
              rw [add_off, Nat.zero_add]
              rw [cell_blk (A := [Value.int .i64 hv, Value.int .i64 uv, Value.bool lb]) hnb]
              exact hu)
            obtain ⟨i0, hi, hz0, hz1, hz2⟩ := info_parts Try.info42
            have HSZ := hideIt (show W.heap.size ≤ ((w9.setCell ⟨gx, 2, none⟩ (.bool lb)).alloc (.cells #[.int .i64 hv, .int .i64 uv, .bool lb] 42)).heap.size from by have := t9.size; have := HNE.out; omega)
            have HJM := hideIt (show kk ≤ 16 from by have := HN16.out; omega)
            have HXX := hideIt (And.intro hb9 hlb)
            clear r9 b9' n9 k9 bs9 r9' al9 t9 HK8 hb9
            go_wp2_with (at_builtin; refine wpList_append_own _ rfl (.tmp 57) (.tmp 59) 23 rfl W.heap.size 42 i0 (.agg #[.int .i64 0, .int .i64 0, .bool false]) 3 24 Try.underlying23 hi hz0 hz1 hz2 rfl (by decide) (.slice a4 kk c4) kk (cells3 (dn.map Ob.t3)) rfl OW9.out ⟨w9.heap.size, 0, none⟩ 1 1 [.int .i64 hv, .int .i64 uv, .bool lb] rfl rfl NW9.out (fun u hu => by simp at hu; rcases hu with rfl | rfl | rfl <;> rfl) (by have := HJM.out; unfold maxLen; omega) (by have := HJM.out; omega) HSZ.out ?_; intro v10 w10 hown hgrow _; have OW10 := hideIt hown; have GR10 := hideIt (show But (fun k => (Value.slice a4 kk c4).ownBlock = some k) _ w10 from But.grown But.rfl hgrow (fun k hk _ => hk)); clear hown hgrow)
            go_roundw
            case rel =>
              obtain ⟨own, row4, al4, bw, hgo, hby⟩ := HZ.out
              obtain ⟨hs3, huv, hs4, hlv, hs5⟩ := HV.out
              obtain ⟨hhv, hs2⟩ := HH.out
              obtain ⟨hb9, hlb'⟩ := HXX.out
              have hdl := HDL.out
              have hdr := HDR.out
              have hne := HNE.out
              obtain ⟨o0, rt, hrl⟩ : ∃ o0 rt, rl = o0 :: rt := by
                cases rl with
                | nil => simp at hdr; omega
                | cons o0 rt => exact ⟨o0, rt, rfl⟩
              have hone := objR_one (dn.map Ob.h) o0 ys hby
              have hobj : objR (dn.map Ob.h) (.ok ys) = (⟨hv, uv, lb⟩, badS b9 4 s5) := by
                have hd : decide (lv = 1) = lb := by
                  rw [← hlb']
                  by_cases e : lv = 1
                  · rw [decide_eq_true e, e]; rfl
                  · rw [decide_eq_false e]
                    exact (beq_eq_false_iff_ne.2 e).symm
                unfold objR
                rw [hhv, hs2, hs3, huv, hs4, hlv, hs5, hb9, hd]
              rw [hobj] at hone
              refine ⟨dn ++ [⟨hv, uv, lb⟩], rt, badS b9 4 s5, ?_, ?_, ?_, ?_, ?_, ?_⟩
              · rw [List.length_append, hdl]
                show _ = Value.int .i64 ((kk + 1 : Nat) : Int)
                go_num
              · rw [hrl] at hdr
                simp only [List.length_append, List.length_cons, List.length_nil] at hdr ⊢
                omega
              · rw [List.length_append, hdl, List.map_append, cells3_append]
                exact OW10.out
              · exact HS9.out.1.but GR10.out (fun e => by have := (OW9.out.lt _ e).1; omega) (fun e => by have := (OW9.out.lt _ e).1; omega) (fun e => by have := (OW9.out.lt _ e).1; omega)
              · exact (bw.then HS9.out.2 (fun i hi t => by rcases t with t | t | t; exact .inl t; exact .inr t; omega)).then GR10.out (fun i hi t => by have := (OW9.out.lt _ t).1; omega)
              · rw [hrl] at hgo
                unfold objL at hgo
                rcases hone.split with ⟨c, e1, e2⟩ | ⟨x', us, e1, e2⟩
                · right
                  refine ⟨c, e2, ?_⟩
                  rw [hgo, thn_bad e1]
                  rfl
                · left
                  injection e2 with e2 e3
                  subst e2
                  refine ⟨us, e3, ?_, ?_⟩
                  · obtain ⟨_, bs, hz, _⟩ := (obj1_dual _).once hby e1
                    rw [hz] at hby
                    exact hby.right
                  · rw [hgo, thn_ok e1, List.map_append]
                    show thn (thn (objL false (dn.map Ob.h ++ [hv]) rt us) fun l zs => Except.ok (_ :: l, zs)) _ = thn (objL false (dn.map Ob.h ++ [hv]) rt us) _
                    cases objL false (dn.map Ob.h ++ [hv]) rt us with
                    | error c => rfl
                    | ok x =>
                      obtain ⟨l, zs⟩ := x
                      show Except.ok (dn ++ (_ :: l), zs) = Except.ok ((dn ++ [_]) ++ l, zs)
                      rw [List.append_assoc]
                      rfl
            case measure => simp [intOf]; omega
end Go.Proofs.Ytigiakhdaaoljaa
