/-
  Laid together: RefObs.
-/
import Derived.Test.YtigiakhdaaoljaaB23
/-
  The document's numbers of objects, read.
-/
namespace Go.Proofs.Ytigiakhdaaoljaa
open Go.RowKit
set_option maxRecDepth 8000
/-- The bytes of a state are bytes. -/
def StB (st : St) : Prop := ∀ zs, st = .ok zs → Bs zs
theorem StB.rd {st : St} (h : StB st) (k : Nat) : StB (rdS k st) := by
  cases st with
  | error c => intro zs e; cases e
  | ok ys =>
    intro zs e
    by_cases hk : k ≤ ys.length
    · rw [(rd_ok hk).2] at e; cases e; exact (h ys rfl).drop k
    · rw [rd_no hk] at e; cases e
theorem StB.bad {st : St} (h : StB st) (b : Bool) (c : Int) : StB (badS b c st) := by
  cases st with
  | error c' => intro zs e; cases e
  | ok ys =>
    intro zs e
    cases b
    · cases e; exact h ys rfl
    · cases e
theorem rdV_two {st : St} (h : StB st) : 0 ≤ rdV 2 st ∧ rdV 2 st ≤ 65535 := by
  cases st with
  | error c => exact ⟨Int.le_refl _, (by show (0 : Int) ≤ 65535; decide)⟩
  | ok ys =>
    by_cases hk : 2 ≤ ys.length
    · rw [(rd_ok hk).1]
      have := be_bound2 (h ys rfl) hk
      omega
    · rw [show rdV 2 (.ok ys) = 0 from rdVal_no hk]
      omega
/-- A number of an object that is read, whatever comes of it. -/
def obsR (st : St) : Bi × St :=
  if rdV 1 (rdS 2 st) = 4 then (⟨rdV 2 st, true, rdV 2 (badS (decide (rdV 1 (rdS 2 st) ≠ 2 ∧ rdV 1 (rdS 2 st) ≠ 4)) 4 (rdS 1 (rdS 2 st))) * 65536 + rdV 2 (rdS 2 (badS (decide (rdV 1 (rdS 2 st) ≠ 2 ∧ rdV 1 (rdS 2 st) ≠ 4)) 4 (rdS 1 (rdS 2 st))))⟩, rdS 2 (rdS 2 (badS (decide (rdV 1 (rdS 2 st) ≠ 2 ∧ rdV 1 (rdS 2 st) ≠ 4)) 4 (rdS 1 (rdS 2 st)))))
  else (⟨rdV 2 st, false, rdV 2 (badS (decide (rdV 1 (rdS 2 st) ≠ 2 ∧ rdV 1 (rdS 2 st) ≠ 4)) 4 (rdS 1 (rdS 2 st)))⟩, rdS 2 (badS (decide (rdV 1 (rdS 2 st) ≠ 2 ∧ rdV 1 (rdS 2 st) ≠ 4)) 4 (rdS 1 (rdS 2 st))))
theorem be_four (zs : List Int) (h : 4 ≤ zs.length) : be (zs.take 4) = be (zs.take 2) * 65536 + be ((zs.drop 2).take 2) := by
  match zs, h with
  | a :: b :: c :: d :: r, _ =>
    show (((0 * 256 + a) * 256 + b) * 256 + c) * 256 + d = ((0 * 256 + a) * 256 + b) * 65536 + ((0 * 256 + c) * 256 + d)
    omega
theorem obsR_one (o : Bi) (zs : List Int) : Ends (obs1 false o zs) (fun x us => obsR (.ok zs) = (x, .ok us)) (fun c => (obsR (.ok zs)).2 = .error c) := by
  unfold obs1 obsR
  by_cases h1 : 2 ≤ zs.length
  · rw [thn_ok (num_r h1), (rd_ok h1).1, (rd_ok h1).2]
    by_cases h2 : 1 ≤ (zs.drop 2).length
    · rw [(rd_ok h2).1, (rd_ok h2).2]
      unfold eit
      rw [thn_ok (num_r h2)]
      generalize be ((zs.drop 2).take 1) = sz
      generalize (zs.drop 2).drop 1 = ys
      by_cases h4 : sz = 4
      · rw [if_pos (.inl h4), decide_eq_false (show ¬ (sz ≠ 2 ∧ sz ≠ 4) from fun h => h.2 h4), if_pos h4, decide_eq_true h4]
        show Ends (thn (num false 4 4294967295 o.b ys) fun b zs => Except.ok ((⟨_, true, b⟩ : Bi), zs)) _ _
        have e0 : badS false 4 (.ok ys) = .ok ys := rfl
        rw [e0]
        by_cases h3 : 2 ≤ ys.length
        · rw [(rd_ok h3).1, (rd_ok h3).2]
          by_cases h5 : 2 ≤ (ys.drop 2).length
          · have h6 : 4 ≤ ys.length := by rw [List.length_drop] at h5; omega
            rw [(rd_ok h5).1, (rd_ok h5).2, thn_ok (num_r h6), be_four ys h6]
            show (_, _) = (_, _)
            rw [List.drop_drop]
          · have h6 : ¬ 4 ≤ ys.length := by rw [List.length_drop] at h5; omega
            rw [thn_bad (num_rn h6), rd_no h5]
            rfl
        · have h6 : ¬ 4 ≤ ys.length := by omega
          rw [thn_bad (num_rn h6), rd_no h3]
          rfl
      · by_cases h5 : sz = 2
        · rw [if_pos (.inr h5), decide_eq_false (show ¬ (sz ≠ 2 ∧ sz ≠ 4) from fun h => h.1 h5), if_neg h4, decide_eq_false h4]
          show Ends (thn (num false 2 65535 o.b ys) fun b zs => Except.ok ((⟨_, false, b⟩ : Bi), zs)) _ _
          have e0 : badS false 4 (.ok ys) = .ok ys := rfl
          rw [e0]
          by_cases h3 : 2 ≤ ys.length
          · rw [(rd_ok h3).1, (rd_ok h3).2, thn_ok (num_r h3)]
            rfl
          · rw [thn_bad (num_rn h3), rd_no h3]
            rfl
        · rw [if_neg (fun h => h.elim h4 h5), decide_eq_true (show sz ≠ 2 ∧ sz ≠ 4 from ⟨h5, h4⟩), if_neg h4]
          rfl
    · rw [rd_no h2, show rdV 1 (.ok (zs.drop 2)) = 0 from rdVal_no h2]
      unfold eit
      rw [thn_bad (num_rn h2)]
      rfl
  · rw [thn_bad (num_rn h1), rd_no h1]
    rfl
def OutB (W W' : World) (gr g h : Nat) (RR : Except Int (List Bi × List Int)) (e : Ending) : Prop :=
  ∃ a c l st', e = .returned (.slice a (List.length l) c) ∧ RowT W' a l.length (l.map Bi.t3) ∧ (a = none → l.length = 0 ∧ c = 0) ∧ (∀ y, a = some y → W.heap.size ≤ y.block) ∧ RS W' gr g h st' ∧ But (Two gr g) W W' ∧ Gos RR l st'
set_option maxHeartbeats 1000000 in
theorem obs_r (W : World) (gr g h : Nat) (st : St) (r : RS W gr g h st) :
    Calls Try.prog 63 #[Ptr gr] W fun e W' => OutB W W' gr g h (thnS st (lstB false [])) e := by
  have H1 := hideIt (word_r W gr g h st r)
  have HL := hideIt r.lt
  have HB := hideIt (show ∀ zs, st = .ok zs → Bs zs from fun zs e => by subst e; exact r.bs)
  clear r
  have HC : Hid ((∃ c, rdV 2 st = 0 ∧ rdS 2 st = .error c ∧ thnS st (lstB false []) = .error c) ∨ ∃ (n : Nat) (z1 : List Int), rdV 2 st = (n : Int) ∧ rdS 2 st = .ok z1 ∧ Bs z1 ∧ n ≤ 65535 ∧ thnS st (lstB false []) = if (n : Int) > 64 then .error 5 else obsL false (List.replicate n ⟨0, false, 0⟩) z1) := by
    cases st with
    | error c => exact .inl ⟨c, rfl, rfl, rfl⟩
    | ok zs =>
      by_cases h2 : 2 ≤ zs.length
      · right
        have hb := HB.out zs rfl
        have hv := be_bound2 hb h2
        obtain ⟨n, hn⟩ := Int.eq_ofNat_of_zero_le hv.1
        refine ⟨n, zs.drop 2, by rw [(rd_ok h2).1, hn], (rd_ok h2).2, hb.drop 2, by omega, ?_⟩
        show lstB false [] zs = _
        unfold lstB
        rw [thn_ok (num_r h2), hn, Int.toNat_natCast]
        congr 1
        unfold fillOf
        simp
      · refine .inl ⟨3, rdVal_no h2, rd_no h2, ?_⟩
        show lstB false [] zs = _
        unfold lstB
        rw [thn_bad (num_rn h2)]
  generalize thnS st (lstB false []) = RR at HC ⊢
  generalize rdV 2 st = nv at H1 HC
  generalize rdS 2 st = s1 at H1 HC
  clear HB
  rcases HC.out with ⟨c, rfl, rfl, rfl⟩ | ⟨n, z1, rfl, rfl, hbz, hn, hRR⟩
  · clear HC
    go_enter Try.func63, Try.ntmps63
    go_wp2_with fail
    refine H1.out.mono ?_
    clear H1
    rintro e w1 ⟨rfl, r1, b1⟩
    have H2 := hideIt (bad_r w1 gr g h (.error c) r1 false 5 (by decide))
    have HB1 := hideIt b1
    clear r1 b1
    go_wp2_with fail
    refine H2.out.mono ?_
    clear H2
    rintro e w2 ⟨rfl, r2, b2⟩
    have r2' : RS w2 gr g h (.error c) := r2
    have HX := hideIt (And.intro r2' b2)
    clear r2 b2 r2'
    go_wp2_with fail
    go_loopw [4, 5] (fun v i wr => v = .slice none 0 0 ∧ i = .int .i64 0 ∧ wr = w2) (fun _ _ _ => 0)
    case atStart => exact ⟨rfl, rfl, rfl⟩
    case round =>
      obtain ⟨rfl, rfl, rfl⟩ := hrel
      go_wp2_with fail
      go_ret
      exact ⟨none, 0, [], _, rfl, RowT.nil _ _, fun _ => ⟨rfl, rfl⟩, (fun y hy => by cases hy), HX.out.1, HB1.out.trans (HX.out.2.mono (fun i _ t => .inl t)), rfl⟩
  have HNN := hideIt hn
  clear HC hn
  by_cases h64 : (64 : Int) < (n : Int)
  · rw [if_pos h64] at hRR
    subst hRR
    go_enter Try.func63, Try.ntmps63
    go_wp2_with fail
    refine H1.out.mono ?_
    clear H1
    rintro e w1 ⟨rfl, r1, b1⟩
    have H2 := hideIt (bad_r w1 gr g h (.ok z1) r1 true 5 (by decide))
    have HB1 := hideIt b1
    clear r1 b1
    go_wp2_with fail
    refine H2.out.mono ?_
    clear H2
    rintro e w2 ⟨rfl, r2, b2⟩
    have r2' : RS w2 gr g h (.error 5) := r2
    obtain ⟨_, c0, c1, _, _⟩ := two_at r2'.err.1
    have HX := hideIt (And.intro r2' b2)
    clear r2 b2 r2'
    have hn0 : (0 : Int) < (n : Int) := by omega
    go_wp2_with fail
    go_loopw [4, 5] (fun v i wr => v = .slice none 0 0 ∧ i = .int .i64 0 ∧ wr = w2) (fun _ _ _ => 0)
    case atStart => exact ⟨rfl, rfl, rfl⟩
    case round =>
      obtain ⟨rfl, rfl, rfl⟩ := hrel
      go_wp2_with fail
      go_ret
      exact ⟨none, 0, [], _, rfl, RowT.nil _ _, fun _ => ⟨rfl, rfl⟩, (fun y hy => by cases hy), HX.out.1, HB1.out.trans (HX.out.2.mono (fun i _ t => .inl t)), rfl⟩
  rw [if_neg h64] at hRR
  have HRR := hideIt hRR
  clear hRR
  have h64d : decide ((64 : Int) < (n : Int)) = false := decide_eq_false h64
  go_enter Try.func63, Try.ntmps63
  go_wp2_with fail
  refine H1.out.mono ?_
  clear H1
  rintro e w1 ⟨rfl, r1, b1⟩
  have H2 := hideIt (bad_r w1 gr g h (.ok z1) r1 false 5 (by decide))
  have HB1 := hideIt b1
  clear r1 b1
  go_wp2_with fail
  refine H2.out.mono ?_
  clear H2
  rintro e w2 ⟨rfl, r2, b2⟩
  have HX := hideIt (And.intro (show RS w2 gr g h (.ok z1) from r2) (HB1.out.trans (b2.mono (fun i _ t => .inl t))))
  have HBZ := hideIt hbz
  clear r2 b2 HB1 hbz
  have HN64 := hideIt (show n ≤ 64 by omega)
  go_wp2_with fail
  go_loopw [4, 5] (fun v i wr => ∃ (dn rs : List Bi) (sj : St), i = .int .i64 (dn.length : Nat) ∧ dn.length + rs.length = n ∧ wr.ownsRow W.heap.size 46 3 v dn.length (cells3 (dn.map Bi.t3)) ∧ RS wr gr g h sj ∧ But (Two gr g) W wr ∧ ((∃ ys, sj = .ok ys ∧ Bs ys ∧ RR = thn (obsL false rs ys) (fun l us => .ok (dn ++ l, us))) ∨ ∃ c, sj = .error c ∧ RR = .error c)) (fun _ i _ => n - (intOf i).toNat)
  case atStart =>
    refine ⟨[], List.replicate n ⟨0, false, 0⟩, .ok z1, rfl, by simp, World.ownsRow_nil _ _ _ _, HX.out.1, HX.out.2, .inl ⟨z1, rfl, HBZ.out, ?_⟩⟩
    rw [HRR.out]
    show _ = thn (obsL false (List.replicate n ⟨0, false, 0⟩) z1) _
    cases obsL false (List.replicate n ⟨0, false, 0⟩) z1 with
    | error c => rfl
    | ok x => rfl
  case round =>
    obtain ⟨wo, hwo⟩ : ∃ wo, wo = wr := ⟨_, rfl⟩
    subst hwo
    obtain ⟨dn, rl, sj, rfl, hdr, own, rs, bw, hst⟩ := hrel
    have hdn : dn.length ≤ n := by omega
    have HDR := hideIt hdr
    clear hdr
    obtain ⟨a4, c4, rfl, row4, an4, al4⟩ := own_rowT own
    rcases hst with ⟨ys, rfl, hby, hgo⟩ | ⟨c, rfl, hgo⟩
    rotate_left
    · obtain ⟨hbl, hc⟩ := rs.err
      obtain ⟨_, c0, c1, _, _⟩ := two_at hbl
      have hcb : (c == 0) = false := by simpa using hc
      have HZ := hideIt (And.intro row4 (And.intro an4 (And.intro al4 (And.intro rs (And.intro bw hgo)))))
      clear row4 an4 al4 rs bw hgo own hbl hc HX
      generalize hdl : dn.length = j at HZ hdn ⊢
      have HDL := hideIt hdl
      clear hdl
      by_cases hlt : (j : Int) < (n : Int)
      all_goals
        go_wp2_with fail
        go_ret
        obtain ⟨row4, an4, al4, rs, bw, hgo⟩ := HZ.out
        rw [← HDL.out] at row4 an4 ⊢
        exact ⟨a4, c4, dn, .error c, rfl, row4, an4, al4, rs, bw, Ends.bad hgo rfl⟩
    · obtain ⟨_, c0, c1, _, _⟩ := two_at rs.fine
      by_cases hlt : dn.length < n
      rotate_left
      · have hj : dn.length = n := by omega
        have HZ := hideIt (And.intro row4 (And.intro an4 (And.intro al4 (And.intro rs (And.intro bw hgo)))))
        clear row4 an4 al4 rs bw hgo own HX
        have HJ := hideIt hj
        rw [hj]
        clear hj hlt
        go_wp2_with fail
        go_ret
        obtain ⟨row4, an4, al4, rs, bw, hgo⟩ := HZ.out
        rw [← HJ.out]
        refine ⟨a4, c4, dn, .ok ys, rfl, row4, an4, al4, rs, bw, ?_⟩
        have hrl : rl = [] := List.length_eq_zero_iff.1 (by have := HDR.out; have := HJ.out; omega)
        rw [hrl] at hgo
        refine Ends.ok (x := dn) (zs := ys) ?_ ⟨rfl, rfl⟩
        rw [hgo]
        show Except.ok (dn ++ [], ys) = _
        rw [List.append_nil]
      · have hlt' : (dn.length : Int) < (n : Int) := by omega
        have HW1 := hideIt (word_r wo gr g h (.ok ys) rs)
        have HZ := hideIt (And.intro own (And.intro row4 (And.intro al4 (And.intro bw (And.intro hgo hby)))))
        have hwr := bw.size
        clear row4 an4 al4 rs bw hgo own HX hby
        generalize hdl : dn.length = j at HZ hdn hlt hlt' ⊢
        have HDL := hideIt hdl
        clear hdl
        have st0 : StB (.ok ys) := fun zs e => by cases e; exact HZ.out.2.2.2.2.2
        obtain ⟨hv, hhv⟩ : ∃ hv, rdV 2 (.ok ys) = hv := ⟨_, rfl⟩
        obtain ⟨s1, hs1⟩ : ∃ s1, rdS 2 (.ok ys) = s1 := ⟨_, rfl⟩
        have st1 : StB s1 := by rw [← hs1]; exact st0.rd 2
        rw [hhv, hs1] at HW1
        obtain ⟨sz, hsz⟩ : ∃ sz, rdV 1 s1 = sz := ⟨_, rfl⟩
        obtain ⟨s2, hs2⟩ : ∃ s2, rdS 1 s1 = s2 := ⟨_, rfl⟩
        have st2 : StB s2 := by rw [← hs2]; exact st1.rd 1
        have HH := hideIt (And.intro hhv (And.intro hs1 (And.intro hsz hs2)))
        have HST := hideIt st2
        clear hhv hs1 st0 st1 st2
        go_wp2_with fail
        refine HW1.out.mono ?_
        clear HW1
        rintro e w3 ⟨rfl, r3, b3⟩
        have hw3 := b3.size
        obtain ⟨own, row4, al4, bw, hgo, hby⟩ := HZ.out
        have ownE : ∀ W', But (fun k => k = gr ∨ k = g ∨ k = w3.heap.size) wo W' → W'.ownsRow W.heap.size 46 3 (.slice a4 j c4) j (cells3 (dn.map Bi.t3)) := fun W' t => own_but own t (fun k hk t => by have := (own.lt k hk); have := HL.out; rcases t with t | t | t <;> omega)
        obtain ⟨w4, hw4⟩ : ∃ w4, w3.alloc (.cells #[.int .i64 hv, .bool false, .int .u32 0] 46) = w4 := ⟨_, rfl⟩
        have a4' : After w3 w4 := by rw [← hw4]; exact After.rfl.alloc _
        have bx : w4.heap[w3.heap.size]? = some (.cells #[.int .i64 hv, .bool false, .int .u32 0] 46 (0, 0)) := by rw [← hw4]; exact new1 _ _
        have HOE := hideIt ownE
        have HW4 := hideIt hw4
        have HGXS := hideIt (show W.heap.size ≤ w3.heap.size by omega)
        have hlt3 : gr < w3.heap.size ∧ g < w3.heap.size ∧ h < w3.heap.size ∧ gr < W.heap.size ∧ g < W.heap.size ∧ h < W.heap.size ∧ wo.heap.size ≤ w3.heap.size ∧ W.heap.size ≤ wo.heap.size := by have := HL.out; omega
        have HNE := hideIt hlt3
        have H8 := hideIt (byte_r w4 gr g h s1 (r3.after a4'))
        rw [hsz, hs2] at H8
        have HK4 := hideIt (And.intro bx ((b3.mono (T := (fun k => k = gr ∨ k = g ∨ k = w3.heap.size)) (fun i _ t => t.elim .inl (fun t => .inr (.inl t)))).trans a4'.but))
        clear own row4 al4 bw hgo hby ownE a4' bx hw4 r3 b3 c0 c1 hlt3 hsz hs2
        generalize hgx : w3.heap.size = gx at HK4 HOE HNE HGXS hw3 ⊢
        have HGX := hideIt hgx
        clear hgx
        go_wp2_with fail
        rw [HW4.out]
        refine H8.out.mono ?_
        clear H8
        rintro e w5 ⟨rfl, r5, b5⟩
        rw [HGX.out]
        have n5 : ¬ Two gr g gx := fun e => by have := HNE.out; rcases e with e | e <;> omega
        have k5 := (b5.block gx (Array.getElem?_eq_some_iff.1 HK4.out.1).1 n5).trans HK4.out.1
        have HK5 := hideIt (And.intro k5 (HK4.out.2.trans (b5.mono (fun i _ t => t.elim .inl (fun t => .inr (.inl t))))))
        have HR5 := hideIt r5
        clear r5 b5 n5 k5 HK4 HGX HW4
        by_cases h4 : sz = 4
        · have hq2 : (sz != 2) = true := by rw [h4]; rfl
          have hq4 : (sz != 4) = false := by rw [h4]; rfl
          have hq5 : (sz == 4) = true := by rw [h4]; rfl
          have hdec : decide (sz ≠ 2 ∧ sz ≠ 4) = false := decide_eq_false (fun h => h.2 h4)
          obtain ⟨s3, hs3⟩ : ∃ s3, badS false 4 s2 = s3 := ⟨_, rfl⟩
          have st3 : StB s3 := by rw [← hs3]; exact HST.out.bad false 4
          have HB6 := hideIt (bad_r w5 gr g h s2 HR5.out false 4 (by decide))
          rw [hs3] at HB6
          have HDEC := hideIt hdec
          have HS3 := hideIt (And.intro hs3 st3)
          have HQ := hideIt h4
          clear hdec hs3 st3 h4
          go_wp2_with fail
          refine HB6.out.mono ?_
          clear HB6
          rintro e w6 ⟨rfl, r6, b6⟩
          have n6 : ¬ One gr gx := fun e => by have := HNE.out; have e' : gx = gr := e; omega
          have k6 := (b6.block gx (Array.getElem?_eq_some_iff.1 HK5.out.1).1 n6).trans HK5.out.1
          obtain ⟨_, x0, x1, x2, xf0, xf1, xf2⟩ := three_at k6
          have bs6 : But (One gx) w6 (w6.setCell ⟨gx, 1, none⟩ (.bool true)) := But.own1 _ _ _ _
          have r6' := r6.but bs6 (fun e => by have := HNE.out; have e' : gr = gx := e; omega) (fun e => by have := HNE.out; have e' : g = gx := e; omega) (fun e => by have := HNE.out; have e' : h = gx := e; omega)
          have HK6 := hideIt (And.intro (three_set1 k6 (.bool true)) ((HK5.out.2.trans (b6.mono (fun i _ t => .inl t))).trans (bs6.mono (fun i _ t => .inr (.inr t)))))
          obtain ⟨hi, hhi⟩ : ∃ hi, rdV 2 s3 = hi := ⟨_, rfl⟩
          obtain ⟨s4, hs4⟩ : ∃ s4, rdS 2 s3 = s4 := ⟨_, rfl⟩
          have hib := rdV_two HS3.out.2
          rw [hhi] at hib
          have st4 : StB s4 := by rw [← hs4]; exact HS3.out.2.rd 2
          have HW7 := hideIt (word_r _ gr g h s3 r6')
          rw [hhi, hs4] at HW7
          have HH4 := hideIt (And.intro hhi (And.intro hs4 st4))
          have hi0 := hib.1
          have hi1 := hib.2
          clear r6 b6 n6 k6 bs6 r6' HK5 HR5 hhi hs4 st4 hib
          go_wp2_with fail
          refine HW7.out.mono ?_
          clear HW7
          rintro e w7 ⟨rfl, r7, b7⟩
          have n7 : ¬ Two gr g gx := fun e => by have := HNE.out; rcases e with e | e <;> omega
          have k7 := (b7.block gx (Array.getElem?_eq_some_iff.1 HK6.out.1).1 n7).trans HK6.out.1
          have HK7 := hideIt (And.intro k7 (HK6.out.2.trans (b7.mono (fun i _ t => t.elim .inl (fun t => .inr (.inl t))))))
          clear b7 n7 k7 HK6 x0 x1 x2 xf0 xf1 xf2
          obtain ⟨lo, hlo⟩ : ∃ lo, rdV 2 s4 = lo := ⟨_, rfl⟩
          obtain ⟨s5, hs5⟩ : ∃ s5, rdS 2 s4 = s5 := ⟨_, rfl⟩
          have hlb := rdV_two HH4.out.2.2
          rw [hlo] at hlb
          have HW8 := hideIt (word_r _ gr g h s4 r7)
          rw [hlo, hs5] at HW8
          have HH5 := hideIt (And.intro hlo hs5)
          have lo0 := hlb.1
          have lo1 := hlb.2
          clear r7 hlo hs5 hlb
          go_wp2_with fail
          refine HW8.out.mono ?_
          clear HW8
          rintro e w8 ⟨rfl, r8, b8⟩
          have n8 : ¬ Two gr g gx := fun e => by have := HNE.out; rcases e with e | e <;> omega
          have k8 := (b8.block gx (Array.getElem?_eq_some_iff.1 HK7.out.1).1 n8).trans HK7.out.1
          obtain ⟨_, x0, x1, x2, xf0, xf1, xf2⟩ := three_at k8
          have bs9 : But (One gx) w8 (w8.setCell ⟨gx, 2, none⟩ (.int .u32 (hi * 65536 + lo))) := But.own1 _ _ _ _
          have r9' := r8.but bs9 (fun e => by have := HNE.out; have e' : gr = gx := e; omega) (fun e => by have := HNE.out; have e' : g = gx := e; omega) (fun e => by have := HNE.out; have e' : h = gx := e; omega)
          have al9 : After (w8.setCell ⟨gx, 2, none⟩ (.int .u32 (hi * 65536 + lo))) ((w8.setCell ⟨gx, 2, none⟩ (.int .u32 (hi * 65536 + lo))).alloc (.cells #[.int .i64 hv, .bool true, .int .u32 (hi * 65536 + lo)] 46)) := After.rfl.alloc _
          have t9 := ((HK7.out.2.trans (b8.mono (fun i _ t => t.elim .inl (fun t => .inr (.inl t))))).trans (bs9.mono (fun i _ t => .inr (.inr t)))).trans al9.but
          have OW9 := hideIt (HOE.out _ t9)
          have HS9 := hideIt (And.intro (r9'.after al9) t9)
          have NW9 := hideIt (show ∀ jj u, [Value.int .i64 hv, Value.bool true, Value.int .u32 (hi * 65536 + lo)][jj]? = some u → ((w8.setCell ⟨gx, 2, none⟩ (.int .u32 (hi * 65536 + lo))).alloc (.cells #[.int .i64 hv, .bool true, .int .u32 (hi * 65536 + lo)] 46)).cell? ((⟨w8.heap.size, 0, none⟩ : Addr).add jj) = some u from fun jj u hu => by
            have hnb := new1 (w8.setCell ⟨gx, 2, none⟩ (.int .u32 (hi * 65536 + lo))) (.cells #[.int .i64 hv, .bool true, .int .u32 (hi * 65536 + lo)] 46)
            rw [World.size_setCell] at hnb
            rw [add_off, Nat.zero_add]
            rw [cell_blk (A := [Value.int .i64 hv, Value.bool true, Value.int .u32 (hi * 65536 + lo)]) hnb]
            exact hu)
          obtain ⟨i0, hi', hz0, hz1, hz2⟩ := info_parts Try.info46
          have HSZ := hideIt (show W.heap.size ≤ ((w8.setCell ⟨gx, 2, none⟩ (.int .u32 (hi * 65536 + lo))).alloc (.cells #[.int .i64 hv, .bool true, .int .u32 (hi * 65536 + lo)] 46)).heap.size from by have := t9.size; have := HNE.out; omega)
          have HJM := hideIt (show j ≤ 64 from by have := HN64.out; omega)
          clear r8 b8 n8 k8 bs9 r9' al9 t9 HK7
          go_wp2_with (at_builtin; refine wpList_append_own _ rfl (.tmp 55) (.tmp 57) 24 rfl W.heap.size 46 i0 (.agg #[.int .i64 0, .bool false, .int .u32 0]) 3 16 Try.underlying24 hi' hz0 hz1 hz2 rfl (by decide) (.slice a4 j c4) j (cells3 (dn.map Bi.t3)) rfl OW9.out ⟨w8.heap.size, 0, none⟩ 1 1 [.int .i64 hv, .bool true, .int .u32 (hi * 65536 + lo)] rfl rfl NW9.out (fun u hu => by simp at hu; rcases hu with rfl | rfl | rfl <;> rfl) (by have := HJM.out; unfold maxLen; omega) (by have := HJM.out; omega) HSZ.out ?_; intro v10 w10 hown hgrow _; have OW10 := hideIt hown; have GR10 := hideIt (show But (fun k => (Value.slice a4 j c4).ownBlock = some k) _ w10 from But.grown But.rfl hgrow (fun k hk _ => hk)); clear hown hgrow)
          go_roundw
          case rel =>
            obtain ⟨own, row4, al4, bw, hgo, hby⟩ := HZ.out
            obtain ⟨hhv, hs1, hsz, hs2⟩ := HH.out
            have hs3 := HS3.out.1
            have hdl := HDL.out
            have hdr := HDR.out
            have hne := HNE.out
            obtain ⟨o0, rt, hrl⟩ : ∃ o0 rt, rl = o0 :: rt := by
              cases rl with
              | nil => simp at hdr; omega
              | cons o0 rt => exact ⟨o0, rt, rfl⟩
            have hone := obsR_one o0 ys
            have hobj : obsR (.ok ys) = (⟨hv, true, (hi * 65536 + lo)⟩, s5) := by
              unfold obsR
              rw [hhv, hs1, hsz, hs2, if_pos HQ.out, HDEC.out, hs3, HH4.out.1, HH4.out.2.1, HH5.out.1, HH5.out.2]
            rw [hobj] at hone
            refine ⟨dn ++ [⟨hv, true, (hi * 65536 + lo)⟩], rt, s5, ?_, ?_, ?_, ?_, ?_, ?_⟩
            · rw [List.length_append, hdl]
              show _ = Value.int .i64 ((j + 1 : Nat) : Int)
              go_num
            · rw [hrl] at hdr
              simp only [List.length_append, List.length_cons, List.length_nil] at hdr ⊢
              omega
            · rw [List.length_append, hdl, List.map_append, cells3_append]
              exact OW10.out
            · exact HS9.out.1.but GR10.out (fun e => by have := (OW9.out.lt _ e).1; omega) (fun e => by have := (OW9.out.lt _ e).1; omega) (fun e => by have := (OW9.out.lt _ e).1; omega)
            · exact (bw.then HS9.out.2 (fun i hi t => by rcases t with t | t | t; exact .inl t; exact .inr t; omega)).then GR10.out (fun i hi t => by have := (OW9.out.lt _ t).1; omega)
            · rw [hrl] at hgo
              unfold obsL at hgo
              rcases hone.split with ⟨c, e1, e2⟩ | ⟨x', us, e1, e2⟩
              · right
                refine ⟨c, e2, ?_⟩
                rw [hgo, thn_bad e1]
                rfl
              · left
                injection e2 with e2 e3
                subst e2
                refine ⟨us, e3, ?_, ?_⟩
                · obtain ⟨_, bs, hz, _⟩ := obs1_dual.once hby e1
                  rw [hz] at hby
                  exact hby.right
                · rw [hgo, thn_ok e1]
                  show thn (thn (obsL false rt us) fun l zs => Except.ok (_ :: l, zs)) _ = thn (obsL false rt us) _
                  cases obsL false rt us with
                  | error c => rfl
                  | ok x =>
                    obtain ⟨l, zs⟩ := x
                    show Except.ok (dn ++ (_ :: l), zs) = Except.ok ((dn ++ [_]) ++ l, zs)
                    rw [List.append_assoc]
                    rfl
          case measure => simp [intOf]; omega
        · by_cases h2 : sz = 2
          · have hq2 : (sz != 2) = false := by rw [h2]; rfl
            have hq5 : (sz == 4) = false := by rw [h2]; rfl
            have hdec : decide (sz ≠ 2 ∧ sz ≠ 4) = false := decide_eq_false (fun h => h.1 h2)
            obtain ⟨s3, hs3⟩ : ∃ s3, badS false 4 s2 = s3 := ⟨_, rfl⟩
            have st3 : StB s3 := by rw [← hs3]; exact HST.out.bad false 4
            have HB6 := hideIt (bad_r w5 gr g h s2 HR5.out false 4 (by decide))
            rw [hs3] at HB6
            have HDEC := hideIt hdec
            have HS3 := hideIt (And.intro hs3 st3)
            have HQ := hideIt h4
            clear hdec hs3 st3 h4 h2
            go_wp2_with fail
            refine HB6.out.mono ?_
            clear HB6
            rintro e w6 ⟨rfl, r6, b6⟩
            have n6 : ¬ One gr gx := fun e => by have := HNE.out; have e' : gx = gr := e; omega
            have k6 := (b6.block gx (Array.getElem?_eq_some_iff.1 HK5.out.1).1 n6).trans HK5.out.1
            obtain ⟨_, x0, x1, x2, xf0, xf1, xf2⟩ := three_at k6
            have bs6 : But (One gx) w6 (w6.setCell ⟨gx, 1, none⟩ (.bool false)) := But.own1 _ _ _ _
            have r6' := r6.but bs6 (fun e => by have := HNE.out; have e' : gr = gx := e; omega) (fun e => by have := HNE.out; have e' : g = gx := e; omega) (fun e => by have := HNE.out; have e' : h = gx := e; omega)
            have HK6 := hideIt (And.intro (three_set1 k6 (.bool false)) ((HK5.out.2.trans (b6.mono (fun i _ t => .inl t))).trans (bs6.mono (fun i _ t => .inr (.inr t)))))
            have HK7 := HK6
            have r7 := r6'
            clear r6 b6 n6 k6 bs6 r6' HK5 HR5 HK6
            obtain ⟨lo, hlo⟩ : ∃ lo, rdV 2 s3 = lo := ⟨_, rfl⟩
            obtain ⟨s5, hs5⟩ : ∃ s5, rdS 2 s3 = s5 := ⟨_, rfl⟩
            have hlb := rdV_two HS3.out.2
            rw [hlo] at hlb
            have HW8 := hideIt (word_r _ gr g h s3 r7)
            rw [hlo, hs5] at HW8
            have HH5 := hideIt (And.intro hlo hs5)
            have lo0 := hlb.1
            have lo1 := hlb.2
            clear r7 hlo hs5 hlb
            go_wp2_with fail
            refine HW8.out.mono ?_
            clear HW8
            rintro e w8 ⟨rfl, r8, b8⟩
            have n8 : ¬ Two gr g gx := fun e => by have := HNE.out; rcases e with e | e <;> omega
            have k8 := (b8.block gx (Array.getElem?_eq_some_iff.1 HK7.out.1).1 n8).trans HK7.out.1
            obtain ⟨_, x0, x1, x2, xf0, xf1, xf2⟩ := three_at k8
            have bs9 : But (One gx) w8 (w8.setCell ⟨gx, 2, none⟩ (.int .u32 lo)) := But.own1 _ _ _ _
            have r9' := r8.but bs9 (fun e => by have := HNE.out; have e' : gr = gx := e; omega) (fun e => by have := HNE.out; have e' : g = gx := e; omega) (fun e => by have := HNE.out; have e' : h = gx := e; omega)
            have al9 : After (w8.setCell ⟨gx, 2, none⟩ (.int .u32 lo)) ((w8.setCell ⟨gx, 2, none⟩ (.int .u32 lo)).alloc (.cells #[.int .i64 hv, .bool false, .int .u32 lo] 46)) := After.rfl.alloc _
            have t9 := ((HK7.out.2.trans (b8.mono (fun i _ t => t.elim .inl (fun t => .inr (.inl t))))).trans (bs9.mono (fun i _ t => .inr (.inr t)))).trans al9.but
            have OW9 := hideIt (HOE.out _ t9)
            have HS9 := hideIt (And.intro (r9'.after al9) t9)
            have NW9 := hideIt (show ∀ jj u, [Value.int .i64 hv, Value.bool false, Value.int .u32 lo][jj]? = some u → ((w8.setCell ⟨gx, 2, none⟩ (.int .u32 lo)).alloc (.cells #[.int .i64 hv, .bool false, .int .u32 lo] 46)).cell? ((⟨w8.heap.size, 0, none⟩ : Addr).add jj) = some u from fun jj u hu => by
              have hnb := new1 (w8.setCell ⟨gx, 2, none⟩ (.int .u32 lo)) (.cells #[.int .i64 hv, .bool false, .int .u32 lo] 46)
              rw [World.size_setCell] at hnb
              rw [add_off, Nat.zero_add]
              rw [cell_blk (A := [Value.int .i64 hv, Value.bool false, Value.int .u32 lo]) hnb]
              exact hu)
            obtain ⟨i0, hi', hz0, hz1, hz2⟩ := info_parts Try.info46
            have HSZ := hideIt (show W.heap.size ≤ ((w8.setCell ⟨gx, 2, none⟩ (.int .u32 lo)).alloc (.cells #[.int .i64 hv, .bool false, .int .u32 lo] 46)).heap.size from by have := t9.size; have := HNE.out; omega)
            have HJM := hideIt (show j ≤ 64 from by have := HN64.out; omega)
            clear r8 b8 n8 k8 bs9 r9' al9 t9 HK7
            go_wp2_with (at_builtin; refine wpList_append_own _ rfl (.tmp 55) (.tmp 57) 24 rfl W.heap.size 46 i0 (.agg #[.int .i64 0, .bool false, .int .u32 0]) 3 16 Try.underlying24 hi' hz0 hz1 hz2 rfl (by decide) (.slice a4 j c4) j (cells3 (dn.map Bi.t3)) rfl OW9.out ⟨w8.heap.size, 0, none⟩ 1 1 [.int .i64 hv, .bool false, .int .u32 lo] rfl rfl NW9.out (fun u hu => by simp at hu; rcases hu with rfl | rfl | rfl <;> rfl) (by have := HJM.out; unfold maxLen; omega) (by have := HJM.out; omega) HSZ.out ?_; intro v10 w10 hown hgrow _; have OW10 := hideIt hown; have GR10 := hideIt (show But (fun k => (Value.slice a4 j c4).ownBlock = some k) _ w10 from But.grown But.rfl hgrow (fun k hk _ => hk)); clear hown hgrow)
            go_roundw
            case rel =>
              obtain ⟨own, row4, al4, bw, hgo, hby⟩ := HZ.out
              obtain ⟨hhv, hs1, hsz, hs2⟩ := HH.out
              have hs3 := HS3.out.1
              have hdl := HDL.out
              have hdr := HDR.out
              have hne := HNE.out
              obtain ⟨o0, rt, hrl⟩ : ∃ o0 rt, rl = o0 :: rt := by
                cases rl with
                | nil => simp at hdr; omega
                | cons o0 rt => exact ⟨o0, rt, rfl⟩
              have hone := obsR_one o0 ys
              have hobj : obsR (.ok ys) = (⟨hv, false, lo⟩, s5) := by
                unfold obsR
                rw [hhv, hs1, hsz, hs2, if_neg HQ.out, HDEC.out, hs3, HH5.out.1, HH5.out.2]
              rw [hobj] at hone
              refine ⟨dn ++ [⟨hv, false, lo⟩], rt, s5, ?_, ?_, ?_, ?_, ?_, ?_⟩
              · rw [List.length_append, hdl]
                show _ = Value.int .i64 ((j + 1 : Nat) : Int)
                go_num
              · rw [hrl] at hdr
                simp only [List.length_append, List.length_cons, List.length_nil] at hdr ⊢
                omega
              · rw [List.length_append, hdl, List.map_append, cells3_append]
                exact OW10.out
              · exact HS9.out.1.but GR10.out (fun e => by have := (OW9.out.lt _ e).1; omega) (fun e => by have := (OW9.out.lt _ e).1; omega) (fun e => by have := (OW9.out.lt _ e).1; omega)
              · exact (bw.then HS9.out.2 (fun i hi t => by rcases t with t | t | t; exact .inl t; exact .inr t; omega)).then GR10.out (fun i hi t => by have := (OW9.out.lt _ t).1; omega)
              · rw [hrl] at hgo
                unfold obsL at hgo
                rcases hone.split with ⟨c, e1, e2⟩ | ⟨x', us, e1, e2⟩
                · right
                  refine ⟨c, e2, ?_⟩
                  rw [hgo, thn_bad e1]
                  rfl
                · left
                  injection e2 with e2 e3
                  subst e2
                  refine ⟨us, e3, ?_, ?_⟩
                  · obtain ⟨_, bs, hz, _⟩ := obs1_dual.once hby e1
                    rw [hz] at hby
                    exact hby.right
                  · rw [hgo, thn_ok e1]
                    show thn (thn (obsL false rt us) fun l zs => Except.ok (_ :: l, zs)) _ = thn (obsL false rt us) _
                    cases obsL false rt us with
                    | error c => rfl
                    | ok x =>
                      obtain ⟨l, zs⟩ := x
                      show Except.ok (dn ++ (_ :: l), zs) = Except.ok ((dn ++ [_]) ++ l, zs)
                      rw [List.append_assoc]
                      rfl
            case measure => simp [intOf]; omega
          · have hq2 : (sz != 2) = true := by simpa using h2
            have hq4 : (sz != 4) = true := by simpa using h4
            have hq5 : (sz == 4) = false := by simpa using h4
            have hdec : decide (sz ≠ 2 ∧ sz ≠ 4) = true := decide_eq_true ⟨h2, h4⟩
            obtain ⟨s3, hs3⟩ : ∃ s3, badS true 4 s2 = s3 := ⟨_, rfl⟩
            have st3 : StB s3 := by rw [← hs3]; exact HST.out.bad true 4
            have HB6 := hideIt (bad_r w5 gr g h s2 HR5.out true 4 (by decide))
            rw [hs3] at HB6
            have HDEC := hideIt hdec
            have HS3 := hideIt (And.intro hs3 st3)
            have HQ := hideIt h4
            clear hdec hs3 st3 h4 h2
            go_wp2_with fail
            refine HB6.out.mono ?_
            clear HB6
            rintro e w6 ⟨rfl, r6, b6⟩
            have n6 : ¬ One gr gx := fun e => by have := HNE.out; have e' : gx = gr := e; omega
            have k6 := (b6.block gx (Array.getElem?_eq_some_iff.1 HK5.out.1).1 n6).trans HK5.out.1
            obtain ⟨_, x0, x1, x2, xf0, xf1, xf2⟩ := three_at k6
            have bs6 : But (One gx) w6 (w6.setCell ⟨gx, 1, none⟩ (.bool false)) := But.own1 _ _ _ _
            have r6' := r6.but bs6 (fun e => by have := HNE.out; have e' : gr = gx := e; omega) (fun e => by have := HNE.out; have e' : g = gx := e; omega) (fun e => by have := HNE.out; have e' : h = gx := e; omega)
            have HK6 := hideIt (And.intro (three_set1 k6 (.bool false)) ((HK5.out.2.trans (b6.mono (fun i _ t => .inl t))).trans (bs6.mono (fun i _ t => .inr (.inr t)))))
            have HK7 := HK6
            have r7 := r6'
            clear r6 b6 n6 k6 bs6 r6' HK5 HR5 HK6
            obtain ⟨lo, hlo⟩ : ∃ lo, rdV 2 s3 = lo := ⟨_, rfl⟩
            obtain ⟨s5, hs5⟩ : ∃ s5, rdS 2 s3 = s5 := ⟨_, rfl⟩
            have hlb := rdV_two HS3.out.2
            rw [hlo] at hlb
            have HW8 := hideIt (word_r _ gr g h s3 r7)
            rw [hlo, hs5] at HW8
            have HH5 := hideIt (And.intro hlo hs5)
            have lo0 := hlb.1
            have lo1 := hlb.2
            clear r7 hlo hs5 hlb
            go_wp2_with fail
            refine HW8.out.mono ?_
            clear HW8
            rintro e w8 ⟨rfl, r8, b8⟩
            have n8 : ¬ Two gr g gx := fun e => by have := HNE.out; rcases e with e | e <;> omega
            have k8 := (b8.block gx (Array.getElem?_eq_some_iff.1 HK7.out.1).1 n8).trans HK7.out.1
            obtain ⟨_, x0, x1, x2, xf0, xf1, xf2⟩ := three_at k8
            have bs9 : But (One gx) w8 (w8.setCell ⟨gx, 2, none⟩ (.int .u32 lo)) := But.own1 _ _ _ _
            have r9' := r8.but bs9 (fun e => by have := HNE.out; have e' : gr = gx := e; omega) (fun e => by have := HNE.out; have e' : g = gx := e; omega) (fun e => by have := HNE.out; have e' : h = gx := e; omega)
            have al9 : After (w8.setCell ⟨gx, 2, none⟩ (.int .u32 lo)) ((w8.setCell ⟨gx, 2, none⟩ (.int .u32 lo)).alloc (.cells #[.int .i64 hv, .bool false, .int .u32 lo] 46)) := After.rfl.alloc _
            have t9 := ((HK7.out.2.trans (b8.mono (fun i _ t => t.elim .inl (fun t => .inr (.inl t))))).trans (bs9.mono (fun i _ t => .inr (.inr t)))).trans al9.but
            have OW9 := hideIt (HOE.out _ t9)
            have HS9 := hideIt (And.intro (r9'.after al9) t9)
            have NW9 := hideIt (show ∀ jj u, [Value.int .i64 hv, Value.bool false, Value.int .u32 lo][jj]? = some u → ((w8.setCell ⟨gx, 2, none⟩ (.int .u32 lo)).alloc (.cells #[.int .i64 hv, .bool false, .int .u32 lo] 46)).cell? ((⟨w8.heap.size, 0, none⟩ : Addr).add jj) = some u from fun jj u hu => by
              have hnb := new1 (w8.setCell ⟨gx, 2, none⟩ (.int .u32 lo)) (.cells #[.int .i64 hv, .bool false, .int .u32 lo] 46)
              rw [World.size_setCell] at hnb
              rw [add_off, Nat.zero_add]
              rw [cell_blk (A := [Value.int .i64 hv, Value.bool false, Value.int .u32 lo]) hnb]
              exact hu)
            obtain ⟨i0, hi', hz0, hz1, hz2⟩ := info_parts Try.info46
            have HSZ := hideIt (show W.heap.size ≤ ((w8.setCell ⟨gx, 2, none⟩ (.int .u32 lo)).alloc (.cells #[.int .i64 hv, .bool false, .int .u32 lo] 46)).heap.size from by have := t9.size; have := HNE.out; omega)
            have HJM := hideIt (show j ≤ 64 from by have := HN64.out; omega)
            clear r8 b8 n8 k8 bs9 r9' al9 t9 HK7
            go_wp2_with (at_builtin; refine wpList_append_own _ rfl (.tmp 55) (.tmp 57) 24 rfl W.heap.size 46 i0 (.agg #[.int .i64 0, .bool false, .int .u32 0]) 3 16 Try.underlying24 hi' hz0 hz1 hz2 rfl (by decide) (.slice a4 j c4) j (cells3 (dn.map Bi.t3)) rfl OW9.out ⟨w8.heap.size, 0, none⟩ 1 1 [.int .i64 hv, .bool false, .int .u32 lo] rfl rfl NW9.out (fun u hu => by simp at hu; rcases hu with rfl | rfl | rfl <;> rfl) (by have := HJM.out; unfold maxLen; omega) (by have := HJM.out; omega) HSZ.out ?_; intro v10 w10 hown hgrow _; have OW10 := hideIt hown; have GR10 := hideIt (show But (fun k => (Value.slice a4 j c4).ownBlock = some k) _ w10 from But.grown But.rfl hgrow (fun k hk _ => hk)); clear hown hgrow)
            go_roundw
            case rel =>
              obtain ⟨own, row4, al4, bw, hgo, hby⟩ := HZ.out
              obtain ⟨hhv, hs1, hsz, hs2⟩ := HH.out
              have hs3 := HS3.out.1
              have hdl := HDL.out
              have hdr := HDR.out
              have hne := HNE.out
              obtain ⟨o0, rt, hrl⟩ : ∃ o0 rt, rl = o0 :: rt := by
                cases rl with
                | nil => simp at hdr; omega
                | cons o0 rt => exact ⟨o0, rt, rfl⟩
              have hone := obsR_one o0 ys
              have hobj : obsR (.ok ys) = (⟨hv, false, lo⟩, s5) := by
                unfold obsR
                rw [hhv, hs1, hsz, hs2, if_neg HQ.out, HDEC.out, hs3, HH5.out.1, HH5.out.2]
              rw [hobj] at hone
              refine ⟨dn ++ [⟨hv, false, lo⟩], rt, s5, ?_, ?_, ?_, ?_, ?_, ?_⟩
              · rw [List.length_append, hdl]
                show _ = Value.int .i64 ((j + 1 : Nat) : Int)
                go_num
              · rw [hrl] at hdr
                simp only [List.length_append, List.length_cons, List.length_nil] at hdr ⊢
                omega
              · rw [List.length_append, hdl, List.map_append, cells3_append]
                exact OW10.out
              · exact HS9.out.1.but GR10.out (fun e => by have := (OW9.out.lt _ e).1; omega) (fun e => by have := (OW9.out.lt _ e).1; omega) (fun e => by have := (OW9.out.lt _ e).1; omega)
              · exact (bw.then HS9.out.2 (fun i hi t => by rcases t with t | t | t; exact .inl t; exact .inr t; omega)).then GR10.out (fun i hi t => by have := (OW9.out.lt _ t).1; omega)
              · rw [hrl] at hgo
                unfold obsL at hgo
                rcases hone.split with ⟨c, e1, e2⟩ | ⟨x', us, e1, e2⟩
                · right
                  refine ⟨c, e2, ?_⟩
                  rw [hgo, thn_bad e1]
                  rfl
                · left
                  injection e2 with e2 e3
                  subst e2
                  refine ⟨us, e3, ?_, ?_⟩
                  · obtain ⟨_, bs, hz, _⟩ := obs1_dual.once hby e1
                    rw [hz] at hby
                    exact hby.right
                  · rw [hgo, thn_ok e1]
                    show thn (thn (obsL false rt us) fun l zs => Except.ok (_ :: l, zs)) _ = thn (obsL false rt us) _
                    cases obsL false rt us with
                    | error c => rfl
                    | ok x =>
                      obtain ⟨l, zs⟩ := x
                      show Except.ok (dn ++ (_ :: l), zs) = Except.ok ((dn ++ [_]) ++ l, zs)
                      rw [List.append_assoc]
                      rfl
            case measure => simp [intOf]; omega
end Go.Proofs.Ytigiakhdaaoljaa
