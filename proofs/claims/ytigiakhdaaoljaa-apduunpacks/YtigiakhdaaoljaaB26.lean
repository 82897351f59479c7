/-
  Laid together: RefAsk, RefOpen, RefUnp.
-/
import Derived.Test.YtigiakhdaaoljaaB25
import Derived.Test.YtigiakhdaaoljaaB23
import Derived.Test.YtigiakhdaaoljaaB15
/-
  The document's read, of ApduAsk; and of all kinds.
-/
namespace Go.Proofs.Ytigiakhdaaoljaa
open Go.RowKit
set_option maxRecDepth 8000
set_option maxHeartbeats 600000 in
theorem read_57856 (w : World) (a : Option Addr) (n c : Nat) (zs : List Int) (hr : Row w a n zs) (ha : a = none → n = 0 ∧ c = 0) (hn : n ≤ 140737488355328) :
    Calls Try.prog 37 #[.int .i64 57856, .slice a n c] w fun e w' => OutR w w' e (readF 57856 zs) := by
  obtain ⟨w0, hw0⟩ : ∃ w0, (w.alloc (.cells #[.int .i64 0, .slice none 0 0, .int .i64 0, .int .i64 0, .int .i64 0, .slice none 0 0, .slice none 0 0] 26)).alloc (.cells #[.int .i64 57856, .slice none 0 0, .int .i64 0, .int .i64 0, .int .i64 0, .slice none 0 0, .slice none 0 0] 26) = w0 := ⟨_, rfl⟩
  have hA : After w w0 := by rw [← hw0]; exact (After.rfl.alloc _).alloc _
  obtain ⟨b0, b1⟩ := new2 w (.cells #[.int .i64 0, .slice none 0 0, .int .i64 0, .int .i64 0, .int .i64 0, .slice none 0 0, .slice none 0 0] 26) (.cells #[.int .i64 57856, .slice none 0 0, .int .i64 0, .int .i64 0, .int .i64 0, .slice none 0 0, .slice none 0 0] 26)
  rw [hw0] at b0 b1
  have hsz : w0.heap.size = w.heap.size + 2 := by rw [← hw0, World.size_alloc, World.size_alloc]
  have H1 := hideIt (refNew_any a n c zs w0 (hr.after hA) ha hn)
  have HX := hideIt (And.intro hA (And.intro b0 (And.intro b1 hsz)))
  have HW := hideIt hw0
  have HB := hideIt hr.2.1
  clear hA b0 b1 hsz hw0 hr ha hn
  go_enter Try.func37, Try.ntmps37
  go_wp2_with fail
  rw [HW.out]
  refine H1.out.mono ?_
  clear H1 HW
  rintro e w1 ⟨g, h, rfl, r1, hg, hh, a1⟩
  obtain ⟨hA, b0, b1, hsz⟩ := HX.out
  have ax : After w1 (w1.alloc (.cells #[Ptr g, .int .i64 0] 91)) := After.rfl.alloc _
  have hrl := (show g < w1.heap.size ∧ h < w1.heap.size from by
    refine ⟨r1.lt, ?_⟩
    obtain ⟨a', n', c', k', fs, ⟨h1, _, _, _, _, h5⟩, _⟩ := r1
    rcases h5 with ⟨_, _, _, rfl⟩ | ⟨off, _, _, hl⟩
    · exact (two_at h1).1
    · exact hl)
  have rc : RdC w (w1.alloc (.cells #[Ptr g, .int .i64 0] 91)) w1.heap.size g h (.ok zs) #[.int .i64 57856, .slice none 0 0, .int .i64 0, .int .i64 0, .int .i64 0, .slice none 0 0, .slice none 0 0] :=
    ⟨⟨by omega, by omega, zs, 0, new1 _ _, r1.after ax, .inl ⟨rfl, rfl⟩⟩, hA.trans (a1.trans ax), keep2 b0 (a1.trans ax), keep2 b1 (a1.trans ax), by have := a1.size; omega⟩
  have HR := hideIt rc
  obtain ⟨w2, hw2⟩ : ∃ w2, w1.alloc (.cells #[Ptr g, .int .i64 0] 91) = w2 := ⟨_, rfl⟩
  rw [hw2] at HR
  have HW2 := hideIt hw2
  clear hA b0 b1 hsz ax rc HX r1 hg hh a1 hrl hw2
  obtain ⟨gr, hgr⟩ : ∃ gr, w1.heap.size = gr := ⟨_, rfl⟩
  rw [hgr] at HR
  have HGR := hideIt hgr
  clear hgr
  obtain ⟨_, m0, m1, mf0, mf1⟩ := two_at HR.out.rs.fine
  have hE := sys_word zs (Msg.zero 0).sys (Msg.zero 0).config (fun s c => ⟨57856, s, c, 0, 0, [], []⟩)
  rw [← ff_57856 (Msg.zero 0) zs] at hE
  have HE := hideIt hE
  clear hE
  obtain ⟨n8, hn8⟩ : ∃ n8, (ocVal zs).length = n8 := ⟨_, rfl⟩
  obtain ⟨er, her⟩ : ∃ er, ocErr zs = er := ⟨_, rfl⟩
  have HO := hideIt (refOctets_any w2 g h zs (by
    obtain ⟨_, _, zs', e, hb, hr, hs⟩ := HR.out.rs
    rcases hs with ⟨hs, _⟩ | ⟨c', hs, _⟩
    · cases hs; exact hr
    · cases hs))
  rw [hn8, her] at HO
  have HN8 := hideIt (And.intro hn8 her)
  clear hn8 her
  go_wp2_with fail
  rw [HGR.out, HW2.out]
  refine HO.out.mono ?_
  clear HO
  rintro e w3 ⟨v, rfl, o3, r3, b3⟩
  obtain ⟨va, vc, rfl⟩ := own_slice o3
  have hstep := oc_step HR.out.rs.1 HR.out.rs.2.1 HR.out.rs.fine r3 b3
  rw [HN8.out.2] at hstep
  have k3 : w3.heap[gr]? = some (.cells #[Ptr g, .int .i64 0] 91 (0, 0)) := (b3.block gr (two_at HR.out.rs.fine).1 (fun e => HR.out.rs.1 e)).trans HR.out.rs.fine
  clear m0 m1 mf0 mf1
  obtain ⟨_, m0, m1, mf0, mf1⟩ := two_at k3
  have rc4 := HR.out.call hstep.2 hstep.1
  have HR4 := hideIt rc4
  obtain ⟨b8, hb8⟩ : ∃ b8, ((n8 : Int) != 8) = b8 := ⟨_, rfl⟩
  have HB8 := hideIt (show decide ((ocVal zs).length ≠ 8) = b8 from by
    rw [HN8.out.1, ← hb8]
    by_cases e : n8 = 8
    · subst e; rfl
    · rw [decide_eq_true e]
      symm
      simpa using (show ¬ (n8 : Int) = 8 by omega))
  obtain ⟨sB, hsB⟩ : ∃ sB, badS b8 4 (ocS zs) = sB := ⟨_, rfl⟩
  have HBD8 := hideIt (bad_r _ gr g h (ocS zs) rc4.rs b8 4 (by decide))
  rw [hsB] at HBD8
  have HSB := hideIt hsB
  have HOW := hideIt (And.intro o3 (And.intro (hstep.2) (show ∀ k, (Value.slice va n8 vc).ownBlock = some k → gr < k ∧ w.heap.size + 2 ≤ k from fun k hk => by
    have h1 := (o3.lt k hk).1
    have h2 := HR.out.rs.lt
    have h3 := HR.out.ne
    omega)))
  have HBO := hideIt b3
  clear o3 r3 b3 hstep k3 rc4 hsB
  go_wp2_with fail
  refine HBD8.out.mono ?_
  clear HBD8
  rintro e w5 ⟨rfl, r5, b5⟩
  have rc5 := HR4.out.bad b5 r5
  obtain ⟨_, ⟨y0, y1, y2, y3, y4, y5, y6⟩, ⟨z0, z1, z2, z3, z4, z5, z6⟩⟩ := seven_at rc5.b1
  have rc6 := rc5.set 1 (.slice va n8 vc)
  simp only [List.setIfInBounds_toArray, List.set_cons_zero, List.set_cons_succ] at rc6
  have HR6 := hideIt rc6
  have HB5 := hideIt b5
  clear r5 b5 rc5 rc6 m0 m1 mf0 mf1 hb8
  obtain ⟨v1, hv1⟩ : ∃ v1, rdV 2 sB = v1 := ⟨_, rfl⟩
  obtain ⟨s2, hs2⟩ : ∃ s2, rdS 2 sB = s2 := ⟨_, rfl⟩
  have HC_v1 := hideIt (word_r (w5.setCell ⟨w.heap.size + 1, 1, none⟩ (.slice va n8 vc)) gr g h sB HR6.out.rs)
  rw [hv1, hs2] at HC_v1
  have HE_v1 := hideIt (And.intro hv1 hs2)
  clear hv1 hs2
  go_wp2_with fail
  refine HC_v1.out.mono ?_
  clear HC_v1
  rintro e w6 ⟨rfl, r9, b9⟩
  have HR7_0 := HR6.out.call b9 r9
  have HB9 := hideIt b9
  obtain ⟨_, ⟨y0, y1, y2, y3, y4, y5, y6⟩, ⟨z0, z1, z2, z3, z4, z5, z6⟩⟩ := seven_at HR7_0.b1
  have HR7_1 := HR7_0.set 2 (.int .i64 v1)
  simp only [List.setIfInBounds_toArray, List.set_cons_zero, List.set_cons_succ] at HR7_1
  have HR7 := hideIt HR7_1
  clear r9 b9 HR7_0 HR7_1
  obtain ⟨L, hL, hleft⟩ := HR7.out.left
  have HLF := hideIt hleft
  obtain ⟨ec, hec, hec0, hecx⟩ := HR7.out.cells
  obtain ⟨_, m0, m1, _, _⟩ := two_at hec
  have HEC := hideIt (And.intro hec0 (And.intro hecx hL))
  clear hleft hec hec0 hecx hL
  obtain ⟨bb, hbb⟩ : ∃ bb, decide (0 < L) = bb := ⟨_, rfl⟩
  have HBD := hideIt (show ∀ W', After (w6.setCell ⟨w.heap.size + 1, 2, none⟩ (.int .i64 v1)) W' → Calls Try.prog 60 #[Ptr gr, .bool bb, .int .i64 4] W' fun e W'' => e = .returned (.tuple #[]) ∧ RdC w W'' gr g h (badS bb 4 s2) #[.int .i64 57856, .slice va n8 vc, .int .i64 v1, .int .i64 0, .int .i64 0, .slice none 0 0, .slice none 0 0] ∧ But (One gr) W' W'' from fun W' a' => (bad_r W' gr g h s2 (HR7.out.after a').rs bb 4 (by decide)).mono fun e W'' ⟨he, r, b⟩ => ⟨he, (HR7.out.after a').bad b r, b⟩)
  go_wp2_with fail
  refine (HLF.out _ After.rfl).mono ?_
  clear HLF
  rintro e wl ⟨rfl, al⟩
  have HAL := hideIt al
  clear al
  go_wp2_with fail
  try rw [hbb]
  refine (HBD.out _ HAL.out).mono ?_
  rintro e wb ⟨rfl, rcb, tbw⟩
  obtain ⟨eb, heb, heb0, hebx⟩ := rcb.cells
  obtain ⟨_, t0, t1, _, _⟩ := two_at heb
  obtain ⟨_, ⟨y0, y1, y2, y3, y4, y5, y6⟩, _⟩ := seven_at rcb.b1
  obtain ⟨_, ⟨q0, q1, q2, q3, q4, q5, q6⟩, ⟨z0, z1, z2, z3, z4, z5, z6⟩⟩ := seven_at rcb.b0
  have hng : ¬ gr = w.heap.size := by have := rcb.ne; omega
  have hng' : ¬ w.heap.size = gr := by have := rcb.ne; omega
  have HRB := hideIt (And.intro rcb (And.intro heb0 hebx))
  have HBB := hideIt hbb
  have HTB := hideIt (HAL.out.but.trans tbw)
  clear tbw
  clear rcb heb heb0 hebx HBD HAL hbb m0 m1
  go_wp2_with fail
  go_region
  go_wp2_with fail
  have hn8 := HN8.out.1
  subst hn8
  obtain ⟨rcb, heb0, hebx⟩ := HRB.out
  have bw9 : But (One w.heap.size) wb (((((((wb.setCell ⟨w.heap.size, 0, none⟩ (.int .i64 57856)).setCell ⟨w.heap.size, 1, none⟩ (.slice va (ocVal zs).length vc)).setCell ⟨w.heap.size, 2, none⟩ (.int .i64 v1)).setCell ⟨w.heap.size, 3, none⟩ (.int .i64 0)).setCell ⟨w.heap.size, 4, none⟩ (.int .i64 0)).setCell ⟨w.heap.size, 5, none⟩ (.slice none 0 0)).setCell ⟨w.heap.size, 6, none⟩ (.slice none 0 0)).drew := by
    refine But.trans ?_ (After.rfl.draws 1).but
    iterate 7 refine But.set (S := One w.heap.size) ?_ ⟨w.heap.size, _, none⟩ (fun _ => Eq.refl _) _
    exact But.rfl
  refine bodyPost_ret (v := .tuple #[.agg #[.int .i64 57856, .slice va (ocVal zs).length vc, .int .i64 v1, .int .i64 0, .int .i64 0, .slice none 0 0, .slice none 0 0], .int .i64 eb]) (by simp [results, Try.results37, go_sem, q0, q1, q2, q3, q4, q5, q6]) rfl ?_
  exact outR_end (X := ⟨57856, ocVal zs, v1, 0, 0, [], []⟩) (sa := va) (sc := vc) (oa := none) (oc := 0) (ba := none) (bc := 0) (by have hE := HE.out; rw [HB8.out, HSB.out, HE_v1.out.1, HE_v1.out.2] at hE; exact hE) HEC.out.2.2 HBB.out rcb.rs heb0 hebx (rcb.aft.but.then bw9 (fun i hi t => by have t' : i = w.heap.size := t; omega)) (fun us hus => by
    have hne := rcb.ne
    have tt : But (fun k => k = w.heap.size ∨ k = w.heap.size + 1 ∨ k = gr ∨ k = g) w3 _ := ((((((But.own1 w3 gr 1 (.int .i64 er)).mono (fun i _ t => .inr (.inr (.inl t)))).trans (HB5.out.mono (fun i _ t => .inr (.inr (.inl t))))).trans ((But.own1 w5 (w.heap.size + 1) 1 (.slice va (ocVal zs).length vc)).mono (fun i _ t => .inr (.inl t)))).trans (HB9.out.mono (fun i _ t => t.elim (fun t => .inr (.inr (.inl t))) (fun t => .inr (.inr (.inr t)))))).trans ((But.own1 w6 (w.heap.size + 1) 2 (.int .i64 v1)).mono (fun i _ t => .inr (.inl t)))).trans ((HTB.out.mono (fun i _ t => .inr (.inr (.inl t)))).trans (bw9.mono (fun i _ t => .inl t)))
    obtain ⟨ya, yc, hq, ry, rn, _, rb⟩ := own_row HOW.out.1 (ocVal_bs HB.out)
    cases hq
    have hlim := ocVal_len HB.out
    refine MsgX.ofSys _ _ _ _ ?_ ?_ ?_ ?_
    · exact ry.but2 tt (fun y hy h0 t => by
        have h1 := HOW.out.2.2 _ (rb y hy).1
        have h2 := (HOW.out.1.lt _ (rb y hy).1)
        have h3 := HR.out.rs.lt
        rcases t with t | t | t | t <;> omega)
    · exact rn
    · exact fun y hy _ => by have h1 := HOW.out.2.2 _ (rb y hy).1; omega
    · omega)
theorem read_all (w : World) (k : Int) (hk : alone k = true ∨ inData k = true) (a : Option Addr) (n c : Nat) (zs : List Int) (hr : Row w a n zs) (ha : a = none → n = 0 ∧ c = 0) (hn : n ≤ 140737488355328) :
    Calls Try.prog 37 #[.int .i64 k, .slice a n c] w fun e w' => OutR w w' e (readF k zs) := by
  rcases hk.imp of_decide_eq_true of_decide_eq_true with (rfl | rfl | rfl | rfl | rfl) | (rfl | rfl | rfl)
  · exact read_57856 w a n c zs hr ha hn
  · exact read_58112 w a n c zs hr ha hn
  · exact read_58368 w a n c zs hr ha hn
  · exact read_58624 w a n c zs hr ha hn
  · exact read_58880 w a n c zs hr ha hn
  · exact read_3356 w a n c zs hr ha hn
  · exact read_3357 w a n c zs hr ha hn
  · exact read_3358 w a n c zs hr ha hn
end Go.Proofs.Ytigiakhdaaoljaa
/-
  The document's open: a kind, and the bytes that follow.
-/
namespace Go.Proofs.Ytigiakhdaaoljaa
open Go.RowKit
set_option maxRecDepth 8000
def openF (zs : List Int) : Except Int ((Int × List Int) × List Int) := thn (num false 2 65535 0 zs) fun k z1 => thn (oct false [] z1) fun b r => if r.length = 0 then .ok ((k, b), []) else .error 4
def OutP (w w' : World) (n : Nat) (e : Ending) (r : Except Int ((Int × List Int) × List Int)) : Prop :=
  After w w' ∧ Ends r (fun p _ => ∃ a' n' c', e = .returned (.tuple #[.int .i64 p.1, .slice a' n' c', .int .i64 0]) ∧ Row w' a' n' p.2 ∧ (a' = none → n' = 0 ∧ c' = 0) ∧ n' ≤ n ∧ n' ≤ c') (fun c => c ≠ 0 ∧ e = .returned (.tuple #[.int .i64 0, .slice none 0 0, .int .i64 c]))
theorem openF_two {zs : List Int} (h1 : 2 ≤ zs.length) (h2 : 2 ≤ (zs.drop 2).length) : openF zs = if ocN (zs.drop 2) ≤ (zs.drop 2).length - 2 then (if ((zs.drop 2).drop 2).length = ocN (zs.drop 2) then .ok ((be (zs.take 2), (zs.drop 2).drop 2), []) else .error 4) else .error 3 := by
  unfold openF
  rw [thn_ok (num_r h1)]
  by_cases hn : ocN (zs.drop 2) ≤ (zs.drop 2).length - 2
  · rw [thn_ok (oct_r (ocIs_yes h2 hn)), if_pos hn]
    obtain ⟨e1, _, e3, _⟩ := oc_yes h2 hn
    rw [e1, e3]
    have hl : ((zs.drop 2).drop 2).length = (zs.drop 2).length - 2 := List.length_drop ..
    by_cases hr : ((zs.drop 2).drop 2).length = ocN (zs.drop 2)
    · have e9 : ((zs.drop 2).drop 2).take (ocN (zs.drop 2)) = (zs.drop 2).drop 2 := List.take_of_length_le (by omega)
      rw [if_pos hr, if_pos (by rw [List.length_drop]; omega), e9]
    · rw [if_neg hr, if_neg (by rw [List.length_drop]; omega)]
  · rw [if_neg hn, thn_bad (oct_rn (by rw [ocIs_no (fun h => hn h.2)]; decide))]
set_option maxHeartbeats 1000000 in
theorem open_any (w : World) (a : Option Addr) (n c : Nat) (zs : List Int) (hr : Row w a n zs) (ha : a = none → n = 0 ∧ c = 0) (hn : n ≤ 140737488355328) (hnc : n ≤ c) :
    Calls Try.prog 36 #[.slice a n c] w fun e w' => OutP w w' n e (openF zs) := by
  have H1 := hideIt (refNew_any a n c zs w hr ha hn)
  have HR := hideIt (And.intro hr (And.intro hn hnc))
  clear hr ha hn hnc
  go_enter Try.func36, Try.ntmps36
  go_wp2_with fail
  refine H1.out.mono ?_
  clear H1
  rintro e w1 ⟨g, h, rfl, r1, hg, hh, a1⟩
  have HG := hideIt (And.intro hg (And.intro hh a1))
  clear hg hh a1
  by_cases h1 : 2 ≤ zs.length
  rotate_left
  · have H2 := hideIt (refU16_any w1 g h zs r1)
    rw [rdVal_no h1, rdErr_no h1] at H2
    have HO := hideIt (show openF zs = .error 3 from by unfold openF; rw [thn_bad (num_rn h1)])
    clear r1 h1
    go_wp2_with fail
    refine H2.out.mono ?_
    clear H2
    rintro e w2 ⟨rfl, _, b2⟩
    have HB := hideIt b2
    clear b2
    go_wp2_with fail
    refine bodyPost_ret (v := .tuple #[.int .i64 0, .slice none 0 0, .int .i64 3]) (by simp [results, Try.results36, go_sem]) rfl ⟨?_, Ends.bad HO.out ⟨by decide, rfl⟩⟩
    exact HG.out.2.2.but.then HB.out (fun i hi t => by have t' : i = g := t; have := HG.out.1; omega)
  have H2 := hideIt (refU16_any w1 g h zs r1)
  have hbz := r1.bs
  rw [rdVal_yes h1, rdErr_yes h1, rdRest_yes h1] at H2
  obtain ⟨kd, hkd⟩ : ∃ kd, be (zs.take 2) = kd := ⟨_, rfl⟩
  rw [hkd] at H2
  have HKD := hideIt (And.intro hkd (And.intro h1 hbz))
  clear r1 h1 hkd hbz
  go_wp2_with fail
  refine H2.out.mono ?_
  clear H2
  rintro e w2 ⟨rfl, r2, b2⟩
  have HB := hideIt b2
  clear b2
  by_cases h2 : 2 ≤ (zs.drop 2).length
  rotate_left
  · have H3 := hideIt (refU16_any w2 g h _ r2)
    rw [rdVal_no h2, rdErr_no h2] at H3
    have HO := hideIt (show openF zs = .error 3 from by unfold openF; rw [thn_ok (num_r HKD.out.2.1), thn_bad (oct_rn (by rw [ocIs_no (fun h => h2 h.1)]; decide))])
    clear r2 h2
    go_wp2_with fail
    refine H3.out.mono ?_
    clear H3
    rintro e w3 ⟨rfl, _, b3⟩
    have HB3 := hideIt b3
    clear b3
    go_wp2_with fail
    refine bodyPost_ret (v := .tuple #[.int .i64 0, .slice none 0 0, .int .i64 3]) (by simp [results, Try.results36, go_sem]) rfl ⟨?_, Ends.bad HO.out ⟨by decide, rfl⟩⟩
    exact HG.out.2.2.but.then (HB.out.trans HB3.out) (fun i hi t => by have t' : i = g := t; have := HG.out.1; omega)
  have H3 := hideIt (refU16_any w2 g h _ r2)
  rw [rdVal_yes h2, rdErr_yes h2, rdRest_yes h2] at H3
  have hN := ocN_int (HKD.out.2.2.drop 2) h2
  rw [hN.1] at H3
  have hO := openF_two HKD.out.2.1 h2
  rw [HKD.out.1] at hO
  have hl2 : ((zs.drop 2).drop 2).length = (zs.drop 2).length - 2 := List.length_drop ..
  have hl0 : ((zs.drop 2).drop 2).length = zs.length - 4 := by rw [List.length_drop, List.length_drop]; omega
  have hl4 : 4 ≤ zs.length := by rw [List.length_drop] at h2; omega
  rw [← hl2] at hO
  obtain ⟨N, hNN⟩ : ∃ N, ocN (zs.drop 2) = N := ⟨_, rfl⟩
  obtain ⟨z2, hz2⟩ : ∃ z2, (zs.drop 2).drop 2 = z2 := ⟨_, rfl⟩
  rw [hNN] at H3 hO
  rw [hz2] at H3 hO hl0
  obtain ⟨L, hL⟩ : ∃ L, z2.length = L := ⟨_, rfl⟩
  rw [hL] at hO hl0
  have HO := hideIt hO
  have HZ := hideIt (And.intro hz2 (And.intro hL (And.intro hl0 hl4)))
  clear r2 h2 hN hO hl2 hl0 hl4 hNN hz2 hL
  go_wp2_with fail
  refine H3.out.mono ?_
  clear H3
  rintro e w3 ⟨rfl, r3, b3⟩
  have HB3 := hideIt (HB.out.trans b3)
  have HLF := hideIt (fun W (t : After w3 W) => refLeft_any W g h z2 (r3.after t))
  rw [HZ.out.2.1] at HLF
  clear r3 b3 HB
  have HAA := hideIt (show ∀ W, After w3 W → After w W from fun W t => (HG.out.2.2.but.then HB3.out (fun i hi t => by have t' : i = g := t; have := HG.out.1; omega)).trans t)
  by_cases hlt : (L : Int) < (N : Int)
  · have hO := hideIt (HO.out.trans (if_neg (by omega)))
    clear HO
    go_wp2_with fail
    refine (HLF.out _ After.rfl).mono ?_
    rintro e w4 ⟨rfl, a4⟩
    have HA4 := hideIt a4
    clear a4
    go_wp2_with fail
    refine bodyPost_ret (v := .tuple #[.int .i64 0, .slice none 0 0, .int .i64 3]) (by simp [results, Try.results36, go_sem]) rfl ⟨HAA.out _ HA4.out, Ends.bad hO.out ⟨by decide, rfl⟩⟩
  by_cases hgt : (N : Int) < (L : Int)
  · have hO := hideIt (HO.out.trans ((if_pos (by omega)).trans (if_neg (by omega))))
    clear HO
    go_wp2_with fail
    refine (HLF.out _ After.rfl).mono ?_
    rintro e w4 ⟨rfl, a4⟩
    have HA4 := hideIt a4
    clear a4
    go_wp2_with fail
    refine (HLF.out _ HA4.out).mono ?_
    rintro e w5 ⟨rfl, a5⟩
    have HA5 := hideIt a5
    clear a5
    go_wp2_with fail
    refine bodyPost_ret (v := .tuple #[.int .i64 0, .slice none 0 0, .int .i64 4]) (by simp [results, Try.results36, go_sem]) rfl ⟨HAA.out _ (HA4.out.trans HA5.out), Ends.bad hO.out ⟨by decide, rfl⟩⟩
  obtain rfl : L = N := by omega
  have hO := hideIt (HO.out.trans ((if_pos (Nat.le_refl _)).trans (if_pos rfl)))
  clear HO hlt hgt
  obtain ⟨hrow, hn, hnc⟩ := HR.out
  obtain ⟨b0, off, hab, hbl, _⟩ := hrow.2.2 0 (by have := HZ.out.2.2.2; have := hrow.1; omega)
  subst hab
  have hn4 : (4 : Int) ≤ (n : Int) := by have := HZ.out.2.2.2; have := hrow.1; omega
  have hc4 : (n : Int) ≤ (c : Int) := by omega
  have HRW := hideIt (And.intro hrow (And.intro hn hnc))
  clear hrow hn hnc hbl HR
  by_cases hce : c = 4
  · subst hce
    obtain rfl : n = 4 := by omega
    go_wp2_with fail
    refine (HLF.out _ After.rfl).mono ?_
    rintro e w4 ⟨rfl, a4⟩
    have HA4 := hideIt a4
    clear a4
    go_wp2_with fail
    refine (HLF.out _ HA4.out).mono ?_
    rintro e w5 ⟨rfl, a5⟩
    have HA5 := hideIt a5
    clear a5
    go_wp2_with fail
    go_region
    go_wp2_with fail
    have aw := HAA.out _ (HA4.out.trans HA5.out)
    obtain ⟨hz2, hL, hl0, hl4⟩ := HZ.out
    obtain ⟨hrow, hn, hnc⟩ := HRW.out
    have hz0 : z2 = [] := List.length_eq_zero_iff.1 (by have := hrow.1; omega)
    refine bodyPost_ret (v := .tuple #[.int .i64 kd, .slice (some ⟨b0, off, none⟩) 0 0, .int .i64 0]) (by simp [results, Try.results36, go_sem]) rfl ⟨aw.trans (After.rfl.draws 1), Ends.ok hO.out ⟨some ⟨b0, off, none⟩, 0, 0, rfl, ?_, (fun h => by cases h), Nat.zero_le _, Nat.le_refl _⟩⟩
    rw [hz0]
    exact Row.nil _ _
  · have hce' : ¬ (c : Int) = 4 := by omega
    go_wp2_with fail
    refine (HLF.out _ After.rfl).mono ?_
    rintro e w4 ⟨rfl, a4⟩
    have HA4 := hideIt a4
    clear a4
    go_wp2_with fail
    refine (HLF.out _ HA4.out).mono ?_
    rintro e w5 ⟨rfl, a5⟩
    have HA5 := hideIt a5
    clear a5
    go_wp2_with fail
    go_region
    go_wp2_with fail
    have aw := HAA.out _ (HA4.out.trans HA5.out)
    obtain ⟨hz2, hL, hl0, hl4⟩ := HZ.out
    obtain ⟨hrow, hn, hnc⟩ := HRW.out
    have hzd : z2 = zs.drop 4 := by rw [← hz2, List.drop_drop]
    refine bodyPost_ret (v := .tuple #[.int .i64 kd, .slice (some ⟨b0, off + 4, none⟩) (n - 4) (c - 4), .int .i64 0]) (by simp [results, Try.results36, go_sem]) rfl ⟨aw.trans (After.rfl.draws 1), Ends.ok hO.out ⟨some ⟨b0, off + 4, none⟩, n - 4, c - 4, rfl, ?_, (fun h => by cases h), by omega, by omega⟩⟩
    refine Row.after (w := w) ?_ (aw.trans (After.rfl.draws 1))
    refine ⟨by rw [hL, hl0, hrow.1], by rw [hzd]; exact hrow.2.1.drop 4, fun i hi => ?_⟩
    obtain ⟨b1, o1, e1, hl, hc⟩ := hrow.2.2 (4 + i) (by omega)
    cases e1
    refine ⟨b0, off + 4, rfl, hl, ?_⟩
    rw [hzd, show off + 4 + i = off + (4 + i) by omega, hc]
    rw [getD_drop]
end Go.Proofs.Ytigiakhdaaoljaa
/-
  The document's Unpack.
-/
namespace Go.Proofs.Ytigiakhdaaoljaa
open Go.RowKit
set_option maxRecDepth 8000
theorem partR_open (ins : Int → List Int → Except Int (Msg × List Int)) (k' : Int) (zs : List Int) : partR ins k' zs = thn (openF zs) fun p _ => thn (ins p.1 p.2) fun X r => if r.length = 0 then .ok (X, []) else .error 4 := by
  unfold partR openF
  by_cases h1 : 2 ≤ zs.length
  · rw [thn_ok (num_r h1), thn_ok (num_r h1)]
    cases oct false [] (zs.drop 2) with
    | error c => rfl
    | ok x =>
      obtain ⟨b, r⟩ := x
      simp only [thn]
      by_cases hr : r.length = 0
      · rw [if_pos hr, if_pos hr]
        obtain rfl : r = [] := List.length_eq_zero_iff.1 hr
        rfl
      · rw [if_neg hr, if_neg hr]
  · rw [thn_bad (num_rn h1), thn_bad (num_rn h1)]
    rfl
theorem unpack_doc (zs : List Int) : unpackF zs = thn (openF zs) fun p _ => if p.1 = 59136 then (thn (openF p.2) fun q _ => if inData q.1 = true then readF q.1 q.2 else .error 4) else if alone p.1 = true then readF p.1 p.2 else .error 4 := by
  show partR (insD false (Msg.zero 0)) (outer (Msg.zero 0).kind) zs = _
  rw [partR_open]
  cases openF zs with
  | error c => rfl
  | ok x =>
    obtain ⟨⟨k, b⟩, r⟩ := x
    simp only [thn]
    by_cases hk : k = 59136
    · rw [if_pos hk]
      have e : insD false (Msg.zero 0) k b = partR (fun k zs => insF false inData k (Msg.zero 0) zs) (Msg.zero 0).kind b := by unfold insD; rw [if_pos hk, if_neg (by decide)]
      rw [e, partR_open]
      cases openF b with
      | error c => rfl
      | ok x =>
        obtain ⟨⟨k2, b2⟩, r2⟩ := x
        simp only [thn]
        unfold insF
        by_cases hd : inData k2 = true
        · rw [if_pos hd, if_pos hd]
          unfold readF
          cases fieldsF false k2 (Msg.zero 0) b2 with
          | error c => rfl
          | ok x =>
            obtain ⟨X, us⟩ := x
            simp only [thn]
            by_cases hu : us.length = 0
            · rw [if_pos hu]; rfl
            · rw [if_neg hu]
        · rw [if_neg hd, if_neg hd]
          rfl
    · rw [if_neg hk]
      have e : insD false (Msg.zero 0) k b = insF false alone k (Msg.zero 0) b := by unfold insD; rw [if_neg hk]
      rw [e]
      unfold insF
      by_cases hd : alone k = true
      · rw [if_pos hd, if_pos hd]
        rfl
      · rw [if_neg hd, if_neg hd]
        rfl
/-- What the document answers of bytes. -/
def OutU (w w' : World) (e : Ending) (r : Except Int (Msg × List Int)) : Prop :=
  After w w' ∧ Ends r (fun X _ => ∃ sa sc oa oc ba bc, e = .returned (.tuple #[X.val sa sc oa oc ba bc, .int .i64 0]) ∧ MsgX w' (fun k => w.heap.size ≤ k) X sa sc oa oc ba bc) (fun c => e = .returned (.tuple #[(Msg.zero 0).val none 0 none 0 none 0, .int .i64 c]))
set_option maxHeartbeats 2000000 in
theorem runpack_any (w : World) (a : Option Addr) (n c : Nat) (zs : List Int) (hr : Row w a n zs) (ha : a = none → n = 0 ∧ c = 0) (hn : n ≤ 140737488355328) (hnc : n ≤ c) :
    Calls Try.prog 17 #[.slice a n c] w fun e w' => OutU w w' e (unpackF zs) := by
  obtain ⟨w0, hw0⟩ : ∃ w0, w.alloc (.cells #[.int .i64 0, .slice none 0 0, .int .i64 0, .int .i64 0, .int .i64 0, .slice none 0 0, .slice none 0 0] 26) = w0 := ⟨_, rfl⟩
  have hA : After w w0 := by rw [← hw0]; exact After.rfl.alloc _
  have b0 : w0.heap[w.heap.size]? = some (.cells #[.int .i64 0, .slice none 0 0, .int .i64 0, .int .i64 0, .int .i64 0, .slice none 0 0, .slice none 0 0] 26 (0, 0)) := by rw [← hw0]; exact new1 _ _
  have H1 := hideIt (open_any w0 a n c zs (hr.after hA) ha hn hnc)
  have HX := hideIt (And.intro hA (And.intro b0 hn))
  have HSZ := hideIt (show w0.heap.size = w.heap.size + 1 by rw [← hw0, World.size_alloc])
  have HW := hideIt hw0
  have HU := hideIt (unpack_doc zs)
  generalize unpackF zs = UF at HU ⊢
  clear hA b0 hw0 hr ha hn hnc
  go_enter Try.func17, Try.ntmps17
  go_wp2_with fail
  rw [HW.out]
  refine H1.out.mono ?_
  clear H1 HW
  rintro e w1 ⟨a1, h1⟩
  rcases h1.split with ⟨c9, e1, hc9, rfl⟩ | ⟨⟨k, b⟩, us, e1, pa, pn, pc, rfl, prow, pno, pnn, pnc⟩
  · have hcb : (c9 != 0) = true := by simpa using hc9
    have hbE := keep2 HX.out.2.1 (a1)
    obtain ⟨_, ⟨y0, y1, y2, y3, y4, y5, y6⟩, ⟨z0, z1, z2, z3, z4, z5, z6⟩⟩ := seven_at hbE
    have HE := hideIt (And.intro (HX.out.1.trans (a1)) (HU.out.trans (thn_bad e1)))
    clear h1 e1 a1 hc9 hbE
    go_wp2_with fail
    obtain ⟨aw, he⟩ := HE.out
    refine bodyPost_ret (v := .tuple #[(Msg.zero 0).val none 0 none 0 none 0, .int .i64 c9]) (by simp [results, Try.results17, go_sem, y0, y1, y2, y3, y4, y5, y6, Msg.zero, Msg.val]) rfl ⟨?_, Ends.bad he rfl⟩
    iterate 7 refine After.set ?_ _ (Nat.le_refl _) _
    exact aw
  have hu1 := HU.out.trans (thn_ok e1)
  dsimp only at hu1 prow
  dsimp only
  have HU1 := hideIt hu1
  have HP := hideIt (And.intro prow (And.intro pno (And.intro (show pn ≤ 140737488355328 by have := HX.out.2.2; omega) pnc)))
  have HA1 := hideIt a1
  have HK := hideIt (known_any w1 k)
  clear hu1 e1 h1 prow pno pnn pnc a1 HU
  by_cases hk : k = 59136
  · subst hk
    have H2 := hideIt (open_any w1 pa pn pc b HP.out.1 HP.out.2.1 HP.out.2.2.1 HP.out.2.2.2)
    have HU2 := hideIt (HU1.out.trans (if_pos rfl))
    clear HU1
    go_wp2_with (go_at_call 29; refine HK.out.mono ?_; rintro e w9 ⟨rfl, hw9⟩; have hw8 := hw9.symm; subst hw8; rw [show (alone 59136 || inData 59136) = false from rfl, show inData 59136 = false from rfl])
    refine H2.out.mono ?_
    clear H2 HK
    rintro e w2 ⟨a2, h2⟩
    rcases h2.split with ⟨c9, e1, hc9, rfl⟩ | ⟨⟨k2, b2⟩, us2, e1, ra, rn, rc, rfl, rrow, rno, rnn, rnc⟩
    · have hcb : (c9 != 0) = true := by simpa using hc9
      have hbE := keep2 HX.out.2.1 (HA1.out.trans a2)
      obtain ⟨_, ⟨y0, y1, y2, y3, y4, y5, y6⟩, ⟨z0, z1, z2, z3, z4, z5, z6⟩⟩ := seven_at hbE
      have HE := hideIt (And.intro (HX.out.1.trans (HA1.out.trans a2)) (HU2.out.trans (thn_bad e1)))
      clear h2 e1 a2 hc9 hbE
      go_wp2_with fail
      obtain ⟨aw, he⟩ := HE.out
      refine bodyPost_ret (v := .tuple #[(Msg.zero 0).val none 0 none 0 none 0, .int .i64 c9]) (by simp [results, Try.results17, go_sem, y0, y1, y2, y3, y4, y5, y6, Msg.zero, Msg.val]) rfl ⟨?_, Ends.bad he rfl⟩
      iterate 7 refine After.set ?_ _ (Nat.le_refl _) _
      exact aw
    have hu3 := HU2.out.trans (thn_ok e1)
    dsimp only at hu3 rrow
    dsimp only
    have HU3 := hideIt hu3
    have HQ := hideIt (And.intro rrow (And.intro rno (And.intro (show rn ≤ 140737488355328 by have := HP.out.2.2.1; omega) rnc)))
    have HA2 := hideIt (HA1.out.trans a2)
    have HK2 := hideIt (known_any w2 k2)
    clear hu3 e1 h2 rrow rno rnn rnc a2 HU2
    cases hd : inData k2 with
    | false =>
      rw [hd] at HK2 HU3
      obtain ⟨al, hal⟩ : ∃ al, alone k2 = al := ⟨_, rfl⟩
      rw [hal, Bool.or_false] at HK2
      clear hal
      cases al
      all_goals
        go_wp2_with (go_at_call 29; refine HK2.out.mono ?_; rintro e w9 ⟨rfl, hw9⟩; have hw8 := hw9.symm; subst hw8; obtain ⟨_, ⟨y0, y1, y2, y3, y4, y5, y6⟩, ⟨z0, z1, z2, z3, z4, z5, z6⟩⟩ := seven_at (keep2 HX.out.2.1 HA2.out))
        refine bodyPost_ret (v := .tuple #[(Msg.zero 0).val none 0 none 0 none 0, .int .i64 4]) (by simp [results, Try.results17, go_sem, y0, y1, y2, y3, y4, y5, y6, Msg.zero, Msg.val]) rfl ⟨?_, Ends.bad (HU3.out.trans (if_neg (by first | decide | exact fun h => h))) rfl⟩
        iterate 7 refine After.set ?_ _ (Nat.le_refl _) _
        exact HX.out.1.trans HA2.out
    | true =>
      rw [hd, Bool.or_true] at HK2
      rw [hd] at HU3
      have hkk : alone k2 = true ∨ inData k2 = true := .inr hd
      go_wp2_with (go_at_call 29; refine HK2.out.mono ?_; rintro e w9 ⟨rfl, hw9⟩; have hw8 := hw9.symm; subst hw8)
      clear HK2
      have HRD := hideIt (read_all w2 k2 hkk ra rn rc b2 HQ.out.1 HQ.out.2.1 HQ.out.2.2.1)
      have HAF := hideIt (HA2.out)
      have HEQ := hideIt (HU3.out.trans (if_pos (by first | rfl | trivial)))
      refine HRD.out.mono ?_
      clear HRD
      rintro e w8 ⟨a8, h8⟩
      rcases h8.split with ⟨c9, e1, hc9, v0, q1, n1, c1, i2, i3, i4, q5, n5, c5, q6, n6, c6, rfl⟩ | ⟨X, us, e1, ta, tc, ua, uc, va, vc, rfl, x8⟩
      · have hcb : (c9 != 0) = true := by simpa using hc9
        have hbE := keep2 HX.out.2.1 (HAF.out.trans a8)
        have hb2 := keep2 hbE (After.rfl.alloc (.cells #[.int .i64 v0, .slice q1 n1 c1, .int .i64 i2, .int .i64 i3, .int .i64 i4, .slice q5 n5 c5, .slice q6 n6 c6] 26))
        obtain ⟨_, ⟨y0, y1, y2, y3, y4, y5, y6⟩, ⟨z0, z1, z2, z3, z4, z5, z6⟩⟩ := seven_at hb2
        have HE := hideIt (And.intro (HX.out.1.trans (HAF.out.trans a8)) (HEQ.out.trans e1))
        clear h8 e1 hc9 a8 hbE hb2
        go_wp2_with fail
        obtain ⟨aw, he⟩ := HE.out
        refine bodyPost_ret (v := .tuple #[(Msg.zero 0).val none 0 none 0 none 0, .int .i64 c9]) (by simp [results, Try.results17, go_sem, y0, y1, y2, y3, y4, y5, y6, Msg.zero, Msg.val]) rfl ⟨?_, Ends.bad he rfl⟩
        iterate 7 refine After.set ?_ _ (Nat.le_refl _) _
        exact aw.alloc _
      · have hbE := keep2 HX.out.2.1 (HAF.out.trans a8)
        obtain ⟨Xk, Xs, Xc, Xr, Xq, Xo, Xb⟩ := X
        have hb2 := keep2 hbE (After.rfl.alloc (.cells #[.int .i64 Xk, .slice ta Xs.length tc, .int .i64 Xc, .int .i64 Xr, .int .i64 Xq, .slice ua Xo.length uc, .slice va Xb.length vc] 26))
        obtain ⟨_, ⟨y0, y1, y2, y3, y4, y5, y6⟩, ⟨z0, z1, z2, z3, z4, z5, z6⟩⟩ := seven_at hb2
        have HE := hideIt (And.intro (HX.out.1.trans (HAF.out.trans a8)) (And.intro (HEQ.out.trans e1) (And.intro x8 (show w.heap.size < w2.heap.size by have := HSZ.out; have := HAF.out.size; omega))))
        clear h8 e1 a8 hbE hb2 x8
        unfold Msg.val
        dsimp only
        go_wp2_with fail
        obtain ⟨aw, he, x8, hsz⟩ := HE.out
        refine bodyPost_ret (v := .tuple #[(⟨Xk, Xs, Xc, Xr, Xq, Xo, Xb⟩ : Msg).val ta tc ua uc va vc, .int .i64 0]) (by simp [results, Try.results17, go_sem, y0, y1, y2, y3, y4, y5, y6, Msg.val]) rfl ⟨?_, Ends.ok he ⟨ta, tc, ua, uc, va, vc, rfl, ?_⟩⟩
        · iterate 7 refine After.set ?_ _ (Nat.le_refl _) _
          exact aw.alloc _
        · refine ((x8.after (After.rfl.alloc (.cells #[.int .i64 Xk, .slice ta Xs.length tc, .int .i64 Xc, .int .i64 Xr, .int .i64 Xq, .slice ua Xo.length uc, .slice va Xb.length vc] 26))).but (T := One w.heap.size) ?_ (fun k hk e => by have e' : k = w.heap.size := e; omega)).mono (fun k hk => by omega)
          iterate 7 refine But.set (S := One w.heap.size) ?_ ⟨w.heap.size, _, none⟩ (fun _ => Eq.refl _) _
          exact But.rfl
  · have hkb : (k != 59136) = true := by simpa using hk
    have hkb' : (k == 59136) = false := by simpa using hk
    have HU2 := hideIt (HU1.out.trans (if_neg hk))
    clear HU1 hk
    obtain ⟨al, hal⟩ : ∃ al, alone k = al := ⟨_, rfl⟩
    cases al with
    | true =>
      have hd := (alone_not hal).1
      rw [hal, hd, Bool.or_false] at HK
      rw [hal] at HU2
      have hkk : alone k = true ∨ inData k = true := .inl hal
      go_wp2_with (go_at_call 29; refine HK.out.mono ?_; rintro e w9 ⟨rfl, hw9⟩; have hw8 := hw9.symm; subst hw8)
      clear HK
      have HRD := hideIt (read_all w1 k hkk pa pn pc b HP.out.1 HP.out.2.1 HP.out.2.2.1)
      have HAF := hideIt (HA1.out)
      have HEQ := hideIt (HU2.out.trans (if_pos (by first | rfl | trivial)))
      refine HRD.out.mono ?_
      clear HRD
      rintro e w8 ⟨a8, h8⟩
      rcases h8.split with ⟨c9, e1, hc9, v0, q1, n1, c1, i2, i3, i4, q5, n5, c5, q6, n6, c6, rfl⟩ | ⟨X, us, e1, ta, tc, ua, uc, va, vc, rfl, x8⟩
      · have hcb : (c9 != 0) = true := by simpa using hc9
        have hbE := keep2 HX.out.2.1 (HAF.out.trans a8)
        have hb2 := keep2 hbE (After.rfl.alloc (.cells #[.int .i64 v0, .slice q1 n1 c1, .int .i64 i2, .int .i64 i3, .int .i64 i4, .slice q5 n5 c5, .slice q6 n6 c6] 26))
        obtain ⟨_, ⟨y0, y1, y2, y3, y4, y5, y6⟩, ⟨z0, z1, z2, z3, z4, z5, z6⟩⟩ := seven_at hb2
        have HE := hideIt (And.intro (HX.out.1.trans (HAF.out.trans a8)) (HEQ.out.trans e1))
        clear h8 e1 hc9 a8 hbE hb2
        go_wp2_with fail
        obtain ⟨aw, he⟩ := HE.out
        refine bodyPost_ret (v := .tuple #[(Msg.zero 0).val none 0 none 0 none 0, .int .i64 c9]) (by simp [results, Try.results17, go_sem, y0, y1, y2, y3, y4, y5, y6, Msg.zero, Msg.val]) rfl ⟨?_, Ends.bad he rfl⟩
        iterate 7 refine After.set ?_ _ (Nat.le_refl _) _
        exact aw.alloc _
      · have hbE := keep2 HX.out.2.1 (HAF.out.trans a8)
        obtain ⟨Xk, Xs, Xc, Xr, Xq, Xo, Xb⟩ := X
        have hb2 := keep2 hbE (After.rfl.alloc (.cells #[.int .i64 Xk, .slice ta Xs.length tc, .int .i64 Xc, .int .i64 Xr, .int .i64 Xq, .slice ua Xo.length uc, .slice va Xb.length vc] 26))
        obtain ⟨_, ⟨y0, y1, y2, y3, y4, y5, y6⟩, ⟨z0, z1, z2, z3, z4, z5, z6⟩⟩ := seven_at hb2
        have HE := hideIt (And.intro (HX.out.1.trans (HAF.out.trans a8)) (And.intro (HEQ.out.trans e1) (And.intro x8 (show w.heap.size < w1.heap.size by have := HSZ.out; have := HAF.out.size; omega))))
        clear h8 e1 a8 hbE hb2 x8
        unfold Msg.val
        dsimp only
        go_wp2_with fail
        obtain ⟨aw, he, x8, hsz⟩ := HE.out
        refine bodyPost_ret (v := .tuple #[(⟨Xk, Xs, Xc, Xr, Xq, Xo, Xb⟩ : Msg).val ta tc ua uc va vc, .int .i64 0]) (by simp [results, Try.results17, go_sem, y0, y1, y2, y3, y4, y5, y6, Msg.val]) rfl ⟨?_, Ends.ok he ⟨ta, tc, ua, uc, va, vc, rfl, ?_⟩⟩
        · iterate 7 refine After.set ?_ _ (Nat.le_refl _) _
          exact aw.alloc _
        · refine ((x8.after (After.rfl.alloc (.cells #[.int .i64 Xk, .slice ta Xs.length tc, .int .i64 Xc, .int .i64 Xr, .int .i64 Xq, .slice ua Xo.length uc, .slice va Xb.length vc] 26))).but (T := One w.heap.size) ?_ (fun k hk e => by have e' : k = w.heap.size := e; omega)).mono (fun k hk => by omega)
          iterate 7 refine But.set (S := One w.heap.size) ?_ ⟨w.heap.size, _, none⟩ (fun _ => Eq.refl _) _
          exact But.rfl
    | false =>
      rw [hal, Bool.false_or] at HK
      rw [hal] at HU2
      obtain ⟨di, hdi⟩ : ∃ di, inData k = di := ⟨_, rfl⟩
      rw [hdi] at HK
      clear hal hdi
      cases di
      all_goals
        go_wp2_with (go_at_call 29; refine HK.out.mono ?_; rintro e w9 ⟨rfl, hw9⟩; have hw8 := hw9.symm; subst hw8; obtain ⟨_, ⟨y0, y1, y2, y3, y4, y5, y6⟩, ⟨z0, z1, z2, z3, z4, z5, z6⟩⟩ := seven_at (keep2 HX.out.2.1 HA1.out))
        refine bodyPost_ret (v := .tuple #[(Msg.zero 0).val none 0 none 0 none 0, .int .i64 4]) (by simp [results, Try.results17, go_sem, y0, y1, y2, y3, y4, y5, y6, Msg.zero, Msg.val]) rfl ⟨?_, Ends.bad (HU2.out.trans (if_neg (by first | decide | exact fun h => h))) rfl⟩
        iterate 7 refine After.set ?_ _ (Nat.le_refl _) _
        exact HX.out.1.trans HA1.out
end Go.Proofs.Ytigiakhdaaoljaa
