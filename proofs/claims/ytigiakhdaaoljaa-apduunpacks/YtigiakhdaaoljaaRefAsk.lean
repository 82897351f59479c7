/-
  The document's read, of ApduAsk; and of all kinds.
-/
import Derived.Test.YtigiakhdaaoljaaRefRead
namespace Go.Proofs.Ytigiakhdaaoljaa
open Go.RowKit
set_option maxRecDepth 8000
set_option maxHeartbeats 600000 in
theorem read_57856 (w : World) (a : Option Addr) (n c : Nat) (zs : List Int) (hr : Row w a n zs) (ha : a = none → n = 0 ∧ c = 0) (hn : n ≤ 140737488355328) :
    Calls Try.prog 37 #[.int .i64 57856, .slice a n c] w fun e w' => OutR w w' e (readF 57856 zs) := by
  obtain ⟨w0, hw0⟩ : ∃ w0, (w.alloc (.cells #[.int .i64 0, .slice none 0 0, .int .i64 0, .int .i64 0, .int .i64 0, .slice none 0 0, .slice none 0 0] 26)).alloc (.cells #[.int .i64 57856, .slice none 0 0, .int .i64 0, .int .i64 0, .int .i64 0, .slice none 0 0, .slice none 0 0] 26) = w0 := ⟨_, rfl⟩
  have hA : After w w0 := by rw [← hw0]; exact (After.rfl.alloc _).alloc _
  obtain ⟨b0, b1⟩ := new2 w (.cells #[.int .i64 0, .slice none 0 0, .int .i64 0, .int .i64 0, .int .i64 0, .slice none 0 0, .slice none 0 0] 26) (.cells #[.int .i64 57856, .slice none 0 0, .int .i64 0, .int .i64 0, .int .i64 0, .slice none 0 0, .slice none 0 0] 26)
  rw [hw0] at b0 b1
  have hsz : w0.heap.size = w.heap.size + 2 := by rw [← hw0, World.size_alloc, World.size_alloc]
  have H1 := hideIt (refNew_any a n c zs w0 (hr.after hA) ha hn)
  have HX := hideIt (And.intro hA (And.intro b0 (And.intro b1 hsz)))
  have HW := hideIt hw0
  have HB := hideIt hr.2.1
  clear hA b0 b1 hsz hw0 hr ha hn
  go_enter Try.func37, Try.ntmps37
  go_wp2_with fail
  rw [HW.out]
  refine H1.out.mono ?_
  clear H1 HW
  rintro e w1 ⟨g, h, rfl, r1, hg, hh, a1⟩
  obtain ⟨hA, b0, b1, hsz⟩ := HX.out
  have ax : After w1 (w1.alloc (.cells #[Ptr g, .int .i64 0] 91)) := After.rfl.alloc _
  have hrl := (show g < w1.heap.size ∧ h < w1.heap.size from by
    refine ⟨r1.lt, ?_⟩
    obtain ⟨a', n', c', k', fs, ⟨h1, _, _, _, _, h5⟩, _⟩ := r1
    rcases h5 with ⟨_, _, _, rfl⟩ | ⟨off, _, _, hl⟩
    · exact (two_at h1).1
    · exact hl)
  have rc : RdC w (w1.alloc (.cells #[Ptr g, .int .i64 0] 91)) w1.heap.size g h (.ok zs) #[.int .i64 57856, .slice none 0 0, .int .i64 0, .int .i64 0, .int .i64 0, .slice none 0 0, .slice none 0 0] :=
    ⟨⟨by omega, by omega, zs, 0, new1 _ _, r1.after ax, .inl ⟨rfl, rfl⟩⟩, hA.trans (a1.trans ax), keep2 b0 (a1.trans ax), keep2 b1 (a1.trans ax), by have := a1.size; omega⟩
  have HR := hideIt rc
  obtain ⟨w2, hw2⟩ : ∃ w2, w1.alloc (.cells #[Ptr g, .int .i64 0] 91) = w2 := ⟨_, rfl⟩
  rw [hw2] at HR
  have HW2 := hideIt hw2
  clear hA b0 b1 hsz ax rc HX r1 hg hh a1 hrl hw2
  obtain ⟨gr, hgr⟩ : ∃ gr, w1.heap.size = gr := ⟨_, rfl⟩
  rw [hgr] at HR
  have HGR := hideIt hgr
  clear hgr
  obtain ⟨_, m0, m1, mf0, mf1⟩ := two_at HR.out.rs.fine
  have hE := sys_word zs (Msg.zero 0).sys (Msg.zero 0).config (fun s c => ⟨57856, s, c, 0, 0, [], []⟩)
  rw [← ff_57856 (Msg.zero 0) zs] at hE
  have HE := hideIt hE
  clear hE
  obtain ⟨n8, hn8⟩ : ∃ n8, (ocVal zs).length = n8 := ⟨_, rfl⟩
  obtain ⟨er, her⟩ : ∃ er, ocErr zs = er := ⟨_, rfl⟩
  have HO := hideIt (refOctets_any w2 g h zs (by
    obtain ⟨_, _, zs', e, hb, hr, hs⟩ := HR.out.rs
    rcases hs with ⟨hs, _⟩ | ⟨c', hs, _⟩
    · cases hs; exact hr
    · cases hs))
  rw [hn8, her] at HO
  have HN8 := hideIt (And.intro hn8 her)
  clear hn8 her
  go_wp2_with fail
  rw [HGR.out, HW2.out]
  refine HO.out.mono ?_
  clear HO
  rintro e w3 ⟨v, rfl, o3, r3, b3⟩
  obtain ⟨va, vc, rfl⟩ := own_slice o3
  have hstep := oc_step HR.out.rs.1 HR.out.rs.2.1 HR.out.rs.fine r3 b3
  rw [HN8.out.2] at hstep
  have k3 : w3.heap[gr]? = some (.cells #[Ptr g, .int .i64 0] 91 (0, 0)) := (b3.block gr (two_at HR.out.rs.fine).1 (fun e => HR.out.rs.1 e)).trans HR.out.rs.fine
  clear m0 m1 mf0 mf1
  obtain ⟨_, m0, m1, mf0, mf1⟩ := two_at k3
  have rc4 := HR.out.call hstep.2 hstep.1
  have HR4 := hideIt rc4
  obtain ⟨b8, hb8⟩ : ∃ b8, ((n8 : Int) != 8) = b8 := ⟨_, rfl⟩
  have HB8 := hideIt (show decide ((ocVal zs).length ≠ 8) = b8 from by
    rw [HN8.out.1, ← hb8]
    by_cases e : n8 = 8
    · subst e; rfl
    · rw [decide_eq_true e]
      symm
      simpa using (show ¬ (n8 : Int) = 8 by omega))
  obtain ⟨sB, hsB⟩ : ∃ sB, badS b8 4 (ocS zs) = sB := ⟨_, rfl⟩
  have HBD8 := hideIt (bad_r _ gr g h (ocS zs) rc4.rs b8 4 (by decide))
  rw [hsB] at HBD8
  have HSB := hideIt hsB
  have HOW := hideIt (And.intro o3 (And.intro (hstep.2) (show ∀ k, (Value.slice va n8 vc).ownBlock = some k → gr < k ∧ w.heap.size + 2 ≤ k from fun k hk => by
    have h1 := (o3.lt k hk).1
    have h2 := HR.out.rs.lt
    have h3 := HR.out.ne
    omega)))
  have HBO := hideIt b3
  clear o3 r3 b3 hstep k3 rc4 hsB
  go_wp2_with fail
  refine HBD8.out.mono ?_
  clear HBD8
  rintro e w5 ⟨rfl, r5, b5⟩
  have rc5 := HR4.out.bad b5 r5
  obtain ⟨_, ⟨y0, y1, y2, y3, y4, y5, y6⟩, ⟨z0, z1, z2, z3, z4, z5, z6⟩⟩ := seven_at rc5.b1
  have rc6 := rc5.set 1 (.slice va n8 vc)
  simp only [List.setIfInBounds_toArray, List.set_cons_zero, List.set_cons_succ] at rc6
  have HR6 := hideIt rc6
  have HB5 := hideIt b5
  clear r5 b5 rc5 rc6 m0 m1 mf0 mf1 hb8
  obtain ⟨v1, hv1⟩ : ∃ v1, rdV 2 sB = v1 := ⟨_, rfl⟩
  obtain ⟨s2, hs2⟩ : ∃ s2, rdS 2 sB = s2 := ⟨_, rfl⟩
  have HC_v1 := hideIt (word_r (w5.setCell ⟨w.heap.size + 1, 1, none⟩ (.slice va n8 vc)) gr g h sB HR6.out.rs)
  rw [hv1, hs2] at HC_v1
  have HE_v1 := hideIt (And.intro hv1 hs2)
  clear hv1 hs2
  go_wp2_with fail
  refine HC_v1.out.mono ?_
  clear HC_v1
  rintro e w6 ⟨rfl, r9, b9⟩
  have HR7_0 := HR6.out.call b9 r9
  have HB9 := hideIt b9
  obtain ⟨_, ⟨y0, y1, y2, y3, y4, y5, y6⟩, ⟨z0, z1, z2, z3, z4, z5, z6⟩⟩ := seven_at HR7_0.b1
  have HR7_1 := HR7_0.set 2 (.int .i64 v1)
  simp only [List.setIfInBounds_toArray, List.set_cons_zero, List.set_cons_succ] at HR7_1
  have HR7 := hideIt HR7_1
  clear r9 b9 HR7_0 HR7_1
  obtain ⟨L, hL, hleft⟩ := HR7.out.left
  have HLF := hideIt hleft
  obtain ⟨ec, hec, hec0, hecx⟩ := HR7.out.cells
  obtain ⟨_, m0, m1, _, _⟩ := two_at hec
  have HEC := hideIt (And.intro hec0 (And.intro hecx hL))
  clear hleft hec hec0 hecx hL
  obtain ⟨bb, hbb⟩ : ∃ bb, decide (0 < L) = bb := ⟨_, rfl⟩
  have HBD := hideIt (show ∀ W', After (w6.setCell ⟨w.heap.size + 1, 2, none⟩ (.int .i64 v1)) W' → Calls Try.prog 60 #[Ptr gr, .bool bb, .int .i64 4] W' fun e W'' => e = .returned (.tuple #[]) ∧ RdC w W'' gr g h (badS bb 4 s2) #[.int .i64 57856, .slice va n8 vc, .int .i64 v1, .int .i64 0, .int .i64 0, .slice none 0 0, .slice none 0 0] ∧ But (One gr) W' W'' from fun W' a' => (bad_r W' gr g h s2 (HR7.out.after a').rs bb 4 (by decide)).mono fun e W'' ⟨he, r, b⟩ => ⟨he, (HR7.out.after a').bad b r, b⟩)
  go_wp2_with fail
  refine (HLF.out _ After.rfl).mono ?_
  clear HLF
  rintro e wl ⟨rfl, al⟩
  have HAL := hideIt al
  clear al
  go_wp2_with fail
  try rw [hbb]
  refine (HBD.out _ HAL.out).mono ?_
  rintro e wb ⟨rfl, rcb, tbw⟩
  obtain ⟨eb, heb, heb0, hebx⟩ := rcb.cells
  obtain ⟨_, t0, t1, _, _⟩ := two_at heb
  obtain ⟨_, ⟨y0, y1, y2, y3, y4, y5, y6⟩, _⟩ := seven_at rcb.b1
  obtain ⟨_, ⟨q0, q1, q2, q3, q4, q5, q6⟩, ⟨z0, z1, z2, z3, z4, z5, z6⟩⟩ := seven_at rcb.b0
  have hng : ¬ gr = w.heap.size := by have := rcb.ne; omega
  have hng' : ¬ w.heap.size = gr := by have := rcb.ne; omega
  have HRB := hideIt (And.intro rcb (And.intro heb0 hebx))
  have HBB := hideIt hbb
  have HTB := hideIt (HAL.out.but.trans tbw)
  clear tbw
  clear rcb heb heb0 hebx HBD HAL hbb m0 m1
  go_wp2_with fail
  go_region
  go_wp2_with fail
  have hn8 := HN8.out.1
  subst hn8
  obtain ⟨rcb, heb0, hebx⟩ := HRB.out
  have bw9 : But (One w.heap.size) wb (((((((wb.setCell ⟨w.heap.size, 0, none⟩ (.int .i64 57856)).setCell ⟨w.heap.size, 1, none⟩ (.slice va (ocVal zs).length vc)).setCell ⟨w.heap.size, 2, none⟩ (.int .i64 v1)).setCell ⟨w.heap.size, 3, none⟩ (.int .i64 0)).setCell ⟨w.heap.size, 4, none⟩ (.int .i64 0)).setCell ⟨w.heap.size, 5, none⟩ (.slice none 0 0)).setCell ⟨w.heap.size, 6, none⟩ (.slice none 0 0)).drew := by
    refine But.trans ?_ (After.rfl.draws 1).but
    iterate 7 refine But.set (S := One w.heap.size) ?_ ⟨w.heap.size, _, none⟩ (fun _ => Eq.refl _) _
    exact But.rfl
  refine bodyPost_ret (v := .tuple #[.agg #[.int .i64 57856, .slice va (ocVal zs).length vc, .int .i64 v1, .int .i64 0, .int .i64 0, .slice none 0 0, .slice none 0 0], .int .i64 eb]) (by simp [results, Try.results37, go_sem, q0, q1, q2, q3, q4, q5, q6]) rfl ?_
  exact outR_end (X := ⟨57856, ocVal zs, v1, 0, 0, [], []⟩) (sa := va) (sc := vc) (oa := none) (oc := 0) (ba := none) (bc := 0) (by have hE := HE.out; rw [HB8.out, HSB.out, HE_v1.out.1, HE_v1.out.2] at hE; exact hE) HEC.out.2.2 HBB.out rcb.rs heb0 hebx (rcb.aft.but.then bw9 (fun i hi t => by have t' : i = w.heap.size := t; omega)) (fun us hus => by
    have hne := rcb.ne
    have tt : But (fun k => k = w.heap.size ∨ k = w.heap.size + 1 ∨ k = gr ∨ k = g) w3 _ := ((((((But.own1 w3 gr 1 (.int .i64 er)).mono (fun i _ t => .inr (.inr (.inl t)))).trans (HB5.out.mono (fun i _ t => .inr (.inr (.inl t))))).trans ((But.own1 w5 (w.heap.size + 1) 1 (.slice va (ocVal zs).length vc)).mono (fun i _ t => .inr (.inl t)))).trans (HB9.out.mono (fun i _ t => t.elim (fun t => .inr (.inr (.inl t))) (fun t => .inr (.inr (.inr t)))))).trans ((But.own1 w6 (w.heap.size + 1) 2 (.int .i64 v1)).mono (fun i _ t => .inr (.inl t)))).trans ((HTB.out.mono (fun i _ t => .inr (.inr (.inl t)))).trans (bw9.mono (fun i _ t => .inl t)))
    obtain ⟨ya, yc, hq, ry, rn, _, rb⟩ := own_row HOW.out.1 (ocVal_bs HB.out)
    cases hq
    have hlim := ocVal_len HB.out
    refine MsgX.ofSys _ _ _ _ ?_ ?_ ?_ ?_
    · exact ry.but2 tt (fun y hy h0 t => by
        have h1 := HOW.out.2.2 _ (rb y hy).1
        have h2 := (HOW.out.1.lt _ (rb y hy).1)
        have h3 := HR.out.rs.lt
        rcases t with t | t | t | t <;> omega)
    · exact rn
    · exact fun y hy _ => by have h1 := HOW.out.2.2 _ (rb y hy).1; omega
    · omega)
theorem read_all (w : World) (k : Int) (hk : alone k = true ∨ inData k = true) (a : Option Addr) (n c : Nat) (zs : List Int) (hr : Row w a n zs) (ha : a = none → n = 0 ∧ c = 0) (hn : n ≤ 140737488355328) :
    Calls Try.prog 37 #[.int .i64 k, .slice a n c] w fun e w' => OutR w w' e (readF k zs) := by
  rcases hk.imp of_decide_eq_true of_decide_eq_true with (rfl | rfl | rfl | rfl | rfl) | (rfl | rfl | rfl)
  · exact read_57856 w a n c zs hr ha hn
  · exact read_58112 w a n c zs hr ha hn
  · exact read_58368 w a n c zs hr ha hn
  · exact read_58624 w a n c zs hr ha hn
  · exact read_58880 w a n c zs hr ha hn
  · exact read_3356 w a n c zs hr ha hn
  · exact read_3357 w a n c zs hr ha hn
  · exact read_3358 w a n c zs hr ha hn
end Go.Proofs.Ytigiakhdaaoljaa
