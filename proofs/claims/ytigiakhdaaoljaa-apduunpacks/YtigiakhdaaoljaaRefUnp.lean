/-
  The document's Unpack.
-/
import Derived.Test.YtigiakhdaaoljaaRefAsk
import Derived.Test.YtigiakhdaaoljaaRefOpen
import Derived.Test.YtigiakhdaaoljaaUnpack
namespace Go.Proofs.Ytigiakhdaaoljaa
open Go.RowKit
set_option maxRecDepth 8000
theorem partR_open (ins : Int → List Int → Except Int (Msg × List Int)) (k' : Int) (zs : List Int) : partR ins k' zs = thn (openF zs) fun p _ => thn (ins p.1 p.2) fun X r => if r.length = 0 then .ok (X, []) else .error 4 := by
  unfold partR openF
  by_cases h1 : 2 ≤ zs.length
  · rw [thn_ok (num_r h1), thn_ok (num_r h1)]
    cases oct false [] (zs.drop 2) with
    | error c => rfl
    | ok x =>
      obtain ⟨b, r⟩ := x
      simp only [thn]
      by_cases hr : r.length = 0
      · rw [if_pos hr, if_pos hr]
        obtain rfl : r = [] := List.length_eq_zero_iff.1 hr
        rfl
      · rw [if_neg hr, if_neg hr]
  · rw [thn_bad (num_rn h1), thn_bad (num_rn h1)]
    rfl
theorem unpack_doc (zs : List Int) : unpackF zs = thn (openF zs) fun p _ => if p.1 = 59136 then (thn (openF p.2) fun q _ => if inData q.1 = true then readF q.1 q.2 else .error 4) else if alone p.1 = true then readF p.1 p.2 else .error 4 := by
  show partR (insD false (Msg.zero 0)) (outer (Msg.zero 0).kind) zs = _
  rw [partR_open]
  cases openF zs with
  | error c => rfl
  | ok x =>
    obtain ⟨⟨k, b⟩, r⟩ := x
    simp only [thn]
    by_cases hk : k = 59136
    · rw [if_pos hk]
      have e : insD false (Msg.zero 0) k b = partR (fun k zs => insF false inData k (Msg.zero 0) zs) (Msg.zero 0).kind b := by unfold insD; rw [if_pos hk, if_neg (by decide)]
      rw [e, partR_open]
      cases openF b with
      | error c => rfl
      | ok x =>
        obtain ⟨⟨k2, b2⟩, r2⟩ := x
        simp only [thn]
        unfold insF
        by_cases hd : inData k2 = true
        · rw [if_pos hd, if_pos hd]
          unfold readF
          cases fieldsF false k2 (Msg.zero 0) b2 with
          | error c => rfl
          | ok x =>
            obtain ⟨X, us⟩ := x
            simp only [thn]
            by_cases hu : us.length = 0
            · rw [if_pos hu]; rfl
            · rw [if_neg hu]
        · rw [if_neg hd, if_neg hd]
          rfl
    · rw [if_neg hk]
      have e : insD false (Msg.zero 0) k b = insF false alone k (Msg.zero 0) b := by unfold insD; rw [if_neg hk]
      rw [e]
      unfold insF
      by_cases hd : alone k = true
      · rw [if_pos hd, if_pos hd]
        rfl
      · rw [if_neg hd, if_neg hd]
        rfl
/-- What the document answers of bytes. -/
def OutU (w w' : World) (e : Ending) (r : Except Int (Msg × List Int)) : Prop :=
  After w w' ∧ Ends r (fun X _ => ∃ sa sc oa oc ba bc, e = .returned (.tuple #[X.val sa sc oa oc ba bc, .int .i64 0]) ∧ MsgX w' (fun k => w.heap.size ≤ k) X sa sc oa oc ba bc) (fun c => e = .returned (.tuple #[(Msg.zero 0).val none 0 none 0 none 0, .int .i64 c]))
set_option maxHeartbeats 2000000 in
theorem runpack_any (w : World) (a : Option Addr) (n c : Nat) (zs : List Int) (hr : Row w a n zs) (ha : a = none → n = 0 ∧ c = 0) (hn : n ≤ 140737488355328) (hnc : n ≤ c) :
    Calls Try.prog 17 #[.slice a n c] w fun e w' => OutU w w' e (unpackF zs) := by
  obtain ⟨w0, hw0⟩ : ∃ w0, w.alloc (.cells #[.int .i64 0, .slice none 0 0, .int .i64 0, .int .i64 0, .int .i64 0, .slice none 0 0, .slice none 0 0] 26) = w0 := ⟨_, rfl⟩
  have hA : After w w0 := by rw [← hw0]; exact After.rfl.alloc _
  have b0 : w0.heap[w.heap.size]? = some (.cells #[.int .i64 0, .slice none 0 0, .int .i64 0, .int .i64 0, .int .i64 0, .slice none 0 0, .slice none 0 0] 26 (0, 0)) := by rw [← hw0]; exact new1 _ _
  have H1 := hideIt (open_any w0 a n c zs (hr.after hA) ha hn hnc)
  have HX := hideIt (And.intro hA (And.intro b0 hn))
  have HSZ := hideIt (show w0.heap.size = w.heap.size + 1 by rw [← hw0, World.size_alloc])
  have HW := hideIt hw0
  have HU := hideIt (unpack_doc zs)
  generalize unpackF zs = UF at HU ⊢
  clear hA b0 hw0 hr ha hn hnc
  go_enter Try.func17, Try.ntmps17
  go_wp2_with fail
  rw [HW.out]
  refine H1.out.mono ?_
  clear H1 HW
  rintro e w1 ⟨a1, h1⟩
  rcases h1.split with ⟨c9, e1, hc9, rfl⟩ | ⟨⟨k, b⟩, us, e1, pa, pn, pc, rfl, prow, pno, pnn, pnc⟩
  · have hcb : (c9 != 0) = true := by simpa using hc9
    have hbE := keep2 HX.out.2.1 (a1)
    obtain ⟨_, ⟨y0, y1, y2, y3, y4, y5, y6⟩, ⟨z0, z1, z2, z3, z4, z5, z6⟩⟩ := seven_at hbE
    have HE := hideIt (And.intro (HX.out.1.trans (a1)) (HU.out.trans (thn_bad e1)))
    clear h1 e1 a1 hc9 hbE
    go_wp2_with fail
    obtain ⟨aw, he⟩ := HE.out
    refine bodyPost_ret (v := .tuple #[(Msg.zero 0).val none 0 none 0 none 0, .int .i64 c9]) (by simp [results, Try.results17, go_sem, y0, y1, y2, y3, y4, y5, y6, Msg.zero, Msg.val]) rfl ⟨?_, Ends.bad he rfl⟩
    iterate 7 refine After.set ?_ _ (Nat.le_refl _) _
    exact aw
  have hu1 := HU.out.trans (thn_ok e1)
  dsimp only at hu1 prow
  dsimp only
  have HU1 := hideIt hu1
  have HP := hideIt (And.intro prow (And.intro pno (And.intro (show pn ≤ 140737488355328 by have := HX.out.2.2; omega) pnc)))
  have HA1 := hideIt a1
  have HK := hideIt (known_any w1 k)
  clear hu1 e1 h1 prow pno pnn pnc a1 HU
  by_cases hk : k = 59136
  · subst hk
    have H2 := hideIt (open_any w1 pa pn pc b HP.out.1 HP.out.2.1 HP.out.2.2.1 HP.out.2.2.2)
    have HU2 := hideIt (HU1.out.trans (if_pos rfl))
    clear HU1
    go_wp2_with (go_at_call 29; refine HK.out.mono ?_; rintro e w9 ⟨rfl, hw9⟩; have hw8 := hw9.symm; subst hw8; rw [show (alone 59136 || inData 59136) = false from rfl, show inData 59136 = false from rfl])
    refine H2.out.mono ?_
    clear H2 HK
    rintro e w2 ⟨a2, h2⟩
    rcases h2.split with ⟨c9, e1, hc9, rfl⟩ | ⟨⟨k2, b2⟩, us2, e1, ra, rn, rc, rfl, rrow, rno, rnn, rnc⟩
    · have hcb : (c9 != 0) = true := by simpa using hc9
      have hbE := keep2 HX.out.2.1 (HA1.out.trans a2)
      obtain ⟨_, ⟨y0, y1, y2, y3, y4, y5, y6⟩, ⟨z0, z1, z2, z3, z4, z5, z6⟩⟩ := seven_at hbE
      have HE := hideIt (And.intro (HX.out.1.trans (HA1.out.trans a2)) (HU2.out.trans (thn_bad e1)))
      clear h2 e1 a2 hc9 hbE
      go_wp2_with fail
      obtain ⟨aw, he⟩ := HE.out
      refine bodyPost_ret (v := .tuple #[(Msg.zero 0).val none 0 none 0 none 0, .int .i64 c9]) (by simp [results, Try.results17, go_sem, y0, y1, y2, y3, y4, y5, y6, Msg.zero, Msg.val]) rfl ⟨?_, Ends.bad he rfl⟩
      iterate 7 refine After.set ?_ _ (Nat.le_refl _) _
      exact aw
    have hu3 := HU2.out.trans (thn_ok e1)
    dsimp only at hu3 rrow
    dsimp only
    have HU3 := hideIt hu3
    have HQ := hideIt (And.intro rrow (And.intro rno (And.intro (show rn ≤ 140737488355328 by have := HP.out.2.2.1; omega) rnc)))
    have HA2 := hideIt (HA1.out.trans a2)
    have HK2 := hideIt (known_any w2 k2)
    clear hu3 e1 h2 rrow rno rnn rnc a2 HU2
    cases hd : inData k2 with
    | false =>
      rw [hd] at HK2 HU3
      obtain ⟨al, hal⟩ : ∃ al, alone k2 = al := ⟨_, rfl⟩
      rw [hal, Bool.or_false] at HK2
      clear hal
      cases al
      all_goals
        go_wp2_with (go_at_call 29; refine HK2.out.mono ?_; rintro e w9 ⟨rfl, hw9⟩; have hw8 := hw9.symm; subst hw8; obtain ⟨_, ⟨y0, y1, y2, y3, y4, y5, y6⟩, ⟨z0, z1, z2, z3, z4, z5, z6⟩⟩ := seven_at (keep2 HX.out.2.1 HA2.out))
        refine bodyPost_ret (v := .tuple #[(Msg.zero 0).val none 0 none 0 none 0, .int .i64 4]) (by simp [results, Try.results17, go_sem, y0, y1, y2, y3, y4, y5, y6, Msg.zero, Msg.val]) rfl ⟨?_, Ends.bad (HU3.out.trans (if_neg (by first | decide | exact fun h => h))) rfl⟩
        iterate 7 refine After.set ?_ _ (Nat.le_refl _) _
        exact HX.out.1.trans HA2.out
    | true =>
      rw [hd, Bool.or_true] at HK2
      rw [hd] at HU3
      have hkk : alone k2 = true ∨ inData k2 = true := .inr hd
      go_wp2_with (go_at_call 29; refine HK2.out.mono ?_; rintro e w9 ⟨rfl, hw9⟩; have hw8 := hw9.symm; subst hw8)
      clear HK2
      have HRD := hideIt (read_all w2 k2 hkk ra rn rc b2 HQ.out.1 HQ.out.2.1 HQ.out.2.2.1)
      have HAF := hideIt (HA2.out)
      have HEQ := hideIt (HU3.out.trans (if_pos (by first | rfl | trivial)))
      refine HRD.out.mono ?_
      clear HRD
      rintro e w8 ⟨a8, h8⟩
      rcases h8.split with ⟨c9, e1, hc9, v0, q1, n1, c1, i2, i3, i4, q5, n5, c5, q6, n6, c6, rfl⟩ | ⟨X, us, e1, ta, tc, ua, uc, va, vc, rfl, x8⟩
      · have hcb : (c9 != 0) = true := by simpa using hc9
        have hbE := keep2 HX.out.2.1 (HAF.out.trans a8)
        have hb2 := keep2 hbE (After.rfl.alloc (.cells #[.int .i64 v0, .slice q1 n1 c1, .int .i64 i2, .int .i64 i3, .int .i64 i4, .slice q5 n5 c5, .slice q6 n6 c6] 26))
        obtain ⟨_, ⟨y0, y1, y2, y3, y4, y5, y6⟩, ⟨z0, z1, z2, z3, z4, z5, z6⟩⟩ := seven_at hb2
        have HE := hideIt (And.intro (HX.out.1.trans (HAF.out.trans a8)) (HEQ.out.trans e1))
        clear h8 e1 hc9 a8 hbE hb2
        go_wp2_with fail
        obtain ⟨aw, he⟩ := HE.out
        refine bodyPost_ret (v := .tuple #[(Msg.zero 0).val none 0 none 0 none 0, .int .i64 c9]) (by simp [results, Try.results17, go_sem, y0, y1, y2, y3, y4, y5, y6, Msg.zero, Msg.val]) rfl ⟨?_, Ends.bad he rfl⟩
        iterate 7 refine After.set ?_ _ (Nat.le_refl _) _
        exact aw.alloc _
      · have hbE := keep2 HX.out.2.1 (HAF.out.trans a8)
        obtain ⟨Xk, Xs, Xc, Xr, Xq, Xo, Xb⟩ := X
        have hb2 := keep2 hbE (After.rfl.alloc (.cells #[.int .i64 Xk, .slice ta Xs.length tc, .int .i64 Xc, .int .i64 Xr, .int .i64 Xq, .slice ua Xo.length uc, .slice va Xb.length vc] 26))
        obtain ⟨_, ⟨y0, y1, y2, y3, y4, y5, y6⟩, ⟨z0, z1, z2, z3, z4, z5, z6⟩⟩ := seven_at hb2
        have HE := hideIt (And.intro (HX.out.1.trans (HAF.out.trans a8)) (And.intro (HEQ.out.trans e1) (And.intro x8 (show w.heap.size < w2.heap.size by have := HSZ.out; have := HAF.out.size; omega))))
        clear h8 e1 a8 hbE hb2 x8
        unfold Msg.val
        dsimp only
        go_wp2_with fail
        obtain ⟨aw, he, x8, hsz⟩ := HE.out
        refine bodyPost_ret (v := .tuple #[(⟨Xk, Xs, Xc, Xr, Xq, Xo, Xb⟩ : Msg).val ta tc ua uc va vc, .int .i64 0]) (by simp [results, Try.results17, go_sem, y0, y1, y2, y3, y4, y5, y6, Msg.val]) rfl ⟨?_, Ends.ok he ⟨ta, tc, ua, uc, va, vc, rfl, ?_⟩⟩
        · iterate 7 refine After.set ?_ _ (Nat.le_refl _) _
          exact aw.alloc _
        · refine ((x8.after (After.rfl.alloc (.cells #[.int .i64 Xk, .slice ta Xs.length tc, .int .i64 Xc, .int .i64 Xr, .int .i64 Xq, .slice ua Xo.length uc, .slice va Xb.length vc] 26))).but (T := One w.heap.size) ?_ (fun k hk e => by have e' : k = w.heap.size := e; omega)).mono (fun k hk => by omega)
          iterate 7 refine But.set (S := One w.heap.size) ?_ ⟨w.heap.size, _, none⟩ (fun _ => Eq.refl _) _
          exact But.rfl
  · have hkb : (k != 59136) = true := by simpa using hk
    have hkb' : (k == 59136) = false := by simpa using hk
    have HU2 := hideIt (HU1.out.trans (if_neg hk))
    clear HU1 hk
    obtain ⟨al, hal⟩ : ∃ al, alone k = al := ⟨_, rfl⟩
    cases al with
    | true =>
      have hd := (alone_not hal).1
      rw [hal, hd, Bool.or_false] at HK
      rw [hal] at HU2
      have hkk : alone k = true ∨ inData k = true := .inl hal
      go_wp2_with (go_at_call 29; refine HK.out.mono ?_; rintro e w9 ⟨rfl, hw9⟩; have hw8 := hw9.symm; subst hw8)
      clear HK
      have HRD := hideIt (read_all w1 k hkk pa pn pc b HP.out.1 HP.out.2.1 HP.out.2.2.1)
      have HAF := hideIt (HA1.out)
      have HEQ := hideIt (HU2.out.trans (if_pos (by first | rfl | trivial)))
      refine HRD.out.mono ?_
      clear HRD
      rintro e w8 ⟨a8, h8⟩
      rcases h8.split with ⟨c9, e1, hc9, v0, q1, n1, c1, i2, i3, i4, q5, n5, c5, q6, n6, c6, rfl⟩ | ⟨X, us, e1, ta, tc, ua, uc, va, vc, rfl, x8⟩
      · have hcb : (c9 != 0) = true := by simpa using hc9
        have hbE := keep2 HX.out.2.1 (HAF.out.trans a8)
        have hb2 := keep2 hbE (After.rfl.alloc (.cells #[.int .i64 v0, .slice q1 n1 c1, .int .i64 i2, .int .i64 i3, .int .i64 i4, .slice q5 n5 c5, .slice q6 n6 c6] 26))
        obtain ⟨_, ⟨y0, y1, y2, y3, y4, y5, y6⟩, ⟨z0, z1, z2, z3, z4, z5, z6⟩⟩ := seven_at hb2
        have HE := hideIt (And.intro (HX.out.1.trans (HAF.out.trans a8)) (HEQ.out.trans e1))
        clear h8 e1 hc9 a8 hbE hb2
        go_wp2_with fail
        obtain ⟨aw, he⟩ := HE.out
        refine bodyPost_ret (v := .tuple #[(Msg.zero 0).val none 0 none 0 none 0, .int .i64 c9]) (by simp [results, Try.results17, go_sem, y0, y1, y2, y3, y4, y5, y6, Msg.zero, Msg.val]) rfl ⟨?_, Ends.bad he rfl⟩
        iterate 7 refine After.set ?_ _ (Nat.le_refl _) _
        exact aw.alloc _
      · have hbE := keep2 HX.out.2.1 (HAF.out.trans a8)
        obtain ⟨Xk, Xs, Xc, Xr, Xq, Xo, Xb⟩ := X
        have hb2 := keep2 hbE (After.rfl.alloc (.cells #[.int .i64 Xk, .slice ta Xs.length tc, .int .i64 Xc, .int .i64 Xr, .int .i64 Xq, .slice ua Xo.length uc, .slice va Xb.length vc] 26))
        obtain ⟨_, ⟨y0, y1, y2, y3, y4, y5, y6⟩, ⟨z0, z1, z2, z3, z4, z5, z6⟩⟩ := seven_at hb2
        have HE := hideIt (And.intro (HX.out.1.trans (HAF.out.trans a8)) (And.intro (HEQ.out.trans e1) (And.intro x8 (show w.heap.size < w1.heap.size by have := HSZ.out; have := HAF.out.size; omega))))
        clear h8 e1 a8 hbE hb2 x8
        unfold Msg.val
        dsimp only
        go_wp2_with fail
        obtain ⟨aw, he, x8, hsz⟩ := HE.out
        refine bodyPost_ret (v := .tuple #[(⟨Xk, Xs, Xc, Xr, Xq, Xo, Xb⟩ : Msg).val ta tc ua uc va vc, .int .i64 0]) (by simp [results, Try.results17, go_sem, y0, y1, y2, y3, y4, y5, y6, Msg.val]) rfl ⟨?_, Ends.ok he ⟨ta, tc, ua, uc, va, vc, rfl, ?_⟩⟩
        · iterate 7 refine After.set ?_ _ (Nat.le_refl _) _
          exact aw.alloc _
        · refine ((x8.after (After.rfl.alloc (.cells #[.int .i64 Xk, .slice ta Xs.length tc, .int .i64 Xc, .int .i64 Xr, .int .i64 Xq, .slice ua Xo.length uc, .slice va Xb.length vc] 26))).but (T := One w.heap.size) ?_ (fun k hk e => by have e' : k = w.heap.size := e; omega)).mono (fun k hk => by omega)
          iterate 7 refine But.set (S := One w.heap.size) ?_ ⟨w.heap.size, _, none⟩ (fun _ => Eq.refl _) _
          exact But.rfl
    | false =>
      rw [hal, Bool.false_or] at HK
      rw [hal] at HU2
      obtain ⟨di, hdi⟩ : ∃ di, inData k = di := ⟨_, rfl⟩
      rw [hdi] at HK
      clear hal hdi
      cases di
      all_goals
        go_wp2_with (go_at_call 29; refine HK.out.mono ?_; rintro e w9 ⟨rfl, hw9⟩; have hw8 := hw9.symm; subst hw8; obtain ⟨_, ⟨y0, y1, y2, y3, y4, y5, y6⟩, ⟨z0, z1, z2, z3, z4, z5, z6⟩⟩ := seven_at (keep2 HX.out.2.1 HA1.out))
        refine bodyPost_ret (v := .tuple #[(Msg.zero 0).val none 0 none 0 none 0, .int .i64 4]) (by simp [results, Try.results17, go_sem, y0, y1, y2, y3, y4, y5, y6, Msg.zero, Msg.val]) rfl ⟨?_, Ends.bad (HU2.out.trans (if_neg (by first | decide | exact fun h => h))) rfl⟩
        iterate 7 refine After.set ?_ _ (Nat.le_refl _) _
        exact HX.out.1.trans HA1.out
end Go.Proofs.Ytigiakhdaaoljaa
