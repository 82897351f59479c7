/-
  Laid together: Pack, Awake, Packed.
-/
import Derived.Test.YtigiakhdaaoljaaB14
import Derived.Test.YtigiakhdaaoljaaB15
/-
  Pack.
-/
namespace Go.Proofs.Ytigiakhdaaoljaa
open Go.RowKit
set_option maxRecDepth 8000
/-- A message's bytes, or why it has none. -/
def packAll (M : Msg) : Except Int (Unit × List Int) :=
  if alone M.kind = false ∧ inData M.kind = false then .error 2 else if 16 < M.objs.length ∨ 64 < M.obs.length then .error 5 else packF M
theorem packF_len {M : Msg} {u : Unit} {ys : List Int} (h : packF M = .ok (u, ys)) : ys.length ≤ 65539 := by
  obtain ⟨X, zs, e, h⟩ := thn_inv h
  split at h
  · cases h
    obtain ⟨bs, _, _, hb, rfl⟩ := partW_inv e
    unfold boxB
    rw [List.nil_append, List.length_append, List.length_append, bytesOf_length, bytesOf_length]
    omega
  · cases h
set_option maxHeartbeats 1000000 in
theorem pack_any (w : World) (P : Nat → Prop) (M : Msg) (sa : Option Addr) (sc : Nat) (oa : Option Addr) (oc : Nat) (ba : Option Addr) (bc : Nat) (x : MsgX w P M sa sc oa oc ba bc) (hP : ∀ k, P k → k < w.heap.size) :
    Calls Try.prog 10 #[M.val sa sc oa oc ba bc] w fun e w' => After w w' ∧ Ends (packAll M) (fun _ zs => Bs zs ∧ zs.length ≤ 65539 ∧ ∃ a c, e = .returned (.tuple #[.slice a zs.length c, .int .i64 0]) ∧ w'.ownsRow w.heap.size 5 1 (.slice a zs.length c) zs.length (u8s zs)) (fun c => e = .returned (.tuple #[.slice none 0 0, .int .i64 c]) ∧ (c = 2 ∨ c = 5)) := by
  have hmf : ∀ (fn : Fn) (first cap : Array Value) (w : World), (Instr.makeFunc fn first cap).run Try.prog w = .ok (.func fn first cap) w := fun _ _ _ _ => rfl
  obtain ⟨w0, hw0⟩ : ∃ w0, w.alloc (.cells (M.cells sa sc oa oc ba bc) 26) = w0 := ⟨_, rfl⟩
  have hA : After w w0 := by rw [← hw0]; exact After.rfl.alloc _
  have b0 : w0.heap[w.heap.size]? = some (.cells (M.cells sa sc oa oc ba bc) 26 (0, 0)) := by rw [← hw0]; exact new1 _ _
  have hsz : w0.heap.size = w.heap.size + 1 := by rw [← hw0, World.size_alloc]
  have H1 := hideIt (writer_any w0)
  have HX := hideIt (And.intro hA (And.intro b0 (And.intro hsz (And.intro x hP))))
  have HL := hideIt (fun W => alone_any W M.kind)
  have HD := hideIt (fun W => inData_any W M.kind)
  have HE1 : Hid (alone M.kind = false → inData M.kind = false → packAll M = .error 2) := fun h1 h2 => if_pos ⟨h1, h2⟩
  have HE2 : Hid (¬ (alone M.kind = false ∧ inData M.kind = false) → 16 < M.objs.length ∨ 64 < M.obs.length → packAll M = .error 5) := fun h1 h2 => (if_neg h1).trans (if_pos h2)
  have HE3 : Hid (¬ (alone M.kind = false ∧ inData M.kind = false) → ¬ (16 < M.objs.length ∨ 64 < M.obs.length) → packAll M = packF M) := fun h1 h2 => (if_neg h1).trans (if_neg h2)
  have HCell := hideIt (show M.cells sa sc oa oc ba bc = #[.int .i64 M.kind, .slice sa M.sys.length sc, .int .i64 M.config, .int .i64 M.result, .int .i64 M.reason, .slice oa M.objs.length oc, .slice ba M.obs.length bc] from rfl)
  have hw0' := hw0
  rw [HCell.out] at hw0'
  have HW0 := hideIt hw0'
  clear hA b0 hsz x hP hw0 hw0'
  unfold Msg.val
  generalize packAll M = PA at HE1 HE2 HE3 ⊢
  obtain ⟨d1, h1⟩ : ∃ d, alone M.kind = d := ⟨_, rfl⟩
  obtain ⟨d2, h2⟩ : ∃ d, inData M.kind = d := ⟨_, rfl⟩
  rw [h1] at HL HE1 HE2 HE3
  rw [h2] at HD HE1 HE2 HE3
  clear h1 h2
  generalize hn1 : M.objs.length = n1 at HE2 HE3 HCell HW0 ⊢
  generalize hn2 : M.obs.length = n2 at HE2 HE3 HCell HW0 ⊢
  clear hn1 hn2
  by_cases hk : d1 = false ∧ d2 = false
  · obtain ⟨rfl, rfl⟩ := hk
    have e := hideIt (HE1.out rfl rfl)
    clear HE1 HE2 HE3 HCell
    go_enter Try.func10, Try.ntmps10
    go_wp2_with (first | (go_at_call 20; refine (HL.out _).mono ?_; rintro e w9 ⟨rfl, rfl⟩) | (go_at_call 21; refine (HD.out _).mono ?_; rintro e w9 ⟨rfl, rfl⟩))
    go_ret2
    exact ⟨by rw [HW0.out]; exact HX.out.1, Ends.bad e.out ⟨rfl, .inl rfl⟩⟩
  cases d1 with
  | true =>
    by_cases hl1 : (16 : Int) < (n1 : Int)
    · have e := hideIt (HE2.out hk (by omega))
      clear HE1 HE2 HE3 HCell hk
      go_enter Try.func10, Try.ntmps10
      go_wp2_with (first | (go_at_call 20; refine (HL.out _).mono ?_; rintro e w9 ⟨rfl, rfl⟩) | (go_at_call 21; refine (HD.out _).mono ?_; rintro e w9 ⟨rfl, rfl⟩))
      go_ret2
      exact ⟨by rw [HW0.out]; exact HX.out.1, Ends.bad e.out ⟨rfl, .inr rfl⟩⟩
    by_cases hl2 : (64 : Int) < (n2 : Int)
    · have e := hideIt (HE2.out hk (by omega))
      clear HE1 HE2 HE3 HCell hk
      go_enter Try.func10, Try.ntmps10
      go_wp2_with (first | (go_at_call 20; refine (HL.out _).mono ?_; rintro e w9 ⟨rfl, rfl⟩) | (go_at_call 21; refine (HD.out _).mono ?_; rintro e w9 ⟨rfl, rfl⟩))
      go_ret2
      exact ⟨by rw [HW0.out]; exact HX.out.1, Ends.bad e.out ⟨rfl, .inr rfl⟩⟩
    · have eP := hideIt (HE3.out hk (by omega))
      clear hk
      clear HE1 HE2 HE3
      go_enter Try.func10, Try.ntmps10
      go_wp2_with (first | (go_at_call 20; refine (HL.out _).mono ?_; rintro e w9 ⟨rfl, rfl⟩) | (go_at_call 21; refine (HD.out _).mono ?_; rintro e w9 ⟨rfl, rfl⟩))
      rw [HW0.out]
      refine H1.out.mono ?_
      clear H1 HL HD
      rintro e w1 ⟨q, S, rfl, cd, a1, hS⟩
      obtain ⟨hA, b0, hsz, x, hP⟩ := HX.out
      have b01 := (But.block a1 _ (by omega) (fun t => t)).trans b0
      have hsl := a1.size
      have ax : After w1 (w1.alloc (.cells #[.pointer none, .pointer q] 52)) := After.rfl.alloc _
      have ka : Keeps (w1.alloc (.cells #[.pointer none, .pointer q] 52)) S w.heap.size (.cells (M.cells sa sc oa oc ba bc) 26 (0, 0)) := ⟨new_past _ _ b01, fun h => by have := hS _ h; omega⟩
      have kc : Keeps (w1.alloc (.cells #[.pointer none, .pointer q] 52)) S w1.heap.size (.cells #[.pointer none, .pointer q] 52 (0, 0)) := ⟨new1 _ _, fun h => by have := cd.lt _ h; omega⟩
      have hall := hA.trans (a1.trans ax)
      have H2 := hideIt (caught24 _ w.heap.size w1.heap.size q S P M sa sc oa oc ba bc ka kc (cd.after ax) (x.after hall) (fun k hk => ⟨fun h => by have := hS _ h; have := hP _ hk; omega, Nat.lt_of_lt_of_le (hP k hk) hall.size⟩))
      have HY := hideIt (And.intro hall (And.intro kc (And.intro hS hA.size)))
      clear hA b0 hsz b01 hsl ax ka kc HX HW0 cd a1 hS x hP hall
      go_wp2_with fail
      refine H2.out.mono ?_
      clear H2
      intro e w2 h2
      obtain ⟨hall, kc, hS, hsz⟩ := HY.out
      rcases h2.split with ⟨c9, e1, rfl, t⟩ | ⟨_, us, e1, rfl, S', k', s'⟩
      · have hc : c9 = 2 := packF_err e1
        subst hc
        have HZ := hideIt (And.intro (eP.out.trans e1) (show After w w2 from hall.but.then t (fun i hi h => by have := hS _ h; omega)))
        clear hall kc hS hsz h2 e1 t HY eP
        go_wp2_with fail
        go_ret2
        exact ⟨HZ.out.2, Ends.bad HZ.out.1 ⟨rfl, .inl rfl⟩⟩
      · have kc2 := kc.step s'
        obtain ⟨_, y0, y1, _, _⟩ := two_at kc2.at0
        have aw : After w w2 := hall.but.then s'.but (fun i hi h => by have := hS _ h; omega)
        have hl9 := packF_len e1
        have H3 := hideIt (c_bytes w2 q us S' k' (by omega))
        have HZ := hideIt (And.intro (eP.out.trans e1) (And.intro aw (And.intro k'.bs hl9)))
        clear hall kc hS hsz h2 e1 HY eP kc2 s' aw k' hl9
        go_wp2_with fail
        refine H3.out.mono ?_
        clear H3
        rintro e w3 ⟨xa, xc, rfl, ho, a3⟩
        have HO := hideIt (And.intro ho a3)
        clear ho a3
        generalize hus : us.length = nu at HO HZ ⊢
        have HUS := hideIt hus
        clear hus
        go_wp2_with fail
        go_ret2
        obtain ⟨ho, a3⟩ := HO.out
        obtain ⟨e1, aw, hbs, hl9⟩ := HZ.out
        rw [← HUS.out] at ho hl9 ⊢
        exact ⟨aw.trans a3, Ends.ok e1 ⟨hbs, hl9, xa, xc, rfl, own_base ho (fun k hk => Nat.le_trans aw.size (ho.lt k hk).1)⟩⟩
  | false =>
    obtain rfl : d2 = true := by
      cases d2
      · exact absurd ⟨rfl, rfl⟩ hk
      · rfl
    by_cases hl1 : (16 : Int) < (n1 : Int)
    · have e := hideIt (HE2.out hk (by omega))
      clear HE1 HE2 HE3 HCell hk
      go_enter Try.func10, Try.ntmps10
      go_wp2_with (first | (go_at_call 20; refine (HL.out _).mono ?_; rintro e w9 ⟨rfl, rfl⟩) | (go_at_call 21; refine (HD.out _).mono ?_; rintro e w9 ⟨rfl, rfl⟩))
      go_ret2
      exact ⟨by rw [HW0.out]; exact HX.out.1, Ends.bad e.out ⟨rfl, .inr rfl⟩⟩
    by_cases hl2 : (64 : Int) < (n2 : Int)
    · have e := hideIt (HE2.out hk (by omega))
      clear HE1 HE2 HE3 HCell hk
      go_enter Try.func10, Try.ntmps10
      go_wp2_with (first | (go_at_call 20; refine (HL.out _).mono ?_; rintro e w9 ⟨rfl, rfl⟩) | (go_at_call 21; refine (HD.out _).mono ?_; rintro e w9 ⟨rfl, rfl⟩))
      go_ret2
      exact ⟨by rw [HW0.out]; exact HX.out.1, Ends.bad e.out ⟨rfl, .inr rfl⟩⟩
    · have eP := hideIt (HE3.out hk (by omega))
      clear hk
      clear HE1 HE2 HE3
      go_enter Try.func10, Try.ntmps10
      go_wp2_with (first | (go_at_call 20; refine (HL.out _).mono ?_; rintro e w9 ⟨rfl, rfl⟩) | (go_at_call 21; refine (HD.out _).mono ?_; rintro e w9 ⟨rfl, rfl⟩))
      rw [HW0.out]
      refine H1.out.mono ?_
      clear H1 HL HD
      rintro e w1 ⟨q, S, rfl, cd, a1, hS⟩
      obtain ⟨hA, b0, hsz, x, hP⟩ := HX.out
      have b01 := (But.block a1 _ (by omega) (fun t => t)).trans b0
      have hsl := a1.size
      have ax : After w1 (w1.alloc (.cells #[.pointer none, .pointer q] 52)) := After.rfl.alloc _
      have ka : Keeps (w1.alloc (.cells #[.pointer none, .pointer q] 52)) S w.heap.size (.cells (M.cells sa sc oa oc ba bc) 26 (0, 0)) := ⟨new_past _ _ b01, fun h => by have := hS _ h; omega⟩
      have kc : Keeps (w1.alloc (.cells #[.pointer none, .pointer q] 52)) S w1.heap.size (.cells #[.pointer none, .pointer q] 52 (0, 0)) := ⟨new1 _ _, fun h => by have := cd.lt _ h; omega⟩
      have hall := hA.trans (a1.trans ax)
      have H2 := hideIt (caught24 _ w.heap.size w1.heap.size q S P M sa sc oa oc ba bc ka kc (cd.after ax) (x.after hall) (fun k hk => ⟨fun h => by have := hS _ h; have := hP _ hk; omega, Nat.lt_of_lt_of_le (hP k hk) hall.size⟩))
      have HY := hideIt (And.intro hall (And.intro kc (And.intro hS hA.size)))
      clear hA b0 hsz b01 hsl ax ka kc HX HW0 cd a1 hS x hP hall
      go_wp2_with fail
      refine H2.out.mono ?_
      clear H2
      intro e w2 h2
      obtain ⟨hall, kc, hS, hsz⟩ := HY.out
      rcases h2.split with ⟨c9, e1, rfl, t⟩ | ⟨_, us, e1, rfl, S', k', s'⟩
      · have hc : c9 = 2 := packF_err e1
        subst hc
        have HZ := hideIt (And.intro (eP.out.trans e1) (show After w w2 from hall.but.then t (fun i hi h => by have := hS _ h; omega)))
        clear hall kc hS hsz h2 e1 t HY eP
        go_wp2_with fail
        go_ret2
        exact ⟨HZ.out.2, Ends.bad HZ.out.1 ⟨rfl, .inl rfl⟩⟩
      · have kc2 := kc.step s'
        obtain ⟨_, y0, y1, _, _⟩ := two_at kc2.at0
        have aw : After w w2 := hall.but.then s'.but (fun i hi h => by have := hS _ h; omega)
        have hl9 := packF_len e1
        have H3 := hideIt (c_bytes w2 q us S' k' (by omega))
        have HZ := hideIt (And.intro (eP.out.trans e1) (And.intro aw (And.intro k'.bs hl9)))
        clear hall kc hS hsz h2 e1 HY eP kc2 s' aw k' hl9
        go_wp2_with fail
        refine H3.out.mono ?_
        clear H3
        rintro e w3 ⟨xa, xc, rfl, ho, a3⟩
        have HO := hideIt (And.intro ho a3)
        clear ho a3
        generalize hus : us.length = nu at HO HZ ⊢
        have HUS := hideIt hus
        clear hus
        go_wp2_with fail
        go_ret2
        obtain ⟨ho, a3⟩ := HO.out
        obtain ⟨e1, aw, hbs, hl9⟩ := HZ.out
        rw [← HUS.out] at ho hl9 ⊢
        exact ⟨aw.trans a3, Ends.ok e1 ⟨hbs, hl9, xa, xc, rfl, own_base ho (fun k hk => Nat.le_trans aw.size (ho.lt k hk).1)⟩⟩
end Go.Proofs.Ytigiakhdaaoljaa
/-
  The statements' own messages: scan, awake.
-/
namespace Go.Proofs.Ytigiakhdaaoljaa
open Go.RowKit
set_option maxRecDepth 8000
def scanM : Msg := ⟨3358, [], 0, 0, 0, [], [⟨1, false, 366⟩]⟩
def ansM : Msg := ⟨58112, [], 258, 3, 0, [], []⟩
theorem ans_bytes : packAll ansM = .ok ((), [227, 0, 0, 4, 0, 3, 1, 2]) := by kernel_rfl
theorem scan_bytes : packAll scanM = .ok ((), [231, 0, 0, 11, 13, 30, 0, 7, 0, 1, 0, 1, 2, 1, 110]) := by kernel_rfl
theorem scan_back : unpackF [231, 0, 0, 11, 13, 30, 0, 7, 0, 1, 0, 1, 2, 1, 110] = .ok (scanM, []) := by kernel_rfl
theorem lit_row (w : World) (zs : List Int) (cs : Array Value) (n : Nat) (hc : cs.toList = u8s zs) (hn : zs.length = n) (hb : Bs zs) : Row (w.alloc (.cells cs 5)) (some ⟨w.heap.size, 0, none⟩) n zs := by
  refine ⟨hn, hb, fun i hi => ⟨w.heap.size, 0, rfl, by simp, ?_⟩⟩
  have h := World.news_of_block (heap_alloc_new w (.cells cs 5)) i (.int .u8 (zs.getD i 0)) (by rw [hc]; simp [u8s, show i < zs.length by omega])
  have e : (⟨w.heap.size, 0, none⟩ : Addr).add i = ⟨w.heap.size, 0 + i, none⟩ := by
    by_cases h0 : i = 0
    · subst h0; simp [Addr.add]
    · simp [Addr.add, h0]
  rw [e] at h; exact h
theorem bs_of (zs : List Int) (h : zs.all (fun z => decide (0 ≤ z) && decide (z ≤ 255)) = true) : Bs zs := fun z hz => by
  have := List.all_eq_true.1 h z hz
  simp at this
  exact this
theorem MsgX.upto {w : World} {P : Nat → Prop} {M : Msg} {sa : Option Addr} {sc : Nat} {oa : Option Addr} {oc : Nat} {ba : Option Addr} {bc : Nat} (x : MsgX w P M sa sc oa oc ba bc) : MsgX w (fun k => P k ∧ k < w.heap.size) M sa sc oa oc ba bc :=
  ⟨x.sr, x.sn, fun y hy h0 => ⟨x.sp y hy h0, by obtain ⟨b, off, e, hl, _⟩ := x.sr.2.2 0 h0; rw [hy] at e; cases e; exact hl⟩, x.sl, x.or, x.on, fun y hy h0 => ⟨x.op y hy h0, by obtain ⟨b, off, _, e, hl, _⟩ := x.or.2 0 h0; rw [hy] at e; cases e; exact hl⟩, x.br, x.bn, fun y hy h0 => ⟨x.bp y hy h0, by obtain ⟨b, off, _, e, hl, _⟩ := x.br.2 0 h0; rw [hy] at e; cases e; exact hl⟩, x.bb⟩
theorem scan_any (w : World) : Calls Try.prog 33 #[] w fun e w' => ∃ b, e = .returned (scanM.val none 0 none 0 (some ⟨b, 0, none⟩) 1) ∧ MsgX w' (fun k => w.heap.size ≤ k) scanM none 0 none 0 (some ⟨b, 0, none⟩) 1 ∧ After w w' := by
  go_enter Try.func33, Try.ntmps33
  go_wp2_with fail
  obtain ⟨b0, b1⟩ := new2 w (.cells #[.int .i64 3358, .slice none 0 0, .int .i64 0, .int .i64 0, .int .i64 0, .slice none 0 0, .slice (some ⟨w.heap.size + 1, 0, none⟩) 1 1] 26) (.cells #[.int .i64 1, .bool false, .int .u32 366] 46)
  obtain ⟨_, ⟨y0, y1, y2, y3, y4, y5, y6⟩, _⟩ := seven_at b0
  refine bodyPost_ret (v := scanM.val none 0 none 0 (some ⟨w.heap.size + 1, 0, none⟩) 1) (by simp [results, Try.results33, go_sem, y0, y1, y2, y3, y4, y5, y6, scanM, Msg.val]) rfl ⟨w.heap.size + 1, rfl, ?_, (After.rfl.alloc _).alloc _⟩
  exact MsgX.ofObs 3358 0 0 0 (l := [⟨1, false, 366⟩]) (RowT.of (xs := [Bi.t3 ⟨1, false, 366⟩]) b1) (by omega) (fun o ho => by rw [List.mem_singleton.1 ho]; decide)
set_option maxHeartbeats 2000000 in
theorem awake_any (w : World) : Calls Try.prog 14 #[] w fun e w' => e = .returned (.bool true) ∧ After w w' := by
  have H1 := hideIt (pack_any w (fun _ => False) ansM none 0 none 0 none 0 (MsgX.nils w _ 58112 258 3 0) (fun k h => h.elim))
  rw [ans_bytes] at H1
  go_enter Try.func14, Try.ntmps14
  go_wp2_with fail
  refine H1.out.mono ?_
  clear H1
  rintro e w1 ⟨a1, _, _, pa, pc, rfl, o1⟩
  have HA := hideIt a1
  have HO := hideIt o1
  have H2 := hideIt (scan_any w1)
  clear a1 o1
  go_wp2_with fail
  refine H2.out.mono ?_
  clear H2
  rintro e w2 ⟨b, rfl, x2, a2⟩
  have H3 := hideIt (pack_any w2 (fun k => w1.heap.size ≤ k ∧ k < w2.heap.size) scanM none 0 none 0 (some ⟨b, 0, none⟩) 1 (MsgX.upto x2) (fun k h => h.2))
  rw [scan_bytes] at H3
  have HA2 := hideIt (HA.out.trans a2)
  have HO2 := hideIt (own_after HO.out a2)
  clear a2 x2 HA HO
  go_wp2_with fail
  refine H3.out.mono ?_
  clear H3
  rintro e w3 ⟨a3, hbs, _, qa, qc, rfl, o3⟩
  obtain ⟨qa', qc', hq, r3, rn3, _, _⟩ := own_row o3 hbs
  cases hq
  have H4 := hideIt (unpack_any w3 qa _ qc _ r3 rn3 (by decide))
  rw [scan_back] at H4
  have HA3 := hideIt (HA2.out.trans a3)
  have HO3 := hideIt (And.intro (own_after HO2.out a3) r3)
  clear a3 o3 hbs r3 rn3 HA2 HO2
  go_wp2_with fail
  refine H4.out.mono ?_
  clear H4
  rintro e w4 ⟨a4, v, rfl, xa, xc, ya, yc, za, zc, rfl, x4, _⟩
  have hA4 := HA3.out.trans a4
  obtain ⟨oA, rB⟩ := HO3.out
  have oA4 := own_after oA a4
  have rB4 := rB.after a4
  obtain ⟨pa', pc', hp, rA4, _, _, _⟩ := own_row oA4 (bs_of _ (by decide))
  cases hp
  unfold Msg.val scanM
  dsimp only [List.length_nil, List.length_cons, Nat.zero_add, Nat.reduceAdd]
  have HX := hideIt (And.intro hA4 (And.intro rA4 (And.intro rB4 x4)))
  clear hA4 oA rB oA4 rB4 rA4 x4 a4 HA3 HO3
  go_wp2_with fail
  have b5 := new1 w4 (.cells #[.int .i64 3358, .slice xa 0 xc, .int .i64 0, .int .i64 0, .int .i64 0, .slice ya 0 yc, .slice za 1 zc] 26)
  have a5 : After w4 (w4.alloc (.cells #[.int .i64 3358, .slice xa 0 xc, .int .i64 0, .int .i64 0, .int .i64 0, .slice ya 0 yc, .slice za 1 zc] 26)) := After.rfl.alloc _
  obtain ⟨_, ⟨g0, g1, g2, g3, g4, g5, g6⟩, _⟩ := seven_at b5
  refine wp_region_held_drew (S := (fun W => W.cell? ⟨w4.heap.size, 0, none⟩ = some (.int .i64 3358) ∧ W.cell? ⟨w4.heap.size, 1, none⟩ = some (.slice xa 0 xc) ∧ W.cell? ⟨w4.heap.size, 2, none⟩ = some (.int .i64 0) ∧ W.cell? ⟨w4.heap.size, 3, none⟩ = some (.int .i64 0) ∧ W.cell? ⟨w4.heap.size, 4, none⟩ = some (.int .i64 0) ∧ W.cell? ⟨w4.heap.size, 5, none⟩ = some (.slice ya 0 yc) ∧ W.cell? ⟨w4.heap.size, 6, none⟩ = some (.slice za 1 zc) ∧ After w4 W ∧ w4.heap.size < W.heap.size)) rfl ⟨g0, g1, g2, g3, g4, g5, g6, (a5.draws 1), by rw [World.size_drew]; simp⟩ (fun hHeld => ?_)
  generalize (w4.alloc (.cells #[.int .i64 3358, .slice xa 0 xc, .int .i64 0, .int .i64 0, .int .i64 0, .slice ya 0 yc, .slice za 1 zc] 26)).drew = w5 at hHeld ⊢
  clear b5 a5 g0 g1 g2 g3 g4 g5 g6
  refine' takeD (i := 0) (d := some 22) (v := _) rfl rfl (by kernel_rfl) (by kernel_rfl) (by kernel_rfl) (fun _ _ _ h => h) (by rfl) hHeld (fun w hSw => ?_) ?_
  rotate_left 1
  · (try dsimp only at hSw)
    go_simp
    try with_reducible rfl
  try simp only [Act.put, List.setIfInBounds_toArray, List.set_cons_zero, List.set_cons_succ]
  refine' takeD (i := 1) (d := some 23) (v := _) rfl rfl (by kernel_rfl) (by kernel_rfl) (by kernel_rfl) (fun _ _ _ h => h) (by rfl) hHeld (fun w hSw => ?_) ?_
  rotate_left 1
  · (try dsimp only at hSw)
    go_simp
    try with_reducible rfl
  try simp only [Act.put, List.setIfInBounds_toArray, List.set_cons_zero, List.set_cons_succ]
  refine' takeD (i := 2) (d := some 24) (v := _) rfl rfl (by kernel_rfl) (by kernel_rfl) (by kernel_rfl) (fun _ _ _ h => h) (by rfl) hHeld (fun w hSw => ?_) ?_
  rotate_left 1
  · (try dsimp only at hSw)
    go_simp
    try with_reducible rfl
  try simp only [Act.put, List.setIfInBounds_toArray, List.set_cons_zero, List.set_cons_succ]
  refine' takeD (i := 3) (d := some 25) (v := _) rfl rfl (by kernel_rfl) (by kernel_rfl) (by kernel_rfl) (fun _ _ _ h => h) (by rfl) hHeld (fun w hSw => ?_) ?_
  rotate_left 1
  · (try dsimp only at hSw)
    go_simp
    try with_reducible rfl
  try simp only [Act.put, List.setIfInBounds_toArray, List.set_cons_zero, List.set_cons_succ]
  refine' takeD (i := 4) (d := some 26) (v := _) rfl rfl (by kernel_rfl) (by kernel_rfl) (by kernel_rfl) (fun _ _ _ h => h) (by rfl) hHeld (fun w hSw => ?_) ?_
  rotate_left 1
  · (try dsimp only at hSw)
    go_simp
    try with_reducible rfl
  try simp only [Act.put, List.setIfInBounds_toArray, List.set_cons_zero, List.set_cons_succ]
  refine' takeD (i := 5) (d := some 27) (v := _) rfl rfl (by kernel_rfl) (by kernel_rfl) (by kernel_rfl) (fun _ _ _ h => h) (by rfl) hHeld (fun w hSw => ?_) ?_
  rotate_left 1
  · (try dsimp only at hSw)
    go_simp
    try with_reducible rfl
  try simp only [Act.put, List.setIfInBounds_toArray, List.set_cons_zero, List.set_cons_succ]
  refine' takeD (i := 6) (d := some 28) (v := _) rfl rfl (by kernel_rfl) (by kernel_rfl) (by kernel_rfl) (fun _ _ _ h => h) (by rfl) hHeld (fun w hSw => ?_) ?_
  rotate_left 1
  · (try dsimp only at hSw)
    go_simp
    try with_reducible rfl
  try simp only [Act.put, List.setIfInBounds_toArray, List.set_cons_zero, List.set_cons_succ]
  refine' takeD (i := 7) (d := some 29) (v := _) rfl rfl (by kernel_rfl) (by kernel_rfl) (by kernel_rfl) (fun _ _ _ h => h) (by rfl) hHeld (fun w hSw => ?_) ?_
  rotate_left 1
  · (try dsimp only at hSw)
    go_simp
    try with_reducible rfl
  try simp only [Act.put, List.setIfInBounds_toArray, List.set_cons_zero, List.set_cons_succ]
  refine' takeD (i := 8) (d := some 30) (v := _) rfl rfl (by kernel_rfl) (by kernel_rfl) (by kernel_rfl) (fun _ _ _ h => h) (by rfl) hHeld (fun w hSw => ?_) ?_
  rotate_left 1
  · (try dsimp only at hSw)
    go_simp
    try with_reducible rfl
  try simp only [Act.put, List.setIfInBounds_toArray, List.set_cons_zero, List.set_cons_succ]
  refine' takeD (i := 9) (d := some 31) (v := _) rfl rfl (by kernel_rfl) (by kernel_rfl) (by kernel_rfl) (fun _ _ _ h => h) (by rfl) hHeld (fun w hSw => ?_) ?_
  rotate_left 1
  · (try dsimp only at hSw)
    go_simp
    try with_reducible rfl
  try simp only [Act.put, List.setIfInBounds_toArray, List.set_cons_zero, List.set_cons_succ]
  refine' takeD (i := 10) (d := some 32) (v := _) rfl rfl (by kernel_rfl) (by kernel_rfl) (by kernel_rfl) (fun _ _ _ h => h) (by rfl) hHeld (fun w hSw => ?_) ?_
  rotate_left 1
  · (try dsimp only at hSw)
    go_simp
    try with_reducible rfl
  try simp only [Act.put, List.setIfInBounds_toArray, List.set_cons_zero, List.set_cons_succ]
  refine' takeD (i := 11) (d := some 33) (v := _) rfl rfl (by kernel_rfl) (by kernel_rfl) (by kernel_rfl) (fun _ _ _ h => h) (by rfl) hHeld (fun w hSw => ?_) ?_
  rotate_left 1
  · (try dsimp only at hSw)
    go_simp
    try with_reducible rfl
  try simp only [Act.put, List.setIfInBounds_toArray, List.set_cons_zero, List.set_cons_succ]
  refine wpAnyH_ready (rs := [12]) (by kernel_rfl) (by simp) ?_
  refine AllReadyH.cons rfl (fun K hK => ?_) AllReadyH.nil
  go_simp
  try go_wp2_with fail
  refine hK.out _ _ ?_ (fun hHeld12 => ?_)
  · exact ⟨by rw [(show After _ _ from After.rfl.alloc (.cells #[.int .u8 227, .int .u8 0, .int .u8 0, .int .u8 4, .int .u8 0, .int .u8 3, .int .u8 1, .int .u8 2] 5)).cell hHeld.2.2.2.2.2.2.2.2]; exact hHeld.1, by rw [(show After _ _ from After.rfl.alloc (.cells #[.int .u8 227, .int .u8 0, .int .u8 0, .int .u8 4, .int .u8 0, .int .u8 3, .int .u8 1, .int .u8 2] 5)).cell hHeld.2.2.2.2.2.2.2.2]; exact hHeld.2.1, by rw [(show After _ _ from After.rfl.alloc (.cells #[.int .u8 227, .int .u8 0, .int .u8 0, .int .u8 4, .int .u8 0, .int .u8 3, .int .u8 1, .int .u8 2] 5)).cell hHeld.2.2.2.2.2.2.2.2]; exact hHeld.2.2.1, by rw [(show After _ _ from After.rfl.alloc (.cells #[.int .u8 227, .int .u8 0, .int .u8 0, .int .u8 4, .int .u8 0, .int .u8 3, .int .u8 1, .int .u8 2] 5)).cell hHeld.2.2.2.2.2.2.2.2]; exact hHeld.2.2.2.1, by rw [(show After _ _ from After.rfl.alloc (.cells #[.int .u8 227, .int .u8 0, .int .u8 0, .int .u8 4, .int .u8 0, .int .u8 3, .int .u8 1, .int .u8 2] 5)).cell hHeld.2.2.2.2.2.2.2.2]; exact hHeld.2.2.2.2.1, by rw [(show After _ _ from After.rfl.alloc (.cells #[.int .u8 227, .int .u8 0, .int .u8 0, .int .u8 4, .int .u8 0, .int .u8 3, .int .u8 1, .int .u8 2] 5)).cell hHeld.2.2.2.2.2.2.2.2]; exact hHeld.2.2.2.2.2.1, by rw [(show After _ _ from After.rfl.alloc (.cells #[.int .u8 227, .int .u8 0, .int .u8 0, .int .u8 4, .int .u8 0, .int .u8 3, .int .u8 1, .int .u8 2] 5)).cell hHeld.2.2.2.2.2.2.2.2]; exact hHeld.2.2.2.2.2.2.1, hHeld.2.2.2.2.2.2.2.1.trans (show After _ _ from After.rfl.alloc (.cells #[.int .u8 227, .int .u8 0, .int .u8 0, .int .u8 4, .int .u8 0, .int .u8 3, .int .u8 1, .int .u8 2] 5)), Nat.lt_of_lt_of_le hHeld.2.2.2.2.2.2.2.2 (show After _ _ from After.rfl.alloc (.cells #[.int .u8 227, .int .u8 0, .int .u8 0, .int .u8 4, .int .u8 0, .int .u8 3, .int .u8 1, .int .u8 2] 5)).size⟩
  clear hK K
  try simp only [Act.put, List.setIfInBounds_toArray, List.set_cons_zero, List.set_cons_succ]
  have hlit := lit_row w5 [227, 0, 0, 4, 0, 3, 1, 2] #[.int .u8 227, .int .u8 0, .int .u8 0, .int .u8 4, .int .u8 0, .int .u8 3, .int .u8 1, .int .u8 2] 8 rfl rfl (bs_of _ (by decide))
  refine wpAnyH_ready (rs := [13]) (by kernel_rfl) (by simp) ?_
  refine AllReadyH.cons rfl (fun K hK => ?_) AllReadyH.nil
  go_simp
  refine (eqBytes_same pa (some ⟨_, 0, none⟩) 8 pc 8 _ _ (HX.out.2.1.after hHeld12.2.2.2.2.2.2.2.1) hlit (by decide)).mono ?_
  rintro e w6 ⟨rfl, h6⟩
  try go_wp2_with fail
  refine hK.out _ _ ?_ (fun hHeld13 => ?_)
  · exact ⟨by rw [h6.cell hHeld12.2.2.2.2.2.2.2.2]; exact hHeld12.1, by rw [h6.cell hHeld12.2.2.2.2.2.2.2.2]; exact hHeld12.2.1, by rw [h6.cell hHeld12.2.2.2.2.2.2.2.2]; exact hHeld12.2.2.1, by rw [h6.cell hHeld12.2.2.2.2.2.2.2.2]; exact hHeld12.2.2.2.1, by rw [h6.cell hHeld12.2.2.2.2.2.2.2.2]; exact hHeld12.2.2.2.2.1, by rw [h6.cell hHeld12.2.2.2.2.2.2.2.2]; exact hHeld12.2.2.2.2.2.1, by rw [h6.cell hHeld12.2.2.2.2.2.2.2.2]; exact hHeld12.2.2.2.2.2.2.1, hHeld12.2.2.2.2.2.2.2.1.trans h6, Nat.lt_of_lt_of_le hHeld12.2.2.2.2.2.2.2.2 h6.size⟩
  clear hK K
  try simp only [Act.put, List.setIfInBounds_toArray, List.set_cons_zero, List.set_cons_succ]
  clear hlit hHeld hHeld12
  refine' takeD (i := 14) (d := some 36) (v := _) rfl rfl (by kernel_rfl) (by kernel_rfl) (by kernel_rfl) (fun _ _ _ h => h) (by rfl) hHeld13 (fun w hSw => ?_) ?_
  rotate_left 1
  · (try dsimp only at hSw)
    go_simp
    try with_reducible rfl
  try simp only [Act.put, List.setIfInBounds_toArray, List.set_cons_zero, List.set_cons_succ]
  refine' takeD (i := 15) (d := some 37) (v := _) rfl rfl (by kernel_rfl) (by kernel_rfl) (by kernel_rfl) (fun _ _ _ h => h) (by rfl) hHeld13 (fun w hSw => ?_) ?_
  rotate_left 1
  · (try dsimp only at hSw)
    go_simp
    try with_reducible rfl
  try simp only [Act.put, List.setIfInBounds_toArray, List.set_cons_zero, List.set_cons_succ]
  refine' takeD (i := 16) (d := some 38) (v := _) rfl rfl (by kernel_rfl) (by kernel_rfl) (by kernel_rfl) (fun _ _ _ h => h) (by rfl) hHeld13 (fun w hSw => ?_) ?_
  rotate_left 1
  · (try dsimp only at hSw)
    go_simp
    try with_reducible rfl
  try simp only [Act.put, List.setIfInBounds_toArray, List.set_cons_zero, List.set_cons_succ]
  refine wpAnyH_ready (rs := [17]) (by kernel_rfl) (by simp) ?_
  refine AllReadyH.cons rfl (fun K hK => ?_) AllReadyH.nil
  go_simp
  try go_wp2_with fail
  refine hK.out _ _ ?_ (fun hHeld17 => ?_)
  · exact ⟨by rw [(show After _ _ from After.rfl.alloc (.cells #[.int .u8 231, .int .u8 0, .int .u8 0, .int .u8 11, .int .u8 13, .int .u8 30, .int .u8 0, .int .u8 7, .int .u8 0, .int .u8 1, .int .u8 0, .int .u8 1, .int .u8 2, .int .u8 1, .int .u8 110] 5)).cell hHeld13.2.2.2.2.2.2.2.2]; exact hHeld13.1, by rw [(show After _ _ from After.rfl.alloc (.cells #[.int .u8 231, .int .u8 0, .int .u8 0, .int .u8 11, .int .u8 13, .int .u8 30, .int .u8 0, .int .u8 7, .int .u8 0, .int .u8 1, .int .u8 0, .int .u8 1, .int .u8 2, .int .u8 1, .int .u8 110] 5)).cell hHeld13.2.2.2.2.2.2.2.2]; exact hHeld13.2.1, by rw [(show After _ _ from After.rfl.alloc (.cells #[.int .u8 231, .int .u8 0, .int .u8 0, .int .u8 11, .int .u8 13, .int .u8 30, .int .u8 0, .int .u8 7, .int .u8 0, .int .u8 1, .int .u8 0, .int .u8 1, .int .u8 2, .int .u8 1, .int .u8 110] 5)).cell hHeld13.2.2.2.2.2.2.2.2]; exact hHeld13.2.2.1, by rw [(show After _ _ from After.rfl.alloc (.cells #[.int .u8 231, .int .u8 0, .int .u8 0, .int .u8 11, .int .u8 13, .int .u8 30, .int .u8 0, .int .u8 7, .int .u8 0, .int .u8 1, .int .u8 0, .int .u8 1, .int .u8 2, .int .u8 1, .int .u8 110] 5)).cell hHeld13.2.2.2.2.2.2.2.2]; exact hHeld13.2.2.2.1, by rw [(show After _ _ from After.rfl.alloc (.cells #[.int .u8 231, .int .u8 0, .int .u8 0, .int .u8 11, .int .u8 13, .int .u8 30, .int .u8 0, .int .u8 7, .int .u8 0, .int .u8 1, .int .u8 0, .int .u8 1, .int .u8 2, .int .u8 1, .int .u8 110] 5)).cell hHeld13.2.2.2.2.2.2.2.2]; exact hHeld13.2.2.2.2.1, by rw [(show After _ _ from After.rfl.alloc (.cells #[.int .u8 231, .int .u8 0, .int .u8 0, .int .u8 11, .int .u8 13, .int .u8 30, .int .u8 0, .int .u8 7, .int .u8 0, .int .u8 1, .int .u8 0, .int .u8 1, .int .u8 2, .int .u8 1, .int .u8 110] 5)).cell hHeld13.2.2.2.2.2.2.2.2]; exact hHeld13.2.2.2.2.2.1, by rw [(show After _ _ from After.rfl.alloc (.cells #[.int .u8 231, .int .u8 0, .int .u8 0, .int .u8 11, .int .u8 13, .int .u8 30, .int .u8 0, .int .u8 7, .int .u8 0, .int .u8 1, .int .u8 0, .int .u8 1, .int .u8 2, .int .u8 1, .int .u8 110] 5)).cell hHeld13.2.2.2.2.2.2.2.2]; exact hHeld13.2.2.2.2.2.2.1, hHeld13.2.2.2.2.2.2.2.1.trans (show After _ _ from After.rfl.alloc (.cells #[.int .u8 231, .int .u8 0, .int .u8 0, .int .u8 11, .int .u8 13, .int .u8 30, .int .u8 0, .int .u8 7, .int .u8 0, .int .u8 1, .int .u8 0, .int .u8 1, .int .u8 2, .int .u8 1, .int .u8 110] 5)), Nat.lt_of_lt_of_le hHeld13.2.2.2.2.2.2.2.2 (show After _ _ from After.rfl.alloc (.cells #[.int .u8 231, .int .u8 0, .int .u8 0, .int .u8 11, .int .u8 13, .int .u8 30, .int .u8 0, .int .u8 7, .int .u8 0, .int .u8 1, .int .u8 0, .int .u8 1, .int .u8 2, .int .u8 1, .int .u8 110] 5)).size⟩
  clear hK K
  try simp only [Act.put, List.setIfInBounds_toArray, List.set_cons_zero, List.set_cons_succ]
  have hlit := lit_row w6 [231, 0, 0, 11, 13, 30, 0, 7, 0, 1, 0, 1, 2, 1, 110] #[.int .u8 231, .int .u8 0, .int .u8 0, .int .u8 11, .int .u8 13, .int .u8 30, .int .u8 0, .int .u8 7, .int .u8 0, .int .u8 1, .int .u8 0, .int .u8 1, .int .u8 2, .int .u8 1, .int .u8 110] 15 rfl rfl (bs_of _ (by decide))
  refine wpAnyH_ready (rs := [18]) (by kernel_rfl) (by simp) ?_
  refine AllReadyH.cons rfl (fun K hK => ?_) AllReadyH.nil
  go_simp
  refine (eqBytes_same qa (some ⟨_, 0, none⟩) 15 qc 15 _ _ (HX.out.2.2.1.after hHeld17.2.2.2.2.2.2.2.1) hlit (by decide)).mono ?_
  rintro e w7 ⟨rfl, h7⟩
  try go_wp2_with fail
  refine hK.out _ _ ?_ (fun hHeld18 => ?_)
  · exact ⟨by rw [h7.cell hHeld17.2.2.2.2.2.2.2.2]; exact hHeld17.1, by rw [h7.cell hHeld17.2.2.2.2.2.2.2.2]; exact hHeld17.2.1, by rw [h7.cell hHeld17.2.2.2.2.2.2.2.2]; exact hHeld17.2.2.1, by rw [h7.cell hHeld17.2.2.2.2.2.2.2.2]; exact hHeld17.2.2.2.1, by rw [h7.cell hHeld17.2.2.2.2.2.2.2.2]; exact hHeld17.2.2.2.2.1, by rw [h7.cell hHeld17.2.2.2.2.2.2.2.2]; exact hHeld17.2.2.2.2.2.1, by rw [h7.cell hHeld17.2.2.2.2.2.2.2.2]; exact hHeld17.2.2.2.2.2.2.1, hHeld17.2.2.2.2.2.2.2.1.trans h7, Nat.lt_of_lt_of_le hHeld17.2.2.2.2.2.2.2.2 h7.size⟩
  clear hK K
  try simp only [Act.put, List.setIfInBounds_toArray, List.set_cons_zero, List.set_cons_succ]
  clear hlit hHeld13 hHeld17
  refine' takeD (i := 19) (d := some 41) (v := _) rfl rfl (by kernel_rfl) (by kernel_rfl) (by kernel_rfl) (fun _ _ _ h => h) (by rfl) hHeld18 (fun w hSw => ?_) ?_
  rotate_left 1
  · (try dsimp only at hSw)
    go_simp
    try with_reducible rfl
  try simp only [Act.put, List.setIfInBounds_toArray, List.set_cons_zero, List.set_cons_succ]
  refine' takeD (i := 20) (d := some 42) (v := _) rfl rfl (by kernel_rfl) (by kernel_rfl) (by kernel_rfl) (fun _ _ _ h => h) (by rfl) hHeld18 (fun w hSw => ?_) ?_
  rotate_left 1
  · (try dsimp only at hSw)
    go_simp
    try with_reducible rfl
  try simp only [Act.put, List.setIfInBounds_toArray, List.set_cons_zero, List.set_cons_succ]
  refine' takeD (i := 21) (d := some 43) (v := _) rfl rfl (by kernel_rfl) (by kernel_rfl) (by kernel_rfl) (fun _ _ _ h => h) (by rfl) hHeld18 (fun w hSw => ?_) ?_
  rotate_left 1
  · (try dsimp only at hSw)
    go_simp
    try with_reducible rfl
  try simp only [Act.put, List.setIfInBounds_toArray, List.set_cons_zero, List.set_cons_succ]
  refine wpAnyH_ready (rs := [22]) (by kernel_rfl) (by simp) ?_
  refine AllReadyH.cons rfl (fun K hK => ?_) AllReadyH.nil
  go_simp
  refine (scan_any _).mono ?_
  rintro e w8 ⟨b9, rfl, x8, h8⟩
  unfold Msg.val scanM
  dsimp only [List.length_nil, List.length_cons, Nat.zero_add, Nat.reduceAdd]
  try go_wp2_with fail
  refine hK.out _ _ ?_ (fun hHeld22 => ?_)
  · exact ⟨by rw [h8.cell hHeld18.2.2.2.2.2.2.2.2]; exact hHeld18.1, by rw [h8.cell hHeld18.2.2.2.2.2.2.2.2]; exact hHeld18.2.1, by rw [h8.cell hHeld18.2.2.2.2.2.2.2.2]; exact hHeld18.2.2.1, by rw [h8.cell hHeld18.2.2.2.2.2.2.2.2]; exact hHeld18.2.2.2.1, by rw [h8.cell hHeld18.2.2.2.2.2.2.2.2]; exact hHeld18.2.2.2.2.1, by rw [h8.cell hHeld18.2.2.2.2.2.2.2.2]; exact hHeld18.2.2.2.2.2.1, by rw [h8.cell hHeld18.2.2.2.2.2.2.2.2]; exact hHeld18.2.2.2.2.2.2.1, hHeld18.2.2.2.2.2.2.2.1.trans h8, Nat.lt_of_lt_of_le hHeld18.2.2.2.2.2.2.2.2 h8.size⟩
  clear hK K
  try simp only [Act.put, List.setIfInBounds_toArray, List.set_cons_zero, List.set_cons_succ]
  have HS := hideIt (same18 w8 _ _ scanM scanM xa xc ya yc za zc none 0 none 0 (some ⟨b9, 0, none⟩) 1 (HX.out.2.2.2.after hHeld22.2.2.2.2.2.2.2.1) x8 (fun _ => rfl) (fun _ => rfl) (fun _ => rfl) (by decide) (by decide))
  refine wpAnyH_ready (rs := [23]) (by kernel_rfl) (by simp) ?_
  refine AllReadyH.cons rfl (fun K hK => ?_) AllReadyH.nil
  go_simp
  refine HS.out.mono ?_
  rintro e w9 ⟨rfl, h9⟩
  rw [show eqM scanM scanM = true from rfl]
  try go_wp2_with fail
  refine hK.out _ _ ?_ (fun hHeld23 => ?_)
  · exact ⟨by rw [h9.cell hHeld22.2.2.2.2.2.2.2.2]; exact hHeld22.1, by rw [h9.cell hHeld22.2.2.2.2.2.2.2.2]; exact hHeld22.2.1, by rw [h9.cell hHeld22.2.2.2.2.2.2.2.2]; exact hHeld22.2.2.1, by rw [h9.cell hHeld22.2.2.2.2.2.2.2.2]; exact hHeld22.2.2.2.1, by rw [h9.cell hHeld22.2.2.2.2.2.2.2.2]; exact hHeld22.2.2.2.2.1, by rw [h9.cell hHeld22.2.2.2.2.2.2.2.2]; exact hHeld22.2.2.2.2.2.1, by rw [h9.cell hHeld22.2.2.2.2.2.2.2.2]; exact hHeld22.2.2.2.2.2.2.1, hHeld22.2.2.2.2.2.2.2.1.trans h9, Nat.lt_of_lt_of_le hHeld22.2.2.2.2.2.2.2.2 h9.size⟩
  clear hK K
  try simp only [Act.put, List.setIfInBounds_toArray, List.set_cons_zero, List.set_cons_succ]
  clear HS x8 hHeld18
  refine' takeD (i := 24) (d := some 46) (v := _) rfl rfl (by kernel_rfl) (by kernel_rfl) (by kernel_rfl) (fun _ _ _ h => h) (by rfl) hHeld23 (fun w hSw => ?_) ?_
  rotate_left 1
  · (try dsimp only at hSw)
    go_simp
    try with_reducible rfl
  try simp only [Act.put, List.setIfInBounds_toArray, List.set_cons_zero, List.set_cons_succ]
  refine wpAnyH_ready (rs := [25]) (by kernel_rfl) (by simp) ?_
  refine AllReadyH.cons rfl (fun K hK => ?_) AllReadyH.nil
  go_simp
  try go_wp2_with fail
  refine hK.out _ _ ?_ (fun hHeld25 => ?_)
  · exact hHeld23
  clear hK K
  try simp only [Act.put, List.setIfInBounds_toArray, List.set_cons_zero, List.set_cons_succ]
  refine wpAnyH_done (by kernel_rfl) ?_ _
  go_wp2_with fail
  go_ret
  exact ⟨rfl, HX.out.1.trans hHeld25.2.2.2.2.2.2.2.1⟩
end Go.Proofs.Ytigiakhdaaoljaa
/-
  What was packed is unpacked as it was, what was unpacked is packed into the same bytes; cut, and with more behind.
-/
namespace Go.Proofs.Ytigiakhdaaoljaa
open Go.RowKit
theorem sameM_self (M : Msg) : sameM M M = true := decide_eq_true ⟨rfl, rfl, rfl, rfl, rfl, rfl⟩
theorem once_pack {zs rest : List Int} {X : Msg} (hz : Bs zs) (h : unpackF zs = .ok (X, rest)) : packAll X = .ok ((), zs) ∧ X.objs.length ≤ 16 ∧ X.obs.length ≤ 64 := by
  obtain ⟨_, e, hk, h1, h2⟩ := msg_once hz h
  refine ⟨?_, h1, h2⟩
  unfold packAll
  rw [if_neg (by rintro ⟨a, b⟩; rcases hk with h | h; rw [h] at a; cases a; rw [h] at b; cases b), if_neg (by omega)]
  unfold packF
  rw [thn_ok e, if_pos (sameM_self X)]
theorem pack_inv {M : Msg} {u : Unit} {ys : List Int} (h : packAll M = .ok (u, ys)) : msgF true M [] = .ok (M, ys) ∧ M.objs.length ≤ 16 ∧ M.obs.length ≤ 64 := by
  unfold packAll at h
  split at h
  · cases h
  split at h
  · cases h
  · rename_i hl
    obtain ⟨X, zs, e, h⟩ := thn_inv h
    split at h
    · rename_i hs
      cases h
      obtain ⟨_, hX, _⟩ := msg_back e M
      rw [hX] at hs
      have := keep_same hs rfl
      rw [this] at hX
      rw [hX] at e
      exact ⟨e, by omega, by omega⟩
    · cases h
theorem back_unpack {M : Msg} {u : Unit} {ys : List Int} (h : packAll M = .ok (u, ys)) : unpackF ys = .ok (M, []) ∧ (∀ p s, p ++ s = ys → s ≠ [] → unpackF p = .error 3) ∧ (∀ s, s ≠ [] → unpackF (ys ++ s) = .error 4) := by
  obtain ⟨e, _⟩ := pack_inv h
  obtain ⟨_, _, h1, h2, h3⟩ := msg_back e (Msg.zero 0)
  exact ⟨h1, h2, h3⟩
end Go.Proofs.Ytigiakhdaaoljaa
