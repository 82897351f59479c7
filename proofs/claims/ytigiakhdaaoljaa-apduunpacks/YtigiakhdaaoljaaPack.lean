/-
  Pack.
-/
import Derived.Test.YtigiakhdaaoljaaUnp2
import Derived.Test.YtigiakhdaaoljaaDualsC
namespace Go.Proofs.Ytigiakhdaaoljaa
open Go.RowKit
set_option maxRecDepth 8000
/-- A message's bytes, or why it has none. -/
def packAll (M : Msg) : Except Int (Unit × List Int) :=
  if alone M.kind = false ∧ inData M.kind = false then .error 2 else if 16 < M.objs.length ∨ 64 < M.obs.length then .error 5 else packF M
theorem packF_len {M : Msg} {u : Unit} {ys : List Int} (h : packF M = .ok (u, ys)) : ys.length ≤ 65539 := by
  obtain ⟨X, zs, e, h⟩ := thn_inv h
  split at h
  · cases h
    obtain ⟨bs, _, _, hb, rfl⟩ := partW_inv e
    unfold boxB
    rw [List.nil_append, List.length_append, List.length_append, bytesOf_length, bytesOf_length]
    omega
  · cases h
set_option maxHeartbeats 1000000 in
theorem pack_any (w : World) (P : Nat → Prop) (M : Msg) (sa : Option Addr) (sc : Nat) (oa : Option Addr) (oc : Nat) (ba : Option Addr) (bc : Nat) (x : MsgX w P M sa sc oa oc ba bc) (hP : ∀ k, P k → k < w.heap.size) :
    Calls Try.prog 10 #[M.val sa sc oa oc ba bc] w fun e w' => After w w' ∧ Ends (packAll M) (fun _ zs => Bs zs ∧ zs.length ≤ 65539 ∧ ∃ a c, e = .returned (.tuple #[.slice a zs.length c, .int .i64 0]) ∧ w'.ownsRow w.heap.size 5 1 (.slice a zs.length c) zs.length (u8s zs)) (fun c => e = .returned (.tuple #[.slice none 0 0, .int .i64 c]) ∧ (c = 2 ∨ c = 5)) := by
  have hmf : ∀ (fn : Fn) (first cap : Array Value) (w : World), (Instr.makeFunc fn first cap).run Try.prog w = .ok (.func fn first cap) w := fun _ _ _ _ => rfl
  obtain ⟨w0, hw0⟩ : ∃ w0, w.alloc (.cells (M.cells sa sc oa oc ba bc) 26) = w0 := ⟨_, rfl⟩
  have hA : After w w0 := by rw [← hw0]; exact After.rfl.alloc _
  have b0 : w0.heap[w.heap.size]? = some (.cells (M.cells sa sc oa oc ba bc) 26 (0, 0)) := by rw [← hw0]; exact new1 _ _
  have hsz : w0.heap.size = w.heap.size + 1 := by rw [← hw0, World.size_alloc]
  have H1 := hideIt (writer_any w0)
  have HX := hideIt (And.intro hA (And.intro b0 (And.intro hsz (And.intro x hP))))
  have HL := hideIt (fun W => alone_any W M.kind)
  have HD := hideIt (fun W => inData_any W M.kind)
  have HE1 : Hid (alone M.kind = false → inData M.kind = false → packAll M = .error 2) := fun h1 h2 => if_pos ⟨h1, h2⟩
  have HE2 : Hid (¬ (alone M.kind = false ∧ inData M.kind = false) → 16 < M.objs.length ∨ 64 < M.obs.length → packAll M = .error 5) := fun h1 h2 => (if_neg h1).trans (if_pos h2)
  have HE3 : Hid (¬ (alone M.kind = false ∧ inData M.kind = false) → ¬ (16 < M.objs.length ∨ 64 < M.obs.length) → packAll M = packF M) := fun h1 h2 => (if_neg h1).trans (if_neg h2)
  have HCell := hideIt (show M.cells sa sc oa oc ba bc = #[.int .i64 M.kind, .slice sa M.sys.length sc, .int .i64 M.config, .int .i64 M.result, .int .i64 M.reason, .slice oa M.objs.length oc, .slice ba M.obs.length bc] from rfl)
  have hw0' := hw0
  rw [HCell.out] at hw0'
  have HW0 := hideIt hw0'
  clear hA b0 hsz x hP hw0 hw0'
  unfold Msg.val
  generalize packAll M = PA at HE1 HE2 HE3 ⊢
  obtain ⟨d1, h1⟩ : ∃ d, alone M.kind = d := ⟨_, rfl⟩
  obtain ⟨d2, h2⟩ : ∃ d, inData M.kind = d := ⟨_, rfl⟩
  rw [h1] at HL HE1 HE2 HE3
  rw [h2] at HD HE1 HE2 HE3
  clear h1 h2
  generalize hn1 : M.objs.length = n1 at HE2 HE3 HCell HW0 ⊢
  generalize hn2 : M.obs.length = n2 at HE2 HE3 HCell HW0 ⊢
  clear hn1 hn2
  by_cases hk : d1 = false ∧ d2 = false
  · obtain ⟨rfl, rfl⟩ := hk
    have e := hideIt (HE1.out rfl rfl)
    clear HE1 HE2 HE3 HCell
    go_enter Try.func10, Try.ntmps10
    go_wp2_with (first | (go_at_call 20; refine (HL.out _).mono ?_; rintro e w9 ⟨rfl, rfl⟩) | (go_at_call 21; refine (HD.out _).mono ?_; rintro e w9 ⟨rfl, rfl⟩))
    go_ret2
    exact ⟨by rw [HW0.out]; exact HX.out.1, Ends.bad e.out ⟨rfl, .inl rfl⟩⟩
  cases d1 with
  | true =>
    by_cases hl1 : (16 : Int) < (n1 : Int)
    · have e := hideIt (HE2.out hk (by omega))
      clear HE1 HE2 HE3 HCell hk
      go_enter Try.func10, Try.ntmps10
      go_wp2_with (first | (go_at_call 20; refine (HL.out _).mono ?_; rintro e w9 ⟨rfl, rfl⟩) | (go_at_call 21; refine (HD.out _).mono ?_; rintro e w9 ⟨rfl, rfl⟩))
      go_ret2
      exact ⟨by rw [HW0.out]; exact HX.out.1, Ends.bad e.out ⟨rfl, .inr rfl⟩⟩
    by_cases hl2 : (64 : Int) < (n2 : Int)
    · have e := hideIt (HE2.out hk (by omega))
      clear HE1 HE2 HE3 HCell hk
      go_enter Try.func10, Try.ntmps10
      go_wp2_with (first | (go_at_call 20; refine (HL.out _).mono ?_; rintro e w9 ⟨rfl, rfl⟩) | (go_at_call 21; refine (HD.out _).mono ?_; rintro e w9 ⟨rfl, rfl⟩))
      go_ret2
      exact ⟨by rw [HW0.out]; exact HX.out.1, Ends.bad e.out ⟨rfl, .inr rfl⟩⟩
    · have eP := hideIt (HE3.out hk (by omega))
      clear hk
      clear HE1 HE2 HE3
      go_enter Try.func10, Try.ntmps10
      go_wp2_with (first | (go_at_call 20; refine (HL.out _).mono ?_; rintro e w9 ⟨rfl, rfl⟩) | (go_at_call 21; refine (HD.out _).mono ?_; rintro e w9 ⟨rfl, rfl⟩))
      rw [HW0.out]
      refine H1.out.mono ?_
      clear H1 HL HD
      rintro e w1 ⟨q, S, rfl, cd, a1, hS⟩
      obtain ⟨hA, b0, hsz, x, hP⟩ := HX.out
      have b01 := (But.block a1 _ (by omega) (fun t => t)).trans b0
      have hsl := a1.size
      have ax : After w1 (w1.alloc (.cells #[.pointer none, .pointer q] 52)) := After.rfl.alloc _
      have ka : Keeps (w1.alloc (.cells #[.pointer none, .pointer q] 52)) S w.heap.size (.cells (M.cells sa sc oa oc ba bc) 26 (0, 0)) := ⟨new_past _ _ b01, fun h => by have := hS _ h; omega⟩
      have kc : Keeps (w1.alloc (.cells #[.pointer none, .pointer q] 52)) S w1.heap.size (.cells #[.pointer none, .pointer q] 52 (0, 0)) := ⟨new1 _ _, fun h => by have := cd.lt _ h; omega⟩
      have hall := hA.trans (a1.trans ax)
      have H2 := hideIt (caught24 _ w.heap.size w1.heap.size q S P M sa sc oa oc ba bc ka kc (cd.after ax) (x.after hall) (fun k hk => ⟨fun h => by have := hS _ h; have := hP _ hk; omega, Nat.lt_of_lt_of_le (hP k hk) hall.size⟩))
      have HY := hideIt (And.intro hall (And.intro kc (And.intro hS hA.size)))
      clear hA b0 hsz b01 hsl ax ka kc HX HW0 cd a1 hS x hP hall
      go_wp2_with fail
      refine H2.out.mono ?_
      clear H2
      intro e w2 h2
      obtain ⟨hall, kc, hS, hsz⟩ := HY.out
      rcases h2.split with ⟨c9, e1, rfl, t⟩ | ⟨_, us, e1, rfl, S', k', s'⟩
      · have hc : c9 = 2 := packF_err e1
        subst hc
        have HZ := hideIt (And.intro (eP.out.trans e1) (show After w w2 from hall.but.then t (fun i hi h => by have := hS _ h; omega)))
        clear hall kc hS hsz h2 e1 t HY eP
        go_wp2_with fail
        go_ret2
        exact ⟨HZ.out.2, Ends.bad HZ.out.1 ⟨rfl, .inl rfl⟩⟩
      · have kc2 := kc.step s'
        obtain ⟨_, y0, y1, _, _⟩ := two_at kc2.at0
        have aw : After w w2 := hall.but.then s'.but (fun i hi h => by have := hS _ h; omega)
        have hl9 := packF_len e1
        have H3 := hideIt (c_bytes w2 q us S' k' (by omega))
        have HZ := hideIt (And.intro (eP.out.trans e1) (And.intro aw (And.intro k'.bs hl9)))
        clear hall kc hS hsz h2 e1 HY eP kc2 s' aw k' hl9
        go_wp2_with fail
        refine H3.out.mono ?_
        clear H3
        rintro e w3 ⟨xa, xc, rfl, ho, a3⟩
        have HO := hideIt (And.intro ho a3)
        clear ho a3
        generalize hus : us.length = nu at HO HZ ⊢
        have HUS := hideIt hus
        clear hus
        go_wp2_with fail
        go_ret2
        obtain ⟨ho, a3⟩ := HO.out
        obtain ⟨e1, aw, hbs, hl9⟩ := HZ.out
        rw [← HUS.out] at ho hl9 ⊢
        exact ⟨aw.trans a3, Ends.ok e1 ⟨hbs, hl9, xa, xc, rfl, own_base ho (fun k hk => Nat.le_trans aw.size (ho.lt k hk).1)⟩⟩
  | false =>
    obtain rfl : d2 = true := by
      cases d2
      · exact absurd ⟨rfl, rfl⟩ hk
      · rfl
    by_cases hl1 : (16 : Int) < (n1 : Int)
    · have e := hideIt (HE2.out hk (by omega))
      clear HE1 HE2 HE3 HCell hk
      go_enter Try.func10, Try.ntmps10
      go_wp2_with (first | (go_at_call 20; refine (HL.out _).mono ?_; rintro e w9 ⟨rfl, rfl⟩) | (go_at_call 21; refine (HD.out _).mono ?_; rintro e w9 ⟨rfl, rfl⟩))
      go_ret2
      exact ⟨by rw [HW0.out]; exact HX.out.1, Ends.bad e.out ⟨rfl, .inr rfl⟩⟩
    by_cases hl2 : (64 : Int) < (n2 : Int)
    · have e := hideIt (HE2.out hk (by omega))
      clear HE1 HE2 HE3 HCell hk
      go_enter Try.func10, Try.ntmps10
      go_wp2_with (first | (go_at_call 20; refine (HL.out _).mono ?_; rintro e w9 ⟨rfl, rfl⟩) | (go_at_call 21; refine (HD.out _).mono ?_; rintro e w9 ⟨rfl, rfl⟩))
      go_ret2
      exact ⟨by rw [HW0.out]; exact HX.out.1, Ends.bad e.out ⟨rfl, .inr rfl⟩⟩
    · have eP := hideIt (HE3.out hk (by omega))
      clear hk
      clear HE1 HE2 HE3
      go_enter Try.func10, Try.ntmps10
      go_wp2_with (first | (go_at_call 20; refine (HL.out _).mono ?_; rintro e w9 ⟨rfl, rfl⟩) | (go_at_call 21; refine (HD.out _).mono ?_; rintro e w9 ⟨rfl, rfl⟩))
      rw [HW0.out]
      refine H1.out.mono ?_
      clear H1 HL HD
      rintro e w1 ⟨q, S, rfl, cd, a1, hS⟩
      obtain ⟨hA, b0, hsz, x, hP⟩ := HX.out
      have b01 := (But.block a1 _ (by omega) (fun t => t)).trans b0
      have hsl := a1.size
      have ax : After w1 (w1.alloc (.cells #[.pointer none, .pointer q] 52)) := After.rfl.alloc _
      have ka : Keeps (w1.alloc (.cells #[.pointer none, .pointer q] 52)) S w.heap.size (.cells (M.cells sa sc oa oc ba bc) 26 (0, 0)) := ⟨new_past _ _ b01, fun h => by have := hS _ h; omega⟩
      have kc : Keeps (w1.alloc (.cells #[.pointer none, .pointer q] 52)) S w1.heap.size (.cells #[.pointer none, .pointer q] 52 (0, 0)) := ⟨new1 _ _, fun h => by have := cd.lt _ h; omega⟩
      have hall := hA.trans (a1.trans ax)
      have H2 := hideIt (caught24 _ w.heap.size w1.heap.size q S P M sa sc oa oc ba bc ka kc (cd.after ax) (x.after hall) (fun k hk => ⟨fun h => by have := hS _ h; have := hP _ hk; omega, Nat.lt_of_lt_of_le (hP k hk) hall.size⟩))
      have HY := hideIt (And.intro hall (And.intro kc (And.intro hS hA.size)))
      clear hA b0 hsz b01 hsl ax ka kc HX HW0 cd a1 hS x hP hall
      go_wp2_with fail
      refine H2.out.mono ?_
      clear H2
      intro e w2 h2
      obtain ⟨hall, kc, hS, hsz⟩ := HY.out
      rcases h2.split with ⟨c9, e1, rfl, t⟩ | ⟨_, us, e1, rfl, S', k', s'⟩
      · have hc : c9 = 2 := packF_err e1
        subst hc
        have HZ := hideIt (And.intro (eP.out.trans e1) (show After w w2 from hall.but.then t (fun i hi h => by have := hS _ h; omega)))
        clear hall kc hS hsz h2 e1 t HY eP
        go_wp2_with fail
        go_ret2
        exact ⟨HZ.out.2, Ends.bad HZ.out.1 ⟨rfl, .inl rfl⟩⟩
      · have kc2 := kc.step s'
        obtain ⟨_, y0, y1, _, _⟩ := two_at kc2.at0
        have aw : After w w2 := hall.but.then s'.but (fun i hi h => by have := hS _ h; omega)
        have hl9 := packF_len e1
        have H3 := hideIt (c_bytes w2 q us S' k' (by omega))
        have HZ := hideIt (And.intro (eP.out.trans e1) (And.intro aw (And.intro k'.bs hl9)))
        clear hall kc hS hsz h2 e1 HY eP kc2 s' aw k' hl9
        go_wp2_with fail
        refine H3.out.mono ?_
        clear H3
        rintro e w3 ⟨xa, xc, rfl, ho, a3⟩
        have HO := hideIt (And.intro ho a3)
        clear ho a3
        generalize hus : us.length = nu at HO HZ ⊢
        have HUS := hideIt hus
        clear hus
        go_wp2_with fail
        go_ret2
        obtain ⟨ho, a3⟩ := HO.out
        obtain ⟨e1, aw, hbs, hl9⟩ := HZ.out
        rw [← HUS.out] at ho hl9 ⊢
        exact ⟨aw.trans a3, Ends.ok e1 ⟨hbs, hl9, xa, xc, rfl, own_base ho (fun k hk => Nat.le_trans aw.size (ho.lt k hk).1)⟩⟩
end Go.Proofs.Ytigiakhdaaoljaa
