/-
  Laid together: Catch, Unp1, SameF, Pack1, Unp2, DualsC.
-/
import Derived.Test.YtigiakhdaaoljaaB04
import Derived.Defers
import Derived.Recover
import Derived.Test.YtigiakhdaaoljaaB12
import Derived.Test.YtigiakhdaaoljaaB13
/-
  What was thrown is caught.
-/
namespace Go.Proofs.Ytigiakhdaaoljaa
open Go.RowKit
set_option maxRecDepth 8000
theorem catch_idle (p : Addr) (w : World) :
    CallsD Try.prog 39 #[.pointer (some p)] .returning w fun e u' w' => e = .returned (.tuple #[]) ∧ u' = .returning ∧ w' = w := by
  refine callsD_of_wpS Try.func39 rfl fun c₀ cs hu => ?_
  apply wpS_seq
  apply wpS_region
  simp [wpOpsS, go_sem, recoverD, hu, Try.ntmps39, Exit.thenS]
  refine wpS_of_wp ?_
  go_wp2
  cases c₀
  simp_all [bodyPostS, results, Try.results39]
theorem set_there {w : World} {g : Nat} {x v : Value} {T : TypeId} (h : w.heap[g]? = some (.cells #[x] T (0, 0))) : (w.setCell ⟨g, 0, none⟩ v).cell? ⟨g, 0, none⟩ = some v := by
  simp [World.setCell, World.cell?, Array.getElem?_modify, h]
theorem is_halt (c : Int) (w : World) : (Instr.typeAssert (.iface 68 (.agg #[.int .i64 c])) 20 68 true).run Try.prog w = .ok (.tuple #[.agg #[.int .i64 c], .bool true]) w := by
  simp [Instr.typeAssert, go_sem]
set_option maxHeartbeats 400000 in
theorem catch_halt (g : Nat) (x c : Int) (w : World) (hg : g < w.heap.size) (hc : w.cell? ⟨g, 0, none⟩ = some (.int .i64 x)) (hz : w.frozen? ⟨g, 0, none⟩ = false) :
    CallsD Try.prog 39 #[.pointer (some ⟨g, 0, none⟩)] (.panicking (Halt c)) w fun e u' w' =>
      e = .returned (.tuple #[]) ∧ u' = .panicking [{ v := .iface 68 (.agg #[.int .i64 c]), recovered := true }] ∧ w' = (w.alloc (.cells #[.int .i64 c] 68)).setCell ⟨g, 0, none⟩ (.int .i64 c) := by
  refine callsD_of_wpS Try.func39 rfl fun c₀ cs hu => ?_
  apply wpS_seq
  apply wpS_region
  unfold Halt at hu
  simp [wpOpsS, go_sem, recoverD, hu, Try.ntmps39, Exit.thenS]
  refine wpS_of_wp (Code.wp_mono (Q := fun e a w' => e = .normal ∧ a.defers = [] ∧ w' = (w.alloc (.cells #[.int .i64 c] 68)).setCell ⟨g, 0, none⟩ (.int .i64 c)) ?_ ?_)
  · rintro e a w' ⟨rfl, hd, rfl⟩
    exact ⟨hd, _, rfl, .tuple #[], by simp [results, Try.results39], rfl, rfl, rfl⟩
  clear hu
  rw [show (#[Value.pointer (some ⟨g, 0, none⟩)] ++ (Array.replicate 11 undef).setIfInBounds 3 (Value.iface 68 (Value.agg #[Value.int IntKind.i64 c]))) = #[Value.pointer (some ⟨g, 0, none⟩), undef, undef, undef, Value.iface 68 (Value.agg #[Value.int IntKind.i64 c]), undef, undef, undef, undef, undef, undef, undef] from rfl]
  have hne : ¬ g = w.heap.size := by omega
  go_wp2
  rw [is_halt]
  go_wp2
theorem caught_any (w : World) (f : Nat) (cap : Array Value) (R : World → Prop) (B : Int → World → Prop) (hin : ∀ (c : Array Value) (w : World), (callFunc f c).run Try.prog w = .ok (.enter f c) w) (H : Calls Try.prog f cap (w.alloc (.cells #[.int .i64 0] 28)) fun e w' => w'.heap[w.heap.size]? = some (.cells #[.int .i64 0] 28 (0, 0)) ∧ (e = .returned (.tuple #[]) ∧ R w' ∨ ∃ c, e = .panicked (Halt c) ∧ B c w')) :
    Calls Try.prog 23 #[.func (.func f) #[] cap] w fun e w' => ∃ w1, (e = .returned (.int .i64 0) ∧ R w1 ∧ w' = w1.setCell ⟨w.heap.size, 0, none⟩ (.int .i64 0)) ∨ ∃ c, e = .returned (.int .i64 c) ∧ B c w1 ∧ w' = (w1.alloc (.cells #[.int .i64 c] 68)).setCell ⟨w.heap.size, 0, none⟩ (.int .i64 c) := by
  have hmf : ∀ (fn : Fn) (first cap : Array Value) (w : World), (Instr.makeFunc fn first cap).run Try.prog w = .ok (.func fn first cap) w := fun _ _ _ _ => rfl
  have H1 := hideIt H
  clear H
  go_enter_defers Try.func23, Try.ntmps23
  go_wp2_with (simp only [hin])
  refine H1.out.mono ?_
  clear H1
  rintro e w1 ⟨hb, ⟨rfl, hR⟩ | ⟨c, rfl, hB⟩⟩
  · have HR := hideIt (show ∃ w', w' = w1 ∧ R w' from ⟨w1, rfl, hR⟩)
    have hc0 : w1.cell? ⟨w.heap.size, 0, none⟩ = some (.int .i64 0) := by simp [World.cell?, hb]
    have hf0 : w1.frozen? ⟨w.heap.size, 0, none⟩ = false := by simp [World.frozen?, hb]
    clear hb hR
    go_wp2
    refine leaves_cons (f := 39) (args := #[.pointer (some ⟨w.heap.size, 0, none⟩)]) (by simp) (by simp [go_sem]) ?_
    refine (catch_idle ⟨w.heap.size, 0, none⟩ _).mono ?_
    rintro e u' w'' ⟨rfl, rfl, rfl⟩
    obtain ⟨_, rfl, hR⟩ := HR.out
    simp only [Leaves, settle]
    exact ⟨.int .i64 0, by simp [results, Try.results23, go_sem, hc0], _, .inl ⟨rfl, hR, rfl⟩⟩
  · have hc0 : w1.cell? ⟨w.heap.size, 0, none⟩ = some (.int .i64 0) := by simp [World.cell?, hb]
    have hf0 : w1.frozen? ⟨w.heap.size, 0, none⟩ = false := by simp [World.frozen?, hb]
    refine leaves_cons (f := 39) (args := #[.pointer (some ⟨w.heap.size, 0, none⟩)]) (by simp) (by simp [go_sem]) ?_
    refine (catch_halt w.heap.size 0 c _ (Array.getElem?_eq_some_iff.1 hb).1 hc0 hf0).mono ?_
    rintro e u' w'' ⟨rfl, rfl, rfl⟩
    simp only [settle, List.dropWhile_nil, Leaves]
    exact ⟨.int .i64 c, by simp [results, Try.results23, go_sem, set_there ((But.block (After.rfl.alloc (.cells #[.int .i64 c] 68)) w.heap.size (Array.getElem?_eq_some_iff.1 hb).1 (fun t => t)).trans hb)], _, .inr ⟨c, rfl, hB, rfl⟩⟩
end Go.Proofs.Ytigiakhdaaoljaa
/-
  What Unpack does with a coder: the message is read into a variable.
-/
namespace Go.Proofs.Ytigiakhdaaoljaa
open Go.RowKit
set_option maxRecDepth 8000
/-- A variable that holds a message that was read. -/
def Read (w w' : World) (g : Nat) (X : Msg) : Prop :=
  ∃ sa sc oa oc ba bc, w'.heap[g]? = some (.cells (X.cells sa sc oa oc ba bc) 26 (0, 0)) ∧ MsgX w' (fun k => w.heap.size ≤ k) X sa sc oa oc ba bc ∧ w'.ownsRow w.heap.size 5 1 (.slice sa X.sys.length sc) X.sys.length (u8s X.sys)
set_option maxHeartbeats 1000000 in
theorem unp1 (w : World) (ga gc : Nat) (p : Option Addr) (zs : List Int) (S : Nat → Prop) (ka : Keeps w S ga (.cells ((Msg.zero 0).cells none 0 none 0 none 0) 26 (0, 0))) (kc : Keeps w S gc (.cells #[.pointer p, .pointer none] 52 (0, 0))) (cd : Cod w p none false zs S) :
    Calls Try.prog 35 #[Ptr gc, Ptr ga] w fun e w' => Ends (msgF false (Msg.zero 0) zs) (fun X _ => e = .returned (.tuple #[]) ∧ Read w w' ga X ∧ But (fun k => S k ∨ k = ga) w w') (fun c => e = .panicked (Halt c) ∧ But S w w') := by
  have HM := hideIt (c_message w p none false zs S (fun _ => False) (Msg.zero 0) none 0 none 0 none 0 cd (MsgX.nils w _ 0 0 0 0) (fun k hk => hk.elim) (fun h => by cases h))
  unfold Msg.zero Msg.cells at ka
  obtain ⟨_, ⟨g0, g1, g2, g3, g4, g5, g6⟩, _⟩ := seven_at ka.at0
  obtain ⟨_, d0, d1, _, _⟩ := two_at kc.at0
  have HK := hideIt (And.intro ka kc)
  clear ka kc cd
  generalize hR : msgF false (Msg.zero 0) zs = R at HM ⊢
  clear hR
  go_enter Try.func35, Try.ntmps35
  go_wp2_with fail
  refine HM.out.mono ?_
  clear HM
  intro e w1 h1
  rcases h1.split with ⟨c9, e1, rfl, t⟩ | ⟨X, us, e1, ⟨xa, xc, ya, yc, za, zc, rfl, hv⟩, S', k', s'⟩
  · exact ⟨rfl, Ends.bad e1 ⟨rfl, t⟩⟩
  have ka1 := HK.out.1.step s'
  have hlt := HK.out.1.lt
  obtain ⟨_, ⟨y0, y1, y2, y3, y4, y5, y6⟩, ⟨z0, z1, z2, z3, z4, z5, z6⟩⟩ := seven_at ka1.at0
  have HV := hideIt (And.intro e1 (And.intro (hv rfl) (And.intro ka1 (And.intro s'.but hlt))))
  clear h1 e1 hv ka1 s' k' hlt g0 g1 g2 g3 g4 g5 g6 d0 d1 HK
  unfold Msg.val
  obtain ⟨Xk, Xs, Xc, Xr, Xq, Xo, Xb⟩ := X
  dsimp only
  go_wp2_with fail
  obtain ⟨e1, ⟨hx, ho⟩, ka1, sb, hlt⟩ := HV.out
  first | go_end0 | refine bodyPost_ret (results_none rfl _ _ _) rfl ?_
  refine Ends.ok e1 ⟨rfl, ⟨xa, xc, ya, yc, za, zc, seven_sets ka1.at0 _ _ _ _ _ _ _, ?_, ?_⟩, ?_⟩
  · refine (hx.but (T := One ga) ?_ (fun k hk e => by have e' : k = ga := e; rcases hk with h | h; exact h.elim; omega)).mono (fun k hk => hk.elim False.elim id)
    iterate 7 refine But.set (S := One ga) ?_ ⟨ga, _, none⟩ (fun _ => Eq.refl _) _
    exact But.rfl
  · refine own_but (S := One ga) ho ?_ (fun k hk e => by have e' : k = ga := e; have := (ho.lt k hk).1; omega)
    iterate 7 refine But.set (S := One ga) ?_ ⟨ga, _, none⟩ (fun _ => Eq.refl _) _
    exact But.rfl
  · iterate 7 refine But.set ?_ ⟨ga, _, none⟩ (fun _ => .inr rfl) _
    exact sb.mono (fun _ _ h => .inl h)
end Go.Proofs.Ytigiakhdaaoljaa
/-
  Whether nothing of a message was left out.
-/
namespace Go.Proofs.Ytigiakhdaaoljaa
open Go.RowKit
set_option maxRecDepth 8000
def sameB (s s' : Nat) (c c' r r' q q' : Int) (o o' b b' : Nat) : Bool := decide (s = s' ∧ c = c' ∧ r = r' ∧ q = q' ∧ o = o' ∧ b = b')
set_option maxHeartbeats 1000000 in
theorem same25 (w : World) (k k' : Int) (sa sa' oa oa' ba ba' : Option Addr) (s s' sc sc' : Nat) (c c' r r' q q' : Int) (o o' oc oc' b b' bc bc' : Nat) :
    Calls Try.prog 25 #[.agg #[.int .i64 k, .slice sa s sc, .int .i64 c, .int .i64 r, .int .i64 q, .slice oa o oc, .slice ba b bc], .agg #[.int .i64 k', .slice sa' s' sc', .int .i64 c', .int .i64 r', .int .i64 q', .slice oa' o' oc', .slice ba' b' bc']] w fun e w' => e = .returned (.bool (sameB s s' c c' r r' q q' o o' b b')) ∧ After w w' := by
  have HA := hideIt (After.rfl (w := w))
  obtain ⟨f, hf⟩ : ∃ f, sameB s s' c c' r r' q q' o o' b b' = f := ⟨_, rfl⟩
  unfold sameB at hf
  rw [show sameB s s' c c' r r' q q' o o' b b' = f from hf]
  by_cases h0 : s = s'
  rotate_left
  · have k0 : (((s : Nat) : Int) == ((s' : Nat) : Int)) = false := by simpa using (fun e => h0 (by omega))
    obtain rfl : f = false := by rw [← hf]; exact decide_eq_false (fun t => h0 t.1)
    clear hf h0
    go_enter Try.func25, Try.ntmps25
    go_wp2_with fail
    go_ret
    exact ⟨rfl, (HA.out.alloc _).alloc _⟩
  subst h0
  by_cases h1 : c = c'
  rotate_left
  · have k1 : (c == c') = false := by simpa using (fun e => h1 (by omega))
    obtain rfl : f = false := by rw [← hf]; exact decide_eq_false (fun t => h1 t.2.1)
    clear hf h1
    go_enter Try.func25, Try.ntmps25
    go_wp2_with fail
    go_ret
    exact ⟨rfl, (HA.out.alloc _).alloc _⟩
  subst h1
  by_cases h2 : r = r'
  rotate_left
  · have k2 : (r == r') = false := by simpa using (fun e => h2 (by omega))
    obtain rfl : f = false := by rw [← hf]; exact decide_eq_false (fun t => h2 t.2.2.1)
    clear hf h2
    go_enter Try.func25, Try.ntmps25
    go_wp2_with fail
    go_ret
    exact ⟨rfl, (HA.out.alloc _).alloc _⟩
  subst h2
  by_cases h3 : q = q'
  rotate_left
  · have k3 : (q == q') = false := by simpa using (fun e => h3 (by omega))
    obtain rfl : f = false := by rw [← hf]; exact decide_eq_false (fun t => h3 t.2.2.2.1)
    clear hf h3
    go_enter Try.func25, Try.ntmps25
    go_wp2_with fail
    go_ret
    exact ⟨rfl, (HA.out.alloc _).alloc _⟩
  subst h3
  by_cases h4 : o = o'
  rotate_left
  · have k4 : (((o : Nat) : Int) == ((o' : Nat) : Int)) = false := by simpa using (fun e => h4 (by omega))
    obtain rfl : f = false := by rw [← hf]; exact decide_eq_false (fun t => h4 t.2.2.2.2.1)
    clear hf h4
    go_enter Try.func25, Try.ntmps25
    go_wp2_with fail
    go_ret
    exact ⟨rfl, (HA.out.alloc _).alloc _⟩
  subst h4
  by_cases h5 : b = b'
  rotate_left
  · have k5 : (((b : Nat) : Int) == ((b' : Nat) : Int)) = false := by simpa using (fun e => h5 (by omega))
    obtain rfl : f = false := by rw [← hf]; exact decide_eq_false (fun t => h5 t.2.2.2.2.2)
    clear hf h5
    go_enter Try.func25, Try.ntmps25
    go_wp2_with fail
    go_ret
    exact ⟨rfl, (HA.out.alloc _).alloc _⟩
  subst h5
  obtain rfl : f = true := by rw [← hf]; simp
  clear hf
  go_enter Try.func25, Try.ntmps25
  go_wp2_with fail
  go_ret
  exact ⟨rfl, (HA.out.alloc _).alloc _⟩
end Go.Proofs.Ytigiakhdaaoljaa
/-
  What Pack does with a coder: the message is written, and nothing of it may be left out.
-/
namespace Go.Proofs.Ytigiakhdaaoljaa
open Go.RowKit
set_option maxRecDepth 8000
def sameM (M X : Msg) : Bool := sameB M.sys.length X.sys.length M.config X.config M.result X.result M.reason X.reason M.objs.length X.objs.length M.obs.length X.obs.length
/-- A message's bytes, of one whose kind and whose lists may be. -/
def packF (M : Msg) : Except Int (Unit × List Int) := thn (msgF true M []) fun X zs => if sameM M X = true then .ok ((), zs) else .error 2
set_option maxHeartbeats 1000000 in
theorem pack1 (w : World) (ga gc : Nat) (q : Option Addr) (S P : Nat → Prop) (M : Msg) (sa : Option Addr) (sc : Nat) (oa : Option Addr) (oc : Nat) (ba : Option Addr) (bc : Nat) (ka : Keeps w S ga (.cells (M.cells sa sc oa oc ba bc) 26 (0, 0))) (kc : Keeps w S gc (.cells #[.pointer none, .pointer q] 52 (0, 0))) (cd : Cod w none q true [] S) (x : MsgX w P M sa sc oa oc ba bc) (hP : ∀ k, P k → ¬ S k ∧ k < w.heap.size) :
    Calls Try.prog 24 #[Ptr ga, Ptr gc] w fun e w' => Ends (packF M) (fun _ zs => e = .returned (.tuple #[]) ∧ Went w w' none q true S zs) (fun c => e = .panicked (Halt c) ∧ But S w w') := by
  have HM := hideIt (fun W (h : After w W) => c_message W none q true [] S P M sa sc oa oc ba bc (cd.after h) (x.after h) (fun k hk => ⟨(hP k hk).1, Nat.lt_of_lt_of_le (hP k hk).2 h.size⟩) (fun _ => by simp))
  have HP := hideIt (show ∀ X zs, msgF true M [] = .ok (X, zs) → packF M = if sameM M X = true then .ok ((), zs) else .error 2 from fun X zs e => thn_ok e)
  have HB := hideIt (show ∀ c, msgF true M [] = .error c → packF M = .error c from fun c e => thn_bad e)
  have hk9 := ka
  unfold Msg.cells at hk9
  have HK := hideIt (And.intro hk9 kc)
  have ka0 := ka.at0
  unfold Msg.cells at ka0
  obtain ⟨_, ⟨g0, g1, g2, g3, g4, g5, g6⟩, _⟩ := seven_at ka0
  obtain ⟨_, d0, d1, _, _⟩ := two_at kc.at0
  have HS := hideIt (cd.lt)
  clear cd x hP ka kc ka0 hk9
  unfold sameM at HP
  unfold Msg.val at HM
  generalize msgF true M [] = R at HM HP HB
  generalize packF M = PF at HP HB ⊢
  obtain ⟨mk, ms, mc, mr, mq, mo, mb⟩ := M
  dsimp only at HM HP HK g0 g1 g2 g3 g4 g5 g6
  generalize ms.length = n1 at HM HP HK g1
  generalize mo.length = n2 at HM HP HK g5
  generalize mb.length = n3 at HM HP HK g6
  go_enter Try.func24, Try.ntmps24
  go_wp2_with fail
  refine wp_region_held_drew (S := (fun W => W.cell? ⟨ga, 0, none⟩ = some (.int .i64 mk) ∧ W.cell? ⟨ga, 1, none⟩ = some (.slice sa n1 sc) ∧ W.cell? ⟨ga, 2, none⟩ = some (.int .i64 mc) ∧ W.cell? ⟨ga, 3, none⟩ = some (.int .i64 mr) ∧ W.cell? ⟨ga, 4, none⟩ = some (.int .i64 mq) ∧ W.cell? ⟨ga, 5, none⟩ = some (.slice oa n2 oc) ∧ W.cell? ⟨ga, 6, none⟩ = some (.slice ba n3 bc) ∧ W.cell? ⟨gc, 0, none⟩ = some (.pointer none) ∧ W.cell? ⟨gc, 1, none⟩ = some (.pointer q))) rfl ⟨g0, g1, g2, g3, g4, g5, g6, d0, d1⟩ (fun hHeld => ?_)
  refine' takeD (i := 0) (d := some 2) (v := _) rfl rfl (by kernel_rfl) (by kernel_rfl) (by kernel_rfl) (fun _ _ _ h => h) (by rfl) hHeld (fun w hSw => ?_) ?_
  rotate_left 1
  · (try dsimp only at hSw)
    go_simp
    try with_reducible rfl
  try simp only [Act.put, List.setIfInBounds_toArray, List.set_cons_zero, List.set_cons_succ]
  refine' takeD (i := 1) (d := some 3) (v := _) rfl rfl (by kernel_rfl) (by kernel_rfl) (by kernel_rfl) (fun _ _ _ h => h) (by rfl) hHeld (fun w hSw => ?_) ?_
  rotate_left 1
  · (try dsimp only at hSw)
    go_simp
    try with_reducible rfl
  try simp only [Act.put, List.setIfInBounds_toArray, List.set_cons_zero, List.set_cons_succ]
  refine' takeD (i := 2) (d := some 4) (v := _) rfl rfl (by kernel_rfl) (by kernel_rfl) (by kernel_rfl) (fun _ _ _ h => h) (by rfl) hHeld (fun w hSw => ?_) ?_
  rotate_left 1
  · (try dsimp only at hSw)
    go_simp
    try with_reducible rfl
  try simp only [Act.put, List.setIfInBounds_toArray, List.set_cons_zero, List.set_cons_succ]
  refine wpAnyH_ready (rs := [3]) (by kernel_rfl) (by simp) ?_
  refine AllReadyH.cons rfl (fun K hK => ?_) AllReadyH.nil
  go_simp
  refine (HM.out _ (After.rfl.draws 1)).mono ?_
  intro e w5 h5
  rcases h5.split with ⟨c9, e1, rfl, t⟩ | ⟨X, zs, e1, ⟨xa, xc, ya, yc, za, zc, rfl, _⟩, S', k', s'⟩
  · exact ⟨rfl, Ends.bad (HB.out _ e1) ⟨rfl, (After.rfl.draws 1).but.trans t⟩⟩
  have HE := hideIt (And.intro (HP.out _ _ e1) (And.intro k' s'))
  have ka5 := ((HK.out.1.after (After.rfl.draws 1)).step s')
  have kc5 := ((HK.out.2.after (After.rfl.draws 1)).step s')
  obtain ⟨_, ⟨y0, y1, y2, y3, y4, y5, y6⟩, _⟩ := seven_at ka5.at0
  obtain ⟨_, v0, v1, _, _⟩ := two_at kc5.at0
  have HC := hideIt (fun W (h : After w5 W) => c_stop W none q true zs S' 2 (k'.after h))
  have HK5 := hideIt (And.intro ka5 kc5)
  obtain ⟨Xk, Xs, Xc, Xr, Xq, Xo, Xb⟩ := X
  dsimp only [Msg.val] at HE ⊢
  clear h5 e1 k' s' ka5 kc5 HM HP HB
  generalize Xs.length = m1 at HE ⊢
  generalize Xo.length = m2 at HE ⊢
  generalize Xb.length = m3 at HE ⊢
  try go_wp2_with fail
  refine hK.out _ _ ?_ (fun hHeld3 => ?_)
  · exact ⟨y0, y1, y2, y3, y4, y5, y6, v0, v1⟩
  clear hK K y0 y1 y2 y3 y4 y5 y6 v0 v1
  try simp only [Act.put, List.setIfInBounds_toArray, List.set_cons_zero, List.set_cons_succ]
  cases hsm : sameB n1 m1 mc Xc mr Xr mq Xq n2 m2 n3 m3 with
  | false =>
    refine wpAnyH_ready (rs := [4]) (by kernel_rfl) (by simp) ?_
    refine AllReadyH.cons rfl (fun K hK => ?_) AllReadyH.nil
    go_simp
    refine (same25 _ _ _ _ _ _ _ _ _ _ _ _ _ _ _ _ _ _ _ _ _ _ _ _ _ _ _).mono ?_
    rintro e w6 ⟨rfl, h6⟩
    rw [hsm]
    try go_wp2_with fail
    refine hK.out _ _ ?_ (fun hHeld4 => ?_)
    · exact (by have hk := HK5.out.1.after h6; have hk2 := HK5.out.2.after h6; obtain ⟨_, ⟨y0, y1, y2, y3, y4, y5, y6⟩, _⟩ := seven_at hk.at0; obtain ⟨_, v0, v1, _, _⟩ := two_at hk2.at0; exact ⟨y0, y1, y2, y3, y4, y5, y6, v0, v1⟩)
    clear hK K
    try simp only [Act.put, List.setIfInBounds_toArray, List.set_cons_zero, List.set_cons_succ]
    refine' takeD (i := 5) (d := some 7) (v := _) rfl rfl (by kernel_rfl) (by kernel_rfl) (by kernel_rfl) (fun _ _ _ h => h) (by rfl) hHeld4 (fun w hSw => ?_) ?_
    rotate_left 1
    · (try dsimp only at hSw)
      go_simp
      try with_reducible rfl
    try simp only [Act.put, List.setIfInBounds_toArray, List.set_cons_zero, List.set_cons_succ]
    refine wpAnyH_done (by kernel_rfl) ?_ _
    clear hHeld hHeld3
    obtain ⟨_, _, _, _, _, _, _, v0, v1⟩ := hHeld4
    have HC6 := hideIt (HC.out w6 h6)
    have H6 := hideIt h6
    clear h6 HC HK HK5
    go_wp2_with fail
    refine HC6.out.mono ?_
    rintro e w7 ⟨rfl, h7⟩
    rw [hsm] at HE
    obtain ⟨e9, k', s'⟩ := HE.out
    exact ⟨rfl, Ends.bad (e9.trans (if_neg (by decide))) ⟨rfl, ((After.rfl.draws 1).but.trans s'.but).trans (H6.out.trans h7).but⟩⟩
  | true =>
    refine wpAnyH_ready (rs := [4]) (by kernel_rfl) (by simp) ?_
    refine AllReadyH.cons rfl (fun K hK => ?_) AllReadyH.nil
    go_simp
    refine (same25 _ _ _ _ _ _ _ _ _ _ _ _ _ _ _ _ _ _ _ _ _ _ _ _ _ _ _).mono ?_
    rintro e w6 ⟨rfl, h6⟩
    rw [hsm]
    try go_wp2_with fail
    refine hK.out _ _ ?_ (fun hHeld4 => ?_)
    · exact (by have hk := HK5.out.1.after h6; have hk2 := HK5.out.2.after h6; obtain ⟨_, ⟨y0, y1, y2, y3, y4, y5, y6⟩, _⟩ := seven_at hk.at0; obtain ⟨_, v0, v1, _, _⟩ := two_at hk2.at0; exact ⟨y0, y1, y2, y3, y4, y5, y6, v0, v1⟩)
    clear hK K
    try simp only [Act.put, List.setIfInBounds_toArray, List.set_cons_zero, List.set_cons_succ]
    refine' takeD (i := 5) (d := some 7) (v := _) rfl rfl (by kernel_rfl) (by kernel_rfl) (by kernel_rfl) (fun _ _ _ h => h) (by rfl) hHeld4 (fun w hSw => ?_) ?_
    rotate_left 1
    · (try dsimp only at hSw)
      go_simp
      try with_reducible rfl
    try simp only [Act.put, List.setIfInBounds_toArray, List.set_cons_zero, List.set_cons_succ]
    refine wpAnyH_done (by kernel_rfl) ?_ _
    clear hHeld hHeld3
    have H6 := hideIt h6
    clear h6 HC HK HK5 hHeld4
    go_wp2_with fail
    rw [hsm] at HE
    obtain ⟨e9, k', s'⟩ := HE.out
    first | go_end0 | refine bodyPost_ret (results_none rfl _ _ _) rfl ?_
    exact Ends.ok (e9.trans (if_pos rfl)) ⟨rfl, S', k'.after H6.out, (Stp.behind (After.rfl.draws 1) s').after H6.out⟩
end Go.Proofs.Ytigiakhdaaoljaa
/-
  A message is read, or what is thrown is caught.
-/
namespace Go.Proofs.Ytigiakhdaaoljaa
open Go.RowKit
set_option maxRecDepth 8000
theorem in35 (c : Array Value) (w : World) : (callFunc 35 c).run Try.prog w = .ok (.enter 35 c) w := by simp [go_sem]
theorem in24 (c : Array Value) (w : World) : (callFunc 24 c).run Try.prog w = .ok (.enter 24 c) w := by simp [go_sem]
theorem caught35 (w : World) (ga gc : Nat) (p : Option Addr) (zs : List Int) (S : Nat → Prop) (ka : Keeps w S ga (.cells ((Msg.zero 0).cells none 0 none 0 none 0) 26 (0, 0))) (kc : Keeps w S gc (.cells #[.pointer p, .pointer none] 52 (0, 0))) (cd : Cod w p none false zs S) :
    Calls Try.prog 23 #[.func (.func 35) #[] #[Ptr gc, Ptr ga]] w fun e w' => Ends (msgF false (Msg.zero 0) zs) (fun X _ => e = .returned (.int .i64 0) ∧ Read w w' ga X ∧ But (fun k => S k ∨ k = ga) w w') (fun c => e = .returned (.int .i64 c) ∧ But S w w') := by
  have hA : After w (w.alloc (.cells #[.int .i64 0] 28)) := After.rfl.alloc _
  have hsz : (w.alloc (.cells #[.int .i64 0] 28)).heap.size = w.heap.size + 1 := World.size_alloc _ _
  have hb := new1 w (.cells #[.int .i64 0] 28)
  refine (caught_any w 35 #[Ptr gc, Ptr ga] (fun w1 => ∃ X us, msgF false (Msg.zero 0) zs = .ok (X, us) ∧ Read (w.alloc (.cells #[.int .i64 0] 28)) w1 ga X ∧ But (fun k => S k ∨ k = ga) (w.alloc (.cells #[.int .i64 0] 28)) w1) (fun c w1 => msgF false (Msg.zero 0) zs = .error c ∧ But S (w.alloc (.cells #[.int .i64 0] 28)) w1) in35 ?_).mono ?_
  · refine (unp1 _ ga gc p zs S (ka.after hA) (kc.after hA) (cd.after hA)).mono ?_
    intro e w1 h1
    rcases h1.split with ⟨c9, e1, rfl, t⟩ | ⟨X, us, e1, rfl, hr, t⟩
    · exact ⟨(t.block _ (by omega) (fun h => by have := cd.lt _ h; omega)).trans hb, .inr ⟨c9, rfl, e1, t⟩⟩
    · exact ⟨(t.block _ (by omega) (fun h => h.elim (fun h => by have := cd.lt _ h; omega) (fun h => by have := ka.lt; omega))).trans hb, .inl ⟨rfl, X, us, e1, hr, t⟩⟩
  · rintro e w2 ⟨w1, ⟨rfl, ⟨X, us, e1, ⟨sa, sc, oa, oc, ba, bc, h1, h2, h3⟩, t⟩, rfl⟩ | ⟨c, rfl, ⟨e1, t⟩, rfl⟩⟩
    · have bs : But (One w.heap.size) w1 (w1.setCell ⟨w.heap.size, 0, none⟩ (.int .i64 0)) := But.set (S := One w.heap.size) But.rfl ⟨w.heap.size, 0, none⟩ (fun _ => Eq.refl _) _
      refine Ends.ok e1 ⟨rfl, ⟨sa, sc, oa, oc, ba, bc, set_far h1 (by have := ka.lt; omega), (h2.but bs (fun k hk e => by have e' : k = w.heap.size := e; omega)).mono (fun k hk => by omega), own_base (own_but h3 bs (fun k hk e => by have e' : k = w.heap.size := e; have := (h3.lt k hk).1; omega)) (fun k hk => Nat.le_trans (by omega) (h3.lt k hk).1)⟩, ?_⟩
      exact (hA.but.trans t).new (Nat.le_refl _) _ _
    · exact Ends.bad e1 ⟨rfl, ((hA.but.trans t).trans (After.rfl.alloc _).but).new (Nat.le_refl _) _ _⟩
theorem caught24 (w : World) (ga gc : Nat) (q : Option Addr) (S P : Nat → Prop) (M : Msg) (sa : Option Addr) (sc : Nat) (oa : Option Addr) (oc : Nat) (ba : Option Addr) (bc : Nat) (ka : Keeps w S ga (.cells (M.cells sa sc oa oc ba bc) 26 (0, 0))) (kc : Keeps w S gc (.cells #[.pointer none, .pointer q] 52 (0, 0))) (cd : Cod w none q true [] S) (x : MsgX w P M sa sc oa oc ba bc) (hP : ∀ k, P k → ¬ S k ∧ k < w.heap.size) :
    Calls Try.prog 23 #[.func (.func 24) #[] #[Ptr ga, Ptr gc]] w fun e w' => Ends (packF M) (fun _ zs => e = .returned (.int .i64 0) ∧ Went w w' none q true S zs) (fun c => e = .returned (.int .i64 c) ∧ But S w w') := by
  have hA : After w (w.alloc (.cells #[.int .i64 0] 28)) := After.rfl.alloc _
  have hsz : (w.alloc (.cells #[.int .i64 0] 28)).heap.size = w.heap.size + 1 := World.size_alloc _ _
  have hb := new1 w (.cells #[.int .i64 0] 28)
  refine (caught_any w 24 #[Ptr ga, Ptr gc] (fun w1 => ∃ zs, packF M = .ok ((), zs) ∧ Went (w.alloc (.cells #[.int .i64 0] 28)) w1 none q true S zs) (fun c w1 => packF M = .error c ∧ But S (w.alloc (.cells #[.int .i64 0] 28)) w1) in24 ?_).mono ?_
  · refine (pack1 _ ga gc q S P M sa sc oa oc ba bc (ka.after hA) (kc.after hA) (cd.after hA) (x.after hA) (fun k hk => ⟨(hP k hk).1, by have := (hP k hk).2; omega⟩)).mono ?_
    intro e w1 h1
    rcases h1.split with ⟨c9, e1, rfl, t⟩ | ⟨X, us, e1, rfl, S', k', s'⟩
    · exact ⟨(t.block _ (by omega) (fun h => by have := cd.lt _ h; omega)).trans hb, .inr ⟨c9, rfl, e1, t⟩⟩
    · exact ⟨(s'.but.block _ (by omega) (fun h => by have := cd.lt _ h; omega)).trans hb, .inl ⟨rfl, us, e1, S', k', s'⟩⟩
  · rintro e w2 ⟨w1, ⟨rfl, ⟨us, e1, S', k', s'⟩, rfl⟩ | ⟨c, rfl, ⟨e1, t⟩, rfl⟩⟩
    · refine Ends.ok e1 ⟨rfl, S', k'.set (fun h => (s'.new _ h).elim (fun h => by have := cd.lt _ h; omega) (fun h => by omega)) _ _, (Stp.behind hA s').newly (Nat.le_refl _) _ _⟩
    · exact Ends.bad e1 ⟨rfl, ((hA.but.trans t).trans (After.rfl.alloc _).but).new (Nat.le_refl _) _ _⟩
end Go.Proofs.Ytigiakhdaaoljaa
/-
  The same of whole messages: written and read, read and written, cut, and with more behind them.
-/
namespace Go.Proofs.Ytigiakhdaaoljaa
open Go.RowKit
set_option maxRecDepth 8000

theorem ins_back {ok : Int → Bool} {k : Int} {M X : Msg} {zs ys : List Int} (h : insF true ok k M zs = .ok (X, ys)) : ok k = true ∧ X = keep k M ∧ ∃ bs, ys = zs ++ bs ∧ ∀ M' rest, insF false ok k M' (bs ++ rest) = .ok (X, rest) := by
  unfold insF at h
  split at h
  · rename_i hk
    obtain ⟨rfl, bs, rfl, r⟩ := (fields_dual k).back h
    exact ⟨hk, rfl, bs, rfl, fun M' rest => by unfold insF; rw [if_pos hk]; exact r M' rest trivial⟩
  · cases h
theorem fields_keep {k : Int} {M X : Msg} {zs r : List Int} (hz : Bs zs) (h : fieldsF false k M zs = .ok (X, r)) : X = keep k X := by
  obtain ⟨_, bs, _, w⟩ := (fields_dual k).once hz h
  exact ((fields_dual k).back (w [])).1
theorem keep_kind (k : Int) (M : Msg) : (keep k M).kind = k := by
  unfold keep Msg.zero
  repeat' split
  all_goals rfl
theorem fields_bound {k : Int} {M X : Msg} {zs r : List Int} (hz : Bs zs) (h : fieldsF false k M zs = .ok (X, r)) : X.objs.length ≤ 16 ∧ X.obs.length ≤ 64 := by
  unfold fieldsF at h
  split at h
  · obtain ⟨_, _, _, h⟩ := thn_inv h; obtain ⟨_, _, _, h⟩ := thn_inv h; cases h; simp
  split at h
  · obtain ⟨_, _, _, h⟩ := thn_inv h; obtain ⟨_, _, _, h⟩ := thn_inv h; cases h; simp
  split at h
  · obtain ⟨_, _, _, h⟩ := thn_inv h; cases h; simp
  split at h
  · obtain ⟨_, _, e, h⟩ := thn_inv h
    have hz1 := num_bs e hz
    obtain ⟨l, _, e, h⟩ := thn_inv h
    cases h
    exact ⟨lstO_dual.2 hz1 e, by simp⟩
  split at h
  · obtain ⟨_, _, _, h⟩ := thn_inv h; obtain ⟨_, _, _, h⟩ := thn_inv h; cases h; simp
  split at h
  · obtain ⟨l, _, e, h⟩ := thn_inv h
    cases h
    exact ⟨by simp, lstB_dual.2 hz e⟩
  · cases h; simp [Msg.zero]
theorem ins_once {ok : Int → Bool} {k : Int} {M X : Msg} {zs rest : List Int} (hz : Bs zs) (h : insF false ok k M zs = .ok (X, rest)) : ok k = true ∧ X.kind = k ∧ (X.objs.length ≤ 16 ∧ X.obs.length ≤ 64) ∧ ∃ bs, zs = bs ++ rest ∧ ∀ ws, insF true ok k X ws = .ok (X, ws ++ bs) := by
  unfold insF at h
  split at h
  · rename_i hk
    obtain ⟨_, bs, e, r⟩ := (fields_dual k).once hz h
    have hX := fields_keep hz h
    have hB := fields_bound hz h
    exact ⟨hk, by rw [hX, keep_kind], hB, bs, e, fun ws => by unfold insF; rw [if_pos hk]; exact r ws⟩
  · cases h
theorem ins_errw {ok : Int → Bool} {k : Int} {M : Msg} {zs : List Int} {c : Int} (h : insF true ok k M zs = .error c) : c = 2 := by
  unfold insF at h
  split at h
  · exact (fields_dual k).errw h
  · cases h; rfl
theorem ins_errr {ok : Int → Bool} {k : Int} {M : Msg} {zs : List Int} {c : Int} (h : insF false ok k M zs = .error c) : c = 3 ∨ c = 4 ∨ c = 5 := by
  unfold insF at h
  split at h
  · exact (fields_dual k).errr h
  · cases h; exact .inr (.inl rfl)
/-- A part's bytes. -/
def boxB (k : Int) (bs : List Int) : List Int := bytesOf 2 k ++ (bytesOf 2 bs.length ++ bs)
theorem partW_inv {ins : Int → List Int → Except Int (Msg × List Int)} {k : Int} {zs ys : List Int} {X : Msg} (h : partW ins k zs = .ok (X, ys)) : ∃ bs, ins k [] = .ok (X, bs) ∧ (0 ≤ k ∧ k ≤ 65535) ∧ bs.length ≤ 65535 ∧ ys = zs ++ boxB k bs := by
  obtain ⟨X', bs, e1, h1⟩ := thn_inv h
  obtain ⟨a, z1, e2, h2⟩ := thn_inv h1
  obtain ⟨b, z2, e3, h3⟩ := thn_inv h2
  clear h h1 h2
  cases h3
  by_cases hk : 0 ≤ k ∧ k ≤ (65535 : Nat)
  · rw [num_w hk] at e2
    cases e2
    by_cases hb : bs.length ≤ 65535
    · rw [oct_w hb] at e3
      cases e3
      exact ⟨_, e1, ⟨hk.1, hk.2⟩, hb, by unfold boxB; rw [List.append_assoc]⟩
    · rw [oct_wn hb] at e3; cases e3
  · rw [num_wn hk] at e2; cases e2
theorem partW_do {ins : Int → List Int → Except Int (Msg × List Int)} {k : Int} {zs bs : List Int} {X : Msg} (h : ins k [] = .ok (X, bs)) (hk : 0 ≤ k ∧ k ≤ 65535) (hb : bs.length ≤ 65535) : partW ins k zs = .ok (X, zs ++ boxB k bs) := by
  unfold partW boxB
  rw [thn_ok h, thn_ok (num_w (M := 65535) ⟨hk.1, hk.2⟩), thn_ok (oct_w hb), List.append_assoc]
theorem box_kind (k k' : Int) (r : List Int) (hk : 0 ≤ k ∧ k ≤ 65535) : num false 2 65535 k' (bytesOf 2 k ++ r) = .ok (k, r) := by
  obtain ⟨e1, e2⟩ := take_left2 (bytesOf 2 k) r 2 (bytesOf_length 2 k)
  rw [num_r (by rw [List.length_append, bytesOf_length]; omega), e1, e2, be2 hk]
theorem box_in (bs r v : List Int) (hb : bs.length ≤ 65535) : oct false v (bytesOf 2 bs.length ++ bs ++ r) = .ok (bs, r) := by
  have h : oct true bs [] = .ok (bs, [] ++ (bytesOf 2 bs.length ++ bs)) := oct_w hb
  obtain ⟨_, b, e, r1⟩ := oct_dual.back h
  rw [List.nil_append, List.nil_append] at e
  rw [e]
  exact r1 v r trivial
theorem partR_box {ins : Int → List Int → Except Int (Msg × List Int)} {k : Int} (k' : Int) {bs : List Int} {X : Msg} (h : ins k bs = .ok (X, [])) (hk : 0 ≤ k ∧ k ≤ 65535) (hb : bs.length ≤ 65535) : partR ins k' (boxB k bs) = .ok (X, []) := by
  unfold partR boxB
  have := box_in bs [] [] hb
  rw [List.append_nil] at this
  rw [thn_ok (box_kind k k' _ hk), thn_ok this, if_pos List.length_nil, thn_ok h, if_pos List.length_nil]
theorem partR_more (ins : Int → List Int → Except Int (Msg × List Int)) {k : Int} (k' : Int) {bs s : List Int} (hk : 0 ≤ k ∧ k ≤ 65535) (hb : bs.length ≤ 65535) (hs : s ≠ []) : partR ins k' (boxB k bs ++ s) = .error 4 := by
  unfold partR boxB
  rw [List.append_assoc, thn_ok (box_kind k k' _ hk), thn_ok (box_in bs s [] hb), if_neg (by rw [List.length_eq_zero_iff]; exact hs)]
theorem partR_cut (ins : Int → List Int → Except Int (Msg × List Int)) {k : Int} (k' : Int) {bs p s : List Int} (hb : bs.length ≤ 65535) (e : p ++ s = boxB k bs) (hs : s ≠ []) : partR ins k' p = .error 3 := by
  have hsl : 0 < s.length := List.length_pos_iff.2 hs
  have hl : p.length + s.length = 4 + bs.length := by
    have := congrArg List.length e
    unfold boxB at this
    rw [List.length_append, List.length_append, List.length_append, bytesOf_length, bytesOf_length] at this
    omega
  unfold partR
  by_cases h2 : 2 ≤ p.length
  · rw [thn_ok (num_r h2)]
    have hd : p.drop 2 ++ s = bytesOf 2 bs.length ++ bs := by
      have := congrArg (List.drop 2) e
      rw [List.drop_append_of_le_length h2] at this
      rw [this]
      exact (take_left2 _ _ 2 (bytesOf_length 2 k)).2
    have hno : ocIs (p.drop 2) = false := by
      apply ocIs_no
      rintro ⟨g1, g2⟩
      have ht : (p.drop 2).take 2 = bytesOf 2 (bs.length : Int) := by
        have := congrArg (List.take 2) hd
        rw [List.take_append_of_le_length g1] at this
        rw [this]
        exact (take_left2 _ _ 2 (bytesOf_length 2 _)).1
      have hn : ocN (p.drop 2) = bs.length := by
        unfold ocN
        rw [ht, be2 (by omega)]
        omega
      rw [hn, List.length_drop] at g2
      rw [List.length_drop] at g1
      omega
    rw [thn_bad (oct_rn (by rw [hno]; decide))]
  · rw [thn_bad (num_rn h2)]
theorem partR_inv {ins : Int → List Int → Except Int (Msg × List Int)} {k' : Int} {zs rest : List Int} {X : Msg} (hz : Bs zs) (h : partR ins k' zs = .ok (X, rest)) : rest = [] ∧ ∃ k b, zs = boxB k b ∧ (0 ≤ k ∧ k ≤ 65535) ∧ b.length ≤ 65535 ∧ Bs b ∧ ins k b = .ok (X, []) := by
  obtain ⟨k, z1, e1, h1⟩ := thn_inv h
  obtain ⟨b, z2, e2, h2⟩ := thn_inv h1
  clear h h1
  have hk := num_bound e1 hz (by decide)
  have hz1 := num_bs e1 hz
  have hbl := (oct_len e2 hz1).1
  have hbb : Bs b := by
    by_cases hi : ocIs z1 = true
    · rw [oct_r hi] at e2; cases e2; exact ocVal_bs hz1
    · rw [oct_rn hi] at e2; cases e2
  split at h2
  · rename_i h0
    have h0' : z2 = [] := List.length_eq_zero_iff.1 h0
    subst h0'
    obtain ⟨X', r, e3, h3⟩ := thn_inv h2
    split at h3
    · rename_i hr
      have hr' : r = [] := List.length_eq_zero_iff.1 hr
      subst hr'
      cases h3
      obtain ⟨_, b1, rfl, w1⟩ := dual2.once hz e1
      obtain ⟨_, b2, rfl, w2⟩ := oct_dual.once hz1 e2
      have w1' := w1 []
      have w2' := w2 []
      rw [num_w (M := 65535) hk] at w1'
      rw [oct_w hbl] at w2'
      rw [List.nil_append, List.nil_append] at w1' w2'
      have f1 : b1 = bytesOf 2 k := (congrArg Prod.snd (Except.ok.inj w1')).symm
      have f2 : b2 = bytesOf 2 b.length ++ b := (congrArg Prod.snd (Except.ok.inj w2')).symm
      refine ⟨rfl, k, b, ?_, ⟨hk.1, hk.2⟩, hbl, hbb, e3⟩
      unfold boxB
      rw [f1, f2, List.append_nil]
    · cases h3
  · cases h2
theorem partW_err {ins : Int → List Int → Except Int (Msg × List Int)} {k : Int} {zs : List Int} {c : Int} (hi : ∀ k zs c, ins k zs = .error c → c = 2) (h : partW ins k zs = .error c) : c = 2 := by
  rcases thn_err h with h | ⟨_, _, _, h⟩
  · exact hi _ _ _ h
  rcases thn_err h with h | ⟨_, _, _, h⟩
  · exact dual2.errw h
  rcases thn_err h with h | ⟨_, _, _, h⟩
  · exact oct_dual.errw h
  · cases h
theorem partR_err {ins : Int → List Int → Except Int (Msg × List Int)} {k : Int} {zs : List Int} {c : Int} (hi : ∀ k zs c, ins k zs = .error c → c = 3 ∨ c = 4 ∨ c = 5) (h : partR ins k zs = .error c) : c = 3 ∨ c = 4 ∨ c = 5 := by
  rcases thn_err h with h | ⟨_, _, _, h⟩
  · exact dual2.errr h
  rcases thn_err h with h | ⟨_, _, _, h⟩
  · exact oct_dual.errr h
  split at h
  · rcases thn_err h with h | ⟨_, _, _, h⟩
    · exact hi _ _ _ h
    · split at h
      · cases h
      · cases h; exact .inr (.inl rfl)
  · cases h; exact .inr (.inl rfl)
theorem insD_errw {M : Msg} {k : Int} {zs : List Int} {c : Int} (h : insD true M k zs = .error c) : c = 2 := by
  unfold insD at h
  split at h
  · exact partW_err (fun _ _ _ => ins_errw) h
  · exact ins_errw h
theorem insD_errr {M : Msg} {k : Int} {zs : List Int} {c : Int} (h : insD false M k zs = .error c) : c = 3 ∨ c = 4 ∨ c = 5 := by
  unfold insD at h
  split at h
  · exact partR_err (fun _ _ _ => ins_errr) h
  · exact ins_errr h
theorem msg_errw {M : Msg} {zs : List Int} {c : Int} (h : msgF true M zs = .error c) : c = 2 := partW_err (fun _ _ _ => insD_errw) h
theorem msg_errr {M : Msg} {zs : List Int} {c : Int} (h : msgF false M zs = .error c) : c = 3 ∨ c = 4 ∨ c = 5 := partR_err (fun _ _ _ => insD_errr) h
theorem packF_err {M : Msg} {c : Int} (h : packF M = .error c) : c = 2 := by
  rcases thn_err h with h | ⟨_, _, _, h⟩
  · exact msg_errw h
  · split at h
    · cases h
    · cases h; rfl
theorem alone_not {k : Int} (h : alone k = true) : inData k = false ∧ k ≠ 59136 := by
  rcases of_decide_eq_true h with rfl | rfl | rfl | rfl | rfl <;> exact ⟨rfl, by decide⟩
theorem msg_back {M X : Msg} {ys : List Int} (h : msgF true M [] = .ok (X, ys)) (Z : Msg) : (alone M.kind = true ∨ inData M.kind = true) ∧ X = keep M.kind M ∧ msgF false Z ys = .ok (X, []) ∧ (∀ p s, p ++ s = ys → s ≠ [] → msgF false Z p = .error 3) ∧ (∀ s, s ≠ [] → msgF false Z (ys ++ s) = .error 4) := by
  obtain ⟨bs, e1, hk, hb, rfl⟩ := partW_inv h
  rw [List.nil_append] at h ⊢
  have fin : ∀ (k : Int), k = outer M.kind → insD false Z k bs = .ok (X, []) → msgF false Z (boxB (outer M.kind) bs) = .ok (X, []) := fun k hk' hi => partR_box (ins := insD false Z) (outer Z.kind) (by rw [← hk']; exact hi) hk hb
  have cut : ∀ p s, p ++ s = boxB (outer M.kind) bs → s ≠ [] → msgF false Z p = .error 3 := fun p s e hs => partR_cut (insD false Z) (outer Z.kind) hb e hs
  have more : ∀ s, s ≠ [] → msgF false Z (boxB (outer M.kind) bs ++ s) = .error 4 := fun s hs => partR_more (insD false Z) (outer Z.kind) hk hb hs
  have inner : insD true M 59136 [] = .ok (X, bs) → inData M.kind = true ∧ X = keep M.kind M ∧ insD false Z 59136 bs = .ok (X, []) := by
    intro e
    unfold insD at e
    rw [if_pos rfl, if_pos rfl] at e
    obtain ⟨cs, e2, hk2, hb2, rfl⟩ := partW_inv e
    obtain ⟨hd, hX, ds, rfl, r⟩ := ins_back e2
    refine ⟨hd, hX, ?_⟩
    unfold insD
    rw [if_pos rfl, if_neg (by decide), List.nil_append]
    have r0 := r Z []
    rw [List.append_nil] at r0
    exact partR_box _ r0 hk2 hb2
  cases hd : inData M.kind with
  | true =>
    have ho : outer M.kind = 59136 := by unfold outer; rw [if_pos hd]
    rw [ho] at e1
    obtain ⟨_, hX, hi⟩ := inner e1
    exact ⟨.inr rfl, hX, fin 59136 ho.symm hi, cut, more⟩
  | false =>
    have ho : outer M.kind = M.kind := by unfold outer; rw [if_neg (by rw [hd]; decide)]
    rw [ho] at e1
    by_cases hk9 : M.kind = 59136
    · rw [hk9] at e1
      obtain ⟨hd', _⟩ := inner e1
      rw [hd] at hd'
      cases hd'
    · unfold insD at e1
      rw [if_neg hk9] at e1
      obtain ⟨ha, hX, ds, rfl, r⟩ := ins_back e1
      refine ⟨.inl ha, hX, fin M.kind ho.symm ?_, cut, more⟩
      unfold insD
      have r0 := r Z []
      rw [List.append_nil] at r0
      rw [if_neg hk9]
      exact r0
theorem keep_same {k : Int} {M : Msg} (h : sameM M (keep k M) = true) (hk : M.kind = k) : keep k M = M := by
  obtain ⟨mk, ms, mc, mr, mq, mo, mb⟩ := M
  dsimp only at hk
  subst hk
  have h := of_decide_eq_true h
  unfold keep Msg.zero at h ⊢
  repeat' split at h
  all_goals (
    simp at h
    rename_i h1
    first
    | (obtain ⟨h2, h3, h4, h5, h6, h7⟩ := h; subst_vars; simp_all)
    | simp_all)
theorem msg_once {Z X : Msg} {zs rest : List Int} (hz : Bs zs) (h : msgF false Z zs = .ok (X, rest)) : rest = [] ∧ msgF true X [] = .ok (X, zs) ∧ (alone X.kind = true ∨ inData X.kind = true) ∧ X.objs.length ≤ 16 ∧ X.obs.length ≤ 64 := by
  obtain ⟨rfl, k, b, rfl, hk, hb, hbb, e⟩ := partR_inv hz h
  refine ⟨rfl, ?_⟩
  unfold insD at e
  split at e
  · rename_i hk9
    rw [if_neg (by decide)] at e
    obtain ⟨_, k2, b2, rfl, hk2, hb2, hbb2, e2⟩ := partR_inv hbb e
    obtain ⟨hd, hX, hB, bs, e3, r⟩ := ins_once hbb2 e2
    rw [List.append_nil] at e3
    subst e3
    have ho : outer X.kind = 59136 := by unfold outer; rw [hX, if_pos hd]
    refine ⟨?_, .inr (by rw [hX]; exact hd), hB⟩
    have h2 : insD true X 59136 [] = .ok (X, boxB k2 b2) := by
      unfold insD
      rw [if_pos rfl, if_pos rfl, hX]
      have := r []
      rw [List.nil_append] at this
      have := partW_do (ins := fun k zs => insF true inData k X zs) (zs := []) this hk2 hb2
      rw [List.nil_append] at this
      exact this
    show partW (insD true X) (outer X.kind) [] = _
    rw [ho]
    have := partW_do (ins := insD true X) (zs := []) h2 ⟨by decide, by decide⟩ hb
    rw [List.nil_append] at this
    rw [this, hk9]
  · rename_i hk9
    obtain ⟨ha, hX, hB, bs, e3, r⟩ := ins_once hbb e
    rw [List.append_nil] at e3
    subst e3
    have ho : outer X.kind = k := by unfold outer; rw [hX, if_neg (by rw [(alone_not ha).1]; decide)]
    refine ⟨?_, .inl (by rw [hX]; exact ha), hB⟩
    have h2 : insD true X k [] = .ok (X, b) := by
      unfold insD
      rw [if_neg hk9]
      have := r []
      rw [List.nil_append] at this
      exact this
    show partW (insD true X) (outer X.kind) [] = _
    rw [ho]
    have := partW_do (ins := insD true X) (zs := []) h2 hk hb
    rw [List.nil_append] at this
    exact this
end Go.Proofs.Ytigiakhdaaoljaa
