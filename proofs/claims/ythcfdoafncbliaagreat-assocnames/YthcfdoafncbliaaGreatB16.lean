/-
  Laid together: Pack1, Unp2, Duals, DualsB.
-/
import Derived.Test.YthcfdoafncbliaaGreatB15
/-
  What Pack does with a coder: the message is written, and nothing of it may be left out.
-/
namespace Go.Proofs.YthcfdoafncbliaaGreat
open Go.RowKit
set_option maxRecDepth 8000
def sameM (M X : Msg) : Bool := sameB M.sys.length X.sys.length M.config X.config M.result X.result M.reason X.reason M.objs.length X.objs.length M.obs.length X.obs.length
/-- A message's bytes, of one whose kind and whose lists may be. -/
def packF (M : Msg) : Except Int (Unit × List Int) := thn (msgF true M []) fun X zs => if sameM M X = true then .ok ((), zs) else .error 2
set_option maxHeartbeats 1000000 in
theorem pack1 (w : World) (ga gc : Nat) (q : Option Addr) (S P : Nat → Prop) (M : Msg) (sa : Option Addr) (sc : Nat) (oa : Option Addr) (oc : Nat) (ba : Option Addr) (bc : Nat) (ka : Keeps w S ga (.cells (M.cells sa sc oa oc ba bc) 31 (0, 0))) (kc : Keeps w S gc (.cells #[.pointer none, .pointer q] 79 (0, 0))) (cd : Cod w none q true [] S) (x : MsgX w P M sa sc oa oc ba bc) (hP : ∀ k, P k → ¬ S k ∧ k < w.heap.size) :
    Calls Tryz.prog 38 #[Ptr ga, Ptr gc] w fun e w' => Ends (packF M) (fun _ zs => e = .returned (.tuple #[]) ∧ Went w w' none q true S zs) (fun c => e = .panicked (Halt c) ∧ But S w w') := by
  have HM := hideIt (fun W (h : After w W) => c_message W none q true [] S P M sa sc oa oc ba bc (cd.after h) (x.after h) (fun k hk => ⟨(hP k hk).1, Nat.lt_of_lt_of_le (hP k hk).2 h.size⟩) (fun _ => by simp))
  have HP := hideIt (show ∀ X zs, msgF true M [] = .ok (X, zs) → packF M = if sameM M X = true then .ok ((), zs) else .error 2 from fun X zs e => thn_ok e)
  have HB := hideIt (show ∀ c, msgF true M [] = .error c → packF M = .error c from fun c e => thn_bad e)
  have hk9 := ka
  unfold Msg.cells at hk9
  have HK := hideIt (And.intro hk9 kc)
  have ka0 := ka.at0
  unfold Msg.cells at ka0
  obtain ⟨_, ⟨g0, g1, g2, g3, g4, g5, g6⟩, _⟩ := seven_at ka0
  obtain ⟨_, d0, d1, _, _⟩ := two_at kc.at0
  have HS := hideIt (cd.lt)
  clear cd x hP ka kc ka0 hk9
  unfold sameM at HP
  unfold Msg.val at HM
  generalize msgF true M [] = R at HM HP HB
  generalize packF M = PF at HP HB ⊢
  obtain ⟨mk, ms, mc, mr, mq, mo, mb⟩ := M
  dsimp only at HM HP HK g0 g1 g2 g3 g4 g5 g6
  generalize ms.length = n1 at HM HP HK g1
  generalize mo.length = n2 at HM HP HK g5
  generalize mb.length = n3 at HM HP HK g6
  go_enter Tryz.func38, Tryz.ntmps38
  go_wp2_with fail
  refine wp_region_held_drew (S := (fun W => W.cell? ⟨ga, 0, none⟩ = some (.int .i64 mk) ∧ W.cell? ⟨ga, 1, none⟩ = some (.slice sa n1 sc) ∧ W.cell? ⟨ga, 2, none⟩ = some (.int .i64 mc) ∧ W.cell? ⟨ga, 3, none⟩ = some (.int .i64 mr) ∧ W.cell? ⟨ga, 4, none⟩ = some (.int .i64 mq) ∧ W.cell? ⟨ga, 5, none⟩ = some (.slice oa n2 oc) ∧ W.cell? ⟨ga, 6, none⟩ = some (.slice ba n3 bc) ∧ W.cell? ⟨gc, 0, none⟩ = some (.pointer none) ∧ W.cell? ⟨gc, 1, none⟩ = some (.pointer q))) rfl ⟨g0, g1, g2, g3, g4, g5, g6, d0, d1⟩ (fun hHeld => ?_)
  refine' takeD (i := 0) (d := some 2) (v := _) rfl rfl (by kernel_rfl) (by kernel_rfl) (by kernel_rfl) (fun _ _ _ h => h) (by rfl) hHeld (fun w hSw => ?_) ?_
  rotate_left 1
  · (try dsimp only at hSw)
    go_simp
    try with_reducible rfl
  try simp only [Act.put, List.setIfInBounds_toArray, List.set_cons_zero, List.set_cons_succ]
  refine' takeD (i := 1) (d := some 3) (v := _) rfl rfl (by kernel_rfl) (by kernel_rfl) (by kernel_rfl) (fun _ _ _ h => h) (by rfl) hHeld (fun w hSw => ?_) ?_
  rotate_left 1
  · (try dsimp only at hSw)
    go_simp
    try with_reducible rfl
  try simp only [Act.put, List.setIfInBounds_toArray, List.set_cons_zero, List.set_cons_succ]
  refine' takeD (i := 2) (d := some 4) (v := _) rfl rfl (by kernel_rfl) (by kernel_rfl) (by kernel_rfl) (fun _ _ _ h => h) (by rfl) hHeld (fun w hSw => ?_) ?_
  rotate_left 1
  · (try dsimp only at hSw)
    go_simp
    try with_reducible rfl
  try simp only [Act.put, List.setIfInBounds_toArray, List.set_cons_zero, List.set_cons_succ]
  refine wpAnyH_ready (rs := [3]) (by kernel_rfl) (by simp) ?_
  refine AllReadyH.cons rfl (fun K hK => ?_) AllReadyH.nil
  go_simp
  refine (HM.out _ (After.rfl.draws 1)).mono ?_
  intro e w5 h5
  rcases h5.split with ⟨c9, e1, rfl, t⟩ | ⟨X, zs, e1, ⟨xa, xc, ya, yc, za, zc, rfl, _⟩, S', k', s'⟩
  · exact ⟨rfl, Ends.bad (HB.out _ e1) ⟨rfl, (After.rfl.draws 1).but.trans t⟩⟩
  have HE := hideIt (And.intro (HP.out _ _ e1) (And.intro k' s'))
  have ka5 := ((HK.out.1.after (After.rfl.draws 1)).step s')
  have kc5 := ((HK.out.2.after (After.rfl.draws 1)).step s')
  obtain ⟨_, ⟨y0, y1, y2, y3, y4, y5, y6⟩, _⟩ := seven_at ka5.at0
  obtain ⟨_, v0, v1, _, _⟩ := two_at kc5.at0
  have HC := hideIt (fun W (h : After w5 W) => c_stop W none q true zs S' 2 (k'.after h))
  have HK5 := hideIt (And.intro ka5 kc5)
  obtain ⟨Xk, Xs, Xc, Xr, Xq, Xo, Xb⟩ := X
  dsimp only [Msg.val] at HE ⊢
  clear h5 e1 k' s' ka5 kc5 HM HP HB
  generalize Xs.length = m1 at HE ⊢
  generalize Xo.length = m2 at HE ⊢
  generalize Xb.length = m3 at HE ⊢
  try go_wp2_with fail
  refine hK.out _ _ ?_ (fun hHeld3 => ?_)
  · exact ⟨y0, y1, y2, y3, y4, y5, y6, v0, v1⟩
  clear hK K y0 y1 y2 y3 y4 y5 y6 v0 v1
  try simp only [Act.put, List.setIfInBounds_toArray, List.set_cons_zero, List.set_cons_succ]
  cases hsm : sameB n1 m1 mc Xc mr Xr mq Xq n2 m2 n3 m3 with
  | false =>
    refine wpAnyH_ready (rs := [4]) (by kernel_rfl) (by simp) ?_
    refine AllReadyH.cons rfl (fun K hK => ?_) AllReadyH.nil
    go_simp
    refine (same25 _ _ _ _ _ _ _ _ _ _ _ _ _ _ _ _ _ _ _ _ _ _ _ _ _ _ _).mono ?_
    rintro e w6 ⟨rfl, h6⟩
    rw [hsm]
    try go_wp2_with fail
    refine hK.out _ _ ?_ (fun hHeld4 => ?_)
    · exact (by have hk := HK5.out.1.after h6; have hk2 := HK5.out.2.after h6; obtain ⟨_, ⟨y0, y1, y2, y3, y4, y5, y6⟩, _⟩ := seven_at hk.at0; obtain ⟨_, v0, v1, _, _⟩ := two_at hk2.at0; exact ⟨y0, y1, y2, y3, y4, y5, y6, v0, v1⟩)
    clear hK K
    try simp only [Act.put, List.setIfInBounds_toArray, List.set_cons_zero, List.set_cons_succ]
    refine' takeD (i := 5) (d := some 7) (v := _) rfl rfl (by kernel_rfl) (by kernel_rfl) (by kernel_rfl) (fun _ _ _ h => h) (by rfl) hHeld4 (fun w hSw => ?_) ?_
    rotate_left 1
    · (try dsimp only at hSw)
      go_simp
      try with_reducible rfl
    try simp only [Act.put, List.setIfInBounds_toArray, List.set_cons_zero, List.set_cons_succ]
    refine wpAnyH_done (by kernel_rfl) ?_ _
    clear hHeld hHeld3
    obtain ⟨_, _, _, _, _, _, _, v0, v1⟩ := hHeld4
    have HC6 := hideIt (HC.out w6 h6)
    have H6 := hideIt h6
    clear h6 HC HK HK5
    go_wp2_with fail
    refine HC6.out.mono ?_
    rintro e w7 ⟨rfl, h7⟩
    rw [hsm] at HE
    obtain ⟨e9, k', s'⟩ := HE.out
    exact ⟨rfl, Ends.bad (e9.trans (if_neg (by decide))) ⟨rfl, ((After.rfl.draws 1).but.trans s'.but).trans (H6.out.trans h7).but⟩⟩
  | true =>
    refine wpAnyH_ready (rs := [4]) (by kernel_rfl) (by simp) ?_
    refine AllReadyH.cons rfl (fun K hK => ?_) AllReadyH.nil
    go_simp
    refine (same25 _ _ _ _ _ _ _ _ _ _ _ _ _ _ _ _ _ _ _ _ _ _ _ _ _ _ _).mono ?_
    rintro e w6 ⟨rfl, h6⟩
    rw [hsm]
    try go_wp2_with fail
    refine hK.out _ _ ?_ (fun hHeld4 => ?_)
    · exact (by have hk := HK5.out.1.after h6; have hk2 := HK5.out.2.after h6; obtain ⟨_, ⟨y0, y1, y2, y3, y4, y5, y6⟩, _⟩ := seven_at hk.at0; obtain ⟨_, v0, v1, _, _⟩ := two_at hk2.at0; exact ⟨y0, y1, y2, y3, y4, y5, y6, v0, v1⟩)
    clear hK K
    try simp only [Act.put, List.setIfInBounds_toArray, List.set_cons_zero, List.set_cons_succ]
    refine' takeD (i := 5) (d := some 7) (v := _) rfl rfl (by kernel_rfl) (by kernel_rfl) (by kernel_rfl) (fun _ _ _ h => h) (by rfl) hHeld4 (fun w hSw => ?_) ?_
    rotate_left 1
    · (try dsimp only at hSw)
      go_simp
      try with_reducible rfl
    try simp only [Act.put, List.setIfInBounds_toArray, List.set_cons_zero, List.set_cons_succ]
    refine wpAnyH_done (by kernel_rfl) ?_ _
    clear hHeld hHeld3
    have H6 := hideIt h6
    clear h6 HC HK HK5 hHeld4
    go_wp2_with fail
    rw [hsm] at HE
    obtain ⟨e9, k', s'⟩ := HE.out
    first | go_end0 | refine bodyPost_ret (results_none rfl _ _ _) rfl ?_
    exact Ends.ok (e9.trans (if_pos rfl)) ⟨rfl, S', k'.after H6.out, (Stp.behind (After.rfl.draws 1) s').after H6.out⟩
end Go.Proofs.YthcfdoafncbliaaGreat
/-
  A message is read, or what is thrown is caught.
-/
namespace Go.Proofs.YthcfdoafncbliaaGreat
open Go.RowKit
set_option maxRecDepth 8000
theorem in24 (c : Array Value) (w : World) : (callFunc 38 c).run Tryz.prog w = .ok (.enter 38 c) w := by simp [go_sem]
theorem caught24 (w : World) (ga gc : Nat) (q : Option Addr) (S P : Nat → Prop) (M : Msg) (sa : Option Addr) (sc : Nat) (oa : Option Addr) (oc : Nat) (ba : Option Addr) (bc : Nat) (ka : Keeps w S ga (.cells (M.cells sa sc oa oc ba bc) 31 (0, 0))) (kc : Keeps w S gc (.cells #[.pointer none, .pointer q] 79 (0, 0))) (cd : Cod w none q true [] S) (x : MsgX w P M sa sc oa oc ba bc) (hP : ∀ k, P k → ¬ S k ∧ k < w.heap.size) :
    Calls Tryz.prog 37 #[.func (.func 38) #[] #[Ptr ga, Ptr gc]] w fun e w' => Ends (packF M) (fun _ zs => e = .returned (.int .i64 0) ∧ Went w w' none q true S zs) (fun c => e = .returned (.int .i64 c) ∧ But S w w') := by
  have hA : After w (w.alloc (.cells #[.int .i64 0] 34)) := After.rfl.alloc _
  have hsz : (w.alloc (.cells #[.int .i64 0] 34)).heap.size = w.heap.size + 1 := World.size_alloc _ _
  have hb := new1 w (.cells #[.int .i64 0] 34)
  refine (caught_any w 38 #[Ptr ga, Ptr gc] (fun w1 => ∃ zs, packF M = .ok ((), zs) ∧ Went (w.alloc (.cells #[.int .i64 0] 34)) w1 none q true S zs) (fun c w1 => packF M = .error c ∧ But S (w.alloc (.cells #[.int .i64 0] 34)) w1) in24 ?_).mono ?_
  · refine (pack1 _ ga gc q S P M sa sc oa oc ba bc (ka.after hA) (kc.after hA) (cd.after hA) (x.after hA) (fun k hk => ⟨(hP k hk).1, by have := (hP k hk).2; omega⟩)).mono ?_
    intro e w1 h1
    rcases h1.split with ⟨c9, e1, rfl, t⟩ | ⟨X, us, e1, rfl, S', k', s'⟩
    · exact ⟨(t.block _ (by omega) (fun h => by have := cd.lt _ h; omega)).trans hb, .inr ⟨c9, rfl, e1, t⟩⟩
    · exact ⟨(s'.but.block _ (by omega) (fun h => by have := cd.lt _ h; omega)).trans hb, .inl ⟨rfl, us, e1, S', k', s'⟩⟩
  · rintro e w2 ⟨w1, ⟨rfl, ⟨us, e1, S', k', s'⟩, rfl⟩ | ⟨c, rfl, ⟨e1, t⟩, rfl⟩⟩
    · refine Ends.ok e1 ⟨rfl, S', k'.set (fun h => (s'.new _ h).elim (fun h => by have := cd.lt _ h; omega) (fun h => by omega)) _ _, (Stp.behind hA s').newly (Nat.le_refl _) _ _⟩
    · exact Ends.bad e1 ⟨rfl, ((hA.but.trans t).trans (After.rfl.alloc _).but).new (Nat.le_refl _) _ _⟩
end Go.Proofs.YthcfdoafncbliaaGreat
/-
  Reading undoes writing, and writing undoes reading: of every piece of a message.
-/
namespace Go.Proofs.YthcfdoafncbliaaGreat
open Go.RowKit
set_option maxRecDepth 8000
theorem take_left2 (xs ys : List Int) (k : Nat) (h : xs.length = k) : (xs ++ ys).take k = xs ∧ (xs ++ ys).drop k = ys := by
  subst h; exact ⟨List.take_left, List.drop_left⟩
theorem be1 {x : Int} (h : 0 ≤ x ∧ x ≤ 255) : be (bytesOf 1 x) = x := by
  show 0 * 256 + x / 1 % 256 = x
  omega
theorem be2 {x : Int} (h : 0 ≤ x ∧ x ≤ 65535) : be (bytesOf 2 x) = x := by
  show (0 * 256 + x / 256 % 256) * 256 + x / 1 % 256 = x
  omega
theorem be4 {x : Int} (h : 0 ≤ x ∧ x < 4294967296) : be (bytesOf 4 x) = x := by
  show (((0 * 256 + x / 16777216 % 256) * 256 + x / 65536 % 256) * 256 + x / 256 % 256) * 256 + x / 1 % 256 = x
  omega
theorem read_k {x : Int} {k : Nat} {r : List Int} (h : be (bytesOf k x) = x) : rdVal k (bytesOf k x ++ r) = x ∧ rdErr k (bytesOf k x ++ r) = 0 ∧ rdRest k (bytesOf k x ++ r) = r := by
  have hl : k ≤ (bytesOf k x ++ r).length := by rw [List.length_append, bytesOf_length]; omega
  obtain ⟨e1, e2⟩ := take_left2 (bytesOf k x) r k (bytesOf_length k x)
  exact ⟨by rw [rdVal_yes hl, e1, h], rdErr_yes hl, by rw [rdRest_yes hl, e2]⟩
theorem read_o {bs r : List Int} (h : bs.length ≤ 65535) : ocVal (bytesOf 2 bs.length ++ bs ++ r) = bs ∧ ocErr (bytesOf 2 bs.length ++ bs ++ r) = 0 ∧ ocRest (bytesOf 2 bs.length ++ bs ++ r) = r := by
  rw [List.append_assoc]
  obtain ⟨e1, e2⟩ := take_left2 (bytesOf 2 (bs.length : Int)) (bs ++ r) 2 (bytesOf_length 2 _)
  have hn : ocN (bytesOf 2 (bs.length : Int) ++ (bs ++ r)) = bs.length := by
    unfold ocN; rw [e1, be2 (by omega)]; omega
  have hl : (bytesOf 2 (bs.length : Int) ++ (bs ++ r)).length = 2 + (bs.length + r.length) := by rw [List.length_append, bytesOf_length, List.length_append]
  obtain ⟨f1, f2, f3, _⟩ := oc_yes (zs := bytesOf 2 (bs.length : Int) ++ (bs ++ r)) (by omega) (by rw [hn, hl]; omega)
  obtain ⟨g1, g2⟩ := take_left2 bs r bs.length rfl
  exact ⟨by rw [f1, e2, hn, g1], f2, by rw [f3, e2, hn, g2]⟩
theorem back1 {zs : List Int} (hb : Bs zs) (h : 1 ≤ zs.length) : bytesOf 1 (be (zs.take 1)) = zs.take 1 := by
  match zs, h with
  | a :: r, _ =>
    have ha := hb a (by simp)
    show [(0 * 256 + a) / 1 % 256] = [a]
    rw [show (0 * 256 + a) / 1 % 256 = a by omega]
theorem back2 {zs : List Int} (hb : Bs zs) (h : 2 ≤ zs.length) : bytesOf 2 (be (zs.take 2)) = zs.take 2 := by
  match zs, h with
  | a :: b :: r, _ =>
    have ha := hb a (by simp)
    have hc := hb b (by simp)
    show [((0 * 256 + a) * 256 + b) / 256 % 256, ((0 * 256 + a) * 256 + b) / 1 % 256] = [a, b]
    rw [show ((0 * 256 + a) * 256 + b) / 256 % 256 = a by omega, show ((0 * 256 + a) * 256 + b) / 1 % 256 = b by omega]
theorem back4 {zs : List Int} (hb : Bs zs) (h : 4 ≤ zs.length) : bytesOf 4 (be (zs.take 4)) = zs.take 4 := by
  match zs, h with
  | a :: b :: c :: d :: r, _ =>
    have ha := hb a (by simp)
    have hc := hb b (by simp)
    have hd := hb c (by simp)
    have he := hb d (by simp)
    show [((((0 * 256 + a) * 256 + b) * 256 + c) * 256 + d) / 16777216 % 256, ((((0 * 256 + a) * 256 + b) * 256 + c) * 256 + d) / 65536 % 256, ((((0 * 256 + a) * 256 + b) * 256 + c) * 256 + d) / 256 % 256, ((((0 * 256 + a) * 256 + b) * 256 + c) * 256 + d) / 1 % 256] = [a, b, c, d]
    rw [show ((((0 * 256 + a) * 256 + b) * 256 + c) * 256 + d) / 16777216 % 256 = a by omega, show ((((0 * 256 + a) * 256 + b) * 256 + c) * 256 + d) / 65536 % 256 = b by omega, show ((((0 * 256 + a) * 256 + b) * 256 + c) * 256 + d) / 256 % 256 = c by omega, show ((((0 * 256 + a) * 256 + b) * 256 + c) * 256 + d) / 1 % 256 = d by omega]

abbrev Goes (α : Type) := Bool → α → List Int → Except Int (α × List Int)
/-- What is written is read as it was, what is read is written as it was; what is wrong is told as it should. -/
structure Dual {α : Type} (F : Goes α) (sim : α → α → Prop) (kp : α → α) : Prop where
  back : ∀ {v zs x ys}, F true v zs = .ok (x, ys) → x = kp v ∧ ∃ bs, ys = zs ++ bs ∧ ∀ v' rest, sim (kp v) v' → F false v' (bs ++ rest) = .ok (kp v, rest)
  once : ∀ {v zs x rest}, Bs zs → F false v zs = .ok (x, rest) → sim x v ∧ ∃ bs, zs = bs ++ rest ∧ ∀ ws, F true x ws = .ok (x, ws ++ bs)
  errw : ∀ {v zs c}, F true v zs = .error c → c = 2
  errr : ∀ {v zs c}, F false v zs = .error c → c = 3 ∨ c = 4 ∨ c = 5
abbrev Any {α : Type} : α → α → Prop := fun _ _ => True
theorem num_dual (k M : Nat) (hb : ∀ x : Int, 0 ≤ x ∧ x ≤ M → be (bytesOf k x) = x) (ho : ∀ zs, Bs zs → k ≤ zs.length → bytesOf k (be (zs.take k)) = zs.take k) (hk : (256 : Int) ^ k ≤ (M : Int) + 1) : Dual (fun m v zs => num m k M v zs) Any id where
  back := by
    intro v zs x ys h
    by_cases hv : 0 ≤ v ∧ v ≤ M
    · rw [num_w hv] at h
      cases h
      refine ⟨rfl, _, rfl, fun v' rest _ => ?_⟩
      obtain ⟨e1, e2⟩ := take_left2 (bytesOf k v) rest k (bytesOf_length k v)
      rw [num_r (by rw [List.length_append, bytesOf_length]; omega), e1, e2, hb v hv]
      rfl
    · rw [num_wn hv] at h; cases h
  once := by
    intro v zs x rest hz h
    have hx := num_bound h hz hk
    by_cases hl : k ≤ zs.length
    · rw [num_r hl] at h
      cases h
      refine ⟨trivial, zs.take k, (List.take_append_drop k zs).symm, fun ws => ?_⟩
      rw [num_w hx, ho zs hz hl]
    · rw [num_rn hl] at h; cases h
  errw := by
    intro v zs c h
    by_cases hv : 0 ≤ v ∧ v ≤ M
    · rw [num_w hv] at h; cases h
    · rw [num_wn hv] at h; cases h; rfl
  errr := by
    intro v zs c h
    by_cases hl : k ≤ zs.length
    · rw [num_r hl] at h; cases h
    · rw [num_rn hl] at h; cases h; exact .inl rfl
theorem dual1 : Dual (fun m v zs => num m 1 255 v zs) Any id := num_dual 1 255 (fun x h => be1 h) (fun zs hz hl => back1 hz hl) (by decide)
theorem dual2 : Dual (fun m v zs => num m 2 65535 v zs) Any id := num_dual 2 65535 (fun x h => be2 h) (fun zs hz hl => back2 hz hl) (by decide)
theorem dual4 : Dual (fun m v zs => num m 4 4294967295 v zs) Any id := num_dual 4 4294967295 (fun x h => be4 ⟨h.1, by have := h.2; omega⟩) (fun zs hz hl => back4 hz hl) (by decide)
theorem oct_dual : Dual (fun m v zs => oct m v zs) Any id where
  back := by
    intro v zs x ys h
    by_cases hv : v.length ≤ 65535
    · rw [oct_w hv] at h
      cases h
      refine ⟨rfl, _, rfl, fun v' rest _ => ?_⟩
      obtain ⟨e1, e2, e3⟩ := read_o (r := rest) hv
      have hi : ocIs (bytesOf 2 (v.length : Int) ++ v ++ rest) = true := by
        by_cases hi : ocIs (bytesOf 2 (v.length : Int) ++ v ++ rest) = true
        · exact hi
        · unfold ocErr at e2; rw [if_neg hi] at e2; cases e2
      rw [oct_r hi, e1, e3]
      rfl
    · rw [oct_wn hv] at h; cases h
  once := by
    intro v zs x rest hz h
    by_cases hi : ocIs zs = true
    · rw [oct_r hi] at h
      cases h
      obtain ⟨h2, hn⟩ := of_decide_eq_true hi
      obtain ⟨f1, _, f3, f4⟩ := oc_yes h2 hn
      have hN := ocN_int hz h2
      refine ⟨trivial, zs.take 2 ++ ocVal zs, ?_, fun ws => ?_⟩
      · rw [f1, f3, List.append_assoc, List.take_append_drop, List.take_append_drop]
      · rw [oct_w (by omega), f4, ← hN.1, back2 hz h2]
    · rw [oct_rn hi] at h; cases h
  errw := by
    intro v zs c h
    by_cases hv : v.length ≤ 65535
    · rw [oct_w hv] at h; cases h
    · rw [oct_wn hv] at h; cases h; rfl
  errr := by
    intro v zs c h
    by_cases hi : ocIs zs = true
    · rw [oct_r hi] at h; cases h
    · rw [oct_rn hi] at h; cases h; exact .inl rfl
theorem thn_inv {α β : Type} {r : Except Int (α × List Int)} {f : α → List Int → Except Int β} {y : β} (h : thn r f = .ok y) : ∃ x zs, r = .ok (x, zs) ∧ f x zs = .ok y := by
  rcases r with c | ⟨x, zs⟩
  · cases h
  · exact ⟨x, zs, rfl, h⟩
theorem thn_err {α β : Type} {r : Except Int (α × List Int)} {f : α → List Int → Except Int β} {c : Int} (h : thn r f = .error c) : r = .error c ∨ ∃ x zs, r = .ok (x, zs) ∧ f x zs = .error c := by
  rcases r with c | ⟨x, zs⟩
  · cases h; exact .inl rfl
  · exact .inr ⟨x, zs, rfl, h⟩
theorem Bs.right {xs ys : List Int} (h : Bs (xs ++ ys)) : Bs ys := fun z hz => h z (List.mem_append_right _ hz)
/-- One piece, then another, which may look at the first. -/
def seqF {α β : Type} (A : Goes α) (B : α → Goes β) : Goes (α × β) := fun m v zs => thn (A m v.1 zs) fun a zs => thn (B a m v.2 zs) fun b zs => .ok ((a, b), zs)
theorem Dual.seq {α β : Type} {A : Goes α} {B : α → Goes β} {sa : α → α → Prop} {sb : β → β → Prop} (dA : Dual A sa id) (dB : ∀ a, Dual (B a) sb id) : Dual (seqF A B) (fun u v => sa u.1 v.1 ∧ sb u.2 v.2) id where
  back := by
    intro v zs x ys h
    obtain ⟨a, z1, e1, h⟩ := thn_inv h
    obtain ⟨b, z2, e2, h⟩ := thn_inv h
    obtain ⟨rfl, b1, rfl, r1⟩ := dA.back e1
    obtain ⟨rfl, b2, rfl, r2⟩ := (dB _).back e2
    cases h
    refine ⟨rfl, b1 ++ b2, by rw [List.append_assoc], fun v' rest hs => ?_⟩
    unfold seqF
    rw [List.append_assoc, thn_ok (r1 v'.1 _ hs.1), thn_ok (r2 v'.2 _ hs.2)]
    rfl
  once := by
    intro v zs x rest hz h
    obtain ⟨a, z1, e1, h1⟩ := thn_inv h
    obtain ⟨b, z2, e2, h2⟩ := thn_inv h1
    clear h h1
    obtain ⟨s1, b1, rfl, r1⟩ := dA.once hz e1
    obtain ⟨s2, b2, rfl, r2⟩ := (dB _).once hz.right e2
    cases h2
    refine ⟨⟨s1, s2⟩, b1 ++ b2, by rw [List.append_assoc], fun ws => ?_⟩
    unfold seqF
    rw [thn_ok (r1 ws), thn_ok (r2 _), List.append_assoc]
  errw := by
    intro v zs c h
    rcases thn_err h with h | ⟨a, z1, _, h⟩
    · exact dA.errw h
    rcases thn_err h with h | ⟨b, z2, _, h⟩
    · exact (dB _).errw h
    · cases h
  errr := by
    intro v zs c h
    rcases thn_err h with h | ⟨a, z1, _, h⟩
    · exact dA.errr h
    rcases thn_err h with h | ⟨b, z2, _, h⟩
    · exact (dB _).errr h
    · cases h
/-- The same, of something that holds it. -/
theorem Dual.emb {α β : Type} {G : Goes α} {F : Goes β} {sim : α → α → Prop} (d : Dual G sim id) (f : β → α) (g : α → β) (fg : ∀ a, f (g a) = a) (hF : ∀ m v zs, F m v zs = thn (G m (f v) zs) fun x zs => .ok (g x, zs)) : Dual F (fun u v => sim (f u) (f v)) (fun v => g (f v)) where
  back := by
    intro v zs x ys h
    rw [hF] at h
    obtain ⟨a, z1, e1, h⟩ := thn_inv h
    obtain ⟨rfl, b1, rfl, r1⟩ := d.back e1
    cases h
    refine ⟨rfl, b1, rfl, fun v' rest hs => ?_⟩
    rw [fg] at hs
    rw [hF, thn_ok (r1 (f v') rest hs)]
    rfl
  once := by
    intro v zs x rest hz h
    rw [hF] at h
    obtain ⟨a, z1, e1, h1⟩ := thn_inv h
    clear h
    obtain ⟨s1, b1, rfl, r1⟩ := d.once hz e1
    cases h1
    refine ⟨by rw [fg]; exact s1, b1, rfl, fun ws => ?_⟩
    rw [hF, fg, thn_ok (r1 ws)]
  errw := by
    intro v zs c h
    rw [hF] at h
    rcases thn_err h with h | ⟨a, z1, _, h⟩
    · exact d.errw h
    · cases h
  errr := by
    intro v zs c h
    rw [hF] at h
    rcases thn_err h with h | ⟨a, z1, _, h⟩
    · exact d.errr h
    · cases h
theorem Dual.like {α : Type} {F : Goes α} {s s' : α → α → Prop} {k k' : α → α} (d : Dual F s k) (hs : ∀ u v, s u v ↔ s' u v) (hk : ∀ v, k v = k' v) : Dual F s' k' where
  back := fun {v zs x ys} h => by
    obtain ⟨e, bs, e1, r⟩ := d.back h
    rw [hk] at e r
    exact ⟨e, bs, e1, fun v' rest h => r v' rest ((hs _ _).2 h)⟩
  once := fun hz h => by
    obtain ⟨s1, r⟩ := d.once hz h
    exact ⟨(hs _ _).1 s1, r⟩
  errw := d.errw
  errr := d.errr
/-- Something that may not be. -/
def grd (p : Prop) [Decidable p] : Goes Unit := fun m _ zs => if p then .error (stp m 4) else .ok ((), zs)
theorem grd_dual (p : Prop) [Decidable p] : Dual (grd p) Any id where
  back := by
    intro v zs x ys h
    unfold grd at h
    split at h
    · cases h
    · cases h
      rename_i hp
      exact ⟨rfl, [], by simp, fun v' rest _ => by unfold grd; rw [if_neg hp]; rfl⟩
  once := by
    intro v zs x rest hz h
    unfold grd at h
    split at h
    · cases h
    · cases h
      rename_i hp
      exact ⟨trivial, [], by simp, fun ws => by unfold grd; rw [if_neg hp, List.append_nil]⟩
  errw := by
    intro v zs c h
    unfold grd at h
    split at h
    · cases h; rfl
    · cases h
  errr := by
    intro v zs c h
    unfold grd at h
    split at h
    · cases h; exact .inr (.inl rfl)
    · cases h
theorem eit_dual (y n : Int) (hn : y ≠ n) (_hy : 0 ≤ y ∧ y ≤ 255) (_hn' : 0 ≤ n ∧ n ≤ 255) : Dual (fun m v zs => eit m v y n zs) Any id where
  back := by
    intro v zs x ys h
    obtain ⟨a, z1, e1, h⟩ := thn_inv h
    obtain ⟨rfl, b1, rfl, r1⟩ := dual1.back e1
    have hx : decide ((if v = true then y else n) = y) = v := by
      cases v
      · exact decide_eq_false (fun e => hn e.symm)
      · exact decide_eq_true rfl
    have ho : (if v = true then y else n) = y ∨ (if v = true then y else n) = n := by cases v <;> simp
    dsimp only [id] at h r1
    rw [if_pos ho, hx] at h
    cases h
    refine ⟨rfl, b1, rfl, fun v' rest _ => ?_⟩
    show eit false v' y n (b1 ++ rest) = _
    unfold eit
    rw [thn_ok (r1 _ rest trivial), if_pos ho, hx]
    rfl
  once := by
    intro v zs x rest hz h0
    obtain ⟨a, z1, e1, h⟩ := thn_inv h0
    clear h0
    obtain ⟨_, b1, rfl, r1⟩ := dual1.once hz e1
    split at h
    · rename_i ho
      cases h
      refine ⟨trivial, b1, rfl, fun ws => ?_⟩
      show eit true _ y n ws = _
      unfold eit
      have hx : (if decide (a = y) = true then y else n) = a := by
        by_cases e : a = y
        · rw [if_pos (decide_eq_true e), e]
        · rw [if_neg (by rw [decide_eq_false e]; decide)]
          exact (ho.resolve_left e).symm
      have := r1 ws
      rw [hx, thn_ok this, if_pos ho]
    · cases h
  errw := by
    intro v zs c h
    rcases thn_err h with h | ⟨a, z1, _, h⟩
    · exact dual1.errw h
    · split at h
      · cases h
      · cases h; rfl
  errr := by
    intro v zs c h
    rcases thn_err h with h | ⟨a, z1, _, h⟩
    · exact dual1.errr h
    · split at h
      · cases h
      · cases h; exact .inr (.inl rfl)
end Go.Proofs.YthcfdoafncbliaaGreat
/-
  The same of a number of an object, of an object, of lists of them, of what a kind has.
-/
namespace Go.Proofs.YthcfdoafncbliaaGreat
open Go.RowKit
set_option maxRecDepth 8000

def bits (l : Bool) : Goes Int := fun m v zs => if l then num m 4 4294967295 v zs else num m 2 65535 v zs
theorem bits_dual (l : Bool) : Dual (bits l) Any id := by
  cases l
  · exact dual2
  · exact dual4
theorem obs1_dual : Dual obs1 Any id := by
  refine ((dual2.seq (fun _ => (eit_dual 4 2 (by decide) (by decide) (by decide)).seq (fun l => bits_dual l))).emb (F := obs1) (fun o => (o.h, o.l, o.b)) (fun x => ⟨x.1, x.2.1, x.2.2⟩) (fun _ => rfl) ?_).like (fun u v => by simp) (fun v => rfl)
  intro m v zs
  unfold obs1 seqF bits
  dsimp only
  cases num m 2 65535 v.h zs with
  | error c => rfl
  | ok x =>
    obtain ⟨a, z1⟩ := x
    simp only [thn]
    cases eit m v.l 4 2 z1 with
    | error c => rfl
    | ok x =>
      obtain ⟨l, z2⟩ := x
      dsimp only
      cases (if l = true then num m 4 4294967295 v.b z2 else num m 2 65535 v.b z2) with
      | error c => rfl
      | ok x => rfl
theorem obj1_dual (hs : List Int) : Dual (fun m v zs => obj1 m hs v zs) Any id := by
  refine ((dual2.seq (fun h => (grd_dual (h ∈ hs)).seq (fun _ => dual2.seq (fun _ => eit_dual 1 0 (by decide) (by decide) (by decide))))).emb (F := fun m v zs => obj1 m hs v zs) (fun o => (o.h, (), o.u, o.l)) (fun x => ⟨x.1, x.2.2.1, x.2.2.2⟩) (fun _ => rfl) ?_).like (fun u v => by simp) (fun v => rfl)
  intro m v zs
  show obj1 m hs v zs = _
  unfold obj1 seqF
  dsimp only
  cases num m 2 65535 v.h zs with
  | error c => rfl
  | ok x =>
    obtain ⟨a, z1⟩ := x
    simp only [thn, grd]
    by_cases hm : a ∈ hs
    · rw [if_pos hm, if_pos hm]
    · rw [if_neg hm, if_neg hm]
      dsimp only
      cases num m 2 65535 v.u z1 with
      | error c => rfl
      | ok x =>
        obtain ⟨u, z2⟩ := x
        dsimp only
        cases eit m v.l 1 0 z2 with
        | error c => rfl
        | ok x => rfl
abbrev Long' {α : Type} : List α → List α → Prop := fun u v => u.length = v.length
theorem obsL_dual : Dual obsL Long' id where
  back := by
    intro v
    induction v with
    | nil =>
      intro zs x ys h
      cases h
      refine ⟨rfl, [], by simp, fun v' rest hs => ?_⟩
      cases v' with
      | nil => rfl
      | cons a r => simp [Long'] at hs
    | cons o r ih =>
      intro zs x ys h0
      obtain ⟨a, z1, e1, h1⟩ := thn_inv h0
      obtain ⟨b, z2, e2, h2⟩ := thn_inv h1
      clear h0 h1
      obtain ⟨rfl, b1, rfl, r1⟩ := obs1_dual.back e1
      obtain ⟨rfl, b2, rfl, r2⟩ := ih e2
      cases h2
      refine ⟨rfl, b1 ++ b2, by rw [List.append_assoc], fun v' rest hs => ?_⟩
      cases v' with
      | nil => simp [Long'] at hs
      | cons a r' =>
        unfold obsL
        rw [List.append_assoc, thn_ok (r1 a _ trivial), thn_ok (r2 r' _ (by simpa [Long'] using hs))]
        rfl
  once := by
    intro v
    induction v with
    | nil =>
      intro zs x ys hz h
      cases h
      exact ⟨rfl, [], rfl, fun ws => by rw [List.append_nil]; rfl⟩
    | cons o r ih =>
      intro zs x ys hz h0
      obtain ⟨a, z1, e1, h1⟩ := thn_inv h0
      obtain ⟨b, z2, e2, h2⟩ := thn_inv h1
      clear h0 h1
      obtain ⟨_, b1, rfl, r1⟩ := obs1_dual.once hz e1
      obtain ⟨s2, b2, rfl, r2⟩ := ih hz.right e2
      cases h2
      refine ⟨by simpa [Long'] using s2, b1 ++ b2, by rw [List.append_assoc], fun ws => ?_⟩
      unfold obsL
      rw [thn_ok (r1 ws), thn_ok (r2 _), List.append_assoc]
  errw := by
    intro v
    induction v with
    | nil => intro zs c h; cases h
    | cons o r ih =>
      intro zs c h
      rcases thn_err h with h | ⟨a, z1, _, h⟩
      · exact obs1_dual.errw h
      rcases thn_err h with h | ⟨b, z2, _, h⟩
      · exact ih h
      · cases h
  errr := by
    intro v
    induction v with
    | nil => intro zs c h; cases h
    | cons o r ih =>
      intro zs c h
      rcases thn_err h with h | ⟨a, z1, _, h⟩
      · exact obs1_dual.errr h
      rcases thn_err h with h | ⟨b, z2, _, h⟩
      · exact ih h
      · cases h
theorem objL_dual (hs : List Int) : Dual (fun m v zs => objL m hs v zs) Long' id where
  back := by
    intro v
    induction v generalizing hs with
    | nil =>
      intro zs x ys h
      cases h
      refine ⟨rfl, [], by simp, fun v' rest hs => ?_⟩
      cases v' with
      | nil => rfl
      | cons a r => simp [Long'] at hs
    | cons o r ih =>
      intro zs x ys h0
      obtain ⟨a, z1, e1, h1⟩ := thn_inv h0
      obtain ⟨b, z2, e2, h2⟩ := thn_inv h1
      clear h0 h1
      obtain ⟨rfl, b1, rfl, r1⟩ := (obj1_dual hs).back e1
      obtain ⟨rfl, b2, rfl, r2⟩ := ih _ e2
      cases h2
      refine ⟨rfl, b1 ++ b2, by rw [List.append_assoc], fun v' rest hl => ?_⟩
      cases v' with
      | nil => simp [Long'] at hl
      | cons a r' =>
        show objL false hs (a :: r') (b1 ++ b2 ++ rest) = _
        unfold objL
        dsimp only [id] at r1 r2 ⊢
        rw [List.append_assoc, thn_ok (r1 a _ trivial), thn_ok (r2 r' _ (by simpa [Long'] using hl))]
  once := by
    intro v
    induction v generalizing hs with
    | nil =>
      intro zs x ys hz h
      cases h
      exact ⟨rfl, [], rfl, fun ws => by rw [List.append_nil]; rfl⟩
    | cons o r ih =>
      intro zs x ys hz h0
      obtain ⟨a, z1, e1, h1⟩ := thn_inv h0
      obtain ⟨b, z2, e2, h2⟩ := thn_inv h1
      clear h0 h1
      obtain ⟨_, b1, rfl, r1⟩ := (obj1_dual hs).once hz e1
      obtain ⟨s2, b2, rfl, r2⟩ := ih _ hz.right e2
      cases h2
      refine ⟨by simpa [Long'] using s2, b1 ++ b2, by rw [List.append_assoc], fun ws => ?_⟩
      show objL true hs (a :: b) ws = _
      unfold objL
      rw [thn_ok (r1 ws), thn_ok (r2 _), List.append_assoc]
  errw := by
    intro v
    induction v generalizing hs with
    | nil => intro zs c h; cases h
    | cons o r ih =>
      intro zs c h
      rcases thn_err h with h | ⟨a, z1, _, h⟩
      · exact (obj1_dual hs).errw h
      rcases thn_err h with h | ⟨b, z2, _, h⟩
      · exact ih _ h
      · cases h
  errr := by
    intro v
    induction v generalizing hs with
    | nil => intro zs c h; cases h
    | cons o r ih =>
      intro zs c h
      rcases thn_err h with h | ⟨a, z1, _, h⟩
      · exact (obj1_dual hs).errr h
      rcases thn_err h with h | ⟨b, z2, _, h⟩
      · exact ih _ h
      · cases h
theorem fillOf_self {α : Type} (all : List α) (z : α) : fillOf all.length all z = all := by simp [fillOf]
theorem lst_dual {α : Type} {L : Goes (List α)} (d : Dual L Long' id) (z : α) (K : Nat) (_hK : K ≤ 64) (F : Goes (List α)) (hF : ∀ m all zs, F m all zs = thn (num m 2 65535 all.length zs) fun n zs => if n > K then .error (stp m 5) else L m (fillOf n.toNat all z) zs) : Dual F Any id ∧ ∀ {v zs x rest}, Bs zs → F false v zs = .ok (x, rest) → x.length ≤ K := by
  have once : ∀ {v zs x rest}, Bs zs → F false v zs = .ok (x, rest) → x.length ≤ K ∧ ∃ bs, zs = bs ++ rest ∧ ∀ ws, F true x ws = .ok (x, ws ++ bs) := by
    intro v zs x rest hz h0
    rw [hF] at h0
    obtain ⟨n, z1, e1, h1⟩ := thn_inv h0
    clear h0
    obtain ⟨_, b1, rfl, r1⟩ := dual2.once hz e1
    have hn := num_bound e1 hz (by decide)
    split at h1
    · cases h1
    · rename_i hk
      obtain ⟨s2, b2, rfl, r2⟩ := d.once hz.right h1
      have hl : x.length = n.toNat := by rw [s2, fillOf_length]
      have hli : (x.length : Int) = n := by omega
      refine ⟨by omega, b1 ++ b2, by rw [List.append_assoc], fun ws => ?_⟩
      rw [hF, hli, thn_ok (r1 ws), if_neg hk, ← hl, fillOf_self, r2, List.append_assoc]
  refine ⟨⟨?_, fun hz h => ⟨trivial, (once hz h).2⟩, ?_, ?_⟩, fun hz h => (once hz h).1⟩
  · intro v zs x ys h0
    rw [hF] at h0
    obtain ⟨n, z1, e1, h1⟩ := thn_inv h0
    clear h0
    obtain ⟨rfl, b1, rfl, r1⟩ := dual2.back e1
    dsimp only [id] at h1 r1
    split at h1
    · cases h1
    · rename_i hk
      rw [Int.toNat_natCast, fillOf_self] at h1
      obtain ⟨rfl, b2, rfl, r2⟩ := d.back h1
      refine ⟨rfl, b1 ++ b2, by rw [List.append_assoc], fun v' rest _ => ?_⟩
      rw [hF, List.append_assoc, thn_ok (r1 _ _ trivial), if_neg hk, Int.toNat_natCast]
      exact r2 _ _ (by show _ = _; rw [fillOf_length]; rfl)
  · intro v zs c h
    rw [hF] at h
    rcases thn_err h with h | ⟨a, z1, _, h⟩
    · exact dual2.errw h
    · split at h
      · cases h; rfl
      · exact d.errw h
  · intro v zs c h
    rw [hF] at h
    rcases thn_err h with h | ⟨a, z1, _, h⟩
    · exact dual2.errr h
    · split at h
      · cases h; exact .inr (.inr rfl)
      · exact d.errr h
theorem lstB_dual : Dual lstB Any id ∧ ∀ {v zs x rest}, Bs zs → lstB false v zs = .ok (x, rest) → x.length ≤ 64 := lst_dual obsL_dual ⟨0, false, 0⟩ 64 (by decide) lstB (fun _ _ _ => rfl)
theorem lstO_dual : Dual lstO Any id ∧ ∀ {v zs x rest}, Bs zs → lstO false v zs = .ok (x, rest) → x.length ≤ 16 := lst_dual (objL_dual []) ⟨0, 0, false⟩ 16 (by decide) lstO (fun _ _ _ => rfl)
theorem sysF_dual : Dual sysF Any id where
  back := by
    intro v zs x ys h0
    obtain ⟨a, z1, e1, h⟩ := thn_inv h0
    clear h0
    obtain ⟨rfl, b1, rfl, r1⟩ := oct_dual.back e1
    split at h
    · rename_i hl
      cases h
      refine ⟨rfl, b1, rfl, fun v' rest _ => ?_⟩
      unfold sysF
      dsimp only [id] at r1 ⊢
      rw [thn_ok (r1 v' rest trivial), if_pos hl]
    · cases h
  once := by
    intro v zs x rest hz h0
    obtain ⟨a, z1, e1, h⟩ := thn_inv h0
    clear h0
    obtain ⟨_, b1, rfl, r1⟩ := oct_dual.once hz e1
    split at h
    · rename_i hl
      cases h
      refine ⟨trivial, b1, rfl, fun ws => ?_⟩
      unfold sysF
      rw [thn_ok (r1 ws), if_pos hl]
    · cases h
  errw := by
    intro v zs c h
    rcases thn_err h with h | ⟨a, z1, _, h⟩
    · exact oct_dual.errw h
    · split at h
      · cases h
      · cases h; rfl
  errr := by
    intro v zs c h
    rcases thn_err h with h | ⟨a, z1, _, h⟩
    · exact oct_dual.errr h
    · split at h
      · cases h
      · cases h; exact .inr (.inl rfl)
/-- What a kind has of a message. -/
def keep (k : Int) (M : Msg) : Msg :=
  if k = 57856 then ⟨k, M.sys, M.config, 0, 0, [], []⟩ else if k = 58112 then ⟨k, [], M.config, M.result, 0, [], []⟩ else if k = 58368 ∨ k = 58624 ∨ k = 58880 then ⟨k, [], 0, 0, M.reason, [], []⟩ else if k = 3356 then ⟨k, [], M.config, 0, 0, M.objs, []⟩ else if k = 3357 then ⟨k, [], M.config, M.result, 0, [], []⟩ else if k = 3358 then ⟨k, [], 0, 0, 0, [], M.obs⟩ else Msg.zero k
theorem two_seq {α β γ : Type} (A : Goes α) (B : Goes β) (m : Bool) (a : α) (b : β) (zs : List Int) (g : α → β → γ) : (thn (A m a zs) fun a zs => thn (B m b zs) fun b zs => .ok (g a b, zs)) = thn (seqF A (fun _ => B) m (a, b) zs) fun x zs => (.ok (g x.1 x.2, zs) : Except Int (γ × List Int)) := by
  unfold seqF
  dsimp only
  cases A m a zs with
  | error c => rfl
  | ok x =>
    obtain ⟨y, z1⟩ := x
    simp only [thn]
    cases B m b z1 with
    | error c => rfl
    | ok x => rfl
theorem fields_dual (k : Int) : Dual (fun m v zs => fieldsF m k v zs) Any (keep k) := by
  by_cases h1 : k = 57856
  · subst h1
    exact ((sysF_dual.seq (fun _ => dual2)).emb (F := fun m v zs => fieldsF m 57856 v zs) (fun M => (M.sys, M.config)) (fun x => ⟨57856, x.1, x.2, 0, 0, [], []⟩) (fun _ => rfl) (fun m v zs => (show fieldsF m 57856 v zs = _ from by unfold fieldsF; simp only [Int.reduceEq, if_true, if_false, or_self]).trans (two_seq sysF (fun m v zs => num m 2 65535 v zs) m v.sys v.config zs (fun s c => (⟨57856, s, c, 0, 0, [], []⟩ : Msg))))).like (fun u v => by simp) (fun v => rfl)
  by_cases h2 : k = 58112
  · subst h2
    exact ((dual2.seq (fun _ => dual2)).emb (F := fun m v zs => fieldsF m 58112 v zs) (fun M => (M.result, M.config)) (fun x => ⟨58112, [], x.2, x.1, 0, [], []⟩) (fun _ => rfl) (fun m v zs => (show fieldsF m 58112 v zs = _ from by unfold fieldsF; simp only [Int.reduceEq, if_true, if_false, or_self]).trans (two_seq (fun m v zs => num m 2 65535 v zs) (fun m v zs => num m 2 65535 v zs) m v.result v.config zs (fun s c => (⟨58112, [], c, s, 0, [], []⟩ : Msg))))).like (fun u v => by simp) (fun v => rfl)
  by_cases h3 : k = 58368 ∨ k = 58624 ∨ k = 58880
  · have hf : ∀ m v zs, fieldsF m k v zs = thn (num m 2 65535 v.reason zs) fun q zs => .ok (⟨k, [], 0, 0, q, [], []⟩, zs) := fun m v zs => by unfold fieldsF; rw [if_neg h1, if_neg h2, if_pos h3]
    exact (dual2.emb (F := fun m v zs => fieldsF m k v zs) (fun M => M.reason) (fun x => ⟨k, [], 0, 0, x, [], []⟩) (fun _ => rfl) hf).like (fun u v => by simp) (fun v => by unfold keep; rw [if_neg h1, if_neg h2, if_pos h3])
  by_cases h4 : k = 3356
  · subst h4
    exact ((dual2.seq (fun _ => lstO_dual.1)).emb (F := fun m v zs => fieldsF m 3356 v zs) (fun M => (M.config, M.objs)) (fun x => ⟨3356, [], x.1, 0, 0, x.2, []⟩) (fun _ => rfl) (fun m v zs => (show fieldsF m 3356 v zs = _ from by unfold fieldsF; simp only [Int.reduceEq, if_true, if_false, or_self]).trans (two_seq (fun m v zs => num m 2 65535 v zs) lstO m v.config v.objs zs (fun s c => (⟨3356, [], s, 0, 0, c, []⟩ : Msg))))).like (fun u v => by simp) (fun v => rfl)
  by_cases h5 : k = 3357
  · subst h5
    exact ((dual2.seq (fun _ => dual2)).emb (F := fun m v zs => fieldsF m 3357 v zs) (fun M => (M.config, M.result)) (fun x => ⟨3357, [], x.1, x.2, 0, [], []⟩) (fun _ => rfl) (fun m v zs => (show fieldsF m 3357 v zs = _ from by unfold fieldsF; simp only [Int.reduceEq, if_true, if_false, or_self]).trans (two_seq (fun m v zs => num m 2 65535 v zs) (fun m v zs => num m 2 65535 v zs) m v.config v.result zs (fun s c => (⟨3357, [], s, c, 0, [], []⟩ : Msg))))).like (fun u v => by simp) (fun v => rfl)
  by_cases h6 : k = 3358
  · subst h6
    exact (lstB_dual.1.emb (F := fun m v zs => fieldsF m 3358 v zs) (fun M => M.obs) (fun x => ⟨3358, [], 0, 0, 0, [], x⟩) (fun _ => rfl) (fun m v zs => rfl)).like (fun u v => by simp) (fun v => rfl)
  · have hf : ∀ m v zs, fieldsF m k v zs = .ok (Msg.zero k, zs) := fun m v zs => by unfold fieldsF; rw [if_neg h1, if_neg h2, if_neg h3, if_neg h4, if_neg h5, if_neg h6]
    have hk : ∀ v, keep k v = Msg.zero k := fun v => by unfold keep; rw [if_neg h1, if_neg h2, if_neg h3, if_neg h4, if_neg h5, if_neg h6]
    refine ⟨?_, ?_, ?_, ?_⟩
    · intro v zs x ys h
      rw [hf] at h
      cases h
      exact ⟨(hk v).symm, [], by simp, fun v' rest _ => by rw [hf, hk]; rfl⟩
    · intro v zs x rest hz h
      rw [hf] at h
      cases h
      exact ⟨trivial, [], rfl, fun ws => by rw [hf, List.append_nil]⟩
    · intro v zs c h
      rw [hf] at h
      cases h
    · intro v zs c h
      rw [hf] at h
      cases h
end Go.Proofs.YthcfdoafncbliaaGreat
