/-
  Laid together: PartW, PartR.
-/
import Derived.Test.YthcfdoafncbliaaGreatB12
/-
  A kind, how many bytes follow, and what stands in them: writing.
-/
namespace Go.Proofs.YthcfdoafncbliaaGreat
open Go.RowKit
set_option maxRecDepth 8000
/-- A variable holds a message that was gone through; where it was read, its lists are there. -/
def VarsC (w w' : World) (m : Bool) (g : Nat) (P : Nat → Prop) (X : Msg) : Prop :=
  ∃ sa sc oa oc ba bc, w'.heap[g]? = some (.cells (X.cells sa sc oa oc ba bc) 31 (0, 0)) ∧ (m = false → MsgX w' (fun k => P k ∨ w.heap.size ≤ k) X sa sc oa oc ba bc ∧ w'.ownsRow w.heap.size 5 1 (.slice sa X.sys.length sc) X.sys.length (u8s X.sys))
theorem Vars.c {w w' : World} {m : Bool} {g : Nat} {P : Nat → Prop} {X : Msg} (h : Vars w w' m g P X) : VarsC w w' m g P X := by
  obtain ⟨sa, sc, oa, oc, ba, bc, h1, h2, h3⟩ := h
  exact ⟨sa, sc, oa, oc, ba, bc, h1, fun hm => ⟨h2, h3 hm⟩⟩
/-- What is asked of the function that goes through what stands inside: f, with a variable at g that holds M. -/
def Clo (f g : Nat) (m : Bool) (P : Nat → Prop) (M : Msg) (sa : Option Addr) (sc : Nat) (oa : Option Addr) (oc : Nat) (ba : Option Addr) (bc : Nat) (ins : Int → List Int → Except Int (Msg × List Int)) : Prop :=
  ∀ (w : World) (p q : Option Addr) (zs : List Int) (S : Nat → Prop) (k : Int), Cod w p q m zs S → Keeps w S g (.cells (M.cells sa sc oa oc ba bc) 31 (0, 0)) → MsgX w P M sa sc oa oc ba bc → (∀ k, P k → ¬ S k ∧ k < w.heap.size) → (m = true → zs.length ≤ 900000000) →
    Calls Tryz.prog f #[Co p q, .int .i64 k, Ptr g] w fun e w' => Ends (ins k zs) (fun X us => e = .returned (.tuple #[]) ∧ VarsC w w' m g P X ∧ ∃ S', Cod w' p q m us S' ∧ StpV S g w S' w') (fun c => e = .panicked (Halt c) ∧ But (fun k => S k ∨ k = g) w w')
def partW (ins : Int → List Int → Except Int (Msg × List Int)) (k : Int) (zs : List Int) : Except Int (Msg × List Int) :=
  thn (ins k []) fun X bs => thn (num true 2 65535 k zs) fun _ zs => thn (oct true bs zs) fun _ zs => .ok (X, zs)
def partR (ins : Int → List Int → Except Int (Msg × List Int)) (k : Int) (zs : List Int) : Except Int (Msg × List Int) :=
  thn (num false 2 65535 k zs) fun k zs => thn (oct false [] zs) fun b zs => if zs.length = 0 then thn (ins k b) fun X r => if r.length = 0 then .ok (X, zs) else .error 4 else .error 4
set_option maxHeartbeats 1000000 in
theorem part_w44 (w : World) (q : Option Addr) (zs : List Int) (S P : Nat → Prop) (g : Nat) (k : Int) (M : Msg) (sa : Option Addr) (sc : Nat) (oa : Option Addr) (oc : Nat) (ba : Option Addr) (bc : Nat) (ins : Int → List Int → Except Int (Msg × List Int)) (H : Clo 62 g true P M sa sc oa oc ba bc ins) (cd : Cod w none q true zs S) (kb : Keeps w S g (.cells (M.cells sa sc oa oc ba bc) 31 (0, 0))) (x : MsgX w P M sa sc oa oc ba bc) (hP : ∀ k, P k → ¬ S k ∧ k < w.heap.size) (hl : zs.length ≤ 900000000) (hb : ∀ X bs, ins k [] = .ok (X, bs) → bs.length ≤ 1000000) :
    Calls Tryz.prog 58 #[Co none q, .int .i64 k, .func (.func 62) #[] #[Ptr g]] w fun e w' => Ends (partW ins k zs) (fun X us => e = .returned (.tuple #[]) ∧ VarsC w w' true g P X ∧ ∃ S', Cod w' none q true us S' ∧ StpV S g w S' w') (fun c => e = .panicked (Halt c) ∧ But (fun k => S k ∨ k = g) w w') := by
  obtain ⟨gq, rfl⟩ : ∃ gq, q = some ⟨gq, 0, none⟩ := by
    rcases cd.is with ⟨h, _⟩ | ⟨_, g', v, _, e, _⟩
    · cases h
    · exact ⟨g', e⟩
  have hgw := kb.lt
  have HA := hideIt (show After w (w.alloc (.cells #[.pointer none, .pointer (some ⟨gq, 0, none⟩)] 79)) from After.rfl.alloc _)
  have HB0 := hideIt (new1 w (.cells #[.pointer none, .pointer (some ⟨gq, 0, none⟩)] 79))
  have H1 := hideIt (writer_any (w.alloc (.cells #[.pointer none, .pointer (some ⟨gq, 0, none⟩)] 79)))
  have HX := hideIt (And.intro H (And.intro cd (And.intro kb (And.intro x (And.intro hP (And.intro hl hb))))))
  clear H cd kb x hP hl hb
  go_enter Tryz.func58, Tryz.ntmps58
  go_wp2_with fail
  refine H1.out.mono ?_
  clear H1
  rintro e w1 ⟨q2, S2, rfl, c2, a2, hS2⟩
  obtain ⟨g2, rfl⟩ : ∃ g2, q2 = some ⟨g2, 0, none⟩ := by
    rcases c2.is with ⟨h, _⟩ | ⟨_, g', v, _, e, _⟩
    · cases h
    · exact ⟨g', e⟩
  obtain ⟨H, cd, kb, x, hP, hl, hb⟩ := HX.out
  rw [World.size_alloc] at hS2
  have hsz : w.heap.size + 1 ≤ w1.heap.size := by have := a2.size; rw [World.size_alloc] at this; exact this
  have a3 : After w (w1.alloc (.cells #[.pointer none, .pointer (some ⟨g2, 0, none⟩)] 79)) := (HA.out.trans a2).alloc _
  have kn : (w1.alloc (.cells #[.pointer none, .pointer (some ⟨g2, 0, none⟩)] 79)).heap[w.heap.size]? = some (.cells #[.pointer none, .pointer (some ⟨gq, 0, none⟩)] 79 (0, 0)) := new_past _ _ ((But.block a2 _ (by simp) (fun t => t)).trans HB0.out)
  have km := new1 w1 (.cells #[.pointer none, .pointer (some ⟨g2, 0, none⟩)] 79)
  have H2 := hideIt (H _ none (some ⟨g2, 0, none⟩) [] S2 k (c2.after (After.rfl.alloc _)) ⟨(kb.after a3).at0, fun h => by have := hS2 g h; omega⟩ (x.after a3) (fun j hj => ⟨fun h => by have := hS2 j h; have := (hP j hj).2; omega, Nat.lt_of_lt_of_le (hP j hj).2 a3.size⟩) (fun _ => by simp))
  obtain ⟨_, u0, u1, _, _⟩ := two_at kn
  have HY := hideIt (And.intro c2 (And.intro hS2 (And.intro hsz (And.intro a3 (And.intro kn km)))))
  have hbx : (w1.cell? ⟨w.heap.size, 0, none⟩ = some (.pointer none)) ∧ w1.cell? ⟨w.heap.size, 1, none⟩ = some (.pointer (some ⟨gq, 0, none⟩)) := ⟨(two_at ((But.block a2 _ (by simp) (fun t => t)).trans HB0.out)).2.1, (two_at ((But.block a2 _ (by simp) (fun t => t)).trans HB0.out)).2.2.1⟩
  clear H cd kb x hP hl hb c2 a2 hS2 hsz a3 kn km
  go_wp2_with fail
  refine H2.out.mono ?_
  clear H2
  intro e w3 h3
  obtain ⟨H, cd, kb, x, hP, hl, hb⟩ := HX.out
  obtain ⟨c2, hS2, hsz, a3, kn, km⟩ := HY.out
  have hlt2 : ∀ k, S2 k → k < w1.heap.size := c2.lt
  have bw : ∀ {W}, But (fun k => S2 k ∨ k = g) (w1.alloc (.cells #[.pointer none, .pointer (some ⟨g2, 0, none⟩)] 79)) W → But (fun k => S k ∨ k = g) w W := fun {W} t => a3.but.then t (fun i hi h => h.elim (fun h => by have := hS2 i h; omega) .inr)
  rcases h3.split with ⟨c9, e3, rfl, t⟩ | ⟨X, bs, e3, rfl, ⟨xa, xc, ya, yc, za, zc, hv, _⟩, S3, k3, s3⟩
  · exact ⟨rfl, Ends.bad (thn_bad e3) ⟨rfl, bw t⟩⟩
  have hE : partW ins k zs = thn (num true 2 65535 k zs) fun _ zs => thn (oct true bs zs) fun _ zs => .ok (X, zs) := thn_ok e3
  have hbl := hb X bs e3
  have n3 : w3.heap[w.heap.size]? = some (.cells #[.pointer none, .pointer (some ⟨gq, 0, none⟩)] 79 (0, 0)) := (s3.but.block _ (by rw [World.size_alloc]; omega) (fun h => h.elim (fun h => by have := hS2 _ h; omega) (fun h => by omega))).trans kn
  have m3 : w3.heap[w1.heap.size]? = some (.cells #[.pointer none, .pointer (some ⟨g2, 0, none⟩)] 79 (0, 0)) := (s3.but.block _ (by rw [World.size_alloc]; omega) (fun h => h.elim (fun h => by have := hlt2 _ h; omega) (fun h => by omega))).trans km
  have cd3 : Cod w3 none (some ⟨gq, 0, none⟩) true zs S := (cd.after a3).but s3.but (fun j hj h => h.elim (fun h => by have := hS2 j h; have := cd.lt j hj; omega) (fun h => kb.out (by rw [← h]; exact hj)))
  have hS3 : ∀ j, S3 j → w.heap.size < j := fun j hj => (s3.new j hj).elim (fun h => by have := hS2 j h; omega) (fun h => by rw [World.size_alloc] at h; omega)
  have b3 := bw s3.but
  have H3 := hideIt (c_u16 w3 none (some ⟨gq, 0, none⟩) true zs S k cd3 (fun _ => by omega))
  obtain ⟨_, n30, n31, _, _⟩ := two_at n3
  have HZ := hideIt (And.intro hv (And.intro k3 (And.intro hE (And.intro hbl (And.intro n3 (And.intro m3 (And.intro hS3 (And.intro b3 (And.intro cd3 hsz)))))))))
  clear H cd kb x hP hl hb c2 hS2 hsz a3 kn km hlt2 bw h3 e3 hv k3 s3 hE hbl n3 m3 cd3 hS3 b3 hbx
  go_wp2_with fail
  refine H3.out.mono ?_
  clear H3
  intro e w4 h4
  obtain ⟨H, cd, kb, x, hP, hl, hb⟩ := HX.out
  obtain ⟨hv, k3, hE, hbl, n3, m3, hS3, b3, cd3, hsz⟩ := HZ.out
  rcases h4.split with ⟨c9, e4, rfl, t⟩ | ⟨y4, z4, e4, rfl, S4, k4, s4⟩
  · exact ⟨rfl, Ends.bad (hE.trans (thn_bad e4)) ⟨rfl, b3.trans (t.mono (fun _ _ h => .inl h))⟩⟩
  have hl4 := num_len e4
  have hSw : ∀ j, S j → j < w.heap.size := cd.lt
  have n4 : w4.heap[w.heap.size]? = some (.cells #[.pointer none, .pointer (some ⟨gq, 0, none⟩)] 79 (0, 0)) := (s4.but.block _ (Array.getElem?_eq_some_iff.1 n3).1 (fun h => by have := hSw _ h; omega)).trans n3
  have m4 : w4.heap[w1.heap.size]? = some (.cells #[.pointer none, .pointer (some ⟨g2, 0, none⟩)] 79 (0, 0)) := (s4.but.block _ (Array.getElem?_eq_some_iff.1 m3).1 (fun h => by have := hSw _ h; omega)).trans m3
  have hv4 := (s4.but.block g (Array.getElem?_eq_some_iff.1 hv).1 kb.out).trans hv
  have k34 : Cod w4 none (some ⟨g2, 0, none⟩) true bs S3 := k3.but s4.but (fun j hj h => by have := hS3 j hj; have := hSw j h; omega)
  obtain ⟨_, n0, n1, _, _⟩ := two_at n4
  obtain ⟨_, r0, r1, _, _⟩ := two_at m4
  have HLT := hideIt (And.intro (Array.getElem?_eq_some_iff.1 n4).1 (Array.getElem?_eq_some_iff.1 m4).1)
  have HBY := hideIt (fun W (hW : After w4 W) => c_bytes W (some ⟨g2, 0, none⟩) bs S3 (k34.after hW) (by omega))
  have HW := hideIt (And.intro hv4 (And.intro k4 (And.intro (hE.trans (thn_ok e4)) (And.intro hbl (And.intro (b3.trans (s4.but.mono (fun _ _ h => .inl h))) (And.intro (show ∀ j, S4 j → S j ∨ w.heap.size ≤ j from fun j hj => (s4.new j hj).imp_right (fun h => Nat.le_trans b3.size h)) (And.intro (show z4.length ≤ 900000010 by omega) (And.intro (show ¬ S4 w.heap.size ∧ ¬ S4 w1.heap.size from ⟨fun h => (s4.new _ h).elim (fun h => by have := hSw _ h; omega) (fun h => by have := (Array.getElem?_eq_some_iff.1 n3).1; omega), fun h => (s4.new _ h).elim (fun h => by have := hSw _ h; omega) (fun h => by have := (Array.getElem?_eq_some_iff.1 m3).1; omega)⟩) (And.intro k34.bs (show ¬ S4 g from fun h => (s4.new g h).elim kb.out (fun h => by have := (Array.getElem?_eq_some_iff.1 hv).1; omega)))))))))))
  clear H cd kb x hP hl hb hv k3 hE hbl n3 m3 hS3 b3 cd3 hsz h4 e4 k4 s4 hl4 hSw n4 m4 hv4 k34 HX HY HZ
  go_wp2_with fail
  refine wp_region_held_drew (S := (fun W => W.cell? ⟨w.heap.size, 0, none⟩ = some (.pointer none) ∧ W.cell? ⟨w.heap.size, 1, none⟩ = some (.pointer (some ⟨gq, 0, none⟩)) ∧ W.cell? ⟨w1.heap.size, 1, none⟩ = some (.pointer (some ⟨g2, 0, none⟩)))) rfl ⟨n0, n1, r1⟩ (fun hHeld => ?_)
  refine' takeD (i := 0) (d := some 19) (v := _) rfl rfl (by kernel_rfl) (by kernel_rfl) (by kernel_rfl) (fun _ _ _ h => h) (by rfl) hHeld (fun w hSw => ?_) ?_
  rotate_left 1
  · (try dsimp only at hSw)
    go_simp
    try with_reducible rfl
  try simp only [Act.put, List.setIfInBounds_toArray, List.set_cons_zero, List.set_cons_succ]
  refine' takeD (i := 1) (d := some 20) (v := _) rfl rfl (by kernel_rfl) (by kernel_rfl) (by kernel_rfl) (fun _ _ _ h => h) (by rfl) hHeld (fun w hSw => ?_) ?_
  rotate_left 1
  · (try dsimp only at hSw)
    go_simp
    try with_reducible rfl
  try simp only [Act.put, List.setIfInBounds_toArray, List.set_cons_zero, List.set_cons_succ]
  refine' takeD (i := 2) (d := some 21) (v := _) rfl rfl (by kernel_rfl) (by kernel_rfl) (by kernel_rfl) (fun _ _ _ h => h) (by rfl) hHeld (fun w hSw => ?_) ?_
  rotate_left 1
  · (try dsimp only at hSw)
    go_simp
    try with_reducible rfl
  try simp only [Act.put, List.setIfInBounds_toArray, List.set_cons_zero, List.set_cons_succ]
  refine wpAnyH_ready (rs := [3]) (by kernel_rfl) (by simp) ?_
  refine AllReadyH.cons rfl (fun K hK => ?_) AllReadyH.nil
  go_simp
  refine (HBY.out _ (After.rfl.draws 1)).mono ?_
  rintro e w5 ⟨a5, c5, rfl, o5, h5⟩
  try go_wp2_with fail
  refine hK.out _ _ ?_ (fun hHeld3 => ?_)
  · exact ⟨by rw [h5.cell HLT.out.1]; exact hHeld.1, by rw [h5.cell HLT.out.1]; exact hHeld.2.1, by rw [h5.cell HLT.out.2]; exact hHeld.2.2⟩
  clear hK K
  try simp only [Act.put, List.setIfInBounds_toArray, List.set_cons_zero, List.set_cons_succ]
  obtain ⟨hv4, k4, hE, hbl, b4, hn4, hz4, hns, hbs, hg4⟩ := HW.out
  have a45 : After w4 w5 := (After.rfl.draws 1).trans h5
  have c5' := k4.after a45
  have hw45 : w4.heap.size ≤ w5.heap.size := a45.size
  obtain ⟨a6, c6, e6, r6, nil6, _, own6⟩ := own_row o5 hbs
  cases e6
  have hfar : ∀ y, a5 = some y → 0 < bs.length → ¬ S4 y.block := fun y hy _ h => by
    have h1 := (o5.lt _ (own6 y hy).1).1
    have h2 := k4.lt _ h
    have h1 : w4.heap.size ≤ y.block := h1
    omega
  have H6 := hideIt (c_oct _ none (some ⟨gq, 0, none⟩) true z4 S4 a5 bs.length c5 bs c5' r6 nil6 hfar (by omega) (fun _ => by omega))
  have HV := hideIt (And.intro hv4 (And.intro hE (And.intro b4 (And.intro hn4 (And.intro a45 (And.intro hns hg4))))))
  clear hv4 k4 hE hbl b4 hn4 hz4 hns hbs hg4 a45 c5' hw45 r6 nil6 own6 hfar o5
  refine wpAnyH_ready (rs := [4]) (by kernel_rfl) (by simp) ?_
  refine AllReadyH.cons rfl (fun K hK => ?_) AllReadyH.nil
  go_simp
  refine H6.out.mono ?_
  clear H6
  intro e w7 h7
  obtain ⟨hv4, hE, b4, hn4, a45, hns, hg4⟩ := HV.out
  rcases h7.split with ⟨c9, e7, rfl, t⟩ | ⟨ys, us, e7, a7, n7, c7, S7, rfl, _, _, _, k7, s7, _⟩
  · exact ⟨rfl, Ends.bad (hE.trans (thn_bad e7)) ⟨rfl, (b4.trans a45.but).then t (fun i hi h => .inl ((hn4 i h).elim id (fun h => by omega)))⟩⟩
  try go_wp2_with fail
  refine hK.out _ _ ?_ (fun hHeld4 => ?_)
  · have l1 := Nat.lt_of_lt_of_le HLT.out.1 a45.size
    have l2 := Nat.lt_of_lt_of_le HLT.out.2 a45.size
    exact ⟨by rw [s7.but.cell l1 hns.1]; exact hHeld3.1, by rw [s7.but.cell l1 hns.1]; exact hHeld3.2.1, by rw [s7.but.cell l2 hns.2]; exact hHeld3.2.2⟩
  clear hK K
  refine wpAnyH_done (by kernel_rfl) ?_ _
  have HQ := hideIt (And.intro hv4 (And.intro hE (And.intro b4 (And.intro hn4 (And.intro a45 (And.intro hg4 (And.intro e7 (And.intro k7 s7))))))))
  clear hv4 hE b4 hn4 a45 hns hg4 e7 k7 s7 h7 hHeld hHeld3 hHeld4 h5 HV HBY HLT HW n0 n1 r0 r1 n30 n31 u0 u1
  try simp only [Act.put, List.setIfInBounds_toArray, List.set_cons_zero, List.set_cons_succ]
  go_wp2_with fail
  first | go_end0 | refine bodyPost_ret (results_none rfl _ _ _) rfl ?_
  obtain ⟨hv4, hE, b4, hn4, a45, hg4, e7, k7, s7⟩ := HQ.out
  refine Ends.ok (hE.trans (thn_ok e7)) ⟨rfl, ⟨xa, xc, ya, yc, za, zc, ?_, fun h => by cases h⟩, S7, k7, (b4.trans a45.but).then s7.but (fun i hi h => .inl ((hn4 i h).elim id (fun h => by omega))), fun j hj => ?_⟩
  · have l1 := (Array.getElem?_eq_some_iff.1 hv4).1
    exact ((But.block (a45.but.trans s7.but) g l1 hg4).trans hv4)
  · rcases s7.new j hj with h | h
    · exact hn4 j h
    · have := b4.size
      have := a45.size
      exact .inr (by omega)
end Go.Proofs.YthcfdoafncbliaaGreat
/-
  A kind, how many bytes follow, and what stands in them: reading.
-/
namespace Go.Proofs.YthcfdoafncbliaaGreat
open Go.RowKit
set_option maxRecDepth 8000
set_option maxHeartbeats 1000000 in
theorem part_r44 (w : World) (p : Option Addr) (zs : List Int) (S P : Nat → Prop) (g : Nat) (k : Int) (M : Msg) (sa : Option Addr) (sc : Nat) (oa : Option Addr) (oc : Nat) (ba : Option Addr) (bc : Nat) (ins : Int → List Int → Except Int (Msg × List Int)) (H : Clo 62 g false P M sa sc oa oc ba bc ins) (cd : Cod w p none false zs S) (kb : Keeps w S g (.cells (M.cells sa sc oa oc ba bc) 31 (0, 0))) (x : MsgX w P M sa sc oa oc ba bc) (hP : ∀ k, P k → ¬ S k ∧ k < w.heap.size) :
    Calls Tryz.prog 58 #[Co p none, .int .i64 k, .func (.func 62) #[] #[Ptr g]] w fun e w' => Ends (partR ins k zs) (fun X us => e = .returned (.tuple #[]) ∧ VarsC w w' false g P X ∧ ∃ S', Cod w' p none false us S' ∧ StpV S g w S' w') (fun c => e = .panicked (Halt c) ∧ But (fun k => S k ∨ k = g) w w') := by
  obtain ⟨gp, rfl⟩ : ∃ gp, p = some ⟨gp, 0, none⟩ := by
    rcases cd.is with ⟨_, g', v, e, _⟩ | ⟨h, _⟩
    · exact ⟨g', e⟩
    · cases h
  have hgw := kb.lt
  have hA : After w (w.alloc (.cells #[.pointer (some ⟨gp, 0, none⟩), .pointer none] 79)) := After.rfl.alloc _
  have b0 := new1 w (.cells #[.pointer (some ⟨gp, 0, none⟩), .pointer none] 79)
  have kc : Keeps _ S w.heap.size _ := ⟨b0, fun h => absurd (cd.lt _ h) (by omega)⟩
  have H1 := hideIt (c_u16 _ (some ⟨gp, 0, none⟩) none false zs S k (cd.after hA) (fun h => by cases h))
  have HX := hideIt (And.intro H (And.intro cd (And.intro kb (And.intro x (And.intro hP (And.intro hA kc))))))
  clear H cd kb x hP hA kc b0
  go_enter Tryz.func58, Tryz.ntmps58
  go_wp2_with fail
  refine H1.out.mono ?_
  clear H1
  intro e w1 h1
  obtain ⟨H, cd, kb, x, hP, hA, kc⟩ := HX.out
  rcases h1.split with ⟨c9, e1, rfl, t⟩ | ⟨y1, z1, e1, rfl, S1, k1, s1⟩
  · exact ⟨rfl, Ends.bad (thn_bad e1) ⟨rfl, (hA.but.trans t).mono (fun _ _ h => .inl h)⟩⟩
  have hE : partR ins k zs = thn (oct false [] z1) fun b zs => if zs.length = 0 then thn (ins y1 b) fun X r => if r.length = 0 then .ok (X, zs) else .error 4 else .error 4 := thn_ok e1
  have kc1 := kc.step s1
  have kb1 := (kb.after hA).step s1
  have st1 := Stp.behind hA s1
  obtain ⟨_, d0, d1, _, _⟩ := two_at kc1.at0
  have H2 := hideIt (c_oct w1 (some ⟨gp, 0, none⟩) none false z1 S1 none 0 0 [] k1 (Row.nil _ _) (fun _ => ⟨rfl, rfl⟩) (fun y hy => by cases hy) (by omega) (fun h => by cases h))
  have HY := hideIt (And.intro hE (And.intro kc1 (And.intro kb1 (And.intro st1 k1.bs))))
  clear H cd kb x hP hA kc h1 e1 k1 s1 hE kc1 kb1 st1
  go_wp2_with fail
  refine H2.out.mono ?_
  clear H2
  intro e w2 h2
  obtain ⟨hE, kc1, kb1, st1, hbs⟩ := HY.out
  rcases h2.split with ⟨c9, e2, rfl, t⟩ | ⟨ys, us, e2, a2, n2, cp2, S2, rfl, r2, nil2, _, k2, s2, _⟩
  · exact ⟨rfl, Ends.bad (hE.trans (thn_bad e2)) ⟨rfl, (st1.ends t).mono (fun _ _ h => .inl h)⟩⟩
  have hl2 := (oct_len e2 hbs).1
  have hE2 := hE.trans (thn_ok e2)
  have kc2 := kc1.step s2
  have kb2 := kb1.step s2
  have st2 := st1.trans s2
  have hn2 : n2 ≤ 140737488355328 := by have := r2.1; omega
  have H3 := hideIt (reader_any w2 a2 n2 cp2 ys r2 nil2 hn2)
  have HZ := hideIt (And.intro hE2 (And.intro kc2 (And.intro kb2 (And.intro st2 k2))))
  clear hE kc1 kb1 st1 hbs h2 e2 r2 nil2 k2 s2 hl2 hE2 kc2 kb2 st2 hn2 HY d0 d1
  go_wp2_with fail
  refine H3.out.mono ?_
  clear H3
  rintro e w3 ⟨p3, S3, rfl, k3, a3, hS3⟩
  obtain ⟨H, cd, kb, x, hP, hA, kc⟩ := HX.out
  obtain ⟨hE2, kc2, kb2, st2, k2⟩ := HZ.out
  have a4 : After w2 (w3.alloc (.cells #[.pointer p3, .pointer none] 79)) := a3.alloc _
  have kc4 := kc2.after a4
  have kb4 := kb2.after a4
  have k24 := k2.after a4
  have k34 := k3.after (After.rfl.alloc (.cells #[.pointer p3, .pointer none] 79))
  have ki4 := new1 w3 (.cells #[.pointer p3, .pointer none] 79)
  have st4 : Stp S w S2 _ := st2.after a4
  have hw2 : w.heap.size < w2.heap.size := kc2.lt
  have hw3 : w2.heap.size ≤ w3.heap.size := a3.size
  have hn3 : ¬ w3.heap.size = w.heap.size := by omega
  have hn3' : ¬ w.heap.size = w3.heap.size := by omega
  have hS3lt := k3.lt
  obtain ⟨_, q0, q1, _, _⟩ := two_at (kc2.after a3).at0
  obtain ⟨w4, hw4⟩ : ∃ w4, w3.alloc (.cells #[.pointer p3, .pointer none] 79) = w4 := ⟨_, rfl⟩
  rw [hw4] at a4 kc4 kb4 k24 k34 ki4 st4
  obtain ⟨_, o0, o1, _, _⟩ := two_at kc4.at0
  have HLF := hideIt (fun W (hW : After w4 W) => c_left W (some ⟨gp, 0, none⟩) us S2 (k24.after hW))
  have HLT := hideIt kc4.lt
  have hwi : w3.heap.size < w4.heap.size := (Array.getElem?_eq_some_iff.1 ki4).1
  have HW := hideIt (And.intro hE2 (And.intro kc4 (And.intro kb4 (And.intro k24 (And.intro k34 (And.intro ki4 (And.intro st4 (And.intro hS3 (And.intro k2.lt (And.intro hw2 (And.intro hw3 (And.intro hS3lt hwi))))))))))))
  clear H cd kb x hP hA kc hE2 kc2 kb2 st2 k2 k3 a3 hS3 a4 kc4 kb4 k24 k34 ki4 st4 HZ hS3lt hwi hw2 hw3
  obtain ⟨nu, hnu⟩ : ∃ nu, us.length = nu := ⟨_, rfl⟩
  have HNU := hideIt hnu
  rw [hnu] at HLF
  clear hnu
  have HW4 := hideIt hw4
  clear hw4
  by_cases hu : nu = 0
  · subst hu
    go_wp2_with fail
    rw [HW4.out]
    refine wp_region_held_drew (S := (fun W => W.cell? ⟨w.heap.size, 0, none⟩ = some (.pointer (some ⟨gp, 0, none⟩)) ∧ W.cell? ⟨w.heap.size, 1, none⟩ = some (.pointer none) ∧ After w4 W)) rfl ⟨o0, o1, After.rfl.draws 1⟩ (fun hHeld => ?_)
    refine' takeD (i := 0) (d := some 30) (v := _) rfl rfl (by kernel_rfl) (by kernel_rfl) (by kernel_rfl) (fun _ _ _ h => h) (by rfl) hHeld (fun w hSw => ?_) ?_
    rotate_left 1
    · (try dsimp only at hSw)
      go_simp
      try with_reducible rfl
    try simp only [Act.put, List.setIfInBounds_toArray, List.set_cons_zero, List.set_cons_succ]
    refine' takeD (i := 1) (d := some 31) (v := _) rfl rfl (by kernel_rfl) (by kernel_rfl) (by kernel_rfl) (fun _ _ _ h => h) (by rfl) hHeld (fun w hSw => ?_) ?_
    rotate_left 1
    · (try dsimp only at hSw)
      go_simp
      try with_reducible rfl
    try simp only [Act.put, List.setIfInBounds_toArray, List.set_cons_zero, List.set_cons_succ]
    refine' takeD (i := 2) (d := some 32) (v := _) rfl rfl (by kernel_rfl) (by kernel_rfl) (by kernel_rfl) (fun _ _ _ h => h) (by rfl) hHeld (fun w hSw => ?_) ?_
    rotate_left 1
    · (try dsimp only at hSw)
      go_simp
      try with_reducible rfl
    try simp only [Act.put, List.setIfInBounds_toArray, List.set_cons_zero, List.set_cons_succ]
    refine wpAnyH_ready (rs := [3]) (by kernel_rfl) (by simp) ?_
    refine AllReadyH.cons rfl (fun K hK => ?_) AllReadyH.nil
    go_simp
    refine (HLF.out _ hHeld.2.2).mono ?_
    rintro e w5 ⟨rfl, rfl⟩
    try go_wp2_with fail
    refine hK.out _ _ ?_ (fun hHeld3 => ?_)
    · exact hHeld
    clear hK K
    try simp only [Act.put, List.setIfInBounds_toArray, List.set_cons_zero, List.set_cons_succ]
    refine' takeD (i := 4) (d := some 34) (v := _) rfl rfl (by kernel_rfl) (by kernel_rfl) (by kernel_rfl) (fun _ _ _ h => h) (by rfl) hHeld3 (fun w hSw => ?_) ?_
    rotate_left 1
    · (try dsimp only at hSw)
      go_simp
      try with_reducible rfl
    try simp only [Act.put, List.setIfInBounds_toArray, List.set_cons_zero, List.set_cons_succ]
    refine wpAnyH_ready (rs := [5]) (by kernel_rfl) (by simp) ?_
    refine AllReadyH.cons rfl (fun K hK => ?_) AllReadyH.nil
    go_simp
    refine (must_yes _ (some ⟨gp, 0, none⟩) none).mono ?_
    rintro e w5 ⟨rfl, h6⟩
    try go_wp2_with fail
    refine hK.out _ _ ?_ (fun hHeld5 => ?_)
    · exact ⟨by rw [h6.cell (Nat.lt_of_lt_of_le HLT.out hHeld3.2.2.size)]; exact hHeld3.1, by rw [h6.cell (Nat.lt_of_lt_of_le HLT.out hHeld3.2.2.size)]; exact hHeld3.2.1, hHeld3.2.2.trans h6⟩
    clear hK K
    try simp only [Act.put, List.setIfInBounds_toArray, List.set_cons_zero, List.set_cons_succ]
    refine wpAnyH_done (by kernel_rfl) ?_ _
    have hcut := hHeld5.2.2
    clear hHeld hHeld3 hHeld5 h6
    obtain ⟨H, cd, kb, x, hP, hA, kc⟩ := HX.out
    obtain ⟨hE2, kc4, kb4, k24, k34, ki4, st4, hS3, hS2, hw2, hw3, hS3lt, hwi⟩ := HW.out
    have hE5 := hE2.trans (if_pos HNU.out)
    have ki5 := (But.block hcut _ hwi (fun t => t)).trans ki4
    have kb5 := kb4.after hcut
    have kc5 := kc4.after hcut
    have st5 := st4.after hcut
    have hw5 : w4.heap.size ≤ w5.heap.size := hcut.size
    have hS3o : ∀ j, S3 j → w.heap.size < j := fun j hj => by have := hS3 j hj; omega
    have xw5 : MsgX w5 P M sa sc oa oc ba bc := x.but st5.but (fun j hj => (hP j hj).1)
    have kbi : Keeps w5 S3 g (.cells (M.cells sa sc oa oc ba bc) 31 (0, 0)) := ⟨kb5.at0, fun h => by have := hS3o g h; omega⟩
    have H6 := hideIt (H w5 p3 none ys S3 y1 (k34.after hcut) kbi xw5 (fun j hj => ⟨fun h => by have := hS3o j h; have := (hP j hj).2; omega, Nat.lt_of_lt_of_le (hP j hj).2 st5.but.size⟩) (fun h => by cases h))
    obtain ⟨_, i0', i1', _, _⟩ := two_at ki5
    obtain ⟨_, o0', o1', _, _⟩ := two_at kc5.at0
    have HV := hideIt (And.intro hE5 (And.intro kc5 (And.intro kb5 (And.intro (k24.after hcut) (And.intro ki5 (And.intro st5 (And.intro hS3 (And.intro hS2 (And.intro hw2 (And.intro hw3 (And.intro hS3lt (And.intro hwi hw5))))))))))))
    clear H cd kb x hP hA kc hE2 kc4 kb4 k24 k34 ki4 st4 hS3 hS2 hw2 hw3 hS3lt hwi hE5 ki5 kb5 kc5 st5 hw5 hS3o xw5 kbi hcut HW HLF HLT o0 o1 q0 q1
    go_wp2_with fail
    refine H6.out.mono ?_
    clear H6
    intro e w6 h6
    obtain ⟨hE5, kc5, kb5, k25, ki5, st5, hS3, hS2, hw2, hw3, hS3lt, hwi, hw5⟩ := HV.out
    have bw : ∀ {W}, But (fun k => S3 k ∨ k = g) w5 W → But (fun k => S k ∨ k = g) w W := fun {W} t => (st5.but.mono (T := fun k => S k ∨ k = g) (fun _ _ h => .inl h)).then t (fun i hi h => h.elim (fun h => by have := hS3 i h; omega) .inr)
    rcases h6.split with ⟨c9, e6, rfl, t⟩ | ⟨X, rs, e6, rfl, hv, S6, k6, s6⟩
    · exact ⟨rfl, Ends.bad (hE5.trans (thn_bad e6)) ⟨rfl, bw t⟩⟩
    have hE6 := hE5.trans (thn_ok e6)
    have hS6 : ∀ j, S6 j → w2.heap.size ≤ j := fun j hj => (s6.new j hj).elim (hS3 j) (fun h => by omega)
    have kc6 := (s6.but.block _ kc5.lt (fun h => h.elim (fun h => by have := hS3 _ h; omega) (fun h => by omega))).trans kc5.at0
    have ki6 := (s6.but.block _ (Array.getElem?_eq_some_iff.1 ki5).1 (fun h => h.elim (fun h => by have := hS3lt _ h; omega) (fun h => by omega))).trans ki5
    have k26 : Cod w6 (some ⟨gp, 0, none⟩) none false us S2 := k25.but s6.but (fun j hj h => h.elim (fun h => by have := hS3 j h; have := hS2 j hj; omega) (fun h => kb5.out (by rw [← h]; exact hj)))
    obtain ⟨_, o0, o1, _, _⟩ := two_at kc6
    obtain ⟨_, i0, i1, _, _⟩ := two_at ki6
    have HLF := hideIt (fun W (hW : After w6 W) => c_left W p3 rs S6 (k6.after hW))
    have HLT := hideIt (And.intro (Array.getElem?_eq_some_iff.1 kc6).1 (Array.getElem?_eq_some_iff.1 ki6).1)
    have HU := hideIt (And.intro hE6 (And.intro hv (And.intro k26 (And.intro (bw s6.but) (And.intro (st5.new) st5.but.size)))))
    clear hE5 kc5 kb5 k25 ki5 st5 hS3 hS2 hw2 hw3 hS3lt hwi hw5 bw h6 e6 hv k6 s6 hE6 hS6 kc6 ki6 k26 HV i0' i1' o0' o1'
    obtain ⟨nr, hnr⟩ : ∃ nr, rs.length = nr := ⟨_, rfl⟩
    have HNR := hideIt hnr
    rw [hnr] at HLF
    clear hnr
    by_cases hr : nr = 0
    · subst hr
      go_wp2_with fail
      refine wp_region_held_drew (S := (fun W => W.cell? ⟨w.heap.size, 0, none⟩ = some (.pointer (some ⟨gp, 0, none⟩)) ∧ W.cell? ⟨w.heap.size, 1, none⟩ = some (.pointer none) ∧ W.cell? ⟨w3.heap.size, 0, none⟩ = some (.pointer p3) ∧ After w6 W)) rfl ⟨o0, o1, i0, After.rfl.draws 1⟩ (fun hHeld => ?_)
      refine' takeD (i := 0) (d := some 40) (v := _) rfl rfl (by kernel_rfl) (by kernel_rfl) (by kernel_rfl) (fun _ _ _ h => h) (by rfl) hHeld (fun w hSw => ?_) ?_
      rotate_left 1
      · (try dsimp only at hSw)
        go_simp
        try with_reducible rfl
      try simp only [Act.put, List.setIfInBounds_toArray, List.set_cons_zero, List.set_cons_succ]
      refine' takeD (i := 1) (d := some 41) (v := _) rfl rfl (by kernel_rfl) (by kernel_rfl) (by kernel_rfl) (fun _ _ _ h => h) (by rfl) hHeld (fun w hSw => ?_) ?_
      rotate_left 1
      · (try dsimp only at hSw)
        go_simp
        try with_reducible rfl
      try simp only [Act.put, List.setIfInBounds_toArray, List.set_cons_zero, List.set_cons_succ]
      refine' takeD (i := 2) (d := some 42) (v := _) rfl rfl (by kernel_rfl) (by kernel_rfl) (by kernel_rfl) (fun _ _ _ h => h) (by rfl) hHeld (fun w hSw => ?_) ?_
      rotate_left 1
      · (try dsimp only at hSw)
        go_simp
        try with_reducible rfl
      try simp only [Act.put, List.setIfInBounds_toArray, List.set_cons_zero, List.set_cons_succ]
      refine wpAnyH_ready (rs := [3]) (by kernel_rfl) (by simp) ?_
      refine AllReadyH.cons rfl (fun K hK => ?_) AllReadyH.nil
      go_simp
      refine (HLF.out _ hHeld.2.2.2).mono ?_
      rintro e w7 ⟨rfl, rfl⟩
      try go_wp2_with fail
      refine hK.out _ _ ?_ (fun hHeld3 => ?_)
      · exact hHeld
      clear hK K
      try simp only [Act.put, List.setIfInBounds_toArray, List.set_cons_zero, List.set_cons_succ]
      refine' takeD (i := 4) (d := some 44) (v := _) rfl rfl (by kernel_rfl) (by kernel_rfl) (by kernel_rfl) (fun _ _ _ h => h) (by rfl) hHeld3 (fun w hSw => ?_) ?_
      rotate_left 1
      · (try dsimp only at hSw)
        go_simp
        try with_reducible rfl
      try simp only [Act.put, List.setIfInBounds_toArray, List.set_cons_zero, List.set_cons_succ]
      refine wpAnyH_ready (rs := [5]) (by kernel_rfl) (by simp) ?_
      refine AllReadyH.cons rfl (fun K hK => ?_) AllReadyH.nil
      go_simp
      refine (must_yes _ (some ⟨gp, 0, none⟩) none).mono ?_
      rintro e w8 ⟨rfl, h8⟩
      try go_wp2_with fail
      refine hK.out _ _ ?_ (fun hHeld5 => ?_)
      · exact ⟨by rw [h8.cell (Nat.lt_of_lt_of_le HLT.out.1 hHeld3.2.2.2.size)]; exact hHeld3.1, by rw [h8.cell (Nat.lt_of_lt_of_le HLT.out.1 hHeld3.2.2.2.size)]; exact hHeld3.2.1, by rw [h8.cell (Nat.lt_of_lt_of_le HLT.out.2 hHeld3.2.2.2.size)]; exact hHeld3.2.2.1, hHeld3.2.2.2.trans h8⟩
      clear hK K
      try simp only [Act.put, List.setIfInBounds_toArray, List.set_cons_zero, List.set_cons_succ]
      refine wpAnyH_done (by kernel_rfl) ?_ _
      have hcut := hHeld5.2.2.2
      clear hHeld hHeld3 hHeld5 h8
      have HT := hideIt hcut
      clear hcut
      try simp only [Act.put, List.setIfInBounds_toArray, List.set_cons_zero, List.set_cons_succ]
      go_wp2_with fail
      first | go_end0 | refine bodyPost_ret (results_none rfl _ _ _) rfl ?_
      have hcut := HT.out
      obtain ⟨hE6, ⟨xa, xc, ya, yc, za, zc, hv, hvr⟩, k26, b6, hnew, hsz⟩ := HU.out
      refine Ends.ok (hE6.trans (if_pos HNR.out)) ⟨rfl, ⟨xa, xc, ya, yc, za, zc, (But.block hcut _ (Array.getElem?_eq_some_iff.1 hv).1 (fun t => t)).trans hv, fun hm => ⟨((hvr hm).1.after hcut).mono (fun j hj => hj.imp_right (fun h => Nat.le_trans hsz h)), own_base (own_after (hvr hm).2 hcut) (fun j hj => Nat.le_trans hsz ((hvr hm).2.lt j hj).1)⟩⟩, S2, k26.after hcut, b6.trans hcut.but, hnew⟩
    · have hr' : ((nr : Int) == 0) = false := by simpa using (show ¬ (nr : Int) = 0 by omega)
      go_wp2_with fail
      refine wp_region_held_drew (S := (fun W => W.cell? ⟨w.heap.size, 0, none⟩ = some (.pointer (some ⟨gp, 0, none⟩)) ∧ W.cell? ⟨w.heap.size, 1, none⟩ = some (.pointer none) ∧ W.cell? ⟨w3.heap.size, 0, none⟩ = some (.pointer p3) ∧ After w6 W)) rfl ⟨o0, o1, i0, After.rfl.draws 1⟩ (fun hHeld => ?_)
      refine' takeD (i := 0) (d := some 40) (v := _) rfl rfl (by kernel_rfl) (by kernel_rfl) (by kernel_rfl) (fun _ _ _ h => h) (by rfl) hHeld (fun w hSw => ?_) ?_
      rotate_left 1
      · (try dsimp only at hSw)
        go_simp
        try with_reducible rfl
      try simp only [Act.put, List.setIfInBounds_toArray, List.set_cons_zero, List.set_cons_succ]
      refine' takeD (i := 1) (d := some 41) (v := _) rfl rfl (by kernel_rfl) (by kernel_rfl) (by kernel_rfl) (fun _ _ _ h => h) (by rfl) hHeld (fun w hSw => ?_) ?_
      rotate_left 1
      · (try dsimp only at hSw)
        go_simp
        try with_reducible rfl
      try simp only [Act.put, List.setIfInBounds_toArray, List.set_cons_zero, List.set_cons_succ]
      refine' takeD (i := 2) (d := some 42) (v := _) rfl rfl (by kernel_rfl) (by kernel_rfl) (by kernel_rfl) (fun _ _ _ h => h) (by rfl) hHeld (fun w hSw => ?_) ?_
      rotate_left 1
      · (try dsimp only at hSw)
        go_simp
        try with_reducible rfl
      try simp only [Act.put, List.setIfInBounds_toArray, List.set_cons_zero, List.set_cons_succ]
      refine wpAnyH_ready (rs := [3]) (by kernel_rfl) (by simp) ?_
      refine AllReadyH.cons rfl (fun K hK => ?_) AllReadyH.nil
      go_simp
      refine (HLF.out _ hHeld.2.2.2).mono ?_
      rintro e w7 ⟨rfl, rfl⟩
      try go_wp2_with fail
      refine hK.out _ _ ?_ (fun hHeld3 => ?_)
      · exact hHeld
      clear hK K
      try simp only [Act.put, List.setIfInBounds_toArray, List.set_cons_zero, List.set_cons_succ]
      refine' takeD (i := 4) (d := some 44) (v := _) rfl rfl (by kernel_rfl) (by kernel_rfl) (by kernel_rfl) (fun _ _ _ h => h) (by rfl) hHeld3 (fun w hSw => ?_) ?_
      rotate_left 1
      · (try dsimp only at hSw)
        go_simp
        try with_reducible rfl
      try simp only [Act.put, List.setIfInBounds_toArray, List.set_cons_zero, List.set_cons_succ]
      refine wpAnyH_ready (rs := [5]) (by kernel_rfl) (by simp) ?_
      refine AllReadyH.cons rfl (fun K hK => ?_) AllReadyH.nil
      go_simp
      refine (must_no _ (some ⟨gp, 0, none⟩) none).mono ?_
      rintro e w8 ⟨rfl, h8⟩
      exact ⟨rfl, Ends.bad (HU.out.1.trans (if_neg (by rw [HNR.out]; exact hr))) ⟨rfl, HU.out.2.2.2.1.trans (hHeld3.2.2.2.trans h8).but⟩⟩
  · have hu' : ((nu : Int) == 0) = false := by simpa using (show ¬ (nu : Int) = 0 by omega)
    go_wp2_with fail
    rw [HW4.out]
    refine wp_region_held_drew (S := (fun W => W.cell? ⟨w.heap.size, 0, none⟩ = some (.pointer (some ⟨gp, 0, none⟩)) ∧ W.cell? ⟨w.heap.size, 1, none⟩ = some (.pointer none) ∧ After w4 W)) rfl ⟨o0, o1, After.rfl.draws 1⟩ (fun hHeld => ?_)
    refine' takeD (i := 0) (d := some 30) (v := _) rfl rfl (by kernel_rfl) (by kernel_rfl) (by kernel_rfl) (fun _ _ _ h => h) (by rfl) hHeld (fun w hSw => ?_) ?_
    rotate_left 1
    · (try dsimp only at hSw)
      go_simp
      try with_reducible rfl
    try simp only [Act.put, List.setIfInBounds_toArray, List.set_cons_zero, List.set_cons_succ]
    refine' takeD (i := 1) (d := some 31) (v := _) rfl rfl (by kernel_rfl) (by kernel_rfl) (by kernel_rfl) (fun _ _ _ h => h) (by rfl) hHeld (fun w hSw => ?_) ?_
    rotate_left 1
    · (try dsimp only at hSw)
      go_simp
      try with_reducible rfl
    try simp only [Act.put, List.setIfInBounds_toArray, List.set_cons_zero, List.set_cons_succ]
    refine' takeD (i := 2) (d := some 32) (v := _) rfl rfl (by kernel_rfl) (by kernel_rfl) (by kernel_rfl) (fun _ _ _ h => h) (by rfl) hHeld (fun w hSw => ?_) ?_
    rotate_left 1
    · (try dsimp only at hSw)
      go_simp
      try with_reducible rfl
    try simp only [Act.put, List.setIfInBounds_toArray, List.set_cons_zero, List.set_cons_succ]
    refine wpAnyH_ready (rs := [3]) (by kernel_rfl) (by simp) ?_
    refine AllReadyH.cons rfl (fun K hK => ?_) AllReadyH.nil
    go_simp
    refine (HLF.out _ hHeld.2.2).mono ?_
    rintro e w5 ⟨rfl, rfl⟩
    try go_wp2_with fail
    refine hK.out _ _ ?_ (fun hHeld3 => ?_)
    · exact hHeld
    clear hK K
    try simp only [Act.put, List.setIfInBounds_toArray, List.set_cons_zero, List.set_cons_succ]
    refine' takeD (i := 4) (d := some 34) (v := _) rfl rfl (by kernel_rfl) (by kernel_rfl) (by kernel_rfl) (fun _ _ _ h => h) (by rfl) hHeld3 (fun w hSw => ?_) ?_
    rotate_left 1
    · (try dsimp only at hSw)
      go_simp
      try with_reducible rfl
    try simp only [Act.put, List.setIfInBounds_toArray, List.set_cons_zero, List.set_cons_succ]
    refine wpAnyH_ready (rs := [5]) (by kernel_rfl) (by simp) ?_
    refine AllReadyH.cons rfl (fun K hK => ?_) AllReadyH.nil
    go_simp
    refine (must_no _ (some ⟨gp, 0, none⟩) none).mono ?_
    rintro e w8 ⟨rfl, h8⟩
    exact ⟨rfl, Ends.bad (HW.out.1.trans (if_neg (by rw [HNU.out]; exact hu))) ⟨rfl, (HW.out.2.2.2.2.2.2.1.but.mono (fun _ _ h => .inl h)).trans (hHeld3.2.2.trans h8).but⟩⟩
end Go.Proofs.YthcfdoafncbliaaGreat
