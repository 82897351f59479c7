/-
  A kind, how many bytes follow, and what stands in them: writing.
-/
import Derived.Test.YtigiakhdaaoljaaNews
namespace Go.Proofs.Ytigiakhdaaoljaa
open Go.RowKit
set_option maxRecDepth 8000
/-- A variable holds a message that was gone through; where it was read, its lists are there. -/
def VarsC (w w' : World) (m : Bool) (g : Nat) (P : Nat → Prop) (X : Msg) : Prop :=
  ∃ sa sc oa oc ba bc, w'.heap[g]? = some (.cells (X.cells sa sc oa oc ba bc) 26 (0, 0)) ∧ (m = false → MsgX w' (fun k => P k ∨ w.heap.size ≤ k) X sa sc oa oc ba bc ∧ w'.ownsRow w.heap.size 5 1 (.slice sa X.sys.length sc) X.sys.length (u8s X.sys))
theorem Vars.c {w w' : World} {m : Bool} {g : Nat} {P : Nat → Prop} {X : Msg} (h : Vars w w' m g P X) : VarsC w w' m g P X := by
  obtain ⟨sa, sc, oa, oc, ba, bc, h1, h2, h3⟩ := h
  exact ⟨sa, sc, oa, oc, ba, bc, h1, fun hm => ⟨h2, h3 hm⟩⟩
/-- What is asked of the function that goes through what stands inside: f, with a variable at g that holds M. -/
def Clo (f g : Nat) (m : Bool) (P : Nat → Prop) (M : Msg) (sa : Option Addr) (sc : Nat) (oa : Option Addr) (oc : Nat) (ba : Option Addr) (bc : Nat) (ins : Int → List Int → Except Int (Msg × List Int)) : Prop :=
  ∀ (w : World) (p q : Option Addr) (zs : List Int) (S : Nat → Prop) (k : Int), Cod w p q m zs S → Keeps w S g (.cells (M.cells sa sc oa oc ba bc) 26 (0, 0)) → MsgX w P M sa sc oa oc ba bc → (∀ k, P k → ¬ S k ∧ k < w.heap.size) → (m = true → zs.length ≤ 900000000) →
    Calls Try.prog f #[Co p q, .int .i64 k, Ptr g] w fun e w' => Ends (ins k zs) (fun X us => e = .returned (.tuple #[]) ∧ VarsC w w' m g P X ∧ ∃ S', Cod w' p q m us S' ∧ StpV S g w S' w') (fun c => e = .panicked (Halt c) ∧ But (fun k => S k ∨ k = g) w w')
def partW (ins : Int → List Int → Except Int (Msg × List Int)) (k : Int) (zs : List Int) : Except Int (Msg × List Int) :=
  thn (ins k []) fun X bs => thn (num true 2 65535 k zs) fun _ zs => thn (oct true bs zs) fun _ zs => .ok (X, zs)
def partR (ins : Int → List Int → Except Int (Msg × List Int)) (k : Int) (zs : List Int) : Except Int (Msg × List Int) :=
  thn (num false 2 65535 k zs) fun k zs => thn (oct false [] zs) fun b zs => if zs.length = 0 then thn (ins k b) fun X r => if r.length = 0 then .ok (X, zs) else .error 4 else .error 4
set_option maxHeartbeats 1000000 in
theorem part_w44 (w : World) (q : Option Addr) (zs : List Int) (S P : Nat → Prop) (g : Nat) (k : Int) (M : Msg) (sa : Option Addr) (sc : Nat) (oa : Option Addr) (oc : Nat) (ba : Option Addr) (bc : Nat) (ins : Int → List Int → Except Int (Msg × List Int)) (H : Clo 44 g true P M sa sc oa oc ba bc ins) (cd : Cod w none q true zs S) (kb : Keeps w S g (.cells (M.cells sa sc oa oc ba bc) 26 (0, 0))) (x : MsgX w P M sa sc oa oc ba bc) (hP : ∀ k, P k → ¬ S k ∧ k < w.heap.size) (hl : zs.length ≤ 900000000) (hb : ∀ X bs, ins k [] = .ok (X, bs) → bs.length ≤ 1000000) :
    Calls Try.prog 40 #[Co none q, .int .i64 k, .func (.func 44) #[] #[Ptr g]] w fun e w' => Ends (partW ins k zs) (fun X us => e = .returned (.tuple #[]) ∧ VarsC w w' true g P X ∧ ∃ S', Cod w' none q true us S' ∧ StpV S g w S' w') (fun c => e = .panicked (Halt c) ∧ But (fun k => S k ∨ k = g) w w') := by
  obtain ⟨gq, rfl⟩ : ∃ gq, q = some ⟨gq, 0, none⟩ := by
    rcases cd.is with ⟨h, _⟩ | ⟨_, g', v, _, e, _⟩
    · cases h
    · exact ⟨g', e⟩
  have hgw := kb.lt
  have HA := hideIt (show After w (w.alloc (.cells #[.pointer none, .pointer (some ⟨gq, 0, none⟩)] 52)) from After.rfl.alloc _)
  have HB0 := hideIt (new1 w (.cells #[.pointer none, .pointer (some ⟨gq, 0, none⟩)] 52))
  have H1 := hideIt (writer_any (w.alloc (.cells #[.pointer none, .pointer (some ⟨gq, 0, none⟩)] 52)))
  have HX := hideIt (And.intro H (And.intro cd (And.intro kb (And.intro x (And.intro hP (And.intro hl hb))))))
  clear H cd kb x hP hl hb
  go_enter Try.func40, Try.ntmps40
  go_wp2_with fail
  refine H1.out.mono ?_
  clear H1
  rintro e w1 ⟨q2, S2, rfl, c2, a2, hS2⟩
  obtain ⟨g2, rfl⟩ : ∃ g2, q2 = some ⟨g2, 0, none⟩ := by
    rcases c2.is with ⟨h, _⟩ | ⟨_, g', v, _, e, _⟩
    · cases h
    · exact ⟨g', e⟩
  obtain ⟨H, cd, kb, x, hP, hl, hb⟩ := HX.out
  rw [World.size_alloc] at hS2
  have hsz : w.heap.size + 1 ≤ w1.heap.size := by have := a2.size; rw [World.size_alloc] at this; exact this
  have a3 : After w (w1.alloc (.cells #[.pointer none, .pointer (some ⟨g2, 0, none⟩)] 52)) := (HA.out.trans a2).alloc _
  have kn : (w1.alloc (.cells #[.pointer none, .pointer (some ⟨g2, 0, none⟩)] 52)).heap[w.heap.size]? = some (.cells #[.pointer none, .pointer (some ⟨gq, 0, none⟩)] 52 (0, 0)) := new_past _ _ ((But.block a2 _ (by simp) (fun t => t)).trans HB0.out)
  have km := new1 w1 (.cells #[.pointer none, .pointer (some ⟨g2, 0, none⟩)] 52)
  have H2 := hideIt (H _ none (some ⟨g2, 0, none⟩) [] S2 k (c2.after (After.rfl.alloc _)) ⟨(kb.after a3).at0, fun h => by have := hS2 g h; omega⟩ (x.after a3) (fun j hj => ⟨fun h => by have := hS2 j h; have := (hP j hj).2; omega, Nat.lt_of_lt_of_le (hP j hj).2 a3.size⟩) (fun _ => by simp))
  obtain ⟨_, u0, u1, _, _⟩ := two_at kn
  have HY := hideIt (And.intro c2 (And.intro hS2 (And.intro hsz (And.intro a3 (And.intro kn km)))))
  have hbx : (w1.cell? ⟨w.heap.size, 0, none⟩ = some (.pointer none)) ∧ w1.cell? ⟨w.heap.size, 1, none⟩ = some (.pointer (some ⟨gq, 0, none⟩)) := ⟨(two_at ((But.block a2 _ (by simp) (fun t => t)).trans HB0.out)).2.1, (two_at ((But.block a2 _ (by simp) (fun t => t)).trans HB0.out)).2.2.1⟩
  clear H cd kb x hP hl hb c2 a2 hS2 hsz a3 kn km
  go_wp2_with fail
  refine H2.out.mono ?_
  clear H2
  intro e w3 h3
  obtain ⟨H, cd, kb, x, hP, hl, hb⟩ := HX.out
  obtain ⟨c2, hS2, hsz, a3, kn, km⟩ := HY.out
  have hlt2 : ∀ k, S2 k → k < w1.heap.size := c2.lt
  have bw : ∀ {W}, But (fun k => S2 k ∨ k = g) (w1.alloc (.cells #[.pointer none, .pointer (some ⟨g2, 0, none⟩)] 52)) W → But (fun k => S k ∨ k = g) w W := fun {W} t => a3.but.then t (fun i hi h => h.elim (fun h => by have := hS2 i h; omega) .inr)
  rcases h3.split with ⟨c9, e3, rfl, t⟩ | ⟨X, bs, e3, rfl, ⟨xa, xc, ya, yc, za, zc, hv, _⟩, S3, k3, s3⟩
  · exact ⟨rfl, Ends.bad (thn_bad e3) ⟨rfl, bw t⟩⟩
  have hE : partW ins k zs = thn (num true 2 65535 k zs) fun _ zs => thn (oct true bs zs) fun _ zs => .ok (X, zs) := thn_ok e3
  have hbl := hb X bs e3
  have n3 : w3.heap[w.heap.size]? = some (.cells #[.pointer none, .pointer (some ⟨gq, 0, none⟩)] 52 (0, 0)) := (s3.but.block _ (by rw [World.size_alloc]; omega) (fun h => h.elim (fun h => by have := hS2 _ h; omega) (fun h => by omega))).trans kn
  have m3 : w3.heap[w1.heap.size]? = some (.cells #[.pointer none, .pointer (some ⟨g2, 0, none⟩)] 52 (0, 0)) := (s3.but.block _ (by rw [World.size_alloc]; omega) (fun h => h.elim (fun h => by have := hlt2 _ h; omega) (fun h => by omega))).trans km
  have cd3 : Cod w3 none (some ⟨gq, 0, none⟩) true zs S := (cd.after a3).but s3.but (fun j hj h => h.elim (fun h => by have := hS2 j h; have := cd.lt j hj; omega) (fun h => kb.out (by rw [← h]; exact hj)))
  have hS3 : ∀ j, S3 j → w.heap.size < j := fun j hj => (s3.new j hj).elim (fun h => by have := hS2 j h; omega) (fun h => by rw [World.size_alloc] at h; omega)
  have b3 := bw s3.but
  have H3 := hideIt (c_u16 w3 none (some ⟨gq, 0, none⟩) true zs S k cd3 (fun _ => by omega))
  obtain ⟨_, n30, n31, _, _⟩ := two_at n3
  have HZ := hideIt (And.intro hv (And.intro k3 (And.intro hE (And.intro hbl (And.intro n3 (And.intro m3 (And.intro hS3 (And.intro b3 (And.intro cd3 hsz)))))))))
  clear H cd kb x hP hl hb c2 hS2 hsz a3 kn km hlt2 bw h3 e3 hv k3 s3 hE hbl n3 m3 cd3 hS3 b3 hbx
  go_wp2_with fail
  refine H3.out.mono ?_
  clear H3
  intro e w4 h4
  obtain ⟨H, cd, kb, x, hP, hl, hb⟩ := HX.out
  obtain ⟨hv, k3, hE, hbl, n3, m3, hS3, b3, cd3, hsz⟩ := HZ.out
  rcases h4.split with ⟨c9, e4, rfl, t⟩ | ⟨y4, z4, e4, rfl, S4, k4, s4⟩
  · exact ⟨rfl, Ends.bad (hE.trans (thn_bad e4)) ⟨rfl, b3.trans (t.mono (fun _ _ h => .inl h))⟩⟩
  have hl4 := num_len e4
  have hSw : ∀ j, S j → j < w.heap.size := cd.lt
  have n4 : w4.heap[w.heap.size]? = some (.cells #[.pointer none, .pointer (some ⟨gq, 0, none⟩)] 52 (0, 0)) := (s4.but.block _ (Array.getElem?_eq_some_iff.1 n3).1 (fun h => by have := hSw _ h; omega)).trans n3
  have m4 : w4.heap[w1.heap.size]? = some (.cells #[.pointer none, .pointer (some ⟨g2, 0, none⟩)] 52 (0, 0)) := (s4.but.block _ (Array.getElem?_eq_some_iff.1 m3).1 (fun h => by have := hSw _ h; omega)).trans m3
  have hv4 := (s4.but.block g (Array.getElem?_eq_some_iff.1 hv).1 kb.out).trans hv
  have k34 : Cod w4 none (some ⟨g2, 0, none⟩) true bs S3 := k3.but s4.but (fun j hj h => by have := hS3 j hj; have := hSw j h; omega)
  obtain ⟨_, n0, n1, _, _⟩ := two_at n4
  obtain ⟨_, r0, r1, _, _⟩ := two_at m4
  have HLT := hideIt (And.intro (Array.getElem?_eq_some_iff.1 n4).1 (Array.getElem?_eq_some_iff.1 m4).1)
  have HBY := hideIt (fun W (hW : After w4 W) => c_bytes W (some ⟨g2, 0, none⟩) bs S3 (k34.after hW) (by omega))
  have HW := hideIt (And.intro hv4 (And.intro k4 (And.intro (hE.trans (thn_ok e4)) (And.intro hbl (And.intro (b3.trans (s4.but.mono (fun _ _ h => .inl h))) (And.intro (show ∀ j, S4 j → S j ∨ w.heap.size ≤ j from fun j hj => (s4.new j hj).imp_right (fun h => Nat.le_trans b3.size h)) (And.intro (show z4.length ≤ 900000010 by omega) (And.intro (show ¬ S4 w.heap.size ∧ ¬ S4 w1.heap.size from ⟨fun h => (s4.new _ h).elim (fun h => by have := hSw _ h; omega) (fun h => by have := (Array.getElem?_eq_some_iff.1 n3).1; omega), fun h => (s4.new _ h).elim (fun h => by have := hSw _ h; omega) (fun h => by have := (Array.getElem?_eq_some_iff.1 m3).1; omega)⟩) (And.intro k34.bs (show ¬ S4 g from fun h => (s4.new g h).elim kb.out (fun h => by have := (Array.getElem?_eq_some_iff.1 hv).1; omega)))))))))))
  clear H cd kb x hP hl hb hv k3 hE hbl n3 m3 hS3 b3 cd3 hsz h4 e4 k4 s4 hl4 hSw n4 m4 hv4 k34 HX HY HZ
  go_wp2_with fail
  refine wp_region_held_drew (S := (fun W => W.cell? ⟨w.heap.size, 0, none⟩ = some (.pointer none) ∧ W.cell? ⟨w.heap.size, 1, none⟩ = some (.pointer (some ⟨gq, 0, none⟩)) ∧ W.cell? ⟨w1.heap.size, 1, none⟩ = some (.pointer (some ⟨g2, 0, none⟩)))) rfl ⟨n0, n1, r1⟩ (fun hHeld => ?_)
  refine' takeD (i := 0) (d := some 19) (v := _) rfl rfl (by kernel_rfl) (by kernel_rfl) (by kernel_rfl) (fun _ _ _ h => h) (by rfl) hHeld (fun w hSw => ?_) ?_
  rotate_left 1
  · (try dsimp only at hSw)
    go_simp
    try with_reducible rfl
  try simp only [Act.put, List.setIfInBounds_toArray, List.set_cons_zero, List.set_cons_succ]
  refine' takeD (i := 1) (d := some 20) (v := _) rfl rfl (by kernel_rfl) (by kernel_rfl) (by kernel_rfl) (fun _ _ _ h => h) (by rfl) hHeld (fun w hSw => ?_) ?_
  rotate_left 1
  · (try dsimp only at hSw)
    go_simp
    try with_reducible rfl
  try simp only [Act.put, List.setIfInBounds_toArray, List.set_cons_zero, List.set_cons_succ]
  refine' takeD (i := 2) (d := some 21) (v := _) rfl rfl (by kernel_rfl) (by kernel_rfl) (by kernel_rfl) (fun _ _ _ h => h) (by rfl) hHeld (fun w hSw => ?_) ?_
  rotate_left 1
  · (try dsimp only at hSw)
    go_simp
    try with_reducible rfl
  try simp only [Act.put, List.setIfInBounds_toArray, List.set_cons_zero, List.set_cons_succ]
  refine wpAnyH_ready (rs := [3]) (by kernel_rfl) (by simp) ?_
  refine AllReadyH.cons rfl (fun K hK => ?_) AllReadyH.nil
  go_simp
  refine (HBY.out _ (After.rfl.draws 1)).mono ?_
  rintro e w5 ⟨a5, c5, rfl, o5, h5⟩
  try go_wp2_with fail
  refine hK.out _ _ ?_ (fun hHeld3 => ?_)
  · exact ⟨by rw [h5.cell HLT.out.1]; exact hHeld.1, by rw [h5.cell HLT.out.1]; exact hHeld.2.1, by rw [h5.cell HLT.out.2]; exact hHeld.2.2⟩
  clear hK K
  try simp only [Act.put, List.setIfInBounds_toArray, List.set_cons_zero, List.set_cons_succ]
  obtain ⟨hv4, k4, hE, hbl, b4, hn4, hz4, hns, hbs, hg4⟩ := HW.out
  have a45 : After w4 w5 := (After.rfl.draws 1).trans h5
  have c5' := k4.after a45
  have hw45 : w4.heap.size ≤ w5.heap.size := a45.size
  obtain ⟨a6, c6, e6, r6, nil6, _, own6⟩ := own_row o5 hbs
  cases e6
  have hfar : ∀ y, a5 = some y → 0 < bs.length → ¬ S4 y.block := fun y hy _ h => by
    have h1 := (o5.lt _ (own6 y hy).1).1
    have h2 := k4.lt _ h
    have h1 : w4.heap.size ≤ y.block := h1
    omega
  have H6 := hideIt (c_oct _ none (some ⟨gq, 0, none⟩) true z4 S4 a5 bs.length c5 bs c5' r6 nil6 hfar (by omega) (fun _ => by omega))
  have HV := hideIt (And.intro hv4 (And.intro hE (And.intro b4 (And.intro hn4 (And.intro a45 (And.intro hns hg4))))))
  clear hv4 k4 hE hbl b4 hn4 hz4 hns hbs hg4 a45 c5' hw45 r6 nil6 own6 hfar o5
  refine wpAnyH_ready (rs := [4]) (by kernel_rfl) (by simp) ?_
  refine AllReadyH.cons rfl (fun K hK => ?_) AllReadyH.nil
  go_simp
  refine H6.out.mono ?_
  clear H6
  intro e w7 h7
  obtain ⟨hv4, hE, b4, hn4, a45, hns, hg4⟩ := HV.out
  rcases h7.split with ⟨c9, e7, rfl, t⟩ | ⟨ys, us, e7, a7, n7, c7, S7, rfl, _, _, _, k7, s7, _⟩
  · exact ⟨rfl, Ends.bad (hE.trans (thn_bad e7)) ⟨rfl, (b4.trans a45.but).then t (fun i hi h => .inl ((hn4 i h).elim id (fun h => by omega)))⟩⟩
  try go_wp2_with fail
  refine hK.out _ _ ?_ (fun hHeld4 => ?_)
  · have l1 := Nat.lt_of_lt_of_le HLT.out.1 a45.size
    have l2 := Nat.lt_of_lt_of_le HLT.out.2 a45.size
    exact ⟨by rw [s7.but.cell l1 hns.1]; exact hHeld3.1, by rw [s7.but.cell l1 hns.1]; exact hHeld3.2.1, by rw [s7.but.cell l2 hns.2]; exact hHeld3.2.2⟩
  clear hK K
  refine wpAnyH_done (by kernel_rfl) ?_ _
  have HQ := hideIt (And.intro hv4 (And.intro hE (And.intro b4 (And.intro hn4 (And.intro a45 (And.intro hg4 (And.intro e7 (And.intro k7 s7))))))))
  clear hv4 hE b4 hn4 a45 hns hg4 e7 k7 s7 h7 hHeld hHeld3 hHeld4 h5 HV HBY HLT HW n0 n1 r0 r1 n30 n31 u0 u1
  try simp only [Act.put, List.setIfInBounds_toArray, List.set_cons_zero, List.set_cons_succ]
  go_wp2_with fail
  first | go_end0 | refine bodyPost_ret (results_none rfl _ _ _) rfl ?_
  obtain ⟨hv4, hE, b4, hn4, a45, hg4, e7, k7, s7⟩ := HQ.out
  refine Ends.ok (hE.trans (thn_ok e7)) ⟨rfl, ⟨xa, xc, ya, yc, za, zc, ?_, fun h => by cases h⟩, S7, k7, (b4.trans a45.but).then s7.but (fun i hi h => .inl ((hn4 i h).elim id (fun h => by omega))), fun j hj => ?_⟩
  · have l1 := (Array.getElem?_eq_some_iff.1 hv4).1
    exact ((But.block (a45.but.trans s7.but) g l1 hg4).trans hv4)
  · rcases s7.new j hj with h | h
    · exact hn4 j h
    · have := b4.size
      have := a45.size
      exact .inr (by omega)
end Go.Proofs.Ytigiakhdaaoljaa
