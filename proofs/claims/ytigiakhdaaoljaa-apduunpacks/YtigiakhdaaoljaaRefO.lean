/-
  The document's Octets.
-/
import Derived.Test.YtigiakhdaaoljaaRef
namespace Go.Proofs.Ytigiakhdaaoljaa
set_option maxRecDepth 8000
open Go.RowKit
attribute [local go_sem ↓] Go.wp_at_zero Go.wp_at_succ
theorem refOctets_short (w : World) (g h : Nat) (zs : List Int) (r : RfAt w g h zs) (hz : ¬ 2 ≤ zs.length) :
    Calls Try.prog 59 #[Ptr g] w fun e w' => e = .returned (.tuple #[.slice none 0 0, .int .i64 3]) ∧ After w w' := by
  have HT := hideIt (refNumber_no w g h 2 zs r (by decide) hz)
  obtain ⟨a, n, c, k, fs, ⟨h1, h2, h3, h4, h6, h5⟩, h7⟩ := r
  obtain ⟨_, hc0, hc1, hf0, hf1⟩ := two_at h1
  clear h1 h2 h3 h4 h5 h6 h7 hz
  go_enter Try.func59, Try.ntmps59
  go_wp2_with (go_at_call 71; refine HT.out.mono ?_; rintro e w1 ⟨rfl, ha⟩; have HA := hideIt ha; clear ha)
  go_ret2
  exact ⟨rfl, HA.out⟩
set_option maxHeartbeats 1000000 in
theorem refOctets_long (w : World) (g h q : Nat) (zs : List Int) (r : RfAt w g h zs) (hz : 2 ≤ zs.length) (hq : ocN zs = q) (hl : ¬ q ≤ zs.length - 2) :
    Calls Try.prog 59 #[Ptr g] w fun e w' => e = .returned (.tuple #[.slice none 0 0, .int .i64 3]) ∧ RfAt w' g h zs ∧ But (One g) w w' := by
  have hbs := r.bs
  obtain ⟨a, n, c, k, fs, r, h7⟩ := r
  have HT := hideIt (refNumber_x w g h 2 a n c k fs zs r (by decide) (by decide) h7 hz)
  have hv := (ocN_int hbs hz).1
  have hv2 := (ocN_int hbs hz).2
  rw [hq] at hv hv2
  have HV := hideIt hv
  have H7 := hideIt h7
  obtain ⟨h1, h2, h3, h4, h6, h5⟩ := r
  obtain ⟨_, hc0, hc1, hf0, hf1⟩ := two_at h1
  have hzl : zs.length = n - k := by rw [h7, List.length_drop, h2.1]
  have k1 : (n : Int) - ((k : Int) + 2) < (q : Int) := by omega
  have k0 : (k : Int) + 2 ≤ (n : Int) := by omega
  have k2 : (n : Int) ≤ 140737488355328 := by omega
  have k3 : (q : Int) < 65536 := by omega
  clear h1 h2 h3 h4 h5 h6 h7 hl hz hzl hv hv2 hq hbs
  go_enter Try.func59, Try.ntmps59
  go_wp2_with (go_at_call 71; refine HT.out.mono ?_; rintro e w1 ⟨rfl, hr, hb⟩; rw [HV.out]; have HR := hideIt hr; have HB := hideIt hb; clear hr hb hc0 hc1 hf0 hf1; obtain ⟨_, hc0, hc1, hf0, hf1⟩ := two_at HR.out.1)
  go_quiet (fail)
  obtain ⟨s1, s2⟩ := rf_store (HR.out.but (S := Non) (After.rfl.draws nq) (fun t => t) (fun t => t)) k (by omega) (k : Int) rfl
  have S1 := hideIt s1
  have S2 := hideIt ((HB.out.draws nq).trans s2)
  clear s1 s2
  go_wp2
  go_ret2
  exact ⟨rfl, ⟨a, n, c, k, fs, S1.out, H7.out⟩, S2.out⟩
/-- What is behind the call of the copy. -/
theorem rf_cut {W : World} {g h off n c p q : Nat} {fs : List Int} (r : RfX W g h (some ⟨h, off, none⟩) n c p fs) (hp : p + q ≤ n) (o' c' : Nat) (ho : o' = off + p ∨ (o' = off ∧ q = 0)) :
    Calls Try.prog 15 #[.slice (some ⟨h, o', none⟩) q c'] W fun e w' => ∃ v, e = .returned v ∧ w'.ownsRow W.heap.size 5 1 v q (u8s ((fs.drop p).take q)) ∧ After W w' := by
  obtain ⟨h1, h2, h3, h4, h6, h5⟩ := r
  refine copy_any _ q _ _ _ ?_ (fun e => by cases e) (by omega)
  rcases ho with rfl | ⟨rfl, rfl⟩
  · exact (h2.drop (k := p) (by omega)).take (by omega)
  · rw [List.take_zero]; exact Row.nil _ _
set_option maxRecDepth 100000 in
set_option maxHeartbeats 1000000 in
theorem refOctets_yes (w : World) (g h q : Nat) (zs : List Int) (r : RfAt w g h zs) (hz : 2 ≤ zs.length) (hq : ocN zs = q) (hl : q ≤ zs.length - 2) :
    Calls Try.prog 59 #[Ptr g] w fun e w' => ∃ v, e = .returned (.tuple #[v, .int .i64 0]) ∧ w'.ownsRow w.heap.size 5 1 v q (u8s ((zs.drop 2).take q)) ∧ RfAt w' g h ((zs.drop 2).drop q) ∧ But (One g) w w' := by
  have hbs := r.bs
  obtain ⟨a, n, c, k, fs, r, h7⟩ := r
  have hT := refNumber_x w g h 2 a n c k fs zs r (by decide) (by decide) h7 hz
  have hv := (ocN_int hbs hz).1
  have hv2 := (ocN_int hbs hz).2
  rw [hq] at hv hv2
  have HV := hideIt hv
  obtain ⟨h1, h2, h3, h4, h6, h5⟩ := r
  obtain ⟨_, hc0, hc1, hf0, hf1⟩ := two_at h1
  have hzl : zs.length = n - k := by rw [h7, List.length_drop, h2.1]
  have e5 : ∃ off, a = some ⟨h, off, none⟩ := by
    rcases h5 with ⟨_, e, _⟩ | ⟨off, e, _⟩
    · omega
    · exact ⟨off, e⟩
  obtain ⟨off, rfl⟩ := e5
  obtain ⟨p, hp⟩ : ∃ p, k + 2 = p := ⟨_, rfl⟩
  rw [hp] at hT
  have HT := hideIt hT
  have H7 := hideIt (show zs.drop 2 = fs.drop p by rw [h7, List.drop_drop, hp])
  have k1 : (p : Int) + (q : Int) ≤ (n : Int) := by omega
  have k2 : (n : Int) ≤ 140737488355328 := by omega
  have k3 : (q : Int) < 65536 := by omega
  have k4 : (p : Int) + (q : Int) ≤ (c : Int) := by omega
  have k5 : decide ((n : Int) - (p : Int) < (q : Int)) = false := by rw [decide_eq_false_iff_not]; omega
  have k6 : (p : Int) ≤ (p : Int) + (q : Int) := by omega
  have k7 : IntKind.i64.wrap ((p : Int) + (q : Int)) = (p : Int) + (q : Int) := by simp [IntKind.wrap, IntKind.signed, IntKind.bits]; omega
  clear h1 h2 h4 h5 h6 h7 hl hz hzl hv hv2 hq hbs hT hp
  by_cases k8 : c = p
  · obtain rfl : q = 0 := by omega
    subst k8
    have k9 : IntKind.i64.wrap (c : Int) = (c : Int) := by simp [IntKind.wrap, IntKind.signed, IntKind.bits]; omega
    clear h3 k6 k7 k4
    go_enter Try.func59, Try.ntmps59
    go_wp2_with (go_at_call 71; refine HT.out.mono ?_; rintro e w1 ⟨rfl, hr, hb⟩; rw [HV.out]; have HR := hideIt hr; have HB := hideIt hb; clear hr hb hc0 hc1 hf0 hf1; obtain ⟨_, hc0, hc1, hf0, hf1⟩ := two_at HR.out.1)
    go_quiet (fail)
    go_wp2_with fail
    have HC := hideIt (fun j => rf_cut (HR.out.but (S := Non) (After.rfl.draws j) (fun t => t) (fun t => t)) (show c + 0 ≤ n by omega) (off) (0) (.inr ⟨rfl, rfl⟩))
    go_region_held3 (fun W => W.cell? ⟨g, 0, none⟩ = some (.slice (some ⟨h, off, none⟩) n c) ∧ W.cell? ⟨g, 1, none⟩ = some (.int .i64 (c : Int))) (first | go_keep | exact ⟨x0, x1⟩)
      (first | (go_at_call 15; refine (HC.out _).mono ?_; rintro e w3 ⟨v, rfl, o3, a3⟩; have HO3 := hideIt o3; have HA3 := hideIt ((After.rfl.draws (nq + 1)).trans a3); have x0 := (HA3.out.cell (g := g) (by assumption) 0).trans hc0; have x1 := (HA3.out.cell (g := g) (by assumption) 1).trans hc1; have x2 := two_at ((HR.out.but HA3.out (fun t => t) (fun t => t)).1); clear o3 a3))
    obtain ⟨_, _, _, y1, y2⟩ := x2
    obtain ⟨s1, s2⟩ := rf_store (HR.out.but HA3.out (fun t => t) (fun t => t)) (c + 0) (by omega) (c : Int) (by simp)
    have S1 := hideIt s1
    have S2 := hideIt ((HB.out.trans (HA3.out.but)).trans s2)
    have S3 := hideIt (own_but (own_base HO3.out (C := w.heap.size) (fun j hj => by have h1 := (HO3.out.lt j hj).1; have h2 := HB.out.size; have h3 : (w1.drewN (nq + 1)).heap.size = w1.heap.size := rfl; omega)) s2 (fun j hj t => by have h1 := (HO3.out.lt j hj).1; have h3 : (w1.drewN (nq + 1)).heap.size = w1.heap.size := rfl; have h4 : j = g := t; omega))
    clear s1 s2
    go_wp2
    go_ret2
    refine ⟨_, rfl, ?_, ⟨_, n, c, c + 0, fs, S1.out, ?_⟩, S2.out⟩
    · rw [H7.out]; exact S3.out
    · rw [H7.out, List.drop_drop]
  · have k9 : ((p : Int) + (q : Int)).toNat - p = q := by omega
    clear h3
    go_enter Try.func59, Try.ntmps59
    go_wp2_with (go_at_call 71; refine HT.out.mono ?_; rintro e w1 ⟨rfl, hr, hb⟩; rw [HV.out]; have HR := hideIt hr; have HB := hideIt hb; clear hr hb hc0 hc1 hf0 hf1; obtain ⟨_, hc0, hc1, hf0, hf1⟩ := two_at HR.out.1)
    go_quiet (fail)
    go_wp2_with fail
    have HC := hideIt (fun j => rf_cut (HR.out.but (S := Non) (After.rfl.draws j) (fun t => t) (fun t => t)) (show p + q ≤ n by omega) (off + p) (c - p) (.inl rfl))
    go_region_held3 (fun W => W.cell? ⟨g, 0, none⟩ = some (.slice (some ⟨h, off, none⟩) n c) ∧ W.cell? ⟨g, 1, none⟩ = some (.int .i64 (p : Int))) (first | go_keep | exact ⟨x0, x1⟩)
      (first | (go_at_call 15; refine (HC.out _).mono ?_; rintro e w3 ⟨v, rfl, o3, a3⟩; have HO3 := hideIt o3; have HA3 := hideIt ((After.rfl.draws (nq + 1)).trans a3); have x0 := (HA3.out.cell (g := g) (by assumption) 0).trans hc0; have x1 := (HA3.out.cell (g := g) (by assumption) 1).trans hc1; have x2 := two_at ((HR.out.but HA3.out (fun t => t) (fun t => t)).1); clear o3 a3))
    obtain ⟨_, _, _, y1, y2⟩ := x2
    obtain ⟨s1, s2⟩ := rf_store (HR.out.but HA3.out (fun t => t) (fun t => t)) (p + q) (by omega) ((p : Int) + (q : Int)) (by simp)
    have S1 := hideIt s1
    have S2 := hideIt ((HB.out.trans (HA3.out.but)).trans s2)
    have S3 := hideIt (own_but (own_base HO3.out (C := w.heap.size) (fun j hj => by have h1 := (HO3.out.lt j hj).1; have h2 := HB.out.size; have h3 : (w1.drewN (nq + 1)).heap.size = w1.heap.size := rfl; omega)) s2 (fun j hj t => by have h1 := (HO3.out.lt j hj).1; have h3 : (w1.drewN (nq + 1)).heap.size = w1.heap.size := rfl; have h4 : j = g := t; omega))
    clear s1 s2
    go_wp2
    go_ret2
    refine ⟨_, rfl, ?_, ⟨_, n, c, p + q, fs, S1.out, ?_⟩, S2.out⟩
    · rw [H7.out]; exact S3.out
    · rw [H7.out, List.drop_drop]
theorem refOctets_any (w : World) (g h : Nat) (zs : List Int) (r : RfAt w g h zs) :
    Calls Try.prog 59 #[Ptr g] w fun e w' => ∃ v, e = .returned (.tuple #[v, .int .i64 (ocErr zs)]) ∧ w'.ownsRow w.heap.size 5 1 v (ocVal zs).length (u8s (ocVal zs)) ∧ RfAt w' g h (ocRest zs) ∧ But (One g) w w' := by
  by_cases hy : 2 ≤ zs.length ∧ ocN zs ≤ zs.length - 2
  · obtain ⟨e1, e2, e3, e4⟩ := oc_yes hy.1 hy.2
    refine (refOctets_yes w g h _ zs r hy.1 rfl hy.2).mono ?_
    rintro e w' ⟨v, rfl, h1, h2, h3⟩
    rw [e4, e1, e2, e3]
    exact ⟨v, rfl, h1, h2, h3⟩
  · obtain ⟨e1, e2, e3⟩ := oc_no hy
    rw [e1, e2, e3]
    by_cases hz : 2 ≤ zs.length
    · refine (refOctets_long w g h _ zs r hz rfl (fun hl => hy ⟨hz, hl⟩)).mono ?_
      rintro e w' ⟨rfl, hr, hb⟩
      exact ⟨_, rfl, World.ownsRow_nil _ _ _ _, hr, hb⟩
    · refine (refOctets_short w g h zs r hz).mono ?_
      rintro e w' ⟨rfl, ha⟩
      exact ⟨_, rfl, World.ownsRow_nil _ _ _ _, r.after ha, ha.but⟩
end Go.Proofs.Ytigiakhdaaoljaa
