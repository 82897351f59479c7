/-
  Package block: settle.
-/
import Derived.Test.YtalffdiohjcajaaDbO
import Derived.Laws.CopyRow
namespace Go.Proofs.Ytalffdiohjcajaa
open Go.RowKit
set_option maxRecDepth 8000
/-- What the remainder by 189 comes to. -/
theorem rem189 (c : Int) : (0 ≤ c.tmod 189 ∧ c.tmod 189 = c % 189) ∨ (c.tmod 189 < 0 ∧ c.tmod 189 = c % 189 - 189) := by
  by_cases h0 : 0 ≤ c
  · left
    have : c.tmod 189 = c % 189 := Int.tmod_eq_emod_of_nonneg h0
    omega
  · have e := Int.tmod_eq_emod (a := c) (b := (189 : Int))
    by_cases hd : (189 : Int) ∣ c
    · left
      rw [if_pos (.inr hd)] at e
      omega
    · right
      rw [if_neg (by intro h; rcases h with h | h; exact h0 h; exact hd h)] at e
      have : ((189 : Int).natAbs : Int) = 189 := rfl
      omega
theorem quo3 {r : Int} (h : 0 ≤ r) (h2 : r < 189) (w : World) : (do eqGuard .quo 3 (.tmp 23) (.const (.int .i64 3)) (.int .i64 r) (.int .i64 3); binOp .quo 3 (.int .i64 r) (.int .i64 3) : Sem Value).run Try.prog w = .ok (.int .i64 (r / 3)) w := by
  have e : r.tdiv 3 = r / 3 := Int.tdiv_eq_ediv_of_nonneg h
  have e2 : IntKind.i64.wrap (r / 3) = r / 3 := by rw [IntKind.wrap_i64]; omega
  simp [go_sem, e, e2]
theorem add1 (r : Int) (kk : Nat) (h : r / 3 + 1 = (kk : Int)) (hk : kk ≤ 64) (w : World) : (do eqGuard .add 3 (.tmp 24) (.const (.int .i64 1)) (.int .i64 (r / 3)) (.int .i64 1); binOp .add 3 (.int .i64 (r / 3)) (.int .i64 1) : Sem Value).run Try.prog w = .ok (.int .i64 kk) w := by
  have e : IntKind.i64.wrap (r / 3 + 1) = (kk : Int) := by rw [h, IntKind.wrap_i64]; omega
  simp [go_sem, e]
theorem sliceAll (w : World) (g : Nat) : (Instr.sliceAt 66 (Ptr g) none none none).run Try.prog w = .ok (.slice (some ⟨g, 0, none⟩) 64 64) w := by
  simp [go_sem]
theorem sliceTo (w : World) (g : Nat) {kk : Nat} (h : kk ≤ 64) : (Instr.sliceAt 66 (Ptr g) none (some (.int .i64 kk)) none).run Try.prog w = .ok (.slice (some ⟨g, 0, none⟩) kk 64) w := by
  have h1 : (kk : Int) ≤ 64 := by omega
  simp [go_sem, h1]
theorem Try.infoU8 : (Try.prog.info? 5).map (·.size) = some 1 := by kernel_rfl
/-- The first bytes are written over. -/
theorem copySec {w : World} {g h : Nat} {a b : List Int} (ha : SecAt w g a) (hb : SecAt w h b) (hla : a.length = 64) (hlb : b.length = 64) {kk : Nat} (hk : kk ≤ 64) (ty : TypeId) :
    ∃ w', (Builtin.copy_ #[38, 38] ty #[.slice (some ⟨g, 0, none⟩) 64 64, .slice (some ⟨h, 0, none⟩) kk 64]).run Try.prog w = .ok (goInt (kk : Int)) w' ∧ SecAt w' g (b.take (kk : Int).toNat ++ a.drop (kk : Int).toNat) ∧ But (One g) w w' := by
  have hlk : (u8s (b.take kk)).length = kk := by rw [u8s_length, List.length_take]; omega
  have h1 := run_copy_row (P := Try.prog) w 38 38 ty 5 g 0 64 64 ⟨h, 0, none⟩ kk 64 (u8s a).toArray 66 (u8s (b.take kk)) Try.underlying38 Try.infoU8 ha (by rw [hlk]; exact (Nat.min_eq_left hk).symm) (fun j v hj => by
    rw [add_off, Nat.zero_add]
    refine blk_cell hb ?_
    have hj' : j < kk := by have := (List.getElem?_eq_some_iff.1 hj).1; omega
    unfold u8s at hj ⊢
    rw [List.map_take, List.getElem?_take_of_lt hj'] at hj
    rw [List.getElem?_toArray]
    exact hj) (by rw [hlk]; simp [u8s, hla]; exact hk) (u8s_one _)
  rw [hlk] at h1
  refine ⟨_, h1, ?_, but_row _ _ _⟩
  unfold SecAt
  rw [setRow_heap w g _ _ _ _ ha]
  congr 3
  rw [Int.toNat_natCast]
  simp [u8s, List.map_take, List.map_drop]
theorem pw_copy {o : Oper} {a : Act} {w w' : World} {K : Act → World → Prop} {Q : Exit → Act → World → Prop} {T T' : TypeId} {x y : Operand} {p q v : Value} (ho : o.op = .call { callee := .builtin .copy, args := #[x, y], argTypes := #[T, T'] }) (hx : a.eval x = p) (hy : a.eval y = q) (hr : (Builtin.copy_ #[T, T'] o.type #[p, q]).run Try.prog w = .ok v w') (h : K (a.put o.dst v) w') : Oper.wp Try.prog o a w K Q := by
  unfold Oper.wp
  simp [execOp, ho, resolve, invoke, builtin, hx, hy, hr, Oper.upon]
  exact h
theorem settle_any (w : World) (a b : List Int) (ha : Sec a) (hb : Sec b) (c : Int) : Calls Try.prog 38 #[secV a, secV b, .int .i64 c] w fun e w' => e = .returned (secV (settle a b c)) ∧ After w w' := by
  have hs := (settle_sec ha hb c).1
  have hR : ∀ r, c % 189 = r → settle a b c = if r % 3 = 0 then a else if r % 3 = 1 then b else b.take (r / 3 + 1).toNat ++ a.drop (r / 3 + 1).toNat := fun r h => by unfold settle; rw [h]
  have hT := rem189 c
  have hr0 : 0 ≤ c % 189 := by omega
  have hr1 : c % 189 < 189 := by omega
  generalize c % 189 = r at *
  replace hR := hR r rfl
  generalize settle a b c = R at *
  have hla := ha.1
  have hlb := hb.1
  have m3 : r.tmod 3 = r % 3 := Int.tmod_eq_emod_of_nonneg hr0
  have HS := hideIt (And.intro hs hR)
  clear ha hb hs hR
  go_enter Try.func38, Try.ntmps38
  go_upto_region 1 with (first
    | (show wpList _ _ _ (_ :: _) _ _; refine wl_bsec (.tmp 0) a rfl rfl rfl ?_; intro W1 k1 a1 s1; have K1 := hideIt (And.intro k1 (And.intro a1 s1)); clear k1 a1 s1)
    | (show wpList _ _ _ (_ :: _) _ _; refine wl_bsec (.tmp 1) b rfl rfl rfl ?_; intro W2 k2 a2 s2; have K2 := hideIt (And.intro k2 (And.intro a2 s2)); clear k2 a2 s2)
    | (show wpList _ _ _ (_ :: _) _ _; refine wl_asec rfl rfl ?_; intro W3 k3 a3 s3; have K3 := hideIt (And.intro k3 (And.intro a3 s3)); clear k3 a3 s3)
    | fail)
  have s1 := K1.out.2.2
  have s2 := K2.out.2.2
  have q1 : SecAt W3 w.heap.size a := (K1.out.1.after K2.out.2.1).after K3.out.2.1
  have q2 : SecAt W3 W1.heap.size b := K2.out.1.after K3.out.2.1
  have q3 : SecAt W3 W2.heap.size sec0 := K3.out.1
  have aw : After w W3 := K1.out.2.1.trans (K2.out.2.1.trans K3.out.2.1)
  generalize W1.heap.size = g1 at *
  generalize W2.heap.size = g2 at *
  generalize hg0 : w.heap.size = g0 at *
  have HK := hideIt (And.intro q1 (And.intro q2 (And.intro q3 (And.intro aw (And.intro hg0 (show g1 = g0 + 1 ∧ g2 = g0 + 1 + 1 from ⟨s1, by rw [s2, s1]⟩))))))
  clear K1 K2 K3 q1 q2 q3 aw s1 s2 hg0
  go_frame
  have w1 : IntKind.i64.wrap (c.tmod 189) = c.tmod 189 := by rw [IntKind.wrap_i64]; omega
  have hrr : ¬ r < 0 := by omega
  by_cases k0 : r % 3 = 0
  · have k1 : (r % 3 == 0) = true := by simpa using k0
    have hRa := HS.out.2
    rw [if_pos k0] at hRa
    subst hRa
    clear m3
    rcases hT with ⟨t0, t1⟩ | ⟨t0, t1⟩
    · go_wp2_with (first
        | (show wpList _ _ _ (_ :: _) _ _; refine wl_lsec _ rfl rfl rfl R HK.out.1.range HS.out.1 ?_)
        | (show wpList _ _ _ (_ :: _) _ _; refine wl_ssec _ _ rfl rfl rfl _ rfl HK.out.2.2.1 rfl HS.out.1 ?_; intro W4 k4 b4 s4; have K4 := hideIt (And.intro k4 (And.intro b4 s4)); clear k4 b4 s4)
        | fail)
      refine ret_sec Try.results38 rfl K4.out.1 HS.out.1 rfl ⟨rfl, ?_⟩
      exact (HK.out.2.2.2.1).then K4.out.2.1 (fun k hk e => by have e : k = g2 := e; have := HK.out.2.2.2.2; omega)
    · have t2 : c.tmod 189 + 189 = r := by omega
      have w3 : IntKind.i64.wrap r = r := by rw [IntKind.wrap_i64]; omega
      go_wp2_with (first
        | (show wpList _ _ _ (_ :: _) _ _; refine wl_lsec _ rfl rfl rfl R HK.out.1.range HS.out.1 ?_)
        | (show wpList _ _ _ (_ :: _) _ _; refine wl_ssec _ _ rfl rfl rfl _ rfl HK.out.2.2.1 rfl HS.out.1 ?_; intro W4 k4 b4 s4; have K4 := hideIt (And.intro k4 (And.intro b4 s4)); clear k4 b4 s4)
        | fail)
      refine ret_sec Try.results38 rfl K4.out.1 HS.out.1 rfl ⟨rfl, ?_⟩
      exact (HK.out.2.2.2.1).then K4.out.2.1 (fun k hk e => by have e : k = g2 := e; have := HK.out.2.2.2.2; omega)
  by_cases k1 : r % 3 = 1
  · have k2 : (r % 3 == 1) = true := by simpa using k1
    have k3 : (r % 3 == 0) = false := by simpa using k0
    have hRa := HS.out.2
    rw [if_neg k0, if_pos k1] at hRa
    subst hRa
    clear m3
    rcases hT with ⟨t0, t1⟩ | ⟨t0, t1⟩
    · go_wp2_with (first
        | (show wpList _ _ _ (_ :: _) _ _; refine wl_lsec _ rfl rfl rfl R HK.out.2.1.range HS.out.1 ?_)
        | (show wpList _ _ _ (_ :: _) _ _; refine wl_ssec _ _ rfl rfl rfl _ rfl HK.out.2.2.1 rfl HS.out.1 ?_; intro W4 k4 b4 s4; have K4 := hideIt (And.intro k4 (And.intro b4 s4)); clear k4 b4 s4)
        | fail)
      refine ret_sec Try.results38 rfl K4.out.1 HS.out.1 rfl ⟨rfl, ?_⟩
      exact (HK.out.2.2.2.1).then K4.out.2.1 (fun k hk e => by have e : k = g2 := e; have := HK.out.2.2.2.2; omega)
    · have t2 : c.tmod 189 + 189 = r := by omega
      have w3 : IntKind.i64.wrap r = r := by rw [IntKind.wrap_i64]; omega
      go_wp2_with (first
        | (show wpList _ _ _ (_ :: _) _ _; refine wl_lsec _ rfl rfl rfl R HK.out.2.1.range HS.out.1 ?_)
        | (show wpList _ _ _ (_ :: _) _ _; refine wl_ssec _ _ rfl rfl rfl _ rfl HK.out.2.2.1 rfl HS.out.1 ?_; intro W4 k4 b4 s4; have K4 := hideIt (And.intro k4 (And.intro b4 s4)); clear k4 b4 s4)
        | fail)
      refine ret_sec Try.results38 rfl K4.out.1 HS.out.1 rfl ⟨rfl, ?_⟩
      exact (HK.out.2.2.2.1).then K4.out.2.1 (fun k hk e => by have e : k = g2 := e; have := HK.out.2.2.2.2; omega)
  have k2 : (r % 3 == 1) = false := by simpa using k1
  have k3 : (r % 3 == 0) = false := by simpa using k0
  have hRa := HS.out.2
  rw [if_neg k0, if_neg k1] at hRa
  have HRa := hideIt hRa
  clear m3 hRa
  obtain ⟨kk, hkk⟩ : ∃ kk : Nat, r / 3 + 1 = (kk : Int) := ⟨(r / 3 + 1).toNat, by omega⟩
  have HN := hideIt (And.intro hkk (And.intro (show 1 ≤ kk ∧ kk ≤ 64 by omega) (And.intro (quo3 hr0 hr1) (add1 r kk hkk (by omega)))))
  clear hkk
  rcases hT with ⟨t0, t1⟩ | ⟨t0, t1⟩
  · go_upto_region 9 with fail
    have hkk : r / 3 + 1 = ((kk : Nat) : Int) := HN.out.1
    refine region_phase (by kernel_rfl) (fun k' => ([.slice (some ⟨g0, 0, none⟩) 64 64, .int .i64 r, .int .i64 (r / 3), .int .i64 kk, .slice (some ⟨g1, 0, none⟩) kk 64]).getD k' undef) 22 5 (fun _ V => After W3 V) _ rfl rfl (Nat.le_of_ble_eq_true rfl) (But.drew After.rfl) ?_ rfl rfl 12 rfl ?_
    · exact ⟨ph_slice (l := none) (h := none) rfl rfl rfl rfl rfl rfl rfl (fun V => sliceAll V _) (fun _ _ h => h),
        ph_move rfl rfl rfl rfl rfl (fun _ _ h => h),
        ph_bin rfl rfl rfl rfl rfl rfl (fun V => HN.out.2.2.1 V) (fun _ _ h => h),
        ph_bin rfl rfl rfl rfl rfl rfl (fun V => HN.out.2.2.2 V) (fun _ _ h => h),
        ph_slice (l := none) (h := some (.int .i64 kk)) rfl rfl rfl rfl rfl rfl rfl (fun V => sliceTo V _ HN.out.2.1.2) (fun _ _ h => h),
        trivial⟩
    intro w4 Ls hL h K' hK'
    simp only [puts, List.getD_cons_succ, List.getD_cons_zero, List.setIfInBounds_toArray, List.set_cons_succ, List.set_cons_zero, Nat.reduceAdd]
    obtain ⟨w5, hrun, k5, b5⟩ := copySec (HK.out.1.after h) (HK.out.2.1.after h) hla hlb HN.out.2.1.2 3
    refine pw_copy rfl rfl rfl hrun (hK' _ _ ?_)
    have HX := hideIt (And.intro (show SecAt w5 g0 R by rw [HRa.out, hkk]; exact k5) (And.intro ((HK.out.2.2.1.after h).but b5 (fun e => by have e : g2 = g0 := e; have := HK.out.2.2.2.2.2; omega)) ((HK.out.2.2.2.1.trans h).then b5 (fun k hk e => by have e : k = g0 := e; have := HK.out.2.2.2.2.1; omega))))
    clear hL hK' h hrun k5 b5
    go_frame
    go_wp2_with (first
      | (show wpList _ _ _ (_ :: _) _ _; refine wl_lsec _ rfl rfl rfl R HX.out.1.range HS.out.1 ?_)
      | (show wpList _ _ _ (_ :: _) _ _; refine wl_ssec _ _ rfl rfl rfl _ rfl HX.out.2.1 rfl HS.out.1 ?_; intro W4 k4 b4 s4; have K4 := hideIt (And.intro k4 (And.intro b4 s4)); clear k4 b4 s4)
      | fail)
    refine ret_sec Try.results38 rfl K4.out.1 HS.out.1 rfl ⟨rfl, ?_⟩
    exact HX.out.2.2.then K4.out.2.1 (fun k hk e => by have e : k = g2 := e; have := HK.out.2.2.2.2; omega)
  · have t2 : c.tmod 189 + 189 = r := by omega
    have w3 : IntKind.i64.wrap r = r := by rw [IntKind.wrap_i64]; omega
    go_upto_region 9 with fail
    have hkk : r / 3 + 1 = ((kk : Nat) : Int) := HN.out.1
    refine region_phase (by kernel_rfl) (fun k' => ([.slice (some ⟨g0, 0, none⟩) 64 64, .int .i64 r, .int .i64 (r / 3), .int .i64 kk, .slice (some ⟨g1, 0, none⟩) kk 64]).getD k' undef) 22 5 (fun _ V => After W3 V) _ rfl rfl (Nat.le_of_ble_eq_true rfl) (But.drew After.rfl) ?_ rfl rfl 12 rfl ?_
    · exact ⟨ph_slice (l := none) (h := none) rfl rfl rfl rfl rfl rfl rfl (fun V => sliceAll V _) (fun _ _ h => h),
        ph_move rfl rfl rfl rfl rfl (fun _ _ h => h),
        ph_bin rfl rfl rfl rfl rfl rfl (fun V => HN.out.2.2.1 V) (fun _ _ h => h),
        ph_bin rfl rfl rfl rfl rfl rfl (fun V => HN.out.2.2.2 V) (fun _ _ h => h),
        ph_slice (l := none) (h := some (.int .i64 kk)) rfl rfl rfl rfl rfl rfl rfl (fun V => sliceTo V _ HN.out.2.1.2) (fun _ _ h => h),
        trivial⟩
    intro w4 Ls hL h K' hK'
    simp only [puts, List.getD_cons_succ, List.getD_cons_zero, List.setIfInBounds_toArray, List.set_cons_succ, List.set_cons_zero, Nat.reduceAdd]
    obtain ⟨w5, hrun, k5, b5⟩ := copySec (HK.out.1.after h) (HK.out.2.1.after h) hla hlb HN.out.2.1.2 3
    refine pw_copy rfl rfl rfl hrun (hK' _ _ ?_)
    have HX := hideIt (And.intro (show SecAt w5 g0 R by rw [HRa.out, hkk]; exact k5) (And.intro ((HK.out.2.2.1.after h).but b5 (fun e => by have e : g2 = g0 := e; have := HK.out.2.2.2.2.2; omega)) ((HK.out.2.2.2.1.trans h).then b5 (fun k hk e => by have e : k = g0 := e; have := HK.out.2.2.2.2.1; omega))))
    clear hL hK' h hrun k5 b5
    go_frame
    go_wp2_with (first
      | (show wpList _ _ _ (_ :: _) _ _; refine wl_lsec _ rfl rfl rfl R HX.out.1.range HS.out.1 ?_)
      | (show wpList _ _ _ (_ :: _) _ _; refine wl_ssec _ _ rfl rfl rfl _ rfl HX.out.2.1 rfl HS.out.1 ?_; intro W4 k4 b4 s4; have K4 := hideIt (And.intro k4 (And.intro b4 s4)); clear k4 b4 s4)
      | fail)
    refine ret_sec Try.results38 rfl K4.out.1 HS.out.1 rfl ⟨rfl, ?_⟩
    exact HX.out.2.2.then K4.out.2.1 (fun k hk e => by have e : k = g2 := e; have := HK.out.2.2.2.2; omega)
end Go.Proofs.Ytalffdiohjcajaa
