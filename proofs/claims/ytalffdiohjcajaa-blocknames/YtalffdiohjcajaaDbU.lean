/-
  The document's Boot.
-/
import Derived.Test.YtalffdiohjcajaaDbT
namespace Go.Proofs.Ytalffdiohjcajaa.Iv
open Go.RowKit
set_option maxRecDepth 8000
theorem settle_at {a b : List Int} (_ha : a.length = 64) (hb : b.length = 64) (z : Int) {i : Nat} (hi : i < 64) : (settle a b z).getD i 0 = if z % 189 % 3 = 1 ∨ (z % 189 % 3 = 2 ∧ (i : Int) < z % 189 / 3 + 1) then b.getD i 0 else a.getD i 0 := by
  unfold settle
  by_cases h0 : z % 189 % 3 = 0
  · rw [if_pos h0, if_neg (by omega)]
  · rw [if_neg h0]
    by_cases h1 : z % 189 % 3 = 1
    · rw [if_pos h1, if_pos (.inl h1)]
    · rw [if_neg h1]
      by_cases h2 : (i : Int) < z % 189 / 3 + 1
      · rw [if_pos (.inr ⟨by omega, h2⟩), List.getD_eq_getElem?_getD, List.getElem?_append_left (by rw [List.length_take]; omega), List.getElem?_take_of_lt (by omega), List.getD_eq_getElem?_getD]
      · rw [if_neg (by omega), List.getD_eq_getElem?_getD, List.getElem?_append_right (by rw [List.length_take]; omega), List.length_take, List.getElem?_drop, List.getD_eq_getElem?_getD]
        congr 2
        omega
/-- Bytes in a block of one's own. -/
def BAt (w : World) (b : Nat) (f : Nat → Int) : Prop := ∃ (cs : Array Value) (T : TypeId), w.heap[b]? = some (.cells cs T (0, 0)) ∧ 64 ≤ cs.size ∧ ∀ i, i < 64 → cs[i]? = some (.int .u8 (f i))
theorem bat_own {w : World} {B b c : Nat} {zs : List Int} (h : w.ownsRow B 5 1 (.slice (some ⟨b, 0, none⟩) 64 c) 64 (u8s zs)) (hz : zs.length = 64) : BAt w b (fun i => zs.getD i 0) := by
  rcases h.2 with ⟨e, _⟩ | ⟨g, cap, cur, e, h2, h3, h4, h5⟩
  · cases e
  · cases e
    have hc : ∀ i, i < 64 → cur[i]? = some (.int .u8 (zs.getD i 0)) := fun i hi => by
      have h6 := h.cellAt i (by omega)
      have h7 : w.cell? ⟨b, i, none⟩ = cur[i]? := by simp [World.cell?, h3]
      rw [h7] at h6
      rw [h6]
      have hi' : i < zs.length := by omega
      simp [u8s, hi']
    refine ⟨cur, _, h3, ?_, hc⟩
    have := (Array.getElem?_eq_some_iff.1 (hc 63 (by omega))).1
    omega
theorem BAt.after {w w' : World} {b : Nat} {f : Nat → Int} (h : BAt w b f) (a : After w w') : BAt w' b f := by
  obtain ⟨cs, T, h, r⟩ := h
  exact ⟨cs, T, After.at a h, r⟩
theorem BAt.cell {w : World} {b : Nat} {f : Nat → Int} (h : BAt w b f) {i : Nat} (hi : i < 64) : w.cell? ⟨b, i, none⟩ = some (.int .u8 (f i)) ∧ w.frozen? ⟨b, i, none⟩ = false := by
  obtain ⟨cs, T, h, _, h2⟩ := h
  exact ⟨blk_cell h (h2 i hi), blk_soft h i⟩
theorem BAt.put {w : World} {b : Nat} {f : Nat → Int} (h : BAt w b f) {i : Nat} (hi : i < 64) (v : Int) : BAt (w.setCell ⟨b, i, none⟩ (.int .u8 v)) b (fun k => if k = i then v else f k) := by
  obtain ⟨cs, T, h, h1, h2⟩ := h
  refine ⟨_, T, blk_put h i _, by simp [h1], fun k hk => ?_⟩
  show _ = some (Value.int .u8 (if k = i then v else f k))
  by_cases e : k = i
  · subst e
    rw [if_pos rfl, set_at (by omega)]
  · rw [if_neg e, set_off (fun h => e h.symm)]
    exact h2 k hk
theorem BAt.lt {w : World} {b : Nat} {f : Nat → Int} (h : BAt w b f) : b < w.heap.size := by
  obtain ⟨cs, T, h, _⟩ := h
  exact blk_lt h
theorem BAt.row {w : World} {b : Nat} {f : Nat → Int} (h : BAt w b f) {zs : List Int} (hz : Sec zs) (e : ∀ i, i < 64 → f i = zs.getD i 0) : Row w (some ⟨b, 0, none⟩) 64 zs :=
  ⟨hz.1, hz.2, fun i hi => ⟨b, 0, rfl, h.lt, by rw [Nat.zero_add, (h.cell hi).1, e i hi]⟩⟩
theorem stepF {α : Type} (f g : Nat → α) (j : Nat) : (fun k => if k = j then f j else if k < j then f k else g k) = fun k => if k < j + 1 then f k else g k := by
  funext k
  by_cases e : k = j
  · subst e
    rw [if_pos rfl, if_pos (by omega)]
  · rw [if_neg e]
    by_cases e2 : k < j
    · rw [if_pos e2, if_pos (by omega)]
    · rw [if_neg e2, if_neg (by omega)]
theorem BAt.step {w : World} {b : Nat} {R a : Nat → Int} {k : Nat} (h : BAt w b (fun i => if i < k then R i else a i)) (hk : k < 64) {v : Int} (hv : R k = v) : BAt (w.setCell ⟨b, k, none⟩ (.int .u8 v)) b (fun i => if i < k + 1 then R i else a i) := by
  subst hv
  rw [← stepF R a k]
  exact h.put hk (R k)
def bootKF (x : Dv) (ch : List Int) (j k : Nat) : List Int := if k < j then bootK x ch k else x.kp k
def bootLF (x : Dv) (ch : List Int) (j k : Nat) : List Int := if k < j then bootK x ch k else x.last k
theorem sameF {α : Type} (f g : Nat → α) (j : Nat) (h : f j = g j) : (fun k => if k < j then f k else g k) = fun k => if k < j + 1 then f k else g k := by
  funext k
  by_cases e : k = j
  · subst e
    rw [if_neg (by omega), if_pos (by omega), h]
  · by_cases e2 : k < j
    · rw [if_pos e2, if_pos (by omega)]
    · rw [if_neg e2, if_neg (by omega)]
set_option maxHeartbeats 2000000 in
theorem rvBoot {S : Nat → Prop} {w : World} {p : Pl} {x : Dv} (h : RvX w S p x) (a3 : Option Addr) (n3 c3 : Nat) (ch : List Int) (hc : IRow w a3 n3 ch) (hn3 : n3 ≤ 17592186044416) (hcb : ∀ z ∈ ch, -9223372036854775808 ≤ z ∧ z ≤ 9223372036854775807) (hcs : ∀ y, a3 = some y → 0 < n3 → ¬ p.In y.block) : Calls Try.prog 30 #[Ptr p.e, .slice a3 n3 c3] w fun e w' => e = .returned (.int .i64 0) ∧ RvX w' S p (x.boot ch) ∧ But p.In w w' := by
  have HO := hideIt h.ok
  have HX := hideIt (mid h)
  have HC := hideIt (And.intro hc (And.intro hcb hcs))
  have hn3' : (n3 : Int) ≤ 17592186044416 := by omega
  have hn1 : (x.n : Int) ≤ 256 := by have := h.ok.n1; omega
  clear h hc hcb hcs
  go_enter Try.func30, Try.ntmps30
  go_wp2_with fail
  go_loopw [5, 6] (fun av iv wr => ∃ j : Nat, j ≤ x.n ∧ iv = .int .i64 j ∧ av = .int .i64 (cntW x.wr j : Nat) ∧ RvM wr S p x.n (bootKF x ch j) (bootLF x ch j) (touchF x j) x.dead x.left ∧ But p.In w wr) (fun _ iv _ => x.n - (intOf iv).toNat)
  case atStart => exact ⟨0, Nat.zero_le _, rfl, rfl, HX.out, But.rfl⟩
  case round =>
    obtain ⟨j, hj, rfl, rfl, hm, hb⟩ := hrel
    have c0 := hm.c.1
    have c1 := hm.c.2.1
    have c2 := hm.c.2.2.1
    have HM := hideIt (And.intro hm hb)
    by_cases hjn : j < x.n
    · have i1 : (j : Int) < (x.n : Int) := by omega
      have i0 : (0 : Int) ≤ (j : Int) := by omega
      have ct := hm.rt.cell hjn
      have hcl := cnt_le x.wr j
      cases hw : x.wr j with
      | none =>
        have et : touchF x j j = false := by unfold touchF; rw [if_neg (by omega), hw]; rfl
        rw [et] at ct
        clear hm hb et
        have HW := hideIt hw
        clear hw
        go_wp2_with fail
        refine ⟨⟨j + 1, by omega, by simp, by rw [cnt_none HW.out], ?_, HM.out.2⟩, by simp [intOf]; omega⟩
        have e1 : bootKF x ch j = bootKF x ch (j + 1) := sameF _ _ j (boot_none HW.out)
        have e2 : bootLF x ch j = bootLF x ch (j + 1) := sameF (bootK x ch) x.last j ((boot_none HW.out).trans (last_none HW.out).symm)
        have e3 : touchF x j = touchF x (j + 1) := sameF (fun _ => false) (fun k => (x.wr k).isSome) j (by rw [HW.out]; rfl)
        rw [← e1, ← e2, ← e3]
        exact HM.out.1
      | some b =>
        have et : touchF x j j = true := by unfold touchF; rw [if_neg (by omega), hw]; rfl
        rw [et] at ct
        obtain ⟨bk, ck, ccK, rowK, nK⟩ := hm.rk.cell hjn
        obtain ⟨bl, cl, ccL, rowL, nL⟩ := hm.rl.cell hjn
        have hkj : bootKF x ch j j = x.kp j := if_neg (by omega)
        have hlj : bootLF x ch j j = b := (if_neg (by omega)).trans (last_some hw)
        rw [hkj] at rowK
        rw [hlj] at rowL
        have hbs := (HO.out.w j b hw).2
        have hks := HO.out.k j
        obtain ⟨z, hz⟩ : ∃ z, ch.getD (cntW x.wr j) 0 = z := ⟨_, rfl⟩
        have hRz : bootK x ch j = settle (x.kp j) b z := by rw [boot_some hw, hz]
        have hRs : Sec (bootK x ch j) := by rw [hRz]; exact settle_sec hks hbs z
        have HW := hideIt (And.intro hw (And.intro rowK (And.intro rowL (And.intro hks (And.intro hbs (And.intro hRz hRs))))))
        have hkl : p.k < wr.heap.size := hm.rk.lt
        have hll : p.l < wr.heap.size := hm.rl.lt
        clear hm hb et hkj hlj rowK rowL hw hRz hks hbs hRs
        have hor : ∃ r : Int, z % 189 = r ∧ 0 ≤ r ∧ r < 189 := ⟨z % 189, rfl, by omega, by omega⟩
        obtain ⟨r, hr, hr0, hr1⟩ := hor
        have hst := fun i (hi : i < 64) => settle_at HW.out.2.2.2.1.1 HW.out.2.2.2.2.1.1 z hi
        rw [hr, ← HW.out.2.2.2.2.2.1] at hst
        have v1 : IntKind.i64.wrap (r / 3) = r / 3 := by rw [IntKind.wrap_i64]; omega
        have v2 : IntKind.i64.wrap (r / 3 + 1) = r / 3 + 1 := by rw [IntKind.wrap_i64]; omega
        by_cases hat : cntW x.wr j < n3
        · have HR := hideIt hst
          obtain ⟨bb, off, rfl, hlt, cz⟩ := HC.out.1.2 (cntW x.wr j) hat
          have hzm : z ∈ ch := by
            have h1 : cntW x.wr j < ch.length := by rw [HC.out.1.1]; exact hat
            rw [← hz]
            simp [h1]
          rw [hz] at cz
          have cz := (HM.out.2.cell hlt (HC.out.2.2 _ rfl (by omega)) _).trans cz
          have hbr : ((broughtTo z 189 : Nat) : Int) = r := by unfold broughtTo; rw [← hr]; omega
          have hB := fun V => bring_any z 189 V (HC.out.2.1 z hzm).1 (HC.out.2.1 z hzm).2 (by decide) (by decide)
          rw [hbr] at hB
          have HB := hideIt hB
          have i4 : ((cntW x.wr j : Nat) : Int) < (n3 : Int) := by omega
          clear hst hB hbr hzm hz hr
          go_upto_region 10 with (go_at_call 22; refine (HB.out _).mono ?_; rintro e w4 ⟨rfl, hw4⟩; obtain rfl := hw4.symm)
          clear cz HB i4
          have HCp := hideIt (copy64 wr ⟨bk, 0, none⟩ ck (x.kp j) HW.out.2.1)
          go_wp2_with (go_at_call 40; refine HCp.out.mono ?_; rintro e w5 ⟨b8, c8, rfl, _, h2, h3, _, h5⟩; have X5 := hideIt (And.intro (bat_own h2 HW.out.2.2.2.1.1) (And.intro h3 h5)); clear h2 h3 h5)
          clear c0 c1 c2 ct ccK
          go_loopw [9] (fun kv wq => ∃ k : Nat, k ≤ 64 ∧ kv = .int .i64 k ∧ After wr wq ∧ BAt wq b8 (fun i => if i < k then (bootK x ch j).getD i 0 else (x.kp j).getD i 0)) (fun kv _ => 64 - (intOf kv).toNat)
          case atStart => exact ⟨0, Nat.zero_le _, rfl, X5.out.2.2, X5.out.1⟩
          case round =>
            obtain ⟨k, hk, rfl, aq, bq⟩ := hrel
            have hmq := HM.out.1.after aq
            have q1 := hmq.c.2.1
            have q0 := hmq.c.1
            have lc := (aq.cell hll _).trans ccL
            by_cases hk64 : k < 64
            · have k1 : (k : Int) < 64 := by omega
              have k0 : (0 : Int) ≤ (k : Int) := by omega
              obtain ⟨b', o', xb, ex, _, _, hxb, cxb⟩ := (HW.out.2.2.1.after aq).at hk64
              have d8 := (bq.cell hk64).1
              have f8 := (bq.cell hk64).2
              have hrk := HR.out k hk64
              have AQ := hideIt (And.intro aq (And.intro bq hmq))
              have EX := hideIt (And.intro hxb hxb)
              clear aq bq hmq hxb
              cases ex
              rw [Nat.zero_add] at cxb
              have ex : True := trivial
              by_cases hA : r % 3 = 1
              · have m1 : (r % 3 == 1) = true := by simpa using hA
                rw [if_pos (.inl hA)] at hrk
                have hrk := hrk
                clear hA
                clear ex
                go_wp2_with fail
                refine ⟨⟨k + 1, by omega, by simp, AQ.out.1.set ⟨b8, k, none⟩ X5.out.2.1 _, ?_⟩, by simp [intOf]; omega⟩
                exact BAt.step (R := fun i => (bootK x ch j).getD i 0) (a := fun i => (x.kp j).getD i 0) AQ.out.2.1 hk64 (hrk.trans EX.out.1)
              have m1 : (r % 3 == 1) = false := by simpa using hA
              by_cases hB : r % 3 = 2
              · have m2 : (r % 3 == 2) = true := by simpa using hB
                by_cases hk3 : (k : Int) < r / 3 + 1
                · have m3 : decide ((k : Int) < r / 3 + 1) = true := decide_eq_true hk3
                  rw [if_pos (.inr ⟨hB, hk3⟩)] at hrk
                  clear hB
                  clear ex
                  go_wp2_with fail
                  refine ⟨⟨k + 1, by omega, by simp, AQ.out.1.set ⟨b8, k, none⟩ X5.out.2.1 _, ?_⟩, by simp [intOf]; omega⟩
                  exact BAt.step (R := fun i => (bootK x ch j).getD i 0) (a := fun i => (x.kp j).getD i 0) AQ.out.2.1 hk64 (hrk.trans EX.out.1)
                · have m3 : decide ((k : Int) < r / 3 + 1) = false := decide_eq_false hk3
                  rw [if_neg (by omega)] at hrk
                  clear hB
                  clear ex
                  go_wp2_with fail
                  refine ⟨⟨k + 1, by omega, by simp, AQ.out.1, ?_⟩, by simp [intOf]; omega⟩
                  have e9 := AQ.out.2.1
                  rw [sameF (fun i => (bootK x ch j).getD i 0) (fun i => (x.kp j).getD i 0) k hrk] at e9
                  exact e9
              · have m2 : (r % 3 == 2) = false := by simpa using hB
                rw [if_neg (by omega)] at hrk
                clear hB
                clear ex
                go_wp2_with fail
                refine ⟨⟨k + 1, by omega, by simp, AQ.out.1, ?_⟩, by simp [intOf]; omega⟩
                have e9 := AQ.out.2.1
                rw [sameF (fun i => (bootK x ch j).getD i 0) (fun i => (x.kp j).getD i 0) k hrk] at e9
                exact e9
            · obtain rfl : k = 64 := by omega
              have row8 : Row wr (some ⟨b8, 0, none⟩) 64 (bootK x ch j) := bq.row HW.out.2.2.2.2.2.2 (fun i hi => if_pos hi)
              have nb8 : ¬ S b8 := fun t => by have := HM.out.1.bd b8 t; have := X5.out.2.1; omega
              obtain ⟨b3, c3', cc3, _, _⟩ := hmq.rk.cell hjn
              have fk := hmq.rk.soft j
              have hp6 := hmq.putK (c := c8) hjn row8 nb8
              have hr6 := row8.but (but_one wr p.k j (.slice (some ⟨b8, 0, none⟩) 64 c8)) (fun y hy t => by cases hy; have t : b8 = p.k := t; exact nb8 (by rw [t]; exact HM.out.1.inS _ (.inr (.inl rfl))))
              have hb6 : But p.In w (wr.setCell ⟨p.k, j, none⟩ (.slice (some ⟨b8, 0, none⟩) 64 c8)) := (HM.out.2.trans aq.but).trans ((but_one _ _ _ _).mono (fun _ _ e => .inr (.inl e)))
              have H6 := hideIt (And.intro hp6 (And.intro hr6 hb6))
              clear row8 hp6 hr6 hb6 hmq aq bq q1 lc hk64
              go_upto_region 17 with fail
              generalize wr.setCell ⟨p.k, j, none⟩ (.slice (some ⟨b8, 0, none⟩) 64 c8) = W6 at *
              refine region_inv (by kernel_rfl) (Tab.J (⟨9, fun k' => [85, 86, 87, 88, 89, 90, 91, 92, 900].getD k' 0, fun k' => ([some (Ptr p.e), some (Ptr p.e), some (.pointer (some ⟨p.e, 1, none⟩)), some (.slice (some ⟨p.l, 0, none⟩) x.n p.cl), some (.int .i64 j), some (.slice (some ⟨b8, 0, none⟩) 64 c8), none, some (.pointer (some ⟨p.l, j, none⟩)), none] : List (Option Value)).getD k' none, Ca1 6 8 (After W6) (Cpy W6 (bootK x ch j)) (fun V => RvM V S p x.n (fun k => if k = j then bootK x ch j else bootKF x ch j k) (fun k => if k = j then bootK x ch j else bootLF x ch j k) (touchF x j) x.dead x.left ∧ But (One p.l) W6 V)⟩ : Tab) _) ⟨rfl, rfl, fun _ _ => rfl, (fun _ _ _ _ h => by cases h), Ca1.start (But.drew But.rfl)⟩ ?_ ?_
              · exact ⟨inv_move (.inl rfl) rfl rfl rfl rfl rfl rfl rfl rfl (Ca1.keep (neB rfl) (neB rfl) (neB rfl)) rfl,
                  inv_nil rfl rfl rfl rfl rfl rfl rfl rfl rfl (Ca1.keep (neB rfl) (neB rfl) (neB rfl)) rfl,
                  inv_field rfl rfl rfl rfl rfl rfl rfl rfl rfl (Ca1.keep (neB rfl) (neB rfl) (neB rfl)) rfl (fun w => fieldRv1 w _),
                  inv_load rfl rfl rfl rfl rfl rfl rfl rfl rfl (Ca1.keep (neB rfl) (neB rfl) (neB rfl)) rfl (fun L u V h => loadSs (h.any (fun a => (H6.out.1.after a).c.2.1) (fun v a => (H6.out.1.after a.1).c.2.1) (fun a => a.1.c.2.1))),
                  inv_move (.inl rfl) rfl rfl rfl rfl rfl rfl rfl rfl (Ca1.keep (neB rfl) (neB rfl) (neB rfl)) rfl,
                  inv_move (.inl rfl) rfl rfl rfl rfl rfl rfl rfl rfl (Ca1.keep (neB rfl) (neB rfl) (neB rfl)) rfl,
                  inv_call rfl rfl rfl rfl rfl rfl rfl rfl (enterC Try.func40 (by kernel_rfl) (by kernel_rfl)) (fun a V L hv hd hl h => by
                    rw [show (#[Operand.tmp 90] : Array Operand).map a.eval = #[a.eval (.tmp 90)] from by simp, hv (.tmp 90) _ rfl]
                    have n0 := h.p0 hl
                    refine (copy64 V _ c8 _ (H6.out.2.1.after n0)).mono ?_
                    rintro e V' ⟨b', c', rfl, h1, _, h3, _, h5⟩
                    exact ⟨_, rfl, (fun v7 h7 => by cases h7), Ca1.call (neB rfl) h hl ⟨n0.trans h5, b', c', rfl, h1, Nat.le_trans n0.size h3⟩⟩),
                  inv_index rfl rfl rfl rfl rfl rfl rfl rfl rfl (Ca1.keep (neB rfl) (neB rfl) (neB rfl)) rfl rfl (fun V => indexSs V _ hjn),
                  inv_end rfl rfl rfl rfl rfl rfl (fun L a V hv hd hl h => by
                    obtain ⟨a5, b', c', eb, h1, h3⟩ := h.p1 (hd 6 rfl) hl
                    rw [hv (.tmp 92) _ rfl]
                    have hm5 := H6.out.1.after a5
                    obtain ⟨bo, co, cc, _, _⟩ := hm5.rl.cell hjn
                    have hnb : ¬ S b' := fun t => by have := H6.out.1.bd b' t; omega
                    have hr := storeS1 cc (hm5.rl.soft j) b' c' eb
                    have hp := hm5.putL (c := c') hjn h1 hnb
                    rw [← eb] at hp
                    exact ⟨_, hr, Ca1.store (neB rfl) h (hd 6 rfl) ⟨hp, (a5.but).trans (but_one _ _ _ _)⟩⟩),
                  trivial⟩
              · intro a7 w7 L7 hL7 J7
                have e7 := J7.fin hL7 rfl
                have W7 := J7.other
                have h7 := W7.p4 (hL7 8 (Nat.le_of_ble_eq_true rfl))
                clear J7 W7
                rw [e7]
                clear e7
                generalize hv7 : Tab.u _ a7 = U7 at *
                simp only [Tab.puts, List.getD_cons_succ, List.getD_cons_zero, Option.getD_some, Option.getD_none, List.setIfInBounds_toArray, List.set_cons_succ, List.set_cons_zero, List.set_nil]
                clear hv7 hL7
                have t2 := h7.1.c.2.2.1
                have tt := h7.1.rt.cell hjn
                have tf := h7.1.rt.soft j
                have hp := h7.1.putT hjn false
                have HP := hideIt (And.intro hp h7.2)
                clear h7 hp q0 cc3 fk
                go_wp2_with fail
                refine ⟨⟨j + 1, by omega, by simp, by rw [cnt_some HW.out.1]; simp, ?_, ?_⟩, by simp [intOf]; omega⟩
                · have g1 : (fun k => if k = j then bootK x ch j else bootKF x ch j k) = bootKF x ch (j + 1) := stepF (bootK x ch) x.kp j
                  have g2 : (fun k => if k = j then bootK x ch j else bootLF x ch j k) = bootLF x ch (j + 1) := stepF (bootK x ch) x.last j
                  have g3 : (fun k => if k = j then false else touchF x j k) = touchF x (j + 1) := stepF (fun _ => false) (fun k => (x.wr k).isSome) j
                  rw [← g1, ← g2, ← g3]
                  exact HP.out.1
                · exact (H6.out.2.2.trans (HP.out.2.mono (fun _ _ e => .inr (.inr (.inl e))))).trans ((but_one _ _ _ _).mono (fun _ _ e => .inr (.inr (.inr e))))
        · have hz0 : z = 0 := by
            rw [← hz, List.getD_eq_getElem?_getD, List.getElem?_eq_none (by rw [HC.out.1.1]; omega)]
            rfl
          have hr00 : r = 0 := by rw [← hr, hz0]; rfl
          have i5 : ¬ ((cntW x.wr j : Nat) : Int) < (n3 : Int) := by omega
          rw [hr00] at hst
          have HR := hideIt hst
          clear hz hr v1 v2 hst
          go_upto_region 10 with fail
          have HCp := hideIt (copy64 wr ⟨bk, 0, none⟩ ck (x.kp j) HW.out.2.1)
          go_wp2_with (go_at_call 40; refine HCp.out.mono ?_; rintro e w5 ⟨b8, c8, rfl, _, h2, h3, _, h5⟩; have X5 := hideIt (And.intro (bat_own h2 HW.out.2.2.2.1.1) (And.intro h3 h5)); clear h2 h3 h5)
          clear c0 c1 c2 ct ccK
          go_loopw [9] (fun kv wq => ∃ k : Nat, k ≤ 64 ∧ kv = .int .i64 k ∧ After wr wq ∧ BAt wq b8 (fun i => if i < k then (bootK x ch j).getD i 0 else (x.kp j).getD i 0)) (fun kv _ => 64 - (intOf kv).toNat)
          case atStart => exact ⟨0, Nat.zero_le _, rfl, X5.out.2.2, X5.out.1⟩
          case round =>
            obtain ⟨k, hk, rfl, aq, bq⟩ := hrel
            have hmq := HM.out.1.after aq
            have q1 := hmq.c.2.1
            have q0 := hmq.c.1
            have lc := (aq.cell hll _).trans ccL
            by_cases hk64 : k < 64
            · have k1 : (k : Int) < 64 := by omega
              have k0 : (0 : Int) ≤ (k : Int) := by omega
              obtain ⟨b', o', xb, ex, _, _, hxb, cxb⟩ := (HW.out.2.2.1.after aq).at hk64
              have d8 := (bq.cell hk64).1
              have f8 := (bq.cell hk64).2
              have hrk := HR.out k hk64
              have AQ := hideIt (And.intro aq (And.intro bq hmq))
              have EX := hideIt (And.intro hxb hxb)
              clear aq bq hmq hxb
              cases ex
              rw [Nat.zero_add] at cxb
              have ex : True := trivial
              rw [if_neg (by omega)] at hrk
              clear ex
              go_wp2_with fail
              refine ⟨⟨k + 1, by omega, by simp, AQ.out.1, ?_⟩, by simp [intOf]; omega⟩
              have e9 := AQ.out.2.1
              rw [sameF (fun i => (bootK x ch j).getD i 0) (fun i => (x.kp j).getD i 0) k hrk] at e9
              exact e9
            · obtain rfl : k = 64 := by omega
              have row8 : Row wr (some ⟨b8, 0, none⟩) 64 (bootK x ch j) := bq.row HW.out.2.2.2.2.2.2 (fun i hi => if_pos hi)
              have nb8 : ¬ S b8 := fun t => by have := HM.out.1.bd b8 t; have := X5.out.2.1; omega
              obtain ⟨b3, c3', cc3, _, _⟩ := hmq.rk.cell hjn
              have fk := hmq.rk.soft j
              have hp6 := hmq.putK (c := c8) hjn row8 nb8
              have hr6 := row8.but (but_one wr p.k j (.slice (some ⟨b8, 0, none⟩) 64 c8)) (fun y hy t => by cases hy; have t : b8 = p.k := t; exact nb8 (by rw [t]; exact HM.out.1.inS _ (.inr (.inl rfl))))
              have hb6 : But p.In w (wr.setCell ⟨p.k, j, none⟩ (.slice (some ⟨b8, 0, none⟩) 64 c8)) := (HM.out.2.trans aq.but).trans ((but_one _ _ _ _).mono (fun _ _ e => .inr (.inl e)))
              have H6 := hideIt (And.intro hp6 (And.intro hr6 hb6))
              clear row8 hp6 hr6 hb6 hmq aq bq q1 lc hk64
              go_upto_region 17 with fail
              generalize wr.setCell ⟨p.k, j, none⟩ (.slice (some ⟨b8, 0, none⟩) 64 c8) = W6 at *
              refine region_inv (by kernel_rfl) (Tab.J (⟨9, fun k' => [85, 86, 87, 88, 89, 90, 91, 92, 900].getD k' 0, fun k' => ([some (Ptr p.e), some (Ptr p.e), some (.pointer (some ⟨p.e, 1, none⟩)), some (.slice (some ⟨p.l, 0, none⟩) x.n p.cl), some (.int .i64 j), some (.slice (some ⟨b8, 0, none⟩) 64 c8), none, some (.pointer (some ⟨p.l, j, none⟩)), none] : List (Option Value)).getD k' none, Ca1 6 8 (After W6) (Cpy W6 (bootK x ch j)) (fun V => RvM V S p x.n (fun k => if k = j then bootK x ch j else bootKF x ch j k) (fun k => if k = j then bootK x ch j else bootLF x ch j k) (touchF x j) x.dead x.left ∧ But (One p.l) W6 V)⟩ : Tab) _) ⟨rfl, rfl, fun _ _ => rfl, (fun _ _ _ _ h => by cases h), Ca1.start (But.drew But.rfl)⟩ ?_ ?_
              · exact ⟨inv_move (.inl rfl) rfl rfl rfl rfl rfl rfl rfl rfl (Ca1.keep (neB rfl) (neB rfl) (neB rfl)) rfl,
                  inv_nil rfl rfl rfl rfl rfl rfl rfl rfl rfl (Ca1.keep (neB rfl) (neB rfl) (neB rfl)) rfl,
                  inv_field rfl rfl rfl rfl rfl rfl rfl rfl rfl (Ca1.keep (neB rfl) (neB rfl) (neB rfl)) rfl (fun w => fieldRv1 w _),
                  inv_load rfl rfl rfl rfl rfl rfl rfl rfl rfl (Ca1.keep (neB rfl) (neB rfl) (neB rfl)) rfl (fun L u V h => loadSs (h.any (fun a => (H6.out.1.after a).c.2.1) (fun v a => (H6.out.1.after a.1).c.2.1) (fun a => a.1.c.2.1))),
                  inv_move (.inl rfl) rfl rfl rfl rfl rfl rfl rfl rfl (Ca1.keep (neB rfl) (neB rfl) (neB rfl)) rfl,
                  inv_move (.inl rfl) rfl rfl rfl rfl rfl rfl rfl rfl (Ca1.keep (neB rfl) (neB rfl) (neB rfl)) rfl,
                  inv_call rfl rfl rfl rfl rfl rfl rfl rfl (enterC Try.func40 (by kernel_rfl) (by kernel_rfl)) (fun a V L hv hd hl h => by
                    rw [show (#[Operand.tmp 90] : Array Operand).map a.eval = #[a.eval (.tmp 90)] from by simp, hv (.tmp 90) _ rfl]
                    have n0 := h.p0 hl
                    refine (copy64 V _ c8 _ (H6.out.2.1.after n0)).mono ?_
                    rintro e V' ⟨b', c', rfl, h1, _, h3, _, h5⟩
                    exact ⟨_, rfl, (fun v7 h7 => by cases h7), Ca1.call (neB rfl) h hl ⟨n0.trans h5, b', c', rfl, h1, Nat.le_trans n0.size h3⟩⟩),
                  inv_index rfl rfl rfl rfl rfl rfl rfl rfl rfl (Ca1.keep (neB rfl) (neB rfl) (neB rfl)) rfl rfl (fun V => indexSs V _ hjn),
                  inv_end rfl rfl rfl rfl rfl rfl (fun L a V hv hd hl h => by
                    obtain ⟨a5, b', c', eb, h1, h3⟩ := h.p1 (hd 6 rfl) hl
                    rw [hv (.tmp 92) _ rfl]
                    have hm5 := H6.out.1.after a5
                    obtain ⟨bo, co, cc, _, _⟩ := hm5.rl.cell hjn
                    have hnb : ¬ S b' := fun t => by have := H6.out.1.bd b' t; omega
                    have hr := storeS1 cc (hm5.rl.soft j) b' c' eb
                    have hp := hm5.putL (c := c') hjn h1 hnb
                    rw [← eb] at hp
                    exact ⟨_, hr, Ca1.store (neB rfl) h (hd 6 rfl) ⟨hp, (a5.but).trans (but_one _ _ _ _)⟩⟩),
                  trivial⟩
              · intro a7 w7 L7 hL7 J7
                have e7 := J7.fin hL7 rfl
                have W7 := J7.other
                have h7 := W7.p4 (hL7 8 (Nat.le_of_ble_eq_true rfl))
                clear J7 W7
                rw [e7]
                clear e7
                generalize hv7 : Tab.u _ a7 = U7 at *
                simp only [Tab.puts, List.getD_cons_succ, List.getD_cons_zero, Option.getD_some, Option.getD_none, List.setIfInBounds_toArray, List.set_cons_succ, List.set_cons_zero, List.set_nil]
                clear hv7 hL7
                have t2 := h7.1.c.2.2.1
                have tt := h7.1.rt.cell hjn
                have tf := h7.1.rt.soft j
                have hp := h7.1.putT hjn false
                have HP := hideIt (And.intro hp h7.2)
                clear h7 hp q0 cc3 fk
                go_wp2_with fail
                refine ⟨⟨j + 1, by omega, by simp, by rw [cnt_some HW.out.1]; simp, ?_, ?_⟩, by simp [intOf]; omega⟩
                · have g1 : (fun k => if k = j then bootK x ch j else bootKF x ch j k) = bootKF x ch (j + 1) := stepF (bootK x ch) x.kp j
                  have g2 : (fun k => if k = j then bootK x ch j else bootLF x ch j k) = bootLF x ch (j + 1) := stepF (bootK x ch) x.last j
                  have g3 : (fun k => if k = j then false else touchF x j k) = touchF x (j + 1) := stepF (fun _ => false) (fun k => (x.wr k).isSome) j
                  rw [← g1, ← g2, ← g3]
                  exact HP.out.1
                · exact (H6.out.2.2.trans (HP.out.2.mono (fun _ _ e => .inr (.inr (.inl e))))).trans ((but_one _ _ _ _).mono (fun _ _ e => .inr (.inr (.inr e))))
    · obtain rfl : j = x.n := by omega
      have HH := hideIt (HM.out.1.done (x := { x with kp := bootK x ch, wr := fun _ => none }) ⟨HO.out.n0, HO.out.n1, (boot_ok HO.out ch).k, (fun _ _ h => by cases h), HO.out.l0, HO.out.l1⟩ (fun k hk => if_pos hk) (fun k hk => if_pos hk) (fun k hk => if_pos hk))
      have d3 := HH.out.c.2.2.2.1
      have d4 := HH.out.c.2.2.2.2
      have f3 := blk_soft HH.out.at0 3
      have f4 := blk_soft HH.out.at0 4
      clear hm hb
      go_wp2_with fail
      go_ret
      refine ⟨rfl, (HH.out.setQ false).setL (L := -1) (by decide) (by decide), ?_⟩
      exact (HM.out.2.trans ((but_one _ _ _ _).mono (fun _ _ e => .inl e))).trans ((but_one _ _ _ _).mono (fun _ _ e => .inl e))
end Go.Proofs.Ytalffdiohjcajaa.Iv
