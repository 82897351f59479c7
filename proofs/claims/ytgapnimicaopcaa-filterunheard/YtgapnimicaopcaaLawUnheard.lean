/-
  FilterUnheard walked.
-/
import Derived.Test.YtgapnimicaopcaaLawForgets
import Derived.Test.YtgapnimicaopcaaFiQ
namespace Go.Proofs.Ytgapnimicaopcaa
open Go.RowKit
set_option maxRecDepth 8000
/-- The steps without what is not heard. -/
def Less (xs ys : List Stp) : Prop := ys.map Stp.tl = xs.map Stp.cut
theorem Less.snoc {xs ys : List Stp} {j : Nat} {x : Stp} (h : Less (xs.take j) ys) (hx : xs[j]? = some x) {a : Option Addr} {n d : Nat} {rs : List Rl} (e : rs = x.l.filter Rl.rel) : Less (xs.take (j + 1)) (ys ++ [⟨x.tick, a, n, d, rs⟩]) := by
  unfold Less at h ⊢
  rw [take_stp hx, List.map_append, List.map_append, h]
  subst e
  rfl
theorem Less.length {xs ys : List Stp} (h : Less xs ys) : ys.length = xs.length := by
  have := congrArg List.length h
  simpa using this
theorem cut_snoc {l : List Rl} {q : Nat} {r : Rl} (h : l[q]? = some r) : (l.take (q + 1)).filter Rl.rel = if r.rel = true then (l.take q).filter Rl.rel ++ [r] else (l.take q).filter Rl.rel := by
  rw [List.take_add_one, h, List.filter_append]
  rcases hr : r.rel with _ | _ <;> simp [hr]
theorem mays_cut {l : List Rl} (h : mays l = true) (q : Nat) : mays ((l.take q).filter Rl.rel) = true := by
  unfold mays at h ⊢
  rw [List.all_eq_true] at h ⊢
  exact fun r hr => h r (List.mem_of_mem_take (List.mem_filter.1 hr).1)
/-- One more that is heard has been appended. -/
theorem un_app {wo wr w4 : World} {B : Int} {q xn gg cap : Nat} {vL : Value} {rs l : List Rl} {r : Rl} {K : Value} (hrel : r.rel = true) (mk : Mks wo wo.heap.size B q wr vL rs) (hx : l[q]? = some r) (hrs : rs = (l.take q).filter Rl.rel) (hm : mays l = true)
    (hg4 : w4.heap[wo.heap.size]? = some (.cells #[.int .i64 B, vL] 35 (0, 0)))
    (hown1 : w4.ownsRow (wo.heap.size + 1) 37 3 (.slice (some ⟨gg, 0, none⟩) (rs.length + 1) cap) (rs.length + 1) (rls rs ++ [.int .i64 r.k, .int .i64 r.m, .int .i64 r.e])) (hgrow : (wr.alloc (.cells #[.int .i64 r.k, .int .i64 r.m, .int .i64 r.e] 37)).drew.grownBy w4 vL.ownBlock) (hK : K = .int .i64 ((q + 1 : Nat) : Int)) (hq : q + 1 ≤ xn) :
    ∃ (q' : Nat) (vL' : Value) (rs' : List Rl), K = .int .i64 q' ∧ q' ≤ xn ∧ Mks wo wo.heap.size B q' (w4.setCell ⟨wo.heap.size, 1, none⟩ (.slice (some ⟨gg, 0, none⟩) (rs.length + 1) cap)) vL' rs' ∧ rs' = (l.take q').filter Rl.rel := by
  have b4 : But (fun i => vL.ownBlock = some i) wr w4 := ((After.rfl.alloc _).draws 1).but.then (But.grown But.rfl hgrow (fun k hk _ => hk)) (fun _ _ t => t)
  have hB4 : But (One wo.heap.size) w4 (w4.setCell ⟨wo.heap.size, 1, none⟩ (.slice (some ⟨gg, 0, none⟩) (rs.length + 1) cap)) := but_one w4 _ 1 _
  have hof : ∀ i, vL.ownBlock = some i → wo.heap.size + 1 ≤ i := fun i hi => (mk.own.lt i hi).1
  have hcut : rs ++ [r] = (l.take (q + 1)).filter Rl.rel := by rw [cut_snoc hx, if_pos hrel, hrs]
  refine ⟨q + 1, _, rs ++ [r], hK, hq, ⟨?_, two_set1 hg4 _, ?_, ?_, ?_⟩, hcut⟩
  · exact (mk.aft.then b4 (fun i hi t => by have := hof i t; omega)).then hB4 (fun i hi e => by cases e; omega)
  · have e : rls rs ++ [Value.int .i64 r.k, .int .i64 r.m, .int .i64 r.e] = rls (rs ++ [r]) := by rw [rls_append]; rfl
    rw [e] at hown1
    have el : (rs ++ [r]).length = rs.length + 1 := by simp
    unfold ORls
    rw [el]
    exact own_but hown1 hB4 (fun k hk e => by
      cases e
      have := (hown1.lt _ hk).1
      omega)
  · rw [hcut]
    exact mays_cut hm _
  · have := mk.few
    simp
    omega
/-- One more step has been appended. -/
theorem un_step {w3 wo wr w8 : World} {B : Int} {j N q lc : Nat} {x : Stp} {xs ys : List Stp} {u5 vL v8 K : Value} {la : Option Addr} {rs : List Rl} (hx : xs[j]? = some x) (hB : x.tick = B) (mk : Mks wo wo.heap.size B q wr vL rs) (hvl : vL = .slice la rs.length lc) (ho2 : OSts wr w3.heap.size u5 ys) (hall : ∀ y ∈ ys, y.Own wo w3.heap.size) (hls : Less (xs.take j) ys) (af : After w3 wo) (hrs : rs = x.l.filter Rl.rel)
    (h1 : w8.ownsRow w3.heap.size 35 2 v8 (ys.length + 1) (stps ys ++ [.int .i64 B, .slice la rs.length lc])) (h2 : (wr.alloc (.cells #[.int .i64 B, .slice la rs.length lc] 35)).grownBy w8 u5.ownBlock) (hK : K = .int .i64 ((j + 1 : Nat) : Int)) (hj : j + 1 ≤ N) :
    ∃ (j' : Nat) (ys' : List Stp), j' ≤ N ∧ K = .int .i64 j' ∧ OSts w8 w3.heap.size v8 ys' ∧ (∀ y ∈ ys', y.Own w8 w3.heap.size) ∧ Less (xs.take j') ys' ∧ After w3 w8 := by
  have b8 : But (fun i => u5.ownBlock = some i) wr w8 := (After.rfl.alloc _).but.then (But.grown But.rfl h2 (fun k hk _ => hk)) (fun _ _ t => t)
  have hof : ∀ i, u5.ownBlock = some i → w3.heap.size ≤ i := fun i hi => (ho2.lt i hi).1
  have hno : ∀ (v : Value) (zs : List Rl) (B' : Nat), ORls wr B' v zs → ∀ k, v.ownBlock = some k → ¬ u5.ownBlock = some k := fun v zs B' hv k hk e => by
    obtain ⟨cs, fr, q1⟩ := own_typ hv hk
    obtain ⟨cs', fr', q2⟩ := own_typ ho2 e
    rw [q1] at q2
    simp at q2
  have mkown := mk.own
  rw [hvl] at mkown
  refine ⟨j + 1, ys ++ [⟨B, la, rs.length, lc, rs⟩], hj, hK, ?_, ?_, ?_, (af.trans mk.aft).then b8 (fun i hi t => by have := hof i t; omega)⟩
  · have e : stps ys ++ [Value.int .i64 B, .slice la rs.length lc] = stps (ys ++ [⟨B, la, rs.length, lc, rs⟩]) := by rw [stps_append]; rfl
    rw [e] at h1
    have el : (ys ++ [(⟨B, la, rs.length, lc, rs⟩ : Stp)]).length = ys.length + 1 := by simp
    unfold OSts
    rw [el]
    exact h1
  · intro y hy
    rcases List.mem_append.1 hy with hy | hy
    · exact ((hall y hy).after mk.aft).but b8 (hno _ _ _ ((hall y hy).after mk.aft))
    · rw [List.mem_singleton.1 hy]
      have h9 : ORls w8 (wo.heap.size + 1) (.slice la rs.length lc) rs := own_but mkown b8 (hno _ _ _ mkown)
      exact own_base h9 (fun k hk => by have := (h9.lt k hk).1; have := af.size; omega)
  · rw [← hB]
    exact hls.snoc hx hrs
theorem un_no {wo wr : World} {B : Int} {q xn : Nat} {vL : Value} {rs l : List Rl} {r : Rl} {K : Value} (h0 : r.k ≠ 0) (h2 : r.k ≠ 2) (mk : Mks wo wo.heap.size B q wr vL rs) (hx : l[q]? = some r) (hrs : rs = (l.take q).filter Rl.rel) (hK : K = .int .i64 ((q + 1 : Nat) : Int)) (hq : q + 1 ≤ xn) :
    ∃ (q' : Nat) (vL' : Value) (rs' : List Rl), K = .int .i64 q' ∧ q' ≤ xn ∧ Mks wo wo.heap.size B q' wr vL' rs' ∧ rs' = (l.take q').filter Rl.rel := by
  have hr : r.rel = false := by unfold Rl.rel; simp [h0, h2]
  refine ⟨q + 1, vL, rs, hK, hq, ⟨mk.aft, mk.at0, mk.own, mk.may, by have := mk.few; omega⟩, ?_⟩
  rw [cut_snoc hx, hr, hrs]
  rfl
set_option maxHeartbeats 4000000 in
theorem law_unheard (w : World) (k n st : Int) (hk : -9223372036854775808 ≤ k ∧ k ≤ 9223372036854775807) (hn : -9223372036854775808 ≤ n ∧ n ≤ 9223372036854775807) (hst : -9223372036854775808 ≤ st ∧ st ≤ 9223372036854775807) (a : Option Addr) (m d : Nat) (zs : List Stp) (hr : SRow w a m zs) (hb : ∀ x ∈ zs, -9223372036854775808 ≤ x.tick ∧ x.tick ≤ 9223372036854775807) :
    Calls Try.prog 4 #[fVal k n st, .slice a m d] w fun e w' => e = .returned (.bool true) ∧ After w w' := by
  have HMay := hideIt (fun W (aW : After w W) => may_any W k n st hk hn hst a m d zs (hr.after aW) hb)
  have hc := mayC_ok k n st
  generalize mayC k n st = c at *
  have HC := hideIt hc
  clear hk hn hst hr hb hc
  go_enter Try.func4, Try.ntmps4
  go_wp2_with fail
  refine (works_any _).mono ?_
  rintro e w1 ⟨rfl, a1⟩
  have hb1 := old_blk a1 (heap_alloc_new w _)
  have k0 := blk_cell hb1 (i := 0) rfl
  have k1 := blk_cell hb1 (i := 1) rfl
  have k2 := blk_cell hb1 (i := 2) rfl
  have HB := hideIt (And.intro hb1 ((After.rfl.alloc _).trans a1))
  clear hb1 a1
  go_wp2_with fail
  refine (HMay.out _ HB.out.2).mono ?_
  rintro e w2 ⟨v, xs, rfl, own, hall, hf, h60, h8, a2⟩
  have hb2 := old_blk a2 HB.out.1
  have q0 := blk_cell hb2 (i := 0) rfl
  have q1 := blk_cell hb2 (i := 1) rfl
  have q2 := blk_cell hb2 (i := 2) rfl
  have f0 := blk_soft hb2 0
  have f1 := blk_soft hb2 1
  have f2 := blk_soft hb2 2
  have HM := hideIt (mde_store (c := c) rfl HB.out.1 HB.out.2 own hall hf h60 h8 a2)
  clear own hall hf h60 h8 a2 hb2 k0 k1 k2 HMay
  generalize hW : World.setCell (World.setCell (World.setCell w2 _ _) _ _) _ _ = w3 at HM
  obtain ⟨sa, sc, rfl, srow, _, _⟩ := own_srow HM.out.own (fun x hx => (HM.out.all x hx).in_)
  obtain ⟨N, hN⟩ : ∃ N, xs.length = N := ⟨_, rfl⟩
  rw [hN] at srow
  have HSr := hideIt (And.intro srow hN)
  have hN60 : (N : Int) ≤ 60 := by have := HM.out.few; omega
  have HLow := hideIt (blk_lt HM.out.at0)
  rw [hN]
  clear srow hN
  go_wp2_with fail
  clear hW q0 q1 q2 f0 f1 f2
  go_loopw [5, 6] (fun v5 i wr => ∃ (j : Nat) (ys : List Stp), j ≤ N ∧ i = .int .i64 j ∧ OSts wr w3.heap.size v5 ys ∧ (∀ y ∈ ys, y.Own wr w3.heap.size) ∧ Less (xs.take j) ys ∧ After w3 wr) (fun _ i _ => N - (intOf i).toNat)
  case atStart => exact ⟨0, [], Nat.zero_le _, rfl, World.ownsRow_nil _ _ _ _, (fun y hy => by cases hy), rfl, After.rfl⟩
  case round =>
    rename_i u5 _
    obtain ⟨j, ys, hj, rfl, hown, hall, hls, af⟩ := hrel
    have hyl : ys.length = j := by rw [hls.length, List.length_take]; have := HSr.out.2; omega
    obtain ⟨wo, rfl⟩ : ∃ wo, wo = wr := ⟨_, rfl⟩
    by_cases hjn : j < N
    · have i1 : (j : Int) < (N : Int) := by omega
      obtain ⟨b, off, x, hsa, hbl, hx, l0, l1, hin⟩ := HSr.out.1.at_ hjn
      cases hsa
      have l0' := (af.cell hbl _).trans l0
      have hlt : b < wo.heap.size := Nat.lt_of_lt_of_le hbl af.size
      have hmay := HM.out.fine.may j x hx
      have hxn : x.n ≤ 8 := by have := HM.out.eight x (List.mem_of_getElem? hx); have := hin.1.1; omega
      have HX := hideIt (And.intro hx (And.intro hown (And.intro hall (And.intro hls (And.intro af (And.intro hin (And.intro hbl (And.intro l1 (And.intro hmay hyl)))))))))
      obtain ⟨B, hB⟩ : ∃ B, x.tick = B := ⟨_, rfl⟩
      rw [hB] at l0'
      have HB1 := hideIt hB
      clear hown hall hls af hin l0 l1 hx hmay hyl hB
      go_wp2_with fail
      go_loopw [8] (fun kk W => ∃ (q : Nat) (vL : Value) (rs : List Rl), kk = .int .i64 q ∧ q ≤ x.n ∧ Mks wo wo.heap.size B q W vL rs ∧ rs = (x.l.take q).filter Rl.rel) (fun kk _ => x.n - (intOf kk).toNat)
      case atStart => exact ⟨0, .slice none 0 0, [], rfl, Nat.zero_le _, ⟨After.rfl.alloc _, heap_alloc_new _ _, World.ownsRow_nil _ _ _ _, rfl, Nat.le_refl _⟩, rfl⟩
      case round =>
        obtain ⟨q, vL, rs, rfl, hqx, mk, hrs⟩ := hrel
        have awi : After w3 wr := HX.out.2.2.2.2.1.trans mk.aft
        have cL := (awi.cell HX.out.2.2.2.2.2.2.1 _).trans HX.out.2.2.2.2.2.2.2.1
        have hlt' : b < wr.heap.size := Nat.lt_of_lt_of_le HX.out.2.2.2.2.2.2.1 awi.size
        have hlg : wo.heap.size < wr.heap.size := blk_lt mk.at0
        by_cases hqn : q < x.n
        · have j1 : (q : Int) < (x.n : Int) := by omega
          obtain ⟨b3, off3, r3, hxa, hb3, hx3, m0, m1, m2⟩ := HX.out.2.2.2.2.2.1.1.at_ hqn
          have m0' := (awi.cell hb3 _).trans m0
          have m1' := (awi.cell hb3 _).trans m1
          have m2' := (awi.cell hb3 _).trans m2
          have hlt3 : b3 < wr.heap.size := Nat.lt_of_lt_of_le hb3 awi.size
          rw [hxa] at cL
          have c00 := (blk_cell mk.at0 (i := 1) rfl)
          have ns := blk_soft mk.at0 1
          have HMk := hideIt (And.intro mk (And.intro hx3 hrs))
          obtain ⟨rk, rm, re⟩ := r3
          dsimp only at m0' m1' m2'
          clear mk awi m0 m1 m2 hx3 hrs
          by_cases h0 : rk = 0
          · subst h0
            go_wp2_with fail
            obtain ⟨i0, hi0, hz⟩ := Option.map_eq_some_iff.1 Try.infoReal
            simp only [Prod.mk.injEq] at hz
            obtain ⟨hz0, hz1, hz2⟩ := hz
            go_region_law
              (refine step_append_lies _ (by rfl) _ _ _ (by rfl) (wo.heap.size + 1) 37 i0 _ 3 24 Try.underlying33 hi0 hz0 hz1 hz2 rfl (by omega) vL rs.length (rls rs) (by rfl) ((HMk.out.1.own.alloc _).drew)
                  ⟨wr.heap.size, 0, none⟩ 1 1 [.int .i64 0, .int .i64 rm, .int .i64 re] (by rfl) (by rfl) (World.news_of_block (cs := #[_, _, _]) (t := 37) (fr := (0, 0)) (heap_alloc_new wr _)) (by simp [Value.oneCell'])
                  (by omega) (by have := HMk.out.1.few; unfold maxLen; omega) (by have := HMk.out.1.few; omega) (by have := blk_lt HMk.out.1.at0; simp; omega) (wr.heap.size + 1) (by simp) ?_; intro gg cap w4 hown1 hgrow hat hlt2; have hg4 := mk_keep HMk.out.1.own HMk.out.1.at0 ((After.rfl.alloc _).draws 1) hgrow; have c4 := blk_cell hg4 (i := 1) rfl; have f4 := blk_soft hg4 1; have HW4 := hideIt (And.intro hg4 (And.intro hown1 (And.intro hgrow hat))); clear hg4 hown1 hgrow hat)
            all_goals
              go_wp2_with fail
              go_roundw
              case rel => exact un_app (r := ⟨0, rm, re⟩) rfl HMk.out.1 HMk.out.2.1 HMk.out.2.2 HX.out.2.2.2.2.2.2.2.2.1 HW4.out.1 HW4.out.2.1 HW4.out.2.2.1 (by go_num) (by omega)
              case measure => simp [intOf]; omega
          · by_cases h2 : rk = 2
            · subst h2
              clear h0
              go_wp2_with fail
              obtain ⟨i0, hi0, hz⟩ := Option.map_eq_some_iff.1 Try.infoReal
              simp only [Prod.mk.injEq] at hz
              obtain ⟨hz0, hz1, hz2⟩ := hz
              go_region_law
                (refine step_append_lies _ (by rfl) _ _ _ (by rfl) (wo.heap.size + 1) 37 i0 _ 3 24 Try.underlying33 hi0 hz0 hz1 hz2 rfl (by omega) vL rs.length (rls rs) (by rfl) ((HMk.out.1.own.alloc _).drew)
                    ⟨wr.heap.size, 0, none⟩ 1 1 [.int .i64 2, .int .i64 rm, .int .i64 re] (by rfl) (by rfl) (World.news_of_block (cs := #[_, _, _]) (t := 37) (fr := (0, 0)) (heap_alloc_new wr _)) (by simp [Value.oneCell'])
                    (by omega) (by have := HMk.out.1.few; unfold maxLen; omega) (by have := HMk.out.1.few; omega) (by have := blk_lt HMk.out.1.at0; simp; omega) (wr.heap.size + 1) (by simp) ?_; intro gg cap w4 hown1 hgrow hat hlt2; have hg4 := mk_keep HMk.out.1.own HMk.out.1.at0 ((After.rfl.alloc _).draws 1) hgrow; have c4 := blk_cell hg4 (i := 1) rfl; have f4 := blk_soft hg4 1; have HW4 := hideIt (And.intro hg4 (And.intro hown1 (And.intro hgrow hat))); clear hg4 hown1 hgrow hat)
              all_goals
                go_wp2_with fail
                go_roundw
                case rel => exact un_app (r := ⟨2, rm, re⟩) rfl HMk.out.1 HMk.out.2.1 HMk.out.2.2 HX.out.2.2.2.2.2.2.2.2.1 HW4.out.1 HW4.out.2.1 HW4.out.2.2.1 (by go_num) (by omega)
                case measure => simp [intOf]; omega
            · have e1 : (rk == 0) = false := by simp [h0]
              have e2 : (rk == 2) = false := by simp [h2]
              have HK := hideIt (And.intro h0 h2)
              clear h0 h2
              go_wp2_with fail
              go_roundw
              case rel => exact un_no (r := ⟨rk, rm, re⟩) HK.out.1 HK.out.2 HMk.out.1 HMk.out.2.1 HMk.out.2.2 (by go_num) (by omega)
              case measure => simp [intOf]; omega
        · have j1 : ¬ (q : Int) < (x.n : Int) := by omega
          have hqe : q = x.n := by omega
          have ho2 := own_after HX.out.2.1 mk.aft
          have g0 := blk_cell mk.at0 (i := 0) rfl
          have g1 := blk_cell mk.at0 (i := 1) rfl
          obtain ⟨i0, hi0, hz⟩ := Option.map_eq_some_iff.1 Try.infoStep
          simp only [Prod.mk.injEq] at hz
          obtain ⟨hz0, hz1, hz2⟩ := hz
          obtain ⟨la, lc, hvl, _⟩ := own_rrow mk.own
          have hrs2 : rs = x.l.filter Rl.rel := by rw [hrs, hqe, ← HX.out.2.2.2.2.2.1.1.1, List.take_length]
          have HE := hideIt (And.intro mk (And.intro ho2 (And.intro hrs2 hvl)))
          have HO := hideIt (And.intro ho2 HX.out.2.2.2.2.2.2.2.2.2)
          rw [hvl] at g1
          clear mk awi hrs hqe ho2 hvl hrs2
          go_wp2_with (at_builtin; refine wpList_append_own_at _ rfl (.tmp 79) (.tmp 81) 24 rfl w3.heap.size 35 i0 _ 2 32 Try.underlying24 hi0 hz0 hz1 hz2 rfl (by decide) u5 _ (stps ys) rfl (HO.out.1.alloc _) ⟨wr.heap.size, 0, none⟩ 1 1 [.int .i64 B, .slice la rs.length lc] rfl rfl (World.news_of_block (cs := #[_, _]) (t := 35) (fr := (0, 0)) (heap_alloc_new wr _)) (by simp [Value.oneCell']) (by have := HO.out.2; unfold maxLen; omega) (by have := HO.out.2; omega) (by have := HE.out.1.aft.size; have := HX.out.2.2.2.2.1.size; simp; omega) ?_; intro v8 w8 h1 h2 _ h4; have HV := hideIt (And.intro h1 (And.intro h2 h4)); clear h1 h2 h4)
          go_roundw
          case rel => exact un_step HX.out.1 HB1.out HE.out.1 HE.out.2.2.2 HE.out.2.1 HX.out.2.2.1 HX.out.2.2.2.1 HX.out.2.2.2.2.1 HE.out.2.2.1 HV.out.1 HV.out.2.1 (by go_num) (by omega)
          case measure => simp [intOf]; omega
    · have i1 : ¬ (j : Int) < (N : Int) := by omega
      have hjN : j = N := by omega
      have hls' : Less xs ys := by have h := hls; rw [hjN, ← HSr.out.2, List.take_length] at h; exact h
      obtain ⟨ya, yc, hv5, yrow, _, _⟩ := own_srow hown (fun y hy => (hall y hy).in_)
      rw [hyl, hjN] at yrow hv5
      have hat := old_blk af HM.out.at0
      have c0 := blk_cell hat (i := 0) rfl
      have c1 := blk_cell hat (i := 1) rfl
      have c2 := blk_cell hat (i := 2) rfl
      have hlg := blk_lt hat
      have HR1 : Hid (Calls Try.prog 10 #[.agg #[.int .i64 (c.k : Int), .int .i64 (c.n : Int), .int .i64 (c.st : Int)], .slice sa N sc] wo fun e w' => ∃ v, e = .returned (.tuple #[v, .bool true]) ∧ ORds w' wo.heap.size v (Ts.new.outs c xs) ∧ After wo w') := hideIt (run_ok wo c HC.out sa N sc xs (HSr.out.1.after af) (by omega) HM.out.fine)
      have HR2 : Hid (∀ W, After wo W → Calls Try.prog 10 #[.agg #[.int .i64 (c.k : Int), .int .i64 (c.n : Int), .int .i64 (c.st : Int)], .slice ya N yc] W fun e w' => ∃ v, e = .returned (.tuple #[v, .bool true]) ∧ ORds w' W.heap.size v (Ts.new.outs c xs) ∧ After W w') := hideIt (fun W aW => by rw [← less_outs xs ys Ts.new hls']; exact run_ok W c HC.out ya N yc ys (yrow.after aW) (by omega) (HM.out.fine.less hls'))
      subst hv5
      have HA := hideIt (And.intro af hat)
      clear hown hall hls af hyl hls' yrow hat hjN
      go_wp2_with fail
      refine HR1.out.mono ?_
      rintro e w5 ⟨v5, rfl, od5, a5⟩
      have hol : (Ts.new.outs c xs).length = N := by rw [Ts.outs_length]; exact HSr.out.2
      obtain ⟨oa, oc, rfl, drow⟩ := own_drow od5
      rw [hol] at drow
      rw [hol]
      have hat5 := old_blk a5 HA.out.2
      have d0 := blk_cell hat5 (i := 0) rfl
      have d1 := blk_cell hat5 (i := 1) rfl
      have d2 := blk_cell hat5 (i := 2) rfl
      have hlg5 := blk_lt hat5
      have HD := hideIt (And.intro drow a5)
      have HOl := hideIt hol
      clear od5 drow a5 hol hat5 c0 c1 c2 HR1
      go_wp2_with fail
      refine (HR2.out _ HD.out.2).mono ?_
      rintro e w6 ⟨v6, rfl, od6, a6⟩
      obtain ⟨pa, pc, rfl, drow6⟩ := own_drow od6
      rw [HOl.out] at drow6
      rw [HOl.out]
      have HD6 := hideIt (And.intro drow6 a6)
      clear od6 drow6 a6 d0 d1 d2 HR2 hlg5 hlg
      go_wp2_with fail
      go_loopw [13] (fun jj W => ∃ p : Nat, p ≤ N ∧ jj = .int .i64 p ∧ After w6 W) (fun jj _ => N - (intOf jj).toNat)
      case atStart => exact ⟨0, Nat.zero_le _, rfl, After.rfl⟩
      case round =>
        obtain ⟨p, hp, rfl, awp⟩ := hrel
        by_cases hpn : p < N
        · have n2 : (p : Int) < (N : Int) := by omega
          obtain ⟨b1, off1, R, rfl, hb1, hRx, k0, k1⟩ := HD.out.1.2 p hpn
          obtain ⟨b9, off9, R9, rfl, hb9, hRx9, m0, m1⟩ := HD6.out.1.2 p hpn
          have hrr : R = R9 := by rw [hRx] at hRx9; injection hRx9
          subst hrr
          have aw1 := HD6.out.2.trans awp
          have y0 := (aw1.cell hb1 _).trans k0
          have y1 := (aw1.cell hb1 _).trans k1
          have x0 := (awp.cell hb9 _).trans m0
          have x1 := (awp.cell hb9 _).trans m1
          have z1 : b1 < wr.heap.size := Nat.lt_of_lt_of_le hb1 aw1.size
          have z9 : b9 < wr.heap.size := Nat.lt_of_lt_of_le hb9 awp.size
          have hnq := fun W => neqR R.s R.v W
          have hze := outs_zero HM.out.fine hRx
          have AWP := hideIt awp
          obtain ⟨Rs, Rv⟩ := R
          dsimp only at hze y0 y1 x0 x1 hnq
          clear k0 k1 m0 m1 awp aw1 hRx hRx9
          by_cases h1 : Rs = 1
          · subst h1
            clear hze
            go_wp2_with fail
            go_quiet (fail)
            go_wp2_with fail
            go_roundw
            case rel => exact ⟨p + 1, by omega, by go_num, AWP.out.draws _⟩
            case measure => simp [intOf]; omega
          · by_cases h2 : Rs = 2
            · subst h2
              clear hze h1
              go_wp2_with fail
              go_quiet (fail)
              go_wp2_with fail
              go_roundw
              case rel => exact ⟨p + 1, by omega, by go_num, AWP.out.draws _⟩
              case measure => simp [intOf]; omega
            · have hz := hze h1 h2
              subst hz
              have e1 : (Rs == 1) = false := by simp [h1]
              have e2 : (Rs == 2) = false := by simp [h2]
              have e3 : (Rs != 1) = true := by simp [h1]
              have e4 : (Rs != 2) = true := by simp [h2]
              clear hze
              go_wp2_with fail
              go_quiet (fail)
              go_wp2_with fail
              go_roundw
              case rel => exact ⟨p + 1, by omega, by go_num, AWP.out.draws _⟩
              case measure => simp [intOf]; omega
        · have n2 : ¬ (p : Int) < (N : Int) := by omega
          have AWP := hideIt awp
          clear awp
          go_wp2_with fail
          go_ret
          exact ⟨rfl, (((HM.out.aft.trans HA.out.1).trans HD.out.2).trans HD6.out.2).trans AWP.out⟩
end Go.Proofs.Ytgapnimicaopcaa
