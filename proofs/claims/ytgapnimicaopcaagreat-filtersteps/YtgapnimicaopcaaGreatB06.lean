/-
  Laid together: FiW, FiY, FiZ, FiZb.
-/
import Derived.Test.YtgapnimicaopcaaGreatB05
import Derived.Deep.Cut
import Derived.Deep.QuietTactic
import Derived.BigQuiet
/-
  run: the readings of a filter, one step behind the other.
-/
namespace Go.Proofs.YtgapnimicaopcaaGreat
open Go.RowKit
set_option maxRecDepth 8000
/-- copied, where a step stands ahead. -/
theorem copied_here {i1 i2 i3 i4 : Nat} {w0 w1 : World} {p : Nat} {S : Nat → Prop} {c : Cf} {s s' : Ts} {R : Rd} {x : Stp} {T : Tab} (hin : x.In w1) (a01 : After w1 w0) (hn : x.n ≤ 5864062014634) (hS : ∀ i, S i → w1.heap.size ≤ i ∧ i < w0.heap.size) (h2 : i2 ≠ i1) (h3 : i3 ≠ i1) (h4 : i4 ≠ i1) (d3 : T.D i3 ≠ T.D i1) (hV : T.V i1 = none) {L : Nat → Bool} {u : Nat → Value} {w : World} (hl : L i1 = false) (h : StW i1 i2 i3 i4 w0 p S c s s' R x.n x.l L u w) :
    Calls Tryz.prog 8 #[.slice x.a x.n x.d] w fun e w' => ∃ v, e = .returned v ∧ (∀ v', T.V i1 = some v' → v' = v) ∧ StW i1 i2 i3 i4 w0 p S c s s' R x.n x.l (more L i1) (T.set i1 v u) w' := by
  have aw : After w1 w := by
    refine a01.then h.bw (fun i hi t => ?_)
    rcases t with t | t
    · have := (hS i t).1; omega
    · have := a01.size; omega
  refine (copied_any w x.a x.n x.d x.l (hin.1.after aw) hin.2 hn).mono ?_
  rintro e w' ⟨v, rfl, ho, ha⟩
  obtain ⟨a, d, rfl, hr, _, hb⟩ := own_rrow ho
  have hl' : x.l.length = x.n := hin.1.1
  rw [hl'] at hr
  refine ⟨_, rfl, (fun v' hv => by rw [hV] at hv; cases hv), h.made (fun i hi => (hS i hi).2) hl h2 h3 h4 d3 ha ⟨a, d, by rw [hl'], hr, fun y hy => (hb y hy).1⟩⟩
/-- A step, where its list has been made. -/
theorem step_here {i1 i2 i3 i4 : Nat} {w0 : World} {p : Nat} {S : Nat → Prop} {c : Cf} {s s' : Ts} {R : Rd} {n : Nat} {l : List Rl} {t E : Int} {T : Tab} (hS : ∀ i, S i → i < w0.heap.size) (he : s.err t l = E) (hs : s.go c t l = s') (hR : s.out c t l = R) (h1 : i1 ≠ i2) (h3 : i3 ≠ i2) (h4 : i4 ≠ i2) (d3 : T.D i3 ≠ T.D i2) (hV : T.V i2 = some (.tuple #[.agg #[.int .i64 R.s, .int .i64 R.v], .int .i64 E])) {L : Nat → Bool} {u : Nat → Value} {w : World} (hl1 : L i1 = true) (hl : L i2 = false) (h : StW i1 i2 i3 i4 w0 p S c s s' R n l L u w) :
    Calls Tryz.prog 9 #[Ptr p, .int .i64 t, u i1] w fun e w' => ∃ v, e = .returned v ∧ (∀ v', T.V i2 = some v' → v' = v) ∧ StW i1 i2 i3 i4 w0 p S c s s' R n l (more L i2) (T.set i2 v u) w' := by
  obtain ⟨a, d, hu, hr, hb⟩ := h.cp hl1 hl
  rw [hu]
  refine (step_any (h.tk0 hl).1 t a n d l hr hb).mono ?_
  rintro e w' ⟨rfl, hx⟩
  rw [he, hR, hs] at *
  exact ⟨_, rfl, (fun v' hv => by rw [hV] at hv; cases hv; rfl), h.stepped hS hl1 hl h1 h3 h4 d3 hx⟩
theorem StW.first {i1 i2 i3 i4 : Nat} {w0 : World} {p : Nat} {S : Nat → Prop} {c : Cf} {s s' : Ts} {R : Rd} {n : Nat} {l : List Rl} {u : Nat → Value} (tk : Tk w0 p S c s) : StW i1 i2 i3 i4 w0 p S c s s' R n l (fun _ => false) u w0.drew :=
  ⟨(fun h => by cases h), (fun h => by cases h), (After.rfl.draws 1).but, fun _ => ⟨tk.after (After.rfl.draws 1), After.rfl.draws 1⟩, (fun h => by cases h), (fun h => by cases h), (fun h => by cases h)⟩
theorem own_typ {w : World} {B : Nat} {v : Value} {e : TypeId} {sz n : Nat} {xs : List Value} (h : w.ownsRow B e sz v n xs) {k : Nat} (hk : v.ownBlock = some k) : ∃ cs fr, w.heap[k]? = some (.cells cs e fr) := by
  rcases h.2 with ⟨h3, _⟩ | ⟨g', cap, cur, h3, hB, hh, _⟩
  · rw [h3] at hk; cases hk
  · rw [h3] at hk
    cases hk
    exact ⟨_, _, hh⟩
set_option maxHeartbeats 2000000 in
theorem run_ok (w : World) (c : Cf) (hc : c.Ok) (a : Option Addr) (n d : Nat) (xs : List Stp) (hr : SRow w a n xs) (hn : n ≤ 100) (hf : Fine xs) :
    Calls Tryz.prog 50 #[fVal c.k c.n c.st, .slice a n d] w fun e w' => ∃ v, e = .returned (.tuple #[v, .bool true]) ∧ ORds w' w.heap.size v (Ts.new.outs c xs) ∧ After w w' := by
  have HN := hideIt (fun W => filterNew_ok W c hc)
  have HR := hideIt (And.intro hr hf)
  have hn' : (n : Int) ≤ 100 := by omega
  clear hc hr hf
  go_enter Tryz.func50, Tryz.ntmps50
  go_wp2_with fail
  refine (HN.out _).mono ?_
  rintro e w1 ⟨p, S, rfl, tk, hS, a1⟩
  have HT := hideIt (And.intro tk (And.intro hS ((After.rfl.alloc _).trans a1)))
  clear tk hS a1
  go_wp2_with fail
  go_loopw [8, 9] (fun o i wr => ∃ (j : Nat) (S : Nat → Prop), j ≤ n ∧ i = .int .i64 j ∧ Tk wr p S c (Ts.new.run c (xs.take j)) ∧ ORds wr w.heap.size o (Ts.new.outs c (xs.take j)) ∧ (∀ k, S k → w.heap.size ≤ k) ∧ After w wr) (fun _ i _ => n - (intOf i).toNat)
  case atStart =>
    obtain ⟨tk, hS, aw⟩ := HT.out
    exact ⟨0, S, Nat.zero_le _, rfl, tk, World.ownsRow_nil _ _ _ _, (fun k hk => by have := hS k hk; simp at this; omega), aw⟩
  case round =>
    obtain ⟨j, S2, hj, rfl, tk, ho, hS2, aw⟩ := hrel
    by_cases hjn : j < n
    · have i1 : (j : Int) < (n : Int) := by omega
      obtain ⟨b, off, x, rfl, hb, hx, k0, k1, hin⟩ := HR.out.1.at_ hjn
      have hlt : b < wr.heap.size := Nat.lt_of_lt_of_le hb aw.size
      have herr := HR.out.2.err c hx
      obtain ⟨sj, hsj⟩ : ∃ sj, Ts.new.run c (xs.take j) = sj := ⟨_, rfl⟩
      obtain ⟨R, hR⟩ : ∃ R, sj.read c x.tick x.l = R := ⟨_, rfl⟩
      obtain ⟨s1, hs1⟩ : ∃ s1, sj.step c x.tick x.l = s1 := ⟨_, rfl⟩
      rw [hsj] at tk herr
      have hgo : sj.go c x.tick x.l = s1 := by unfold Ts.go; rw [if_pos herr]; exact hs1
      have hout : sj.out c x.tick x.l = R := by unfold Ts.out; rw [if_pos herr]; exact hR
      have hSl := tk.lt
      have HCe : Hid (∀ W, But (fun i => S2 i ∨ wr.heap.size ≤ i) wr W → W.cell? ⟨b, off + j * 2, none⟩ = some (.int .i64 x.tick) ∧ W.cell? ⟨b, off + j * 2 + 1, none⟩ = some (.slice x.a x.n x.d)) := fun W bW => by
        have hnb : ¬ (S2 b ∨ wr.heap.size ≤ b) := fun h => by
          rcases h with h | h
          · have := hS2 b h; omega
          · omega
        exact ⟨((bW.cell hlt hnb _).trans (aw.cell hb _)).trans k0, ((bW.cell hlt hnb _).trans (aw.cell hb _)).trans k1⟩
      have hxn : x.n ≤ 5864062014634 := by have := HR.out.2.few j x hx; have := hin.1.1; omega
      have hsb : ∀ i, S2 i → w.heap.size ≤ i ∧ i < wr.heap.size := fun i hi => ⟨hS2 i hi, hSl i hi⟩
      have HH := hideIt (And.intro tk (And.intro ho (And.intro hS2 (And.intro aw (And.intro hx (And.intro hin (And.intro herr (And.intro hgo (And.intro hout (And.intro hxn (And.intro hsb (And.intro hsj (And.intro hR hs1)))))))))))))
      clear tk ho hS2 aw hx herr hin k0 k1 hgo hout hxn hsb hSl hsj hR hs1
      go_wp2_with fail
      refine region_inv (by kernel_rfl) (Tab.J (⟨19, fun i => [26, 27, 28, 29, 30, 31, 32, 33, 34, 35, 36, 37, 38, 25, 39, 40, 10, 1017, 11].getD i 0, fun i => ([some (Ptr p), some (.slice (some ⟨b, off, none⟩) n d), some (.int .i64 (j : Int)), some (.pointer (some ⟨b, off + j * 2, none⟩)), some (.pointer (some ⟨b, off + j * 2, none⟩)), some (.int .i64 x.tick), some (.slice (some ⟨b, off, none⟩) n d), some (.int .i64 (j : Int)), some (.pointer (some ⟨b, off + j * 2, none⟩)), some (.pointer (some ⟨b, off + j * 2 + 1, none⟩)), some (.slice x.a x.n x.d), none, some (.tuple #[.agg #[.int .i64 (R).s, .int .i64 (R).v], .int .i64 0]), some (.tuple #[.agg #[.int .i64 (R).s, .int .i64 (R).v], .int .i64 0]), some (.agg #[.int .i64 (R).s, .int .i64 (R).v]), some (.int .i64 0), none, none, some (.int .i64 0)] : List (Option Value)).getD i none, StW 11 12 16 17 wr p S2 c (sj) (s1) (R) x.n x.l⟩ : Tab) _) ⟨rfl, rfl, fun _ _ => rfl, (fun _ _ _ _ h => by cases h), StW.first HH.out.1⟩ ?_ ?_
      · exact ⟨inv_move (.inl rfl) rfl rfl rfl rfl rfl rfl rfl rfl (StW.keep (neB rfl) (neB rfl) (neB rfl) (neB rfl) (neB rfl) (neB rfl)) rfl,
          inv_move (.inl rfl) rfl rfl rfl rfl rfl rfl rfl rfl (StW.keep (neB rfl) (neB rfl) (neB rfl) (neB rfl) (neB rfl) (neB rfl)) rfl,
          inv_move (.inl rfl) rfl rfl rfl rfl rfl rfl rfl rfl (StW.keep (neB rfl) (neB rfl) (neB rfl) (neB rfl) (neB rfl) (neB rfl)) rfl,
          inv_index rfl rfl rfl rfl rfl rfl rfl rfl rfl (StW.keep (neB rfl) (neB rfl) (neB rfl) (neB rfl) (neB rfl) (neB rfl)) rfl rfl (fun w => indexS w _ _ _ _ _ i1),
          inv_field rfl rfl rfl rfl rfl rfl rfl rfl rfl (StW.keep (neB rfl) (neB rfl) (neB rfl) (neB rfl) (neB rfl) (neB rfl)) rfl (fun w => fieldS0 w _ _),
          inv_load rfl rfl rfl rfl rfl rfl rfl rfl rfl (StW.keep (neB rfl) (neB rfl) (neB rfl) (neB rfl) (neB rfl) (neB rfl)) rfl (fun L u w h => loadI (HCe.out w h.bw).1),
          inv_move (.inl rfl) rfl rfl rfl rfl rfl rfl rfl rfl (StW.keep (neB rfl) (neB rfl) (neB rfl) (neB rfl) (neB rfl) (neB rfl)) rfl,
          inv_move (.inl rfl) rfl rfl rfl rfl rfl rfl rfl rfl (StW.keep (neB rfl) (neB rfl) (neB rfl) (neB rfl) (neB rfl) (neB rfl)) rfl,
          inv_index rfl rfl rfl rfl rfl rfl rfl rfl rfl (StW.keep (neB rfl) (neB rfl) (neB rfl) (neB rfl) (neB rfl) (neB rfl)) rfl rfl (fun w => indexS w _ _ _ _ _ i1),
          inv_field rfl rfl rfl rfl rfl rfl rfl rfl rfl (StW.keep (neB rfl) (neB rfl) (neB rfl) (neB rfl) (neB rfl) (neB rfl)) rfl (fun w => fieldS1 w _ _),
          inv_load rfl rfl rfl rfl rfl rfl rfl rfl rfl (StW.keep (neB rfl) (neB rfl) (neB rfl) (neB rfl) (neB rfl) (neB rfl)) rfl (fun L u w h => loadL (HCe.out w h.bw).2),
          inv_call rfl rfl rfl rfl rfl rfl rfl rfl (enterP Tryz.func8 (by kernel_rfl) (by kernel_rfl)) (fun a w L hv hd hl h => by
            rw [show (#[Operand.tmp 36] : Array Operand).map a.eval = #[a.eval (.tmp 36)] from by simp, hv _ _ rfl]
            exact copied_here HH.out.2.2.2.2.2.1 HH.out.2.2.2.1 HH.out.2.2.2.2.2.2.2.2.2.1 HH.out.2.2.2.2.2.2.2.2.2.2.1 (neB rfl) (neB rfl) (neB rfl) (neB rfl) rfl hl h),
          inv_call rfl rfl rfl rfl rfl rfl rfl rfl (enterP Tryz.func9 (by kernel_rfl) (by kernel_rfl)) (fun a w L hv hd hl h => by
            rw [show (#[Operand.tmp 26, Operand.tmp 31, Operand.tmp 37] : Array Operand).map a.eval = #[a.eval (.tmp 26), a.eval (.tmp 31), a.eval (.tmp 37)] from by simp, hv (.tmp 26) _ rfl, hv (.tmp 31) _ rfl]
            exact step_here (fun i hi => (HH.out.2.2.2.2.2.2.2.2.2.2.1 i hi).2) HH.out.2.2.2.2.2.2.1 HH.out.2.2.2.2.2.2.2.1 HH.out.2.2.2.2.2.2.2.2.1 (neB rfl) (neB rfl) (neB rfl) (neB rfl) rfl (hd 11 rfl) hl h),
          inv_move (.inl rfl) rfl rfl rfl rfl rfl rfl rfl rfl (StW.keep (neB rfl) (neB rfl) (neB rfl) (neB rfl) (neB rfl) (neB rfl)) rfl,
          inv_extract rfl rfl rfl rfl rfl rfl rfl rfl rfl (StW.keep (neB rfl) (neB rfl) (neB rfl) (neB rfl) (neB rfl) (neB rfl)) rfl (fun w => run_extract0 _ _ w),
          inv_extract rfl rfl rfl rfl rfl rfl rfl rfl rfl (StW.keep (neB rfl) (neB rfl) (neB rfl) (neB rfl) (neB rfl) (neB rfl)) rfl (fun w => run_extract1 _ _ w),
          inv_alloc rfl rfl rfl rfl rfl rfl rfl rfl rfl run_allocReading (fun L u w hl h => h.alloc hl (neB rfl) (neB rfl) (neB rfl) (neB rfl)),
          inv_store rfl rfl rfl rfl rfl rfl rfl (fun L a w _ hd hl h => by
            obtain ⟨g, hg, hh, hW⟩ := h.store hl (hd 12 rfl) (hd 16 rfl) (neB rfl) (neB rfl) (neB rfl)
            refine ⟨_, ?_, hW⟩
            rw [show a.eval (.tmp 10) = Ptr g from hg]
            exact run_storeReading hh _ _),
          inv_move (.inr rfl) rfl rfl rfl rfl rfl rfl rfl rfl (StW.keep (neB rfl) (neB rfl) (neB rfl) (neB rfl) (neB rfl) (neB rfl)) rfl,
          trivial⟩
      intro a7 w7 L7 hL7 J7
      have e7 := J7.fin hL7 rfl
      have W7 := J7.other
      obtain ⟨g7, hg7, hge7, hb7⟩ := W7.al (hL7 16 (Nat.le_of_ble_eq_true rfl))
      rw [hL7 17 (Nat.le_of_ble_eq_true rfl)] at hb7
      obtain ⟨S7, tk7, hS7⟩ := W7.tk1 (hL7 12 (Nat.le_of_ble_eq_true rfl))
      have bw7 := W7.bw
      clear J7 W7
      rw [e7]
      clear e7
      generalize hv7 : Tab.u _ a7 = U7 at *
      simp only [Tab.puts, List.getD_cons_succ, List.getD_cons_zero, Option.getD_some, Option.getD_none, hg7, List.setIfInBounds_toArray, List.set_cons_succ, List.set_cons_zero, List.set_nil]
      clear hg7 hv7 hL7
      generalize U7 11 = v7
      clear U7
      obtain ⟨tk, ho, hS2, aw, hx, hin, herr, hgo, hout, hxn, hsb, hsj, hR, hs1⟩ := HH.out
      have hno : ∀ k, u8.ownBlock = some k → ¬ (S2 k ∨ wr.heap.size ≤ k) := fun k hk h => by
        rcases h with h | h
        · obtain ⟨cs, fr, hc⟩ := own_typ ho hk
          exact tk.typ h hc
        · have := (ho.lt k hk).2
          omega
      have ho7 := own_but ho bw7 hno
      have a7' : After w w7 := aw.then bw7 (fun i hi h => by
        rcases h with h | h
        · have := hS2 i h; omega
        · have := aw.size; omega)
      obtain ⟨hg0, e0, e1, e2, e3⟩ := two_at hb7
      have hlen : (Ts.new.outs c (xs.take j)).length = j := by rw [Ts.outs_length, List.length_take, HR.out.1.1]; omega
      have HK := hideIt (And.intro ho7 (And.intro a7' (And.intro tk7 (And.intro hx (And.intro hsj (And.intro hR (And.intro hs1 (And.intro hlen (fun i (hi : S7 i) => (hS7 i hi).elim (fun h => hS2 i h) (fun h => Nat.le_trans aw.size h))))))))))
      obtain ⟨i0, hi0, hz⟩ := Option.map_eq_some_iff.1 Tryz.infoReading
      simp only [Prod.mk.injEq] at hz
      obtain ⟨hz0, hz1, hz2⟩ := hz
      clear tk ho hS2 aw hx hin herr hgo hout hxn hsb hsj hR hs1 hno ho7 a7' tk7 hlen hb7 hS7 bw7 HH HCe hge7
      go_wp2_with (at_builtin; refine wpList_append_own_at _ rfl (.tmp 43) (.tmp 45) 108 rfl w.heap.size 38 i0 _ 2 16 Tryz.underlying108 hi0 hz0 hz1 hz2 rfl (by decide) u8 _ (rds (Ts.new.outs c (xs.take j))) rfl (HK.out.1.alloc _) ⟨w7.heap.size, 0, none⟩ 1 1 [.int .i64 R.s, .int .i64 R.v] rfl rfl (World.news_of_block (cs := #[_, _]) (t := 38) (fr := (0, 0)) (heap_alloc_new w7 _)) (by simp [Value.oneCell']) (by have := HK.out.2.2.2.2.2.2.2.1; unfold maxLen; omega) (by have := HK.out.2.2.2.2.2.2.2.1; omega) (by have := HK.out.2.1.size; simp; omega) ?_; intro v8 w8 h1 h2 _ h4; have HV := hideIt (And.intro h1 (And.intro h2 h4)); clear h1 h2 h4)
      go_roundw
      case rel =>
        obtain ⟨ho7, a7', tk7, hx, hsj, hR, hs1, hlen, hS7⟩ := HK.out
        obtain ⟨h1, h2, h4⟩ := HV.out
        have b8 : But (fun k => u8.ownBlock = some k) w7 w8 := (After.rfl.alloc _).but.then (But.grown But.rfl h2 (fun k hk _ => hk)) (fun _ _ t => t)
        refine ⟨j + 1, S7, by omega, by go_num, ?_, ?_, hS7, a7'.then b8 (fun i hi t => by have := (ho7.lt i t).1; omega)⟩
        · rw [Ts.run_succ c Ts.new hx, hsj, hs1]
          refine tk7.but b8 (fun i hi t => ?_)
          obtain ⟨cs, fr, hc⟩ := own_typ ho7 t
          exact tk7.typ hi hc
        · rw [Ts.outs_succ c Ts.new hx, hsj, hR]
          have e : rds (Ts.new.outs c (xs.take j)) ++ [Value.int .i64 R.s, .int .i64 R.v] = rds (Ts.new.outs c (xs.take j) ++ [R]) := by rw [rds_append]; rfl
          rw [e] at h1
          have el : (Ts.new.outs c (xs.take j) ++ [R]).length = (Ts.new.outs c (xs.take j)).length + 1 := by simp
          unfold ORds
          rw [el]
          exact h1
      case measure => simp [intOf]; omega
    · have i1 : ¬ (j : Int) < (n : Int) := by omega
      have hjn' : j = n := by omega
      rw [hjn', ← HR.out.1.1, List.take_length] at ho
      have HF := hideIt (And.intro ho aw)
      clear ho aw tk hS2 hjn'
      go_wp2_with fail
      go_ret2
      exact ⟨_, rfl, HF.out⟩
end Go.Proofs.YtgapnimicaopcaaGreat
/-
  are: are readings these?
-/
namespace Go.Proofs.YtgapnimicaopcaaGreat
open Go.RowKit
set_option maxRecDepth 8000
set_option maxHeartbeats 1000000 in
theorem are_ok (w : World) (c : Cf) (hc : c.Ok) (a : Option Addr) (n d : Nat) (xs : List Stp) (hr : SRow w a n xs) (hn : n ≤ 100) (hf : Fine xs) (b : Option Addr) (m g : Nat) (zs : List Int) (hz : IRow w b m zs) (hm : m = 2 * n) (hv : ∀ i r, (Ts.new.outs c xs)[i]? = some r → zs.getD (2 * i) 0 = r.s ∧ zs.getD (2 * i + 1) 0 = r.v) :
    Calls Tryz.prog 28 #[fVal c.k c.n c.st, .slice a n d, .slice b m g] w fun e w' => e = .returned (.bool true) ∧ After w w' := by
  have HRun := hideIt (fun W (aW : After w W) => run_ok W c hc a n d xs (hr.after aW) hn hf)
  have hl : (Ts.new.outs c xs).length = n := by rw [Ts.outs_length]; exact hr.1
  obtain ⟨ys, hys⟩ : ∃ ys, Ts.new.outs c xs = ys := ⟨_, rfl⟩
  rw [hys] at HRun hv hl
  have HZ := hideIt (And.intro hz hv)
  have HL := hideIt hl
  have hm' : (m : Int) = 2 * (n : Int) := by omega
  have hn' : (n : Int) ≤ 100 := by omega
  clear hc hr hf hys hz hv hl
  go_enter Tryz.func28, Tryz.ntmps28
  go_wp2_with fail
  refine (HRun.out _ (After.rfl.alloc _)).mono ?_
  rintro e w1 ⟨v, rfl, ho, a1⟩
  obtain ⟨oa, oc, rfl, hd⟩ := own_drow ho
  rw [HL.out] at hd
  have HD := hideIt (And.intro hd ((After.rfl.alloc _).trans a1))
  clear ho hd a1
  rw [HL.out]
  have j1 : wrap64 (2 * (n : Int)) = 2 * (n : Int) := by unfold wrap64; omega
  go_wp2_with fail
  go_loopw [9] (fun i wr => ∃ j : Nat, j ≤ n ∧ i = .int .i64 j ∧ After w1 wr) (fun i _ => n - (intOf i).toNat)
  case atStart => exact ⟨0, Nat.zero_le _, rfl, After.rfl⟩
  case round =>
    obtain ⟨j, hj, rfl, aw⟩ := hrel
    by_cases hjn : j < n
    · have i1 : (j : Int) < (n : Int) := by omega
      obtain ⟨b1, off1, r, rfl, hb1, hx, k0, k1⟩ := HD.out.1.2 j hjn
      have k0' := (aw.cell hb1 _).trans k0
      have k1' := (aw.cell hb1 _).trans k1
      obtain ⟨q, hq⟩ : ∃ q : Nat, q = 2 * j := ⟨_, rfl⟩
      obtain ⟨b2, off2, rfl, hb2, l0⟩ := HZ.out.1.2 q (by omega)
      obtain ⟨_, _, e3, _, l1⟩ := HZ.out.1.2 (q + 1) (by omega)
      cases e3
      have hv := HZ.out.2 j r hx
      rw [← hq] at hv
      rw [hv.1] at l0
      rw [hv.2] at l1
      have l0' := (aw.cell (Nat.lt_of_lt_of_le hb2 HD.out.2.size) _).trans ((HD.out.2.cell hb2 _).trans l0)
      have l1' := (aw.cell (Nat.lt_of_lt_of_le hb2 HD.out.2.size) _).trans ((HD.out.2.cell hb2 _).trans l1)
      have q1 : (2 : Int) * (j : Int) = (q : Int) := by omega
      have q2 : (q : Int) < (m : Int) := by omega
      have q3 : (q : Int) + 1 < (m : Int) := by omega
      have q4 : IntKind.i64.wrap (q : Int) = (q : Int) := IntWalk.i64_in _ (by omega)
      have q5 : IntKind.i64.wrap ((q : Int) + 1) = ((q + 1 : Nat) : Int) := by rw [IntWalk.i64_in _ (by omega)]; omega
      have q6 : ((q + 1 : Nat) : Int) < (m : Int) := by omega
      have AW := hideIt aw
      clear hv hx l0 l1 hq k0 k1 aw
      go_wp2_with fail
      go_quiet (fail)
      go_wp2_with fail
      go_roundw
      case rel => exact ⟨j + 1, by omega, by go_num, AW.out.draws _⟩
      case measure => simp [intOf]; omega
    · have i1 : ¬ (j : Int) < (n : Int) := by omega
      go_wp2_with fail
      go_ret
      exact ⟨rfl, HD.out.2.trans aw⟩
end Go.Proofs.YtgapnimicaopcaaGreat
/-
  works: the chapter's filters.
-/
namespace Go.Proofs.YtgapnimicaopcaaGreat
open Go.RowKit
set_option maxRecDepth 8000
theorem kind_any (k : Int) (w : World) : Calls Tryz.prog 26 #[.int .i64 k] w fun e w' => e = .returned (.agg #[.int .i64 k, .int .i64 0, .int .i64 0]) ∧ w' = w.alloc (.cells #[.int .i64 k, .int .i64 0, .int .i64 0] 42) := by
  go_enter Tryz.func26, Tryz.ntmps26
  go_wp2
  exact bodyPost_ret (v := .agg #[.int .i64 k, .int .i64 0, .int .i64 0]) (by simp [results, Tryz.results26, go_sem]) rfl ⟨rfl, rfl⟩
theorem whole_any (k : Int) (w : World) : Calls Tryz.prog 27 #[.int .i64 k] w fun e w' => e = .returned (.agg #[.int .i64 0, .int .i64 k, .int .i64 0]) ∧ w' = w.alloc (.cells #[.int .i64 0, .int .i64 k, .int .i64 0] 42) := by
  go_enter Tryz.func27, Tryz.ntmps27
  go_wp2
  exact bodyPost_ret (v := .agg #[.int .i64 0, .int .i64 k, .int .i64 0]) (by simp [results, Tryz.results27, go_sem]) rfl ⟨rfl, rfl⟩
/-- A literal of reals, of steps, laid in a new block. -/
theorem lit_rrow {w : World} {g c : Nat} {cs : Array Value} {xs : List Rl} (h : w.heap[g]? = some (.cells cs 42 (0, 0))) (hz : cs.toList = rls xs) (hc : c = xs.length) : RRow w (some ⟨g, 0, none⟩) c xs := by
  subst hc
  refine ⟨rfl, fun i hi => ?_⟩
  obtain ⟨e0, e1, e2⟩ := rls_at xs i xs[i] (by simp [hi])
  rw [← hz, Array.getElem?_toList] at e0 e1 e2
  refine ⟨g, 0, xs[i], rfl, blk_lt h, by simp [hi], ?_, ?_, ?_⟩
  · rw [Nat.zero_add]; exact blk_cell h e0
  · rw [Nat.zero_add]; exact blk_cell h e1
  · rw [Nat.zero_add]; exact blk_cell h e2
theorem lit_srow {w : World} {g c : Nat} {cs : Array Value} {xs : List Stp} (h : w.heap[g]? = some (.cells cs 36 (0, 0))) (hz : cs.toList = stps xs) (hc : c = xs.length) (hin : ∀ x ∈ xs, x.In w) : SRow w (some ⟨g, 0, none⟩) c xs := by
  subst hc
  refine ⟨rfl, fun i hi => ?_⟩
  obtain ⟨e0, e1⟩ := stps_at xs i xs[i] (by simp [hi])
  rw [← hz, Array.getElem?_toList] at e0 e1
  refine ⟨g, 0, xs[i], rfl, blk_lt h, by simp [hi], ?_, ?_, hin _ (List.getElem_mem hi)⟩
  · rw [Nat.zero_add]; exact blk_cell h e0
  · rw [Nat.zero_add]; exact blk_cell h e1
theorem in_nil (w : World) (t : Int) : (⟨t, none, 0, 0, []⟩ : Stp).In w := ⟨RRow.nil w none, fun _ => ⟨rfl, rfl⟩⟩
theorem in_lit {w : World} {t : Int} {g n : Nat} {cs : Array Value} {l : List Rl} (h : w.heap[g]? = some (.cells cs 42 (0, 0))) (hz : cs.toList = rls l) (hc : n = l.length) : (⟨t, some ⟨g, 0, none⟩, n, n, l⟩ : Stp).In w := ⟨lit_rrow h hz hc, fun e => by cases e⟩
/-- A block of a world that only grew. -/
theorem old_blk {w w' : World} {g : Nat} {o : Obj} (a : After w w') (h : w.heap[g]? = some o) : w'.heap[g]? = some o := (a.block g (blk_lt h) (fun t => t)).trans h
theorem nth_blk {w W : World} {o : Obj} {g : Nat} (a : After (w.alloc o) W) (hg : w.heap.size = g) : W.heap[g]? = some o := by
  subst hg
  exact old_blk a (heap_alloc_new w o)
/-- Steps of which none is refused, by a look at them. -/
def risB : List Stp → Bool
  | [] => true
  | [_] => true
  | x :: y :: r => decide (x.tick < y.tick) && risB (y :: r)
def fineB (xs : List Stp) : Bool := xs.all (fun x => decide (0 ≤ x.tick) && decide (x.tick ≤ 2147483647) && decide (x.l.length ≤ 64) && mays x.l) && risB xs
theorem risB_at : ∀ {xs : List Stp}, risB xs = true → ∀ (i : Nat) (x y : Stp), xs[i]? = some x → xs[i + 1]? = some y → x.tick < y.tick
  | [], _, i, x, y, hx, _ => by simp at hx
  | [_], _, i, x, y, _, hy => by simp at hy
  | a :: b :: r, h, i, x, y, hx, hy => by
    simp only [risB, Bool.and_eq_true, decide_eq_true_eq] at h
    cases i with
    | zero => simp at hx hy; subst hx; subst hy; exact h.1
    | succ i => exact risB_at h.2 i x y (by simpa using hx) (by simpa using hy)
theorem fine_of {xs : List Stp} (h : fineB xs = true) : Fine xs := by
  unfold fineB at h
  rw [Bool.and_eq_true] at h
  have h1 : ∀ (i : Nat) (x : Stp), xs[i]? = some x → ((0 ≤ x.tick ∧ x.tick ≤ 2147483647) ∧ x.l.length ≤ 64) ∧ mays x.l = true := fun i x hx => by
    have := List.all_eq_true.1 h.1 x (List.mem_of_getElem? hx)
    simpa only [Bool.and_eq_true, decide_eq_true_eq] using this
  exact ⟨fun i x hx => (h1 i x hx).1.1.1, fun i x hx => (h1 i x hx).1.1.2, fun i x hx => (h1 i x hx).1.2, fun i x hx => (h1 i x hx).2, risB_at h.2⟩
/-- Readings, state and value by turns. -/
def flat : List Rd → List Int
  | [] => []
  | r :: t => r.s :: r.v :: flat t
theorem flat_at (rs : List Rd) : ∀ i r, rs[i]? = some r → (flat rs).getD (2 * i) 0 = r.s ∧ (flat rs).getD (2 * i + 1) 0 = r.v := by
  induction rs with
  | nil => intro i r h; simp at h
  | cons a t ih =>
    intro i r h
    cases i with
    | zero => simp at h; subst h; exact ⟨rfl, rfl⟩
    | succ i =>
      have := ih i r (by simpa using h)
      rw [show 2 * (i + 1) = 2 * i + 1 + 1 by omega]
      exact this
theorem flat_length (rs : List Rd) : (flat rs).length = 2 * rs.length := by
  induction rs with
  | nil => rfl
  | cons a t ih => simp only [flat, List.length_cons, ih]; omega
/-- A closed example: a filter, steps, what is read. -/
theorem are_lit {w : World} {c : Cf} (hc : c.Ok) {a : Option Addr} {n d : Nat} {xs : List Stp} (hr : SRow w a n xs) (hn : n ≤ 100) (hf : fineB xs = true) {rs : List Rd} (ho : Ts.new.outs c xs = rs) {g m : Nat} {cs : Array Value} (hb : w.heap[g]? = some (.cells cs 3 (0, 0))) (hz : cs.toList = i64s (flat rs)) (hm : m = (flat rs).length) :
    Calls Tryz.prog 28 #[fVal c.k c.n c.st, .slice a n d, .slice (some ⟨g, 0, none⟩) m m] w fun e w' => e = .returned (.bool true) ∧ After w w' := by
  have hl : rs.length = n := by rw [← ho, Ts.outs_length]; exact hr.1
  exact are_ok w c hc a n d xs hr hn (fine_of hf) _ m m (flat rs) (lit_irow hb hz hm) (by rw [hm, flat_length, hl]) (by rw [ho]; exact flat_at rs)
theorem mid_one (x : Int) : L9.mid [x] = x := (L9.mid_iff (xs := [x]) (by simp) x).1 (by simp [L9.less, L9.noMore, L9.place])
theorem mid_three : L9.mid [5000, 9000, 1000] = 5000 := (L9.mid_iff (xs := [5000, 9000, 1000]) (by simp) 5000).1 (by decide)
def wk1 (g0 g1 g2 : Nat) : List Stp := [⟨0, some ⟨g0, 0, none⟩, 1, 1, [⟨0, 366, -1⟩]⟩, ⟨1, none, 0, 0, []⟩, ⟨2, none, 0, 0, []⟩, ⟨3, none, 0, 0, []⟩, ⟨4, some ⟨g1, 0, none⟩, 1, 1, [⟨2, 0, 0⟩]⟩, ⟨5, some ⟨g2, 0, none⟩, 1, 1, [⟨3, 0, 0⟩]⟩]
def wk2 (g0 g1 g2 : Nat) : List Stp := [⟨0, some ⟨g0, 0, none⟩, 1, 1, [⟨0, 1, 0⟩]⟩, ⟨8, some ⟨g1, 0, none⟩, 2, 2, [⟨0, 1, 0⟩, ⟨0, 1, 0⟩]⟩, ⟨9, some ⟨g2, 0, none⟩, 1, 1, [⟨0, 0, 0⟩]⟩]
def wk3 (g0 g1 g2 : Nat) : List Stp := [⟨0, some ⟨g0, 0, none⟩, 3, 3, [⟨0, 5, 0⟩, ⟨0, 9, 0⟩, ⟨0, 1, 0⟩]⟩, ⟨1, some ⟨g1, 0, none⟩, 1, 1, [⟨2, 0, 0⟩]⟩, ⟨2, some ⟨g2, 0, none⟩, 1, 1, [⟨0, 7, 0⟩]⟩]
theorem outs_cons {c : Cf} {s s' : Ts} {x : Stp} {r : List Stp} {rd : Rd} {rest : List Rd} (h1 : s.read c x.tick x.l = rd) (h2 : s.step c x.tick x.l = s') (h3 : s'.outs c r = rest) : s.outs c (x :: r) = rd :: rest := by
  rw [← h3, ← h2, ← h1]
  rfl
theorem outs1 (g0 g1 g2 : Nat) : Ts.new.outs ⟨0, 0, 2⟩ (wk1 g0 g1 g2) = [⟨1, 36600⟩, ⟨2, 36600⟩, ⟨2, 36600⟩, ⟨3, 0⟩, ⟨4, 0⟩, ⟨4, 0⟩] := by
  have r0 : Ts.read ⟨0, 0, 2⟩ 0 Ts.new [⟨0, 366, -1⟩] = ⟨1, 36600⟩ := by kernel_rfl
  have t0 : Ts.step ⟨0, 0, 2⟩ 0 Ts.new [⟨0, 366, -1⟩] = ⟨⟨[], none⟩, ⟨true, false, 0⟩, 36600, true, 1⟩ := by kernel_rfl
  have r1 : Ts.read ⟨0, 0, 2⟩ 1 ⟨⟨[], none⟩, ⟨true, false, 0⟩, 36600, true, 1⟩ [] = ⟨2, 36600⟩ := by kernel_rfl
  have t1 : Ts.step ⟨0, 0, 2⟩ 1 ⟨⟨[], none⟩, ⟨true, false, 0⟩, 36600, true, 1⟩ [] = ⟨⟨[], none⟩, ⟨true, false, 0⟩, 36600, true, 2⟩ := by kernel_rfl
  have r2 : Ts.read ⟨0, 0, 2⟩ 2 ⟨⟨[], none⟩, ⟨true, false, 0⟩, 36600, true, 2⟩ [] = ⟨2, 36600⟩ := by kernel_rfl
  have t2 : Ts.step ⟨0, 0, 2⟩ 2 ⟨⟨[], none⟩, ⟨true, false, 0⟩, 36600, true, 2⟩ [] = ⟨⟨[], none⟩, ⟨true, false, 0⟩, 36600, true, 3⟩ := by kernel_rfl
  have r3 : Ts.read ⟨0, 0, 2⟩ 3 ⟨⟨[], none⟩, ⟨true, false, 0⟩, 36600, true, 3⟩ [] = ⟨3, 0⟩ := by kernel_rfl
  have t3 : Ts.step ⟨0, 0, 2⟩ 3 ⟨⟨[], none⟩, ⟨true, false, 0⟩, 36600, true, 3⟩ [] = ⟨⟨[], none⟩, ⟨true, false, 0⟩, 0, false, 4⟩ := by kernel_rfl
  have r4 : Ts.read ⟨0, 0, 2⟩ 4 ⟨⟨[], none⟩, ⟨true, false, 0⟩, 0, false, 4⟩ [⟨2, 0, 0⟩] = ⟨4, 0⟩ := by kernel_rfl
  have t4 : Ts.step ⟨0, 0, 2⟩ 4 ⟨⟨[], none⟩, ⟨true, false, 0⟩, 0, false, 4⟩ [⟨2, 0, 0⟩] = ⟨⟨[], none⟩, ⟨true, true, 4⟩, 0, false, 5⟩ := by kernel_rfl
  have r5 : Ts.read ⟨0, 0, 2⟩ 5 ⟨⟨[], none⟩, ⟨true, true, 4⟩, 0, false, 5⟩ [⟨3, 0, 0⟩] = ⟨4, 0⟩ := by kernel_rfl
  have t5 : Ts.step ⟨0, 0, 2⟩ 5 ⟨⟨[], none⟩, ⟨true, true, 4⟩, 0, false, 5⟩ [⟨3, 0, 0⟩] = ⟨⟨[], none⟩, ⟨true, true, 4⟩, 0, false, 6⟩ := by kernel_rfl
  unfold wk1
  exact outs_cons r0 t0 (outs_cons r1 t1 (outs_cons r2 t2 (outs_cons r3 t3 (outs_cons r4 t4 (outs_cons r5 t5 rfl)))))
theorem outs2 (g0 g1 g2 : Nat) : Ts.new.outs ⟨4, 4, 9⟩ (wk2 g0 g1 g2) = [⟨0, 0⟩, ⟨1, 75000⟩, ⟨1, 75000⟩] := by
  have r0 : Ts.read ⟨4, 4, 9⟩ 0 Ts.new [⟨0, 1, 0⟩] = ⟨0, 0⟩ := by kernel_rfl
  have t0 : Ts.step ⟨4, 4, 9⟩ 0 Ts.new [⟨0, 1, 0⟩] = ⟨⟨[0], none⟩, ⟨true, false, 0⟩, 0, false, 1⟩ := by kernel_rfl
  have r1 : Ts.read ⟨4, 4, 9⟩ 8 ⟨⟨[0], none⟩, ⟨true, false, 0⟩, 0, false, 1⟩ [⟨0, 1, 0⟩, ⟨0, 1, 0⟩] = ⟨1, 75000⟩ := by kernel_rfl
  have t1 : Ts.step ⟨4, 4, 9⟩ 8 ⟨⟨[0], none⟩, ⟨true, false, 0⟩, 0, false, 1⟩ [⟨0, 1, 0⟩, ⟨0, 1, 0⟩] = ⟨⟨[0, 8], none⟩, ⟨true, false, 8⟩, 75000, true, 9⟩ := by kernel_rfl
  have r2 : Ts.read ⟨4, 4, 9⟩ 9 ⟨⟨[0, 8], none⟩, ⟨true, false, 8⟩, 75000, true, 9⟩ [⟨0, 0, 0⟩] = ⟨1, 75000⟩ := by kernel_rfl
  have t2 : Ts.step ⟨4, 4, 9⟩ 9 ⟨⟨[0, 8], none⟩, ⟨true, false, 8⟩, 75000, true, 9⟩ [⟨0, 0, 0⟩] = ⟨⟨[0, 8], none⟩, ⟨true, false, 9⟩, 75000, true, 10⟩ := by kernel_rfl
  unfold wk2
  exact outs_cons r0 t0 (outs_cons r1 t1 (outs_cons r2 t2 rfl))
theorem outs3a (g0 g1 g2 : Nat) : Ts.new.outs ⟨1, 3, 9⟩ (wk3 g0 g1 g2) = [⟨1, L9.mid [5000, 9000, 1000]⟩, ⟨4, 0⟩, ⟨1, L9.mid [7000]⟩] := by
  have r0 : Ts.read ⟨1, 3, 9⟩ 0 Ts.new [⟨0, 5, 0⟩, ⟨0, 9, 0⟩, ⟨0, 1, 0⟩] = ⟨1, L9.mid [5000, 9000, 1000]⟩ := by kernel_rfl
  have t0 : Ts.step ⟨1, 3, 9⟩ 0 Ts.new [⟨0, 5, 0⟩, ⟨0, 9, 0⟩, ⟨0, 1, 0⟩] = ⟨⟨[5000, 9000, 1000], none⟩, ⟨true, false, 0⟩, L9.mid [5000, 9000, 1000], true, 1⟩ := by kernel_rfl
  have r1 : Ts.read ⟨1, 3, 9⟩ 1 ⟨⟨[5000, 9000, 1000], none⟩, ⟨true, false, 0⟩, L9.mid [5000, 9000, 1000], true, 1⟩ [⟨2, 0, 0⟩] = ⟨4, 0⟩ := by kernel_rfl
  have t1 : Ts.step ⟨1, 3, 9⟩ 1 ⟨⟨[5000, 9000, 1000], none⟩, ⟨true, false, 0⟩, L9.mid [5000, 9000, 1000], true, 1⟩ [⟨2, 0, 0⟩] = ⟨⟨[], none⟩, ⟨true, true, 1⟩, 0, false, 2⟩ := by kernel_rfl
  have r2 : Ts.read ⟨1, 3, 9⟩ 2 ⟨⟨[], none⟩, ⟨true, true, 1⟩, 0, false, 2⟩ [⟨0, 7, 0⟩] = ⟨1, L9.mid [7000]⟩ := by kernel_rfl
  have t2 : Ts.step ⟨1, 3, 9⟩ 2 ⟨⟨[], none⟩, ⟨true, true, 1⟩, 0, false, 2⟩ [⟨0, 7, 0⟩] = ⟨⟨[7000], none⟩, ⟨true, false, 2⟩, L9.mid [7000], true, 3⟩ := by kernel_rfl
  unfold wk3
  exact outs_cons r0 t0 (outs_cons r1 t1 (outs_cons r2 t2 rfl))
theorem outs3 (g0 g1 g2 : Nat) : Ts.new.outs ⟨1, 3, 9⟩ (wk3 g0 g1 g2) = [⟨1, 5000⟩, ⟨4, 0⟩, ⟨1, 7000⟩] := by
  rw [outs3a, mid_three, mid_one]
theorem ok1 : (⟨0, 0, 2⟩ : Cf).Ok := ⟨.inl ⟨rfl, rfl⟩, by decide, by decide⟩
theorem ok2 : (⟨4, 4, 9⟩ : Cf).Ok := ⟨.inr (.inr (.inr (.inr ⟨rfl, by decide, by decide⟩))), by decide, by decide⟩
theorem ok3 : (⟨1, 3, 9⟩ : Cf).Ok := ⟨.inr (.inl ⟨rfl, by decide, by decide, by decide⟩), by decide, by decide⟩
end Go.Proofs.YtgapnimicaopcaaGreat
/-
  works: the chapter's filters: walked.
-/
namespace Go.Proofs.YtgapnimicaopcaaGreat
open Go.RowKit
set_option maxRecDepth 8000
theorem fine1 (g0 g1 g2 : Nat) : fineB (wk1 g0 g1 g2) = true := by kernel_rfl
theorem fine2 (g0 g1 g2 : Nat) : fineB (wk2 g0 g1 g2) = true := by kernel_rfl
theorem fine3 (g0 g1 g2 : Nat) : fineB (wk3 g0 g1 g2) = true := by kernel_rfl
theorem wk_in {w : World} {xs : List Stp} (h : ∀ i, i < xs.length → ∃ x, xs[i]? = some x ∧ x.In w) : ∀ x ∈ xs, x.In w := by
  intro x hx
  obtain ⟨i, hi, rfl⟩ := List.getElem_of_mem hx
  obtain ⟨y, hy, h2⟩ := h i hi
  rw [List.getElem?_eq_getElem hi] at hy
  cases hy
  exact h2
theorem wk1_row {w : World} {g0 g1 g2 g : Nat} (h0 : w.heap[g0]? = some (.cells #[.int .i64 0, .int .i64 366, .int .i64 (-1)] 42 (0, 0))) (h1 : w.heap[g1]? = some (.cells #[.int .i64 2, .int .i64 0, .int .i64 0] 42 (0, 0))) (h2 : w.heap[g2]? = some (.cells #[.int .i64 3, .int .i64 0, .int .i64 0] 42 (0, 0)))
    (h : w.heap[g]? = some (.cells #[.int .i64 0, .slice (some ⟨g0, 0, none⟩) 1 1, .int .i64 1, .slice none 0 0, .int .i64 2, .slice none 0 0, .int .i64 3, .slice none 0 0, .int .i64 4, .slice (some ⟨g1, 0, none⟩) 1 1, .int .i64 5, .slice (some ⟨g2, 0, none⟩) 1 1] 36 (0, 0))) : SRow w (some ⟨g, 0, none⟩) 6 (wk1 g0 g1 g2) :=
  lit_srow h rfl rfl (fun x hx => by
    simp only [wk1, List.mem_cons, List.not_mem_nil, or_false] at hx
    rcases hx with rfl | rfl | rfl | rfl | rfl | rfl
    · exact in_lit h0 rfl rfl
    · exact in_nil w _
    · exact in_nil w _
    · exact in_nil w _
    · exact in_lit h1 rfl rfl
    · exact in_lit h2 rfl rfl)
theorem wk2_row {w : World} {g0 g1 g2 g : Nat} (h0 : w.heap[g0]? = some (.cells #[.int .i64 0, .int .i64 1, .int .i64 0] 42 (0, 0))) (h1 : w.heap[g1]? = some (.cells #[.int .i64 0, .int .i64 1, .int .i64 0, .int .i64 0, .int .i64 1, .int .i64 0] 42 (0, 0))) (h2 : w.heap[g2]? = some (.cells #[.int .i64 0, .int .i64 0, .int .i64 0] 42 (0, 0)))
    (h : w.heap[g]? = some (.cells #[.int .i64 0, .slice (some ⟨g0, 0, none⟩) 1 1, .int .i64 8, .slice (some ⟨g1, 0, none⟩) 2 2, .int .i64 9, .slice (some ⟨g2, 0, none⟩) 1 1] 36 (0, 0))) : SRow w (some ⟨g, 0, none⟩) 3 (wk2 g0 g1 g2) :=
  lit_srow h rfl rfl (fun x hx => by
    simp only [wk2, List.mem_cons, List.not_mem_nil, or_false] at hx
    rcases hx with rfl | rfl | rfl
    · exact in_lit h0 rfl rfl
    · exact in_lit h1 rfl rfl
    · exact in_lit h2 rfl rfl)
theorem wk3_row {w : World} {g0 g1 g2 g : Nat} (h0 : w.heap[g0]? = some (.cells #[.int .i64 0, .int .i64 5, .int .i64 0, .int .i64 0, .int .i64 9, .int .i64 0, .int .i64 0, .int .i64 1, .int .i64 0] 42 (0, 0))) (h1 : w.heap[g1]? = some (.cells #[.int .i64 2, .int .i64 0, .int .i64 0] 42 (0, 0))) (h2 : w.heap[g2]? = some (.cells #[.int .i64 0, .int .i64 7, .int .i64 0] 42 (0, 0)))
    (h : w.heap[g]? = some (.cells #[.int .i64 0, .slice (some ⟨g0, 0, none⟩) 3 3, .int .i64 1, .slice (some ⟨g1, 0, none⟩) 1 1, .int .i64 2, .slice (some ⟨g2, 0, none⟩) 1 1] 36 (0, 0))) : SRow w (some ⟨g, 0, none⟩) 3 (wk3 g0 g1 g2) :=
  lit_srow h rfl rfl (fun x hx => by
    simp only [wk3, List.mem_cons, List.not_mem_nil, or_false] at hx
    rcases hx with rfl | rfl | rfl
    · exact in_lit h0 rfl rfl
    · exact in_lit h1 rfl rfl
    · exact in_lit h2 rfl rfl)
theorem are1 {W : World} {G g0 g1 g2 : Nat} (hr : SRow W (some ⟨G, 0, none⟩) 6 (wk1 g0 g1 g2)) : Calls Tryz.prog 28 #[.agg #[.int .i64 0, .int .i64 0, .int .i64 2], .slice (some ⟨G, 0, none⟩) 6 6, .slice (some ⟨W.heap.size, 0, none⟩) 12 12] (W.alloc (.cells #[.int .i64 1, .int .i64 36600, .int .i64 2, .int .i64 36600, .int .i64 2, .int .i64 36600, .int .i64 3, .int .i64 0, .int .i64 4, .int .i64 0, .int .i64 4, .int .i64 0] 3)) fun e w' => e = .returned (.bool true) ∧ After W w' := by
  have h := are_lit (d := 6) (rs := [⟨1, 36600⟩, ⟨2, 36600⟩, ⟨2, 36600⟩, ⟨3, 0⟩, ⟨4, 0⟩, ⟨4, 0⟩]) ok1 (hr.after (After.rfl.alloc (.cells #[.int .i64 1, .int .i64 36600, .int .i64 2, .int .i64 36600, .int .i64 2, .int .i64 36600, .int .i64 3, .int .i64 0, .int .i64 4, .int .i64 0, .int .i64 4, .int .i64 0] 3))) (by omega) (fine1 g0 g1 g2) (outs1 g0 g1 g2) (heap_alloc_new W _) rfl rfl
  exact h.mono (fun e w' q => ⟨q.1, (After.rfl.alloc _).trans q.2⟩)
theorem are2 {W : World} {G g0 g1 g2 : Nat} (hr : SRow W (some ⟨G, 0, none⟩) 3 (wk2 g0 g1 g2)) : Calls Tryz.prog 28 #[.agg #[.int .i64 4, .int .i64 4, .int .i64 9], .slice (some ⟨G, 0, none⟩) 3 3, .slice (some ⟨W.heap.size, 0, none⟩) 6 6] (W.alloc (.cells #[.int .i64 0, .int .i64 0, .int .i64 1, .int .i64 75000, .int .i64 1, .int .i64 75000] 3)) fun e w' => e = .returned (.bool true) ∧ After W w' := by
  have h := are_lit (d := 3) (rs := [⟨0, 0⟩, ⟨1, 75000⟩, ⟨1, 75000⟩]) ok2 (hr.after (After.rfl.alloc (.cells #[.int .i64 0, .int .i64 0, .int .i64 1, .int .i64 75000, .int .i64 1, .int .i64 75000] 3))) (by omega) (fine2 g0 g1 g2) (outs2 g0 g1 g2) (heap_alloc_new W _) rfl rfl
  exact h.mono (fun e w' q => ⟨q.1, (After.rfl.alloc _).trans q.2⟩)
theorem are3 {W : World} {G g0 g1 g2 : Nat} (hr : SRow W (some ⟨G, 0, none⟩) 3 (wk3 g0 g1 g2)) : Calls Tryz.prog 28 #[.agg #[.int .i64 1, .int .i64 3, .int .i64 9], .slice (some ⟨G, 0, none⟩) 3 3, .slice (some ⟨W.heap.size, 0, none⟩) 6 6] (W.alloc (.cells #[.int .i64 1, .int .i64 5000, .int .i64 4, .int .i64 0, .int .i64 1, .int .i64 7000] 3)) fun e w' => e = .returned (.bool true) ∧ After W w' := by
  have h := are_lit (d := 3) (rs := [⟨1, 5000⟩, ⟨4, 0⟩, ⟨1, 7000⟩]) ok3 (hr.after (After.rfl.alloc (.cells #[.int .i64 1, .int .i64 5000, .int .i64 4, .int .i64 0, .int .i64 1, .int .i64 7000] 3))) (by omega) (fine3 g0 g1 g2) (outs3 g0 g1 g2) (heap_alloc_new W _) rfl rfl
  exact h.mono (fun e w' q => ⟨q.1, (After.rfl.alloc _).trans q.2⟩)
set_option maxHeartbeats 2000000 in
theorem works_any (w : World) : Calls Tryz.prog 11 #[] w fun e w' => e = .returned (.bool true) ∧ After w w' := by
  go_enter Tryz.func11, Tryz.ntmps11
  go_wp2_with fail
  refine (kind_any _ _).mono ?_
  rintro e w' ⟨rfl, rfl⟩
  go_wp2_with fail
  refine (kind_any _ _).mono ?_
  rintro e w' ⟨rfl, rfl⟩
  go_wp2_with fail
  generalize hW : ((((((w.alloc _).alloc _).alloc _).alloc _).alloc _).alloc _) = W1
  have rH1 := wk1_row (w := W1) (g0 := w.heap.size) (g1 := w.heap.size + 1 + 1) (g2 := w.heap.size + 1 + 1 + 1 + 1) (g := w.heap.size + 1 + 1 + 1 + 1 + 1) (by rw [← hW]; exact nth_blk ((((((After.rfl.alloc _).alloc _).alloc _).alloc _).alloc _)) (by simp)) (by rw [← hW]; exact nth_blk ((((After.rfl.alloc _).alloc _).alloc _)) (by simp)) (by rw [← hW]; exact nth_blk ((After.rfl.alloc _)) (by simp)) (by rw [← hW]; exact nth_blk (After.rfl) (by simp))
  have aH1 : After w W1 := by rw [← hW]; exact ((((((After.rfl.alloc _).alloc _).alloc _).alloc _).alloc _).alloc _)
  have H1 := hideIt (And.intro rH1 aH1)
  clear hW rH1 aH1
  go_wp2_with fail
  refine (whole_any _ _).mono ?_
  rintro e w' ⟨rfl, rfl⟩
  go_wp2_with fail
  refine (whole_any _ _).mono ?_
  rintro e w' ⟨rfl, rfl⟩
  go_wp2_with fail
  refine (whole_any _ _).mono ?_
  rintro e w' ⟨rfl, rfl⟩
  go_wp2_with fail
  refine (whole_any _ _).mono ?_
  rintro e w' ⟨rfl, rfl⟩
  go_wp2_with fail
  generalize hW : ((((((((W1.alloc _).alloc _).alloc _).alloc _).alloc _).alloc _).alloc _).alloc _) = W2
  have rH2 := wk2_row (w := W2) (g0 := W1.heap.size + 1) (g1 := W1.heap.size + 1 + 1 + 1 + 1) (g2 := W1.heap.size + 1 + 1 + 1 + 1 + 1 + 1) (g := W1.heap.size + 1 + 1 + 1 + 1 + 1 + 1 + 1) (by rw [← hW]; exact nth_blk (((((((After.rfl.alloc _).alloc _).alloc _).alloc _).alloc _).alloc _)) (by simp)) (by rw [← hW]; exact nth_blk ((((After.rfl.alloc _).alloc _).alloc _)) (by simp)) (by rw [← hW]; exact nth_blk ((After.rfl.alloc _)) (by simp)) (by rw [← hW]; exact nth_blk (After.rfl) (by simp))
  have aH2 : After W1 W2 := by rw [← hW]; exact ((((((((After.rfl.alloc _).alloc _).alloc _).alloc _).alloc _).alloc _).alloc _).alloc _)
  have H2 := hideIt (And.intro rH2 aH2)
  clear hW rH2 aH2
  go_wp2_with fail
  refine (whole_any _ _).mono ?_
  rintro e w' ⟨rfl, rfl⟩
  go_wp2_with fail
  refine (whole_any _ _).mono ?_
  rintro e w' ⟨rfl, rfl⟩
  go_wp2_with fail
  refine (whole_any _ _).mono ?_
  rintro e w' ⟨rfl, rfl⟩
  go_wp2_with fail
  refine (kind_any _ _).mono ?_
  rintro e w' ⟨rfl, rfl⟩
  go_wp2_with fail
  refine (whole_any _ _).mono ?_
  rintro e w' ⟨rfl, rfl⟩
  go_wp2_with fail
  generalize hW : (((((((((W2.alloc _).alloc _).alloc _).alloc _).alloc _).alloc _).alloc _).alloc _).alloc _) = W3
  have rH3 := wk3_row (w := W3) (g0 := W2.heap.size + 1 + 1 + 1) (g1 := W2.heap.size + 1 + 1 + 1 + 1 + 1) (g2 := W2.heap.size + 1 + 1 + 1 + 1 + 1 + 1 + 1) (g := W2.heap.size + 1 + 1 + 1 + 1 + 1 + 1 + 1 + 1) (by rw [← hW]; exact nth_blk ((((((After.rfl.alloc _).alloc _).alloc _).alloc _).alloc _)) (by simp)) (by rw [← hW]; exact nth_blk ((((After.rfl.alloc _).alloc _).alloc _)) (by simp)) (by rw [← hW]; exact nth_blk ((After.rfl.alloc _)) (by simp)) (by rw [← hW]; exact nth_blk (After.rfl) (by simp))
  have aH3 : After W2 W3 := by rw [← hW]; exact (((((((((After.rfl.alloc _).alloc _).alloc _).alloc _).alloc _).alloc _).alloc _).alloc _).alloc _)
  have H3 := hideIt (And.intro rH3 aH3)
  have hs : W2.heap.size + 1 + 1 + 1 + 1 + 1 + 1 + 1 + 1 + 1 = W3.heap.size := by rw [← hW]; simp
  rw [hs]
  clear hs hW rH3 aH3
  have HA := hideIt (H1.out.2.trans (H2.out.2.trans H3.out.2))
  have HR := hideIt (And.intro (H1.out.1.after (H2.out.2.trans H3.out.2)) (And.intro (H2.out.1.after H3.out.2) H3.out.1))
  clear H1 H2 H3
  refine (are1 (HR.out.1)).mono ?_
  rintro e w4 ⟨rfl, a1⟩
  have A1 := hideIt a1
  clear a1
  go_wp2_with fail
  refine (are2 (HR.out.2.1.after A1.out)).mono ?_
  rintro e w5 ⟨rfl, a2⟩
  have A2 := hideIt (A1.out.trans a2)
  clear a2 A1
  go_wp2_with fail
  refine (are3 (HR.out.2.2.after A2.out)).mono ?_
  rintro e w6 ⟨rfl, a3⟩
  have A3 := hideIt (A2.out.trans a3)
  clear a3 A2
  go_wp2_with fail
  go_ret
  exact ⟨rfl, HA.out.trans A3.out⟩
end Go.Proofs.YtgapnimicaopcaaGreat
