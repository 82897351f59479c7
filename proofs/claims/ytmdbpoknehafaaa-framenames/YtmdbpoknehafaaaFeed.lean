/-
  Feed, New and Pending of package frame.
-/
import Derived.Test.YtmdbpoknehafaaaObj
import Derived.Test.YtmdbpoknehafaaaLook
import Derived.Test.YtmdbpoknehafaaaConcat
import Derived.WalkMore
namespace Go.Proofs.Ytmdbpoknehafaaa
open Go.RowKit
theorem Try.info27 : (Try.prog.info? 27).map (fun i => (i.zero, i.size, i.bytes)) = some (some (.slice none 0 0), 1, 24) := by kernel_rfl
/-- How long a slice is. -/
def lenV : Value → Nat
  | .slice _ n _ => n
  | _ => 0
theorem Frs.but {S : Nat → Prop} {w w' : World} {B : Nat} {v : Value} {fs : List (List Int)} (h : Frs w B v fs) (b : But S w w') (hs : ∀ i, B ≤ i → ¬ S i) : Frs w' B v fs := by
  obtain ⟨xs, h1, h2⟩ := h
  exact ⟨xs, own_but h1 b (fun k hk => hs k (h1.lt k hk).1), h2.mono (fun x f e => e.but b hs)⟩
theorem Frs.after {w w' : World} {B : Nat} {v : Value} {fs : List (List Int)} (h : Frs w B v fs) (b : After w w') : Frs w' B v fs := h.but b (fun _ _ t => t)
theorem Frs.nil (w : World) (B : Nat) : Frs w B (.slice none 0 0) [] := ⟨[], World.ownsRow_nil _ _ _ _, Each.nil _⟩
/-- Frames that were answered: in memory of their own, each ahead of the block M. -/
def FrsM (w : World) (B M : Nat) (v : Value) (fs : List (List Int)) : Prop := ∃ xs, w.ownsRow B 27 1 v fs.length xs ∧ Each (fun x z => OwnB w B x z ∧ ∀ k, x.ownBlock = some k → k < M) xs fs
theorem FrsM.of {w : World} {B : Nat} {v : Value} {fs : List (List Int)} (h : Frs w B v fs) : FrsM w B w.heap.size v fs := by
  obtain ⟨xs, h1, h2⟩ := h
  exact ⟨xs, h1, h2.mono (fun x f e => ⟨e, fun k hk => (e.1.lt k hk).2⟩)⟩
theorem FrsM.frs {w : World} {B M : Nat} {v : Value} {fs : List (List Int)} (h : FrsM w B M v fs) : Frs w B v fs := by
  obtain ⟨xs, h1, h2⟩ := h
  exact ⟨xs, h1, h2.mono (fun x f e => e.1)⟩
theorem FrsM.but {S : Nat → Prop} {w w' : World} {B M : Nat} {v : Value} {fs : List (List Int)} (h : FrsM w B M v fs) (b : But S w w') (hs : ∀ i, B ≤ i → ¬ S i) : FrsM w' B M v fs := by
  obtain ⟨xs, h1, h2⟩ := h
  exact ⟨xs, own_but h1 b (fun k hk => hs k (h1.lt k hk).1), h2.mono (fun x f e => ⟨e.1.but b hs, e.2⟩)⟩
theorem FrsM.after {w w' : World} {B M : Nat} {v : Value} {fs : List (List Int)} (h : FrsM w B M v fs) (b : After w w') : FrsM w' B M v fs := h.but b (fun _ _ t => t)
/-- One frame more. -/
theorem Frs.more {w w1 w2 : World} {B : Nat} {v v' x : Value} {fs : List (List Int)} {f : List Int} {xs : List Value} (_h1 : w.ownsRow B 27 1 v fs.length xs) (h2 : Each (OwnB w B) xs fs) (hx : OwnB w1 B x f) (ha : After w w1) (hg : w1.grownBy w2 v.ownBlock) (ho : w2.ownsRow B 27 1 v' (fs.length + 1) (xs ++ [x])) (hv : ∀ k, v.ownBlock = some k → w1.heap[k]? = none ∨ ∃ cur, w1.heap[k]? = some (.cells cur 27 (0, 0))) : Frs w2 B v' (fs ++ [f]) := by
  have keep : ∀ y z, OwnB w1 B y z → OwnB w2 B y z := fun y z e => ⟨by
    have hb : But (fun k => v.ownBlock = some k) w1 w2 := But.grown But.rfl hg (fun k hk _ => hk)
    refine own_but e.1 hb (fun k hk t => ?_)
    rcases e.1.2 with ⟨e1, _⟩ | ⟨g, cap, cur, e1, _, e3, _⟩
    · rw [e1] at hk; cases hk
    · rw [e1] at hk; cases hk
      rcases hv g t with h' | ⟨cur', h'⟩
      · rw [h'] at e3; cases e3
      · rw [h'] at e3; injection e3 with e3; injection e3 with _ e4; exact absurd e4 (by decide), e.2⟩
  refine ⟨xs ++ [x], by rw [List.length_append]; exact ho, Each.append (h2.mono (fun y z e => keep y z (e.but ha (fun _ _ t => t)))) (Each.one (keep _ _ hx))⟩
theorem row_type {w w1 : World} {B : Nat} {v : Value} {n : Nat} {xs : List Value} (h : w.ownsRow B 27 1 v n xs) (ha : After w w1) : ∀ k, v.ownBlock = some k → w1.heap[k]? = none ∨ ∃ cur, w1.heap[k]? = some (.cells cur 27 (0, 0)) := by
  intro k hk
  rcases (own_after h ha).2 with ⟨e1, _⟩ | ⟨g, cap, cur, e1, _, e3, _⟩
  · rw [e1] at hk; cases hk
  · rw [e1] at hk; cases hk; exact .inr ⟨cur, e3⟩
theorem feed_end {w W W2 : World} {g : Nat} {y v u : Value} {fs : List (List Int)} {us : List Int} (r1 : w.heap[g]? = some (.cells #[.bool true, y] 45 (0, 0))) (A : After w W) (F : Frs W w.heap.size v fs) (o : W2.ownsRow W.heap.size 5 1 u us.length (u8s us)) (A2 : After W W2) (hb : Bs us) :
    ∃ h', Frs (W2.setCell ⟨g, 1, none⟩ u) w.heap.size v fs ∧ DfAt (W2.setCell ⟨g, 1, none⟩ u) g h' us ∧ (∃ M, FrsM (W2.setCell ⟨g, 1, none⟩ u) w.heap.size M v fs ∧ w.heap.size ≤ M ∧ (h' = g ∨ M ≤ h')) ∧ But (One g) w (W2.setCell ⟨g, 1, none⟩ u) := by
  have hg := (two_at r1).1
  have hg2 : W2.heap[g]? = some (.cells #[.bool true, y] 45 (0, 0)) := by rw [(A.trans A2).block g hg (fun t => t)]; exact r1
  obtain ⟨h', d1, d2⟩ := df_store hg2 W.heap.size o hb (Nat.lt_of_lt_of_le hg A.size)
  have b1 := But.own1 W2 g 1 u
  refine ⟨h', (F.after A2).but b1 (fun i hi t => ?_), d1, ⟨W.heap.size, ((FrsM.of F).but A2 (fun _ _ t => t)).but b1 (fun i hi t => ?_), A.size, d2⟩, (A.trans A2).but.then b1 (fun _ _ t => t)⟩
  · have t2 : i = g := t
    omega
  · have t2 : i = g := t
    omega
theorem row_cut {W : World} {b off n c k : Nat} {zs : List Int} (h : Row W (some ⟨b, off, none⟩) n zs) (hk : k ≤ n) (hc : n ≤ c) : Row W (if c = k then some ⟨b, off, none⟩ else some ⟨b, off + k, none⟩) (n - k) (zs.drop k) := by
  by_cases e : c = k
  · rw [if_pos e, show n - k = 0 by omega, show zs.drop k = [] from List.drop_eq_nil_of_le (by rw [h.1]; omega)]; exact Row.nil _ _
  · rw [if_neg e]; exact h.drop hk
theorem cut_block {p : Prop} [Decidable p] {b o o' B : Nat} {x : Addr} (h : (if p then some (⟨b, o, none⟩ : Addr) else some ⟨b, o', none⟩) = some x) (hb : b < B) : x.block < B := by
  split at h <;> (cases h; exact hb)
theorem Frs.base {w : World} {B C : Nat} {v : Value} {fs : List (List Int)} (h : Frs w B v fs) (hB : C ≤ B) : Frs w C v fs := by
  obtain ⟨xs, h1, h2⟩ := h
  exact ⟨xs, own_base h1 (fun k hk => Nat.le_trans hB (h1.lt k hk).1), h2.mono (fun x f e => ⟨own_base e.1 (fun k hk => Nat.le_trans hB (e.1.lt k hk).1), e.2⟩)⟩
theorem cut_some {p : Prop} [Decidable p] {x y : Addr} (h : (if p then some x else some y) = none) : False := by
  split at h <;> cases h
set_option maxRecDepth 100000 in
set_option maxHeartbeats 400000 in
theorem feed_any (w : World) (g h : Nat) (zs : List Int) (a : Option Addr) (n c : Nat) (ys : List Int) (r : DfAt w g h zs) (hr : Row w a n ys) (ha : a = none → n = 0 ∧ c = 0) (hl : zs.length + n ≤ 140737488355328) (hf : (frs (zs ++ ys)).length * 24 ≤ 140737488355328) :
    Calls Try.prog 12 #[Ptr g, .slice a n c] w fun e w' => ∃ v h', e = .returned (.tuple #[v, .int .i64 (drp (zs ++ ys) : Nat), .int .i64 0]) ∧ Frs w' w.heap.size v (frs (zs ++ ys)) ∧ DfAt w' g h' (rst (zs ++ ys)) ∧ (∃ M, FrsM w' w.heap.size M v (frs (zs ++ ys)) ∧ w.heap.size ≤ M ∧ (h' = g ∨ M ≤ h')) ∧ But (One g) w w' := by
  obtain ⟨i0, hi, hz0, hz1, hz2⟩ := info_parts Try.info27
  obtain ⟨a0, n0, c0, r1, r2, r3, r4, r5⟩ := r
  have HN := hideIt (isNone_no r1)
  have R1 := hideIt r1
  obtain ⟨hgl, hc0, hc1, hf0, hf1⟩ := two_at r1
  have hl0 := r2.1
  have hl1 := hr.1
  have HT : Hid ((zs ++ ys).length ≤ 140737488355328) := by unfold Hid; rw [List.length_append]; omega
  have HBT := hideIt (r2.2.1.append hr.2.1)
  have HD := hideIt (drp_le (zs ++ ys))
  have HF := hideIt hf
  have HC := hideIt (concat_any w.heap.size 2 (w.alloc (.cells #[.slice a0 n0 c0, .slice a n c] 27)) (by simp) (fun k => if k = 0 then a0 else a) (fun k => if k = 0 then n0 else n) (fun k => if k = 0 then c0 else c) (fun k => if k = 0 then zs else ys) (fun k => if k = 0 then [] else if k = 1 then zs else zs ++ ys)
    (fun k hk => by
      have hh : k = 0 ∨ k = 1 := by omega
      have := World.news_of_block (heap_alloc_new w (.cells #[.slice a0 n0 c0, .slice a n c] 27))
      rcases hh with rfl | rfl
      · exact this 0 _ rfl
      · exact this 1 _ rfl)
    (fun k hk => by
      have hh : k = 0 ∨ k = 1 := by omega
      rcases hh with rfl | rfl
      · exact r2.after (After.rfl.alloc _)
      · exact hr.after (After.rfl.alloc _))
    (fun k hk => by
      have hh : k = 0 ∨ k = 1 := by omega
      rcases hh with rfl | rfl
      · exact r4
      · exact ha)
    rfl
    (fun k hk => by
      have hh : k = 0 ∨ k = 1 := by omega
      rcases hh with rfl | rfl
      · rfl
      · rfl)
    (fun k hk => by
      have hh : k = 0 ∨ k = 1 ∨ k = 2 := by omega
      rcases hh with rfl | rfl | rfl
      · show ([] : List Int).length ≤ _; simp
      · show zs.length ≤ _; omega
      · show (zs ++ ys).length ≤ _; rw [List.length_append]; omega) (by decide))
  rw [show (if 2 = 0 then ([] : List Int) else if 2 = 1 then zs else zs ++ ys) = zs ++ ys from rfl] at HC
  generalize zs ++ ys = T at *
  clear r1 r2 r3 r4 r5 hr ha hl hf hl0 hl1
  go_enter Try.func12, Try.ntmps12
  go_wp2_with fail
  go_step3
  go_wp2_with (go_at_call 23; refine HN.out.mono ?_; rintro e w' ⟨rfl, rfl⟩)
  refine HC.out.mono ?_
  rintro e w1 ⟨v1, rfl, o1, a1⟩
  obtain ⟨b1, c1, rfl, q1, q2, q3, q4⟩ := own_row o1 HBT.out
  have HQ := hideIt q1
  have HQ2 := hideIt q2
  have HQ3 := hideIt q3
  have HQ4 : Hid (∀ x, b1 = some x → x.block < w1.heap.size) := fun x hx => (o1.lt _ (q4 x hx).1).2
  have A1 := hideIt ((After.rfl.alloc (.cells #[.slice a0 n0 c0, .slice a n c] 27)).trans a1)
  clear o1 a1 q1 q2 q3 q4 HC HN HBT hc0 hc1 hf0 hf1
  go_wp2_with fail
  go_step3
  go_wp2_with fail
  go_loopw [7, 8, 9] (fun v d l W => ∃ (fs : List (List Int)) (k : Nat) (a : Option Addr) (n c : Nat) (us : List Int), d = .int .i64 k ∧ l = .slice a n c ∧ Row W a n us ∧ n ≤ c ∧ (a = none → n = 0 ∧ c = 0) ∧ n ≤ 140737488355328 ∧ (∀ x, a = some x → x.block < w1.heap.size) ∧ Frs W w1.heap.size v fs ∧ frs T = fs ++ frs us ∧ drp T = k + drp us ∧ rst T = rst us ∧ After w1 W) (fun _ _ l _ => lenV l)
  case atStart => exact ⟨[], 0, b1, T.length, c1, T, rfl, rfl, HQ.out, HQ3.out, HQ2.out, HT.out, HQ4.out, Frs.nil _ _, rfl, by omega, rfl, After.rfl⟩
  case round =>
    obtain ⟨fs, k, a2, n2, c2, us, rfl, rfl, hr, hc, hnn, hn, hbb, hfr, e1, e2, e3, hA⟩ := hrel
    have hul := hr.1
    have HR := hideIt hr
    have HA := hideIt hA
    have HFR := hideIt hfr
    have E1 := hideIt e1
    have E2 := hideIt e2
    have E3 := hideIt e3
    have hku : k + drp us ≤ 140737488355328 := by have h1 := HD.out; have h2 := HT.out; omega
    clear hr hA hfr e1 e2 e3 HQ HQ2 HQ3 HQ4
    by_cases h0 : n2 = 0
    · subst h0
      have hk0 : kindOf us = 0 := by unfold kindOf; rw [if_pos (by omega)]
      obtain ⟨f1, f2, f3⟩ := fed_none hk0
      have F1 := hideIt f1
      have F2 := hideIt f2
      have F3 := hideIt f3
      have HC := hideIt (clone_any a2 0 c2 us wr HR.out hnn hn)
      clear f1 f2 f3 hk0 hnn
      go_wp2_with fail
      refine HC.out.mono ?_
      rintro e w3 ⟨u, rfl, o3, a3⟩
      have hg3 : w3.heap[g]? = some (.cells #[.bool true, .slice a0 n0 c0] 45 (0, 0)) := by rw [((A1.out.trans HA.out).trans a3).block g hgl (fun t => t)]; exact R1.out
      obtain ⟨_, k0, k1, kf0, kf1⟩ := two_at hg3
      have END := hideIt (feed_end R1.out (A1.out.trans HA.out) (HFR.out.base A1.out.size) (show w3.ownsRow _ 5 1 u us.length (u8s us) by rw [hul]; exact o3) a3 HR.out.2.1)
      obtain ⟨a4, c4, rfl⟩ := own_slice o3
      clear o3 a3 hg3 HC
      go_wp2
      rw [Exit.noGoto_ret]
      go_ret3
      obtain ⟨h', x1, x2, x3, x4⟩ := END.out
      refine ⟨u7, h', ?_, ?_, ?_, ?_, x4⟩
      · rw [E2.out, F2.out]; rfl
      · rw [E1.out, F1.out, List.append_nil]; exact x1
      · rw [E3.out, F3.out]; exact x2
      · rw [E1.out, F1.out, List.append_nil]; exact x3
    · obtain ⟨b, off, rfl, _⟩ := HR.out.2.2 0 (by omega)
      have hbw : b < w1.heap.size := hbb _ rfl
      clear hbb
      have hnp : (0 : Int) < (n2 : Int) := by omega
      have HLK := hideIt (look_any b off n2 c2 us wr HR.out (by omega) hc hn)
      clear hnn
      have hkl := kind_lt us
      by_cases k0 : kindOf us = 0
      · obtain ⟨f1, f2, f3⟩ := fed_none k0
        have F1 := hideIt f1
        have F2 := hideIt f2
        have F3 := hideIt f3
        rw [show sizeOf2 us = 0 by unfold sizeOf2; rw [k0]; rfl, k0] at HLK
        clear f1 f2 f3 k0 hkl
        go_wp2_with fail
        refine HLK.out.mono ?_
        rintro e w2 ⟨rfl, a2⟩
        have HR2 := hideIt (HR.out.after a2)
        have HA2 := hideIt (HA.out.trans a2)
        have HFR2 := hideIt (HFR.out.after a2)
        have HC := hideIt (clone_any (some ⟨b, off, none⟩) n2 c2 us w2 HR2.out (fun h => by cases h) hn)
        clear a2 HLK HR HA HFR
        go_wp2_with fail
        refine HC.out.mono ?_
        rintro e w3 ⟨u, rfl, o3, a3⟩
        have hg3 : w3.heap[g]? = some (.cells #[.bool true, .slice a0 n0 c0] 45 (0, 0)) := by rw [((A1.out.trans HA2.out).trans a3).block g hgl (fun t => t)]; exact R1.out
        obtain ⟨_, k0, k1, kf0, kf1⟩ := two_at hg3
        have END := hideIt (feed_end R1.out (A1.out.trans HA2.out) (HFR2.out.base A1.out.size) (show w3.ownsRow _ 5 1 u us.length (u8s us) by rw [hul]; exact o3) a3 HR2.out.2.1)
        obtain ⟨a4, c4, rfl⟩ := own_slice o3
        clear o3 a3 hg3 HC
        go_wp2
        rw [Exit.noGoto_ret]
        go_ret3
        obtain ⟨h', x1, x2, x3, x4⟩ := END.out
        refine ⟨u7, h', ?_, ?_, ?_, ?_, x4⟩
        · rw [E2.out, F2.out]; rfl
        · rw [E1.out, F1.out, List.append_nil]; exact x1
        · rw [E3.out, F3.out]; exact x2
        · rw [E1.out, F1.out, List.append_nil]; exact x3
      · by_cases k1 : kindOf us = 1
        · obtain ⟨f1, f2, f3⟩ := fed_drop k1
          rw [show sizeOf2 us = 0 by unfold sizeOf2; rw [k1]; rfl, k1] at HLK
          have G1 : Hid (frs T = fs ++ frs (us.drop 1)) := by unfold Hid; rw [E1.out, f1]
          have G2 : Hid (drp T = k + 1 + drp (us.drop 1)) := by unfold Hid; rw [E2.out, f2]; omega
          have G3 : Hid (rst T = rst (us.drop 1)) := by unfold Hid; rw [E3.out, f3]
          have hk1 : k + 1 ≤ 140737488355328 := by omega
          have hc1 : (1 : Int) ≤ (n2 : Int) := by omega
          have hcn : (n2 : Int) ≤ (c2 : Int) := by omega
          clear f1 f2 f3 k0 k1 hkl hku E1 E2 E3
          go_wp2_with fail
          refine HLK.out.mono ?_
          rintro e w2 ⟨rfl, a2⟩
          have HR2 := hideIt (HR.out.after a2)
          have HA2 := hideIt (HA.out.trans a2)
          have HFR2 := hideIt (HFR.out.after a2)
          clear a2 HLK HR HA HFR
          go_wp2
          go_roundw
          case rel => exact ⟨fs, k + 1, _, n2 - 1, _, us.drop 1, by go_num, rfl, row_cut HR2.out (by omega) hc, by omega, fun h => (cut_some h).elim, by omega, fun x hx => cut_block hx hbw, HFR2.out, G1.out, G2.out, G3.out, HA2.out⟩
          case measure => simp [lenV]; omega
        · have k2 : kindOf us = 2 := by omega
          obtain ⟨f1, f2, f3⟩ := fed_frame k2
          obtain ⟨_, m1, m2, m3, _⟩ := kind_two k2
          have hbl := body_length k2
          rw [show sizeOf2 us = lenOf us + 5 by unfold sizeOf2; rw [if_pos k2], k2] at HLK
          have G1 : Hid (frs T = fs ++ [bodyOf us] ++ frs (us.drop (lenOf us + 5))) := by unfold Hid; rw [E1.out, f1, List.append_assoc]; rfl
          have G2 : Hid (drp T = k + drp (us.drop (lenOf us + 5))) := by unfold Hid; rw [E2.out, f2]
          have G3 : Hid (rst T = rst (us.drop (lenOf us + 5))) := by unfold Hid; rw [E3.out, f3]
          have hfl : fs.length + 1 ≤ (frs T).length := by rw [G1.out, List.length_append, List.length_append]; simp
          have hfl2 : (fs.length + 1) * 24 ≤ 140737488355328 := by have := HF.out; omega
          have HBD : Hid (∀ W, Row W (some ⟨b, off, none⟩) n2 us → Row W (some ⟨b, off + 3, none⟩) (lenOf us) (bodyOf us)) := fun W h => (h.drop (k := 3) (by omega)).take (k := lenOf us) (by omega)
          have HDR : Hid (∀ W, Row W (some ⟨b, off, none⟩) n2 us → Row W (some ⟨b, off + (lenOf us + 5), none⟩) (n2 - (lenOf us + 5)) (us.drop (lenOf us + 5))) := fun W h => h.drop (by omega)
          have HNL : Hid (n2 - (lenOf us + 5) = 0 → us.drop (lenOf us + 5) = []) := fun h => List.drop_eq_nil_of_le (by omega)
          have HBL := hideIt hbl
          have hlt : lenOf us + 5 ≤ n2 := by omega
          clear f1 f2 f3 k0 k1 k2 hkl hku E1 E2 E3 hbl m3 hfl
          obtain ⟨us2, hus2⟩ : ∃ us2, us2 = us.drop (lenOf us + 5) := ⟨_, rfl⟩
          rw [← hus2] at G1 G2 G3 HDR HNL
          generalize bodyOf us = body at *
          generalize lenOf us = m at *
          obtain ⟨r, hr0⟩ : ∃ r, r = m + 5 := ⟨_, rfl⟩
          obtain ⟨q, hq0⟩ : ∃ q, q = m + 3 := ⟨_, rfl⟩
          rw [← hr0] at HLK HDR HNL hlt hus2
          have HRD := hideIt hus2
          clear hus2
          have j1 : (r : Int) - 2 = (q : Int) := by omega
          have j2 : q - 3 = m := by omega
          have j3 : ¬ c2 = 3 := by omega
          have j4 : (3 : Int) ≤ (q : Int) := by omega
          have j5 : (q : Int) ≤ (c2 : Int) := by omega
          have j6 : (r : Int) ≤ (n2 : Int) := by omega
          have j7 : (n2 : Int) ≤ (c2 : Int) := by omega
          have j8 : r ≤ 261 := by omega
          have j9 : 6 ≤ r := by omega
          have HRM := hideIt hr0
          clear hr0 hq0
          go_wp2_with fail
          refine HLK.out.mono ?_
          rintro e w2 ⟨rfl, a2⟩
          have HR2 := hideIt (HR.out.after a2)
          have HA2 := hideIt (HA.out.trans a2)
          have HFR2 := hideIt (HFR.out.after a2)
          have HC := hideIt (clone_any (some ⟨b, off + 3, none⟩) m (c2 - 3) body w2 (HBD.out _ HR2.out) (fun h => by cases h) (by omega))
          clear a2 HLK HR HA HFR
          go_wp2_with fail
          refine HC.out.mono ?_
          rintro e w3 ⟨x, rfl, o3, a3⟩
          obtain ⟨ax, cx, rfl⟩ := own_slice o3
          obtain ⟨xs, fx1, fx2⟩ := HFR2.out
          have HX := hideIt (show OwnB w3 w1.heap.size (.slice ax m cx) body from ⟨by rw [HBL.out]; exact own_base o3 (fun j hj => by have h1 := (o3.lt j hj).1; have h2 := HA2.out.size; omega), (HBD.out _ HR2.out).2.1⟩)
          have HR3 := hideIt (HR2.out.after a3)
          have HA3 := hideIt (HA2.out.trans a3)
          have HO3 := hideIt (own_after fx1 (a3.alloc (.cells #[.slice ax m cx] 27)))
          have HF1 := hideIt fx1
          have HE := hideIt fx2
          have A3 := hideIt a3
          have HNW := hideIt (World.news_of_block (heap_alloc_new w3 (.cells #[.slice ax m cx] 27)))
          clear o3 a3 HC HR2 HA2 HFR2 fx1 fx2
          go_wp2_with (at_builtin; refine wpList_append_own _ rfl (.tmp 40) (.tmp 46) 22 rfl w1.heap.size 27 i0 (.slice none 0 0) 1 24 Try.underlying22 hi hz0 hz1 hz2 rfl (by decide) _ fs.length xs rfl HO3.out _ 1 1 [.slice ax m cx] rfl rfl HNW.out (by simp [Value.oneCell']) (by unfold maxLen; omega) hfl2 (by have := HA3.out.size; simp; omega) ?_; intro v5 w5 hown hgrow hnil; have HG5 := hideIt hgrow; have HO5 := hideIt hown; clear hown hgrow hnil)
          have HA5 := hideIt (grown_after (HA3.out.alloc _) HO3.out HG5.out)
          have HR5 := hideIt (HR3.out.but (But.grown (After.rfl.alloc (.cells #[.slice ax m cx] 27)).but HG5.out (fun q hq hlt => hq) : But (fun q => u7.ownBlock = some q) w3 w5) (fun y hy t => by cases hy; have := (HO3.out.lt b t).1; omega))
          have HFN := hideIt (Frs.more HF1.out HE.out (HX.out.but (After.rfl.alloc (.cells #[.slice ax m cx] 27)) (fun _ _ t => t)) (A3.out.alloc _) HG5.out HO5.out (row_type HF1.out (A3.out.alloc _)))
          obtain ⟨a5, c5, rfl⟩ := own_slice HO5.out
          go_wp2
          go_roundw
          case rel => exact ⟨fs ++ [body], k, _, n2 - r, _, us2, rfl, rfl, by
              rw [HRD.out]; exact row_cut HR5.out (by omega) hc, by omega, fun h => (cut_some h).elim, by omega, fun x hx => cut_block hx hbw, HFN.out, G1.out, G2.out, G3.out, HA5.out⟩
          case measure => simp [lenV]; omega
theorem new_any (w : World) : Calls Try.prog 9 #[] w fun e w' => e = .returned (Ptr w.heap.size) ∧ DfAt w' w.heap.size w.heap.size [] ∧ After w w' := by
  have hd : DfAt (w.alloc (.cells #[.bool true, .slice none 0 0] 45)) w.heap.size w.heap.size [] := ⟨none, 0, 0, two_new _ _ _ _, Row.nil _ _, Nat.le_refl _, fun _ => ⟨rfl, rfl⟩, .inl ⟨rfl, rfl⟩⟩
  have HD := hideIt hd
  clear hd
  go_enter Try.func9, Try.ntmps9
  go_wp2
  go_ret
  exact ⟨rfl, HD.out, After.rfl.alloc _⟩
theorem pending_any (w : World) (g h : Nat) (zs : List Int) (r : DfAt w g h zs) : Calls Try.prog 15 #[Ptr g] w fun e w' => e = .returned (.int .i64 (zs.length : Nat)) ∧ w' = w := by
  obtain ⟨a0, n0, c0, r1, r2, r3, r4, r5⟩ := r
  have HN := hideIt (isNone_no r1)
  obtain ⟨hgl, hc0, hc1, hf0, hf1⟩ := two_at r1
  rw [r2.1]
  clear r1 r2 r3 r4 r5
  go_enter Try.func15, Try.ntmps15
  go_wp2_with (go_at_call 23; refine HN.out.mono ?_; rintro e w' ⟨rfl, rfl⟩)
  go_ret
  exact ⟨rfl, rfl⟩
end Go.Proofs.Ytmdbpoknehafaaa
