/-
  Laid together: ListB, Objs, Taken.
-/
import Derived.Test.YthcfdoafncbliaaGreatB04
import Derived.Laws.AppendOwnNone
import Derived.BigQuiet
import Derived.RegionTactic
import Derived.Deep.RegionHeld3
/-
  Many numbers of objects, by a coder.
-/
namespace Go.Proofs.YthcfdoafncbliaaGreat
open Go.RowKit
set_option maxRecDepth 8000
def Bi.t3 (o : Bi) : T3 := (.int .i64 o.h, .bool o.l, .int .u32 o.b)
theorem Bi.one3 (o : Bi) : One3 o.t3 := ⟨rfl, rfl, rfl⟩
def obsL (m : Bool) : List Bi → List Int → Except Int (List Bi × List Int)
  | [], zs => .ok ([], zs)
  | o :: r, zs => thn (obs1 m o zs) fun x zs => thn (obsL m r zs) fun l zs => .ok (x :: l, zs)
/-- As many as n, the first ones of a list, then noughts. -/
def fillOf {α : Type} (n : Nat) (all : List α) (z : α) : List α := all.take n ++ List.replicate (n - all.length) z
theorem fillOf_length {α : Type} (n : Nat) (all : List α) (z : α) : (fillOf n all z).length = n := by
  simp [fillOf]; omega
def lstB (m : Bool) (all : List Bi) (zs : List Int) : Except Int (List Bi × List Int) :=
  thn (num m 2 65535 all.length zs) fun n zs => if n > 64 then .error (stp m 5) else obsL m (fillOf n.toNat all ⟨0, false, 0⟩) zs
theorem obs1_len {m : Bool} {o x : Bi} {zs ys : List Int} (h : obs1 m o zs = .ok (x, ys)) : ys.length ≤ zs.length + 7 := by
  unfold obs1 at h
  cases e1 : num m 2 65535 o.h zs with
  | error c => rw [thn_bad e1] at h; cases h
  | ok v =>
    obtain ⟨v1, z1⟩ := v
    rw [thn_ok e1] at h
    cases e2 : eit m o.l 4 2 z1 with
    | error c => rw [thn_bad e2] at h; cases h
    | ok v =>
      obtain ⟨v2, z2⟩ := v
      rw [thn_ok e2] at h
      have l1 := num_len e1
      have l2 := eit_len e2
      cases v2 with
      | true =>
        cases e3 : num m 4 4294967295 o.b z2 with
        | error c => rw [thn_bad (by simpa using e3)] at h; cases h
        | ok v =>
          obtain ⟨v3, z3⟩ := v
          rw [thn_ok (by simpa using e3)] at h
          have l3 := num_len e3
          cases h; omega
      | false =>
        cases e3 : num m 2 65535 o.b z2 with
        | error c => rw [thn_bad (by simpa using e3)] at h; cases h
        | ok v =>
          obtain ⟨v3, z3⟩ := v
          rw [thn_ok (by simpa using e3)] at h
          have l3 := num_len e3
          cases h; omega
theorem Tryz.info54 : (Tryz.prog.info? 54).map (fun i => (i.zero, i.size, i.bytes)) = some (some (.agg #[.int .i64 0, .bool false, .int .u32 0]), 3, 16) := by kernel_rfl
theorem makeB (k : Nat) (hk : k ≤ 64) (w : World) : (Instr.makeSlice 29 (.int .i64 (k : Int)) (.int .i64 (k : Int))).run Tryz.prog w = .ok (.slice (some ⟨w.heap.size, 0, none⟩) k k) (w.alloc (.cells (cells3 (List.replicate k (Bi.t3 ⟨0, false, 0⟩))).toArray 54)) := by
  obtain ⟨i0, hi, hz0, hz1, hz2⟩ := info_parts Tryz.info54
  have := run_make (P := Tryz.prog) w 29 54 i0 _ Tryz.underlying29 hi hz0 .i64 .i64 k k (by omega) (by omega) (by rw [hz2]; omega) (by omega)
  rw [this, hz1]
  simp only [Int.toNat_natCast]
  rw [show (Value.agg #[.int .i64 0, .bool false, .int .u32 0]).cells = #[.int .i64 0, .bool false, .int .u32 0] from rfl, made3]
  rfl
theorem fill_t3 {k n : Nat} {all : List Bi} (hn : all.length = n) : (all.map Bi.t3).take k ++ (List.replicate k (Bi.t3 ⟨0, false, 0⟩)).drop n = (fillOf k all ⟨0, false, 0⟩).map Bi.t3 := by
  subst hn
  simp [fillOf, List.map_take]
set_option maxHeartbeats 1000000 in
theorem c_listB (w : World) (p q : Option Addr) (m : Bool) (zs : List Int) (S : Nat → Prop) (a : Option Addr) (n c : Nat) (all : List Bi) (cd : Cod w p q m zs S) (hr : RowT w a n (all.map Bi.t3)) (hd : ∀ y, a = some y → 0 < n → ¬ S y.block) (ha : a = none → n = 0 ∧ c = 0) (hl : m = true → zs.length ≤ 990000000) (hb : ∀ o ∈ all, 0 ≤ o.b ∧ o.b < 4294967296) :
    Calls Tryz.prog 87 #[Co p q, .slice a n c, .int .i64 64, .func (.func 88) #[Co p q] #[]] w fun e w' => Ends (lstB m all zs) (fun l ys => (∃ b, e = .returned (.slice (some ⟨b, 0, none⟩) l.length l.length) ∧ RowT w' (some ⟨b, 0, none⟩) l.length (l.map Bi.t3) ∧ w.heap.size ≤ b) ∧ Went w w' p q m S ys) (fun c => e = .panicked (Halt c) ∧ But S w w') := by
  have hA : After w (w.alloc (.cells #[.pointer p, .pointer q] 79)) := After.rfl.alloc _
  have hn : all.length = n := by have := hr.1; simpa using this
  have b0 := new1 w (.cells #[.pointer p, .pointer q] 79)
  have f0 : Off S w.heap.size (w.heap.size + 1) := Off.old cd.lt _
  have hE : lstB m all zs = thn (num m 2 65535 (n : Int) zs) fun n zs => if n > 64 then .error (stp m 5) else obsL m (fillOf n.toNat all ⟨0, false, 0⟩) zs := by rw [← hn]; rfl
  have H1 := hideIt (c_u16 _ p q m zs S n (cd.after hA) (fun h => by have := hl h; omega))
  have HX := hideIt (And.intro hA (And.intro b0 (And.intro f0 (And.intro hl (And.intro hE (And.intro hr (And.intro hd (And.intro ha (And.intro hb (And.intro cd.bs hn))))))))))
  clear hA b0 f0 hl hE hr hd ha hb cd hn
  go_enter Tryz.func87, Tryz.ntmps87
  go_wp2_with fail
  refine H1.out.mono ?_
  clear H1
  intro e w1 h1
  obtain ⟨hA, b0, f0, hl, hE, hr, hd, ha, hb, hbs, hn⟩ := HX.out
  rcases h1.split with ⟨c1, e1, rfl, t⟩ | ⟨x1, z1, e1, rfl, S1, k1, s1⟩
  · exact ⟨rfl, Ends.bad (by rw [hE, thn_bad e1]) ⟨rfl, hA.but.trans t⟩⟩
  have q0 := blk s1.but f0 (Nat.le_refl _) (by omega) b0
  have hx := num_bound e1 hbs (by decide)
  have t1 := num_len e1
  obtain ⟨_, y1, y2, y3, y4⟩ := two_at q0
  by_cases h64 : x1 > 64
  · have H2 := hideIt (c_stop w1 p q m z1 S1 5 k1)
    have HE := hideIt (hE.trans ((thn_ok e1).trans (if_pos h64)))
    have HB := hideIt (hA.but.trans s1.but)
    clear HX h1 hA b0 f0 hl hE hr hd ha hb hbs hn e1 k1 s1 q0 hx t1
    go_wp2_with (go_at_call 41; refine H2.out.mono ?_; rintro e w2 ⟨rfl, h2⟩; have HW := hideIt h2; clear h2)
    exact ⟨rfl, Ends.bad HE.out ⟨rfl, HB.out.trans HW.out.but⟩⟩
  · obtain ⟨k, rfl⟩ := Int.eq_ofNat_of_zero_le hx.1
    have hk : k ≤ 64 := by omega
    have HE := hideIt (hE.trans ((thn_ok e1).trans (if_neg h64)))
    have hmk := makeB k hk
    have h64' : ¬ (64 : Int) < (k : Int) := by omega
    have HT := hideIt (Stp.behind hA s1)
    have HK := hideIt k1
    have HL := hideIt (show m = true → z1.length ≤ 990000002 from fun h => by have := hl h; omega)
    have HR := hideIt (hr.but (hA.but.trans s1.but) hd)
    have HN := hideIt (And.intro ha (And.intro hb hn))
    clear HX h1 hA b0 f0 hl hE hr hd ha hb hbs hn e1 k1 s1 q0 hx t1 h64 hk
    have hsz : (Tryz.prog.info? 54).map (·.size) = some 3 := by kernel_rfl
    have X1 : ∀ y ∈ all.map Bi.t3, One3 y := fun y hy => by obtain ⟨o, _, rfl⟩ := List.mem_map.1 hy; exact o.one3
    have X2 := HR.out.after (After.rfl.alloc (.cells (cells3 (List.replicate k (Bi.t3 ⟨0, false, 0⟩))).toArray 54))
    have XS := hideIt (And.intro hsz (And.intro X1 X2))
    clear hsz X1 X2
    go_wp2_with fail
    obtain ⟨w2, he2, hg, hb2⟩ := run_copyAny (P := Tryz.prog) (w1.alloc (.cells (cells3 (List.replicate k (Bi.t3 ⟨0, false, 0⟩))).toArray 54)) 29 29 3 54 Tryz.underlying29 XS.out.1 w1.heap.size k k a n c 54 (List.replicate k (Bi.t3 ⟨0, false, 0⟩)) (all.map Bi.t3) (new1 _ _) List.length_replicate XS.out.2.2 XS.out.2.1 HN.out.1
    rw [he2]
    clear he2
    have HG := hideIt hg
    have HB2 := hideIt hb2
    clear hg hb2
    obtain ⟨ha, hb, hn⟩ := HN.out
    have hk : k ≤ 64 := by omega
    rw [fill_t3 hn] at HG
    rw [Int.toNat_natCast] at HE
    have hlf := fillOf_length k all (⟨0, false, 0⟩ : Bi)
    have hbf : ∀ o ∈ fillOf k all (⟨0, false, 0⟩ : Bi), 0 ≤ o.b ∧ o.b < 4294967296 := by
      intro o ho
      rcases List.mem_append.1 ho with h | h
      · exact hb o (List.mem_of_mem_take h)
      · rw [(List.mem_replicate.1 h).2]; decide
    obtain ⟨xs, hxs⟩ : ∃ xs, fillOf k all (⟨0, false, 0⟩ : Bi) = xs := ⟨_, rfl⟩
    rw [hxs] at HG HE hlf hbf
    have hS1 : ¬ S1 w1.heap.size := fun h => absurd (HK.out.lt _ h) (by omega)
    have HC2 := hideIt (HK.out.but (T := One w1.heap.size) ((After.rfl.alloc _).but.trans HB2.out) (fun k hk h => hS1 (by rw [← h]; exact hk)))
    have HT2 := hideIt (HT.out.trans (show Stp S1 w1 S1 w2 from ⟨((After.rfl.alloc (.cells (cells3 (List.replicate k (Bi.t3 ⟨0, false, 0⟩))).toArray 54)).but (S := One w1.heap.size) |>.trans HB2.out |>.then (T := Non) But.rfl (fun _ _ t => t.elim)).mono (fun i hi h => absurd hi (by rw [h]; omega)), fun k hk => .inl hk⟩))
    have HO2 := hideIt (show Off S1 w1.heap.size (w1.heap.size + 1) from fun k hk => .inl (HK.out.lt k hk))
    have hs2 : w1.heap.size + 1 ≤ w2.heap.size := by have := HB2.out.size; simpa using this
    have HB := hideIt (show w.heap.size ≤ w1.heap.size from HT.out.but.size)
    obtain ⟨b, hbb⟩ : ∃ b, w1.heap.size = b := ⟨_, rfl⟩
    rw [hbb] at HG HO2 HB hs2 ⊢
    have HE0 := HE
    have HI := hideIt (And.intro hlf (And.intro hbf hs2))
    clear ha hb hn hlf hbf hxs hS1 XS HK HT HN HR hmk hs2 hbb HB2
    go_wp2_with fail
    go_loopw [29] (fun i W => ∃ (j : Nat) (dn rs : List Bi) (ys : List Int) (T : Nat → Prop), j ≤ k ∧ i = .int .i64 j ∧ dn.length = j ∧ (dn ++ rs).length = k ∧ W.heap[b]? = some (.cells (cells3 ((dn ++ rs).map Bi.t3)).toArray 54 (0, 0)) ∧ Cod W p q m ys T ∧ Stp S w T W ∧ Off T b (b + 1) ∧ obsL m xs z1 = thn (obsL m rs ys) (fun l us => .ok (dn ++ l, us)) ∧ (m = true → ys.length ≤ 990000002 + 7 * j) ∧ (∀ o ∈ rs, 0 ≤ o.b ∧ o.b < 4294967296)) (fun i _ => k - (intOf i).toNat)
    case atStart =>
      refine ⟨0, [], xs, z1, S1, Nat.zero_le _, rfl, rfl, HI.out.1, HG.out, HC2.out, HT2.out, HO2.out, ?_, fun h => by have := HL.out h; omega, HI.out.2.1⟩
      cases obsL m xs z1 <;> rfl
    case round =>
      obtain ⟨j, dn, rs, ys, T, hj, rfl, hdn, hlen, hblk, hcod, hstp, hoff, hrun, hln, hbr⟩ := hrel
      by_cases hlt : j < k
      · obtain ⟨o, r, rfl⟩ : ∃ o r, rs = o :: r := by
          cases rs with
          | nil => simp at hlen; omega
          | cons o r => exact ⟨o, r, rfl⟩
        have hat : ((dn ++ o :: r).map Bi.t3)[j]? = some o.t3 := by simp [← hdn]
        obtain ⟨d0, d1, d2⟩ := cells3_at _ j _ hat
        have g0 : wr.cell? ⟨b, j * 3, none⟩ = some (.int .i64 o.h) := by rw [cell_blk hblk]; exact d0
        have g1 : wr.cell? ⟨b, j * 3 + 1, none⟩ = some (.bool o.l) := by rw [cell_blk hblk]; exact d1
        have g2 : wr.cell? ⟨b, j * 3 + 2, none⟩ = some (.int .u32 o.b) := by rw [cell_blk hblk]; exact d2
        have hbl : b < wr.heap.size := (Array.getElem?_eq_some_iff.1 hblk).1
        have hA2 : After wr (wr.alloc (.cells #[.int .i64 o.h, .bool o.l, .int .u32 o.b] 54)) := After.rfl.alloc _
        have H2 := hideIt (c_obs _ p q m ys T o (hcod.after hA2) (fun h => by have := hln h; omega) (hbr o (List.mem_cons_self ..)))
        have hrun' : lstB m all zs = thn (obs1 m o ys) fun x us => thn (thn (obsL m r us) fun l us => .ok (x :: l, us)) fun l us => .ok (dn ++ l, us) := by
          rw [HE.out, hrun]
          show thn (thn (obs1 m o ys) _) _ = _
          cases obs1 m o ys <;> rfl
        have HX := hideIt (And.intro hblk (And.intro hstp (And.intro hoff (And.intro hrun' (And.intro hln (And.intro hbr (And.intro hdn (And.intro hlen (And.intro hA2 hbl)))))))))
        have hjk : (j : Int) < (k : Int) := by omega
        clear hblk hcod hstp hoff hrun hrun' hln hbr hdn hlen hat d0 d1 d2 hA2 HG HL HI HO2 HC2 HT2
        go_wp2_with fail
        refine H2.out.mono ?_
        clear H2
        intro e w3 h3
        obtain ⟨hblk, hstp, hoff, hrun', hln, hbr, hdn, hlen, hA2, hbl'⟩ := HX.out
        rcases h3.split with ⟨c3, e3, rfl, t⟩ | ⟨x, us, e3, rfl, T3, k3, s3⟩
        · exact ⟨rfl, Ends.bad (hrun'.trans (thn_bad e3)) ⟨rfl, hstp.ends (hA2.but.trans t)⟩⟩
        have q3 : w3.heap[b]? = some (.cells (cells3 ((dn ++ o :: r).map Bi.t3)).toArray 54 (0, 0)) := blk s3.but hoff (Nat.le_refl _) (by omega) (new_past _ _ hblk)
        have hat : ((dn ++ o :: r).map Bi.t3)[j]? = some o.t3 := by simp [← hdn]
        obtain ⟨d0, d1, d2⟩ := cells3_at _ j _ hat
        have g0' : w3.cell? ⟨b, j * 3, none⟩ = some (.int .i64 o.h) := by rw [cell_blk q3]; exact d0
        have g1' : w3.cell? ⟨b, j * 3 + 1, none⟩ = some (.bool o.l) := by rw [cell_blk q3]; exact d1
        have g2' : w3.cell? ⟨b, j * 3 + 2, none⟩ = some (.int .u32 o.b) := by rw [cell_blk q3]; exact d2
        have z0 := frozen_blk q3 (j * 3)
        have z1' := frozen_blk q3 (j * 3 + 1)
        have z2' := frozen_blk q3 (j * 3 + 2)
        have hoff3 := hoff.step s3 (by rw [World.size_alloc]; omega)
        have hw : w.heap.size ≤ wr.heap.size := hstp.but.size
        have b3 := blk_set3 (i := j) q3 (.int .i64 x.h) (.bool x.l) (.int .u32 x.b)
        have hset : ((dn ++ o :: r).map Bi.t3).set j (.int .i64 x.h, .bool x.l, .int .u32 x.b) = ((dn ++ [x]) ++ r).map Bi.t3 := by
          subst hdn
          simp [Bi.t3]
        rw [hset] at b3
        have hnb : ¬ T3 b := fun h => by have := hoff3 b h; omega
        have k3' := ((k3.set hnb (j * 3) (.int .i64 x.h)).set hnb (j * 3 + 1) (.bool x.l)).set hnb (j * 3 + 2) (.int .u32 x.b)
        have s3' := hstp.trans (Stp.behind hA2 s3)
        have hbw : w.heap.size ≤ b := HB.out
        have s3'' := ((s3'.newly hbw (j * 3) (.int .i64 x.h)).newly hbw (j * 3 + 1) (.bool x.l)).newly hbw (j * 3 + 2) (.int .u32 x.b)
        have l3 := obs1_len e3
        have hrun3 := hrun'.trans (thn_ok e3)
        have HY := hideIt (And.intro b3 (And.intro k3' (And.intro s3'' (And.intro hoff3 (And.intro hrun3 (And.intro (show m = true → us.length ≤ 990000002 + 7 * (j + 1) from fun h => by have := hln h; omega) (And.intro (fun o' ho' => hbr o' (List.mem_cons_of_mem _ ho')) (And.intro hdn hlen))))))))
        have hbl3 : b < w3.heap.size := (Array.getElem?_eq_some_iff.1 q3).1
        clear HX h3 hblk hstp hoff hrun' hln hbr hdn hlen hA2 hbl' e3 k3 s3 q3 hat d0 d1 d2 hoff3 hw b3 hset hnb k3' s3' hbw s3'' l3 hrun3 HE
        unfold Bi.val
        go_wp2_with fail
        go_roundw
        case rel =>
          obtain ⟨b3, k3, s3, ho3, hr3, hl3, hb3, hdn, hlen⟩ := HY.out
          refine ⟨j + 1, dn ++ [x], r, us, T3, by omega, by go_num, by simp [hdn], by simpa using hlen, b3, k3, s3, ho3, ?_, hl3, hb3⟩
          rw [← HE0.out, hr3]
          cases obsL m r us <;> simp [thn]
        case measure => simp [intOf]; omega
      · obtain rfl : j = k := by omega
        have hrs : rs = [] := by
          have : dn.length + rs.length = j := by simpa using hlen
          exact List.eq_nil_of_length_eq_zero (by omega)
        subst hrs
        have hres : lstB m all zs = .ok (dn, ys) := by rw [HE.out, hrun]; show (Except.ok (dn ++ [], ys) : Except Int (List Bi × List Int)) = _; rw [List.append_nil]
        rw [List.append_nil] at hblk
        have hrow := RowT.of hblk
        rw [List.length_map, hdn] at hrow
        have HY := hideIt (And.intro hres (And.intro hrow (And.intro hcod hstp)))
        have HD := hideIt hdn
        clear hrun hres hblk hrow hcod hstp hoff hln hbr hlen hdn HE HE0 HG HL HI HO2 HC2 HT2
        go_wp2_with fail
        go_ret
        refine Ends.ok HY.out.1 ⟨⟨b, ?_, ?_, HB.out⟩, T, HY.out.2.2.1, HY.out.2.2.2⟩
        · rw [HD.out]; rfl
        · rw [HD.out]; exact HY.out.2.1
end Go.Proofs.YthcfdoafncbliaaGreat
/-
  One object, by a coder: its handle is held against those ahead of it.
-/
namespace Go.Proofs.YthcfdoafncbliaaGreat
open Go.RowKit
set_option maxRecDepth 8000
/-- A block that is not a coder's. -/
structure Keeps (w : World) (S : Nat → Prop) (k : Nat) (o : Obj) : Prop where
  at0 : w.heap[k]? = some o
  out : ¬ S k
theorem Keeps.lt {w : World} {S : Nat → Prop} {k : Nat} {o : Obj} (h : Keeps w S k o) : k < w.heap.size := (Array.getElem?_eq_some_iff.1 h.at0).1
theorem Keeps.step {w w' : World} {S S' : Nat → Prop} {k : Nat} {o : Obj} (h : Keeps w S k o) (s : Stp S w S' w') : Keeps w' S' k o :=
  ⟨(s.but.block k h.lt h.out).trans h.at0, fun hk => (s.new k hk).elim h.out (fun h' => absurd h.lt (by omega))⟩
theorem Keeps.after {w w' : World} {S : Nat → Prop} {k : Nat} {o : Obj} (h : Keeps w S k o) (s : After w w') : Keeps w' S k o := h.step (Stp.rfl.after s)
theorem Keeps.far {w : World} {S : Nat → Prop} {k g : Nat} {o : Obj} (h : Keeps w S k o) (hn : k ≠ g) (i : Nat) (x : Value) : Keeps (w.setCell ⟨g, i, none⟩ x) S k o := ⟨set_far h.at0 hn, h.out⟩
theorem Keeps.set0 {w : World} {S : Nat → Prop} {k : Nat} {T : TypeId} {x y z : Value} (h : Keeps w S k (.cells #[x, y, z] T (0, 0))) (v : Value) : Keeps (w.setCell ⟨k, 0, none⟩ v) S k (.cells #[v, y, z] T (0, 0)) := ⟨three_set0 h.at0 v, h.out⟩
theorem Keeps.set1 {w : World} {S : Nat → Prop} {k : Nat} {T : TypeId} {x y z : Value} (h : Keeps w S k (.cells #[x, y, z] T (0, 0))) (v : Value) : Keeps (w.setCell ⟨k, 1, none⟩ v) S k (.cells #[x, v, z] T (0, 0)) := ⟨three_set1 h.at0 v, h.out⟩
/-- Whole numbers. -/
def i64s (zs : List Int) : List Value := zs.map (Value.int .i64)
theorem i64s_length (zs : List Int) : (i64s zs).length = zs.length := by simp [i64s]
theorem i64s_one (zs : List Int) : ∀ u ∈ i64s zs, u.oneCell' = true := by
  intro u hu
  obtain ⟨z, _, rfl⟩ := List.mem_map.1 hu
  rfl
/-- Whole numbers lie where a slice of n places leads. -/
def RowN (w : World) (a : Option Addr) (n : Nat) (xs : List Int) : Prop :=
  xs.length = n ∧ ∀ i, i < n → ∃ b off, a = some ⟨b, off, none⟩ ∧ b < w.heap.size ∧ w.cell? ⟨b, off + i, none⟩ = some (.int .i64 (xs.getD i 0))
theorem own_rowN {w : World} {B : Nat} {a : Option Addr} {n c : Nat} {zs : List Int} (h : w.ownsRow B 3 1 (.slice a n c) n (i64s zs)) : RowN w a n zs := by
  have hl : zs.length = n := by have := h.1; simp [i64s] at this; exact this
  rcases h.2 with ⟨e, rfl⟩ | ⟨g, cap, cur, e, _, _, hnc, _⟩
  · exact ⟨hl, fun i hi => absurd hi (by omega)⟩
  · cases e
    refine ⟨hl, fun i hi => ⟨g, 0, rfl, (h.lt g rfl).2, ?_⟩⟩
    have := h.cellAt i (by omega)
    rw [Nat.zero_add, this]
    have hi' : i < zs.length := by omega
    simp [i64s, hi']
theorem mem_at {zs : List Int} {x : Int} {j : Nat} (hj : j < zs.length) (h : x = zs.getD j 0) : x ∈ zs := by
  rw [h, List.getD_eq_getElem?_getD, List.getElem?_eq_getElem hj]; exact List.getElem_mem _
theorem index_any (w : World) (a : Option Addr) (n c : Nat) (x : Int) (hs : List Int) (hr : RowN w a n hs) (hn : n ≤ 1000000) :
    Calls Tryz.prog 105 #[.slice a n c, .int .i64 x] w fun e w' => (∃ r : Int, e = .returned (.int .i64 r) ∧ (0 ≤ r ↔ x ∈ hs)) ∧ w' = w := by
  have HR := hideIt hr
  have HN := hideIt hn
  clear hr hn
  go_enter Tryz.func105, Tryz.ntmps105
  go_wp2_with fail
  go_loop [8] (fun i => ∃ j : Nat, j ≤ n ∧ i = .int .i64 j ∧ x ∉ hs.take j) (fun i => n - (intOf i).toNat)
  case atStart => exact ⟨0, Nat.zero_le _, rfl, by simp⟩
  case round =>
    obtain ⟨j, hj, rfl, hnot⟩ := hrel
    have hl := HR.out.1
    by_cases hlt : j < n
    · obtain ⟨b, off, rfl, hb, hc⟩ := HR.out.2 j hlt
      obtain ⟨y, hy⟩ : ∃ y, hs.getD j 0 = y := ⟨_, rfl⟩
      rw [hy] at hc
      have hji : (j : Int) < (n : Int) := by omega
      by_cases hxy : x = y
      · have hk : (x == y) = true := by simpa using hxy
        have HM := hideIt (mem_at (x := x) (zs := hs) (j := j) (by omega) (by rw [hy]; exact hxy))
        clear hxy hy hnot
        go_wp2_with fail
        go_ret
        exact ⟨⟨j, rfl, fun _ => HM.out, fun _ => by omega⟩, rfl⟩
      · have hk : (x == y) = false := by simpa using hxy
        have HM := hideIt (show x ∉ hs.take (j + 1) by rw [take_more (by omega), hy]; simp only [List.mem_append, List.mem_singleton]; exact fun h => h.elim hnot hxy)
        have hj1 : (j : Int) ≤ 1000000 := by have := HN.out; omega
        clear hxy hy hnot
        go_wp2_with fail
        go_round
        case rel => exact ⟨j + 1, by omega, by go_num, HM.out⟩
        case measure => simp [intOf]; omega
    · obtain rfl : j = n := by omega
      have HM := hideIt (show x ∉ hs by rw [List.take_of_length_le (by omega)] at hnot; exact hnot)
      clear hnot
      go_wp2_with fail
      go_ret
      exact ⟨⟨-1, rfl, fun h => absurd h (by omega), fun h => absurd h HM.out⟩, rfl⟩
theorem contains_any (w : World) (a : Option Addr) (n c : Nat) (x : Int) (hs : List Int) (hr : RowN w a n hs) (hn : n ≤ 1000000) :
    Calls Tryz.prog 99 #[.slice a n c, .int .i64 x] w fun e w' => e = .returned (.bool (decide (x ∈ hs))) ∧ w' = w := by
  have HI := hideIt (index_any w a n c x hs hr hn)
  clear hr hn
  go_enter Tryz.func99, Tryz.ntmps99
  go_wp2_with (go_at_call 105; refine HI.out.mono ?_; rintro e w1 ⟨⟨r, rfl, hr⟩, rfl⟩; have HR := hideIt hr; clear hr)
  go_ret
  refine ⟨ret_bool ?_, rfl⟩
  by_cases h : x ∈ hs
  · rw [decide_eq_true h]; simpa using HR.out.2 h
  · rw [decide_eq_false h]; simpa using fun h' => h (HR.out.1 h')
end Go.Proofs.YthcfdoafncbliaaGreat
/-
  An operation of a region whose order is open, taken first.
-/
namespace Go.Proofs.YthcfdoafncbliaaGreat
open Go.RowKit
section
variable {P : Program} {ops : Array Oper} {Q : Exit → Act → World → Prop} {md : Region.Mode} {S : World → Prop}
/-- An operation that may come up is taken first: it is wanted, and yields v in every world that meets S. -/
theorem takeD {i : Nat} {oi : Oper} {v : Value} {d : Option Nat} {fuel : Nat} {listed : Array Bool} {a : Act} {w : World} (hi : ops[i]? = some oi) (hd : oi.dst = d)
    (hs : Region.noSelect ops = true) (hf : Region.free md ops listed i = true) (hr : (Region.ready md ops listed).contains i = true)
    (hQ : ∀ c a w, Q (.panic c) (a.put d v) w → Q (.panic c) a w) (hw : Region.wanted oi (yielded ops a.tmps) = true) (hS : S w) (hy : ∀ w, S w → (execOp a.eval oi).run P w = .ok (.value v) w)
    (h : wpAnyH P md ops Q S fuel (listed.setIfInBounds i true) (a.put d v) w) : wpAnyH P md ops Q S (fuel + 1) listed a w := by
  subst hd
  exact wpAnyH_take hi hs hf hr hQ (Or.inl ⟨hw, hy⟩) hS h
end
end Go.Proofs.YthcfdoafncbliaaGreat
