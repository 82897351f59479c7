/-
  Laid together: ListO, Parts, Msg.
-/
import Derived.Test.YthcfdoafncbliaaGreatB06
/-
  Many objects, by a coder.
-/
namespace Go.Proofs.YthcfdoafncbliaaGreat
open Go.RowKit
set_option maxRecDepth 8000
def Ob.t3 (o : Ob) : T3 := (.int .i64 o.h, .int .i64 o.u, .bool o.l)
theorem Ob.one3 (o : Ob) : One3 o.t3 := ⟨rfl, rfl, rfl⟩
def objL (m : Bool) : List Int → List Ob → List Int → Except Int (List Ob × List Int)
  | _, [], zs => .ok ([], zs)
  | hs, o :: r, zs => thn (obj1 m hs o zs) fun x zs => thn (objL m (hs ++ [x.h]) r zs) fun l zs => .ok (x :: l, zs)
def lstO (m : Bool) (all : List Ob) (zs : List Int) : Except Int (List Ob × List Int) :=
  thn (num m 2 65535 all.length zs) fun n zs => if n > 16 then .error (stp m 5) else objL m [] (fillOf n.toNat all ⟨0, 0, false⟩) zs
theorem Hnd.lt {w : World} {bc bh : Nat} {p q : Option Addr} {m : Bool} {zs hs : List Int} {F : Nat → Prop} (h : Hnd w bc bh p q m zs hs F) : ∀ k, F k → k < w.heap.size := by
  obtain ⟨S, v, x, rfl⟩ := h
  intro k hk
  rcases hk with h | rfl | h
  · exact x.cod.lt k h
  · exact x.kh.lt
  · exact (x.own.lt k h).2
theorem Hnd.but {w w' : World} {bc bh : Nat} {p q : Option Addr} {m : Bool} {zs hs : List Int} {F T : Nat → Prop} (h : Hnd w bc bh p q m zs hs F) (b : But T w w') (hn : ∀ k, F k → ¬ T k) (hc : ¬ T bc) : Hnd w' bc bh p q m zs hs F := by
  obtain ⟨S, v, x, rfl⟩ := h
  exact ⟨S, v, ⟨x.cod.but b (fun k hk => hn k (.inl hk)), x.kc.but b hc, x.kh.but b (hn bh (.inr (.inl rfl))), own_but x.own b (fun k hk => hn k (.inr (.inr hk))), x.ne, x.oc, x.oh, x.os⟩, rfl⟩
theorem Hnd.after {w w' : World} {bc bh : Nat} {p q : Option Addr} {m : Bool} {zs hs : List Int} {F : Nat → Prop} (h : Hnd w bc bh p q m zs hs F) (b : After w w') : Hnd w' bc bh p q m zs hs F := h.but b (fun _ _ t => t) (fun t => t)
theorem Hnd.set {w : World} {bc bh : Nat} {p q : Option Addr} {m : Bool} {zs hs : List Int} {F : Nat → Prop} (h : Hnd w bc bh p q m zs hs F) {g : Nat} (hg : ¬ F g) (hc : bc ≠ g) (o : Nat) (x : Value) : Hnd (w.setCell ⟨g, o, none⟩ x) bc bh p q m zs hs F :=
  h.but (T := One g) (But.set (S := One g) But.rfl ⟨g, o, none⟩ (fun _ => rfl) x) (fun k hk e => hg (by rw [← e]; exact hk)) (fun e => hc e)
theorem Tryz.info46 : (Tryz.prog.info? 46).map (fun i => (i.zero, i.size, i.bytes)) = some (some (.agg #[.int .i64 0, .int .i64 0, .bool false]), 3, 24) := by kernel_rfl
theorem makeO (k : Nat) (hk : k ≤ 16) (w : World) : (Instr.makeSlice 28 (.int .i64 (k : Int)) (.int .i64 (k : Int))).run Tryz.prog w = .ok (.slice (some ⟨w.heap.size, 0, none⟩) k k) (w.alloc (.cells (cells3 (List.replicate k (Ob.t3 ⟨0, 0, false⟩))).toArray 46)) := by
  obtain ⟨i0, hi, hz0, hz1, hz2⟩ := info_parts Tryz.info46
  have := run_make (P := Tryz.prog) w 28 46 i0 _ Tryz.underlying28 hi hz0 .i64 .i64 k k (by omega) (by omega) (by rw [hz2]; omega) (by omega)
  rw [this, hz1]
  simp only [Int.toNat_natCast]
  rw [show (Value.agg #[.int .i64 0, .int .i64 0, .bool false]).cells = #[.int .i64 0, .int .i64 0, .bool false] from rfl, made3]
  rfl
theorem fill_t3O {k n : Nat} {all : List Ob} (hn : all.length = n) : (all.map Ob.t3).take k ++ (List.replicate k (Ob.t3 ⟨0, 0, false⟩)).drop n = (fillOf k all ⟨0, 0, false⟩).map Ob.t3 := by
  subst hn
  simp [fillOf, List.map_take]
theorem HndX.after {w w' : World} {bc bh : Nat} {p q : Option Addr} {m : Bool} {zs hs : List Int} {S : Nat → Prop} {v : Value} (x : HndX w bc bh p q m zs hs S v) (b : After w w') : HndX w' bc bh p q m zs hs S v :=
  ⟨x.cod.after b, x.kc.after b, x.kh.after b, own_after x.own b, x.ne, x.oc, x.oh, x.os⟩
theorem HndX.step {w w' : World} {bc bh : Nat} {p q : Option Addr} {m : Bool} {zs ys hs : List Int} {S S' : Nat → Prop} {v : Value} (x : HndX w bc bh p q m zs hs S v) (s : Stp S w S' w') (c : Cod w' p q m ys S') : HndX w' bc bh p q m ys hs S' v :=
  ⟨c, x.kc.step s, x.kh.step s, own_but x.own s.but x.os, x.ne, x.oc, x.oh, fun k hk h => (s.new k h).elim (x.os k hk) (fun h' => absurd (x.own.lt k hk).2 (by omega))⟩
set_option maxHeartbeats 1000000 in
theorem c_listO (w : World) (bc bh : Nat) (p q : Option Addr) (m : Bool) (zs : List Int) (F : Nat → Prop) (a : Option Addr) (n c : Nat) (all : List Ob) (hnd : Hnd w bc bh p q m zs [] F) (hr : RowT w a n (all.map Ob.t3)) (hd : ∀ y, a = some y → 0 < n → ¬ F y.block) (ha : a = none → n = 0 ∧ c = 0) (hl : m = true → zs.length ≤ 990000000) :
    Calls Tryz.prog 97 #[Co p q, .slice a n c, .int .i64 16, .func (.func 98) #[] #[Ptr bc, Ptr bh]] w fun e w' => Ends (lstO m all zs) (fun l ys => (∃ b, e = .returned (.slice (some ⟨b, 0, none⟩) l.length l.length) ∧ RowT w' (some ⟨b, 0, none⟩) l.length (l.map Ob.t3) ∧ w.heap.size ≤ b) ∧ ∃ hs F', Hnd w' bc bh p q m ys hs F' ∧ Stp F w F' w') (fun c => e = .panicked (Halt c) ∧ But F w w') := by
  obtain ⟨S, v, hx0, rfl⟩ := hnd
  have cd := hx0.cod
  have hA : After w (w.alloc (.cells #[.pointer p, .pointer q] 79)) := After.rfl.alloc _
  have hn : all.length = n := by have := hr.1; simpa using this
  have b0 := new1 w (.cells #[.pointer p, .pointer q] 79)
  have f0 : Off S w.heap.size (w.heap.size + 1) := Off.old cd.lt _
  have hE : lstO m all zs = thn (num m 2 65535 (n : Int) zs) fun n zs => if n > 16 then .error (stp m 5) else objL m [] (fillOf n.toNat all ⟨0, 0, false⟩) zs := by rw [← hn]; rfl
  have H1 := hideIt (c_u16 _ p q m zs S n (cd.after hA) (fun h => by have := hl h; omega))
  have HX := hideIt (And.intro hA (And.intro b0 (And.intro f0 (And.intro hl (And.intro hE (And.intro hr (And.intro hd (And.intro ha (And.intro hx0 (And.intro cd.bs hn))))))))))
  clear hA b0 f0 hl hE hr hd ha hx0 cd hn
  go_enter Tryz.func97, Tryz.ntmps97
  go_wp2_with fail
  refine H1.out.mono ?_
  clear H1
  intro e w1 h1
  obtain ⟨hA, b0, f0, hl, hE, hr, hd, ha, hx0, hbs, hn⟩ := HX.out
  rcases h1.split with ⟨c1, e1, rfl, t⟩ | ⟨x1, z1, e1, rfl, S1, k1, s1⟩
  · exact ⟨rfl, Ends.bad (by rw [hE, thn_bad e1]) ⟨rfl, (hA.but.trans t).mono (fun i _ h => .inl h)⟩⟩
  have q0 := blk s1.but f0 (Nat.le_refl _) (by omega) b0
  have hx := num_bound e1 hbs (by decide)
  have t1 := num_len e1
  obtain ⟨_, y1, y2, y3, y4⟩ := two_at q0
  by_cases h64 : x1 > 16
  · have H2 := hideIt (c_stop w1 p q m z1 S1 5 k1)
    have HE := hideIt (hE.trans ((thn_ok e1).trans (if_pos h64)))
    have HB := hideIt ((hA.but.trans s1.but).mono (T := HndF bh S v) (fun i _ h => .inl h))
    clear HX h1 hA b0 f0 hl hE hr hd ha hx0 hbs hn e1 k1 s1 q0 hx t1
    go_wp2_with (go_at_call 41; refine H2.out.mono ?_; rintro e w2 ⟨rfl, h2⟩; have HW := hideIt h2; clear h2)
    exact ⟨rfl, Ends.bad HE.out ⟨rfl, HB.out.trans HW.out.but⟩⟩
  · obtain ⟨k, rfl⟩ := Int.eq_ofNat_of_zero_le hx.1
    have hk : k ≤ 16 := by omega
    have HE := hideIt (hE.trans ((thn_ok e1).trans (if_neg h64)))
    have hmk := makeO k hk
    have h64' : ¬ (16 : Int) < (k : Int) := by omega
    have HT := hideIt (HndF.step (bh := bh) (v := v) (Stp.behind hA s1))
    have HK := hideIt (show Hnd w1 bc bh p q m z1 [] (HndF bh S1 v) from ⟨S1, v, (hx0.after hA).step s1 k1, rfl⟩)
    have HBC := hideIt hx0.kc.lt
    have HL := hideIt (show m = true → z1.length ≤ 990000002 from fun h => by have := hl h; omega)
    have HR := hideIt (hr.but ((hA.but.trans s1.but).mono (T := HndF bh S v) (fun i _ h => .inl h)) hd)
    have HN := hideIt (And.intro ha hn)
    clear HX h1 hA b0 f0 hl hE hr hd ha hx0 hbs hn e1 k1 s1 q0 hx t1 h64 hk
    have hsz : (Tryz.prog.info? 46).map (·.size) = some 3 := by kernel_rfl
    have X1 : ∀ y ∈ all.map Ob.t3, One3 y := fun y hy => by obtain ⟨o, _, rfl⟩ := List.mem_map.1 hy; exact o.one3
    have X2 := HR.out.after (After.rfl.alloc (.cells (cells3 (List.replicate k (Ob.t3 ⟨0, 0, false⟩))).toArray 46))
    have XS := hideIt (And.intro hsz (And.intro X1 X2))
    clear hsz X1 X2
    go_wp2_with fail
    obtain ⟨w2, he2, hg, hb2⟩ := run_copyAny (P := Tryz.prog) (w1.alloc (.cells (cells3 (List.replicate k (Ob.t3 ⟨0, 0, false⟩))).toArray 46)) 28 28 3 46 Tryz.underlying28 XS.out.1 w1.heap.size k k a n c 46 (List.replicate k (Ob.t3 ⟨0, 0, false⟩)) (all.map Ob.t3) (new1 _ _) List.length_replicate XS.out.2.2 XS.out.2.1 HN.out.1
    rw [he2]
    clear he2
    have HG := hideIt hg
    have HB2 := hideIt hb2
    clear hg hb2
    obtain ⟨ha, hn⟩ := HN.out
    have hk : k ≤ 16 := by omega
    rw [fill_t3O hn] at HG
    rw [Int.toNat_natCast] at HE
    have hlf := fillOf_length k all (⟨0, 0, false⟩ : Ob)
    obtain ⟨xs, hxs⟩ : ∃ xs, fillOf k all (⟨0, 0, false⟩ : Ob) = xs := ⟨_, rfl⟩
    rw [hxs] at HG HE hlf
    have hS1 : ¬ HndF bh S1 v w1.heap.size := fun h => absurd (HK.out.lt _ h) (by omega)
    have hbc1 : bc < w1.heap.size := Nat.lt_of_lt_of_le HBC.out HT.out.but.size
    have HC2 := hideIt (HK.out.but (T := One w1.heap.size) ((After.rfl.alloc _).but.trans HB2.out) (fun k hk h => hS1 (by rw [← h]; exact hk)) (fun h => by have : bc = w1.heap.size := h; omega))
    have HT2 := hideIt (HT.out.trans (show Stp (HndF bh S1 v) w1 (HndF bh S1 v) w2 from ⟨((After.rfl.alloc (.cells (cells3 (List.replicate k (Ob.t3 ⟨0, 0, false⟩))).toArray 46)).but (S := One w1.heap.size) |>.trans HB2.out |>.then (T := Non) But.rfl (fun _ _ t => t.elim)).mono (fun i hi h => absurd hi (by rw [h]; omega)), fun k hk => .inl hk⟩))
    have HO2 := hideIt (show Off (HndF bh S1 v) w1.heap.size (w1.heap.size + 1) from fun k hk => .inl (HK.out.lt k hk))
    have hs2 : w1.heap.size + 1 ≤ w2.heap.size := by have := HB2.out.size; simpa using this
    have HB := hideIt (show w.heap.size ≤ w1.heap.size from HT.out.but.size)
    obtain ⟨b, hbb⟩ : ∃ b, w1.heap.size = b := ⟨_, rfl⟩
    rw [hbb] at HG HO2 HB hs2 hbc1 ⊢
    have HE0 := HE
    have HI := hideIt (And.intro hlf hs2)
    have HBB := hideIt hbc1
    clear ha hn hlf hxs hbc1 HBC hS1 XS HK HT HN HR hmk hs2 hbb HB2
    go_wp2_with fail
    go_loopw [29] (fun i W => ∃ (j : Nat) (dn rs : List Ob) (ys : List Int) (T : Nat → Prop), j ≤ k ∧ i = .int .i64 j ∧ dn.length = j ∧ (dn ++ rs).length = k ∧ W.heap[b]? = some (.cells (cells3 ((dn ++ rs).map Ob.t3)).toArray 46 (0, 0)) ∧ Hnd W bc bh p q m ys (dn.map Ob.h) T ∧ Stp (HndF bh S v) w T W ∧ Off T b (b + 1) ∧ objL m [] xs z1 = thn (objL m (dn.map Ob.h) rs ys) (fun l us => .ok (dn ++ l, us)) ∧ (m = true → ys.length ≤ 990000002 + 7 * j)) (fun i _ => k - (intOf i).toNat)
    case atStart =>
      refine ⟨0, [], xs, z1, HndF bh S1 v, Nat.zero_le _, rfl, rfl, HI.out.1, HG.out, HC2.out, HT2.out, HO2.out, ?_, fun h => by have := HL.out h; omega⟩
      show objL m [] xs z1 = thn (objL m [] xs z1) _
      cases objL m [] xs z1 <;> rfl
    case round =>
      obtain ⟨j, dn, rs, ys, T, hj, rfl, hdn, hlen, hblk, hcod, hstp, hoff, hrun, hln⟩ := hrel
      by_cases hlt : j < k
      · obtain ⟨o, r, rfl⟩ : ∃ o r, rs = o :: r := by
          cases rs with
          | nil => simp at hlen; omega
          | cons o r => exact ⟨o, r, rfl⟩
        have hat : ((dn ++ o :: r).map Ob.t3)[j]? = some o.t3 := by simp [← hdn]
        obtain ⟨d0, d1, d2⟩ := cells3_at _ j _ hat
        have g0 : wr.cell? ⟨b, j * 3, none⟩ = some (.int .i64 o.h) := by rw [cell_blk hblk]; exact d0
        have g1 : wr.cell? ⟨b, j * 3 + 1, none⟩ = some (.int .i64 o.u) := by rw [cell_blk hblk]; exact d1
        have g2 : wr.cell? ⟨b, j * 3 + 2, none⟩ = some (.bool o.l) := by rw [cell_blk hblk]; exact d2
        have hbl : b < wr.heap.size := (Array.getElem?_eq_some_iff.1 hblk).1
        have hA2 : After wr (wr.alloc (.cells #[.int .i64 o.h, .int .i64 o.u, .bool o.l] 46)) := After.rfl.alloc _
        have H2 := hideIt (c_obj _ bc bh p q m ys (dn.map Ob.h) T o (hcod.after hA2) (fun h => by have := hln h; omega) (by rw [List.length_map, hdn]; omega))
        have hrun' : lstO m all zs = thn (obj1 m (dn.map Ob.h) o ys) fun x us => thn (thn (objL m (dn.map Ob.h ++ [x.h]) r us) fun l us => .ok (x :: l, us)) fun l us => .ok (dn ++ l, us) := by
          rw [HE.out, hrun]
          show thn (thn (obj1 m (dn.map Ob.h) o ys) _) _ = _
          cases obj1 m (dn.map Ob.h) o ys <;> rfl
        have HX := hideIt (And.intro hblk (And.intro hstp (And.intro hoff (And.intro hrun' (And.intro hln (And.intro hdn (And.intro hlen (And.intro hA2 hbl))))))))
        have hjk : (j : Int) < (k : Int) := by omega
        clear hblk hcod hstp hoff hrun hrun' hln hdn hlen hat d0 d1 d2 hA2 HG HL HI HO2 HC2 HT2
        go_wp2_with fail
        refine H2.out.mono ?_
        clear H2
        intro e w3 h3
        obtain ⟨hblk, hstp, hoff, hrun', hln, hdn, hlen, hA2, hbl'⟩ := HX.out
        rcases h3.split with ⟨c3, e3, rfl, t⟩ | ⟨x, us, e3, rfl, T3, k3, s3⟩
        · exact ⟨rfl, Ends.bad (hrun'.trans (thn_bad e3)) ⟨rfl, hstp.ends (hA2.but.trans t)⟩⟩
        have q3 : w3.heap[b]? = some (.cells (cells3 ((dn ++ o :: r).map Ob.t3)).toArray 46 (0, 0)) := blk s3.but hoff (Nat.le_refl _) (by omega) (new_past _ _ hblk)
        have hat : ((dn ++ o :: r).map Ob.t3)[j]? = some o.t3 := by simp [← hdn]
        obtain ⟨d0, d1, d2⟩ := cells3_at _ j _ hat
        have g0' : w3.cell? ⟨b, j * 3, none⟩ = some (.int .i64 o.h) := by rw [cell_blk q3]; exact d0
        have g1' : w3.cell? ⟨b, j * 3 + 1, none⟩ = some (.int .i64 o.u) := by rw [cell_blk q3]; exact d1
        have g2' : w3.cell? ⟨b, j * 3 + 2, none⟩ = some (.bool o.l) := by rw [cell_blk q3]; exact d2
        have z0 := frozen_blk q3 (j * 3)
        have z1' := frozen_blk q3 (j * 3 + 1)
        have z2' := frozen_blk q3 (j * 3 + 2)
        have hoff3 := hoff.step s3 (by rw [World.size_alloc]; omega)
        have hw : w.heap.size ≤ wr.heap.size := hstp.but.size
        have b3 := blk_set3 (i := j) q3 (.int .i64 x.h) (.int .i64 x.u) (.bool x.l)
        have hset : ((dn ++ o :: r).map Ob.t3).set j (.int .i64 x.h, .int .i64 x.u, .bool x.l) = ((dn ++ [x]) ++ r).map Ob.t3 := by
          subst hdn
          simp [Ob.t3]
        rw [hset] at b3
        have hnb : ¬ T3 b := fun h => by have := hoff3 b h; omega
        have hbb : bc ≠ b := by have := HBB.out; omega
        have k3' := ((k3.set hnb hbb (j * 3) (.int .i64 x.h)).set hnb hbb (j * 3 + 1) (.int .i64 x.u)).set hnb hbb (j * 3 + 2) (.bool x.l)
        have s3' := hstp.trans (Stp.behind hA2 s3)
        have hbw : w.heap.size ≤ b := HB.out
        have s3'' := ((s3'.newly hbw (j * 3) (.int .i64 x.h)).newly hbw (j * 3 + 1) (.int .i64 x.u)).newly hbw (j * 3 + 2) (.bool x.l)
        have l3 := obj1_len e3
        have hrun3 := hrun'.trans (thn_ok e3)
        have HY := hideIt (And.intro b3 (And.intro k3' (And.intro s3'' (And.intro hoff3 (And.intro hrun3 (And.intro (show m = true → us.length ≤ 990000002 + 7 * (j + 1) from fun h => by have := hln h; omega) (And.intro hdn hlen)))))))
        have hbl3 : b < w3.heap.size := (Array.getElem?_eq_some_iff.1 q3).1
        clear HX h3 hblk hstp hoff hrun' hln hdn hlen hA2 hbl' e3 k3 s3 q3 hat d0 d1 d2 hoff3 hw b3 hset hnb hbb k3' s3' hbw s3'' l3 hrun3 HE
        unfold Ob.val
        go_wp2_with fail
        go_roundw
        case rel =>
          obtain ⟨b3, k3, s3, ho3, hr3, hl3, hdn, hlen⟩ := HY.out
          refine ⟨j + 1, dn ++ [x], r, us, T3, by omega, by go_num, by simp [hdn], by simpa using hlen, b3, by simpa using k3, s3, ho3, ?_, hl3⟩
          rw [← HE0.out, hr3, List.map_append]
          show _ = thn (objL m (dn.map Ob.h ++ [x.h]) r us) _
          cases objL m (dn.map Ob.h ++ [x.h]) r us <;> simp [thn]
        case measure => simp [intOf]; omega
      · obtain rfl : j = k := by omega
        have hrs : rs = [] := by
          have : dn.length + rs.length = j := by simpa using hlen
          exact List.eq_nil_of_length_eq_zero (by omega)
        subst hrs
        have hres : lstO m all zs = .ok (dn, ys) := by rw [HE.out, hrun]; show (Except.ok (dn ++ [], ys) : Except Int (List Ob × List Int)) = _; rw [List.append_nil]
        rw [List.append_nil] at hblk
        have hrow := RowT.of hblk
        rw [List.length_map, hdn] at hrow
        have HY := hideIt (And.intro hres (And.intro hrow (And.intro hcod hstp)))
        have HD := hideIt hdn
        clear hrun hres hblk hrow hcod hstp hoff hln hlen hdn HE HE0 HG HL HI HO2 HC2 HT2
        go_wp2_with fail
        go_ret
        refine Ends.ok HY.out.1 ⟨⟨b, ?_, ?_, HB.out⟩, _, T, HY.out.2.2.1, HY.out.2.2.2⟩
        · rw [HD.out]; rfl
        · rw [HD.out]; exact HY.out.2.1
end Go.Proofs.YthcfdoafncbliaaGreat
/-
  Octets, who asks, and objects, by any coder.
-/
namespace Go.Proofs.YthcfdoafncbliaaGreat
open Go.RowKit
set_option maxRecDepth 8000
/-- What octets answer: bytes; where they were read, in memory of their own; and the coder has gone on to us. -/
def Octs (w w' : World) (p q : Option Addr) (m : Bool) (S : Nat → Prop) (a0 : Option Addr) (n0 : Nat) (e : Ending) (ys us : List Int) : Prop :=
  ∃ a n c S', e = .returned (.slice a n c) ∧ Row w' a n ys ∧ (a = none → n = 0 ∧ c = 0) ∧ (m = false → w'.ownsRow w.heap.size 5 1 (.slice a n c) n (u8s ys) ∧ ∀ k, (Value.slice a n c).ownBlock = some k → ¬ S' k) ∧ Cod w' p q m us S' ∧ Stp S w S' w' ∧ (∀ y, a = some y → 0 < n → ¬ S' y.block ∧ ((a0 = some y ∧ 0 < n0) ∨ w.heap.size ≤ y.block))
theorem c_oct (w : World) (p q : Option Addr) (m : Bool) (zs : List Int) (S : Nat → Prop) (a : Option Addr) (n c : Nat) (bs : List Int) (cd : Cod w p q m zs S) (rb : Row w a n bs) (ha : a = none → n = 0 ∧ c = 0) (hs : ∀ y, a = some y → 0 < n → ¬ S y.block) (hn : n ≤ 140737488355328) (hl : m = true → zs.length ≤ 1000000000) :
    Calls Tryz.prog 82 #[Co p q, .slice a n c] w fun e w' => Ends (oct m bs zs) (fun ys us => Octs w w' p q m S a n e ys us) (fun c => e = .panicked (Halt c) ∧ But S w w') := by
  rcases cd.is with ⟨rfl, g, h, rfl, rfl, r, rfl⟩ | ⟨rfl, g, v, rfl, rfl, r, rfl⟩
  · refine (oct_cr w g h zs (.slice a n c) r bs).mono ?_
    intro e w1 h1
    rcases h1.split with ⟨c, e1, rfl, b⟩ | ⟨ys, us, e1, ⟨y, rfl, ho⟩, r1, b⟩
    · exact Ends.bad e1 ⟨rfl, b.mono (fun i _ hi => .inl hi)⟩
    · refine Ends.ok e1 ?_
      have hb : Bs ys := by
        unfold oct at e1
        rw [if_neg (by decide)] at e1
        split at e1
        · cases e1; exact ocVal_bs r.bs
        · cases e1
      obtain ⟨a', c', rfl, hr, hn', _, hw⟩ := own_row ho hb
      obtain ⟨S', k1, s1⟩ := rd_step r1 b
      refine ⟨a', _, c', Two g h, rfl, hr, hn', (fun _ => ⟨ho, fun k hk h => absurd (cd.lt _ h) (by have := (ho.lt k hk).1; omega)⟩), ⟨.inl ⟨rfl, g, h, rfl, rfl, r1, rfl⟩, fun k hk => Nat.lt_of_lt_of_le (cd.lt k hk) b.size⟩, ⟨b.mono (fun i _ hi => .inl hi), fun k hk => .inl hk⟩, fun y hy _ => ?_⟩
      have h2 := (ho.lt _ (hw y hy).1).1
      exact ⟨fun h => absurd (cd.lt _ h) (by omega), .inr h2⟩
  · refine (oct_cw w g v zs a n c bs r rb ha hs hn (hl rfl)).mono ?_
    intro e w1 h1
    rcases h1.split with ⟨c, e1, rfl, b⟩ | ⟨ys, us, e1, rfl, rfl, r1⟩
    · exact Ends.bad e1 ⟨rfl, b⟩
    · obtain ⟨S', c1, s1⟩ := wr_step r1
      refine Ends.ok e1 ⟨a, n, c, S', rfl, rb.but2 s1.but hs, ha, (fun h => by cases h), c1, s1, fun y hy h0 => ⟨fun h => ?_, .inl ⟨hy, h0⟩⟩⟩
      rcases s1.new _ h with h | h
      · exact hs y hy h0 h
      · obtain ⟨b', off, e, hl, _⟩ := rb.2.2 0 h0
        rw [hy] at e; cases e; dsimp only at h; omega
theorem oct_len {m : Bool} {v ys zs us : List Int} (h : oct m v zs = .ok (ys, us)) (hb : Bs zs) : ys.length ≤ 65535 ∧ us.length ≤ zs.length + 65537 := by
  unfold oct at h
  split at h
  · split at h
    · cases h
      rw [List.length_append, List.length_append, bytesOf_length]; omega
    · cases h
  · split at h
    · rename_i hi
      cases h
      have := ocVal_len hb
      have e : ocRest zs = (zs.drop 2).drop (ocN zs) := if_pos hi
      rw [e, List.length_drop, List.length_drop]; omega
    · cases h
theorem num_bs {m : Bool} {k M : Nat} {v x : Int} {zs ys : List Int} (h : num m k M v zs = .ok (x, ys)) (hb : Bs zs) : Bs ys := by
  unfold num at h
  split at h
  · split at h
    · cases h; exact hb.append (bytesOf_bs _ _)
    · cases h
  · split at h
    · cases h; exact hb.drop _
    · cases h
theorem eit_bs {m so b : Bool} {y n : Int} {zs ys : List Int} (h : eit m so y n zs = .ok (b, ys)) (hb : Bs zs) : Bs ys := by
  unfold eit at h
  cases e : num m 1 255 (if so then y else n) zs with
  | error c => rw [thn_bad e] at h; cases h
  | ok v =>
    obtain ⟨v1, z1⟩ := v
    rw [thn_ok e] at h
    split at h
    · cases h; exact num_bs e hb
    · cases h
theorem obs1_bits {m : Bool} {o x : Bi} {zs ys : List Int} (h : obs1 m o zs = .ok (x, ys)) (hb : Bs zs) : (0 ≤ x.b ∧ x.b < 4294967296) ∧ Bs ys := by
  unfold obs1 at h
  cases e1 : num m 2 65535 o.h zs with
  | error c => rw [thn_bad e1] at h; cases h
  | ok v =>
    obtain ⟨v1, z1⟩ := v
    rw [thn_ok e1] at h
    cases e2 : eit m o.l 4 2 z1 with
    | error c => rw [thn_bad e2] at h; cases h
    | ok v =>
      obtain ⟨v2, z2⟩ := v
      rw [thn_ok e2] at h
      have l2 := eit_bs e2 (num_bs e1 hb)
      cases v2 with
      | true =>
        cases e3 : num m 4 4294967295 o.b z2 with
        | error c => rw [thn_bad (by simpa using e3)] at h; cases h
        | ok v =>
          obtain ⟨v3, z3⟩ := v
          rw [thn_ok (by simpa using e3)] at h
          have l3 := num_bound e3 l2 (by decide)
          have l4 := num_bs e3 l2
          cases h; exact ⟨by dsimp only; omega, l4⟩
      | false =>
        cases e3 : num m 2 65535 o.b z2 with
        | error c => rw [thn_bad (by simpa using e3)] at h; cases h
        | ok v =>
          obtain ⟨v3, z3⟩ := v
          rw [thn_ok (by simpa using e3)] at h
          have l3 := num_bound e3 l2 (by decide)
          have l4 := num_bs e3 l2
          cases h; exact ⟨by dsimp only; omega, l4⟩
theorem obsL_bits {m : Bool} {all l : List Bi} {zs ys : List Int} (h : obsL m all zs = .ok (l, ys)) (hb : Bs zs) : ∀ o ∈ l, 0 ≤ o.b ∧ o.b < 4294967296 := by
  induction all generalizing zs l ys with
  | nil => cases h; intro o ho; cases ho
  | cons a r ih =>
    unfold obsL at h
    cases e1 : obs1 m a zs with
    | error c => rw [thn_bad e1] at h; cases h
    | ok v =>
      obtain ⟨x, z1⟩ := v
      rw [thn_ok e1] at h
      obtain ⟨b1, b2⟩ := obs1_bits e1 hb
      cases e2 : obsL m r z1 with
      | error c => rw [thn_bad e2] at h; cases h
      | ok v =>
        obtain ⟨l2, z2⟩ := v
        rw [thn_ok e2] at h
        have := ih e2 b2
        cases h
        intro o ho
        rcases List.mem_cons.1 ho with rfl | ho
        · exact b1
        · exact this o ho
theorem lstB_bits {m : Bool} {all l : List Bi} {zs ys : List Int} (h : lstB m all zs = .ok (l, ys)) (hb : Bs zs) : ∀ o ∈ l, 0 ≤ o.b ∧ o.b < 4294967296 := by
  unfold lstB at h
  cases e1 : num m 2 65535 all.length zs with
  | error c => rw [thn_bad e1] at h; cases h
  | ok v =>
    obtain ⟨n, z1⟩ := v
    rw [thn_ok e1] at h
    split at h
    · cases h
    · exact obsL_bits h (num_bs e1 hb)
/-- Who asks. -/
def sysF (m : Bool) (s : List Int) (zs : List Int) : Except Int (List Int × List Int) :=
  thn (oct m s zs) fun b zs => if b.length = 8 then .ok (b, zs) else .error (stp m 4)
theorem sys_len {m : Bool} {v ys zs us : List Int} (h : sysF m v zs = .ok (ys, us)) (hb : Bs zs) : ys.length = 8 ∧ us.length ≤ zs.length + 65537 := by
  unfold sysF at h
  cases e : oct m v zs with
  | error c => rw [thn_bad e] at h; cases h
  | ok x =>
    obtain ⟨b, z⟩ := x
    rw [thn_ok e] at h
    split at h
    · rename_i h8
      cases h
      exact ⟨h8, (oct_len e hb).2⟩
    · cases h
theorem c_system (w : World) (p q : Option Addr) (m : Bool) (zs : List Int) (S : Nat → Prop) (a : Option Addr) (n c : Nat) (bs : List Int) (cd : Cod w p q m zs S) (rb : Row w a n bs) (ha : a = none → n = 0 ∧ c = 0) (hs : ∀ y, a = some y → 0 < n → ¬ S y.block) (hn : n ≤ 140737488355328) (hl : m = true → zs.length ≤ 1000000000) :
    Calls Tryz.prog 85 #[Co p q, .slice a n c] w fun e w' => Ends (sysF m bs zs) (fun ys us => Octs w w' p q m S a n e ys us) (fun c => e = .panicked (Halt c) ∧ But S w w') := by
  have hA : After w (w.alloc (.cells #[.pointer p, .pointer q] 79)) := After.rfl.alloc _
  have b0 := new1 w (.cells #[.pointer p, .pointer q] 79)
  have f0 : Off S w.heap.size (w.heap.size + 1) := Off.old cd.lt _
  have HE := hideIt (show sysF m bs zs = thn (oct m bs zs) fun b zs => if b.length = 8 then .ok (b, zs) else .error (stp m 4) from rfl)
  have H1 := hideIt (c_oct _ p q m zs S a n c bs (cd.after hA) (rb.after hA) ha hs hn hl)
  have HX := hideIt (And.intro hA (And.intro b0 f0))
  clear hA b0 f0 cd rb ha hs hn hl
  go_enter Tryz.func85, Tryz.ntmps85
  go_wp2_with fail
  refine H1.out.mono ?_
  clear H1
  intro e w1 h1
  obtain ⟨hA, b0, f0⟩ := HX.out
  rcases h1.split with ⟨c1, e1, rfl, t⟩ | ⟨ys, us, e1, a1, n1, c1, S1, rfl, r1, hn1, ho1, k1, s1, hap⟩
  · exact ⟨rfl, Ends.bad (by rw [HE.out, thn_bad e1]) ⟨rfl, hA.but.trans t⟩⟩
  have q0 := blk s1.but f0 (Nat.le_refl _) (by omega) b0
  obtain ⟨_, y1, y2, _, _⟩ := two_at q0
  have hlen : ys.length = n1 := r1.1
  have HM := hideIt (fun b => c_must w1 p q m us S1 b k1)
  have HE1 := hideIt (HE.out.trans (thn_ok e1))
  have HY := hideIt (And.intro r1 (And.intro hn1 (And.intro ho1 (And.intro k1 (And.intro (Stp.behind hA s1) (And.intro hA.size hap))))))
  clear HX h1 hA b0 f0 e1 k1 s1 q0 r1 hn1 ho1 hap HE
  by_cases h8 : n1 = 8
  · subst h8
    have E := hideIt (HE1.out.trans (if_pos hlen))
    clear HE1 hlen
    go_wp2_with (go_at_call 60; refine (HM.out true).mono ?_; rintro e w2 ⟨h, h2⟩; rcases h with ⟨_, rfl⟩ | ⟨h, _⟩; case' inr => cases h)
    go_ret
    obtain ⟨r1, hn1, ho1, k1, s1, hsz, hap⟩ := HY.out
    exact Ends.ok E.out ⟨a1, 8, c1, S1, rfl, r1.after h2, hn1, (fun h => ⟨own_base (own_after (ho1 h).1 h2) (fun k hk => Nat.le_trans hsz ((ho1 h).1.lt k hk).1), (ho1 h).2⟩), k1.after h2, s1.after h2, fun y hy h0 => ⟨(hap y hy h0).1, (hap y hy h0).2.imp_right (fun h => Nat.le_trans hsz h)⟩⟩
  · have E := hideIt (HE1.out.trans (if_neg (by rw [hlen]; exact h8)))
    have h8' : ((n1 : Int) == 8) = false := by simpa using (show ¬ (n1 : Int) = 8 by omega)
    clear HE1 hlen h8
    go_wp2_with (go_at_call 60; refine (HM.out false).mono ?_; rintro e w2 ⟨h, h2⟩; rcases h with ⟨h, _⟩ | ⟨_, rfl⟩; case' inl => cases h)
    obtain ⟨r1, hn1, ho1, k1, s1, hsz, hap⟩ := HY.out
    exact ⟨rfl, Ends.bad E.out ⟨rfl, s1.but.trans h2.but⟩⟩
theorem c_objects (w : World) (p q : Option Addr) (m : Bool) (zs : List Int) (S : Nat → Prop) (a : Option Addr) (n c : Nat) (all : List Ob) (cd : Cod w p q m zs S) (hr : RowT w a n (all.map Ob.t3)) (hd : ∀ y, a = some y → 0 < n → ¬ S y.block) (ha : a = none → n = 0 ∧ c = 0) (hl : m = true → zs.length ≤ 990000000) :
    Calls Tryz.prog 86 #[Co p q, .slice a n c] w fun e w' => Ends (lstO m all zs) (fun l ys => (∃ b, e = .returned (.slice (some ⟨b, 0, none⟩) l.length l.length) ∧ RowT w' (some ⟨b, 0, none⟩) l.length (l.map Ob.t3) ∧ w.heap.size ≤ b) ∧ Went w w' p q m S ys) (fun c => e = .panicked (Halt c) ∧ But S w w') := by
  have hmf : ∀ (fn : Fn) (first cap : Array Value) (w : World), (Instr.makeFunc fn first cap).run Tryz.prog w = .ok (.func fn first cap) w := fun _ _ _ _ => rfl
  have hA : After w ((w.alloc (.cells #[.pointer p, .pointer q] 79)).alloc (.cells #[.slice none 0 0] 55)) := (After.rfl.alloc _).alloc _
  obtain ⟨b0, b1⟩ := new2 w (.cells #[.pointer p, .pointer q] 79) (.cells #[.slice none 0 0] 55)
  have hnd : Hnd _ w.heap.size (w.heap.size + 1) p q m zs [] (HndF (w.heap.size + 1) S (.slice none 0 0)) := ⟨S, .slice none 0 0, ⟨cd.after hA, ⟨b0, fun h => absurd (cd.lt _ h) (by omega)⟩, ⟨b1, fun h => absurd (cd.lt _ h) (by omega)⟩, World.ownsRow_nil _ _ _ _, by omega, (fun h => by cases h), (fun h => by cases h), fun k h => by cases h⟩, rfl⟩
  have hfar : ∀ y, a = some y → 0 < n → ¬ HndF (w.heap.size + 1) S (.slice none 0 0) y.block := fun y hy h0 h => by
    rcases h with h | h | h
    · exact hd y hy h0 h
    · obtain ⟨b, off, x, e, hl, _⟩ := hr.2 0 h0
      rw [hy] at e; cases e; dsimp only at h; omega
    · cases h
  have H1 := hideIt (c_listO _ w.heap.size (w.heap.size + 1) p q m zs _ a n c all hnd (hr.after hA) hfar ha hl)
  have HA := hideIt hA
  clear hA b0 b1 hnd hfar cd hr hd ha hl
  go_enter Tryz.func86, Tryz.ntmps86
  go_wp2_with fail
  refine H1.out.mono ?_
  clear H1
  intro e w1 h1
  have hA := HA.out
  have hbut : ∀ {W}, But (HndF (w.heap.size + 1) S (.slice none 0 0)) ((w.alloc (.cells #[.pointer p, .pointer q] 79)).alloc (.cells #[.slice none 0 0] 55)) W → But S w W := fun {W} t =>
    hA.but.then t (fun i hi h => by
      rcases h with h | h | h
      · exact h
      · omega
      · cases h)
  rcases h1.split with ⟨c1, e1, rfl, t⟩ | ⟨l, us, e1, ⟨b, rfl, r1, hb⟩, hs, F', ⟨S', v', x', rfl⟩, s1⟩
  · exact ⟨rfl, Ends.bad e1 ⟨rfl, hbut t⟩⟩
  have hsz : w.heap.size ≤ ((w.alloc (.cells #[.pointer p, .pointer q] 79)).alloc (.cells #[.slice none 0 0] 55)).heap.size := hA.size
  have HY := hideIt (And.intro e1 (And.intro r1 (And.intro (Nat.le_trans hsz hb) (And.intro x'.cod (show Stp S w S' w1 from ⟨hbut s1.but, fun k hk => by
    rcases s1.new k (.inl hk) with h | h
    · rcases h with h | h | h
      · exact .inl h
      · exact .inr (by omega)
      · cases h
    · exact .inr (Nat.le_trans hsz h)⟩)))))
  clear h1 e1 r1 hb x' s1 hbut hsz hA
  obtain ⟨ln, hln⟩ : ∃ ln, l.length = ln := ⟨_, rfl⟩
  have HLN := hideIt hln
  rw [hln]
  clear hln
  go_wp2_with fail
  go_ret
  obtain ⟨e1, r1, hb, k1, s1⟩ := HY.out
  exact Ends.ok e1 ⟨⟨b, by rw [HLN.out]; rfl, r1, hb⟩, S', k1, s1⟩
end Go.Proofs.YthcfdoafncbliaaGreat
/-
  Messages: what they have, where they lie, and their fields gone through.
-/
namespace Go.Proofs.YthcfdoafncbliaaGreat
open Go.RowKit
set_option maxRecDepth 8000
/-- A message. -/
structure Msg where
  kind : Int
  sys : List Int
  config : Int
  result : Int
  reason : Int
  objs : List Ob
  obs : List Bi
def Msg.zero (k : Int) : Msg := ⟨k, [], 0, 0, 0, [], []⟩
/-- A message lies in memory, its lists in blocks of which P holds. -/
structure MsgX (w : World) (P : Nat → Prop) (M : Msg) (sa : Option Addr) (sc : Nat) (oa : Option Addr) (oc : Nat) (ba : Option Addr) (bc : Nat) : Prop where
  sr : Row w sa M.sys.length M.sys
  sn : sa = none → M.sys.length = 0 ∧ sc = 0
  sp : ∀ y, sa = some y → 0 < M.sys.length → P y.block
  sl : M.sys.length ≤ 140737488355328
  or : RowT w oa M.objs.length (M.objs.map Ob.t3)
  on : oa = none → M.objs.length = 0 ∧ oc = 0
  op : ∀ y, oa = some y → 0 < M.objs.length → P y.block
  br : RowT w ba M.obs.length (M.obs.map Bi.t3)
  bn : ba = none → M.obs.length = 0 ∧ bc = 0
  bp : ∀ y, ba = some y → 0 < M.obs.length → P y.block
  bb : ∀ o ∈ M.obs, 0 ≤ o.b ∧ o.b < 4294967296
def Msg.val (M : Msg) (sa : Option Addr) (sc : Nat) (oa : Option Addr) (oc : Nat) (ba : Option Addr) (bc : Nat) : Value :=
  .agg #[.int .i64 M.kind, .slice sa M.sys.length sc, .int .i64 M.config, .int .i64 M.result, .int .i64 M.reason, .slice oa M.objs.length oc, .slice ba M.obs.length bc]
def MsgAt (w : World) (P : Nat → Prop) (v : Value) (M : Msg) : Prop := ∃ sa sc oa oc ba bc, v = M.val sa sc oa oc ba bc ∧ MsgX w P M sa sc oa oc ba bc
theorem MsgX.but {w w' : World} {P T : Nat → Prop} {M : Msg} {sa : Option Addr} {sc : Nat} {oa : Option Addr} {oc : Nat} {ba : Option Addr} {bc : Nat} (x : MsgX w P M sa sc oa oc ba bc) (b : But T w w') (hn : ∀ k, P k → ¬ T k) : MsgX w' P M sa sc oa oc ba bc :=
  ⟨x.sr.but2 b (fun y hy h0 => hn _ (x.sp y hy h0)), x.sn, x.sp, x.sl, x.or.but b (fun y hy h0 => hn _ (x.op y hy h0)), x.on, x.op, x.br.but b (fun y hy h0 => hn _ (x.bp y hy h0)), x.bn, x.bp, x.bb⟩
theorem MsgX.after {w w' : World} {P : Nat → Prop} {M : Msg} {sa : Option Addr} {sc : Nat} {oa : Option Addr} {oc : Nat} {ba : Option Addr} {bc : Nat} (x : MsgX w P M sa sc oa oc ba bc) (b : After w w') : MsgX w' P M sa sc oa oc ba bc := x.but b (fun _ _ t => t)
theorem MsgX.mono {w : World} {P T : Nat → Prop} {M : Msg} {sa : Option Addr} {sc : Nat} {oa : Option Addr} {oc : Nat} {ba : Option Addr} {bc : Nat} (x : MsgX w P M sa sc oa oc ba bc) (h : ∀ k, P k → T k) : MsgX w T M sa sc oa oc ba bc :=
  ⟨x.sr, x.sn, fun y hy h0 => h _ (x.sp y hy h0), x.sl, x.or, x.on, fun y hy h0 => h _ (x.op y hy h0), x.br, x.bn, fun y hy h0 => h _ (x.bp y hy h0), x.bb⟩
theorem MsgX.nils (w : World) (P : Nat → Prop) (k c r q : Int) : MsgX w P ⟨k, [], c, r, q, [], []⟩ none 0 none 0 none 0 :=
  ⟨Row.nil _ _, fun _ => ⟨rfl, rfl⟩, (fun y hy => by cases hy), by simp, RowT.nil _ _, fun _ => ⟨rfl, rfl⟩, (fun y hy => by cases hy), RowT.nil _ _, fun _ => ⟨rfl, rfl⟩, (fun y hy => by cases hy), fun o ho => by cases ho⟩
theorem MsgX.ofObjs {w : World} {P : Nat → Prop} (k c r q : Int) {l : List Ob} {b : Nat} (h : RowT w (some ⟨b, 0, none⟩) l.length (l.map Ob.t3)) (hp : P b) : MsgX w P ⟨k, [], c, r, q, l, []⟩ none 0 (some ⟨b, 0, none⟩) l.length none 0 :=
  ⟨Row.nil _ _, fun _ => ⟨rfl, rfl⟩, (fun y hy => by cases hy), by simp, h, (fun h => by cases h), (fun y hy _ => by cases hy; exact hp), RowT.nil _ _, fun _ => ⟨rfl, rfl⟩, (fun y hy => by cases hy), fun o ho => by cases ho⟩
theorem MsgX.ofObs {w : World} {P : Nat → Prop} (k c r q : Int) {l : List Bi} {b : Nat} (h : RowT w (some ⟨b, 0, none⟩) l.length (l.map Bi.t3)) (hp : P b) (hb : ∀ o ∈ l, 0 ≤ o.b ∧ o.b < 4294967296) : MsgX w P ⟨k, [], c, r, q, [], l⟩ none 0 none 0 (some ⟨b, 0, none⟩) l.length :=
  ⟨Row.nil _ _, fun _ => ⟨rfl, rfl⟩, (fun y hy => by cases hy), by simp, RowT.nil _ _, fun _ => ⟨rfl, rfl⟩, (fun y hy => by cases hy), h, (fun h => by cases h), (fun y hy _ => by cases hy; exact hp), hb⟩
theorem MsgX.ofSys {w : World} {P : Nat → Prop} (k c r q : Int) {ys : List Int} {a : Option Addr} {n : Nat} (h : Row w a ys.length ys) (hn : a = none → ys.length = 0 ∧ n = 0) (hp : ∀ y, a = some y → 0 < ys.length → P y.block) (hl : ys.length ≤ 140737488355328) : MsgX w P ⟨k, ys, c, r, q, [], []⟩ a n none 0 none 0 :=
  ⟨h, hn, hp, hl, RowT.nil _ _, fun _ => ⟨rfl, rfl⟩, (fun y hy => by cases hy), RowT.nil _ _, fun _ => ⟨rfl, rfl⟩, (fun y hy => by cases hy), fun o ho => by cases ho⟩
/-- The fields of a kind, gone through. -/
def fieldsF (m : Bool) (k : Int) (M : Msg) (zs : List Int) : Except Int (Msg × List Int) :=
  if k = 57856 then thn (sysF m M.sys zs) fun s zs => thn (num m 2 65535 M.config zs) fun c zs => .ok (⟨k, s, c, 0, 0, [], []⟩, zs)
  else if k = 58112 then thn (num m 2 65535 M.result zs) fun r zs => thn (num m 2 65535 M.config zs) fun c zs => .ok (⟨k, [], c, r, 0, [], []⟩, zs)
  else if k = 58368 ∨ k = 58624 ∨ k = 58880 then thn (num m 2 65535 M.reason zs) fun q zs => .ok (⟨k, [], 0, 0, q, [], []⟩, zs)
  else if k = 3356 then thn (num m 2 65535 M.config zs) fun c zs => thn (lstO m M.objs zs) fun l zs => .ok (⟨k, [], c, 0, 0, l, []⟩, zs)
  else if k = 3357 then thn (num m 2 65535 M.config zs) fun c zs => thn (num m 2 65535 M.result zs) fun r zs => .ok (⟨k, [], c, r, 0, [], []⟩, zs)
  else if k = 3358 then thn (lstB m M.obs zs) fun l zs => .ok (⟨k, [], 0, 0, 0, [], l⟩, zs)
  else .ok (Msg.zero k, zs)
theorem seven_at {w : World} {g : Nat} {T : TypeId} {x0 x1 x2 x3 x4 x5 x6 : Value} (h : w.heap[g]? = some (.cells #[x0, x1, x2, x3, x4, x5, x6] T (0, 0))) :
    g < w.heap.size ∧ (w.cell? ⟨g, 0, none⟩ = some x0 ∧ w.cell? ⟨g, 1, none⟩ = some x1 ∧ w.cell? ⟨g, 2, none⟩ = some x2 ∧ w.cell? ⟨g, 3, none⟩ = some x3 ∧ w.cell? ⟨g, 4, none⟩ = some x4 ∧ w.cell? ⟨g, 5, none⟩ = some x5 ∧ w.cell? ⟨g, 6, none⟩ = some x6) ∧ (w.frozen? ⟨g, 0, none⟩ = false ∧ w.frozen? ⟨g, 1, none⟩ = false ∧ w.frozen? ⟨g, 2, none⟩ = false ∧ w.frozen? ⟨g, 3, none⟩ = false ∧ w.frozen? ⟨g, 4, none⟩ = false ∧ w.frozen? ⟨g, 5, none⟩ = false ∧ w.frozen? ⟨g, 6, none⟩ = false) := by
  refine ⟨(Array.getElem?_eq_some_iff.1 h).1, ⟨?_, ?_, ?_, ?_, ?_, ?_, ?_⟩, ?_, ?_, ?_, ?_, ?_, ?_, ?_⟩
  iterate 7 · simp [World.cell?, h]
  all_goals simp [World.frozen?, h]
theorem blk_setA {w : World} {b i : Nat} {A : Array Value} {T : TypeId} (h : w.heap[b]? = some (.cells A T (0, 0))) (v : Value) : (w.setCell ⟨b, i, none⟩ v).heap[b]? = some (.cells (A.setIfInBounds i v) T (0, 0)) := by
  simp [World.setCell, Array.getElem?_modify, h]
theorem Keeps.setA {w : World} {S : Nat → Prop} {k i : Nat} {A : Array Value} {T : TypeId} (h : Keeps w S k (.cells A T (0, 0))) (v : Value) : Keeps (w.setCell ⟨k, i, none⟩ v) S k (.cells (A.setIfInBounds i v) T (0, 0)) := ⟨blk_setA h.at0 v, h.out⟩
theorem new4 (w : World) (a b c d : Obj) : ((((w.alloc a).alloc b).alloc c).alloc d).heap[w.heap.size]? = some a ∧ ((((w.alloc a).alloc b).alloc c).alloc d).heap[w.heap.size + 1]? = some b ∧ ((((w.alloc a).alloc b).alloc c).alloc d).heap[w.heap.size + 1 + 1]? = some c ∧ ((((w.alloc a).alloc b).alloc c).alloc d).heap[w.heap.size + 1 + 1 + 1]? = some d := by
  obtain ⟨h0, h1, h2⟩ := new3 w a b c
  refine ⟨new_past _ _ h0, new_past _ _ h1, new_past _ _ h2, ?_⟩
  have := new1 (((w.alloc a).alloc b).alloc c) d
  rw [World.size_alloc, World.size_alloc, World.size_alloc] at this
  exact this
end Go.Proofs.YthcfdoafncbliaaGreat
