/-
  Many objects, by a coder.
-/
import Derived.Test.YtigiakhdaaoljaaObj1
namespace Go.Proofs.Ytigiakhdaaoljaa
open Go.RowKit
set_option maxRecDepth 8000
def Ob.t3 (o : Ob) : T3 := (.int .i64 o.h, .int .i64 o.u, .bool o.l)
theorem Ob.one3 (o : Ob) : One3 o.t3 := ⟨rfl, rfl, rfl⟩
def objL (m : Bool) : List Int → List Ob → List Int → Except Int (List Ob × List Int)
  | _, [], zs => .ok ([], zs)
  | hs, o :: r, zs => thn (obj1 m hs o zs) fun x zs => thn (objL m (hs ++ [x.h]) r zs) fun l zs => .ok (x :: l, zs)
def lstO (m : Bool) (all : List Ob) (zs : List Int) : Except Int (List Ob × List Int) :=
  thn (num m 2 65535 all.length zs) fun n zs => if n > 16 then .error (stp m 5) else objL m [] (fillOf n.toNat all ⟨0, 0, false⟩) zs
theorem Hnd.lt {w : World} {bc bh : Nat} {p q : Option Addr} {m : Bool} {zs hs : List Int} {F : Nat → Prop} (h : Hnd w bc bh p q m zs hs F) : ∀ k, F k → k < w.heap.size := by
  obtain ⟨S, v, x, rfl⟩ := h
  intro k hk
  rcases hk with h | rfl | h
  · exact x.cod.lt k h
  · exact x.kh.lt
  · exact (x.own.lt k h).2
theorem Hnd.but {w w' : World} {bc bh : Nat} {p q : Option Addr} {m : Bool} {zs hs : List Int} {F T : Nat → Prop} (h : Hnd w bc bh p q m zs hs F) (b : But T w w') (hn : ∀ k, F k → ¬ T k) (hc : ¬ T bc) : Hnd w' bc bh p q m zs hs F := by
  obtain ⟨S, v, x, rfl⟩ := h
  exact ⟨S, v, ⟨x.cod.but b (fun k hk => hn k (.inl hk)), x.kc.but b hc, x.kh.but b (hn bh (.inr (.inl rfl))), own_but x.own b (fun k hk => hn k (.inr (.inr hk))), x.ne, x.oc, x.oh, x.os⟩, rfl⟩
theorem Hnd.after {w w' : World} {bc bh : Nat} {p q : Option Addr} {m : Bool} {zs hs : List Int} {F : Nat → Prop} (h : Hnd w bc bh p q m zs hs F) (b : After w w') : Hnd w' bc bh p q m zs hs F := h.but b (fun _ _ t => t) (fun t => t)
theorem Hnd.set {w : World} {bc bh : Nat} {p q : Option Addr} {m : Bool} {zs hs : List Int} {F : Nat → Prop} (h : Hnd w bc bh p q m zs hs F) {g : Nat} (hg : ¬ F g) (hc : bc ≠ g) (o : Nat) (x : Value) : Hnd (w.setCell ⟨g, o, none⟩ x) bc bh p q m zs hs F :=
  h.but (T := One g) (But.set (S := One g) But.rfl ⟨g, o, none⟩ (fun _ => rfl) x) (fun k hk e => hg (by rw [← e]; exact hk)) (fun e => hc e)
theorem Try.info42 : (Try.prog.info? 42).map (fun i => (i.zero, i.size, i.bytes)) = some (some (.agg #[.int .i64 0, .int .i64 0, .bool false]), 3, 24) := by kernel_rfl
theorem makeO (k : Nat) (hk : k ≤ 16) (w : World) : (Instr.makeSlice 23 (.int .i64 (k : Int)) (.int .i64 (k : Int))).run Try.prog w = .ok (.slice (some ⟨w.heap.size, 0, none⟩) k k) (w.alloc (.cells (cells3 (List.replicate k (Ob.t3 ⟨0, 0, false⟩))).toArray 42)) := by
  obtain ⟨i0, hi, hz0, hz1, hz2⟩ := info_parts Try.info42
  have := run_make (P := Try.prog) w 23 42 i0 _ Try.underlying23 hi hz0 .i64 .i64 k k (by omega) (by omega) (by rw [hz2]; omega) (by omega)
  rw [this, hz1]
  simp only [Int.toNat_natCast]
  rw [show (Value.agg #[.int .i64 0, .int .i64 0, .bool false]).cells = #[.int .i64 0, .int .i64 0, .bool false] from rfl, made3]
  rfl
theorem fill_t3O {k n : Nat} {all : List Ob} (hn : all.length = n) : (all.map Ob.t3).take k ++ (List.replicate k (Ob.t3 ⟨0, 0, false⟩)).drop n = (fillOf k all ⟨0, 0, false⟩).map Ob.t3 := by
  subst hn
  simp [fillOf, List.map_take]
theorem HndX.after {w w' : World} {bc bh : Nat} {p q : Option Addr} {m : Bool} {zs hs : List Int} {S : Nat → Prop} {v : Value} (x : HndX w bc bh p q m zs hs S v) (b : After w w') : HndX w' bc bh p q m zs hs S v :=
  ⟨x.cod.after b, x.kc.after b, x.kh.after b, own_after x.own b, x.ne, x.oc, x.oh, x.os⟩
theorem HndX.step {w w' : World} {bc bh : Nat} {p q : Option Addr} {m : Bool} {zs ys hs : List Int} {S S' : Nat → Prop} {v : Value} (x : HndX w bc bh p q m zs hs S v) (s : Stp S w S' w') (c : Cod w' p q m ys S') : HndX w' bc bh p q m ys hs S' v :=
  ⟨c, x.kc.step s, x.kh.step s, own_but x.own s.but x.os, x.ne, x.oc, x.oh, fun k hk h => (s.new k h).elim (x.os k hk) (fun h' => absurd (x.own.lt k hk).2 (by omega))⟩
set_option maxHeartbeats 1000000 in
theorem c_listO (w : World) (bc bh : Nat) (p q : Option Addr) (m : Bool) (zs : List Int) (F : Nat → Prop) (a : Option Addr) (n c : Nat) (all : List Ob) (hnd : Hnd w bc bh p q m zs [] F) (hr : RowT w a n (all.map Ob.t3)) (hd : ∀ y, a = some y → 0 < n → ¬ F y.block) (ha : a = none → n = 0 ∧ c = 0) (hl : m = true → zs.length ≤ 990000000) :
    Calls Try.prog 80 #[Co p q, .slice a n c, .int .i64 16, .func (.func 81) #[] #[Ptr bc, Ptr bh]] w fun e w' => Ends (lstO m all zs) (fun l ys => (∃ b, e = .returned (.slice (some ⟨b, 0, none⟩) l.length l.length) ∧ RowT w' (some ⟨b, 0, none⟩) l.length (l.map Ob.t3) ∧ w.heap.size ≤ b) ∧ ∃ hs F', Hnd w' bc bh p q m ys hs F' ∧ Stp F w F' w') (fun c => e = .panicked (Halt c) ∧ But F w w') := by
  obtain ⟨S, v, hx0, rfl⟩ := hnd
  have cd := hx0.cod
  have hA : After w (w.alloc (.cells #[.pointer p, .pointer q] 52)) := After.rfl.alloc _
  have hn : all.length = n := by have := hr.1; simpa using this
  have b0 := new1 w (.cells #[.pointer p, .pointer q] 52)
  have f0 : Off S w.heap.size (w.heap.size + 1) := Off.old cd.lt _
  have hE : lstO m all zs = thn (num m 2 65535 (n : Int) zs) fun n zs => if n > 16 then .error (stp m 5) else objL m [] (fillOf n.toNat all ⟨0, 0, false⟩) zs := by rw [← hn]; rfl
  have H1 := hideIt (c_u16 _ p q m zs S n (cd.after hA) (fun h => by have := hl h; omega))
  have HX := hideIt (And.intro hA (And.intro b0 (And.intro f0 (And.intro hl (And.intro hE (And.intro hr (And.intro hd (And.intro ha (And.intro hx0 (And.intro cd.bs hn))))))))))
  clear hA b0 f0 hl hE hr hd ha hx0 cd hn
  go_enter Try.func80, Try.ntmps80
  go_wp2_with fail
  refine H1.out.mono ?_
  clear H1
  intro e w1 h1
  obtain ⟨hA, b0, f0, hl, hE, hr, hd, ha, hx0, hbs, hn⟩ := HX.out
  rcases h1.split with ⟨c1, e1, rfl, t⟩ | ⟨x1, z1, e1, rfl, S1, k1, s1⟩
  · exact ⟨rfl, Ends.bad (by rw [hE, thn_bad e1]) ⟨rfl, (hA.but.trans t).mono (fun i _ h => .inl h)⟩⟩
  have q0 := blk s1.but f0 (Nat.le_refl _) (by omega) b0
  have hx := num_bound e1 hbs (by decide)
  have t1 := num_len e1
  obtain ⟨_, y1, y2, y3, y4⟩ := two_at q0
  by_cases h64 : x1 > 16
  · have H2 := hideIt (c_stop w1 p q m z1 S1 5 k1)
    have HE := hideIt (hE.trans ((thn_ok e1).trans (if_pos h64)))
    have HB := hideIt ((hA.but.trans s1.but).mono (T := HndF bh S v) (fun i _ h => .inl h))
    clear HX h1 hA b0 f0 hl hE hr hd ha hx0 hbs hn e1 k1 s1 q0 hx t1
    go_wp2_with (go_at_call 27; refine H2.out.mono ?_; rintro e w2 ⟨rfl, h2⟩; have HW := hideIt h2; clear h2)
    exact ⟨rfl, Ends.bad HE.out ⟨rfl, HB.out.trans HW.out.but⟩⟩
  · obtain ⟨k, rfl⟩ := Int.eq_ofNat_of_zero_le hx.1
    have hk : k ≤ 16 := by omega
    have HE := hideIt (hE.trans ((thn_ok e1).trans (if_neg h64)))
    have hmk := makeO k hk
    have h64' : ¬ (16 : Int) < (k : Int) := by omega
    have HT := hideIt (HndF.step (bh := bh) (v := v) (Stp.behind hA s1))
    have HK := hideIt (show Hnd w1 bc bh p q m z1 [] (HndF bh S1 v) from ⟨S1, v, (hx0.after hA).step s1 k1, rfl⟩)
    have HBC := hideIt hx0.kc.lt
    have HL := hideIt (show m = true → z1.length ≤ 990000002 from fun h => by have := hl h; omega)
    have HR := hideIt (hr.but ((hA.but.trans s1.but).mono (T := HndF bh S v) (fun i _ h => .inl h)) hd)
    have HN := hideIt (And.intro ha hn)
    clear HX h1 hA b0 f0 hl hE hr hd ha hx0 hbs hn e1 k1 s1 q0 hx t1 h64 hk
    have hsz : (Try.prog.info? 42).map (·.size) = some 3 := by kernel_rfl
    have X1 : ∀ y ∈ all.map Ob.t3, One3 y := fun y hy => by obtain ⟨o, _, rfl⟩ := List.mem_map.1 hy; exact o.one3
    have X2 := HR.out.after (After.rfl.alloc (.cells (cells3 (List.replicate k (Ob.t3 ⟨0, 0, false⟩))).toArray 42))
    have XS := hideIt (And.intro hsz (And.intro X1 X2))
    clear hsz X1 X2
    go_wp2_with fail
    obtain ⟨w2, he2, hg, hb2⟩ := run_copyAny (P := Try.prog) (w1.alloc (.cells (cells3 (List.replicate k (Ob.t3 ⟨0, 0, false⟩))).toArray 42)) 23 23 3 42 Try.underlying23 XS.out.1 w1.heap.size k k a n c 42 (List.replicate k (Ob.t3 ⟨0, 0, false⟩)) (all.map Ob.t3) (new1 _ _) List.length_replicate XS.out.2.2 XS.out.2.1 HN.out.1
    rw [he2]
    clear he2
    have HG := hideIt hg
    have HB2 := hideIt hb2
    clear hg hb2
    obtain ⟨ha, hn⟩ := HN.out
    have hk : k ≤ 16 := by omega
    rw [fill_t3O hn] at HG
    rw [Int.toNat_natCast] at HE
    have hlf := fillOf_length k all (⟨0, 0, false⟩ : Ob)
    obtain ⟨xs, hxs⟩ : ∃ xs, fillOf k all (⟨0, 0, false⟩ : Ob) = xs := ⟨_, rfl⟩
    rw [hxs] at HG HE hlf
    have hS1 : ¬ HndF bh S1 v w1.heap.size := fun h => absurd (HK.out.lt _ h) (by omega)
    have hbc1 : bc < w1.heap.size := Nat.lt_of_lt_of_le HBC.out HT.out.but.size
    have HC2 := hideIt (HK.out.but (T := One w1.heap.size) ((After.rfl.alloc _).but.trans HB2.out) (fun k hk h => hS1 (by rw [← h]; exact hk)) (fun h => by have : bc = w1.heap.size := h; omega))
    have HT2 := hideIt (HT.out.trans (show Stp (HndF bh S1 v) w1 (HndF bh S1 v) w2 from ⟨((After.rfl.alloc (.cells (cells3 (List.replicate k (Ob.t3 ⟨0, 0, false⟩))).toArray 42)).but (S := One w1.heap.size) |>.trans HB2.out |>.then (T := Non) But.rfl (fun _ _ t => t.elim)).mono (fun i hi h => absurd hi (by rw [h]; omega)), fun k hk => .inl hk⟩))
    have HO2 := hideIt (show Off (HndF bh S1 v) w1.heap.size (w1.heap.size + 1) from fun k hk => .inl (HK.out.lt k hk))
    have hs2 : w1.heap.size + 1 ≤ w2.heap.size := by have := HB2.out.size; simpa using this
    have HB := hideIt (show w.heap.size ≤ w1.heap.size from HT.out.but.size)
    obtain ⟨b, hbb⟩ : ∃ b, w1.heap.size = b := ⟨_, rfl⟩
    rw [hbb] at HG HO2 HB hs2 hbc1 ⊢
    have HE0 := HE
    have HI := hideIt (And.intro hlf hs2)
    have HBB := hideIt hbc1
    clear ha hn hlf hxs hbc1 HBC hS1 XS HK HT HN HR hmk hs2 hbb HB2
    go_wp2_with fail
    go_loopw [29] (fun i W => ∃ (j : Nat) (dn rs : List Ob) (ys : List Int) (T : Nat → Prop), j ≤ k ∧ i = .int .i64 j ∧ dn.length = j ∧ (dn ++ rs).length = k ∧ W.heap[b]? = some (.cells (cells3 ((dn ++ rs).map Ob.t3)).toArray 42 (0, 0)) ∧ Hnd W bc bh p q m ys (dn.map Ob.h) T ∧ Stp (HndF bh S v) w T W ∧ Off T b (b + 1) ∧ objL m [] xs z1 = thn (objL m (dn.map Ob.h) rs ys) (fun l us => .ok (dn ++ l, us)) ∧ (m = true → ys.length ≤ 990000002 + 7 * j)) (fun i _ => k - (intOf i).toNat)
    case atStart =>
      refine ⟨0, [], xs, z1, HndF bh S1 v, Nat.zero_le _, rfl, rfl, HI.out.1, HG.out, HC2.out, HT2.out, HO2.out, ?_, fun h => by have := HL.out h; omega⟩
      show objL m [] xs z1 = thn (objL m [] xs z1) _
      cases objL m [] xs z1 <;> rfl
    case round =>
      obtain ⟨j, dn, rs, ys, T, hj, rfl, hdn, hlen, hblk, hcod, hstp, hoff, hrun, hln⟩ := hrel
      by_cases hlt : j < k
      · obtain ⟨o, r, rfl⟩ : ∃ o r, rs = o :: r := by
          cases rs with
          | nil => simp at hlen; omega
          | cons o r => exact ⟨o, r, rfl⟩
        have hat : ((dn ++ o :: r).map Ob.t3)[j]? = some o.t3 := by simp [← hdn]
        obtain ⟨d0, d1, d2⟩ := cells3_at _ j _ hat
        have g0 : wr.cell? ⟨b, j * 3, none⟩ = some (.int .i64 o.h) := by rw [cell_blk hblk]; exact d0
        have g1 : wr.cell? ⟨b, j * 3 + 1, none⟩ = some (.int .i64 o.u) := by rw [cell_blk hblk]; exact d1
        have g2 : wr.cell? ⟨b, j * 3 + 2, none⟩ = some (.bool o.l) := by rw [cell_blk hblk]; exact d2
        have hbl : b < wr.heap.size := (Array.getElem?_eq_some_iff.1 hblk).1
        have hA2 : After wr (wr.alloc (.cells #[.int .i64 o.h, .int .i64 o.u, .bool o.l] 42)) := After.rfl.alloc _
        have H2 := hideIt (c_obj _ bc bh p q m ys (dn.map Ob.h) T o (hcod.after hA2) (fun h => by have := hln h; omega) (by rw [List.length_map, hdn]; omega))
        have hrun' : lstO m all zs = thn (obj1 m (dn.map Ob.h) o ys) fun x us => thn (thn (objL m (dn.map Ob.h ++ [x.h]) r us) fun l us => .ok (x :: l, us)) fun l us => .ok (dn ++ l, us) := by
          rw [HE.out, hrun]
          show thn (thn (obj1 m (dn.map Ob.h) o ys) _) _ = _
          cases obj1 m (dn.map Ob.h) o ys <;> rfl
        have HX := hideIt (And.intro hblk (And.intro hstp (And.intro hoff (And.intro hrun' (And.intro hln (And.intro hdn (And.intro hlen (And.intro hA2 hbl))))))))
        have hjk : (j : Int) < (k : Int) := by omega
        clear hblk hcod hstp hoff hrun hrun' hln hdn hlen hat d0 d1 d2 hA2 HG HL HI HO2 HC2 HT2
        go_wp2_with fail
        refine H2.out.mono ?_
        clear H2
        intro e w3 h3
        obtain ⟨hblk, hstp, hoff, hrun', hln, hdn, hlen, hA2, hbl'⟩ := HX.out
        rcases h3.split with ⟨c3, e3, rfl, t⟩ | ⟨x, us, e3, rfl, T3, k3, s3⟩
        · exact ⟨rfl, Ends.bad (hrun'.trans (thn_bad e3)) ⟨rfl, hstp.ends (hA2.but.trans t)⟩⟩
        have q3 : w3.heap[b]? = some (.cells (cells3 ((dn ++ o :: r).map Ob.t3)).toArray 42 (0, 0)) := blk s3.but hoff (Nat.le_refl _) (by omega) (new_past _ _ hblk)
        have hat : ((dn ++ o :: r).map Ob.t3)[j]? = some o.t3 := by simp [← hdn]
        obtain ⟨d0, d1, d2⟩ := cells3_at _ j _ hat
        have g0' : w3.cell? ⟨b, j * 3, none⟩ = some (.int .i64 o.h) := by rw [cell_blk q3]; exact d0
        have g1' : w3.cell? ⟨b, j * 3 + 1, none⟩ = some (.int .i64 o.u) := by rw [cell_blk q3]; exact d1
        have g2' : w3.cell? ⟨b, j * 3 + 2, none⟩ = some (.bool o.l) := by rw [cell_blk q3]; exact d2
        have z0 := frozen_blk q3 (j * 3)
        have z1' := frozen_blk q3 (j * 3 + 1)
        have z2' := frozen_blk q3 (j * 3 + 2)
        have hoff3 := hoff.step s3 (by rw [World.size_alloc]; omega)
        have hw : w.heap.size ≤ wr.heap.size := hstp.but.size
        have b3 := blk_set3 (i := j) q3 (.int .i64 x.h) (.int .i64 x.u) (.bool x.l)
        have hset : ((dn ++ o :: r).map Ob.t3).set j (.int .i64 x.h, .int .i64 x.u, .bool x.l) = ((dn ++ [x]) ++ r).map Ob.t3 := by
          subst hdn
          simp [Ob.t3]
        rw [hset] at b3
        have hnb : ¬ T3 b := fun h => by have := hoff3 b h; omega
        have hbb : bc ≠ b := by have := HBB.out; omega
        have k3' := ((k3.set hnb hbb (j * 3) (.int .i64 x.h)).set hnb hbb (j * 3 + 1) (.int .i64 x.u)).set hnb hbb (j * 3 + 2) (.bool x.l)
        have s3' := hstp.trans (Stp.behind hA2 s3)
        have hbw : w.heap.size ≤ b := HB.out
        have s3'' := ((s3'.newly hbw (j * 3) (.int .i64 x.h)).newly hbw (j * 3 + 1) (.int .i64 x.u)).newly hbw (j * 3 + 2) (.bool x.l)
        have l3 := obj1_len e3
        have hrun3 := hrun'.trans (thn_ok e3)
        have HY := hideIt (And.intro b3 (And.intro k3' (And.intro s3'' (And.intro hoff3 (And.intro hrun3 (And.intro (show m = true → us.length ≤ 990000002 + 7 * (j + 1) from fun h => by have := hln h; omega) (And.intro hdn hlen)))))))
        have hbl3 : b < w3.heap.size := (Array.getElem?_eq_some_iff.1 q3).1
        clear HX h3 hblk hstp hoff hrun' hln hdn hlen hA2 hbl' e3 k3 s3 q3 hat d0 d1 d2 hoff3 hw b3 hset hnb hbb k3' s3' hbw s3'' l3 hrun3 HE
        unfold Ob.val
        go_wp2_with fail
        go_roundw
        case rel =>
          obtain ⟨b3, k3, s3, ho3, hr3, hl3, hdn, hlen⟩ := HY.out
          refine ⟨j + 1, dn ++ [x], r, us, T3, by omega, by go_num, by simp [hdn], by simpa using hlen, b3, by simpa using k3, s3, ho3, ?_, hl3⟩
          rw [← HE0.out, hr3, List.map_append]
          show _ = thn (objL m (dn.map Ob.h ++ [x.h]) r us) _
          cases objL m (dn.map Ob.h ++ [x.h]) r us <;> simp [thn]
        case measure => simp [intOf]; omega
      · obtain rfl : j = k := by omega
        have hrs : rs = [] := by
          have : dn.length + rs.length = j := by simpa using hlen
          exact List.eq_nil_of_length_eq_zero (by omega)
        subst hrs
        have hres : lstO m all zs = .ok (dn, ys) := by rw [HE.out, hrun]; show (Except.ok (dn ++ [], ys) : Except Int (List Ob × List Int)) = _; rw [List.append_nil]
        rw [List.append_nil] at hblk
        have hrow := RowT.of hblk
        rw [List.length_map, hdn] at hrow
        have HY := hideIt (And.intro hres (And.intro hrow (And.intro hcod hstp)))
        have HD := hideIt hdn
        clear hrun hres hblk hrow hcod hstp hoff hln hlen hdn HE HE0 HG HL HI HO2 HC2 HT2
        go_wp2_with fail
        go_ret
        refine Ends.ok HY.out.1 ⟨⟨b, ?_, ?_, HB.out⟩, _, T, HY.out.2.2.1, HY.out.2.2.2⟩
        · rw [HD.out]; rfl
        · rw [HD.out]; exact HY.out.2.1
end Go.Proofs.Ytigiakhdaaoljaa
