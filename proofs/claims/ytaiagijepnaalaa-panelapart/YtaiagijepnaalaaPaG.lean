/-
  Package panel: all locks; what is shown of alarms.
-/
import Derived.Test.YtaiagijepnaalaaPaF
namespace Go.Proofs.Ytaiagijepnaalaa
open Go.RowKit
set_option maxRecDepth 8000
abbrev lksV (l : List Bool) : Value := .agg (blE.flat l).toArray
/-- Locks lie in a block. -/
def LksAt (w : World) (g : Nat) (l : List Bool) : Prop := w.heap[g]? = some (.cells (blE.flat l).toArray 27 (0, 0))
theorem LksAt.after {w w' : World} {g : Nat} {l : List Bool} (h : LksAt w g l) (a : After w w') : LksAt w' g l := After.at a h
theorem LksAt.put {w : World} {g : Nat} {l : List Bool} (h : LksAt w g l) (i : Nat) (z : Bool) : LksAt (w.setCell ⟨g, i, none⟩ (.bool z)) g (l.set i z) := by
  have h1 := blk_put h i (.bool z)
  unfold LksAt
  rw [h1, blE_flat, blE_flat, List.map_set, List.setIfInBounds_toArray]
theorem LksAt.cell {w : World} {g : Nat} {l : List Bool} (h : LksAt w g l) {i : Nat} {x : Bool} (hx : l[i]? = some x) : w.cell? ⟨g, i, none⟩ = some (.bool x) :=
  blk_cell h (by rw [blE_flat, List.getElem?_toArray, List.getElem?_map, hx]; rfl)
theorem lks_size {l : List Bool} (h : l.length = 4) : (blE.flat l).length = 4 := by rw [blE.flat_length, h]; rfl
theorem Try.infoLks : (Try.prog.info? 27).map (·.size) = some 4 := by kernel_rfl
theorem Try.zeroLks (V : World) : (zeroValue 27).run Try.prog V = .ok (.agg (blE.flat (List.replicate 4 false)).toArray) V := by kernel_rfl
theorem blrow_at {w : World} {a n bs} (h : GRow blE w a n bs) {i : Nat} (hi : i < n) : ∃ b off x, a = some ⟨b, off, none⟩ ∧ b < w.heap.size ∧ bs[i]? = some x ∧ w.cell? ⟨b, off + i, none⟩ = some (.bool x) := by
  obtain ⟨b, off, x, e, hb, hx, h1⟩ := h.2 i hi
  have := h1 0 _ rfl
  rw [Nat.add_zero, show blE.k = 1 from rfl, Nat.mul_one] at this
  exact ⟨b, off, x, e, hb, hx, this⟩
theorem allLocks_any (w : World) (a : Option Addr) (n c : Nat) (bs : List Bool) (hb : GRow blE w a n bs) : Calls Try.prog 18 #[.slice a n c] w fun e w' => e = .returned (lksV (lks bs)) ∧ After w w' := by
  obtain ⟨R, hR⟩ : ∃ R, lks bs = R := ⟨_, rfl⟩
  have hRl : R.length = 4 := by rw [← hR]; exact lkAt_length _ _ _
  rw [hR]
  have HR := hideIt (And.intro hR hRl)
  clear hR hRl
  have HB := hideIt hb
  clear hb
  go_enter Try.func18, Try.ntmps18
  go_upto_region 1 with (first | (refine wl_alloc 27 _ Try.zeroLks rfl rfl ?_; intro w1 hb1 a1 s1) | fail)
  go_upto_region 2 with (first | (refine wl_alloc 27 _ Try.zeroLks rfl rfl ?_; intro w2 hb2 a2 s2) | fail)
  rw [s1]
  have v1 : LksAt w2 w.heap.size (List.replicate 4 false) := After.at a2 hb1
  have v2 : LksAt w2 (w.heap.size + 1) (List.replicate 4 false) := by rw [← s1]; exact hb2
  have H := hideIt (And.intro v1 (And.intro v2 (After.trans a1 a2)))
  clear hb1 a1 s1 hb2 a2 s2 v1 v2
  go_wp2_with fail
  go_loopw [5] (fun i wr => ∃ j : Nat, j ≤ 4 ∧ i = .int .i64 j ∧ LksAt wr (w.heap.size + 1) (lkAt bs (List.replicate 4 false) j) ∧ LksAt wr w.heap.size (List.replicate 4 false) ∧ After w wr) (fun i _ => 4 - (intOf i).toNat)
  case atStart => exact ⟨0, by omega, rfl, H.out.2.1, H.out.1, H.out.2.2⟩
  case round =>
    obtain ⟨j, hj, rfl, hv2, hv1, af⟩ := hrel
    clear H
    by_cases hjn : j < 4
    · have i1 : (j : Int) < 4 := by omega
      have hn : lkAt bs (List.replicate 4 false) (j + 1) = (lkAt bs (List.replicate 4 false) j).set j (bs.getD j true) := rfl
      have hx := get_some (lkAt bs (List.replicate 4 false) j) false (i := j) (by rw [lkAt_length]; exact hjn)
      have c0 := hv2.cell hx
      have y0 := blk_soft hv2 j
      have h3 := hv2.put j
      have L := hideIt (And.intro hv1 (And.intro af (And.intro hn h3)))
      clear hv2 hv1 hn h3 hx
      by_cases hjl : j < n
      · have i2 : (j : Int) < (n : Int) := by omega
        obtain ⟨b, off, x, rfl, hlt, hbx, cb⟩ := blrow_at (HB.out.after af) hjl
        have hg : bs.getD j true = x := List.getD_some hbx
        have HG := hideIt hg
        clear hg hbx af
        go_wp2
        rw [show (decide (n ≤ j) || x) = bs.getD j true by rw [HG.out, decide_eq_false (by omega)]; rfl]
        exact ⟨⟨j + 1, by omega, by simp, by rw [L.out.2.2.1]; exact L.out.2.2.2 _, ((but_one wr (w.heap.size + 1) j _).block _ (blk_lt L.out.1) (fun (t : w.heap.size = w.heap.size + 1) => by omega)).trans L.out.1, L.out.2.1.set ⟨w.heap.size + 1, j, none⟩ (show w.heap.size ≤ w.heap.size + 1 by omega) _⟩, by simp [intOf]; omega⟩
      · have i2 : ¬ (j : Int) < (n : Int) := by omega
        have hg : bs.getD j true = true := by rw [List.getD_eq_getElem?_getD, List.getElem?_eq_none (by rw [HB.out.1]; omega)]; rfl
        have HG := hideIt hg
        clear hg af
        go_wp2
        rw [← HG.out]
        exact ⟨⟨j + 1, by omega, by simp, by rw [L.out.2.2.1]; exact L.out.2.2.2 _, ((but_one wr (w.heap.size + 1) j _).block _ (blk_lt L.out.1) (fun (t : w.heap.size = w.heap.size + 1) => by omega)).trans L.out.1, L.out.2.1.set ⟨w.heap.size + 1, j, none⟩ (show w.heap.size ≤ w.heap.size + 1 by omega) _⟩, by simp [intOf]; omega⟩
    · obtain rfl : j = 4 := by omega
      rw [show lkAt bs (List.replicate 4 false) 4 = R from HR.out.1] at hv2
      have hr : wr.rangeAt (w.heap.size + 1) 0 (blE.flat R) := blk_range hv2
      have L := hideIt (And.intro hv2 (And.intro hv1 (And.intro af hr)))
      clear hjn hj hv1 hv2 af hr
      have f52 : (Try.prog.info? 27).map (·.size) = some (blE.flat R).length := by rw [lks_size HR.out.2]; exact Try.infoLks
      have f53 : (Try.prog.info? 27).map (·.size) = some (blE.flat R).toArray.size := by rw [List.size_toArray]; exact f52
      have f54 : (blE.flat (List.replicate 4 false)).toArray.size = (blE.flat R).toArray.size := by rw [List.size_toArray, List.size_toArray, lks_size List.length_replicate, lks_size HR.out.2]
      have F := hideIt (And.intro f52 (And.intro f53 f54))
      clear f52 f53 f54
      go_wp2_with (first | (refine wl_load 27 _ _ rfl rfl rfl (blE.flat R) L.out.2.2.2 Try.underlying27 rfl F.out.1 ?_) | (refine wl_store 27 27 _ _ rfl rfl rfl (blE.flat R).toArray _ rfl L.out.2.1 F.out.2.1 F.out.2.2 (all_oneCell_toArray (blE.flat_one _)) ?_; intro w3 hb3 b3 s3) | fail)
      refine ret_cell Try.results18 rfl hb3 Try.underlying27 rfl F.out.2.1 rfl ⟨rfl, ?_⟩
      exact But.then L.out.2.2.1 b3 (fun i hi (t : i = w.heap.size) => by omega)
theorem Try.zeroVec (V : World) : (zeroValue 29).run Try.prog V = .ok (.agg Vec.zero.cs.toArray) V := by kernel_rfl
theorem buildVec0 (w : World) : (Instr.build 29 #[]).run Try.prog w = .ok Vec.zero.v w := by kernel_rfl
theorem buildVec1 (w : World) (fl : Bool) : (Instr.build 29 #[(3, .bool fl)]).run Try.prog w = .ok ({ Vec.zero with fl := fl } : Vec).v w := by kernel_rfl
theorem buildVec2 (w : World) (fl : Bool) (l : List Bool) (hl : l.length = 4) : (Instr.build 29 #[(3, .bool fl), (4, lksV l)]).run Try.prog w = .ok ({ Vec.zero with fl := fl, lk := l } : Vec).v w := by
  obtain ⟨a, b, c, e, rfl⟩ : ∃ a b c e, l = [a, b, c, e] := match l, hl with | [a, b, c, e], _ => ⟨a, b, c, e, rfl⟩
  kernel_rfl
section
variable {ops : Array Oper} {rest : List Oper} {o : Oper} {a : Act} {w : World} {Q : Exit → Act → World → Prop}
theorem wl_build0 {T : TypeId} {v : Value} (hgd : o.guard = none) (ho : o.op = .build T #[]) (hr : (Instr.build T #[]).run Try.prog w = .ok v w) (h : wpList Try.prog ops Q rest (a.put o.dst v) w) : wpList Try.prog ops Q (o :: rest) a w :=
  wl_val (s := Instr.build T #[]) hgd (by unfold execOp; simp [ho]) hr h
theorem wl_build1 {T : TypeId} {i : Nat} {x : Operand} {u v : Value} (hgd : o.guard = none) (ho : o.op = .build T #[(i, x)]) (hx : a.eval x = u) (hr : (Instr.build T #[(i, u)]).run Try.prog w = .ok v w) (h : wpList Try.prog ops Q rest (a.put o.dst v) w) : wpList Try.prog ops Q (o :: rest) a w :=
  wl_val (s := Instr.build T #[(i, u)]) hgd (by unfold execOp; simp [ho, hx]) hr h
theorem wl_build2 {T : TypeId} {i j : Nat} {x y : Operand} {u u' v : Value} (hgd : o.guard = none) (ho : o.op = .build T #[(i, x), (j, y)]) (hx : a.eval x = u) (hy : a.eval y = u') (hr : (Instr.build T #[(i, u), (j, u')]).run Try.prog w = .ok v w) (h : wpList Try.prog ops Q rest (a.put o.dst v) w) : wpList Try.prog ops Q (o :: rest) a w :=
  wl_val (s := Instr.build T #[(i, u), (j, u')]) hgd (by unfold execOp; simp [ho, hx, hy]) hr h
/-- A vector is made. -/
theorem wl_avec (hgd : o.guard = none) (ho : o.op = .alloc 29)
    (h : ∀ w', VecAt w' w.heap.size Vec.zero → After w w' → w'.heap.size = w.heap.size + 1 → wpList Try.prog ops Q rest (a.put o.dst (Ptr w.heap.size)) w') : wpList Try.prog ops Q (o :: rest) a w :=
  wl_alloc 29 _ Try.zeroVec hgd ho h
/-- A vector is stored over a vector. -/
theorem wl_vec (x y : Operand) (hgd : o.guard = none) (ho : o.op = .store 29 x y) {g : Nat} (hx : a.eval x = Ptr g) {u v : Vec} (hy : a.eval y = v.v) (hu : u.Ok) (hv : v.Ok) (hb : VecAt w g u)
    (h : ∀ w', VecAt w' g v → But (One g) w w' → w'.heap.size = w.heap.size → wpList Try.prog ops Q rest (a.put o.dst undef) w') : wpList Try.prog ops Q (o :: rest) a w :=
  wl_store 29 29 x y hgd ho hx _ _ hy hb (by rw [List.size_toArray, hv.len]; exact Try.infoVec) (by rw [List.size_toArray, List.size_toArray, hu.len, hv.len]) (all_oneCell_toArray Vec.cs_one) h
/-- A vector is read. -/
theorem wl_rvec (x : Operand) (hgd : o.guard = none) (ho : o.op = .load 29 x) {g : Nat} (hx : a.eval x = Ptr g) {v : Vec} (hv : v.Ok) (hb : VecAt w g v)
    (h : wpList Try.prog ops Q rest (a.put o.dst v.v) w) : wpList Try.prog ops Q (o :: rest) a w :=
  wl_load 29 x _ hgd ho hx v.cs (blk_range hb) Try.underlying29 rfl (by rw [hv.len]; exact Try.infoVec) h
end
theorem ret_vec {F : Func} {R : Ending → World → Prop} {a : Act} {w : World} {p q : Tmp} {g : Nat} {v : Vec} {x : Value} (hr : F.results = #[.cell p 29, .tmp q]) (hp : a.tmps.getD p undef = Ptr g) (hq : a.tmps.getD q undef = x) (hv : v.Ok) (hb : VecAt w g v) (hf : a.defers = []) (hR : R (.returned (.tuple #[v.v, x])) w) : bodyPost Try.prog F R .ret a w :=
  ret_cell2 hr hp hq hb Try.underlying29 rfl (by rw [List.size_toArray, hv.len]; exact Try.infoVec) hf hR
theorem of_no (w : World) (a a' : Option Addr) (n c m c' : Nat) (fl : Bool) (hn : 26 < n ∨ 4 < m) : Calls Try.prog 9 #[.slice a n c, .bool fl, .slice a' m c'] w fun e w' => e = .returned (.tuple #[Vec.zero.v, .int .i64 2]) ∧ After w w' := by
  rcases (show 26 < (n : Int) ∨ (¬ 26 < (n : Int) ∧ 4 < (m : Int)) by omega) with h1 | ⟨h1, h2⟩
  all_goals
    clear hn
    go_enter Try.func9, Try.ntmps9
    go_upto_region 1 with (first | (refine wl_avec rfl rfl ?_; intro w1 v1 a1 s1) | fail)
    have H := hideIt (And.intro v1 a1)
    clear a1 s1 v1
    generalize hz : Vec.zero = Z at *
    have hzo : Z.Ok := by rw [← hz]; exact Vec.Ok.zero
    have HZ := hideIt (And.intro hz hzo)
    have HB := hideIt (fun V => buildVec0 V)
    rw [hz] at HB
    clear hz hzo
    go_wp2_with (first | (refine wl_build0 rfl rfl (HB.out _) ?_) | (refine wl_vec _ _ rfl rfl rfl rfl HZ.out.2 HZ.out.2 H.out.1 ?_; intro w2 hb2 b2 s2) | fail)
    refine ret_vec Try.results9 rfl rfl HZ.out.2 hb2 rfl ⟨by rw [HZ.out.1]; rfl, ?_⟩
    exact But.then H.out.2 b2 (fun i hi (t : i = w.heap.size) => by omega)
theorem asrow_at {w : World} {a n xs} (h : GRow asE w a n xs) {i : Nat} (hi : i < n) : ∃ b off x, a = some ⟨b, off, none⟩ ∧ b < w.heap.size ∧ xs[i]? = some x ∧ w.cell? ⟨b, off + i * 4, none⟩ = some (.int .i64 x.ph) ∧ w.cell? ⟨b, off + i * 4 + 1, none⟩ = some (.int .i64 x.pr) ∧ w.cell? ⟨b, off + i * 4 + 2, none⟩ = some (.int .i64 x.si) ∧ w.cell? ⟨b, off + i * 4 + 3, none⟩ = some (.int .i64 x.pa) := by
  obtain ⟨b, off, x, e, hb, hx, h1⟩ := h.2 i hi
  exact ⟨b, off, x, e, hb, hx, h1 0 _ rfl, h1 1 _ rfl, h1 2 _ rfl, h1 3 _ rfl⟩
/-- What is shown behind the first j states. -/
def vAt (l : List As) (fl : Bool) (lk : List Bool) (j : Nat) : Vec := ⟨sgAt l j, topAt l j, toneAt l j, fl, lk⟩
theorem vAt_ok (l : List As) (fl : Bool) {lk : List Bool} (h : lk.length = 4) (j : Nat) : (vAt l fl lk j).Ok := ⟨sgAt_length _ _, h⟩
theorem buildAt (w : World) (l : List As) (fl : Bool) (R : List Bool) (hl : R.length = 4) : (Instr.build 29 #[(3, .bool fl), (4, lksV R)]).run Try.prog w = .ok (vAt l fl R 0).v w := by
  have e : ({ Vec.zero with fl := fl, lk := R } : Vec) = vAt l fl R 0 := rfl
  rw [← e]
  exact buildVec2 w fl R hl
theorem of_yes (w : World) (a a' : Option Addr) (n c m c' : Nat) (fl : Bool) (l : List As) (bs : List Bool) (hl : GRow asE w a n l) (hb : GRow blE w a' m bs) (hn : n ≤ 26) (hm : m ≤ 4) :
    Calls Try.prog 9 #[.slice a n c, .bool fl, .slice a' m c'] w fun e w' => e = .returned (.tuple #[(ofV l fl bs).v, .int .i64 0]) ∧ After w w' := by
  have i0 : ¬ 26 < (n : Int) := by omega
  have i1 : ¬ 4 < (m : Int) := by omega
  have HL := hideIt (fun V (x : After w V) => hl.after x)
  have HK := hideIt (fun V (x : After w V) => allLocks_any V a' m c' bs (hb.after x))
  obtain ⟨R, hR⟩ : ∃ R, lks bs = R := ⟨_, rfl⟩
  have hRl : R.length = 4 := by rw [← hR]; exact lkAt_length _ _ _
  have hV : ofV l fl bs = vAt l fl R n := by unfold ofV vAt; rw [hR, hl.1]
  rw [hV]
  rw [hR] at HK
  have HR := hideIt hRl
  have HN := hideIt hn
  clear hl hb hR hRl hV hn hm
  go_enter Try.func9, Try.ntmps9
  go_upto_region 1 with (first | (refine wl_avec rfl rfl ?_; intro w1 v1 a1 s1) | fail)
  have H1 := hideIt (And.intro v1 (And.intro a1 s1))
  clear a1 s1 v1
  go_wp2_with fail
  refine (HK.out w1 H1.out.2.1).mono ?_
  rintro e w2 ⟨rfl, a2⟩
  have H2 := hideIt (And.intro (H1.out.1.after a2) (After.trans H1.out.2.1 a2))
  have l2 : w.heap.size < w2.heap.size := blk_lt H2.out.1
  clear a2 H1 HK
  have HB := hideIt (fun V => buildAt V l fl R HR.out)
  have HO := hideIt (fun j => vAt_ok l fl HR.out j)
  go_upto_region 4 with (first | (show wpList _ _ _ (_ :: _) _ _; refine wl_build2 rfl rfl rfl rfl (HB.out _) ?_; refine wl_avec rfl rfl ?_; intro w3 v3 a3 s3; refine wl_vec _ _ rfl rfl rfl (v := vAt l fl R 0) rfl Vec.Ok.zero (HO.out 0) v3 ?_; intro w4 v4 b4 s4) | fail)
  generalize (vAt l fl R 0).v = V0
  have g1 : w.heap.size < w2.heap.size := l2
  have z4 : VecAt w4 w.heap.size Vec.zero := (b4.block _ (by have := a3.size; omega) (fun (t : w.heap.size = w2.heap.size) => by omega)).trans (H2.out.1.after a3)
  have a4 : After w w4 := But.then (H2.out.2.trans a3) b4 (fun i hi (t : i = w2.heap.size) => by omega)
  have H := hideIt (And.intro v4 (And.intro z4 a4))
  generalize w2.heap.size = g at *
  clear v3 a3 s3 v4 b4 s4 l2 z4 a4 H2 HB
  go_wp2_with fail
  go_loopw [27] (fun i wr => ∃ j : Nat, j ≤ n ∧ i = .int .i64 j ∧ VecAt wr g (vAt l fl R j) ∧ VecAt wr w.heap.size Vec.zero ∧ After w wr) (fun i _ => n - (intOf i).toNat)
  case atStart => exact ⟨0, by omega, rfl, H.out.1, H.out.2.1, H.out.2.2⟩
  case round =>
    obtain ⟨j, hj, rfl, hg, hz, af⟩ := hrel
    clear H
    by_cases hjn : j < n
    · have i2 : (j : Int) < (n : Int) := by omega
      obtain ⟨b, off, x, rfl, hlt, hlx, c0, c1, c2, c3⟩ := asrow_at (HL.out wr af) hjn
      have hx : l.getD j As.zero = x := List.getD_some hlx
      have HS := hideIt (fun V => signal_any V x)
      have L := hideIt (And.intro hg (And.intro hz (And.intro af hx)))
      clear hg hz af hlx hx
      go_wp2_with fail
      refine (HS.out _).mono ?_
      rintro e w6 ⟨rfl, a6⟩
      have b6 : After wr w6 := After.trans (After.rfl.alloc _) a6
      clear c0 c1 c2 c3 HS a6
      generalize hy : sgOf x = y
      have hyl : sgOf (l.getD j As.zero) = y := by rw [L.out.2.2.2]; exact hy
      go_upto_region 8 with fail
      obtain ⟨w7, h7⟩ : ∃ w7, w7 = w6.alloc (.cells #[.bool y.sh, .bool y.so, .int .i64 y.pr] 25) := ⟨_, rfl⟩
      rw [← h7]
      have a7 : After w6 w7 := by rw [h7]; exact After.rfl.alloc _
      have hb7 : w7.heap[w6.heap.size]? = some (.cells #[.bool y.sh, .bool y.so, .int .i64 y.pr] 25 (0, 0)) := by rw [h7]; exact heap_alloc_new w6 _
      have l6 : g < w6.heap.size := blk_lt (L.out.1.after b6)
      have v7 := L.out.1.after (b6.trans a7)
      have z7 := L.out.2.1.after (b6.trans a7)
      have a07 := L.out.2.2.1.trans (b6.trans a7)
      have hj26 : j < 26 := by have := HN.out; omega
      have e1 := get_some (sgAt l j) Sg.zero (i := j) (by rw [sgAt_length]; exact hj26)
      obtain ⟨d0, d1, d2⟩ := v7.cell_sg (HO.out j) e1
      have p0 := blk_cell (i := 0) (v := .bool y.sh) hb7 rfl
      have p1 := blk_cell (i := 1) (v := .bool y.so) hb7 rfl
      have p2 := blk_cell (i := 2) (v := .int .i64 y.pr) hb7 rfl
      have y0 := blk_soft v7 (j * 3)
      have y1 := blk_soft v7 (j * 3 + 1)
      have y2 := blk_soft v7 (j * 3 + 2)
      have jb : (j : Int) < 26 := by omega
      have M := hideIt (And.intro v7 (And.intro z7 (And.intro a07 (And.intro hb7 (And.intro hyl l6)))))
      clear h7 a7 hb7 v7 z7 a07 e1 b6 hy hyl L l6
      generalize w6.heap.size = q at *
      go_upto_region 9 with fail
      generalize hw8 : ((w7.setCell ⟨g, j * 3, none⟩ (.bool y.sh)).setCell ⟨g, j * 3 + 1, none⟩ (.bool y.so)).setCell ⟨g, j * 3 + 2, none⟩ (.int .i64 y.pr) = w8
      have v8 : VecAt w8 g ⟨sgAt l (j + 1), topAt l j, toneAt l j, fl, R⟩ := by
        have := M.out.1.sg (HO.out j) hj26 y
        rw [hw8, ← M.out.2.2.2.2.1] at this
        exact this
      have b8 : But (One g) w7 w8 := by rw [← hw8]; exact ((but_one _ _ _ _).trans (but_one _ _ _ _)).trans (but_one _ _ _ _)
      have k8 : Vec.Ok ⟨sgAt l (j + 1), topAt l j, toneAt l j, fl, R⟩ := ⟨sgAt_length _ _, HR.out⟩
      have q8 := (b8.block _ (blk_lt M.out.2.2.2.1) (fun (t : q = g) => by have := M.out.2.2.2.2.2; omega)).trans M.out.2.2.2.1
      obtain ⟨t0, t1, -⟩ := v8.cell_mid k8
      have p0 := blk_cell (i := 0) (v := .bool y.sh) q8 rfl
      have p1 := blk_cell (i := 1) (v := .bool y.so) q8 rfl
      have p2 := blk_cell (i := 2) (v := .int .i64 y.pr) q8 rfl
      have y8 := blk_soft v8 78
      have N := hideIt (And.intro v8 (And.intro b8 q8))
      clear hw8 v8 b8 q8 d0 d1 d2 y0 y1 y2
      go_upto_region 10 with fail
      have ht : topAt l (j + 1) = if topAt l j < y.pr then y.pr else topAt l j := by
        show max (topAt l j) (sgOf (l.getD j As.zero)).pr = _
        rw [M.out.2.2.2.2.1]
        split <;> omega
      rw [← ht]
      generalize hw9 : w8.setCell ⟨g, 78, none⟩ (.int .i64 (topAt l (j + 1))) = w9
      have v9 : VecAt w9 g ⟨sgAt l (j + 1), topAt l (j + 1), toneAt l j, fl, R⟩ := by
        have := N.out.1.top k8 (topAt l (j + 1))
        rw [hw9] at this
        exact this
      have b9 : But (One g) w8 w9 := by rw [← hw9]; exact but_one _ _ _ _
      have k9 : Vec.Ok ⟨sgAt l (j + 1), topAt l (j + 1), toneAt l j, fl, R⟩ := ⟨sgAt_length _ _, HR.out⟩
      have q9 := (b9.block _ (blk_lt N.out.2.2) (fun (t : q = g) => by have := M.out.2.2.2.2.2; omega)).trans N.out.2.2
      obtain ⟨-, t1, -⟩ := v9.cell_mid k9
      have p1 := blk_cell (i := 1) (v := .bool y.so) q9 rfl
      have p2 := blk_cell (i := 2) (v := .int .i64 y.pr) q9 rfl
      have y9 := blk_soft v9 79
      have z9 : VecAt w9 w.heap.size Vec.zero := ((N.out.2.1.trans b9).block _ (blk_lt M.out.2.1) (fun (t : w.heap.size = g) => by omega)).trans M.out.2.1
      have a9 : After w w9 := But.then M.out.2.2.1 (N.out.2.1.trans b9) (fun i hi (t : i = g) => by omega)
      have E := hideIt (And.intro v9 (And.intro k9 (And.intro z9 a9)))
      clear hw9 v9 b9 k9 k8 q9 z9 a9 ht t0 p0 N
      have jw : IntKind.i64.wrap ((j : Int) + 1) = (j : Int) + 1 := IntWalk.i64_in _ (by omega)
      cases hs : y.so
      · have htn : toneAt l (j + 1) = toneAt l j := by
          show (if (sgOf (l.getD j As.zero)).so = true then _ else _) = _
          rw [M.out.2.2.2.2.1, hs, if_neg (by decide)]
        have HT := hideIt htn
        clear htn
        go_wp2
        exact ⟨⟨j + 1, by omega, by simp, by unfold vAt; rw [HT.out]; exact E.out.1, E.out.2.2.1, E.out.2.2.2⟩, by simp [intOf]; omega⟩
      · have htn : toneAt l (j + 1) = if toneAt l j < y.pr then y.pr else toneAt l j := by
          show (if (sgOf (l.getD j As.zero)).so = true then max (toneAt l j) (sgOf (l.getD j As.zero)).pr else _) = _
          rw [M.out.2.2.2.2.1, hs, if_pos rfl]
          split <;> omega
        have HT := hideIt htn
        clear htn
        go_wp2
        rw [← HT.out]
        refine ⟨⟨j + 1, by omega, by simp, E.out.1.tone E.out.2.1 (toneAt l (j + 1)), ?_, ?_⟩, by simp [intOf]; omega⟩
        · exact ((but_one w9 g 79 _).block _ (blk_lt E.out.2.2.1) (fun (t : w.heap.size = g) => by omega)).trans E.out.2.2.1
        · exact But.then E.out.2.2.2 (but_one w9 g 79 _) (fun i hi (t : i = g) => by omega)
    · obtain rfl : j = n := by omega
      have L := hideIt (And.intro hg (And.intro hz af))
      clear hjn hj hg hz af HL
      have i2 : ¬ (j : Int) < (j : Int) := by omega
      go_wp2_with (first | (show wpList _ _ _ (_ :: _) _ _; refine wl_rvec _ rfl rfl rfl (v := vAt l fl R j) (HO.out j) L.out.1 ?_) | (show wpList _ _ _ (_ :: _) _ _; refine wl_vec _ _ rfl rfl rfl (v := vAt l fl R j) rfl Vec.Ok.zero (HO.out j) L.out.2.1 ?_; intro w4 v4 b4 s4) | fail)
      refine ret_vec Try.results9 rfl rfl (HO.out j) v4 rfl ⟨rfl, ?_⟩
      exact But.then L.out.2.2 b4 (fun i hi (t : i = w.heap.size) => by omega)
end Go.Proofs.Ytaiagijepnaalaa
