/-
  PanelOrder: to show no less is an order; what shows no less has a Top that is no less.
-/
import Derived.Test.YtaiagijepnaalaaLawTop19
namespace Go.Proofs.Ytaiagijepnaalaa
open Go.RowKit
set_option maxRecDepth 8000
/-- Four vectors, apart. -/
structure Fr (w : World) (g h i j : Nat) (x y z b : Vec) : Prop where
  x : VecAt w g x
  y : VecAt w h y
  z : VecAt w i z
  b : VecAt w j b
theorem Fr.after {w w' : World} {g h i j : Nat} {x y z b : Vec} (f : Fr w g h i j x y z b) (a : After w w') : Fr w' g h i j x y z b := ⟨f.x.after a, f.y.after a, f.z.after a, f.b.after a⟩
theorem VecAt.but {w w' : World} {g k : Nat} {v : Vec} (h : VecAt w g v) (b : But (One k) w w') (hn : g ≠ k) : VecAt w' g v := (b.block _ (blk_lt h) hn).trans h
set_option maxHeartbeats 2000000 in
theorem law_order (w : World) (a1 a2 a3 : Option Addr) (n1 n2 n3 c1 c2 c3 : Nat) (l1 l2 l3 : List As) (h1 : In19 w a1 n1 c1 l1) (h2 : In19 w a2 n2 c2 l2) (h3 : In19 w a3 n3 c3 l3) :
    Calls Try.prog 6 #[.slice a1 n1 c1, .slice a2 n2 c2, .slice a3 n3 c3] w fun e w' => e = .returned (.bool true) ∧ After w w' := by
  have HW := hideIt (fun V => works_any V)
  have I1 := hideIt h1
  have O1 := hideIt (fun V (x : After w V) => (h1.after x).of false)
  have t1 := take_len h1
  have m1 : min n1 26 ≤ 26 := by omega
  generalize l1.take (min n1 26) = L1 at *
  have e1 : (ofV L1 false []).sg = sgAt L1 (min n1 26) := by unfold ofV; rw [t1]
  have f1 : (ofV L1 false []).top = topAt L1 (min n1 26) := by unfold ofV; rw [t1]
  have k1 := ofV_ok L1 false []
  have s1 : (ofV L1 false []).fl = false := rfl
  generalize ofV L1 false [] = X at *
  clear t1 h1
  have I2 := hideIt h2
  have O2 := hideIt (fun V (x : After w V) => (h2.after x).of false)
  have t2 := take_len h2
  have m2 : min n2 26 ≤ 26 := by omega
  generalize l2.take (min n2 26) = L2 at *
  have e2 : (ofV L2 false []).sg = sgAt L2 (min n2 26) := by unfold ofV; rw [t2]
  have f2 : (ofV L2 false []).top = topAt L2 (min n2 26) := by unfold ofV; rw [t2]
  have k2 := ofV_ok L2 false []
  have s2 : (ofV L2 false []).fl = false := rfl
  generalize ofV L2 false [] = Y at *
  clear t2 h2
  have I3 := hideIt h3
  have O3 := hideIt (fun V (x : After w V) => (h3.after x).of false)
  have t3 := take_len h3
  have m3 : min n3 26 ≤ 26 := by omega
  generalize l3.take (min n3 26) = L3 at *
  have e3 : (ofV L3 false []).sg = sgAt L3 (min n3 26) := by unfold ofV; rw [t3]
  have f3 : (ofV L3 false []).top = topAt L3 (min n3 26) := by unfold ofV; rw [t3]
  have k3 := ofV_ok L3 false []
  have s3 : (ofV L3 false []).fl = false := rfl
  generalize ofV L3 false [] = Z at *
  clear t3 h3
  have hG : grv X Y = true → grv Y Z = true → grv X Z = true := grv_trans s1 s2
  have hT : grv X Y = true → Y.top ≤ X.top := by
    intro h
    rw [f1, f2]
    rw [grv_no s1, e1, e2] at h
    exact top_mono m1 m2 h
  clear e1 e2 e3 f1 f2 f3 s1 s2 s3 m1 m2 m3
  generalize hn1 : min n1 26 = M1 at *
  generalize hn2 : min n2 26 = M2 at *
  generalize hn3 : min n3 26 = M3 at *
  have G := hideIt (And.intro hG hT)
  have K := hideIt (And.intro k1 (And.intro k2 k3))
  clear hG hT k1 k2 k3
  go_enter Try.func6, Try.ntmps6
  go_wp2_with fail
  refine (HW.out w).mono ?_
  rintro e w1 ⟨rfl, b1⟩
  have A := hideIt b1
  clear HW b1
  go_wp2_with fail
  refine ((I1.out.after A.out).few).mono ?_
  rintro e wf1 ⟨rfl, bf⟩
  rw [hn1]
  have A' := hideIt (A.out.trans bf)
  clear bf A
  go_wp2_with fail
  refine (O1.out wf1 A'.out).mono ?_
  rintro e wo1 ⟨rfl, bo⟩
  go_upto_region 4 with (first | (show wpList _ _ _ (_ :: _) _ _; refine wl_avec rfl rfl ?_; intro wa1 va ba sa) | (show wpList _ _ _ (_ :: _) _ _; refine wl_vec _ _ rfl rfl rfl (v := X) rfl Vec.Ok.zero K.out.1 va ?_; intro ws1 V1 bs ss) | fail)
  have hsz : w.heap.size ≤ wo1.heap.size := (A'.out.trans bo).size
  have A := hideIt (show After w ws1 from But.then ((A'.out.trans bo).trans ba) bs (fun i hi (t : i = wo1.heap.size) => by omega))
  have HV := hideIt V1
  clear A' bo ba sa bs ss va V1
  have V1 := HV
  clear HV
  generalize wo1.heap.size = g1 at *
  have hg1 : w.heap.size ≤ g1 := hsz
  clear hsz
  go_wp2_with fail
  refine ((I2.out.after A.out).few).mono ?_
  rintro e wf2 ⟨rfl, bf⟩
  rw [hn2]
  have A' := hideIt (A.out.trans bf)
  have V1' := hideIt (V1.out.after bf)
  clear bf A V1
  go_wp2_with fail
  refine (O2.out wf2 A'.out).mono ?_
  rintro e wo2 ⟨rfl, bo⟩
  go_upto_region 5 with (first | (show wpList _ _ _ (_ :: _) _ _; refine wl_avec rfl rfl ?_; intro wa2 va ba sa) | (show wpList _ _ _ (_ :: _) _ _; refine wl_vec _ _ rfl rfl rfl (v := Y) rfl Vec.Ok.zero K.out.2.1 va ?_; intro ws2 V2 bs ss) | fail)
  have hsz : w.heap.size ≤ wo2.heap.size := (A'.out.trans bo).size
  have A := hideIt (show After w ws2 from But.then ((A'.out.trans bo).trans ba) bs (fun i hi (t : i = wo2.heap.size) => by omega))
  have u1 := V1'.out.after bo
  have l12 : g1 ≠ wo2.heap.size := by have := blk_lt u1; omega
  have V1 := hideIt ((u1.after ba).but bs l12)
  clear u1
  have HV := hideIt V2
  clear A' bo ba sa bs ss va V2 V1'
  have V2 := HV
  clear HV
  generalize wo2.heap.size = g2 at *
  have hg2 : w.heap.size ≤ g2 := hsz
  clear hsz
  go_wp2_with fail
  refine ((I3.out.after A.out).few).mono ?_
  rintro e wf3 ⟨rfl, bf⟩
  rw [hn3]
  have A' := hideIt (A.out.trans bf)
  have V1' := hideIt (V1.out.after bf)
  have V2' := hideIt (V2.out.after bf)
  clear bf A V1 V2
  go_wp2_with fail
  refine (O3.out wf3 A'.out).mono ?_
  rintro e wo3 ⟨rfl, bo⟩
  go_upto_region 6 with (first | (show wpList _ _ _ (_ :: _) _ _; refine wl_avec rfl rfl ?_; intro wa3 va ba sa) | (show wpList _ _ _ (_ :: _) _ _; refine wl_vec _ _ rfl rfl rfl (v := Z) rfl Vec.Ok.zero K.out.2.2 va ?_; intro ws3 V3 bs ss) | fail)
  have hsz : w.heap.size ≤ wo3.heap.size := (A'.out.trans bo).size
  have A := hideIt (show After w ws3 from But.then ((A'.out.trans bo).trans ba) bs (fun i hi (t : i = wo3.heap.size) => by omega))
  have u1 := V1'.out.after bo
  have l13 : g1 ≠ wo3.heap.size := by have := blk_lt u1; omega
  have V1 := hideIt ((u1.after ba).but bs l13)
  clear u1
  have u2 := V2'.out.after bo
  have l23 : g2 ≠ wo3.heap.size := by have := blk_lt u2; omega
  have V2 := hideIt ((u2.after ba).but bs l23)
  clear u2
  have HV := hideIt V3
  clear A' bo ba sa bs ss va V3 V1' V2'
  have V3 := HV
  clear HV
  generalize wo3.heap.size = g3 at *
  have hg3 : w.heap.size ≤ g3 := hsz
  clear hsz
  go_upto_region 7 with (first | (show wpList _ _ _ (_ :: _) _ _; refine wl_gvec (.tmp 9) rfl rfl rfl K.out.2.1 V2.out ?_) | (show wpList _ _ _ (_ :: _) _ _; refine wl_avec rfl rfl ?_; intro wa4 va ba sa) | (show wpList _ _ _ (_ :: _) _ _; refine wl_vec _ _ rfl rfl rfl (v := Y) rfl Vec.Ok.zero K.out.2.1 va ?_; intro w5 v5 bs ss) | fail)
  have hsz : w.heap.size ≤ ws3.heap.size := A.out.size
  have A5 := hideIt (show After w w5 from But.then (A.out.trans ba) bs (fun i hi (t : i = ws3.heap.size) => by omega))
  have r1 : g1 ≠ ws3.heap.size := by have := blk_lt V1.out; omega
  have r2 : g2 ≠ ws3.heap.size := by have := blk_lt V2.out; omega
  have r3 : g3 ≠ ws3.heap.size := by have := blk_lt V3.out; omega
  have F5 := hideIt (And.intro ((V1.out.after ba).but bs r1) (And.intro ((V2.out.after ba).but bs r2) (And.intro ((V3.out.after ba).but bs r3) v5)))
  clear va ba sa bs ss v5 V1 V2 V3 A
  generalize ws3.heap.size = g4 at *
  have c80 := (F5.out.2.2.2.cell_mid K.out.2.1).2.2
  have s80 := blk_soft F5.out.2.2.2 80
  go_upto_region 8 with fail
  generalize hw6 : w5.setCell ⟨g4, 80, none⟩ (.bool true) = w6
  obtain ⟨B, hB⟩ : ∃ B, B = ({ Y with fl := true } : Vec) := ⟨_, rfl⟩
  have b6 : But (One g4) w5 w6 := by rw [← hw6]; exact but_one _ _ _ _
  have F := hideIt (show Fr w6 g1 g2 g3 g4 X Y Z B from ⟨F5.out.1.but b6 r1, F5.out.2.1.but b6 r2, F5.out.2.2.1.but b6 r3, by rw [hB, ← hw6]; exact F5.out.2.2.2.fl K.out.2.1 true⟩)
  have A6 := hideIt (show After w w6 from But.then A5.out b6 (fun i hi (t : i = g4) => by omega))
  have kB : B.Ok := by rw [hB]; exact K.out.2.1
  have sB : B.fl = true := by rw [hB]
  have KB := hideIt (And.intro kB sB)
  clear hw6 b6 c80 s80 F5 A5 r1 r2 r3 hsz kB sB hB
  clear hg1 hg2 hg3
  have R := hideIt (show After w6 w6 from After.rfl)
  go_wp2_with (first | (show wpList _ _ _ (_ :: _) _ _; refine wl_gvec (.tmp 7) rfl rfl rfl K.out.1 (F.out.after R.out).x ?_) | (show wpList _ _ _ (_ :: _) _ _; refine wl_gvec (.tmp 9) rfl rfl rfl K.out.2.1 (F.out.after R.out).y ?_) | (show wpList _ _ _ (_ :: _) _ _; refine wl_gvec (.tmp 11) rfl rfl rfl K.out.2.2 (F.out.after R.out).z ?_) | (show wpList _ _ _ (_ :: _) _ _; refine wl_gvec (.tmp 13) rfl rfl rfl KB.out.1 (F.out.after R.out).b ?_) | fail)
  refine (graver_any w6 X X K.out.1 K.out.1).mono ?_
  rintro e w7 ⟨rfl, bb⟩
  have R' := hideIt (R.out.trans bb)
  clear R bb
  have R := R'
  clear R'
  rw [grv_refl X]
  go_wp2_with (first | (show wpList _ _ _ (_ :: _) _ _; refine wl_gvec (.tmp 7) rfl rfl rfl K.out.1 (F.out.after R.out).x ?_) | (show wpList _ _ _ (_ :: _) _ _; refine wl_gvec (.tmp 9) rfl rfl rfl K.out.2.1 (F.out.after R.out).y ?_) | (show wpList _ _ _ (_ :: _) _ _; refine wl_gvec (.tmp 11) rfl rfl rfl K.out.2.2 (F.out.after R.out).z ?_) | (show wpList _ _ _ (_ :: _) _ _; refine wl_gvec (.tmp 13) rfl rfl rfl KB.out.1 (F.out.after R.out).b ?_) | fail)
  refine (graver_any w7 B X KB.out.1 K.out.1).mono ?_
  rintro e w8 ⟨rfl, bb⟩
  have R' := hideIt (R.out.trans bb)
  clear R bb
  have R := R'
  clear R'
  rw [grv_yes KB.out.2]
  go_wp2_with (first | (show wpList _ _ _ (_ :: _) _ _; refine wl_gvec (.tmp 7) rfl rfl rfl K.out.1 (F.out.after R.out).x ?_) | (show wpList _ _ _ (_ :: _) _ _; refine wl_gvec (.tmp 9) rfl rfl rfl K.out.2.1 (F.out.after R.out).y ?_) | (show wpList _ _ _ (_ :: _) _ _; refine wl_gvec (.tmp 11) rfl rfl rfl K.out.2.2 (F.out.after R.out).z ?_) | (show wpList _ _ _ (_ :: _) _ _; refine wl_gvec (.tmp 13) rfl rfl rfl KB.out.1 (F.out.after R.out).b ?_) | fail)
  refine (graver_any w8 B Z KB.out.1 K.out.2.2).mono ?_
  rintro e w9 ⟨rfl, bb⟩
  have R' := hideIt (R.out.trans bb)
  clear R bb
  have R := R'
  clear R'
  rw [grv_yes KB.out.2]
  go_wp2_with (first | (show wpList _ _ _ (_ :: _) _ _; refine wl_gvec (.tmp 7) rfl rfl rfl K.out.1 (F.out.after R.out).x ?_) | (show wpList _ _ _ (_ :: _) _ _; refine wl_gvec (.tmp 9) rfl rfl rfl K.out.2.1 (F.out.after R.out).y ?_) | (show wpList _ _ _ (_ :: _) _ _; refine wl_gvec (.tmp 11) rfl rfl rfl K.out.2.2 (F.out.after R.out).z ?_) | (show wpList _ _ _ (_ :: _) _ _; refine wl_gvec (.tmp 13) rfl rfl rfl KB.out.1 (F.out.after R.out).b ?_) | fail)
  refine (graver_any w9 X Y K.out.1 K.out.2.1).mono ?_
  rintro e w10 ⟨rfl, bb⟩
  have R' := hideIt (R.out.trans bb)
  clear R bb
  have R := R'
  clear R'
  cases q1 : grv X Y
  · have Q := hideIt q1
    clear q1
    go_wp2_with (first | (show wpList _ _ _ (_ :: _) _ _; refine wl_gvec (.tmp 7) rfl rfl rfl K.out.1 (F.out.after R.out).x ?_) | (show wpList _ _ _ (_ :: _) _ _; refine wl_gvec (.tmp 9) rfl rfl rfl K.out.2.1 (F.out.after R.out).y ?_) | (show wpList _ _ _ (_ :: _) _ _; refine wl_gvec (.tmp 11) rfl rfl rfl K.out.2.2 (F.out.after R.out).z ?_) | (show wpList _ _ _ (_ :: _) _ _; refine wl_gvec (.tmp 13) rfl rfl rfl KB.out.1 (F.out.after R.out).b ?_) | fail)
    refine (graver_any w10 X Y K.out.1 K.out.2.1).mono ?_
    rintro e w11 ⟨rfl, bb⟩
    have R' := hideIt (R.out.trans bb)
    clear R bb
    have R := R'
    clear R'
    rw [Q.out]
    go_wp2_with (first | (show wpList _ _ _ (_ :: _) _ _; refine wl_gvec (.tmp 7) rfl rfl rfl K.out.1 (F.out.after R.out).x ?_) | (show wpList _ _ _ (_ :: _) _ _; refine wl_gvec (.tmp 9) rfl rfl rfl K.out.2.1 (F.out.after R.out).y ?_) | (show wpList _ _ _ (_ :: _) _ _; refine wl_gvec (.tmp 11) rfl rfl rfl K.out.2.2 (F.out.after R.out).z ?_) | (show wpList _ _ _ (_ :: _) _ _; refine wl_gvec (.tmp 13) rfl rfl rfl KB.out.1 (F.out.after R.out).b ?_) | fail)
    go_ret
    exact ⟨rfl, A6.out.trans R.out⟩
  · have Q := hideIt q1
    clear q1
    go_wp2_with (first | (show wpList _ _ _ (_ :: _) _ _; refine wl_gvec (.tmp 7) rfl rfl rfl K.out.1 (F.out.after R.out).x ?_) | (show wpList _ _ _ (_ :: _) _ _; refine wl_gvec (.tmp 9) rfl rfl rfl K.out.2.1 (F.out.after R.out).y ?_) | (show wpList _ _ _ (_ :: _) _ _; refine wl_gvec (.tmp 11) rfl rfl rfl K.out.2.2 (F.out.after R.out).z ?_) | (show wpList _ _ _ (_ :: _) _ _; refine wl_gvec (.tmp 13) rfl rfl rfl KB.out.1 (F.out.after R.out).b ?_) | fail)
    refine (graver_any w10 Y Z K.out.2.1 K.out.2.2).mono ?_
    rintro e w11 ⟨rfl, bb⟩
    have R' := hideIt (R.out.trans bb)
    clear R bb
    have R := R'
    clear R'
    cases q2 : grv Y Z
    · clear q2
      go_wp2_with (first | (show wpList _ _ _ (_ :: _) _ _; refine wl_gvec (.tmp 7) rfl rfl rfl K.out.1 (F.out.after R.out).x ?_) | (show wpList _ _ _ (_ :: _) _ _; refine wl_gvec (.tmp 9) rfl rfl rfl K.out.2.1 (F.out.after R.out).y ?_) | (show wpList _ _ _ (_ :: _) _ _; refine wl_gvec (.tmp 11) rfl rfl rfl K.out.2.2 (F.out.after R.out).z ?_) | (show wpList _ _ _ (_ :: _) _ _; refine wl_gvec (.tmp 13) rfl rfl rfl KB.out.1 (F.out.after R.out).b ?_) | fail)
      refine (graver_any w11 X Y K.out.1 K.out.2.1).mono ?_
      rintro e wz ⟨rfl, bb⟩
      have R' := hideIt (R.out.trans bb)
      clear R bb
      have R := R'
      clear R'
      rw [Q.out]
      have hT := G.out.2 Q.out
      obtain ⟨x0, -, -⟩ := (F.out.after R.out).x.cell_mid K.out.1
      obtain ⟨y0, -, -⟩ := (F.out.after R.out).y.cell_mid K.out.2.1
      go_wp2_with fail
      go_ret
      exact ⟨rfl, A6.out.trans R.out⟩
    · have q3 := G.out.1 Q.out q2
      clear q2
      have Q3 := hideIt q3
      clear q3
      go_wp2_with (first | (show wpList _ _ _ (_ :: _) _ _; refine wl_gvec (.tmp 7) rfl rfl rfl K.out.1 (F.out.after R.out).x ?_) | (show wpList _ _ _ (_ :: _) _ _; refine wl_gvec (.tmp 9) rfl rfl rfl K.out.2.1 (F.out.after R.out).y ?_) | (show wpList _ _ _ (_ :: _) _ _; refine wl_gvec (.tmp 11) rfl rfl rfl K.out.2.2 (F.out.after R.out).z ?_) | (show wpList _ _ _ (_ :: _) _ _; refine wl_gvec (.tmp 13) rfl rfl rfl KB.out.1 (F.out.after R.out).b ?_) | fail)
      refine (graver_any w11 X Z K.out.1 K.out.2.2).mono ?_
      rintro e w12 ⟨rfl, bb⟩
      have R' := hideIt (R.out.trans bb)
      clear R bb
      have R := R'
      clear R'
      rw [Q3.out]
      go_wp2_with (first | (show wpList _ _ _ (_ :: _) _ _; refine wl_gvec (.tmp 7) rfl rfl rfl K.out.1 (F.out.after R.out).x ?_) | (show wpList _ _ _ (_ :: _) _ _; refine wl_gvec (.tmp 9) rfl rfl rfl K.out.2.1 (F.out.after R.out).y ?_) | (show wpList _ _ _ (_ :: _) _ _; refine wl_gvec (.tmp 11) rfl rfl rfl K.out.2.2 (F.out.after R.out).z ?_) | (show wpList _ _ _ (_ :: _) _ _; refine wl_gvec (.tmp 13) rfl rfl rfl KB.out.1 (F.out.after R.out).b ?_) | fail)
      refine (graver_any w12 X Y K.out.1 K.out.2.1).mono ?_
      rintro e wz ⟨rfl, bb⟩
      have R' := hideIt (R.out.trans bb)
      clear R bb
      have R := R'
      clear R'
      rw [Q.out]
      have hT := G.out.2 Q.out
      obtain ⟨x0, -, -⟩ := (F.out.after R.out).x.cell_mid K.out.1
      obtain ⟨y0, -, -⟩ := (F.out.after R.out).y.cell_mid K.out.2.1
      go_wp2_with fail
      go_ret
      exact ⟨rfl, A6.out.trans R.out⟩
end Go.Proofs.Ytaiagijepnaalaa
