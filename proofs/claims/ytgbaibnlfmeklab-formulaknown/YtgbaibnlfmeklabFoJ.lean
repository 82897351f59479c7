/-
  text, four, with, copied, may: what they answer.
-/
import Derived.Test.YtgbaibnlfmeklabFoI
namespace Go.Proofs.Ytgbaibnlfmeklab
open Go.RowKit Go.Maps
set_option maxRecDepth 8000
theorem hld_ok {L : List Nd} {C : List Ch} {T : List (List Rd)} (hc : chk L (C.length : Int) = 0) (hT : ∀ l ∈ T, l.length = C.length) {j : Nat} (hj : j < T.length) : hld L C T (j : Int) = (val L C T (L.length - 1) j, 0) := by
  unfold hld
  rw [if_neg (by rw [hc]; simp), if_neg (by simp only [Classical.not_not]; exact hT), if_neg (by omega)]
  rfl
theorem bits_succ (f : Nat → Bool) (j : Nat) : bitsOf f (j + 1) = bitsOf f j ++ (if f j = true then ⟨#[49]⟩ else ⟨#[48]⟩) := rfl
theorem text_any {L : List Nd} {C : List Ch} {X : List Tr} (w : World) (al : Option Addr) (cl : Nat) (ac : Option Addr) (cc : Nat) (aT : Option Addr) (ct : Nat) (h1 : NRow w al L.length L) (h2 : CRow w ac C.length C) (h3 : TRow w aT X.length X) (hX : X.length ≤ 1000)
    (hc : chk L (C.length : Int) = 0) (hT : ∀ l ∈ rdsOf X, l.length = C.length) :
    Calls Try.prog 5 #[.agg #[.slice ac C.length cc, .slice aT X.length ct], .slice al L.length cl] w fun e w' => e = .returned (.string (bitsOf (val L C (rdsOf X) (L.length - 1)) X.length)) ∧ After w w' := by
  have H1 := hideIt h1
  have H2 := hideIt h2
  have H3 := hideIt h3
  have HH := hideIt (fun (j : Nat) (hj : j < X.length) => hld_ok hc hT (j := j) (by rw [rdsOf_length]; exact hj))
  have hX' : (X.length : Int) ≤ 1000 := by omega
  generalize val L C (rdsOf X) (L.length - 1) = f at *
  have HA := hideIt (fun (W : World) (hW : After w W) (j : Nat) (hj : j < X.length) => holds_any (L := L) (C := C) (X := X) W al cl ac cc aT ct (H1.out.after hW) (H2.out.after hW) (H3.out.after hW) hX (j : Int))
  obtain ⟨B, hB⟩ : ∃ B, bitsOf f X.length = B := ⟨_, rfl⟩
  have HB := hideIt hB
  rw [hB]
  obtain ⟨G, hG⟩ : ∃ G : Nat → ByteArray, G = bitsOf f := ⟨_, rfl⟩
  have hG0 : G 0 = ⟨#[]⟩ := by rw [hG]; rfl
  have HG : Hid (∀ j, G (j + 1) = G j ++ (if f j = true then ⟨#[49]⟩ else ⟨#[48]⟩)) := hideIt (fun j => by rw [hG]; rfl)
  have HS : Hid (∀ j, (G j).size = j) := hideIt (fun j => by rw [hG]; exact bitsOf_size f j)
  have HBG : Hid (G X.length = B) := hideIt (by rw [hG]; exact hB)
  clear h1 h2 h3 hc hT hB hG
  have hn0 : (w.alloc (.cells #[.slice ac C.length cc, .slice aT X.length ct] 25)).heap[w.heap.size]? = some (.cells #[.slice ac C.length cc, .slice aT X.length ct] 25 (0, 0)) := heap_alloc_new w _
  have HN := hideIt hn0
  clear hn0
  go_enter Try.func5, Try.ntmps5
  go_wp2_with fail
  go_loopw [5, 6] (fun s i wr => ∃ j : Nat, j ≤ X.length ∧ i = .int .i64 j ∧ s = .string (G j) ∧ After w wr ∧ After (w.alloc (.cells #[.slice ac C.length cc, .slice aT X.length ct] 25)) wr) (fun _ i _ => X.length - (intOf i).toNat)
  case atStart => exact ⟨0, Nat.zero_le _, rfl, by rw [hG0], After.rfl.alloc _, After.rfl⟩
  case round =>
    obtain ⟨j, hj, rfl, rfl, aw, aw2⟩ := hrel
    have c0 := new_cell aw2 0 rfl
    have c1 := new_cell aw2 1 rfl
    by_cases hjn : j < X.length
    · have i1 : (j : Int) < (X.length : Int) := by omega
      have HQ := hideIt (HA.out _ aw j hjn)
      rw [HH.out j hjn] at HQ
      simp only at HQ
      have HW := hideIt (And.intro aw aw2)
      have h5 : (G j).size ≤ 1000 := by rw [HS.out]; omega
      clear aw aw2
      rcases hf : f j with _ | _
      · have e1 : G (j + 1) = G j ++ ⟨#[48]⟩ := by rw [HG.out, hf]; rfl
        have E1 := hideIt e1
        rw [hf] at HQ
        clear e1 hf
        go_wp2_with fail
        refine HQ.out.mono ?_
        rintro e w2 ⟨rfl, a2⟩
        have A2 := hideIt a2
        clear a2
        go_wp2_with fail
        go_roundw
        case rel => exact ⟨j + 1, by omega, by go_num, by rw [E1.out], HW.out.1.trans A2.out, HW.out.2.trans A2.out⟩
        case measure => simp [intOf]; omega
      · have e1 : G (j + 1) = G j ++ ⟨#[49]⟩ := by rw [HG.out, hf]; rfl
        have E1 := hideIt e1
        rw [hf] at HQ
        clear e1 hf
        go_wp2_with fail
        refine HQ.out.mono ?_
        rintro e w2 ⟨rfl, a2⟩
        have A2 := hideIt a2
        clear a2
        go_wp2_with fail
        go_roundw
        case rel => exact ⟨j + 1, by omega, by go_num, by rw [E1.out], HW.out.1.trans A2.out, HW.out.2.trans A2.out⟩
        case measure => simp [intOf]; omega
    · have i1 : ¬ (j : Int) < (X.length : Int) := by omega
      have hjn' : j = X.length := by omega
      have HW := hideIt aw
      have HJ := hideIt hjn'
      clear aw aw2 hjn'
      go_wp2_with fail
      go_ret
      exact ⟨by show Ending.returned (.string (G j)) = _; rw [HJ.out, HBG.out], HW.out⟩
theorem Try.infoNode : (Try.prog.info? 28).map (fun i => (i.zero, i.size, i.bytes)) = some (some (.agg #[.int .i64 0, .int .i64 0, .int .i64 0, .int .i64 0]), 4, 32) := by kernel_rfl
/-- The chapter's channel and trace. -/
def fourC : List Ch := [⟨0, 0, 0, 0, 0, 1000, 5000⟩]
def fourT : List (List Rd) := [[⟨1, 2000⟩], [⟨1, 6000⟩], [⟨3, 0⟩], [⟨1, 500⟩]]
/-- A past that lies in memory. -/
structure PastAt (w : World) (v : Value) (C : List Ch) (T : List (List Rd)) : Prop where
  ex : ∃ ac cc aT ct X, v = .agg #[.slice ac C.length cc, .slice aT T.length ct] ∧ CRow w ac C.length C ∧ TRow w aT T.length X ∧ rdsOf X = T
theorem PastAt.after {w w' : World} {v : Value} {C : List Ch} {T : List (List Rd)} (h : PastAt w v C T) (a : After w w') : PastAt w' v C T := by
  obtain ⟨ac, cc, aT, ct, X, e, h1, h2, h3⟩ := h
  exact ⟨ac, cc, aT, ct, X, e, h1.after a, h2.after a, h3⟩
theorem text_past {L : List Nd} {C : List Ch} {T : List (List Rd)} {v : Value} {w : World} (p : PastAt w v C T) (al : Option Addr) (cl : Nat) (h1 : NRow w al L.length L) (hX : T.length ≤ 1000) (hc : chk L (C.length : Int) = 0) (hT : ∀ l ∈ T, l.length = C.length) :
    Calls Try.prog 5 #[v, .slice al L.length cl] w fun e w' => e = .returned (.string (bitsOf (val L C T (L.length - 1)) T.length)) ∧ After w w' := by
  obtain ⟨ac, cc, aT, ct, X, rfl, h2, h3, rfl⟩ := p
  rw [rdsOf_length] at h3 hX ⊢
  exact text_any w al cl ac cc aT ct h1 h2 h3 hX hc hT
theorem new_blk {w W : World} {o : Obj} (h : After (w.alloc o) W) : W.heap[w.heap.size]? = some o := (h.block _ (by simp) (fun t => t)).trans (heap_alloc_new w o)
theorem four_any (w : World) : Calls Try.prog 4 #[] w fun e w' => ∃ v, e = .returned v ∧ PastAt w' v fourC fourT ∧ After w w' := by
  go_enter Try.func4, Try.ntmps4
  go_wp2
  refine bodyPost_ret (v := .agg #[.slice (some ⟨w.heap.size + 1, 0, none⟩) 1 1, .slice (some ⟨w.heap.size + 1 + 1 + 1 + 1 + 1 + 1, 0, none⟩) 4 4]) (by simp [results, Try.results4, go_sem]) rfl ⟨_, rfl, ?_, ?_⟩
  · have b1 := new_blk (w := (w.alloc (.cells #[.slice (some ⟨w.heap.size + 1, 0, none⟩) 1 1, .slice (some ⟨w.heap.size + 1 + 1 + 1 + 1 + 1 + 1, 0, none⟩) 4 4] 25))) (o := .cells #[.int .i64 0, .int .i64 0, .int .i64 0, .int .i64 0, .int .i64 0, .int .i64 1000, .int .i64 5000] 46) (((((After.rfl.alloc (.cells #[.int .i64 1, .int .i64 2000] 41)).alloc (.cells #[.int .i64 1, .int .i64 6000] 41)).alloc (.cells #[.int .i64 3, .int .i64 0] 41)).alloc (.cells #[.int .i64 1, .int .i64 500] 41)).alloc (.cells #[.slice (some ⟨w.heap.size + 1 + 1, 0, none⟩) 1 1, .slice (some ⟨w.heap.size + 1 + 1 + 1, 0, none⟩) 1 1, .slice (some ⟨w.heap.size + 1 + 1 + 1 + 1, 0, none⟩) 1 1, .slice (some ⟨w.heap.size + 1 + 1 + 1 + 1 + 1, 0, none⟩) 1 1] 48))
    have b2 := new_blk (w := ((w.alloc (.cells #[.slice (some ⟨w.heap.size + 1, 0, none⟩) 1 1, .slice (some ⟨w.heap.size + 1 + 1 + 1 + 1 + 1 + 1, 0, none⟩) 4 4] 25)).alloc (.cells #[.int .i64 0, .int .i64 0, .int .i64 0, .int .i64 0, .int .i64 0, .int .i64 1000, .int .i64 5000] 46))) (o := .cells #[.int .i64 1, .int .i64 2000] 41) ((((After.rfl.alloc (.cells #[.int .i64 1, .int .i64 6000] 41)).alloc (.cells #[.int .i64 3, .int .i64 0] 41)).alloc (.cells #[.int .i64 1, .int .i64 500] 41)).alloc (.cells #[.slice (some ⟨w.heap.size + 1 + 1, 0, none⟩) 1 1, .slice (some ⟨w.heap.size + 1 + 1 + 1, 0, none⟩) 1 1, .slice (some ⟨w.heap.size + 1 + 1 + 1 + 1, 0, none⟩) 1 1, .slice (some ⟨w.heap.size + 1 + 1 + 1 + 1 + 1, 0, none⟩) 1 1] 48))
    have b3 := new_blk (w := (((w.alloc (.cells #[.slice (some ⟨w.heap.size + 1, 0, none⟩) 1 1, .slice (some ⟨w.heap.size + 1 + 1 + 1 + 1 + 1 + 1, 0, none⟩) 4 4] 25)).alloc (.cells #[.int .i64 0, .int .i64 0, .int .i64 0, .int .i64 0, .int .i64 0, .int .i64 1000, .int .i64 5000] 46)).alloc (.cells #[.int .i64 1, .int .i64 2000] 41))) (o := .cells #[.int .i64 1, .int .i64 6000] 41) (((After.rfl.alloc (.cells #[.int .i64 3, .int .i64 0] 41)).alloc (.cells #[.int .i64 1, .int .i64 500] 41)).alloc (.cells #[.slice (some ⟨w.heap.size + 1 + 1, 0, none⟩) 1 1, .slice (some ⟨w.heap.size + 1 + 1 + 1, 0, none⟩) 1 1, .slice (some ⟨w.heap.size + 1 + 1 + 1 + 1, 0, none⟩) 1 1, .slice (some ⟨w.heap.size + 1 + 1 + 1 + 1 + 1, 0, none⟩) 1 1] 48))
    have b4 := new_blk (w := ((((w.alloc (.cells #[.slice (some ⟨w.heap.size + 1, 0, none⟩) 1 1, .slice (some ⟨w.heap.size + 1 + 1 + 1 + 1 + 1 + 1, 0, none⟩) 4 4] 25)).alloc (.cells #[.int .i64 0, .int .i64 0, .int .i64 0, .int .i64 0, .int .i64 0, .int .i64 1000, .int .i64 5000] 46)).alloc (.cells #[.int .i64 1, .int .i64 2000] 41)).alloc (.cells #[.int .i64 1, .int .i64 6000] 41))) (o := .cells #[.int .i64 3, .int .i64 0] 41) ((After.rfl.alloc (.cells #[.int .i64 1, .int .i64 500] 41)).alloc (.cells #[.slice (some ⟨w.heap.size + 1 + 1, 0, none⟩) 1 1, .slice (some ⟨w.heap.size + 1 + 1 + 1, 0, none⟩) 1 1, .slice (some ⟨w.heap.size + 1 + 1 + 1 + 1, 0, none⟩) 1 1, .slice (some ⟨w.heap.size + 1 + 1 + 1 + 1 + 1, 0, none⟩) 1 1] 48))
    have b5 := new_blk (w := (((((w.alloc (.cells #[.slice (some ⟨w.heap.size + 1, 0, none⟩) 1 1, .slice (some ⟨w.heap.size + 1 + 1 + 1 + 1 + 1 + 1, 0, none⟩) 4 4] 25)).alloc (.cells #[.int .i64 0, .int .i64 0, .int .i64 0, .int .i64 0, .int .i64 0, .int .i64 1000, .int .i64 5000] 46)).alloc (.cells #[.int .i64 1, .int .i64 2000] 41)).alloc (.cells #[.int .i64 1, .int .i64 6000] 41)).alloc (.cells #[.int .i64 3, .int .i64 0] 41))) (o := .cells #[.int .i64 1, .int .i64 500] 41) (After.rfl.alloc (.cells #[.slice (some ⟨w.heap.size + 1 + 1, 0, none⟩) 1 1, .slice (some ⟨w.heap.size + 1 + 1 + 1, 0, none⟩) 1 1, .slice (some ⟨w.heap.size + 1 + 1 + 1 + 1, 0, none⟩) 1 1, .slice (some ⟨w.heap.size + 1 + 1 + 1 + 1 + 1, 0, none⟩) 1 1] 48))
    have b6 := new_blk (w := ((((((w.alloc (.cells #[.slice (some ⟨w.heap.size + 1, 0, none⟩) 1 1, .slice (some ⟨w.heap.size + 1 + 1 + 1 + 1 + 1 + 1, 0, none⟩) 4 4] 25)).alloc (.cells #[.int .i64 0, .int .i64 0, .int .i64 0, .int .i64 0, .int .i64 0, .int .i64 1000, .int .i64 5000] 46)).alloc (.cells #[.int .i64 1, .int .i64 2000] 41)).alloc (.cells #[.int .i64 1, .int .i64 6000] 41)).alloc (.cells #[.int .i64 3, .int .i64 0] 41)).alloc (.cells #[.int .i64 1, .int .i64 500] 41))) (o := .cells #[.slice (some ⟨w.heap.size + 1 + 1, 0, none⟩) 1 1, .slice (some ⟨w.heap.size + 1 + 1 + 1, 0, none⟩) 1 1, .slice (some ⟨w.heap.size + 1 + 1 + 1 + 1, 0, none⟩) 1 1, .slice (some ⟨w.heap.size + 1 + 1 + 1 + 1 + 1, 0, none⟩) 1 1] 48) After.rfl
    simp only [size_alloc] at b1 b2 b3 b4 b5 b6
    refine ⟨some ⟨w.heap.size + 1, 0, none⟩, 1, some ⟨w.heap.size + 1 + 1 + 1 + 1 + 1 + 1, 0, none⟩, 4, [⟨some ⟨w.heap.size + 1 + 1, 0, none⟩, 1, 1, [⟨1, 2000⟩]⟩, ⟨some ⟨w.heap.size + 1 + 1 + 1, 0, none⟩, 1, 1, [⟨1, 6000⟩]⟩, ⟨some ⟨w.heap.size + 1 + 1 + 1 + 1, 0, none⟩, 1, 1, [⟨3, 0⟩]⟩, ⟨some ⟨w.heap.size + 1 + 1 + 1 + 1 + 1, 0, none⟩, 1, 1, [⟨1, 500⟩]⟩], rfl, lit_row b1 rfl rfl, ⟨lit_row b6 rfl rfl, ?_⟩, rfl⟩
    intro x hx
    simp only [List.mem_cons, List.not_mem_nil, or_false] at hx
    rcases hx with rfl | rfl | rfl | rfl
    · exact ⟨lit_row b2 rfl rfl, fun h => by cases h⟩
    · exact ⟨lit_row b3 rfl rfl, fun h => by cases h⟩
    · exact ⟨lit_row b4 rfl rfl, fun h => by cases h⟩
    · exact ⟨lit_row b5 rfl rfl, fun h => by cases h⟩
  · exact (((((((After.rfl.alloc (.cells #[.slice (some ⟨w.heap.size + 1, 0, none⟩) 1 1, .slice (some ⟨w.heap.size + 1 + 1 + 1 + 1 + 1 + 1, 0, none⟩) 4 4] 25)).alloc (.cells #[.int .i64 0, .int .i64 0, .int .i64 0, .int .i64 0, .int .i64 0, .int .i64 1000, .int .i64 5000] 46)).alloc (.cells #[.int .i64 1, .int .i64 2000] 41)).alloc (.cells #[.int .i64 1, .int .i64 6000] 41)).alloc (.cells #[.int .i64 3, .int .i64 0] 41)).alloc (.cells #[.int .i64 1, .int .i64 500] 41)).alloc (.cells #[.slice (some ⟨w.heap.size + 1 + 1, 0, none⟩) 1 1, .slice (some ⟨w.heap.size + 1 + 1 + 1, 0, none⟩) 1 1, .slice (some ⟨w.heap.size + 1 + 1 + 1 + 1, 0, none⟩) 1 1, .slice (some ⟨w.heap.size + 1 + 1 + 1 + 1 + 1, 0, none⟩) 1 1] 48))
end Go.Proofs.Ytgbaibnlfmeklab
