/-
  The contract of partText of package fixed: the point and the digits behind it, without the noughts at the end.
-/
import Derived.Test.YtlfcihanhfabmaaGreatDoorX1Parse
namespace Go.Proofs.YtlfcihanhfabmaaGreatDoor.L1
open Go.RowKit
set_option maxRecDepth 8000

/-- A digit's byte. -/
def dgB (x : Int) : UInt8 := UInt8.ofNat (48 + x).toNat
theorem dgB_val (x : Int) (h0 : 0 ≤ x) (h9 : x ≤ 9) : ((dgB x).toNat : Int) = 48 + x := by
  unfold dgB
  rw [UInt8.toNat_ofNat']
  have : (48 + x).toNat < 256 := by omega
  rw [show 2 ^ 8 = 256 from rfl, Nat.mod_eq_of_lt this]
  omega
/-- The point and the digits behind it, without the noughts at the end. -/
def partL (p : Int) : List UInt8 :=
  if p = 0 then [] else if p % 100 = 0 then [46, dgB (p / 100)] else if p % 10 = 0 then [46, dgB (p / 100), dgB (p % 100 / 10)] else [46, dgB (p / 100), dgB (p % 100 / 10), dgB (p % 10)]

theorem info5 : (Tryz.prog.info? 5).map (fun i => (i.zero, i.size, i.bytes)) = some (some (.int .u8 0), 1, 1) := by kernel_rfl
theorem below_app {B : Nat} {w wr w1 : World} {v : Value} {n : Nat} {xs : List Value} {o : Obj} (hb : Below B w wr) (hB : B ≤ wr.heap.size) (hown : wr.ownsRow B 5 1 v n xs) (hg : (wr.alloc o).grownBy w1 v.ownBlock) : Below B w w1 :=
  (hb.alloc hB o).grown hg (by simp; omega) (fun k hk => by
    rcases hown.2 with ⟨rfl, _⟩ | ⟨g, cap, cur, rfl, hge, _⟩
    · simp [Value.ownBlock] at hk
    · simp [Value.ownBlock] at hk; omega)
/-- A row of one element or more is no nil slice. -/
theorem own_shape {W : World} {B : Nat} {v : Value} {n : Nat} {xs : List Value} (h : W.ownsRow B 5 1 v n xs) (hn : 0 < n) : ∃ g cap, v = .slice (some ⟨g, 0, none⟩) n cap := by
  rcases h.2 with ⟨_, h0⟩ | ⟨g, cap, cur, rfl, _⟩
  · omega
  · exact ⟨g, cap, rfl⟩
/-- 'string(text)' of an owned row of bytes. -/
theorem own_string {W : World} {B : Nat} {v : Value} {l : List UInt8} (h : W.ownsRow B 5 1 v l.length (l.map fun b => Value.int .u8 (b.toNat : Int))) : (convert 44 9 v).run Tryz.prog W = .ok (.string ⟨l.toArray⟩) W := by
  rcases h.2 with ⟨rfl, h0⟩ | ⟨g, cap, cur, rfl, _, hblk, _, _, _, htk⟩
  · have : l = [] := List.length_eq_zero_iff.1 h0
    subst this
    rw [run_convert_bytes_string W 44 9 5 none 0 0 Tryz.underlying44 Tryz.underlying5 Tryz.underlying9]
    simp [Conv.bytesToString]
    rfl
  · refine run_convert_bytes_back W 44 9 5 ⟨g, 0, none⟩ cap l Tryz.underlying44 Tryz.underlying5 Tryz.underlying9 ?_
    intro j hj
    rw [Nat.mul_one] at htk
    have hc : cur.toList[j]? = some (.int .u8 (l[j].toNat : Int)) := by
      have : (cur.toList.take l.length)[j]? = some (.int .u8 (l[j].toNat : Int)) := by rw [htk]; simp [hj]
      rw [List.getElem?_take, if_pos hj] at this
      exact this
    have ha : ((⟨g, 0, none⟩ : Addr).add j) = ⟨g, j, none⟩ := by simp [Addr.add]; omega
    rw [ha]
    unfold World.cell?
    simp [hblk]
    simpa using hc
/-- The one cell of a new block. -/
theorem one_cell (W : World) (c : Value) : ∀ (j : Nat) (u : Value), [c][j]? = some u → (W.alloc (Obj.cells #[c] 5)).cell? ((⟨W.heap.size, 0, none⟩ : Addr).add j) = some u := by
  intro j u hj
  match j, hj with
  | 0, hj => simp at hj; subst hj; simp [Addr.add]
theorem one_one (n : Int) : ∀ u, u ∈ [Value.int .u8 n] → u.oneCell' = true := by
  intro u hu; simp at hu; subst hu; rfl

set_option maxHeartbeats 1000000 in
theorem partText_any (p : Int) (w : World) (h0 : 0 ≤ p) (h1 : p < 1000) :
    Calls Tryz.prog 94 #[.int .i64 p] w fun e w' => e = .returned (.string ⟨(partL p).toArray⟩) ∧ After w w' := by
  obtain ⟨i0, hi, hz0, hz1, hz2⟩ := info_parts info5
  obtain ⟨q, hq⟩ : ∃ q, q = p / 100 := ⟨_, rfl⟩
  obtain ⟨r, hr⟩ : ∃ r, r = p % 100 := ⟨_, rfl⟩
  obtain ⟨q2, hq2⟩ : ∃ q, q = r / 10 := ⟨_, rfl⟩
  obtain ⟨r2, hr2⟩ : ∃ q, q = r % 10 := ⟨_, rfl⟩
  have b1 : 0 ≤ q := by omega
  have b2 : q ≤ 9 := by omega
  have b3 : 0 ≤ r := by omega
  have b4 : r ≤ 99 := by omega
  have b5 : 0 ≤ q2 := by omega
  have b6 : q2 ≤ 9 := by omega
  have b7 : 0 ≤ r2 := by omega
  have b8 : r2 ≤ 9 := by omega
  have hr2' : r2 = p % 10 := by omega
  have HP : Hid (partL p = if p = 0 then [] else if r = 0 then [46, dgB q] else if r2 = 0 then [46, dgB q, dgB q2] else [46, dgB q, dgB q2, dgB r2]) := by
    show partL p = _
    rw [hr2', hq2, hr, hq]; rfl
  have HQ : Hid (p / 100 = q ∧ p % 100 = r ∧ r / 10 = q2 ∧ r % 10 = r2) := ⟨hq.symm, hr.symm, hq2.symm, hr2.symm⟩
  clear hq hr hq2 hr2 hr2'
  go_enter Tryz.func94, Tryz.ntmps94
  go_wp2
  go_step3
  go_wp2
  go_step3
  go_wp2
  go_loopw [0, 3, 4] (fun part text unit wr => Below w.heap.size w wr ∧
     ((part = .int .i64 p ∧ unit = .int .i64 100 ∧ text = .slice none 0 0) ∨
      (part = .int .i64 r ∧ unit = .int .i64 10 ∧ p ≠ 0 ∧ wr.ownsRow w.heap.size 5 1 text 2 [.int .u8 46, .int .u8 (48 + q)]) ∨
      (part = .int .i64 r2 ∧ unit = .int .i64 1 ∧ p ≠ 0 ∧ r ≠ 0 ∧ wr.ownsRow w.heap.size 5 1 text 3 [.int .u8 46, .int .u8 (48 + q), .int .u8 (48 + q2)]) ∨
      (part = .int .i64 0 ∧ unit = .int .i64 0 ∧ p ≠ 0 ∧ r ≠ 0 ∧ r2 ≠ 0 ∧ wr.ownsRow w.heap.size 5 1 text 4 [.int .u8 46, .int .u8 (48 + q), .int .u8 (48 + q2), .int .u8 (48 + r2)])))
    (fun _ _ unit _ => (intOf unit).toNat)
  case atStart => exact ⟨Below.refl _ _, Or.inl ⟨rfl, rfl, rfl⟩⟩
  case round =>
    obtain ⟨hb, ⟨rfl, rfl, rfl⟩ | ⟨rfl, rfl, hp0, hown⟩ | ⟨rfl, rfl, hp0, hr0, hown⟩ | ⟨rfl, rfl, hp0, hr0, hr20, hown⟩⟩ := hrel
    · by_cases hp : p = 0
      · subst hp
        have hcv := own_string (W := wr) (l := []) (World.ownsRow_nil wr w.heap.size 5 1)
        have hcv' : (convert 44 9 (.slice none 0 0)).run Tryz.prog wr = .ok (.string ⟨#[]⟩) wr := hcv
        clear hcv
        go_wp2
        go_ret
        exact ⟨rfl, hb⟩
      · have hpp : (p == 0) = false := by simpa using hp
        have hB := hb.size
        have hpq : p / 100 = q := HQ.out.1
        go_wp2_with (at_builtin; refine wpList_append_own _ rfl (.tmp 14) (.tmp 15) 44 rfl w.heap.size 5 i0 (.int .u8 0) 1 1 Tryz.underlying44 hi hz0 hz1 hz2 rfl (by decide) _ _ _ rfl (World.ownsRow_nil _ _ _ _) ⟨wr.heap.size, 0, none⟩ 1 1 [.int .u8 46] rfl rfl (one_cell _ _) (one_one _) (by decide) (by decide) (by simp; omega) ?_)
        intro v1 w1 hown1 hgrow1 _
        have hb1 := below_app hb hB (World.ownsRow_nil wr w.heap.size 5 1) hgrow1
        clear hgrow1
        have hB1 := hb1.size
        go_wp2_with (at_builtin; refine wpList_append_own _ rfl (.tmp 17) (.tmp 23) 44 rfl w.heap.size 5 i0 (.int .u8 0) 1 1 Tryz.underlying44 hi hz0 hz1 hz2 rfl (by decide) _ _ _ rfl (hown1.alloc _) ⟨w1.heap.size, 0, none⟩ 1 1 [.int .u8 (48 + q)] rfl rfl (one_cell _ _) (one_one _) (by decide) (by decide) (by simp; omega) ?_)
        intro v2 w2 hown2 hgrow2 _
        have hb2 := below_app hb1 hB1 hown1 hgrow2
        have hB2 := hb2.size
        clear hgrow2 hb hb1 hown1
        have HO := hideIt hown2
        clear hown2
        go_wp2
        go_roundw
        case rel => exact ⟨hb2, Or.inr (Or.inl ⟨by rw [HQ.out.2.1], rfl, hp, HO.out⟩)⟩
        case measure => simp [intOf]
    · by_cases hp : r = 0
      · have HF : Hid (partL p = [46, dgB q]) := by
          show partL p = _
          rw [HP.out, if_neg hp0, if_pos hp]
        subst hp
        have hl : wr.ownsRow w.heap.size 5 1 u3 2 ([46, dgB q].map fun b : UInt8 => Value.int .u8 (b.toNat : Int)) := by
          simpa [dgB_val q b1 b2] using hown
        have hcv := own_string (W := wr) (l := [46, dgB q]) hl
        clear hown hl
        go_wp2
        go_ret
        exact ⟨by rw [HF.out]; rfl, hb⟩
      · have hpp : (r == 0) = false := by simpa using hp
        have hpq : r / 10 = q2 := HQ.out.2.2.1
        have hB := hb.size
        obtain ⟨g, cap, hv⟩ := own_shape hown (by decide)
        rw [hv] at hown ⊢
        clear hv
        go_wp2_with (at_builtin; refine wpList_append_own _ rfl (.tmp 17) (.tmp 23) 44 rfl w.heap.size 5 i0 (.int .u8 0) 1 1 Tryz.underlying44 hi hz0 hz1 hz2 rfl (by decide) _ _ _ rfl (hown.alloc _) ⟨wr.heap.size, 0, none⟩ 1 1 [.int .u8 (48 + q2)] rfl rfl (one_cell _ _) (one_one _) (by decide) (by decide) (by simp; omega) ?_)
        intro v2 w2 hown2 hgrow2 _
        have hb2 := below_app hb hB hown hgrow2
        have hB2 := hb2.size
        clear hgrow2 hb hown
        have HO := hideIt hown2
        clear hown2
        go_wp2
        go_roundw
        case rel => exact ⟨hb2, Or.inr (Or.inr (Or.inl ⟨by rw [HQ.out.2.2.2], rfl, hp0, hp, HO.out⟩))⟩
        case measure => simp [intOf]
    · by_cases hp : r2 = 0
      · have HF : Hid (partL p = [46, dgB q, dgB q2]) := by
          show partL p = _
          rw [HP.out, if_neg hp0, if_neg hr0, if_pos hp]
        subst hp
        have hl : wr.ownsRow w.heap.size 5 1 u3 3 ([46, dgB q, dgB q2].map fun b : UInt8 => Value.int .u8 (b.toNat : Int)) := by
          simpa [dgB_val q b1 b2, dgB_val q2 b5 b6] using hown
        have hcv := own_string (W := wr) (l := [46, dgB q, dgB q2]) hl
        clear hown hl
        go_wp2
        go_ret
        exact ⟨by rw [HF.out]; rfl, hb⟩
      · have hpp : (r2 == 0) = false := by simpa using hp
        have hB := hb.size
        obtain ⟨g, cap, hv⟩ := own_shape hown (by decide)
        rw [hv] at hown ⊢
        clear hv
        go_wp2_with (at_builtin; refine wpList_append_own _ rfl (.tmp 17) (.tmp 23) 44 rfl w.heap.size 5 i0 (.int .u8 0) 1 1 Tryz.underlying44 hi hz0 hz1 hz2 rfl (by decide) _ _ _ rfl (hown.alloc _) ⟨wr.heap.size, 0, none⟩ 1 1 [.int .u8 (48 + r2)] rfl rfl (one_cell _ _) (one_one _) (by decide) (by decide) (by simp; omega) ?_)
        intro v2 w2 hown2 hgrow2 _
        have hb2 := below_app hb hB hown hgrow2
        have hB2 := hb2.size
        clear hgrow2 hb hown
        have HO := hideIt hown2
        clear hown2
        go_wp2
        go_roundw
        case rel => exact ⟨hb2, Or.inr (Or.inr (Or.inr ⟨by simp, rfl, hp0, hr0, hp, HO.out⟩))⟩
        case measure => simp [intOf]
    · have hl : wr.ownsRow w.heap.size 5 1 u3 4 ([46, dgB q, dgB q2, dgB r2].map fun b : UInt8 => Value.int .u8 (b.toNat : Int)) := by
        simpa [dgB_val q b1 b2, dgB_val q2 b5 b6, dgB_val r2 b7 b8] using hown
      have hcv := own_string (W := wr) (l := [46, dgB q, dgB q2, dgB r2]) hl
      clear hown hl
      go_wp2
      rw [Exit.noGoto_ret]
      go_ret
      exact ⟨by rw [HP.out, if_neg hp0, if_neg hr0, if_neg hr20]; rfl, hb⟩

/-- A number's text. -/
def textL (v : Int) : List UInt8 := (if cl v < 0 then [45] else []) ++ Lib.itoa (ab (cl v) / 1000) ++ partL (ab (cl v) % 1000)
theorem append_lists (a b : List UInt8) : (⟨a.toArray⟩ : ByteArray) ++ (⟨b.toArray⟩ : ByteArray) = ⟨(a ++ b).toArray⟩ := by
  rw [ByteArray.ext_iff]
  simp
end Go.Proofs.YtlfcihanhfabmaaGreatDoor.L1
