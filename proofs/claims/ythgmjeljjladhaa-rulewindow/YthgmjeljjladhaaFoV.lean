/-
  The document's Row, whole; Rows; Holds.
-/
import Derived.Test.YthgmjeljjladhaaFoU
import Derived.Test.YthgmjeljjladhaaFoS
import Derived.Test.YthgmjeljjladhaaFoI
namespace Go.Proofs.Ythgmjeljjladhaa
open Go.RowKit
set_option maxRecDepth 8000
theorem row_any {L : List Nd} {C : List Ch} {X : List Tr} (ok : okAll L (C.length : Int) = true) (hL : L.length ≤ 32) (hX : X.length ≤ 1000) (hR : ∀ x ∈ X, x.n = C.length) {i : Nat} (hi : i < L.length) (w : World) (al : Option Addr) (cl : Nat) (h1 : NRow w al L.length L) (ar : Option Addr) (nr cr : Nat) (ac : Option Addr) (cc : Nat) (aT : Option Addr) (ct : Nat) (h2 : CRow w ac C.length C) (h3 : TRow w aT X.length X)
    (hp : ∀ j, j < i → Part w ar nr X.length j (val L C (rdsOf X) j)) :
    Calls Try.prog 55 #[.slice al L.length cl, .int .i64 (i : Int), .slice ar nr cr, .slice ac C.length cc, .slice aT X.length ct] w fun e w' => ∃ v, e = .returned v ∧ RowOut w w' v X.length (val L C (rdsOf X) i) ∧ After w w' := by
  obtain ⟨x, hx⟩ : ∃ x, L[i]? = some x := ⟨_, List.getElem?_eq_getElem hi⟩
  have ho := okAll_at ok hx
  have hop := okN_op ho
  have hv := fun t => val_eq ok C (rdsOf X) hx t
  obtain ⟨op, a, b, n⟩ := x
  rcases (by simp only at hop; omega : op = 0 ∨ (1 ≤ op ∧ op ≤ 5) ∨ op = 6 ∨ op = 7 ∨ op = 8 ∨ op = 9 ∨ op = 10 ∨ op = 11 ∨ op = 12) with rfl | h | rfl | rfl | rfl | rfl | rfl | rfl | rfl
  · simp [okN] at ho
    obtain ⟨⟨rfl, rfl⟩, rfl⟩ := ho
    exact row_0 hL hX hx (fun t => by rw [hv]; simp [stepv]) w al cl h1 ar nr cr ac cc aT ct
  · have hA : 0 ≤ a ∧ a < (C.length : Int) := by
      unfold okN at ho
      rw [if_neg (by simp only; omega)] at ho
      split at ho
      · simp only [idx, Bool.and_eq_true, decide_eq_true_eq] at ho; omega
      · rw [if_pos (by simp only at *; omega)] at ho
        simp only [idx, Bool.and_eq_true, decide_eq_true_eq] at ho; omega
    obtain ⟨ja, rfl⟩ : ∃ ja : Nat, a = (ja : Int) := ⟨a.toNat, by omega⟩
    refine row_atom hL hX hx h (by omega) hR (fun t _ => ?_) w al cl h1 ar nr cr ac cc aT ct h2 h3
    rw [hv]
    unfold stepv
    simp only
    rw [if_neg (by omega), if_neg (by omega), if_neg (by omega), if_neg (by omega), if_neg (by omega), if_neg (by omega), if_neg (by omega), if_neg (by omega), Int.toNat_natCast]
  · simp [okN, idx] at ho
    obtain ⟨⟨⟨h1', h2'⟩, rfl⟩, rfl⟩ := ho
    obtain ⟨ja, rfl⟩ : ∃ ja : Nat, a = (ja : Int) := ⟨a.toNat, by omega⟩
    exact row_6 hL hX hx (fun t _ => by rw [hv]; simp [stepv]) w al cl h1 ar nr cr ac cc aT ct (hp ja (by omega))
  · simp [okN, idx] at ho
    obtain ⟨⟨⟨h1', h2'⟩, h3', h4'⟩, rfl⟩ := ho
    obtain ⟨ja, rfl⟩ : ∃ ja : Nat, a = (ja : Int) := ⟨a.toNat, by omega⟩
    obtain ⟨jb, rfl⟩ : ∃ jb : Nat, b = (jb : Int) := ⟨b.toNat, by omega⟩
    exact row_7 hL hX hx (fun t _ => by rw [hv]; simp [stepv]) w al cl h1 ar nr cr ac cc aT ct (hp ja (by omega)) (hp jb (by omega))
  · simp [okN, idx] at ho
    obtain ⟨⟨⟨h1', h2'⟩, h3', h4'⟩, rfl⟩ := ho
    obtain ⟨ja, rfl⟩ : ∃ ja : Nat, a = (ja : Int) := ⟨a.toNat, by omega⟩
    obtain ⟨jb, rfl⟩ : ∃ jb : Nat, b = (jb : Int) := ⟨b.toNat, by omega⟩
    exact row_8 hL hX hx (fun t _ => by rw [hv]; simp [stepv]) w al cl h1 ar nr cr ac cc aT ct (hp ja (by omega)) (hp jb (by omega))
  · simp [okN, idx] at ho
    obtain ⟨⟨⟨h1', h2'⟩, rfl⟩, rfl⟩ := ho
    obtain ⟨ja, rfl⟩ : ∃ ja : Nat, a = (ja : Int) := ⟨a.toNat, by omega⟩
    exact row_9 hL hX hx (fun t _ => by rw [hv]; simp [stepv]) w al cl h1 ar nr cr ac cc aT ct (hp ja (by omega))
  · simp [okN, idx] at ho
    obtain ⟨⟨⟨⟨h1', h2'⟩, rfl⟩, h3'⟩, h4'⟩ := ho
    obtain ⟨ja, rfl⟩ : ∃ ja : Nat, a = (ja : Int) := ⟨a.toNat, by omega⟩
    obtain ⟨m, rfl⟩ : ∃ m : Nat, n = (m : Int) := ⟨n.toNat, by omega⟩
    exact row_10 hL hX hx (by omega) (fun t _ => by rw [hv]; simp [stepv, wnd]) w al cl h1 ar nr cr ac cc aT ct (hp ja (by omega))
  · simp [okN, idx] at ho
    obtain ⟨⟨⟨⟨h1', h2'⟩, rfl⟩, h3'⟩, h4'⟩ := ho
    obtain ⟨ja, rfl⟩ : ∃ ja : Nat, a = (ja : Int) := ⟨a.toNat, by omega⟩
    obtain ⟨m, rfl⟩ : ∃ m : Nat, n = (m : Int) := ⟨n.toNat, by omega⟩
    exact row_11 hL hX hx (by omega) (fun t _ => by rw [hv]; simp [stepv, wnd]) w al cl h1 ar nr cr ac cc aT ct (hp ja (by omega))
  · simp [okN, idx] at ho
    obtain ⟨⟨⟨h1', h2'⟩, h3', h4'⟩, rfl⟩ := ho
    obtain ⟨ja, rfl⟩ : ∃ ja : Nat, a = (ja : Int) := ⟨a.toNat, by omega⟩
    obtain ⟨jb, rfl⟩ : ∃ jb : Nat, b = (jb : Int) := ⟨b.toNat, by omega⟩
    exact row_12 hL hX hx (fun t _ => by rw [hv]; simp [stepv]) w al cl h1 ar nr cr ac cc aT ct (hp ja (by omega)) (hp jb (by omega))
theorem bflat (l : List Bool) : (bcs l).toList = bE.flat l := by
  unfold bcs Enc.flat
  induction l with
  | nil => rfl
  | cons x r ih =>
    simp only [List.map_cons, List.flatMap_cons] at ih ⊢
    have e : (bE.enc x) = [Value.bool x] := rfl
    rw [e, ← ih]
    rfl
theorem out_row {w : World} {g : Nat} {l : List Bool} (h : OutAt w g l) : BRow w (some ⟨g, 0, none⟩) l.length l := lit_row h (bflat l) rfl
/-- Rows that say what nodes tell. -/
def RsAt (w : World) (R : List Br) (nt : Nat) (V : Nat → Nat → Bool) : Prop := ∀ q x, R[q]? = some x → ∃ g l, x = ⟨some ⟨g, 0, none⟩, nt, nt, l⟩ ∧ l.length = nt ∧ OutAt w g l ∧ ∀ s, s < nt → l.getD s false = V q s
theorem RsAt.after {w w' : World} {R : List Br} {nt : Nat} {V : Nat → Nat → Bool} (h : RsAt w R nt V) (a : After w w') : RsAt w' R nt V := fun q x hx => by
  obtain ⟨g, l, e, hl, ho, hv⟩ := h q x hx
  exact ⟨g, l, e, hl, (a.block g (blk_lt ho) (fun t => t)).trans ho, hv⟩
theorem RsAt.part {w : World} {R : List Br} {nt : Nat} {V : Nat → Nat → Bool} (h : RsAt w R nt V) {a : Option Addr} (hr : GRow brE w a R.length R) {j : Nat} (hj : j < R.length) : Part w a R.length nt j (V j) := by
  obtain ⟨b, off, x, e, hb, hx, h1⟩ := hr.2 j hj
  obtain ⟨g, l, rfl, hl, ho, hv⟩ := h j x hx
  have hc := h1 0 _ rfl
  rw [Nat.add_zero, show brE.k = 1 from rfl, Nat.mul_one] at hc
  have hb2 := out_row ho
  rw [hl] at hb2
  exact ⟨hj, b, off, _, _, l, e, hb, hc, hb2, hv⟩
theorem Try.infoBs : (Try.prog.info? 70).map (fun i => (i.zero, i.size, i.bytes)) = some (some (.slice none 0 0), 1, 24) := by kernel_rfl
/-- A row that is owned lies in no block of bools. -/
theorem own_bools {w : World} {B : Nat} {v : Value} {R : List Br} (h : ORow brE 70 w B v R) {g : Nat} {l : List Bool} (ho : OutAt w g l) : v.ownBlock ≠ some g := by
  intro e
  rcases h.2 with ⟨rfl, _⟩ | ⟨g', cap, cur, rfl, _, hg, _⟩
  · cases e
  · have : g' = g := by simpa [Value.ownBlock] using e
    subst this
    unfold OutAt at ho
    rw [ho] at hg
    simp at hg
set_option maxHeartbeats 1000000 in
theorem rows_any {L : List Nd} {C : List Ch} {X : List Tr} (ok : okAll L (C.length : Int) = true) (hL : L.length ≤ 32) (hX : X.length ≤ 1000) (hR : ∀ x ∈ X, x.n = C.length) (w : World) (al : Option Addr) (cl : Nat) (h1 : NRow w al L.length L) (ac : Option Addr) (cc : Nat) (aT : Option Addr) (ct : Nat) (h2 : CRow w ac C.length C) (h3 : TRow w aT X.length X) :
    Calls Try.prog 41 #[.slice al L.length cl, .slice ac C.length cc, .slice aT X.length ct] w fun e w' => ∃ v, e = .returned v ∧ ∃ R, ORow brE 70 w' w.heap.size v R ∧ R.length = L.length ∧ RsAt w' R X.length (val L C (rdsOf X)) ∧ After w w' := by
  have HH := hideIt (And.intro h1 (And.intro h2 h3))
  have hL' : (L.length : Int) ≤ 32 := by omega
  obtain ⟨nt, hnt⟩ : ∃ nt, X.length = nt := ⟨_, rfl⟩
  have HN := hideIt hnt
  rw [hnt]
  obtain ⟨V, hV⟩ : ∃ V, val L C (rdsOf X) = V := ⟨_, rfl⟩
  have HV := hideIt hV
  rw [hV]
  have HR : Hid (∀ i, i < L.length → ∀ W, After w W → ∀ a n c, (∀ j, j < i → Part W a n nt j (V j)) → Calls Try.prog 55 #[.slice al L.length cl, .int .i64 (i : Int), .slice a n c, .slice ac C.length cc, .slice aT nt ct] W fun e w' => ∃ v, e = .returned v ∧ RowOut W w' v nt (V i) ∧ After W w') := hideIt (fun i hi W hW a n c hp => by
    subst hnt hV
    exact row_any ok hL hX hR hi W al cl (h1.after hW) a n c ac cc aT ct (h2.after hW) (h3.after hW) hp)
  clear h1 h2 h3 hnt hV ok hX hR HH HN HV
  go_enter Try.func41, Try.ntmps41
  go_wp2_with fail
  go_loopw [7, 8] (fun v a wr => ∃ (j : Nat) (R : List Br), j ≤ L.length ∧ a = .int .i64 j ∧ R.length = j ∧ ORow brE 70 wr w.heap.size v R ∧ RsAt wr R nt V ∧ After w wr) (fun _ a _ => L.length - (intOf a).toNat)
  case atStart => exact ⟨0, [], Nat.zero_le _, rfl, rfl, orow_nil brE _ _ _, (fun q x hx => by simp at hx), After.rfl⟩
  case round =>
    rename_i v7
    obtain ⟨j, R, hj, rfl, hlen, hown, hrs, aw⟩ := hrel
    by_cases hjn : j < L.length
    · have i1 : (j : Int) < (L.length : Int) := by omega
      obtain ⟨a, c, rfl, hg, hnil, _⟩ := ORow.row hown
      have HC := hideIt (HR.out j hjn _ aw a R.length c (fun q hq => hrs.part hg (by omega)))
      have HS := hideIt (And.intro hlen (And.intro hown (And.intro hrs aw)))
      clear hown hrs aw hg hnil hlen
      go_wp2_with fail
      refine HC.out.mono ?_
      rintro e w2 ⟨v, rfl, ⟨g, l, rfl, hge, hl, ho, hv⟩, a2⟩
      have a3 : After wr (w2.alloc (.cells #[.slice (some ⟨g, 0, none⟩) nt nt] 70)) := a2.alloc _
      have HO := hideIt (And.intro hl (And.intro (show OutAt (w2.alloc (.cells #[.slice (some ⟨g, 0, none⟩) nt nt] 70)) g l from ((After.rfl.alloc _).block g (blk_lt ho) (fun t => t)).trans ho) (And.intro hv a3)))
      clear hl ho hv a2 a3 hge
      go_wp2_with (at_builtin; refine app_row (E := brE) rfl (.tmp 15) (.tmp 22) 78 70 Try.underlying78 Try.infoBs rfl (by decide) rfl w.heap.size _ R rfl (own_after HS.out.2.1 HO.out.2.2.2) (some ⟨w2.heap.size, 0, none⟩) 1 1 [⟨some ⟨g, 0, none⟩, nt, nt, l⟩] rfl (lit_row (heap_alloc_new w2 _) rfl rfl) (fun h => by cases h) (by have := HS.out.1; unfold maxLen; omega) (by have := HS.out.1; omega) (by have := HS.out.2.2.2.size; have := HO.out.2.2.2.size; omega) ?_; intro v4 w4 hown hb; have HP := hideIt (And.intro hown hb); clear hown hb)
      go_roundw
      case rel =>
        have ow := own_after HS.out.2.1 HO.out.2.2.2
        refine ⟨j + 1, R ++ [⟨some ⟨g, 0, none⟩, nt, nt, l⟩], by omega, by go_num, by simp [HS.out.1], HP.out.1, fun q x hx => ?_, (HS.out.2.2.2.trans HO.out.2.2.2).then HP.out.2 (fun i hi h => by have := (ow.lt i h).1; omega)⟩
        have hlen := HS.out.1
        rcases Nat.lt_or_ge q R.length with h | h
        · rw [List.getElem?_append_left h] at hx
          obtain ⟨g', l', rfl, hl', ho', hv'⟩ := (HS.out.2.2.1.after HO.out.2.2.2) q x hx
          exact ⟨g', l', rfl, hl', (HP.out.2.block g' (blk_lt ho') (own_bools ow ho')).trans ho', hv'⟩
        · rw [List.getElem?_append_right h] at hx
          have hq : q - R.length = 0 := by
            rcases Nat.eq_zero_or_pos (q - R.length) with h' | h'
            · exact h'
            · rw [List.getElem?_eq_none (by simp; omega)] at hx; cases hx
          rw [hq] at hx
          cases hx
          obtain rfl : q = j := by omega
          exact ⟨g, l, rfl, HO.out.1, (HP.out.2.block g (blk_lt HO.out.2.1) (own_bools ow HO.out.2.1)).trans HO.out.2.1, HO.out.2.2.1⟩
      case measure => simp [intOf]; omega
    · have i1 : ¬ (j : Int) < (L.length : Int) := by omega
      have HS := hideIt (And.intro hlen (And.intro hown (And.intro hrs aw)))
      clear hown hrs aw
      go_wp2_with fail
      go_ret
      exact ⟨_, rfl, R, HS.out.2.1, by rw [HS.out.1]; omega, HS.out.2.2.1, HS.out.2.2.2⟩
end Go.Proofs.Ythgmjeljjladhaa
