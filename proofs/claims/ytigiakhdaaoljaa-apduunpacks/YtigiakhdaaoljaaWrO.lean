/-
  Octets that a writer of package mder writes.
-/
import Derived.Test.YtigiakhdaaoljaaWr
namespace Go.Proofs.Ytigiakhdaaoljaa
open Go.RowKit
theorem own_slice {w : World} {B : Nat} {e : TypeId} {sz : Nat} {v : Value} {n : Nat} {xs : List Value} (h : w.ownsRow B e sz v n xs) : ∃ a c, v = .slice a n c := by
  rcases h.2 with ⟨rfl, rfl⟩ | ⟨g, cap, cur, rfl, _⟩
  · exact ⟨_, _, rfl⟩
  · exact ⟨_, _, rfl⟩
set_option maxRecDepth 8000 in
theorem wOctets_any (w : World) (g : Nat) (v : Value) (zs : List Int) (a : Option Addr) (n c : Nat) (bs : List Int) (r : WrAt w g v zs) (rb : Row w a n bs) (ha : a = none → n = 0 ∧ c = 0) (hs : ∀ y, a = some y → 0 < n → ¬ Own g v y.block) (hn : n ≤ 140737488355328) (hl : zs.length + 65541 ≤ 1099511627776) :
    Calls Try.prog 78 #[Ptr g, .slice a n c] w fun e w' => e = .returned (.int .i64 (woErr bs)) ∧ WrTo w w' g v (zs ++ woNew bs) := by
  have HN := hideIt (wIsNone_no r.1)
  have hbl := rb.1
  by_cases hx : bs.length ≤ 65535
  · obtain ⟨e1, e2⟩ := wo_yes hx
    rw [e1, e2, hbl]
    have HP := hideIt (put_any w g 2 v zs n r (by decide) (by omega) (by omega))
    have k1 : (n : Int) ≤ 65535 := by omega
    have k2 : IntKind.u32.wrap (n : Int) = (n : Int) := by rw [IntKind.wrap_u32]; omega
    have HB := hideIt rb
    have HS := hideIt hs
    have HL := hideIt hl
    have HK := hideIt (show n ≤ 65535 by omega)
    obtain ⟨i0, hi, hz0, hz1, hz2⟩ := info_parts Try.info5
    clear r hl e1 e2 hx rb hs hn hbl
    cases a with
    | none =>
      obtain ⟨rfl, rfl⟩ := ha rfl
      clear ha
      go_enter Try.func78, Try.ntmps78
      go_wp2_with (go_at_call 45; refine HN.out.mono ?_; rintro e w' ⟨rfl, rfl⟩)
      refine HP.out.mono ?_
      rintro e w1 ⟨rfl, v1, r1, b1, g1⟩
      obtain ⟨us, hus⟩ : ∃ us, zs ++ bytesOf 2 ((0 : Nat) : Int) = us := ⟨_, rfl⟩
      have HU := hideIt hus
      rw [hus] at r1
      clear hus
      obtain ⟨a1, c1, rfl⟩ := own_slice r1.2.1
      obtain ⟨_, hc0, hc1, hf0, hf1⟩ := two_at r1.1
      have HR1 := hideIt r1
      have HF := hideIt (WrTo.trans b1 g1 (wr_set (ys := []) r1 After.rfl (w2 := w1) ⟨rfl, rfl, rfl, Nat.le_refl _, fun _ _ _ => rfl⟩ (by show w1.ownsRow 0 5 1 _ _ (u8s _ ++ []); rw [List.append_nil]; exact r1.2.1) (Nat.add_zero _).symm Grew.rfl Bs.nil))
      clear r1 b1 g1 HP
      have hb : bs = [] := List.length_eq_zero_iff.1 HB.out.1
      subst hb
      go_wp2_with (at_builtin; refine wpList_append_own_none rfl (.tmp 21) (.tmp 22) 22 rfl 0 5 i0 1 Try.underlying22 hi _ _ _ rfl HR1.out.2.1 rfl ?_)
      go_ret
      exact ⟨rfl, by rw [← List.append_assoc, HU.out]; exact HF.out⟩
    | some y =>
      clear ha
      go_enter Try.func78, Try.ntmps78
      go_wp2_with (go_at_call 45; refine HN.out.mono ?_; rintro e w' ⟨rfl, rfl⟩)
      refine HP.out.mono ?_
      rintro e w1 ⟨rfl, v1, r1, b1, g1⟩
      obtain ⟨hgl, hc0, hc1, hf0, hf1⟩ := two_at r1.1
      have hb1 := HB.out.but2 b1 HS.out
      have ne : v1.ownBlock ≠ some g := r1.2.2.1
      have HR1 := hideIt r1
      have HB1 := hideIt b1
      have HG1 := hideIt g1
      have HD := hideIt hb1
      have HZ := hideIt (show (zs ++ bytesOf 2 (n : Int)).length ≤ zs.length + 2 by rw [List.length_append, bytesOf_length]; omega)
      obtain ⟨us, hus⟩ : ∃ us, zs ++ bytesOf 2 (n : Int) = us := ⟨_, rfl⟩
      have HU := hideIt hus
      rw [hus] at HR1 HZ
      clear hus
      clear r1 b1 g1 hb1
      go_wp2_with (at_builtin; refine wpList_append_own_at _ rfl (.tmp 21) (.tmp 22) 22 rfl 0 5 i0 (.int .u8 0) 1 1 Try.underlying22 hi hz0 hz1 hz2 rfl (by decide) v1 _ _ rfl HR1.out.2.1 y n c (u8s bs) rfl (by rw [u8s_length, HD.out.1, Nat.mul_one]) (row_news HD.out) (u8s_one _) (by have := HZ.out; have := HL.out; have := HK.out; unfold maxLen; omega) (by have := HZ.out; have := HL.out; have := HK.out; omega) (Nat.zero_le _) ?_; intro v2 w2 hown hgrow _ hat; obtain ⟨a2, c2, rfl⟩ := own_slice hown; have x1 := (hgrow.cell_far ⟨g, 1, none⟩ hgl (Ne.symm ne)).trans hc1; have x2 := (hgrow.frozen_far ⟨g, 1, none⟩ hgl (Ne.symm ne)).trans hf1; have HF := hideIt (WrTo.trans HB1.out HG1.out (wr_set HR1.out After.rfl hgrow hown (by rw [HD.out.1]) (hat.imp_right (fun h => ⟨_, h, Nat.le_refl _⟩)) HB.out.2.1)); clear hown hgrow hat)
      go_ret
      exact ⟨rfl, by rw [← List.append_assoc, HU.out]; exact HF.out⟩
  · obtain ⟨e1, e2⟩ := wo_no hx
    rw [e1, e2]
    have HR := hideIt r
    have k1 : (65535 : Int) < n := by omega
    clear r hl e1 e2 hx rb hs ha hbl
    go_enter Try.func78, Try.ntmps78
    go_wp2_with (go_at_call 45; refine HN.out.mono ?_; rintro e w' ⟨rfl, rfl⟩)
    go_ret
    exact ⟨rfl, WrTo.rfl HR.out⟩
end Go.Proofs.Ytigiakhdaaoljaa
