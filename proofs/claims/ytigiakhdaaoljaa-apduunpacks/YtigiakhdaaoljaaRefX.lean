/-
  The document's writer: U32, Octets.
-/
import Derived.Test.YtigiakhdaaoljaaRefW
namespace Go.Proofs.Ytigiakhdaaoljaa
set_option maxRecDepth 8000
open Go.RowKit
theorem four_two (y : Nat) (h : y < 4294967296) : wnNew 2 65535 ((y : Int) / 65536) ++ wnNew 2 65535 ((y : Int) % 65536) = bytesOf 4 (y : Int) := by
  rw [(wn_yes (k := 2) (m := 65535) (x := (y : Int) / 65536) (by omega)).2, (wn_yes (k := 2) (m := 65535) (x := (y : Int) % 65536) (by omega)).2]
  show [(y : Int) / 65536 / 256 % 256, (y : Int) / 65536 / 1 % 256] ++ [(y : Int) % 65536 / 256 % 256, (y : Int) % 65536 / 1 % 256] = [(y : Int) / 16777216 % 256, (y : Int) / 65536 % 256, (y : Int) / 256 % 256, (y : Int) / 1 % 256]
  have e1 : (y : Int) / 65536 / 256 % 256 = (y : Int) / 16777216 % 256 := by omega
  have e2 : (y : Int) / 65536 / 1 % 256 = (y : Int) / 65536 % 256 := by omega
  have e3 : (y : Int) % 65536 / 256 % 256 = (y : Int) / 256 % 256 := by omega
  have e4 : (y : Int) % 65536 / 1 % 256 = (y : Int) / 1 % 256 := by omega
  rw [e1, e2, e3, e4]; rfl
theorem wnNew_len (k m : Nat) (x : Int) : (wnNew k m x).length ≤ k := by
  unfold wnNew; split
  · rw [bytesOf_length]; omega
  · exact Nat.zero_le _
theorem refWU32_any (w : World) (g : Nat) (v : Value) (zs : List Int) (x : Int) (r : RwAt w g v zs) (hl : zs.length + 8 ≤ 1099511627776) (h0 : 0 ≤ x) (h1 : x < 4294967296) :
    Calls Try.prog 54 #[Ptr g, .int .u32 x] w fun e w' => e = .returned (.int .i64 0) ∧ RwTo w w' g v (zs ++ bytesOf 4 x) := by
  obtain ⟨y, rfl⟩ := Int.eq_ofNat_of_zero_le h0
  rw [← four_two y (by omega), ← List.append_assoc]
  have k1 : (y : Int) < 4294967296 := h1
  have HL := hideIt hl
  have HR := hideIt r
  clear r hl h0 h1
  go_enter Try.func54, Try.ntmps54
  go_wp2_with fail
  refine (refWU16_any w g v zs _ HR.out (by have := HL.out; omega)).mono ?_
  rintro e w1 ⟨rfl, v1, r1, b1, g1⟩
  have HX := hideIt (wnNew_len 2 65535 ((y : Int) / 65536))
  obtain ⟨us, hus⟩ : ∃ us, us = zs ++ wnNew 2 65535 ((y : Int) / 65536) := ⟨_, rfl⟩
  have HU := hideIt hus
  rw [← hus] at r1
  have HR1 := hideIt r1
  have HB1 := hideIt b1
  have HG1 := hideIt g1
  clear r1 b1 g1 hus
  go_wp2_with fail
  refine (refWU16_any w1 g v1 us _ HR1.out (by have h1 := HL.out; have h2 := HX.out; have h3 := congrArg List.length HU.out; rw [List.length_append] at h3; omega)).mono ?_
  rintro e w2 ⟨rfl, h2⟩
  have HF := hideIt (RwTo.trans HB1.out HG1.out h2)
  clear h2
  go_wp2
  go_ret
  exact ⟨rfl, by rw [← HU.out]; exact HF.out⟩
theorem refWOctets_any (w : World) (g : Nat) (v : Value) (zs : List Int) (a : Option Addr) (n c : Nat) (bs : List Int) (r : RwAt w g v zs) (rb : Row w a n bs) (ha : a = none → n = 0 ∧ c = 0) (hs : ∀ y, a = some y → 0 < n → ¬ Own g v y.block) (hn : n ≤ 140737488355328) (hl : zs.length + 65541 ≤ 1099511627776) :
    Calls Try.prog 51 #[Ptr g, .slice a n c] w fun e w' => e = .returned (.int .i64 (woErr bs)) ∧ RwTo w w' g v (zs ++ woNew bs) := by
  have hbl := rb.1
  by_cases hx : bs.length ≤ 65535
  · obtain ⟨e1, e2⟩ := wo_yes hx
    rw [e1, e2, hbl]
    have hp := refWU16_any w g v zs n r (by omega)
    have hw := (wn_yes (k := 2) (m := 65535) (x := (n : Int)) (by omega)).2
    rw [hw] at hp
    have HP := hideIt hp
    have k1 : (n : Int) ≤ 65535 := by omega
    have HB := hideIt rb
    have HS := hideIt hs
    have HL := hideIt hl
    have HK := hideIt (show n ≤ 65535 by omega)
    obtain ⟨i0, hi, hz0, hz1, hz2⟩ := info_parts Try.info5
    clear r hl e1 e2 hx rb hs hn hbl hp hw
    cases a with
    | none =>
      obtain ⟨rfl, rfl⟩ := ha rfl
      clear ha
      go_enter Try.func51, Try.ntmps51
      go_wp2_with fail
      refine HP.out.mono ?_
      rintro e w1 ⟨rfl, v1, r1, b1, g1⟩
      obtain ⟨us, hus⟩ : ∃ us, zs ++ bytesOf 2 ((0 : Nat) : Int) = us := ⟨_, rfl⟩
      have HU := hideIt hus
      rw [hus] at r1
      clear hus
      obtain ⟨a1, c1, rfl⟩ := own_slice r1.2.1
      obtain ⟨_, hc0, hf0⟩ := one_at r1.1
      have HR1 := hideIt r1
      have HF := hideIt (RwTo.trans b1 g1 (rw_set (ys := []) r1 After.rfl (w2 := w1) ⟨rfl, rfl, rfl, Nat.le_refl _, fun _ _ _ => rfl⟩ (by show w1.ownsRow 0 5 1 _ _ (u8s _ ++ []); rw [List.append_nil]; exact r1.2.1) (Nat.add_zero _).symm Grew.rfl Bs.nil))
      clear r1 b1 g1 HP
      have hb : bs = [] := List.length_eq_zero_iff.1 HB.out.1
      subst hb
      go_wp2_with (at_builtin; refine wpList_append_own_none rfl (.tmp 16) (.tmp 17) 22 rfl 0 5 i0 1 Try.underlying22 hi _ _ _ rfl HR1.out.2.1 rfl ?_)
      go_ret
      exact ⟨rfl, by rw [← List.append_assoc, HU.out]; exact HF.out⟩
    | some y =>
      clear ha
      go_enter Try.func51, Try.ntmps51
      go_wp2_with fail
      refine HP.out.mono ?_
      rintro e w1 ⟨rfl, v1, r1, b1, g1⟩
      obtain ⟨hgl, hc0, hf0⟩ := one_at r1.1
      have hb1 := HB.out.but2 b1 HS.out
      have ne : v1.ownBlock ≠ some g := r1.2.2.1
      have HR1 := hideIt r1
      have HB1 := hideIt b1
      have HG1 := hideIt g1
      have HD := hideIt hb1
      have HZ := hideIt (show (zs ++ bytesOf 2 (n : Int)).length ≤ zs.length + 2 by rw [List.length_append, bytesOf_length]; omega)
      obtain ⟨us, hus⟩ : ∃ us, zs ++ bytesOf 2 (n : Int) = us := ⟨_, rfl⟩
      have HU := hideIt hus
      rw [hus] at HR1 HZ
      clear hus
      clear r1 b1 g1 hb1
      go_wp2_with (at_builtin; refine wpList_append_own_at _ rfl (.tmp 16) (.tmp 17) 22 rfl 0 5 i0 (.int .u8 0) 1 1 Try.underlying22 hi hz0 hz1 hz2 rfl (by decide) v1 _ _ rfl HR1.out.2.1 y n c (u8s bs) rfl (by rw [u8s_length, HD.out.1, Nat.mul_one]) (row_news HD.out) (u8s_one _) (by have := HZ.out; have := HL.out; have := HK.out; unfold maxLen; omega) (by have := HZ.out; have := HL.out; have := HK.out; omega) (Nat.zero_le _) ?_; intro v2 w2 hown hgrow _ hat; obtain ⟨a2, c2, rfl⟩ := own_slice hown; have x1 := (hgrow.cell_far ⟨g, 0, none⟩ hgl (Ne.symm ne)).trans hc0; have x2 := (hgrow.frozen_far ⟨g, 0, none⟩ hgl (Ne.symm ne)).trans hf0; have HF := hideIt (RwTo.trans HB1.out HG1.out (rw_set HR1.out After.rfl hgrow hown (by rw [HD.out.1]) (hat.imp_right (fun h => ⟨_, h, Nat.le_refl _⟩)) HB.out.2.1)); clear hown hgrow hat)
      go_ret
      exact ⟨rfl, by rw [← List.append_assoc, HU.out]; exact HF.out⟩
  · obtain ⟨e1, e2⟩ := wo_no hx
    rw [e1, e2]
    have HR := hideIt r
    have k1 : (65535 : Int) < n := by omega
    clear r hl e1 e2 hx rb hs ha hbl
    go_enter Try.func51, Try.ntmps51
    go_wp2
    go_ret
    exact ⟨rfl, RwTo.rfl HR.out⟩
end Go.Proofs.Ytigiakhdaaoljaa
