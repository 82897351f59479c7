/-
  Laid together: RefW, RefX, Help, Halt, Pass.
-/
import Derived.Test.YthcfdoafncbliaaGreatB02
import Derived.Test.YthcfdoafncbliaaGreatB01
import Derived.Recover
/-
  The document's writer: Write, U8, U16, U32, Octets.
-/
namespace Go.Proofs.YthcfdoafncbliaaGreat
set_option maxRecDepth 8000
open Go.RowKit
/-- At block g there is the document's writer, it has written zs, which lie where v leads. -/
def RwAt (w : World) (g : Nat) (v : Value) (zs : List Int) : Prop :=
  w.heap[g]? = some (.cells #[v] 109 (0, 0)) ∧ w.ownsRow 0 5 1 v zs.length (u8s zs) ∧ v.ownBlock ≠ some g ∧ Bs zs
theorem RwAt.but {S : Nat → Prop} {w w' : World} {g : Nat} {v : Value} {zs : List Int} (r : RwAt w g v zs) (b : But S w w') (hg : ¬ S g) (hh : ∀ k, v.ownBlock = some k → ¬ S k) : RwAt w' g v zs :=
  ⟨(b.block g (one_at r.1).1 hg).trans r.1, own_but r.2.1 b hh, r.2.2⟩
theorem RwAt.after {w w' : World} {g : Nat} {v : Value} {zs : List Int} (r : RwAt w g v zs) (b : After w w') : RwAt w' g v zs := r.but b (fun t => t) (fun _ _ t => t)
/-- It went on. -/
def RwTo (w w' : World) (g : Nat) (v : Value) (zs : List Int) : Prop := ∃ v', RwAt w' g v' zs ∧ But (Own g v) w w' ∧ Grew w v v'
theorem RwTo.trans {w w1 w2 : World} {g : Nat} {v v1 : Value} {zs : List Int} (b : But (Own g v) w w1) (hg : Grew w v v1) (h : RwTo w1 w2 g v1 zs) : RwTo w w2 g v zs := by
  obtain ⟨v2, r, b2, g2⟩ := h
  exact ⟨v2, r, b.then b2 (Own.back hg), hg.trans g2 b.size⟩
theorem RwTo.rfl {w : World} {g : Nat} {v : Value} {zs : List Int} (r : RwAt w g v zs) : RwTo w w g v (zs ++ []) := by
  rw [List.append_nil]; exact ⟨v, r, But.rfl, Grew.rfl⟩
theorem rw_set {w W w2 : World} {g n : Nat} {v v' : Value} {zs ys : List Int} (r : RwAt W g v zs) (hb : After W w) (hgrow : w.grownBy w2 v.ownBlock) (ho : w2.ownsRow 0 5 1 v' n (u8s zs ++ u8s ys)) (hn : n = zs.length + ys.length) (hat : Grew W v v') (hy : Bs ys) :
    RwTo W (w2.setCell ⟨g, 0, none⟩ v') g v (zs ++ ys) := by
  obtain ⟨r1, r2, r3, r4⟩ := r
  have hgl := (one_at r1).1
  have e : v'.ownBlock ≠ some g := fun e => by
    rcases hat with h | ⟨k, h, hk⟩
    · exact r3 (by rw [← h, e])
    · rw [h] at e; cases e; omega
  have b1 : But (Own g v) W w2 := But.grown hb.but hgrow (fun k hk _ => .inr hk)
  have hg2 : w2.heap[g]? = some (.cells #[v] 109 (0, 0)) := by
    rw [hgrow.block g (Nat.lt_of_lt_of_le hgl hb.size) (fun e => r3 e.symm), hb.block g hgl (fun t => t)]; exact r1
  have b2 : But (Own g v) w2 (w2.setCell ⟨g, 0, none⟩ v') := (But.own1 w2 g 0 _).mono (fun i _ t => .inl t)
  refine ⟨v', ⟨one_set hg2 _, ?_, e, r4.append hy⟩, b1.trans b2, hat⟩
  rw [u8s_append] at ho
  rw [List.length_append, ← hn]
  exact own_but ho (But.own1 w2 g 0 _) (fun k hk t => by
    have h2 : k = g := t
    exact e (by rw [hk, h2]))
theorem refWrite_any (w : World) : Calls Tryz.prog 72 #[] w fun e w' => e = .returned (Ptr w.heap.size) ∧ RwAt w' w.heap.size (.slice none 0 0) [] ∧ After w w' := by
  go_enter Tryz.func72, Tryz.ntmps72
  go_wp2
  go_ret
  exact ⟨rfl, ⟨heap_alloc_new w _, World.ownsRow_nil _ _ _ _, (fun h => by cases h), Bs.nil⟩, After.rfl.alloc _⟩
/-- What is read behind a new block. -/
theorem one_alloc {w : World} {g : Nat} {v : Value} {T : TypeId} (h : w.heap[g]? = some (.cells #[v] T (0, 0))) (o : Obj) : (w.alloc o).cell? ⟨g, 0, none⟩ = some v ∧ (w.alloc o).frozen? ⟨g, 0, none⟩ = false := by
  have h2 : (w.alloc o).heap[g]? = some (.cells #[v] T (0, 0)) := by rw [Below.heap_alloc _ _ _ (one_at h).1]; exact h
  exact (one_at h2).2
theorem refWU8_any (w : World) (g : Nat) (v : Value) (zs : List Int) (x : Int) (r : RwAt w g v zs) (hl : zs.length + 4 ≤ 1099511627776) :
    Calls Tryz.prog 75 #[Ptr g, .int .i64 x] w fun e w' => e = .returned (.int .i64 (wnErr 255 x)) ∧ RwTo w w' g v (zs ++ wnNew 1 255 x) := by
  by_cases hx : 0 ≤ x ∧ x ≤ (255 : Nat)
  · obtain ⟨e1, e2⟩ := wn_yes (k := 1) hx
    rw [e1, e2]
    obtain ⟨y, rfl⟩ := Int.eq_ofNat_of_zero_le hx.1
    have k1 : (y : Int) ≤ 255 := hx.2
    have k2 : IntKind.u8.wrap (y : Int) = (y : Int) := by rw [IntKind.wrap_u8]; omega
    have HE := hideIt (show bytesOf 1 (y : Int) = [(y : Int)] by show [(y : Int) / 1 % 256] = _; rw [Int.ediv_one, Int.emod_eq_of_lt (by omega) (by omega)])
    obtain ⟨hgl, hc0, hf0⟩ := one_at r.1
    have ne : v.ownBlock ≠ some g := r.2.2.1
    obtain ⟨i0, hi, hz0, hz1, hz2⟩ := info_parts Tryz.info5
    have HR := hideIt r
    have HA := hideIt (one_alloc r.1)
    have HL := hideIt hl
    clear r hl e1 e2 hx
    go_enter Tryz.func75, Tryz.ntmps75
    go_wp2_with (at_builtin; refine wpList_append_own_at _ rfl (.tmp 15) (.tmp 18) 27 rfl 0 5 i0 (.int .u8 0) 1 1 Tryz.underlying27 hi hz0 hz1 hz2 rfl (by decide) v _ _ rfl (HR.out.2.1.alloc _) ⟨w.heap.size, 0, none⟩ 1 1 (u8s [(y : Int)]) rfl rfl (World.news_of_block (cs := #[.int .u8 (y : Int)]) (t := 5) (fr := (0, 0)) (heap_alloc_new w _)) (u8s_one _) (by have := HL.out; unfold maxLen; omega) (by have := HL.out; omega) (Nat.zero_le _) ?_; intro v2 w2 hown hgrow _ hat; obtain ⟨a2, c2, rfl⟩ := own_slice hown; have x1 := (hgrow.cell_far ⟨g, 0, none⟩ (by simp; omega) (Ne.symm ne)).trans (HA.out _).1; have x2 := (hgrow.frozen_far ⟨g, 0, none⟩ (by simp; omega) (Ne.symm ne)).trans (HA.out _).2; have HF := hideIt (rw_set (ys := [(y : Int)]) HR.out (After.rfl.alloc _) hgrow hown rfl (hat.imp_right (fun h => ⟨_, h, by simp⟩)) (by intro z hz; rw [List.mem_singleton.1 hz]; omega)); clear hown hgrow hat)
    go_ret
    exact ⟨rfl, by rw [HE.out]; exact HF.out⟩
  · obtain ⟨e1, e2⟩ := wn_no (k := 1) hx
    rw [e1, e2]
    have HR := hideIt r
    have hx2 : x < 0 ∨ 255 < x := by omega
    clear r hl e1 e2 hx
    rcases hx2 with hx | hx
    all_goals
      go_enter Tryz.func75, Tryz.ntmps75
      go_wp2
      go_ret
      exact ⟨rfl, RwTo.rfl HR.out⟩
theorem refWU16_any (w : World) (g : Nat) (v : Value) (zs : List Int) (x : Int) (r : RwAt w g v zs) (hl : zs.length + 4 ≤ 1099511627776) :
    Calls Tryz.prog 73 #[Ptr g, .int .i64 x] w fun e w' => e = .returned (.int .i64 (wnErr 65535 x)) ∧ RwTo w w' g v (zs ++ wnNew 2 65535 x) := by
  by_cases hx : 0 ≤ x ∧ x ≤ (65535 : Nat)
  · obtain ⟨e1, e2⟩ := wn_yes (k := 2) hx
    rw [e1, e2]
    obtain ⟨y, rfl⟩ := Int.eq_ofNat_of_zero_le hx.1
    have k1 : (y : Int) ≤ 65535 := hx.2
    have k2 : IntKind.u8.wrap ((y : Int) / 256) = (y : Int) / 256 := by rw [IntKind.wrap_u8]; omega
    have k3 : IntKind.u8.wrap ((y : Int) % 256) = (y : Int) % 256 := by rw [IntKind.wrap_u8]; omega
    have HE := hideIt (show bytesOf 2 (y : Int) = [(y : Int) / 256, (y : Int) % 256] by show [(y : Int) / 256 % 256, (y : Int) / 1 % 256] = _; rw [Int.ediv_one, Int.emod_eq_of_lt (a := (y : Int) / 256) (by omega) (by omega)])
    obtain ⟨hgl, hc0, hf0⟩ := one_at r.1
    have ne : v.ownBlock ≠ some g := r.2.2.1
    obtain ⟨i0, hi, hz0, hz1, hz2⟩ := info_parts Tryz.info5
    have HR := hideIt r
    have HA := hideIt (one_alloc r.1)
    have HL := hideIt hl
    clear r hl e1 e2 hx
    go_enter Tryz.func73, Tryz.ntmps73
    go_wp2_with (at_builtin; refine wpList_append_own_at _ rfl (.tmp 15) (.tmp 22) 27 rfl 0 5 i0 (.int .u8 0) 1 1 Tryz.underlying27 hi hz0 hz1 hz2 rfl (by decide) v _ _ rfl (HR.out.2.1.alloc _) ⟨w.heap.size, 0, none⟩ 2 2 (u8s [(y : Int) / 256, (y : Int) % 256]) rfl rfl (World.news_of_block (cs := #[.int .u8 ((y : Int) / 256), .int .u8 ((y : Int) % 256)]) (t := 5) (fr := (0, 0)) (heap_alloc_new w _)) (u8s_one _) (by have := HL.out; unfold maxLen; omega) (by have := HL.out; omega) (Nat.zero_le _) ?_; intro v2 w2 hown hgrow _ hat; obtain ⟨a2, c2, rfl⟩ := own_slice hown; have x1 := (hgrow.cell_far ⟨g, 0, none⟩ (by simp; omega) (Ne.symm ne)).trans (HA.out _).1; have x2 := (hgrow.frozen_far ⟨g, 0, none⟩ (by simp; omega) (Ne.symm ne)).trans (HA.out _).2; have HF := hideIt (rw_set (ys := [(y : Int) / 256, (y : Int) % 256]) HR.out (After.rfl.alloc _) hgrow hown rfl (hat.imp_right (fun h => ⟨_, h, by simp⟩)) (by intro z hz; simp only [List.mem_cons, List.not_mem_nil, or_false] at hz; omega)); clear hown hgrow hat)
    go_ret
    exact ⟨rfl, by rw [HE.out]; exact HF.out⟩
  · obtain ⟨e1, e2⟩ := wn_no (k := 2) hx
    rw [e1, e2]
    have HR := hideIt r
    have hx2 : x < 0 ∨ 65535 < x := by omega
    clear r hl e1 e2 hx
    rcases hx2 with hx | hx
    all_goals
      go_enter Tryz.func73, Tryz.ntmps73
      go_wp2
      go_ret
      exact ⟨rfl, RwTo.rfl HR.out⟩
end Go.Proofs.YthcfdoafncbliaaGreat
/-
  The document's writer: U32, Octets.
-/
namespace Go.Proofs.YthcfdoafncbliaaGreat
set_option maxRecDepth 8000
open Go.RowKit
theorem four_two (y : Nat) (h : y < 4294967296) : wnNew 2 65535 ((y : Int) / 65536) ++ wnNew 2 65535 ((y : Int) % 65536) = bytesOf 4 (y : Int) := by
  rw [(wn_yes (k := 2) (m := 65535) (x := (y : Int) / 65536) (by omega)).2, (wn_yes (k := 2) (m := 65535) (x := (y : Int) % 65536) (by omega)).2]
  show [(y : Int) / 65536 / 256 % 256, (y : Int) / 65536 / 1 % 256] ++ [(y : Int) % 65536 / 256 % 256, (y : Int) % 65536 / 1 % 256] = [(y : Int) / 16777216 % 256, (y : Int) / 65536 % 256, (y : Int) / 256 % 256, (y : Int) / 1 % 256]
  have e1 : (y : Int) / 65536 / 256 % 256 = (y : Int) / 16777216 % 256 := by omega
  have e2 : (y : Int) / 65536 / 1 % 256 = (y : Int) / 65536 % 256 := by omega
  have e3 : (y : Int) % 65536 / 256 % 256 = (y : Int) / 256 % 256 := by omega
  have e4 : (y : Int) % 65536 / 1 % 256 = (y : Int) / 1 % 256 := by omega
  rw [e1, e2, e3, e4]; rfl
theorem wnNew_len (k m : Nat) (x : Int) : (wnNew k m x).length ≤ k := by
  unfold wnNew; split
  · rw [bytesOf_length]; omega
  · exact Nat.zero_le _
theorem refWU32_any (w : World) (g : Nat) (v : Value) (zs : List Int) (x : Int) (r : RwAt w g v zs) (hl : zs.length + 8 ≤ 1099511627776) (h0 : 0 ≤ x) (h1 : x < 4294967296) :
    Calls Tryz.prog 77 #[Ptr g, .int .u32 x] w fun e w' => e = .returned (.int .i64 0) ∧ RwTo w w' g v (zs ++ bytesOf 4 x) := by
  obtain ⟨y, rfl⟩ := Int.eq_ofNat_of_zero_le h0
  rw [← four_two y (by omega), ← List.append_assoc]
  have k1 : (y : Int) < 4294967296 := h1
  have HL := hideIt hl
  have HR := hideIt r
  clear r hl h0 h1
  go_enter Tryz.func77, Tryz.ntmps77
  go_wp2_with fail
  refine (refWU16_any w g v zs _ HR.out (by have := HL.out; omega)).mono ?_
  rintro e w1 ⟨rfl, v1, r1, b1, g1⟩
  have HX := hideIt (wnNew_len 2 65535 ((y : Int) / 65536))
  obtain ⟨us, hus⟩ : ∃ us, us = zs ++ wnNew 2 65535 ((y : Int) / 65536) := ⟨_, rfl⟩
  have HU := hideIt hus
  rw [← hus] at r1
  have HR1 := hideIt r1
  have HB1 := hideIt b1
  have HG1 := hideIt g1
  clear r1 b1 g1 hus
  go_wp2_with fail
  refine (refWU16_any w1 g v1 us _ HR1.out (by have h1 := HL.out; have h2 := HX.out; have h3 := congrArg List.length HU.out; rw [List.length_append] at h3; omega)).mono ?_
  rintro e w2 ⟨rfl, h2⟩
  have HF := hideIt (RwTo.trans HB1.out HG1.out h2)
  clear h2
  go_wp2
  go_ret
  exact ⟨rfl, by rw [← HU.out]; exact HF.out⟩
theorem refWOctets_any (w : World) (g : Nat) (v : Value) (zs : List Int) (a : Option Addr) (n c : Nat) (bs : List Int) (r : RwAt w g v zs) (rb : Row w a n bs) (ha : a = none → n = 0 ∧ c = 0) (hs : ∀ y, a = some y → 0 < n → ¬ Own g v y.block) (hn : n ≤ 140737488355328) (hl : zs.length + 65541 ≤ 1099511627776) :
    Calls Tryz.prog 74 #[Ptr g, .slice a n c] w fun e w' => e = .returned (.int .i64 (woErr bs)) ∧ RwTo w w' g v (zs ++ woNew bs) := by
  have hbl := rb.1
  by_cases hx : bs.length ≤ 65535
  · obtain ⟨e1, e2⟩ := wo_yes hx
    rw [e1, e2, hbl]
    have hp := refWU16_any w g v zs n r (by omega)
    have hw := (wn_yes (k := 2) (m := 65535) (x := (n : Int)) (by omega)).2
    rw [hw] at hp
    have HP := hideIt hp
    have k1 : (n : Int) ≤ 65535 := by omega
    have HB := hideIt rb
    have HS := hideIt hs
    have HL := hideIt hl
    have HK := hideIt (show n ≤ 65535 by omega)
    obtain ⟨i0, hi, hz0, hz1, hz2⟩ := info_parts Tryz.info5
    clear r hl e1 e2 hx rb hs hn hbl hp hw
    cases a with
    | none =>
      obtain ⟨rfl, rfl⟩ := ha rfl
      clear ha
      go_enter Tryz.func74, Tryz.ntmps74
      go_wp2_with fail
      refine HP.out.mono ?_
      rintro e w1 ⟨rfl, v1, r1, b1, g1⟩
      obtain ⟨us, hus⟩ : ∃ us, zs ++ bytesOf 2 ((0 : Nat) : Int) = us := ⟨_, rfl⟩
      have HU := hideIt hus
      rw [hus] at r1
      clear hus
      obtain ⟨a1, c1, rfl⟩ := own_slice r1.2.1
      obtain ⟨_, hc0, hf0⟩ := one_at r1.1
      have HR1 := hideIt r1
      have HF := hideIt (RwTo.trans b1 g1 (rw_set (ys := []) r1 After.rfl (w2 := w1) ⟨rfl, rfl, rfl, Nat.le_refl _, fun _ _ _ => rfl⟩ (by show w1.ownsRow 0 5 1 _ _ (u8s _ ++ []); rw [List.append_nil]; exact r1.2.1) (Nat.add_zero _).symm Grew.rfl Bs.nil))
      clear r1 b1 g1 HP
      have hb : bs = [] := List.length_eq_zero_iff.1 HB.out.1
      subst hb
      go_wp2_with (at_builtin; refine wpList_append_own_none rfl (.tmp 16) (.tmp 17) 27 rfl 0 5 i0 1 Tryz.underlying27 hi _ _ _ rfl HR1.out.2.1 rfl ?_)
      go_ret
      exact ⟨rfl, by rw [← List.append_assoc, HU.out]; exact HF.out⟩
    | some y =>
      clear ha
      go_enter Tryz.func74, Tryz.ntmps74
      go_wp2_with fail
      refine HP.out.mono ?_
      rintro e w1 ⟨rfl, v1, r1, b1, g1⟩
      obtain ⟨hgl, hc0, hf0⟩ := one_at r1.1
      have hb1 := HB.out.but2 b1 HS.out
      have ne : v1.ownBlock ≠ some g := r1.2.2.1
      have HR1 := hideIt r1
      have HB1 := hideIt b1
      have HG1 := hideIt g1
      have HD := hideIt hb1
      have HZ := hideIt (show (zs ++ bytesOf 2 (n : Int)).length ≤ zs.length + 2 by rw [List.length_append, bytesOf_length]; omega)
      obtain ⟨us, hus⟩ : ∃ us, zs ++ bytesOf 2 (n : Int) = us := ⟨_, rfl⟩
      have HU := hideIt hus
      rw [hus] at HR1 HZ
      clear hus
      clear r1 b1 g1 hb1
      go_wp2_with (at_builtin; refine wpList_append_own_at _ rfl (.tmp 16) (.tmp 17) 27 rfl 0 5 i0 (.int .u8 0) 1 1 Tryz.underlying27 hi hz0 hz1 hz2 rfl (by decide) v1 _ _ rfl HR1.out.2.1 y n c (u8s bs) rfl (by rw [u8s_length, HD.out.1, Nat.mul_one]) (row_news HD.out) (u8s_one _) (by have := HZ.out; have := HL.out; have := HK.out; unfold maxLen; omega) (by have := HZ.out; have := HL.out; have := HK.out; omega) (Nat.zero_le _) ?_; intro v2 w2 hown hgrow _ hat; obtain ⟨a2, c2, rfl⟩ := own_slice hown; have x1 := (hgrow.cell_far ⟨g, 0, none⟩ hgl (Ne.symm ne)).trans hc0; have x2 := (hgrow.frozen_far ⟨g, 0, none⟩ hgl (Ne.symm ne)).trans hf0; have HF := hideIt (RwTo.trans HB1.out HG1.out (rw_set HR1.out After.rfl hgrow hown (by rw [HD.out.1]) (hat.imp_right (fun h => ⟨_, h, Nat.le_refl _⟩)) HB.out.2.1)); clear hown hgrow hat)
      go_ret
      exact ⟨rfl, by rw [← List.append_assoc, HU.out]; exact HF.out⟩
  · obtain ⟨e1, e2⟩ := wo_no hx
    rw [e1, e2]
    have HR := hideIt r
    have k1 : (65535 : Int) < n := by omega
    clear r hl e1 e2 hx rb hs ha hbl
    go_enter Tryz.func74, Tryz.ntmps74
    go_wp2
    go_ret
    exact ⟨rfl, RwTo.rfl HR.out⟩
end Go.Proofs.YthcfdoafncbliaaGreat
/-
  The statements' helpers: EqBytes, Bring.
-/
namespace Go.Proofs.YthcfdoafncbliaaGreat
open Go.RowKit
set_option maxRecDepth 100000 in
set_option maxHeartbeats 400000 in
theorem eqBytes_same (a a' : Option Addr) (n c c' : Nat) (zs : List Int) (w : World) (h1 : Row w a n zs) (h2 : Row w a' n zs) (hn : n ≤ 140737488355328) :
    Calls Tryz.prog 31 #[.slice a n c, .slice a' n c'] w fun e w' => e = .returned (.bool true) ∧ After w w' := by
  have H1 := hideIt h1
  have H2 := hideIt h2
  clear h1 h2
  go_enter Tryz.func31, Tryz.ntmps31
  go_wp2
  go_loopw [5] (fun i wr => ∃ k m : Nat, k ≤ n ∧ i = .int .i64 k ∧ wr = w.drewN m) (fun i _ => n - (intOf i).toNat)
  case atStart => exact ⟨0, 0, Nat.zero_le _, rfl, rfl⟩
  case round =>
    obtain ⟨k, m, hk, rfl, rfl⟩ := hrel
    by_cases hlt : k < n
    · obtain ⟨b1, o1, x1, rfl, _, l1, e1, c1⟩ := H1.out.at hlt
      obtain ⟨b2, o2, x2, rfl, _, l2, e2, c2⟩ := H2.out.at hlt
      obtain rfl : x1 = x2 := by omega
      clear l1 e1 l2 e2
      go_wp2
      go_region
      go_wp2
      go_roundw
      case rel => exact ⟨k + 1, m + 1, by omega, by go_num, rfl⟩
      case measure => simp [intOf]; omega
    · go_wp2
      go_ret
      exact ⟨rfl, After.rfl.draws m⟩
end Go.Proofs.YthcfdoafncbliaaGreat
/-
  What is thrown, and what throws it: stop, must.
-/
namespace Go.Proofs.YthcfdoafncbliaaGreat
open Go.RowKit
set_option maxRecDepth 8000
/-- A halt for a reason. -/
def Halt (why : Int) : List PanicEntry := [{ v := .iface 94 (.agg #[.int .i64 why]), recovered := false }]
/-- A coder of two pointers. -/
abbrev Co (p q : Option Addr) : Value := .agg #[.pointer p, .pointer q]
/-- The reason that is told: a message that can't be written is an argument that may not be. -/
def stp (m : Bool) (e : Int) : Int := if m then 2 else e
theorem stop_any (w : World) (p q : Option Addr) (x : Int) :
    Calls Tryz.prog 41 #[Co p q, .int .i64 x] w fun e w' => e = .panicked (Halt (stp q.isSome x)) ∧ After w w' := by
  have HA := hideIt (After.rfl (w := w))
  cases q with
  | none =>
    go_enter Tryz.func41, Tryz.ntmps41
    go_wp2
    exact ⟨rfl, rfl, HA.out.alloc _⟩
  | some y =>
    go_enter Tryz.func41, Tryz.ntmps41
    go_wp2
    exact ⟨rfl, rfl, HA.out.alloc _⟩
theorem must_yes (w : World) (p q : Option Addr) :
    Calls Tryz.prog 60 #[Co p q, .bool true] w fun e w' => e = .returned (.tuple #[]) ∧ After w w' := by
  have HA := hideIt (After.rfl (w := w))
  go_enter Tryz.func60, Tryz.ntmps60
  go_wp2
  go_end0
  exact ⟨rfl, HA.out.alloc _⟩
theorem must_no (w : World) (p q : Option Addr) :
    Calls Tryz.prog 60 #[Co p q, .bool false] w fun e w' => e = .panicked (Halt (stp q.isSome 4)) ∧ After w w' := by
  have HA := hideIt (After.rfl (w := w))
  go_enter Tryz.func60, Tryz.ntmps60
  go_wp2_with (go_at_call 41; refine (stop_any _ p q 4).mono ?_; rintro e w1 ⟨rfl, h1⟩; have H1 := hideIt h1; clear h1)
  exact ⟨rfl, rfl, (HA.out.alloc _).trans H1.out⟩
/-- What a run ends in. -/
def Ends {α : Type} (r : Except Int (α × List Int)) (ok : α → List Int → Prop) (bad : Int → Prop) : Prop :=
  match r with
  | .ok (x, zs) => ok x zs
  | .error c => bad c
theorem Ends.ok {α : Type} {r : Except Int (α × List Int)} {ok : α → List Int → Prop} {bad : Int → Prop} {x : α} {zs : List Int} (h : r = .ok (x, zs)) (k : ok x zs) : Ends r ok bad := by rw [h]; exact k
theorem Ends.bad {α : Type} {r : Except Int (α × List Int)} {ok : α → List Int → Prop} {bad : Int → Prop} {c : Int} (h : r = .error c) (k : bad c) : Ends r ok bad := by rw [h]; exact k
theorem Ends.split {α : Type} {r : Except Int (α × List Int)} {ok : α → List Int → Prop} {bad : Int → Prop} (h : Ends r ok bad) : (∃ c, r = .error c ∧ bad c) ∨ ∃ x zs, r = .ok (x, zs) ∧ ok x zs := by
  rcases r with c | ⟨x, zs⟩
  · exact .inl ⟨c, rfl, h⟩
  · exact .inr ⟨x, zs, rfl, h⟩
/-- One run, then another. -/
def thn {α β : Type} (r : Except Int (α × List Int)) (f : α → List Int → Except Int β) : Except Int β :=
  match r with
  | .ok (x, zs) => f x zs
  | .error c => .error c
theorem thn_ok {α β : Type} {r : Except Int (α × List Int)} {f : α → List Int → Except Int β} {x : α} {zs : List Int} (h : r = .ok (x, zs)) : thn r f = f x zs := by rw [h]; rfl
theorem thn_bad {α β : Type} {r : Except Int (α × List Int)} {f : α → List Int → Except Int β} {c : Int} (h : r = .error c) : thn r f = .error c := by rw [h]; rfl
/-- A number of k bytes, at most M: written (m), or read. -/
def num (m : Bool) (k M : Nat) (v : Int) (zs : List Int) : Except Int (Int × List Int) :=
  if m then (if 0 ≤ v ∧ v ≤ M then .ok (v, zs ++ bytesOf k v) else .error 2) else if k ≤ zs.length then .ok (be (zs.take k), zs.drop k) else .error 3
/-- Octets. -/
def oct (m : Bool) (v : List Int) (zs : List Int) : Except Int (List Int × List Int) :=
  if m then (if v.length ≤ 65535 then .ok (v, zs ++ (bytesOf 2 v.length ++ v)) else .error 2) else if ocIs zs = true then .ok (ocVal zs, ocRest zs) else .error 3
theorem num_w {k M : Nat} {v : Int} {zs : List Int} (h : 0 ≤ v ∧ v ≤ M) : num true k M v zs = .ok (v, zs ++ bytesOf k v) := by unfold num; rw [if_pos rfl, if_pos h]
theorem num_wn {k M : Nat} {v : Int} {zs : List Int} (h : ¬ (0 ≤ v ∧ v ≤ M)) : num true k M v zs = .error 2 := by unfold num; rw [if_pos rfl, if_neg h]
theorem num_r {k M : Nat} {v : Int} {zs : List Int} (h : k ≤ zs.length) : num false k M v zs = .ok (be (zs.take k), zs.drop k) := by unfold num; rw [if_neg (by decide), if_pos h]
theorem num_rn {k M : Nat} {v : Int} {zs : List Int} (h : ¬ k ≤ zs.length) : num false k M v zs = .error 3 := by unfold num; rw [if_neg (by decide), if_neg h]
theorem oct_w {v zs : List Int} (h : v.length ≤ 65535) : oct true v zs = .ok (v, zs ++ (bytesOf 2 v.length ++ v)) := by unfold oct; rw [if_pos rfl, if_pos h]
theorem oct_wn {v zs : List Int} (h : ¬ v.length ≤ 65535) : oct true v zs = .error 2 := by unfold oct; rw [if_pos rfl, if_neg h]
theorem oct_r {v zs : List Int} (h : ocIs zs = true) : oct false v zs = .ok (ocVal zs, ocRest zs) := by unfold oct; rw [if_neg (by decide), if_pos h]
theorem oct_rn {v zs : List Int} (h : ¬ ocIs zs = true) : oct false v zs = .error 3 := by unfold oct; rw [if_neg (by decide), if_neg h]
theorem num_len {m : Bool} {k M : Nat} {v x : Int} {zs ys : List Int} (h : num m k M v zs = .ok (x, ys)) : ys.length ≤ zs.length + k := by
  unfold num at h
  split at h
  · split at h
    · cases h; rw [List.length_append, bytesOf_length]; omega
    · cases h
  · split at h
    · cases h; rw [List.length_drop]; omega
    · cases h
/-- The blocks of a coder. -/
structure Cod (w : World) (p q : Option Addr) (m : Bool) (zs : List Int) (S : Nat → Prop) : Prop where
  is : (m = false ∧ ∃ g h, p = some ⟨g, 0, none⟩ ∧ q = none ∧ RdAt w g h zs ∧ S = Two g h) ∨ (m = true ∧ ∃ g v, p = none ∧ q = some ⟨g, 0, none⟩ ∧ WrAt w g v zs ∧ S = Own g v)
  lt : ∀ k, S k → k < w.heap.size
theorem Cod.mode {w : World} {p q : Option Addr} {m : Bool} {zs : List Int} {S : Nat → Prop} (c : Cod w p q m zs S) : q.isSome = m := by
  rcases c.is with ⟨rfl, g, h, _, rfl, _⟩ | ⟨rfl, g, v, _, rfl, _⟩ <;> rfl
theorem Cod.bs {w : World} {p q : Option Addr} {m : Bool} {zs : List Int} {S : Nat → Prop} (c : Cod w p q m zs S) : Bs zs := by
  rcases c.is with ⟨rfl, g, h, _, _, r, _⟩ | ⟨rfl, g, v, _, _, r, _⟩
  · exact r.bs
  · exact r.2.2.2
theorem Cod.but {w w' : World} {p q : Option Addr} {m : Bool} {zs : List Int} {S T : Nat → Prop} (c : Cod w p q m zs S) (b : But T w w') (hn : ∀ k, S k → ¬ T k) : Cod w' p q m zs S := by
  refine ⟨?_, fun k hk => Nat.lt_of_lt_of_le (c.lt k hk) b.size⟩
  rcases c.is with ⟨hm, g, h, hp, hq, r, hS⟩ | ⟨hm, g, v, hp, hq, r, hS⟩
  · exact .inl ⟨hm, g, h, hp, hq, r.but b (hn g (by rw [hS]; exact .inl rfl)) (hn h (by rw [hS]; exact .inr rfl)), hS⟩
  · exact .inr ⟨hm, g, v, hp, hq, r.but b (hn g (by rw [hS]; exact .inl rfl)) (fun k hk => hn k (by rw [hS]; exact .inr hk)), hS⟩
theorem Cod.after {w w' : World} {p q : Option Addr} {m : Bool} {zs : List Int} {S : Nat → Prop} (c : Cod w p q m zs S) (b : After w w') : Cod w' p q m zs S := c.but b (fun _ _ t => t)
/-- A coder has gone on. -/
structure Stp (S : Nat → Prop) (w : World) (S' : Nat → Prop) (w' : World) : Prop where
  but : But S w w'
  new : ∀ k, S' k → S k ∨ w.heap.size ≤ k
theorem Stp.rfl {S : Nat → Prop} {w : World} : Stp S w S w := ⟨But.rfl, fun _ h => .inl h⟩
theorem Stp.trans {S S1 S2 : Nat → Prop} {w w1 w2 : World} (a : Stp S w S1 w1) (b : Stp S1 w1 S2 w2) : Stp S w S2 w2 :=
  ⟨a.but.then b.but (fun i hi h => (a.new i h).elim id (fun h' => absurd h' (by omega))), fun k hk => (b.new k hk).elim (a.new k) (fun h => .inr (Nat.le_trans a.but.size h))⟩
theorem Stp.after {S S1 : Nat → Prop} {w w1 w2 : World} (a : Stp S w S1 w1) (b : After w1 w2) : Stp S w S1 w2 := ⟨a.but.trans b.but, a.new⟩
theorem Stp.behind {S S2 : Nat → Prop} {w w1 w2 : World} (a : After w w1) (b : Stp S w1 S2 w2) : Stp S w S2 w2 :=
  ⟨a.but.trans b.but, fun k hk => (b.new k hk).imp_right (fun h => Nat.le_trans a.size h)⟩
theorem Stp.ends {S S1 : Nat → Prop} {w w1 w2 : World} (a : Stp S w S1 w1) (b : But S1 w1 w2) : But S w w2 :=
  a.but.then b (fun i hi h => (a.new i h).elim id (fun h' => absurd h' (by omega)))
end Go.Proofs.YthcfdoafncbliaaGreat
/-
  Numbers and octets, by a coder: u8, u16, u32, octets.
-/
namespace Go.Proofs.YthcfdoafncbliaaGreat
open Go.RowKit
set_option maxRecDepth 8000
theorem wr_step {w W : World} {g : Nat} {v : Value} {zs : List Int} (h : WrTo w W g v zs) : ∃ S', Cod W none (some ⟨g, 0, none⟩) true zs S' ∧ Stp (Own g v) w S' W := by
  obtain ⟨v', r, b, gr⟩ := h
  refine ⟨Own g v', ⟨.inr ⟨rfl, g, v', rfl, rfl, r, rfl⟩, fun k hk => ?_⟩, b, fun k hk => ?_⟩
  · rcases hk with rfl | hk
    · exact (two_at r.1).1
    · exact (r.2.1.lt k hk).2
  · rcases hk with rfl | hk
    · exact .inl (.inl rfl)
    · rcases gr with e | ⟨j, e, hj⟩
      · exact .inl (.inr (by rw [← e]; exact hk))
      · rw [e] at hk; cases hk; exact .inr hj
theorem rd_step {w W : World} {g h : Nat} {zs : List Int} (r : RdAt W g h zs) (b : But (One g) w W) : ∃ S', Cod W (some ⟨g, 0, none⟩) none false zs S' ∧ Stp (Two g h) w S' W := by
  refine ⟨Two g h, ⟨.inl ⟨rfl, g, h, rfl, rfl, r, rfl⟩, fun k hk => ?_⟩, b.mono (fun i _ hi => .inl hi), fun k hk => .inl hk⟩
  have hg := r.lt
  rcases hk with rfl | rfl
  · exact hg
  · obtain ⟨a, n, c, _, _, _, _, h5⟩ := r
    rcases h5 with ⟨_, _, _, rfl⟩ | ⟨off, _, _, hl⟩
    · exact hg
    · exact hl
theorem WrTo.behind {w w1 w2 : World} {g : Nat} {v : Value} {zs : List Int} (a : After w w1) (h : WrTo w1 w2 g v zs) : WrTo w w2 g v zs := by
  obtain ⟨v', r, b, gr⟩ := h
  exact ⟨v', r, a.but.trans b, gr.imp_right (fun ⟨k, e, hk⟩ => ⟨k, e, Nat.le_trans a.size hk⟩)⟩
/-- What was boxed second is still there. -/
theorem boxed {S : Nat → Prop} {w W : World} {o : Obj} {x y : Value} {T : TypeId} (hv : ∀ k, S k → k < w.heap.size) (b : But S ((w.alloc o).alloc (.cells #[x, y] T)) W) : W.cell? ⟨w.heap.size + 1, 0, none⟩ = some x ∧ W.cell? ⟨w.heap.size + 1, 1, none⟩ = some y := by
  have h := (b.block (w.heap.size + 1) (by simp) (fun h => absurd (hv _ h) (by omega))).trans (show _ = some (.cells #[x, y] T (0, 0)) by have := two_new (w.alloc o) T x y; rw [World.size_alloc] at this; exact this)
  exact ⟨(two_at h).2.1, (two_at h).2.2.1⟩
/-- What was boxed first is still there. -/
theorem boxed1 {S : Nat → Prop} {w W : World} {x y : Value} {T : TypeId} (hv : ∀ k, S k → k < w.heap.size) (b : But S (w.alloc (.cells #[x, y] T)) W) : W.cell? ⟨w.heap.size, 0, none⟩ = some x ∧ W.cell? ⟨w.heap.size, 1, none⟩ = some y := by
  have h := (b.block w.heap.size (by simp) (fun h => absurd (hv _ h) (by omega))).trans (two_new w T x y)
  exact ⟨(two_at h).2.1, (two_at h).2.2.1⟩
theorem u8_w (w : World) (g : Nat) (v : Value) (zs : List Int) (x : Int) (r : WrAt w g v zs) (hl : zs.length ≤ 1000000000) :
    Calls Tryz.prog 106 #[Co none (some ⟨g, 0, none⟩), .int .i64 x] w fun e w' => Ends (num true 1 255 x zs) (fun y ys => e = .returned (.int .i64 y) ∧ WrTo w w' g v ys) (fun c => e = .panicked (Halt c) ∧ But (Own g v) w w') := by
  have hA : After w ((w.alloc (.cells #[.pointer none, .pointer (some ⟨g, 0, none⟩)] 79)).alloc (.cells #[.pointer none, .pointer (some ⟨g, 0, none⟩)] 79)) := (After.rfl.alloc _).alloc _
  have HP := hideIt (wU8_any _ g v zs x (r.after hA) (by omega))
  have hg := (two_at r.1).1
  have hv : ∀ k, Own g v k → k < w.heap.size := fun k hk => hk.elim (fun e => by rw [e]; exact hg) (fun e => (r.2.1.lt k e).2)
  have HV := hideIt hv
  have HA := hideIt hA
  by_cases hx : 0 ≤ x ∧ x ≤ (255 : Nat)
  · obtain ⟨e1, e2⟩ := wn_yes (k := 1) hx
    rw [e1, e2] at HP
    have E0 := hideIt (num_w (k := 1) (zs := zs) hx)
    clear r hl hA hg hv e1 e2 hx
    go_enter Tryz.func106, Tryz.ntmps106
    go_wp2_with (first | (go_at_call 89; go_in) | (go_at_call 111; refine HP.out.mono ?_; rintro e w1 ⟨rfl, h1⟩; have H1 := hideIt h1; clear h1))
    go_ret
    exact Ends.ok E0.out ⟨rfl, WrTo.behind HA.out H1.out⟩
  · obtain ⟨e1, e2⟩ := wn_no (k := 1) hx
    rw [e1, e2] at HP
    have E0 := hideIt (num_wn (k := 1) (zs := zs) hx)
    clear r hl hA hg hv e1 e2 hx
    go_enter Tryz.func106, Tryz.ntmps106
    go_wp2_with (first | (go_at_call 89; go_in) | (go_at_call 111; refine HP.out.mono ?_; rintro e w1 ⟨rfl, h1⟩; obtain ⟨v1, _, b1, _⟩ := h1; have hc := boxed HV.out b1; have H1 := hideIt b1; clear b1) | (go_at_call 41; refine (stop_any _ _ _ _).mono ?_; rintro e w2 ⟨rfl, h2⟩; have H2 := hideIt h2; clear h2))
    exact ⟨rfl, And.intro rfl (Ends.bad E0.out ⟨rfl, (HA.out.but.trans H1.out).trans H2.out.but⟩)⟩
theorem u16_w (w : World) (g : Nat) (v : Value) (zs : List Int) (x : Int) (r : WrAt w g v zs) (hl : zs.length ≤ 1000000000) :
    Calls Tryz.prog 81 #[Co none (some ⟨g, 0, none⟩), .int .i64 x] w fun e w' => Ends (num true 2 65535 x zs) (fun y ys => e = .returned (.int .i64 y) ∧ WrTo w w' g v ys) (fun c => e = .panicked (Halt c) ∧ But (Own g v) w w') := by
  have hA : After w ((w.alloc (.cells #[.pointer none, .pointer (some ⟨g, 0, none⟩)] 79)).alloc (.cells #[.pointer none, .pointer (some ⟨g, 0, none⟩)] 79)) := (After.rfl.alloc _).alloc _
  have HP := hideIt (wU16_any _ g v zs x (r.after hA) (by omega))
  have hg := (two_at r.1).1
  have hv : ∀ k, Own g v k → k < w.heap.size := fun k hk => hk.elim (fun e => by rw [e]; exact hg) (fun e => (r.2.1.lt k e).2)
  have HV := hideIt hv
  have HA := hideIt hA
  by_cases hx : 0 ≤ x ∧ x ≤ (65535 : Nat)
  · obtain ⟨e1, e2⟩ := wn_yes (k := 2) hx
    rw [e1, e2] at HP
    have E0 := hideIt (num_w (k := 2) (zs := zs) hx)
    clear r hl hA hg hv e1 e2 hx
    go_enter Tryz.func81, Tryz.ntmps81
    go_wp2_with (first | (go_at_call 89; go_in) | (go_at_call 91; refine HP.out.mono ?_; rintro e w1 ⟨rfl, h1⟩; have H1 := hideIt h1; clear h1))
    go_ret
    exact Ends.ok E0.out ⟨rfl, WrTo.behind HA.out H1.out⟩
  · obtain ⟨e1, e2⟩ := wn_no (k := 2) hx
    rw [e1, e2] at HP
    have E0 := hideIt (num_wn (k := 2) (zs := zs) hx)
    clear r hl hA hg hv e1 e2 hx
    go_enter Tryz.func81, Tryz.ntmps81
    go_wp2_with (first | (go_at_call 89; go_in) | (go_at_call 91; refine HP.out.mono ?_; rintro e w1 ⟨rfl, h1⟩; obtain ⟨v1, _, b1, _⟩ := h1; have hc := boxed HV.out b1; have H1 := hideIt b1; clear b1) | (go_at_call 41; refine (stop_any _ _ _ _).mono ?_; rintro e w2 ⟨rfl, h2⟩; have H2 := hideIt h2; clear h2))
    exact ⟨rfl, And.intro rfl (Ends.bad E0.out ⟨rfl, (HA.out.but.trans H1.out).trans H2.out.but⟩)⟩
theorem u32_w (w : World) (g : Nat) (v : Value) (zs : List Int) (x : Int) (r : WrAt w g v zs) (hl : zs.length ≤ 1000000000) (h0 : 0 ≤ x) (h1 : x < 4294967296) :
    Calls Tryz.prog 101 #[Co none (some ⟨g, 0, none⟩), .int .u32 x] w fun e w' => Ends (num true 4 4294967295 x zs) (fun y ys => e = .returned (.int .u32 y) ∧ WrTo w w' g v ys) (fun c => e = .panicked (Halt c) ∧ But (Own g v) w w') := by
  have hA : After w ((w.alloc (.cells #[.pointer none, .pointer (some ⟨g, 0, none⟩)] 79)).alloc (.cells #[.pointer none, .pointer (some ⟨g, 0, none⟩)] 79)) := (After.rfl.alloc _).alloc _
  have HP := hideIt (wU32_any _ g v zs x (r.after hA) (by omega) h0 h1)
  have hg := (two_at r.1).1
  have hv : ∀ k, Own g v k → k < w.heap.size := fun k hk => hk.elim (fun e => by rw [e]; exact hg) (fun e => (r.2.1.lt k e).2)
  have HV := hideIt hv
  have HA := hideIt hA
  have e0 : num true 4 4294967295 x zs = .ok (x, zs ++ bytesOf 4 x) := num_w (by omega)
  have E0 := hideIt e0
  clear r hl h0 h1 hA hg hv e0
  go_enter Tryz.func101, Tryz.ntmps101
  go_wp2_with (first | (go_at_call 107; go_in) | (go_at_call 109; refine HP.out.mono ?_; rintro e w1 ⟨rfl, h1⟩; have H1 := hideIt h1; clear h1))
  go_ret
  exact Ends.ok E0.out ⟨rfl, WrTo.behind HA.out H1.out⟩
theorem u8_r (w : World) (g h : Nat) (zs : List Int) (x : Int) (r : RdAt w g h zs) :
    Calls Tryz.prog 106 #[Co (some ⟨g, 0, none⟩) none, .int .i64 x] w fun e w' => Ends (num false 1 255 x zs) (fun y ys => e = .returned (.int .i64 y) ∧ RdAt w' g h ys ∧ But (One g) w w') (fun c => e = .panicked (Halt c) ∧ But (One g) w w') := by
  have hA : After w ((w.alloc (.cells #[.pointer (some ⟨g, 0, none⟩), .pointer none] 79)).alloc (.cells #[.pointer (some ⟨g, 0, none⟩), .pointer none] 79)) := (After.rfl.alloc _).alloc _
  have HP := hideIt (u8_any _ g h zs (r.after hA))
  have hg := r.lt
  have hv : ∀ k, One g k → k < w.heap.size := fun k hk => by rw [hk]; exact hg
  have HV := hideIt hv
  have HA := hideIt hA
  by_cases hx : 1 ≤ zs.length
  · rw [rdVal_yes hx, rdErr_yes hx, rdRest_yes hx] at HP
    have E0 := hideIt (num_r (k := 1) (M := 255) (v := x) hx)
    obtain ⟨y, hy⟩ : ∃ y, be (zs.take 1) = y := ⟨_, rfl⟩
    rw [hy] at HP E0
    clear r hA hg hv hx hy
    go_enter Tryz.func106, Tryz.ntmps106
    go_wp2_with (first | (go_at_call 89; go_in) | (go_at_call 110; refine HP.out.mono ?_; rintro e w1 ⟨rfl, h1, h2⟩; have H1 := hideIt h1; have H2 := hideIt h2; clear h1 h2))
    go_ret
    exact Ends.ok E0.out ⟨rfl, H1.out, HA.out.but.trans H2.out⟩
  · rw [rdVal_no hx, rdErr_no hx, rdRest_no hx] at HP
    have E0 := hideIt (num_rn (k := 1) (M := 255) (v := x) hx)
    clear r hA hg hv hx
    go_enter Tryz.func106, Tryz.ntmps106
    go_wp2_with (first | (go_at_call 89; go_in) | (go_at_call 110; refine HP.out.mono ?_; rintro e w1 ⟨rfl, _, b1⟩; have hc := boxed HV.out b1; have H1 := hideIt b1; clear b1) | (go_at_call 41; refine (stop_any _ _ _ _).mono ?_; rintro e w2 ⟨rfl, h2⟩; have H2 := hideIt h2; clear h2))
    exact ⟨rfl, And.intro rfl (Ends.bad E0.out ⟨rfl, (HA.out.but.trans H1.out).trans H2.out.but⟩)⟩
theorem u16_r (w : World) (g h : Nat) (zs : List Int) (x : Int) (r : RdAt w g h zs) :
    Calls Tryz.prog 81 #[Co (some ⟨g, 0, none⟩) none, .int .i64 x] w fun e w' => Ends (num false 2 65535 x zs) (fun y ys => e = .returned (.int .i64 y) ∧ RdAt w' g h ys ∧ But (One g) w w') (fun c => e = .panicked (Halt c) ∧ But (One g) w w') := by
  have hA : After w ((w.alloc (.cells #[.pointer (some ⟨g, 0, none⟩), .pointer none] 79)).alloc (.cells #[.pointer (some ⟨g, 0, none⟩), .pointer none] 79)) := (After.rfl.alloc _).alloc _
  have HP := hideIt (u16_any _ g h zs (r.after hA))
  have hg := r.lt
  have hv : ∀ k, One g k → k < w.heap.size := fun k hk => by rw [hk]; exact hg
  have HV := hideIt hv
  have HA := hideIt hA
  by_cases hx : 2 ≤ zs.length
  · rw [rdVal_yes hx, rdErr_yes hx, rdRest_yes hx] at HP
    have E0 := hideIt (num_r (k := 2) (M := 65535) (v := x) hx)
    obtain ⟨y, hy⟩ : ∃ y, be (zs.take 2) = y := ⟨_, rfl⟩
    rw [hy] at HP E0
    clear r hA hg hv hx hy
    go_enter Tryz.func81, Tryz.ntmps81
    go_wp2_with (first | (go_at_call 89; go_in) | (go_at_call 90; refine HP.out.mono ?_; rintro e w1 ⟨rfl, h1, h2⟩; have H1 := hideIt h1; have H2 := hideIt h2; clear h1 h2))
    go_ret
    exact Ends.ok E0.out ⟨rfl, H1.out, HA.out.but.trans H2.out⟩
  · rw [rdVal_no hx, rdErr_no hx, rdRest_no hx] at HP
    have E0 := hideIt (num_rn (k := 2) (M := 65535) (v := x) hx)
    clear r hA hg hv hx
    go_enter Tryz.func81, Tryz.ntmps81
    go_wp2_with (first | (go_at_call 89; go_in) | (go_at_call 90; refine HP.out.mono ?_; rintro e w1 ⟨rfl, _, b1⟩; have hc := boxed HV.out b1; have H1 := hideIt b1; clear b1) | (go_at_call 41; refine (stop_any _ _ _ _).mono ?_; rintro e w2 ⟨rfl, h2⟩; have H2 := hideIt h2; clear h2))
    exact ⟨rfl, And.intro rfl (Ends.bad E0.out ⟨rfl, (HA.out.but.trans H1.out).trans H2.out.but⟩)⟩
theorem u32_r (w : World) (g h : Nat) (zs : List Int) (x : Int) (r : RdAt w g h zs) :
    Calls Tryz.prog 101 #[Co (some ⟨g, 0, none⟩) none, .int .u32 x] w fun e w' => Ends (num false 4 4294967295 x zs) (fun y ys => e = .returned (.int .u32 y) ∧ RdAt w' g h ys ∧ But (One g) w w') (fun c => e = .panicked (Halt c) ∧ But (One g) w w') := by
  have hA : After w ((w.alloc (.cells #[.pointer (some ⟨g, 0, none⟩), .pointer none] 79)).alloc (.cells #[.pointer (some ⟨g, 0, none⟩), .pointer none] 79)) := (After.rfl.alloc _).alloc _
  have HP := hideIt (u32_any _ g h zs (r.after hA))
  have hg := r.lt
  have hv : ∀ k, One g k → k < w.heap.size := fun k hk => by rw [hk]; exact hg
  have HV := hideIt hv
  have HA := hideIt hA
  by_cases hx : 4 ≤ zs.length
  · rw [rdVal_yes hx, rdErr_yes hx, rdRest_yes hx] at HP
    have E0 := hideIt (num_r (k := 4) (M := 4294967295) (v := x) hx)
    obtain ⟨y, hy⟩ : ∃ y, be (zs.take 4) = y := ⟨_, rfl⟩
    rw [hy] at HP E0
    clear r hA hg hv hx hy
    go_enter Tryz.func101, Tryz.ntmps101
    go_wp2_with (first | (go_at_call 107; go_in) | (go_at_call 108; refine HP.out.mono ?_; rintro e w1 ⟨rfl, h1, h2⟩; have H1 := hideIt h1; have H2 := hideIt h2; clear h1 h2))
    go_ret
    exact Ends.ok E0.out ⟨rfl, H1.out, HA.out.but.trans H2.out⟩
  · rw [rdVal_no hx, rdErr_no hx, rdRest_no hx] at HP
    have E0 := hideIt (num_rn (k := 4) (M := 4294967295) (v := x) hx)
    clear r hA hg hv hx
    go_enter Tryz.func101, Tryz.ntmps101
    go_wp2_with (first | (go_at_call 107; go_in) | (go_at_call 108; refine HP.out.mono ?_; rintro e w1 ⟨rfl, _, b1⟩; have hc := boxed HV.out b1; have H1 := hideIt b1; clear b1) | (go_at_call 41; refine (stop_any _ _ _ _).mono ?_; rintro e w2 ⟨rfl, h2⟩; have H2 := hideIt h2; clear h2))
    exact ⟨rfl, And.intro rfl (Ends.bad E0.out ⟨rfl, (HA.out.but.trans H1.out).trans H2.out.but⟩)⟩
end Go.Proofs.YthcfdoafncbliaaGreat
