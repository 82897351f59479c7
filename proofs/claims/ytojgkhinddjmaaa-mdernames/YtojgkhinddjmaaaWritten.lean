/-
  The helper written: a writer of all that can be written of some calls, and these.
-/
import Derived.Test.YtojgkhinddjmaaaItems
import Derived.Test.YtojgkhinddjmaaaDos
import Derived.Test.YtojgkhinddjmaaaLawWrites
namespace Go.Proofs.Ytojgkhinddjmaaa
open Go.RowKit
/-- A writer, and the calls that were done. -/
structure Dn (w0 w : World) (g : Nat) (v : Value) (l : List It) (d : Value) : Prop where
  wr : WrAt w g v (encs l)
  dn : w.ownsRow w0.heap.size 48 3 d l.length (cellsAll l)
  dg : d.ownBlock ≠ some g
  vd : ∀ j, v.ownBlock = some j → d.ownBlock ≠ some j
  aft : After w0 w
  g0 : w0.heap.size ≤ g
  v0 : ∀ j, v.ownBlock = some j → w0.heap.size ≤ j
  ok : ∀ i ∈ l, i.Ok w0
theorem Dn.after {w0 w w' : World} {g : Nat} {v d : Value} {l : List It} (p : Dn w0 w g v l d) (a : After w w') : Dn w0 w' g v l d :=
  ⟨p.wr.after a, own_after p.dn a, p.dg, p.vd, p.aft.trans a, p.g0, p.v0, p.ok⟩
theorem Dn.lts {w0 w : World} {g : Nat} {v d : Value} {l : List It} (p : Dn w0 w g v l d) : g < w.heap.size ∧ (∀ j, v.ownBlock = some j → j < w.heap.size) ∧ (∀ j, d.ownBlock = some j → j < w.heap.size) :=
  ⟨(two_at p.wr.1).1, fun j hj => (p.wr.2.1.lt j hj).2, fun j hj => (p.dn.lt j hj).2⟩
/-- Behind a write that did nothing. -/
theorem Dn.stay {w0 w w' : World} {g : Nat} {v d : Value} {l : List It} (p : Dn w0 w g v l d) (t : WrTo w w' g v (encs l ++ [])) : ∃ v', Dn w0 w' g v' l d := by
  obtain ⟨v', r, b, gr⟩ := t
  rw [List.append_nil] at r
  obtain ⟨h1, h2, h3⟩ := p.lts
  have h5 := p.aft.size
  have hv : ∀ j, v'.ownBlock = some j → v.ownBlock = some j ∨ w.heap.size ≤ j := fun j hj => by
    rcases gr with e | ⟨i, e, hi⟩
    · exact .inl (by rw [← e]; exact hj)
    · rw [e] at hj; cases hj; exact .inr hi
  refine ⟨v', r, own_but p.dn b (fun j hj t => ?_), p.dg, fun j hj e => ?_, p.aft.then b (fun i hi t => ?_), p.g0, fun j hj => ?_, p.ok⟩
  · rcases t with t | t
    · exact p.dg (by rw [hj, t])
    · exact p.vd j t hj
  · rcases hv j hj with e' | e'
    · exact p.vd j e' e
    · have := h3 j e; omega
  · rcases t with t | t
    · have := p.g0; omega
    · have := p.v0 i t; omega
  · rcases hv j hj with e | e
    · exact p.v0 j e
    · omega
/-- Behind a write, and the append of the call. -/
theorem Dn.more {w0 w w1 w2 w3 : World} {g : Nat} {v v1 d d1 : Value} {l : List It} {i : It} {n : Nat} (p : Dn w0 w g v l d) (hi : i.Ok w0) (r : WrAt w1 g v1 (encs l ++ i.enc)) (b : But (Own g v) w w1) (gr : Grew w v v1) (a : After w1 w2) (ho : w3.ownsRow w0.heap.size 48 3 d1 n (cellsAll l ++ i.cells)) (hn : n = l.length + 1) (hg : w2.grownBy w3 d.ownBlock) (he : d1.ownBlock = d.ownBlock ∨ d1.ownBlock = some w2.heap.size) :
    Dn w0 w3 g v1 (l ++ [i]) d1 := by
  obtain ⟨h1, h2, h3⟩ := p.lts
  have h5 := p.aft.size
  have h6 := b.size
  have h7 := a.size
  have hv : ∀ j, v1.ownBlock = some j → v.ownBlock = some j ∨ w.heap.size ≤ j := fun j hj => by
    rcases gr with e | ⟨i, e, hi⟩
    · exact .inl (by rw [← e]; exact hj)
    · rw [e] at hj; cases hj; exact .inr hi
  have hv1 : ∀ j, v1.ownBlock = some j → j < w1.heap.size := fun j hj => (r.2.1.lt j hj).2
  have b3 : But (fun j => d.ownBlock = some j) w2 w3 := But.grown But.rfl hg (fun j hj _ => hj)
  have dv : ∀ j, v1.ownBlock = some j → d.ownBlock ≠ some j := fun j hj e => by
    rcases hv j hj with e' | e'
    · exact p.vd j e' e
    · have := h3 j e; omega
  have r2 := (r.after a).but b3 p.dg (fun j hj => dv j hj)
  refine ⟨by rw [encs_snoc]; exact r2, by rw [cellsAll_snoc, List.length_append]; rw [hn] at ho; exact ho, fun e => ?_, fun j hj e => ?_, ?_, p.g0, fun j hj => ?_, fun x hx => ?_⟩
  · rcases he with e' | e'
    · exact p.dg (by rw [← e', e])
    · rw [e'] at e; cases e; omega
  · rcases he with e' | e'
    · exact dv j hj (by rw [← e', e])
    · rw [e'] at e; cases e; have := hv1 _ hj; omega
  · refine ((p.aft.then b (fun i hi t => ?_)).trans a).then b3 (fun i hi t => ?_)
    · rcases t with t | t
      · have := p.g0; omega
      · have := p.v0 i t; omega
    · have := (p.dn.lt i t).1; omega
  · rcases hv j hj with e | e
    · exact p.v0 j e
    · omega
  · rcases List.mem_append.1 hx with h | h
    · exact p.ok x h
    · rw [List.mem_singleton.1 h]; exact hi
theorem enc_len {w : World} {i : It} (h : i.Ok w) : i.enc.length ≤ 65537 := by
  have h3 := h.row.1
  have h5 := h.len
  unfold It.enc
  split
  · rw [bytesOf_length]; omega
  · split
    · rw [bytesOf_length]; omega
    · split
      · rw [bytesOf_length]; omega
      · rw [List.length_append, bytesOf_length]; omega
theorem encs_grow {w : World} {l : List It} {i : It} {m : Nat} (h : i.Ok w) (hl : (encs l).length ≤ capOf m) : (encs (l ++ [i])).length ≤ capOf (m + 1) := by
  refine capOf_next (b := (encs l).length) ?_ hl
  rw [encs_snoc, List.length_append]
  exact Nat.add_le_add_left (enc_len h) _
theorem it_one (i : It) : ∀ u ∈ i.cells, u.oneCell' = true := by
  intro u hu
  simp only [It.cells, List.mem_cons, List.not_mem_nil, or_false] at hu
  rcases hu with rfl | rfl | rfl <;> rfl
set_option maxRecDepth 100000 in
set_option maxHeartbeats 4000000 in
theorem written_any (a : Option Addr) (n c : Nat) (w : World) (hd : Dos w a n) (hn : n ≤ 140737488355328) :
    Calls Try.prog 35 #[.slice a n c] w fun e w' => ∃ (x d : Value) (l : List It), e = .returned (.tuple #[x, d, .bool true]) ∧ w'.ownsRow w.heap.size 5 1 x (encs l).length (u8s (encs l)) ∧ Bs (encs l) ∧ (encs l).length ≤ 1099511627776 ∧ w'.ownsRow w.heap.size 48 3 d l.length (cellsAll l) ∧ l.length ≤ 100 ∧ (∀ i ∈ l, i.Ok w) ∧ After w w' := by
  have HD := hideIt hd
  have hn2 : (n : Int) ≤ 140737488355328 := by omega
  obtain ⟨i0, hi, hz0, hz1, hz2⟩ := info_parts Try.info48
  clear hd hn
  go_enter Try.func35, Try.ntmps35
  go_wp2_with fail
  refine (write_any _).mono ?_
  rintro e w1 ⟨rfl, q1, a1⟩
  have P1 := hideIt (show Dn w w1 w.heap.size (.slice none 0 0) [] (.slice none 0 0) from ⟨q1, World.ownsRow_nil _ _ _ _, (fun e => by cases e), (fun j hj => by cases hj), a1, Nat.le_refl _, (fun j hj => by cases hj), (fun i hi => by cases hi)⟩)
  obtain ⟨g, hg⟩ : ∃ g, w.heap.size = g := ⟨_, rfl⟩
  have P2 : Hid (Dn w w1 g (.slice none 0 0) [] (.slice none 0 0)) := hideIt (by have := P1.out; rw [hg] at this; exact this)
  rw [hg]
  clear q1 a1 P1 hg
  go_wp2_with fail
  go_loopw [6, 7] (fun d i W => ∃ (m : Nat) (v : Value) (l : List It), m ≤ n ∧ m ≤ 100 ∧ i = .int .i64 m ∧ Dn w W g v l d ∧ (encs l).length ≤ capOf m ∧ l.length ≤ m) (fun _ i _ => n - (intOf i).toNat)
  case atStart => exact ⟨0, _, [], by omega, by omega, rfl, P2.out, Nat.zero_le _, Nat.le_refl _⟩
  case round =>
    obtain ⟨m, v, l, hm, hm2, rfl, hp, hy, hll⟩ := hrel
    have P5 := hideIt hp
    have HY := hideIt hy
    have HLL := hideIt hll
    have HL := hideIt (capOf_low hm2 hy)
    clear hp P2 hy hll
    by_cases hlt : m < n ∧ m < 100
    · obtain ⟨b, off, kd, x, ab, nb, cb, bs, rfl, d1⟩ := HD.out m hlt.1
      have D1 := hideIt d1
      have D5 := hideIt (d1.after P5.out.aft)
      obtain ⟨_, c0, c1, c2, -, -, -, -, -, -, -, -, -⟩ := D5.out
      have i1 : (m : Int) < n := by omega
      have i2 : (m : Int) < 100 := by omega
      have HCB := hideIt d1.cap
      clear hlt d1 HD
      by_cases hb3 : nb ≤ 300
      · have i3 : ¬ (300 : Int) < nb := by omega
        have HRB := hideIt (show Row w ab nb bs ∧ (ab = none → nb = 0 ∧ cb = 0) ∧ nb ≤ 300 from ⟨D1.out.row, D1.out.nil, hb3⟩)
        clear hb3
        obtain ⟨n2, hn2e⟩ : ∃ n2, nb = n2 := ⟨_, rfl⟩
        obtain ⟨bs2, hbs2⟩ : ∃ bs2, bs = bs2 := ⟨_, rfl⟩
        subst hn2e hbs2
        go_wp2_with fail
        refine (bring_any kd _ D5.out.k0 D5.out.k1).mono ?_
        rintro e wq ⟨rfl, rfl⟩
        have hkd := kindOf_lt kd
        obtain ⟨kk, hkk⟩ : ∃ kk, kindOf kd = kk := ⟨_, rfl⟩
        rw [hkk] at hkd ⊢
        clear hkk
        have h4 : kk = 0 ∨ kk = 1 ∨ kk = 2 ∨ kk = 3 := by omega
        clear hkd
        rcases h4 with rfl | rfl | rfl | rfl
        · have P6 := hideIt (P5.out.after (After.rfl.alloc (.cells #[.int .i64 0, .int .i64 x, .slice ab nb cb] 48)))
          have LT := hideIt P5.out.lts
          clear P5 D5 c0 c1 c2
          by_cases hx : 0 ≤ x ∧ x ≤ (255 : Nat)
          case' pos =>
            go_wp2_with fail
          case' neg =>
            go_wp2_with fail
          case pos =>
            refine (wU8_any _ _ _ _ x P6.out.wr (by have := HL.out; omega)).mono ?_
            rintro e w7 ⟨rfl, v7, r7, b7, g7⟩
            have OK := hideIt (show It.Ok w (⟨0, x, ab, nb, cb, bs⟩ : It) from ⟨by simp, fun h => ⟨hx.1, hx.2⟩, fun h => absurd h (by simp), HRB.out.1, HRB.out.2.2⟩)
            rw [(wn_yes (k := 1) hx).1]
            rw [(wn_yes (k := 1) hx).2] at r7
            clear hx
            have b7l := b7.block wr.heap.size (by simp) (fun t => by
              rcases t with t | t
              · have := LT.out.1; omega
              · have := LT.out.2.1 _ t; omega)
            have h7 : w7.heap[wr.heap.size]? = some (.cells #[.int .i64 0, .int .i64 x, .slice ab nb cb] 48 (0, 0)) := b7l.trans (heap_alloc_new wr _)
            obtain ⟨_, z0, z1, z2, zf0, zf1, zf2⟩ := three_at h7
            have O7 := hideIt (own_but P6.out.dn b7 (fun j hj t => by
              rcases t with t | t
              · exact P6.out.dg (by rw [hj, t])
              · exact P6.out.vd j t hj))
            have P7 := hideIt (fun w3 d1 n3 hn3 ho hg he => P6.out.more (w2 := w7.alloc (.cells #[.int .i64 0, .int .i64 x, .slice ab nb cb] 48)) (w3 := w3) (d1 := d1) (n := n3) OK.out r7 b7 g7 (After.rfl.alloc _) ho hn3 hg he)
            have S7 := hideIt (show w.heap.size ≤ w7.heap.size from Nat.le_trans P6.out.aft.size b7.size)
            clear r7 b7 g7 P6 b7l h7
            go_wp2_with (at_builtin; refine wpList_append_own_at _ rfl (.tmp 66) (.tmp 68) 42 rfl w.heap.size 48 i0 _ 3 40 Try.underlying42 hi hz0 hz1 hz2 rfl (by decide) u6 _ _ rfl (O7.out.alloc _) ⟨w7.heap.size, 0, none⟩ 1 1 (It.cells (⟨0, x, ab, nb, cb, bs⟩ : It)) rfl rfl (World.news_of_block (cs := #[.int .i64 0, .int .i64 x, .slice ab nb cb]) (t := 48) (fr := (0, 0)) (heap_alloc_new w7 _)) (it_one _) (by have := HLL.out; unfold maxLen; omega) (by have := HLL.out; omega) (by have := S7.out; simp; omega) ?_; intro d2 w8 hown hgrow _ hat; have P8 := hideIt (P7.out w8 d2 _ rfl hown hgrow hat); clear hown hgrow hat)
            go_roundw
            case rel => exact ⟨m + 1, v7, l ++ [(⟨0, x, ab, nb, cb, bs⟩ : It)], by omega, by omega, by go_num, P8.out, encs_grow OK.out HY.out, by rw [List.length_append]; exact Nat.add_le_add_right HLL.out 1⟩
            case measure => simp [intOf]; omega
          case neg =>
            refine (wU8_any _ _ _ _ x P6.out.wr (by have := HL.out; omega)).mono ?_
            rintro e w7 ⟨rfl, t7⟩
            rw [(wn_no (k := 1) hx).1]
            rw [(wn_no (k := 1) hx).2] at t7
            obtain ⟨v7, p7⟩ := P6.out.stay t7
            have P7 := hideIt p7
            clear p7 t7 P6 hx
            go_wp2
            go_roundw
            case rel => exact ⟨m + 1, v7, l, by omega, by omega, by go_num, P7.out, capOf_stay HY.out, by have := HLL.out; omega⟩
            case measure => simp [intOf]; omega
        · have P6 := hideIt (P5.out.after (After.rfl.alloc (.cells #[.int .i64 1, .int .i64 x, .slice ab nb cb] 48)))
          have LT := hideIt P5.out.lts
          clear P5 D5 c0 c1 c2
          by_cases hx : 0 ≤ x ∧ x ≤ (65535 : Nat)
          case' pos =>
            go_wp2_with fail
          case' neg =>
            go_wp2_with fail
          case pos =>
            refine (wU16_any _ _ _ _ x P6.out.wr (by have := HL.out; omega)).mono ?_
            rintro e w7 ⟨rfl, v7, r7, b7, g7⟩
            have OK := hideIt (show It.Ok w (⟨1, x, ab, nb, cb, bs⟩ : It) from ⟨by simp, fun h => absurd h (by simp), fun h => ⟨hx.1, hx.2⟩, HRB.out.1, HRB.out.2.2⟩)
            rw [(wn_yes (k := 2) hx).1]
            rw [(wn_yes (k := 2) hx).2] at r7
            clear hx
            have b7l := b7.block wr.heap.size (by simp) (fun t => by
              rcases t with t | t
              · have := LT.out.1; omega
              · have := LT.out.2.1 _ t; omega)
            have h7 : w7.heap[wr.heap.size]? = some (.cells #[.int .i64 1, .int .i64 x, .slice ab nb cb] 48 (0, 0)) := b7l.trans (heap_alloc_new wr _)
            obtain ⟨_, z0, z1, z2, zf0, zf1, zf2⟩ := three_at h7
            have O7 := hideIt (own_but P6.out.dn b7 (fun j hj t => by
              rcases t with t | t
              · exact P6.out.dg (by rw [hj, t])
              · exact P6.out.vd j t hj))
            have P7 := hideIt (fun w3 d1 n3 hn3 ho hg he => P6.out.more (w2 := w7.alloc (.cells #[.int .i64 1, .int .i64 x, .slice ab nb cb] 48)) (w3 := w3) (d1 := d1) (n := n3) OK.out r7 b7 g7 (After.rfl.alloc _) ho hn3 hg he)
            have S7 := hideIt (show w.heap.size ≤ w7.heap.size from Nat.le_trans P6.out.aft.size b7.size)
            clear r7 b7 g7 P6 b7l h7
            go_wp2_with (at_builtin; refine wpList_append_own_at _ rfl (.tmp 66) (.tmp 68) 42 rfl w.heap.size 48 i0 _ 3 40 Try.underlying42 hi hz0 hz1 hz2 rfl (by decide) u6 _ _ rfl (O7.out.alloc _) ⟨w7.heap.size, 0, none⟩ 1 1 (It.cells (⟨1, x, ab, nb, cb, bs⟩ : It)) rfl rfl (World.news_of_block (cs := #[.int .i64 1, .int .i64 x, .slice ab nb cb]) (t := 48) (fr := (0, 0)) (heap_alloc_new w7 _)) (it_one _) (by have := HLL.out; unfold maxLen; omega) (by have := HLL.out; omega) (by have := S7.out; simp; omega) ?_; intro d2 w8 hown hgrow _ hat; have P8 := hideIt (P7.out w8 d2 _ rfl hown hgrow hat); clear hown hgrow hat)
            go_roundw
            case rel => exact ⟨m + 1, v7, l ++ [(⟨1, x, ab, nb, cb, bs⟩ : It)], by omega, by omega, by go_num, P8.out, encs_grow OK.out HY.out, by rw [List.length_append]; exact Nat.add_le_add_right HLL.out 1⟩
            case measure => simp [intOf]; omega
          case neg =>
            refine (wU16_any _ _ _ _ x P6.out.wr (by have := HL.out; omega)).mono ?_
            rintro e w7 ⟨rfl, t7⟩
            rw [(wn_no (k := 2) hx).1]
            rw [(wn_no (k := 2) hx).2] at t7
            obtain ⟨v7, p7⟩ := P6.out.stay t7
            have P7 := hideIt p7
            clear p7 t7 P6 hx
            go_wp2
            go_roundw
            case rel => exact ⟨m + 1, v7, l, by omega, by omega, by go_num, P7.out, capOf_stay HY.out, by have := HLL.out; omega⟩
            case measure => simp [intOf]; omega
        · have P6 := hideIt (P5.out.after (After.rfl.alloc (.cells #[.int .i64 2, .int .i64 x, .slice ab nb cb] 48)))
          have LT := hideIt P5.out.lts
          clear P5 D5 c0 c1 c2
          go_wp2_with fail
          refine (wU32_any _ _ _ _ _ P6.out.wr (by have := HL.out; omega) (u32_of x).1 (u32_of x).2).mono ?_
          rintro e w7 ⟨rfl, v7, r7, b7, g7⟩
          have OK := hideIt (show It.Ok w (⟨2, x, ab, nb, cb, bs⟩ : It) from ⟨by simp, fun h => absurd h (by simp), fun h => absurd h (by simp), HRB.out.1, HRB.out.2.2⟩)
          have b7l := b7.block wr.heap.size (by simp) (fun t => by
            rcases t with t | t
            · have := LT.out.1; omega
            · have := LT.out.2.1 _ t; omega)
          have h7 : w7.heap[wr.heap.size]? = some (.cells #[.int .i64 2, .int .i64 x, .slice ab nb cb] 48 (0, 0)) := b7l.trans (heap_alloc_new wr _)
          obtain ⟨_, z0, z1, z2, zf0, zf1, zf2⟩ := three_at h7
          have O7 := hideIt (own_but P6.out.dn b7 (fun j hj t => by
            rcases t with t | t
            · exact P6.out.dg (by rw [hj, t])
            · exact P6.out.vd j t hj))
          have P7 := hideIt (fun w3 d1 n3 hn3 ho hg he => P6.out.more (w2 := w7.alloc (.cells #[.int .i64 2, .int .i64 x, .slice ab nb cb] 48)) (w3 := w3) (d1 := d1) (n := n3) OK.out r7 b7 g7 (After.rfl.alloc _) ho hn3 hg he)
          have S7 := hideIt (show w.heap.size ≤ w7.heap.size from Nat.le_trans P6.out.aft.size b7.size)
          clear r7 b7 g7 P6 b7l h7
          go_wp2_with (at_builtin; refine wpList_append_own_at _ rfl (.tmp 66) (.tmp 68) 42 rfl w.heap.size 48 i0 _ 3 40 Try.underlying42 hi hz0 hz1 hz2 rfl (by decide) u6 _ _ rfl (O7.out.alloc _) ⟨w7.heap.size, 0, none⟩ 1 1 (It.cells (⟨2, x, ab, nb, cb, bs⟩ : It)) rfl rfl (World.news_of_block (cs := #[.int .i64 2, .int .i64 x, .slice ab nb cb]) (t := 48) (fr := (0, 0)) (heap_alloc_new w7 _)) (it_one _) (by have := HLL.out; unfold maxLen; omega) (by have := HLL.out; omega) (by have := S7.out; simp; omega) ?_; intro d2 w8 hown hgrow _ hat; have P8 := hideIt (P7.out w8 d2 _ rfl hown hgrow hat); clear hown hgrow hat)
          go_roundw
          case rel => exact ⟨m + 1, v7, l ++ [(⟨2, x, ab, nb, cb, bs⟩ : It)], by omega, by omega, by go_num, P8.out, encs_grow OK.out HY.out, by rw [List.length_append]; exact Nat.add_le_add_right HLL.out 1⟩
          case measure => simp [intOf]; omega
        · have P6 := hideIt (P5.out.after (After.rfl.alloc (.cells #[.int .i64 3, .int .i64 x, .slice ab nb cb] 48)))
          have LT := hideIt P5.out.lts
          clear P5 D5 c0 c1 c2
          go_wp2_with fail
          refine (wOctets_any _ _ _ _ _ _ _ _ P6.out.wr (HRB.out.1.after P6.out.aft) HRB.out.2.1 (fun y hy h0 t => by have h1 := D1.out.old y hy (by omega); rcases t with t | t; (have t2 : y.block = g := t; have := P6.out.g0; omega); (have := P6.out.v0 _ t; omega)) (by have := HRB.out.2.2; omega) HL.out).mono ?_
          rintro e w7 ⟨rfl, v7, r7, b7, g7⟩
          have OK := hideIt (show It.Ok w (⟨3, x, ab, nb, cb, bs⟩ : It) from ⟨by simp, fun h => absurd h (by simp), fun h => absurd h (by simp), HRB.out.1, HRB.out.2.2⟩)
          have hbl : (bs).length ≤ 65535 := by have h1 := HRB.out.1.1; have h2 := HRB.out.2.2; omega
          rw [(wo_yes hbl).1]
          rw [(wo_yes hbl).2] at r7
          clear hbl
          have b7l := b7.block wr.heap.size (by simp) (fun t => by
            rcases t with t | t
            · have := LT.out.1; omega
            · have := LT.out.2.1 _ t; omega)
          have h7 : w7.heap[wr.heap.size]? = some (.cells #[.int .i64 3, .int .i64 x, .slice ab nb cb] 48 (0, 0)) := b7l.trans (heap_alloc_new wr _)
          obtain ⟨_, z0, z1, z2, zf0, zf1, zf2⟩ := three_at h7
          have O7 := hideIt (own_but P6.out.dn b7 (fun j hj t => by
            rcases t with t | t
            · exact P6.out.dg (by rw [hj, t])
            · exact P6.out.vd j t hj))
          have P7 := hideIt (fun w3 d1 n3 hn3 ho hg he => P6.out.more (w2 := w7.alloc (.cells #[.int .i64 3, .int .i64 x, .slice ab nb cb] 48)) (w3 := w3) (d1 := d1) (n := n3) OK.out r7 b7 g7 (After.rfl.alloc _) ho hn3 hg he)
          have S7 := hideIt (show w.heap.size ≤ w7.heap.size from Nat.le_trans P6.out.aft.size b7.size)
          clear r7 b7 g7 P6 b7l h7
          go_wp2_with (at_builtin; refine wpList_append_own_at _ rfl (.tmp 66) (.tmp 68) 42 rfl w.heap.size 48 i0 _ 3 40 Try.underlying42 hi hz0 hz1 hz2 rfl (by decide) u6 _ _ rfl (O7.out.alloc _) ⟨w7.heap.size, 0, none⟩ 1 1 (It.cells (⟨3, x, ab, nb, cb, bs⟩ : It)) rfl rfl (World.news_of_block (cs := #[.int .i64 3, .int .i64 x, .slice ab nb cb]) (t := 48) (fr := (0, 0)) (heap_alloc_new w7 _)) (it_one _) (by have := HLL.out; unfold maxLen; omega) (by have := HLL.out; omega) (by have := S7.out; simp; omega) ?_; intro d2 w8 hown hgrow _ hat; have P8 := hideIt (P7.out w8 d2 _ rfl hown hgrow hat); clear hown hgrow hat)
          go_roundw
          case rel => exact ⟨m + 1, v7, l ++ [(⟨3, x, ab, nb, cb, bs⟩ : It)], by omega, by omega, by go_num, P8.out, encs_grow OK.out HY.out, by rw [List.length_append]; exact Nat.add_le_add_right HLL.out 1⟩
          case measure => simp [intOf]; omega
      · have i3 : (300 : Int) < nb := by omega
        have i4 : (300 : Int) ≤ cb := by have := HCB.out; omega
        have HRB := hideIt (show Row w ab 300 (bs.take 300) ∧ (ab = none → 300 = 0 ∧ cb = 0) ∧ 300 ≤ 300 from ⟨D1.out.row.take (by omega), fun e => by have := (D1.out.nil e).1; omega, Nat.le_refl _⟩)
        clear hb3
        go_wp2_with fail
        refine (bring_any kd _ D5.out.k0 D5.out.k1).mono ?_
        rintro e wq ⟨rfl, rfl⟩
        have hkd := kindOf_lt kd
        obtain ⟨kk, hkk⟩ : ∃ kk, kindOf kd = kk := ⟨_, rfl⟩
        rw [hkk] at hkd ⊢
        clear hkk
        have h4 : kk = 0 ∨ kk = 1 ∨ kk = 2 ∨ kk = 3 := by omega
        clear hkd
        rcases h4 with rfl | rfl | rfl | rfl
        · have P6 := hideIt (P5.out.after (After.rfl.alloc (.cells #[.int .i64 0, .int .i64 x, .slice ab 300 cb] 48)))
          have LT := hideIt P5.out.lts
          clear P5 D5 c0 c1 c2
          by_cases hx : 0 ≤ x ∧ x ≤ (255 : Nat)
          case' pos =>
            go_wp2_with fail
          case' neg =>
            go_wp2_with fail
          case pos =>
            refine (wU8_any _ _ _ _ x P6.out.wr (by have := HL.out; omega)).mono ?_
            rintro e w7 ⟨rfl, v7, r7, b7, g7⟩
            have OK := hideIt (show It.Ok w (⟨0, x, ab, 300, cb, (bs.take 300)⟩ : It) from ⟨by simp, fun h => ⟨hx.1, hx.2⟩, fun h => absurd h (by simp), HRB.out.1, HRB.out.2.2⟩)
            rw [(wn_yes (k := 1) hx).1]
            rw [(wn_yes (k := 1) hx).2] at r7
            clear hx
            have b7l := b7.block wr.heap.size (by simp) (fun t => by
              rcases t with t | t
              · have := LT.out.1; omega
              · have := LT.out.2.1 _ t; omega)
            have h7 : w7.heap[wr.heap.size]? = some (.cells #[.int .i64 0, .int .i64 x, .slice ab 300 cb] 48 (0, 0)) := b7l.trans (heap_alloc_new wr _)
            obtain ⟨_, z0, z1, z2, zf0, zf1, zf2⟩ := three_at h7
            have O7 := hideIt (own_but P6.out.dn b7 (fun j hj t => by
              rcases t with t | t
              · exact P6.out.dg (by rw [hj, t])
              · exact P6.out.vd j t hj))
            have P7 := hideIt (fun w3 d1 n3 hn3 ho hg he => P6.out.more (w2 := w7.alloc (.cells #[.int .i64 0, .int .i64 x, .slice ab 300 cb] 48)) (w3 := w3) (d1 := d1) (n := n3) OK.out r7 b7 g7 (After.rfl.alloc _) ho hn3 hg he)
            have S7 := hideIt (show w.heap.size ≤ w7.heap.size from Nat.le_trans P6.out.aft.size b7.size)
            clear r7 b7 g7 P6 b7l h7
            go_wp2_with (at_builtin; refine wpList_append_own_at _ rfl (.tmp 66) (.tmp 68) 42 rfl w.heap.size 48 i0 _ 3 40 Try.underlying42 hi hz0 hz1 hz2 rfl (by decide) u6 _ _ rfl (O7.out.alloc _) ⟨w7.heap.size, 0, none⟩ 1 1 (It.cells (⟨0, x, ab, 300, cb, (bs.take 300)⟩ : It)) rfl rfl (World.news_of_block (cs := #[.int .i64 0, .int .i64 x, .slice ab 300 cb]) (t := 48) (fr := (0, 0)) (heap_alloc_new w7 _)) (it_one _) (by have := HLL.out; unfold maxLen; omega) (by have := HLL.out; omega) (by have := S7.out; simp; omega) ?_; intro d2 w8 hown hgrow _ hat; have P8 := hideIt (P7.out w8 d2 _ rfl hown hgrow hat); clear hown hgrow hat)
            go_roundw
            case rel => exact ⟨m + 1, v7, l ++ [(⟨0, x, ab, 300, cb, (bs.take 300)⟩ : It)], by omega, by omega, by go_num, P8.out, encs_grow OK.out HY.out, by rw [List.length_append]; exact Nat.add_le_add_right HLL.out 1⟩
            case measure => simp [intOf]; omega
          case neg =>
            refine (wU8_any _ _ _ _ x P6.out.wr (by have := HL.out; omega)).mono ?_
            rintro e w7 ⟨rfl, t7⟩
            rw [(wn_no (k := 1) hx).1]
            rw [(wn_no (k := 1) hx).2] at t7
            obtain ⟨v7, p7⟩ := P6.out.stay t7
            have P7 := hideIt p7
            clear p7 t7 P6 hx
            go_wp2
            go_roundw
            case rel => exact ⟨m + 1, v7, l, by omega, by omega, by go_num, P7.out, capOf_stay HY.out, by have := HLL.out; omega⟩
            case measure => simp [intOf]; omega
        · have P6 := hideIt (P5.out.after (After.rfl.alloc (.cells #[.int .i64 1, .int .i64 x, .slice ab 300 cb] 48)))
          have LT := hideIt P5.out.lts
          clear P5 D5 c0 c1 c2
          by_cases hx : 0 ≤ x ∧ x ≤ (65535 : Nat)
          case' pos =>
            go_wp2_with fail
          case' neg =>
            go_wp2_with fail
          case pos =>
            refine (wU16_any _ _ _ _ x P6.out.wr (by have := HL.out; omega)).mono ?_
            rintro e w7 ⟨rfl, v7, r7, b7, g7⟩
            have OK := hideIt (show It.Ok w (⟨1, x, ab, 300, cb, (bs.take 300)⟩ : It) from ⟨by simp, fun h => absurd h (by simp), fun h => ⟨hx.1, hx.2⟩, HRB.out.1, HRB.out.2.2⟩)
            rw [(wn_yes (k := 2) hx).1]
            rw [(wn_yes (k := 2) hx).2] at r7
            clear hx
            have b7l := b7.block wr.heap.size (by simp) (fun t => by
              rcases t with t | t
              · have := LT.out.1; omega
              · have := LT.out.2.1 _ t; omega)
            have h7 : w7.heap[wr.heap.size]? = some (.cells #[.int .i64 1, .int .i64 x, .slice ab 300 cb] 48 (0, 0)) := b7l.trans (heap_alloc_new wr _)
            obtain ⟨_, z0, z1, z2, zf0, zf1, zf2⟩ := three_at h7
            have O7 := hideIt (own_but P6.out.dn b7 (fun j hj t => by
              rcases t with t | t
              · exact P6.out.dg (by rw [hj, t])
              · exact P6.out.vd j t hj))
            have P7 := hideIt (fun w3 d1 n3 hn3 ho hg he => P6.out.more (w2 := w7.alloc (.cells #[.int .i64 1, .int .i64 x, .slice ab 300 cb] 48)) (w3 := w3) (d1 := d1) (n := n3) OK.out r7 b7 g7 (After.rfl.alloc _) ho hn3 hg he)
            have S7 := hideIt (show w.heap.size ≤ w7.heap.size from Nat.le_trans P6.out.aft.size b7.size)
            clear r7 b7 g7 P6 b7l h7
            go_wp2_with (at_builtin; refine wpList_append_own_at _ rfl (.tmp 66) (.tmp 68) 42 rfl w.heap.size 48 i0 _ 3 40 Try.underlying42 hi hz0 hz1 hz2 rfl (by decide) u6 _ _ rfl (O7.out.alloc _) ⟨w7.heap.size, 0, none⟩ 1 1 (It.cells (⟨1, x, ab, 300, cb, (bs.take 300)⟩ : It)) rfl rfl (World.news_of_block (cs := #[.int .i64 1, .int .i64 x, .slice ab 300 cb]) (t := 48) (fr := (0, 0)) (heap_alloc_new w7 _)) (it_one _) (by have := HLL.out; unfold maxLen; omega) (by have := HLL.out; omega) (by have := S7.out; simp; omega) ?_; intro d2 w8 hown hgrow _ hat; have P8 := hideIt (P7.out w8 d2 _ rfl hown hgrow hat); clear hown hgrow hat)
            go_roundw
            case rel => exact ⟨m + 1, v7, l ++ [(⟨1, x, ab, 300, cb, (bs.take 300)⟩ : It)], by omega, by omega, by go_num, P8.out, encs_grow OK.out HY.out, by rw [List.length_append]; exact Nat.add_le_add_right HLL.out 1⟩
            case measure => simp [intOf]; omega
          case neg =>
            refine (wU16_any _ _ _ _ x P6.out.wr (by have := HL.out; omega)).mono ?_
            rintro e w7 ⟨rfl, t7⟩
            rw [(wn_no (k := 2) hx).1]
            rw [(wn_no (k := 2) hx).2] at t7
            obtain ⟨v7, p7⟩ := P6.out.stay t7
            have P7 := hideIt p7
            clear p7 t7 P6 hx
            go_wp2
            go_roundw
            case rel => exact ⟨m + 1, v7, l, by omega, by omega, by go_num, P7.out, capOf_stay HY.out, by have := HLL.out; omega⟩
            case measure => simp [intOf]; omega
        · have P6 := hideIt (P5.out.after (After.rfl.alloc (.cells #[.int .i64 2, .int .i64 x, .slice ab 300 cb] 48)))
          have LT := hideIt P5.out.lts
          clear P5 D5 c0 c1 c2
          go_wp2_with fail
          refine (wU32_any _ _ _ _ _ P6.out.wr (by have := HL.out; omega) (u32_of x).1 (u32_of x).2).mono ?_
          rintro e w7 ⟨rfl, v7, r7, b7, g7⟩
          have OK := hideIt (show It.Ok w (⟨2, x, ab, 300, cb, (bs.take 300)⟩ : It) from ⟨by simp, fun h => absurd h (by simp), fun h => absurd h (by simp), HRB.out.1, HRB.out.2.2⟩)
          have b7l := b7.block wr.heap.size (by simp) (fun t => by
            rcases t with t | t
            · have := LT.out.1; omega
            · have := LT.out.2.1 _ t; omega)
          have h7 : w7.heap[wr.heap.size]? = some (.cells #[.int .i64 2, .int .i64 x, .slice ab 300 cb] 48 (0, 0)) := b7l.trans (heap_alloc_new wr _)
          obtain ⟨_, z0, z1, z2, zf0, zf1, zf2⟩ := three_at h7
          have O7 := hideIt (own_but P6.out.dn b7 (fun j hj t => by
            rcases t with t | t
            · exact P6.out.dg (by rw [hj, t])
            · exact P6.out.vd j t hj))
          have P7 := hideIt (fun w3 d1 n3 hn3 ho hg he => P6.out.more (w2 := w7.alloc (.cells #[.int .i64 2, .int .i64 x, .slice ab 300 cb] 48)) (w3 := w3) (d1 := d1) (n := n3) OK.out r7 b7 g7 (After.rfl.alloc _) ho hn3 hg he)
          have S7 := hideIt (show w.heap.size ≤ w7.heap.size from Nat.le_trans P6.out.aft.size b7.size)
          clear r7 b7 g7 P6 b7l h7
          go_wp2_with (at_builtin; refine wpList_append_own_at _ rfl (.tmp 66) (.tmp 68) 42 rfl w.heap.size 48 i0 _ 3 40 Try.underlying42 hi hz0 hz1 hz2 rfl (by decide) u6 _ _ rfl (O7.out.alloc _) ⟨w7.heap.size, 0, none⟩ 1 1 (It.cells (⟨2, x, ab, 300, cb, (bs.take 300)⟩ : It)) rfl rfl (World.news_of_block (cs := #[.int .i64 2, .int .i64 x, .slice ab 300 cb]) (t := 48) (fr := (0, 0)) (heap_alloc_new w7 _)) (it_one _) (by have := HLL.out; unfold maxLen; omega) (by have := HLL.out; omega) (by have := S7.out; simp; omega) ?_; intro d2 w8 hown hgrow _ hat; have P8 := hideIt (P7.out w8 d2 _ rfl hown hgrow hat); clear hown hgrow hat)
          go_roundw
          case rel => exact ⟨m + 1, v7, l ++ [(⟨2, x, ab, 300, cb, (bs.take 300)⟩ : It)], by omega, by omega, by go_num, P8.out, encs_grow OK.out HY.out, by rw [List.length_append]; exact Nat.add_le_add_right HLL.out 1⟩
          case measure => simp [intOf]; omega
        · have P6 := hideIt (P5.out.after (After.rfl.alloc (.cells #[.int .i64 3, .int .i64 x, .slice ab 300 cb] 48)))
          have LT := hideIt P5.out.lts
          clear P5 D5 c0 c1 c2
          go_wp2_with fail
          refine (wOctets_any _ _ _ _ _ _ _ _ P6.out.wr (HRB.out.1.after P6.out.aft) HRB.out.2.1 (fun y hy h0 t => by have h1 := D1.out.old y hy (by omega); rcases t with t | t; (have t2 : y.block = g := t; have := P6.out.g0; omega); (have := P6.out.v0 _ t; omega)) (by have := HRB.out.2.2; omega) HL.out).mono ?_
          rintro e w7 ⟨rfl, v7, r7, b7, g7⟩
          have OK := hideIt (show It.Ok w (⟨3, x, ab, 300, cb, (bs.take 300)⟩ : It) from ⟨by simp, fun h => absurd h (by simp), fun h => absurd h (by simp), HRB.out.1, HRB.out.2.2⟩)
          have hbl : ((bs.take 300)).length ≤ 65535 := by have h1 := HRB.out.1.1; have h2 := HRB.out.2.2; omega
          rw [(wo_yes hbl).1]
          rw [(wo_yes hbl).2] at r7
          clear hbl
          have b7l := b7.block wr.heap.size (by simp) (fun t => by
            rcases t with t | t
            · have := LT.out.1; omega
            · have := LT.out.2.1 _ t; omega)
          have h7 : w7.heap[wr.heap.size]? = some (.cells #[.int .i64 3, .int .i64 x, .slice ab 300 cb] 48 (0, 0)) := b7l.trans (heap_alloc_new wr _)
          obtain ⟨_, z0, z1, z2, zf0, zf1, zf2⟩ := three_at h7
          have O7 := hideIt (own_but P6.out.dn b7 (fun j hj t => by
            rcases t with t | t
            · exact P6.out.dg (by rw [hj, t])
            · exact P6.out.vd j t hj))
          have P7 := hideIt (fun w3 d1 n3 hn3 ho hg he => P6.out.more (w2 := w7.alloc (.cells #[.int .i64 3, .int .i64 x, .slice ab 300 cb] 48)) (w3 := w3) (d1 := d1) (n := n3) OK.out r7 b7 g7 (After.rfl.alloc _) ho hn3 hg he)
          have S7 := hideIt (show w.heap.size ≤ w7.heap.size from Nat.le_trans P6.out.aft.size b7.size)
          clear r7 b7 g7 P6 b7l h7
          go_wp2_with (at_builtin; refine wpList_append_own_at _ rfl (.tmp 66) (.tmp 68) 42 rfl w.heap.size 48 i0 _ 3 40 Try.underlying42 hi hz0 hz1 hz2 rfl (by decide) u6 _ _ rfl (O7.out.alloc _) ⟨w7.heap.size, 0, none⟩ 1 1 (It.cells (⟨3, x, ab, 300, cb, (bs.take 300)⟩ : It)) rfl rfl (World.news_of_block (cs := #[.int .i64 3, .int .i64 x, .slice ab 300 cb]) (t := 48) (fr := (0, 0)) (heap_alloc_new w7 _)) (it_one _) (by have := HLL.out; unfold maxLen; omega) (by have := HLL.out; omega) (by have := S7.out; simp; omega) ?_; intro d2 w8 hown hgrow _ hat; have P8 := hideIt (P7.out w8 d2 _ rfl hown hgrow hat); clear hown hgrow hat)
          go_roundw
          case rel => exact ⟨m + 1, v7, l ++ [(⟨3, x, ab, 300, cb, (bs.take 300)⟩ : It)], by omega, by omega, by go_num, P8.out, encs_grow OK.out HY.out, by rw [List.length_append]; exact Nat.add_le_add_right HLL.out 1⟩
          case measure => simp [intOf]; omega
    · have hdd : ¬ ((m : Int) < n) ∨ ¬ ((m : Int) < 100) := by omega
      have LA := hideIt (show l.length ≤ 100 by have := HLL.out; omega)
      clear HD hlt HY
      by_cases hd1 : (m : Int) < n
      case' pos => have hd2 : ¬ ((m : Int) < 100) := by omega
      all_goals
        clear hdd
        go_wp2_with fail
        refine (wBytes_any _ _ _ _ P5.out.wr (by have := HL.out; omega)).mono ?_
        rintro e w9 ⟨vx, rfl, o9, a9⟩
        have P9 := hideIt (P5.out.after a9)
        have O9 := hideIt (own_base o9 (C := w.heap.size) (fun j hj => by have h1 := (o9.lt j hj).1; have h2 := P5.out.aft.size; omega))
        clear o9 a9 P5
        go_wp2
        go_ret3
        exact ⟨_, _, l, rfl, O9.out, P9.out.wr.2.2.2, by have := HL.out; omega, P9.out.dn, LA.out, P9.out.ok, P9.out.aft⟩
end Go.Proofs.Ytojgkhinddjmaaa
