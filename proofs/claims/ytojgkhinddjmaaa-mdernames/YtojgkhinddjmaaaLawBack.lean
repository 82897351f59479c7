/-
  The walk of MderBack.
-/
import Derived.Test.YtojgkhinddjmaaaWritten
namespace Go.Proofs.Ytojgkhinddjmaaa
open Go.RowKit
/-- The cells of a call that was done. -/
theorem done_at {w : World} {B nd cd : Nat} {ad : Option Addr} {l : List It} (h : w.ownsRow B 48 3 (.slice ad nd cd) l.length (cellsAll l)) (hn : nd = l.length) {m : Nat} (hm : m < l.length) :
    ∃ gd, ad = some ⟨gd, 0, none⟩ ∧ gd < w.heap.size ∧ w.cell? ⟨gd, m * 3, none⟩ = some (.int .i64 (l[m]).kd) ∧ w.cell? ⟨gd, m * 3 + 1, none⟩ = some (.int .i64 (l[m]).x) ∧ w.cell? ⟨gd, m * 3 + 2, none⟩ = some (.slice (l[m]).a (l[m]).n (l[m]).c) := by
  subst hn
  rcases h.2 with ⟨e, e0⟩ | ⟨gd, cap, cur, e, _⟩
  · omega
  · cases e
    refine ⟨gd, rfl, (h.lt gd rfl).2, ?_, ?_, ?_⟩
    · rw [h.cellAt (m * 3) (by omega)]; exact cellsAll_at l m hm 0 (by decide)
    · rw [h.cellAt (m * 3 + 1) (by omega)]; exact cellsAll_at l m hm 1 (by decide)
    · rw [h.cellAt (m * 3 + 2) (by omega)]; exact cellsAll_at l m hm 2 (by decide)
set_option maxRecDepth 100000 in
set_option maxHeartbeats 4000000 in
theorem back_walk (a : Option Addr) (n c : Nat) (w : World) (hd : Dos w a n) (hn : n ≤ 140737488355328) :
    Calls Try.prog 5 #[.slice a n c] w fun e w' => e = .returned (.bool true) ∧ After w w' := by
  have HD := hideIt hd
  have HN := hideIt hn
  clear hd hn
  go_enter Try.func5, Try.ntmps5
  go_wp2_with fail
  refine (awake_any _).mono ?_
  rintro e w1 ⟨rfl, a1⟩
  have A1 := hideIt a1
  clear a1
  go_wp2_with fail
  refine (written_any _ _ _ _ (HD.out.after A1.out) HN.out).mono ?_
  rintro e w2 ⟨x, d, l, rfl, ox, hbs, hxl, od, hll, hok, a2⟩
  obtain ⟨ax, cx, rfl, rx, tx, _⟩ := own_row ox hbs
  obtain ⟨ad, cd, rfl⟩ := own_slice od
  have RX := hideIt rx
  have TX := hideIt tx
  have XL := hideIt hxl
  have OD := hideIt od
  have LL := hideIt hll
  have HOK := hideIt hok
  have A2 := hideIt a2
  clear rx tx hxl od hll hok a2 ox hbs HD HN
  obtain ⟨zs, hzs⟩ : ∃ zs, encs l = zs := ⟨_, rfl⟩
  have HZ := hideIt hzs
  rw [hzs] at RX TX XL ⊢
  clear hzs
  obtain ⟨nz, hnz⟩ : ∃ nz, zs.length = nz := ⟨_, rfl⟩
  rw [hnz] at RX TX XL ⊢
  clear hnz
  obtain ⟨nd, hnd⟩ : ∃ nd, l.length = nd := ⟨_, rfl⟩
  have ND := hideIt hnd
  have hnd2 : (nd : Int) ≤ 100 := by have := LL.out; omega
  have OD2 : Hid (w2.ownsRow w1.heap.size 48 3 (.slice ad nd cd) l.length (cellsAll l)) := hideIt (by have := OD.out; rw [hnd] at this ⊢; exact this)
  rw [hnd]
  clear hnd OD
  go_wp2_with fail
  refine (new_any _ _ _ _ _ RX.out TX.out (by have := XL.out; omega)).mono ?_
  rintro e w3 ⟨g, h, rfl, r3, l1, l2, a3⟩
  have R3 := hideIt r3
  have G3 := hideIt (show w1.heap.size ≤ g ∧ ∀ j, (Value.slice ad nd cd).ownBlock = some j → j ≠ g from ⟨by have := A2.out.size; omega, fun j hj e => by have := (OD2.out.lt j hj).2; omega⟩)
  have A3 := hideIt (A2.out.trans a3)
  have O3 := hideIt (own_after OD2.out a3)
  clear r3 l1 l2 a3 RX TX XL OD2 A2
  go_wp2_with fail
  go_loopw [7] (fun i W => ∃ m : Nat, m ≤ nd ∧ i = .int .i64 m ∧ RdAt W g h (encs (l.drop m)) ∧ W.ownsRow w1.heap.size 48 3 (.slice ad nd cd) l.length (cellsAll l) ∧ After w1 W) (fun i _ => nd - (intOf i).toNat)
  case atStart => exact ⟨0, by omega, rfl, by rw [List.drop_zero, HZ.out]; exact R3.out, O3.out, A3.out⟩
  case round =>
    obtain ⟨m, hm, rfl, hr, ho, ha⟩ := hrel
    by_cases hlt : m < nd
    · have hml : m < l.length := by have := ND.out; omega
      obtain ⟨gd, rfl, hgd, c0, c1, c2⟩ := done_at ho ND.out.symm hml
      have OK := hideIt (HOK.out (l[m]) (List.getElem_mem _))
      have hdr := encs_drop l m hml
      obtain ⟨it, hit⟩ : ∃ it, l[m] = it := ⟨_, rfl⟩
      rw [hit] at c0 c1 c2 hdr OK
      obtain ⟨rest, hrest⟩ : ∃ rest, encs (l.drop (m + 1)) = rest := ⟨_, rfl⟩
      rw [hrest] at hdr
      rw [hdr] at hr
      have RS := hideIt hrest
      clear hit hdr hrest hml
      obtain ⟨kd, x, ab, nb, cb, bs⟩ := it
      dsimp only at c0 c1 c2
      have hk4 : kd < 4 := OK.out.k4
      have h4 : kd = 0 ∨ kd = 1 ∨ kd = 2 ∨ kd = 3 := by omega
      have HO := hideIt ho
      have HA := hideIt ha
      have HR := hideIt hr
      have LT := hideIt hr.lt
      have hki : (m : Int) < nd := by omega
      clear ho ha hr R3 A3 O3 HZ hk4
      rcases h4 with rfl | rfl | rfl | rfl
      · have he : (⟨0, x, ab, nb, cb, bs⟩ : It).enc = bytesOf 1 x := It.enc0 rfl
        rw [he] at HR
        clear he
        obtain ⟨y1, y2, y3⟩ := read_k (k := 1) (r := rest) (be1 (OK.out.u8 rfl))
        have Y1 := hideIt y1
        have Y2 := hideIt y2
        have Y3 := hideIt y3
        clear y1 y2 y3
        go_wp2_with fail
        refine (u8_any _ _ _ _ (HR.out.after (After.rfl.alloc _))).mono ?_
        rintro e w5 ⟨rfl, r5, b5⟩
        rw [Y1.out, Y2.out]
        rw [Y3.out] at r5
        have R5 := hideIt r5
        have h5 : w5.heap[wr.heap.size]? = some (.cells #[.int .i64 0, .int .i64 x, .slice ab nb cb] 48 (0, 0)) := (b5.block wr.heap.size (by simp) (fun t => by have t2 : wr.heap.size = g := t; have := LT.out; omega)).trans (heap_alloc_new wr _)
        obtain ⟨_, z0, z1, z2, zf0, zf1, zf2⟩ := three_at h5
        have O5 := hideIt (own_but (HO.out.alloc _) b5 (fun j hj t => G3.out.2 j hj t))
        have A5 := hideIt ((HA.out.alloc (.cells #[.int .i64 0, .int .i64 x, .slice ab nb cb] 48)).then b5 (fun i hi t => by have t2 : i = g := t; have := G3.out.1; omega))
        clear r5 b5 HO HA HR h5 c0 c1 c2
        go_wp2
        go_roundw
        case rel => exact ⟨m + 1, by omega, by go_num, by rw [RS.out]; exact R5.out, O5.out, A5.out⟩
        case measure => simp [intOf]; omega
      · have he : (⟨1, x, ab, nb, cb, bs⟩ : It).enc = bytesOf 2 x := It.enc1 rfl
        rw [he] at HR
        clear he
        obtain ⟨y1, y2, y3⟩ := read_k (k := 2) (r := rest) (be2 (OK.out.u16 rfl))
        have Y1 := hideIt y1
        have Y2 := hideIt y2
        have Y3 := hideIt y3
        clear y1 y2 y3
        go_wp2_with fail
        refine (u16_any _ _ _ _ (HR.out.after (After.rfl.alloc _))).mono ?_
        rintro e w5 ⟨rfl, r5, b5⟩
        rw [Y1.out, Y2.out]
        rw [Y3.out] at r5
        have R5 := hideIt r5
        have h5 : w5.heap[wr.heap.size]? = some (.cells #[.int .i64 1, .int .i64 x, .slice ab nb cb] 48 (0, 0)) := (b5.block wr.heap.size (by simp) (fun t => by have t2 : wr.heap.size = g := t; have := LT.out; omega)).trans (heap_alloc_new wr _)
        obtain ⟨_, z0, z1, z2, zf0, zf1, zf2⟩ := three_at h5
        have O5 := hideIt (own_but (HO.out.alloc _) b5 (fun j hj t => G3.out.2 j hj t))
        have A5 := hideIt ((HA.out.alloc (.cells #[.int .i64 1, .int .i64 x, .slice ab nb cb] 48)).then b5 (fun i hi t => by have t2 : i = g := t; have := G3.out.1; omega))
        clear r5 b5 HO HA HR h5 c0 c1 c2
        go_wp2
        go_roundw
        case rel => exact ⟨m + 1, by omega, by go_num, by rw [RS.out]; exact R5.out, O5.out, A5.out⟩
        case measure => simp [intOf]; omega
      · have he : (⟨2, x, ab, nb, cb, bs⟩ : It).enc = bytesOf 4 (IntKind.u32.wrap x) := It.enc2 rfl
        rw [he] at HR
        clear he
        obtain ⟨y1, y2, y3⟩ := read_k (k := 4) (r := rest) (be4 (u32_of x))
        have Y1 := hideIt y1
        have Y2 := hideIt y2
        have Y3 := hideIt y3
        clear y1 y2 y3
        go_wp2_with fail
        refine (u32_any _ _ _ _ (HR.out.after (After.rfl.alloc _))).mono ?_
        rintro e w5 ⟨rfl, r5, b5⟩
        rw [Y1.out, Y2.out]
        rw [Y3.out] at r5
        have R5 := hideIt r5
        have h5 : w5.heap[wr.heap.size]? = some (.cells #[.int .i64 2, .int .i64 x, .slice ab nb cb] 48 (0, 0)) := (b5.block wr.heap.size (by simp) (fun t => by have t2 : wr.heap.size = g := t; have := LT.out; omega)).trans (heap_alloc_new wr _)
        obtain ⟨_, z0, z1, z2, zf0, zf1, zf2⟩ := three_at h5
        have O5 := hideIt (own_but (HO.out.alloc _) b5 (fun j hj t => G3.out.2 j hj t))
        have A5 := hideIt ((HA.out.alloc (.cells #[.int .i64 2, .int .i64 x, .slice ab nb cb] 48)).then b5 (fun i hi t => by have t2 : i = g := t; have := G3.out.1; omega))
        clear r5 b5 HO HA HR h5 c0 c1 c2
        go_wp2
        go_roundw
        case rel => exact ⟨m + 1, by omega, by go_num, by rw [RS.out]; exact R5.out, O5.out, A5.out⟩
        case measure => simp [intOf]; omega
      · have he : (⟨3, x, ab, nb, cb, bs⟩ : It).enc = bytesOf 2 bs.length ++ bs := It.enc3 rfl
        rw [he] at HR
        clear he
        have hbl : bs.length = nb := OK.out.row.1
        obtain ⟨y1, y2, y3⟩ := read_o (bs := bs) (r := rest) (by have h1 := OK.out.len; dsimp only at h1; omega)
        have Y1 := hideIt y1
        have Y2 := hideIt y2
        have Y3 := hideIt y3
        have BL := hideIt hbl
        clear y1 y2 y3 hbl
        go_wp2_with fail
        refine (octets_any _ _ _ _ (HR.out.after (After.rfl.alloc _))).mono ?_
        rintro e w5 ⟨v5, rfl, o5, r5, b5⟩
        rw [Y2.out]
        rw [Y3.out] at r5
        rw [Y1.out, BL.out] at o5
        obtain ⟨av, cv, rfl, rv, _⟩ := own_row o5 OK.out.row.2.1
        have RV := hideIt rv
        have R5 := hideIt r5
        clear o5 rv
        have h5 : w5.heap[wr.heap.size]? = some (.cells #[.int .i64 3, .int .i64 x, .slice ab nb cb] 48 (0, 0)) := (b5.block wr.heap.size (by simp) (fun t => by have t2 : wr.heap.size = g := t; have := LT.out; omega)).trans (heap_alloc_new wr _)
        obtain ⟨_, z0, z1, z2, zf0, zf1, zf2⟩ := three_at h5
        have O5 := hideIt (own_but (HO.out.alloc _) b5 (fun j hj t => G3.out.2 j hj t))
        have A5 := hideIt ((HA.out.alloc (.cells #[.int .i64 3, .int .i64 x, .slice ab nb cb] 48)).then b5 (fun i hi t => by have t2 : i = g := t; have := G3.out.1; omega))
        clear r5 b5 HO HA HR h5 c0 c1 c2
        have RW := hideIt (OK.out.row.after A5.out)
        have hnb : (nb : Int) ≤ 300 := by have h1 := OK.out.len; dsimp only at h1; omega
        go_wp2_with fail
        refine (eqBytes_same _ _ _ _ _ _ _ RV.out RW.out (by omega)).mono ?_
        rintro e w6 ⟨rfl, a6⟩
        have R6 := hideIt (R5.out.after a6)
        have O6 := hideIt (own_after O5.out a6)
        have A6 := hideIt (A5.out.trans a6)
        clear a6 R5 O5 A5 RV RW z0 z1 z2 zf0 zf1 zf2
        go_wp2
        go_roundw
        case rel => exact ⟨m + 1, by omega, by go_num, by rw [RS.out]; exact R6.out, O6.out, A6.out⟩
        case measure => simp [intOf]; omega
    · obtain rfl : m = nd := by omega
      have he : encs (l.drop m) = [] := by rw [← ND.out]; exact encs_end l
      rw [he] at hr
      have HR := hideIt hr
      have HA := hideIt ha
      clear hr ho ha he R3 A3 O3 HZ
      go_wp2_with fail
      refine (left_any _ _ _ _ HR.out).mono ?_
      rintro e w9 ⟨rfl, rfl⟩
      rw [show ((([] : List Int).length : Nat) : Int) = 0 from rfl]
      go_wp2
      go_ret
      exact ⟨rfl, A1.out.trans HA.out⟩
end Go.Proofs.Ytojgkhinddjmaaa
