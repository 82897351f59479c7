/-
  BlockPlays: what a device answers, call by call, is the document's.
-/
import Derived.Test.YtalffdiohjcajaaDbZ
namespace Go.Proofs.Ytalffdiohjcajaa
open Go.RowKit
open Ig Iv
set_option maxRecDepth 8000
theorem own_cur {w : World} {B sz n k : Nat} {t : TypeId} {v : Value} {xs : List Value} (h : w.ownsRow B t sz v n xs) (hk : v.ownBlock = some k) : ∃ cap cur, v = .slice (some ⟨k, 0, none⟩) n cap ∧ w.heap[k]? = some (.cells cur t (0, 0)) := by
  rcases h.2 with ⟨rfl, _⟩ | ⟨g, cap, cur, rfl, _, h3, _⟩
  · cases hk
  · cases hk
    exact ⟨cap, cur, rfl, h3⟩
/-- Rows of noughts, as the document's device has them. -/
theorem sl_of {w : World} {S : Nat → Prop} {v : Value} {ks : List SlB} (h : ORow slE 38 w 0 v ks) {k : Nat} (hk : v.ownBlock = some k) (hz : ∀ x ∈ ks, ZAt w x.b ∧ ¬ S x.b) : SlRow w S k ks.length (fun _ => sec0) := by
  obtain ⟨cap, cur, rfl, hc⟩ := own_cur h hk
  have hat : ∀ i (hi : i < ks.length), cur[i]? = some (.slice (some ⟨ks[i].b, 0, none⟩) 64 ks[i].c) := fun i hi => by
    have h6 := h.cellAt i (by show i < ks.length * 1; omega)
    have h7 : w.cell? ⟨k, i, none⟩ = cur[i]? := by simp [World.cell?, hc]
    rw [h7] at h6
    rw [h6]
    have h8 := slE.flat_at ks i ks[i] (by simp [hi]) 0 (by decide)
    rw [show slE.k = 1 from rfl, Nat.mul_one, Nat.add_zero] at h8
    rw [h8]
    rfl
  refine ⟨cur, hc, ?_, fun i hi => ?_⟩
  · rcases Nat.eq_zero_or_pos ks.length with h0 | h0
    · omega
    · have := (Array.getElem?_eq_some_iff.1 (hat (ks.length - 1) (by omega))).1
      omega
  · have hm : ks[i] ∈ ks := List.getElem_mem hi
    exact ⟨_, _, hat i hi, bytes_row (hz _ hm).1 sec0_sec, (hz _ hm).2⟩
theorem pb_new {w w1 w2 : World} {d g m n g' ht : Nat} {vk vl : Value} {ks ls : List SlB} (h0 : 1 ≤ n) (h1 : n ≤ 256) (hd : DvX w1 d g m (Dv.new n)) (a1 : After w w1) (hn : ∀ k, InD d g m k → w.heap.size ≤ k) (nw : Nw w1 w2 g' ht n vk vl vk vl ks ls) (hk : ks.length = n) (hl : ls.length = n) :
    ∃ p : Pl, p.e = g' ∧ Pb w w2 d g m p (Dv.new n) := by
  obtain ⟨ak, ck, ek, _, hk0, _⟩ := nw.ok.row
  obtain ⟨al, cl, el, _, hl0, _⟩ := nw.ol.row
  have hke : ∃ k, vk.ownBlock = some k := by
    rcases nw.ok.2 with ⟨rfl, h⟩ | ⟨g, cap, cur, rfl, _⟩
    · omega
    · exact ⟨g, rfl⟩
  have hle : ∃ k, vl.ownBlock = some k := by
    rcases nw.ol.2 with ⟨rfl, h⟩ | ⟨g, cap, cur, rfl, _⟩
    · omega
    · exact ⟨g, rfl⟩
  obtain ⟨k, hk1⟩ := hke
  obtain ⟨l, hl1⟩ := hle
  obtain ⟨ck, kcur, rfl, kc⟩ := own_cur nw.ok hk1
  obtain ⟨cl, lcur, rfl, lc⟩ := own_cur nw.ol hl1
  obtain ⟨tcs, tc, _, _⟩ := nw.rt
  have hlt := hd.lt
  have nd : ∀ b, w1.heap.size ≤ b → ¬ InD d g m b := fun b hb e => by have := hlt b e; omega
  have hks := nw.nk k rfl
  have hls := nw.nl l rfl
  have hIn : ∀ b, (⟨g', k, l, ht, ck, cl⟩ : Pl).In b → w1.heap.size ≤ b ∧ b < w2.heap.size := fun b hb => by
    rcases hb with rfl | rfl | rfl | rfl
    · exact ⟨nw.ne, blk_lt nw.at0⟩
    · exact ⟨hks, blk_lt kc⟩
    · exact ⟨hls, blk_lt lc⟩
    · exact ⟨nw.nt, blk_lt tc⟩
  have hz : ∀ x : SlB, ZAt w2 x.b ∧ w1.heap.size ≤ x.b → ZAt w2 x.b ∧ ¬ Bth d g m ⟨g', k, l, ht, ck, cl⟩ x.b := fun x hx => ⟨hx.1, fun e => by
    rcases e with e | e
    · exact nd _ hx.2 e
    · rcases e with e | e | e | e
      · exact ne_type hx.1 nw.at0 (by decide) e
      · exact ne_type hx.1 kc (by decide) e
      · exact ne_type hx.1 lc (by decide) e
      · exact ne_type hx.1 tc (by decide) e⟩
  have sk := sl_of (S := Bth d g m ⟨g', k, l, ht, ck, cl⟩) nw.ok rfl (fun x hx => hz x (nw.zk x hx))
  have sl := sl_of (S := Bth d g m ⟨g', k, l, ht, ck, cl⟩) nw.ol rfl (fun x hx => hz x (nw.zl x hx))
  have at0 := nw.at0
  rw [hk] at sk
  rw [hl] at sl
  rw [hk, hl] at at0
  refine ⟨⟨g', k, l, ht, ck, cl⟩, rfl, hd.after nw.aft, ⟨new_ok h0 h1, at0, sk, sl, nw.rt, fun b hb => .inr hb, fun b hb => ?_, ne_type nw.at0 kc (by decide), ne_type nw.at0 lc (by decide), ne_type nw.at0 tc (by decide), ?_, ne_type kc tc (by decide), ne_type lc tc (by decide)⟩, a1.trans nw.aft, fun b hb => ?_, fun b hb e => nd b (hIn b e).1 hb⟩
  · rcases hb with hb | hb
    · exact Nat.lt_of_lt_of_le (hlt b hb) nw.aft.size
    · exact (hIn b hb).2
  · intro e
    have e : k = l := e
    exact nw.ap k rfl (by rw [e]; rfl)
  · rcases hb with hb | hb
    · exact hn b hb
    · exact Nat.le_trans a1.size (hIn b hb).1
/-- A call, in cells. -/
def doE : Enc Dox where
  k := 5
  enc x := [.int .i64 x.k, .int .i64 x.i, .int .i64 x.v, .int .i64 x.s, .slice x.a x.n x.c]
  len _ := rfl
  one x u hu := by
    simp only [List.mem_cons, List.not_mem_nil, or_false] at hu
    rcases hu with rfl | rfl | rfl | rfl | rfl <;> rfl
  pos := by decide
/-- A call that is handed in. -/
def DoIn (w : World) (x : Dox) : Prop := ∃ ch, Din w (fun k => w.heap.size ≤ k) x ch
theorem DoIn.din {w W : World} {T : Nat → Prop} {x : Dox} (h : DoIn w x) (a : After w W) (hT : ∀ k, T k → w.heap.size ≤ k) : ∃ ch, Din W T x ch := by
  obtain ⟨ch, h⟩ := h
  exact ⟨ch, { h.after a with off := fun y hy h0 e => h.off y hy h0 (hT _ e) }⟩
theorem din_read (W : World) (T : Nat → Prop) (i : Int) (h0 : -9223372036854775808 ≤ i) (h1 : i ≤ 9223372036854775807) : Din W T ⟨0, i, 0, 0, none, 0, 0⟩ [] :=
  ⟨(by show (-9223372036854775808 : Int) ≤ 0; decide), (by show (0 : Int) ≤ 9223372036854775807; decide), h0, h1, (by show (-9223372036854775808 : Int) ≤ 0; decide), (by show (0 : Int) ≤ 9223372036854775807; decide), IRow.nil _ _, fun _ => ⟨rfl, rfl⟩, Nat.le_refl _, (by show (0 : Nat) ≤ 17592186044416; decide), (fun z hz => by cases hz), fun y hy => by cases hy⟩
abbrev bt5 (q : Nat) : Dox := ⟨5, 0, 0, 0, some ⟨q, 0, none⟩, 5, 5⟩
theorem din_boot {W : World} {T : Nat → Prop} {q : Nat} (h : W.heap[q]? = some (.cells #[.int .i64 2, .int .i64 5, .int .i64 1, .int .i64 0, .int .i64 188] 3 (0, 0))) (hT : ¬ T q) : Din W T (bt5 q) [2, 5, 1, 0, 188] :=
  ⟨(by show (-9223372036854775808 : Int) ≤ 5; decide), (by show (5 : Int) ≤ 9223372036854775807; decide), (by show (-9223372036854775808 : Int) ≤ 0; decide), (by show (0 : Int) ≤ 9223372036854775807; decide), (by show (-9223372036854775808 : Int) ≤ 0; decide), (by show (0 : Int) ≤ 9223372036854775807; decide), lit_irow h rfl rfl, (fun e => by cases e), Nat.le_refl _, (by show (5 : Nat) ≤ 17592186044416; decide), (fun z hz => by
    simp only [List.mem_cons, List.not_mem_nil, or_false] at hz
    omega), fun y hy _ e => by cases hy; exact hT e⟩
/-- The next call that is handed in. -/
theorem do_at {w : World} {a : Option Addr} {nl : Nat} {xs : List Dox} (hx : GRow doE w a nl xs) {j : Nat} (hj : j < nl) : ∃ b off x, a = some ⟨b, off, none⟩ ∧ b < w.heap.size ∧ x ∈ xs ∧ w.cell? ⟨b, off + j * 5, none⟩ = some (.int .i64 x.k) ∧ w.cell? ⟨b, off + j * 5 + 1, none⟩ = some (.int .i64 x.i) ∧ w.cell? ⟨b, off + j * 5 + 2, none⟩ = some (.int .i64 x.v) ∧ w.cell? ⟨b, off + j * 5 + 3, none⟩ = some (.int .i64 x.s) ∧ w.cell? ⟨b, off + j * 5 + 4, none⟩ = some (.slice x.a x.n x.c) := by
  obtain ⟨b, off, x, e, hb, hx1, h1⟩ := hx.2 j hj
  exact ⟨b, off, x, e, hb, List.mem_of_getElem? hx1, h1 0 _ rfl, h1 1 _ rfl, h1 2 _ rfl, h1 3 _ rfl, h1 4 _ rfl⟩
set_option maxHeartbeats 4000000 in
theorem law_plays22 (w : World) (n : Int) (hn0 : -9223372036854775808 ≤ n) (hn1 : n ≤ 9223372036854775807) (a : Option Addr) (nl c : Nat) (xs : List Dox) (hx : GRow doE w a nl xs) (hd : ∀ x ∈ xs, DoIn w x) :
    Calls Try.prog 3 #[.int .i64 n, .slice a nl c] w fun e w' => e = .returned (.bool true) ∧ After w w' := by
  have HA := hideIt (fun W => awakeB_any W)
  by_cases hbad : n < 1 ∨ 256 < n
  · have HN := hideIt (dvNew_no w n hbad)
    have HM := hideIt (fun W => rvNew_no W n hbad)
    clear hbad hn0 hn1 hx hd
    go_enter Try.func3, Try.ntmps3
    go_wp2_with (first
      | (go_at_call 8; refine HN.out.mono ?_; rintro e w1 ⟨rfl, h1⟩; obtain rfl := h1.symm)
      | (go_at_call 9; refine (HM.out _).mono ?_; rintro e w1 ⟨rfl, h1⟩; obtain rfl := h1.symm)
      | (go_at_call 10; refine (HA.out _).mono ?_; rintro e w1 ⟨rfl, a1⟩; have A1 := hideIt a1; clear a1)
      | fail)
    go_ret
    exact ⟨rfl, A1.out⟩
  · obtain ⟨N, rfl⟩ : ∃ N : Nat, n = N := ⟨n.toNat, by omega⟩
    have h0 : 1 ≤ N := by omega
    have h1 : N ≤ 256 := by omega
    have HN := hideIt (sole_new w N h0 h1)
    have HM := hideIt (fun W => rvNew_any W N h0 h1)
    have HH := hideIt (And.intro h0 h1)
    have HX := hideIt (And.intro hx hd)
    have hN256 : (N : Int) ≤ 256 := by omega
    clear hbad hn0 hn1 hx hd h0 h1
    go_enter Try.func3, Try.ntmps3
    go_wp2_with fail
    refine HN.out.mono ?_
    rintro e w1 ⟨d, g, m, rfl, s1⟩
    have S1 := hideIt s1
    clear s1 HN
    go_wp2_with fail
    refine (HM.out w1).mono ?_
    rintro e w2 ⟨g', ht, vk, vl, ks, ls, rfl, nw, hk, hl⟩
    obtain ⟨p, rfl, pb⟩ := pb_new HH.out.1 HH.out.2 S1.out.dv S1.out.af S1.out.new nw hk hl
    have P0 := hideIt pb
    clear nw hk hl pb HM S1
    go_wp2_with fail
    go_loopw [9] (fun iv wr => ∃ (j : Nat) (y : Dv), j ≤ nl ∧ j ≤ 200 ∧ iv = .int .i64 j ∧ Pb w wr d g m p y) (fun iv _ => 200 - (intOf iv).toNat)
    case atStart => exact ⟨0, _, Nat.zero_le _, Nat.zero_le _, rfl, P0.out⟩
    case round =>
      obtain ⟨j, y, hj, hj2, rfl, pb⟩ := hrel
      clear P0
      by_cases hgo : j < nl ∧ j < 200
      · obtain ⟨hjn, hj200⟩ := hgo
        have i1 : (j : Int) < (nl : Int) := by omega
        have i2 : (j : Int) < 200 := by omega
        obtain ⟨bb, off, x, rfl, hb, hxm, q0, q1, q2, q3, q4⟩ := do_at HX.out.1 hjn
        have q0 := (pb.aft.cell hb _).trans q0
        have q1 := (pb.aft.cell hb _).trans q1
        have q2 := (pb.aft.cell hb _).trans q2
        have q3 := (pb.aft.cell hb _).trans q3
        have q4 := (pb.aft.cell hb _).trans q4
        obtain ⟨ch, hdin⟩ := (HX.out.2 x hxm).din pb.aft pb.new
        have HS := hideIt (step_any w wr d g m p y pb x ch hdin)
        clear pb hdin hxm hb
        obtain ⟨xk, xi, xv, xsh, xa, xn, xc⟩ := x
        dsimp only at q0 q1 q2 q3 q4
        go_wp2_with (first
          | (go_at_call 11; refine HS.out.mono ?_; rintro e w5 ⟨rfl, y5, p5⟩; have P5 := hideIt p5; clear p5)
          | fail)
        exact ⟨⟨j + 1, _, by omega, by omega, by simp, P5.out⟩, by simp [intOf]; omega⟩
      · have PB := hideIt pb
        clear pb
        have hor : ((j : Int) < (nl : Int) ∧ ¬ (j : Int) < 200) ∨ ¬ (j : Int) < (nl : Int) := by omega
        clear hgo
        rcases hor with ⟨i1, i2⟩ | i1
        all_goals
          go_wp2_with fail
          go_loopw [10] (fun kv wr => ∃ (k : Nat) (y : Dv), k ≤ 2 ∧ kv = .int .i64 k ∧ Pb w wr d g m p y) (fun kv _ => 2 - (intOf kv).toNat)
          case atStart => exact ⟨0, _, Nat.zero_le _, rfl, PB.out⟩
          case round =>
            obtain ⟨k, y2, hk, rfl, pb⟩ := hrel
            clear PB i1
            have PB := hideIt pb
            clear pb
            by_cases hk2 : k < 2
            · have k1 : (k : Int) < 2 := by omega
              go_wp2_with fail
              go_loopw [11] (fun iv wr => ∃ (i : Int) (y : Dv), -1 ≤ i ∧ i ≤ (N : Int) + 1 ∧ iv = .int .i64 i ∧ Pb w wr d g m p y) (fun iv _ => ((N : Int) + 1 - intOf iv).toNat)
              case atStart => exact ⟨-1, _, Int.le_refl _, by omega, rfl, PB.out⟩
              case round =>
                obtain ⟨i, y3, hi0, hi1, rfl, pb⟩ := hrel
                clear PB
                by_cases hgo : i < (N : Int) + 1 ∧ i < 40
                · obtain ⟨j1, j2⟩ := hgo
                  have HS := hideIt (step_any w wr d g m p y3 pb ⟨0, i, 0, 0, none, 0, 0⟩ [] (din_read _ _ i (by omega) (by omega)))
                  clear pb
                  go_wp2_with (first
                    | (go_at_call 11; refine HS.out.mono ?_; rintro e w5 ⟨rfl, y5, p5⟩; have P5 := hideIt p5; clear p5)
                    | fail)
                  exact ⟨⟨i + 1, _, by omega, by omega, rfl, P5.out⟩, by simp [intOf]; omega⟩
                · have HS := hideIt (step_any w (wr.alloc (.cells #[.int .i64 2, .int .i64 5, .int .i64 1, .int .i64 0, .int .i64 188] 3)) d g m p y3 (pb.after (After.rfl.alloc _)) (bt5 wr.heap.size) [2, 5, 1, 0, 188] (din_boot (heap_alloc_new wr _) (fun e => by have := pb.lt _ e; omega)))
                  clear pb
                  have hor : (i < (N : Int) + 1 ∧ ¬ i < 40) ∨ ¬ i < (N : Int) + 1 := by omega
                  clear hgo
                  rcases hor with ⟨j1, j2⟩ | j1
                  all_goals
                    go_wp2_with (first
                      | (go_at_call 11; refine HS.out.mono ?_; rintro e w5 ⟨rfl, y5, p5⟩; have P5 := hideIt p5; clear p5)
                      | fail)
                    exact ⟨⟨k + 1, _, by omega, by simp, P5.out⟩, by simp [intOf]; omega⟩
            · obtain rfl : k = 2 := by omega
              go_wp2_with (first
                | (go_at_call 10; refine (HA.out _).mono ?_; rintro e w9 ⟨rfl, a9⟩; have A9 := hideIt a9; clear a9)
                | fail)
              go_ret
              exact ⟨rfl, PB.out.aft.trans A9.out⟩
end Go.Proofs.Ytalffdiohjcajaa
