/-
  The document's reader: ticks, compared, since, and, or.
-/
import Derived.Test.YtlfcihanhfabmaaGreatDoorNrB
import Derived.Test.YtlfcihanhfabmaaGreatDoorX1RefParse2
namespace Go.Proofs.YtlfcihanhfabmaaGreatDoor
open Go.RowKit
set_option maxRecDepth 8000
open L1 (S)
/-- What a part of the grammar comes to: a node's number, or it is wrong. -/
def DTold (w0 : World) (g : Nat) (s : W8) (d : Nat) (v : Value) (w : World) (m : Nat) (r : Rs) (e : Ending) (w' : World) : Prop :=
  match r with
  | .ok h => ∃ v' ts', wds ts' = h.ws ∧ e = .returned (.int .i64 (h.i : Int)) ∧ RfX w0 w' g s d v' ts' h.ns ∧ Goes g v w v' w'
  | .error k => ∃ z v', e = .returned (.int .i64 z) ∧ RfW w0 w' g s d v' k m ∧ Goes g v w v' w'
/-- A part of the grammar is read as it should be, where fewer than n words are left. -/
def DDoes (F : Nat) (w0 : World) (g : Nat) (s : W8) (d : Nat) (p : List W8 → List Nd → Rs) (n : Nat) : Prop :=
  ∀ w v ts ns, ts.length < n → RfX w0 w g s d v ts ns → Calls Tryz.prog F #[Ptr g] w fun e w' => DTold w0 g s d v w (ns.length + ts.length) (p (wds ts) ns) e w'
theorem DDoes.no {F : Nat} {w0 : World} {g : Nat} {s : W8} {d : Nat} {p : List W8 → List Nd → Rs} {n : Nat} (D : DDoes F w0 g s d p n) {w : World} {v : Value} {ts : List (Nat × W8)} {ns : List Nd} {k : Nat} (hr : p (wds ts) ns = .error k) (hn : ts.length < n) (x : RfX w0 w g s d v ts ns) :
    Calls Tryz.prog F #[Ptr g] w fun e w' => ∃ z v', e = .returned (.int .i64 z) ∧ RfW w0 w' g s d v' k (ns.length + ts.length) ∧ Goes g v w v' w' := by
  have := D w v ts ns hn x
  rw [hr] at this
  exact this
theorem DDoes.yes {F : Nat} {w0 : World} {g : Nat} {s : W8} {d : Nat} {p : List W8 → List Nd → Rs} {n : Nat} (D : DDoes F w0 g s d p n) {w : World} {v : Value} {ts : List (Nat × W8)} {ns : List Nd} {h : Got} (hr : p (wds ts) ns = .ok h) (hn : ts.length < n) (x : RfX w0 w g s d v ts ns) :
    Calls Tryz.prog F #[Ptr g] w fun e w' => ∃ v' ts', wds ts' = h.ws ∧ e = .returned (.int .i64 (h.i : Int)) ∧ RfX w0 w' g s d v' ts' h.ns ∧ Goes g v w v' w' := by
  have := D w v ts ns hn x
  rw [hr] at this
  exact this
theorem RfX.nodes {w0 w : World} {g : Nat} {s : W8} {d : Nat} {v : Value} {ts : List (Nat × W8)} {ns : List Nd} (x : RfX w0 w g s d v ts ns) : nodesOf g w = ns.length := by
  obtain ⟨i, hb⟩ := x.blk
  unfold nodesOf
  rw [(five_at hb).2.2.2.2.2.1]
  obtain ⟨a, c, rfl, _⟩ := x.own.row
  rfl
/-- How far a loop has to go: as long as it is not wrong. -/
def goOf (g : Nat) (W : World) : Nat :=
  match W.cell? ⟨g, 2, none⟩ with
  | some (.bool true) => 0
  | _ => 1 + (2048 - nodesOf g W)
theorem RfX.go {w0 w : World} {g : Nat} {s : W8} {d : Nat} {v : Value} {ts : List (Nat × W8)} {ns : List Nd} (x : RfX w0 w g s d v ts ns) : goOf g w = 1 + (2048 - ns.length) := by
  obtain ⟨i, hb⟩ := x.blk
  unfold goOf
  rw [(five_at hb).2.2.2.1, x.nodes]
theorem RfW.go {w0 w : World} {g : Nat} {s : W8} {d : Nat} {v : Value} {k m : Nat} (x : RfW w0 w g s d v k m) : goOf g w = 0 := by
  obtain ⟨i, hb⟩ := x.blk
  unfold goOf
  rw [(five_at hb).2.2.2.1]
theorem ticks_doc {w0 w : World} {g : Nat} {s : W8} {d : Nat} {v : Value} {ts : List (Nat × W8)} {ns : List Nd} (x : RfX w0 w g s d v ts ns) :
    Calls Tryz.prog 105 #[Ptr g] w fun e w' => (∀ k, tickOf (hdT ts) = some k → e = .returned (.int .i64 (k : Int)) ∧ RfX w0 w' g s d v ts.tail ns ∧ But (One g) w w') ∧ (tickOf (hdT ts) = none → e = .returned (.int .i64 0) ∧ RfW w0 w' g s d v ts.length ns.length ∧ But (One g) w w') := by
  have HX := hideIt x
  obtain ⟨N, hN, hno, hyes⟩ : ∃ N, N ≤ 65 ∧ (∀ j, j < N → ¬ hdT ts = dig j) ∧ (N < 65 → hdT ts = dig N ∧ tickOf (hdT ts) = some N) ∧ (N = 65 → tickOf (hdT ts) = none) := by
    rcases hc : tickOf (hdT ts) with _ | c
    · exact ⟨65, Nat.le_refl _, fun j hj e => by have := find_none hc j hj; simp [e] at this, fun h => absurd h (by omega), fun _ => rfl⟩
    · obtain ⟨h1, h2, h3⟩ := find_some hc
      exact ⟨c, by omega, fun j hj e => by have := h3 j hj; simp [e] at this, fun _ => ⟨by simpa using (of_decide_eq_true h2).symm, rfl⟩, fun h => absurd h (by omega)⟩
  have HN := hideIt (And.intro hN (And.intro hno hyes))
  clear x hN hno hyes
  go_enter Tryz.func105, Tryz.ntmps105
  go_wp2_with fail
  go_loopw [3] (fun i wr => ∃ j : Nat, j ≤ N ∧ i = .int .i64 j ∧ RfX w0 wr g s d v ts ns ∧ But (One g) w wr) (fun i _ => 65 - (intOf i).toNat)
  case atStart => exact ⟨0, Nat.zero_le _, rfl, HX.out, But.rfl⟩
  case round =>
    obtain ⟨j, hj, rfl, x1, bw⟩ := hrel
    have HX1 := hideIt (And.intro x1 bw)
    by_cases hj8 : j < 65
    · have i1 : (j : Int) ≤ 64 := by omega
      have HC := hideIt (fun W => digits_any j (by omega) W)
      by_cases hjN : j < N
      · have HJ := hideIt hjN
        have HNo := hideIt (HN.out.2.1 j hjN)
        clear x1 bw hj hjN hj8
        go_wp2_with fail
        refine (HC.out _).mono ?_
        rintro e w1 ⟨rfl, a1⟩
        have HA1 := hideIt a1
        clear a1
        go_wp2_with fail
        refine (take_no (HX1.out.1.after HA1.out) HNo.out).mono ?_
        rintro e w2 ⟨rfl, y, b⟩
        have HY := hideIt (And.intro y ((HX1.out.2.then HA1.out (fun _ _ t => t.elim)).trans b))
        clear y b
        go_wp2_with fail
        go_roundw
        case rel => exact ⟨j + 1, HJ.out, by go_num, HY.out.1, HY.out.2⟩
        case measure => simp [intOf]; omega
      · have hjN' : j = N := by omega
        obtain ⟨h1, h2⟩ := HN.out.2.2.1 (by omega)
        rw [← hjN'] at h1 h2
        have H1 := hideIt h1
        have H2 := hideIt h2
        clear x1 bw hj hjN hj8 hjN' h1 h2
        go_wp2_with fail
        refine (HC.out _).mono ?_
        rintro e w1 ⟨rfl, a1⟩
        have HA1 := hideIt a1
        clear a1
        go_wp2_with fail
        refine (take_yes (HX1.out.1.after HA1.out) H1.out).mono ?_
        rintro e w2 ⟨rfl, y, b⟩
        have HY := hideIt (And.intro y ((HX1.out.2.then HA1.out (fun _ _ t => t.elim)).trans b))
        clear y b
        go_wp2_with fail
        go_ret
        rw [H2.out]
        exact ⟨fun k hk => by cases hk; exact ⟨rfl, HY.out.1, HY.out.2⟩, fun h => by cases h⟩
    · have hj' : j = 65 := by have := HN.out.1; omega
      have H2 := hideIt (HN.out.2.2.2 (by have := HN.out.1; omega))
      subst hj'
      obtain ⟨i, hb⟩ := x1.blk
      obtain ⟨hg, c0, c1, c2, c3, c4, hz⟩ := five_at hb
      have hz2 := hz 2
      clear x1 bw hj hj8 hb hz
      go_wp2
      go_ret
      rw [H2.out]
      exact ⟨(fun k hk => by cases hk), fun _ => ⟨rfl, HX1.out.1.wrong rfl (Nat.le_refl _), HX1.out.2.trans (but_one _ _ _ _)⟩⟩
theorem compared_doc {w0 w : World} {g : Nat} {s : W8} {d : Nat} {v : Value} {ts : List (Nat × W8)} {ns : List Nd} (x : RfX w0 w g s d v ts ns) (op : Int) (c : Nat) (hl : ns.length + ts.length + 1 ≤ 1024) :
    Calls Tryz.prog 114 #[Ptr g, .int .i64 op, .int .i64 (c : Int)] w fun e w' => DTold w0 g s d v w (ns.length + ts.length) (cmpP op c (wds ts) ns) e w' := by
  have HX := hideIt x
  have HW := hideIt (wordX_doc x)
  have hwl : (hdT ts).length ≤ 1024 := by
    obtain ⟨i, z, h1, h2⟩ := x.ex
    have := (cur_of (s := s) (i := i) h1 x.tail h2).2.2.le
    have := x.len
    omega
  have HP := hideIt (fun W => L1.refParse_any (S (hdT ts)) W (by rw [L1.S_size]; unfold maxLen; omega))
  rw [L1.S_list] at HP
  have HLen := hideIt hl
  by_cases hE : L1.parseE (hdT ts) = 0
  · have e0 : cmpP op c (wds ts) ns = putN ns ⟨op, c, 0, L1.parseV (hdT ts)⟩ (wds ts).tail := by
      unfold cmpP numOf
      rw [hd_wds, if_pos hE]
    have HE0 := hideIt e0
    rw [hE] at HP
    have HH := hideIt (rfl : hdT ts = hdT ts)
    obtain ⟨V, hV⟩ : ∃ V, V = L1.parseV (hdT ts) := ⟨_, rfl⟩
    rw [← hV] at HP HE0
    clear x hwl hE e0 hV hl
    obtain ⟨wd, hwd⟩ : ∃ wd, hdT ts = wd := ⟨_, rfl⟩
    have HWd := hideIt hwd
    rw [hwd] at HW HP
    clear hwd HH
    go_enter Tryz.func114, Tryz.ntmps114
    go_wp2_with fail
    refine HW.out.mono ?_
    rintro e w1 ⟨rfl, y, b⟩
    have HY := hideIt (And.intro (HX.out.at_word y) b)
    clear y b
    go_wp2_with fail
    refine (HP.out _).mono ?_
    rintro e w2 ⟨rfl, rfl⟩
    go_wp2_with fail
    refine (take_yes HY.out.1 HWd.out).mono ?_
    rintro e w3 ⟨rfl, y3, b3⟩
    have HY3 := hideIt (And.intro y3 (HY.out.2.trans b3))
    have HAd := hideIt (putX y3 ⟨op, c, 0, V⟩ (by have := HLen.out; simp; omega))
    unfold Nd.val at HAd
    clear y3 b3
    go_wp2_with fail
    refine HAd.out.mono ?_
    rintro e w4 ⟨v4, rfl, y4, k4⟩
    have HY4 := hideIt (And.intro y4 k4)
    clear y4 k4
    go_wp2
    go_ret
    rw [HE0.out]
    exact ⟨v4, ts.tail, wds_tail ts, rfl, HY4.out.1, (Goes.one HY3.out.2).trans HY4.out.2⟩
  · have e0 : cmpP op c (wds ts) ns = .error ts.length := by
      unfold cmpP numOf
      rw [hd_wds, if_neg hE]
      show Except.error (wds ts).length = _
      rw [wds_length]
    have HE0 := hideIt e0
    obtain ⟨E, hEE⟩ : ∃ E, E = L1.parseE (hdT ts) := ⟨_, rfl⟩
    obtain ⟨V, hV⟩ : ∃ V, V = L1.parseV (hdT ts) := ⟨_, rfl⟩
    rw [← hV, ← hEE] at HP
    have hb : (E == 0) = false := by rw [hEE]; simpa using hE
    clear x hwl hE e0 hV hl hEE
    generalize hdT ts = wd at *
    go_enter Tryz.func114, Tryz.ntmps114
    go_wp2_with fail
    refine HW.out.mono ?_
    rintro e w1 ⟨rfl, y, b⟩
    have y2 := HX.out.at_word y
    have HY := hideIt (And.intro y2 b)
    obtain ⟨i, hbk⟩ := y2.blk
    obtain ⟨hg, c0, c1, c2, c3, c4, hz⟩ := five_at hbk
    have hz2 := hz 2
    clear y b y2 hbk hz
    go_wp2_with fail
    refine (HP.out _).mono ?_
    rintro e w2 ⟨rfl, rfl⟩
    go_wp2_with fail
    go_ret
    rw [HE0.out]
    exact ⟨0, v, rfl, HY.out.1.wrong rfl (by omega), (Goes.one HY.out.2).trans (Goes.one (but_one _ _ _ _))⟩
set_option maxHeartbeats 1000000 in
theorem sinceD {w0 : World} {g : Nat} {s : W8} {d n : Nat} {u : List W8 → List Nd → Rs} (hf : ∀ ws ns, Fine (u ws ns) ws ns) (D : DDoes 98 w0 g s d u n) : DDoes 76 w0 g s d (sinP u) n := by
  intro w v ts ns hn x
  have HX := hideIt x
  have HN := hideIt hn
  have HD := hideIt D
  rcases hr : u (wds ts) ns with k | h
  · have HR := hideIt hr
    have HW : Hid (sinP u (wds ts) ns = .error k) := hideIt (bnd_no hr)
    clear x hn D hr
    go_enter Tryz.func76, Tryz.ntmps76
    go_wp2_with fail
    refine (HD.out.no HR.out HN.out HX.out).mono ?_
    rintro e w1 ⟨z, v1, rfl, y1, k1⟩
    have HY1 := hideIt (And.intro y1 k1)
    clear y1 k1
    go_wp2_with fail
    refine (take_wrong HY1.out.1 _).mono ?_
    rintro e w2 ⟨rfl, rfl⟩
    go_wp2
    go_ret
    rw [HW.out]
    exact ⟨z, v1, rfl, HY1.out.1, HY1.out.2⟩
  · have HR := hideIt hr
    have f1 := hf (wds ts) ns
    rw [hr] at f1
    have HF := hideIt f1
    have e0 : sinP u (wds ts) ns = if hd h.ws = wSince then bnd (u h.ws.tail h.ns) (fun h' => putN h'.ns ⟨12, h.i, h'.i, 0⟩ h'.ws) else .ok h := bnd_ok hr
    by_cases hs : hd h.ws = wSince
    · rw [if_pos hs] at e0
      have HL := hideIt (hd_tail (ws := h.ws) (by rw [hs]; decide))
      rcases hr2 : u h.ws.tail h.ns with k | h2
      · have HW : Hid (sinP u (wds ts) ns = .error k) := hideIt (e0.trans (bnd_no hr2))
        have HR2 := hideIt hr2
        have HS := hideIt hs
        clear x hn D hr e0 hs hr2 f1
        go_enter Tryz.func76, Tryz.ntmps76
        go_wp2_with fail
        refine (HD.out.yes HR.out HN.out HX.out).mono ?_
        rintro e w1 ⟨v1, ts1, e1, rfl, y, k1⟩
        have HY := hideIt (And.intro e1 (And.intro y k1))
        clear e1 y k1
        go_wp2_with fail
        refine (take_yes (t := wSince) HY.out.2.1 (by rw [← hd_wds, HY.out.1]; exact HS.out)).mono ?_
        rintro e w2 ⟨rfl, y2, b2⟩
        have HY2 := hideIt (And.intro y2 b2)
        clear y2 b2
        go_wp2_with fail
        refine (HD.out.no (k := k) (by rw [wds_tail, HY.out.1]; exact HR2.out) (short_tail (short HN.out HF.out.1 HY.out.1)) HY2.out.1).mono ?_
        rintro e w3 ⟨z3, v3, rfl, y3, k3⟩
        have hbd : h.ns.length + ts1.tail.length + 1 ≤ ns.length + ts.length := by
          have h1 := HF.out.2.2.2
          have h2 := HL.out
          have h3 := wds_length ts
          have h4 := wds_length ts1
          rw [HY.out.1] at h4
          simp at h2 ⊢
          omega
        have HBd := hideIt hbd
        have HY3 := hideIt (And.intro y3 k3)
        have HPw := hideIt (putW y3 ⟨12, h.i, z3, 0⟩ (by have := HX.out.few; omega))
        unfold Nd.val at HPw
        clear y3 k3 hbd
        go_wp2_with fail
        refine HPw.out.mono ?_
        rintro e w4 ⟨z4, v4, rfl, y4, k4⟩
        have HY4 := hideIt (And.intro (y4.more HBd.out) k4)
        clear y4 k4
        go_wp2
        go_ret
        rw [HW.out]
        exact ⟨z4, v4, rfl, HY4.out.1, ((HY.out.2.2.trans (Goes.one HY2.out.2)).trans HY3.out.2).trans HY4.out.2⟩
      · have HW : Hid (sinP u (wds ts) ns = .ok ⟨h2.ns.length, h2.ws, h2.ns ++ [⟨12, h.i, h2.i, 0⟩]⟩) := hideIt (e0.trans (bnd_ok hr2))
        have HR2 := hideIt hr2
        have HS := hideIt hs
        have f2 := hf h.ws.tail h.ns
        rw [hr2] at f2
        have HF2 := hideIt f2
        clear x hn D hr e0 hs hr2 f1 f2
        go_enter Tryz.func76, Tryz.ntmps76
        go_wp2_with fail
        refine (HD.out.yes HR.out HN.out HX.out).mono ?_
        rintro e w1 ⟨v1, ts1, e1, rfl, y, k1⟩
        have HY := hideIt (And.intro e1 (And.intro y k1))
        clear e1 y k1
        go_wp2_with fail
        refine (take_yes (t := wSince) HY.out.2.1 (by rw [← hd_wds, HY.out.1]; exact HS.out)).mono ?_
        rintro e w2 ⟨rfl, y2, b2⟩
        have HY2 := hideIt (And.intro y2 b2)
        clear y2 b2
        go_wp2_with fail
        refine (HD.out.yes (h := h2) (by rw [wds_tail, HY.out.1]; exact HR2.out) (short_tail (short HN.out HF.out.1 HY.out.1)) HY2.out.1).mono ?_
        rintro e w3 ⟨v3, ts3, e3, rfl, y3, k3⟩
        have HY3 := hideIt (And.intro e3 (And.intro y3 k3))
        have HPx := hideIt (putX y3 ⟨12, h.i, h2.i, 0⟩ (by have h1 := HY3.out.2.1.few; have h2 := HF2.out.2.2.2; have h3 := HX.out.few; have h4 := HF.out.2.2.2; have h5 := HL.out; have h6 := wds_length ts; have h7 := wds_length ts3; rw [HY3.out.1] at h7; omega))
        unfold Nd.val at HPx
        clear e3 y3 k3
        go_wp2_with fail
        refine HPx.out.mono ?_
        rintro e w4 ⟨v4, rfl, y4, k4⟩
        have HY4 := hideIt (And.intro y4 k4)
        clear y4 k4
        go_wp2
        go_ret
        rw [HW.out]
        exact ⟨v4, ts3, HY3.out.1, rfl, HY4.out.1, ((HY.out.2.2.trans (Goes.one HY2.out.2)).trans HY3.out.2.2).trans HY4.out.2⟩
    · rw [if_neg hs] at e0
      have HW := hideIt e0
      have HS := hideIt hs
      clear x hn D hr e0 hs f1
      go_enter Tryz.func76, Tryz.ntmps76
      go_wp2_with fail
      refine (HD.out.yes HR.out HN.out HX.out).mono ?_
      rintro e w1 ⟨v1, ts1, e1, rfl, y, k1⟩
      have HY := hideIt (And.intro e1 (And.intro y k1))
      clear e1 y k1
      go_wp2_with fail
      refine (take_no (t := wSince) HY.out.2.1 (by rw [← hd_wds, HY.out.1]; exact HS.out)).mono ?_
      rintro e w2 ⟨rfl, y2, b2⟩
      have HY2 := hideIt (And.intro y2 b2)
      clear y2 b2
      go_wp2
      go_ret
      rw [HW.out]
      exact ⟨v1, ts1, HY.out.1, rfl, HY2.out.1, HY.out.2.2.trans (Goes.one HY2.out.2)⟩
set_option maxHeartbeats 1000000 in
theorem andD {w0 : World} {g : Nat} {s : W8} {d n : Nat} {p : List W8 → List Nd → Rs} (hf : ∀ ws ns, Fine (p ws ns) ws ns) (D : DDoes 76 w0 g s d p n) : DDoes 51 w0 g s d (binP wAnd 7 p) n := by
  intro w v ts ns hn x
  have HX := hideIt x
  have HN := hideIt hn
  have HD := hideIt D
  have HFi := hideIt hf
  obtain ⟨R, hR⟩ : ∃ R, R = binP wAnd 7 p (wds ts) ns := ⟨_, rfl⟩
  obtain ⟨m, hm⟩ : ∃ m, m = ns.length + ts.length := ⟨_, rfl⟩
  have HM : Hid (m ≤ 1024) := hideIt (by rw [hm]; exact x.few)
  have HMe := hideIt hm
  have HStart : Hid (∀ e w1, DTold w0 g s d v w m (p (wds ts) ns) e w1 → ∃ z, e = .returned (.int .i64 z) ∧ ((∃ k v1, R = .error k ∧ RfW w0 w1 g s d v1 k m ∧ Goes g v w v1 w1) ∨ (∃ (i : Nat) (v1 : Value) (ts1 : List (Nat × W8)) (ns1 : List Nd) (f : Nat), z = (i : Int) ∧ RfX w0 w1 g s d v1 ts1 ns1 ∧ Goes g v w v1 w1 ∧ ts1.length < f ∧ ts1.length < n ∧ ns1.length + ts1.length ≤ m ∧ loopP wAnd 7 p f ⟨i, wds ts1, ns1⟩ = R))) := hideIt (fun e w1 ht => by
    rcases hr : p (wds ts) ns with k | h
    · rw [hr] at ht
      obtain ⟨z, v1, rfl, y1, k1⟩ := ht
      exact ⟨z, rfl, .inl ⟨k, v1, by rw [hR]; exact bnd_no hr, y1, k1⟩⟩
    · have f1 := hf (wds ts) ns
      rw [hr] at f1 ht
      obtain ⟨v1, ts1, e1, rfl, y, k1⟩ := ht
      refine ⟨_, rfl, .inr ⟨h.i, v1, ts1, h.ns, (wds ts).length + 1, rfl, y, k1, ?_, short hn f1.1 e1, ?_, ?_⟩⟩
      · have := f1.1.len
        rw [← e1, wds_length] at this
        omega
      · have h1 := f1.2.2.2
        rw [← e1, wds_length, wds_length] at h1
        omega
      · rw [e1, hR]; exact (bnd_ok hr).symm)
  have HD1 := hideIt (D w v ts ns hn x)
  rw [← hR]
  rw [← hm] at HD1 ⊢
  clear x hn D hf hR hm
  go_enter Tryz.func51, Tryz.ntmps51
  go_wp2_with fail
  refine HD1.out.mono ?_
  intro e w1 ht
  obtain ⟨z, rfl, hst⟩ := HStart.out e w1 ht
  have HSt := hideIt hst
  clear ht hst
  go_wp2_with fail
  go_loopw [3] (fun l wr => ∃ z, l = .int .i64 z ∧ ((∃ k v1, R = .error k ∧ RfW w0 wr g s d v1 k m ∧ Goes g v w v1 wr) ∨ (∃ (i : Nat) (v1 : Value) (ts1 : List (Nat × W8)) (ns1 : List Nd) (f : Nat), z = (i : Int) ∧ RfX w0 wr g s d v1 ts1 ns1 ∧ Goes g v w v1 wr ∧ ts1.length < f ∧ ts1.length < n ∧ ns1.length + ts1.length ≤ m ∧ loopP wAnd 7 p f ⟨i, wds ts1, ns1⟩ = R))) (fun _ wr => goOf g wr)
  case atStart => exact ⟨z, rfl, HSt.out⟩
  case round =>
    obtain ⟨z', rfl, hcase⟩ := hrel
    rcases hcase with ⟨k, v1, hk, y1, k1⟩ | ⟨i, v', ts', ns', f, rfl, x', k', hf', hn', hb', hl⟩
    · have HK := hideIt (And.intro hk (And.intro y1 k1))
      clear hk y1 k1
      go_wp2_with fail
      refine (take_wrong HK.out.2.1 _).mono ?_
      rintro e w2 ⟨rfl, rfl⟩
      go_wp2
      go_ret
      rw [HK.out.1]
      exact ⟨_, v1, rfl, HK.out.2.1, HK.out.2.2⟩
    · have HX' := hideIt x'
      have HK' := hideIt k'
      have HN' := hideIt hn'
      have HB' := hideIt hb'
      have HNd := hideIt x'.go
      obtain ⟨f, rfl⟩ : ∃ q, f = q + 1 := ⟨f - 1, by omega⟩
      unfold loopP at hl
      have HLf := hideIt hf'
      by_cases hs : hd (wds ts') = wAnd
      · rw [if_pos hs] at hl
        have HL := hideIt (hd_tail (ws := wds ts') (by rw [hs]; decide))
        rcases hr2 : p (wds ts').tail ns' with k | h2
        · have HW : Hid (R = .error k) := hideIt (hl.symm.trans (bnd_no hr2))
          have HR2 := hideIt hr2
          have HS := hideIt hs
          clear x' k' hf' hn' hl hs hr2 hb'
          go_wp2_with fail
          refine (take_yes (t := wAnd) HX'.out (by rw [← hd_wds]; exact HS.out)).mono ?_
          rintro e w2 ⟨rfl, y2, b2⟩
          have HY2 := hideIt (And.intro y2 b2)
          clear y2 b2
          go_wp2_with fail
          refine (HD.out.no (k := k) (by rw [wds_tail]; exact HR2.out) (short_tail HN'.out) HY2.out.1).mono ?_
          rintro e w3 ⟨z3, v3, rfl, y3, k3⟩
          have hbd : ns'.length + ts'.tail.length + 1 ≤ m := by
            have h1 := HL.out
            have h2 := HB'.out
            rw [← wds_tail, wds_length, wds_length] at h1
            omega
          have HBd := hideIt hbd
          have HG3 := hideIt (((HK'.out.trans (Goes.one HY2.out.2))).trans k3)
          have HPw := hideIt (putW y3 ⟨7, (i : Int), z3, 0⟩ (by have := HM.out; omega))
          unfold Nd.val at HPw
          clear y3 k3 hbd
          go_wp2_with fail
          refine HPw.out.mono ?_
          rintro e w4 ⟨z4, v4, rfl, y4, k4⟩
          have HY4 := hideIt (And.intro (y4.more HBd.out) (HG3.out.trans k4))
          clear y4 k4
          go_wp2_with fail
          go_roundw
          case rel => exact ⟨z4, rfl, .inl ⟨k, v4, HW.out, HY4.out.1, HY4.out.2⟩⟩
          case measure =>
            rw [HY4.out.1.go, HNd.out]
            omega
        · have HW := hideIt ((bnd_ok hr2).symm.trans hl)
          have HR2 := hideIt hr2
          have HS := hideIt hs
          have f2 := HFi.out (wds ts').tail ns'
          rw [hr2] at f2
          have HF2 := hideIt f2
          clear x' k' hf' hn' hl hs hr2 f2 hb'
          go_wp2_with fail
          refine (take_yes (t := wAnd) HX'.out (by rw [← hd_wds]; exact HS.out)).mono ?_
          rintro e w2 ⟨rfl, y2, b2⟩
          have HY2 := hideIt (And.intro y2 b2)
          clear y2 b2
          go_wp2_with fail
          refine (HD.out.yes (h := h2) (by rw [wds_tail]; exact HR2.out) (short_tail HN'.out) HY2.out.1).mono ?_
          rintro e w3 ⟨v3, ts3, e3, rfl, y3, k3⟩
          have HY3 := hideIt (And.intro e3 (And.intro y3 k3))
          have hlen : ts3.length ≤ ts'.tail.length := by
            have := HF2.out.1.len
            rw [← e3, wds_length] at this
            simpa [wds_length] using this
          have hl1 : ts'.tail.length + 1 = ts'.length := by have := HL.out; rw [← wds_tail, wds_length, wds_length] at this; exact this
          have hbd : h2.ns.length + 1 + ts3.length ≤ m := by
            have h1 := HF2.out.2.2.2
            have h2 := HB'.out
            rw [← e3, wds_length, ← wds_tail, wds_length] at h1
            omega
          have HLn := hideIt (And.intro hlen (And.intro hl1 hbd))
          have HPx := hideIt (putX y3 ⟨7, (i : Int), h2.i, 0⟩ (by have := HM.out; omega))
          unfold Nd.val at HPx
          clear e3 y3 k3 hlen hl1 hbd
          go_wp2_with fail
          refine HPx.out.mono ?_
          rintro e w4 ⟨v4, rfl, y4, k4⟩
          have HY4 := hideIt (And.intro y4 k4)
          clear y4 k4
          go_wp2_with fail
          go_roundw
          case rel =>
            refine ⟨_, rfl, .inr ⟨h2.ns.length, v4, ts3, h2.ns ++ [⟨7, i, h2.i, 0⟩], f, rfl, HY4.out.1, ((HK'.out.trans (Goes.one HY2.out.2)).trans HY3.out.2.2).trans HY4.out.2, ?_, ?_, ?_, ?_⟩⟩
            · have := HLf.out; have := HLn.out.1; have := HLn.out.2.1; omega
            · have := HN'.out; have := HLn.out.1; have := HLn.out.2.1; omega
            · have := HLn.out.2.2; simp; omega
            · rw [HY3.out.1]; exact HW.out
          case measure =>
            rw [HY4.out.1.go, HNd.out]
            have h1 := HY4.out.1.few
            obtain ⟨sg, h5⟩ := HF2.out.2.1
            have h3 : ns'.length ≤ h2.ns.length := by rw [h5]; simp
            simp at h1 ⊢
            omega
      · rw [if_neg hs] at hl
        have HW := hideIt hl
        have HS := hideIt hs
        clear x' k' hf' hn' hl hs hb'
        go_wp2_with fail
        refine (take_no (t := wAnd) HX'.out (by rw [← hd_wds]; exact HS.out)).mono ?_
        rintro e w2 ⟨rfl, y2, b2⟩
        have HY2 := hideIt (And.intro y2 b2)
        clear y2 b2
        go_wp2
        go_ret
        rw [← HW.out]
        exact ⟨v', ts', rfl, rfl, HY2.out.1, HK'.out.trans (Goes.one HY2.out.2)⟩
set_option maxHeartbeats 1000000 in
theorem orD {w0 : World} {g : Nat} {s : W8} {d n : Nat} {p : List W8 → List Nd → Rs} (hf : ∀ ws ns, Fine (p ws ns) ws ns) (D : DDoes 51 w0 g s d p n) : DDoes 30 w0 g s d (binP wOr 8 p) n := by
  intro w v ts ns hn x
  have HX := hideIt x
  have HN := hideIt hn
  have HD := hideIt D
  have HFi := hideIt hf
  obtain ⟨R, hR⟩ : ∃ R, R = binP wOr 8 p (wds ts) ns := ⟨_, rfl⟩
  obtain ⟨m, hm⟩ : ∃ m, m = ns.length + ts.length := ⟨_, rfl⟩
  have HM : Hid (m ≤ 1024) := hideIt (by rw [hm]; exact x.few)
  have HMe := hideIt hm
  have HStart : Hid (∀ e w1, DTold w0 g s d v w m (p (wds ts) ns) e w1 → ∃ z, e = .returned (.int .i64 z) ∧ ((∃ k v1, R = .error k ∧ RfW w0 w1 g s d v1 k m ∧ Goes g v w v1 w1) ∨ (∃ (i : Nat) (v1 : Value) (ts1 : List (Nat × W8)) (ns1 : List Nd) (f : Nat), z = (i : Int) ∧ RfX w0 w1 g s d v1 ts1 ns1 ∧ Goes g v w v1 w1 ∧ ts1.length < f ∧ ts1.length < n ∧ ns1.length + ts1.length ≤ m ∧ loopP wOr 8 p f ⟨i, wds ts1, ns1⟩ = R))) := hideIt (fun e w1 ht => by
    rcases hr : p (wds ts) ns with k | h
    · rw [hr] at ht
      obtain ⟨z, v1, rfl, y1, k1⟩ := ht
      exact ⟨z, rfl, .inl ⟨k, v1, by rw [hR]; exact bnd_no hr, y1, k1⟩⟩
    · have f1 := hf (wds ts) ns
      rw [hr] at f1 ht
      obtain ⟨v1, ts1, e1, rfl, y, k1⟩ := ht
      refine ⟨_, rfl, .inr ⟨h.i, v1, ts1, h.ns, (wds ts).length + 1, rfl, y, k1, ?_, short hn f1.1 e1, ?_, ?_⟩⟩
      · have := f1.1.len
        rw [← e1, wds_length] at this
        omega
      · have h1 := f1.2.2.2
        rw [← e1, wds_length, wds_length] at h1
        omega
      · rw [e1, hR]; exact (bnd_ok hr).symm)
  have HD1 := hideIt (D w v ts ns hn x)
  rw [← hR]
  rw [← hm] at HD1 ⊢
  clear x hn D hf hR hm
  go_enter Tryz.func30, Tryz.ntmps30
  go_wp2_with fail
  refine HD1.out.mono ?_
  intro e w1 ht
  obtain ⟨z, rfl, hst⟩ := HStart.out e w1 ht
  have HSt := hideIt hst
  clear ht hst
  go_wp2_with fail
  go_loopw [3] (fun l wr => ∃ z, l = .int .i64 z ∧ ((∃ k v1, R = .error k ∧ RfW w0 wr g s d v1 k m ∧ Goes g v w v1 wr) ∨ (∃ (i : Nat) (v1 : Value) (ts1 : List (Nat × W8)) (ns1 : List Nd) (f : Nat), z = (i : Int) ∧ RfX w0 wr g s d v1 ts1 ns1 ∧ Goes g v w v1 wr ∧ ts1.length < f ∧ ts1.length < n ∧ ns1.length + ts1.length ≤ m ∧ loopP wOr 8 p f ⟨i, wds ts1, ns1⟩ = R))) (fun _ wr => goOf g wr)
  case atStart => exact ⟨z, rfl, HSt.out⟩
  case round =>
    obtain ⟨z', rfl, hcase⟩ := hrel
    rcases hcase with ⟨k, v1, hk, y1, k1⟩ | ⟨i, v', ts', ns', f, rfl, x', k', hf', hn', hb', hl⟩
    · have HK := hideIt (And.intro hk (And.intro y1 k1))
      clear hk y1 k1
      go_wp2_with fail
      refine (take_wrong HK.out.2.1 _).mono ?_
      rintro e w2 ⟨rfl, rfl⟩
      go_wp2
      go_ret
      rw [HK.out.1]
      exact ⟨_, v1, rfl, HK.out.2.1, HK.out.2.2⟩
    · have HX' := hideIt x'
      have HK' := hideIt k'
      have HN' := hideIt hn'
      have HB' := hideIt hb'
      have HNd := hideIt x'.go
      obtain ⟨f, rfl⟩ : ∃ q, f = q + 1 := ⟨f - 1, by omega⟩
      unfold loopP at hl
      have HLf := hideIt hf'
      by_cases hs : hd (wds ts') = wOr
      · rw [if_pos hs] at hl
        have HL := hideIt (hd_tail (ws := wds ts') (by rw [hs]; decide))
        rcases hr2 : p (wds ts').tail ns' with k | h2
        · have HW : Hid (R = .error k) := hideIt (hl.symm.trans (bnd_no hr2))
          have HR2 := hideIt hr2
          have HS := hideIt hs
          clear x' k' hf' hn' hl hs hr2 hb'
          go_wp2_with fail
          refine (take_yes (t := wOr) HX'.out (by rw [← hd_wds]; exact HS.out)).mono ?_
          rintro e w2 ⟨rfl, y2, b2⟩
          have HY2 := hideIt (And.intro y2 b2)
          clear y2 b2
          go_wp2_with fail
          refine (HD.out.no (k := k) (by rw [wds_tail]; exact HR2.out) (short_tail HN'.out) HY2.out.1).mono ?_
          rintro e w3 ⟨z3, v3, rfl, y3, k3⟩
          have hbd : ns'.length + ts'.tail.length + 1 ≤ m := by
            have h1 := HL.out
            have h2 := HB'.out
            rw [← wds_tail, wds_length, wds_length] at h1
            omega
          have HBd := hideIt hbd
          have HG3 := hideIt (((HK'.out.trans (Goes.one HY2.out.2))).trans k3)
          have HPw := hideIt (putW y3 ⟨8, (i : Int), z3, 0⟩ (by have := HM.out; omega))
          unfold Nd.val at HPw
          clear y3 k3 hbd
          go_wp2_with fail
          refine HPw.out.mono ?_
          rintro e w4 ⟨z4, v4, rfl, y4, k4⟩
          have HY4 := hideIt (And.intro (y4.more HBd.out) (HG3.out.trans k4))
          clear y4 k4
          go_wp2_with fail
          go_roundw
          case rel => exact ⟨z4, rfl, .inl ⟨k, v4, HW.out, HY4.out.1, HY4.out.2⟩⟩
          case measure =>
            rw [HY4.out.1.go, HNd.out]
            omega
        · have HW := hideIt ((bnd_ok hr2).symm.trans hl)
          have HR2 := hideIt hr2
          have HS := hideIt hs
          have f2 := HFi.out (wds ts').tail ns'
          rw [hr2] at f2
          have HF2 := hideIt f2
          clear x' k' hf' hn' hl hs hr2 f2 hb'
          go_wp2_with fail
          refine (take_yes (t := wOr) HX'.out (by rw [← hd_wds]; exact HS.out)).mono ?_
          rintro e w2 ⟨rfl, y2, b2⟩
          have HY2 := hideIt (And.intro y2 b2)
          clear y2 b2
          go_wp2_with fail
          refine (HD.out.yes (h := h2) (by rw [wds_tail]; exact HR2.out) (short_tail HN'.out) HY2.out.1).mono ?_
          rintro e w3 ⟨v3, ts3, e3, rfl, y3, k3⟩
          have HY3 := hideIt (And.intro e3 (And.intro y3 k3))
          have hlen : ts3.length ≤ ts'.tail.length := by
            have := HF2.out.1.len
            rw [← e3, wds_length] at this
            simpa [wds_length] using this
          have hl1 : ts'.tail.length + 1 = ts'.length := by have := HL.out; rw [← wds_tail, wds_length, wds_length] at this; exact this
          have hbd : h2.ns.length + 1 + ts3.length ≤ m := by
            have h1 := HF2.out.2.2.2
            have h2 := HB'.out
            rw [← e3, wds_length, ← wds_tail, wds_length] at h1
            omega
          have HLn := hideIt (And.intro hlen (And.intro hl1 hbd))
          have HPx := hideIt (putX y3 ⟨8, (i : Int), h2.i, 0⟩ (by have := HM.out; omega))
          unfold Nd.val at HPx
          clear e3 y3 k3 hlen hl1 hbd
          go_wp2_with fail
          refine HPx.out.mono ?_
          rintro e w4 ⟨v4, rfl, y4, k4⟩
          have HY4 := hideIt (And.intro y4 k4)
          clear y4 k4
          go_wp2_with fail
          go_roundw
          case rel =>
            refine ⟨_, rfl, .inr ⟨h2.ns.length, v4, ts3, h2.ns ++ [⟨8, i, h2.i, 0⟩], f, rfl, HY4.out.1, ((HK'.out.trans (Goes.one HY2.out.2)).trans HY3.out.2.2).trans HY4.out.2, ?_, ?_, ?_, ?_⟩⟩
            · have := HLf.out; have := HLn.out.1; have := HLn.out.2.1; omega
            · have := HN'.out; have := HLn.out.1; have := HLn.out.2.1; omega
            · have := HLn.out.2.2; simp; omega
            · rw [HY3.out.1]; exact HW.out
          case measure =>
            rw [HY4.out.1.go, HNd.out]
            have h1 := HY4.out.1.few
            obtain ⟨sg, h5⟩ := HF2.out.2.1
            have h3 : ns'.length ≤ h2.ns.length := by rw [h5]; simp
            simp at h1 ⊢
            omega
      · rw [if_neg hs] at hl
        have HW := hideIt hl
        have HS := hideIt hs
        clear x' k' hf' hn' hl hs hb'
        go_wp2_with fail
        refine (take_no (t := wOr) HX'.out (by rw [← hd_wds]; exact HS.out)).mono ?_
        rintro e w2 ⟨rfl, y2, b2⟩
        have HY2 := hideIt (And.intro y2 b2)
        clear y2 b2
        go_wp2
        go_ret
        rw [← HW.out]
        exact ⟨v', ts', rfl, rfl, HY2.out.1, HK'.out.trans (Goes.one HY2.out.2)⟩
end Go.Proofs.YtlfcihanhfabmaaGreatDoor
