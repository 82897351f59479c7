/-
  The reader's since, and, or, by what unary does.
-/
import Derived.Test.YtlfcihanhfabmaaGreatDoorNtC
namespace Go.Proofs.YtlfcihanhfabmaaGreatDoor
open Go.RowKit
set_option maxRecDepth 8000
open L1 (S)
theorem hd_wds (ts : List (Nat × W8)) : hd (wds ts) = hdT ts := by cases ts <;> rfl
theorem wds_tail (ts : List (Nat × W8)) : wds ts.tail = (wds ts).tail := by cases ts <;> rfl
theorem wds_length (ts : List (Nat × W8)) : (wds ts).length = ts.length := by simp [wds]
/-- What a part of the grammar comes to: a node's number, or a panic with a place. -/
def Told (w0 : World) (g : Nat) (s : W8) (d : Nat) (v : Value) (w : World) (r : Rs) (e : Ending) (w' : World) : Prop :=
  match r with
  | .ok h => ∃ v' ts', wds ts' = h.ws ∧ e = .returned (.int .i64 (h.i : Int)) ∧ RdX w0 w' g s d v' ts' h.ns ∧ Goes g v w v' w'
  | .error k => e = .panicked (Plc (plc s k)) ∧ But (Own g v) w w'
/-- A part of the grammar is read as it should be, where fewer than n words are left. -/
def Does (F : Nat) (w0 : World) (g : Nat) (s : W8) (d : Nat) (p : List W8 → List Nd → Rs) (n : Nat) : Prop :=
  ∀ w v ts ns, ts.length < n → RdX w0 w g s d v ts ns → Calls Tryz.prog F #[Ptr g] w fun e w' => Told w0 g s d v w (p (wds ts) ns) e w'
theorem Does.no {F : Nat} {w0 : World} {g : Nat} {s : W8} {d : Nat} {p : List W8 → List Nd → Rs} {n : Nat} (D : Does F w0 g s d p n) {w : World} {v : Value} {ts : List (Nat × W8)} {ns : List Nd} {k : Nat} (hr : p (wds ts) ns = .error k) (hn : ts.length < n) (x : RdX w0 w g s d v ts ns) :
    Calls Tryz.prog F #[Ptr g] w fun e w' => e = .panicked (Plc (plc s k)) ∧ But (Own g v) w w' := by
  have := D w v ts ns hn x
  rw [hr] at this
  exact this
theorem Does.yes {F : Nat} {w0 : World} {g : Nat} {s : W8} {d : Nat} {p : List W8 → List Nd → Rs} {n : Nat} (D : Does F w0 g s d p n) {w : World} {v : Value} {ts : List (Nat × W8)} {ns : List Nd} {h : Got} (hr : p (wds ts) ns = .ok h) (hn : ts.length < n) (x : RdX w0 w g s d v ts ns) :
    Calls Tryz.prog F #[Ptr g] w fun e w' => ∃ v' ts', wds ts' = h.ws ∧ e = .returned (.int .i64 (h.i : Int)) ∧ RdX w0 w' g s d v' ts' h.ns ∧ Goes g v w v' w' := by
  have := D w v ts ns hn x
  rw [hr] at this
  exact this
theorem takes_yes {w0 w : World} {g : Nat} {s : W8} {d : Nat} {v : Value} {ts : List (Nat × W8)} {ns : List Nd} (x : RdX w0 w g s d v ts ns) {op : Int} {wd : W8} (hw : wordOf op = wd) (h : hdT ts = wd) :
    Calls Tryz.prog 74 #[Ptr g, .int .i64 op] w fun e w' => e = .returned (.bool true) ∧ RdX w0 w' g s d v ts.tail ns ∧ But (One g) w w' :=
  (takes_any x op).mono fun _ _ k => k.1 (h.trans hw.symm)
theorem takes_no {w0 w : World} {g : Nat} {s : W8} {d : Nat} {v : Value} {ts : List (Nat × W8)} {ns : List Nd} (x : RdX w0 w g s d v ts ns) {op : Int} {wd : W8} (hw : wordOf op = wd) (h : ¬ hdT ts = wd) :
    Calls Tryz.prog 74 #[Ptr g, .int .i64 op] w fun e w' => e = .returned (.bool false) ∧ After w w' :=
  (takes_any x op).mono fun _ _ k => k.2 (fun e => h (e.trans hw))
/-- How many nodes a reader has. -/
def nodesOf (g : Nat) (W : World) : Nat :=
  match W.cell? ⟨g, 4, none⟩ with
  | some (.slice _ n _) => n
  | _ => 0
theorem RdX.nodes {w0 w : World} {g : Nat} {s : W8} {d : Nat} {v : Value} {ts : List (Nat × W8)} {ns : List Nd} (x : RdX w0 w g s d v ts ns) : nodesOf g w = ns.length := by
  unfold nodesOf
  rw [(five_at x.m.blk).2.2.2.2.2.1]
  obtain ⟨a, c, rfl, _⟩ := x.m.own.row
  rfl
theorem short {ts ts1 : List (Nat × W8)} {ws : List W8} {n : Nat} (hn : ts.length < n) (t : Tail ws (wds ts)) (e : wds ts1 = ws) : ts1.length < n := by
  have h1 := t.len
  rw [← e, wds_length, wds_length] at h1
  omega
theorem short_tail {ts : List (Nat × W8)} {n : Nat} (h : ts.length < n) : ts.tail.length < n := by simp; omega
theorem wOr_is : wordOf 8 = wOr := rfl
theorem wAnd_is : wordOf 7 = wAnd := rfl
theorem wSince_is : wordOf 12 = wSince := rfl
set_option maxHeartbeats 1000000 in
theorem since_does {w0 : World} {g : Nat} {s : W8} {d n : Nat} {u : List W8 → List Nd → Rs} (hf : ∀ ws ns, Fine (u ws ns) ws ns) (D : Does 104 w0 g s d u n) : Does 96 w0 g s d (sinP u) n := by
  intro w v ts ns hn x
  have HX := hideIt x
  have HN := hideIt hn
  have HD := hideIt D
  rcases hr : u (wds ts) ns with k | h
  · have HR := hideIt hr
    have HW : Hid (sinP u (wds ts) ns = .error k) := hideIt (bnd_no hr)
    clear x hn D hr
    go_enter Tryz.func96, Tryz.ntmps96
    go_wp2_with (go_at_call 104; refine (HD.out.no HR.out HN.out HX.out).mono ?_; rintro e w1 ⟨rfl, b1⟩; have HB := hideIt b1; clear b1)
    refine ⟨rfl, ?_⟩
    rw [HW.out]
    exact ⟨rfl, HB.out⟩
  · have HR := hideIt hr
    have f1 := hf (wds ts) ns
    rw [hr] at f1
    have HF := hideIt f1
    have e0 : sinP u (wds ts) ns = if hd h.ws = wSince then bnd (u h.ws.tail h.ns) (fun h' => putN h'.ns ⟨12, h.i, h'.i, 0⟩ h'.ws) else .ok h := bnd_ok hr
    by_cases hs : hd h.ws = wSince
    · rw [if_pos hs] at e0
      rcases hr2 : u h.ws.tail h.ns with k | h2
      · have HW : Hid (sinP u (wds ts) ns = .error k) := hideIt (e0.trans (bnd_no hr2))
        have HR2 := hideIt hr2
        have HS := hideIt hs
        clear x hn D hr e0 hs hr2 f1
        go_enter Tryz.func96, Tryz.ntmps96
        go_wp2_with (first
          | (go_at_call 74; refine (takes_yes HY.out.2.1 wSince_is (by rw [← hd_wds, HY.out.1]; exact HS.out)).mono ?_; rintro e w2 ⟨rfl, y2, b2⟩; have HY2 := hideIt (And.intro y2 b2); clear y2 b2)
          | (go_at_call 75; refine (pair_any HY3.out.2.1 12 _ _ (by have h1 := HY3.out.2.1.few; have h2 := HF2.out.2.2.2; have h3 := HX.out.few; have h4 := HF.out.2.2.2; have h5 := HL.out; have h6 := wds_length ts; have h7 := wds_length ts3; rw [HY3.out.1] at h7; omega)).mono ?_; rintro e w4 ⟨v4, rfl, y4, k4⟩; have HY4 := hideIt (And.intro y4 k4); clear y4 k4)
          | (go_at_call 104; first
              | (refine (HD.out.yes HR.out HN.out HX.out).mono ?_; rintro e w1 ⟨v1, ts1, e1, rfl, y, k1⟩; have HY := hideIt (And.intro e1 (And.intro y k1)); clear e1 y k1)
              | (refine (HD.out.no (k := k) (by rw [wds_tail, HY.out.1]; exact HR2.out) (short_tail (short HN.out HF.out.1 HY.out.1)) HY2.out.1).mono ?_; rintro e w3 ⟨rfl, b3⟩; have HB := hideIt b3; clear b3)))
        refine ⟨rfl, ?_⟩
        rw [HW.out]
        exact ⟨rfl, (HY.out.2.2.trans (Goes.one HY2.out.2)).ends HB.out⟩
      · have HW : Hid (sinP u (wds ts) ns = .ok ⟨h2.ns.length, h2.ws, h2.ns ++ [⟨12, h.i, h2.i, 0⟩]⟩) := hideIt (e0.trans (bnd_ok hr2))
        have HR2 := hideIt hr2
        have HS := hideIt hs
        have f2 := hf h.ws.tail h.ns
        rw [hr2] at f2
        have HF2 := hideIt f2
        have HL := hideIt (hd_tail (ws := h.ws) (by rw [hs]; decide))
        clear x hn D hr e0 hs hr2 f1 f2
        go_enter Tryz.func96, Tryz.ntmps96
        go_wp2_with (first
          | (go_at_call 74; refine (takes_yes HY.out.2.1 wSince_is (by rw [← hd_wds, HY.out.1]; exact HS.out)).mono ?_; rintro e w2 ⟨rfl, y2, b2⟩; have HY2 := hideIt (And.intro y2 b2); clear y2 b2)
          | (go_at_call 75; refine (pair_any HY3.out.2.1 12 _ _ (by have h1 := HY3.out.2.1.few; have h2 := HF2.out.2.2.2; have h3 := HX.out.few; have h4 := HF.out.2.2.2; have h5 := HL.out; have h6 := wds_length ts; have h7 := wds_length ts3; rw [HY3.out.1] at h7; omega)).mono ?_; rintro e w4 ⟨v4, rfl, y4, k4⟩; have HY4 := hideIt (And.intro y4 k4); clear y4 k4)
          | (go_at_call 104; first
              | (refine (HD.out.yes HR.out HN.out HX.out).mono ?_; rintro e w1 ⟨v1, ts1, e1, rfl, y, k1⟩; have HY := hideIt (And.intro e1 (And.intro y k1)); clear e1 y k1)
              | (refine (HD.out.yes (h := h2) (by rw [wds_tail, HY.out.1]; exact HR2.out) (short_tail (short HN.out HF.out.1 HY.out.1)) HY2.out.1).mono ?_; rintro e w3 ⟨v3, ts3, e3, rfl, y3, k3⟩; have HY3 := hideIt (And.intro e3 (And.intro y3 k3)); clear e3 y3 k3)))
        go_ret
        rw [HW.out]
        exact ⟨v4, ts3, HY3.out.1, rfl, HY4.out.1, ((HY.out.2.2.trans (Goes.one HY2.out.2)).trans HY3.out.2.2).trans HY4.out.2⟩
    · rw [if_neg hs] at e0
      have HW := hideIt e0
      have HS := hideIt hs
      clear x hn D hr e0 hs f1
      go_enter Tryz.func96, Tryz.ntmps96
      go_wp2_with (first
        | (go_at_call 74; refine (takes_no HY.out.2.1 wSince_is (by rw [← hd_wds, HY.out.1]; exact HS.out)).mono ?_; rintro e w2 ⟨rfl, b2⟩; have HB2 := hideIt b2; clear b2)
        | (go_at_call 104; refine (HD.out.yes HR.out HN.out HX.out).mono ?_; rintro e w1 ⟨v1, ts1, e1, rfl, y, k1⟩; have HY := hideIt (And.intro e1 (And.intro y k1)); clear e1 y k1))
      go_ret
      rw [HW.out]
      exact ⟨v1, ts1, HY.out.1, rfl, HY.out.2.1.after HB2.out, HY.out.2.2.trans (Goes.after HB2.out)⟩
set_option maxHeartbeats 1000000 in
theorem and_does {w0 : World} {g : Nat} {s : W8} {d n : Nat} {p : List W8 → List Nd → Rs} (hf : ∀ ws ns, Fine (p ws ns) ws ns) (D : Does 96 w0 g s d p n) : Does 73 w0 g s d (binP wAnd 7 p) n := by
  intro w v ts ns hn x
  have HX := hideIt x
  have HN := hideIt hn
  have HD := hideIt D
  have HFi := hideIt hf
  rcases hr : p (wds ts) ns with k | h
  · have HR := hideIt hr
    have HW : Hid (binP wAnd 7 p (wds ts) ns = .error k) := hideIt (bnd_no hr)
    clear x hn D hr hf
    go_enter Tryz.func73, Tryz.ntmps73
    go_wp2_with (go_at_call 96; refine (HD.out.no HR.out HN.out HX.out).mono ?_; rintro e w1 ⟨rfl, b1⟩; have HB := hideIt b1; clear b1)
    refine ⟨rfl, ?_⟩
    rw [HW.out]
    exact ⟨rfl, HB.out⟩
  · have HR := hideIt hr
    have f1 := hf (wds ts) ns
    rw [hr] at f1
    have HF := hideIt f1
    obtain ⟨R, hR⟩ : ∃ R, R = binP wAnd 7 p (wds ts) ns := ⟨_, rfl⟩
    have e0 : loopP wAnd 7 p ((wds ts).length + 1) h = R := by rw [hR]; exact (bnd_ok hr).symm
    have HE := hideIt e0
    rw [← hR]
    clear x hn D hr hf f1 e0 hR
    go_enter Tryz.func73, Tryz.ntmps73
    go_wp2_with (go_at_call 96; refine (HD.out.yes HR.out HN.out HX.out).mono ?_; rintro e w1 ⟨v1, ts1, e1, rfl, y, k1⟩; have HY := hideIt (And.intro e1 (And.intro y k1)); clear e1 y k1)
    go_loopw [3] (fun l wr => ∃ (i : Nat) (v' : Value) (ts' : List (Nat × W8)) (ns' : List Nd) (f : Nat), l = .int .i64 (i : Int) ∧ RdX w0 wr g s d v' ts' ns' ∧ Goes g v w v' wr ∧ ts'.length < f ∧ ts'.length < n ∧ loopP wAnd 7 p f ⟨i, wds ts', ns'⟩ = R) (fun _ wr => 1024 - nodesOf g wr)
    case atStart =>
      refine ⟨h.i, v1, ts1, h.ns, (wds ts).length + 1, rfl, HY.out.2.1, HY.out.2.2, ?_, short HN.out HF.out.1 HY.out.1, ?_⟩
      · have := HF.out.1.len
        rw [← HY.out.1, wds_length] at this
        omega
      · rw [HY.out.1]; exact HE.out
    case round =>
      obtain ⟨i, v', ts', ns', f, rfl, x', k', hf', hn', hl⟩ := hrel
      have HX' := hideIt x'
      have HK' := hideIt k'
      have HN' := hideIt hn'
      have HNd := hideIt x'.nodes
      obtain ⟨f, rfl⟩ : ∃ q, f = q + 1 := ⟨f - 1, by omega⟩
      unfold loopP at hl
      have HLf := hideIt hf'
      by_cases hs : hd (wds ts') = wAnd
      · rw [if_pos hs] at hl
        have HL := hideIt (hd_tail (ws := wds ts') (by rw [hs]; decide))
        rcases hr2 : p (wds ts').tail ns' with k | h2
        · have HW : Hid (R = .error k) := hideIt (hl.symm.trans (bnd_no hr2))
          have HR2 := hideIt hr2
          have HS := hideIt hs
          clear x' k' hf' hn' hl hs hr2
          go_wp2_with (first
            | (go_at_call 74; refine (takes_yes HX'.out wAnd_is (by rw [← hd_wds]; exact HS.out)).mono ?_; rintro e w2 ⟨rfl, y2, b2⟩; have HY2 := hideIt (And.intro y2 b2); clear y2 b2)
            | (go_at_call 96; refine (HD.out.no (k := k) (by rw [wds_tail]; exact HR2.out) (short_tail HN'.out) HY2.out.1).mono ?_; rintro e w3 ⟨rfl, b3⟩; have HB := hideIt b3; clear b3))
          refine ⟨rfl, ?_⟩
          rw [HW.out]
          exact ⟨rfl, (HK'.out.trans (Goes.one HY2.out.2)).ends HB.out⟩
        · have HW := hideIt ((bnd_ok hr2).symm.trans hl)
          have HR2 := hideIt hr2
          have HS := hideIt hs
          have f2 := HFi.out (wds ts').tail ns'
          rw [hr2] at f2
          have HF2 := hideIt f2
          clear x' k' hf' hn' hl hs hr2 f2
          go_wp2_with (first
            | (go_at_call 74; refine (takes_yes HX'.out wAnd_is (by rw [← hd_wds]; exact HS.out)).mono ?_; rintro e w2 ⟨rfl, y2, b2⟩; have HY2 := hideIt (And.intro y2 b2); clear y2 b2)
            | (go_at_call 96; refine (HD.out.yes (h := h2) (by rw [wds_tail]; exact HR2.out) (short_tail HN'.out) HY2.out.1).mono ?_; rintro e w3 ⟨v3, ts3, e3, rfl, y3, k3⟩; have HY3 := hideIt (And.intro e3 (And.intro y3 k3)); clear e3 y3 k3)
            | (go_at_call 75; refine (pair_any HY3.out.2.1 7 _ _ (by have h1 := HY3.out.2.1.few; have h2 := HF2.out.2.2.2; have h3 := HX'.out.few; have h5 := HL.out; have h6 := wds_length ts'; have h7 := wds_length ts3; rw [HY3.out.1] at h7; omega)).mono ?_; rintro e w4 ⟨v4, rfl, y4, k4⟩; have HY4 := hideIt (And.intro y4 k4); clear y4 k4))
          go_roundw
          case rel =>
            have hlen : ts3.length ≤ ts'.tail.length := by
              have := HF2.out.1.len
              rw [← HY3.out.1, wds_length] at this
              simpa [wds_length] using this
            have hl1 : ts'.tail.length + 1 = ts'.length := by have := HL.out; rw [← wds_tail, wds_length, wds_length] at this; exact this
            refine ⟨h2.ns.length, v4, ts3, h2.ns ++ [⟨7, i, h2.i, 0⟩], f, rfl, HY4.out.1, ((HK'.out.trans (Goes.one HY2.out.2)).trans HY3.out.2.2).trans HY4.out.2, ?_, ?_, ?_⟩
            · have := HLf.out; omega
            · have := HN'.out; omega
            · rw [HY3.out.1]; exact HW.out
          case measure =>
            rw [HY4.out.1.nodes, HNd.out]
            have h1 := HY4.out.1.few
            obtain ⟨sg, h5⟩ := HF2.out.2.1
            have h3 : ns'.length ≤ h2.ns.length := by rw [h5]; simp
            simp at h1 ⊢
            omega
      · rw [if_neg hs] at hl
        have HW := hideIt hl
        have HS := hideIt hs
        clear x' k' hf' hn' hl hs
        go_wp2_with (go_at_call 74; refine (takes_no HX'.out wAnd_is (by rw [← hd_wds]; exact HS.out)).mono ?_; rintro e w2 ⟨rfl, b2⟩; have HB2 := hideIt b2; clear b2)
        go_ret
        rw [← HW.out]
        exact ⟨v', ts', rfl, rfl, HX'.out.after HB2.out, HK'.out.trans (Goes.after HB2.out)⟩
set_option maxHeartbeats 1000000 in
theorem or_does {w0 : World} {g : Nat} {s : W8} {d n : Nat} {p : List W8 → List Nd → Rs} (hf : ∀ ws ns, Fine (p ws ns) ws ns) (D : Does 73 w0 g s d p n) : Does 49 w0 g s d (binP wOr 8 p) n := by
  intro w v ts ns hn x
  have HX := hideIt x
  have HN := hideIt hn
  have HD := hideIt D
  have HFi := hideIt hf
  rcases hr : p (wds ts) ns with k | h
  · have HR := hideIt hr
    have HW : Hid (binP wOr 8 p (wds ts) ns = .error k) := hideIt (bnd_no hr)
    clear x hn D hr hf
    go_enter Tryz.func49, Tryz.ntmps49
    go_wp2_with (go_at_call 73; refine (HD.out.no HR.out HN.out HX.out).mono ?_; rintro e w1 ⟨rfl, b1⟩; have HB := hideIt b1; clear b1)
    refine ⟨rfl, ?_⟩
    rw [HW.out]
    exact ⟨rfl, HB.out⟩
  · have HR := hideIt hr
    have f1 := hf (wds ts) ns
    rw [hr] at f1
    have HF := hideIt f1
    obtain ⟨R, hR⟩ : ∃ R, R = binP wOr 8 p (wds ts) ns := ⟨_, rfl⟩
    have e0 : loopP wOr 8 p ((wds ts).length + 1) h = R := by rw [hR]; exact (bnd_ok hr).symm
    have HE := hideIt e0
    rw [← hR]
    clear x hn D hr hf f1 e0 hR
    go_enter Tryz.func49, Tryz.ntmps49
    go_wp2_with (go_at_call 73; refine (HD.out.yes HR.out HN.out HX.out).mono ?_; rintro e w1 ⟨v1, ts1, e1, rfl, y, k1⟩; have HY := hideIt (And.intro e1 (And.intro y k1)); clear e1 y k1)
    go_loopw [3] (fun l wr => ∃ (i : Nat) (v' : Value) (ts' : List (Nat × W8)) (ns' : List Nd) (f : Nat), l = .int .i64 (i : Int) ∧ RdX w0 wr g s d v' ts' ns' ∧ Goes g v w v' wr ∧ ts'.length < f ∧ ts'.length < n ∧ loopP wOr 8 p f ⟨i, wds ts', ns'⟩ = R) (fun _ wr => 1024 - nodesOf g wr)
    case atStart =>
      refine ⟨h.i, v1, ts1, h.ns, (wds ts).length + 1, rfl, HY.out.2.1, HY.out.2.2, ?_, short HN.out HF.out.1 HY.out.1, ?_⟩
      · have := HF.out.1.len
        rw [← HY.out.1, wds_length] at this
        omega
      · rw [HY.out.1]; exact HE.out
    case round =>
      obtain ⟨i, v', ts', ns', f, rfl, x', k', hf', hn', hl⟩ := hrel
      have HX' := hideIt x'
      have HK' := hideIt k'
      have HN' := hideIt hn'
      have HNd := hideIt x'.nodes
      obtain ⟨f, rfl⟩ : ∃ q, f = q + 1 := ⟨f - 1, by omega⟩
      unfold loopP at hl
      have HLf := hideIt hf'
      by_cases hs : hd (wds ts') = wOr
      · rw [if_pos hs] at hl
        have HL := hideIt (hd_tail (ws := wds ts') (by rw [hs]; decide))
        rcases hr2 : p (wds ts').tail ns' with k | h2
        · have HW : Hid (R = .error k) := hideIt (hl.symm.trans (bnd_no hr2))
          have HR2 := hideIt hr2
          have HS := hideIt hs
          clear x' k' hf' hn' hl hs hr2
          go_wp2_with (first
            | (go_at_call 74; refine (takes_yes HX'.out wOr_is (by rw [← hd_wds]; exact HS.out)).mono ?_; rintro e w2 ⟨rfl, y2, b2⟩; have HY2 := hideIt (And.intro y2 b2); clear y2 b2)
            | (go_at_call 73; refine (HD.out.no (k := k) (by rw [wds_tail]; exact HR2.out) (short_tail HN'.out) HY2.out.1).mono ?_; rintro e w3 ⟨rfl, b3⟩; have HB := hideIt b3; clear b3))
          refine ⟨rfl, ?_⟩
          rw [HW.out]
          exact ⟨rfl, (HK'.out.trans (Goes.one HY2.out.2)).ends HB.out⟩
        · have HW := hideIt ((bnd_ok hr2).symm.trans hl)
          have HR2 := hideIt hr2
          have HS := hideIt hs
          have f2 := HFi.out (wds ts').tail ns'
          rw [hr2] at f2
          have HF2 := hideIt f2
          clear x' k' hf' hn' hl hs hr2 f2
          go_wp2_with (first
            | (go_at_call 74; refine (takes_yes HX'.out wOr_is (by rw [← hd_wds]; exact HS.out)).mono ?_; rintro e w2 ⟨rfl, y2, b2⟩; have HY2 := hideIt (And.intro y2 b2); clear y2 b2)
            | (go_at_call 73; refine (HD.out.yes (h := h2) (by rw [wds_tail]; exact HR2.out) (short_tail HN'.out) HY2.out.1).mono ?_; rintro e w3 ⟨v3, ts3, e3, rfl, y3, k3⟩; have HY3 := hideIt (And.intro e3 (And.intro y3 k3)); clear e3 y3 k3)
            | (go_at_call 75; refine (pair_any HY3.out.2.1 8 _ _ (by have h1 := HY3.out.2.1.few; have h2 := HF2.out.2.2.2; have h3 := HX'.out.few; have h5 := HL.out; have h6 := wds_length ts'; have h7 := wds_length ts3; rw [HY3.out.1] at h7; omega)).mono ?_; rintro e w4 ⟨v4, rfl, y4, k4⟩; have HY4 := hideIt (And.intro y4 k4); clear y4 k4))
          go_roundw
          case rel =>
            have hlen : ts3.length ≤ ts'.tail.length := by
              have := HF2.out.1.len
              rw [← HY3.out.1, wds_length] at this
              simpa [wds_length] using this
            have hl1 : ts'.tail.length + 1 = ts'.length := by have := HL.out; rw [← wds_tail, wds_length, wds_length] at this; exact this
            refine ⟨h2.ns.length, v4, ts3, h2.ns ++ [⟨8, i, h2.i, 0⟩], f, rfl, HY4.out.1, ((HK'.out.trans (Goes.one HY2.out.2)).trans HY3.out.2.2).trans HY4.out.2, ?_, ?_, ?_⟩
            · have := HLf.out; omega
            · have := HN'.out; omega
            · rw [HY3.out.1]; exact HW.out
          case measure =>
            rw [HY4.out.1.nodes, HNd.out]
            have h1 := HY4.out.1.few
            obtain ⟨sg, h5⟩ := HF2.out.2.1
            have h3 : ns'.length ≤ h2.ns.length := by rw [h5]; simp
            simp at h1 ⊢
            omega
      · rw [if_neg hs] at hl
        have HW := hideIt hl
        have HS := hideIt hs
        clear x' k' hf' hn' hl hs
        go_wp2_with (go_at_call 74; refine (takes_no HX'.out wOr_is (by rw [← hd_wds]; exact HS.out)).mono ?_; rintro e w2 ⟨rfl, b2⟩; have HB2 := hideIt b2; clear b2)
        go_ret
        rw [← HW.out]
        exact ⟨v', ts', rfl, rfl, HX'.out.after HB2.out, HK'.out.trans (Goes.after HB2.out)⟩
end Go.Proofs.YtlfcihanhfabmaaGreatDoor
