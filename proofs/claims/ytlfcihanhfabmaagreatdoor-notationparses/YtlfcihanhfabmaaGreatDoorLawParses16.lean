/-
  The statement NotationParses, walked.
-/
import Derived.Test.YtlfcihanhfabmaaGreatDoorNrE
import Derived.Test.YtlfcihanhfabmaaGreatDoorNtX
namespace Go.Proofs.YtlfcihanhfabmaaGreatDoor
open Go.RowKit
set_option maxRecDepth 8000
open L1 (S)
/-- Nodes of one's own, with room to be written to. -/
theorem orow_blk {w : World} {B : Nat} {a : Option Addr} {c : Nat} {ns : List Nd} (h : ORow ndE 33 w B (.slice a ns.length c) ns) (hn : 0 < ns.length) : ∃ G cs, a = some ⟨G, 0, none⟩ ∧ B ≤ G ∧ G < w.heap.size ∧ w.heap[G]? = some (.cells cs 33 (0, 0)) ∧ ns.length * 4 ≤ cs.size := by
  rcases h.2 with ⟨_, h0⟩ | ⟨g, cap, cur, e, hB, hb, hnc, hcap, hsz, _⟩
  · omega
  · cases e
    refine ⟨g, cur, rfl, hB, blk_lt hb, hb, ?_⟩
    have h4 : ndE.k = 4 := rfl
    rw [h4] at hsz
    have : ns.length * 4 ≤ _ := Nat.mul_le_mul_right 4 hnc
    omega
theorem law_parses (s : W8) (w : World) (hl : Laid w) (hm : s.length ≤ maxLen) : Calls Tryz.prog 4 #[.string (S s)] w fun e w' => e = .returned (.bool true) ∧ After w w' := by
  have HL := hideIt hl
  have HP := hideIt (fun W (a : After w W) => parse_slice s W (hl.on a) hm)
  have HD := hideIt (fun W => parseD s W hm)
  have hlen : (parseA s).ns.length ≤ 32 := by
    unfold parseA
    split
    · simp
    · split
      · simp
      · split
        · simp
        · rename_i h; simp; omega
  obtain ⟨P, hP⟩ : ∃ P, P = parseA s := ⟨_, rfl⟩
  rw [← hP] at HP HD hlen
  obtain ⟨ns, at_, E⟩ := P
  simp only at HP HD hlen
  obtain ⟨n, hn⟩ : ∃ n, n = ns.length := ⟨_, rfl⟩
  rw [← hn] at HP HD hlen
  have HN := hideIt hn
  have HSm := hideIt (fun W a b c d (h1 : NRow W a n ns) (h2 : NRow W b n ns) => (by
    have := same_yes ns (by omega) W a b c d (by rw [← hn]; exact h1) (by rw [← hn]; exact h2)
    rw [← hn] at this
    exact this : Calls Tryz.prog 12 #[.slice a n c, .slice b n d] W fun e w' => e = .returned (.bool true) ∧ After W w'))
  have n32 : (n : Int) ≤ 32 := by omega
  clear hl hm hlen hP hn
  go_enter Tryz.func4, Tryz.ntmps4
  go_wp2_with fail
  refine (HP.out w After.rfl).mono ?_
  rintro e w1 ⟨a1, c1, rfl, o1, r1, b1⟩
  have H1 := hideIt (And.intro o1 (And.intro r1 b1))
  clear o1 r1 b1
  go_wp2_with fail
  refine (HD.out _).mono ?_
  rintro e w2 ⟨a2, c2, rfl, o2, b2⟩
  have r2 : NRow w2 a2 n ns := by
    have o3 := o2
    rw [HN.out] at o3
    obtain ⟨a, c, e, hr, -⟩ := o3.row
    cases e
    rw [HN.out]; exact hr
  have H2 := hideIt (And.intro o2 (And.intro r2 b2))
  clear o2 b2 r2
  go_wp2_with fail
  refine (HSm.out _ a1 a2 c1 c2 (H1.out.2.1.after H2.out.2.2) H2.out.2.1).mono ?_
  rintro e w3 ⟨rfl, b3⟩
  have H3 := hideIt (And.intro b3 (H1.out.2.2.trans (H2.out.2.2.trans b3)))
  clear b3
  go_wp2_with fail
  by_cases hn0 : 0 < n
  · have hG : ∃ G cs, a1 = some ⟨G, 0, none⟩ ∧ w.heap.size ≤ G ∧ G < w1.heap.size ∧ w3.heap[G]? = some (.cells cs 33 (0, 0)) ∧ n * 4 ≤ cs.size := by
      have o := H1.out.1
      rw [HN.out] at o
      obtain ⟨G, cs, h1, h2, h3, h4, h5⟩ := orow_blk o (by rw [← HN.out]; exact hn0)
      exact ⟨G, cs, h1, h2, h3, ((H2.out.2.2.trans H3.out.1).block G h3 (fun t => t)).trans h4, by rw [HN.out]; exact h5⟩
    obtain ⟨G, cs, rfl, hGw, hG1, hGb, hcs⟩ := hG
    have HG := hideIt (And.intro hGw (And.intro hG1 (And.intro hGb hcs)))
    clear hGw hG1 hGb hcs
    go_loopw [9] (fun i wr => ∃ (j : Nat) (ds : Array Value), j ≤ n ∧ i = .int .i64 (j : Int) ∧ wr.heap[G]? = some (.cells ds 33 (0, 0)) ∧ n * 4 ≤ ds.size ∧ But (One G) w3 wr) (fun i _ => n - (intOf i).toNat)
    case atStart => exact ⟨0, cs, Nat.zero_le _, rfl, HG.out.2.2.1, HG.out.2.2.2, But.rfl⟩
    case round =>
      obtain ⟨j, ds, hj, rfl, hb, hds, bw⟩ := hrel
      have HB := hideIt (And.intro hb (And.intro hds bw))
      by_cases hjn : j < n
      · have i1 : (j : Int) < (n : Int) := by omega
        have f1 := blk_soft hb (j * 4)
        obtain ⟨u0, hu0⟩ : ∃ u, ds[j * 4]? = some u := ⟨ds[j * 4]'(by omega), by simp⟩
        have c1' := blk_cell hb hu0
        have l1 := blk_lt hb
        clear hb hds bw hj hu0
        go_wp2_with fail
        go_roundw
        case rel =>
          refine ⟨j + 1, ds.setIfInBounds (j * 4) (.int .i64 99), by omega, by go_num, ?_, by rw [Array.size_setIfInBounds]; exact HB.out.2.1, HB.out.2.2.trans (but_one _ _ _ _)⟩
          rw [blk_put HB.out.1]
        case measure => simp [intOf]; omega
      · have i1 : ¬ (j : Int) < (n : Int) := by omega
        have aw : After w wr := H3.out.2.then bw (fun i hi e => by have := HG.out.1; rw [show i = G from e] at hi; omega)
        have rb : NRow wr a2 n ns := (H2.out.2.1.after H3.out.1).but bw (fun x hx _ e => by
          have o := H2.out.1
          rw [HN.out] at o
          obtain ⟨a, c, e2, -, -, hy⟩ := o.row
          cases e2
          have := (hy x hx).1
          have := HG.out.2.1
          rw [show x.block = G from e] at *
          omega)
        have HA := hideIt (And.intro aw rb)
        clear hb hds bw hj aw rb
        go_wp2_with fail
        refine (HP.out _ HA.out.1).mono ?_
        rintro e w5 ⟨a5, c5, rfl, -, r5, b5⟩
        have H5 := hideIt (And.intro r5 (And.intro (HA.out.2.after b5) (HA.out.1.trans b5)))
        clear r5 b5
        go_wp2_with fail
        refine (HSm.out _ a5 a2 c5 c2 H5.out.1 H5.out.2.1).mono ?_
        rintro e w6 ⟨rfl, b6⟩
        have H6 := hideIt (H5.out.2.2.trans b6)
        clear b6
        go_wp2_with fail
        refine (works_any _ (HL.out.on H6.out)).mono ?_
        rintro e w7 ⟨rfl, b7⟩
        have H7 := hideIt (H6.out.trans b7)
        clear b7
        go_wp2
        go_ret
        exact ⟨rfl, H7.out⟩
  · have i0 : n = 0 := by omega
    obtain rfl := i0
    have HA := hideIt (And.intro H3.out.2 (H2.out.2.1.after H3.out.1))
    go_loopw [9] (fun i wr => i = .int .i64 0 ∧ wr = w3) (fun _ _ => 0)
    case atStart => exact ⟨rfl, rfl⟩
    case round =>
      obtain ⟨rfl, rfl⟩ := hrel
      go_wp2_with fail
      refine (HP.out _ HA.out.1).mono ?_
      rintro e w5 ⟨a5, c5, rfl, -, r5, b5⟩
      have H5 := hideIt (And.intro r5 (And.intro (HA.out.2.after b5) (HA.out.1.trans b5)))
      clear r5 b5
      go_wp2_with fail
      refine (HSm.out _ a5 a2 c5 c2 H5.out.1 H5.out.2.1).mono ?_
      rintro e w6 ⟨rfl, b6⟩
      have H6 := hideIt (H5.out.2.2.trans b6)
      clear b6
      go_wp2_with fail
      refine (works_any _ (HL.out.on H6.out)).mono ?_
      rintro e w7 ⟨rfl, b7⟩
      have H7 := hideIt (H6.out.trans b7)
      clear b7
      go_wp2
      go_ret
      exact ⟨rfl, H7.out⟩
end Go.Proofs.YtlfcihanhfabmaaGreatDoor
