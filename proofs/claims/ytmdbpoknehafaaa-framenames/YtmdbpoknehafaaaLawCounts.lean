/-
  FrameCounts, walked.
-/
import Derived.Test.YtmdbpoknehafaaaTurned
namespace Go.Proofs.Ytmdbpoknehafaaa
open Go.RowKit
theorem wide_take {fs : List (List Int)} {j : Nat} (h : j < fs.length) : wide (fs.take (j + 1)) = wide (fs.take j) + (fs.getD j []).length + 5 := by
  rw [List.take_succ_eq_append_getElem h, wide_append]
  simp [wide, List.getD_eq_getElem?_getD, h]
  omega
theorem fed_room {us ys : List Int} (h1 : us.length ≤ 260) (h2 : ys.length ≤ 1048576) : (frs (us ++ ys)).length * 24 ≤ 140737488355328 := by
  have := frs_length (us ++ ys)
  rw [List.length_append] at this
  omega
set_option maxRecDepth 100000 in
set_option maxHeartbeats 1000000 in
theorem counts_walk (a : Option Addr) (n c : Nat) (fs : List (List Int)) (w : World) (h : Lst w a n fs) (hm : ∀ f ∈ fs, f.length ≤ 1048576) (hn : n ≤ 1048576) :
    Calls Try.prog 6 #[.slice a n c] w fun e w' => e = .returned (.bool true) ∧ After w w' := by
  have HL := hideIt h
  have HM : Hid (∀ i, (fs.getD i []).length ≤ 1048576) := fun i => by
    by_cases hi : i < fs.length
    · have := hm (fs.getD i []) (by simp [List.getD_eq_getElem?_getD, hi])
      exact this
    · simp [List.getD_eq_getElem?_getD, List.getElem?_eq_none (show fs.length ≤ i by omega)]
  clear h hm
  go_enter Try.func6, Try.ntmps6
  go_wp2_with fail
  refine (awake_any _).mono ?_
  rintro e w1 ⟨rfl, a1⟩
  have A1 := hideIt a1
  clear a1
  go_wp2_with fail
  refine (new_any _).mono ?_
  rintro e w2 ⟨rfl, d2, a2⟩
  have D2 := hideIt d2
  have A2 := hideIt (A1.out.trans a2)
  have G0 := hideIt A1.out.size
  clear d2 a2 A1
  generalize w1.heap.size = g at *
  go_wp2_with fail
  go_loopw [4, 5, 6] (fun x y i W => ∃ (k h I O : Nat) (us : List Int), k ≤ n ∧ k ≤ 60 ∧ i = .int .i64 k ∧ x = .int .i64 I ∧ y = .int .i64 O ∧ DfAt W g h us ∧ us.length ≤ 260 ∧ I = O + us.length ∧ I ≤ k * 1048576 ∧ After w W) (fun _ _ i _ => 60 - (intOf i).toNat)
  case atStart => exact ⟨0, g, 0, 0, [], by omega, by omega, rfl, rfl, rfl, D2.out, by simp, by simp, by omega, A2.out⟩
  case round =>
    obtain ⟨k, hh, I, O, us, hk, hk6, rfl, rfl, rfl, hd, hu, hI, hI2, hA⟩ := hrel
    by_cases hlt : k < n
    · by_cases hl6 : k < 60
      · obtain ⟨b, off, a1, c1, rfl, g1, e1, r1, n1, l1, m1⟩ := (HL.out.after hA).at hlt
        have hml := HM.out k
        have HF := hideIt (feed_any wr g hh us a1 (fs.getD k []).length c1 (fs.getD k []) hd r1 n1 (by omega) (fed_room hu hml))
        have hcnt := fed_count (us ++ fs.getD k [])
        rw [List.length_append] at hcnt
        have hrl := rst_len (us ++ fs.getD k [])
        have hbod := fed_bodies (us ++ fs.getD k [])
        have hfl := frs_length (us ++ fs.getD k [])
        rw [List.length_append] at hfl
        generalize us ++ fs.getD k [] = T at *
        obtain ⟨m, hm⟩ : ∃ m, (fs.getD k []).length = m := ⟨_, rfl⟩
        rw [hm] at HF hcnt e1 hml hfl
        have HA := hideIt hA
        have hki : (k : Int) < (n : Int) := by omega
        have hk60 : (k : Int) < 60 := by omega
        have HBOD := hideIt hbod
        have HRL := hideIt hrl
        clear r1 n1 l1 m1 hA hd hm hbod hrl
        go_wp2_with fail
        refine HF.out.mono ?_
        rintro e w3 ⟨v3, h3, rfl, f3, d3, l3, b3⟩
        have hA3 : After w w3 := HA.out.then b3 (fun i hi t => by have t2 : i = g := t; have := G0.out; omega)
        have hbg : b ≠ g := by
          have := (HL.out.2 k hlt)
          obtain ⟨b', off', v', e', hb', _⟩ := this
          cases e'
          have := G0.out; omega
        have e2 : w3.cell? ⟨b, off + k, none⟩ = some (.slice a1 m c1) := by rw [b3.cell g1 hbg]; exact e1
        obtain ⟨p4, q4, rfl, l4⟩ := (f3.gat (fun f hf => by have := HBOD.out f hf; omega)).lst
        have L4 := hideIt l4
        have D3 := hideIt d3
        have A3 := hideIt hA3
        have hdr : O + drp T + wide (frs T) + (rst T).length = I + m := by omega
        have HDR := hideIt hdr
        have hb1 : O + drp T ≤ 140737488355328 := by omega
        have hb2 : I + m ≤ 140737488355328 := by omega
        clear f3 d3 l3 b3 l4 hA3 HF HA e1 hdr hcnt
        obtain ⟨F, hF⟩ : ∃ F, F = frs T := ⟨_, rfl⟩
        rw [← hF] at L4 HBOD HDR hfl ⊢
        obtain ⟨N, hN⟩ : ∃ N, N = F.length := ⟨_, rfl⟩
        rw [← hN] at L4 hfl ⊢
        obtain ⟨d, hd⟩ : ∃ d, d = drp T := ⟨_, rfl⟩
        rw [← hd] at HDR hb1 ⊢
        have HNN := hideIt hN
        clear hF hN hd
        have hWI : Hid (∀ j, j ≤ N → O + d + wide (F.take j) ≤ 140737488355328) := fun j hj => by
          have h1 := HDR.out
          have h2 := wide_append (F.take j) (F.drop j)
          rw [List.take_append_drop] at h2
          omega
        go_wp2_with fail
        go_loop [5, 10] (fun y i => ∃ j : Nat, j ≤ N ∧ i = .int .i64 j ∧ y = .int .i64 ((O + d + wide (F.take j) : Nat) : Int)) (fun _ i => N - (intOf i).toNat)
        case atStart => exact ⟨0, by omega, rfl, by simp [wide]⟩
        case round =>
          obtain ⟨j, hj, rfl, rfl⟩ := hrel
          by_cases hjl : j < N
          · obtain ⟨b4, o4, a4, c4, rfl, g4, e4, _, _, _, _⟩ := L4.out.at hjl
            have hw := wide_take (fs := F) (j := j) (by have := HNN.out; omega)
            have hf := HBOD.out (F.getD j []) (by simp [List.getD_eq_getElem?_getD, show j < F.length by have := HNN.out; omega])
            have hwi := hWI.out (j + 1) (by omega)
            rw [hw] at hwi
            have HW := hideIt hw
            generalize (F.getD j []).length = q at *
            obtain ⟨S, hS⟩ : ∃ S, S = O + d + wide (F.take j) := ⟨_, rfl⟩
            have HS := hideIt hS
            rw [← hS]
            have hji : (j : Int) < (N : Int) := by omega
            have hq1 : ¬ (q : Int) < 1 := by omega
            have hq2 : ¬ (256 : Int) < (q : Int) := by omega
            have hSq : S + q + 5 ≤ 140737488355328 := by omega
            clear hw hwi hS hf
            go_wp2
            go_round
            case rel => exact ⟨j + 1, by omega, by go_num, by rw [HW.out]; have := HS.out; first | (congr 1; omega) | go_num⟩
            case measure => simp [intOf]; omega
          · obtain rfl : j = N := by omega
            have e5 : wide (F.take j) = wide F := by rw [HNN.out, List.take_length]
            rw [e5]
            obtain ⟨S, hS⟩ : ∃ S, S = O + d + wide F := ⟨_, rfl⟩
            rw [← hS]
            have hSr : S + (rst T).length = I + m := by have := HDR.out; omega
            have HP := hideIt (pending_any _ _ _ _ D3.out)
            have hrl := HRL.out
            have HSI := hideIt hSr
            have HRR := hideIt hrl
            generalize hRR : (rst T).length = R at *
            have hsri : (S : Int) + (R : Int) = (I : Int) + (m : Int) := by omega
            have hr260 : ¬ (260 : Int) < (R : Int) := by omega
            clear e5 hS
            go_wp2_with (go_at_call 15; refine HP.out.mono ?_; rintro e w9 ⟨rfl, rfl⟩)
            go_roundw
            case rel => exact ⟨k + 1, h3, I + m, S, rst T, by omega, by omega, by go_num, by go_num, rfl, D3.out, by omega, by omega, by omega, A3.out⟩
            case measure => simp [intOf]; omega
      · have hk60 : ¬ (k : Int) < 60 := by omega
        have HA := hideIt hA
        clear hd hA
        go_wp2
        go_ret
        exact ⟨rfl, HA.out⟩
    · have hki : ¬ (k : Int) < (n : Int) := by omega
      have HA := hideIt hA
      clear hd hA
      go_wp2
      go_ret
      exact ⟨rfl, HA.out⟩
end Go.Proofs.Ytmdbpoknehafaaa
