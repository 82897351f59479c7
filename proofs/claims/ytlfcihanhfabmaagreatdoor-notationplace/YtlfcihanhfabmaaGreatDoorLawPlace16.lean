/-
  The walk of the statement NotationPlace: it answers true at every input.
-/
import Derived.Test.YtlfcihanhfabmaaGreatDoorNtX
import Derived.Test.YtlfcihanhfabmaaGreatDoorNtR
namespace Go.Proofs.YtlfcihanhfabmaaGreatDoor
open Go.RowKit
set_option maxRecDepth 8000
open L1 (S)
/-- The bytes at which the statement ends a word. -/
def stopB (c : UInt8) : Bool := decide (c = 32) || decide (c = 40) || decide (c = 41) || decide (c = 60) || decide (c = 62)
theorem stop_plain {c : UInt8} (h : stopB c = true) : plainB c = false := by
  unfold stopB at h
  simp at h
  rcases h with (((rfl | rfl) | rfl) | rfl) | rfl <;> decide
theorem stop_cases {c : UInt8} (h : stopB c = true) : c = 32 ∨ c = 40 ∨ c = 41 ∨ c = 60 ∨ c = 62 := by
  unfold stopB at h
  simp at h
  rcases h with (((h | h) | h) | h) | h
  · exact .inl h
  · exact .inr (.inl h)
  · exact .inr (.inr (.inl h))
  · exact .inr (.inr (.inr (.inl h)))
  · exact .inr (.inr (.inr (.inr h)))
/-- The word that is wrong ends no later than where the statement ends it. -/
theorem stop_word {s : W8} {at_ q : Nat} (_hall : ∀ i, at_ ≤ i → i < q → ∃ c, s[i]? = some c ∧ stopB c = false) (hq : at_ ≤ q) (hend : q = s.length ∨ ∃ c, s[q]? = some c ∧ stopB c = true) {x : W8} (hw : WordAt s at_ x) : at_ + x.length ≤ (if q = at_ then q + 1 else q) := by
  obtain ⟨hl, hle⟩ := word_len hw
  rcases Nat.lt_or_ge (plains (s.drop at_)) 1 with h0 | h0
  · have hn : wordN (s.drop at_) ≤ 1 := by
      unfold wordN
      rw [if_pos (by omega)]
      split <;> omega
    split <;> omega
  · have hn : wordN (s.drop at_) = plains (s.drop at_) := by unfold wordN; rw [if_neg (by omega)]
    -- all of the word's bytes are plain: none is a stop
    have hqq : at_ + x.length ≤ q := by
      rcases Nat.lt_or_ge q (at_ + x.length) with h | h
      · exfalso
        obtain ⟨c, hc, hp⟩ := plains_lt (s := s) (i := at_) (k := q - at_) (by omega)
        rw [show at_ + (q - at_) = q by omega] at hc
        rcases hend with he | ⟨c', hc', hs⟩
        · rw [he] at hc; simp at hc
        · rw [hc] at hc'
          cases hc'
          rw [stop_plain hs] at hp; cases hp
      · exact h
    split <;> omega
theorem S_toNat {c : UInt8} {k : Nat} (h : k < 256) (hc : ¬ c = UInt8.ofNat k) : ¬ (c.toNat : Int) = k := by
  intro e
  apply hc
  apply UInt8.toNat_inj.1
  rw [UInt8.toNat_ofNat']
  have : c.toNat = k := by omega
  rw [this, Nat.mod_eq_of_lt (by simpa using h)]
set_option maxHeartbeats 4000000 in
theorem law_place (s more : W8) (w : World) (hl : Laid w) (hs : s.length ≤ maxLen) (hm : more.length ≤ 140737488351232) : Calls Tryz.prog 7 #[.string (S s), .string (S more)] w fun e w' => e = .returned (.bool true) ∧ After w w' := by
  have HL := hideIt hl
  have HS := hideIt hs
  have HM := hideIt hm
  clear hl hs hm
  by_cases h4 : (parseA s).e = 4
  · obtain ⟨hs1, k, hk, hp⟩ := parse_err h4
    have hat : (parseA s).at_ ≤ s.length := by
      rw [hp]
      show plc s k ≤ s.length
      unfold plc
      rcases hts : (lex 0 s).drop ((lex 0 s).length - k) with _ | ⟨t, r⟩
      · exact Nat.le_refl _
      · have := (cur_all ((lex 0 s).take ((lex 0 s).length - k)) (t :: r) (by rw [← hts, List.take_append_drop])).2 t.1 t.2 r rfl
        exact Nat.le_of_lt this.lt
    have HP := hideIt (fun W (a : After w W) => parse_slice s W (HL.out.on a) HS.out)
    have e1 : (parseA s).ns = [] := by rw [hp]
    obtain ⟨at_, hat0⟩ : ∃ a, a = (parseA s).at_ := ⟨_, rfl⟩
    rw [h4, e1, ← hat0] at HP
    rw [← hat0] at hat
    have HAt := hideIt (And.intro h4 (And.intro hat0.symm (And.intro hat hs1)))
    have z0 : ¬ (at_ : Int) < 0 := by omega
    have z00 : decide ((at_ : Int) < 0) = false := decide_eq_false z0
    clear h4 hk hp e1 hat0
    by_cases hlt : at_ < s.length
    · have z1 : ¬ ((S s).size : Int) ≤ (at_ : Int) := by rw [L1.S_size]; omega
      have z2 : (at_ : Int) < ((S s).size : Int) := by rw [L1.S_size]; omega
      have z3 : ((S s).size : Int) ≤ 1024 := by rw [L1.S_size]; omega
      have HLt := hideIt hlt
      clear hat hs1 hlt
      go_enter Tryz.func7, Tryz.ntmps7
      go_wp2_with fail
      refine (works_any w HL.out).mono ?_
      rintro e w1 ⟨rfl, a1⟩
      have HA1 := hideIt a1
      clear a1
      go_wp2_with fail
      refine (HP.out _ HA1.out).mono ?_
      rintro e w2 ⟨a, c, rfl, -, -, a2⟩
      have HA2 := hideIt (HA1.out.trans a2)
      clear a2
      go_wp2_with fail
      go_loopw [8] (fun i wr => ∃ q : Nat, at_ ≤ q ∧ q ≤ s.length ∧ i = .int .i64 (q : Int) ∧ wr = w2 ∧ ∀ i, at_ ≤ i → i < q → ∃ c, s[i]? = some c ∧ stopB c = false) (fun i _ => 1024 - (intOf i).toNat)
      case atStart => exact ⟨at_, Nat.le_refl _, Nat.le_of_lt HLt.out, rfl, rfl, fun i h1 h2 => absurd h2 (by omega)⟩
      case round =>
        obtain ⟨q, hq1, hq2, rfl, rfl, hall⟩ := hrel
        have HAll := hideIt (And.intro hq1 (And.intro hq2 hall))
        have q0 : (0 : Int) ≤ (q : Int) := by omega
        rcases Nat.lt_or_ge q s.length with hql | hqe
        · obtain ⟨c, hc⟩ : ∃ c, s[q]? = some c := ⟨s[q], by simp [hql]⟩
          obtain ⟨hj, hb⟩ := S_at hc
          have q1 : (q : Int) < ((S s).size : Int) := by omega
          rcases hst : stopB c with _ | _
          · have hn : ¬ c = 32 ∧ ¬ c = 40 ∧ ¬ c = 41 ∧ ¬ c = 60 ∧ ¬ c = 62 := by
              unfold stopB at hst
              simp at hst
              exact ⟨hst.1.1.1.1, hst.1.1.1.2, hst.1.1.2, hst.1.2, hst.2⟩
            have n1 : ¬ (c.toNat : Int) = 32 := by have := S_toNat (k := 32) (by omega) hn.1; omega
            have n2 : ¬ (c.toNat : Int) = 40 := by have := S_toNat (k := 40) (by omega) hn.2.1; omega
            have n3 : ¬ (c.toNat : Int) = 41 := by have := S_toNat (k := 41) (by omega) hn.2.2.1; omega
            have n4 : ¬ (c.toNat : Int) = 60 := by have := S_toNat (k := 60) (by omega) hn.2.2.2.1; omega
            have n5 : ¬ (c.toNat : Int) = 62 := by have := S_toNat (k := 62) (by omega) hn.2.2.2.2; omega
            have b1 : ((c.toNat : Int) != 32) = true := by simpa using n1
            have b2 : ((c.toNat : Int) != 40) = true := by simpa using n2
            have b3 : ((c.toNat : Int) != 41) = true := by simpa using n3
            have b4 : ((c.toNat : Int) != 60) = true := by simpa using n4
            have b5 : ((c.toNat : Int) != 62) = true := by simpa using n5
            have HC := hideIt (And.intro hc hst)
            clear hn hc hst hall hq1 hq2
            go_wp2_with fail
            go_roundw
            case rel =>
              refine ⟨q + 1, by have := HAll.out.1; omega, hql, by go_num, by first | exact rfl | trivial, fun i h1 h2 => ?_⟩
              rcases Nat.lt_or_ge i q with h3 | h3
              · exact HAll.out.2.2 i h1 h3
              · obtain rfl : i = q := by omega
                exact ⟨c, HC.out.1, HC.out.2⟩
            case measure =>
              have h5 := HAt.out.2.2.2
              simp [intOf]
              omega
          · have HC := hideIt (And.intro hc hst)
            have hcs := stop_cases hst
            clear hst
            rcases hcs with rfl | rfl | rfl | rfl | rfl
            · have HEnd : Hid (q = s.length ∨ ∃ c, s[q]? = some c ∧ stopB c = true) := hideIt (.inr ⟨_, HC.out.1, HC.out.2⟩)
              clear hc hall hq1 hq2
              by_cases hqa : q = at_
              · subst hqa
                obtain ⟨ee, hee⟩ : ∃ ee, ee = q + 1 := ⟨_, rfl⟩
                have x1 : (q : Int) + 1 = (ee : Int) := by omega
                have hes : ee ≤ s.length := by have := HAll.out.2.1; have := HLt.out; omega
                have x2 : (0 : Int) ≤ (ee : Int) := by omega
                have x3 : (ee : Int) ≤ ((S s).size : Int) := by rw [L1.S_size]; omega
                have HW : Hid (∀ x, WordAt s q x → q + x.length ≤ ee) := hideIt (fun x hx => by
                  have := stop_word HAll.out.2.2 HAll.out.1 HEnd.out hx
                  rw [if_pos rfl] at this
                  omega)
                have y1 : (S s).extract 0 ee = S (s.take ee) := by rw [S_extract, List.drop_zero, Nat.sub_zero]
                have y2 : S (s.take ee) ++ (⟨#[32]⟩ : ByteArray) = S (s.take ee ++ [32]) := L1.S_cat _ [32]
                have y3 : S (s.take ee ++ [32]) ++ S more = S (s.take ee ++ 32 :: more) := by rw [L1.S_cat]; simp
                have y4 : (S (s.take ee)).size ≤ 1024 := by rw [L1.S_size, List.length_take]; have := HAt.out.2.2.2; omega
                have y5 : (S (s.take ee ++ [32])).size ≤ 1025 := by rw [L1.S_size, List.length_append, List.length_take]; have := HAt.out.2.2.2; simp; omega
                have y6 : (S more).size ≤ 140737488351232 := HM.out
                have HES := hideIt hes
                have HEE := hideIt hee
                clear hes hee
                by_cases hlong : 1024 < (s.take ee ++ 32 :: more).length
                · have x6 : (1024 : Int) < ((S (s.take ee ++ 32 :: more)).size : Int) := by rw [L1.S_size]; omega
                  clear hlong
                  go_wp2_with fail
                  go_ret
                  exact ⟨rfl, HA2.out⟩
                · have x6 : ¬ (1024 : Int) < ((S (s.take ee ++ 32 :: more)).size : Int) := by rw [L1.S_size]; omega
                  have HPl := hideIt (place_is (r := 32 :: more) HAt.out.1 HAt.out.2.1 HLt.out HW.out HES.out rfl (by omega))
                  have HLo : Hid ((s.take ee ++ 32 :: more).length ≤ 100000) := hideIt (by omega)
                  clear hlong
                  go_wp2_with fail
                  refine (wrong_yes HPl.out _ (HL.out.on HA2.out) HLo.out).mono ?_
                  rintro e w3 ⟨rfl, a3⟩
                  have HA3 := hideIt (HA2.out.trans a3)
                  clear a3
                  go_wp2
                  go_ret
                  exact ⟨rfl, HA3.out⟩
              · obtain ⟨ee, hee⟩ : ∃ ee, ee = q := ⟨_, rfl⟩
                have hes : ee ≤ s.length := by have := HAll.out.2.1; have := HLt.out; omega
                have x2 : (0 : Int) ≤ (ee : Int) := by omega
                have x3 : (ee : Int) ≤ ((S s).size : Int) := by rw [L1.S_size]; omega
                have HW : Hid (∀ x, WordAt s at_ x → at_ + x.length ≤ ee) := hideIt (fun x hx => by
                  have := stop_word HAll.out.2.2 HAll.out.1 HEnd.out hx
                  rw [if_neg hqa] at this
                  omega)
                have y1 : (S s).extract 0 ee = S (s.take ee) := by rw [S_extract, List.drop_zero, Nat.sub_zero]
                have y2 : S (s.take ee) ++ (⟨#[32]⟩ : ByteArray) = S (s.take ee ++ [32]) := L1.S_cat _ [32]
                have y3 : S (s.take ee ++ [32]) ++ S more = S (s.take ee ++ 32 :: more) := by rw [L1.S_cat]; simp
                have y4 : (S (s.take ee)).size ≤ 1024 := by rw [L1.S_size, List.length_take]; have := HAt.out.2.2.2; omega
                have y5 : (S (s.take ee ++ [32])).size ≤ 1025 := by rw [L1.S_size, List.length_append, List.length_take]; have := HAt.out.2.2.2; simp; omega
                have y6 : (S more).size ≤ 140737488351232 := HM.out
                have HES := hideIt hes
                have x5 : ¬ (q : Int) = (at_ : Int) := by omega
                rw [hee] at y1 y2 y3 y4 y5 HW HES
                have x3' : (q : Int) ≤ ((S s).size : Int) := by rw [hee] at x3; exact x3
                clear hee x2 x3 hes
                by_cases hlong : 1024 < (s.take q ++ 32 :: more).length
                · have x6 : (1024 : Int) < ((S (s.take q ++ 32 :: more)).size : Int) := by rw [L1.S_size]; omega
                  clear hlong
                  go_wp2_with fail
                  go_ret
                  exact ⟨rfl, HA2.out⟩
                · have x6 : ¬ (1024 : Int) < ((S (s.take q ++ 32 :: more)).size : Int) := by rw [L1.S_size]; omega
                  have HPl := hideIt (place_is (r := 32 :: more) HAt.out.1 HAt.out.2.1 HLt.out HW.out HES.out rfl (by omega))
                  have HLo : Hid ((s.take q ++ 32 :: more).length ≤ 100000) := hideIt (by omega)
                  clear hlong
                  go_wp2_with fail
                  refine (wrong_yes HPl.out _ (HL.out.on HA2.out) HLo.out).mono ?_
                  rintro e w3 ⟨rfl, a3⟩
                  have HA3 := hideIt (HA2.out.trans a3)
                  clear a3
                  go_wp2
                  go_ret
                  exact ⟨rfl, HA3.out⟩
            · have HEnd : Hid (q = s.length ∨ ∃ c, s[q]? = some c ∧ stopB c = true) := hideIt (.inr ⟨_, HC.out.1, HC.out.2⟩)
              clear hc hall hq1 hq2
              by_cases hqa : q = at_
              · subst hqa
                obtain ⟨ee, hee⟩ : ∃ ee, ee = q + 1 := ⟨_, rfl⟩
                have x1 : (q : Int) + 1 = (ee : Int) := by omega
                have hes : ee ≤ s.length := by have := HAll.out.2.1; have := HLt.out; omega
                have x2 : (0 : Int) ≤ (ee : Int) := by omega
                have x3 : (ee : Int) ≤ ((S s).size : Int) := by rw [L1.S_size]; omega
                have HW : Hid (∀ x, WordAt s q x → q + x.length ≤ ee) := hideIt (fun x hx => by
                  have := stop_word HAll.out.2.2 HAll.out.1 HEnd.out hx
                  rw [if_pos rfl] at this
                  omega)
                have y1 : (S s).extract 0 ee = S (s.take ee) := by rw [S_extract, List.drop_zero, Nat.sub_zero]
                have y2 : S (s.take ee) ++ (⟨#[32]⟩ : ByteArray) = S (s.take ee ++ [32]) := L1.S_cat _ [32]
                have y3 : S (s.take ee ++ [32]) ++ S more = S (s.take ee ++ 32 :: more) := by rw [L1.S_cat]; simp
                have y4 : (S (s.take ee)).size ≤ 1024 := by rw [L1.S_size, List.length_take]; have := HAt.out.2.2.2; omega
                have y5 : (S (s.take ee ++ [32])).size ≤ 1025 := by rw [L1.S_size, List.length_append, List.length_take]; have := HAt.out.2.2.2; simp; omega
                have y6 : (S more).size ≤ 140737488351232 := HM.out
                have HES := hideIt hes
                have HEE := hideIt hee
                clear hes hee
                by_cases hlong : 1024 < (s.take ee ++ 32 :: more).length
                · have x6 : (1024 : Int) < ((S (s.take ee ++ 32 :: more)).size : Int) := by rw [L1.S_size]; omega
                  clear hlong
                  go_wp2_with fail
                  go_ret
                  exact ⟨rfl, HA2.out⟩
                · have x6 : ¬ (1024 : Int) < ((S (s.take ee ++ 32 :: more)).size : Int) := by rw [L1.S_size]; omega
                  have HPl := hideIt (place_is (r := 32 :: more) HAt.out.1 HAt.out.2.1 HLt.out HW.out HES.out rfl (by omega))
                  have HLo : Hid ((s.take ee ++ 32 :: more).length ≤ 100000) := hideIt (by omega)
                  clear hlong
                  go_wp2_with fail
                  refine (wrong_yes HPl.out _ (HL.out.on HA2.out) HLo.out).mono ?_
                  rintro e w3 ⟨rfl, a3⟩
                  have HA3 := hideIt (HA2.out.trans a3)
                  clear a3
                  go_wp2
                  go_ret
                  exact ⟨rfl, HA3.out⟩
              · obtain ⟨ee, hee⟩ : ∃ ee, ee = q := ⟨_, rfl⟩
                have hes : ee ≤ s.length := by have := HAll.out.2.1; have := HLt.out; omega
                have x2 : (0 : Int) ≤ (ee : Int) := by omega
                have x3 : (ee : Int) ≤ ((S s).size : Int) := by rw [L1.S_size]; omega
                have HW : Hid (∀ x, WordAt s at_ x → at_ + x.length ≤ ee) := hideIt (fun x hx => by
                  have := stop_word HAll.out.2.2 HAll.out.1 HEnd.out hx
                  rw [if_neg hqa] at this
                  omega)
                have y1 : (S s).extract 0 ee = S (s.take ee) := by rw [S_extract, List.drop_zero, Nat.sub_zero]
                have y2 : S (s.take ee) ++ (⟨#[32]⟩ : ByteArray) = S (s.take ee ++ [32]) := L1.S_cat _ [32]
                have y3 : S (s.take ee ++ [32]) ++ S more = S (s.take ee ++ 32 :: more) := by rw [L1.S_cat]; simp
                have y4 : (S (s.take ee)).size ≤ 1024 := by rw [L1.S_size, List.length_take]; have := HAt.out.2.2.2; omega
                have y5 : (S (s.take ee ++ [32])).size ≤ 1025 := by rw [L1.S_size, List.length_append, List.length_take]; have := HAt.out.2.2.2; simp; omega
                have y6 : (S more).size ≤ 140737488351232 := HM.out
                have HES := hideIt hes
                have x5 : ¬ (q : Int) = (at_ : Int) := by omega
                rw [hee] at y1 y2 y3 y4 y5 HW HES
                have x3' : (q : Int) ≤ ((S s).size : Int) := by rw [hee] at x3; exact x3
                clear hee x2 x3 hes
                by_cases hlong : 1024 < (s.take q ++ 32 :: more).length
                · have x6 : (1024 : Int) < ((S (s.take q ++ 32 :: more)).size : Int) := by rw [L1.S_size]; omega
                  clear hlong
                  go_wp2_with fail
                  go_ret
                  exact ⟨rfl, HA2.out⟩
                · have x6 : ¬ (1024 : Int) < ((S (s.take q ++ 32 :: more)).size : Int) := by rw [L1.S_size]; omega
                  have HPl := hideIt (place_is (r := 32 :: more) HAt.out.1 HAt.out.2.1 HLt.out HW.out HES.out rfl (by omega))
                  have HLo : Hid ((s.take q ++ 32 :: more).length ≤ 100000) := hideIt (by omega)
                  clear hlong
                  go_wp2_with fail
                  refine (wrong_yes HPl.out _ (HL.out.on HA2.out) HLo.out).mono ?_
                  rintro e w3 ⟨rfl, a3⟩
                  have HA3 := hideIt (HA2.out.trans a3)
                  clear a3
                  go_wp2
                  go_ret
                  exact ⟨rfl, HA3.out⟩
            · have HEnd : Hid (q = s.length ∨ ∃ c, s[q]? = some c ∧ stopB c = true) := hideIt (.inr ⟨_, HC.out.1, HC.out.2⟩)
              clear hc hall hq1 hq2
              by_cases hqa : q = at_
              · subst hqa
                obtain ⟨ee, hee⟩ : ∃ ee, ee = q + 1 := ⟨_, rfl⟩
                have x1 : (q : Int) + 1 = (ee : Int) := by omega
                have hes : ee ≤ s.length := by have := HAll.out.2.1; have := HLt.out; omega
                have x2 : (0 : Int) ≤ (ee : Int) := by omega
                have x3 : (ee : Int) ≤ ((S s).size : Int) := by rw [L1.S_size]; omega
                have HW : Hid (∀ x, WordAt s q x → q + x.length ≤ ee) := hideIt (fun x hx => by
                  have := stop_word HAll.out.2.2 HAll.out.1 HEnd.out hx
                  rw [if_pos rfl] at this
                  omega)
                have y1 : (S s).extract 0 ee = S (s.take ee) := by rw [S_extract, List.drop_zero, Nat.sub_zero]
                have y2 : S (s.take ee) ++ (⟨#[32]⟩ : ByteArray) = S (s.take ee ++ [32]) := L1.S_cat _ [32]
                have y3 : S (s.take ee ++ [32]) ++ S more = S (s.take ee ++ 32 :: more) := by rw [L1.S_cat]; simp
                have y4 : (S (s.take ee)).size ≤ 1024 := by rw [L1.S_size, List.length_take]; have := HAt.out.2.2.2; omega
                have y5 : (S (s.take ee ++ [32])).size ≤ 1025 := by rw [L1.S_size, List.length_append, List.length_take]; have := HAt.out.2.2.2; simp; omega
                have y6 : (S more).size ≤ 140737488351232 := HM.out
                have HES := hideIt hes
                have HEE := hideIt hee
                clear hes hee
                by_cases hlong : 1024 < (s.take ee ++ 32 :: more).length
                · have x6 : (1024 : Int) < ((S (s.take ee ++ 32 :: more)).size : Int) := by rw [L1.S_size]; omega
                  clear hlong
                  go_wp2_with fail
                  go_ret
                  exact ⟨rfl, HA2.out⟩
                · have x6 : ¬ (1024 : Int) < ((S (s.take ee ++ 32 :: more)).size : Int) := by rw [L1.S_size]; omega
                  have HPl := hideIt (place_is (r := 32 :: more) HAt.out.1 HAt.out.2.1 HLt.out HW.out HES.out rfl (by omega))
                  have HLo : Hid ((s.take ee ++ 32 :: more).length ≤ 100000) := hideIt (by omega)
                  clear hlong
                  go_wp2_with fail
                  refine (wrong_yes HPl.out _ (HL.out.on HA2.out) HLo.out).mono ?_
                  rintro e w3 ⟨rfl, a3⟩
                  have HA3 := hideIt (HA2.out.trans a3)
                  clear a3
                  go_wp2
                  go_ret
                  exact ⟨rfl, HA3.out⟩
              · obtain ⟨ee, hee⟩ : ∃ ee, ee = q := ⟨_, rfl⟩
                have hes : ee ≤ s.length := by have := HAll.out.2.1; have := HLt.out; omega
                have x2 : (0 : Int) ≤ (ee : Int) := by omega
                have x3 : (ee : Int) ≤ ((S s).size : Int) := by rw [L1.S_size]; omega
                have HW : Hid (∀ x, WordAt s at_ x → at_ + x.length ≤ ee) := hideIt (fun x hx => by
                  have := stop_word HAll.out.2.2 HAll.out.1 HEnd.out hx
                  rw [if_neg hqa] at this
                  omega)
                have y1 : (S s).extract 0 ee = S (s.take ee) := by rw [S_extract, List.drop_zero, Nat.sub_zero]
                have y2 : S (s.take ee) ++ (⟨#[32]⟩ : ByteArray) = S (s.take ee ++ [32]) := L1.S_cat _ [32]
                have y3 : S (s.take ee ++ [32]) ++ S more = S (s.take ee ++ 32 :: more) := by rw [L1.S_cat]; simp
                have y4 : (S (s.take ee)).size ≤ 1024 := by rw [L1.S_size, List.length_take]; have := HAt.out.2.2.2; omega
                have y5 : (S (s.take ee ++ [32])).size ≤ 1025 := by rw [L1.S_size, List.length_append, List.length_take]; have := HAt.out.2.2.2; simp; omega
                have y6 : (S more).size ≤ 140737488351232 := HM.out
                have HES := hideIt hes
                have x5 : ¬ (q : Int) = (at_ : Int) := by omega
                rw [hee] at y1 y2 y3 y4 y5 HW HES
                have x3' : (q : Int) ≤ ((S s).size : Int) := by rw [hee] at x3; exact x3
                clear hee x2 x3 hes
                by_cases hlong : 1024 < (s.take q ++ 32 :: more).length
                · have x6 : (1024 : Int) < ((S (s.take q ++ 32 :: more)).size : Int) := by rw [L1.S_size]; omega
                  clear hlong
                  go_wp2_with fail
                  go_ret
                  exact ⟨rfl, HA2.out⟩
                · have x6 : ¬ (1024 : Int) < ((S (s.take q ++ 32 :: more)).size : Int) := by rw [L1.S_size]; omega
                  have HPl := hideIt (place_is (r := 32 :: more) HAt.out.1 HAt.out.2.1 HLt.out HW.out HES.out rfl (by omega))
                  have HLo : Hid ((s.take q ++ 32 :: more).length ≤ 100000) := hideIt (by omega)
                  clear hlong
                  go_wp2_with fail
                  refine (wrong_yes HPl.out _ (HL.out.on HA2.out) HLo.out).mono ?_
                  rintro e w3 ⟨rfl, a3⟩
                  have HA3 := hideIt (HA2.out.trans a3)
                  clear a3
                  go_wp2
                  go_ret
                  exact ⟨rfl, HA3.out⟩
            · have HEnd : Hid (q = s.length ∨ ∃ c, s[q]? = some c ∧ stopB c = true) := hideIt (.inr ⟨_, HC.out.1, HC.out.2⟩)
              clear hc hall hq1 hq2
              by_cases hqa : q = at_
              · subst hqa
                obtain ⟨ee, hee⟩ : ∃ ee, ee = q + 1 := ⟨_, rfl⟩
                have x1 : (q : Int) + 1 = (ee : Int) := by omega
                have hes : ee ≤ s.length := by have := HAll.out.2.1; have := HLt.out; omega
                have x2 : (0 : Int) ≤ (ee : Int) := by omega
                have x3 : (ee : Int) ≤ ((S s).size : Int) := by rw [L1.S_size]; omega
                have HW : Hid (∀ x, WordAt s q x → q + x.length ≤ ee) := hideIt (fun x hx => by
                  have := stop_word HAll.out.2.2 HAll.out.1 HEnd.out hx
                  rw [if_pos rfl] at this
                  omega)
                have y1 : (S s).extract 0 ee = S (s.take ee) := by rw [S_extract, List.drop_zero, Nat.sub_zero]
                have y2 : S (s.take ee) ++ (⟨#[32]⟩ : ByteArray) = S (s.take ee ++ [32]) := L1.S_cat _ [32]
                have y3 : S (s.take ee ++ [32]) ++ S more = S (s.take ee ++ 32 :: more) := by rw [L1.S_cat]; simp
                have y4 : (S (s.take ee)).size ≤ 1024 := by rw [L1.S_size, List.length_take]; have := HAt.out.2.2.2; omega
                have y5 : (S (s.take ee ++ [32])).size ≤ 1025 := by rw [L1.S_size, List.length_append, List.length_take]; have := HAt.out.2.2.2; simp; omega
                have y6 : (S more).size ≤ 140737488351232 := HM.out
                have HES := hideIt hes
                have HEE := hideIt hee
                clear hes hee
                by_cases hlong : 1024 < (s.take ee ++ 32 :: more).length
                · have x6 : (1024 : Int) < ((S (s.take ee ++ 32 :: more)).size : Int) := by rw [L1.S_size]; omega
                  clear hlong
                  go_wp2_with fail
                  go_ret
                  exact ⟨rfl, HA2.out⟩
                · have x6 : ¬ (1024 : Int) < ((S (s.take ee ++ 32 :: more)).size : Int) := by rw [L1.S_size]; omega
                  have HPl := hideIt (place_is (r := 32 :: more) HAt.out.1 HAt.out.2.1 HLt.out HW.out HES.out rfl (by omega))
                  have HLo : Hid ((s.take ee ++ 32 :: more).length ≤ 100000) := hideIt (by omega)
                  clear hlong
                  go_wp2_with fail
                  refine (wrong_yes HPl.out _ (HL.out.on HA2.out) HLo.out).mono ?_
                  rintro e w3 ⟨rfl, a3⟩
                  have HA3 := hideIt (HA2.out.trans a3)
                  clear a3
                  go_wp2
                  go_ret
                  exact ⟨rfl, HA3.out⟩
              · obtain ⟨ee, hee⟩ : ∃ ee, ee = q := ⟨_, rfl⟩
                have hes : ee ≤ s.length := by have := HAll.out.2.1; have := HLt.out; omega
                have x2 : (0 : Int) ≤ (ee : Int) := by omega
                have x3 : (ee : Int) ≤ ((S s).size : Int) := by rw [L1.S_size]; omega
                have HW : Hid (∀ x, WordAt s at_ x → at_ + x.length ≤ ee) := hideIt (fun x hx => by
                  have := stop_word HAll.out.2.2 HAll.out.1 HEnd.out hx
                  rw [if_neg hqa] at this
                  omega)
                have y1 : (S s).extract 0 ee = S (s.take ee) := by rw [S_extract, List.drop_zero, Nat.sub_zero]
                have y2 : S (s.take ee) ++ (⟨#[32]⟩ : ByteArray) = S (s.take ee ++ [32]) := L1.S_cat _ [32]
                have y3 : S (s.take ee ++ [32]) ++ S more = S (s.take ee ++ 32 :: more) := by rw [L1.S_cat]; simp
                have y4 : (S (s.take ee)).size ≤ 1024 := by rw [L1.S_size, List.length_take]; have := HAt.out.2.2.2; omega
                have y5 : (S (s.take ee ++ [32])).size ≤ 1025 := by rw [L1.S_size, List.length_append, List.length_take]; have := HAt.out.2.2.2; simp; omega
                have y6 : (S more).size ≤ 140737488351232 := HM.out
                have HES := hideIt hes
                have x5 : ¬ (q : Int) = (at_ : Int) := by omega
                rw [hee] at y1 y2 y3 y4 y5 HW HES
                have x3' : (q : Int) ≤ ((S s).size : Int) := by rw [hee] at x3; exact x3
                clear hee x2 x3 hes
                by_cases hlong : 1024 < (s.take q ++ 32 :: more).length
                · have x6 : (1024 : Int) < ((S (s.take q ++ 32 :: more)).size : Int) := by rw [L1.S_size]; omega
                  clear hlong
                  go_wp2_with fail
                  go_ret
                  exact ⟨rfl, HA2.out⟩
                · have x6 : ¬ (1024 : Int) < ((S (s.take q ++ 32 :: more)).size : Int) := by rw [L1.S_size]; omega
                  have HPl := hideIt (place_is (r := 32 :: more) HAt.out.1 HAt.out.2.1 HLt.out HW.out HES.out rfl (by omega))
                  have HLo : Hid ((s.take q ++ 32 :: more).length ≤ 100000) := hideIt (by omega)
                  clear hlong
                  go_wp2_with fail
                  refine (wrong_yes HPl.out _ (HL.out.on HA2.out) HLo.out).mono ?_
                  rintro e w3 ⟨rfl, a3⟩
                  have HA3 := hideIt (HA2.out.trans a3)
                  clear a3
                  go_wp2
                  go_ret
                  exact ⟨rfl, HA3.out⟩
            · have HEnd : Hid (q = s.length ∨ ∃ c, s[q]? = some c ∧ stopB c = true) := hideIt (.inr ⟨_, HC.out.1, HC.out.2⟩)
              clear hc hall hq1 hq2
              by_cases hqa : q = at_
              · subst hqa
                obtain ⟨ee, hee⟩ : ∃ ee, ee = q + 1 := ⟨_, rfl⟩
                have x1 : (q : Int) + 1 = (ee : Int) := by omega
                have hes : ee ≤ s.length := by have := HAll.out.2.1; have := HLt.out; omega
                have x2 : (0 : Int) ≤ (ee : Int) := by omega
                have x3 : (ee : Int) ≤ ((S s).size : Int) := by rw [L1.S_size]; omega
                have HW : Hid (∀ x, WordAt s q x → q + x.length ≤ ee) := hideIt (fun x hx => by
                  have := stop_word HAll.out.2.2 HAll.out.1 HEnd.out hx
                  rw [if_pos rfl] at this
                  omega)
                have y1 : (S s).extract 0 ee = S (s.take ee) := by rw [S_extract, List.drop_zero, Nat.sub_zero]
                have y2 : S (s.take ee) ++ (⟨#[32]⟩ : ByteArray) = S (s.take ee ++ [32]) := L1.S_cat _ [32]
                have y3 : S (s.take ee ++ [32]) ++ S more = S (s.take ee ++ 32 :: more) := by rw [L1.S_cat]; simp
                have y4 : (S (s.take ee)).size ≤ 1024 := by rw [L1.S_size, List.length_take]; have := HAt.out.2.2.2; omega
                have y5 : (S (s.take ee ++ [32])).size ≤ 1025 := by rw [L1.S_size, List.length_append, List.length_take]; have := HAt.out.2.2.2; simp; omega
                have y6 : (S more).size ≤ 140737488351232 := HM.out
                have HES := hideIt hes
                have HEE := hideIt hee
                clear hes hee
                by_cases hlong : 1024 < (s.take ee ++ 32 :: more).length
                · have x6 : (1024 : Int) < ((S (s.take ee ++ 32 :: more)).size : Int) := by rw [L1.S_size]; omega
                  clear hlong
                  go_wp2_with fail
                  go_ret
                  exact ⟨rfl, HA2.out⟩
                · have x6 : ¬ (1024 : Int) < ((S (s.take ee ++ 32 :: more)).size : Int) := by rw [L1.S_size]; omega
                  have HPl := hideIt (place_is (r := 32 :: more) HAt.out.1 HAt.out.2.1 HLt.out HW.out HES.out rfl (by omega))
                  have HLo : Hid ((s.take ee ++ 32 :: more).length ≤ 100000) := hideIt (by omega)
                  clear hlong
                  go_wp2_with fail
                  refine (wrong_yes HPl.out _ (HL.out.on HA2.out) HLo.out).mono ?_
                  rintro e w3 ⟨rfl, a3⟩
                  have HA3 := hideIt (HA2.out.trans a3)
                  clear a3
                  go_wp2
                  go_ret
                  exact ⟨rfl, HA3.out⟩
              · obtain ⟨ee, hee⟩ : ∃ ee, ee = q := ⟨_, rfl⟩
                have hes : ee ≤ s.length := by have := HAll.out.2.1; have := HLt.out; omega
                have x2 : (0 : Int) ≤ (ee : Int) := by omega
                have x3 : (ee : Int) ≤ ((S s).size : Int) := by rw [L1.S_size]; omega
                have HW : Hid (∀ x, WordAt s at_ x → at_ + x.length ≤ ee) := hideIt (fun x hx => by
                  have := stop_word HAll.out.2.2 HAll.out.1 HEnd.out hx
                  rw [if_neg hqa] at this
                  omega)
                have y1 : (S s).extract 0 ee = S (s.take ee) := by rw [S_extract, List.drop_zero, Nat.sub_zero]
                have y2 : S (s.take ee) ++ (⟨#[32]⟩ : ByteArray) = S (s.take ee ++ [32]) := L1.S_cat _ [32]
                have y3 : S (s.take ee ++ [32]) ++ S more = S (s.take ee ++ 32 :: more) := by rw [L1.S_cat]; simp
                have y4 : (S (s.take ee)).size ≤ 1024 := by rw [L1.S_size, List.length_take]; have := HAt.out.2.2.2; omega
                have y5 : (S (s.take ee ++ [32])).size ≤ 1025 := by rw [L1.S_size, List.length_append, List.length_take]; have := HAt.out.2.2.2; simp; omega
                have y6 : (S more).size ≤ 140737488351232 := HM.out
                have HES := hideIt hes
                have x5 : ¬ (q : Int) = (at_ : Int) := by omega
                rw [hee] at y1 y2 y3 y4 y5 HW HES
                have x3' : (q : Int) ≤ ((S s).size : Int) := by rw [hee] at x3; exact x3
                clear hee x2 x3 hes
                by_cases hlong : 1024 < (s.take q ++ 32 :: more).length
                · have x6 : (1024 : Int) < ((S (s.take q ++ 32 :: more)).size : Int) := by rw [L1.S_size]; omega
                  clear hlong
                  go_wp2_with fail
                  go_ret
                  exact ⟨rfl, HA2.out⟩
                · have x6 : ¬ (1024 : Int) < ((S (s.take q ++ 32 :: more)).size : Int) := by rw [L1.S_size]; omega
                  have HPl := hideIt (place_is (r := 32 :: more) HAt.out.1 HAt.out.2.1 HLt.out HW.out HES.out rfl (by omega))
                  have HLo : Hid ((s.take q ++ 32 :: more).length ≤ 100000) := hideIt (by omega)
                  clear hlong
                  go_wp2_with fail
                  refine (wrong_yes HPl.out _ (HL.out.on HA2.out) HLo.out).mono ?_
                  rintro e w3 ⟨rfl, a3⟩
                  have HA3 := hideIt (HA2.out.trans a3)
                  clear a3
                  go_wp2
                  go_ret
                  exact ⟨rfl, HA3.out⟩
        · have q1 : ¬ (q : Int) < ((S s).size : Int) := by rw [L1.S_size]; omega
          have hqe' : q = s.length := by omega
          have hqa : ¬ q = at_ := by have := HLt.out; omega
          have HEnd : Hid (q = s.length ∨ ∃ c, s[q]? = some c ∧ stopB c = true) := hideIt (.inl hqe')
          clear hall hq1 hq2 hqe hqe'
          obtain ⟨ee, hee⟩ : ∃ ee, ee = q := ⟨_, rfl⟩
          have hes : ee ≤ s.length := by have := HAll.out.2.1; have := HLt.out; omega
          have x2 : (0 : Int) ≤ (ee : Int) := by omega
          have x3 : (ee : Int) ≤ ((S s).size : Int) := by rw [L1.S_size]; omega
          have HW : Hid (∀ x, WordAt s at_ x → at_ + x.length ≤ ee) := hideIt (fun x hx => by
            have := stop_word HAll.out.2.2 HAll.out.1 HEnd.out hx
            rw [if_neg hqa] at this
            omega)
          have y1 : (S s).extract 0 ee = S (s.take ee) := by rw [S_extract, List.drop_zero, Nat.sub_zero]
          have y2 : S (s.take ee) ++ (⟨#[32]⟩ : ByteArray) = S (s.take ee ++ [32]) := L1.S_cat _ [32]
          have y3 : S (s.take ee ++ [32]) ++ S more = S (s.take ee ++ 32 :: more) := by rw [L1.S_cat]; simp
          have y4 : (S (s.take ee)).size ≤ 1024 := by rw [L1.S_size, List.length_take]; have := HAt.out.2.2.2; omega
          have y5 : (S (s.take ee ++ [32])).size ≤ 1025 := by rw [L1.S_size, List.length_append, List.length_take]; have := HAt.out.2.2.2; simp; omega
          have y6 : (S more).size ≤ 140737488351232 := HM.out
          have HES := hideIt hes
          have x5 : ¬ (q : Int) = (at_ : Int) := by omega
          rw [hee] at y1 y2 y3 y4 y5 HW HES
          have x3' : (q : Int) ≤ ((S s).size : Int) := by rw [hee] at x3; exact x3
          clear hee x2 x3 hes
          by_cases hlong : 1024 < (s.take q ++ 32 :: more).length
          · have x6 : (1024 : Int) < ((S (s.take q ++ 32 :: more)).size : Int) := by rw [L1.S_size]; omega
            clear hlong
            go_wp2_with fail
            go_ret
            exact ⟨rfl, HA2.out⟩
          · have x6 : ¬ (1024 : Int) < ((S (s.take q ++ 32 :: more)).size : Int) := by rw [L1.S_size]; omega
            have HPl := hideIt (place_is (r := 32 :: more) HAt.out.1 HAt.out.2.1 HLt.out HW.out HES.out rfl (by omega))
            have HLo : Hid ((s.take q ++ 32 :: more).length ≤ 100000) := hideIt (by omega)
            clear hlong
            go_wp2_with fail
            refine (wrong_yes HPl.out _ (HL.out.on HA2.out) HLo.out).mono ?_
            rintro e w3 ⟨rfl, a3⟩
            have HA3 := hideIt (HA2.out.trans a3)
            clear a3
            go_wp2
            go_ret
            exact ⟨rfl, HA3.out⟩
    · have hat' : at_ = s.length := by omega
      have z1 : ((S s).size : Int) ≤ (at_ : Int) := by rw [L1.S_size]; omega
      have z2 : (at_ : Int) = ((S s).size : Int) := by rw [L1.S_size]; omega
      have z4 : ((at_ : Int) == ((S s).size : Int)) = true := by simpa using z2
      clear hat hs1 hlt hat'
      go_enter Tryz.func7, Tryz.ntmps7
      go_wp2_with fail
      refine (works_any w HL.out).mono ?_
      rintro e w1 ⟨rfl, a1⟩
      have HA1 := hideIt a1
      clear a1
      go_wp2_with fail
      refine (HP.out _ HA1.out).mono ?_
      rintro e w2 ⟨a, c, rfl, -, -, a2⟩
      have HA2 := hideIt (HA1.out.trans a2)
      clear a2
      go_wp2
      go_ret
      exact ⟨rfl, HA2.out⟩
  · have HP := hideIt (fun W (a : After w W) => parse_slice s W (HL.out.on a) HS.out)
    obtain ⟨E, hE⟩ : ∃ E, E = (parseA s).e := ⟨_, rfl⟩
    rw [← hE] at HP h4
    have hb : (E == 4) = false := by simpa using h4
    clear hE
    go_enter Tryz.func7, Tryz.ntmps7
    go_wp2_with fail
    refine (works_any w HL.out).mono ?_
    rintro e w1 ⟨rfl, a1⟩
    have HA1 := hideIt a1
    clear a1
    go_wp2_with fail
    refine (HP.out _ HA1.out).mono ?_
    rintro e w2 ⟨a, c, rfl, -, -, a2⟩
    have HA2 := hideIt (HA1.out.trans a2)
    clear a2
    go_wp2
    go_ret
    exact ⟨rfl, HA2.out⟩
end Go.Proofs.YtlfcihanhfabmaaGreatDoor
