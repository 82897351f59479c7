/-
  Laid together: Say, MgA, MgB, RowN.
-/
import Derived.Test.YthcfdoafncbliaaB01
import Derived.Test.YthcfdoafncbliaaB06
import Derived.Maps.OwnSet
/-
  What 16 and 32 bits say: real.Short and real.Long, and the document's answers.
-/
namespace Go.Proofs.Ythcfdoafncbliaa
open Go.RowKit
theorem After.cellsOf {W w1 : World} (hb : After W w1) : (∀ b o, b < W.heap.size → w1.cell? ⟨b, o, none⟩ = W.cell? ⟨b, o, none⟩) ∧ (∀ b o, b < W.heap.size → w1.frozen? ⟨b, o, none⟩ = W.frozen? ⟨b, o, none⟩) :=
  ⟨fun b o h => Below.cell (p := ⟨b, o, none⟩) hb.below h, fun b o h => Below.frozen (p := ⟨b, o, none⟩) hb.below h⟩
/-- The kind that a mantissa says. -/
def kd (m M : Int) : Int := if m = M - 1 then 1 else if m = -M then 2 else if m = M - 2 then 3 else if m = -M + 2 then 4 else if m = -M + 1 then 5 else 0
/-- What a mantissa and an exponent say: kind, mantissa, exponent. -/
def sK (m e M : Int) : Int := if kd m M = 0 then 0 else if e = 0 then kd m M else 5
def sM (m _e M : Int) : Int := if kd m M = 0 then m else 0
def sE (m e M : Int) : Int := if kd m M = 0 then e else 0
/-- A number of so many parts, those from the half on below 0. -/
def sgd (n h : Int) : Int := if n < h then n else n - 2 * h
def mS (x : Int) : Int := sgd (x % 4096) 2048
def eS (x : Int) : Int := sgd (x / 4096) 8
def mL (y : Int) : Int := sgd (y % 16777216) 8388608
def eL (y : Int) : Int := sgd (y / 16777216) 128
theorem ret_agg {a b c a' b' c' : Int} (h1 : a = a') (h2 : b = b') (h3 : c = c') : Ending.returned (.agg #[.int .i64 a, .int .i64 b, .int .i64 c]) = .returned (.agg #[.int .i64 a', .int .i64 b', .int .i64 c']) := by rw [h1, h2, h3]
theorem s_num {m e M : Int} (h : kd m M = 0) : sK m e M = 0 ∧ sM m e M = m ∧ sE m e M = e := by simp [sK, sM, sE, h]
theorem s_zero {m M : Int} (h : ¬ kd m M = 0) : sK m 0 M = kd m M ∧ sM m 0 M = 0 ∧ sE m 0 M = 0 := by simp [sK, sM, sE, h]
theorem s_other {m e M : Int} (h : ¬ kd m M = 0) (he : ¬ e = 0) : sK m e M = 5 ∧ sM m e M = 0 ∧ sE m e M = 0 := by simp [sK, sM, sE, h, he]

theorem kindOf_short (m : Int) (w : World) :
    Calls Try.prog 44 #[.int .i64 m, .int .i64 2048] w fun x w' => x = .returned (.int .i64 (kd m 2048)) ∧ w' = w := by
  by_cases h0 : m = 2047
  · subst h0
    have hh : kd 2047 2048 = 1 := by decide
    rw [hh]; clear hh
    go_enter Try.func44, Try.ntmps44
    go_wp2
    go_ret
    exact ⟨rfl, rfl⟩
  by_cases h1 : m = (-2048)
  · subst h1
    have hh : kd (-2048) 2048 = 2 := by decide
    rw [hh]; clear hh
    go_enter Try.func44, Try.ntmps44
    go_wp2
    go_ret
    exact ⟨rfl, rfl⟩
  by_cases h2 : m = 2046
  · subst h2
    have hh : kd 2046 2048 = 3 := by decide
    rw [hh]; clear hh
    go_enter Try.func44, Try.ntmps44
    go_wp2
    go_ret
    exact ⟨rfl, rfl⟩
  by_cases h3 : m = (-2046)
  · subst h3
    have hh : kd (-2046) 2048 = 4 := by decide
    rw [hh]; clear hh
    go_enter Try.func44, Try.ntmps44
    go_wp2
    go_ret
    exact ⟨rfl, rfl⟩
  by_cases h4 : m = (-2047)
  · subst h4
    have hh : kd (-2047) 2048 = 5 := by decide
    rw [hh]; clear hh
    go_enter Try.func44, Try.ntmps44
    go_wp2
    go_ret
    exact ⟨rfl, rfl⟩
  have hh : kd m 2048 = 0 := by
    unfold kd
    rw [if_neg (by omega), if_neg (by omega), if_neg (by omega), if_neg (by omega), if_neg (by omega)]
  rw [hh]; clear hh
  have g0 : (m == 2047) = false := by simpa using h0
  have g1 : (m == (-2048)) = false := by simpa using h1
  have g2 : (m == 2046) = false := by simpa using h2
  have g3 : (m == (-2046)) = false := by simpa using h3
  have g4 : (m == (-2047)) = false := by simpa using h4
  clear h0 h1 h2 h3 h4
  go_enter Try.func44, Try.ntmps44
  go_wp2
  go_ret
  exact ⟨rfl, rfl⟩
theorem said_short (m e : Int) (w : World) :
    Calls Try.prog 28 #[.int .i64 m, .int .i64 e, .int .i64 2048] w fun x w' => x = .returned (.agg #[.int .i64 (sK m e 2048), .int .i64 (sM m e 2048), .int .i64 (sE m e 2048)]) ∧ After w w' := by
  by_cases hk : kd m 2048 = 0
  · obtain ⟨e1, e2, e3⟩ := s_num (e := e) hk
    rw [e1, e2, e3]; clear e1 e2 e3
    go_enter Try.func28, Try.ntmps28
    go_wp2_with (go_at_call 44; refine (kindOf_short _ _).mono ?_; rintro e w' ⟨rfl, rfl⟩; rw [hk])
    exact bodyPost_ret (v := .agg #[.int .i64 0, .int .i64 m, .int .i64 e]) (by simp [results, Try.results28, go_sem]) rfl ⟨rfl, After.rfl.alloc _⟩
  · have hk' : (kd m 2048 == 0) = false := by simpa using hk
    by_cases he : e = 0
    · subst he
      obtain ⟨e1, e2, e3⟩ := s_zero hk
      rw [e1, e2, e3]; clear e1 e2 e3
      generalize hq : kd m 2048 = q at *
      go_enter Try.func28, Try.ntmps28
      go_wp2_with (go_at_call 44; refine (kindOf_short _ _).mono ?_; rintro e w' ⟨rfl, rfl⟩; rw [hq])
      exact bodyPost_ret (v := .agg #[.int .i64 q, .int .i64 0, .int .i64 0]) (by simp [results, Try.results28, go_sem]) rfl ⟨rfl, After.rfl.alloc _⟩
    · have he' : (e == 0) = false := by simpa using he
      have he2 : (e != 0) = true := by simpa using he
      obtain ⟨e1, e2, e3⟩ := s_other hk he
      rw [e1, e2, e3]; clear e1 e2 e3
      generalize hq : kd m 2048 = q at *
      go_enter Try.func28, Try.ntmps28
      go_wp2_with (go_at_call 44; refine (kindOf_short _ _).mono ?_; rintro e w' ⟨rfl, rfl⟩; rw [hq])
      exact bodyPost_ret (v := .agg #[.int .i64 5, .int .i64 0, .int .i64 0]) (by simp [results, Try.results28, go_sem]) rfl ⟨rfl, After.rfl.alloc _⟩
theorem kindOf_long (m : Int) (w : World) :
    Calls Try.prog 44 #[.int .i64 m, .int .i64 8388608] w fun x w' => x = .returned (.int .i64 (kd m 8388608)) ∧ w' = w := by
  by_cases h0 : m = 8388607
  · subst h0
    have hh : kd 8388607 8388608 = 1 := by decide
    rw [hh]; clear hh
    go_enter Try.func44, Try.ntmps44
    go_wp2
    go_ret
    exact ⟨rfl, rfl⟩
  by_cases h1 : m = (-8388608)
  · subst h1
    have hh : kd (-8388608) 8388608 = 2 := by decide
    rw [hh]; clear hh
    go_enter Try.func44, Try.ntmps44
    go_wp2
    go_ret
    exact ⟨rfl, rfl⟩
  by_cases h2 : m = 8388606
  · subst h2
    have hh : kd 8388606 8388608 = 3 := by decide
    rw [hh]; clear hh
    go_enter Try.func44, Try.ntmps44
    go_wp2
    go_ret
    exact ⟨rfl, rfl⟩
  by_cases h3 : m = (-8388606)
  · subst h3
    have hh : kd (-8388606) 8388608 = 4 := by decide
    rw [hh]; clear hh
    go_enter Try.func44, Try.ntmps44
    go_wp2
    go_ret
    exact ⟨rfl, rfl⟩
  by_cases h4 : m = (-8388607)
  · subst h4
    have hh : kd (-8388607) 8388608 = 5 := by decide
    rw [hh]; clear hh
    go_enter Try.func44, Try.ntmps44
    go_wp2
    go_ret
    exact ⟨rfl, rfl⟩
  have hh : kd m 8388608 = 0 := by
    unfold kd
    rw [if_neg (by omega), if_neg (by omega), if_neg (by omega), if_neg (by omega), if_neg (by omega)]
  rw [hh]; clear hh
  have g0 : (m == 8388607) = false := by simpa using h0
  have g1 : (m == (-8388608)) = false := by simpa using h1
  have g2 : (m == 8388606) = false := by simpa using h2
  have g3 : (m == (-8388606)) = false := by simpa using h3
  have g4 : (m == (-8388607)) = false := by simpa using h4
  clear h0 h1 h2 h3 h4
  go_enter Try.func44, Try.ntmps44
  go_wp2
  go_ret
  exact ⟨rfl, rfl⟩
theorem said_long (m e : Int) (w : World) :
    Calls Try.prog 28 #[.int .i64 m, .int .i64 e, .int .i64 8388608] w fun x w' => x = .returned (.agg #[.int .i64 (sK m e 8388608), .int .i64 (sM m e 8388608), .int .i64 (sE m e 8388608)]) ∧ After w w' := by
  by_cases hk : kd m 8388608 = 0
  · obtain ⟨e1, e2, e3⟩ := s_num (e := e) hk
    rw [e1, e2, e3]; clear e1 e2 e3
    go_enter Try.func28, Try.ntmps28
    go_wp2_with (go_at_call 44; refine (kindOf_long _ _).mono ?_; rintro e w' ⟨rfl, rfl⟩; rw [hk])
    exact bodyPost_ret (v := .agg #[.int .i64 0, .int .i64 m, .int .i64 e]) (by simp [results, Try.results28, go_sem]) rfl ⟨rfl, After.rfl.alloc _⟩
  · have hk' : (kd m 8388608 == 0) = false := by simpa using hk
    by_cases he : e = 0
    · subst he
      obtain ⟨e1, e2, e3⟩ := s_zero hk
      rw [e1, e2, e3]; clear e1 e2 e3
      generalize hq : kd m 8388608 = q at *
      go_enter Try.func28, Try.ntmps28
      go_wp2_with (go_at_call 44; refine (kindOf_long _ _).mono ?_; rintro e w' ⟨rfl, rfl⟩; rw [hq])
      exact bodyPost_ret (v := .agg #[.int .i64 q, .int .i64 0, .int .i64 0]) (by simp [results, Try.results28, go_sem]) rfl ⟨rfl, After.rfl.alloc _⟩
    · have he' : (e == 0) = false := by simpa using he
      have he2 : (e != 0) = true := by simpa using he
      obtain ⟨e1, e2, e3⟩ := s_other hk he
      rw [e1, e2, e3]; clear e1 e2 e3
      generalize hq : kd m 8388608 = q at *
      go_enter Try.func28, Try.ntmps28
      go_wp2_with (go_at_call 44; refine (kindOf_long _ _).mono ?_; rintro e w' ⟨rfl, rfl⟩; rw [hq])
      exact bodyPost_ret (v := .agg #[.int .i64 5, .int .i64 0, .int .i64 0]) (by simp [results, Try.results28, go_sem]) rfl ⟨rfl, After.rfl.alloc _⟩
/-- What 16 bits, what 32 bits say: kind, mantissa, exponent. -/
def shK (x : Int) : Int := sK (mS x) (eS x) 2048
def shM (x : Int) : Int := sM (mS x) (eS x) 2048
def shE (x : Int) : Int := sE (mS x) (eS x) 2048
def loK (y : Int) : Int := sK (mL y) (eL y) 8388608
def loM (y : Int) : Int := sM (mL y) (eL y) 8388608
def loE (y : Int) : Int := sE (mL y) (eL y) 8388608
theorem mS_go (x : Int) (_h1 : 0 ≤ x) (_h2 : x ≤ 65535) : wrap64 (IntKind.i16.wrap (IntKind.u16.wrap (x * 16))) / 16 = mS x := by
  have e1 : IntKind.u16.wrap (x * 16) = x * 16 % 65536 := rfl
  have e2 : ∀ y : Int, IntKind.i16.wrap y = (y + 32768) % 65536 - 32768 := fun y => by simp [IntKind.wrap, IntKind.signed, IntKind.bits]; omega
  rw [e1, e2]
  unfold wrap64 mS sgd
  split <;> omega
theorem eS_go (x : Int) (h1 : 0 ≤ x) (h2 : x ≤ 65535) : wrap64 (IntKind.i16.wrap x) / 4096 = eS x := by
  have e2 : ∀ y : Int, IntKind.i16.wrap y = (y + 32768) % 65536 - 32768 := fun y => by simp [IntKind.wrap, IntKind.signed, IntKind.bits]; omega
  rw [e2]
  unfold wrap64 eS sgd
  split <;> omega
theorem mL_go (x : Int) (_h1 : 0 ≤ x) (_h2 : x ≤ 4294967295) : wrap64 (wrap32 (x * 256 % 4294967296)) / 256 = mL x := by
  unfold wrap64 wrap32 mL sgd
  split <;> omega
theorem eL_go (x : Int) (h1 : 0 ≤ x) (h2 : x ≤ 4294967295) : wrap64 (wrap32 x) / 16777216 = eL x := by
  unfold wrap64 wrap32 eL sgd
  split <;> omega

theorem short_any (x : Int) (w : World) (h1 : 0 ≤ x) (h2 : x ≤ 65535) :
    Calls Try.prog 12 #[.int .u16 x] w fun r w' => r = .returned (.agg #[.int .i64 (shK x), .int .i64 (shM x), .int .i64 (shE x)]) ∧ After w w' := by
  have hA := hideIt (mS_go x h1 h2)
  have hB := hideIt (eS_go x h1 h2)
  have d1 : sK (mS x) (eS x) 2048 = shK x := rfl
  have d2 : sM (mS x) (eS x) 2048 = shM x := rfl
  have d3 : sE (mS x) (eS x) 2048 = shE x := rfl
  have d1 := hideIt d1
  have d2 := hideIt d2
  have d3 := hideIt d3
  go_enter Try.func12, Try.ntmps12
  go_wp2_with (go_at_call 28; refine (said_short _ _ _).mono ?_; rintro e w' ⟨rfl, ha⟩; obtain ⟨hc, hf⟩ := ha.cellsOf; rw [hA.out, hB.out, d1.out, d2.out, d3.out])
  exact bodyPost_ret (v := .agg #[.int .i64 (shK x), .int .i64 (shM x), .int .i64 (shE x)]) (by simp [results, Try.results12, go_sem, hc]) rfl ⟨rfl, (((((After.rfl.alloc _).trans ha).set _ (Nat.le_refl _) _).set _ (Nat.le_refl _) _).set _ (Nat.le_refl _) _)⟩
theorem long_any (x : Int) (w : World) (h1 : 0 ≤ x) (h2 : x ≤ 4294967295) :
    Calls Try.prog 13 #[.int .u32 x] w fun r w' => r = .returned (.agg #[.int .i64 (loK x), .int .i64 (loM x), .int .i64 (loE x)]) ∧ After w w' := by
  have hA := hideIt (mL_go x h1 h2)
  have hB := hideIt (eL_go x h1 h2)
  have d1 : sK (mL x) (eL x) 8388608 = loK x := rfl
  have d2 : sM (mL x) (eL x) 8388608 = loM x := rfl
  have d3 : sE (mL x) (eL x) 8388608 = loE x := rfl
  have d1 := hideIt d1
  have d2 := hideIt d2
  have d3 := hideIt d3
  go_enter Try.func13, Try.ntmps13
  go_wp2_with (go_at_call 28; refine (said_long _ _ _).mono ?_; rintro e w' ⟨rfl, ha⟩; obtain ⟨hc, hf⟩ := ha.cellsOf; rw [hA.out, hB.out, d1.out, d2.out, d3.out])
  exact bodyPost_ret (v := .agg #[.int .i64 (loK x), .int .i64 (loM x), .int .i64 (loE x)]) (by simp [results, Try.results13, go_sem, hc]) rfl ⟨rfl, (((((After.rfl.alloc _).trans ha).set _ (Nat.le_refl _) _).set _ (Nat.le_refl _) _).set _ (Nat.le_refl _) _)⟩

end Go.Proofs.Ythcfdoafncbliaa
/-
  What a manager is, what it makes of a message, over whole numbers and lists alone; where it lies in memory.
-/
namespace Go.Proofs.Ythcfdoafncbliaa
open Go.RowKit Go.Maps
set_option maxRecDepth 8000
/-- Where an association stands. -/
structure Mg where
  state : Int
  config : Int
  objs : List Ob
def Mg.new : Mg := ⟨0, 0, []⟩
/-- A message that is answered: it has no lists. -/
structure An where
  kind : Int
  config : Int
  result : Int
  reason : Int
/-- A sample. -/
structure Sm where
  h : Int
  k : Int
  m : Int
  e : Int
def Sm.val (s : Sm) : Value := .agg #[.int .i64 s.h, .int .i64 s.k, .int .i64 s.m, .int .i64 s.e]
def longSm (o : Bi) : Sm := ⟨o.h, loK o.b, loM o.b, loE o.b⟩
def shortSm (o : Bi) : Sm := ⟨o.h, shK (o.b % 65536), shM (o.b % 65536), shE (o.b % 65536)⟩
def smOf (o : Bi) : Sm := if o.l = true then longSm o else shortSm o
/-- A number has the handle of an object, and is long just if that object is. -/
def hasO (l : List Ob) (o : Bi) : Bool := l.any fun p => decide (p.h = o.h ∧ p.l = o.l)
/-- All that is behind a message: the manager, what is answered, what is told, the error. -/
structure Out where
  st : Mg
  an : Option An
  sm : List Sm
  er : Int
def brk : Out := ⟨Mg.new, some ⟨58880, 0, 0, 0⟩, [], 70⟩
def askF (st : Mg) (M : Msg) : Out := if M.config = 0 then ⟨st, some ⟨58112, 0, 1, 0⟩, [], 0⟩ else ⟨⟨1, M.config, []⟩, some ⟨58112, M.config, 3, 0⟩, [], 0⟩
def cfgF (st : Mg) (M : Msg) : Out := if M.config = st.config then ⟨⟨2, 0, M.objs⟩, some ⟨3357, M.config, 0, 0⟩, [], 0⟩ else ⟨st, some ⟨3357, M.config, 1, 0⟩, [], 0⟩
def scanF (st : Mg) (M : Msg) : Out := if M.obs.all (hasO st.objs) = true then ⟨st, none, M.obs.map smOf, 0⟩ else ⟨st, none, [], 70⟩
def relF (M : Msg) : Out := ⟨Mg.new, some ⟨58624, 0, 0, M.reason⟩, [], 0⟩
def abtF : Out := ⟨Mg.new, none, [], 0⟩
/-- A message that may be, handled. -/
def handF (st : Mg) (M : Msg) : Out :=
  if M.kind = 58880 then abtF
  else if M.kind = 57856 ∧ st.state = 0 then askF st M
  else if M.kind = 3356 ∧ st.state = 1 then cfgF st M
  else if M.kind = 3358 ∧ st.state = 2 then scanF st M
  else if M.kind = 58368 ∧ st.state ≠ 0 then relF M
  else brk
/-- The handles' places: block mb is a map that says them. -/
def LaysN (w : World) (mb n : Nat) (l : List Ob) : Prop := ∃ D : DataW Unit, w.ownsMap Try.prog 3 (plainElem Try.prog 3) mb n D ∧ (∀ (i : Nat) (o : Ob), l[i]? = some o → Maps.has D (.int .i64 o.h) = true ∧ D.atKey (.int .i64 o.h) (.lit (.int .i64 0)) = .lit (.int .i64 (i : Int))) ∧ ∀ h : Int, (∀ o ∈ l, o.h ≠ h) → Maps.has D (.int .i64 h) = false
def Lays (w : World) (mb : Nat) (l : List Ob) : Prop := ∃ n, LaysN w mb n l
theorem LaysN.but {S : Nat → Prop} {w w' : World} {mb n : Nat} {l : List Ob} (x : LaysN w mb n l) (b : But S w w') (hn : ¬ S mb) : LaysN w' mb n l := by
  obtain ⟨D, ⟨es, cl, hb, hf⟩, h1, h2⟩ := x
  exact ⟨D, ⟨es, cl, (b.block mb (Array.getElem?_eq_some_iff.1 hb).1 hn).trans hb, hf⟩, h1, h2⟩
theorem Lays.but {S : Nat → Prop} {w w' : World} {mb : Nat} {l : List Ob} (x : Lays w mb l) (b : But S w w') (hn : ¬ S mb) : Lays w' mb l := by
  obtain ⟨n, x⟩ := x
  exact ⟨n, x.but b hn⟩
theorem keyed3 : Keyed Try.prog 3 := int_keyed Try.underlying3
theorem zero3 (w : World) : (zeroValue 3).run Try.prog w = .ok (.int .i64 0) w := by kernel_rfl
/-- What a look into the map says. -/
theorem Lays.look {w : World} {mb : Nat} {l : List Ob} (x : Lays w mb l) (h : Int) (hh : 0 ≤ h ∧ h ≤ 65535) :
    (∃ (i : Nat) (o : Ob), l[i]? = some o ∧ o.h = h ∧ ∀ m, (Instr.lookup 54 (.map (some mb)) (.int .i64 h) true).run Try.prog (w.drewN m) = .ok (.tuple #[.int .i64 (i : Int), .bool true]) (w.drewN m)) ∨ ((∀ o ∈ l, o.h ≠ h) ∧ ∀ m, (Instr.lookup 54 (.map (some mb)) (.int .i64 h) true).run Try.prog (w.drewN m) = .ok (.tuple #[.int .i64 0, .bool false]) (w.drewN m)) := by
  obtain ⟨n, D, ho, h1, h2⟩ := x
  have hk : keyOf Try.prog 3 (.int .i64 h) = some (.int .i64 h) := keyOf_int_mk Try.underlying3 (WalkArith.wf_i64 (by omega))
  have all : ∀ m, ∃ c, (Instr.lookup 54 (.map (some mb)) (.int .i64 h) true).run Try.prog (w.drewN m) = .ok (.tuple #[.int .i64 c, .bool (Maps.has D (.int .i64 h))]) (w.drewN m) ∧ D.atKey (.int .i64 h) (.lit (.int .i64 0)) = .lit (.int .i64 c) := by
    intro m
    have ho' : (w.drewN m).ownsMap Try.prog 3 (plainElem Try.prog 3) mb n D := ho
    obtain ⟨v, ps, hrun, hv⟩ := ho'.look_ok keyed3 Try.underlying54 (zero3 _) (plainElem_int Try.underlying3 (by decide)) hk
    obtain ⟨c, rfl, hc, _⟩ := plainElem_int_inv Try.underlying3 hv
    exact ⟨c, hrun, congrArg Prod.fst hc⟩
  by_cases hx : ∃ o ∈ l, o.h = h
  · obtain ⟨o, ho, rfl⟩ := hx
    obtain ⟨i, hi, rfl⟩ := List.mem_iff_getElem.1 ho
    obtain ⟨e1, e2⟩ := h1 i _ (List.getElem?_eq_getElem hi)
    refine .inl ⟨i, _, List.getElem?_eq_getElem hi, rfl, fun m => ?_⟩
    obtain ⟨c, hrun, hc⟩ := all m
    have hci : c = (i : Int) := by
      have := hc.symm.trans e2
      cases this
      rfl
    subst hci
    rw [e1] at hrun
    exact hrun
  · have hx' : ∀ o ∈ l, o.h ≠ h := fun o ho e => hx ⟨o, ho, e⟩
    refine .inr ⟨hx', fun m => ?_⟩
    obtain ⟨c, hrun, hc⟩ := all m
    have hci : c = 0 := by
      have := hc.symm.trans (Maps.atKey_of_not_has (h2 h hx') _)
      cases this
      rfl
    subst hci
    rw [h2 h hx'] at hrun
    exact hrun
/-- A manager lies in block g; what it has lies in blocks of which P holds. -/
structure MgX (w : World) (P : Nat → Prop) (g : Nat) (st : Mg) (oa : Option Addr) (oc : Nat) (pv : Value) : Prop where
  at0 : w.heap[g]? = some (.cells #[.bool true, .int .i64 st.state, .int .i64 st.config, .slice oa st.objs.length oc, pv] 56 (0, 0))
  gp : P g
  or : RowT w oa st.objs.length (st.objs.map Ob.t3)
  on : oa = none → st.objs.length = 0 ∧ oc = 0
  op : ∀ y, oa = some y → 0 < st.objs.length → P y.block
  ol : st.objs.length ≤ 16
  od : st.objs.Pairwise (fun a b => a.h ≠ b.h)
  mp : st.state = 2 → ∃ mb, pv = .map (some mb) ∧ P mb ∧ Lays w mb st.objs
  sv : st.state = 0 ∨ st.state = 1 ∨ st.state = 2
  no : st.state ≠ 2 → st.objs = []
def MgAt (w : World) (P : Nat → Prop) (g : Nat) (st : Mg) : Prop := ∃ oa oc pv, MgX w P g st oa oc pv
theorem MgX.but {S P : Nat → Prop} {w w' : World} {g : Nat} {st : Mg} {oa : Option Addr} {oc : Nat} {pv : Value} (x : MgX w P g st oa oc pv) (b : But S w w') (hn : ∀ k, P k → ¬ S k) : MgX w' P g st oa oc pv :=
  ⟨(b.block g (Array.getElem?_eq_some_iff.1 x.at0).1 (hn _ x.gp)).trans x.at0, x.gp, x.or.but b (fun y hy h0 => hn _ (x.op y hy h0)), x.on, x.op, x.ol, x.od, fun h => by
    obtain ⟨mb, e, hp, hl⟩ := x.mp h
    exact ⟨mb, e, hp, hl.but b (hn _ hp)⟩, x.sv, x.no⟩
theorem MgX.mono {P T : Nat → Prop} {w : World} {g : Nat} {st : Mg} {oa : Option Addr} {oc : Nat} {pv : Value} (x : MgX w P g st oa oc pv) (h : ∀ k, P k → T k) : MgX w T g st oa oc pv :=
  ⟨x.at0, h _ x.gp, x.or, x.on, fun y hy h0 => h _ (x.op y hy h0), x.ol, x.od, fun e => by
    obtain ⟨mb, e, hp, hl⟩ := x.mp e
    exact ⟨mb, e, h _ hp, hl⟩, x.sv, x.no⟩
theorem MgAt.but {S P : Nat → Prop} {w w' : World} {g : Nat} {st : Mg} (x : MgAt w P g st) (b : But S w w') (hn : ∀ k, P k → ¬ S k) : MgAt w' P g st := by
  obtain ⟨oa, oc, pv, x⟩ := x
  exact ⟨oa, oc, pv, x.but b hn⟩
theorem MgAt.after {P : Nat → Prop} {w w' : World} {g : Nat} {st : Mg} (x : MgAt w P g st) (b : After w w') : MgAt w' P g st := x.but b (fun _ _ t => t)
theorem MgAt.mono {P T : Nat → Prop} {w : World} {g : Nat} {st : Mg} (x : MgAt w P g st) (h : ∀ k, P k → T k) : MgAt w T g st := by
  obtain ⟨oa, oc, pv, x⟩ := x
  exact ⟨oa, oc, pv, x.mono h⟩
theorem MgX.lt {P : Nat → Prop} {w : World} {g : Nat} {st : Mg} {oa : Option Addr} {oc : Nat} {pv : Value} (x : MgX w P g st oa oc pv) : g < w.heap.size := (Array.getElem?_eq_some_iff.1 x.at0).1
/-- The cells of a block of five. -/
theorem five_at {w : World} {g : Nat} {T : TypeId} {x0 x1 x2 x3 x4 : Value} (h : w.heap[g]? = some (.cells #[x0, x1, x2, x3, x4] T (0, 0))) :
    g < w.heap.size ∧ (w.cell? ⟨g, 0, none⟩ = some x0 ∧ w.cell? ⟨g, 1, none⟩ = some x1 ∧ w.cell? ⟨g, 2, none⟩ = some x2 ∧ w.cell? ⟨g, 3, none⟩ = some x3 ∧ w.cell? ⟨g, 4, none⟩ = some x4) ∧ (w.frozen? ⟨g, 0, none⟩ = false ∧ w.frozen? ⟨g, 1, none⟩ = false ∧ w.frozen? ⟨g, 2, none⟩ = false ∧ w.frozen? ⟨g, 3, none⟩ = false ∧ w.frozen? ⟨g, 4, none⟩ = false) := by
  refine ⟨(Array.getElem?_eq_some_iff.1 h).1, ⟨?_, ?_, ?_, ?_, ?_⟩, ?_, ?_, ?_, ?_, ?_⟩
  iterate 5 · simp [World.cell?, h]
  all_goals simp [World.frozen?, h]
/-- One answer, or none, in new memory. -/
def An.cells (a : An) : Array Value := #[.int .i64 a.kind, .slice none 0 0, .int .i64 a.config, .int .i64 a.result, .int .i64 a.reason, .slice none 0 0, .slice none 0 0]
def AnsAt (w : World) (B : Nat) (v : Value) : Option An → Prop
  | none => v = .slice none 0 0
  | some a => ∃ b, v = .slice (some ⟨b, 0, none⟩) 1 1 ∧ B ≤ b ∧ w.heap[b]? = some (.cells a.cells 36 (0, 0))
theorem AnsAt.but {S : Nat → Prop} {w w' : World} {B : Nat} {v : Value} {an : Option An} (x : AnsAt w B v an) (b : But S w w') (hs : ∀ k, B ≤ k → ¬ S k) : AnsAt w' B v an := by
  cases an with
  | none => exact x
  | some a =>
    obtain ⟨k, e, hb, hc⟩ := x
    exact ⟨k, e, hb, (b.block k (Array.getElem?_eq_some_iff.1 hc).1 (hs k hb)).trans hc⟩
theorem AnsAt.after {w w' : World} {B : Nat} {v : Value} {an : Option An} (x : AnsAt w B v an) (b : After w w') : AnsAt w' B v an := x.but b (fun _ _ t => t)
theorem AnsAt.mono {w : World} {B C : Nat} {v : Value} {an : Option An} (x : AnsAt w B v an) (h : C ≤ B) : AnsAt w C v an := by
  cases an with
  | none => exact x
  | some a =>
    obtain ⟨k, e, hb, hc⟩ := x
    exact ⟨k, e, Nat.le_trans h hb, hc⟩
/-- Samples in a row. -/
def RowQ (w : World) (a : Option Addr) (l : List Sm) : Prop :=
  ∀ i s, l[i]? = some s → ∃ b off, a = some ⟨b, off, none⟩ ∧ b < w.heap.size ∧ w.cell? ⟨b, off + i * 4, none⟩ = some (.int .i64 s.h) ∧ w.cell? ⟨b, off + i * 4 + 1, none⟩ = some (.int .i64 s.k) ∧ w.cell? ⟨b, off + i * 4 + 2, none⟩ = some (.int .i64 s.m) ∧ w.cell? ⟨b, off + i * 4 + 3, none⟩ = some (.int .i64 s.e)
def SmAt (w : World) (B : Nat) (v : Value) (l : List Sm) : Prop := ∃ a c, v = .slice a l.length c ∧ RowQ w a l ∧ (a = none → l.length = 0 ∧ c = 0) ∧ ∀ y, a = some y → B ≤ y.block
theorem RowQ.but {S : Nat → Prop} {w w' : World} {a : Option Addr} {l : List Sm} (x : RowQ w a l) (b : But S w w') (hn : ∀ y, a = some y → ¬ S y.block) : RowQ w' a l := by
  intro i s hs
  obtain ⟨k, off, e, hk, c0, c1, c2, c3⟩ := x i s hs
  have hk' := hn _ e
  exact ⟨k, off, e, Nat.lt_of_lt_of_le hk b.size, by rw [b.cell hk hk']; exact c0, by rw [b.cell hk hk']; exact c1, by rw [b.cell hk hk']; exact c2, by rw [b.cell hk hk']; exact c3⟩
theorem SmAt.but {S : Nat → Prop} {w w' : World} {B : Nat} {v : Value} {l : List Sm} (x : SmAt w B v l) (b : But S w w') (hs : ∀ k, B ≤ k → ¬ S k) : SmAt w' B v l := by
  obtain ⟨a, c, e, hr, hn, hb⟩ := x
  exact ⟨a, c, e, hr.but b (fun y hy => hs _ (hb y hy)), hn, hb⟩
theorem SmAt.after {w w' : World} {B : Nat} {v : Value} {l : List Sm} (x : SmAt w B v l) (b : After w w') : SmAt w' B v l := x.but b (fun _ _ t => t)
theorem SmAt.mono {w : World} {B C : Nat} {v : Value} {l : List Sm} (x : SmAt w B v l) (h : C ≤ B) : SmAt w C v l := by
  obtain ⟨a, c, e, hr, hn, hb⟩ := x
  exact ⟨a, c, e, hr, hn, fun y hy => Nat.le_trans h (hb y hy)⟩
theorem SmAt.nil (w : World) (B : Nat) : SmAt w B (.slice none 0 0) [] := ⟨none, 0, rfl, (fun i s h => by simp at h), fun _ => ⟨rfl, rfl⟩, fun y h => by cases h⟩
end Go.Proofs.Ythcfdoafncbliaa
/-
  New, isNone, State, leave, one, leadsTo of package assoc.
-/
namespace Go.Proofs.Ythcfdoafncbliaa
open Go.RowKit Go.Maps
set_option maxRecDepth 8000
abbrev newC : Array Value := #[.bool true, .int .i64 0, .int .i64 0, .slice none 0 0, .map none]
theorem mg_new {w : World} {g : Nat} (h : w.heap[g]? = some (.cells newC 56 (0, 0))) {P : Nat → Prop} (hp : P g) : MgAt w P g Mg.new :=
  ⟨none, 0, .map none, h, hp, RowT.nil _ _, fun _ => ⟨rfl, rfl⟩, (fun y hy => by cases hy), Nat.zero_le _, List.Pairwise.nil, (fun e => by cases e), .inl rfl, fun _ => rfl⟩
theorem mgNew_any (w : World) : Calls Try.prog 7 #[] w fun e w' => e = .returned (Ptr w.heap.size) ∧ w' = w.alloc (.cells newC 56) := by
  go_enter Try.func7, Try.ntmps7
  go_wp2
  go_ret
  exact ⟨rfl, rfl⟩
theorem mgNone_no {w : World} {g : Nat} {x1 x2 x3 x4 : Value} (h : w.heap[g]? = some (.cells #[.bool true, x1, x2, x3, x4] 56 (0, 0))) :
    Calls Try.prog 16 #[Ptr g] w fun e w' => e = .returned (.bool false) ∧ w' = w := by
  obtain ⟨_, ⟨c0, _, _, _, _⟩, _⟩ := five_at h
  clear h
  go_enter Try.func16, Try.ntmps16
  go_wp2
  go_ret
  exact ⟨rfl, rfl⟩
theorem mgNone_zero {w : World} {g : Nat} {x1 x2 x3 x4 : Value} (h : w.heap[g]? = some (.cells #[.bool false, x1, x2, x3, x4] 56 (0, 0))) :
    Calls Try.prog 16 #[Ptr g] w fun e w' => e = .returned (.bool true) ∧ w' = w := by
  obtain ⟨_, ⟨c0, _, _, _, _⟩, _⟩ := five_at h
  clear h
  go_enter Try.func16, Try.ntmps16
  go_wp2
  go_ret
  exact ⟨rfl, rfl⟩
theorem mgNone_nil (w : World) : Calls Try.prog 16 #[.pointer none] w fun e w' => e = .returned (.bool true) ∧ w' = w := by
  go_enter Try.func16, Try.ntmps16
  go_wp2
  go_ret
  exact ⟨rfl, rfl⟩
theorem mgState_any {w : World} {P : Nat → Prop} {g : Nat} {st : Mg} (x : MgAt w P g st) :
    Calls Try.prog 8 #[Ptr g] w fun e w' => e = .returned (.int .i64 st.state) ∧ w' = w := by
  obtain ⟨oa, oc, pv, x⟩ := x
  have H := hideIt (mgNone_no x.at0)
  obtain ⟨_, ⟨_, c1, _, _, _⟩, _⟩ := five_at x.at0
  clear x
  go_enter Try.func8, Try.ntmps8
  go_wp2_with (go_at_call 16; refine H.out.mono ?_; rintro e w' ⟨rfl, rfl⟩)
  go_ret
  exact ⟨rfl, rfl⟩
theorem mgState_none {w : World} {v : Value} (h : Calls Try.prog 16 #[v] w fun e w' => e = .returned (.bool true) ∧ w' = w) :
    Calls Try.prog 8 #[v] w fun e w' => e = .returned (.int .i64 0) ∧ w' = w := by
  have H := hideIt h
  clear h
  go_enter Try.func8, Try.ntmps8
  go_wp2_with (go_at_call 16; refine H.out.mono ?_; rintro e w' ⟨rfl, rfl⟩)
  go_ret
  exact ⟨rfl, rfl⟩
theorem five_set {w : World} {g : Nat} {T : TypeId} {x0 x1 x2 x3 x4 : Value} (h : w.heap[g]? = some (.cells #[x0, x1, x2, x3, x4] T (0, 0))) (y0 y1 y2 y3 y4 : Value) :
    (((((w.setCell ⟨g, 0, none⟩ y0).setCell ⟨g, 1, none⟩ y1).setCell ⟨g, 2, none⟩ y2).setCell ⟨g, 3, none⟩ y3).setCell ⟨g, 4, none⟩ y4).heap[g]? = some (.cells #[y0, y1, y2, y3, y4] T (0, 0)) := by
  have := blk_setA (i := 4) (blk_setA (i := 3) (blk_setA (i := 2) (blk_setA (i := 1) (blk_setA (i := 0) h y0) y1) y2) y3) y4
  simpa using this
theorem but_one (w : World) (g i : Nat) (v : Value) : But (One g) w (w.setCell ⟨g, i, none⟩ v) := But.set (S := One g) But.rfl ⟨g, i, none⟩ (fun _ => Eq.refl _) v
theorem five_but (w : World) (g : Nat) (y0 y1 y2 y3 y4 : Value) : But (One g) w (((((w.setCell ⟨g, 0, none⟩ y0).setCell ⟨g, 1, none⟩ y1).setCell ⟨g, 2, none⟩ y2).setCell ⟨g, 3, none⟩ y3).setCell ⟨g, 4, none⟩ y4) :=
  ((((but_one w g 0 y0).trans (but_one _ g 1 y1)).trans (but_one _ g 2 y2)).trans (but_one _ g 3 y3)).trans (but_one _ g 4 y4)
theorem mgLeave_any {w : World} {P : Nat → Prop} {g : Nat} {st : Mg} (x : MgAt w P g st) :
    Calls Try.prog 45 #[Ptr g] w fun e w' => e = .returned (.tuple #[]) ∧ w'.heap[g]? = some (.cells newC 56 (0, 0)) ∧ But (One g) w w' := by
  obtain ⟨oa, oc, pv, x⟩ := x
  have h0 := x.at0
  have hN := mgNew_any w
  have hlt := x.lt
  have HA : After w (w.alloc (.cells newC 56)) := After.rfl.alloc _
  have h1 := new_past w (.cells newC 56) h0
  obtain ⟨_, ⟨d0, d1, d2, d3, d4⟩, f0, f1, f2, f3, f4⟩ := five_at h1
  obtain ⟨_, ⟨c0, c1, c2, c3, c4⟩, _⟩ := five_at (new1 w (.cells newC 56))
  have H1 := hideIt (And.intro h1 HA)
  have HN := hideIt hN
  clear h1 HA hN h0 x
  obtain ⟨wn, hwn⟩ : ∃ wn, w.alloc (.cells newC 56) = wn := ⟨_, rfl⟩
  rw [hwn] at d0 d1 d2 d3 d4 f0 f1 f2 f3 f4 c0 c1 c2 c3 c4 H1 HN
  clear hwn
  go_enter Try.func45, Try.ntmps45
  go_wp2_with (go_at_call 7; refine HN.out.mono ?_; rintro e w' ⟨rfl, rfl⟩)
  go_end0
  exact ⟨rfl, five_set H1.out.1 _ _ _ _ _, H1.out.2.but.trans (five_but _ _ _ _ _ _ _)⟩
theorem mgOne_any (w : World) (a : An) : Calls Try.prog 46 #[.agg a.cells] w fun e w' => ∃ v, e = .returned v ∧ AnsAt w' w.heap.size v (some a) ∧ After w w' := by
  unfold An.cells
  obtain ⟨k, c, r, q⟩ := a
  go_enter Try.func46, Try.ntmps46
  go_wp2
  go_ret
  exact ⟨_, rfl, ⟨_, rfl, by simp, (new2 _ _ _).2⟩, (After.rfl.alloc _).alloc _⟩
end Go.Proofs.Ythcfdoafncbliaa
/-
  Rows of objects and of numbers: told by their cells, owned, appended to none.
-/
namespace Go.Proofs.Ythcfdoafncbliaa
open Go.RowKit
set_option maxRecDepth 8000
theorem add_off (b off i : Nat) : (⟨b, off, none⟩ : Addr).add i = ⟨b, off + i, none⟩ := by
  by_cases h0 : i = 0
  · subst h0; simp [Addr.add]
  · simp [Addr.add, h0]
theorem rowT_news {w : World} {x : Addr} {n : Nat} {xs : List T3} (h : RowT w (some x) n xs) : ∀ j u, (cells3 xs)[j]? = some u → w.cell? (x.add j) = some u := by
  intro j u hu
  have hl := cells3_length xs
  have hj : j < xs.length * 3 := by
    rcases Nat.lt_or_ge j (xs.length * 3) with h' | h'
    · exact h'
    · rw [List.getElem?_eq_none (by omega)] at hu; cases hu
  have hn := h.1
  obtain ⟨b, off, y, e, _, hy, c0, c1, c2⟩ := h.2 (j / 3) (by omega)
  cases e
  obtain ⟨e0, e1, e2⟩ := cells3_at xs (j / 3) y hy
  rw [add_off]
  have hm : j = j / 3 * 3 ∨ j = j / 3 * 3 + 1 ∨ j = j / 3 * 3 + 2 := by omega
  rcases hm with hm | hm | hm
  · rw [← hm] at e0
    rw [e0] at hu
    rw [← hu, ← c0]
    congr 2
    omega
  · rw [← hm] at e1
    rw [e1] at hu
    rw [← hu, ← c1]
    congr 2
    omega
  · rw [← hm] at e2
    rw [e2] at hu
    rw [← hu, ← c2]
    congr 2
    omega
theorem own_rowT {w : World} {B : Nat} {T : TypeId} {v : Value} {n : Nat} {xs : List T3} (h : w.ownsRow B T 3 v n (cells3 xs)) : ∃ a c, v = .slice a n c ∧ RowT w a n xs ∧ (a = none → n = 0 ∧ c = 0) ∧ (∀ y, a = some y → B ≤ y.block) := by
  have hl : xs.length = n := by have := h.1; rw [cells3_length] at this; omega
  rcases h.2 with ⟨e, rfl⟩ | ⟨g, cap, cur, e, hb, hg, hnc, _, hcs, htk⟩
  · obtain rfl : xs = [] := List.length_eq_zero_iff.1 hl
    exact ⟨none, 0, e, RowT.nil _ _, fun _ => ⟨rfl, rfl⟩, (fun y hy => by cases hy)⟩
  · refine ⟨some ⟨g, 0, none⟩, cap, e, ⟨hl, fun i hi => ?_⟩, (fun h => by cases h), (fun y hy => by cases hy; exact hb)⟩
    obtain ⟨x, hx⟩ : ∃ x, xs[i]? = some x := ⟨xs[i], List.getElem?_eq_getElem (by omega)⟩
    obtain ⟨e0, e1, e2⟩ := cells3_at xs i x hx
    have hc : ∀ j, j < n * 3 → w.cell? ⟨g, j, none⟩ = (cells3 xs)[j]? := by
      intro j hj
      rw [← htk, List.getElem?_take_of_lt hj]
      have hg' : w.heap[g]? = some (.cells cur.toList.toArray T (0, 0)) := by rw [hg]
      exact cell_blk hg'
    refine ⟨g, 0, x, rfl, (Array.getElem?_eq_some_iff.1 hg).1, hx, ?_, ?_, ?_⟩
    · rw [Nat.zero_add, hc _ (by omega)]; exact e0
    · rw [Nat.zero_add, hc _ (by omega)]; exact e1
    · rw [Nat.zero_add, hc _ (by omega)]; exact e2
/-- Appended to none: in memory of its own. -/
theorem app_objs {w : World} {ops : Array Oper} {rest : List Oper} {o : Oper} {act : Act} {Q : Exit → Act → World → Prop} (hgd : o.guard = none) (s x : Operand)
    (ho : o.op = .call { callee := .builtin .append, args := #[s, x], argTypes := #[27, 27] }) (hs : act.eval s = .slice none 0 0)
    (a : Option Addr) (m c : Nat) (l : List Ob) (hx : act.eval x = .slice a m c) (hr : RowT w a m (l.map Ob.t3)) (ha : a = none → m = 0 ∧ c = 0) (hb : m * 24 ≤ 140737488355328)
    (h : ∀ a' c' w', RowT w' a' m (l.map Ob.t3) → (a' = none → m = 0 ∧ c' = 0) → (∀ y, a' = some y → w.heap.size ≤ y.block) → After w w' → wpList Try.prog ops Q rest (act.put o.dst (.slice a' m c')) w') : wpList Try.prog ops Q (o :: rest) act w := by
  obtain ⟨i0, hi, hz0, hz1, hz2⟩ := info_parts Try.info40
  cases a with
  | none =>
    obtain ⟨rfl, rfl⟩ := ha rfl
    refine wpList_append_own_none hgd s x 27 ho w.heap.size 40 i0 3 Try.underlying27 hi (.slice none 0 0) 0 [] hs (World.ownsRow_nil _ _ _ _) hx ?_
    exact h none 0 w hr (fun _ => ⟨rfl, rfl⟩) (fun y hy => by cases hy) After.rfl
  | some ad =>
    have hl1 : (cells3 (l.map Ob.t3)).length = m * 3 := by rw [cells3_length, hr.1]
    refine wpList_append_own w hgd s x 27 ho w.heap.size 40 i0 (.agg #[.int .i64 0, .int .i64 0, .bool false]) 3 24 Try.underlying27 hi hz0 hz1 hz2 rfl (by decide) (.slice none 0 0) 0 [] hs (World.ownsRow_nil _ _ _ _) ad m c (cells3 (l.map Ob.t3)) hx hl1 (rowT_news hr) (cells3_one (fun y hy => by obtain ⟨o, _, rfl⟩ := List.mem_map.1 hy; exact o.one3)) (by unfold maxLen; omega) (by omega) (Nat.le_refl _) ?_
    intro v' w' h1 h2 _
    rw [Nat.zero_add, List.nil_append] at h1
    obtain ⟨a', c', rfl, r1, r2, r3⟩ := own_rowT h1
    exact h a' c' w' r1 r2 r3 (But.grown After.rfl h2 (fun k hk => by cases hk))
/-- Appended to none: in memory of its own. -/
theorem app_obs {w : World} {ops : Array Oper} {rest : List Oper} {o : Oper} {act : Act} {Q : Exit → Act → World → Prop} (hgd : o.guard = none) (s x : Operand)
    (ho : o.op = .call { callee := .builtin .append, args := #[s, x], argTypes := #[34, 34] }) (hs : act.eval s = .slice none 0 0)
    (a : Option Addr) (m c : Nat) (l : List Bi) (hx : act.eval x = .slice a m c) (hr : RowT w a m (l.map Bi.t3)) (ha : a = none → m = 0 ∧ c = 0) (hb : m * 16 ≤ 140737488355328)
    (h : ∀ a' c' w', RowT w' a' m (l.map Bi.t3) → (a' = none → m = 0 ∧ c' = 0) → (∀ y, a' = some y → w.heap.size ≤ y.block) → After w w' → wpList Try.prog ops Q rest (act.put o.dst (.slice a' m c')) w') : wpList Try.prog ops Q (o :: rest) act w := by
  obtain ⟨i0, hi, hz0, hz1, hz2⟩ := info_parts Try.info49
  cases a with
  | none =>
    obtain ⟨rfl, rfl⟩ := ha rfl
    refine wpList_append_own_none hgd s x 34 ho w.heap.size 49 i0 3 Try.underlying34 hi (.slice none 0 0) 0 [] hs (World.ownsRow_nil _ _ _ _) hx ?_
    exact h none 0 w hr (fun _ => ⟨rfl, rfl⟩) (fun y hy => by cases hy) After.rfl
  | some ad =>
    have hl1 : (cells3 (l.map Bi.t3)).length = m * 3 := by rw [cells3_length, hr.1]
    refine wpList_append_own w hgd s x 34 ho w.heap.size 49 i0 (.agg #[.int .i64 0, .bool false, .int .u32 0]) 3 16 Try.underlying34 hi hz0 hz1 hz2 rfl (by decide) (.slice none 0 0) 0 [] hs (World.ownsRow_nil _ _ _ _) ad m c (cells3 (l.map Bi.t3)) hx hl1 (rowT_news hr) (cells3_one (fun y hy => by obtain ⟨o, _, rfl⟩ := List.mem_map.1 hy; exact o.one3)) (by unfold maxLen; omega) (by omega) (Nat.le_refl _) ?_
    intro v' w' h1 h2 _
    rw [Nat.zero_add, List.nil_append] at h1
    obtain ⟨a', c', rfl, r1, r2, r3⟩ := own_rowT h1
    exact h a' c' w' r1 r2 r3 (But.grown After.rfl h2 (fun k hk => by cases hk))
end Go.Proofs.Ythcfdoafncbliaa
