/-
  Short and Long, and the document's answers.
-/
import Derived.Test.YtjblckljbgelaabSay
namespace Go.Proofs.Ytjblckljbgelaab
open Go.RowKit
theorem hideIt {p : Prop} (h : p) : Hid p := h
/-- What 16 bits, what 32 bits say: kind, mantissa, exponent. -/
def shK (x : Int) : Int := sK (mS x) (eS x) 2048
def shM (x : Int) : Int := sM (mS x) (eS x) 2048
def shE (x : Int) : Int := sE (mS x) (eS x) 2048
def loK (y : Int) : Int := sK (mL y) (eL y) 8388608
def loM (y : Int) : Int := sM (mL y) (eL y) 8388608
def loE (y : Int) : Int := sE (mL y) (eL y) 8388608
theorem mS_go (x : Int) (_h1 : 0 ≤ x) (_h2 : x ≤ 65535) : wrap64 (IntKind.i16.wrap (IntKind.u16.wrap (x * 16))) / 16 = mS x := by
  have e1 : IntKind.u16.wrap (x * 16) = x * 16 % 65536 := rfl
  have e2 : ∀ y : Int, IntKind.i16.wrap y = (y + 32768) % 65536 - 32768 := fun y => by simp [IntKind.wrap, IntKind.signed, IntKind.bits]; omega
  rw [e1, e2]
  unfold wrap64 mS sgd
  split <;> omega
theorem eS_go (x : Int) (h1 : 0 ≤ x) (h2 : x ≤ 65535) : wrap64 (IntKind.i16.wrap x) / 4096 = eS x := by
  have e2 : ∀ y : Int, IntKind.i16.wrap y = (y + 32768) % 65536 - 32768 := fun y => by simp [IntKind.wrap, IntKind.signed, IntKind.bits]; omega
  rw [e2]
  unfold wrap64 eS sgd
  split <;> omega
theorem mL_go (x : Int) (_h1 : 0 ≤ x) (_h2 : x ≤ 4294967295) : wrap64 (wrap32 (x * 256 % 4294967296)) / 256 = mL x := by
  unfold wrap64 wrap32 mL sgd
  split <;> omega
theorem eL_go (x : Int) (h1 : 0 ≤ x) (h2 : x ≤ 4294967295) : wrap64 (wrap32 x) / 16777216 = eL x := by
  unfold wrap64 wrap32 eL sgd
  split <;> omega

theorem short_any (x : Int) (w : World) (h1 : 0 ≤ x) (h2 : x ≤ 65535) :
    Calls Try.prog 4 #[.int .u16 x] w fun r w' => r = .returned (.agg #[.int .i64 (shK x), .int .i64 (shM x), .int .i64 (shE x)]) ∧ After w w' := by
  have hA := hideIt (mS_go x h1 h2)
  have hB := hideIt (eS_go x h1 h2)
  have d1 : sK (mS x) (eS x) 2048 = shK x := rfl
  have d2 : sM (mS x) (eS x) 2048 = shM x := rfl
  have d3 : sE (mS x) (eS x) 2048 = shE x := rfl
  have d1 := hideIt d1
  have d2 := hideIt d2
  have d3 := hideIt d3
  go_enter Try.func4, Try.ntmps4
  go_wp2_with (go_at_call 15; refine (said_short _ _ _).mono ?_; rintro e w' ⟨rfl, ha⟩; obtain ⟨hc, hf⟩ := ha.cell; rw [hA.out, hB.out, d1.out, d2.out, d3.out])
  exact bodyPost_ret (v := .agg #[.int .i64 (shK x), .int .i64 (shM x), .int .i64 (shE x)]) (by simp [results, Try.results4, go_sem, hc]) rfl ⟨rfl, (((((After.rfl.alloc _).trans ha).set (Nat.le_refl _) _).set (Nat.le_refl _) _).set (Nat.le_refl _) _)⟩
theorem long_any (x : Int) (w : World) (h1 : 0 ≤ x) (h2 : x ≤ 4294967295) :
    Calls Try.prog 5 #[.int .u32 x] w fun r w' => r = .returned (.agg #[.int .i64 (loK x), .int .i64 (loM x), .int .i64 (loE x)]) ∧ After w w' := by
  have hA := hideIt (mL_go x h1 h2)
  have hB := hideIt (eL_go x h1 h2)
  have d1 : sK (mL x) (eL x) 8388608 = loK x := rfl
  have d2 : sM (mL x) (eL x) 8388608 = loM x := rfl
  have d3 : sE (mL x) (eL x) 8388608 = loE x := rfl
  have d1 := hideIt d1
  have d2 := hideIt d2
  have d3 := hideIt d3
  go_enter Try.func5, Try.ntmps5
  go_wp2_with (go_at_call 15; refine (said_long _ _ _).mono ?_; rintro e w' ⟨rfl, ha⟩; obtain ⟨hc, hf⟩ := ha.cell; rw [hA.out, hB.out, d1.out, d2.out, d3.out])
  exact bodyPost_ret (v := .agg #[.int .i64 (loK x), .int .i64 (loM x), .int .i64 (loE x)]) (by simp [results, Try.results5, go_sem, hc]) rfl ⟨rfl, (((((After.rfl.alloc _).trans ha).set (Nat.le_refl _) _).set (Nat.le_refl _) _).set (Nat.le_refl _) _)⟩
end Go.Proofs.Ytjblckljbgelaab
