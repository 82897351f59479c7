/-
  The closure, whole; teller.
-/
import Derived.Test.YthgmjeljjladhaaFoG
import Derived.Laws.EntriesVeiled
namespace Go.Proofs.Ythgmjeljjladhaa
open Go.RowKit Go.Maps
set_option maxRecDepth 8000
theorem tell_any {p : Pl} {L : List Nd} {C : List Ch} {X : List Tr} (ok : okAll L (C.length : Int) = true) (hL : L.length ≤ 32) (hX : X.length ≤ 1000) (hR : ∀ x ∈ X, x.n = C.length) : ∀ i, i < L.length → Says p L C X i := by
  intro i
  induction i using Nat.strongRecOn with
  | ind i ih =>
    intro hi
    obtain ⟨x, hx⟩ : ∃ x, L[i]? = some x := ⟨_, List.getElem?_eq_getElem hi⟩
    have ho := okAll_at ok hx
    have hop := okN_op ho
    obtain ⟨op, a, b, n⟩ := x
    rcases (by simp only at hop; omega : op = 0 ∨ (1 ≤ op ∧ op ≤ 5) ∨ op = 6 ∨ op = 7 ∨ op = 8 ∨ op = 9 ∨ op = 10 ∨ op = 11 ∨ op = 12) with rfl | h | rfl | rfl | rfl | rfl | rfl | rfl | rfl
    · simp [okN] at ho
      obtain ⟨⟨rfl, rfl⟩, rfl⟩ := ho
      exact tell_0 ok hL hX hx
    · exact tell_atom ok hL hX hR hx (by simp [atomic]; exact h)
    · simp [okN, idx] at ho
      obtain ⟨⟨⟨h1, h2⟩, rfl⟩, rfl⟩ := ho
      obtain ⟨ja, rfl⟩ : ∃ ja : Nat, a = (ja : Int) := ⟨a.toNat, by omega⟩
      exact tell_6 ok hL hX hx (ih ja (by omega) (by omega))
    · simp [okN, idx] at ho
      obtain ⟨⟨⟨h1, h2⟩, h3, h4⟩, rfl⟩ := ho
      obtain ⟨ja, rfl⟩ : ∃ ja : Nat, a = (ja : Int) := ⟨a.toNat, by omega⟩
      obtain ⟨jb, rfl⟩ : ∃ jb : Nat, b = (jb : Int) := ⟨b.toNat, by omega⟩
      exact tell_7 ok hL hX hx (ih ja (by omega) (by omega)) (ih jb (by omega) (by omega))
    · simp [okN, idx] at ho
      obtain ⟨⟨⟨h1, h2⟩, h3, h4⟩, rfl⟩ := ho
      obtain ⟨ja, rfl⟩ : ∃ ja : Nat, a = (ja : Int) := ⟨a.toNat, by omega⟩
      obtain ⟨jb, rfl⟩ : ∃ jb : Nat, b = (jb : Int) := ⟨b.toNat, by omega⟩
      exact tell_8 ok hL hX hx (ih ja (by omega) (by omega)) (ih jb (by omega) (by omega))
    · simp [okN, idx] at ho
      obtain ⟨⟨⟨h1, h2⟩, rfl⟩, rfl⟩ := ho
      obtain ⟨ja, rfl⟩ : ∃ ja : Nat, a = (ja : Int) := ⟨a.toNat, by omega⟩
      exact tell_9 ok hL hX hx (ih ja (by omega) (by omega))
    · simp [okN, idx] at ho
      obtain ⟨⟨⟨⟨h1, h2⟩, rfl⟩, h3⟩, h4⟩ := ho
      obtain ⟨ja, rfl⟩ : ∃ ja : Nat, a = (ja : Int) := ⟨a.toNat, by omega⟩
      obtain ⟨m, rfl⟩ : ∃ m : Nat, n = (m : Int) := ⟨n.toNat, by omega⟩
      exact tell_10 ok hL hX hx (by omega) (ih ja (by omega) (by omega))
    · simp [okN, idx] at ho
      obtain ⟨⟨⟨⟨h1, h2⟩, rfl⟩, h3⟩, h4⟩ := ho
      obtain ⟨ja, rfl⟩ : ∃ ja : Nat, a = (ja : Int) := ⟨a.toNat, by omega⟩
      obtain ⟨m, rfl⟩ : ∃ m : Nat, n = (m : Int) := ⟨n.toNat, by omega⟩
      exact tell_11 ok hL hX hx (by omega) (ih ja (by omega) (by omega))
    · simp [okN, idx] at ho
      obtain ⟨⟨⟨h1, h2⟩, h3, h4⟩, rfl⟩ := ho
      obtain ⟨ja, rfl⟩ : ∃ ja : Nat, a = (ja : Int) := ⟨a.toNat, by omega⟩
      obtain ⟨jb, rfl⟩ : ∃ jb : Nat, b = (jb : Int) := ⟨b.toNat, by omega⟩
      exact tell_12 ok hL hX hx (ih ja (by omega) (by omega)) (ih jb (by omega) (by omega))
theorem teller_any {L : List Nd} {C : List Ch} {X : List Tr} (w : World) (al : Option Addr) (cl : Nat) (ac : Option Addr) (cc : Nat) (aT : Option Addr) (ct : Nat) (h1 : NRow w al L.length L) (h2 : CRow w ac C.length C) (h3 : TRow w aT X.length X) :
    Calls Try.prog 34 #[.slice al L.length cl, .slice ac C.length cc, .slice aT X.length ct] w fun e w' => ∃ p : Pl, e = .returned p.fn ∧ Env w' p L C X ∧ After w w' ∧ w.heap.size ≤ p.g := by
  have H1 := hideIt h1
  have H2 := hideIt h2
  have H3 := hideIt h3
  clear h1 h2 h3
  have hmf : ∀ (fn : Fn) (first cap : Array Value) (w : World), (Instr.makeFunc fn first cap).run Try.prog w = .ok (.func fn first cap) w := fun _ _ _ _ => rfl
  have hmm := @run_makeMap Try.prog
  go_enter Try.func34, Try.ntmps34
  go_wp2
  go_ret
  have z1 : ∀ o : Obj, (w.alloc o).heap.size = w.heap.size + 1 := fun o => size_alloc w o
  have af : After w ((((((w.alloc (.cells #[.slice al L.length cl] 22)).alloc (.cells #[.slice ac C.length cc] 23)).alloc (.cells #[.slice aT X.length ct] 24)).alloc (.map #[] 0)).alloc (.cells #[.map (some (w.heap.size + 1 + 1 + 1))] 80)).alloc (.cells #[.func (.func 42) #[] #[Ptr w.heap.size, Ptr (w.heap.size + 1), Ptr (w.heap.size + 1 + 1), Ptr (w.heap.size + 1 + 1 + 1 + 1), Ptr (w.heap.size + 1 + 1 + 1 + 1 + 1)]] 73)) :=
    (((((After.rfl.alloc _).alloc _).alloc _).alloc _).alloc _).alloc _
  refine ⟨⟨w.heap.size, w.heap.size + 1, w.heap.size + 1 + 1, w.heap.size + 1 + 1 + 1 + 1, w.heap.size + 1 + 1 + 1 + 1 + 1, w.heap.size + 1 + 1 + 1, al, cl, ac, cc, aT, ct⟩, rfl, ?_, af, by simp only; omega⟩
  have g0 := new_cell (w := w) (cs := #[.slice al L.length cl]) (T := 22) (((((After.rfl.alloc (.cells #[.slice ac C.length cc] 23)).alloc (.cells #[.slice aT X.length ct] 24)).alloc (.map #[] 0)).alloc (.cells #[.map (some (w.heap.size + 1 + 1 + 1))] 80)).alloc (.cells #[.func (.func 42) #[] #[Ptr w.heap.size, Ptr (w.heap.size + 1), Ptr (w.heap.size + 1 + 1), Ptr (w.heap.size + 1 + 1 + 1 + 1), Ptr (w.heap.size + 1 + 1 + 1 + 1 + 1)]] 73)) 0 rfl
  have g1 := new_cell (w := w.alloc (.cells #[.slice al L.length cl] 22)) (cs := #[.slice ac C.length cc]) (T := 23) ((((After.rfl.alloc (.cells #[.slice aT X.length ct] 24)).alloc (.map #[] 0)).alloc (.cells #[.map (some (w.heap.size + 1 + 1 + 1))] 80)).alloc (.cells #[.func (.func 42) #[] #[Ptr w.heap.size, Ptr (w.heap.size + 1), Ptr (w.heap.size + 1 + 1), Ptr (w.heap.size + 1 + 1 + 1 + 1), Ptr (w.heap.size + 1 + 1 + 1 + 1 + 1)]] 73)) 0 rfl
  have g2 := new_cell (w := (w.alloc (.cells #[.slice al L.length cl] 22)).alloc (.cells #[.slice ac C.length cc] 23)) (cs := #[.slice aT X.length ct]) (T := 24) (((After.rfl.alloc (.map #[] 0)).alloc (.cells #[.map (some (w.heap.size + 1 + 1 + 1))] 80)).alloc (.cells #[.func (.func 42) #[] #[Ptr w.heap.size, Ptr (w.heap.size + 1), Ptr (w.heap.size + 1 + 1), Ptr (w.heap.size + 1 + 1 + 1 + 1), Ptr (w.heap.size + 1 + 1 + 1 + 1 + 1)]] 73)) 0 rfl
  have g4 := new_cell (w := (((w.alloc (.cells #[.slice al L.length cl] 22)).alloc (.cells #[.slice ac C.length cc] 23)).alloc (.cells #[.slice aT X.length ct] 24)).alloc (.map #[] 0)) (cs := #[.map (some (w.heap.size + 1 + 1 + 1))]) (T := 80) (After.rfl.alloc (.cells #[.func (.func 42) #[] #[Ptr w.heap.size, Ptr (w.heap.size + 1), Ptr (w.heap.size + 1 + 1), Ptr (w.heap.size + 1 + 1 + 1 + 1), Ptr (w.heap.size + 1 + 1 + 1 + 1 + 1)]] 73)) 0 rfl
  have g5 := new_cell (w := ((((w.alloc (.cells #[.slice al L.length cl] 22)).alloc (.cells #[.slice ac C.length cc] 23)).alloc (.cells #[.slice aT X.length ct] 24)).alloc (.map #[] 0)).alloc (.cells #[.map (some (w.heap.size + 1 + 1 + 1))] 80)) (cs := #[.func (.func 42) #[] #[Ptr w.heap.size, Ptr (w.heap.size + 1), Ptr (w.heap.size + 1 + 1), Ptr (w.heap.size + 1 + 1 + 1 + 1), Ptr (w.heap.size + 1 + 1 + 1 + 1 + 1)]]) (T := 73) After.rfl 0 rfl
  have g3 := (Memo.new (((w.alloc (.cells #[.slice al L.length cl] 22)).alloc (.cells #[.slice ac C.length cc] 23)).alloc (.cells #[.slice aT X.length ct] 24)) (val L C (rdsOf X)) L.length X.length).after ((After.rfl.alloc (.cells #[.map (some (w.heap.size + 1 + 1 + 1))] 80)).alloc (.cells #[.func (.func 42) #[] #[Ptr w.heap.size, Ptr (w.heap.size + 1), Ptr (w.heap.size + 1 + 1), Ptr (w.heap.size + 1 + 1 + 1 + 1), Ptr (w.heap.size + 1 + 1 + 1 + 1 + 1)]] 73))
  simp only [size_alloc] at g1 g2 g3 g4 g5
  exact ⟨g0, H1.out.after af, g1, H2.out.after af, g2, H3.out.after af, g4, g5, g3⟩
/-- What Holds answers. -/
def hld (L : List Nd) (C : List Ch) (T : List (List Rd)) (t : Int) : Bool × Int :=
  if chk L (C.length : Int) ≠ 0 then (false, chk L (C.length : Int))
  else if ¬ (∀ l ∈ T, l.length = C.length) then (false, 2)
  else if ¬ (0 ≤ t ∧ t < (T.length : Int)) then (false, 9)
  else (val L C T (L.length - 1) t.toNat, 0)
theorem chk_zero {L : List Nd} {n : Int} (h : chk L n = 0) : L.length ≤ 32 ∧ 0 ≤ n ∧ n ≤ 8 ∧ 0 < L.length ∧ okAll L n = true := by
  unfold chk at h
  split at h
  · omega
  split at h
  · omega
  split at h
  · omega
  split at h
  · rename_i h1 h2 h3 h4
    exact ⟨by omega, by omega, by omega, by omega, h4⟩
  · omega
end Go.Proofs.Ythgmjeljjladhaa
