/-
  Reading undoes writing, and writing undoes reading: of every piece of a message.
-/
import Derived.Test.YtigiakhdaaoljaaMess
namespace Go.Proofs.Ytigiakhdaaoljaa
open Go.RowKit
set_option maxRecDepth 8000
theorem take_left2 (xs ys : List Int) (k : Nat) (h : xs.length = k) : (xs ++ ys).take k = xs ∧ (xs ++ ys).drop k = ys := by
  subst h; exact ⟨List.take_left, List.drop_left⟩
theorem be1 {x : Int} (h : 0 ≤ x ∧ x ≤ 255) : be (bytesOf 1 x) = x := by
  show 0 * 256 + x / 1 % 256 = x
  omega
theorem be2 {x : Int} (h : 0 ≤ x ∧ x ≤ 65535) : be (bytesOf 2 x) = x := by
  show (0 * 256 + x / 256 % 256) * 256 + x / 1 % 256 = x
  omega
theorem be4 {x : Int} (h : 0 ≤ x ∧ x < 4294967296) : be (bytesOf 4 x) = x := by
  show (((0 * 256 + x / 16777216 % 256) * 256 + x / 65536 % 256) * 256 + x / 256 % 256) * 256 + x / 1 % 256 = x
  omega
theorem read_k {x : Int} {k : Nat} {r : List Int} (h : be (bytesOf k x) = x) : rdVal k (bytesOf k x ++ r) = x ∧ rdErr k (bytesOf k x ++ r) = 0 ∧ rdRest k (bytesOf k x ++ r) = r := by
  have hl : k ≤ (bytesOf k x ++ r).length := by rw [List.length_append, bytesOf_length]; omega
  obtain ⟨e1, e2⟩ := take_left2 (bytesOf k x) r k (bytesOf_length k x)
  exact ⟨by rw [rdVal_yes hl, e1, h], rdErr_yes hl, by rw [rdRest_yes hl, e2]⟩
theorem read_o {bs r : List Int} (h : bs.length ≤ 65535) : ocVal (bytesOf 2 bs.length ++ bs ++ r) = bs ∧ ocErr (bytesOf 2 bs.length ++ bs ++ r) = 0 ∧ ocRest (bytesOf 2 bs.length ++ bs ++ r) = r := by
  rw [List.append_assoc]
  obtain ⟨e1, e2⟩ := take_left2 (bytesOf 2 (bs.length : Int)) (bs ++ r) 2 (bytesOf_length 2 _)
  have hn : ocN (bytesOf 2 (bs.length : Int) ++ (bs ++ r)) = bs.length := by
    unfold ocN; rw [e1, be2 (by omega)]; omega
  have hl : (bytesOf 2 (bs.length : Int) ++ (bs ++ r)).length = 2 + (bs.length + r.length) := by rw [List.length_append, bytesOf_length, List.length_append]
  obtain ⟨f1, f2, f3, _⟩ := oc_yes (zs := bytesOf 2 (bs.length : Int) ++ (bs ++ r)) (by omega) (by rw [hn, hl]; omega)
  obtain ⟨g1, g2⟩ := take_left2 bs r bs.length rfl
  exact ⟨by rw [f1, e2, hn, g1], f2, by rw [f3, e2, hn, g2]⟩
theorem back1 {zs : List Int} (hb : Bs zs) (h : 1 ≤ zs.length) : bytesOf 1 (be (zs.take 1)) = zs.take 1 := by
  match zs, h with
  | a :: r, _ =>
    have ha := hb a (by simp)
    show [(0 * 256 + a) / 1 % 256] = [a]
    rw [show (0 * 256 + a) / 1 % 256 = a by omega]
theorem back2 {zs : List Int} (hb : Bs zs) (h : 2 ≤ zs.length) : bytesOf 2 (be (zs.take 2)) = zs.take 2 := by
  match zs, h with
  | a :: b :: r, _ =>
    have ha := hb a (by simp)
    have hc := hb b (by simp)
    show [((0 * 256 + a) * 256 + b) / 256 % 256, ((0 * 256 + a) * 256 + b) / 1 % 256] = [a, b]
    rw [show ((0 * 256 + a) * 256 + b) / 256 % 256 = a by omega, show ((0 * 256 + a) * 256 + b) / 1 % 256 = b by omega]
theorem back4 {zs : List Int} (hb : Bs zs) (h : 4 ≤ zs.length) : bytesOf 4 (be (zs.take 4)) = zs.take 4 := by
  match zs, h with
  | a :: b :: c :: d :: r, _ =>
    have ha := hb a (by simp)
    have hc := hb b (by simp)
    have hd := hb c (by simp)
    have he := hb d (by simp)
    show [((((0 * 256 + a) * 256 + b) * 256 + c) * 256 + d) / 16777216 % 256, ((((0 * 256 + a) * 256 + b) * 256 + c) * 256 + d) / 65536 % 256, ((((0 * 256 + a) * 256 + b) * 256 + c) * 256 + d) / 256 % 256, ((((0 * 256 + a) * 256 + b) * 256 + c) * 256 + d) / 1 % 256] = [a, b, c, d]
    rw [show ((((0 * 256 + a) * 256 + b) * 256 + c) * 256 + d) / 16777216 % 256 = a by omega, show ((((0 * 256 + a) * 256 + b) * 256 + c) * 256 + d) / 65536 % 256 = b by omega, show ((((0 * 256 + a) * 256 + b) * 256 + c) * 256 + d) / 256 % 256 = c by omega, show ((((0 * 256 + a) * 256 + b) * 256 + c) * 256 + d) / 1 % 256 = d by omega]

abbrev Goes (α : Type) := Bool → α → List Int → Except Int (α × List Int)
/-- What is written is read as it was, what is read is written as it was; what is wrong is told as it should. -/
structure Dual {α : Type} (F : Goes α) (sim : α → α → Prop) (kp : α → α) : Prop where
  back : ∀ {v zs x ys}, F true v zs = .ok (x, ys) → x = kp v ∧ ∃ bs, ys = zs ++ bs ∧ ∀ v' rest, sim (kp v) v' → F false v' (bs ++ rest) = .ok (kp v, rest)
  once : ∀ {v zs x rest}, Bs zs → F false v zs = .ok (x, rest) → sim x v ∧ ∃ bs, zs = bs ++ rest ∧ ∀ ws, F true x ws = .ok (x, ws ++ bs)
  errw : ∀ {v zs c}, F true v zs = .error c → c = 2
  errr : ∀ {v zs c}, F false v zs = .error c → c = 3 ∨ c = 4 ∨ c = 5
abbrev Any {α : Type} : α → α → Prop := fun _ _ => True
theorem num_dual (k M : Nat) (hb : ∀ x : Int, 0 ≤ x ∧ x ≤ M → be (bytesOf k x) = x) (ho : ∀ zs, Bs zs → k ≤ zs.length → bytesOf k (be (zs.take k)) = zs.take k) (hk : (256 : Int) ^ k ≤ (M : Int) + 1) : Dual (fun m v zs => num m k M v zs) Any id where
  back := by
    intro v zs x ys h
    by_cases hv : 0 ≤ v ∧ v ≤ M
    · rw [num_w hv] at h
      cases h
      refine ⟨rfl, _, rfl, fun v' rest _ => ?_⟩
      obtain ⟨e1, e2⟩ := take_left2 (bytesOf k v) rest k (bytesOf_length k v)
      rw [num_r (by rw [List.length_append, bytesOf_length]; omega), e1, e2, hb v hv]
      rfl
    · rw [num_wn hv] at h; cases h
  once := by
    intro v zs x rest hz h
    have hx := num_bound h hz hk
    by_cases hl : k ≤ zs.length
    · rw [num_r hl] at h
      cases h
      refine ⟨trivial, zs.take k, (List.take_append_drop k zs).symm, fun ws => ?_⟩
      rw [num_w hx, ho zs hz hl]
    · rw [num_rn hl] at h; cases h
  errw := by
    intro v zs c h
    by_cases hv : 0 ≤ v ∧ v ≤ M
    · rw [num_w hv] at h; cases h
    · rw [num_wn hv] at h; cases h; rfl
  errr := by
    intro v zs c h
    by_cases hl : k ≤ zs.length
    · rw [num_r hl] at h; cases h
    · rw [num_rn hl] at h; cases h; exact .inl rfl
theorem dual1 : Dual (fun m v zs => num m 1 255 v zs) Any id := num_dual 1 255 (fun x h => be1 h) (fun zs hz hl => back1 hz hl) (by decide)
theorem dual2 : Dual (fun m v zs => num m 2 65535 v zs) Any id := num_dual 2 65535 (fun x h => be2 h) (fun zs hz hl => back2 hz hl) (by decide)
theorem dual4 : Dual (fun m v zs => num m 4 4294967295 v zs) Any id := num_dual 4 4294967295 (fun x h => be4 ⟨h.1, by have := h.2; omega⟩) (fun zs hz hl => back4 hz hl) (by decide)
theorem oct_dual : Dual (fun m v zs => oct m v zs) Any id where
  back := by
    intro v zs x ys h
    by_cases hv : v.length ≤ 65535
    · rw [oct_w hv] at h
      cases h
      refine ⟨rfl, _, rfl, fun v' rest _ => ?_⟩
      obtain ⟨e1, e2, e3⟩ := read_o (r := rest) hv
      have hi : ocIs (bytesOf 2 (v.length : Int) ++ v ++ rest) = true := by
        by_cases hi : ocIs (bytesOf 2 (v.length : Int) ++ v ++ rest) = true
        · exact hi
        · unfold ocErr at e2; rw [if_neg hi] at e2; cases e2
      rw [oct_r hi, e1, e3]
      rfl
    · rw [oct_wn hv] at h; cases h
  once := by
    intro v zs x rest hz h
    by_cases hi : ocIs zs = true
    · rw [oct_r hi] at h
      cases h
      obtain ⟨h2, hn⟩ := of_decide_eq_true hi
      obtain ⟨f1, _, f3, f4⟩ := oc_yes h2 hn
      have hN := ocN_int hz h2
      refine ⟨trivial, zs.take 2 ++ ocVal zs, ?_, fun ws => ?_⟩
      · rw [f1, f3, List.append_assoc, List.take_append_drop, List.take_append_drop]
      · rw [oct_w (by omega), f4, ← hN.1, back2 hz h2]
    · rw [oct_rn hi] at h; cases h
  errw := by
    intro v zs c h
    by_cases hv : v.length ≤ 65535
    · rw [oct_w hv] at h; cases h
    · rw [oct_wn hv] at h; cases h; rfl
  errr := by
    intro v zs c h
    by_cases hi : ocIs zs = true
    · rw [oct_r hi] at h; cases h
    · rw [oct_rn hi] at h; cases h; exact .inl rfl
theorem thn_inv {α β : Type} {r : Except Int (α × List Int)} {f : α → List Int → Except Int β} {y : β} (h : thn r f = .ok y) : ∃ x zs, r = .ok (x, zs) ∧ f x zs = .ok y := by
  rcases r with c | ⟨x, zs⟩
  · cases h
  · exact ⟨x, zs, rfl, h⟩
theorem thn_err {α β : Type} {r : Except Int (α × List Int)} {f : α → List Int → Except Int β} {c : Int} (h : thn r f = .error c) : r = .error c ∨ ∃ x zs, r = .ok (x, zs) ∧ f x zs = .error c := by
  rcases r with c | ⟨x, zs⟩
  · cases h; exact .inl rfl
  · exact .inr ⟨x, zs, rfl, h⟩
theorem Bs.right {xs ys : List Int} (h : Bs (xs ++ ys)) : Bs ys := fun z hz => h z (List.mem_append_right _ hz)
/-- One piece, then another, which may look at the first. -/
def seqF {α β : Type} (A : Goes α) (B : α → Goes β) : Goes (α × β) := fun m v zs => thn (A m v.1 zs) fun a zs => thn (B a m v.2 zs) fun b zs => .ok ((a, b), zs)
theorem Dual.seq {α β : Type} {A : Goes α} {B : α → Goes β} {sa : α → α → Prop} {sb : β → β → Prop} (dA : Dual A sa id) (dB : ∀ a, Dual (B a) sb id) : Dual (seqF A B) (fun u v => sa u.1 v.1 ∧ sb u.2 v.2) id where
  back := by
    intro v zs x ys h
    obtain ⟨a, z1, e1, h⟩ := thn_inv h
    obtain ⟨b, z2, e2, h⟩ := thn_inv h
    obtain ⟨rfl, b1, rfl, r1⟩ := dA.back e1
    obtain ⟨rfl, b2, rfl, r2⟩ := (dB _).back e2
    cases h
    refine ⟨rfl, b1 ++ b2, by rw [List.append_assoc], fun v' rest hs => ?_⟩
    unfold seqF
    rw [List.append_assoc, thn_ok (r1 v'.1 _ hs.1), thn_ok (r2 v'.2 _ hs.2)]
    rfl
  once := by
    intro v zs x rest hz h
    obtain ⟨a, z1, e1, h1⟩ := thn_inv h
    obtain ⟨b, z2, e2, h2⟩ := thn_inv h1
    clear h h1
    obtain ⟨s1, b1, rfl, r1⟩ := dA.once hz e1
    obtain ⟨s2, b2, rfl, r2⟩ := (dB _).once hz.right e2
    cases h2
    refine ⟨⟨s1, s2⟩, b1 ++ b2, by rw [List.append_assoc], fun ws => ?_⟩
    unfold seqF
    rw [thn_ok (r1 ws), thn_ok (r2 _), List.append_assoc]
  errw := by
    intro v zs c h
    rcases thn_err h with h | ⟨a, z1, _, h⟩
    · exact dA.errw h
    rcases thn_err h with h | ⟨b, z2, _, h⟩
    · exact (dB _).errw h
    · cases h
  errr := by
    intro v zs c h
    rcases thn_err h with h | ⟨a, z1, _, h⟩
    · exact dA.errr h
    rcases thn_err h with h | ⟨b, z2, _, h⟩
    · exact (dB _).errr h
    · cases h
/-- The same, of something that holds it. -/
theorem Dual.emb {α β : Type} {G : Goes α} {F : Goes β} {sim : α → α → Prop} (d : Dual G sim id) (f : β → α) (g : α → β) (fg : ∀ a, f (g a) = a) (hF : ∀ m v zs, F m v zs = thn (G m (f v) zs) fun x zs => .ok (g x, zs)) : Dual F (fun u v => sim (f u) (f v)) (fun v => g (f v)) where
  back := by
    intro v zs x ys h
    rw [hF] at h
    obtain ⟨a, z1, e1, h⟩ := thn_inv h
    obtain ⟨rfl, b1, rfl, r1⟩ := d.back e1
    cases h
    refine ⟨rfl, b1, rfl, fun v' rest hs => ?_⟩
    rw [fg] at hs
    rw [hF, thn_ok (r1 (f v') rest hs)]
    rfl
  once := by
    intro v zs x rest hz h
    rw [hF] at h
    obtain ⟨a, z1, e1, h1⟩ := thn_inv h
    clear h
    obtain ⟨s1, b1, rfl, r1⟩ := d.once hz e1
    cases h1
    refine ⟨by rw [fg]; exact s1, b1, rfl, fun ws => ?_⟩
    rw [hF, fg, thn_ok (r1 ws)]
  errw := by
    intro v zs c h
    rw [hF] at h
    rcases thn_err h with h | ⟨a, z1, _, h⟩
    · exact d.errw h
    · cases h
  errr := by
    intro v zs c h
    rw [hF] at h
    rcases thn_err h with h | ⟨a, z1, _, h⟩
    · exact d.errr h
    · cases h
theorem Dual.like {α : Type} {F : Goes α} {s s' : α → α → Prop} {k k' : α → α} (d : Dual F s k) (hs : ∀ u v, s u v ↔ s' u v) (hk : ∀ v, k v = k' v) : Dual F s' k' where
  back := fun {v zs x ys} h => by
    obtain ⟨e, bs, e1, r⟩ := d.back h
    rw [hk] at e r
    exact ⟨e, bs, e1, fun v' rest h => r v' rest ((hs _ _).2 h)⟩
  once := fun hz h => by
    obtain ⟨s1, r⟩ := d.once hz h
    exact ⟨(hs _ _).1 s1, r⟩
  errw := d.errw
  errr := d.errr
/-- Something that may not be. -/
def grd (p : Prop) [Decidable p] : Goes Unit := fun m _ zs => if p then .error (stp m 4) else .ok ((), zs)
theorem grd_dual (p : Prop) [Decidable p] : Dual (grd p) Any id where
  back := by
    intro v zs x ys h
    unfold grd at h
    split at h
    · cases h
    · cases h
      rename_i hp
      exact ⟨rfl, [], by simp, fun v' rest _ => by unfold grd; rw [if_neg hp]; rfl⟩
  once := by
    intro v zs x rest hz h
    unfold grd at h
    split at h
    · cases h
    · cases h
      rename_i hp
      exact ⟨trivial, [], by simp, fun ws => by unfold grd; rw [if_neg hp, List.append_nil]⟩
  errw := by
    intro v zs c h
    unfold grd at h
    split at h
    · cases h; rfl
    · cases h
  errr := by
    intro v zs c h
    unfold grd at h
    split at h
    · cases h; exact .inr (.inl rfl)
    · cases h
theorem eit_dual (y n : Int) (hn : y ≠ n) (_hy : 0 ≤ y ∧ y ≤ 255) (_hn' : 0 ≤ n ∧ n ≤ 255) : Dual (fun m v zs => eit m v y n zs) Any id where
  back := by
    intro v zs x ys h
    obtain ⟨a, z1, e1, h⟩ := thn_inv h
    obtain ⟨rfl, b1, rfl, r1⟩ := dual1.back e1
    have hx : decide ((if v = true then y else n) = y) = v := by
      cases v
      · exact decide_eq_false (fun e => hn e.symm)
      · exact decide_eq_true rfl
    have ho : (if v = true then y else n) = y ∨ (if v = true then y else n) = n := by cases v <;> simp
    dsimp only [id] at h r1
    rw [if_pos ho, hx] at h
    cases h
    refine ⟨rfl, b1, rfl, fun v' rest _ => ?_⟩
    show eit false v' y n (b1 ++ rest) = _
    unfold eit
    rw [thn_ok (r1 _ rest trivial), if_pos ho, hx]
    rfl
  once := by
    intro v zs x rest hz h0
    obtain ⟨a, z1, e1, h⟩ := thn_inv h0
    clear h0
    obtain ⟨_, b1, rfl, r1⟩ := dual1.once hz e1
    split at h
    · rename_i ho
      cases h
      refine ⟨trivial, b1, rfl, fun ws => ?_⟩
      show eit true _ y n ws = _
      unfold eit
      have hx : (if decide (a = y) = true then y else n) = a := by
        by_cases e : a = y
        · rw [if_pos (decide_eq_true e), e]
        · rw [if_neg (by rw [decide_eq_false e]; decide)]
          exact (ho.resolve_left e).symm
      have := r1 ws
      rw [hx, thn_ok this, if_pos ho]
    · cases h
  errw := by
    intro v zs c h
    rcases thn_err h with h | ⟨a, z1, _, h⟩
    · exact dual1.errw h
    · split at h
      · cases h
      · cases h; rfl
  errr := by
    intro v zs c h
    rcases thn_err h with h | ⟨a, z1, _, h⟩
    · exact dual1.errr h
    · split at h
      · cases h
      · cases h; exact .inr (.inl rfl)
end Go.Proofs.Ytigiakhdaaoljaa
