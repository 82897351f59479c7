/-
  What is read of any text: nodes that may be, laid as they are read; what nodes laid anew say. Over lists alone.
-/
import Derived.Test.YtlfcihanhfabmaaGreatDoorNtN
namespace Go.Proofs.YtlfcihanhfabmaaGreatDoor
/-- These nodes stand in the list from the b-th on. -/
def Stands (M : List Nd) (b : Nat) (us : List Nd) : Prop := ∀ q x, us[q]? = some x → M[b + q]? = some x
theorem Stands.left {M : List Nd} {b : Nat} {u v : List Nd} (h : Stands M b (u ++ v)) : Stands M b u := fun q x hx => h q x (by rw [List.getElem?_append_left (List.getElem?_eq_some_iff.1 hx).1]; exact hx)
theorem Stands.right {M : List Nd} {b : Nat} {u v : List Nd} (h : Stands M b (u ++ v)) : Stands M (b + u.length) v := fun q x hx => by
  have := h (u.length + q) x (by rw [List.getElem?_append_right (by omega), Nat.add_sub_cancel_left]; exact hx)
  rw [← Nat.add_assoc] at this
  exact this
theorem Stands.last {M : List Nd} {b : Nat} {u : List Nd} {x : Nd} (h : Stands M b (u ++ [x])) : M[b + u.length]? = some x := h.right 0 x rfl
/-- Nodes laid anew say what they said, and are written so. -/
theorem us_same {L : List Nd} (h : okAll L 8 = true) : ∀ i, i < L.length → ∀ (M : List Nd) (b : Nat), okAll M 8 = true → Stands M b ((pt L i).us b) → (∀ C T t, val M C T (b + ((pt L i).us b).length - 1) t = val L C T i t) ∧ (pt M (b + ((pt L i).us b).length - 1)).tx = (pt L i).tx ∧ (pt M (b + ((pt L i).us b).length - 1)).op = (pt L i).op := by
  intro i
  induction i using Nat.strongRecOn with
  | ind i ih =>
    intro hi M b hM hs
    rcases pt_kinds h hi with ⟨x, hx, ho, h5, e⟩ | ⟨op, nn, A, hw, ht, hx, hA, e, hk⟩ | ⟨op, A, B, hx, hA, hB, hop, e⟩
    · rw [e, atP_us] at hs ⊢
      have hm : M[b]? = some x := hs 0 x rfl
      show (∀ C T t, val M C T (b + 1 - 1) t = _) ∧ (pt M (b + 1 - 1)).tx = _ ∧ (pt M (b + 1 - 1)).op = _
      rw [Nat.add_sub_cancel]
      have hp : pt M b = atP x := by
        rw [pt_eq hM hm]
        unfold stP
        rw [if_pos h5]
      refine ⟨fun C T t => ?_, by rw [hp], by rw [hp]⟩
      rw [val_eq hM C T hm, val_eq h C T hx]
      have : ∀ r r' : Nat → Nat → Bool, stepv x C T r t = stepv x C T r' t := fun r r' => by
        unfold stepv
        by_cases h0 : x.op = 0
        · rw [if_pos h0, if_pos h0]
        · have := (okN_op ho).1
          rw [if_neg h0, if_neg h0, if_neg (by omega), if_neg (by omega), if_neg (by omega), if_neg (by omega), if_neg (by omega), if_neg (by omega), if_neg (by omega), if_neg (by omega), if_neg (by omega), if_neg (by omega), if_neg (by omega), if_neg (by omega), if_neg (by omega), if_neg (by omega)]
      exact this _ _
    · rw [e] at hs ⊢
      have hus : (unPt op nn hw ht (pt L A)).us b = (pt L A).us b ++ [⟨op, ((b + ((pt L A).us b).length - 1 : Nat) : Int), 0, nn⟩] := rfl
      rw [hus] at hs ⊢
      obtain ⟨k1, k2, k3⟩ := ih A hA (by omega) M b hM hs.left
      have hm := hs.last
      have hpos := us_pos h (show A < L.length by omega) b
      generalize hq : b + ((pt L A).us b).length - 1 = q at *
      have hlen : b + ((pt L A).us b ++ [(⟨op, (q : Int), 0, nn⟩ : Nd)]).length - 1 = b + ((pt L A).us b).length := by simp
      rw [hlen]
      have hp : pt M (b + ((pt L A).us b).length) = unPt op nn hw ht (pt M q) := by
        rw [pt_eq hM hm]
        unfold stP
        rcases hk with ⟨ho, h0, e1, e2⟩ | ⟨N, ho, h0, hN, e1, e2⟩
        · rw [if_neg (by rcases ho with h | h <;> (show ¬ op ≤ 5; omega)), if_pos ho, e1, e2, h0]
          rfl
        · rw [if_neg (by rcases ho with h | h <;> (show ¬ op ≤ 5; omega)), if_neg (by rcases ho with h | h <;> (show ¬ (op = 6 ∨ op = 9); omega)), if_pos ho, e1, e2, h0]
          rfl
      refine ⟨fun C T t => ?_, ?_, by rw [hp]; rfl⟩
      · rw [val_eq hM C T hm, val_eq h C T hx]
        have hr : (fun s => val M C T q s) = fun s => val L C T A s := funext (fun s => k1 C T s)
        have hr2 : ∀ s, val M C T q s = val L C T A s := fun s => k1 C T s
        rcases hk with ⟨ho | ho, _⟩ | ⟨N, ho | ho, _⟩
        · subst ho; simp [stepv, hr2]
        · subst ho; simp [stepv, hr2]
        · subst ho; simp [stepv]
          rw [show val M C T q = val L C T A from hr]
        · subst ho; simp [stepv, hr2]
      · rw [hp]
        show ht ++ brt (pt M q) 3 = ht ++ brt (pt L A) 3
        unfold brt
        rw [k2, k3]
    · rw [e] at hs ⊢
      obtain ⟨u, hu⟩ : ∃ u, u = (pt L A).us b := ⟨_, rfl⟩
      obtain ⟨v, hv⟩ : ∃ v, v = (pt L B).us (b + u.length) := ⟨_, rfl⟩
      have hus : (binPt op (pt L A) (pt L B)).us b = u ++ v ++ [⟨op, ((b + u.length - 1 : Nat) : Int), ((b + u.length + v.length - 1 : Nat) : Int), 0⟩] := by rw [hv, hu]; rfl
      rw [hus] at hs ⊢
      obtain ⟨k1, k2, k3⟩ := ih A hA (by omega) M b hM (by rw [← hu]; exact hs.left.left)
      obtain ⟨j1, j2, j3⟩ := ih B hB (by omega) M (b + u.length) hM (by rw [← hv]; exact hs.left.right)
      rw [← hu] at k1 k2 k3
      rw [← hv] at j1 j2 j3
      have hm := hs.last
      have hpu : 1 ≤ u.length := by rw [hu]; exact us_pos h (show A < L.length by omega) b
      have hpv : 1 ≤ v.length := by rw [hv]; exact us_pos h (show B < L.length by omega) _
      rw [List.length_append, ← Nat.add_assoc] at hm
      have hlen : b + (u ++ v ++ [(⟨op, ((b + u.length - 1 : Nat) : Int), ((b + u.length + v.length - 1 : Nat) : Int), 0⟩ : Nd)]).length - 1 = b + u.length + v.length := by simp; omega
      rw [hlen]
      generalize b + u.length + v.length - 1 = q2 at *
      generalize b + u.length - 1 = q1 at *
      have hp : pt M (b + u.length + v.length) = binPt op (pt M q1) (pt M q2) := by
        rw [pt_eq hM hm]
        unfold stP
        rw [if_neg (by show ¬ op ≤ 5; omega), if_neg (by show ¬ (op = 6 ∨ op = 9); omega), if_neg (by show ¬ (op = 10 ∨ op = 11); omega)]
        rfl
      refine ⟨fun C T t => ?_, ?_, by rw [hp]; rfl⟩
      · rw [val_eq hM C T hm, val_eq h C T hx]
        have hr1 : val M C T q1 = val L C T A := funext (fun s => k1 C T s)
        have hr2 : val M C T q2 = val L C T B := funext (fun s => j1 C T s)
        rcases hop with rfl | rfl | rfl
        · simp [stepv, hr1, hr2]
        · simp [stepv, hr1, hr2]
        · simp [stepv, hr1, hr2]
      · rw [hp]
        show brt (pt M q1) (laO op) ++ 32 :: (wordOf op ++ 32 :: brt (pt M q2) (lbO op)) = brt (pt L A) (laO op) ++ 32 :: (wordOf op ++ 32 :: brt (pt L B) (lbO op))
        unfold brt
        rw [k2, k3, j2, j3]
/-- What is read behind these nodes: nodes that may be; those of the part that was read are laid in its order. -/
structure Own16 (ns : List Nd) (g : Got) : Prop where
  ok : okAll g.ns 8 = true
  last : g.i + 1 = g.ns.length
  own : g.ns = ns ++ (pt g.ns g.i).us ns.length
theorem okAll_snoc {L : List Nd} {x : Nd} (h : okAll L 8 = true) (hx : okN x (L.length : Int) 8 = true) : okAll (L ++ [x]) 8 = true := by
  unfold okAll at h ⊢
  rw [okFrom_append, h, Nat.zero_add]
  simp [okFrom, hx]
theorem own_at {ns : List Nd} {x : Nd} {ws : List W8} (h : okAll ns 8 = true) (hx : okN x (ns.length : Int) 8 = true) (h5 : x.op ≤ 5) : Own16 ns ⟨ns.length, ws, ns ++ [x]⟩ := by
  have hok := okAll_snoc h hx
  refine ⟨hok, by simp, ?_⟩
  have hm : (ns ++ [x])[ns.length]? = some x := by simp
  have hp : pt (ns ++ [x]) ns.length = atP x := by
    rw [pt_eq hok hm]
    unfold stP
    rw [if_pos h5]
  show ns ++ [x] = ns ++ (pt (ns ++ [x]) ns.length).us ns.length
  rw [hp, atP_us]
theorem own_un {ns : List Nd} {g : Got} (o : Own16 ns g) {op n : Int} (hk : (op = 6 ∨ op = 9) ∧ n = 0 ∨ ∃ N : Nat, (op = 10 ∨ op = 11) ∧ n = N ∧ N ≤ 64) : Own16 ns ⟨g.ns.length, g.ws, g.ns ++ [⟨op, g.i, 0, n⟩]⟩ := by
  have hl := o.last
  have hok : okAll (g.ns ++ [⟨op, g.i, 0, n⟩]) 8 = true := by
    refine okAll_snoc o.ok ?_
    unfold okN idx
    rcases hk with ⟨h | h, rfl⟩ | ⟨N, h | h, rfl, hN⟩
    all_goals
      subst h
      simp
      omega
  refine ⟨hok, by simp, ?_⟩
  have hm : (g.ns ++ [(⟨op, g.i, 0, n⟩ : Nd)])[g.ns.length]? = some ⟨op, g.i, 0, n⟩ := by simp
  have hpa : pt (g.ns ++ [⟨op, g.i, 0, n⟩]) g.i = pt g.ns g.i := pt_more o.ok _ (by omega)
  have hus : (pt (g.ns ++ [⟨op, g.i, 0, n⟩]) g.ns.length).us ns.length = (pt g.ns g.i).us ns.length ++ [⟨op, ((ns.length + ((pt g.ns g.i).us ns.length).length - 1 : Nat) : Int), 0, n⟩] := by
    rw [pt_eq hok hm]
    unfold stP
    rcases hk with ⟨h, rfl⟩ | ⟨N, h, rfl, hN⟩
    · rw [if_neg (by show ¬ op ≤ 5; omega), if_pos h]
      show (unPt op 0 _ _ (pt _ ((g.i : Int)).toNat)).us _ = _
      rw [Int.toNat_natCast, hpa]
      rfl
    · rw [if_neg (by show ¬ op ≤ 5; omega), if_neg (by show ¬ (op = 6 ∨ op = 9); omega), if_pos h]
      show (unPt op (N : Int) _ _ (pt _ ((g.i : Int)).toNat)).us _ = _
      rw [show ((g.i : Int)).toNat = g.i from Int.toNat_natCast _, hpa]
      rfl
  have hlen : g.ns.length = ns.length + ((pt g.ns g.i).us ns.length).length := by
    have := congrArg List.length o.own
    rw [List.length_append] at this
    exact this
  show g.ns ++ [_] = ns ++ (pt (g.ns ++ [⟨op, g.i, 0, n⟩]) g.ns.length).us ns.length
  rw [hus, ← List.append_assoc, ← o.own, ← hlen, ← hl, Nat.add_sub_cancel]
theorem own_bin {ns : List Nd} {g h : Got} (o : Own16 ns g) (o2 : Own16 g.ns h) {op : Int} (hop : op = 7 ∨ op = 8 ∨ op = 12) : Own16 ns ⟨h.ns.length, h.ws, h.ns ++ [⟨op, g.i, h.i, 0⟩]⟩ := by
  have hl := o.last
  have hl2 := o2.last
  have hle : g.ns.length ≤ h.ns.length := by rw [o2.own]; simp
  have hok : okAll (h.ns ++ [⟨op, g.i, h.i, 0⟩]) 8 = true := by
    refine okAll_snoc o2.ok ?_
    unfold okN idx
    rcases hop with rfl | rfl | rfl
    all_goals
      simp
      omega
  refine ⟨hok, by simp, ?_⟩
  have hm : (h.ns ++ [(⟨op, g.i, h.i, 0⟩ : Nd)])[h.ns.length]? = some ⟨op, g.i, h.i, 0⟩ := by simp
  have hpb : pt (h.ns ++ [⟨op, g.i, h.i, 0⟩]) h.i = pt h.ns h.i := pt_more o2.ok _ (by omega)
  have hpa : pt (h.ns ++ [⟨op, g.i, h.i, 0⟩]) g.i = pt g.ns g.i := by
    rw [pt_more o2.ok _ (by omega)]
    have e := o2.own
    rw [e]
    exact pt_more o.ok _ (by omega)
  have hlen : ns.length + ((pt g.ns g.i).us ns.length).length = g.ns.length := by
    have := congrArg List.length o.own
    rw [List.length_append] at this
    exact this.symm
  have hlen2 : g.ns.length + ((pt h.ns h.i).us g.ns.length).length = h.ns.length := by
    have := congrArg List.length o2.own
    rw [List.length_append] at this
    exact this.symm
  have hus : (pt (h.ns ++ [⟨op, g.i, h.i, 0⟩]) h.ns.length).us ns.length = (pt g.ns g.i).us ns.length ++ (pt h.ns h.i).us g.ns.length ++ [⟨op, g.i, h.i, 0⟩] := by
    rw [pt_eq hok hm]
    unfold stP
    rw [if_neg (by show ¬ op ≤ 5; omega), if_neg (by show ¬ (op = 6 ∨ op = 9); omega), if_neg (by show ¬ (op = 10 ∨ op = 11); omega)]
    show (binPt op (pt _ ((g.i : Int)).toNat) (pt _ ((h.i : Int)).toNat)).us _ = _
    rw [Int.toNat_natCast, Int.toNat_natCast, hpa, hpb]
    unfold binPt
    dsimp only
    rw [hlen, hlen2, ← hl, ← hl2, Nat.add_sub_cancel, Nat.add_sub_cancel]
  show h.ns ++ [_] = ns ++ (pt (h.ns ++ [⟨op, g.i, h.i, 0⟩]) h.ns.length).us ns.length
  rw [hus, ← List.append_assoc, ← List.append_assoc, ← o.own, ← o2.own]
/-- A part of the grammar reads nodes that may be, in their order. -/
def Owns (p : List W8 → List Nd → Rs) : Prop := ∀ ws ns g, okAll ns 8 = true → p ws ns = .ok g → Own16 ns g
theorem owns_loop {w : W8} {op : Int} {p : List W8 → List Nd → Rs} (hop : op = 7 ∨ op = 8 ∨ op = 12) (P : Owns p) : ∀ f (g g2 : Got) (ns : List Nd), Own16 ns g → loopP w op p f g = .ok g2 → Own16 ns g2
  | 0, _, _, _, _, h => by cases h
  | f + 1, g, g2, ns, o, h => by
    unfold loopP at h
    by_cases hs : hd g.ws = w
    · rw [if_pos hs] at h
      obtain ⟨g1, e1, e2⟩ := bnd_eq_ok h
      exact owns_loop hop P f _ g2 ns (own_bin o (P _ _ _ o.ok e1) hop) e2
    · rw [if_neg hs] at h
      cases h
      exact o
theorem owns_bin {w : W8} {op : Int} {p : List W8 → List Nd → Rs} (hop : op = 7 ∨ op = 8 ∨ op = 12) (P : Owns p) : Owns (binP w op p) := by
  intro ws ns g hok h
  unfold binP at h
  obtain ⟨g1, e1, e2⟩ := bnd_eq_ok h
  exact owns_loop hop P _ g1 g ns (P _ _ _ hok e1) e2
theorem owns_sin {u : List W8 → List Nd → Rs} (P : Owns u) : Owns (sinP u) := by
  intro ws ns g hok h
  unfold sinP at h
  obtain ⟨g1, e1, e2⟩ := bnd_eq_ok h
  have o1 := P _ _ _ hok e1
  by_cases hs : hd g1.ws = wSince
  · rw [if_pos hs] at e2
    obtain ⟨g3, e3, e4⟩ := bnd_eq_ok e2
    cases e4
    exact own_bin o1 (P _ _ _ o1.ok e3) (.inr (.inr rfl))
  · rw [if_neg hs] at e2
    cases e2
    exact o1
theorem num_in {w : W8} {v : Int} (h : numOf w = some v) : -2147483647 ≤ v ∧ v ≤ 2147483647 := by
  unfold numOf at h
  split at h
  · rename_i h0
    cases h
    rcases L1.parse_cases w with h1 | h1 | h1
    · exact h1.2
    · omega
    · omega
  · cases h
theorem owns_cmp {op : Int} {c : Nat} (hop : op = 1 ∨ op = 2) (hc : c < 8) {ws : List W8} {ns : List Nd} {g : Got} (hok : okAll ns 8 = true) (h : cmpP op c ws ns = .ok g) : Own16 ns g := by
  unfold cmpP at h
  rcases hn : numOf (hd ws) with _ | v
  · rw [hn] at h; cases h
  · rw [hn] at h
    cases h
    have hb := num_in hn
    refine own_at hok ?_ (by rcases hop with rfl | rfl <;> simp)
    unfold okN idx
    rcases hop with rfl | rfl
    all_goals
      simp
      omega
theorem owns_ch {c : Nat} (hc : c < 8) {ws : List W8} {ns : List Nd} {g : Got} (hok : okAll ns 8 = true) (h : chP c ws ns = .ok g) : Own16 ns g := by
  unfold chP at h
  split at h
  · exact owns_cmp (.inl rfl) hc hok h
  split at h
  · exact owns_cmp (.inr rfl) hc hok h
  split at h
  · cases h
    exact own_at hok (by unfold okN idx; simp; omega) (by simp)
  split at h
  · cases h
    exact own_at hok (by unfold okN idx; simp; omega) (by simp)
  split at h
  · cases h
    exact own_at hok (by unfold okN idx; simp; omega) (by simp)
  · cases h
theorem owns_un {op n : Int} {r : Rs} {ns : List Nd} {g : Got} (hk : (op = 6 ∨ op = 9) ∧ n = 0 ∨ ∃ N : Nat, (op = 10 ∨ op = 11) ∧ n = N ∧ N ≤ 64) (h : unP op n r = .ok g) (P : ∀ g1, r = .ok g1 → Own16 ns g1) : Own16 ns g := by
  unfold unP at h
  obtain ⟨g1, e1, e2⟩ := bnd_eq_ok h
  cases e2
  exact own_un (P g1 e1) hk
theorem tick_le {w : W8} {k : Nat} (h : tickOf w = some k) : k ≤ 64 := by
  unfold tickOf at h
  have := List.mem_of_find?_eq_some h
  simp at this
  omega
theorem chan_lt {w : W8} {k : Nat} (h : chanOf w = some k) : k < 8 := by
  unfold chanOf at h
  have := List.mem_of_find?_eq_some h
  simpa using this
theorem owns_tk {op : Int} (hop : op = 10 ∨ op = 11) {p : List W8 → List Nd → Rs} (P : Owns p) {ws : List W8} {ns : List Nd} {g : Got} (hok : okAll ns 8 = true) (h : tkP op p ws ns = .ok g) : Own16 ns g := by
  unfold tkP at h
  rcases hn : tickOf (hd ws) with _ | k
  · rw [hn] at h; cases h
  · rw [hn] at h
    exact owns_un (.inr ⟨k, hop, rfl, tick_le hn⟩) h (fun g1 e1 => P _ _ _ hok e1)
theorem owns_atom {d : Nat} {p : List W8 → List Nd → Rs} (P : Owns p) {ws : List W8} {ns : List Nd} {g : Got} (hok : okAll ns 8 = true) (h : atomP d p ws ns = .ok g) : Own16 ns g := by
  unfold atomP at h
  split at h
  · unfold brP at h
    split at h
    · obtain ⟨g1, e1, e2⟩ := bnd_eq_ok h
      have o1 := P _ _ _ hok e1
      split at e2
      · cases e2
        exact ⟨o1.ok, o1.last, o1.own⟩
      · cases e2
    · cases h
  split at h
  · cases h
    exact own_at hok (by unfold okN; simp) (by simp)
  · rcases hn : chanOf (hd ws) with _ | c
    · rw [hn] at h; cases h
    · rw [hn] at h
      exact owns_ch (chan_lt hn) hok h
theorem owns_pU : ∀ n d, Owns (pU n d)
  | 0, _ => fun _ _ _ _ h => by cases h
  | n + 1, d => by
    intro ws ns g hok h
    unfold pU at h
    split at h
    · exact owns_un (.inl ⟨.inl rfl, rfl⟩) h (fun g1 e1 => owns_pU n d _ _ _ hok e1)
    split at h
    · exact owns_un (.inl ⟨.inr rfl, rfl⟩) h (fun g1 e1 => owns_pU n d _ _ _ hok e1)
    split at h
    · exact owns_tk (.inl rfl) (owns_pU n d) hok h
    split at h
    · exact owns_tk (.inr rfl) (owns_pU n d) hok h
    · exact owns_atom (owns_bin (.inr (.inl rfl)) (owns_bin (.inl rfl) (owns_sin (owns_pU n (d + 1))))) hok h
theorem owns_whole {ws : List W8} {g : Got} (h : wholeP ws = .ok g) : Own16 [] g := by
  unfold wholeP at h
  obtain ⟨g1, e1, e2⟩ := bnd_eq_ok h
  split at e2
  · cases e2
    exact owns_bin (.inr (.inl rfl)) (owns_bin (.inl rfl) (owns_sin (owns_pU _ 0))) _ _ _ rfl e1
  · cases e2
theorem chk_of {M : List Nd} (h : okAll M 8 = true) (h0 : 0 < M.length) (h32 : M.length ≤ 32) : chk M 8 = 0 := by
  unfold chk
  rw [if_neg (by omega), if_neg (by omega), if_neg (by omega), if_pos h]
theorem chk_parts {L : List Nd} (hc : chk L 8 = 0) : 0 < L.length ∧ L.length ≤ 32 ∧ okAll L 8 = true := by
  unfold chk at hc
  split at hc
  · omega
  split at hc
  · omega
  split at hc
  · omega
  split at hc
  · rename_i h; exact ⟨by omega, by omega, h⟩
  · omega
/-- What a formula's text is read as. -/
def unf (L : List Nd) : List Nd := (pt L (L.length - 1)).us 0
theorem parse_text {L : List Nd} (hc : chk L 8 = 0) (ht : textE L = 0) : parseA (textV L) = if 32 < (unf L).length then ⟨[], (textV L).length, 6⟩ else ⟨unf L, 0, 0⟩ := by
  obtain ⟨h0, h32, hok⟩ := chk_parts hc
  rcases text_pt hc with ⟨_, h1, h2⟩ | ⟨h1, _⟩
  · have hw := wof_tx hok (L.length - 1) (by omega)
    have hp := whole_words hok (i := L.length - 1) (by omega) (by omega)
    unfold parseA
    rw [if_neg (by rw [h1]; omega), wds_lex, h1, hw, hp]
    rfl
  · rw [h1] at ht; cases ht
/-- What is written says what it was. -/
theorem back_text {L : List Nd} (hc : chk L 8 = 0) (ht : textE L = 0) (hn : (unf L).length ≤ 32) : chk (unf L) 8 = 0 ∧ textE (unf L) = 0 ∧ textV (unf L) = textV L ∧ ∀ C T t, val (unf L) C T ((unf L).length - 1) t = val L C T (L.length - 1) t := by
  obtain ⟨h0, h32, hok⟩ := chk_parts hc
  have hp := whole_words hok (i := L.length - 1) (by omega) (by omega)
  have hoM : okAll (unf L) 8 = true := (owns_whole hp).ok
  have hpos : 0 < (unf L).length := us_pos hok (show L.length - 1 < L.length by omega) 0
  have hcM := chk_of hoM hpos hn
  obtain ⟨k1, k2, k3⟩ := us_same hok (L.length - 1) (by omega) (unf L) 0 hoM (fun q x hx => by rw [Nat.zero_add]; exact hx)
  rw [Nat.zero_add] at k1 k2
  rcases text_pt hc with ⟨_, h1, h2⟩ | ⟨h1, _⟩
  · rcases text_pt hcM with ⟨j0, j1, j2⟩ | ⟨j1, j2⟩
    · exact ⟨hcM, j0, by rw [j1, h1]; exact k2, k1⟩
    · exfalso
      have : (pt (unf L) ((unf L).length - 1)).tx = (pt L (L.length - 1)).tx := k2
      rw [this] at j2
      omega
  · rw [h1] at ht; cases ht
/-- What is read of any text, written, is read as the same. -/
theorem back_parse {s : W8} (he : (parseA s).e = 0) : chk (parseA s).ns 8 = 0 ∧ textE (parseA s).ns = 0 ∧ parseA (textV (parseA s).ns) = ⟨(parseA s).ns, 0, 0⟩ := by
  have key : ∃ g, wholeP (wds (lex 0 s)) = .ok g ∧ g.ns.length ≤ 32 ∧ (parseA s).ns = g.ns := by
    unfold parseA at he ⊢
    split at he
    · cases he
    · rename_i hs
      rw [if_neg hs]
      rcases hr : wholeP (wds (lex 0 s)) with k | g
      · rw [hr] at he; cases he
      · rw [hr] at he
        by_cases hg : 32 < g.ns.length
        · simp only [if_pos hg] at he; cases he
        · exact ⟨g, rfl, by omega, by simp only [if_neg hg]⟩
  obtain ⟨g, hr, h32, hns⟩ := key
  have o := owns_whole hr
  rw [hns]
  have hl := o.last
  have hpos : 0 < g.ns.length := by omega
  have hc := chk_of o.ok hpos h32
  have hi : g.ns.length - 1 = g.i := by omega
  have hunf : unf g.ns = g.ns := by
    unfold unf
    rw [hi]
    have := o.own
    rw [List.nil_append] at this
    exact this.symm
  have hlen := tx_len o.ok (g.ns.length - 1) (by omega) 0
  have hle : (unf g.ns).length = g.ns.length := by rw [hunf]
  have hlen2 : (pt g.ns (g.ns.length - 1)).tx.length + 2 ≤ 31 * (unf g.ns).length := hlen
  rcases text_pt hc with ⟨t0, t1, t2⟩ | ⟨t1, t2⟩
  · refine ⟨hc, t0, ?_⟩
    rw [parse_text hc t0, hunf, if_neg (by omega)]
  · exfalso
    omega
theorem parse_no {s : W8} (he : ¬ (parseA s).e = 0) : (parseA s).ns = [] := by
  unfold parseA at he ⊢
  split
  · rfl
  · rename_i hs
    rw [if_neg hs] at he
    rcases hr : wholeP (wds (lex 0 s)) with k | g
    · rfl
    · rw [hr] at he
      by_cases hg : 32 < g.ns.length
      · simp only [if_pos hg]
      · simp only [if_neg hg] at he
        exact absurd trivial he
end Go.Proofs.YtlfcihanhfabmaaGreatDoor
