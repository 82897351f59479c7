/-
  The same of a number of an object, of an object, of lists of them, of what a kind has.
-/
import Derived.Test.YtigiakhdaaoljaaDuals
namespace Go.Proofs.Ytigiakhdaaoljaa
open Go.RowKit
set_option maxRecDepth 8000

def bits (l : Bool) : Goes Int := fun m v zs => if l then num m 4 4294967295 v zs else num m 2 65535 v zs
theorem bits_dual (l : Bool) : Dual (bits l) Any id := by
  cases l
  · exact dual2
  · exact dual4
theorem obs1_dual : Dual obs1 Any id := by
  refine ((dual2.seq (fun _ => (eit_dual 4 2 (by decide) (by decide) (by decide)).seq (fun l => bits_dual l))).emb (F := obs1) (fun o => (o.h, o.l, o.b)) (fun x => ⟨x.1, x.2.1, x.2.2⟩) (fun _ => rfl) ?_).like (fun u v => by simp) (fun v => rfl)
  intro m v zs
  unfold obs1 seqF bits
  dsimp only
  cases num m 2 65535 v.h zs with
  | error c => rfl
  | ok x =>
    obtain ⟨a, z1⟩ := x
    simp only [thn]
    cases eit m v.l 4 2 z1 with
    | error c => rfl
    | ok x =>
      obtain ⟨l, z2⟩ := x
      dsimp only
      cases (if l = true then num m 4 4294967295 v.b z2 else num m 2 65535 v.b z2) with
      | error c => rfl
      | ok x => rfl
theorem obj1_dual (hs : List Int) : Dual (fun m v zs => obj1 m hs v zs) Any id := by
  refine ((dual2.seq (fun h => (grd_dual (h ∈ hs)).seq (fun _ => dual2.seq (fun _ => eit_dual 1 0 (by decide) (by decide) (by decide))))).emb (F := fun m v zs => obj1 m hs v zs) (fun o => (o.h, (), o.u, o.l)) (fun x => ⟨x.1, x.2.2.1, x.2.2.2⟩) (fun _ => rfl) ?_).like (fun u v => by simp) (fun v => rfl)
  intro m v zs
  show obj1 m hs v zs = _
  unfold obj1 seqF
  dsimp only
  cases num m 2 65535 v.h zs with
  | error c => rfl
  | ok x =>
    obtain ⟨a, z1⟩ := x
    simp only [thn, grd]
    by_cases hm : a ∈ hs
    · rw [if_pos hm, if_pos hm]
    · rw [if_neg hm, if_neg hm]
      dsimp only
      cases num m 2 65535 v.u z1 with
      | error c => rfl
      | ok x =>
        obtain ⟨u, z2⟩ := x
        dsimp only
        cases eit m v.l 1 0 z2 with
        | error c => rfl
        | ok x => rfl
abbrev Long' {α : Type} : List α → List α → Prop := fun u v => u.length = v.length
theorem obsL_dual : Dual obsL Long' id where
  back := by
    intro v
    induction v with
    | nil =>
      intro zs x ys h
      cases h
      refine ⟨rfl, [], by simp, fun v' rest hs => ?_⟩
      cases v' with
      | nil => rfl
      | cons a r => simp [Long'] at hs
    | cons o r ih =>
      intro zs x ys h0
      obtain ⟨a, z1, e1, h1⟩ := thn_inv h0
      obtain ⟨b, z2, e2, h2⟩ := thn_inv h1
      clear h0 h1
      obtain ⟨rfl, b1, rfl, r1⟩ := obs1_dual.back e1
      obtain ⟨rfl, b2, rfl, r2⟩ := ih e2
      cases h2
      refine ⟨rfl, b1 ++ b2, by rw [List.append_assoc], fun v' rest hs => ?_⟩
      cases v' with
      | nil => simp [Long'] at hs
      | cons a r' =>
        unfold obsL
        rw [List.append_assoc, thn_ok (r1 a _ trivial), thn_ok (r2 r' _ (by simpa [Long'] using hs))]
        rfl
  once := by
    intro v
    induction v with
    | nil =>
      intro zs x ys hz h
      cases h
      exact ⟨rfl, [], rfl, fun ws => by rw [List.append_nil]; rfl⟩
    | cons o r ih =>
      intro zs x ys hz h0
      obtain ⟨a, z1, e1, h1⟩ := thn_inv h0
      obtain ⟨b, z2, e2, h2⟩ := thn_inv h1
      clear h0 h1
      obtain ⟨_, b1, rfl, r1⟩ := obs1_dual.once hz e1
      obtain ⟨s2, b2, rfl, r2⟩ := ih hz.right e2
      cases h2
      refine ⟨by simpa [Long'] using s2, b1 ++ b2, by rw [List.append_assoc], fun ws => ?_⟩
      unfold obsL
      rw [thn_ok (r1 ws), thn_ok (r2 _), List.append_assoc]
  errw := by
    intro v
    induction v with
    | nil => intro zs c h; cases h
    | cons o r ih =>
      intro zs c h
      rcases thn_err h with h | ⟨a, z1, _, h⟩
      · exact obs1_dual.errw h
      rcases thn_err h with h | ⟨b, z2, _, h⟩
      · exact ih h
      · cases h
  errr := by
    intro v
    induction v with
    | nil => intro zs c h; cases h
    | cons o r ih =>
      intro zs c h
      rcases thn_err h with h | ⟨a, z1, _, h⟩
      · exact obs1_dual.errr h
      rcases thn_err h with h | ⟨b, z2, _, h⟩
      · exact ih h
      · cases h
theorem objL_dual (hs : List Int) : Dual (fun m v zs => objL m hs v zs) Long' id where
  back := by
    intro v
    induction v generalizing hs with
    | nil =>
      intro zs x ys h
      cases h
      refine ⟨rfl, [], by simp, fun v' rest hs => ?_⟩
      cases v' with
      | nil => rfl
      | cons a r => simp [Long'] at hs
    | cons o r ih =>
      intro zs x ys h0
      obtain ⟨a, z1, e1, h1⟩ := thn_inv h0
      obtain ⟨b, z2, e2, h2⟩ := thn_inv h1
      clear h0 h1
      obtain ⟨rfl, b1, rfl, r1⟩ := (obj1_dual hs).back e1
      obtain ⟨rfl, b2, rfl, r2⟩ := ih _ e2
      cases h2
      refine ⟨rfl, b1 ++ b2, by rw [List.append_assoc], fun v' rest hl => ?_⟩
      cases v' with
      | nil => simp [Long'] at hl
      | cons a r' =>
        show objL false hs (a :: r') (b1 ++ b2 ++ rest) = _
        unfold objL
        dsimp only [id] at r1 r2 ⊢
        rw [List.append_assoc, thn_ok (r1 a _ trivial), thn_ok (r2 r' _ (by simpa [Long'] using hl))]
  once := by
    intro v
    induction v generalizing hs with
    | nil =>
      intro zs x ys hz h
      cases h
      exact ⟨rfl, [], rfl, fun ws => by rw [List.append_nil]; rfl⟩
    | cons o r ih =>
      intro zs x ys hz h0
      obtain ⟨a, z1, e1, h1⟩ := thn_inv h0
      obtain ⟨b, z2, e2, h2⟩ := thn_inv h1
      clear h0 h1
      obtain ⟨_, b1, rfl, r1⟩ := (obj1_dual hs).once hz e1
      obtain ⟨s2, b2, rfl, r2⟩ := ih _ hz.right e2
      cases h2
      refine ⟨by simpa [Long'] using s2, b1 ++ b2, by rw [List.append_assoc], fun ws => ?_⟩
      show objL true hs (a :: b) ws = _
      unfold objL
      rw [thn_ok (r1 ws), thn_ok (r2 _), List.append_assoc]
  errw := by
    intro v
    induction v generalizing hs with
    | nil => intro zs c h; cases h
    | cons o r ih =>
      intro zs c h
      rcases thn_err h with h | ⟨a, z1, _, h⟩
      · exact (obj1_dual hs).errw h
      rcases thn_err h with h | ⟨b, z2, _, h⟩
      · exact ih _ h
      · cases h
  errr := by
    intro v
    induction v generalizing hs with
    | nil => intro zs c h; cases h
    | cons o r ih =>
      intro zs c h
      rcases thn_err h with h | ⟨a, z1, _, h⟩
      · exact (obj1_dual hs).errr h
      rcases thn_err h with h | ⟨b, z2, _, h⟩
      · exact ih _ h
      · cases h
theorem fillOf_self {α : Type} (all : List α) (z : α) : fillOf all.length all z = all := by simp [fillOf]
theorem lst_dual {α : Type} {L : Goes (List α)} (d : Dual L Long' id) (z : α) (K : Nat) (_hK : K ≤ 64) (F : Goes (List α)) (hF : ∀ m all zs, F m all zs = thn (num m 2 65535 all.length zs) fun n zs => if n > K then .error (stp m 5) else L m (fillOf n.toNat all z) zs) : Dual F Any id ∧ ∀ {v zs x rest}, Bs zs → F false v zs = .ok (x, rest) → x.length ≤ K := by
  have once : ∀ {v zs x rest}, Bs zs → F false v zs = .ok (x, rest) → x.length ≤ K ∧ ∃ bs, zs = bs ++ rest ∧ ∀ ws, F true x ws = .ok (x, ws ++ bs) := by
    intro v zs x rest hz h0
    rw [hF] at h0
    obtain ⟨n, z1, e1, h1⟩ := thn_inv h0
    clear h0
    obtain ⟨_, b1, rfl, r1⟩ := dual2.once hz e1
    have hn := num_bound e1 hz (by decide)
    split at h1
    · cases h1
    · rename_i hk
      obtain ⟨s2, b2, rfl, r2⟩ := d.once hz.right h1
      have hl : x.length = n.toNat := by rw [s2, fillOf_length]
      have hli : (x.length : Int) = n := by omega
      refine ⟨by omega, b1 ++ b2, by rw [List.append_assoc], fun ws => ?_⟩
      rw [hF, hli, thn_ok (r1 ws), if_neg hk, ← hl, fillOf_self, r2, List.append_assoc]
  refine ⟨⟨?_, fun hz h => ⟨trivial, (once hz h).2⟩, ?_, ?_⟩, fun hz h => (once hz h).1⟩
  · intro v zs x ys h0
    rw [hF] at h0
    obtain ⟨n, z1, e1, h1⟩ := thn_inv h0
    clear h0
    obtain ⟨rfl, b1, rfl, r1⟩ := dual2.back e1
    dsimp only [id] at h1 r1
    split at h1
    · cases h1
    · rename_i hk
      rw [Int.toNat_natCast, fillOf_self] at h1
      obtain ⟨rfl, b2, rfl, r2⟩ := d.back h1
      refine ⟨rfl, b1 ++ b2, by rw [List.append_assoc], fun v' rest _ => ?_⟩
      rw [hF, List.append_assoc, thn_ok (r1 _ _ trivial), if_neg hk, Int.toNat_natCast]
      exact r2 _ _ (by show _ = _; rw [fillOf_length]; rfl)
  · intro v zs c h
    rw [hF] at h
    rcases thn_err h with h | ⟨a, z1, _, h⟩
    · exact dual2.errw h
    · split at h
      · cases h; rfl
      · exact d.errw h
  · intro v zs c h
    rw [hF] at h
    rcases thn_err h with h | ⟨a, z1, _, h⟩
    · exact dual2.errr h
    · split at h
      · cases h; exact .inr (.inr rfl)
      · exact d.errr h
theorem lstB_dual : Dual lstB Any id ∧ ∀ {v zs x rest}, Bs zs → lstB false v zs = .ok (x, rest) → x.length ≤ 64 := lst_dual obsL_dual ⟨0, false, 0⟩ 64 (by decide) lstB (fun _ _ _ => rfl)
theorem lstO_dual : Dual lstO Any id ∧ ∀ {v zs x rest}, Bs zs → lstO false v zs = .ok (x, rest) → x.length ≤ 16 := lst_dual (objL_dual []) ⟨0, 0, false⟩ 16 (by decide) lstO (fun _ _ _ => rfl)
theorem sysF_dual : Dual sysF Any id where
  back := by
    intro v zs x ys h0
    obtain ⟨a, z1, e1, h⟩ := thn_inv h0
    clear h0
    obtain ⟨rfl, b1, rfl, r1⟩ := oct_dual.back e1
    split at h
    · rename_i hl
      cases h
      refine ⟨rfl, b1, rfl, fun v' rest _ => ?_⟩
      unfold sysF
      dsimp only [id] at r1 ⊢
      rw [thn_ok (r1 v' rest trivial), if_pos hl]
    · cases h
  once := by
    intro v zs x rest hz h0
    obtain ⟨a, z1, e1, h⟩ := thn_inv h0
    clear h0
    obtain ⟨_, b1, rfl, r1⟩ := oct_dual.once hz e1
    split at h
    · rename_i hl
      cases h
      refine ⟨trivial, b1, rfl, fun ws => ?_⟩
      unfold sysF
      rw [thn_ok (r1 ws), if_pos hl]
    · cases h
  errw := by
    intro v zs c h
    rcases thn_err h with h | ⟨a, z1, _, h⟩
    · exact oct_dual.errw h
    · split at h
      · cases h
      · cases h; rfl
  errr := by
    intro v zs c h
    rcases thn_err h with h | ⟨a, z1, _, h⟩
    · exact oct_dual.errr h
    · split at h
      · cases h
      · cases h; exact .inr (.inl rfl)
/-- What a kind has of a message. -/
def keep (k : Int) (M : Msg) : Msg :=
  if k = 57856 then ⟨k, M.sys, M.config, 0, 0, [], []⟩ else if k = 58112 then ⟨k, [], M.config, M.result, 0, [], []⟩ else if k = 58368 ∨ k = 58624 ∨ k = 58880 then ⟨k, [], 0, 0, M.reason, [], []⟩ else if k = 3356 then ⟨k, [], M.config, 0, 0, M.objs, []⟩ else if k = 3357 then ⟨k, [], M.config, M.result, 0, [], []⟩ else if k = 3358 then ⟨k, [], 0, 0, 0, [], M.obs⟩ else Msg.zero k
theorem two_seq {α β γ : Type} (A : Goes α) (B : Goes β) (m : Bool) (a : α) (b : β) (zs : List Int) (g : α → β → γ) : (thn (A m a zs) fun a zs => thn (B m b zs) fun b zs => .ok (g a b, zs)) = thn (seqF A (fun _ => B) m (a, b) zs) fun x zs => (.ok (g x.1 x.2, zs) : Except Int (γ × List Int)) := by
  unfold seqF
  dsimp only
  cases A m a zs with
  | error c => rfl
  | ok x =>
    obtain ⟨y, z1⟩ := x
    simp only [thn]
    cases B m b z1 with
    | error c => rfl
    | ok x => rfl
theorem fields_dual (k : Int) : Dual (fun m v zs => fieldsF m k v zs) Any (keep k) := by
  by_cases h1 : k = 57856
  · subst h1
    exact ((sysF_dual.seq (fun _ => dual2)).emb (F := fun m v zs => fieldsF m 57856 v zs) (fun M => (M.sys, M.config)) (fun x => ⟨57856, x.1, x.2, 0, 0, [], []⟩) (fun _ => rfl) (fun m v zs => (show fieldsF m 57856 v zs = _ from by unfold fieldsF; simp only [Int.reduceEq, if_true, if_false, or_self]).trans (two_seq sysF (fun m v zs => num m 2 65535 v zs) m v.sys v.config zs (fun s c => (⟨57856, s, c, 0, 0, [], []⟩ : Msg))))).like (fun u v => by simp) (fun v => rfl)
  by_cases h2 : k = 58112
  · subst h2
    exact ((dual2.seq (fun _ => dual2)).emb (F := fun m v zs => fieldsF m 58112 v zs) (fun M => (M.result, M.config)) (fun x => ⟨58112, [], x.2, x.1, 0, [], []⟩) (fun _ => rfl) (fun m v zs => (show fieldsF m 58112 v zs = _ from by unfold fieldsF; simp only [Int.reduceEq, if_true, if_false, or_self]).trans (two_seq (fun m v zs => num m 2 65535 v zs) (fun m v zs => num m 2 65535 v zs) m v.result v.config zs (fun s c => (⟨58112, [], c, s, 0, [], []⟩ : Msg))))).like (fun u v => by simp) (fun v => rfl)
  by_cases h3 : k = 58368 ∨ k = 58624 ∨ k = 58880
  · have hf : ∀ m v zs, fieldsF m k v zs = thn (num m 2 65535 v.reason zs) fun q zs => .ok (⟨k, [], 0, 0, q, [], []⟩, zs) := fun m v zs => by unfold fieldsF; rw [if_neg h1, if_neg h2, if_pos h3]
    exact (dual2.emb (F := fun m v zs => fieldsF m k v zs) (fun M => M.reason) (fun x => ⟨k, [], 0, 0, x, [], []⟩) (fun _ => rfl) hf).like (fun u v => by simp) (fun v => by unfold keep; rw [if_neg h1, if_neg h2, if_pos h3])
  by_cases h4 : k = 3356
  · subst h4
    exact ((dual2.seq (fun _ => lstO_dual.1)).emb (F := fun m v zs => fieldsF m 3356 v zs) (fun M => (M.config, M.objs)) (fun x => ⟨3356, [], x.1, 0, 0, x.2, []⟩) (fun _ => rfl) (fun m v zs => (show fieldsF m 3356 v zs = _ from by unfold fieldsF; simp only [Int.reduceEq, if_true, if_false, or_self]).trans (two_seq (fun m v zs => num m 2 65535 v zs) lstO m v.config v.objs zs (fun s c => (⟨3356, [], s, 0, 0, c, []⟩ : Msg))))).like (fun u v => by simp) (fun v => rfl)
  by_cases h5 : k = 3357
  · subst h5
    exact ((dual2.seq (fun _ => dual2)).emb (F := fun m v zs => fieldsF m 3357 v zs) (fun M => (M.config, M.result)) (fun x => ⟨3357, [], x.1, x.2, 0, [], []⟩) (fun _ => rfl) (fun m v zs => (show fieldsF m 3357 v zs = _ from by unfold fieldsF; simp only [Int.reduceEq, if_true, if_false, or_self]).trans (two_seq (fun m v zs => num m 2 65535 v zs) (fun m v zs => num m 2 65535 v zs) m v.config v.result zs (fun s c => (⟨3357, [], s, c, 0, [], []⟩ : Msg))))).like (fun u v => by simp) (fun v => rfl)
  by_cases h6 : k = 3358
  · subst h6
    exact (lstB_dual.1.emb (F := fun m v zs => fieldsF m 3358 v zs) (fun M => M.obs) (fun x => ⟨3358, [], 0, 0, 0, [], x⟩) (fun _ => rfl) (fun m v zs => rfl)).like (fun u v => by simp) (fun v => rfl)
  · have hf : ∀ m v zs, fieldsF m k v zs = .ok (Msg.zero k, zs) := fun m v zs => by unfold fieldsF; rw [if_neg h1, if_neg h2, if_neg h3, if_neg h4, if_neg h5, if_neg h6]
    have hk : ∀ v, keep k v = Msg.zero k := fun v => by unfold keep; rw [if_neg h1, if_neg h2, if_neg h3, if_neg h4, if_neg h5, if_neg h6]
    refine ⟨?_, ?_, ?_, ?_⟩
    · intro v zs x ys h
      rw [hf] at h
      cases h
      exact ⟨(hk v).symm, [], by simp, fun v' rest _ => by rw [hf, hk]; rfl⟩
    · intro v zs x rest hz h
      rw [hf] at h
      cases h
      exact ⟨trivial, [], rfl, fun ws => by rw [hf, List.append_nil]⟩
    · intro v zs c h
      rw [hf] at h
      cases h
    · intro v zs c h
      rw [hf] at h
      cases h
end Go.Proofs.Ytigiakhdaaoljaa
