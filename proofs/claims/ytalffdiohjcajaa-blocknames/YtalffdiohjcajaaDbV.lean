/-
  The document's New.
-/
import Derived.Test.YtalffdiohjcajaaDbU
namespace Go.Proofs.Ytalffdiohjcajaa.Iv
open Go.RowKit
set_option maxRecDepth 8000
/-- A slice of 64 bytes: its block, its room. -/
structure SlB where
  b : Nat
  c : Nat
def slE : Enc SlB where
  k := 1
  enc x := [.slice (some ⟨x.b, 0, none⟩) 64 x.c]
  len _ := rfl
  one x u hu := by
    simp only [List.mem_cons, List.not_mem_nil, or_false] at hu
    rcases hu with rfl; rfl
  pos := by decide
theorem Try.infoSl : (Try.prog.info? 38).map (fun i => (i.zero, i.size, i.bytes)) = some (some (.slice none 0 0), 1, 24) := by kernel_rfl
/-- 64 noughts in a block of their own. -/
def ZAt (w : World) (b : Nat) : Prop := w.heap[b]? = some (.cells (u8s sec0).toArray 5 (0, 0))
theorem own_type {w : World} {B sz n k : Nat} {t : TypeId} {v : Value} {xs : List Value} (h : w.ownsRow B t sz v n xs) (hk : v.ownBlock = some k) : ∃ cur, w.heap[k]? = some (.cells cur t (0, 0)) := by
  rcases h.2 with ⟨rfl, _⟩ | ⟨g, cap, cur, rfl, _, h3, _⟩
  · cases hk
  · cases hk
    exact ⟨cur, h3⟩
abbrev nwC (vk vl : Value) (ht n : Nat) : Array Value := #[vk, vl, .slice (some ⟨ht, 0, none⟩) n n, .bool false, .int .i64 (-1)]
/-- A device in the making: its rows so far; vk, vl: what its cells have. -/
structure Nw (w0 w : World) (e ht n : Nat) (uk ul vk vl : Value) (ks ls : List SlB) : Prop where
  aft : After w0 w
  at0 : w.heap[e]? = some (.cells (nwC uk ul ht n) 60 (0, 0))
  rt : BRow w ht n (fun _ => false)
  ok : ORow slE 38 w 0 vk ks
  ol : ORow slE 38 w 0 vl ls
  zk : ∀ x ∈ ks, ZAt w x.b ∧ w0.heap.size ≤ x.b
  zl : ∀ x ∈ ls, ZAt w x.b ∧ w0.heap.size ≤ x.b
  ap : ∀ k, vk.ownBlock = some k → vl.ownBlock ≠ some k
  nk : ∀ k, vk.ownBlock = some k → w0.heap.size ≤ k
  nl : ∀ k, vl.ownBlock = some k → w0.heap.size ≤ k
  ne : w0.heap.size ≤ e
  nt : w0.heap.size ≤ ht
section
variable {w0 w w' : World} {e ht n : Nat} {uk ul vk vl : Value} {ks ls : List SlB}
theorem Nw.after (h : Nw w0 w e ht n uk ul vk vl ks ls) (a : After w w') : Nw w0 w' e ht n uk ul vk vl ks ls :=
  { h with
    aft := h.aft.trans a
    at0 := After.at a h.at0
    rt := h.rt.but a (fun t => t)
    ok := own_after h.ok a
    ol := own_after h.ol a
    zk := fun x hx => ⟨After.at a (h.zk x hx).1, (h.zk x hx).2⟩
    zl := fun x hx => ⟨After.at a (h.zl x hx).1, (h.zl x hx).2⟩ }
theorem ne_type {w : World} {a b : Nat} {cs cs' : Array Value} {t t' : TypeId} (h : w.heap[a]? = some (.cells cs t (0, 0))) (h' : w.heap[b]? = some (.cells cs' t' (0, 0))) (hne : t ≠ t') : a ≠ b := by
  rintro rfl
  rw [h] at h'
  simp at h'
  exact hne h'.2
/-- One more is appended to what is kept. -/
theorem Nw.appK (h : Nw w0 w e ht n uk ul vk vl ks ls) {g cap : Nat} {x : SlB} (hz : ZAt w x.b) (hx : w0.heap.size ≤ x.b) (ho : ORow slE 38 w' 0 (.slice (some ⟨g, 0, none⟩) (ks.length + 1) cap) (ks ++ [x])) (b : But (fun k => vk.ownBlock = some k) w w') (hg : vk.ownBlock = some g ∨ g = w.heap.size) :
    Nw w0 w' e ht n uk ul (.slice (some ⟨g, 0, none⟩) (ks.length + 1) cap) vl (ks ++ [x]) ls := by
  have hty : ∀ {a : Nat} {cs : Array Value} {t : TypeId}, w.heap[a]? = some (.cells cs t (0, 0)) → 38 ≠ t → vk.ownBlock ≠ some a := fun ha hne e => by
    obtain ⟨cur, hc⟩ := own_type h.ok e
    exact ne_type hc ha hne rfl
  have keep : ∀ {a : Nat} {cs : Array Value} {t : TypeId}, w.heap[a]? = some (.cells cs t (0, 0)) → 38 ≠ t → w'.heap[a]? = some (.cells cs t (0, 0)) := fun ha hne => (b.block _ (blk_lt ha) (hty ha hne)).trans ha
  have z2 : ∀ {l : List SlB}, (∀ x ∈ l, ZAt w x.b ∧ w0.heap.size ≤ x.b) → ∀ x ∈ l, ZAt w' x.b ∧ w0.heap.size ≤ x.b := fun hl x hx => ⟨keep (hl x hx).1 (by decide), (hl x hx).2⟩
  obtain ⟨cs, r1, r2, r3⟩ := h.rt
  refine ⟨h.aft.then b (fun k hk e => by have := h.nk k e; omega), keep h.at0 (by decide), ⟨cs, keep r1 (by decide), r2, r3⟩, ho, own_but h.ol b (fun k hk e => h.ap k e hk), fun y hy => ?_, z2 h.zl, fun k hk => ?_, fun k hk => ?_, h.nl, h.ne, h.nt⟩
  · rcases List.mem_append.1 hy with hy | hy
    · exact z2 h.zk y hy
    · rw [List.mem_singleton.1 hy]
      exact ⟨keep hz (by decide), hx⟩
  · cases hk
    rcases hg with hg | hg
    · exact h.ap g hg
    · intro e
      have := (h.ol.lt g e).2
      omega
  · cases hk
    rcases hg with hg | hg
    · exact h.nk g hg
    · have := h.aft.size
      show w0.heap.size ≤ g
      omega
theorem Nw.flip (h : Nw w0 w e ht n uk ul vk vl ks ls) : (∀ k, vl.ownBlock = some k → vk.ownBlock ≠ some k) := fun k h1 h2 => h.ap k h2 h1
/-- One more is appended to what was written last. -/
theorem Nw.appL (h : Nw w0 w e ht n uk ul vk vl ks ls) {g cap : Nat} {x : SlB} (hz : ZAt w x.b) (hx : w0.heap.size ≤ x.b) (ho : ORow slE 38 w' 0 (.slice (some ⟨g, 0, none⟩) (ls.length + 1) cap) (ls ++ [x])) (b : But (fun k => vl.ownBlock = some k) w w') (hg : vl.ownBlock = some g ∨ g = w.heap.size) :
    Nw w0 w' e ht n uk ul vk (.slice (some ⟨g, 0, none⟩) (ls.length + 1) cap) ks (ls ++ [x]) := by
  have hty : ∀ {a : Nat} {cs : Array Value} {t : TypeId}, w.heap[a]? = some (.cells cs t (0, 0)) → 38 ≠ t → vl.ownBlock ≠ some a := fun ha hne e => by
    obtain ⟨cur, hc⟩ := own_type h.ol e
    exact ne_type hc ha hne rfl
  have keep : ∀ {a : Nat} {cs : Array Value} {t : TypeId}, w.heap[a]? = some (.cells cs t (0, 0)) → 38 ≠ t → w'.heap[a]? = some (.cells cs t (0, 0)) := fun ha hne => (b.block _ (blk_lt ha) (hty ha hne)).trans ha
  have z2 : ∀ {l : List SlB}, (∀ x ∈ l, ZAt w x.b ∧ w0.heap.size ≤ x.b) → ∀ x ∈ l, ZAt w' x.b ∧ w0.heap.size ≤ x.b := fun hl x hx => ⟨keep (hl x hx).1 (by decide), (hl x hx).2⟩
  obtain ⟨cs, r1, r2, r3⟩ := h.rt
  refine ⟨h.aft.then b (fun k hk e => by have := h.nl k e; omega), keep h.at0 (by decide), ⟨cs, keep r1 (by decide), r2, r3⟩, own_but h.ok b (fun k hk e => h.ap k hk e), ho, z2 h.zk, fun y hy => ?_, fun k hk e => ?_, h.nk, fun k hk => ?_, h.ne, h.nt⟩
  · rcases List.mem_append.1 hy with hy | hy
    · exact z2 h.zl y hy
    · rw [List.mem_singleton.1 hy]
      exact ⟨keep hz (by decide), hx⟩
  · cases e
    rcases hg with hg | hg
    · exact h.ap g hk hg
    · have := (h.ok.lt g hk).2
      omega
  · cases hk
    rcases hg with hg | hg
    · exact h.nl g hg
    · have := h.aft.size
      show w0.heap.size ≤ g
      omega
/-- A cell of the device is stored into. -/
theorem Nw.set (h : Nw w0 w e ht n uk ul vk vl ks ls) (i : Nat) (v : Value) {uk' ul' : Value} (hc : (nwC uk ul ht n).setIfInBounds i v = nwC uk' ul' ht n) : Nw w0 (w.setCell ⟨e, i, none⟩ v) e ht n uk' ul' vk vl ks ls := by
  have b := but_one w e i v
  have keep : ∀ {a : Nat} {cs : Array Value} {t : TypeId}, w.heap[a]? = some (.cells cs t (0, 0)) → t ≠ 60 → (w.setCell ⟨e, i, none⟩ v).heap[a]? = some (.cells cs t (0, 0)) := fun ha hne => (b.block _ (blk_lt ha) (fun e' => ne_type ha h.at0 hne (show _ = e from e'))).trans ha
  have z2 : ∀ {l : List SlB}, (∀ x ∈ l, ZAt w x.b ∧ w0.heap.size ≤ x.b) → ∀ x ∈ l, ZAt (w.setCell ⟨e, i, none⟩ v) x.b ∧ w0.heap.size ≤ x.b := fun hl x hx => ⟨keep (hl x hx).1 (by decide), (hl x hx).2⟩
  obtain ⟨cs, r1, r2, r3⟩ := h.rt
  refine ⟨h.aft.set ⟨e, i, none⟩ h.ne v, by rw [blk_put h.at0, hc], ⟨cs, keep r1 (by decide), r2, r3⟩, own_but h.ok b (fun k hk e' => ?_), own_but h.ol b (fun k hk e' => ?_), z2 h.zk, z2 h.zl, h.ap, h.nk, h.nl, h.ne, h.nt⟩
  · obtain ⟨cur, hc⟩ := own_type h.ok hk
    exact ne_type hc h.at0 (by decide) (show k = e from e')
  · obtain ⟨cur, hc⟩ := own_type h.ol hk
    exact ne_type hc h.at0 (by decide) (show k = e from e')
end
end Go.Proofs.Ytalffdiohjcajaa.Iv
