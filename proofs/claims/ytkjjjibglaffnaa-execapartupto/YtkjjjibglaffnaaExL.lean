/-
  Tick: a minor frame's turns.
-/
import Derived.Test.YtkjjjibglaffnaaExK
namespace Go.Proofs.Ytkjjjibglaffnaa
open Go.RowKit
set_option maxRecDepth 8000
theorem tick_out {w : World} {eb p : Nat} {q : Value} (he : w.heap[eb]? = some (.cells #[Ptr p] 28 (0, 0))) (c4 : w.cell? ⟨p, 4, none⟩ = some q) (s4 : w.frozen? ⟨p, 4, none⟩ = false) :
    CallsD Try.prog 23 #[Ptr eb] .returning w fun e u' w' => e = .returned (.tuple #[]) ∧ u' = .returning ∧ w' = w.setCell ⟨p, 4, none⟩ (.bool false) := by
  have c0 := blk_cell he (i := 0) rfl
  refine callsD_of_wpS Try.func23 rfl fun c₀ cs hu => ?_
  refine wpS_of_wp ?_
  clear he
  go_wp2
  cases c₀
  simp_all [bodyPostS, results, Try.results23]
theorem pw_assign {o : Oper} {a : Act} {w : World} {K : Act → World → Prop} {Q : Exit → Act → World → Prop} {x : Operand} {v : Value} (ho : o.op = .assign x) (hx : a.eval x = v) (h : K (a.put o.dst v) w) : Oper.wp Try.prog o a w K Q := by
  unfold Oper.wp execOp
  simp only [ho]
  rw [hx]
  exact h
theorem loadEx {w : World} {b p : Nat} (h0 : w.cell? ⟨b, 0, none⟩ = some (Ptr p)) : (Instr.loadAt 28 (.pointer (some ⟨b, 0, none⟩))).run Try.prog w = .ok (Ptr p) w := by
  simp [go_sem, h0]
/-- Labels of what a Tick stores into. -/
def AK : Nat → Prop := fun l => l = 1 ∨ AS l
/-- What a Tick answers, and leaves behind. -/
def TickBe (Inv : Nat → (Nat → Nat) → List An → World → Prop) (w : World) (p : Nat) (o : Nat → Nat) (x : Xp) (lv : Value) (fa : Option Addr) (fc : Nat) (sa : Option Addr) (sc : Nat) (fws : List Fw) (n : Nat) (e : Ending) (w' : World) : Prop :=
  ∃ v l o' w1, e = .returned (.tuple #[v, .int .i64 0]) ∧ ORow anE 48 w' 0 v l ∧ l.length = n ∧ Inv n o' l w1 ∧ But (One p) w1 w' ∧ ExX w' p o' x.next lv false fa fc sa sc fws ∧ Go AK w w' o o' ∧ (∀ k, v.ownBlock = some k → o' k = 8)
theorem Lab.fast {o : Nat → Nat} {a : Option Addr} {n : Nat} (h : Lab o a n) : Fast o a n := fun x hx hn => by
  rw [h x hx hn]
  unfold AS
  omega
/-- Behind giveTurns, as the Tick is not yet over. -/
def FinT (Inv : Nat → (Nat → Nat) → List An → World → Prop) (W : World) (p eb : Nat) (o : Nat → Nat) (x : Xp) (lv : Value) (fa : Option Addr) (fc : Nat) (sa : Option Addr) (sc : Nat) (fws : List Fw) (n : Nat) (v : Value) (w' : World) : Prop :=
  ∃ w5, But (One p) W w5 ∧ w5.heap[eb]? = some (.cells #[Ptr p] 28 (0, 0)) ∧ ExX w5 p o x.next lv true fa fc sa sc fws ∧ TurnsBe Inv w5 o n (.returned v) w'
theorem tkw_start {p eb : Nat} {w0 : World} {o : Nat → Nat} {x : Xp} {lv : Value} {fa : Option Addr} {fc : Nat} {sa : Option Addr} {sc : Nat} {fws : List Fw} {iv : List Iv} {Fin : Value → World → Prop} {u : Nat → Value} (h1 : w0.heap[eb]? = some (.cells #[Ptr p] 28 (0, 0))) (h2 : ExX w0 p o x lv true fa fc sa sc fws) : TkW p eb w0 o x lv fa fc sa sc fws iv Fin (fun _ => false) u w0 :=
  ⟨fun h => (by cases h), fun h => (by cases h), fun h => (by cases h), fun h => (by cases h), fun h => (by cases h), fun _ => h1, fun _ => h2, fun _ => But.rfl, fun _ h => (by cases h), fun h => (by cases h), fun h => (by cases h)⟩
theorem own_some {α : Type} {E : Enc α} {t : TypeId} {w : World} {B : Nat} {v : Value} {xs : List α} (h : ORow E t w B v xs) (hn : 1 ≤ xs.length) : ∃ g c, v = .slice (some ⟨g, 0, none⟩) xs.length c ∧ B ≤ g ∧ GRow E w (some ⟨g, 0, none⟩) xs.length xs := by
  obtain ⟨a, c, e, hr, _, hb⟩ := h.row
  rcases h.2 with ⟨_, h0⟩ | ⟨g, cap, cur, hv, hB, _⟩
  · omega
  · rw [hv] at e
    cases e
    exact ⟨g, c, hv, hB, hr⟩
theorem free_of {w : World} {o : Nat → Nat} (hb : ∀ k, o k ≠ 0 → k < w.heap.size) {g : Nat} (h : w.heap.size ≤ g) : o g = 0 := by
  rcases Nat.eq_zero_or_pos (o g) with e | e
  · exact e
  · have := hb g (by omega); omega
theorem turns_ret {Inv : Nat → (Nat → Nat) → List An → World → Prop} {w : World} {o : Nat → Nat} {n : Nat} {e : Ending} {w' : World} (h : TurnsBe Inv w o n e w') : ∃ v, e = .returned v := by
  obtain ⟨v, _, _, e1, _⟩ := h
  exact ⟨v, e1⟩
theorem turns_in {Inv : Nat → (Nat → Nat) → List An → World → Prop} {w : World} {p : Nat} {o : Nat → Nat} {x : Xp} {lv : Value} {fa : Option Addr} {fc : Nat} {sa : Option Addr} {sc : Nat} {fws : List Fw} {f : Fw} {g c : Nat} {iv : List Iv} (h : ExX w p o x lv true fa fc sa sc fws) (hf : f ∈ fws) (hlv : ∃ a n c, lv = .slice a n c) (hr : GRow ivE w (some ⟨g, 0, none⟩) iv.length iv) (hg : o g = 0) (bs : Beside Inv x.st f.l lv iv) (h0 : Inv 0 o [] w) (hi : iv.length = x.st.length) :
    Calls Try.prog 24 #[Ptr p, .slice f.a f.l.length f.c, .slice (some ⟨g, 0, none⟩) iv.length c] w (TurnsBe Inv w o f.l.length) := by
  have hfr : f.l ∈ x.fr := by rw [← h.fr]; exact List.mem_map.2 ⟨f, hf, rfl⟩
  refine giveTurns_any (lv := lv) ⟨h.at0, by rw [h.op]; unfold AS; omega, h.rs, h.fs.fast, (h.fw f hf).1, (h.fw f hf).2.fast, hr, fun y hy _ => ?_⟩ bs h0 (h.ok.fs _ hfr).2 hi (h.ok.fs _ hfr).1 h.ok.s2 hlv
  cases hy
  show ¬ AS (o g)
  rw [hg]
  unfold AS; omega
set_option maxHeartbeats 2000000 in
theorem tick_any {Inv : Nat → (Nat → Nat) → List An → World → Prop} {w : World} {p : Nat} {o : Nat → Nat} {x : Xp} {lv : Value} {fa : Option Addr} {fc : Nat} {sa : Option Addr} {sc : Nat} {fws : List Fw} {ta : Option Addr} {tc : Nat} {iv : List Iv} {f : Fw}
    (h : ExX w p o x lv false fa fc sa sc fws) (hf : fws[x.at_]? = some f) (hlv : ∃ a n c, lv = .slice a n c) (ht : GRow ivE w ta iv.length iv) (htp : ∀ y, ta = some y → 0 < iv.length → y.block ≠ p) (hta : ta = none → iv.length = 0 ∧ tc = 0) (hi : iv.length = x.st.length) (bs : Beside Inv x.st f.l lv iv) (hInv : ∀ w', But (One p) w w' → ExX w' p o x.next lv true fa fc sa sc fws → Inv 0 o [] w') (hb : ∀ k, o k ≠ 0 → k < w.heap.size) :
    Calls Try.prog 14 #[Ptr p, .slice ta iv.length tc] w (TickBe Inv w p o x lv fa fc sa sc fws f.l.length) := by
  have hmf : ∀ (fn : Fn) (first cap : Array Value) (w : World), (Instr.makeFunc fn first cap).run Try.prog w = .ok (.func fn first cap) w := fun _ _ _ _ => rfl
  have hln := h.len
  have c0 := blk_cell h.at0 (i := 0) rfl
  have c1 := blk_cell h.at0 (i := 1) rfl
  have c4 := blk_cell h.at0 (i := 4) rfl
  have s4 := blk_soft h.at0 4
  have lp := blk_lt h.at0
  have hz : ((fws.length : Int) == 0) = false := by have := h.ok.f1; have e : ¬ (fws.length : Int) = 0 := (by omega); simpa using e
  have hne : ((iv.length : Int) != (x.st.length : Int)) = false := by simp; omega
  obtain ⟨W, hW⟩ : ∃ W, W = (w.setCell ⟨p, 4, none⟩ (.bool true)).alloc (.cells #[Ptr p] 28) := ⟨_, rfl⟩
  have hsz : (w.setCell ⟨p, 4, none⟩ (.bool true)).heap.size = w.heap.size := by simp [World.setCell]
  have a1 := (After.rfl (w := w.setCell ⟨p, 4, none⟩ (.bool true))).alloc (.cells #[Ptr p] 28)
  have bW : But (One p) w W := by rw [hW]; exact (but_one _ p 4 _).trans a1.but
  have xW : ExX W p o x lv true fa fc sa sc fws := by rw [hW]; exact (h.put 4 (.bool true) rfl rfl rfl h.ok).but a1 (fun _ _ t => t.elim) (fun _ _ => rfl)
  have hne2 : w.heap.size ≠ p := by omega
  have eW : W.heap[w.heap.size]? = some (.cells #[Ptr p] 28 (0, 0)) := by
    rw [hW, ← hsz]
    exact heap_alloc_new _ _
  have tW : GRow ivE W ta iv.length iv := ht.but bW (fun y hy hn e => htp y hy hn e)
  have HH := hideIt (And.intro xW (And.intro bW (And.intro eW (And.intro tW (And.intro hf (And.intro hlv (And.intro bs (And.intro hInv (And.intro hb (And.intro hta (And.intro hi (And.intro lp hln))))))))))))
  have HW := hideIt hW
  have HE := hideIt hne2
  have HTP := hideIt (show ∀ y, ta = some y → 0 < iv.length → ¬ One p y.block from fun y hy hn e => htp y hy hn e)
  clear h hf hlv ht htp hta hi bs hInv hb hW a1 bW xW eW tW hln hne2 hsz
  go_enter_defers Try.func14, Try.ntmps14
  go_wp2_with fail
  rw [← HW.out]
  obtain ⟨xW, bW, eW, tW, hf, hlv, bs, hInv, hb, hta, hi, lpw, hln⟩ := HH.out
  have hfm : f ∈ fws := List.mem_of_getElem? hf
  have hd0 : After W W.drew := But.drew But.rfl
  refine region_inv (by kernel_rfl) (Tab.J (⟨8, fun i => [32, 33, 34, 35, 36, 37, 4, 5].getD i 0, fun i => ([some (Ptr p), some (Ptr p), some (.slice f.a f.l.length f.c), some (.slice ta iv.length tc), none, none, none, some (.int .i64 0)] : List (Option Value)).getD i none, TkW p w.heap.size W.drew o x lv fa fc sa sc fws iv (FinT Inv W p w.heap.size o x lv fa fc sa sc fws f.l.length)⟩ : Tab) _) ⟨rfl, rfl, fun _ _ => rfl, (fun _ _ _ _ h => by cases h), tkw_start ((hd0.block _ (blk_lt eW) (fun t => t)).trans eW) (xW.but hd0 (fun _ _ t => t.elim) (fun _ _ => rfl))⟩ ?_ ?_
  · exact ⟨inv_loadD rfl rfl rfl rfl rfl rfl rfl rfl rfl (TkW.keep (neB rfl) (neB rfl) (neB rfl) (neB rfl) (neB rfl) (neB rfl) (neB rfl)) rfl (fun L u w h y => loadEx (blk_cell (y.bx (fls y.i0 h)) (i := 0) rfl)),
      inv_loadD rfl rfl rfl rfl rfl rfl rfl rfl rfl (TkW.keep (neB rfl) (neB rfl) (neB rfl) (neB rfl) (neB rfl) (neB rfl) (neB rfl)) rfl (fun L u w h y => loadEx (blk_cell (y.bx (fls y.i1 (fls y.i4 h))) (i := 0) rfl)),
      inv_call rfl rfl rfl rfl rfl rfl rfl rfl (enterC Try.func25 (by kernel_rfl) (by kernel_rfl)) (fun a w9 L hv hd hl y => by
        rw [show (#[Operand.tmp 33] : Array Operand).map a.eval = #[a.eval (.tmp 33)] from by simp, hv (.tmp 33) _ rfl]
        have y5 := fls y.i1 hl
        have x9 := y.ex y5
        rw [hl] at x9
        exact (takeFrame_any x9 hf).mono (fun e w3 ⟨e1, h1, h2⟩ => ⟨_, e1, (fun v7 h7 => by cases h7; rfl), y.frame (neB rfl) (hd 1 rfl) hl h1 h2 HE.out (Nat.lt_of_lt_of_le lpw bW.size)⟩)),
      inv_move (.inl rfl) rfl rfl rfl rfl rfl rfl rfl rfl (TkW.keep (neB rfl) (neB rfl) (neB rfl) (neB rfl) (neB rfl) (neB rfl) (neB rfl)) rfl,
      inv_call rfl rfl rfl rfl rfl rfl rfl rfl (enterC Try.func26 (by kernel_rfl) (by kernel_rfl)) (fun a w9 L hv hd hl y => by
        rw [show (#[Operand.tmp 35] : Array Operand).map a.eval = #[a.eval (.tmp 35)] from by simp, hv (.tmp 35) _ rfl]
        have y5 := fls y.i2 hl
        refine (clone_iv ta iv.length tc iv w9 (tW.but (hd0.but.trans (y.go y5)) HTP.out) hta (by have := xW.ok.s2; omega)).mono ?_
        rintro e w3 ⟨v, rfl, hown, af⟩
        obtain ⟨g, c, rfl, hg, hr⟩ := own_some hown (by have := xW.ok.s1; omega)
        exact ⟨_, rfl, (fun v7 h7 => by cases h7), y.copy hl rfl (Nat.le_trans (y.go y5).size hg) hr af⟩),
      inv_call rfl rfl rfl rfl rfl rfl rfl rfl (enterC Try.func24 (by kernel_rfl) (by kernel_rfl)) (fun a w9 L hv hd hl y => by
        obtain ⟨g, c, e4, hg, hr⟩ := y.cl hl (hd 4 rfl)
        rw [show (#[Operand.tmp 32, Operand.tmp 34, Operand.tmp 36] : Array Operand).map a.eval = #[a.eval (.tmp 32), a.eval (.tmp 34), a.eval (.tmp 36)] from by simp, hv (.tmp 32) _ rfl, hv (.tmp 34) _ rfl, show a.eval (.tmp 36) = _ from e4]
        have x9 := y.ex hl
        rw [hd 2 rfl] at x9
        have b9 : But (One p) W w9 := hd0.but.trans (y.go hl)
        refine (turns_in x9 hfm hlv hr (free_of hb (Nat.le_trans bW.size (Nat.le_trans hd0.size hg))) bs (hInv w9 (bW.trans b9) x9) hi).mono ?_
        rintro e w3 ht
        obtain ⟨v, e1⟩ := turns_ret ht
        subst e1
        exact ⟨v, rfl, (fun v7 h7 => by cases h7), y.turns (hd 0 rfl) (hd 2 rfl) (hd 4 rfl) hl ⟨w9, b9, y.bx hl, x9, ht⟩⟩),
      inv_any rfl rfl rfl rfl rfl rfl rfl rfl (fun a w9 L K hv hd hl y hK => pw_assign rfl (show a.eval (.tmp 37) = _ from rfl) (hK _ _ (y.last (neB rfl) (neB rfl) (hd 5 rfl) rfl))),
      inv_move (.inr rfl) rfl rfl rfl rfl rfl rfl rfl rfl (TkW.keep (neB rfl) (neB rfl) (neB rfl) (neB rfl) (neB rfl) (neB rfl) (neB rfl)) rfl,
      trivial⟩
  · intro a7 w7 L7 hL7 J7
    have e7 := J7.fin hL7 rfl
    have W7 := J7.other
    have h7 := W7.fin (hL7 5 (Nat.le_of_ble_eq_true rfl))
    have h6 := W7.p6 (hL7 6 (Nat.le_of_ble_eq_true rfl))
    clear J7 W7
    rw [e7]
    clear e7
    generalize hv7 : Tab.u _ a7 = U7 at *
    simp only [Tab.puts, List.getD_cons_succ, List.getD_cons_zero, Option.getD_some, Option.getD_none, List.setIfInBounds_toArray, List.set_cons_succ, List.set_cons_zero]
    clear hv7 hL7
    rw [h6]
    clear h6
    generalize U7 4 = u4
    generalize U7 5 = u5 at *
    clear U7 a7
    obtain ⟨w5, b5, e5, x5, v, l, o', ev, own, hl, inv, go, lab⟩ := h7
    cases ev
    have oeb := free_of hb (Nat.le_refl w.heap.size)
    have e7 := (go.but.block _ (blk_lt e5) (fun h => by rw [oeb] at h; unfold AS at h; omega)).trans e5
    have x7 := x5.but go.but (fun k _ h => by unfold AS at h; omega) go.ext
    have k4 := blk_cell x7.at0 (i := 4) rfl
    have f4 := blk_soft x7.at0 4
    have op := x7.op
    have b8 := but_one w7 p 4 (.bool false)
    have HF := hideIt (And.intro b5 (And.intro own (And.intro hl (And.intro inv (And.intro go (And.intro lab (And.intro x7 (And.intro op (And.intro b8 e7)))))))))
    clear b5 own hl inv go lab x7 op b8 e5 x5 xW bW eW tW hf hlv bs hInv hb hta hi hln hfm hd0
    go_wp2_with fail
    obtain ⟨b5, own, hl, inv, go, lab, x7, op, b8, e7⟩ := HF.out
    refine leaves_cons (f := 23) (args := #[Ptr w.heap.size]) (by simp) (by simp [go_sem]) ?_
    refine (tick_out e7 k4 f4).mono ?_
    rintro e u' w'' ⟨rfl, rfl, rfl⟩
    simp only [Leaves, settle]
    have bW := HH.out.2.1
    have s1 : w.heap.size ≤ w5.heap.size := Nat.le_trans bW.size b5.size
    have xW := HH.out.1
    refine ⟨.tuple #[u5, .int .i64 0], by simp [results, Try.results14, go_sem], u5, l, o', w7, rfl, own_but own b8 (fun k hk e => ?_), hl, inv, b8, x7.put 4 (.bool false) rfl rfl rfl x7.ok, ⟨?_, fun k hk => go.ext k (Nat.lt_of_lt_of_le hk s1)⟩, lab⟩
    · have e : k = p := e
      have := lab k hk
      rw [e, op] at this
      cases this
    · refine ((bW.mono (fun k _ e => ?_)).then (b5.mono (T := fun k => AK (o k)) (fun k _ e => ?_)) (fun _ _ h => h)).then ((go.but.mono (T := fun k => AK (o k)) (fun k _ h => .inr h)).then b8 (fun k hk e => ?_)) (fun _ _ h => h)
      · rw [show k = p from e]; exact .inl xW.op
      · rw [show k = p from e]; exact .inl xW.op
      · rw [show k = p from e]; exact .inl xW.op
end Go.Proofs.Ytkjjjibglaffnaa
