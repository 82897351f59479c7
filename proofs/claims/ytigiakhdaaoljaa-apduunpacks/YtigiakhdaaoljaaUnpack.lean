/-
  Unpack.
-/
import Derived.Test.YtigiakhdaaoljaaUnp2
import Derived.Test.YtigiakhdaaoljaaDualsC
namespace Go.Proofs.Ytigiakhdaaoljaa
open Go.RowKit
set_option maxRecDepth 8000
/-- The message of bytes. -/
def unpackF (zs : List Int) : Except Int (Msg × List Int) := msgF false (Msg.zero 0) zs
/-- A message that was answered, in memory of its own. -/
def Got (w w' : World) (v : Value) (X : Msg) : Prop :=
  ∃ sa sc oa oc ba bc, v = X.val sa sc oa oc ba bc ∧ MsgX w' (fun k => w.heap.size ≤ k) X sa sc oa oc ba bc ∧ w'.ownsRow w.heap.size 5 1 (.slice sa X.sys.length sc) X.sys.length (u8s X.sys)
set_option maxHeartbeats 1000000 in
theorem unpack_any (w : World) (a : Option Addr) (n c : Nat) (bs : List Int) (hr : Row w a n bs) (ha : a = none → n = 0 ∧ c = 0) (hn : n ≤ 140737488355328) :
    Calls Try.prog 16 #[.slice a n c] w fun e w' => After w w' ∧ Ends (unpackF bs) (fun X _ => ∃ v, e = .returned (.tuple #[v, .int .i64 0]) ∧ Got w w' v X) (fun c => c ≠ 0 ∧ e = .returned (.tuple #[(Msg.zero 0).val none 0 none 0 none 0, .int .i64 c])) := by
  have hmf : ∀ (fn : Fn) (first cap : Array Value) (w : World), (Instr.makeFunc fn first cap).run Try.prog w = .ok (.func fn first cap) w := fun _ _ _ _ => rfl
  obtain ⟨w0, hw0⟩ : ∃ w0, (w.alloc (.cells #[.int .i64 0, .slice none 0 0, .int .i64 0, .int .i64 0, .int .i64 0, .slice none 0 0, .slice none 0 0] 26)).alloc (.cells #[.int .i64 0, .slice none 0 0, .int .i64 0, .int .i64 0, .int .i64 0, .slice none 0 0, .slice none 0 0] 26) = w0 := ⟨_, rfl⟩
  have hA : After w w0 := by rw [← hw0]; exact (After.rfl.alloc _).alloc _
  obtain ⟨b0, b1⟩ := new2 w (.cells #[.int .i64 0, .slice none 0 0, .int .i64 0, .int .i64 0, .int .i64 0, .slice none 0 0, .slice none 0 0] 26) (.cells #[.int .i64 0, .slice none 0 0, .int .i64 0, .int .i64 0, .int .i64 0, .slice none 0 0, .slice none 0 0] 26)
  rw [hw0] at b0 b1
  have hsz : w0.heap.size = w.heap.size + 2 := by rw [← hw0, World.size_alloc, World.size_alloc]
  have H1 := hideIt (reader_any w0 a n c bs (hr.after hA) ha hn)
  have HX := hideIt (And.intro hA (And.intro b0 (And.intro b1 hsz)))
  have HW0 := hideIt hw0
  clear hA b0 b1 hsz hr ha hn hw0
  go_enter Try.func16, Try.ntmps16
  go_wp2_with fail
  rw [HW0.out]
  refine H1.out.mono ?_
  clear H1
  rintro e w1 ⟨p, S, rfl, cd, a1, hS⟩
  obtain ⟨hA, b0, b1, hsz⟩ := HX.out
  have b01 := (But.block a1 _ (by omega) (fun t => t)).trans b0
  have b11 := (But.block a1 _ (by omega) (fun t => t)).trans b1
  have hsl := a1.size
  have ax : After w1 (w1.alloc (.cells #[.pointer p, .pointer none] 52)) := After.rfl.alloc _
  have ka : Keeps (w1.alloc (.cells #[.pointer p, .pointer none] 52)) S (w.heap.size + 1) (.cells ((Msg.zero 0).cells none 0 none 0 none 0) 26 (0, 0)) := ⟨new_past _ _ b11, fun h => by have := hS _ h; omega⟩
  have kc : Keeps (w1.alloc (.cells #[.pointer p, .pointer none] 52)) S w1.heap.size (.cells #[.pointer p, .pointer none] 52 (0, 0)) := ⟨new1 _ _, fun h => by have := cd.lt _ h; omega⟩
  have H2 := hideIt (caught35 _ (w.heap.size + 1) w1.heap.size p bs S ka kc (cd.after ax))
  have HY := hideIt (And.intro (hA.trans (a1.trans ax)) (And.intro (new_past _ (.cells #[.pointer p, .pointer none] 52) b01) (And.intro (new_past _ (.cells #[.pointer p, .pointer none] 52) b11) (And.intro hsz (And.intro hsl (And.intro hS (World.size_alloc w1 (.cells #[.pointer p, .pointer none] 52))))))))
  clear hA b0 b1 hsz b01 b11 hsl ax ka kc HX HW0 cd a1 hS
  go_wp2_with fail
  refine H2.out.mono ?_
  clear H2
  intro e w2 h2
  obtain ⟨hA, b0, b1, hsz, hsl, hS, hsa⟩ := HY.out
  have hUF : unpackF bs = msgF false (Msg.zero 0) bs := rfl
  rcases h2.split with ⟨c9, e1, rfl, t⟩ | ⟨X, us, e1, rfl, ⟨xa, xc, ya, yc, za, zc, hv, hx, ho⟩, t⟩
  · have b02 := (t.block _ (by omega) (fun h => by have := hS _ h; omega)).trans b0
    obtain ⟨_, ⟨y0, y1, y2, y3, y4, y5, y6⟩, ⟨z0, z1, z2, z3, z4, z5, z6⟩⟩ := seven_at b02
    have hc : c9 ≠ 0 := by rcases msg_errr e1 with h | h | h <;> omega
    have hcb : (c9 != 0) = true := by simpa using hc
    have HZ := hideIt (And.intro (hUF.trans e1) (And.intro hc (show After w w2 from hA.but.then t (fun i hi h => by have := hS _ h; omega))))
    clear hA b0 b1 hsz hsl hS hsa h2 e1 t hc hUF b02 HY
    go_wp2_with fail
    obtain ⟨e1, hc, ha⟩ := HZ.out
    refine bodyPost_ret (v := .tuple #[(Msg.zero 0).val none 0 none 0 none 0, .int .i64 c9]) (by simp [results, Try.results16, go_sem, y0, y1, y2, y3, y4, y5, y6, Msg.zero, Msg.val]) rfl ⟨?_, Ends.bad e1 ⟨hc, rfl⟩⟩
    iterate 7 refine After.set ?_ _ (Nat.le_refl _) _
    exact ha
  · have b02 := (t.block _ (by omega) (fun h => h.elim (fun h => by have := hS _ h; omega) (fun h => by omega))).trans b0
    obtain ⟨_, ⟨y0, y1, y2, y3, y4, y5, y6⟩, ⟨z0, z1, z2, z3, z4, z5, z6⟩⟩ := seven_at b02
    have hv' := hv
    unfold Msg.cells at hv'
    obtain ⟨_, ⟨v0, v1, v2, v3, v4, v5, v6⟩, _⟩ := seven_at hv'
    have HZ := hideIt (And.intro (hUF.trans e1) (And.intro hx (And.intro ho (And.intro (show After w w2 from hA.but.then t (fun i hi h => h.elim (fun h => by have := hS _ h; omega) (fun h => by omega))) (show w.heap.size < (w1.alloc (.cells #[.pointer p, .pointer none] 52)).heap.size by omega)))))
    clear hA b0 b1 hsz hsl hS h2 e1 t hUF b02 HY hv hv' hx ho
    obtain ⟨Xk, Xs, Xc, Xr, Xq, Xo, Xb⟩ := X
    dsimp only at v0 v1 v2 v3 v4 v5 v6
    go_wp2_with fail
    obtain ⟨e1, hx, ho, ha, hsz⟩ := HZ.out
    refine bodyPost_ret (v := .tuple #[(⟨Xk, Xs, Xc, Xr, Xq, Xo, Xb⟩ : Msg).val xa xc ya yc za zc, .int .i64 0]) (by simp [results, Try.results16, go_sem, y0, y1, y2, y3, y4, y5, y6, Msg.val]) rfl ⟨?_, Ends.ok e1 ⟨_, rfl, xa, xc, ya, yc, za, zc, rfl, ?_, ?_⟩⟩
    · iterate 7 refine After.set ?_ _ (Nat.le_refl _) _
      exact ha
    · refine (hx.but (T := One w.heap.size) ?_ (fun k hk e => by have e' : k = w.heap.size := e; omega)).mono (fun k hk => by omega)
      iterate 7 refine But.set (S := One w.heap.size) ?_ ⟨w.heap.size, _, none⟩ (fun _ => Eq.refl _) _
      exact But.rfl
    · refine own_base (own_but (S := One w.heap.size) ho ?_ (fun k hk e => by have e' : k = w.heap.size := e; have := (ho.lt k hk).1; omega)) (fun k hk => Nat.le_trans (by omega) (ho.lt k hk).1)
      iterate 7 refine But.set (S := One w.heap.size) ?_ ⟨w.heap.size, _, none⟩ (fun _ => Eq.refl _) _
      exact But.rfl
end Go.Proofs.Ytigiakhdaaoljaa
