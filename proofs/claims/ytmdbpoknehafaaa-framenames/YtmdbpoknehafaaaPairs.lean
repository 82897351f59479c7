/-
  isNone, pair and checkOf of package frame, bytes.Equal.
-/
import Derived.Test.YtmdbpoknehafaaaClone
import Derived.Laws.BytesArg
import Derived.Lib.Bytes
import Derived.Deep.AppendLies
namespace Go.Proofs.Ytmdbpoknehafaaa
open Go.RowKit
/-- A pointer to the block g. -/
abbrev Ptr (g : Nat) : Value := .pointer (some ⟨g, 0, none⟩)
theorem isNone_no {w : World} {g : Nat} {T : TypeId} {y : Value} (h : w.heap[g]? = some (.cells #[.bool true, y] T (0, 0))) :
    Calls Try.prog 23 #[Ptr g] w fun e w' => e = .returned (.bool false) ∧ w' = w := by
  obtain ⟨_, hc0, hc1, hf0, hf1⟩ := two_at h
  clear h
  go_enter Try.func23, Try.ntmps23
  go_wp2
  go_ret
  exact ⟨rfl, rfl⟩
theorem isNone_nil (w : World) : Calls Try.prog 23 #[.pointer none] w fun e w' => e = .returned (.bool true) ∧ w' = w := by
  go_enter Try.func23, Try.ntmps23
  go_wp2
  go_ret
  exact ⟨rfl, rfl⟩
theorem isNone_zero {w : World} {g : Nat} {T : TypeId} {y : Value} (h : w.heap[g]? = some (.cells #[.bool false, y] T (0, 0))) :
    Calls Try.prog 23 #[Ptr g] w fun e w' => e = .returned (.bool true) ∧ w' = w := by
  obtain ⟨_, hc0, hc1, hf0, hf1⟩ := two_at h
  clear h
  go_enter Try.func23, Try.ntmps23
  go_wp2
  go_ret
  exact ⟨rfl, rfl⟩
theorem pair_any (v : Nat) (w : World) (h : v < 65536) :
    Calls Try.prog 28 #[.int .i64 v] w fun e w' => e = .returned (.slice (some ⟨w.heap.size, 0, none⟩) 2 2) ∧ w' = w.alloc (.cells #[.int .u8 ((v / 256 : Nat) : Int), .int .u8 ((v % 256 : Nat) : Int)] 5) := by
  have h1 : IntKind.u8.wrap ((v : Int) / 256) = ((v / 256 : Nat) : Int) := by rw [IntKind.wrap_u8]; omega
  have h2 : IntKind.u8.wrap (v : Int) = ((v % 256 : Nat) : Int) := by rw [IntKind.wrap_u8]; omega
  go_enter Try.func28, Try.ntmps28
  go_wp2
  go_ret
  first
    | exact ⟨rfl, rfl⟩
    | exact ⟨rfl, by rw [h1, h2]⟩
    | (refine ⟨rfl, ?_⟩; simp [h1, h2])
/-- A list of bytes that is written out. -/
theorem lit_row (w : World) (zs : List Int) (cs : Array Value) (n : Nat) (hc : cs.toList = u8s zs) (hn : zs.length = n) (hb : Bs zs) : Row (w.alloc (.cells cs 5)) (some ⟨w.heap.size, 0, none⟩) n zs := by
  refine ⟨hn, hb, fun i hi => ⟨w.heap.size, 0, rfl, by simp, ?_⟩⟩
  have h := World.news_of_block (heap_alloc_new w (.cells cs 5)) i (.int .u8 (zs.getD i 0)) (by rw [hc]; simp [u8s, show i < zs.length by omega])
  have e : (⟨w.heap.size, 0, none⟩ : Addr).add i = ⟨w.heap.size, 0 + i, none⟩ := by
    by_cases h0 : i = 0
    · subst h0; simp [Addr.add]
    · simp [Addr.add, h0]
  rw [e] at h; exact h
theorem bs_of (zs : List Int) (h : zs.all (fun z => decide (0 ≤ z) && decide (z ≤ 255)) = true) : Bs zs := fun z hz => by
  have := List.all_eq_true.1 h z hz
  simp at this
  exact this
/-- The two bytes of a number. -/
def two (v : Nat) : List Int := [((v / 256 : Nat) : Int), ((v % 256 : Nat) : Int)]
theorem two_bs {v : Nat} (h : v < 65536) : Bs (two v) := by
  intro z hz
  unfold two at hz
  rcases List.mem_cons.1 hz with e | e
  · omega
  · rcases List.mem_cons.1 e with e | e
    · omega
    · cases e
theorem sum16_lt {zs : List Int} (h : Bs zs) : sum16 zs < 65536 := fold16_lt (by omega) h
theorem checkOf_any (b off n c : Nat) (zs : List Int) (w : World) (hr : Row w (some ⟨b, off, none⟩) n zs) (h2 : 2 ≤ n) (hc : n ≤ c) (hn : n ≤ 140737488355328) :
    Calls Try.prog 29 #[.slice (some ⟨b, off, none⟩) n c] w fun e w' => ∃ g, e = .returned (.slice (some ⟨g, 0, none⟩) 2 2) ∧ Row w' (some ⟨g, 0, none⟩) 2 (two (sum16 (zs.drop 1))) ∧ After w w' ∧ w.heap.size ≤ g := by
  have r1 := hr.drop (k := 1) (by omega)
  have hl := sum16_lt r1.2.1
  have HS := hideIt (sum16_any (some ⟨b, off + 1, none⟩) (n - 1) (c - 1) (zs.drop 1) w r1 (by omega))
  have HB := hideIt (two_bs hl)
  have HL := hideIt hl
  clear r1 hr
  generalize sum16 (zs.drop 1) = s at *
  have e1 : ((n : Int) - 1) = ((n - 1 : Nat) : Int) := by omega
  have e2 : ((c : Int) - 1) = ((c - 1 : Nat) : Int) := by omega
  have hc1 : c ≠ 1 := by omega
  have hcn : (n : Int) ≤ (c : Int) := by omega
  have hn1 : (1 : Int) ≤ (n : Int) := by omega
  go_enter Try.func29, Try.ntmps29
  go_wp2_with fail
  refine HS.out.mono ?_
  rintro e w1 ⟨rfl, ha⟩
  have HA := hideIt ha
  have hp := hl
  clear ha
  go_wp2_with fail
  refine (pair_any s w1 HL.out).mono ?_
  rintro e w2 ⟨rfl, rfl⟩
  have HR := hideIt (lit_row w1 (two s) #[.int .u8 ((s / 256 : Nat) : Int), .int .u8 ((s % 256 : Nat) : Int)] 2 rfl rfl HB.out)
  go_wp2
  go_ret
  exact ⟨_, rfl, HR.out, HA.out.alloc _, HA.out.size⟩
theorem bytes_inj : ∀ {xs ys : List Int}, Bs xs → Bs ys → Lib.bytesOf xs = Lib.bytesOf ys → xs = ys
  | [], [], _, _, _ => rfl
  | [], y :: ys, _, _, h => by simp [Lib.bytesOf] at h
  | x :: xs, [], _, _, h => by simp [Lib.bytesOf] at h
  | x :: xs, y :: ys, hx, hy, h => by
    have h' : UInt8.ofNat x.toNat = UInt8.ofNat y.toNat ∧ Lib.bytesOf xs = Lib.bytesOf ys := by
      simp only [Lib.bytesOf, List.map_cons, List.cons.injEq] at h
      exact h
    have bx := hx x (List.mem_cons_self ..)
    have by' := hy y (List.mem_cons_self ..)
    have e1 : x.toNat % 256 = y.toNat % 256 := by
      have := congrArg UInt8.toNat h'.1
      simpa using this
    have e : x = y := by omega
    rw [e, bytes_inj (fun z hz => hx z (List.mem_cons_of_mem _ hz)) (fun z hz => hy z (List.mem_cons_of_mem _ hz)) h'.2]
theorem row_string {w : World} {b off n c : Nat} {zs : List Int} (h : Row w (some ⟨b, off, none⟩) n zs) : (convert 27 9 (.slice (some ⟨b, off, none⟩) n c)).run Try.prog w = .ok (.string (strOfNums zs)) w :=
  run_convert_bytes_arg w 27 5 Try.underlying27 Try.underlying5 b off n c zs h.1 (fun i hi => by
    obtain ⟨b', off', e, _, hc⟩ := h.2.2 i hi
    cases e
    exact hc) 9 Try.underlying9
theorem equal_any (b off b' off' n c n' c' : Nat) (xs ys : List Int) (w : World) (h1 : Row w (some ⟨b, off, none⟩) n xs) (h2 : Row w (some ⟨b', off', none⟩) n' ys) :
    Calls Try.prog 32 #[.slice (some ⟨b, off, none⟩) n c, .slice (some ⟨b', off', none⟩) n' c'] w fun e w' => e = .returned (.bool (decide (xs = ys))) ∧ w' = w := by
  have s1 := row_string (c := c) h1
  have s2 := row_string (c := c') h2
  have HE : Hid ((Lib.bytesOf xs == Lib.bytesOf ys) = decide (xs = ys)) := by
    by_cases e : xs = ys
    · subst e; simp [Hid]
    · have : Lib.bytesOf xs ≠ Lib.bytesOf ys := fun k => e (bytes_inj h1.2.1 h2.2.1 k)
      simp [Hid, e, this]
  rw [← Lib.strOfNums_toList, ← Lib.strOfNums_toList] at HE
  clear h1 h2
  go_enter Try.func32, Try.ntmps32
  go_wp2
  go_ret
  exact ⟨ret_bool HE.out, rfl⟩
end Go.Proofs.Ytmdbpoknehafaaa
