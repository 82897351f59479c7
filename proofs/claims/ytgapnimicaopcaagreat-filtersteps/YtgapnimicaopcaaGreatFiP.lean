/-
  A filter over plain data: what is inside, its lapse, its value; a step, a reading, what is refused.
-/
import Derived.Test.YtgapnimicaopcaaGreatMdP
import Derived.Test.YtgapnimicaopcaaGreatAvP
import Derived.Test.YtgapnimicaopcaaGreatIrP
import Derived.Test.YtgapnimicaopcaaGreatBtP
import Derived.Test.YtgapnimicaopcaaGreatLpP
import Derived.Test.YtgapnimicaopcaaGreatR2FixP
import Derived.Test.YtgapnimicaopcaaGreatR2May
namespace Go.Proofs.YtgapnimicaopcaaGreat
open Go.RowKit
/-- A real. -/
structure Rl where
  k : Int
  m : Int
  e : Int
def Rl.num (r : Rl) : Bool := L2.numB r.k r.m r.e
def Rl.may (r : Rl) : Bool := L2.mayB r.k r.m r.e
def Rl.fix (r : Rl) : Int := L2.fixZ r.m r.e
/-- A filter: its kind, its number, its limit. -/
structure Cf where
  k : Nat
  n : Nat
  st : Nat
/-- It may be. -/
structure Cf.Ok (c : Cf) : Prop where
  kind : c.k = 0 ∧ c.n = 0 ∨ c.k = 1 ∧ 1 ≤ c.n ∧ c.n ≤ 15 ∧ c.n % 2 = 1 ∨ c.k = 2 ∧ 1 ≤ c.n ∧ c.n ≤ 15 ∨ c.k = 3 ∧ 1 ≤ c.n ∧ c.n ≤ 1000 ∨ c.k = 4 ∧ 2 ≤ c.n ∧ c.n ≤ 8
  st1 : 1 ≤ c.st
  st2 : c.st ≤ 10000
/-- What is inside: numbers or ticks; where a slow number is. -/
structure Si where
  l : List Int
  o : Option Int
def Si.new : Si := ⟨[], none⟩
/-- A number is pushed: what is inside then, the value, and whether there is one. -/
def Si.push (k n : Nat) (t v : Int) (s : Si) : Si :=
  if k = 1 ∨ k = 2 then ⟨s.l ++ [clampZ v], s.o⟩ else if k = 3 then ⟨s.l, some (L11.nxo n s.o (clampZ v))⟩ else if k = 4 then ⟨if 0 < v then L12.nxt s.l t else s.l, s.o⟩ else s
def Si.val (k n : Nat) (t v : Int) (s : Si) : Int :=
  if k = 1 then L9.mid (lastN n (s.l ++ [clampZ v])) else if k = 2 then meanZ (lastN n (s.l ++ [clampZ v])) else if k = 3 then L11.nxo n s.o (clampZ v) else if k = 4 then L12.rv (lastN n (if 0 < v then L12.nxt s.l t else s.l)) else v
def Si.has (k n : Nat) (t v : Int) (s : Si) : Bool := if k = 4 then L12.ris (lastN n (if 0 < v then L12.nxt s.l t else s.l)) else true
/-- A filter at work. -/
structure Ts where
  ins : Si
  lp : L13.Ls
  value : Int
  known : Bool
  next : Int
def Ts.new : Ts := ⟨Si.new, L13.Ls.new, 0, false, 0⟩
def Ts.anew (s : Ts) : Ts := ⟨Si.new, s.lp, 0, false, s.next⟩
def Ts.take (c : Cf) (t v : Int) (s : Ts) : Ts := ⟨s.ins.push c.k c.n t v, s.lp, s.ins.val c.k c.n t v, s.ins.has c.k c.n t v, s.next⟩
def Ts.lap (t : Int) (o : Bool) (s : Ts) : Ts := ⟨s.ins, s.lp.hear t o, s.value, s.known, s.next⟩
def Ts.hear (c : Cf) (t : Int) (s : Ts) (r : Rl) : Ts := if r.num = true then (s.lap t false).take c t r.fix else if r.k = 2 then s.lap t true else s
def Ts.at_ (c : Cf) (t : Int) (s : Ts) : Int := s.lp.ans c.st t
def Ts.goes (t : Int) (s : Ts) : Ts := ⟨s.ins, s.lp, s.value, s.known, t + 1⟩
def Ts.opn (c : Cf) (t : Int) (s : Ts) : Ts := if s.at_ c t = 3 then (s.goes t).anew else s.goes t
def Ts.hears (c : Cf) (t : Int) (s : Ts) (l : List Rl) : Ts := l.foldl (Ts.hear c t) (s.opn c t)
def Ts.shut (c : Cf) (t : Int) (s : Ts) : Ts := if s.at_ c t = 3 ∨ s.at_ c t = 4 then s.anew else s
def Ts.step (c : Cf) (t : Int) (s : Ts) (l : List Rl) : Ts := (s.hears c t l).shut c t
/-- A reading: its state and its value. -/
structure Rd where
  s : Int
  v : Int
def Ts.rd (x : Int) (s : Ts) : Rd := if s.known = true then ⟨x, s.value⟩ else if x = 1 ∨ x = 2 then ⟨0, 0⟩ else ⟨x, 0⟩
def Ts.read (c : Cf) (t : Int) (s : Ts) (l : List Rl) : Rd := (s.step c t l).rd ((s.hears c t l).at_ c t)
def mays (l : List Rl) : Bool := l.all Rl.may
def Ts.err (s : Ts) (t : Int) (l : List Rl) : Int := if t < s.next ∨ 2147483647 < t then 9 else if 64 < l.length then 6 else if mays l = true then 0 else 2
end Go.Proofs.YtgapnimicaopcaaGreat
