/-
  Our own: package code as mathematics: ops, instructions, words and texts. Written by wip/gen/mkcdmath.py.
-/
import Derived.Test.YtgcmegbfhhebpaaDoorMem
namespace Go.Proofs.YtgcmegbfhhebpaaDoor
open Go.RowKit

structure Co where
  kind : List UInt8
  sg : List UInt8
  d : Bool
  a : Bool
  b : Bool
  many : Bool
  imm : Bool
  deriving DecidableEq
structure Ci where
  op : List UInt8
  d : Int
  a : Int
  b : Int
  imm : Int
  deriving DecidableEq
def coN : Co := ⟨[], [], false, false, false, false, false⟩
def coL : List Co := [
  ⟨[99, 111, 110, 115, 116], [], true, false, false, false, true⟩,
  ⟨[104, 105, 103, 104], [], true, false, false, false, true⟩,
  ⟨[109, 111, 118, 101], [], true, true, false, false, false⟩,
  ⟨[108, 111, 97, 100], [], true, false, false, false, true⟩,
  ⟨[115, 116, 111, 114, 101], [], false, true, false, false, true⟩,
  ⟨[112, 97, 114, 97, 109], [], true, false, false, false, true⟩,
  ⟨[97, 114, 103], [], false, true, false, false, true⟩,
  ⟨[99, 97, 108, 108], [], true, false, false, true, true⟩,
  ⟨[116, 105, 99, 107], [], false, false, false, false, false⟩,
  ⟨[112, 114, 105, 110, 116], [], false, true, false, false, false⟩,
  ⟨[106, 117, 109, 112], [], false, false, false, false, true⟩,
  ⟨[105, 102], [], false, true, false, false, true⟩,
  ⟨[114, 101, 116, 117, 114, 110], [], false, true, false, false, false⟩,
  ⟨[110, 101, 103], [45], true, true, false, false, false⟩,
  ⟨[110, 111, 116], [33], true, true, false, false, false⟩,
  ⟨[97, 100, 100], [43], true, true, true, false, false⟩,
  ⟨[115, 117, 98], [45], true, true, true, false, false⟩,
  ⟨[109, 117, 108], [42], true, true, true, false, false⟩,
  ⟨[100, 105, 118], [47], true, true, true, false, false⟩,
  ⟨[114, 101, 109], [37], true, true, true, false, false⟩,
  ⟨[97, 110, 100], [38], true, true, true, false, false⟩,
  ⟨[111, 114], [124], true, true, true, false, false⟩,
  ⟨[120, 111, 114], [94], true, true, true, false, false⟩,
  ⟨[115, 104, 108], [60, 60], true, true, true, false, false⟩,
  ⟨[115, 104, 114], [62, 62], true, true, true, false, false⟩,
  ⟨[108, 101, 115, 115], [60], true, true, true, false, false⟩,
  ⟨[109, 111, 115, 116], [60, 61], true, true, true, false, false⟩,
  ⟨[115, 97, 109, 101], [61, 61], true, true, true, false, false⟩,
  ⟨[111, 116, 104, 101, 114], [33, 61], true, true, true, false, false⟩]
/-- The op of a name, from number n + 1 on. -/
def coIn : List Co → Nat → List UInt8 → Nat × Co
  | [], _, _ => (0, coN)
  | s :: r, n, k => if s.kind = k then (n + 1, s) else coIn r (n + 1) k
def coNum (n : Nat) : Co := if n < 1 then coN else (coL[n - 1]?).getD coN
def bey (has : Bool) (n last : Int) : Bool := has && (decide (n < 0) || decide (last < n))
def ndl (has : Bool) (n : Int) : Bool := !has && !decide (n = 0)
/-- Is a number one of 32 bits, signed? -/
def in32 (n : Int) : Bool := decide (-2147483648 ≤ n) && decide (n < 2147483648)
/-- What is told: 0 nothing, 1 ErrKind, 2 ErrBound, 3 ErrShape. -/
def coChk (o : Co) (i : Ci) : Nat :=
  if o.kind = [] then 1
  else if bey o.d i.d 7 || bey o.a i.a 7 || bey o.b i.b 7 || !in32 i.imm || bey o.many i.b 4 then 2
  else if ndl o.d i.d || ndl o.a i.a || ndl (o.b || o.many) i.b || ndl o.imm i.imm then 3
  else 0
end Go.Proofs.YtgcmegbfhhebpaaDoor
