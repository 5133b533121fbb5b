/-
  Our own: plain mathematics of what is well: the document's chapter 5 as functions over trees. Nothing of the program stands here.
-/
import Derived.Test.YtcebpmaggnephabGreatDoorTreeMath
namespace Go.Proofs.YtcebpmaggnephabGreatDoor
open Go.RowKit

/-- Is a text a name? -/
def nameB (s : List UInt8) : Bool := decide (s ≠ [] ∧ firstOf s = (kName, s.length))
def twosE : List (List UInt8) := [[43], [45], [42], [47], [37], [38], [124], [94], [60, 60], [62, 62], [60], [60, 61], [61, 61], [33, 61]]
def onesE : List (List UInt8) := [[45], [33]]
/-- Has an expression what its kind has, and nothing else? -/
def shapeE (k : List UInt8) (n : Int) (m : List UInt8) (c : Nat) : Bool :=
  if k = kNumE then decide (0 ≤ n ∧ m = [] ∧ c = 0)
  else if k = kName then decide (n = 0 ∧ nameB m = true ∧ c = 0)
  else if k = kCall then decide (n = 0 ∧ nameB m = true)
  else if k = kOne then decide (n = 0 ∧ m ∈ onesE ∧ c = 1)
  else if k = kTwo then decide (n = 0 ∧ m ∈ twosE ∧ c = 2)
  else false
/-- A call's number of an error: 6: nobody is called so; 9: not so many parameters. -/
def callC (F : List Fu) (m : List UInt8) (n : Nat) : Nat :=
  match F.find? (fun f => f.name == m) with
  | none => 6
  | some f => if f.params.length = n then 0 else 9
/-- What follows if there is no error. -/
def andC (c d : Nat) : Nat := if c = 0 then d else c
mutual
/-- An expression's number of an error. -/
def exprC (F : List Fu) (vis : List (List UInt8)) : Ex → Nat
  | .mk k n m ks =>
    if shapeE k n m ks.length = false then 3
    else andC (exprsC F vis ks) (if k = kName then (if m ∈ vis then 0 else 6) else if k = kCall then callC F m ks.length else 0)
def exprsC (F : List Fu) (vis : List (List UInt8)) : List Ex → Nat
  | [] => 0
  | e :: r => andC (exprC F vis e) (exprsC F vis r)
end
/-- Has a statement what its kind has, and nothing else? -/
def shapeS (k m : List UInt8) (t o : Nat) : Bool :=
  if k = kVar ∨ k = kSet then decide (nameB m = true ∧ t = 0 ∧ o = 0)
  else if k = kIf then decide (m = [])
  else if k = kWhile then decide (m = [] ∧ o = 0)
  else if k = kReturn ∨ k = kPrint then decide (m = [] ∧ t = 0 ∧ o = 0)
  else false
/-- What a function's variables come to: an error's number, or all of them. -/
inductive Cs where
  | bad (c : Nat)
  | ok (all : List (List UInt8))
def Cs.bind (x : Cs) (f : List (List UInt8) → Cs) : Cs := match x with | .bad c => .bad c | .ok a => f a
@[simp] theorem Cs.bind_bad (c : Nat) (f : List (List UInt8) → Cs) : Cs.bind (.bad c) f = .bad c := rfl
@[simp] theorem Cs.bind_ok (a : List (List UInt8)) (f : List (List UInt8) → Cs) : Cs.bind (.ok a) f = f a := rfl
/-- One variable more. -/
def declC (all : List (List UInt8)) (m : List UInt8) : Cs := if m ∈ all then .bad 7 else if all.length = 12 then .bad 8 else .ok (all ++ [m])
mutual
/-- A statement: all variables behind it. -/
def stmtC (F : List Fu) (all vis : List (List UInt8)) : Sm → Cs
  | .mk k m e t o =>
    if shapeS k m t.length o.length = false then .bad 3
    else if exprC F vis e ≠ 0 then .bad (exprC F vis e)
    else if k = kVar then declC all m
    else if k = kSet then (if m ∈ vis then .ok all else .bad 6)
    else (blockC F all vis t).bind fun all => blockC F all vis o
/-- Statements of a block: all variables behind it. -/
def blockC (F : List Fu) (all vis : List (List UInt8)) : List Sm → Cs
  | [] => .ok all
  | s :: r => (stmtC F all vis s).bind fun all => blockC F all (match s with | .mk k m _ _ _ => if k = kVar then vis ++ [m] else vis) r
end
/-- Parameters, one behind the other. -/
def parsC (all : List (List UInt8)) : List (List UInt8) → Cs
  | [] => .ok all
  | p :: r => (declC all p).bind fun all => parsC all r
/-- A function's number of an error. -/
def funC (F : List Fu) (twice : Bool) (f : Fu) : Nat :=
  if nameB f.name = false ∨ ∃ p ∈ f.params, nameB p = false then 5
  else if twice = true then 7
  else if 4 < f.params.length then 9
  else match (parsC [] f.params).bind fun all => blockC F all all f.body with | .bad c => c | .ok _ => 0
/-- Which function, from the i-th on, is not well: its error's number and its place. -/
def funsC (F ahead : List Fu) : List Fu → Option (Nat × Nat)
  | [] => none
  | f :: r => if funC F (ahead.any fun g => g.name == f.name) f ≠ 0 then some (funC F (ahead.any fun g => g.name == f.name) f, ahead.length) else funsC F (ahead ++ [f]) r
end Go.Proofs.YtcebpmaggnephabGreatDoor
