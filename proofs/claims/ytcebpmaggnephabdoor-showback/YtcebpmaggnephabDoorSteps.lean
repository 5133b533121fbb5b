/-
  Our own: steps of a region that draws its order; regions cut.
-/
import Derived.Test.YtcebpmaggnephabDoorIn
import Derived.Deep.RegionLaw
import Derived.Maps.AppendAt
import Derived.Shelf.Abstract
namespace Go.Proofs.YtcebpmaggnephabDoor
open Go.RowKit

/-- A call of a Go function, as one step of a region that draws its order. -/
theorem step_call {P : Program} {ops : Array Oper} {o : Oper} {a : Act} {w : World} {K : Act → World → Prop} {Q : Exit → Act → World → Prop} {E : Prop} (hgd : o.guard = none) (f : FuncId) (xs : Array Operand) (ts : Array TypeId)
    (ho : o.op = .call { callee := .value (.func f), args := xs, argTypes := ts }) (args : Array Value) (ha : xs.map a.eval = args) (hf : ∀ args w, (callFunc f args).run P w = .ok (.enter f args) w)
    (R : Value → World → Prop) (hc : Calls P f args w fun e w' => ∃ v, e = .returned v ∧ R v w') (h : ∀ v w', R v w' → K (a.put o.dst v) w') :
    if Region.wanted o (yielded ops a.tmps) = true then Oper.wp P o a w K Q else E := by
  have hw : Region.wanted o (yielded ops a.tmps) = true := by simp [Region.wanted, hgd]
  have hrun : (execOp a.eval o).run P w = .ok (.enter f args) w := by
    unfold execOp
    rw [ho]
    simp [go_sem, ha, hf]
  rw [if_pos hw]
  unfold Oper.wp
  rw [hrun, Oper.upon_enter]
  refine hc.mono ?_
  rintro e w' ⟨v, rfl, hv⟩
  exact h v w' hv
/-- A region whose orders all end in one frame. -/
theorem reg_cut {P : Program} {c : Code} {Q : Exit → Act → World → Prop} {a : Act} {w : World} (F : Act) (R : World → Prop) (h : c.wp P (Exit.then (fun a' w' => a' = F ∧ R w') (fun _ _ _ => False)) a w) (k : ∀ w', R w' → Q .normal F w') : c.wp P Q a w :=
  Code.wp_mono (fun e a w g => by
    cases e with
    | normal => obtain ⟨rfl, g⟩ := g; exact k _ g
    | _ => exact g.elim) h
/-- A region whose orders all end in one frame but for what an append gives. -/
theorem reg_cut2 {P : Program} {c : Code} {Q : Exit → Act → World → Prop} {a : Act} {w : World} (F : Nat → Nat → Act) (R : Nat → Nat → World → Prop) (h : c.wp P (Exit.then (fun a' w' => ∃ g cap, a' = F g cap ∧ R g cap w') (fun _ _ _ => False)) a w) (k : ∀ g cap w', R g cap w' → Q .normal (F g cap) w') : c.wp P Q a w :=
  Code.wp_mono (fun e a w g => by
    cases e with
    | normal => obtain ⟨x, y, rfl, g⟩ := g; exact k _ _ _ g
    | _ => exact g.elim) h
theorem grown_below {B : Nat} {w a b : World} {v : Value} {t : TypeId} {n size : Nat} {xs : List Value} {W : World} (h : Below B w a) (hB : B ≤ w.heap.size) (hown : W.ownsRow B t size v n xs) (hg : a.grownBy b v.ownBlock) : Below B w b :=
  ⟨hg.os.trans h.os, hg.tape.trans h.tape, hg.output.trans h.output, Nat.le_trans h.size hg.size, fun i hi => (hg.block i (by have := h.size; omega) (fun e => by have := (hown.lt i e.symm).1; omega)).trans (h.block i hi)⟩
/-- A region whose orders all end in one frame but for three numbers. -/
theorem reg_cut3 {P : Program} {c : Code} {Q : Exit → Act → World → Prop} {a : Act} {w : World} (F : Nat → Nat → Nat → Act) (R : Nat → Nat → Nat → World → Prop) (h : c.wp P (Exit.then (fun a' w' => ∃ x y z, a' = F x y z ∧ R x y z w') (fun _ _ _ => False)) a w) (k : ∀ x y z w', R x y z w' → Q .normal (F x y z) w') : c.wp P Q a w :=
  Code.wp_mono (fun e a w g => by
    cases e with
    | normal => obtain ⟨x, y, z, rfl, g⟩ := g; exact k _ _ _ _ g
    | _ => exact g.elim) h
end Go.Proofs.YtcebpmaggnephabDoor
