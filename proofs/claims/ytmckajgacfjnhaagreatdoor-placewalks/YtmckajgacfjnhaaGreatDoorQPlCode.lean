/- Our own: texts joined: PlCode. -/
import Derived.Test.YtmckajgacfjnhaaGreatDoorQPlRef4
import Derived.Test.YtmckajgacfjnhaaGreatDoorQRets
namespace Go.Proofs.YtmckajgacfjnhaaGreatDoor
open Go.RowKit
def insD (l : List Pi) : List Int := (l.filter fun x => (psh x.kind).d).map Pi.d
theorem defs_is (b : Pb) : defsB b = b.params ++ insD b.ins := rfl
theorem insD_cons (x : Pi) (l : List Pi) : insD (x :: l) = if (psh x.kind).d then x.d :: insD l else insD l := by
 unfold insD
 by_cases h : (psh x.kind).d <;> simp [h]
theorem insD_snoc (l : List Pi) (x : Pi) : insD (l ++ [x]) = if (psh x.kind).d then insD l ++ [x.d] else insD l := by
 unfold insD
 by_cases h : (psh x.kind).d <;> simp [h]
def Sn (vn : Nat) (sn : List Bool) (prev : List Int) : Prop := sn.length = vn ∧ ∀ i (h : i < sn.length), sn[i] = prev.contains (i : Int)
theorem Sn.none (vn : Nat) : Sn vn (List.replicate vn false) [] := ⟨by simp, fun i h => by simp⟩
theorem Sn.mark {vn : Nat} {sn : List Bool} {prev : List Int} (h : Sn vn sn prev) (x : Nat) : Sn vn (sn.set x true) (prev ++ [(x : Int)]) := by
 refine ⟨by simpa using h.1, fun i hi => ?_⟩
 have hi' : i < sn.length := by simpa using hi
 rw [List.getElem_set]
 have hc : (prev ++ [(x : Int)]).contains (i : Int) = (prev.contains (i : Int) || ((i : Int) == (x : Int))) := by rw [Bool.eq_iff_iff]; simp
 rw [hc, ← h.2 i hi']
 by_cases e : x = i
 ·subst e; simp
 ·rw [if_neg e]
  have : ((i : Int) == (x : Int)) = false := by rw [beq_eq_false_iff_ne]; omega
  rw [this, Bool.or_false]
theorem blockC_is {ones twos : List (List UInt8)} {V P : Int} {L : List Pb} {prev : List Int} {b : Pb} : blockC ones twos V P L prev b = if blockR ones twos V P L b = 0 then (if newB prev (defsB b) = false then 7 else 0) else blockR ones twos V P L b := by
 unfold blockC blockR
 by_cases h1 : bKind ones twos b = false
 ·rw [if_pos h1, if_pos h1]; rfl
 ·rw [if_neg h1, if_neg h1]
  by_cases h2 : bBound V P L.length b = false
  ·rw [if_pos h2, if_pos h2]; rfl
  ·rw [if_neg h2, if_neg h2]
   by_cases h3 : bShape L b = false
   ·rw [if_pos h3, if_pos h3]; rfl
   ·rw [if_neg h3, if_neg h3]; rfl
theorem blockR_zero {ones twos : List (List UInt8)} {V P : Int} {L : List Pb} {b : Pb} (h : blockR ones twos V P L b = 0) : bKind ones twos b = true ∧ bBound V P L.length b = true ∧ bShape L b = true := by
 unfold blockR at h
 cases h1 : bKind ones twos b <;> simp [h1] at h
 cases h2 : bBound V P L.length b <;> simp [h2] at h
 cases h3 : bShape L b <;> simp [h3] at h
 exact ⟨rfl, rfl, rfl⟩
theorem bound_params {V P : Int} {N : Nat} {b : Pb} (h : bBound V P N b = true) : ∀ x ∈ b.params, 0 ≤ x ∧ x < V := fun x hx => by
 unfold bBound at h
 simp only [Bool.and_eq_true] at h
 simpa [inV] using List.all_eq_true.1 h.1.1.1.1 x hx
theorem bound_d {V P : Int} {N : Nat} {b : Pb} (h : bBound V P N b = true) : ∀ x ∈ b.ins, (psh x.kind).d = true → 0 ≤ x.d ∧ x.d < V := fun x hx hd => by
 unfold bBound at h
 simp only [Bool.and_eq_true] at h
 have h2 := List.all_eq_true.1 h.1.1.1.2 x hx
 unfold pBound at h2
 rw [hd] at h2
 simp only [Bool.and_eq_true] at h2
 simpa [inV] using h2.1.1
theorem kind_known {ones twos : List (List UInt8)} {b : Pb} (h : bKind ones twos b = true) : ∀ x ∈ b.ins, (psh x.kind).kind ≠ [] := fun x hx e => by
 unfold bKind at h
 simp only [Bool.and_eq_true] at h
 have h2 := List.all_eq_true.1 h.2 x hx
 simp [pKind, e] at h2
structure Rc (w X : World) (nm : List UInt8) (P V : Int) (bv : Value) : Prop where
 low : Below w.heap.size w X
 box : X.heap[w.heap.size]? = some (.cells #[.string ⟨nm.toArray⟩, .int .i64 P, .int .i64 V, bv] 24 (0, 0))
 res : X.heap[w.heap.size + 1]? = some (.cells #[.int .i64 0, .int .i64 0] 34 (0, 0))
theorem Rc.below {w X Y : World} {nm : List UInt8} {P V : Int} {bv : Value} (h : Rc w X nm P V bv) (hb : Below X.heap.size X Y) : Rc w Y nm P V bv :=
 ⟨bl_trans h.low h.low.size hb, (hb.block _ (heap_lt h.box)).trans h.box, (hb.block _ (heap_lt h.res)).trans h.res⟩
structure Mc (w X : World) (nm : List UInt8) (P V : Int) (bv : Value) (sn : List Bool) : Prop where
 rc : Rc w X nm P V bv
 mad : X.heap[w.heap.size + 2]? = some (.cells (boolsG sn).toArray 4 (0, 0))
theorem Mc.below {w X Y : World} {nm : List UInt8} {P V : Int} {bv : Value} {sn : List Bool} (h : Mc w X nm P V bv sn) (hb : Below X.heap.size X Y) : Mc w Y nm P V bv sn :=
 ⟨h.rc.below hb, (hb.block _ (heap_lt h.mad)).trans h.mad⟩
structure Mi (w X : World) (nm : List UInt8) (P V : Int) (bv : Value) (sn : List Bool) (bb : Nat) (o : Obj) : Prop where
 mc : Mc w X nm P V bv sn
 bbx : X.heap[bb]? = some o
 far : w.heap.size + 2 < bb
theorem Mi.below {w X Y : World} {nm : List UInt8} {P V : Int} {bv : Value} {sn : List Bool} {bb : Nat} {o : Obj} (h : Mi w X nm P V bv sn bb o) (hb : Below X.heap.size X Y) : Mi w Y nm P V bv sn bb o :=
 ⟨h.mc.below hb, (hb.block _ (heap_lt h.bbx)).trans h.bbx, h.far⟩
theorem Mi.mark {w X : World} {nm : List UInt8} {P V : Int} {bv : Value} {sn : List Bool} {bb : Nat} {o : Obj} (h : Mi w X nm P V bv sn bb o) (x : Nat) : Mi w (X.setCell ⟨w.heap.size + 2, x, none⟩ (.bool true)) nm P V bv (sn.set x true) bb o := by
 have hf := h.far
 have key : ∀ k, k ≠ w.heap.size + 2 → (X.setCell ⟨w.heap.size + 2, x, none⟩ (.bool true)).heap[k]? = X.heap[k]? := fun k hk => Below.heap_setCell _ _ _ _ hk
 refine ⟨⟨⟨h.mc.rc.low.setCell (by show w.heap.size ≤ w.heap.size + 2; omega) _, (key _ (by omega)).trans h.mc.rc.box, (key _ (by omega)).trans h.mc.rc.res⟩, ?_⟩, (key _ (by omega)).trans h.bbx, hf⟩
 have hs := blk_setCell h.mc.mad x (.bool true)
 rw [boolsG_set] at hs
 exact hs
end Go.Proofs.YtmckajgacfjnhaaGreatDoor
