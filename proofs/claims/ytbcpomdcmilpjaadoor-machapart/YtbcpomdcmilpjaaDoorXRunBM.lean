/- Our own: texts joined: GrBare, MaRunB. -/
import Derived.Test.YtbcpomdcmilpjaaDoorXCdM
import Derived.Test.YtbcpomdcmilpjaaDoorXBaseM
import Derived.Test.YtbcpomdcmilpjaaDoorXMaRead
namespace Go.Proofs.YtbcpomdcmilpjaaDoor
open Go.RowKit
theorem bareG (c : Int) (w : World) : Calls Tryd.prog 9 #[.int .i64 c] w fun e w' => e = .returned (.agg #[.int .i64 c, .int .i64 (-1)]) ∧ Below w.heap.size w w' := by
 go_enter Tryd.func9, Tryd.ntmps9
 go_wp2
 exact bodyPost_ret (v := .agg #[.int .i64 c, .int .i64 (-1)]) (by simp [results, Tryd.results9, go_sem]) rfl ⟨rfl, by (repeat (first | exact Below.refl _ _ | assumption | refine Below.drew ?_ | refine bT ?_ _ | refine bS ?_ _ | refine bA ?_ _))⟩
theorem fineG (w : World) : Calls Tryd.prog 18 #[] w fun e w' => e = .returned (.agg #[.int .i64 0, .int .i64 (-1)]) ∧ Below w.heap.size w w' := by
 go_enter Tryd.func18, Tryd.ntmps18
 go_wp2
 exact bodyPost_ret (v := .agg #[.int .i64 0, .int .i64 (-1)]) (by simp [results, Tryd.results18, go_sem]) rfl ⟨rfl, by (repeat (first | exact Below.refl _ _ | assumption | refine Below.drew ?_ | refine bT ?_ _ | refine bS ?_ _ | refine bA ?_ _))⟩
theorem set2_blk {w : World} {r : Nat} {x0 x1 : Value} {t : TypeId} (h : w.heap[r]? = some (.cells #[x0, x1] t (0, 0))) (u0 u1 : Value) : ((w.setCell ⟨r, 0, none⟩ u0).setCell ⟨r, 1, none⟩ u1).heap[r]? = some (.cells #[u0, u1] t (0, 0)) := by
 have := blk_setCell (blk_setCell h 0 u0) 1 u1
 simpa using this
theorem set2_low {B : Nat} {a w : World} {r : Nat} (h : Below B a w) (hr : B ≤ r) (u0 u1 : Value) : Below B a ((w.setCell ⟨r, 0, none⟩ u0).setCell ⟨r, 1, none⟩ u1) := (h.setCell hr _).setCell hr _
end Go.Proofs.YtbcpomdcmilpjaaDoor
namespace Go.Proofs.YtbcpomdcmilpjaaDoor
open Go.RowKit
def runF (I : Im) (nm : List UInt8) (na : Nat) (ticks : Int) : Nat × Int :=
 if (imF I).1 ≠ 0 then imF I else if whichM I.funs nm < 0 then (6, -1) else if (funAt I (whichM I.funs nm)).params ≠ (na : Int) then (9, -1) else if ticks < 0 ∨ 5000 < ticks then (2, -1) else (0, -1)
theorem three_allocM (w : World) (x y z : Obj) : (((w.alloc x).alloc y).alloc z).heap[w.heap.size]? = some x ∧ (((w.alloc x).alloc y).alloc z).heap[w.heap.size + 1]? = some y ∧ (((w.alloc x).alloc y).alloc z).heap[w.heap.size + 2]? = some z := by
 have e1 : (w.alloc x).heap.size = w.heap.size + 1 := by simp
 have e2 : ((w.alloc x).alloc y).heap.size = w.heap.size + 2 := by simp
 refine ⟨(Below.heap_alloc _ z _ (by omega)).trans ((Below.heap_alloc _ y _ (by omega)).trans (heap_alloc_new w x)), ?_, ?_⟩
 ·refine (Below.heap_alloc _ z _ (by omega)).trans ?_
  have := heap_alloc_new (w.alloc x) y
  rwa [e1] at this
 ·have := heap_alloc_new ((w.alloc x).alloc y) z
  rwa [e2] at this
theorem set4_blkM {w : World} {b : Nat} {v0 v1 v2 v3 : Value} {t : TypeId} (h : w.heap[b]? = some (.cells #[v0, v1, v2, v3] t (0, 0))) (u0 u1 u2 u3 : Value) :
  ((((w.setCell ⟨b, 0, none⟩ u0).setCell ⟨b, 1, none⟩ u1).setCell ⟨b, 2, none⟩ u2).setCell ⟨b, 3, none⟩ u3).heap[b]? = some (.cells #[u0, u1, u2, u3] t (0, 0)) :=
 blk_setCell (blk_setCell (blk_setCell (blk_setCell h 0 u0) 1 u1) 2 u2) 3 u3
theorem set4_lowM {B : Nat} {a w : World} {r : Nat} (h : Below B a w) (hr : B ≤ r) (u0 u1 u2 u3 : Value) : Below B a ((((w.setCell ⟨r, 0, none⟩ u0).setCell ⟨r, 1, none⟩ u1).setCell ⟨r, 2, none⟩ u2).setCell ⟨r, 3, none⟩ u3) := (((h.setCell hr _).setCell hr _).setCell hr _).setCell hr _
theorem set4_othM {w : World} {r b : Nat} (h : b ≠ r) (u0 u1 u2 u3 : Value) : ((((w.setCell ⟨r, 0, none⟩ u0).setCell ⟨r, 1, none⟩ u1).setCell ⟨r, 2, none⟩ u2).setCell ⟨r, 3, none⟩ u3).heap[b]? = w.heap[b]? := by
 rw [Below.heap_setCell _ _ _ _ h, Below.heap_setCell _ _ _ _ h, Below.heap_setCell _ _ _ _ h, Below.heap_setCell _ _ _ _ h]
theorem ft_codeM {w w' : World} {a : Nat → Addr} {r : Nat × Int} {v : Value} (h : FtTo w a r (.returned v) w') : (r.1 = 0 ∧ v = .nilIface) ∨ (r.1 ≠ 0 ∧ ∃ t u, v = .iface t u) := by
 obtain ⟨_, h⟩ := h
 split at h
 ·next c => injection h with h; exact Or.inl ⟨c, h⟩
 ·next c =>
  split at h
  ·injection h with h; exact Or.inr ⟨c, _, _, h⟩
  ·obtain ⟨b, h, _⟩ := h
   injection h with h; exact Or.inr ⟨c, _, _, h⟩
theorem which_lt {l : List Mf} {nm : List UInt8} (h : ¬ whichM l nm < 0) : ∃ n : Nat, whichM l nm = (n : Int) ∧ n < l.length := by
 unfold whichM at h ⊢
 cases hf : l.findIdx? (fun f => f.name == nm) with
 | none => rw [hf] at h; exact absurd (by decide) h
 | some i => exact ⟨i, rfl, (List.findIdx?_eq_some_iff_getElem.1 hf).1⟩
structure RuJ (w X : World) (nm : List UInt8) (fv wv : Value) : Prop where
 low : Below w.heap.size w X
 img : X.heap[w.heap.size]? = some (.cells #[fv, wv] 37 (0, 0))
 name : X.heap[w.heap.size + 1]? = some (.cells #[.string ⟨nm.toArray⟩] 9 (0, 0))
 out : X.heap[w.heap.size + 2]? = some (.cells #[.string ⟨#[]⟩, .int .i64 0, .slice none 0 0, .int .i64 0] 40 (0, 0))
theorem RuJ.below {w X Y : World} {nm : List UInt8} {fv wv : Value} (h : RuJ w X nm fv wv) (hb : Below X.heap.size X Y) : RuJ w Y nm fv wv :=
 ⟨bl_trans h.low h.low.size hb, (hb.block _ (heap_lt h.img)).trans h.img, (hb.block _ (heap_lt h.name)).trans h.name, (hb.block _ (heap_lt h.out)).trans h.out⟩
end Go.Proofs.YtbcpomdcmilpjaaDoor
