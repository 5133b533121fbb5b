/- Our own: texts joined: Set5, PlWalkS. -/
import Derived.Test.YtmckajgacfjnhaaGreatDoorQBase
import Derived.Test.YtmckajgacfjnhaaGreatDoorQPlOk
import Derived.Test.YtmckajgacfjnhaaGreatDoorQTools
import Derived.Test.YtmckajgacfjnhaaGreatDoorQPlCheck
import Derived.Test.YtmckajgacfjnhaaGreatDoorQGrDoneV
import Derived.Test.YtmckajgacfjnhaaGreatDoorQRets
namespace Go.Proofs.YtmckajgacfjnhaaGreatDoor
open Go.RowKit
theorem set5_blk {w : World} {r : Nat} {x0 x1 x2 x3 x4 : Value} {t : TypeId} (h : w.heap[r]? = some (.cells #[x0, x1, x2, x3, x4] t (0, 0))) (u0 u1 u2 u3 u4 : Value) :
  (((((w.setCell ⟨r, 0, none⟩ u0).setCell ⟨r, 1, none⟩ u1).setCell ⟨r, 2, none⟩ u2).setCell ⟨r, 3, none⟩ u3).setCell ⟨r, 4, none⟩ u4).heap[r]? = some (.cells #[u0, u1, u2, u3, u4] t (0, 0)) := by
 have h0 := blk_setCell h 0 u0
 have h1 := blk_setCell h0 1 u1
 have h2 := blk_setCell h1 2 u2
 have h3 := blk_setCell h2 3 u3
 have h4 := blk_setCell h3 4 u4
 simpa using h4
end Go.Proofs.YtmckajgacfjnhaaGreatDoor
namespace Go.Proofs.YtmckajgacfjnhaaGreatDoor
open Go.RowKit
theorem pval_info : (Tryz.prog.info? 162).map (fun i => (i.zero, i.size, i.bytes)) = some (some (.agg #[.int .i64 0, .bool false]), 2, 16) := by kernel_rfl
theorem valC_zero (n i : Nat) : (valC (List.replicate n (0, false)))[i]? = if i < n * 2 then some (if i % 2 = 0 then .int .i64 0 else .bool false) else none := by
 have hl := valC_len (List.replicate n ((0 : Int), false))
 rw [List.length_replicate] at hl
 by_cases h : i < n * 2
 ·rw [if_pos h]
  have hq : i / 2 < (List.replicate n ((0 : Int), false)).length := by rw [List.length_replicate]; omega
  obtain ⟨h1, h2⟩ := valC_at hq
  by_cases e : i % 2 = 0
  ·rw [if_pos e]
   rw [show i / 2 * 2 = i by omega] at h1
   simpa using h1
  ·rw [if_neg e]
   rw [show i / 2 * 2 + 1 = i by omega] at h2
   simpa using h2
 ·rw [if_neg h, List.getElem?_eq_none (by omega)]
theorem made_vals (n : Nat) : madeCells #[.int .i64 0, .bool false] (n * 2) = (valC (List.replicate n (0, false))).toArray := by
 apply Array.ext'
 apply List.ext_getElem?
 intro i
 rw [valC_zero]
 simp [madeCells]
 by_cases h : i < n * 2
 ·simp [h]
  have : i % 2 = 0 ∨ i % 2 = 1 := by omega
  rcases this with e | e <;> (rw [e]; rfl)
 ·simp [h]
theorem make_vals (n : Nat) (hn : n ≤ 100000) (w : World) : (Instr.makeSlice 88 (.int .i64 (n : Int)) (.int .i64 (n : Int))).run Tryz.prog w = .ok (.slice (some ⟨w.heap.size, 0, none⟩) n n) (w.alloc (.cells (valC (List.replicate n (0, false))).toArray 162)) := by
 obtain ⟨i0, hi, hz, hs, hb⟩ := info_parts pval_info
 have hr := run_make (P := Tryz.prog) w 88 162 i0 _ Tryz.underlying88 hi hz .i64 .i64 n n (by omega) (Int.le_refl _) (by rw [hb]; omega) (by omega)
 simp only [Int.toNat_natCast, hs, show (Value.agg #[.int .i64 0, .bool false]).cells = #[.int .i64 0, .bool false] from rfl] at hr
 rw [made_vals] at hr
 exact hr
theorem valsV_none (n : Nat) : valsV (List.replicate n (0, false)) = fun _ => none := by
 funext i
 unfold valsV
 rcases Nat.lt_or_ge i n with h | h
 ·simp [List.getD, h]
 ·simp [List.getD, h]
theorem two_alloc (w : World) (A B : Obj) : ((w.alloc A).alloc B).heap[w.heap.size]? = some A := (Below.heap_alloc _ _ _ (by simp)).trans (heap_alloc_new _ _)
abbrev codeV (nm : List UInt8) (P V : Int) (ba : Option Addr) (n bc : Nat) : Array Value := #[.string ⟨nm.toArray⟩, .int .i64 P, .int .i64 V, .slice ba n bc]
abbrev doneZ : Array Value := #[.string ⟨#[]⟩, .int .i64 0, .int .i64 0, .slice none 0 0, .slice none 0 0]
theorem ft_codeP {w w' : World} {a : Nat → Addr} {r : Nat × Int} {v : Value} (h : FtTo w a r (.returned v) w') : (r.1 = 0 ∧ v = .nilIface) ∨ (r.1 ≠ 0 ∧ ∃ t u, v = .iface t u) := by
 obtain ⟨_, h⟩ := h
 split at h
 ·next c => injection h with h; exact Or.inl ⟨c, h⟩
 ·next c =>
  split at h
  ·injection h with h; exact Or.inr ⟨c, _, _, h⟩
  ·obtain ⟨b, h, _⟩ := h
   injection h with h; exact Or.inr ⟨c, _, _, h⟩
theorem butp_below {n : Nat} {X Y : World} (h : ButP (fun b => n ≤ b) X Y) (hn : n ≤ X.heap.size) : Below n X Y := ⟨h.os, h.tape, h.output, h.size, fun k hk => h.block k (by omega) (fun e => by have : n ≤ k := e; omega)⟩
theorem pk_of {W : World} {n wb rb vb vn : Nat} {bv argv ansv : Value} {ticks : Int} (hk : W.heap[wb]? = some (.cells #[.pointer (some ⟨rb, 0, none⟩), bv, argv, .slice (some ⟨vb, 0, none⟩) vn vn, .slice none 0 0] 90 (0, 0))) (hv : W.heap[vb]? = some (.cells (valC (List.replicate vn (0, false))).toArray 162 (0, 0))) (hr : RecE (fun _ => False) W rb st0 ansv ticks 0) (h1 : wb ≠ rb) (h2 : wb ≠ vb) (h3 : rb ≠ vb) (l1 : n ≤ wb) (l2 : n ≤ rb) (l3 : n ≤ vb) :
  PkJ (fun b => n ≤ b) (fun _ => False) W wb rb vb bv argv ansv (.slice none 0 0) st0 ticks 0 (List.replicate vn (0, false)) [] :=
 ⟨by rw [List.length_replicate]; exact hk, hv, hr, World.ownsRow_nil _ _ _ _, h1, h2, h3, l1, l2, l3, fun _ e => e.elim, fun b e => by simp [Value.ownBlock] at e⟩
theorem pk_newA {W1 Y W3 : World} {vn : Nat} {bv argv ansv : Value} {ticks : Int} (hY : Below W1.heap.size W1 Y) (hYz : Y.heap.size = W1.heap.size) (hrc : RecE (fun _ => False) W3 Y.heap.size st0 ansv ticks 0) (hb3 : Below Y.heap.size Y W3) (hz3 : W3.heap.size = Y.heap.size + 1) :
  PkJ (fun b => W1.heap.size ≤ b) (fun _ => False) ((W3.alloc (.cells (valC (List.replicate vn (0, false))).toArray 162)).alloc (.cells #[.pointer (some ⟨W1.heap.size, 0, none⟩), bv, argv, .slice (some ⟨W1.heap.size + 1, 0, none⟩) vn vn, .slice none 0 0] 90)) (W1.heap.size + 1 + 1) W1.heap.size (W1.heap.size + 1) bv argv ansv (.slice none 0 0) st0 ticks 0 (List.replicate vn (0, false)) [] ∧
   Below W1.heap.size W1 ((W3.alloc (.cells (valC (List.replicate vn (0, false))).toArray 162)).alloc (.cells #[.pointer (some ⟨W1.heap.size, 0, none⟩), bv, argv, .slice (some ⟨W1.heap.size + 1, 0, none⟩) vn vn, .slice none 0 0] 90)) := by
 rw [hYz] at hrc hz3
 have e : W3.heap.size = W1.heap.size + 1 := hz3
 have hb13 : Below W1.heap.size W1 W3 := bl_trans hY hY.size hb3
 have hbb : ∀ A B, Below W3.heap.size W3 ((W3.alloc A).alloc B) := fun A B => ((Below.refl _ W3).alloc (Nat.le_refl _) A).alloc (by simp) B
 refine ⟨pk_of ?_ ?_ (hrc.below (hbb _ _)) (by omega) (by omega) (by omega) (by omega) (by omega) (by omega), bl_trans hb13 hb13.size (hbb _ _)⟩
 ·rw [← e]; exact heap_alloc2_new W3 _ _
 ·rw [← e]; exact two_alloc W3 _ _
theorem pk_newB {W1 Y W3 : World} {vn : Nat} {bv argv ansv : Value} {ticks : Int} (hY : Below W1.heap.size W1 Y) (hYz : Y.heap.size = W1.heap.size + 1) (hYv : Y.heap[W1.heap.size]? = some (.cells (valC (List.replicate vn (0, false))).toArray 162 (0, 0))) (hrc : RecE (fun _ => False) W3 Y.heap.size st0 ansv ticks 0) (hb3 : Below Y.heap.size Y W3) (hz3 : W3.heap.size = Y.heap.size + 1) :
  PkJ (fun b => W1.heap.size ≤ b) (fun _ => False) (W3.alloc (.cells #[.pointer (some ⟨W1.heap.size + 1, 0, none⟩), bv, argv, .slice (some ⟨W1.heap.size, 0, none⟩) vn vn, .slice none 0 0] 90)) (W1.heap.size + 1 + 1) (W1.heap.size + 1) W1.heap.size bv argv ansv (.slice none 0 0) st0 ticks 0 (List.replicate vn (0, false)) [] ∧
   Below W1.heap.size W1 (W3.alloc (.cells #[.pointer (some ⟨W1.heap.size + 1, 0, none⟩), bv, argv, .slice (some ⟨W1.heap.size, 0, none⟩) vn vn, .slice none 0 0] 90)) := by
 have hv3 := (hb3.block W1.heap.size (by omega)).trans hYv
 rw [hYz] at hrc hz3
 have e : W3.heap.size = W1.heap.size + 1 + 1 := hz3
 have hb13 : Below W1.heap.size W1 W3 := bl_trans hY (by omega) hb3
 have hbb : ∀ A, Below W3.heap.size W3 (W3.alloc A) := fun A => (Below.refl _ W3).alloc (Nat.le_refl _) A
 refine ⟨pk_of ?_ ((Below.heap_alloc _ _ _ (by omega)).trans hv3) (hrc.below (hbb _)) (by omega) (by omega) (by omega) (by omega) (by omega) (by omega), bl_trans hb13 hb13.size (hbb _)⟩
 rw [← e]; exact heap_alloc_new W3 _
end Go.Proofs.YtmckajgacfjnhaaGreatDoor
