/- Our own: texts joined: Set5, AlWalkS. -/
import Derived.Test.YtimccbilkjjakaaDoorZBase
import Derived.Test.YtimccbilkjjakaaDoorZBlOk
import Derived.Test.YtimccbilkjjakaaDoorZTools
import Derived.Test.YtimccbilkjjakaaDoorZCkC
import Derived.Test.YtimccbilkjjakaaDoorZGRec
import Derived.Test.YtimccbilkjjakaaDoorZRets
namespace Go.Proofs.YtimccbilkjjakaaDoor
open Go.RowKit
theorem set5_blk {w : World} {r : Nat} {x0 x1 x2 x3 x4 : Value} {t : TypeId} (h : w.heap[r]? = some (.cells #[x0, x1, x2, x3, x4] t (0, 0))) (u0 u1 u2 u3 u4 : Value) :
  (((((w.setCell ⟨r, 0, none⟩ u0).setCell ⟨r, 1, none⟩ u1).setCell ⟨r, 2, none⟩ u2).setCell ⟨r, 3, none⟩ u3).setCell ⟨r, 4, none⟩ u4).heap[r]? = some (.cells #[u0, u1, u2, u3, u4] t (0, 0)) := by
 have h0 := blk_setCell h 0 u0
 have h1 := blk_setCell h0 1 u1
 have h2 := blk_setCell h1 2 u2
 have h3 := blk_setCell h2 3 u3
 have h4 := blk_setCell h3 4 u4
 simpa using h4
end Go.Proofs.YtimccbilkjjakaaDoor
namespace Go.Proofs.YtimccbilkjjakaaDoor
open Go.RowKit
theorem made_intsA (n : Nat) : madeCells #[.int .i64 0] n = (intsG (List.replicate n 0)).toArray := by
 apply Array.ext'
 apply List.ext_getElem?
 intro i
 simp [madeCells, intsG, List.getElem?_replicate]
 by_cases h : i < n <;> simp [h, Nat.mod_one]
theorem make_intsA (n : Nat) (hn : n ≤ 100000) (w : World) : (Instr.makeSlice 25 (.int .i64 (n : Int)) (.int .i64 (n : Int))).run Tryd.prog w = .ok (.slice (some ⟨w.heap.size, 0, none⟩) n n) (w.alloc (.cells (intsG (List.replicate n 0)).toArray 3)) := by
 obtain ⟨i0, hi, hz, hs, hb⟩ := info_parts (show (Tryd.prog.info? 3).map (fun i => (i.zero, i.size, i.bytes)) = some (some (.int .i64 0), 1, 8) by kernel_rfl)
 have hr := run_make (P := Tryd.prog) w 25 3 i0 _ Tryd.underlying25 hi hz .i64 .i64 n n (by omega) (Int.le_refl _) (by rw [hb]; omega) (by omega)
 simp only [Int.toNat_natCast, hs, show (Value.int .i64 0).cells = #[.int .i64 0] from rfl, Nat.mul_one] at hr
 rw [made_intsA] at hr
 exact hr
theorem two_alloc (w : World) (A B : Obj) : ((w.alloc A).alloc B).heap[w.heap.size]? = some A := (Below.heap_alloc _ _ _ (by simp)).trans (heap_alloc_new _ _)
abbrev doneZ : Array Value := #[.string ⟨#[]⟩, .int .i64 0, .int .i64 0, .slice none 0 0, .slice none 0 0]
theorem ft_codeP {w w' : World} {a : Nat → Addr} {r : Nat × Int} {v : Value} (h : FtTo w a r (.returned v) w') : (r.1 = 0 ∧ v = .nilIface) ∨ (r.1 ≠ 0 ∧ ∃ t u, v = .iface t u) := by
 obtain ⟨_, h⟩ := h
 split at h
 ·next c => injection h with h; exact Or.inl ⟨c, h⟩
 ·next c =>
  split at h
  ·injection h with h; exact Or.inr ⟨c, _, _, h⟩
  ·obtain ⟨b, h, _⟩ := h
   injection h with h; exact Or.inr ⟨c, _, _, h⟩
theorem butp_below {n : Nat} {X Y : World} (h : ButP (fun b => n ≤ b) X Y) (hn : n ≤ X.heap.size) : Below n X Y := ⟨h.os, h.tape, h.output, h.size, fun k hk => h.block k (by omega) (fun e => by have : n ≤ k := e; omega)⟩
abbrev akZ (rb vb vn : Nat) (argv : Value) : Array Value := #[.pointer (some ⟨rb, 0, none⟩), argv, .int .i64 0, .int .i64 0, .int .i64 0, .int .i64 0, .int .i64 0, .int .i64 0, .int .i64 0, .int .i64 0, .slice (some ⟨vb, 0, none⟩) vn vn, .int .i64 0, .int .i64 0, .int .i64 0, .int .i64 0]
theorem ak_of {W : World} {n wb rb vb vn : Nat} (hvn : vn ≤ 1000) {argv ansv : Value} {ticks : Int} (hk : W.heap[wb]? = some (.cells (akZ rb vb vn argv) 83 (0, 0))) (hv : W.heap[vb]? = some (.cells (intsG (List.replicate vn 0)).toArray 3 (0, 0))) (hr : RecE (fun _ => False) W rb st0 ansv ticks 0) (h1 : wb ≠ rb) (h2 : wb ≠ vb) (h3 : rb ≠ vb) (l1 : n ≤ wb) (l2 : n ≤ rb) (l3 : n ≤ vb) :
  AkJ (fun b => n ≤ b) (fun _ => False) W wb rb vb argv ansv st0 ticks 0 (raZ vn) :=
 ⟨by rw [show (raZ vn).slots.length = vn from List.length_replicate]; exact hk, hv, hr, h1, h2, h3, l1, l2, l3, fun _ e => e.elim, rfl, rfl, by rw [show (raZ vn).slots.length = vn from List.length_replicate]; exact hvn⟩
theorem ak_newA {W1 Y W3 : World} {vn : Nat} (hvn : vn ≤ 1000) {argv ansv : Value} {ticks : Int} (hY : Below W1.heap.size W1 Y) (hYz : Y.heap.size = W1.heap.size) (hrc : RecE (fun _ => False) W3 Y.heap.size st0 ansv ticks 0) (hb3 : Below Y.heap.size Y W3) (hz3 : W3.heap.size = Y.heap.size + 1) :
  AkJ (fun b => W1.heap.size ≤ b) (fun _ => False) ((W3.alloc (.cells (intsG (List.replicate vn 0)).toArray 3)).alloc (.cells (akZ W1.heap.size (W1.heap.size + 1) vn argv) 83)) (W1.heap.size + 1 + 1) W1.heap.size (W1.heap.size + 1) argv ansv st0 ticks 0 (raZ vn) ∧
   Below W1.heap.size W1 ((W3.alloc (.cells (intsG (List.replicate vn 0)).toArray 3)).alloc (.cells (akZ W1.heap.size (W1.heap.size + 1) vn argv) 83)) := by
 rw [hYz] at hrc hz3
 have e : W3.heap.size = W1.heap.size + 1 := hz3
 have hb13 : Below W1.heap.size W1 W3 := bl_trans hY hY.size hb3
 have hbb : ∀ A B, Below W3.heap.size W3 ((W3.alloc A).alloc B) := fun A B => ((Below.refl _ W3).alloc (Nat.le_refl _) A).alloc (by simp) B
 refine ⟨ak_of hvn ?_ ?_ (hrc.below (hbb _ _)) (by omega) (by omega) (by omega) (by omega) (by omega) (by omega), bl_trans hb13 hb13.size (hbb _ _)⟩
 ·rw [← e]; exact heap_alloc2_new W3 _ _
 ·rw [← e]; exact two_alloc W3 _ _
theorem ak_newB {W1 Y W3 : World} {vn : Nat} (hvn : vn ≤ 1000) {argv ansv : Value} {ticks : Int} (hY : Below W1.heap.size W1 Y) (hYz : Y.heap.size = W1.heap.size + 1) (hYv : Y.heap[W1.heap.size]? = some (.cells (intsG (List.replicate vn 0)).toArray 3 (0, 0))) (hrc : RecE (fun _ => False) W3 Y.heap.size st0 ansv ticks 0) (hb3 : Below Y.heap.size Y W3) (hz3 : W3.heap.size = Y.heap.size + 1) :
  AkJ (fun b => W1.heap.size ≤ b) (fun _ => False) (W3.alloc (.cells (akZ (W1.heap.size + 1) W1.heap.size vn argv) 83)) (W1.heap.size + 1 + 1) (W1.heap.size + 1) W1.heap.size argv ansv st0 ticks 0 (raZ vn) ∧
   Below W1.heap.size W1 (W3.alloc (.cells (akZ (W1.heap.size + 1) W1.heap.size vn argv) 83)) := by
 have hv3 := (hb3.block W1.heap.size (by omega)).trans hYv
 rw [hYz] at hrc hz3
 have e : W3.heap.size = W1.heap.size + 1 + 1 := hz3
 have hb13 : Below W1.heap.size W1 W3 := bl_trans hY (by omega) hb3
 have hbb : ∀ A, Below W3.heap.size W3 (W3.alloc A) := fun A => (Below.refl _ W3).alloc (Nat.le_refl _) A
 refine ⟨ak_of hvn ?_ ((Below.heap_alloc _ _ _ (by omega)).trans hv3) (hrc.below (hbb _)) (by omega) (by omega) (by omega) (by omega) (by omega) (by omega), bl_trans hb13 hb13.size (hbb _)⟩
 rw [← e]; exact heap_alloc_new W3 _
end Go.Proofs.YtimccbilkjjakaaDoor
