/- Our own: texts joined: RunJ. -/
import Derived.Test.YtmckajgacfjnhaaGreatDoorQPlOk
import Derived.Test.YtmckajgacfjnhaaGreatDoorQDoneAll
import Derived.Test.YtmckajgacfjnhaaGreatDoorQFitAll
import Derived.Test.YtmckajgacfjnhaaGreatDoorQSetS
import Derived.Test.YtmckajgacfjnhaaGreatDoorQAskAll
namespace Go.Proofs.YtmckajgacfjnhaaGreatDoor
open Go.RowKit
abbrev dnZ : Array Value := #[.string ⟨#[]⟩, .int .i64 0, .slice none 0 0, .int .i64 0, .slice none 0 0]
theorem made_intsR (n : Nat) : madeCells #[.int .i64 0] n = (intsG (List.replicate n 0)).toArray := by
 apply Array.ext'
 apply List.ext_getElem?
 intro i
 simp [madeCells, intsG, List.getElem?_replicate]
 by_cases h : i < n <;> simp [h, Nat.mod_one]
def DoneP (n0 : Nat) (w : World) (v : Value) (st : Rst) : Prop := ∃ outv callv xs, v = .agg (dnV st.how st.val st.tks outv callv).toArray ∧ XRow (fun b => n0 ≤ b ∧ b < w.heap.size) w outv st.out.length (intsG st.out) ∧ XRow (fun b => n0 ≤ b ∧ b < w.heap.size) w callv st.calls.length xs ∧ XCs (fun b => n0 ≤ b ∧ b < w.heap.size) w st.calls xs
theorem doneP_of {S : Nat → Prop} {X Y : World} {rb n0 : Nat} {s : Rst} {outv callv : Value} {xs : List Value} (h : DnJ S X rb s outv callv xs) (hf : ∀ k, S k → Y.heap[k]? = X.heap[k]?) (hz : Y.heap.size = X.heap.size) (hn : ∀ k, S k → n0 ≤ k) : DoneP n0 Y (.agg (dnV s.how s.val s.tks outv callv).toArray) s := by
 have hsz : ∀ b, S b → n0 ≤ b ∧ b < Y.heap.size := fun b hb => ⟨hn b hb, by rw [hz]; exact (h.sl b hb).1⟩
 have hrow : ∀ {t : TypeId} {size n : Nat} {v : Value} {ys : List Value}, X.ownsRow 0 t size v n ys → (∀ b, v.ownBlock = some b → S b) → XRow (fun b => n0 ≤ b ∧ b < Y.heap.size) Y v n ys := fun {t size n v ys} ho hs => by
  obtain ⟨ad, cap, rfl⟩ := own_is ho
  have h1 := xrow_own (own_same (w' := Y) ho (fun b e => hf b (hs b e)))
  refine ⟨ad, cap, rfl, fun hn0 => ?_⟩
  obtain ⟨g, off, e, _, _, hc⟩ := h1.get hn0
  subst e
  exact ⟨g, off, rfl, hsz g (hs g rfl), hc⟩
 exact ⟨outv, callv, xs, rfl, hrow h.out h.outS, hrow h.call h.callS, h.tel.imp (fun b hb => hsz b hb.1) (fun b hb => hf b hb.1)⟩
theorem alloc_size (w : World) (o : Obj) : (w.alloc o).heap.size = w.heap.size + 1 := by simp
theorem five_at (w : World) (a b c d e : Obj) : (((((w.alloc a).alloc b).alloc c).alloc d).alloc e).heap[w.heap.size]? = some a ∧ (((((w.alloc a).alloc b).alloc c).alloc d).alloc e).heap[w.heap.size + 1]? = some b ∧ (((((w.alloc a).alloc b).alloc c).alloc d).alloc e).heap[w.heap.size + 1 + 1]? = some c ∧ (((((w.alloc a).alloc b).alloc c).alloc d).alloc e).heap[w.heap.size + 1 + 1 + 1]? = some d ∧ (((((w.alloc a).alloc b).alloc c).alloc d).alloc e).heap[w.heap.size + 1 + 1 + 1 + 1]? = some e := by
 have z1 := alloc_size w a
 have z2 := alloc_size (w.alloc a) b
 have z3 := alloc_size ((w.alloc a).alloc b) c
 have z4 := alloc_size (((w.alloc a).alloc b).alloc c) d
 have n1 := heap_alloc_new w a
 have n2 := heap_alloc_new (w.alloc a) b
 have n3 := heap_alloc_new ((w.alloc a).alloc b) c
 have n4 := heap_alloc_new (((w.alloc a).alloc b).alloc c) d
 have n5 := heap_alloc_new ((((w.alloc a).alloc b).alloc c).alloc d) e
 rw [z1] at n2
 rw [z2, z1] at n3
 rw [z3, z2, z1] at n4
 rw [z4, z3, z2, z1] at n5
 refine ⟨?_, ?_, ?_, ?_, n5⟩
 ·rw [Below.heap_alloc _ _ _ (by omega), Below.heap_alloc _ _ _ (by omega), Below.heap_alloc _ _ _ (by omega), Below.heap_alloc _ _ _ (by omega)]; exact n1
 ·rw [Below.heap_alloc _ _ _ (by omega), Below.heap_alloc _ _ _ (by omega), Below.heap_alloc _ _ _ (by omega)]; exact n2
 ·rw [Below.heap_alloc _ _ _ (by omega), Below.heap_alloc _ _ _ (by omega)]; exact n3
 ·rw [Below.heap_alloc _ _ _ (by omega)]; exact n4
theorem keep_cell {X Z : World} {S : Nat → Prop} (kk : ∀ b, b < X.heap.size → ¬ S b → Z.heap[b]? = X.heap[b]?) {b o : Nat} {v : Value} (hb : b < X.heap.size) (hs : ¬ S b) (h : X.cell? ⟨b, o, none⟩ = some v) : Z.cell? ⟨b, o, none⟩ = some v := (World.cell?_of_block (w := X) (w' := Z) (a := ⟨b, o, none⟩) (kk b hb hs)).trans h
theorem keep_free {X Z : World} {S : Nat → Prop} (kk : ∀ b, b < X.heap.size → ¬ S b → Z.heap[b]? = X.heap[b]?) {b o : Nat} (hb : b < X.heap.size) (hs : ¬ S b) (h : X.frozen? ⟨b, o, none⟩ = false) : Z.frozen? ⟨b, o, none⟩ = false := (World.frozen?_of_block (w := X) (w' := Z) (a := ⟨b, o, none⟩) (kk b hb hs)).trans h
structure RnJ (w : World) (cv : Array Value) (kb : Nat) (bo : Option Obj) (X : World) (s : Rst) (gl : List Int) (hl : List Bool) : Prop where
 low : Below w.heap.size w X
 code : X.heap[w.heap.size]? = some (.cells cv 24 (0, 0))
 res : X.heap[w.heap.size + 1]? = some (.cells dnZ 42 (0, 0))
 got : X.heap[w.heap.size + 1 + 1]? = some (.cells (intsG gl).toArray 3 (0, 0))
 has : X.heap[w.heap.size + 1 + 1 + 1]? = some (.cells (boolsG hl).toArray 4 (0, 0))
 dn : ∃ S outv callv xs, DnJ S X (w.heap.size + 1 + 1 + 1 + 1) s outv callv xs ∧ ∀ b, S b → w.heap.size + 5 ≤ b ∧ b ≠ kb
 bx : X.heap[kb]? = bo
 kl : w.heap.size + 5 ≤ kb
section
variable {w X Y : World} {cv : Array Value} {kb : Nat} {bo : Option Obj} {s : Rst} {gl : List Int} {hl : List Bool}
theorem RnJ.size (h : RnJ w cv kb bo X s gl hl) : w.heap.size + 5 ≤ X.heap.size := by
 obtain ⟨S, o, c, xs, hd, _⟩ := h.dn
 have := hd.rl; omega
theorem RnJ.below (h : RnJ w cv kb bo X s gl hl) (hkb : kb < X.heap.size) (hb : Below X.heap.size X Y) : RnJ w cv kb bo Y s gl hl := by
 obtain ⟨S, o, c, xs, hd, hs⟩ := h.dn
 refine ⟨bl_trans h.low h.low.size hb, (hb.block _ (heap_lt h.code)).trans h.code, (hb.block _ (heap_lt h.res)).trans h.res, (hb.block _ (heap_lt h.got)).trans h.got, (hb.block _ (heap_lt h.has)).trans h.has, ⟨S, o, c, xs, hd.keep hb.size (fun k hk => hb.block k (hk.elim (fun e => e ▸ hd.rl) (fun e => (hd.sl k e).1))), hs⟩, (hb.block _ hkb).trans h.bx, h.kl⟩
theorem RnJ.rebox (h : RnJ w cv kb bo X s gl hl) (hb : Below X.heap.size X Y) : RnJ w cv X.heap.size Y.heap[X.heap.size]? Y s gl hl := by
 have hz := h.size
 obtain ⟨S, o, c, xs, hd, hs⟩ := h.dn
 exact ⟨bl_trans h.low h.low.size hb, (hb.block _ (heap_lt h.code)).trans h.code, (hb.block _ (heap_lt h.res)).trans h.res, (hb.block _ (heap_lt h.got)).trans h.got, (hb.block _ (heap_lt h.has)).trans h.has, ⟨S, o, c, xs, hd.keep hb.size (fun k hk => hb.block k (hk.elim (fun e => e ▸ hd.rl) (fun e => (hd.sl k e).1))), fun b e => ⟨(hs b e).1, by have := (hd.sl b e).1; omega⟩⟩, rfl, hz⟩
theorem RnJ.again (h : RnJ w cv kb bo X s gl hl) {s' : Rst} {S S' : Nat → Prop} {o c o' c' : Value} {xs xs' : List Value} (hd : DnJ S X (w.heap.size + 1 + 1 + 1 + 1) s o c xs) (hs : ∀ b, S b → w.heap.size + 5 ≤ b ∧ b ≠ kb) (hkb : kb < X.heap.size) (hos : Y.os = X.os) (hta : Y.tape = X.tape) (hou : Y.output = X.output) (hz : X.heap.size ≤ Y.heap.size) (hb : ∀ b, b < X.heap.size → b ≠ w.heap.size + 1 + 1 + 1 + 1 → ¬ S b → Y.heap[b]? = X.heap[b]?) (hd' : DnJ S' Y (w.heap.size + 1 + 1 + 1 + 1) s' o' c' xs') (hs' : ∀ b, S' b → S b ∨ w.heap.size + 5 ≤ b ∧ b ≠ kb) : RnJ w cv kb bo Y s' gl hl := by
 have hn := hd.rl
 have kk : ∀ b, b < w.heap.size + 1 + 1 + 1 + 1 → Y.heap[b]? = X.heap[b]? := fun b h1 => hb b (by omega) (by omega) (fun e => by have := hs b e; omega)
 have hkl := h.kl
 exact ⟨⟨hos.trans h.low.os, hta.trans h.low.tape, hou.trans h.low.output, Nat.le_trans h.low.size hz, fun k hk => (kk k (by omega)).trans (h.low.block k hk)⟩, (kk _ (by omega)).trans h.code, (kk _ (by omega)).trans h.res, (kk _ (by omega)).trans h.got, (kk _ (by omega)).trans h.has, ⟨S', o', c', xs', hd', fun b e => (hs' b e).elim (fun e => hs b e) id⟩, (hb kb hkb (by omega) (fun e => (hs kb e).2 rfl)).trans h.bx, hkl⟩
theorem RnJ.field (h : RnJ w cv kb bo X s gl hl) {s' : Rst} {S : Nat → Prop} {o c : Value} {xs : List Value} (hd : DnJ S X (w.heap.size + 1 + 1 + 1 + 1) s o c xs) (hs : ∀ b, S b → w.heap.size + 5 ≤ b ∧ b ≠ kb) (hkb : kb < X.heap.size) (ho : s'.out = s.out) (hc : s'.calls = s.calls) (i : Nat) (u : Value) (hk : (dnV s.how s.val s.tks o c).set i u = dnV s'.how s'.val s'.tks o c) : RnJ w cv kb bo (X.setCell ⟨w.heap.size + 1 + 1 + 1 + 1, i, none⟩ u) s' gl hl :=
 h.again hd hs hkb rfl rfl rfl (by simp [World.setCell]) (fun b _ hn _ => Below.heap_setCell _ _ _ _ hn) (hd.set ho hc i u hk) (fun _ e => Or.inl e)
theorem RnJ.fieldE (h : RnJ w cv kb bo X s gl hl) {s' : Rst} {S : Nat → Prop} {o c : Value} {xs : List Value} (hd : DnJ S X (w.heap.size + 1 + 1 + 1 + 1) s o c xs) (hs : ∀ b, S b → w.heap.size + 5 ≤ b ∧ b ≠ kb) (ho : s'.out = s.out) (hc : s'.calls = s.calls) (i : Nat) (u : Value) (hk : (dnV s.how s.val s.tks o c).set i u = dnV s'.how s'.val s'.tks o c) : RnJ w cv kb (X.setCell ⟨w.heap.size + 1 + 1 + 1 + 1, i, none⟩ u).heap[kb]? (X.setCell ⟨w.heap.size + 1 + 1 + 1 + 1, i, none⟩ u) s' gl hl := by
 have kk : ∀ b, b ≠ w.heap.size + 1 + 1 + 1 + 1 → (X.setCell ⟨w.heap.size + 1 + 1 + 1 + 1, i, none⟩ u).heap[b]? = X.heap[b]? := fun b hb => Below.heap_setCell _ _ _ _ hb
 exact ⟨h.low.setCell (by show w.heap.size ≤ w.heap.size + 1 + 1 + 1 + 1; omega) _, (kk _ (by omega)).trans h.code, (kk _ (by omega)).trans h.res, (kk _ (by omega)).trans h.got, (kk _ (by omega)).trans h.has, ⟨S, o, c, xs, hd.set ho hc i u hk, hs⟩, rfl, h.kl⟩
theorem intsG_set (gl : List Int) (d : Nat) (y : Int) : (intsG gl).toArray.setIfInBounds d (.int .i64 y) = (intsG (gl.set d y)).toArray := by
 rw [List.setIfInBounds_toArray]
 simp [intsG]
theorem RnJ.put (h : RnJ w cv kb bo X s gl hl) (d : Nat) (y : Int) : RnJ w cv kb bo ((X.setCell ⟨w.heap.size + 1 + 1, d, none⟩ (.int .i64 y)).setCell ⟨w.heap.size + 1 + 1 + 1, d, none⟩ (.bool true)) s (gl.set d y) (hl.set d true) := by
 obtain ⟨S, o, c, xs, hd, hs⟩ := h.dn
 have hkl := h.kl
 have kk : ∀ b, b ≠ w.heap.size + 1 + 1 → b ≠ w.heap.size + 1 + 1 + 1 → ((X.setCell ⟨w.heap.size + 1 + 1, d, none⟩ (.int .i64 y)).setCell ⟨w.heap.size + 1 + 1 + 1, d, none⟩ (.bool true)).heap[b]? = X.heap[b]? := fun b h1 h2 => (Below.heap_setCell _ _ _ _ h2).trans (Below.heap_setCell _ _ _ _ h1)
 have hz : ((X.setCell ⟨w.heap.size + 1 + 1, d, none⟩ (.int .i64 y)).setCell ⟨w.heap.size + 1 + 1 + 1, d, none⟩ (.bool true)).heap.size = X.heap.size := by simp [World.setCell]
 refine ⟨(h.low.setCell (by show w.heap.size ≤ w.heap.size + 1 + 1; omega) _).setCell (by show w.heap.size ≤ w.heap.size + 1 + 1 + 1; omega) _, (kk _ (by omega) (by omega)).trans h.code, (kk _ (by omega) (by omega)).trans h.res, ?_, ?_, ⟨S, o, c, xs, hd.keep (by rw [hz]; exact Nat.le_refl _) (fun k hk => kk k (hk.elim (fun e => by omega) (fun e => by have := (hs k e).1; omega)) (hk.elim (fun e => by omega) (fun e => by have := (hs k e).1; omega))), hs⟩, (kk kb (by omega) (by omega)).trans h.bx, hkl⟩
 ·have h1 := blk_setCell h.got d (.int .i64 y)
  rw [intsG_set] at h1
  exact (Below.heap_setCell _ _ _ _ (by show w.heap.size + 1 + 1 ≠ w.heap.size + 1 + 1 + 1; omega)).trans h1
 ·have h1 := (Below.heap_setCell X ⟨w.heap.size + 1 + 1, d, none⟩ (.int .i64 y) (w.heap.size + 1 + 1 + 1) (by show w.heap.size + 1 + 1 + 1 ≠ w.heap.size + 1 + 1; omega)).trans h.has
  have h2 := blk_setCell h1 d (.bool true)
  rw [boolsG_set] at h2
  exact h2
theorem valsG_set (gl : List Int) (hl : List Bool) (hlen : gl.length = hl.length) (d : Nat) (hd : d < hl.length) (y : Int) : valsG (gl.set d y) (hl.set d true) = setP (valsG gl hl) (d, y) := by
 funext j
 unfold valsG setP
 by_cases e : j = d
 ·subst e; simp [List.getD, hd, hlen]
 ·rw [if_neg e, show (gl.set d y).getD j 0 = gl.getD j 0 from by simp [List.getD, List.getElem?_set_ne (Ne.symm e)], show (hl.set d true).getD j false = hl.getD j false from by simp [List.getD, List.getElem?_set_ne (Ne.symm e)]]
theorem setP_64 {g : Nat → Option Int} (h : Got64 g) {p : Nat × Int} (hp : In64 p.2) : Got64 (setP g p) := fun i v e => by
 unfold setP at e
 split at e
 ·injection e with e; rw [← e]; exact hp
 ·exact h i v e
theorem ask_64 {g : Nat → Option Int} (h : Got64 g) {l : List Nat} {vs : List Int} (ha : askX g l = some vs) : ∀ v ∈ vs, In64 v := by
 intro v hv
 obtain ⟨j, hj, rfl⟩ := List.getElem_of_mem hv
 obtain ⟨h1, h2⟩ := askX_at ha
 exact h _ _ (h2 j (by omega) hj)
theorem run_fin {Z : World} {S : Nat → Prop} {o c : Value} {xs : List Value} (h : RnJ w cv kb bo Z s gl hl) (hd : DnJ S Z (w.heap.size + 1 + 1 + 1 + 1) s o c xs) (hs : ∀ b, S b → w.heap.size + 5 ≤ b ∧ b ≠ kb) :
  Below w.heap.size w (((((Z.setCell ⟨w.heap.size + 1, 0, none⟩ (.string ⟨s.how.toArray⟩)).setCell ⟨w.heap.size + 1, 1, none⟩ (.int .i64 s.val)).setCell ⟨w.heap.size + 1, 2, none⟩ o).setCell ⟨w.heap.size + 1, 3, none⟩ (.int .i64 s.tks)).setCell ⟨w.heap.size + 1, 4, none⟩ c) ∧
  (((((Z.setCell ⟨w.heap.size + 1, 0, none⟩ (.string ⟨s.how.toArray⟩)).setCell ⟨w.heap.size + 1, 1, none⟩ (.int .i64 s.val)).setCell ⟨w.heap.size + 1, 2, none⟩ o).setCell ⟨w.heap.size + 1, 3, none⟩ (.int .i64 s.tks)).setCell ⟨w.heap.size + 1, 4, none⟩ c).heap[w.heap.size + 1]? = some (.cells #[.string ⟨s.how.toArray⟩, .int .i64 s.val, o, .int .i64 s.tks, c] 42 (0, 0)) ∧
  DoneP w.heap.size (((((Z.setCell ⟨w.heap.size + 1, 0, none⟩ (.string ⟨s.how.toArray⟩)).setCell ⟨w.heap.size + 1, 1, none⟩ (.int .i64 s.val)).setCell ⟨w.heap.size + 1, 2, none⟩ o).setCell ⟨w.heap.size + 1, 3, none⟩ (.int .i64 s.tks)).setCell ⟨w.heap.size + 1, 4, none⟩ c) (.agg (dnV s.how s.val s.tks o c).toArray) s := by
 have hle : w.heap.size ≤ w.heap.size + 1 := by omega
 refine ⟨((((h.low.setCell (by exact hle) _).setCell (by exact hle) _).setCell (by exact hle) _).setCell (by exact hle) _).setCell (by exact hle) _, set5_blk h.res _ _ _ _ _, doneP_of hd (fun k hk => ?_) (by simp [World.setCell]) (fun k hk => by have := (hs k hk).1; omega)⟩
 have hn : k ≠ w.heap.size + 1 := by have := (hs k hk).1; omega
 rw [Below.heap_setCell _ _ _ _ hn, Below.heap_setCell _ _ _ _ hn, Below.heap_setCell _ _ _ _ hn, Below.heap_setCell _ _ _ _ hn, Below.heap_setCell _ _ _ _ hn]
theorem valsG_none (n : Nat) : valsG (List.replicate n 0) (List.replicate n false) = fun _ => none := by
 funext i
 unfold valsG
 rcases Nat.lt_or_ge i n with h | h
 ·simp [List.getD, h]
 ·simp [List.getD, h]
end
end Go.Proofs.YtmckajgacfjnhaaGreatDoor
