/-
  Our own: package tree's parser: an expression and the end of its statement; a variable that is given what an expression is.
-/
import Derived.Test.YtcebpmaggnephabDoorTreeExpr
namespace Go.Proofs.YtcebpmaggnephabDoor
open Go.RowKit

/-- An expression, and the end of its statement. -/
def endT (T : List Tok) (n d i : Nat) : Rs Ex := (exprT T n d 1 i).bind fun e j => (needT T kSign [59] j).bind fun _ j => .ok e j
theorem need_st {α : Type} {T : List Tok} {k x : List UInt8} (r : Rs α) : needS T k x r.st = (r.bind fun e j => (needT T k x j).bind fun _ j => .ok e j).st := by
  cases r with
  | out => rfl
  | bad c k => rfl
  | ok e j => simp only [Rs.st_ok, needS, Rs.bind_ok]; cases needT T k x j <;> rfl
theorem need_val {α : Type} {T : List Tok} {k x : List UInt8} {r : Rs α} {e : α} {j : Nat} (h : (r.bind fun e j => (needT T k x j).bind fun _ j => .ok e j) = .ok e j) : ∃ j', r = .ok e j' := by
  cases r with
  | out => cases h
  | bad c k => cases h
  | ok y j' =>
    rw [Rs.bind_ok] at h
    cases hn : needT T k x j' with
    | out => rw [hn] at h; cases h
    | bad c k => rw [hn] at h; cases h
    | ok u j2 => rw [hn] at h; cases h; exact ⟨j', rfl⟩
theorem via_bind {α β : Type} (s : Rs Unit) (f : Nat → Rs α) (g : α → Nat → Rs β) : s.via (fun i => (f i).bind g) = (s.via f).bind g := by cases s <;> rfl
set_option maxRecDepth 100000 in
theorem ended_any {T : List Tok} {a : Nat → Addr} {p n d : Nat} {s : Rs Unit} {w : World} (hE : EOk T a p n) (h : PAt T a p d s w) (hout : s.via (endT T n d) ≠ .out) :
    Calls Tryd.prog 71 #[ptrV p] w (ExTo T a p d w (s.via (endT T n d))) := by
  have hlt := h.lt
  have he : s.via (endT T n d) = (s.via (exprT T n d 1)).bind fun e j => (needT T kSign [59] j).bind fun _ j => .ok e j := via_bind s _ _
  rw [he] at hout ⊢
  have ho : s.via (exprT T n d 1) ≠ .out := fun e => hout (by rw [e]; rfl)
  obtain ⟨r, hr⟩ : ∃ r, r = s.via (exprT T n d 1) := ⟨_, rfl⟩
  rw [← hr]
  have HR := hid hr
  have HO := hid ho
  clear he hout hr ho
  go_enter Tryd.func71, Tryd.ntmps71
  go_wp2_with fail
  have hb0 : Below w.heap.size w (w.alloc (.cells #[.string ⟨#[]⟩, .int .i64 0, .string ⟨#[]⟩, .slice none 0 0] 55)) := by (repeat (first | exact Below.refl _ _ | assumption | refine Below.drew ?_ | refine Below.trans ?_ (drewN_below' _ _ _) | refine Below.setCell ?_ (by first | (simp; done) | (simp; omega)) _ | refine Below.alloc ?_ (by first | (simp; done) | (simp; omega)) _))
  have hr0 := heap_alloc_new w (.cells #[.string ⟨#[]⟩, .int .i64 0, .string ⟨#[]⟩, .slice none 0 0] 55)
  have hz0 := size_alloc w (.cells #[.string ⟨#[]⟩, .int .i64 0, .string ⟨#[]⟩, .slice none 0 0] 55)
  generalize w.alloc (.cells #[.string ⟨#[]⟩, .int .i64 0, .string ⟨#[]⟩, .slice none 0 0] 55) = w0 at hb0 hr0 hz0 ⊢
  refine (hE d 1 s w0 (by omega) (by omega) (h.keep hb0) HO.out).mono ?_
  rw [← HR.out]
  rintro e w1 hx1
  obtain ⟨k, m, x, ad, c1, c2, rfl, k1, k2, k3⟩ := hx1.rep (rb := w.heap.size) (by omega)
  have hz1 := k3.size
  have hr1 := heap_keep k3 hr0 (by omega)
  have K1 := hid k1
  have K2 := hid k2
  have HR1 := hid hr1
  clear k1 k2 hx1 hr1
  go_wp2_with fail
  have hb2 : Below w1.heap.size w1 (w1.alloc (.cells #[.string k, .int .i64 m, .string x, .slice ad c1 c2] 55)) := by (repeat (first | exact Below.refl _ _ | assumption | refine Below.drew ?_ | refine Below.trans ?_ (drewN_below' _ _ _) | refine Below.setCell ?_ (by first | (simp; done) | (simp; omega)) _ | refine Below.alloc ?_ (by first | (simp; done) | (simp; omega)) _))
  have he2 := heap_alloc_new w1 (.cells #[.string k, .int .i64 m, .string x, .slice ad c1 c2] 55)
  have hz2 := size_alloc w1 (.cells #[.string k, .int .i64 m, .string x, .slice ad c1 c2] 55)
  generalize w1.alloc (.cells #[.string k, .int .i64 m, .string x, .slice ad c1 c2] 55) = w2 at hb2 he2 hz2 ⊢
  refine (need_any (K2.out.keep hb2) kSign [59] sign_ne).mono ?_
  rw [need_st]
  rintro e w3 ⟨rfl, hp3, hb3⟩
  have b3 : But p w1 w3 := (But.of hb2).trans hb3
  have hz3 := b3.size
  have hr3 := heap_keep b3 HR1.out (by omega)
  have he3 := heap_keep hb3 he2 (by omega)
  have n2 := heap_lt hr3
  have n3 := heap_lt he3
  have e50 : w3.cell? ⟨w1.heap.size, 0, none⟩ = some (.string k) := cell_of_blk he3 0
  have e51 : w3.cell? ⟨w1.heap.size, 1, none⟩ = some (.int .i64 m) := cell_of_blk he3 1
  have e52 : w3.cell? ⟨w1.heap.size, 2, none⟩ = some (.string x) := cell_of_blk he3 2
  have e53 : w3.cell? ⟨w1.heap.size, 3, none⟩ = some (.slice ad c1 c2) := cell_of_blk he3 3
  have r50 := cell_of_blk hr3 0
  have r51 := cell_of_blk hr3 1
  have r52 := cell_of_blk hr3 2
  have r53 := cell_of_blk hr3 3
  have q50 := free_of_blk hr3 0
  have q51 := free_of_blk hr3 1
  have q52 := free_of_blk hr3 2
  have q53 := free_of_blk hr3 3
  have HR3 := hid hr3
  have HP3 := hid hp3
  clear hr3 he3 hp3 he2 hb2 hb3
  go_wp2
  refine ret_ex Tryd.results71 rfl (by omega) (Nat.le_refl _) HR3.out HP3.out (((But.of hb0).trans k3).trans b3) (fun y j hy => ?_)
  obtain ⟨j', hy'⟩ := need_val hy
  have hk : Kept (w.heap.size + 1) w1 w3 := b3.kept (by omega)
  exact RepE.imp (hk.inB (Nat.le_refl _)) hk.keepA _ _ (K1.out y j' hy')

/-! A statement's cells. -/
abbrev smA (k m : ByteArray) (ek : ByteArray) (en : Int) (em : ByteArray) (ev tv ov : Value) : Value := .agg #[.string k, .string m, .string ek, .int .i64 en, .string em, ev, tv, ov]
/-- What a reader of a statement leaves. -/
def SmTo (T : List Tok) (a : Nat → Addr) (p d : Nat) (w : World) (r : Rs Sm) (e : Ending) (w' : World) : Prop :=
  ∃ k m ek en em ad1 l1 c1 ad2 l2 c2 ad3 l3 c3, e = .returned (smA k m ek en em (.slice ad1 l1 c1) (.slice ad2 l2 c2) (.slice ad3 l3 c3)) ∧
    (∀ x j, r = .ok x j → RepS (InB w.heap.size w') w' x [.string k, .string m, .string ek, .int .i64 en, .string em, .slice ad1 l1 c1, .slice ad2 l2 c2, .slice ad3 l3 c3]) ∧ PAt T a p d r.st w' ∧ But p w w'
/-- Eight cells stored. -/
abbrev put8 (w : World) (r o : Nat) (u0 u1 u2 u3 u4 u5 u6 u7 : Value) : World :=
  (((((((w.setCell ⟨r, o, none⟩ u0).setCell ⟨r, o + 1, none⟩ u1).setCell ⟨r, o + 2, none⟩ u2).setCell ⟨r, o + 3, none⟩ u3).setCell ⟨r, o + 4, none⟩ u4).setCell ⟨r, o + 5, none⟩ u5).setCell ⟨r, o + 6, none⟩ u6).setCell ⟨r, o + 7, none⟩ u7
theorem set8_blk {w : World} {r : Nat} {x0 x1 x2 x3 x4 x5 x6 x7 : Value} {t : TypeId} (h : w.heap[r]? = some (.cells #[x0, x1, x2, x3, x4, x5, x6, x7] t (0, 0))) (u0 u1 u2 u3 u4 u5 u6 u7 : Value) :
    (put8 w r 0 u0 u1 u2 u3 u4 u5 u6 u7).heap[r]? = some (.cells #[u0, u1, u2, u3, u4, u5, u6, u7] t (0, 0)) := by
  have := blk_setCell (blk_setCell (blk_setCell (blk_setCell (blk_setCell (blk_setCell (blk_setCell (blk_setCell h 0 u0) 1 u1) 2 u2) 3 u3) 4 u4) 5 u5) 6 u6) 7 u7
  simpa using this
theorem heap_put8 {w : World} {r o k : Nat} {u0 u1 u2 u3 u4 u5 u6 u7 : Value} (h : k ≠ r) : (put8 w r o u0 u1 u2 u3 u4 u5 u6 u7).heap[k]? = w.heap[k]? := by
  rw [heap_far h, heap_far h, heap_far h, heap_far h, heap_far h, heap_far h, heap_far h, heap_far h]
theorem size_put8 {w : World} {r o : Nat} {u0 u1 u2 u3 u4 u5 u6 u7 : Value} : (put8 w r o u0 u1 u2 u3 u4 u5 u6 u7).heap.size = w.heap.size := by simp [World.setCell]
theorem pat_put8 {T : List Tok} {a : Nat → Addr} {p d r : Nat} {s : Rs Unit} {w : World} (h : PAt T a p d s w) (hr : p < r) (hf : Far w r) (o : Nat) (u0 u1 u2 u3 u4 u5 u6 u7 : Value) : PAt T a p d s (put8 w r o u0 u1 u2 u3 u4 u5 u6 u7) :=
  (((((((h.setCell hr hf _ _).setCell hr (hf.set _ _) _ _).setCell hr ((hf.set _ _).set _ _) _ _).setCell hr (((hf.set _ _).set _ _).set _ _) _ _).setCell hr ((((hf.set _ _).set _ _).set _ _).set _ _) _ _).setCell hr (((((hf.set _ _).set _ _).set _ _).set _ _).set _ _) _ _).setCell hr ((((((hf.set _ _).set _ _).set _ _).set _ _).set _ _).set _ _) _ _).setCell hr (((((((hf.set _ _).set _ _).set _ _).set _ _).set _ _).set _ _).set _ _) _ _
theorem but_put8 {p r : Nat} {a w : World} (h : But p a w) (hr : a.heap.size ≤ r) (o : Nat) (u0 u1 u2 u3 u4 u5 u6 u7 : Value) : But p a (put8 w r o u0 u1 u2 u3 u4 u5 u6 u7) :=
  (((((((h.setNew r _ hr _).setNew r _ hr _).setNew r _ hr _).setNew r _ hr _).setNew r _ hr _).setNew r _ hr _).setNew r _ hr _).setNew r _ hr _
/-- The end of a reader of a statement: its result is laid into block r. -/
theorem ret_sm {T : List Tok} {a : Nat → Addr} {p d : Nat} {w w1 : World} {res : Rs Sm} {fn : Func} {tmps : Array Value} {r sl : Nat} {x0 x1 x2 x3 x4 x5 x6 x7 : Value} {k m ek : ByteArray} {en : Int} {em : ByteArray} {ad1 : Option Addr} {l1 c1 : Nat} {ad2 : Option Addr} {l2 c2 : Nat} {ad3 : Option Addr} {l3 c3 : Nat}
    (hres : fn.results = #[ResultVar.cell sl 57]) (hsl : tmps[sl]? = some (ptrV r)) (hr : p < r) (hs : w.heap.size ≤ r)
    (hx : w1.heap[r]? = some (.cells #[x0, x1, x2, x3, x4, x5, x6, x7] 57 (0, 0))) (hp : PAt T a p d res.st w1) (hb : But p w w1)
    (hrep : ∀ x j, res = .ok x j → RepS (InB (r + 1) w1) w1 x [.string k, .string m, .string ek, .int .i64 en, .string em, .slice ad1 l1 c1, .slice ad2 l2 c2, .slice ad3 l3 c3]) :
    bodyPost Tryd.prog fn (SmTo T a p d w res) Exit.ret { tmps := tmps, defers := [] } (put8 w1 r 0 (.string k) (.string m) (.string ek) (.int .i64 en) (.string em) (.slice ad1 l1 c1) (.slice ad2 l2 c2) (.slice ad3 l3 c3)) := by
  have hf : Far w1 r := ⟨_, _, hx, by decide⟩
  have h8 := set8_blk hx (.string k) (.string m) (.string ek) (.int .i64 en) (.string em) (.slice ad1 l1 c1) (.slice ad2 l2 c2) (.slice ad3 l3 c3)
  have hp8 := pat_put8 hp hr hf 0 (.string k) (.string m) (.string ek) (.int .i64 en) (.string em) (.slice ad1 l1 c1) (.slice ad2 l2 c2) (.slice ad3 l3 c3)
  have hb8 := but_put8 hb hs 0 (.string k) (.string m) (.string ek) (.int .i64 en) (.string em) (.slice ad1 l1 c1) (.slice ad2 l2 c2) (.slice ad3 l3 c3)
  have hk8 : ∀ b, b ≠ r → (put8 w1 r 0 (.string k) (.string m) (.string ek) (.int .i64 en) (.string em) (.slice ad1 l1 c1) (.slice ad2 l2 c2) (.slice ad3 l3 c3)).heap[b]? = w1.heap[b]? := fun b hb => heap_put8 hb
  have hz8 : (put8 w1 r 0 (.string k) (.string m) (.string ek) (.int .i64 en) (.string em) (.slice ad1 l1 c1) (.slice ad2 l2 c2) (.slice ad3 l3 c3)).heap.size = w1.heap.size := size_put8
  generalize put8 w1 r 0 (.string k) (.string m) (.string ek) (.int .i64 en) (.string em) (.slice ad1 l1 c1) (.slice ad2 l2 c2) (.slice ad3 l3 c3) = W at h8 hp8 hb8 hk8 hz8 ⊢
  have s0 := cell_of_blk h8 0
  have s1 := cell_of_blk h8 1
  have s2 := cell_of_blk h8 2
  have s3 := cell_of_blk h8 3
  have s4 := cell_of_blk h8 4
  have s5 := cell_of_blk h8 5
  have s6 := cell_of_blk h8 6
  have s7 := cell_of_blk h8 7
  refine bodyPost_ret (v := smA k m ek en em (.slice ad1 l1 c1) (.slice ad2 l2 c2) (.slice ad3 l3 c3)) ?_ rfl ⟨_, _, _, _, _, _, _, _, _, _, _, _, _, _, rfl, fun x j hj => ?_, hp8, hb8⟩
  · simp [results, hres, hsl, go_sem, s0, s1, s2, s3, s4, s5, s6, s7]
  · exact RepS.imp (fun b hb => ⟨by have := hb.1; omega, by have := hb.2; omega⟩) (fun b hb => hk8 b (by have := hb.1; omega)) _ _ (hrep x j hj)
end Go.Proofs.YtcebpmaggnephabDoor
