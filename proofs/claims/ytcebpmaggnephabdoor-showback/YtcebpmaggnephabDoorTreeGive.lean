/-
  Our own: package tree's parser: a variable that is given what an expression is.
-/
import Derived.Test.YtcebpmaggnephabDoorTreeEnded
namespace Go.Proofs.YtcebpmaggnephabDoor
open Go.RowKit

/-- A name, a sign, an expression, and the end. -/
def giveT (T : List Tok) (n d : Nat) (kind : List UInt8) (i : Nat) : Rs Sm :=
  (nameT T i).bind fun x j => (needT T kSign [61] j).bind fun _ j => (endT T n d j).bind fun e j => .ok (.mk kind x e [] []) j
theorem st_ok {α : Type} {r : Rs α} {u : Unit} {j : Nat} (h : r.st = .ok u j) : ∃ x, r = .ok x j := by
  cases r with
  | out => cases h
  | bad c k => cases h
  | ok x i => cases h; exact ⟨x, rfl⟩
theorem give_parts {T : List Tok} {n d : Nat} {kind : List UInt8} (s : Rs Unit) : ∃ r2 : Rs (List UInt8), needS T kSign [61] (nameR T s).st = r2.st ∧ (s.via (giveT T n d kind)).st = (r2.st.via (endT T n d)).st ∧ (s.via (giveT T n d kind) ≠ .out → r2.st.via (endT T n d) ≠ .out) ∧
    ∀ y j, s.via (giveT T n d kind) = .ok y j → ∃ x e j1, nameR T s = .ok x j1 ∧ r2.st.via (endT T n d) = .ok e j ∧ y = .mk kind x e [] [] := by
  refine ⟨(nameR T s).bind fun x j => (needT T kSign [61] j).bind fun _ j => .ok x j, need_st _, ?_⟩
  have e : s.via (giveT T n d kind) = (nameR T s).bind fun x j => (needT T kSign [61] j).bind fun _ j => (endT T n d j).bind fun e j => .ok (.mk kind x e [] []) j := via_bind s _ _
  rw [e]
  cases nameR T s with
  | out => exact ⟨rfl, fun h => h.elim rfl, fun _ _ h => by cases h⟩
  | bad c k => exact ⟨rfl, fun _ h => (by cases h), fun _ _ h => (by cases h)⟩
  | ok x j1 =>
    simp only [Rs.bind_ok]
    cases needT T kSign [61] j1 with
    | out => exact ⟨rfl, fun h => h.elim rfl, fun _ _ h => by cases h⟩
    | bad c k => exact ⟨rfl, fun _ h => (by cases h), fun _ _ h => (by cases h)⟩
    | ok u j2 =>
      simp only [Rs.bind_ok, Rs.st_ok, Rs.via_ok]
      cases hz : endT T n d j2 with
      | out => exact ⟨rfl, fun h => h.elim rfl, fun _ _ h => by cases h⟩
      | bad c k => exact ⟨rfl, fun _ h => (by cases h), fun _ _ h => (by cases h)⟩
      | ok e j3 => exact ⟨rfl, fun _ h => (by cases h), fun y j h => by cases h; exact ⟨x, e, j1, rfl, rfl, rfl⟩⟩
theorem rows_nil (A : Nat → Prop) (w : World) : Row A w (.slice none 0 0) ([] : List Sm).length [] ∧ RepSs A w [] [] := ⟨row_nil A w, rfl⟩
/-- A statement without blocks. -/
theorem rep_flat {A : Nat → Prop} {w : World} {kind x : List UInt8} {e : Ex} {cs : List Value} (h : RepE A w e cs) : RepS A w (.mk kind x e [] []) (.string ⟨kind.toArray⟩ :: .string ⟨x.toArray⟩ :: (cs ++ [.slice none 0 0, .slice none 0 0])) :=
  ⟨cs, _, [], _, [], rfl, h, row_nil A w, rfl, row_nil A w, rfl⟩
set_option maxRecDepth 100000 in
theorem give_any {T : List Tok} {a : Nat → Addr} {p n d : Nat} {s : Rs Unit} {w : World} (hE : EOk T a p n) (kind : List UInt8) (h : PAt T a p d s w) (hout : s.via (giveT T n d kind) ≠ .out) :
    Calls Tryd.prog 69 #[ptrV p, .string ⟨kind.toArray⟩] w (SmTo T a p d w (s.via (giveT T n d kind))) := by
  have hlt := h.lt
  obtain ⟨r2, g1, g2, g3, g4⟩ := give_parts (T := T) (n := n) (d := d) (kind := kind) s
  obtain ⟨r, hr⟩ : ∃ r, r = s.via (giveT T n d kind) := ⟨_, rfl⟩
  rw [← hr] at g2 g3 g4 hout ⊢
  have ho := g3 hout
  have G1 := hid g1
  have G2 := hid g2
  have G4 := hid g4
  have HO := hid ho
  clear g1 g2 g3 g4 ho hr hout
  go_enter Tryd.func69, Tryd.ntmps69
  go_wp2_with fail
  have hb0 : Below w.heap.size w (w.alloc (.cells #[.string ⟨#[]⟩, .string ⟨#[]⟩, .string ⟨#[]⟩, .int .i64 0, .string ⟨#[]⟩, .slice none 0 0, .slice none 0 0, .slice none 0 0] 57)) := by (repeat (first | exact Below.refl _ _ | assumption | refine Below.drew ?_ | refine Below.trans ?_ (drewN_below' _ _ _) | refine Below.setCell ?_ (by first | (simp; done) | (simp; omega)) _ | refine Below.alloc ?_ (by first | (simp; done) | (simp; omega)) _))
  have hr0 := heap_alloc_new w (.cells #[.string ⟨#[]⟩, .string ⟨#[]⟩, .string ⟨#[]⟩, .int .i64 0, .string ⟨#[]⟩, .slice none 0 0, .slice none 0 0, .slice none 0 0] 57)
  have hz0 := size_alloc w (.cells #[.string ⟨#[]⟩, .string ⟨#[]⟩, .string ⟨#[]⟩, .int .i64 0, .string ⟨#[]⟩, .slice none 0 0, .slice none 0 0, .slice none 0 0] 57)
  generalize w.alloc (.cells #[.string ⟨#[]⟩, .string ⟨#[]⟩, .string ⟨#[]⟩, .int .i64 0, .string ⟨#[]⟩, .slice none 0 0, .slice none 0 0, .slice none 0 0] 57) = w0 at hb0 hr0 hz0 ⊢
  refine (tname_any (h.keep hb0)).mono ?_
  rintro e w1 ⟨x, rfl, hx, hp1, hb1⟩
  have hz1 := hb1.size
  have hr1 := heap_keep hb1 hr0 (by omega)
  have HX := hid hx
  have HP1 := hid hp1
  have HR1 := hid hr1
  clear hx hp1 hr1
  go_wp2_with fail
  have hb2 : Below w1.heap.size w1 (w1.alloc (.cells #[.string ⟨kind.toArray⟩, .string ⟨x.toArray⟩, .string ⟨#[]⟩, .int .i64 0, .string ⟨#[]⟩, .slice none 0 0, .slice none 0 0, .slice none 0 0] 57)) := by (repeat (first | exact Below.refl _ _ | assumption | refine Below.drew ?_ | refine Below.trans ?_ (drewN_below' _ _ _) | refine Below.setCell ?_ (by first | (simp; done) | (simp; omega)) _ | refine Below.alloc ?_ (by first | (simp; done) | (simp; omega)) _))
  have he2 := heap_alloc_new w1 (.cells #[.string ⟨kind.toArray⟩, .string ⟨x.toArray⟩, .string ⟨#[]⟩, .int .i64 0, .string ⟨#[]⟩, .slice none 0 0, .slice none 0 0, .slice none 0 0] 57)
  have hz2 := size_alloc w1 (.cells #[.string ⟨kind.toArray⟩, .string ⟨x.toArray⟩, .string ⟨#[]⟩, .int .i64 0, .string ⟨#[]⟩, .slice none 0 0, .slice none 0 0, .slice none 0 0] 57)
  generalize w1.alloc (.cells #[.string ⟨kind.toArray⟩, .string ⟨x.toArray⟩, .string ⟨#[]⟩, .int .i64 0, .string ⟨#[]⟩, .slice none 0 0, .slice none 0 0, .slice none 0 0] 57) = w2 at hb2 he2 hz2 ⊢
  refine (need_any (HP1.out.keep hb2) kSign [61] sign_ne).mono ?_
  rw [G1.out]
  rintro e w3 ⟨rfl, hp3, hb3⟩
  have hz3 := hb3.size
  have b3 : But p w1 w3 := (But.of hb2).trans hb3
  have hr3 := heap_keep b3 HR1.out (by omega)
  have he3 := heap_keep hb3 he2 (by omega)
  have HP3 := hid hp3
  have HR3 := hid hr3
  have HE3 := hid he3
  clear hp3 hr3 he3 he2 hb2 hb3
  go_wp2_with fail
  refine (ended_any hE HP3.out HO.out).mono ?_
  rintro e w4 hx4
  obtain ⟨k, m, y, ad, c1, c2, rfl, k1, k2, k3⟩ := hx4.rep (rb := w1.heap.size) (by omega)
  have hz4 := k3.size
  have hr4 := heap_keep k3 HR3.out (by omega)
  have he4 := heap_keep k3 HE3.out (by omega)
  have n2 := heap_lt hr4
  have n3 := heap_lt he4
  have e40 : w4.cell? ⟨w1.heap.size, 0, none⟩ = some (.string ⟨kind.toArray⟩) := cell_of_blk he4 0
  have e41 : w4.cell? ⟨w1.heap.size, 1, none⟩ = some (.string ⟨x.toArray⟩) := cell_of_blk he4 1
  have e42 := cell_of_blk he4 2
  have e43 := cell_of_blk he4 3
  have e44 := cell_of_blk he4 4
  have e45 := cell_of_blk he4 5
  have e46 : w4.cell? ⟨w1.heap.size, 6, none⟩ = some (.slice none 0 0) := cell_of_blk he4 6
  have e47 : w4.cell? ⟨w1.heap.size, 7, none⟩ = some (.slice none 0 0) := cell_of_blk he4 7
  have f42 := free_of_blk he4 2
  have f43 := free_of_blk he4 3
  have f44 := free_of_blk he4 4
  have f45 := free_of_blk he4 5
  have r50 := cell_of_blk hr4 0
  have r51 := cell_of_blk hr4 1
  have r52 := cell_of_blk hr4 2
  have r53 := cell_of_blk hr4 3
  have r54 := cell_of_blk hr4 4
  have r55 := cell_of_blk hr4 5
  have r56 := cell_of_blk hr4 6
  have r57 := cell_of_blk hr4 7
  have q50 := free_of_blk hr4 0
  have q51 := free_of_blk hr4 1
  have q52 := free_of_blk hr4 2
  have q53 := free_of_blk hr4 3
  have q54 := free_of_blk hr4 4
  have q55 := free_of_blk hr4 5
  have q56 := free_of_blk hr4 6
  have q57 := free_of_blk hr4 7
  have HR4 := hid hr4
  have HE4 := hid he4
  have K1 := hid k1
  have K2 := hid k2
  clear hr4 he4 k1 k2 hx4
  go_wp2
  have hfar : Far w4 w1.heap.size := ⟨_, _, HE4.out, by decide⟩
  have o := put4 K2.out (by omega) hfar 2 (.string k) (.int .i64 m) (.string y) (.slice ad c1 c2)
  simp only [Nat.reduceAdd] at o
  obtain ⟨o1, _, _, _, o5, o6⟩ := o
  have o7 : But p w ((((w4.setCell ⟨w1.heap.size, 2, none⟩ (.string k)).setCell ⟨w1.heap.size, 3, none⟩ (.int .i64 m)).setCell ⟨w1.heap.size, 4, none⟩ (.string y)).setCell ⟨w1.heap.size, 5, none⟩ (.slice ad c1 c2)) :=
    (((((((But.of hb0).trans hb1).trans b3).trans k3).setNew _ 2 (by omega) _).setNew _ 3 (by omega) _).setNew _ 4 (by omega) _).setNew _ 5 (by omega) _
  generalize (((w4.setCell ⟨w1.heap.size, 2, none⟩ (.string k)).setCell ⟨w1.heap.size, 3, none⟩ (.int .i64 m)).setCell ⟨w1.heap.size, 4, none⟩ (.string y)).setCell ⟨w1.heap.size, 5, none⟩ (.slice ad c1 c2) = w5 at o1 o5 o6 o7 ⊢
  refine ret_sm Tryd.results69 rfl (by omega) (Nat.le_refl _) ((o6 _ (by omega)).trans HR4.out) (by rw [G2.out]; exact o1) o7 (fun z j hz => ?_)
  obtain ⟨x', e, j1, q1, q2, rfl⟩ := G4.out z j hz
  obtain rfl := HX.out x' j1 q1
  exact rep_flat (RepE.imp (fun b hb => ⟨by have := hb.1; omega, by have := hb.2; omega⟩) (fun b hb => o6 b (by have := hb.1; omega)) _ _ (K1.out e j q2))
end Go.Proofs.YtcebpmaggnephabDoor
