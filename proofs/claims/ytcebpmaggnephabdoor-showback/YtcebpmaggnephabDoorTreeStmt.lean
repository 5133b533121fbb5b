/-
  Our own: package tree's parser: a statement.
-/
import Derived.Test.YtcebpmaggnephabDoorTreeGive
namespace Go.Proofs.YtcebpmaggnephabDoor
open Go.RowKit

/-- What a reader of a block leaves. -/
def BlTo (T : List Tok) (a : Nat → Addr) (p d : Nat) (w : World) (r : Rs (List Sm)) (e : Ending) (w' : World) : Prop :=
  ∃ ad l c, e = .returned (.slice ad l c) ∧ (∀ x j, r = .ok x j → ∃ xs, Row (InB w.heap.size w') w' (.slice ad l c) x.length xs ∧ RepSs (InB w.heap.size w') w' x xs) ∧ PAt T a p d r.st w' ∧ But p w w'
def BOk (T : List Tok) (a : Nat → Addr) (p n : Nat) : Prop := ∀ d s w, PAt T a p d s w → s.via (blockT T n d) ≠ .out → Calls Tryd.prog 37 #[ptrV p] w (BlTo T a p d w (s.via (blockT T n d)))
def TOk (T : List Tok) (a : Nat → Addr) (p n : Nat) : Prop := ∀ d s w, PAt T a p d s w → s.via (stmtT T n d) ≠ .out → Calls Tryd.prog 54 #[ptrV p] w (SmTo T a p d w (s.via (stmtT T n d)))
theorem skip_no {T : List Tok} {k x : List UInt8} {s : Rs Unit} (h : seesB T k x s = false) : skipS T k x s = s := by unfold skipS; rw [h]; rfl
theorem skip_yes {T : List Tok} {k x : List UInt8} {i : Nat} (h : seesB T k x (.ok () i) = true) : skipS T k x (.ok () i) = .ok () (i + 1) := by unfold skipS; rw [h]; rfl
theorem SmTo.rep {T : List Tok} {a : Nat → Addr} {p d rb : Nat} {w : World} {r : Rs Sm} {e : Ending} {w' : World} (h : SmTo T a p d w r e w') (hr : rb < w.heap.size) :
    ∃ k m ek en em ad1 l1 c1 ad2 l2 c2 ad3 l3 c3, e = .returned (smA k m ek en em (.slice ad1 l1 c1) (.slice ad2 l2 c2) (.slice ad3 l3 c3)) ∧
    (∀ x j, r = .ok x j → RepS (InB (rb + 1) w') w' x [.string k, .string m, .string ek, .int .i64 en, .string em, .slice ad1 l1 c1, .slice ad2 l2 c2, .slice ad3 l3 c3]) ∧ PAt T a p d r.st w' ∧ But p w w' := by
  obtain ⟨k, m, ek, en, em, ad1, l1, c1, ad2, l2, c2, ad3, l3, c3, h1, h2, h3, h4⟩ := h
  exact ⟨k, m, ek, en, em, ad1, l1, c1, ad2, l2, c2, ad3, l3, c3, h1, fun x j hx => RepS.imp (fun b hb => ⟨by have := hb.1; omega, hb.2⟩) (fun _ _ => rfl) _ _ (h2 x j hx), h3, h4⟩
theorem BlTo.rep {T : List Tok} {a : Nat → Addr} {p d rb : Nat} {w : World} {r : Rs (List Sm)} {e : Ending} {w' : World} (h : BlTo T a p d w r e w') (hr : rb < w.heap.size) :
    ∃ ad l c, e = .returned (.slice ad l c) ∧ (∀ x j, r = .ok x j → ∃ xs, Row (InB (rb + 1) w') w' (.slice ad l c) x.length xs ∧ RepSs (InB (rb + 1) w') w' x xs) ∧ PAt T a p d r.st w' ∧ But p w w' := by
  obtain ⟨ad, l, c, h1, h2, h3, h4⟩ := h
  refine ⟨ad, l, c, h1, fun x j hx => ?_, h3, h4⟩
  obtain ⟨xs, g1, g2⟩ := h2 x j hx
  exact ⟨xs, g1.imp (fun b hb => ⟨by have := hb.1; omega, hb.2⟩) (fun _ _ => rfl), RepSs.imp (fun b hb => ⟨by have := hb.1; omega, hb.2⟩) (fun _ _ => rfl) _ _ g2⟩
theorem isT_not {T : List Tok} {k x y : List UInt8} {i : Nat} (h : isT T k x i) (hx : x ≠ y) : seesB T k y (.ok () i) = false := by
  rw [sees_ok]; simpa using fun h' : isT T k y i => hx (h.2.symm.trans h'.2)
theorem isT_yes {T : List Tok} {k x : List UInt8} {i : Nat} (h : isT T k x i) : seesB T k x (.ok () i) = true := by rw [sees_ok]; simpa using h
/-- A statement whose expression and block are read. -/
theorem cond_st {T : List Tok} {n d : Nat} {s : Rs Unit} (f : Ex → List Sm → Sm) {r : Rs Sm} (h : r = s.via fun i => (exprT T n d 1 i).bind fun e j => (blockT T n d j).bind fun t j => .ok (f e t) j) :
    r.st = ((s.via (exprT T n d 1)).st.via (blockT T n d)).st ∧ (r ≠ .out → s.via (exprT T n d 1) ≠ .out ∧ (s.via (exprT T n d 1)).st.via (blockT T n d) ≠ .out) ∧
    ∀ y j, r = .ok y j → ∃ e j1 t, s.via (exprT T n d 1) = .ok e j1 ∧ (s.via (exprT T n d 1)).st.via (blockT T n d) = .ok t j ∧ y = f e t := by
  subst h
  rw [via_bind]
  cases s.via (exprT T n d 1) with
  | out => exact ⟨rfl, fun h => h.elim rfl, fun _ _ h => by cases h⟩
  | bad c k => exact ⟨rfl, fun _ => ⟨fun h => (by cases h), fun h => (by cases h)⟩, fun _ _ h => (by cases h)⟩
  | ok e j1 =>
    simp only [Rs.bind_ok, Rs.st_ok, Rs.via_ok]
    cases blockT T n d j1 with
    | out => exact ⟨rfl, fun h => h.elim rfl, fun _ _ h => by cases h⟩
    | bad c k => exact ⟨rfl, fun _ => ⟨fun h => (by cases h), fun h => (by cases h)⟩, fun _ _ h => (by cases h)⟩
    | ok t j2 => exact ⟨rfl, fun _ => ⟨fun h => (by cases h), fun h => (by cases h)⟩, fun y j h => by cases h; exact ⟨e, j1, t, rfl, rfl, rfl⟩⟩
/-- The same with another block, if a word says so. -/
theorem if_st {T : List Tok} {n d : Nat} {s : Rs Unit} {r : Rs Sm} {r2 : Rs (List Sm)} (hr2 : r2 = (s.via (exprT T n d 1)).st.via (blockT T n d))
    (h : r = s.via fun i => (exprT T n d 1 i).bind fun e j => (blockT T n d j).bind fun t j => if isT T kWord kElse j then (blockT T n d (j + 1)).bind fun o j => .ok (.mk kIf [] e t o) j else .ok (.mk kIf [] e t []) j) :
    (r ≠ .out → s.via (exprT T n d 1) ≠ .out ∧ r2 ≠ .out) ∧
    (seesB T kWord kElse r2.st = false → r.st = r2.st ∧ ∀ y j, r = .ok y j → ∃ e j1 t, s.via (exprT T n d 1) = .ok e j1 ∧ r2 = .ok t j ∧ y = .mk kIf [] e t []) ∧
    (seesB T kWord kElse r2.st = true → r.st = ((skipS T kWord kElse r2.st).via (blockT T n d)).st ∧ (r ≠ .out → (skipS T kWord kElse r2.st).via (blockT T n d) ≠ .out) ∧
      ∀ y j, r = .ok y j → ∃ e j1 t j2 o, s.via (exprT T n d 1) = .ok e j1 ∧ r2 = .ok t j2 ∧ (skipS T kWord kElse r2.st).via (blockT T n d) = .ok o j ∧ y = .mk kIf [] e t o) := by
  subst h hr2
  rw [via_bind]
  cases s.via (exprT T n d 1) with
  | out => exact ⟨fun h => h.elim rfl, fun _ => ⟨rfl, fun _ _ h => by cases h⟩, fun h => ⟨by unfold skipS; rw [h]; rfl, fun h => h.elim rfl, fun _ _ h => by cases h⟩⟩
  | bad c k => exact ⟨fun _ => ⟨fun h => (by cases h), fun h => (by cases h)⟩, fun _ => ⟨rfl, fun _ _ h => (by cases h)⟩, fun h => by rw [Rs.st_bad, Rs.via_bad, Rs.st_bad, sees_bad word_ne] at h; cases h⟩
  | ok e j1 =>
    simp only [Rs.bind_ok, Rs.st_ok, Rs.via_ok]
    cases blockT T n d j1 with
    | out => exact ⟨fun h => h.elim rfl, fun _ => ⟨rfl, fun _ _ h => by cases h⟩, fun h => ⟨by unfold skipS; rw [h]; rfl, fun h => h.elim rfl, fun _ _ h => by cases h⟩⟩
    | bad c k => exact ⟨fun _ => ⟨fun h => (by cases h), fun h => (by cases h)⟩, fun _ => ⟨rfl, fun _ _ h => (by cases h)⟩, fun h => by rw [Rs.st_bad, sees_bad word_ne] at h; cases h⟩
    | ok t j2 =>
      simp only [Rs.bind_ok, Rs.st_ok]
      refine ⟨fun _ => ⟨fun h => (by cases h), fun h => (by cases h)⟩, fun h => ?_, fun h => ?_⟩
      · rw [sees_ok] at h
        rw [if_neg (by simpa using h)]
        exact ⟨rfl, fun y j h => by cases h; exact ⟨e, j1, t, rfl, rfl, rfl⟩⟩
      · rw [skip_yes h, Rs.via_ok]
        rw [sees_ok] at h
        rw [if_pos (by simpa using h)]
        cases blockT T n d (j2 + 1) with
        | out => exact ⟨rfl, fun h => h.elim rfl, fun _ _ h => by cases h⟩
        | bad c k => exact ⟨rfl, fun _ h => (by cases h), fun _ _ h => (by cases h)⟩
        | ok o j3 => exact ⟨rfl, fun _ h => (by cases h), fun y j h => by cases h; exact ⟨e, j1, t, j2, o, rfl, rfl, rfl, rfl⟩⟩
theorem end_bind {T : List Tok} {n d i : Nat} (f : Ex → Sm) : ((endT T n d i).bind fun e j => .ok (f e) j) = (exprT T n d 1 i).bind fun e j => (needT T kSign [59] j).bind fun _ j => .ok (f e) j := by
  unfold endT
  cases exprT T n d 1 i with
  | out => rfl
  | bad c k => rfl
  | ok e j => simp only [Rs.bind_ok]; cases needT T kSign [59] j <;> rfl
set_option maxRecDepth 100000 in
theorem stmt_name {T : List Tok} {a : Nat → Addr} {p n d i : Nat} {w : World} (hE : EOk T a p n) (h : PAt T a p d (.ok () i) w) (hk : (tk T i).kind = kName) (hout : stmtT T (n + 1) d i ≠ .out) :
    Calls Tryd.prog 54 #[ptrV p] w (SmTo T a p d w (stmtT T (n + 1) d i)) := by
  have hlt := h.lt
  obtain ⟨r, hr⟩ : ∃ r, r = stmtT T (n + 1) d i := ⟨_, rfl⟩
  rw [← hr] at hout ⊢
  rw [stmtT, if_pos hk] at hr
  have hg : r = Rs.via (.ok () i) (giveT T n d kSet) := by
    rw [hr, Rs.via_ok, giveT, nameT, if_pos hk, Rs.bind_ok]
    cases needT T kSign [61] (i + 1) with
    | out => rfl
    | bad c k => rfl
    | ok u j2 => simp only [Rs.bind_ok]; exact (end_bind _).symm
  obtain ⟨kd, tx, ps, ht⟩ := tok_parts (tk T i)
  have hkd : kd = kName := by rw [ht] at hk; exact hk
  subst hkd
  have ht0 : nxt T (.ok () i) = ⟨kName, tx, ps⟩ := ht
  have HT0 := hid ht0
  have HG := hid hg
  have HO := hid hout
  clear hr hk ht ht0 hout hg
  have hfd := fld_kind ⟨kName.toArray⟩ ⟨tx.toArray⟩ ps
  go_enter Tryd.func54, Tryd.ntmps54
  go_wp2_with fail
  have hb0 : Below w.heap.size w (w.alloc (.cells #[.string ⟨#[]⟩, .string ⟨#[]⟩, .string ⟨#[]⟩, .int .i64 0, .string ⟨#[]⟩, .slice none 0 0, .slice none 0 0, .slice none 0 0] 57)) := by (repeat (first | exact Below.refl _ _ | assumption | refine Below.drew ?_ | refine Below.trans ?_ (drewN_below' _ _ _) | refine Below.setCell ?_ (by first | (simp; done) | (simp; omega)) _ | refine Below.alloc ?_ (by first | (simp; done) | (simp; omega)) _))
  have hr0 := heap_alloc_new w (.cells #[.string ⟨#[]⟩, .string ⟨#[]⟩, .string ⟨#[]⟩, .int .i64 0, .string ⟨#[]⟩, .slice none 0 0, .slice none 0 0, .slice none 0 0] 57)
  have hz0 := size_alloc w (.cells #[.string ⟨#[]⟩, .string ⟨#[]⟩, .string ⟨#[]⟩, .int .i64 0, .string ⟨#[]⟩, .slice none 0 0, .slice none 0 0, .slice none 0 0] 57)
  generalize w.alloc (.cells #[.string ⟨#[]⟩, .string ⟨#[]⟩, .string ⟨#[]⟩, .int .i64 0, .string ⟨#[]⟩, .slice none 0 0, .slice none 0 0, .slice none 0 0] 57) = w0 at hb0 hr0 hz0 ⊢
  refine (next_any (h.keep hb0)).mono ?_
  rw [HT0.out]
  unfold tokA
  rintro e w1 ⟨rfl, hb1⟩
  have hz1 := hb1.size
  have hr1 := (hb1.block _ (by omega)).trans hr0
  have b1 : But p w w1 := But.of (bl_trans hb0 hb0.size hb1)
  have hp1 := h.keep (bl_trans hb0 hb0.size hb1)
  clear hr0 hb0 hb1
  have HR1 := hid hr1
  have HP1 := hid hp1
  clear hr1 hp1
  unfold kName at hfd ⊢
  go_wp2_with fail
  refine (give_any hE kSet HP1.out (by rw [← HG.out]; exact HO.out)).mono ?_
  rw [← HG.out]
  rintro e w9 hx9
  obtain ⟨k, m, ek, en, em, ad1, l1, c1, ad2, l2, c2, ad3, l3, c3, rfl, k1, k2, k3⟩ := hx9.rep (rb := w.heap.size) (by omega)
  have hr9 := heap_keep k3 HR1.out (by omega)
  have n2 := heap_lt hr9
  have r50 := cell_of_blk hr9 0
  have q50 := free_of_blk hr9 0
  have r51 := cell_of_blk hr9 1
  have q51 := free_of_blk hr9 1
  have r52 := cell_of_blk hr9 2
  have q52 := free_of_blk hr9 2
  have r53 := cell_of_blk hr9 3
  have q53 := free_of_blk hr9 3
  have r54 := cell_of_blk hr9 4
  have q54 := free_of_blk hr9 4
  have r55 := cell_of_blk hr9 5
  have q55 := free_of_blk hr9 5
  have r56 := cell_of_blk hr9 6
  have q56 := free_of_blk hr9 6
  have r57 := cell_of_blk hr9 7
  have q57 := free_of_blk hr9 7
  have HR9 := hid hr9
  have K1 := hid k1
  have K2 := hid k2
  clear hr9 k1 k2 hx9
  go_wp2
  exact ret_sm Tryd.results54 rfl (by omega) (Nat.le_refl _) HR9.out K2.out (b1.trans k3) K1.out
set_option maxRecDepth 100000 in
theorem stmt_var {T : List Tok} {a : Nat → Addr} {p n d i : Nat} {w : World} (hE : EOk T a p n) (h : PAt T a p d (.ok () i) w) (hk : isT T kWord kVar i) (hout : stmtT T (n + 1) d i ≠ .out) :
    Calls Tryd.prog 54 #[ptrV p] w (SmTo T a p d w (stmtT T (n + 1) d i)) := by
  have hlt := h.lt
  obtain ⟨r, hr⟩ : ∃ r, r = stmtT T (n + 1) d i := ⟨_, rfl⟩
  rw [← hr] at hout ⊢
  rw [stmtT, if_neg (by rw [hk.1]; decide), if_pos hk] at hr
  have S0 := hid (isT_yes hk)
  obtain ⟨kd, tx, ps, ht⟩ := tok_parts (tk T i)
  have hkd : kd = kWord := by have := hk.1; rw [ht] at this; exact this
  subst hkd
  have ht0 : nxt T (.ok () i) = ⟨kWord, tx, ps⟩ := ht
  have HT0 := hid ht0
  have HR := hid hr
  have HO := hid hout
  clear hr hk ht ht0 hout
  have hfd := fld_kind ⟨kWord.toArray⟩ ⟨tx.toArray⟩ ps
  go_enter Tryd.func54, Tryd.ntmps54
  go_wp2_with fail
  have hb0 : Below w.heap.size w (w.alloc (.cells #[.string ⟨#[]⟩, .string ⟨#[]⟩, .string ⟨#[]⟩, .int .i64 0, .string ⟨#[]⟩, .slice none 0 0, .slice none 0 0, .slice none 0 0] 57)) := by (repeat (first | exact Below.refl _ _ | assumption | refine Below.drew ?_ | refine Below.trans ?_ (drewN_below' _ _ _) | refine Below.setCell ?_ (by first | (simp; done) | (simp; omega)) _ | refine Below.alloc ?_ (by first | (simp; done) | (simp; omega)) _))
  have hr0 := heap_alloc_new w (.cells #[.string ⟨#[]⟩, .string ⟨#[]⟩, .string ⟨#[]⟩, .int .i64 0, .string ⟨#[]⟩, .slice none 0 0, .slice none 0 0, .slice none 0 0] 57)
  have hz0 := size_alloc w (.cells #[.string ⟨#[]⟩, .string ⟨#[]⟩, .string ⟨#[]⟩, .int .i64 0, .string ⟨#[]⟩, .slice none 0 0, .slice none 0 0, .slice none 0 0] 57)
  generalize w.alloc (.cells #[.string ⟨#[]⟩, .string ⟨#[]⟩, .string ⟨#[]⟩, .int .i64 0, .string ⟨#[]⟩, .slice none 0 0, .slice none 0 0, .slice none 0 0] 57) = w0 at hb0 hr0 hz0 ⊢
  refine (next_any (h.keep hb0)).mono ?_
  rw [HT0.out]
  unfold tokA
  rintro e w1 ⟨rfl, hb1⟩
  have hz1 := hb1.size
  have hr1 := (hb1.block _ (by omega)).trans hr0
  have b1 : But p w w1 := But.of (bl_trans hb0 hb0.size hb1)
  have hp1 := h.keep (bl_trans hb0 hb0.size hb1)
  clear hr0 hb0 hb1
  unfold kWord at hfd ⊢
  have HR1 := hid hr1
  have HP1 := hid hp1
  clear hr1 hp1
  go_wp2_with fail
  refine (skip_any HP1.out kWord kVar word_ne).mono ?_
  rw [S0.out, skip_yes S0.out]
  rintro e w2 ⟨rfl, hp2, hb2⟩
  have hz2 := hb2.size
  have hr2 := heap_keep hb2 HR1.out (by omega)
  have b2 := b1.trans hb2
  have HR2 := hid hr2
  have HP2 := hid hp2
  clear hr2 hp2
  go_wp2_with fail
  have hg : r = Rs.via (.ok () (i + 1)) (giveT T n d kVar) := by
    rw [HR.out, Rs.via_ok, giveT]
    cases nameT T (i + 1) with
    | out => rfl
    | bad c k => rfl
    | ok x j =>
      simp only [Rs.bind_ok]
      cases needT T kSign [61] j with
      | out => rfl
      | bad c k => rfl
      | ok u j2 => simp only [Rs.bind_ok]; exact (end_bind _).symm
  refine (give_any hE kVar HP2.out (by rw [← hg]; exact HO.out)).mono ?_
  rw [← hg]
  rintro e w9 hx9
  obtain ⟨k, m, ek, en, em, ad1, l1, c1, ad2, l2, c2, ad3, l3, c3, rfl, k1, k2, k3⟩ := hx9.rep (rb := w.heap.size) (by omega)
  have hr9 := heap_keep k3 HR2.out (by omega)
  have n2 := heap_lt hr9
  have r50 := cell_of_blk hr9 0
  have q50 := free_of_blk hr9 0
  have r51 := cell_of_blk hr9 1
  have q51 := free_of_blk hr9 1
  have r52 := cell_of_blk hr9 2
  have q52 := free_of_blk hr9 2
  have r53 := cell_of_blk hr9 3
  have q53 := free_of_blk hr9 3
  have r54 := cell_of_blk hr9 4
  have q54 := free_of_blk hr9 4
  have r55 := cell_of_blk hr9 5
  have q55 := free_of_blk hr9 5
  have r56 := cell_of_blk hr9 6
  have q56 := free_of_blk hr9 6
  have r57 := cell_of_blk hr9 7
  have q57 := free_of_blk hr9 7
  have HR9 := hid hr9
  have K1 := hid k1
  have K2 := hid k2
  clear hr9 k1 k2 hx9
  go_wp2
  exact ret_sm Tryd.results54 rfl (by omega) (Nat.le_refl _) HR9.out K2.out (b2.trans k3) K1.out
set_option maxRecDepth 100000 in
theorem stmt_ret {T : List Tok} {a : Nat → Addr} {p n d i : Nat} {w : World} (hE : EOk T a p n) (h : PAt T a p d (.ok () i) w) (hk : isT T kWord kReturn i) (hout : stmtT T (n + 1) d i ≠ .out) :
    Calls Tryd.prog 54 #[ptrV p] w (SmTo T a p d w (stmtT T (n + 1) d i)) := by
  have hlt := h.lt
  obtain ⟨r, hr⟩ : ∃ r, r = stmtT T (n + 1) d i := ⟨_, rfl⟩
  rw [← hr] at hout ⊢
  rw [stmtT, if_neg (by rw [hk.1]; decide), if_neg (by rw [isT, hk.1, hk.2]; decide), if_neg (by rw [isT, hk.1, hk.2]; decide), if_neg (by rw [isT, hk.1, hk.2]; decide), if_pos hk] at hr
  have S0 := hid (isT_not (y := kVar) hk (by decide))
  have S1 := hid (isT_not (y := kIf) hk (by decide))
  have S2 := hid (isT_not (y := kWhile) hk (by decide))
  have S3 := hid (isT_yes hk)
  obtain ⟨kd, tx, ps, ht⟩ := tok_parts (tk T i)
  have hkd : kd = kWord := by have := hk.1; rw [ht] at this; exact this
  subst hkd
  have ht0 : nxt T (.ok () i) = ⟨kWord, tx, ps⟩ := ht
  have HT0 := hid ht0
  have HR := hid hr
  have HO := hid hout
  clear hr hk ht ht0 hout
  have hfd := fld_kind ⟨kWord.toArray⟩ ⟨tx.toArray⟩ ps
  go_enter Tryd.func54, Tryd.ntmps54
  go_wp2_with fail
  have hb0 : Below w.heap.size w (w.alloc (.cells #[.string ⟨#[]⟩, .string ⟨#[]⟩, .string ⟨#[]⟩, .int .i64 0, .string ⟨#[]⟩, .slice none 0 0, .slice none 0 0, .slice none 0 0] 57)) := by (repeat (first | exact Below.refl _ _ | assumption | refine Below.drew ?_ | refine Below.trans ?_ (drewN_below' _ _ _) | refine Below.setCell ?_ (by first | (simp; done) | (simp; omega)) _ | refine Below.alloc ?_ (by first | (simp; done) | (simp; omega)) _))
  have hr0 := heap_alloc_new w (.cells #[.string ⟨#[]⟩, .string ⟨#[]⟩, .string ⟨#[]⟩, .int .i64 0, .string ⟨#[]⟩, .slice none 0 0, .slice none 0 0, .slice none 0 0] 57)
  have hz0 := size_alloc w (.cells #[.string ⟨#[]⟩, .string ⟨#[]⟩, .string ⟨#[]⟩, .int .i64 0, .string ⟨#[]⟩, .slice none 0 0, .slice none 0 0, .slice none 0 0] 57)
  generalize w.alloc (.cells #[.string ⟨#[]⟩, .string ⟨#[]⟩, .string ⟨#[]⟩, .int .i64 0, .string ⟨#[]⟩, .slice none 0 0, .slice none 0 0, .slice none 0 0] 57) = w0 at hb0 hr0 hz0 ⊢
  refine (next_any (h.keep hb0)).mono ?_
  rw [HT0.out]
  unfold tokA
  rintro e w1 ⟨rfl, hb1⟩
  have hz1 := hb1.size
  have hr1 := (hb1.block _ (by omega)).trans hr0
  have b1 : But p w w1 := But.of (bl_trans hb0 hb0.size hb1)
  have hp1 := h.keep (bl_trans hb0 hb0.size hb1)
  clear hr0 hb0 hb1
  unfold kWord at hfd ⊢
  have HR1 := hid hr1
  have HP1 := hid hp1
  clear hr1 hp1
  go_wp2_with fail
  refine (skip_any HP1.out kWord kVar word_ne).mono ?_
  rw [S0.out, skip_no S0.out]
  rintro e w2 ⟨rfl, hp2, hb2⟩
  have hz2 := hb2.size
  have hr2 := heap_keep hb2 HR1.out (by omega)
  have b2 := b1.trans hb2
  have HR2 := hid hr2
  have HP2 := hid hp2
  clear hr2 hp2
  go_wp2_with fail
  refine (skip_any HP2.out kWord kIf word_ne).mono ?_
  rw [S1.out, skip_no S1.out]
  rintro e w3 ⟨rfl, hp3, hb3⟩
  have hz3 := hb3.size
  have hr3 := heap_keep hb3 HR2.out (by omega)
  have b3 := b2.trans hb3
  have HR3 := hid hr3
  have HP3 := hid hp3
  clear hr3 hp3
  go_wp2_with fail
  refine (skip_any HP3.out kWord kWhile word_ne).mono ?_
  rw [S2.out, skip_no S2.out]
  rintro e w4 ⟨rfl, hp4, hb4⟩
  have hz4 := hb4.size
  have hr4 := heap_keep hb4 HR3.out (by omega)
  have b4 := b3.trans hb4
  have HR4 := hid hr4
  have HP4 := hid hp4
  clear hr4 hp4
  go_wp2_with fail
  refine (skip_any HP4.out kWord kReturn word_ne).mono ?_
  rw [S3.out, skip_yes S3.out]
  rintro e w5 ⟨rfl, hp5, hb5⟩
  have hz5 := hb5.size
  have hr5 := heap_keep hb5 HR4.out (by omega)
  have b5 := b4.trans hb5
  have HR5 := hid hr5
  have HP5 := hid hp5
  clear hr5 hp5
  go_wp2_with fail
  have hg : r = (endT T n d (i + 1)).bind fun e j => .ok (.mk kReturn [] e [] []) j := by rw [HR.out]; exact (end_bind _).symm
  have ho : Rs.via (.ok () (i + 1)) (endT T n d) ≠ .out := fun e => HO.out (by rw [hg, show endT T n d (i + 1) = .out from e]; rfl)
  refine (ended_any hE HP5.out ho).mono ?_
  rw [Rs.via_ok]
  rintro e w9 hx9
  obtain ⟨k, m, y, ad, c1, c2, rfl, k1, k2, k3⟩ := hx9.rep (rb := w.heap.size) (by omega)
  have hr9 := heap_keep k3 HR5.out (by omega)
  have n2 := heap_lt hr9
  have r50 := cell_of_blk hr9 0
  have q50 := free_of_blk hr9 0
  have r51 := cell_of_blk hr9 1
  have q51 := free_of_blk hr9 1
  have r52 := cell_of_blk hr9 2
  have q52 := free_of_blk hr9 2
  have r53 := cell_of_blk hr9 3
  have q53 := free_of_blk hr9 3
  have r54 := cell_of_blk hr9 4
  have q54 := free_of_blk hr9 4
  have r55 := cell_of_blk hr9 5
  have q55 := free_of_blk hr9 5
  have r56 := cell_of_blk hr9 6
  have q56 := free_of_blk hr9 6
  have r57 := cell_of_blk hr9 7
  have q57 := free_of_blk hr9 7
  have HR9 := hid hr9
  have K1 := hid k1
  have K2 := hid k2
  have HG := hid hg
  clear hr9 k1 k2 hx9 hg
  go_wp2
  refine ret_sm Tryd.results54 rfl (by omega) (Nat.le_refl _) HR9.out ?_ (b5.trans k3) (fun x j hx => ?_)
  · rw [HG.out]
    have q := K2.out
    cases hz : endT T n d (i + 1) with
    | out => rw [hz] at q; exact q
    | bad c k => rw [hz] at q; exact q
    | ok e j => rw [hz] at q; exact q
  · rw [HG.out] at hx
    cases hz : endT T n d (i + 1) with
    | out => rw [hz] at hx; cases hx
    | bad c k => rw [hz] at hx; cases hx
    | ok e j2 => rw [hz] at hx; cases hx; exact rep_flat (K1.out e _ hz)
set_option maxRecDepth 100000 in
theorem stmt_print {T : List Tok} {a : Nat → Addr} {p n d i : Nat} {w : World} (hE : EOk T a p n) (h : PAt T a p d (.ok () i) w) (hk : isT T kWord kPrint i) (hout : stmtT T (n + 1) d i ≠ .out) :
    Calls Tryd.prog 54 #[ptrV p] w (SmTo T a p d w (stmtT T (n + 1) d i)) := by
  have hlt := h.lt
  obtain ⟨r, hr⟩ : ∃ r, r = stmtT T (n + 1) d i := ⟨_, rfl⟩
  rw [← hr] at hout ⊢
  rw [stmtT, if_neg (by rw [hk.1]; decide), if_neg (by rw [isT, hk.1, hk.2]; decide), if_neg (by rw [isT, hk.1, hk.2]; decide), if_neg (by rw [isT, hk.1, hk.2]; decide), if_neg (by rw [isT, hk.1, hk.2]; decide), if_pos hk] at hr
  have S0 := hid (isT_not (y := kVar) hk (by decide))
  have S1 := hid (isT_not (y := kIf) hk (by decide))
  have S2 := hid (isT_not (y := kWhile) hk (by decide))
  have S3 := hid (isT_not (y := kReturn) hk (by decide))
  have S4 := hid (isT_yes hk)
  obtain ⟨kd, tx, ps, ht⟩ := tok_parts (tk T i)
  have hkd : kd = kWord := by have := hk.1; rw [ht] at this; exact this
  subst hkd
  have ht0 : nxt T (.ok () i) = ⟨kWord, tx, ps⟩ := ht
  have HT0 := hid ht0
  have HR := hid hr
  have HO := hid hout
  clear hr hk ht ht0 hout
  have hfd := fld_kind ⟨kWord.toArray⟩ ⟨tx.toArray⟩ ps
  go_enter Tryd.func54, Tryd.ntmps54
  go_wp2_with fail
  have hb0 : Below w.heap.size w (w.alloc (.cells #[.string ⟨#[]⟩, .string ⟨#[]⟩, .string ⟨#[]⟩, .int .i64 0, .string ⟨#[]⟩, .slice none 0 0, .slice none 0 0, .slice none 0 0] 57)) := by (repeat (first | exact Below.refl _ _ | assumption | refine Below.drew ?_ | refine Below.trans ?_ (drewN_below' _ _ _) | refine Below.setCell ?_ (by first | (simp; done) | (simp; omega)) _ | refine Below.alloc ?_ (by first | (simp; done) | (simp; omega)) _))
  have hr0 := heap_alloc_new w (.cells #[.string ⟨#[]⟩, .string ⟨#[]⟩, .string ⟨#[]⟩, .int .i64 0, .string ⟨#[]⟩, .slice none 0 0, .slice none 0 0, .slice none 0 0] 57)
  have hz0 := size_alloc w (.cells #[.string ⟨#[]⟩, .string ⟨#[]⟩, .string ⟨#[]⟩, .int .i64 0, .string ⟨#[]⟩, .slice none 0 0, .slice none 0 0, .slice none 0 0] 57)
  generalize w.alloc (.cells #[.string ⟨#[]⟩, .string ⟨#[]⟩, .string ⟨#[]⟩, .int .i64 0, .string ⟨#[]⟩, .slice none 0 0, .slice none 0 0, .slice none 0 0] 57) = w0 at hb0 hr0 hz0 ⊢
  refine (next_any (h.keep hb0)).mono ?_
  rw [HT0.out]
  unfold tokA
  rintro e w1 ⟨rfl, hb1⟩
  have hz1 := hb1.size
  have hr1 := (hb1.block _ (by omega)).trans hr0
  have b1 : But p w w1 := But.of (bl_trans hb0 hb0.size hb1)
  have hp1 := h.keep (bl_trans hb0 hb0.size hb1)
  clear hr0 hb0 hb1
  unfold kWord at hfd ⊢
  have HR1 := hid hr1
  have HP1 := hid hp1
  clear hr1 hp1
  go_wp2_with fail
  refine (skip_any HP1.out kWord kVar word_ne).mono ?_
  rw [S0.out, skip_no S0.out]
  rintro e w2 ⟨rfl, hp2, hb2⟩
  have hz2 := hb2.size
  have hr2 := heap_keep hb2 HR1.out (by omega)
  have b2 := b1.trans hb2
  have HR2 := hid hr2
  have HP2 := hid hp2
  clear hr2 hp2
  go_wp2_with fail
  refine (skip_any HP2.out kWord kIf word_ne).mono ?_
  rw [S1.out, skip_no S1.out]
  rintro e w3 ⟨rfl, hp3, hb3⟩
  have hz3 := hb3.size
  have hr3 := heap_keep hb3 HR2.out (by omega)
  have b3 := b2.trans hb3
  have HR3 := hid hr3
  have HP3 := hid hp3
  clear hr3 hp3
  go_wp2_with fail
  refine (skip_any HP3.out kWord kWhile word_ne).mono ?_
  rw [S2.out, skip_no S2.out]
  rintro e w4 ⟨rfl, hp4, hb4⟩
  have hz4 := hb4.size
  have hr4 := heap_keep hb4 HR3.out (by omega)
  have b4 := b3.trans hb4
  have HR4 := hid hr4
  have HP4 := hid hp4
  clear hr4 hp4
  go_wp2_with fail
  refine (skip_any HP4.out kWord kReturn word_ne).mono ?_
  rw [S3.out, skip_no S3.out]
  rintro e w5 ⟨rfl, hp5, hb5⟩
  have hz5 := hb5.size
  have hr5 := heap_keep hb5 HR4.out (by omega)
  have b5 := b4.trans hb5
  have HR5 := hid hr5
  have HP5 := hid hp5
  clear hr5 hp5
  go_wp2_with fail
  refine (skip_any HP5.out kWord kPrint word_ne).mono ?_
  rw [S4.out, skip_yes S4.out]
  rintro e w6 ⟨rfl, hp6, hb6⟩
  have hz6 := hb6.size
  have hr6 := heap_keep hb6 HR5.out (by omega)
  have b6 := b5.trans hb6
  have HR6 := hid hr6
  have HP6 := hid hp6
  clear hr6 hp6
  go_wp2_with fail
  have hg : r = (endT T n d (i + 1)).bind fun e j => .ok (.mk kPrint [] e [] []) j := by rw [HR.out]; exact (end_bind _).symm
  have ho : Rs.via (.ok () (i + 1)) (endT T n d) ≠ .out := fun e => HO.out (by rw [hg, show endT T n d (i + 1) = .out from e]; rfl)
  refine (ended_any hE HP6.out ho).mono ?_
  rw [Rs.via_ok]
  rintro e w9 hx9
  obtain ⟨k, m, y, ad, c1, c2, rfl, k1, k2, k3⟩ := hx9.rep (rb := w.heap.size) (by omega)
  have hr9 := heap_keep k3 HR6.out (by omega)
  have n2 := heap_lt hr9
  have r50 := cell_of_blk hr9 0
  have q50 := free_of_blk hr9 0
  have r51 := cell_of_blk hr9 1
  have q51 := free_of_blk hr9 1
  have r52 := cell_of_blk hr9 2
  have q52 := free_of_blk hr9 2
  have r53 := cell_of_blk hr9 3
  have q53 := free_of_blk hr9 3
  have r54 := cell_of_blk hr9 4
  have q54 := free_of_blk hr9 4
  have r55 := cell_of_blk hr9 5
  have q55 := free_of_blk hr9 5
  have r56 := cell_of_blk hr9 6
  have q56 := free_of_blk hr9 6
  have r57 := cell_of_blk hr9 7
  have q57 := free_of_blk hr9 7
  have HR9 := hid hr9
  have K1 := hid k1
  have K2 := hid k2
  have HG := hid hg
  clear hr9 k1 k2 hx9 hg
  go_wp2
  refine ret_sm Tryd.results54 rfl (by omega) (Nat.le_refl _) HR9.out ?_ (b6.trans k3) (fun x j hx => ?_)
  · rw [HG.out]
    have q := K2.out
    cases hz : endT T n d (i + 1) with
    | out => rw [hz] at q; exact q
    | bad c k => rw [hz] at q; exact q
    | ok e j => rw [hz] at q; exact q
  · rw [HG.out] at hx
    cases hz : endT T n d (i + 1) with
    | out => rw [hz] at hx; cases hx
    | bad c k => rw [hz] at hx; cases hx
    | ok e j2 => rw [hz] at hx; cases hx; exact rep_flat (K1.out e _ hz)
set_option maxRecDepth 100000 in
theorem stmt_while {T : List Tok} {a : Nat → Addr} {p n d i : Nat} {w : World} (hE : EOk T a p n) (hB : BOk T a p n) (h : PAt T a p d (.ok () i) w) (hk : isT T kWord kWhile i) (hout : stmtT T (n + 1) d i ≠ .out) :
    Calls Tryd.prog 54 #[ptrV p] w (SmTo T a p d w (stmtT T (n + 1) d i)) := by
  have hlt := h.lt
  obtain ⟨r, hr⟩ : ∃ r, r = stmtT T (n + 1) d i := ⟨_, rfl⟩
  rw [← hr] at hout ⊢
  rw [stmtT, if_neg (by rw [hk.1]; decide), if_neg (by rw [isT, hk.1, hk.2]; decide), if_neg (by rw [isT, hk.1, hk.2]; decide), if_pos hk] at hr
  have S0 := hid (isT_not (y := kVar) hk (by decide))
  have S1 := hid (isT_not (y := kIf) hk (by decide))
  have S2 := hid (isT_yes hk)
  obtain ⟨kd, tx, ps, ht⟩ := tok_parts (tk T i)
  have hkd : kd = kWord := by have := hk.1; rw [ht] at this; exact this
  subst hkd
  have ht0 : nxt T (.ok () i) = ⟨kWord, tx, ps⟩ := ht
  have HT0 := hid ht0
  have HR := hid hr
  have HO := hid hout
  clear hr hk ht ht0 hout
  have hfd := fld_kind ⟨kWord.toArray⟩ ⟨tx.toArray⟩ ps
  go_enter Tryd.func54, Tryd.ntmps54
  go_wp2_with fail
  have hb0 : Below w.heap.size w (w.alloc (.cells #[.string ⟨#[]⟩, .string ⟨#[]⟩, .string ⟨#[]⟩, .int .i64 0, .string ⟨#[]⟩, .slice none 0 0, .slice none 0 0, .slice none 0 0] 57)) := by (repeat (first | exact Below.refl _ _ | assumption | refine Below.drew ?_ | refine Below.trans ?_ (drewN_below' _ _ _) | refine Below.setCell ?_ (by first | (simp; done) | (simp; omega)) _ | refine Below.alloc ?_ (by first | (simp; done) | (simp; omega)) _))
  have hr0 := heap_alloc_new w (.cells #[.string ⟨#[]⟩, .string ⟨#[]⟩, .string ⟨#[]⟩, .int .i64 0, .string ⟨#[]⟩, .slice none 0 0, .slice none 0 0, .slice none 0 0] 57)
  have hz0 := size_alloc w (.cells #[.string ⟨#[]⟩, .string ⟨#[]⟩, .string ⟨#[]⟩, .int .i64 0, .string ⟨#[]⟩, .slice none 0 0, .slice none 0 0, .slice none 0 0] 57)
  generalize w.alloc (.cells #[.string ⟨#[]⟩, .string ⟨#[]⟩, .string ⟨#[]⟩, .int .i64 0, .string ⟨#[]⟩, .slice none 0 0, .slice none 0 0, .slice none 0 0] 57) = w0 at hb0 hr0 hz0 ⊢
  refine (next_any (h.keep hb0)).mono ?_
  rw [HT0.out]
  unfold tokA
  rintro e w1 ⟨rfl, hb1⟩
  have hz1 := hb1.size
  have hr1 := (hb1.block _ (by omega)).trans hr0
  have b1 : But p w w1 := But.of (bl_trans hb0 hb0.size hb1)
  have hp1 := h.keep (bl_trans hb0 hb0.size hb1)
  clear hr0 hb0 hb1
  unfold kWord at hfd ⊢
  have HR1 := hid hr1
  have HP1 := hid hp1
  clear hr1 hp1
  go_wp2_with fail
  refine (skip_any HP1.out kWord kVar word_ne).mono ?_
  rw [S0.out, skip_no S0.out]
  rintro e w2 ⟨rfl, hp2, hb2⟩
  have hz2 := hb2.size
  have hr2 := heap_keep hb2 HR1.out (by omega)
  have b2 := b1.trans hb2
  have HR2 := hid hr2
  have HP2 := hid hp2
  clear hr2 hp2
  go_wp2_with fail
  refine (skip_any HP2.out kWord kIf word_ne).mono ?_
  rw [S1.out, skip_no S1.out]
  rintro e w3 ⟨rfl, hp3, hb3⟩
  have hz3 := hb3.size
  have hr3 := heap_keep hb3 HR2.out (by omega)
  have b3 := b2.trans hb3
  have HR3 := hid hr3
  have HP3 := hid hp3
  clear hr3 hp3
  go_wp2_with fail
  refine (skip_any HP3.out kWord kWhile word_ne).mono ?_
  rw [S2.out, skip_yes S2.out]
  rintro e w4 ⟨rfl, hp4, hb4⟩
  have hz4 := hb4.size
  have hr4 := heap_keep hb4 HR3.out (by omega)
  have b4 := b3.trans hb4
  obtain ⟨p1, p2, p3⟩ := cond_st (T := T) (n := n) (d := d) (s := .ok () (i + 1)) (r := r) (fun e t => .mk kWhile [] e t []) HR.out
  have O1 := hid (p2 HO.out).1
  have O2 := hid (p2 HO.out).2
  have P1 := hid p1
  have P3 := hid p3
  clear p1 p2 p3
  have HR4 := hid hr4
  have HP4 := hid hp4
  clear hr4 hp4
  go_wp2_with fail
  refine (hE d 1 (.ok () (i + 1)) w4 (by omega) (by omega) HP4.out O1.out).mono ?_
  rintro e w10 hx10
  obtain ⟨k, m, y, ad, c1, c2, rfl, k1, k2, k3⟩ := hx10.rep (rb := w.heap.size) (by omega)
  have hz10 := k3.size
  have hr10 := heap_keep k3 HR4.out (by omega)
  have b10 := b4.trans k3
  have HR10 := hid hr10
  have K1 := hid k1
  have K2 := hid k2
  clear hr10 k1 k2 hx10
  go_wp2_with fail
  refine (hB d _ w10 K2.out O2.out).mono ?_
  rintro e w11 hx11
  obtain ⟨ad2, l2, c22, rfl, g1, g2, g3⟩ := hx11.rep (rb := w.heap.size) (by omega)
  have hz11 := g3.size
  have hr11 := heap_keep g3 HR10.out (by omega)
  have b11 := b10.trans g3
  have n2 := heap_lt hr11
  have r50 := cell_of_blk hr11 0
  have q50 := free_of_blk hr11 0
  have r51 := cell_of_blk hr11 1
  have q51 := free_of_blk hr11 1
  have r52 := cell_of_blk hr11 2
  have q52 := free_of_blk hr11 2
  have r53 := cell_of_blk hr11 3
  have q53 := free_of_blk hr11 3
  have r54 := cell_of_blk hr11 4
  have q54 := free_of_blk hr11 4
  have r55 := cell_of_blk hr11 5
  have q55 := free_of_blk hr11 5
  have r56 := cell_of_blk hr11 6
  have q56 := free_of_blk hr11 6
  have r57 := cell_of_blk hr11 7
  have q57 := free_of_blk hr11 7
  have HR11 := hid hr11
  have G1 := hid g1
  have G2 := hid g2
  clear hr11 g1 g2 hx11
  go_wp2
  refine ret_sm Tryd.results54 rfl (by omega) (Nat.le_refl _) HR11.out (by rw [P1.out]; exact G2.out) b11 (fun x j hx => ?_)
  obtain ⟨e, j1, t, q1, q2, rfl⟩ := P3.out x j hx
  obtain ⟨xs, v1, v2⟩ := G1.out t j q2
  have hk : Kept (w.heap.size + 1) w10 w11 := g3.kept (by omega)
  exact ⟨[.string k, .int .i64 m, .string y, .slice ad c1 c2], _, xs, _, [], rfl, RepE.imp (hk.inB (Nat.le_refl _)) hk.keepA _ _ (K1.out e j1 q1), v1, v2, row_nil _ _, rfl⟩
set_option maxRecDepth 100000 in
theorem stmt_if {T : List Tok} {a : Nat → Addr} {p n d i : Nat} {w : World} (hE : EOk T a p n) (hB : BOk T a p n) (h : PAt T a p d (.ok () i) w) (hk : isT T kWord kIf i) (hout : stmtT T (n + 1) d i ≠ .out) :
    Calls Tryd.prog 54 #[ptrV p] w (SmTo T a p d w (stmtT T (n + 1) d i)) := by
  have hlt := h.lt
  obtain ⟨r, hr⟩ : ∃ r, r = stmtT T (n + 1) d i := ⟨_, rfl⟩
  rw [← hr] at hout ⊢
  rw [stmtT, if_neg (by rw [hk.1]; decide), if_neg (by rw [isT, hk.1, hk.2]; decide), if_pos hk] at hr
  have S0 := hid (isT_not (y := kVar) hk (by decide))
  have S1 := hid (isT_yes hk)
  obtain ⟨kd, tx, ps, ht⟩ := tok_parts (tk T i)
  have hkd : kd = kWord := by have := hk.1; rw [ht] at this; exact this
  subst hkd
  have ht0 : nxt T (.ok () i) = ⟨kWord, tx, ps⟩ := ht
  have HT0 := hid ht0
  have HR := hid hr
  have HO := hid hout
  clear hr hk ht ht0 hout
  have hfd := fld_kind ⟨kWord.toArray⟩ ⟨tx.toArray⟩ ps
  go_enter Tryd.func54, Tryd.ntmps54
  go_wp2_with fail
  have hb0 : Below w.heap.size w (w.alloc (.cells #[.string ⟨#[]⟩, .string ⟨#[]⟩, .string ⟨#[]⟩, .int .i64 0, .string ⟨#[]⟩, .slice none 0 0, .slice none 0 0, .slice none 0 0] 57)) := by (repeat (first | exact Below.refl _ _ | assumption | refine Below.drew ?_ | refine Below.trans ?_ (drewN_below' _ _ _) | refine Below.setCell ?_ (by first | (simp; done) | (simp; omega)) _ | refine Below.alloc ?_ (by first | (simp; done) | (simp; omega)) _))
  have hr0 := heap_alloc_new w (.cells #[.string ⟨#[]⟩, .string ⟨#[]⟩, .string ⟨#[]⟩, .int .i64 0, .string ⟨#[]⟩, .slice none 0 0, .slice none 0 0, .slice none 0 0] 57)
  have hz0 := size_alloc w (.cells #[.string ⟨#[]⟩, .string ⟨#[]⟩, .string ⟨#[]⟩, .int .i64 0, .string ⟨#[]⟩, .slice none 0 0, .slice none 0 0, .slice none 0 0] 57)
  generalize w.alloc (.cells #[.string ⟨#[]⟩, .string ⟨#[]⟩, .string ⟨#[]⟩, .int .i64 0, .string ⟨#[]⟩, .slice none 0 0, .slice none 0 0, .slice none 0 0] 57) = w0 at hb0 hr0 hz0 ⊢
  refine (next_any (h.keep hb0)).mono ?_
  rw [HT0.out]
  unfold tokA
  rintro e w1 ⟨rfl, hb1⟩
  have hz1 := hb1.size
  have hr1 := (hb1.block _ (by omega)).trans hr0
  have b1 : But p w w1 := But.of (bl_trans hb0 hb0.size hb1)
  have hp1 := h.keep (bl_trans hb0 hb0.size hb1)
  clear hr0 hb0 hb1
  unfold kWord at hfd ⊢
  have HR1 := hid hr1
  have HP1 := hid hp1
  clear hr1 hp1
  go_wp2_with fail
  refine (skip_any HP1.out kWord kVar word_ne).mono ?_
  rw [S0.out, skip_no S0.out]
  rintro e w2 ⟨rfl, hp2, hb2⟩
  have hz2 := hb2.size
  have hr2 := heap_keep hb2 HR1.out (by omega)
  have b2 := b1.trans hb2
  have HR2 := hid hr2
  have HP2 := hid hp2
  clear hr2 hp2
  go_wp2_with fail
  refine (skip_any HP2.out kWord kIf word_ne).mono ?_
  rw [S1.out, skip_yes S1.out]
  rintro e w3 ⟨rfl, hp3, hb3⟩
  have hz3 := hb3.size
  have hr3 := heap_keep hb3 HR2.out (by omega)
  have b3 := b2.trans hb3
  obtain ⟨r2, hr2⟩ : ∃ r2, r2 = (Rs.via (.ok () (i + 1)) (exprT T n d 1)).st.via (blockT T n d) := ⟨_, rfl⟩
  obtain ⟨p1, p2, p3⟩ := if_st (s := .ok () (i + 1)) (r := r) hr2 HR.out
  have O1 := hid (p1 HO.out).1
  have O2 : Hid ((Rs.via (.ok () (i + 1)) (exprT T n d 1)).st.via (blockT T n d) ≠ .out) := by rw [← hr2]; exact hid (p1 HO.out).2
  have P2 := hid p2
  have P3 := hid p3
  have HR2' := hid hr2
  clear p1 p2 p3 hr2
  have HR3 := hid hr3
  have HP3 := hid hp3
  clear hr3 hp3
  go_wp2_with fail
  refine (hE d 1 (.ok () (i + 1)) w3 (by omega) (by omega) HP3.out O1.out).mono ?_
  rintro e w10 hx10
  obtain ⟨k, m, y, ad, c1, c2, rfl, k1, k2, k3⟩ := hx10.rep (rb := w.heap.size) (by omega)
  have hz10 := k3.size
  have hr10 := heap_keep k3 HR3.out (by omega)
  have b10 := b3.trans k3
  have HR10 := hid hr10
  have K1 := hid k1
  have K2 := hid k2
  clear hr10 k1 k2 hx10
  go_wp2_with fail
  refine (hB d _ w10 K2.out O2.out).mono ?_
  rintro e w11 hx11
  obtain ⟨ad2, l2, c22, rfl, g1, g2, g3⟩ := hx11.rep (rb := w.heap.size) (by omega)
  have hz11 := g3.size
  have hr11 := heap_keep g3 HR10.out (by omega)
  have b11 := b10.trans g3
  rw [← HR2'.out] at g1 g2
  have HR11 := hid hr11
  have G1 := hid g1
  have G2 := hid g2
  clear hr11 g1 g2 hx11
  go_wp2_with fail
  have hb12 : Below w11.heap.size w11 (w11.alloc (.cells #[.string ⟨#[105, 102]⟩, .string ⟨#[]⟩, .string k, .int .i64 m, .string y, .slice ad c1 c2, .slice ad2 l2 c22, .slice none 0 0] 57)) := by (repeat (first | exact Below.refl _ _ | assumption | refine Below.drew ?_ | refine Below.trans ?_ (drewN_below' _ _ _) | refine Below.setCell ?_ (by first | (simp; done) | (simp; omega)) _ | refine Below.alloc ?_ (by first | (simp; done) | (simp; omega)) _))
  have he12 := heap_alloc_new w11 (.cells #[.string ⟨#[105, 102]⟩, .string ⟨#[]⟩, .string k, .int .i64 m, .string y, .slice ad c1 c2, .slice ad2 l2 c22, .slice none 0 0] 57)
  have hz12 := size_alloc w11 (.cells #[.string ⟨#[105, 102]⟩, .string ⟨#[]⟩, .string k, .int .i64 m, .string y, .slice ad c1 c2, .slice ad2 l2 c22, .slice none 0 0] 57)
  generalize w11.alloc (.cells #[.string ⟨#[105, 102]⟩, .string ⟨#[]⟩, .string k, .int .i64 m, .string y, .slice ad c1 c2, .slice ad2 l2 c22, .slice none 0 0] 57) = w12 at hb12 he12 hz12 ⊢
  refine (skip_any (G2.out.keep hb12) kWord kElse word_ne).mono ?_
  cases hse : seesB T kWord kElse r2.st with
  | false =>
    rw [skip_no hse]
    rintro e w13 ⟨rfl, hp13, hb13⟩
    obtain ⟨p4, p5⟩ := P2.out hse
    have b13 : But p w11 w13 := (But.of hb12).trans hb13
    have hz13 := b13.size
    have hy13 := hb13.size
    have hr13 := heap_keep b13 HR11.out (by omega)
    have he13 := heap_keep hb13 he12 (by omega)
    have n2 := heap_lt hr13
    have n3 := heap_lt he13
    have e50 := cell_of_blk he13 0
    have e51 := cell_of_blk he13 1
    have e52 := cell_of_blk he13 2
    have e53 := cell_of_blk he13 3
    have e54 := cell_of_blk he13 4
    have e55 := cell_of_blk he13 5
    have e56 := cell_of_blk he13 6
    have e57 := cell_of_blk he13 7
    have r50 := cell_of_blk hr13 0
    have q50 := free_of_blk hr13 0
    have r51 := cell_of_blk hr13 1
    have q51 := free_of_blk hr13 1
    have r52 := cell_of_blk hr13 2
    have q52 := free_of_blk hr13 2
    have r53 := cell_of_blk hr13 3
    have q53 := free_of_blk hr13 3
    have r54 := cell_of_blk hr13 4
    have q54 := free_of_blk hr13 4
    have r55 := cell_of_blk hr13 5
    have q55 := free_of_blk hr13 5
    have r56 := cell_of_blk hr13 6
    have q56 := free_of_blk hr13 6
    have r57 := cell_of_blk hr13 7
    have q57 := free_of_blk hr13 7
    have HR13 := hid hr13
    have HP13 := hid hp13
    have P4 := hid p4
    have P5 := hid p5
    clear hr13 he13 hp13 p4 p5 he12
    go_wp2
    refine ret_sm Tryd.results54 rfl (by omega) (Nat.le_refl _) HR13.out (by rw [P4.out]; exact HP13.out) (b11.trans b13) (fun x j hx => ?_)
    obtain ⟨e, j1, t, q1, q2, rfl⟩ := P5.out x j hx
    obtain ⟨xs, v1, v2⟩ := G1.out t j q2
    have hk : Kept (w.heap.size + 1) w10 w13 := (g3.trans b13).kept (by omega)
    have hk2 : Kept (w.heap.size + 1) w11 w13 := b13.kept (by omega)
    exact ⟨[.string k, .int .i64 m, .string y, .slice ad c1 c2], _, xs, _, [], rfl, RepE.imp (hk.inB (Nat.le_refl _)) hk.keepA _ _ (K1.out e j1 q1), v1.imp (hk2.inB (Nat.le_refl _)) hk2.keepA, RepSs.imp (hk2.inB (Nat.le_refl _)) hk2.keepA _ _ v2, row_nil _ _, rfl⟩
  | true =>
    rintro e w13 ⟨rfl, hp13, hb13⟩
    obtain ⟨p4, p5, p6⟩ := P3.out hse
    have b13 : But p w11 w13 := (But.of hb12).trans hb13
    have hz13 := b13.size
    have hy13 := hb13.size
    have hr13 := heap_keep b13 HR11.out (by omega)
    have he13 := heap_keep hb13 he12 (by omega)
    have HR13 := hid hr13
    have HE13 := hid he13
    have HP13 := hid hp13
    have P4 := hid p4
    have P6 := hid p6
    have O3 := hid (p5 HO.out)
    clear hr13 he13 hp13 p4 p5 p6 he12
    go_wp2_with fail
    refine (hB d _ w13 HP13.out O3.out).mono ?_
    rintro e w14 hx14
    obtain ⟨ad3, l3, c33, rfl, o1, o2, o3⟩ := hx14.rep (rb := w11.heap.size) (by omega)
    have hz14 := o3.size
    have hr14 := heap_keep o3 HR13.out (by omega)
    have he14 := heap_keep o3 HE13.out (by omega)
    have n2 := heap_lt hr14
    have n3 := heap_lt he14
    have e50 := cell_of_blk he14 0
    have e51 := cell_of_blk he14 1
    have e52 := cell_of_blk he14 2
    have e53 := cell_of_blk he14 3
    have e54 := cell_of_blk he14 4
    have e55 := cell_of_blk he14 5
    have e56 := cell_of_blk he14 6
    have e57 := cell_of_blk he14 7
    have f57 := free_of_blk he14 7
    have r50 := cell_of_blk hr14 0
    have q50 := free_of_blk hr14 0
    have r51 := cell_of_blk hr14 1
    have q51 := free_of_blk hr14 1
    have r52 := cell_of_blk hr14 2
    have q52 := free_of_blk hr14 2
    have r53 := cell_of_blk hr14 3
    have q53 := free_of_blk hr14 3
    have r54 := cell_of_blk hr14 4
    have q54 := free_of_blk hr14 4
    have r55 := cell_of_blk hr14 5
    have q55 := free_of_blk hr14 5
    have r56 := cell_of_blk hr14 6
    have q56 := free_of_blk hr14 6
    have r57 := cell_of_blk hr14 7
    have q57 := free_of_blk hr14 7
    have HR14 := hid hr14
    have HE14 := hid he14
    have OO1 := hid o1
    have OO2 := hid o2
    clear hr14 he14 o1 o2 hx14
    go_wp2
    have t1 := OO2.out.setCell (r := w11.heap.size) (by omega) ⟨_, _, HE14.out, by decide⟩ 7 (.slice ad3 l3 c33)
    have t2 : But p w (w14.setCell ⟨w11.heap.size, 7, none⟩ (.slice ad3 l3 c33)) := ((b11.trans b13).trans o3).setNew _ 7 (by omega) _
    have t3 : ∀ b, b ≠ w11.heap.size → (w14.setCell ⟨w11.heap.size, 7, none⟩ (.slice ad3 l3 c33)).heap[b]? = w14.heap[b]? := fun b hb => heap_far hb
    have t4 : (w14.setCell ⟨w11.heap.size, 7, none⟩ (.slice ad3 l3 c33)).heap.size = w14.heap.size := by simp [World.setCell]
    generalize w14.setCell ⟨w11.heap.size, 7, none⟩ (.slice ad3 l3 c33) = w15 at t1 t2 t3 t4 ⊢
    refine ret_sm Tryd.results54 rfl (by omega) (Nat.le_refl _) ((t3 _ (by omega)).trans HR14.out) (by rw [P4.out]; exact t1) t2 (fun x j hx => ?_)
    obtain ⟨e, j1, t, j2, o, q1, q2, q3, rfl⟩ := P6.out x j hx
    obtain ⟨xs, v1, v2⟩ := G1.out t j2 q2
    obtain ⟨os, v3, v4⟩ := OO1.out o j q3
    have b15 : But p w11 w14 := b13.trans o3
    have b16 : But p w10 w14 := g3.trans b15
    have hz15 := b15.size
    have k10 : ∀ b, InB (w.heap.size + 1) w10 b → InB (w.heap.size + 1) w15 b := fun b hb => ⟨hb.1, by have := hb.2; omega⟩
    have k11 : KeepA (InB (w.heap.size + 1) w10) w10 w15 := fun b hb => (t3 b (by have := hb.2; omega)).trans (b16.block b hb.2 (by have := hb.1; omega))
    have k12 : ∀ b, InB (w.heap.size + 1) w11 b → InB (w.heap.size + 1) w15 b := fun b hb => ⟨hb.1, by have := hb.2; omega⟩
    have k13 : KeepA (InB (w.heap.size + 1) w11) w11 w15 := fun b hb => (t3 b (by have := hb.2; omega)).trans (b15.block b hb.2 (by have := hb.1; omega))
    have k14 : ∀ b, InB (w11.heap.size + 1) w14 b → InB (w.heap.size + 1) w15 b := fun b hb => ⟨by have := hb.1; omega, by have := hb.2; omega⟩
    have k15 : KeepA (InB (w11.heap.size + 1) w14) w14 w15 := fun b hb => t3 b (by have := hb.1; omega)
    exact ⟨[.string k, .int .i64 m, .string y, .slice ad c1 c2], _, xs, _, os, rfl, RepE.imp k10 k11 _ _ (K1.out e j1 q1), v1.imp k12 k13, RepSs.imp k12 k13 _ _ v2, v3.imp k14 k15, RepSs.imp k14 k15 _ _ v4⟩
set_option maxRecDepth 100000 in
theorem stmt_none {T : List Tok} {a : Nat → Addr} {p n d : Nat} {s : Rs Unit} {w : World} (h : PAt T a p d s w) (h1 : (nxt T s).kind ≠ kName) (t0 : seesB T kWord kVar s = false) (t1 : seesB T kWord kIf s = false) (t2 : seesB T kWord kWhile s = false) (t3 : seesB T kWord kReturn s = false) (t4 : seesB T kWord kPrint s = false) :
    Calls Tryd.prog 54 #[ptrV p] w (SmTo T a p d w (s.via (stmtT T (n + 1) d))) := by
  have hlt := h.lt
  obtain ⟨r, hr⟩ : ∃ r, r = s.via (stmtT T (n + 1) d) := ⟨_, rfl⟩
  rw [← hr]
  have hr2 : r.st = s.fail 1 ∧ ∀ x j, r ≠ .ok x j := by
    rw [hr]
    cases s with
    | out => exact ⟨rfl, fun _ _ h => by cases h⟩
    | bad c k => exact ⟨rfl, fun _ _ h => by cases h⟩
    | ok u i =>
      have z : ∀ x, seesB T kWord x (.ok () i) = false → ¬ isT T kWord x i := fun x hx => by rw [sees_ok] at hx; simpa using hx
      rw [Rs.via_ok, stmtT, if_neg (show (tk T i).kind ≠ kName from h1), if_neg (z _ t0), if_neg (z _ t1), if_neg (z _ t2), if_neg (z _ t3), if_neg (z _ t4)]
      exact ⟨rfl, fun _ _ h => by cases h⟩
  obtain ⟨kd, tx, ps, ht⟩ := tok_parts (nxt T s)
  have n1 : kd ≠ kName := by rw [ht] at h1; exact h1
  have m1 := str_ne n1
  unfold kName at m1
  have HT0 := hid ht
  have HR := hid hr2
  have S0 := hid t0
  have S1 := hid t1
  have S2 := hid t2
  have S3 := hid t3
  have S4 := hid t4
  clear hr hr2 ht h1 t0 t1 t2 t3 t4 n1
  have hfd := fld_kind ⟨kd.toArray⟩ ⟨tx.toArray⟩ ps
  go_enter Tryd.func54, Tryd.ntmps54
  go_wp2_with fail
  have hb0 : Below w.heap.size w (w.alloc (.cells #[.string ⟨#[]⟩, .string ⟨#[]⟩, .string ⟨#[]⟩, .int .i64 0, .string ⟨#[]⟩, .slice none 0 0, .slice none 0 0, .slice none 0 0] 57)) := by (repeat (first | exact Below.refl _ _ | assumption | refine Below.drew ?_ | refine Below.trans ?_ (drewN_below' _ _ _) | refine Below.setCell ?_ (by first | (simp; done) | (simp; omega)) _ | refine Below.alloc ?_ (by first | (simp; done) | (simp; omega)) _))
  have hr0 := heap_alloc_new w (.cells #[.string ⟨#[]⟩, .string ⟨#[]⟩, .string ⟨#[]⟩, .int .i64 0, .string ⟨#[]⟩, .slice none 0 0, .slice none 0 0, .slice none 0 0] 57)
  have hz0 := size_alloc w (.cells #[.string ⟨#[]⟩, .string ⟨#[]⟩, .string ⟨#[]⟩, .int .i64 0, .string ⟨#[]⟩, .slice none 0 0, .slice none 0 0, .slice none 0 0] 57)
  generalize w.alloc (.cells #[.string ⟨#[]⟩, .string ⟨#[]⟩, .string ⟨#[]⟩, .int .i64 0, .string ⟨#[]⟩, .slice none 0 0, .slice none 0 0, .slice none 0 0] 57) = w0 at hb0 hr0 hz0 ⊢
  refine (next_any (h.keep hb0)).mono ?_
  rw [HT0.out]
  unfold tokA
  rintro e w1 ⟨rfl, hb1⟩
  have hz1 := hb1.size
  have hr1 := (hb1.block _ (by omega)).trans hr0
  have b1 : But p w w1 := But.of (bl_trans hb0 hb0.size hb1)
  have hp1 := h.keep (bl_trans hb0 hb0.size hb1)
  clear hr0 hb0 hb1
  have HR1 := hid hr1
  have HP1 := hid hp1
  clear hr1 hp1
  go_wp2_with fail
  refine (skip_any HP1.out kWord kVar word_ne).mono ?_
  rw [S0.out, skip_no S0.out]
  rintro e w2 ⟨rfl, hp2, hb2⟩
  have hz2 := hb2.size
  have hr2 := heap_keep hb2 HR1.out (by omega)
  have b2 := b1.trans hb2
  have HR2 := hid hr2
  have HP2 := hid hp2
  clear hr2 hp2
  go_wp2_with fail
  refine (skip_any HP2.out kWord kIf word_ne).mono ?_
  rw [S1.out, skip_no S1.out]
  rintro e w3 ⟨rfl, hp3, hb3⟩
  have hz3 := hb3.size
  have hr3 := heap_keep hb3 HR2.out (by omega)
  have b3 := b2.trans hb3
  have HR3 := hid hr3
  have HP3 := hid hp3
  clear hr3 hp3
  go_wp2_with fail
  refine (skip_any HP3.out kWord kWhile word_ne).mono ?_
  rw [S2.out, skip_no S2.out]
  rintro e w4 ⟨rfl, hp4, hb4⟩
  have hz4 := hb4.size
  have hr4 := heap_keep hb4 HR3.out (by omega)
  have b4 := b3.trans hb4
  have HR4 := hid hr4
  have HP4 := hid hp4
  clear hr4 hp4
  go_wp2_with fail
  refine (skip_any HP4.out kWord kReturn word_ne).mono ?_
  rw [S3.out, skip_no S3.out]
  rintro e w5 ⟨rfl, hp5, hb5⟩
  have hz5 := hb5.size
  have hr5 := heap_keep hb5 HR4.out (by omega)
  have b5 := b4.trans hb5
  have HR5 := hid hr5
  have HP5 := hid hp5
  clear hr5 hp5
  go_wp2_with fail
  refine (skip_any HP5.out kWord kPrint word_ne).mono ?_
  rw [S4.out, skip_no S4.out]
  rintro e w6 ⟨rfl, hp6, hb6⟩
  have hz6 := hb6.size
  have hr6 := heap_keep hb6 HR5.out (by omega)
  have b6 := b5.trans hb6
  have HR6 := hid hr6
  have HP6 := hid hp6
  have hc := hp6.g.text
  clear hr6 hp6
  go_wp2_with fail
  refine (fail_any HP6.out 1 _ rfl).mono ?_
  rintro e w7 ⟨rfl, hp7, hb7⟩
  have hr7 := heap_keep hb7 HR6.out (by omega)
  have n2 := heap_lt hr7
  have r50 := cell_of_blk hr7 0
  have q50 := free_of_blk hr7 0
  have r51 := cell_of_blk hr7 1
  have q51 := free_of_blk hr7 1
  have r52 := cell_of_blk hr7 2
  have q52 := free_of_blk hr7 2
  have r53 := cell_of_blk hr7 3
  have q53 := free_of_blk hr7 3
  have r54 := cell_of_blk hr7 4
  have q54 := free_of_blk hr7 4
  have r55 := cell_of_blk hr7 5
  have q55 := free_of_blk hr7 5
  have r56 := cell_of_blk hr7 6
  have q56 := free_of_blk hr7 6
  have r57 := cell_of_blk hr7 7
  have q57 := free_of_blk hr7 7
  have HR7 := hid hr7
  have HP7 := hid hp7
  clear hr7 hp7
  go_wp2
  exact ret_sm Tryd.results54 rfl (by omega) (Nat.le_refl _) HR7.out (by rw [HR.out.1]; exact HP7.out) (b6.trans hb7) (fun x j hx => absurd hx (HR.out.2 x j))
/-- A statement, one deeper. -/
theorem stmt_ok {T : List Tok} {a : Nat → Addr} {p n : Nat} (hE : EOk T a p n) (hB : BOk T a p n) : TOk T a p (n + 1) := by
  intro d s w h hout
  by_cases h1 : (nxt T s).kind = kName
  · obtain ⟨i, rfl, _⟩ := nxt_ok h (by rw [h1]; decide)
    exact stmt_name hE h h1 hout
  cases t0 : seesB T kWord kVar s with
  | true =>
    obtain ⟨i, rfl, _⟩ := nxt_ok h (by rw [(of_decide_eq_true t0).1]; decide)
    exact stmt_var hE h (of_decide_eq_true t0) hout
  | false =>
    cases t1 : seesB T kWord kIf s with
    | true =>
      obtain ⟨i, rfl, _⟩ := nxt_ok h (by rw [(of_decide_eq_true t1).1]; decide)
      exact stmt_if hE hB h (of_decide_eq_true t1) hout
    | false =>
      cases t2 : seesB T kWord kWhile s with
      | true =>
        obtain ⟨i, rfl, _⟩ := nxt_ok h (by rw [(of_decide_eq_true t2).1]; decide)
        exact stmt_while hE hB h (of_decide_eq_true t2) hout
      | false =>
        cases t3 : seesB T kWord kReturn s with
        | true =>
          obtain ⟨i, rfl, _⟩ := nxt_ok h (by rw [(of_decide_eq_true t3).1]; decide)
          exact stmt_ret hE h (of_decide_eq_true t3) hout
        | false =>
          cases t4 : seesB T kWord kPrint s with
          | true =>
            obtain ⟨i, rfl, _⟩ := nxt_ok h (by rw [(of_decide_eq_true t4).1]; decide)
            exact stmt_print hE h (of_decide_eq_true t4) hout
          | false => exact stmt_none h h1 t0 t1 t2 t3 t4
end Go.Proofs.YtcebpmaggnephabDoor
