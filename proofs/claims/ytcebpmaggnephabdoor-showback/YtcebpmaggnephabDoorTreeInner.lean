/-
  Our own: package tree's parser: a sign, and what lies one deeper behind it.
-/
import Derived.Test.YtcebpmaggnephabDoorTreeArg
namespace Go.Proofs.YtcebpmaggnephabDoor
open Go.RowKit

theorem PAt.nest {T : List Tok} {a : Nat → Addr} {p d1 : Nat} {s : Rs Unit} {w : World} (h : PAt T a p d1 s w) (d2 : Nat) (hd : d2 ≤ 12) : PAt T a p d2 s (w.setCell ⟨p, 2, none⟩ (.int .i64 (d2 : Nat))) := by
  obtain ⟨hf, _, hg, tv, i, ev, hx, hi, ht, he⟩ := h
  have hb : But p w (w.setCell ⟨p, 2, none⟩ (.int .i64 (d2 : Nat))) := (But.refl p w).set 2 _
  exact ⟨hf, hd, hg.keep hb, tv, i, ev, (blk_setCell hx 2 _).trans rfl, hi, ht.keep hb (heap_lt hx), he.keep hb⟩
theorem PAt.step {T : List Tok} {a : Nat → Addr} {p d i : Nat} {w : World} (h : PAt T a p d (.ok () i) w) (hi : i < T.length) : PAt T a p d (.ok () (i + 1)) (w.setCell ⟨p, 1, none⟩ (.int .i64 ((i : Int) + 1))) := by
  obtain ⟨hf, hd, hg, tv, i, ev, hx, _, ht, rfl, rfl⟩ := h
  have hb : But p w (w.setCell ⟨p, 1, none⟩ (.int .i64 ((i : Int) + 1))) := (But.refl p w).set 1 _
  exact ⟨hf, hd, hg.keep hb, tv, i + 1, _, (blk_setCell hx 1 _).trans rfl, hi, ht.keep hb (heap_lt hx), rfl, rfl⟩
/-- What 'inner' leaves: the sign is not there; it is too deep; or what the closure leaves. -/
def InTo (T : List Tok) (a : Nat → Addr) (p d B : Nat) (s : Rs Unit) (w : World) (x : List UInt8) (Post : Nat → Rs Unit → World → Prop) (e : Ending) (w' : World) : Prop :=
  e = .returned (.tuple #[]) ∧ ((seesB T kSign x s = false ∧ PAt T a p d (s.fail 1) w' ∧ But p w w') ∨ (seesB T kSign x s = true ∧ d = 12 ∧ PAt T a p d (s.fail 10) w' ∧ But p w w') ∨
    (∃ i s2, s = .ok () i ∧ isT T kSign x i ∧ d < 12 ∧ PAt T a p d s2 w' ∧ Bb p B w w' ∧ Post i s2 w'))
/-- What is asked of the closure. -/
def WhatOk (T : List Tok) (a : Nat → Addr) (p d B : Nat) (s : Rs Unit) (w : World) (x : List UInt8) (Post : Nat → Rs Unit → World → Prop) (f : FuncId) (caps : Array Value) : Prop :=
  ∀ w1 i, s = .ok () i → isT T kSign x i → d < 12 → PAt T a p (d + 1) (.ok () (i + 1)) w1 → But p w w1 → Calls Tryd.prog f caps w1 fun e w2 => e = .returned (.tuple #[]) ∧ ∃ s2, PAt T a p (d + 1) s2 w2 ∧ Bb p B w1 w2 ∧ Post i s2 w2
set_option maxRecDepth 100000 in
theorem inner_one {T : List Tok} {a : Nat → Addr} {p d B : Nat} {s : Rs Unit} {w : World} (h : PAt T a p d s w) (x : List UInt8) (tb xb eb : Nat) (Post : Nat → Rs Unit → World → Prop) (hB : B ≤ w.heap.size)
    (hw : WhatOk T a p d B s w x Post 89 #[ptrV tb, ptrV xb, ptrV eb]) (hP : ∀ i s2 w2 w3, Post i s2 w2 → But p w2 w3 → Post i s2 w3) :
    Calls Tryd.prog 52 #[ptrV p, .string ⟨x.toArray⟩, .func (.func 89) #[] #[ptrV tb, ptrV xb, ptrV eb]] w (InTo T a p d B s w x Post) := by
  have hs := sees_any h x
  have hd0 := h.deep
  have HW := hid hw
  have HP := hid hP
  clear hw hP
  cases hb : seesB T kSign x s with
  | false =>
    rw [hb] at hs
    go_enter Tryd.func52, Tryd.ntmps52
    go_wp2_with fail
    refine hs.mono ?_
    rintro e w' ⟨rfl, hbl⟩
    have hp := h.keep hbl
    have hc := hp.g.text
    go_wp2_with fail
    refine (fail_any hp 1 _ rfl).mono ?_
    rintro e2 w2 ⟨rfl, hp2, hw2⟩
    go_wp2
    go_end0
    exact ⟨rfl, Or.inl ⟨hb, hp2, (But.of hbl).trans hw2⟩⟩
  | true =>
    have hb' := of_decide_eq_true hb
    obtain ⟨i, rfl, hi⟩ := nxt_ok h (by rw [hb'.1]; exact sign_ne)
    by_cases hd : d = 12
    · have e12 : ((d : Int) == 12) = true := by rw [hd]; rfl
      rw [hb] at hs
      go_enter Tryd.func52, Tryd.ntmps52
      go_wp2_with fail
      refine hs.mono ?_
      rintro e w' ⟨rfl, hbl⟩
      have hp := h.keep hbl
      have hc := hp.g.deep
      have c2 : w'.cell? ⟨p, 2, none⟩ = some (.int .i64 d) := by obtain ⟨_, _, _, tv, i, ev, hx, _⟩ := hp; exact cell_of_blk hx 2
      have HD := hid hd
      clear hd
      go_wp2_with fail
      refine (fail_any hp 10 _ rfl).mono ?_
      rintro e2 w2 ⟨rfl, hp2, hw2⟩
      go_wp2
      go_end0
      exact ⟨rfl, Or.inr (Or.inl ⟨hb, HD.out, hp2, (But.of hbl).trans hw2⟩)⟩
    · have e12 : ((d : Int) == 12) = false := by simpa using (by omega : (d : Int) ≠ 12)
      have hd2 : (d : Int) ≤ 11 := by omega
      rw [hb] at hs
      go_enter Tryd.func52, Tryd.ntmps52
      go_wp2_with fail
      refine hs.mono ?_
      rintro e w' ⟨rfl, hbl⟩
      have hp := h.keep hbl
      have hlt := hp.lt
      have hblk : ∃ tv, w'.heap[p]? = some (.cells #[tv, .int .i64 i, .int .i64 d, .nilIface] 60 (0, 0)) := by obtain ⟨_, _, _, tv, i, ev, hx, _, _, rfl, rfl⟩ := hp; exact ⟨tv, hx⟩
      obtain ⟨tv, hx⟩ := hblk
      have c1 : w'.cell? ⟨p, 1, none⟩ = some (.int .i64 i) := cell_of_blk hx 1
      have c2 : w'.cell? ⟨p, 2, none⟩ = some (.int .i64 d) := cell_of_blk hx 2
      have f1 := free_of_blk hx 1
      have f2 := free_of_blk hx 2
      have hi2 : (i : Int) ≤ 1000 := by have := h.few; omega
      have HI := hid hi
      clear hx hi hd
      go_wp2_with fail
      have q1 := (hp.step HI.out).nest (d + 1) (by omega)
      have b1 : But p w ((w'.setCell ⟨p, 1, none⟩ (.int .i64 ((i : Int) + 1))).setCell ⟨p, 2, none⟩ (.int .i64 ((d + 1 : Nat) : Int))) := ((But.of hbl).set 1 _).set 2 _
      have ed : ((d + 1 : Nat) : Int) = (d : Int) + 1 := by omega
      rw [ed] at q1 b1
      generalize ((w'.setCell ⟨p, 1, none⟩ (.int .i64 ((i : Int) + 1))).setCell ⟨p, 2, none⟩ (.int .i64 ((d : Int) + 1))) = w1 at q1 b1 ⊢
      refine (HW.out w1 i rfl hb' (by omega) q1 b1).mono ?_
      rintro e2 w2 ⟨rfl, s2, hp2, hB2, hP2⟩
      have hblk2 : ∃ tv i ev, w2.heap[p]? = some (.cells #[tv, .int .i64 i, .int .i64 ((d + 1 : Nat) : Int), ev] 60 (0, 0)) := by obtain ⟨_, _, _, tv, i, ev, hx, _⟩ := hp2; exact ⟨tv, i, ev, hx⟩
      obtain ⟨tv2, i2, ev2, hx2⟩ := hblk2
      rw [ed] at hx2
      have m2 : w2.cell? ⟨p, 2, none⟩ = some (.int .i64 ((d : Int) + 1)) := cell_of_blk hx2 2
      have f3 := free_of_blk hx2 2
      have hlt2 := heap_lt hx2
      clear hx2 ed
      go_wp2
      go_end0
      have b3 : But p w2 (w2.setCell ⟨p, 2, none⟩ (.int .i64 (d : Nat))) := (But.refl p w2).set 2 _
      have hz := b1.size
      have hz2 := hB2.size
      exact ⟨rfl, Or.inr (Or.inr ⟨i, s2, rfl, hb', by omega, hp2.nest d (by omega), ((b1.bb hB).trans hB2).trans (b3.bb (by omega)), HP.out _ _ _ _ hP2 b3⟩)⟩
set_option maxRecDepth 100000 in
theorem inner_par {T : List Tok} {a : Nat → Addr} {p d B : Nat} {s : Rs Unit} {w : World} (h : PAt T a p d s w) (x : List UInt8) (xb eb : Nat) (Post : Nat → Rs Unit → World → Prop) (hB : B ≤ w.heap.size)
    (hw : WhatOk T a p d B s w x Post 90 #[ptrV xb, ptrV eb]) (hP : ∀ i s2 w2 w3, Post i s2 w2 → But p w2 w3 → Post i s2 w3) :
    Calls Tryd.prog 52 #[ptrV p, .string ⟨x.toArray⟩, .func (.func 90) #[] #[ptrV xb, ptrV eb]] w (InTo T a p d B s w x Post) := by
  have hs := sees_any h x
  have hd0 := h.deep
  have HW := hid hw
  have HP := hid hP
  clear hw hP
  cases hb : seesB T kSign x s with
  | false =>
    rw [hb] at hs
    go_enter Tryd.func52, Tryd.ntmps52
    go_wp2_with fail
    refine hs.mono ?_
    rintro e w' ⟨rfl, hbl⟩
    have hp := h.keep hbl
    have hc := hp.g.text
    go_wp2_with fail
    refine (fail_any hp 1 _ rfl).mono ?_
    rintro e2 w2 ⟨rfl, hp2, hw2⟩
    go_wp2
    go_end0
    exact ⟨rfl, Or.inl ⟨hb, hp2, (But.of hbl).trans hw2⟩⟩
  | true =>
    have hb' := of_decide_eq_true hb
    obtain ⟨i, rfl, hi⟩ := nxt_ok h (by rw [hb'.1]; exact sign_ne)
    by_cases hd : d = 12
    · have e12 : ((d : Int) == 12) = true := by rw [hd]; rfl
      rw [hb] at hs
      go_enter Tryd.func52, Tryd.ntmps52
      go_wp2_with fail
      refine hs.mono ?_
      rintro e w' ⟨rfl, hbl⟩
      have hp := h.keep hbl
      have hc := hp.g.deep
      have c2 : w'.cell? ⟨p, 2, none⟩ = some (.int .i64 d) := by obtain ⟨_, _, _, tv, i, ev, hx, _⟩ := hp; exact cell_of_blk hx 2
      have HD := hid hd
      clear hd
      go_wp2_with fail
      refine (fail_any hp 10 _ rfl).mono ?_
      rintro e2 w2 ⟨rfl, hp2, hw2⟩
      go_wp2
      go_end0
      exact ⟨rfl, Or.inr (Or.inl ⟨hb, HD.out, hp2, (But.of hbl).trans hw2⟩)⟩
    · have e12 : ((d : Int) == 12) = false := by simpa using (by omega : (d : Int) ≠ 12)
      have hd2 : (d : Int) ≤ 11 := by omega
      rw [hb] at hs
      go_enter Tryd.func52, Tryd.ntmps52
      go_wp2_with fail
      refine hs.mono ?_
      rintro e w' ⟨rfl, hbl⟩
      have hp := h.keep hbl
      have hlt := hp.lt
      have hblk : ∃ tv, w'.heap[p]? = some (.cells #[tv, .int .i64 i, .int .i64 d, .nilIface] 60 (0, 0)) := by obtain ⟨_, _, _, tv, i, ev, hx, _, _, rfl, rfl⟩ := hp; exact ⟨tv, hx⟩
      obtain ⟨tv, hx⟩ := hblk
      have c1 : w'.cell? ⟨p, 1, none⟩ = some (.int .i64 i) := cell_of_blk hx 1
      have c2 : w'.cell? ⟨p, 2, none⟩ = some (.int .i64 d) := cell_of_blk hx 2
      have f1 := free_of_blk hx 1
      have f2 := free_of_blk hx 2
      have hi2 : (i : Int) ≤ 1000 := by have := h.few; omega
      have HI := hid hi
      clear hx hi hd
      go_wp2_with fail
      have q1 := (hp.step HI.out).nest (d + 1) (by omega)
      have b1 : But p w ((w'.setCell ⟨p, 1, none⟩ (.int .i64 ((i : Int) + 1))).setCell ⟨p, 2, none⟩ (.int .i64 ((d + 1 : Nat) : Int))) := ((But.of hbl).set 1 _).set 2 _
      have ed : ((d + 1 : Nat) : Int) = (d : Int) + 1 := by omega
      rw [ed] at q1 b1
      generalize ((w'.setCell ⟨p, 1, none⟩ (.int .i64 ((i : Int) + 1))).setCell ⟨p, 2, none⟩ (.int .i64 ((d : Int) + 1))) = w1 at q1 b1 ⊢
      refine (HW.out w1 i rfl hb' (by omega) q1 b1).mono ?_
      rintro e2 w2 ⟨rfl, s2, hp2, hB2, hP2⟩
      have hblk2 : ∃ tv i ev, w2.heap[p]? = some (.cells #[tv, .int .i64 i, .int .i64 ((d + 1 : Nat) : Int), ev] 60 (0, 0)) := by obtain ⟨_, _, _, tv, i, ev, hx, _⟩ := hp2; exact ⟨tv, i, ev, hx⟩
      obtain ⟨tv2, i2, ev2, hx2⟩ := hblk2
      rw [ed] at hx2
      have m2 : w2.cell? ⟨p, 2, none⟩ = some (.int .i64 ((d : Int) + 1)) := cell_of_blk hx2 2
      have f3 := free_of_blk hx2 2
      have hlt2 := heap_lt hx2
      clear hx2 ed
      go_wp2
      go_end0
      have b3 : But p w2 (w2.setCell ⟨p, 2, none⟩ (.int .i64 (d : Nat))) := (But.refl p w2).set 2 _
      have hz := b1.size
      have hz2 := hB2.size
      exact ⟨rfl, Or.inr (Or.inr ⟨i, s2, rfl, hb', by omega, hp2.nest d (by omega), ((b1.bb hB).trans hB2).trans (b3.bb (by omega)), HP.out _ _ _ _ hP2 b3⟩)⟩
set_option maxRecDepth 100000 in
theorem inner_call {T : List Tok} {a : Nat → Addr} {p d B : Nat} {s : Rs Unit} {w : World} (h : PAt T a p d s w) (x : List UInt8) (xb eb : Nat) (Post : Nat → Rs Unit → World → Prop) (hB : B ≤ w.heap.size)
    (hw : WhatOk T a p d B s w x Post 93 #[ptrV xb, ptrV eb]) (hP : ∀ i s2 w2 w3, Post i s2 w2 → But p w2 w3 → Post i s2 w3) :
    Calls Tryd.prog 52 #[ptrV p, .string ⟨x.toArray⟩, .func (.func 93) #[] #[ptrV xb, ptrV eb]] w (InTo T a p d B s w x Post) := by
  have hs := sees_any h x
  have hd0 := h.deep
  have HW := hid hw
  have HP := hid hP
  clear hw hP
  cases hb : seesB T kSign x s with
  | false =>
    rw [hb] at hs
    go_enter Tryd.func52, Tryd.ntmps52
    go_wp2_with fail
    refine hs.mono ?_
    rintro e w' ⟨rfl, hbl⟩
    have hp := h.keep hbl
    have hc := hp.g.text
    go_wp2_with fail
    refine (fail_any hp 1 _ rfl).mono ?_
    rintro e2 w2 ⟨rfl, hp2, hw2⟩
    go_wp2
    go_end0
    exact ⟨rfl, Or.inl ⟨hb, hp2, (But.of hbl).trans hw2⟩⟩
  | true =>
    have hb' := of_decide_eq_true hb
    obtain ⟨i, rfl, hi⟩ := nxt_ok h (by rw [hb'.1]; exact sign_ne)
    by_cases hd : d = 12
    · have e12 : ((d : Int) == 12) = true := by rw [hd]; rfl
      rw [hb] at hs
      go_enter Tryd.func52, Tryd.ntmps52
      go_wp2_with fail
      refine hs.mono ?_
      rintro e w' ⟨rfl, hbl⟩
      have hp := h.keep hbl
      have hc := hp.g.deep
      have c2 : w'.cell? ⟨p, 2, none⟩ = some (.int .i64 d) := by obtain ⟨_, _, _, tv, i, ev, hx, _⟩ := hp; exact cell_of_blk hx 2
      have HD := hid hd
      clear hd
      go_wp2_with fail
      refine (fail_any hp 10 _ rfl).mono ?_
      rintro e2 w2 ⟨rfl, hp2, hw2⟩
      go_wp2
      go_end0
      exact ⟨rfl, Or.inr (Or.inl ⟨hb, HD.out, hp2, (But.of hbl).trans hw2⟩)⟩
    · have e12 : ((d : Int) == 12) = false := by simpa using (by omega : (d : Int) ≠ 12)
      have hd2 : (d : Int) ≤ 11 := by omega
      rw [hb] at hs
      go_enter Tryd.func52, Tryd.ntmps52
      go_wp2_with fail
      refine hs.mono ?_
      rintro e w' ⟨rfl, hbl⟩
      have hp := h.keep hbl
      have hlt := hp.lt
      have hblk : ∃ tv, w'.heap[p]? = some (.cells #[tv, .int .i64 i, .int .i64 d, .nilIface] 60 (0, 0)) := by obtain ⟨_, _, _, tv, i, ev, hx, _, _, rfl, rfl⟩ := hp; exact ⟨tv, hx⟩
      obtain ⟨tv, hx⟩ := hblk
      have c1 : w'.cell? ⟨p, 1, none⟩ = some (.int .i64 i) := cell_of_blk hx 1
      have c2 : w'.cell? ⟨p, 2, none⟩ = some (.int .i64 d) := cell_of_blk hx 2
      have f1 := free_of_blk hx 1
      have f2 := free_of_blk hx 2
      have hi2 : (i : Int) ≤ 1000 := by have := h.few; omega
      have HI := hid hi
      clear hx hi hd
      go_wp2_with fail
      have q1 := (hp.step HI.out).nest (d + 1) (by omega)
      have b1 : But p w ((w'.setCell ⟨p, 1, none⟩ (.int .i64 ((i : Int) + 1))).setCell ⟨p, 2, none⟩ (.int .i64 ((d + 1 : Nat) : Int))) := ((But.of hbl).set 1 _).set 2 _
      have ed : ((d + 1 : Nat) : Int) = (d : Int) + 1 := by omega
      rw [ed] at q1 b1
      generalize ((w'.setCell ⟨p, 1, none⟩ (.int .i64 ((i : Int) + 1))).setCell ⟨p, 2, none⟩ (.int .i64 ((d : Int) + 1))) = w1 at q1 b1 ⊢
      refine (HW.out w1 i rfl hb' (by omega) q1 b1).mono ?_
      rintro e2 w2 ⟨rfl, s2, hp2, hB2, hP2⟩
      have hblk2 : ∃ tv i ev, w2.heap[p]? = some (.cells #[tv, .int .i64 i, .int .i64 ((d + 1 : Nat) : Int), ev] 60 (0, 0)) := by obtain ⟨_, _, _, tv, i, ev, hx, _⟩ := hp2; exact ⟨tv, i, ev, hx⟩
      obtain ⟨tv2, i2, ev2, hx2⟩ := hblk2
      rw [ed] at hx2
      have m2 : w2.cell? ⟨p, 2, none⟩ = some (.int .i64 ((d : Int) + 1)) := cell_of_blk hx2 2
      have f3 := free_of_blk hx2 2
      have hlt2 := heap_lt hx2
      clear hx2 ed
      go_wp2
      go_end0
      have b3 : But p w2 (w2.setCell ⟨p, 2, none⟩ (.int .i64 (d : Nat))) := (But.refl p w2).set 2 _
      have hz := b1.size
      have hz2 := hB2.size
      exact ⟨rfl, Or.inr (Or.inr ⟨i, s2, rfl, hb', by omega, hp2.nest d (by omega), ((b1.bb hB).trans hB2).trans (b3.bb (by omega)), HP.out _ _ _ _ hP2 b3⟩)⟩
set_option maxRecDepth 100000 in
theorem inner_block {T : List Tok} {a : Nat → Addr} {p d B : Nat} {s : Rs Unit} {w : World} (h : PAt T a p d s w) (x : List UInt8) (xb eb : Nat) (Post : Nat → Rs Unit → World → Prop) (hB : B ≤ w.heap.size)
    (hw : WhatOk T a p d B s w x Post 53 #[ptrV xb, ptrV eb]) (hP : ∀ i s2 w2 w3, Post i s2 w2 → But p w2 w3 → Post i s2 w3) :
    Calls Tryd.prog 52 #[ptrV p, .string ⟨x.toArray⟩, .func (.func 53) #[] #[ptrV xb, ptrV eb]] w (InTo T a p d B s w x Post) := by
  have hs := sees_any h x
  have hd0 := h.deep
  have HW := hid hw
  have HP := hid hP
  clear hw hP
  cases hb : seesB T kSign x s with
  | false =>
    rw [hb] at hs
    go_enter Tryd.func52, Tryd.ntmps52
    go_wp2_with fail
    refine hs.mono ?_
    rintro e w' ⟨rfl, hbl⟩
    have hp := h.keep hbl
    have hc := hp.g.text
    go_wp2_with fail
    refine (fail_any hp 1 _ rfl).mono ?_
    rintro e2 w2 ⟨rfl, hp2, hw2⟩
    go_wp2
    go_end0
    exact ⟨rfl, Or.inl ⟨hb, hp2, (But.of hbl).trans hw2⟩⟩
  | true =>
    have hb' := of_decide_eq_true hb
    obtain ⟨i, rfl, hi⟩ := nxt_ok h (by rw [hb'.1]; exact sign_ne)
    by_cases hd : d = 12
    · have e12 : ((d : Int) == 12) = true := by rw [hd]; rfl
      rw [hb] at hs
      go_enter Tryd.func52, Tryd.ntmps52
      go_wp2_with fail
      refine hs.mono ?_
      rintro e w' ⟨rfl, hbl⟩
      have hp := h.keep hbl
      have hc := hp.g.deep
      have c2 : w'.cell? ⟨p, 2, none⟩ = some (.int .i64 d) := by obtain ⟨_, _, _, tv, i, ev, hx, _⟩ := hp; exact cell_of_blk hx 2
      have HD := hid hd
      clear hd
      go_wp2_with fail
      refine (fail_any hp 10 _ rfl).mono ?_
      rintro e2 w2 ⟨rfl, hp2, hw2⟩
      go_wp2
      go_end0
      exact ⟨rfl, Or.inr (Or.inl ⟨hb, HD.out, hp2, (But.of hbl).trans hw2⟩)⟩
    · have e12 : ((d : Int) == 12) = false := by simpa using (by omega : (d : Int) ≠ 12)
      have hd2 : (d : Int) ≤ 11 := by omega
      rw [hb] at hs
      go_enter Tryd.func52, Tryd.ntmps52
      go_wp2_with fail
      refine hs.mono ?_
      rintro e w' ⟨rfl, hbl⟩
      have hp := h.keep hbl
      have hlt := hp.lt
      have hblk : ∃ tv, w'.heap[p]? = some (.cells #[tv, .int .i64 i, .int .i64 d, .nilIface] 60 (0, 0)) := by obtain ⟨_, _, _, tv, i, ev, hx, _, _, rfl, rfl⟩ := hp; exact ⟨tv, hx⟩
      obtain ⟨tv, hx⟩ := hblk
      have c1 : w'.cell? ⟨p, 1, none⟩ = some (.int .i64 i) := cell_of_blk hx 1
      have c2 : w'.cell? ⟨p, 2, none⟩ = some (.int .i64 d) := cell_of_blk hx 2
      have f1 := free_of_blk hx 1
      have f2 := free_of_blk hx 2
      have hi2 : (i : Int) ≤ 1000 := by have := h.few; omega
      have HI := hid hi
      clear hx hi hd
      go_wp2_with fail
      have q1 := (hp.step HI.out).nest (d + 1) (by omega)
      have b1 : But p w ((w'.setCell ⟨p, 1, none⟩ (.int .i64 ((i : Int) + 1))).setCell ⟨p, 2, none⟩ (.int .i64 ((d + 1 : Nat) : Int))) := ((But.of hbl).set 1 _).set 2 _
      have ed : ((d + 1 : Nat) : Int) = (d : Int) + 1 := by omega
      rw [ed] at q1 b1
      generalize ((w'.setCell ⟨p, 1, none⟩ (.int .i64 ((i : Int) + 1))).setCell ⟨p, 2, none⟩ (.int .i64 ((d : Int) + 1))) = w1 at q1 b1 ⊢
      refine (HW.out w1 i rfl hb' (by omega) q1 b1).mono ?_
      rintro e2 w2 ⟨rfl, s2, hp2, hB2, hP2⟩
      have hblk2 : ∃ tv i ev, w2.heap[p]? = some (.cells #[tv, .int .i64 i, .int .i64 ((d + 1 : Nat) : Int), ev] 60 (0, 0)) := by obtain ⟨_, _, _, tv, i, ev, hx, _⟩ := hp2; exact ⟨tv, i, ev, hx⟩
      obtain ⟨tv2, i2, ev2, hx2⟩ := hblk2
      rw [ed] at hx2
      have m2 : w2.cell? ⟨p, 2, none⟩ = some (.int .i64 ((d : Int) + 1)) := cell_of_blk hx2 2
      have f3 := free_of_blk hx2 2
      have hlt2 := heap_lt hx2
      clear hx2 ed
      go_wp2
      go_end0
      have b3 : But p w2 (w2.setCell ⟨p, 2, none⟩ (.int .i64 (d : Nat))) := (But.refl p w2).set 2 _
      have hz := b1.size
      have hz2 := hB2.size
      exact ⟨rfl, Or.inr (Or.inr ⟨i, s2, rfl, hb', by omega, hp2.nest d (by omega), ((b1.bb hB).trans hB2).trans (b3.bb (by omega)), HP.out _ _ _ _ hP2 b3⟩)⟩
end Go.Proofs.YtcebpmaggnephabDoor
