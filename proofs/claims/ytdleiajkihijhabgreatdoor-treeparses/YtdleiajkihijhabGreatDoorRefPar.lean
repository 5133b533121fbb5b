/-
  Our own: the reference's parser: how it lies in memory, and its small steps.
-/
import Derived.Test.YtdleiajkihijhabGreatDoorTreeOne
namespace Go.Proofs.YtdleiajkihijhabGreatDoor
open Go.RowKit

theorem hidR {p : Prop} (h : p) : Hid p := h
/-- What the reference's parser holds: its place and depth, or an error's number and place. -/
def RErr (i : Nat) (dd c k : Int) (d : Nat) : Rs Unit → Prop
  | .out => False
  | .ok _ j => i = j ∧ dd = d ∧ c = 0 ∧ k = -1
  | .bad c0 k0 => c = (c0 : Nat) ∧ 0 < c0 ∧ k = (k0 : Nat)
/-- The reference's parser in block q. -/
structure RAt (T : List Tok) (q d : Nat) (s : Rs Unit) (w : World) : Prop where
  few : T.length ≤ 1000
  deep : d ≤ 12
  blk : ∃ tv i dd c k, w.heap[q]? = some (.cells #[tv, .int .i64 (i : Nat), .int .i64 dd, .int .i64 c, .int .i64 k] 65 (0, 0)) ∧ i ≤ T.length ∧ ToksV w tv T q ∧ RErr i dd c k d s
theorem RAt.lt {T : List Tok} {q d : Nat} {s : Rs Unit} {w : World} (h : RAt T q d s w) : q < w.heap.size := by
  obtain ⟨_, _, tv, i, dd, c, k, hx, _⟩ := h
  exact heap_lt hx
theorem RAt.keep {T : List Tok} {q d : Nat} {s : Rs Unit} {w w' : World} (h : RAt T q d s w) (hb : Below w.heap.size w w') : RAt T q d s w' := by
  obtain ⟨hf, hd, tv, i, dd, c, k, hx, hi, ht, he⟩ := h
  exact ⟨hf, hd, tv, i, dd, c, k, (hb.block q (heap_lt hx)).trans hx, hi, ht.keep (But.of hb) (heap_lt hx), he⟩
/-- A store beyond the parser. -/
theorem RAt.setCell {T : List Tok} {q d : Nat} {s : Rs Unit} {w : World} (h : RAt T q d s w) {r : Nat} (hr : q < r) (i : Nat) (u : Value) : RAt T q d s (w.setCell ⟨r, i, none⟩ u) := by
  obtain ⟨hf, hd, tv, j, dd, c, k, hx, hi, ht, he⟩ := h
  refine ⟨hf, hd, tv, j, dd, c, k, (heap_far (by omega)).trans hx, hi, ?_, he⟩
  obtain ⟨ad, cap, rfl, hy⟩ := ht
  refine ⟨ad, cap, rfl, fun hn => ?_⟩
  obtain ⟨g, off, rfl, hg, ht⟩ := hy hn
  exact ⟨g, off, rfl, hg, ht.of (heap_far (by omega))⟩
theorem RAt.grown {T : List Tok} {q d : Nat} {s : Rs Unit} {w w' : World} {row : Option Nat} (h : RAt T q d s w) (hg : w.grownBy w' row) (hr : ∀ k, row = some k → q < k) : RAt T q d s w' := by
  have hlt := h.lt
  obtain ⟨hf, hd, tv, j, dd, c, k, hx, hi, ht, he⟩ := h
  have hn : ∀ b, b ≤ q → w'.heap[b]? = w.heap[b]? := fun b hb => hg.block b (by omega) (fun e => by have := hr b e.symm; omega)
  refine ⟨hf, hd, tv, j, dd, c, k, (hn q (Nat.le_refl _)).trans hx, hi, ?_, he⟩
  obtain ⟨ad, cap, rfl, hy⟩ := ht
  refine ⟨ad, cap, rfl, fun hn' => ?_⟩
  obtain ⟨g, off, rfl, hg', ht⟩ := hy hn'
  exact ⟨g, off, rfl, hg', ht.of (hn g (by omega))⟩
/-- The parser's own block turned, the tokens as they were. -/
theorem RAt.re {T : List Tok} {q d d' : Nat} {s s' : Rs Unit} {w w' : World} (h : RAt T q d s w) (hb : But q w w') (hd' : d' ≤ 12) {i : Nat} {dd c k : Int} (hi : i ≤ T.length)
    (hx : ∀ tv, (∃ i dd c k, w.heap[q]? = some (.cells #[tv, .int .i64 (i : Nat), .int .i64 dd, .int .i64 c, .int .i64 k] 65 (0, 0))) → w'.heap[q]? = some (.cells #[tv, .int .i64 (i : Nat), .int .i64 dd, .int .i64 c, .int .i64 k] 65 (0, 0)))
    (he : RErr i dd c k d' s') : RAt T q d' s' w' := by
  have hlt := h.lt
  obtain ⟨hf, _, tv, i0, dd0, c0, k0, hx0, _, ht, _⟩ := h
  exact ⟨hf, hd', tv, i, dd, c, k, hx tv ⟨_, _, _, _, hx0⟩, hi, ht.keep hb hlt, he⟩
/-- The next token's text, if it is of a kind. -/
def nextR (T : List Tok) (k : List UInt8) (s : Rs Unit) : List UInt8 := if (nxt T s).kind = k then (nxt T s).text else []
theorem rnext_bad (q : Nat) (tv : Value) (i dd c k : Int) (kd : ByteArray) (w : World) (hc : 0 < c) (h : w.heap[q]? = some (.cells #[tv, .int .i64 i, .int .i64 dd, .int .i64 c, .int .i64 k] 65 (0, 0))) :
    Calls Tryz.prog 35 #[ptrV q, .string kd] w fun e w' => e = .returned (.string ⟨#[]⟩) ∧ Below w.heap.size w w' := by
  have c3 : w.cell? ⟨q, 3, none⟩ = some (.int .i64 c) := cell_of_blk h 3
  go_enter Tryz.func35, Tryz.ntmps35
  go_wp2
  go_quiet (fail)
  go_wp2
  go_ret
  exact ⟨rfl, by (repeat (first | exact Below.refl _ _ | assumption | refine Below.drew ?_ | refine Below.trans ?_ (drewN_below' _ _ _) | refine Below.setCell ?_ (by first | (simp; done) | (simp; omega)) _ | refine Below.alloc ?_ (by first | (simp; done) | (simp; omega)) _))⟩
theorem rnext_end (q : Nat) (ad : Option Addr) (n cap : Nat) (i : Nat) (dd k : Int) (kd : ByteArray) (w : World) (hi : n ≤ i) (_hi2 : i ≤ 1000) (h : w.heap[q]? = some (.cells #[.slice ad n cap, .int .i64 i, .int .i64 dd, .int .i64 0, .int .i64 k] 65 (0, 0))) :
    Calls Tryz.prog 35 #[ptrV q, .string kd] w fun e w' => e = .returned (.string ⟨#[]⟩) ∧ Below w.heap.size w w' := by
  have c0 : w.cell? ⟨q, 0, none⟩ = some (.slice ad n cap) := cell_of_blk h 0
  have c1 : w.cell? ⟨q, 1, none⟩ = some (.int .i64 i) := cell_of_blk h 1
  have c3 : w.cell? ⟨q, 3, none⟩ = some (.int .i64 0) := cell_of_blk h 3
  have hd : (n : Int) ≤ i := by omega
  go_enter Tryz.func35, Tryz.ntmps35
  go_wp2
  go_quiet (fail)
  go_wp2
  go_ret
  exact ⟨rfl, by (repeat (first | exact Below.refl _ _ | assumption | refine Below.drew ?_ | refine Below.trans ?_ (drewN_below' _ _ _) | refine Below.setCell ?_ (by first | (simp; done) | (simp; omega)) _ | refine Below.alloc ?_ (by first | (simp; done) | (simp; omega)) _))⟩
theorem rnext_ne (q g off n cap : Nat) (i : Nat) (dd k : Int) (k1 kd : List UInt8) (hk : k1 ≠ kd) (w : World) (hi : i < n) (_hi2 : n ≤ 1000) (h : w.heap[q]? = some (.cells #[.slice (some ⟨g, off, none⟩) n cap, .int .i64 i, .int .i64 dd, .int .i64 0, .int .i64 k] 65 (0, 0)))
    (t0 : w.cell? ⟨g, off + i * 3, none⟩ = some (.string ⟨k1.toArray⟩)) :
    Calls Tryz.prog 35 #[ptrV q, .string ⟨kd.toArray⟩] w fun e w' => e = .returned (.string ⟨#[]⟩) ∧ Below w.heap.size w w' := by
  have c0 : w.cell? ⟨q, 0, none⟩ = some (.slice (some ⟨g, off, none⟩) n cap) := cell_of_blk h 0
  have c1 : w.cell? ⟨q, 1, none⟩ = some (.int .i64 i) := cell_of_blk h 1
  have c3 : w.cell? ⟨q, 3, none⟩ = some (.int .i64 0) := cell_of_blk h 3
  have hd : (i : Int) < n := by omega
  have e1 := str_ne hk
  go_enter Tryz.func35, Tryz.ntmps35
  go_wp2
  go_quiet (fail)
  go_wp2
  go_quiet (fail)
  go_wp2
  go_ret
  exact ⟨rfl, by (repeat (first | exact Below.refl _ _ | assumption | refine Below.drew ?_ | refine Below.trans ?_ (drewN_below' _ _ _) | refine Below.setCell ?_ (by first | (simp; done) | (simp; omega)) _ | refine Below.alloc ?_ (by first | (simp; done) | (simp; omega)) _))⟩
theorem rnext_eq (q g off n cap : Nat) (i : Nat) (dd k : Int) (kd : List UInt8) (x : ByteArray) (w : World) (hi : i < n) (_hi2 : n ≤ 1000) (h : w.heap[q]? = some (.cells #[.slice (some ⟨g, off, none⟩) n cap, .int .i64 i, .int .i64 dd, .int .i64 0, .int .i64 k] 65 (0, 0)))
    (t0 : w.cell? ⟨g, off + i * 3, none⟩ = some (.string ⟨kd.toArray⟩)) (t1 : w.cell? ⟨g, off + i * 3 + 1, none⟩ = some (.string x)) :
    Calls Tryz.prog 35 #[ptrV q, .string ⟨kd.toArray⟩] w fun e w' => e = .returned (.string x) ∧ Below w.heap.size w w' := by
  have c0 : w.cell? ⟨q, 0, none⟩ = some (.slice (some ⟨g, off, none⟩) n cap) := cell_of_blk h 0
  have c1 : w.cell? ⟨q, 1, none⟩ = some (.int .i64 i) := cell_of_blk h 1
  have c3 : w.cell? ⟨q, 3, none⟩ = some (.int .i64 0) := cell_of_blk h 3
  have hd : (i : Int) < n := by omega
  go_enter Tryz.func35, Tryz.ntmps35
  go_wp2
  go_quiet (fail)
  go_wp2
  go_quiet (fail)
  go_wp2
  go_quiet (fail)
  go_wp2
  go_ret
  exact ⟨rfl, by (repeat (first | exact Below.refl _ _ | assumption | refine Below.drew ?_ | refine Below.trans ?_ (drewN_below' _ _ _) | refine Below.setCell ?_ (by first | (simp; done) | (simp; omega)) _ | refine Below.alloc ?_ (by first | (simp; done) | (simp; omega)) _))⟩
theorem rnext_any {T : List Tok} {q d : Nat} {s : Rs Unit} {w : World} (h : RAt T q d s w) (kd : List UInt8) (hk : kd ≠ []) :
    Calls Tryz.prog 35 #[ptrV q, .string ⟨kd.toArray⟩] w fun e w' => e = .returned (.string ⟨(nextR T kd s).toArray⟩) ∧ Below w.heap.size w w' := by
  obtain ⟨hf, hd, tv, i, dd, c, k, hx, hi, ht, he⟩ := h
  cases s with
  | out => exact he.elim
  | bad c0 k0 =>
    obtain ⟨rfl, h0, rfl⟩ := he
    rw [show nextR T kd (.bad c0 k0) = [] from by unfold nextR; rw [if_neg]; exact fun e => hk e.symm]
    exact rnext_bad q tv i dd _ _ _ w (by omega) hx
  | ok u j =>
    obtain ⟨rfl, rfl, rfl, rfl⟩ := he
    obtain ⟨ad, cap, rfl, ht⟩ := ht
    rcases Nat.lt_or_ge i T.length with hl | hl
    · obtain ⟨g, off, rfl, hg, hT⟩ := ht (fun e => by rw [e] at hl; simp at hl)
      by_cases hkk : T[i].kind = kd
      · subst hkk
        rw [show nextR T T[i].kind (.ok u i) = T[i].text from by unfold nextR nxt; simp [tk_at hl]]
        exact rnext_eq q g off T.length cap i d _ _ _ w hl hf hx (hT.c0 i hl) (hT.c1 i hl)
      · rw [show nextR T kd (.ok u i) = [] from by unfold nextR nxt; simp only [tk_at hl]; rw [if_neg hkk]]
        exact rnext_ne q g off T.length cap i d _ _ _ hkk w hl hf hx (hT.c0 i hl)
    · rw [show nextR T kd (.ok u i) = [] from by unfold nextR nxt; simp only [tk_out hl]; rw [if_neg]; exact fun e => hk e.symm]
      exact rnext_end q ad T.length cap i d _ _ w hl (by omega) hx
theorem rfail_bad (q : Nat) (tv : Value) (i dd c k e : Int) (w : World) (hc : 0 < c) (h : w.heap[q]? = some (.cells #[tv, .int .i64 i, .int .i64 dd, .int .i64 c, .int .i64 k] 65 (0, 0))) :
    Calls Tryz.prog 34 #[ptrV q, .int .i64 e] w fun e w' => e = .returned (.tuple #[]) ∧ w' = w := by
  have c3 : w.cell? ⟨q, 3, none⟩ = some (.int .i64 c) := cell_of_blk h 3
  have hc' : (c == 0) = false := by simpa using (by omega : c ≠ 0)
  go_enter Tryz.func34, Tryz.ntmps34
  go_wp2
  go_end0
  exact ⟨rfl, rfl⟩
theorem rfail_ok (q : Nat) (tv : Value) (i dd k e : Int) (w : World) (h : w.heap[q]? = some (.cells #[tv, .int .i64 i, .int .i64 dd, .int .i64 0, .int .i64 k] 65 (0, 0))) :
    Calls Tryz.prog 34 #[ptrV q, .int .i64 e] w fun r w' => r = .returned (.tuple #[]) ∧ w' = (w.setCell ⟨q, 3, none⟩ (.int .i64 e)).setCell ⟨q, 4, none⟩ (.int .i64 i) := by
  have c1 : w.cell? ⟨q, 1, none⟩ = some (.int .i64 i) := cell_of_blk h 1
  have c3 : w.cell? ⟨q, 3, none⟩ = some (.int .i64 0) := cell_of_blk h 3
  have c4 : w.cell? ⟨q, 4, none⟩ = some (.int .i64 k) := cell_of_blk h 4
  have f3 := free_of_blk h 3
  have f4 := free_of_blk h 4
  have hlt := heap_lt h
  go_enter Tryz.func34, Tryz.ntmps34
  go_wp2
  go_end0
  exact ⟨rfl, rfl⟩
theorem rfail_any {T : List Tok} {q d : Nat} {s : Rs Unit} {w : World} (h : RAt T q d s w) (c : Nat) (hc : 0 < c) :
    Calls Tryz.prog 34 #[ptrV q, .int .i64 (c : Nat)] w fun e w' => e = .returned (.tuple #[]) ∧ RAt T q d (s.fail c) w' ∧ But q w w' := by
  have h0 := h
  obtain ⟨hf, hd, tv, i, dd, c1, k, hx, hi, ht, he⟩ := h
  cases s with
  | out => exact he.elim
  | bad c0 k0 =>
    obtain ⟨rfl, h1, rfl⟩ := he
    refine (rfail_bad q tv i dd _ _ _ w (by omega) hx).mono ?_
    rintro e w' ⟨rfl, rfl⟩
    exact ⟨rfl, h0, But.refl _ _⟩
  | ok u j =>
    obtain ⟨rfl, rfl, rfl, rfl⟩ := he
    refine (rfail_ok q tv i d _ _ w hx).mono ?_
    rintro e w' ⟨rfl, rfl⟩
    have hb : But q w ((w.setCell ⟨q, 3, none⟩ (.int .i64 (c : Nat))).setCell ⟨q, 4, none⟩ (.int .i64 i)) := ((But.refl q w).set 3 _).set 4 _
    refine ⟨rfl, ⟨hf, hd, tv, i, d, c, i, ?_, hi, ht.keep hb (heap_lt hx), rfl, hc, rfl⟩, hb⟩
    have := blk_setCell (blk_setCell hx 3 (.int .i64 (c : Nat))) 4 (.int .i64 i)
    simpa using this
/-- One token on. -/
theorem RAt.step {T : List Tok} {q d i : Nat} {w : World} (h : RAt T q d (.ok () i) w) (hi : i < T.length) : RAt T q d (.ok () (i + 1)) (w.setCell ⟨q, 1, none⟩ (.int .i64 ((i : Int) + 1))) := by
  obtain ⟨hf, hd, tv, i, dd, c, k, hx, _, ht, rfl, rfl, rfl, rfl⟩ := h
  have hb : But q w (w.setCell ⟨q, 1, none⟩ (.int .i64 ((i : Int) + 1))) := (But.refl q w).set 1 _
  exact ⟨hf, hd, tv, i + 1, d, 0, -1, (blk_setCell hx 1 _).trans rfl, hi, ht.keep hb (heap_lt hx), rfl, rfl, rfl, rfl⟩
theorem RAt.at {T : List Tok} {q d i : Nat} {w : World} (h : RAt T q d (.ok () i) w) : ∃ tv, w.heap[q]? = some (.cells #[tv, .int .i64 i, .int .i64 d, .int .i64 0, .int .i64 (-1)] 65 (0, 0)) ∧ i ≤ T.length := by
  obtain ⟨_, _, tv, i, dd, c, k, hx, hi, _, rfl, rfl, rfl, rfl⟩ := h
  exact ⟨tv, hx, hi⟩
theorem good_kind {T : List Tok} (HT : ∀ t ∈ T, t.Good) {i : Nat} (hi : i < T.length) : (tk T i).kind = (firstOf (tk T i).text).1 := by
  have := (HT (tk T i) (by rw [tk_at hi]; exact List.getElem_mem _)).2.1
  rw [this]
/-- A text's kind is its own. -/
theorem sees_kind {T : List Tok} (HT : ∀ t ∈ T, t.Good) {k x : List UInt8} {s : Rs Unit} (hk : k ≠ []) (hx : (firstOf x).1 ≠ k) : seesB T k x s = false := by
  unfold seesB
  cases s with
  | out => simp [nxt, Ne.symm hk]
  | bad c k0 => simp [nxt, Ne.symm hk]
  | ok u i =>
    rcases Nat.lt_or_ge i T.length with hl | hl
    · refine decide_eq_false ?_
      rintro ⟨h1, h2⟩
      replace h1 : (tk T i).kind = k := h1
      replace h2 : (tk T i).text = x := h2
      have := good_kind HT hl
      rw [h1, h2] at this
      exact hx this.symm
    · simp [nxt, tk_out hl, Ne.symm hk]
theorem nextR_sees {T : List Tok} {k x : List UInt8} {s : Rs Unit} (hx : x ≠ []) : (nextR T k s == x) = seesB T k x s := by
  unfold nextR seesB
  by_cases h : (nxt T s).kind = k
  · rw [if_pos h]
    by_cases h2 : (nxt T s).text = x
    · simp [h, h2]
    · simp [h2]
  · rw [if_neg h]
    simp [h, hx]
theorem nxt_tok {T : List Tok} {k : List UInt8} {s : Rs Unit} (h : (nxt T s).kind = k) (hk : k ≠ []) : ∃ i, s = .ok () i ∧ i < T.length := by
  cases s with
  | out => exact absurd h.symm hk
  | bad c k0 => exact absurd h.symm hk
  | ok u i => exact ⟨i, rfl, tk_kind (by rw [show (tk T i).kind = k from h]; exact hk)⟩
set_option maxRecDepth 100000 in
theorem reat_any {T : List Tok} {q d : Nat} {s : Rs Unit} {w : World} (h : RAt T q d s w) (x : List UInt8) (hx : x ≠ []) :
    Calls Tryz.prog 21 #[ptrV q, .string ⟨x.toArray⟩] w fun e w' => e = .returned (.bool (seesB T kSign x s || seesB T kWord x s)) ∧ RAt T q d (if (seesB T kSign x s || seesB T kWord x s) = true then s.bind fun _ i => .ok () (i + 1) else s) w' ∧ But q w w' := by
  have hlt := h.lt
  have hfin : ∀ w1, Below w.heap.size w w1 → (seesB T kSign x s || seesB T kWord x s) = true → ∃ i, s = .ok () i ∧ i < T.length := fun w1 hb hs => by
    rw [Bool.or_eq_true] at hs
    rcases hs with hs | hs
    · exact (nxt_tok (of_decide_eq_true hs).1 sign_ne)
    · exact (nxt_tok (of_decide_eq_true hs).1 word_ne)
  have hn1 := rnext_any h kSign sign_ne
  have e1 := nextR_sees (T := T) (k := kSign) (s := s) hx
  have e2 := nextR_sees (T := T) (k := kWord) (s := s) hx
  cases h1 : seesB T kSign x s with
  | true =>
    rw [h1] at e1
    obtain ⟨i, rfl, hi⟩ := hfin w (Below.refl _ _) (by rw [h1]; rfl)
    have hi2 : (i : Int) ≤ 1000 := by have := h.few; omega
    have HI := hidR hi
    rw [if_pos (by rfl), Rs.bind_ok]
    clear hfin hi
    go_enter Tryz.func21, Tryz.ntmps21
    go_wp2_with fail
    refine hn1.mono ?_
    rintro e w1 ⟨rfl, hb1⟩
    have hp1 := h.keep hb1
    obtain ⟨tv, hx1, _⟩ := hp1.at
    have c1 : w1.cell? ⟨q, 1, none⟩ = some (.int .i64 i) := cell_of_blk hx1 1
    have f1 := free_of_blk hx1 1
    have hlt1 := heap_lt hx1
    have HX1 := hidR hx1
    clear hx1 hn1
    go_wp2
    go_ret
    exact ⟨rfl, hp1.step HI.out, (But.of hb1).set 1 _⟩
  | false =>
    rw [h1] at e1
    cases h2 : seesB T kWord x s with
    | true =>
      rw [h2] at e2
      obtain ⟨i, rfl, hi⟩ := hfin w (Below.refl _ _) (by rw [h1, h2]; rfl)
      have hi2 : (i : Int) ≤ 1000 := by have := h.few; omega
      have HI := hidR hi
      rw [if_pos (by rfl), Rs.bind_ok]
      clear hfin hi
      go_enter Tryz.func21, Tryz.ntmps21
      go_wp2_with fail
      refine hn1.mono ?_
      rintro e w1 ⟨rfl, hb1⟩
      have hp1 := h.keep hb1
      go_wp2_with fail
      refine (rnext_any hp1 kWord word_ne).mono ?_
      rintro e w2 ⟨rfl, hb2⟩
      have b2 := bl_trans hb1 hb1.size hb2
      have hp2 := h.keep b2
      obtain ⟨tv, hx1, _⟩ := hp2.at
      have c1 : w2.cell? ⟨q, 1, none⟩ = some (.int .i64 i) := cell_of_blk hx1 1
      have f1 := free_of_blk hx1 1
      have hlt1 := heap_lt hx1
      have HX1 := hidR hx1
      clear hx1 hn1
      go_wp2
      go_ret
      exact ⟨rfl, hp2.step HI.out, (But.of b2).set 1 _⟩
    | false =>
      rw [h2] at e2
      rw [if_neg (by simp)]
      clear hfin
      go_enter Tryz.func21, Tryz.ntmps21
      go_wp2_with fail
      refine hn1.mono ?_
      rintro e w1 ⟨rfl, hb1⟩
      have hp1 := h.keep hb1
      go_wp2_with fail
      refine (rnext_any hp1 kWord word_ne).mono ?_
      rintro e w2 ⟨rfl, hb2⟩
      have b2 := bl_trans hb1 hb1.size hb2
      clear hn1
      go_wp2
      go_ret
      exact ⟨rfl, h.keep b2, But.of b2⟩
end Go.Proofs.YtdleiajkihijhabGreatDoor
