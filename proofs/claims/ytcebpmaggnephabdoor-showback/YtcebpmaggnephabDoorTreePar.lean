/-
  Our own: package tree's parser: the next token, an error told, a token that is asked for.
-/
import Derived.Test.YtcebpmaggnephabDoorTreeSt
namespace Go.Proofs.YtcebpmaggnephabDoor
open Go.RowKit

abbrev ptrV (b : Nat) : Value := .pointer (some ⟨b, 0, none⟩)
abbrev faultV (b : Nat) : Value := .iface 46 (ptrV b)
abbrev noTok : Value := .agg #[.string ⟨#[]⟩, .string ⟨#[]⟩, .int .i64 0]
theorem next_bad (p b : Nat) (tv : Value) (i : Int) (d : Int) (w : World) (h : w.heap[p]? = some (.cells #[tv, .int .i64 i, .int .i64 d, faultV b] 60 (0, 0))) :
    Calls Tryd.prog 51 #[ptrV p] w fun e w' => e = .returned noTok ∧ Below w.heap.size w w' := by
  have c3 : w.cell? ⟨p, 3, none⟩ = some (faultV b) := cell_of_blk h 3
  have hlt := heap_lt h
  go_enter Tryd.func51, Tryd.ntmps51
  go_wp2
  go_quiet (fail)
  go_wp2
  refine bodyPost_ret (v := noTok) (by simp [results, Tryd.results51, go_sem]) rfl ⟨rfl, ?_⟩
  (repeat (first | exact Below.refl _ _ | assumption | refine Below.drew ?_ | refine Below.trans ?_ (drewN_below' _ _ _) | refine Below.setCell ?_ (by first | (simp; done) | (simp; omega)) _ | refine Below.alloc ?_ (by first | (simp; done) | (simp; omega)) _))
theorem next_end (p : Nat) (ad : Option Addr) (n c : Nat) (i : Nat) (d : Int) (w : World) (hi : n ≤ i) (_hi2 : i ≤ 1000) (h : w.heap[p]? = some (.cells #[.slice ad n c, .int .i64 i, .int .i64 d, .nilIface] 60 (0, 0))) :
    Calls Tryd.prog 51 #[ptrV p] w fun e w' => e = .returned noTok ∧ Below w.heap.size w w' := by
  have c0 : w.cell? ⟨p, 0, none⟩ = some (.slice ad n c) := cell_of_blk h 0
  have c1 : w.cell? ⟨p, 1, none⟩ = some (.int .i64 i) := cell_of_blk h 1
  have c3 : w.cell? ⟨p, 3, none⟩ = some .nilIface := cell_of_blk h 3
  have hlt := heap_lt h
  have hd : (n : Int) ≤ i := by omega
  go_enter Tryd.func51, Tryd.ntmps51
  go_wp2
  go_quiet (fail)
  go_wp2
  refine bodyPost_ret (v := noTok) (by simp [results, Tryd.results51, go_sem]) rfl ⟨rfl, ?_⟩
  (repeat (first | exact Below.refl _ _ | assumption | refine Below.drew ?_ | refine Below.trans ?_ (drewN_below' _ _ _) | refine Below.setCell ?_ (by first | (simp; done) | (simp; omega)) _ | refine Below.alloc ?_ (by first | (simp; done) | (simp; omega)) _))
theorem next_tok (p g off : Nat) (n c : Nat) (i : Nat) (d : Int) (k x : ByteArray) (q : Int) (w : World) (hi : i < n) (_hi2 : n ≤ 1000) (h : w.heap[p]? = some (.cells #[.slice (some ⟨g, off, none⟩) n c, .int .i64 i, .int .i64 d, .nilIface] 60 (0, 0)))
    (t0 : w.cell? ⟨g, off + i * 3, none⟩ = some (.string k)) (t1 : w.cell? ⟨g, off + i * 3 + 1, none⟩ = some (.string x)) (t2 : w.cell? ⟨g, off + i * 3 + 2, none⟩ = some (.int .i64 q)) :
    Calls Tryd.prog 51 #[ptrV p] w fun e w' => e = .returned (.agg #[.string k, .string x, .int .i64 q]) ∧ Below w.heap.size w w' := by
  have c0 : w.cell? ⟨p, 0, none⟩ = some (.slice (some ⟨g, off, none⟩) n c) := cell_of_blk h 0
  have c1 : w.cell? ⟨p, 1, none⟩ = some (.int .i64 i) := cell_of_blk h 1
  have c3 : w.cell? ⟨p, 3, none⟩ = some .nilIface := cell_of_blk h 3
  have hlt := heap_lt h
  have hd : (i : Int) < n := by omega
  have hg := cell_lt t0
  go_enter Tryd.func51, Tryd.ntmps51
  go_wp2
  go_quiet (fail)
  go_wp2
  go_region
  go_wp2
  refine bodyPost_ret (v := .agg #[.string k, .string x, .int .i64 q]) (by simp [results, Tryd.results51, go_sem]) rfl ⟨rfl, ?_⟩
  (repeat (first | exact Below.refl _ _ | assumption | refine Below.drew ?_ | refine Below.trans ?_ (drewN_below' _ _ _) | refine Below.setCell ?_ (by first | (simp; done) | (simp; omega)) _ | refine Below.alloc ?_ (by first | (simp; done) | (simp; omega)) _))
theorem tk_at {T : List Tok} {i : Nat} (h : i < T.length) : tk T i = T[i] := by simp [tk, List.getD_eq_getElem?_getD, h]
theorem tk_out {T : List Tok} {i : Nat} (h : T.length ≤ i) : tk T i = ⟨[], [], 0⟩ := by simp [tk, List.getD_eq_getElem?_getD, List.getElem?_eq_none h]
/-- The next token. -/
theorem next_any {T : List Tok} {a : Nat → Addr} {p d : Nat} {s : Rs Unit} {w : World} (h : PAt T a p d s w) :
    Calls Tryd.prog 51 #[ptrV p] w fun e w' => e = .returned (tokA (nxt T s)) ∧ Below w.heap.size w w' := by
  obtain ⟨hf, hd, hg, tv, i, ev, hx, hi, ht, he⟩ := h
  cases s with
  | out => exact he.elim
  | bad c k =>
    obtain ⟨b, rfl, _, _⟩ := he
    exact next_bad p b tv i d w hx
  | ok _ j =>
    obtain ⟨rfl, rfl⟩ := he
    obtain ⟨ad, cap, rfl, ht⟩ := ht
    rcases Nat.lt_or_ge i T.length with hl | hl
    · obtain ⟨g, off, rfl, hg, hT⟩ := ht (fun e => by rw [e] at hl; simp at hl)
      have := next_tok p g off T.length cap i d _ _ _ w hl hf hx (hT.c0 i hl) (hT.c1 i hl) (hT.c2 i hl)
      rw [show nxt T (.ok () i) = T[i] from tk_at hl]
      exact this
    · rw [show nxt T (.ok () i) = ⟨[], [], 0⟩ from tk_out hl]
      exact next_end p ad T.length cap i d w hl (by omega) hx
/-- An error told: the first one stays. -/
def Rs.fail (c : Nat) : Rs Unit → Rs Unit
  | .ok _ i => .bad c i
  | s => s
theorem fail_bad (p b : Nat) (tv er : Value) (i d : Int) (w : World) (h : w.heap[p]? = some (.cells #[tv, .int .i64 i, .int .i64 d, faultV b] 60 (0, 0))) :
    Calls Tryd.prog 50 #[ptrV p, er] w fun e w' => e = .returned (.tuple #[]) ∧ w' = w := by
  have c3 : w.cell? ⟨p, 3, none⟩ = some (faultV b) := cell_of_blk h 3
  go_enter Tryd.func50, Tryd.ntmps50
  go_wp2
  go_end0
  exact ⟨rfl, rfl⟩
theorem fail_ok (p : Nat) (tv : Value) (er : Addr) (i d : Int) (w : World) (h : w.heap[p]? = some (.cells #[tv, .int .i64 i, .int .i64 d, .nilIface] 60 (0, 0))) :
    Calls Tryd.prog 50 #[ptrV p, sentV er] w fun e w' => e = .returned (.tuple #[]) ∧ w' = (w.setCell ⟨p, 3, none⟩ (faultV w.heap.size)).alloc (.cells #[.int .i64 i, sentV er] 48) := by
  have hlt := heap_lt h
  have c1 : w.cell? ⟨p, 1, none⟩ = some (.int .i64 i) := cell_of_blk h 1
  have c3 : w.cell? ⟨p, 3, none⟩ = some .nilIface := cell_of_blk h 3
  have f3 : w.frozen? ⟨p, 3, none⟩ = false := free_of_blk h 3
  go_enter Tryd.func50, Tryd.ntmps50
  go_wp2
  go_end0
  exact ⟨rfl, rfl⟩
theorem fail_any {T : List Tok} {a : Nat → Addr} {p d : Nat} {s : Rs Unit} {w : World} (h : PAt T a p d s w) (c : Nat) (er : Addr) (hc : er = a (c - 1)) :
    Calls Tryd.prog 50 #[ptrV p, sentV er] w fun e w' => e = .returned (.tuple #[]) ∧ PAt T a p d (s.fail c) w' ∧ But p w w' := by
  have h0 := h
  obtain ⟨hf, hd, hg, tv, i, ev, hx, hi, ht, he⟩ := h
  cases s with
  | out => exact he.elim
  | bad c' k =>
    obtain ⟨b, rfl, _, _⟩ := he
    refine (fail_bad p b tv _ i d w hx).mono ?_
    rintro e w' ⟨rfl, rfl⟩
    exact ⟨rfl, h0, But.refl _ _⟩
  | ok _ j =>
    obtain ⟨rfl, rfl⟩ := he
    refine (fail_ok p tv er i d w hx).mono ?_
    rintro e w' ⟨rfl, rfl⟩
    have hlt := heap_lt hx
    have hb : But p w ((w.setCell ⟨p, 3, none⟩ (faultV w.heap.size)).alloc (.cells #[.int .i64 i, sentV er] 48)) := by (repeat (first | exact But.refl _ _ | assumption | refine But.drew ?_ | refine But.drewN ?_ _ | refine But.set ?_ _ _ | refine But.setNew ?_ _ _ (by first | (simp; done) | (simp; omega)) _ | refine But.alloc ?_ _))
    refine ⟨rfl, ⟨hf, hd, hg.keep hb, tv, i, faultV w.heap.size, ?_, hi, ht.keep hb hlt, w.heap.size, rfl, by omega, ?_⟩, hb⟩
    · have h1 := blk_setCell hx 3 (faultV w.heap.size)
      rw [Below.heap_alloc _ _ _ (heap_lt h1), h1]
      rfl
    · rw [← hc]
      have := heap_alloc_new (w.setCell ⟨p, 3, none⟩ (faultV w.heap.size)) (.cells #[.int .i64 i, sentV er] 48)
      simpa [World.setCell] using this
/-- A parser that stands at its next token goes one on. -/
theorem PAt.on {T : List Tok} {a : Nat → Addr} {p d i : Nat} {w w' : World} {tv : Value} (hf : T.length ≤ 1000) (hd : d ≤ 12) (hg : TreeG w a p) (ht : ToksV w tv T p) (hb : But p w w') (hp : p < w.heap.size) (hi : i ≤ T.length)
    (hx : w'.heap[p]? = some (.cells #[tv, .int .i64 (i : Nat), .int .i64 d, .nilIface] 60 (0, 0))) : PAt T a p d (.ok () i) w' :=
  ⟨hf, hd, hg.keep hb, tv, i, _, hx, hi, ht.keep hb hp, rfl, rfl⟩
theorem str_ne {k l : List UInt8} (h : k ≠ l) : (k == l) = false := by simpa using h
/-- Is it the next token? -/
def seesB (T : List Tok) (k x : List UInt8) (s : Rs Unit) : Bool := decide ((nxt T s).kind = k ∧ (nxt T s).text = x)
/-- The state behind a token that is passed over, if it is the next one. -/
def skipS (T : List Tok) (k x : List UInt8) (s : Rs Unit) : Rs Unit := if seesB T k x s then s.bind fun _ i => .ok () (i + 1) else s
theorem tok_parts (t : Tok) : ∃ kd tx ps, t = ⟨kd, tx, ps⟩ := ⟨_, _, _, rfl⟩
theorem nxt_ok {T : List Tok} {a : Nat → Addr} {p d : Nat} {s : Rs Unit} {w : World} (h : PAt T a p d s w) (hk : (nxt T s).kind ≠ []) : ∃ i, s = .ok () i ∧ i < T.length := by
  cases s with
  | out => exact absurd rfl hk
  | bad c k => exact absurd rfl hk
  | ok u i => exact ⟨i, rfl, tk_kind hk⟩
/-- One token on, and a new block. -/
theorem on_alloc {T : List Tok} {a : Nat → Addr} {p d i : Nat} {w w' : World} {tv : Value} (hf : T.length ≤ 1000) (hd : d ≤ 12) (hg : TreeG w' a p) (ht : ToksV w' tv T p) (hb : Below w.heap.size w w') (hi : i < T.length)
    (hx : w'.heap[p]? = some (.cells #[tv, .int .i64 (i : Nat), .int .i64 d, .nilIface] 60 (0, 0))) (o : Obj) :
    PAt T a p d (.ok () (i + 1)) ((w'.setCell ⟨p, 1, none⟩ (.int .i64 ((i : Int) + 1))).alloc o) ∧ But p w ((w'.setCell ⟨p, 1, none⟩ (.int .i64 ((i : Int) + 1))).alloc o) := by
  have hb2 : But p w' ((w'.setCell ⟨p, 1, none⟩ (.int .i64 ((i : Int) + 1))).alloc o) := by (repeat (first | exact But.refl _ _ | assumption | refine But.drew ?_ | refine But.drewN ?_ _ | refine But.set ?_ _ _ | refine But.setNew ?_ _ _ (by first | (simp; done) | (simp; omega)) _ | refine But.alloc ?_ _))
  refine ⟨PAt.on hf hd hg ht hb2 (heap_lt hx) hi ?_, (But.of hb).trans hb2⟩
  have h1 := blk_setCell hx 1 (.int .i64 ((i : Int) + 1))
  rw [Below.heap_alloc _ _ _ (heap_lt h1), h1]
  rfl
theorem skip_any {T : List Tok} {a : Nat → Addr} {p d : Nat} {s : Rs Unit} {w : World} (h : PAt T a p d s w) (k x : List UInt8) (hk : k ≠ []) :
    Calls Tryd.prog 49 #[ptrV p, .string ⟨k.toArray⟩, .string ⟨x.toArray⟩] w fun e w' => e = .returned (.bool (seesB T k x s)) ∧ PAt T a p d (skipS T k x s) w' ∧ But p w w' := by
  have hn := next_any h
  have hlt := h.lt
  obtain ⟨kd, tx, ps, ht⟩ := tok_parts (nxt T s)
  unfold skipS seesB
  rw [ht] at hn ⊢
  unfold tokA at hn
  by_cases h1 : kd = k
  · by_cases h2 : tx = x
    · subst h1 h2
      obtain ⟨i, rfl, hi⟩ := nxt_ok h (by rw [ht]; exact hk)
      go_enter Tryd.func49, Tryd.ntmps49
      go_wp2_with fail
      refine hn.mono ?_
      rintro e w' ⟨rfl, hb⟩
      obtain ⟨hf, hd, hg, tv, i, ev, hx, hi', htv, rfl, rfl⟩ := h.keep hb
      have c1 : w'.cell? ⟨p, 1, none⟩ = some (.int .i64 i) := cell_of_blk hx 1
      have f1 : w'.frozen? ⟨p, 1, none⟩ = false := free_of_blk hx 1
      have hlt' := heap_lt hx
      have HX : Hid (w'.heap[p]? = _) := hx
      clear hx ht hn
      go_wp2
      go_ret
      exact ⟨by simp, on_alloc hf hd hg htv hb hi HX.out _⟩
    · have e2 := str_ne h2
      rw [if_neg (by simp [h2]), show decide (kd = k ∧ tx = x) = false from by simp [h2]]
      subst h1
      go_enter Tryd.func49, Tryd.ntmps49
      go_wp2_with fail
      refine hn.mono ?_
      rintro e w' ⟨rfl, hb⟩
      go_wp2
      go_ret
      have hbb := bl_trans hb hb.size ((Below.refl _ w').alloc (Nat.le_refl _) (.cells #[.string ⟨kd.toArray⟩, .string ⟨tx.toArray⟩, .int .i64 ps] 29))
      exact ⟨rfl, h.keep hbb, But.of hbb⟩
  · have e1 := str_ne h1
    rw [if_neg (by simp [h1]), show decide (kd = k ∧ tx = x) = false from by simp [h1]]
    go_enter Tryd.func49, Tryd.ntmps49
    go_wp2_with fail
    refine hn.mono ?_
    rintro e w' ⟨rfl, hb⟩
    go_wp2
    go_ret
    have hbb := bl_trans hb hb.size ((Below.refl _ w').alloc (Nat.le_refl _) (.cells #[.string ⟨kd.toArray⟩, .string ⟨tx.toArray⟩, .int .i64 ps] 29))
    exact ⟨rfl, h.keep hbb, But.of hbb⟩
theorem sees_any {T : List Tok} {a : Nat → Addr} {p d : Nat} {s : Rs Unit} {w : World} (h : PAt T a p d s w) (x : List UInt8) :
    Calls Tryd.prog 68 #[ptrV p, .string ⟨x.toArray⟩] w fun e w' => e = .returned (.bool (seesB T kSign x s)) ∧ Below w.heap.size w w' := by
  have hn := next_any h
  obtain ⟨kd, tx, ps, ht⟩ := tok_parts (nxt T s)
  unfold seesB
  rw [ht] at hn ⊢
  unfold tokA at hn
  have hbb : ∀ w', Below w.heap.size w w' → Below w.heap.size w (w'.alloc (.cells #[.string ⟨kd.toArray⟩, .string ⟨tx.toArray⟩, .int .i64 ps] 29)) := fun w' hb => hb.alloc hb.size _
  by_cases h1 : kd = kSign
  · by_cases h2 : tx = x
    · subst h1 h2
      go_enter Tryd.func68, Tryd.ntmps68
      go_wp2_with fail
      refine hn.mono ?_
      rintro e w' ⟨rfl, hb⟩
      have HB := hbb w' hb
      clear hbb hn
      unfold kSign
      go_wp2
      go_ret
      exact ⟨by simp, HB⟩
    · have e2 := str_ne h2
      subst h1
      go_enter Tryd.func68, Tryd.ntmps68
      go_wp2_with fail
      refine hn.mono ?_
      rintro e w' ⟨rfl, hb⟩
      have HB := hbb w' hb
      clear hbb hn
      unfold kSign
      go_wp2
      go_ret
      exact ⟨by simp [h2], HB⟩
  · have e1 := str_ne h1
    go_enter Tryd.func68, Tryd.ntmps68
    go_wp2_with fail
    refine hn.mono ?_
    rintro e w' ⟨rfl, hb⟩
    have HB := hbb w' hb
    clear hbb hn
    unfold kSign at e1
    go_wp2
    go_ret
    exact ⟨by simp [h1], HB⟩
/-- The state behind a token that must be there. -/
def needS (T : List Tok) (k x : List UInt8) (s : Rs Unit) : Rs Unit := s.bind fun _ i => needT T k x i
theorem need_any {T : List Tok} {a : Nat → Addr} {p d : Nat} {s : Rs Unit} {w : World} (h : PAt T a p d s w) (k x : List UInt8) (hk : k ≠ []) :
    Calls Tryd.prog 33 #[ptrV p, .string ⟨k.toArray⟩, .string ⟨x.toArray⟩] w fun e w' => e = .returned (.tuple #[]) ∧ PAt T a p d (needS T k x s) w' ∧ But p w w' := by
  have hs := skip_any h k x hk
  cases hb : seesB T k x s with
  | true =>
    have e : skipS T k x s = needS T k x s := by
      unfold skipS needS
      rw [if_pos hb]
      have hb' := of_decide_eq_true hb
      cases s with
      | out => rfl
      | bad c k => rfl
      | ok u i => simp only [Rs.bind_ok, needT]; rw [if_pos (show isT T k x i from hb')]
    rw [hb, e] at hs
    go_enter Tryd.func33, Tryd.ntmps33
    go_wp2_with fail
    refine hs.mono ?_
    rintro e w' ⟨rfl, hp, hw⟩
    go_wp2
    go_end0
    exact ⟨rfl, hp, hw⟩
  | false =>
    have e : (skipS T k x s).fail 1 = needS T k x s := by
      unfold skipS needS
      rw [if_neg (by rw [hb]; simp)]
      have hb' := of_decide_eq_false hb
      cases s with
      | out => rfl
      | bad c k => rfl
      | ok u i => simp only [Rs.bind_ok, needT]; rw [if_neg (show ¬ isT T k x i from hb')]; rfl
    rw [hb] at hs
    go_enter Tryd.func33, Tryd.ntmps33
    go_wp2_with fail
    refine hs.mono ?_
    rintro e w' ⟨rfl, hp, hw⟩
    have hc := hp.g.text
    go_wp2_with fail
    refine (fail_any hp 1 _ rfl).mono ?_
    rintro e2 w2 ⟨rfl, hp2, hw2⟩
    rw [e] at hp2
    go_wp2
    go_end0
    exact ⟨rfl, hp2, hw.trans hw2⟩
/-- A name that must be there. -/
def nameR (T : List Tok) (s : Rs Unit) : Rs (List UInt8) := s.bind fun _ i => nameT T i
theorem tname_any {T : List Tok} {a : Nat → Addr} {p d : Nat} {s : Rs Unit} {w : World} (h : PAt T a p d s w) :
    Calls Tryd.prog 34 #[ptrV p] w fun e w' => ∃ x : List UInt8, e = .returned (.string ⟨x.toArray⟩) ∧ (∀ y j, nameR T s = .ok y j → x = y) ∧ PAt T a p d (nameR T s).st w' ∧ But p w w' := by
  have hn := next_any h
  have hlt := h.lt
  obtain ⟨kd, tx, ps, ht⟩ := tok_parts (nxt T s)
  rw [ht] at hn
  unfold tokA at hn
  by_cases h1 : kd = kName
  · obtain ⟨i, rfl, hi⟩ := nxt_ok h (by rw [ht, h1]; simp [kName])
    have e : nameR T (.ok () i) = .ok tx (i + 1) := by
      have : tk T i = ⟨kd, tx, ps⟩ := ht
      simp only [nameR, Rs.bind_ok, nameT, this, h1, if_true]
    rw [e]
    subst h1
    unfold kName at hn
    go_enter Tryd.func34, Tryd.ntmps34
    go_wp2_with fail
    refine hn.mono ?_
    rintro e w' ⟨rfl, hb⟩
    obtain ⟨hf, hd, hg, tv, i, ev, hx, hi', htv, rfl, rfl⟩ := h.keep hb
    have c1 : w'.cell? ⟨p, 1, none⟩ = some (.int .i64 i) := cell_of_blk hx 1
    have f1 : w'.frozen? ⟨p, 1, none⟩ = false := free_of_blk hx 1
    have hlt' := heap_lt hx
    have HX : Hid (w'.heap[p]? = _) := hx
    clear hx ht hn e
    go_wp2
    go_ret
    exact ⟨tx, rfl, fun y j hy => by cases hy; rfl, on_alloc hf hd hg htv hb hi HX.out _⟩
  · have e : (nameR T s).st = s.fail 1 ∧ ∀ y j, nameR T s ≠ .ok y j := by
      cases s with
      | out => exact ⟨rfl, fun _ _ h => by cases h⟩
      | bad c k => exact ⟨rfl, fun _ _ h => by cases h⟩
      | ok u i =>
        have : tk T i = ⟨kd, tx, ps⟩ := ht
        simp only [nameR, Rs.bind_ok, nameT, this, h1, if_false]
        exact ⟨rfl, fun _ _ h => by cases h⟩
    have e1 := str_ne h1
    unfold kName at e1
    go_enter Tryd.func34, Tryd.ntmps34
    go_wp2_with fail
    refine hn.mono ?_
    rintro e w' ⟨rfl, hb⟩
    have hb1 : Below w.heap.size w (w'.alloc (.cells #[.string ⟨kd.toArray⟩, .string ⟨tx.toArray⟩, .int .i64 ps] 29)) := hb.alloc hb.size _
    have hp1 := h.keep hb1
    have hc := (h.keep hb).g.text
    have hlt' := cell_lt hc
    clear hn
    go_wp2_with fail
    refine (fail_any hp1 1 _ rfl).mono ?_
    rintro e2 w2 ⟨rfl, hp2, hw2⟩
    go_wp2
    go_ret
    exact ⟨[], rfl, fun y j hy => absurd hy (e.2 y j), e.1 ▸ hp2, (But.of hb1).trans hw2⟩
end Go.Proofs.YtcebpmaggnephabDoor
