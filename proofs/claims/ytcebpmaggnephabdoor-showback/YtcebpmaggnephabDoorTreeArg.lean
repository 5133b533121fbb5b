/-
  Our own: package tree's parser: what the closures of parentheses and of a call's arguments do.
-/
import Derived.Test.YtcebpmaggnephabDoorSteps
import Derived.Test.YtcebpmaggnephabDoorTreeClo
import Derived.Deep.RegionLaw
import Derived.Shelf.Abstract
namespace Go.Proofs.YtcebpmaggnephabDoor
open Go.RowKit

theorem hid {p : Prop} (h : p) : Hid p := h
/-- Ahead of block B all but block p is as it was. -/
structure Bb (p B : Nat) (w w' : World) : Prop where
  os : w'.os = w.os
  tape : w'.tape = w.tape
  output : w'.output = w.output
  size : w.heap.size ≤ w'.heap.size
  block : ∀ k, k < B → k ≠ p → w'.heap[k]? = w.heap[k]?
theorem Bb.trans {p B : Nat} {a b c : World} (h : Bb p B a b) (k : Bb p B b c) : Bb p B a c :=
  ⟨k.os.trans h.os, k.tape.trans h.tape, k.output.trans h.output, Nat.le_trans h.size k.size, fun i hi hp => (k.block i hi hp).trans (h.block i hi hp)⟩
theorem But.bb {p B : Nat} {w w' : World} (h : But p w w') (hB : B ≤ w.heap.size) : Bb p B w w' := ⟨h.os, h.tape, h.output, h.size, fun k hk hp => h.block k (by omega) hp⟩
theorem But2.bb {p B : Nat} {w w' : World} (h : But2 p B w w') (hB : B ≤ w.heap.size) : Bb p B w w' := ⟨h.os, h.tape, h.output, h.size, fun k hk hp => h.block k (by omega) hp (by omega)⟩
theorem Bb.base {p B : Nat} {a w w' : World} (h : But p a w) (k : Bb p B w w') (hB : a.heap.size ≤ B) : But p a w' :=
  ⟨k.os.trans h.os, k.tape.trans h.tape, k.output.trans h.output, Nat.le_trans h.size k.size, fun i hi hp => (k.block i (by omega) hp).trans (h.block i hi hp)⟩
theorem Bb.heap {p B : Nat} {w w' : World} (h : Bb p B w w') {b : Nat} {o : Obj} (hb : w.heap[b]? = some o) (hB : b < B) (hp : b ≠ p) : w'.heap[b]? = some o := (h.block b hB hp).trans hb
theorem via_st {α : Type} {s : Rs Unit} {f : Nat → Rs α} : (s.via f).st = s.via fun i => (f i).st := by cases s <;> rfl

/-- A list with one datum more. -/
def Rs.add {α : Type} (r : Rs α) (es : Option (List α)) : Option (List α) := match r with | .ok x _ => es.map (· ++ [x]) | _ => none
theorem Rs.add_some {α : Type} {r : Rs α} {es : Option (List α)} {l : List α} (h : r.add es = some l) : ∃ x j l0, r = .ok x j ∧ es = some l0 ∧ l = l0 ++ [x] := by
  cases r with
  | out => cases h
  | bad c k => cases h
  | ok x j =>
    cases es with
    | none => cases h
    | some l0 => exact ⟨x, j, l0, rfl, rfl, (Option.some.inj h).symm⟩
theorem PAt.grown {T : List Tok} {a : Nat → Addr} {p d : Nat} {s : Rs Unit} {w w' : World} {row : Option Nat} (h : PAt T a p d s w) (hg : w.grownBy w' row) (hr : ∀ k, row = some k → p < k ∧ Far w k) : PAt T a p d s w' := by
  have hlt := h.lt
  obtain ⟨h1, h2, ⟨g1, g2, g3, g4⟩, tv, j, ev, hx, hi, ht, he⟩ := h
  have hn : ∀ b, b ≤ p → w'.heap[b]? = w.heap[b]? := fun b hb => hg.block b (by omega) (fun e => by have := (hr b e.symm).1; omega)
  have hc : ∀ {b n : Nat} {v : Value}, b ≤ p → w.cell? ⟨b, n, none⟩ = some v → w'.cell? ⟨b, n, none⟩ = some v := fun {b n v} hb hv => (World.cell?_of_block (w := w) (a := ⟨b, n, none⟩) (hn b hb)).trans hv
  refine ⟨h1, h2, ⟨hc (by omega) g1, hc (by omega) g2, g3, g4⟩, tv, j, ev, (hn p (Nat.le_refl _)).trans hx, hi, ?_, ?_⟩
  · obtain ⟨ad, cap, rfl, hy⟩ := ht
    refine ⟨ad, cap, rfl, fun hn' => ?_⟩
    obtain ⟨g, off, rfl, hg', ht⟩ := hy hn'
    exact ⟨g, off, rfl, hg', ht.of (hn g (by omega))⟩
  · cases s with
    | out => exact he
    | ok _ _ => exact he
    | bad c k =>
      obtain ⟨b, rfl, hp, hy⟩ := he
      refine ⟨b, rfl, hp, (hg.block b (heap_lt hy) fun e => ?_).trans hy⟩
      obtain ⟨cs, t, hz, ht⟩ := (hr b e.symm).2
      rw [hz] at hy
      injection hy with hy
      injection hy with _ hy
      exact ht hy
theorem Far.of {w w' : World} {r : Nat} (h : Far w r) (hk : w'.heap[r]? = w.heap[r]?) : Far w' r := by
  obtain ⟨cs, t, hx, ht⟩ := h
  exact ⟨cs, t, hk.trans hx, ht⟩
theorem own_far {w : World} {B size n : Nat} {t : TypeId} {v : Value} {xs : List Value} (h : w.ownsRow B t size v n xs) (ht : t ≠ 48) {k : Nat} (hk : v.ownBlock = some k) : Far w k := by
  rcases h with ⟨_, ⟨rfl, _⟩ | ⟨g, cap, cur, rfl, _, hg, _⟩⟩
  · cases hk
  · cases hk
    exact ⟨_, _, hg, ht⟩
set_option maxRecDepth 100000 in
theorem par_any {T : List Tok} {a : Nat → Addr} {p q d : Nat} {s : Rs Unit} {w : World} (hE : EOk T a p q) (h : PAt T a p d s w) (hout : s.via (exprT T q d 1) ≠ .out) (xb eb : Nat) (x0 x1 x2 x3 : Value)
    (hxb : w.heap[xb]? = some (.cells #[ptrV p] 58 (0, 0)))
    (heb : w.heap[eb]? = some (.cells #[x0, x1, x2, x3] 55 (0, 0))) (h2 : p < xb) (h3 : p < eb) :
    Calls Tryd.prog 90 #[ptrV xb, ptrV eb] w fun e w' => e = .returned (.tuple #[]) ∧ PAt T a p d ((s.via (exprT T q d 1)).bind fun x j => (needT T kSign [41] j).bind fun _ j => .ok x j).st w' ∧ But2 p eb w w' ∧
      EbTo w.heap.size eb ((s.via (exprT T q d 1)).bind fun x j => (needT T kSign [41] j).bind fun _ j => .ok x j) w' := by
  have c2 : w.cell? ⟨xb, 0, none⟩ = some (ptrV p) := cell_of_blk hxb 0
  have n2 : xb ≠ eb := by rintro rfl; rw [hxb] at heb; simp at heb
  have hc := hE d 1 s w (by omega) (by omega) h hout
  have hlt := heap_lt heb
  have hl2 := heap_lt hxb
  have HE : Hid (w.heap[eb]? = _) := heb
  clear hxb heb
  go_enter Tryd.func90, Tryd.ntmps90
  go_wp2_with fail
  refine hc.mono ?_
  rintro e w2 ⟨k, n, m, ad, l, c, rfl, hrep, hp2, hb2⟩
  have k2 : w2.cell? ⟨xb, 0, none⟩ = some (ptrV p) := cell_keep hb2 c2 (by omega)
  have hx2 := heap_keep hb2 HE.out (by omega)
  have e0 : w2.cell? ⟨eb, 0, none⟩ = some x0 := cell_of_blk hx2 0
  have e1 : w2.cell? ⟨eb, 1, none⟩ = some x1 := cell_of_blk hx2 1
  have e2 : w2.cell? ⟨eb, 2, none⟩ = some x2 := cell_of_blk hx2 2
  have e3 : w2.cell? ⟨eb, 3, none⟩ = some x3 := cell_of_blk hx2 3
  have f0 := free_of_blk hx2 0
  have f1 := free_of_blk hx2 1
  have f2 := free_of_blk hx2 2
  have f3 := free_of_blk hx2 3
  have HX : Hid (w2.heap[eb]? = _) := hx2
  have l1 := heap_lt hx2
  have HR := hid hrep
  have HP := hid hp2
  clear hx2 hrep hp2 hc
  go_wp2_with fail
  have h4 := set4_blk HX.out (.string k) (.int .i64 n) (.string m) (.slice ad l c)
  have hp4 := HP.out.set4 h3 HX.out (.string k) (.int .i64 n) (.string m) (.slice ad l c)
  have hb4 : But2 p eb w2 ((((w2.setCell ⟨eb, 0, none⟩ (.string k)).setCell ⟨eb, 1, none⟩ (.int .i64 n)).setCell ⟨eb, 2, none⟩ (.string m)).setCell ⟨eb, 3, none⟩ (.slice ad l c)) := ((((But2.refl p eb w2).set 0 _).set 1 _).set 2 _).set 3 _
  have hk4 := @kept_set4 w2 eb (.string k) (.int .i64 n) (.string m) (.slice ad l c)
  have hs4 := @size_set4 w2 eb (.string k) (.int .i64 n) (.string m) (.slice ad l c)
  generalize ((((w2.setCell ⟨eb, 0, none⟩ (.string k)).setCell ⟨eb, 1, none⟩ (.int .i64 n)).setCell ⟨eb, 2, none⟩ (.string m)).setCell ⟨eb, 3, none⟩ (.slice ad l c)) = w4 at h4 hp4 hb4 hk4 hs4 ⊢
  refine (need_any hp4 kSign [41] sign_ne).mono ?_
  rintro e w5 ⟨rfl, hp5, hb5⟩
  go_wp2
  go_end0
  have hz := hb2.size
  have hk5 : Kept w.heap.size w2 w5 := ⟨Nat.le_trans (by omega) hb5.size, fun k hk hl => (hb5.block k (by omega) (by omega)).trans (hk4.block k (by omega) hl)⟩
  refine ⟨rfl, ?_, ((But2.of hb2).trans hb4).trans (But2.of hb5), _, _, _, _, _, _, heap_keep hb5 h4 (by omega), fun x j hx => ?_⟩
  · have : needS T kSign [41] (s.via (exprT T q d 1)).st = ((s.via (exprT T q d 1)).bind fun x j => (needT T kSign [41] j).bind fun _ j => .ok x j).st := by
      cases s.via (exprT T q d 1) with
      | out => rfl
      | bad c k => rfl
      | ok x j => simp only [Rs.st_ok, needS, Rs.bind_ok]; cases needT T kSign [41] j <;> rfl
    rw [← this]; exact hp5
  · cases hr : s.via (exprT T q d 1) with
    | out => rw [hr] at hx; cases hx
    | bad c k => rw [hr] at hx; cases hx
    | ok y j' =>
      have hy := HR.out y j' hr
      rw [hr, Rs.bind_ok] at hx
      cases hn : needT T kSign [41] j' with
      | out => rw [hn] at hx; cases hx
      | bad c k => rw [hn] at hx; cases hx
      | ok u j2 =>
        rw [hn] at hx
        cases hx
        exact RepE.imp (hk5.inB (Nat.le_refl _)) hk5.keepA _ _ hy

theorem ex_info : (Tryd.prog.info? 55).map (fun i => (i.zero, i.size, i.bytes)) = some (some (.agg #[.string ⟨#[]⟩, .int .i64 0, .string ⟨#[]⟩, .slice none 0 0]), 4, 64) := by kernel_rfl
/-- The kids that a call's block has so far: as many; which, if no error was told. -/
def Args (eb : Nat) (nm : ByteArray) (cnt : Nat) (es : Option (List Ex)) (w : World) : Prop :=
  ∃ v xs, w.heap[eb]? = some (.cells #[.string ⟨kCall.toArray⟩, .int .i64 0, .string nm, v] 55 (0, 0)) ∧ w.ownsRow (eb + 1) 55 4 v cnt xs ∧
    ∀ l, es = some l → l.length = cnt ∧ RepEs (fun b => eb < b ∧ b < w.heap.size ∧ v.ownBlock ≠ some b) w l xs
theorem tokEmpty' {w : World} {B size : Nat} {t : TypeId} {v : Value} {n : Nat} {xs : List Value} (h : w.ownsRow B t size v n xs) : ∃ a cap, v = .slice a n cap := by
  rcases id h with ⟨_, ⟨rfl, rfl⟩ | ⟨g, cap, cur, rfl, _⟩⟩
  · exact ⟨_, _, rfl⟩
  · exact ⟨_, _, rfl⟩
theorem own_but {p eb n size : Nat} {t : TypeId} {w w' : World} {v : Value} {xs : List Value} (h : w.ownsRow (eb + 1) t size v n xs) (hb : But p w w') (hp : p ≤ eb) : w'.ownsRow (eb + 1) t size v n xs := by
  rcases h with ⟨h1, h2 | ⟨g, cap, cur, h3, h4, h5, h6⟩⟩
  · exact ⟨h1, Or.inl h2⟩
  · exact ⟨h1, Or.inr ⟨g, cap, cur, h3, h4, (hb.block g (heap_lt h5) (by omega)).trans h5, h6⟩⟩
theorem ex_one : ∀ u ∈ ([.string ⟨#[]⟩, .int .i64 0, .string ⟨#[]⟩, .slice none 0 0] : List Value), u.oneCell' = true := by
  intro u hu
  simp only [List.mem_cons, List.not_mem_nil, or_false] at hu
  rcases hu with rfl | rfl | rfl | rfl <;> rfl
theorem arg_room {w : World} {eb g cap cnt : Nat} {t : TypeId} {xs : List Value} {z0 z1 z2 z3 : Value} (h : w.ownsRow (eb + 1) t 4 (.slice (some ⟨g, 0, none⟩) (cnt + 1) cap) (cnt + 1) (xs ++ [z0, z1, z2, z3])) :
    w.cell? ⟨g, cnt * 4, none⟩ = some z0 ∧ w.cell? ⟨g, cnt * 4 + 1, none⟩ = some z1 ∧ w.cell? ⟨g, cnt * 4 + 2, none⟩ = some z2 ∧ w.cell? ⟨g, cnt * 4 + 3, none⟩ = some z3 ∧
    w.frozen? ⟨g, cnt * 4, none⟩ = false ∧ w.frozen? ⟨g, cnt * 4 + 1, none⟩ = false ∧ w.frozen? ⟨g, cnt * 4 + 2, none⟩ = false ∧ w.frozen? ⟨g, cnt * 4 + 3, none⟩ = false ∧ eb < g := by
  have hl : xs.length = cnt * 4 := by have := h.1; simp at this; omega
  have hx : ∀ j, (xs ++ [z0, z1, z2, z3])[cnt * 4 + j]? = [z0, z1, z2, z3][j]? := fun j => by rw [List.getElem?_append_right (by omega), hl, Nat.add_sub_cancel_left]
  refine ⟨?_, ?_, ?_, ?_, h.frozenAt _, h.frozenAt _, h.frozenAt _, h.frozenAt _, (h.lt g rfl).1⟩
  · rw [h.cellAt _ (by omega)]; exact hx 0
  · rw [h.cellAt _ (by omega)]; exact hx 1
  · rw [h.cellAt _ (by omega)]; exact hx 2
  · rw [h.cellAt _ (by omega)]; exact hx 3
theorem arg_block {w0 w w' : World} {eb n size : Nat} {t : TypeId} {v : Value} {xs : List Value} (h : w0.ownsRow (eb + 1) t size v n xs) (hg : w.grownBy w' v.ownBlock) {k : Nat} (hk : k ≤ eb) (hl : k < w.heap.size) : w'.heap[k]? = w.heap[k]? :=
  hg.block k hl (fun e => by have := (h.lt k e.symm).1; omega)
theorem arg_far {w0 w w' : World} {eb n size : Nat} {t : TypeId} {v u : Value} {xs : List Value} (h : w0.ownsRow (eb + 1) t size v n xs) (hg : w.grownBy w' v.ownBlock) (hl : eb < w.heap.size) {i : Nat} (hc : w.cell? ⟨eb, i, none⟩ = some u) : w'.cell? ⟨eb, i, none⟩ = some u :=
  (World.cell?_of_block (w := w) (a := ⟨eb, i, none⟩) (arg_block h hg (Nat.le_refl _) hl)).trans hc
theorem arg_free {w0 w w' : World} {eb n size : Nat} {t t' : TypeId} {v : Value} {xs : List Value} {cs : Array Value} (h : w0.ownsRow (eb + 1) t size v n xs) (hg : w.grownBy w' v.ownBlock) (hl : eb < w.heap.size) {i : Nat} (hc : w.heap[eb]? = some (.cells cs t' (0, 0))) : w'.frozen? ⟨eb, i, none⟩ = false :=
  free_of_blk ((arg_block h hg (Nat.le_refl _) hl).trans hc) i
theorem own_set4 {w : World} {eb g cap cnt : Nat} {t : TypeId} {xs : List Value} {z0 z1 z2 z3 : Value} (h : w.ownsRow (eb + 1) t 4 (.slice (some ⟨g, 0, none⟩) (cnt + 1) cap) (cnt + 1) (xs ++ [z0, z1, z2, z3])) (u0 u1 u2 u3 : Value) :
    ((((w.setCell ⟨g, cnt * 4, none⟩ u0).setCell ⟨g, cnt * 4 + 1, none⟩ u1).setCell ⟨g, cnt * 4 + 2, none⟩ u2).setCell ⟨g, cnt * 4 + 3, none⟩ u3).ownsRow (eb + 1) t 4 (.slice (some ⟨g, 0, none⟩) (cnt + 1) cap) (cnt + 1) (xs ++ [u0, u1, u2, u3]) := by
  have hl : xs.length = cnt * 4 := by have := h.1; simp at this; omega
  have h4 := ((((h.stored (cnt * 4) u0).1.stored (cnt * 4 + 1) u1).1.stored (cnt * 4 + 2) u2).1.stored (cnt * 4 + 3) u3).1
  have e : (((((xs ++ [z0, z1, z2, z3]).set (cnt * 4) u0).set (cnt * 4 + 1) u1).set (cnt * 4 + 2) u2).set (cnt * 4 + 3) u3) = xs ++ [u0, u1, u2, u3] := by
    rw [← hl]
    simp
  rwa [e] at h4
theorem rep_more {A : Nat → Prop} {w w' : World} {l : List Ex} {xs : List Value} (h : RepEs A w l xs) (hk : KeepA A w w') : RepEs A w' l xs := RepEs.imp (fun _ h => h) hk l xs h
/-- Four stores into a block beyond the parser. -/
theorem put4 {T : List Tok} {a : Nat → Addr} {p d g : Nat} {s : Rs Unit} {w : World} (h : PAt T a p d s w) (hg : p < g) (hf : Far w g) (o : Nat) (u0 u1 u2 u3 : Value) :
    PAt T a p d s ((((w.setCell ⟨g, o, none⟩ u0).setCell ⟨g, o + 1, none⟩ u1).setCell ⟨g, o + 2, none⟩ u2).setCell ⟨g, o + 3, none⟩ u3) ∧
    ((((w.setCell ⟨g, o, none⟩ u0).setCell ⟨g, o + 1, none⟩ u1).setCell ⟨g, o + 2, none⟩ u2).setCell ⟨g, o + 3, none⟩ u3).os = w.os ∧
    ((((w.setCell ⟨g, o, none⟩ u0).setCell ⟨g, o + 1, none⟩ u1).setCell ⟨g, o + 2, none⟩ u2).setCell ⟨g, o + 3, none⟩ u3).tape = w.tape ∧
    ((((w.setCell ⟨g, o, none⟩ u0).setCell ⟨g, o + 1, none⟩ u1).setCell ⟨g, o + 2, none⟩ u2).setCell ⟨g, o + 3, none⟩ u3).output = w.output ∧
    ((((w.setCell ⟨g, o, none⟩ u0).setCell ⟨g, o + 1, none⟩ u1).setCell ⟨g, o + 2, none⟩ u2).setCell ⟨g, o + 3, none⟩ u3).heap.size = w.heap.size ∧
    (∀ k, k ≠ g → ((((w.setCell ⟨g, o, none⟩ u0).setCell ⟨g, o + 1, none⟩ u1).setCell ⟨g, o + 2, none⟩ u2).setCell ⟨g, o + 3, none⟩ u3).heap[k]? = w.heap[k]?) :=
  ⟨(((h.setCell hg hf _ _).setCell hg (hf.set _ _) _ _).setCell hg ((hf.set _ _).set _ _) _ _).setCell hg (((hf.set _ _).set _ _).set _ _) _ _, rfl, rfl, rfl, by simp [World.setCell], fun k hk => by rw [heap_far hk, heap_far hk, heap_far hk, heap_far hk]⟩
/-- The call's block behind one more argument. -/
theorem arg_done {T : List Tok} {a : Nat → Addr} {p d eb g cap cnt : Nat} {s2 : Rs Unit} {w w2 w3 w4 W : World} {r : Rs Ex} {nm : ByteArray} {es : Option (List Ex)} {adv : Option Addr} {capv : Nat} {xs : List Value} {k : ByteArray} {n : Int} {m : ByteArray} {ad : Option Addr} {l c : Nat} {z0 z1 z2 z3 : Value}
    (h3 : p < eb) (hb3 : But p w w2) (hp2 : PAt T a p d s2 w2) (hal : Below w2.heap.size w2 w3) (hgrow : w3.grownBy w4 (Value.slice adv cnt capv).ownBlock) (hat : (Value.slice adv cnt capv).ownBlock = some g ∨ g = w3.heap.size)
    (HE : w.heap[eb]? = some (.cells #[.string ⟨kCall.toArray⟩, .int .i64 0, .string nm, .slice adv cnt capv] 55 (0, 0))) (HO : w.ownsRow (eb + 1) 55 4 (.slice adv cnt capv) cnt xs)
    (HS : ∀ l, es = some l → l.length = cnt ∧ RepEs (fun b => eb < b ∧ b < w.heap.size ∧ (Value.slice adv cnt capv).ownBlock ≠ some b) w l xs)
    (HR : ∀ x j, r = .ok x j → RepE (InB w.heap.size w2) w2 x [.string k, .int .i64 n, .string m, .slice ad l c])
    (hown4 : w4.ownsRow (eb + 1) 55 4 (.slice (some ⟨g, 0, none⟩) (cnt + 1) cap) (cnt + 1) (xs ++ [z0, z1, z2, z3]))
    (hW : W = (((((w4.setCell ⟨g, cnt * 4, none⟩ (.string k)).setCell ⟨g, cnt * 4 + 1, none⟩ (.int .i64 n)).setCell ⟨g, cnt * 4 + 2, none⟩ (.string m)).setCell ⟨g, cnt * 4 + 3, none⟩ (.slice ad l c)).setCell ⟨eb, 3, none⟩ (.slice (some ⟨g, 0, none⟩) (cnt + 1) cap)) ∨
      W = (((((w4.setCell ⟨eb, 3, none⟩ (.slice (some ⟨g, 0, none⟩) (cnt + 1) cap)).setCell ⟨g, cnt * 4, none⟩ (.string k)).setCell ⟨g, cnt * 4 + 1, none⟩ (.int .i64 n)).setCell ⟨g, cnt * 4 + 2, none⟩ (.string m)).setCell ⟨g, cnt * 4 + 3, none⟩ (.slice ad l c))) :
    PAt T a p d s2 W ∧ Bb p eb w W ∧ Args eb nm (cnt + 1) (r.add es) W := by
  have hlt := heap_lt HE
  have hz2 := hb3.size
  have hz3 := hal.size
  have hz4 := hgrow.size
  have hge : eb < g := (hown4.lt g rfl).1
  have hv : ∀ k, (Value.slice adv cnt capv).ownBlock = some k → eb < k ∧ k < w.heap.size := fun k hk => HO.lt k hk
  have hgs : g < w.heap.size ∨ g = w3.heap.size := by
    rcases hat with h | h
    · exact Or.inl (hv g h).2
    · exact Or.inr h
  have n3 : ∀ k, k < w2.heap.size → w3.heap[k]? = w2.heap[k]? := fun k hk => hal.block k hk
  have n4 : ∀ k, k < w2.heap.size → (Value.slice adv cnt capv).ownBlock ≠ some k → w4.heap[k]? = w2.heap[k]? := fun k hk hne => (hgrow.block k (by omega) (fun e => hne e.symm)).trans (n3 k hk)
  have heb4 : w4.heap[eb]? = some (.cells #[.string ⟨kCall.toArray⟩, .int .i64 0, .string nm, .slice adv cnt capv] 55 (0, 0)) :=
    (n4 eb (by omega) (fun e => by have := (hv eb e).1; omega)).trans (heap_keep hb3 HE (by omega))
  have hp4 : PAt T a p d s2 w4 := (hp2.keep hal).grown hgrow (fun k hk => ⟨by have := (hv k hk).1; omega, (own_far HO (by decide) hk).of ((n3 k (by have := (hv k hk).2; omega)).trans (hb3.block k (hv k hk).2 (by have := (hv k hk).1; omega)))⟩)
  have hfg : Far w4 g := own_far hown4 (by decide) rfl
  have hfe : Far w4 eb := ⟨_, _, heb4, by decide⟩
  have key : PAt T a p d s2 W ∧ W.os = w4.os ∧ W.tape = w4.tape ∧ W.output = w4.output ∧ W.heap.size = w4.heap.size ∧ (∀ k, k ≠ eb → k ≠ g → W.heap[k]? = w4.heap[k]?) ∧
      W.heap[eb]? = some (.cells #[.string ⟨kCall.toArray⟩, .int .i64 0, .string nm, .slice (some ⟨g, 0, none⟩) (cnt + 1) cap] 55 (0, 0)) ∧
      W.ownsRow (eb + 1) 55 4 (.slice (some ⟨g, 0, none⟩) (cnt + 1) cap) (cnt + 1) (xs ++ [.string k, .int .i64 n, .string m, .slice ad l c]) := by
    rcases hW with rfl | rfl
    · obtain ⟨o1, o2, o3, o4, o5, o6⟩ := put4 hp4 (by omega) hfg (cnt * 4) (.string k) (.int .i64 n) (.string m) (.slice ad l c)
      have o7 := own_set4 hown4 (.string k) (.int .i64 n) (.string m) (.slice ad l c)
      generalize ((((w4.setCell ⟨g, cnt * 4, none⟩ (.string k)).setCell ⟨g, cnt * 4 + 1, none⟩ (.int .i64 n)).setCell ⟨g, cnt * 4 + 2, none⟩ (.string m)).setCell ⟨g, cnt * 4 + 3, none⟩ (.slice ad l c)) = w5 at o1 o2 o3 o4 o5 o6 o7 ⊢
      have he5 := (o6 eb (by omega)).trans heb4
      refine ⟨o1.setCell h3 ⟨_, _, he5, by decide⟩ 3 _, o2, o3, o4, by simpa [World.setCell] using o5, fun k h1 h2 => (heap_far h1).trans (o6 k h2), (blk_setCell he5 3 _).trans rfl, ownsRow_setCell_other o7 (by simp [Value.ownBlock]; omega) _⟩
    · have he1 := blk_setCell heb4 3 (.slice (some ⟨g, 0, none⟩) (cnt + 1) cap)
      have ho1 := ownsRow_setCell_other hown4 (a := ⟨eb, 3, none⟩) (by simp [Value.ownBlock]; omega) (.slice (some ⟨g, 0, none⟩) (cnt + 1) cap)
      have q1 := hp4.setCell h3 hfe 3 (.slice (some ⟨g, 0, none⟩) (cnt + 1) cap)
      have f1 : Far (w4.setCell ⟨eb, 3, none⟩ (.slice (some ⟨g, 0, none⟩) (cnt + 1) cap)) g := hfg.of (heap_far (by omega))
      have f2 : ∀ k, k ≠ eb → (w4.setCell ⟨eb, 3, none⟩ (.slice (some ⟨g, 0, none⟩) (cnt + 1) cap)).heap[k]? = w4.heap[k]? := fun k hk => heap_far hk
      have f3 : (w4.setCell ⟨eb, 3, none⟩ (.slice (some ⟨g, 0, none⟩) (cnt + 1) cap)).heap.size = w4.heap.size := by simp [World.setCell]
      have f4 : (w4.setCell ⟨eb, 3, none⟩ (.slice (some ⟨g, 0, none⟩) (cnt + 1) cap)).os = w4.os ∧ (w4.setCell ⟨eb, 3, none⟩ (.slice (some ⟨g, 0, none⟩) (cnt + 1) cap)).tape = w4.tape ∧ (w4.setCell ⟨eb, 3, none⟩ (.slice (some ⟨g, 0, none⟩) (cnt + 1) cap)).output = w4.output := ⟨rfl, rfl, rfl⟩
      generalize w4.setCell ⟨eb, 3, none⟩ (.slice (some ⟨g, 0, none⟩) (cnt + 1) cap) = w5 at he1 ho1 q1 f1 f2 f3 f4 ⊢
      obtain ⟨o1, o2, o3, o4, o5, o6⟩ := put4 q1 (by omega) f1 (cnt * 4) (.string k) (.int .i64 n) (.string m) (.slice ad l c)
      have o7 := own_set4 ho1 (.string k) (.int .i64 n) (.string m) (.slice ad l c)
      exact ⟨o1, o2.trans f4.1, o3.trans f4.2.1, o4.trans f4.2.2, o5.trans f3, fun k h1 h2 => (o6 k h2).trans (f2 k h1), ((o6 eb (by omega)).trans he1).trans rfl, o7⟩
  obtain ⟨k1, k2, k3, k4, k5, k6, k7, k8⟩ := key
  refine ⟨k1, ⟨k2.trans (hgrow.os.trans (hal.os.trans hb3.os)), k3.trans (hgrow.tape.trans (hal.tape.trans hb3.tape)), k4.trans (hgrow.output.trans (hal.output.trans hb3.output)), by omega, fun b hb hp => ?_⟩, _, _, k7, k8, fun l' hl' => ?_⟩
  · rw [k6 b (by omega) (by omega), n4 b (by omega) (fun e => by have := (hv b e).1; omega)]
    exact hb3.block b (by omega) hp
  · obtain ⟨x, j, l0, hr, hes, rfl⟩ := Rs.add_some hl'
    obtain ⟨hl0, hr0⟩ := HS l0 hes
    have hg1 : ∀ b, eb < b → b < w.heap.size → (Value.slice adv cnt capv).ownBlock ≠ some b → b ≠ g := fun b h1 h2 h3 e => by
      rcases hat with h | h
      · exact h3 (e ▸ h)
      · omega
    have hs : ∀ b, b ≠ g → (Value.slice (some ⟨g, 0, none⟩) (cnt + 1) cap).ownBlock ≠ some b := fun b hb e => hb (Option.some.inj e).symm
    have o1 : RepEs (fun b => eb < b ∧ b < W.heap.size ∧ (Value.slice (some ⟨g, 0, none⟩) (cnt + 1) cap).ownBlock ≠ some b) W l0 xs :=
      RepEs.imp (fun b hb => ⟨hb.1, by have := hb.2.1; omega, hs b (hg1 b hb.1 hb.2.1 hb.2.2)⟩) (fun b hb => by
        rw [k6 b (by have := hb.1; omega) (hg1 b hb.1 hb.2.1 hb.2.2), n4 b (by have := hb.2.1; omega) hb.2.2]
        exact hb3.block b hb.2.1 (by have := hb.1; omega)) _ _ hr0
    have o2 : RepE (fun b => eb < b ∧ b < W.heap.size ∧ (Value.slice (some ⟨g, 0, none⟩) (cnt + 1) cap).ownBlock ≠ some b) W x [.string k, .int .i64 n, .string m, .slice ad l c] :=
      RepE.imp (fun b hb => ⟨by have := hb.1; omega, by have := hb.2; omega, hs b (by have := hb.1; have := hb.2; omega)⟩) (fun b hb => by
        have h1 := hb.1
        have h2 := hb.2
        rw [k6 b (by omega) (by omega), n4 b h2 (fun e => by have := (hv b e).2; omega)]) _ _ (HR x j hr)
    exact ⟨by simp [hl0], o1.snoc o2⟩
set_option maxHeartbeats 3000000 in
set_option maxRecDepth 100000 in
theorem arg_any {T : List Tok} {a : Nat → Addr} {p q d : Nat} {s : Rs Unit} {w : World} (hE : EOk T a p q) (h : PAt T a p d s w) (hout : s.via (exprT T q d 1) ≠ .out) (xb eb cnt : Nat) (nm : ByteArray) (es : Option (List Ex))
    (hxb : w.heap[xb]? = some (.cells #[ptrV p] 58 (0, 0))) (ha : Args eb nm cnt es w) (hcnt : cnt ≤ 1000) (h2 : p < xb) (h3 : p < eb) :
    Calls Tryd.prog 94 #[ptrV eb, ptrV xb] w fun e w' => e = .returned (.tuple #[]) ∧ PAt T a p d (s.via (exprT T q d 1)).st w' ∧ Bb p eb w w' ∧
      Args eb nm (cnt + 1) ((s.via (exprT T q d 1)).add es) w' := by
  obtain ⟨i0, hi, hz0, hz1, hz2⟩ := info_parts ex_info
  obtain ⟨v, xs, heb, hown, hes⟩ := ha
  have c2 : w.cell? ⟨xb, 0, none⟩ = some (ptrV p) := cell_of_blk hxb 0
  have c3 : w.cell? ⟨eb, 3, none⟩ = some v := cell_of_blk heb 3
  have g3 : w.frozen? ⟨eb, 3, none⟩ = false := free_of_blk heb 3
  have hlt := heap_lt heb
  have hl2 := heap_lt hxb
  have HE := hid heb
  have HS := hid hes
  clear hxb heb hes
  obtain ⟨adv, capv, rfl⟩ := tokEmpty' hown
  have HO := hid hown
  have hbase : eb + 1 ≤ w.heap.size := hlt
  clear hown
  have hcall : ∀ X, Below w.heap.size w X → Calls Tryd.prog 70 #[ptrV p, .int .i64 1] X fun e w' => ∃ v, e = .returned v ∧ ∃ k n m ad l c, v = exA k n m (.slice ad l c) ∧ (∀ x j, s.via (exprT T q d 1) = .ok x j → RepE (InB w.heap.size w') w' x [.string k, .int .i64 n, .string m, .slice ad l c]) ∧ PAt T a p d (s.via (exprT T q d 1)).st w' ∧ But p X w' := fun X hX => by
    refine (hE d 1 s X (by omega) (by omega) (h.keep hX) hout).mono ?_
    rintro e w2 ⟨k, n, m, ad, l, c, rfl, hrep, hp2, hb2⟩
    exact ⟨_, rfl, k, n, m, ad, l, c, rfl, fun x j hj => RepE.imp (fun b hb => ⟨Nat.le_trans hX.size hb.1, hb.2⟩) (fun _ _ => rfl) _ _ (hrep x j hj), hp2, hb2⟩
  have HC := hid hcall
  have hf : ∀ args w, (callFunc 70 args).run Tryd.prog w = .ok (.enter 70 args) w := enters_of Tryd.func70 (by kernel_rfl) rfl
  clear hcall
  have hci : (cnt : Int) < (cnt : Int) + 1 := by omega
  go_enter Tryd.func94, Tryd.ntmps94
  go_region_law (first
      | (refine step_append_lies _ rfl (.tmp 3) (.tmp 7) 53 rfl (eb + 1) 55 i0 _ 4 64 Tryd.underlying53 hi hz0 hz1 hz2 rfl (by decide) _ cnt xs (by first | (simp [Act.eval]; done) | (simp [Act.eval, Act.put]; done)) (own_but HO.out (by first | assumption | exact But.alloc (by assumption) _) (by omega)) ⟨_, 0, none⟩ 1 1 [.string ⟨#[]⟩, .int .i64 0, .string ⟨#[]⟩, .slice none 0 0] (by first | (simp [Act.eval]; done) | (simp [Act.eval]; rfl) | (simp [Act.eval, Act.put]; done) | (simp [Act.eval, Act.put]; rfl)) rfl (World.news_of_block (by first | exact heap_alloc_new _ _ | exact heap_keep hb2 (heap_alloc_new _ _) (by omega))) ex_one (by decide) (by show cnt + 1 ≤ 9223372036854775807; omega) (by omega) (by first | omega | (simp; omega)) _ rfl ?_; intro g cap w4 hown4 hgrow hat hlt4; obtain ⟨t0, t1, t2, t3, u0, u1, u2, u3, hg1⟩ := arg_room hown4; have k4 : w4.cell? ⟨eb, 3, none⟩ = some (.slice adv cnt capv) := arg_far HO.out hgrow (by first | omega | (simp; omega)) (by first | exact k3 | exact cell_keep (But.alloc (But.refl p _) _) k3 (by omega)); have g4 : w4.frozen? ⟨eb, 3, none⟩ = false := arg_free HO.out hgrow (by first | omega | (simp; omega)) (by first | exact heap_keep hb3 HE.out (by omega) | exact heap_keep (But.alloc hb3 _) HE.out (by omega)); have hge : g ≠ eb := (by omega))
      | (refine step_call rfl 70 #[.tmp 4, .const (.int .i64 1)] #[58, 3] rfl #[ptrV p, .int .i64 1] (by first | (simp [Act.eval]; done) | (simp [Act.eval, Act.put]; done)) hf _ (HC.out _ (by (repeat (first | exact Below.refl _ _ | assumption | refine Below.drew ?_ | refine Below.trans ?_ (drewN_below' _ _ _) | refine Below.setCell ?_ (by first | (simp; done) | (simp; omega)) _ | refine Below.alloc ?_ (by first | (simp; done) | (simp; omega)) _)))) ?_; rintro v2 w2 ⟨k, n, m, ad, l, c, rfl, hrep, hp2, hb2⟩; have hb3 : But p w w2 := But.trans (by (repeat (first | exact But.refl _ _ | assumption | refine But.drew ?_ | refine But.drewN ?_ _ | refine But.set ?_ _ _ | refine But.setNew ?_ _ _ (by first | (simp; done) | (simp; omega)) _ | refine But.alloc ?_ _))) hb2; have k2 : w2.cell? ⟨xb, 0, none⟩ = some (ptrV p) := cell_keep hb3 c2 (by omega); have k3 := cell_keep hb3 c3 (by omega); have hz := hb3.size; have le2 : eb < w2.heap.size := (by omega); have lx2 : xb < w2.heap.size := (by omega); have HR := hid hrep; clear hrep))
  all_goals go_end0
  all_goals refine ⟨rfl, arg_done h3 hb3 hp2 (by first | exact Below.refl _ _ | exact (Below.refl _ _).alloc (Nat.le_refl _) _) hgrow hat HE.out HO.out HS.out HR.out hown4 (by first | (left; with_reducible eq_refl) | (right; with_reducible eq_refl))⟩
end Go.Proofs.YtcebpmaggnephabDoor
