/- Our own: texts joined: Pile, IntCnt. -/
import Derived.Test.YtlgejjmdanmglaaGreatDoorVFlowA
import Derived.Test.YtlgejjmdanmglaaGreatDoorVBase
import Derived.Test.YtlgejjmdanmglaaGreatDoorVNoteV
import Derived.Maps.OwnSet
import Derived.Maps.OwnOps
namespace Go.Proofs.YtlgejjmdanmglaaGreatDoor
open Go.RowKit
structure PileAt (w : World) (B pb : Nat) (vs : List Value) (ph : List (List Nat)) : Prop where
 blk : w.heap[pb]? = some (.cells vs.toArray 40 (0, 0))
 len : vs.length = ph.length
 low : pb < B
 own : ∀ (i : Nat) (v : Value) (l : List Nat), vs[i]? = some v → ph[i]? = some l → w.ownsRow B 3 1 v l.length (natsG l)
 apart : ∀ (i j : Nat) (v u : Value) (b : Nat), vs[i]? = some v → vs[j]? = some u → v.ownBlock = some b → u.ownBlock = some b → i = j
theorem PileAt.keep {w w' : World} {B pb : Nat} {vs : List Value} {ph : List (List Nat)} (h : PileAt w B pb vs ph) (hk : ∀ b, b < w.heap.size → (b = pb ∨ B ≤ b) → w'.heap[b]? = w.heap[b]?) : PileAt w' B pb vs ph :=
 ⟨(hk pb (heap_lt h.blk) (Or.inl rfl)).trans h.blk, h.len, h.low, fun i v l h1 h2 => own_same (h.own i v l h1 h2) (fun b hb => hk b ((h.own i v l h1 h2).lt b hb).2 (Or.inr ((h.own i v l h1 h2).lt b hb).1)), h.apart⟩
structure PFr (B pb : Nat) (w w' : World) : Prop where
 os : w'.os = w.os
 tape : w'.tape = w.tape
 output : w'.output = w.output
 size : w.heap.size ≤ w'.heap.size
 block : ∀ k, k < B → k < w.heap.size → k ≠ pb → w'.heap[k]? = w.heap[k]?
theorem PFr.trans {B pb : Nat} {a b c : World} (h : PFr B pb a b) (k : PFr B pb b c) : PFr B pb a c :=
 ⟨k.os.trans h.os, k.tape.trans h.tape, k.output.trans h.output, Nat.le_trans h.size k.size, fun i h1 h2 h3 => (k.block i h1 (by have := h.size; omega) h3).trans (h.block i h1 h2 h3)⟩
theorem PFr.of {B pb : Nat} {w w' : World} (h : Below w.heap.size w w') : PFr B pb w w' := ⟨h.os, h.tape, h.output, h.size, fun k _ hk _ => h.block k hk⟩
theorem PileAt.get {w : World} {B pb : Nat} {vs : List Value} {ph : List (List Nat)} (h : PileAt w B pb vs ph) {i : Nat} (hi : i < ph.length) : ∃ ad cap, vs[i]? = some (.slice ad ph[i].length cap) ∧ w.cell? ⟨pb, i, none⟩ = some (.slice ad ph[i].length cap) ∧ w.ownsRow B 3 1 (.slice ad ph[i].length cap) ph[i].length (natsG ph[i]) := by
 have hi' : i < vs.length := by rw [h.len]; exact hi
 have ho := h.own i vs[i] ph[i] (by simp [hi']) (by simp [hi])
 obtain ⟨ad, cap, e⟩ := own_is ho
 refine ⟨ad, cap, by simp [hi', e], ?_, by rw [← e]; exact ho⟩
 rw [cell_of_blk h.blk]; simp [hi', e]
theorem PileAt.push {w w1 W7 : World} {B pb : Nat} {vs : List Value} {ph : List (List Nat)} (h : PileAt w B pb vs ph) {i : Nat} {v : Value} {l : List Nat} (hv : vs[i]? = some v) (hl : ph[i]? = some l) (hw1 : Below w.heap.size w w1) {x : Nat} {v7 : Value} (ho : W7.ownsRow B 3 1 v7 (l.length + 1) (natsG l ++ [.int .i64 (x : Int)])) (hg : w1.grownBy W7 v.ownBlock) (h7 : v7.ownBlock = v.ownBlock ∨ v7.ownBlock = some w1.heap.size) :
  PileAt (W7.setCell ⟨pb, i, none⟩ v7) B pb (vs.set i v7) (ph.set i (l ++ [x])) ∧ PFr B pb w (W7.setCell ⟨pb, i, none⟩ v7) := by
 have hvo := h.own i v l hv hl
 have hpl := heap_lt h.blk
 have hz1 := hw1.size
 have hlow := h.low
 have hpb : W7.heap[pb]? = some (.cells vs.toArray 40 (0, 0)) := by
  rw [hg.block pb (by omega) (fun e => by have := (hvo.lt _ e.symm).1; omega), hw1.block pb hpl]; exact h.blk
 have hfar : ∀ b, b ≠ pb → (W7.setCell ⟨pb, i, none⟩ v7).heap[b]? = W7.heap[b]? := fun b hb => Below.heap_setCell _ _ _ _ hb
 refine ⟨⟨?_, by simp [h.len], h.low, ?_, ?_⟩, hg.os.trans hw1.os, hg.tape.trans hw1.tape, hg.output.trans hw1.output, ?_, ?_⟩
 ·have := blk_setCell hpb i v7
  simpa using this
 ·intro j u m hu hm
  by_cases e : j = i
  ·subst e
   have hj := lt_of_at hv
   have hj' := lt_of_at hl
   rw [List.getElem?_set_self hj] at hu
   rw [List.getElem?_set_self hj'] at hm
   injection hu with hu
   injection hm with hm
   subst hu hm
   have : natsG (l ++ [x]) = natsG l ++ [.int .i64 (x : Int)] := by simp [natsG]
   rw [this, List.length_append]
   exact own_same ho (fun b hb => by
    have := (ho.lt b hb).1
    exact hfar b (by omega))
  ·rw [List.getElem?_set_ne (Ne.symm e)] at hu hm
   have hu' := h.own j u m hu hm
   refine own_same hu' (fun b hb => ?_)
   have hb' := hu'.lt b hb
   rw [hfar b (by omega), hg.block b (by omega) (fun e' => e (h.apart j i u v b hu hv hb e'.symm)), hw1.block b hb'.2]
 ·have key : ∀ (j : Nat) (u : Value) (b : Nat), j ≠ i → vs[j]? = some u → u.ownBlock = some b → v7.ownBlock = some b → False := fun j u b hj hu hb hb7 => by
   have hm : j < ph.length := by rw [← h.len]; exact lt_of_at hu
   rcases h7 with h7 | h7
   ·exact hj (h.apart j i u v b hu hv hb (h7.symm.trans hb7))
   ·rw [h7] at hb7
    injection hb7 with hb7
    have := ((h.own j u ph[j] hu (by simp [hm])).lt b hb).2; omega
  intro a c va vc b ha hc hba hbc
  by_cases ea : a = i
  ·by_cases ec : c = i
   ·omega
   ·exfalso
    subst ea
    rw [List.getElem?_set_self (lt_of_at hv)] at ha
    rw [List.getElem?_set_ne (Ne.symm ec)] at hc
    injection ha with ha
    subst ha
    exact key c vc b ec hc hbc hba
  ·by_cases ec : c = i
   ·exfalso
    subst ec
    rw [List.getElem?_set_self (lt_of_at hv)] at hc
    rw [List.getElem?_set_ne (Ne.symm ea)] at ha
    injection hc with hc
    subst hc
    exact key a va b ea ha hba hbc
   ·rw [List.getElem?_set_ne (Ne.symm ea)] at ha
    rw [List.getElem?_set_ne (Ne.symm ec)] at hc
    exact h.apart a c va vc b ha hc hba hbc
 ·have := hg.size; simp [World.setCell]; omega
 ·intro k h1 h2 h3
  rw [hfar k h3, hg.block k (by omega) (fun e => by have := (hvo.lt _ e.symm).1; omega), hw1.block k h2]
theorem made_pile (n : Nat) : madeCells #[.slice none 0 0] n = (List.replicate n (Value.slice none 0 0)).toArray := by
 apply Array.ext'
 apply List.ext_getElem?
 intro i
 simp [madeCells, List.getElem?_replicate]
 by_cases h : i < n <;> simp [h, Nat.mod_one]
theorem pile_new {w : World} {B pb n : Nat} (hb : w.heap[pb]? = some (.cells (List.replicate n (Value.slice none 0 0)).toArray 40 (0, 0))) (hB : pb < B) : PileAt w B pb (List.replicate n (.slice none 0 0)) (List.replicate n []) := by
 have hz : ∀ (i : Nat) (v : Value), (List.replicate n (Value.slice none 0 0))[i]? = some v → v = .slice none 0 0 := fun i v h => by
  rw [List.getElem?_replicate] at h
  split at h
  ·injection h with h; exact h.symm
  ·cases h
 refine ⟨hb, by simp, hB, fun i v l h1 h2 => ?_, fun i j v u b h1 h2 h3 => ?_⟩
 ·rw [List.getElem?_replicate] at h2
  split at h2
  ·injection h2 with h2
   subst h2
   rw [hz i v h1]
   exact World.ownsRow_nil _ _ _ _
  ·cases h2
 ·rw [hz i v h1] at h3; simp [Value.ownBlock] at h3
theorem pile_info : (Tryz.prog.info? 40).map (fun i => (i.zero, i.size, i.bytes)) = some (some (.slice none 0 0), 1, 24) := by kernel_rfl
theorem PileAt.xps {w : World} {B pb : Nat} {vs : List Value} {ph : List (List Nat)} (h : PileAt w B pb vs ph) : XPs (fun b => B ≤ b ∧ b < w.heap.size) w ph vs := by
 have key : ∀ (vs : List Value) (ph : List (List Nat)), vs.length = ph.length → (∀ (i : Nat) (v : Value) (l : List Nat), vs[i]? = some v → ph[i]? = some l → w.ownsRow B 3 1 v l.length (natsG l)) → XPs (fun b => B ≤ b ∧ b < w.heap.size) w ph vs := by
  intro vs
  induction vs with
  | nil =>
   intro ph hl _
   cases ph with
   | nil => rfl
   | cons => simp at hl
  | cons v r ih =>
   intro ph hl ho
   cases ph with
   | nil => simp at hl
   | cons l q =>
    have h0 := ho 0 v l rfl rfl
    obtain ⟨ad, cap, e⟩ := own_is h0
    subst e
    exact ⟨ad, cap, r, rfl, xrow_own h0, ih q (by simpa using hl) (fun i v' l' h1 h2 => ho (i + 1) v' l' (by simpa using h1) (by simpa using h2))⟩
 exact key vs ph h.len h.own
theorem PileAt.xrow {w : World} {B pb : Nat} {vs : List Value} {ph : List (List Nat)} (h : PileAt w B pb vs ph) (cap : Nat) : XRow (fun b => b = pb) w (.slice (some ⟨pb, 0, none⟩) ph.length cap) ph.length vs :=
 ⟨_, _, rfl, fun _ => ⟨pb, 0, rfl, rfl, fun j u hu => by rw [Nat.zero_add, cell_of_blk h.blk, List.getElem?_toArray]; exact hu⟩⟩
end Go.Proofs.YtlgejjmdanmglaaGreatDoor
namespace Go.Proofs.YtlgejjmdanmglaaGreatDoor
open Go.RowKit Go.Maps
theorem law_intK : Keyed Tryz.prog 3 := int_keyed Tryz.underlying3
theorem zero_intK (w : World) : (zeroValue 3).run Tryz.prog w = .ok (.int .i64 0) w := by kernel_rfl
theorem key_intK (x : Nat) (h : x ≤ 1000000) : keyOf Tryz.prog 3 (.int .i64 (x : Int)) = some (.int .i64 (x : Int)) :=
 keyOf_int_mk Tryz.underlying3 (WalkArith.wf_i64 (by omega))
def HangAt (w : World) (mb : Nat) (ks : List Nat) : Prop :=
 ∃ D : DataW Unit, w.ownsMap Tryz.prog 3 (plainElem Tryz.prog 3) mb ks.length D ∧ ∀ x : Nat, x ≤ 1000000 → D.atKey (.int .i64 (x : Int)) (.lit (.int .i64 0)) = .lit (.int .i64 (ks.count x : Nat))
theorem HangAt.isMap {w : World} {mb : Nat} {ks : List Nat} (h : HangAt w mb ks) : ∃ es clock, w.heap[mb]? = some (.map es clock) := by
 obtain ⟨D, ⟨es, clock, h1, _⟩, _⟩ := h
 exact ⟨es, clock, h1⟩
theorem HangAt.lt {w : World} {mb : Nat} {ks : List Nat} (h : HangAt w mb ks) : mb < w.heap.size := by
 obtain ⟨es, clock, h1⟩ := h.isMap; exact heap_lt h1
theorem HangAt.keep {w w' : World} {mb : Nat} {ks : List Nat} (h : HangAt w mb ks) (hb : w'.heap[mb]? = w.heap[mb]?) : HangAt w' mb ks := by
 obtain ⟨D, ⟨es, clock, h1, r⟩, h2⟩ := h
 exact ⟨D, ⟨es, clock, hb.trans h1, r⟩, h2⟩
theorem hang_made (w : World) : HangAt (w.alloc (.map #[] 0)) w.heap.size [] :=
 ⟨.map [], World.ownsMap_made _ _ _ _, fun x _ => by simp [DataW.atKey]⟩
theorem HangAt.look {w : World} {mb : Nat} {ks : List Nat} (h : HangAt w mb ks) (x : Nat) (hx : x ≤ 1000000) (X : World) (hX : X.heap[mb]? = w.heap[mb]?) :
  (Instr.lookup 80 (.map (some mb)) (.int .i64 (x : Int)) false).run Tryz.prog X = .ok (.int .i64 (ks.count x : Nat)) X := by
 obtain ⟨D, h1, h2⟩ := h.keep hX
 obtain ⟨d, hrun, hat, _⟩ := h1.lookup_int law_intK Tryz.underlying80 Tryz.underlying3 (zero_intK X) (key_intK x hx)
 rw [h2 x hx] at hat
 simp only [DataW.lit.injEq, Lit.int.injEq, true_and] at hat
 rw [hrun, hat]
theorem keyLitK (x : Nat) (h : x ≤ 1000000) : WideAt.IsKeyLit (.int .i64 (x : Int)) := law_intK.key (key_intK x h)
theorem HangAt.add {w : World} {mb : Nat} {ks : List Nat} (h : HangAt w mb ks) (hl : ks.length ≤ 1000000) (x : Nat) (hx : x ≤ 1000000) :
  ∃ W1, (Instr.mapUpdate 80 (.map (some mb)) (.int .i64 (x : Int)) (.int .i64 ((ks.count x : Nat) + 1))).run Tryz.prog w = .ok () W1 ∧ w.grownBy W1 (some mb) ∧ HangAt W1 mb (x :: ks) := by
 obtain ⟨D, h1, h2⟩ := h
 have hc : ks.count x ≤ ks.length := List.count_le_length
 obtain ⟨w', u1, u2, u3⟩ := h1.update law_intK Tryz.underlying80 (by unfold maxLen; omega) (key_intK x hx) (plainElem_int Tryz.underlying3 (WalkArith.wf_i64 (n := ((ks.count x : Nat) : Int) + 1) (by omega)))
 refine ⟨w', u1, u3, _, by simpa using u2, fun y hy => ?_⟩
 by_cases e : y = x
 ·subst e
  rw [Maps.atKey_put_same h1.isMap (keyLitK _ hx)]; simp
 ·rw [Maps.atKey_put_other (fun e' => e (by simp only [Lit.int.injEq, true_and] at e'; omega)), h2 y hy, List.count_cons_of_ne (Ne.symm e)]
end Go.Proofs.YtlgejjmdanmglaaGreatDoor
