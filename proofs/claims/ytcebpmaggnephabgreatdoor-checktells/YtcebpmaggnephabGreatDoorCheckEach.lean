/-
  Our own: package check: closures that come to every expression, to every statement.
-/
import Derived.Test.YtcebpmaggnephabGreatDoorCheckClo
namespace Go.Proofs.YtcebpmaggnephabGreatDoor
open Go.RowKit Go.Maps

theorem onceL_app : ∀ (l r acc : List (List UInt8)), onceL acc (l ++ r) = onceL (onceL acc l) r
  | [], r, acc => rfl
  | x :: l, r, acc => by rw [List.cons_append, onceL, onceL, onceL_app l r]
theorem callsEs_snoc : ∀ (l : List Ex) (e : Ex), callsEs (l ++ [e]) = callsEs l ++ callsE e
  | [], e => by simp [callsEs]
  | x :: r, e => by rw [List.cons_append, callsEs, callsEs, callsEs_snoc r e]; simp
theorem callsS_snoc : ∀ (l : List Sm) (e : Sm), callsS (l ++ [e]) = callsS l ++ callsM e
  | [], e => by simp [callsS]
  | x :: r, e => by rw [List.cons_append, callsS, callsS, callsS_snoc r e]; simp
theorem varsS_snoc : ∀ (l : List Sm) (e : Sm), varsS (l ++ [e]) = varsS l ++ varsM e
  | [], e => by simp [varsS]
  | x :: r, e => by rw [List.cons_append, varsS, varsS, varsS_snoc r e]; simp
theorem nodesEs_app : ∀ (l r : List Ex), nodesEs (l ++ r) = nodesEs l + nodesEs r
  | [], r => by simp [nodesEs]
  | x :: l, r => by rw [List.cons_append, nodesEs, nodesEs, nodesEs_app l r]; omega
theorem nodesS_app : ∀ (l r : List Sm), nodesS (l ++ r) = nodesS l + nodesS r
  | [], r => by simp [nodesS]
  | x :: l, r => by rw [List.cons_append, nodesS, nodesS, nodesS_app l r]; omega
theorem nodesEs_take (l : List Ex) (q : Nat) : nodesEs (l.take q) ≤ nodesEs l := by
  have := nodesEs_app (l.take q) (l.drop q)
  rw [List.take_append_drop] at this
  omega
theorem nodesS_take (l : List Sm) (q : Nat) : nodesS (l.take q) ≤ nodesS l := by
  have := nodesS_app (l.take q) (l.drop q)
  rw [List.take_append_drop] at this
  omega
theorem box_noOwn {w : World} {lb : Nat} {acc : List (List UInt8)} (h : ListAt w lb acc) (o : Obj) : ¬ OwnB (w.alloc o) lb w.heap.size := fun ho => by
  have := (h.own (ho.same (Below.heap_alloc _ _ _ h.lt))).2
  omega
theorem alloc_noOwn {w : World} {lb b : Nat} {acc : List (List UInt8)} (h : ListAt w lb acc) (o : Obj) (hb : ¬ OwnB w lb b) : ¬ OwnB (w.alloc o) lb b := fun ho => hb (ho.same (Below.heap_alloc _ _ _ h.lt))
abbrev cloC (tb lb : Nat) : Value := .func (.func 47) #[] #[.pointer (some ⟨tb, 0, none⟩), .pointer (some ⟨lb, 0, none⟩)]
def EachE (e : Ex) : Prop := ∀ (w : World) (cs : List Value) (lb tb mb : Nat) (acc : List (List UInt8)) (N : Nat), CSt w lb tb mb acc N → XE (fun b => b < lb) w e cs → LowE e → N + nodesE e ≤ 4000 →
  Calls Tryz.prog 46 #[.agg cs.toArray, cloC tb lb] w fun ev w' => ev = .returned (.tuple #[]) ∧ LFr mb lb w w' ∧ CSt w' lb tb mb (onceL acc (callsE e)) (N + nodesE e)
set_option maxRecDepth 100000 in
set_option maxHeartbeats 2000000 in
theorem each_mk (k : List UInt8) (n : Int) (m : List UInt8) (ks : List Ex) (ih : ∀ e ∈ ks, EachE e) : EachE (.mk k n m ks) := by
  intro w cs lb tb mb acc N hC hX hL hN
  obtain ⟨v, xs, rfl, hr, hk⟩ := hX
  obtain ⟨ad, cap, rfl⟩ := hr.is
  obtain ⟨l1, l2, l3⟩ := hL
  rw [nodesE] at hN
  have l2' : (ks.length : Int) ≤ 8 := by omega
  obtain ⟨es, clock, hmb⟩ := hC.mlt
  have hml := heap_lt hmb
  have hlt := hC.list.lt
  have hlm := hC.ord.1
  have hbb := box_blk w #[.string ⟨k.toArray⟩, .int .i64 n, .string ⟨m.toArray⟩, .slice ad ks.length cap] 60
  have hnb := box_noOwn hC.list (.cells #[.string ⟨k.toArray⟩, .int .i64 n, .string ⟨m.toArray⟩, .slice ad ks.length cap] 60)
  have IH := hidX ih
  have R := hidX hr
  have KK := hidX hk
  have LL := hidX l3
  have HC := hidX hC
  have HNB := hidX hnb
  clear ih hr hk l3 hC hnb hmb
  go_enter Tryz.func46, Tryz.ntmps46
  go_wp2_with fail
  go_loopw [9] (fun vi wr => ∃ q : Nat, q ≤ ks.length ∧ vi = .int .i64 q ∧ LFr mb lb w wr ∧ w.heap.size < wr.heap.size ∧ wr.heap[w.heap.size]? = some (.cells #[.string ⟨k.toArray⟩, .int .i64 n, .string ⟨m.toArray⟩, .slice ad ks.length cap] 60 (0, 0)) ∧ Hid (¬ OwnB wr lb w.heap.size) ∧ Hid (CSt wr lb tb mb (onceL acc (callsEs (ks.take q))) (N + nodesEs (ks.take q)))) (fun vi _ => ks.length - (intOf vi).toNat)
  case atStart => exact ⟨0, Nat.zero_le _, rfl, LFr.of hbb hlt, by simp, heap_alloc_new _ _, HNB.out, HC.out.below hbb (by rw [List.take_zero, nodesEs]; omega)⟩
  case round =>
    obtain ⟨q, hq, rfl, hbl, hz, hbk, HNO, HCS⟩ := hrel
    have HBK := hidX hbk
    by_cases hltq : q < ks.length
    · have hltq' : (q : Int) < (ks.length : Int) := by omega
      obtain ⟨ka, e1, e2⟩ := KK.out.at hltq
      obtain ⟨ga, off, rfl, hga, g1⟩ := R.out.el 4 hltq e2
      have hx := IH.out _ (List.getElem_mem hltq)
      have hlx := LL.out.mem _ (List.getElem_mem hltq)
      have htk : ks.take (q + 1) = ks.take q ++ [ks[q]] := List.take_succ_eq_append_getElem hltq
      have hnt := nodesEs_take ks (q + 1)
      rw [htk, nodesEs_snoc] at hnt
      have hkw : KeepA (fun b => b < lb) w wr := hbl.keep HC.out.list (by omega)
      generalize ks[q] = x at e1 hx hlx htk hnt
      have hcall : ∀ X, Below wr.heap.size wr X → Calls Tryz.prog 46 #[.agg ka.toArray, cloC tb lb] X fun ev w' => ev = .returned (.tuple #[]) ∧ LFr mb lb X w' ∧ CSt w' lb tb mb (onceL (onceL acc (callsEs (ks.take q))) (callsE x)) (N + nodesEs (ks.take q) + nodesE x) := fun X hX =>
        hx X ka lb tb mb _ _ (HCS.out.below hX (Nat.le_refl _)) (XE.imp (fun _ h => h) (fun b (hb : b < lb) => (hX.block b (by have := HCS.out.list.lt; omega)).trans (hkw b hb)) _ _ e1) hlx (by omega)
      obtain ⟨xk, xn, xm, xks⟩ := x
      obtain ⟨ya, za, rfl, ra, _⟩ := e1
      obtain ⟨ad1, cap1, rfl⟩ := ra.is
      have hk2 : wr.heap[ga]? = w.heap[ga]? := hkw ga hga
      have a0 := (World.cell?_of_block (w := w) (a := ⟨ga, _, none⟩) hk2).trans (g1 0 _ (by decide) rfl)
      have a1 := (World.cell?_of_block (w := w) (a := ⟨ga, _, none⟩) hk2).trans (g1 1 _ (by decide) rfl)
      have a2 := (World.cell?_of_block (w := w) (a := ⟨ga, _, none⟩) hk2).trans (g1 2 _ (by decide) rfl)
      have a3 := (World.cell?_of_block (w := w) (a := ⟨ga, _, none⟩) hk2).trans (g1 3 _ (by decide) rfl)
      rw [Nat.add_zero] at a0
      simp only [← Nat.add_assoc] at a1 a2 a3
      have HCL := hidX hcall
      have HTK := hidX htk
      clear g1 e2 ra hcall hx hlx htk hbk hk2 hkw
      go_wp2_with fail
      refine (HCL.out _ (box_blk _ _ _)).mono ?_
      rintro e w2 ⟨rfl, hf2, hc2⟩
      have hbx := box_blk wr #[.string ⟨xk.toArray⟩, .int .i64 xn, .string ⟨xm.toArray⟩, .slice ad1 xks.length cap1] 60
      have hlr := HCS.out.list.lt
      have hf3 : LFr mb lb wr w2 := (LFr.of hbx hlr).trans hf2
      obtain ⟨g1, g2⟩ := hf3.block w.heap.size hz (by omega) (by omega) HNO.out
      have hz3 := hf3.size
      have HC2 := hidX hc2
      have HG2 := hidX g2
      have HG1 := hidX g1
      clear a0 a1 a2 a3 hc2 g1 g2 hf2
      go_wp2
      go_roundw
      case rel =>
        refine ⟨q + 1, by omega, by go_num, hbl.trans hf3, by omega, HG1.out.trans HBK.out, HG2.out, ?_⟩
        unfold Hid
        rw [HTK.out, callsEs_snoc, nodesEs_snoc, onceL_app, ← Nat.add_assoc]
        exact HC2.out
      case measure => simp [intOf]; omega
    · have hqn : q = ks.length := by omega
      subst hqn
      have hcs := HCS.out
      rw [List.take_length] at hcs
      have hcl := callClo_any k n m (.slice ad ks.length cap) (by omega) wr lb tb mb _ _ hcs (by omega)
      have HCL := hidX hcl
      have d0 : wr.cell? ⟨w.heap.size, 0, none⟩ = some (.string ⟨k.toArray⟩) := cell_of_blk hbk 0
      have d1 : wr.cell? ⟨w.heap.size, 1, none⟩ = some (.int .i64 n) := cell_of_blk hbk 1
      have d2 : wr.cell? ⟨w.heap.size, 2, none⟩ = some (.string ⟨m.toArray⟩) := cell_of_blk hbk 2
      have d3 : wr.cell? ⟨w.heap.size, 3, none⟩ = some (.slice ad ks.length cap) := cell_of_blk hbk 3
      clear hcl hcs hbk
      go_wp2_with fail
      refine HCL.out.mono ?_
      rintro e w2 ⟨rfl, hf2, hc2⟩
      go_wp2
      go_end0
      refine ⟨rfl, hbl.trans hf2, ?_⟩
      rw [callsE, nodesE, onceL_app]
      have e1 : onceL (onceL acc (callsEs ks)) (if k = kCall then [m] else []) = if k = kCall then (if m ∈ onceL acc (callsEs ks) then onceL acc (callsEs ks) else onceL acc (callsEs ks) ++ [m]) else onceL acc (callsEs ks) := by
        by_cases hk : k = kCall
        · rw [if_pos hk, if_pos hk, onceL, onceL]
        · rw [if_neg hk, if_neg hk, onceL]
      rw [e1, show N + (1 + nodesEs ks) = N + nodesEs ks + 1 by omega]
      exact hc2
mutual
theorem each_ex : ∀ e : Ex, EachE e
  | .mk k n m ks => each_mk k n m ks (each_exs ks)
theorem each_exs : ∀ l : List Ex, ∀ e ∈ l, EachE e
  | [], _, h => absurd h (by simp)
  | e :: r, x, h => by
    rcases List.mem_cons.1 h with h | h
    · rw [h]; exact each_ex e
    · exact each_exs r x h
end
end Go.Proofs.YtcebpmaggnephabGreatDoor
