/- Our own: texts joined: GrForget, RwValue. -/
import Derived.Test.YtlgejjmdanmglaaGreatDoorVHangQ
import Derived.Test.YtlgejjmdanmglaaGreatDoorVFitAll
namespace Go.Proofs.YtlgejjmdanmglaaGreatDoor
open Go.RowKit
abbrev rwV (nm : List UInt8) (P : Int) (nv argv gotv hasv sumv knv : Value) : List Value := [.string ⟨nm.toArray⟩, .int .i64 P, nv, argv, gotv, hasv, sumv, knv]
theorem bset (l : List Bool) (i : Nat) (b : Bool) : (boolsG l).toArray.setIfInBounds i (.bool b) = (boolsG (l.set i b)).toArray := by simp [boolsG, List.map_set]
set_option maxRecDepth 100000 in
set_option maxHeartbeats 1000000 in
theorem forget_any {w : World} {wb kb kc : Nat} {nm : List UInt8} {P : Int} {nv argv gotv hasv sumv : Value} (kn : List Bool) (hb : w.heap[wb]? = some (.cells (rwV nm P nv argv gotv hasv sumv (.slice (some ⟨kb, 0, none⟩) kn.length kc)).toArray 84 (0, 0))) (hk : w.heap[kb]? = some (.cells (boolsG kn).toArray 4 (0, 0))) (hne : kb ≠ wb) (hl : kn.length ≤ 1000) :
  Calls Tryz.prog 40 #[.pointer (some ⟨wb, 0, none⟩)] w fun e w' => e = .returned (.tuple #[]) ∧ But kb w w' ∧ w'.heap[kb]? = some (.cells (boolsG (List.replicate kn.length false)).toArray 4 (0, 0)) := by
 have hl' : (kn.length : Int) ≤ 1000 := by omega
 have HB := hidX hb
 have HK := hidX hk
 clear hb hk
 go_enter Tryz.func40, Tryz.ntmps40
 go_wp2_with fail
 go_loopw [2] (fun vi wr => ∃ (q : Nat), q ≤ kn.length ∧ vi = .int .i64 q ∧ Hid (But kb w wr) ∧ Hid (wr.heap[kb]? = some (.cells (boolsG (List.replicate q false ++ kn.drop q)).toArray 4 (0, 0)))) (fun vi _ => kn.length - (intOf vi).toNat)
 case atStart => exact ⟨0, Nat.zero_le _, rfl, But.refl _ _, by unfold Hid; simpa using HK.out⟩
 case round =>
  obtain ⟨q, hq, rfl, HBQ, HKQ⟩ := hrel
  have hwb := (HBQ.out.block wb (heap_lt HB.out) (fun e => hne e.symm)).trans HB.out
  have c7 : wr.cell? ⟨wb, 7, none⟩ = some (.slice (some ⟨kb, 0, none⟩) kn.length kc) := cell_of_blk hwb 7
  by_cases hlt : q < kn.length
  ·have hlt' : (q : Int) < (kn.length : Int) := by omega
   have cq : wr.cell? ⟨kb, q, none⟩ = some (.bool kn[q]) := by rw [cell_of_blk HKQ.out q, List.getElem?_toArray]; unfold boolsG; rw [List.getElem?_map, List.getElem?_append_right (by simp)]; simp [hlt]
   have fq := free_of_blk HKQ.out q
   have HFN := hidX (show But kb w (wr.setCell ⟨kb, q, none⟩ (.bool false)) ∧ (wr.setCell ⟨kb, q, none⟩ (.bool false)).heap[kb]? = some (.cells (boolsG (List.replicate (q + 1) false ++ kn.drop (q + 1))).toArray 4 (0, 0)) from by
    refine ⟨HBQ.out.set q _, ?_⟩
    have hs := blk_setCell HKQ.out q (.bool false)
    rw [bset] at hs
    rw [hs]
    have : (List.replicate q false ++ kn.drop q).set q false = List.replicate (q + 1) false ++ kn.drop (q + 1) := by
     rw [List.set_append_right _ _ (by simp), List.length_replicate, Nat.sub_self, List.drop_eq_getElem_cons hlt, List.set_cons_zero, List.replicate_succ', List.append_assoc]
     rfl
    rw [this])
   generalize kn[q] = bq at *
   clear hwb HKQ HBQ
   go_wp2
   go_roundw
   case rel => exact ⟨q + 1, by omega, by go_num, HFN.out.1, HFN.out.2⟩
   case measure => simp [intOf]; omega
  ·have hqn : q = kn.length := by omega
   subst hqn
   clear hwb
   go_wp2
   go_end0
   exact ⟨rfl, HBQ.out, by have h := HKQ.out; simpa using h⟩
end Go.Proofs.YtlgejjmdanmglaaGreatDoor
namespace Go.Proofs.YtlgejjmdanmglaaGreatDoor
open Go.RowKit
abbrev rowV (b n : Nat) : Value := .slice (some ⟨b, 0, none⟩) n n
structure RwJ (A : Nat → Prop) (B : Nat) (X : World) (wb ga ha sa ka : Nat) (nm : List UInt8) (P : Int) (nv argv : Value) (L : List Nd) (args : List Int) (got : Nat → Option Int) : Prop where
 blk : X.heap[wb]? = some (.cells (rwV nm P nv argv (rowV ga L.length) (rowV ha L.length) (rowV sa L.length) (rowV ka L.length)).toArray 84 (0, 0))
 gr : XG false A X nv L
 arg : XRow A X argv args.length (intsG args)
 gots : ∃ (gs : List Int) (hs : List Bool), X.heap[ga]? = some (.cells (intsG gs).toArray 3 (0, 0)) ∧ X.heap[ha]? = some (.cells (boolsG hs).toArray 4 (0, 0)) ∧ gs.length = L.length ∧ hs.length = L.length ∧ ∀ i, i < L.length → keeps L i → got i = if hs.getD i false then some (gs.getD i 0) else none
 sums : ∃ (ss : List Int) (ks : List Bool), X.heap[sa]? = some (.cells (intsG ss).toArray 3 (0, 0)) ∧ X.heap[ka]? = some (.cells (boolsG ks).toArray 4 (0, 0)) ∧ ss.length = L.length ∧ ks.length = L.length ∧ ∀ i, i < L.length → ((ndAt L i).kind = gOne ∨ (ndAt L i).kind = gTwo) → ks.getD i false = true → valOf L args got i = some (ss.getD i 0)
 ab : ∀ b, A b → b < B ∧ b ≠ wb ∧ b ≠ ga ∧ b ≠ ha ∧ b ≠ sa ∧ b ≠ ka
 lo : wb < B ∧ ga < B ∧ ha < B ∧ sa < B ∧ ka < B ∧ wb ≠ ga ∧ wb ≠ ha ∧ wb ≠ sa ∧ wb ≠ ka ∧ ga ≠ ha ∧ ga ≠ sa ∧ ga ≠ ka ∧ ha ≠ sa ∧ ha ≠ ka ∧ sa ≠ ka
theorem bools_at {l : List Bool} {i : Nat} (h : i < l.length) : (boolsG l)[i]? = some (.bool (l.getD i false)) := by simp [boolsG, h]
theorem ints_at {l : List Int} {i : Nat} (h : i < l.length) : (intsG l)[i]? = some (.int .i64 (l.getD i 0)) := by simp [intsG, h]
section
variable {A : Nat → Prop} {B : Nat} {X Y : World} {wb ga ha sa ka : Nat} {nm : List UInt8} {P Q : Int} {nv argv : Value} {L : List Nd} {args : List Int} {got : Nat → Option Int}
theorem RwJ.keep (h : RwJ A B X wb ga ha sa ka nm P nv argv L args got) (hb : ∀ k, k < B → Y.heap[k]? = X.heap[k]?) : RwJ A B Y wb ga ha sa ka nm P nv argv L args got := by
 have hl := h.lo
 obtain ⟨gs, hs, g1, g2, g3⟩ := h.gots
 obtain ⟨ss, ks, s1, s2, s3⟩ := h.sums
 exact ⟨(hb _ (by omega)).trans h.blk, h.gr.imp (fun _ h => h) (fun b hb' => hb b (h.ab b hb').1), h.arg.imp (fun _ h => h) (fun b hb' => hb b (h.ab b hb').1), ⟨gs, hs, (hb _ (by omega)).trans g1, (hb _ (by omega)).trans g2, g3⟩, ⟨ss, ks, (hb _ (by omega)).trans s1, (hb _ (by omega)).trans s2, s3⟩, h.ab, h.lo⟩
theorem RwJ.below (h : RwJ A B X wb ga ha sa ka nm P nv argv L args got) (hb : Below B X Y) : RwJ A B Y wb ga ha sa ka nm P nv argv L args got := h.keep (fun k hk => hb.block k hk)
theorem RwJ.put (h : RwJ A B X wb ga ha sa ka nm P nv argv L args got) {i : Nat} {v : Int} (hv : valOf L args got i = some v) : RwJ A B ((X.setCell ⟨sa, i, none⟩ (.int .i64 v)).setCell ⟨ka, i, none⟩ (.bool true)) wb ga ha sa ka nm P nv argv L args got ∧ ButP (fun k => k = sa ∨ k = ka) X ((X.setCell ⟨sa, i, none⟩ (.int .i64 v)).setCell ⟨ka, i, none⟩ (.bool true)) := by
 have hl := h.lo
 obtain ⟨gs, hs, g1, g2, g3⟩ := h.gots
 obtain ⟨ss, ks, s1, s2, s3, s4, s5⟩ := h.sums
 have hf : ∀ b, b ≠ sa → b ≠ ka → ((X.setCell ⟨sa, i, none⟩ (.int .i64 v)).setCell ⟨ka, i, none⟩ (.bool true)).heap[b]? = X.heap[b]? := fun b h1 h2 => by rw [Below.heap_setCell _ _ _ _ h2, Below.heap_setCell _ _ _ _ h1]
 have e1 : ((X.setCell ⟨sa, i, none⟩ (.int .i64 v)).setCell ⟨ka, i, none⟩ (.bool true)).heap[sa]? = some (.cells (intsG (ss.set i v)).toArray 3 (0, 0)) := by
  rw [Below.heap_setCell _ _ _ _ (by show sa ≠ ka; omega), blk_setCell s1, List.setIfInBounds_toArray, ints_set]
 have e2 : ((X.setCell ⟨sa, i, none⟩ (.int .i64 v)).setCell ⟨ka, i, none⟩ (.bool true)).heap[ka]? = some (.cells (boolsG (ks.set i true)).toArray 4 (0, 0)) := by
  rw [blk_setCell ((Below.heap_setCell _ _ _ _ (by show ka ≠ sa; omega)).trans s2), bset]
 refine ⟨⟨(hf _ (by omega) (by omega)).trans h.blk, h.gr.imp (fun _ h => h) (fun b hb' => hf b (h.ab b hb').2.2.2.2.1 (h.ab b hb').2.2.2.2.2), h.arg.imp (fun _ h => h) (fun b hb' => hf b (h.ab b hb').2.2.2.2.1 (h.ab b hb').2.2.2.2.2), ⟨gs, hs, (hf _ (by omega) (by omega)).trans g1, (hf _ (by omega) (by omega)).trans g2, g3⟩, ⟨_, _, e1, e2, by simpa using s3, by simpa using s4, fun j hj hk hkj => ?_⟩, h.ab, h.lo⟩, ⟨rfl, rfl, rfl, by simp [World.setCell], fun k _ hS => hf k (fun e => hS (Or.inl e)) (fun e => hS (Or.inr e))⟩⟩
 by_cases e : j = i
 ·subst e
  rw [hv]
  simp [show j < ss.length by omega]
 ·have q1 : (ss.set i v).getD j 0 = ss.getD j 0 := by simp [Ne.symm e]
  have q2 : (ks.set i true).getD j false = ks.getD j false := by simp [Ne.symm e]
  rw [q2] at hkj
  rw [q1]
  exact s5 j hj hk hkj
def ValTo (A : Nat → Prop) (B : Nat) (X : World) (wb ga ha sa ka : Nat) (nm : List UInt8) (P : Int) (nv argv : Value) (L : List Nd) (args : List Int) (got : Nat → Option Int) (r : Option Int) (e : Ending) (w' : World) : Prop :=
 RwJ A B w' wb ga ha sa ka nm P nv argv L args got ∧ ButP (fun k => k = sa ∨ k = ka) X w' ∧ ∃ v, e = .returned (.tuple #[.int .i64 v, .bool r.isSome]) ∧ ∀ x, r = some x → v = x
set_option maxRecDepth 100000 in
set_option maxHeartbeats 4000000 in
theorem value_any (hW : WellG onesE twosE Q L) (hLow : ∀ n ∈ L, LowN n) (hal : (args.length : Int) = Q) (hag : ∀ v ∈ args, In64 v) (hg : Got64 got) : ∀ (m i : Nat), rkM L i < m → i < L.length → valueK (ndAt L i).kind → ∀ X, RwJ A B X wb ga ha sa ka nm P nv argv L args got → B ≤ X.heap.size →
  Calls Tryz.prog 39 #[.pointer (some ⟨wb, 0, none⟩), .int .i64 (i : Int)] X (ValTo A B X wb ga ha sa ka nm P nv argv L args got (valOf L args got i))
 | 0, _, h => absurd h (by omega)
 | m + 1, i, hm => by
  intro hi hvk X hJ hB
  have IH : ∀ j, Rk L i j → ∀ X, RwJ A B X wb ga ha sa ka nm P nv argv L args got → B ≤ X.heap.size →
    Calls Tryz.prog 39 #[.pointer (some ⟨wb, 0, none⟩), .int .i64 (j : Int)] X (ValTo A B X wb ga ha sa ka nm P nv argv L args got (valOf L args got j)) := fun j hj => by
   have h1 := rk_less hW hj
   obtain ⟨h2, h3⟩ := rk_value hW hj
   exact value_any hW hLow hal hag hg m j (by omega) h2 h3
  have hL := hW.len.2
  have hal1 : args.length ≤ 1000 := by have := hW.par; omega
  have hnd : ndAt L (i : Int) = L[i] := by simp [ndAt, hi]
  have hV := valOf_is hW args got i hi
  obtain ⟨ad, cap, rfl⟩ := hJ.gr.is
  obtain ⟨aad, acap, rfl⟩ := hJ.arg.is
  obtain ⟨g, off, ad1, cap1, e1, hgA, _, hr, k0, k1, k2, k3⟩ := hJ.gr.node hi
  subst e1
  obtain ⟨gs, hs, g1, g2, g3, g4, g5⟩ := hJ.gots
  obtain ⟨ss, ks, s1, s2, s3, s4, s5⟩ := hJ.sums
  have hlo := hJ.lo
  have c2 : X.cell? ⟨wb, 2, none⟩ = some (.slice (some ⟨g, off, none⟩) L.length cap) := cell_of_blk hJ.blk 2
  have c3 : X.cell? ⟨wb, 3, none⟩ = some (.slice aad args.length acap) := cell_of_blk hJ.blk 3
  have c4 : X.cell? ⟨wb, 4, none⟩ = some (rowV ga L.length) := cell_of_blk hJ.blk 4
  have c5 : X.cell? ⟨wb, 5, none⟩ = some (rowV ha L.length) := cell_of_blk hJ.blk 5
  have c6 : X.cell? ⟨wb, 6, none⟩ = some (rowV sa L.length) := cell_of_blk hJ.blk 6
  have c7 : X.cell? ⟨wb, 7, none⟩ = some (rowV ka L.length) := cell_of_blk hJ.blk 7
  have cg : X.cell? ⟨ga, i, none⟩ = some (.int .i64 (gs.getD i 0)) := by rw [cell_of_blk g1, List.getElem?_toArray, ints_at (by omega)]
  have ch : X.cell? ⟨ha, i, none⟩ = some (.bool (hs.getD i false)) := by rw [cell_of_blk g2, List.getElem?_toArray, bools_at (by omega)]
  have cs : X.cell? ⟨sa, i, none⟩ = some (.int .i64 (ss.getD i 0)) := by rw [cell_of_blk s1, List.getElem?_toArray, ints_at (by omega)]
  have ck : X.cell? ⟨ka, i, none⟩ = some (.bool (ks.getD i false)) := by rw [cell_of_blk s2, List.getElem?_toArray, bools_at (by omega)]
  have hwl := heap_lt hJ.blk
  have hgl : g < X.heap.size := by have := (hJ.ab g hgA).1; omega
  have hgal : ga < X.heap.size := by omega
  have hhal : ha < X.heap.size := by omega
  have hsal : sa < X.heap.size := by omega
  have hkal : ka < X.heap.size := by omega
  have hi' : (i : Int) < (L.length : Int) := by omega
  have hL' : (L.length : Int) ≤ 1000 := by omega
  obtain ⟨X1, hX1⟩ : ∃ X1, X1 = X.alloc (.cells #[.string ⟨L[i].kind.toArray⟩, .slice ad1 L[i].ins.length cap1, .int .i64 L[i].num, .string ⟨L[i].name.toArray⟩] 54) := ⟨_, rfl⟩
  have hb1 : Below X.heap.size X X1 := by rw [hX1]; (repeat (first | exact Below.refl _ _ | assumption | refine Below.drew ?_ | refine bT ?_ _ | refine bS ?_ _ | refine bA ?_ _))
  have hx1 : X1.heap[X.heap.size]? = some (.cells #[.string ⟨L[i].kind.toArray⟩, .slice ad1 L[i].ins.length cap1, .int .i64 L[i].num, .string ⟨L[i].name.toArray⟩] 54 (0, 0)) := by rw [hX1]; exact heap_alloc_new _ _
  have hend : ∀ Y, Below X1.heap.size X1 Y → RwJ A B Y wb ga ha sa ka nm P (.slice (some ⟨g, off, none⟩) L.length cap) (.slice aad args.length acap) L args got ∧ ButP (fun k => k = sa ∨ k = ka) X Y := fun Y hY => ⟨hJ.below ((bl_trans hb1 hb1.size hY).mono hB), ButP.of (bl_trans hb1 hb1.size hY)⟩
  have HEND := hidX hend
  have HB1 := hidX hb1
  by_cases cp : (ndAt L i).kind = gParam
  ·have hpar := (hW.node.at (ndAt_ex hi)).par cp
   obtain ⟨p, hp⟩ : ∃ p : Nat, (ndAt L i).num = (p : Int) := ⟨(ndAt L i).num.toNat, by omega⟩
   have hpl : p < args.length := by omega
   have hr1 : valOf L args got i = some (args.getD p 0) := by
    rw [hV]; unfold stepV
    rw [if_pos cp, hp, Int.toNat_natCast]
   rw [hr1]
   obtain ⟨gq, offq, e2, hgq, kq⟩ := hJ.arg.int hpl
   subst e2
   have kq' : X.cell? ⟨gq, offq + p, none⟩ = some (.int .i64 (args.getD p 0)) := by rw [kq]; simp [hpl]
   have hgql : gq < X.heap.size := by have := (hJ.ab _ hgq).1; omega
   rw [hnd] at cp hp
   rw [hp] at k2
   have t1 : (L[i].kind == [112, 97, 114, 97, 109]) = true := by rw [cp]; decide
   have hpl' : (p : Int) < (args.length : Int) := by omega
   have hal' : (args.length : Int) ≤ 1000 := by omega
   have q3 := (hb1.cell (p := ⟨wb, 3, none⟩) hwl).trans c3
   have q2 : X1.cell? ⟨X.heap.size, 2, none⟩ = some (.int .i64 (p : Int)) := by rw [cell_of_blk hx1 2, ← hp]; rfl
   have q1 := (hb1.cell (p := ⟨gq, _, none⟩) hgql).trans kq'
   rw [hp] at hX1
   generalize args.getD p 0 = x at *
   generalize L[i] = n at *
   clear hJ hr g1 g2 g3 g4 g5 s1 s2 s3 s4 s5 hV cp hp hr1 kq hx1 hb1 hend hnd hvk hpar IH c4 c5 c6 c7 cg ch cs ck hlo
   go_enter Tryz.func39, Tryz.ntmps39
   go_wp2_with fail
   rw [← hX1]
   clear hX1 k0 k1 k2 k3 c2 c3 kq'
   go_quiet (fail)
   go_wp2
   go_ret2
   exact ⟨(HEND.out (X1.drewN nq) (by (repeat (first | exact Below.refl _ _ | assumption | refine Below.drew ?_ | refine bT ?_ _ | refine bS ?_ _ | refine bA ?_ _)))).1, (HEND.out (X1.drewN nq) (by (repeat (first | exact Below.refl _ _ | assumption | refine Below.drew ?_ | refine bT ?_ _ | refine bS ?_ _ | refine bA ?_ _)))).2, _, rfl, fun y h => by injection h⟩
  by_cases cc : (ndAt L i).kind = gConst
  ·have hr1 : valOf L args got i = some L[i].num := by
    rw [hV]; unfold stepV
    rw [if_neg cp, if_pos cc, hnd]
   rw [hr1]
   rw [hnd] at cc cp
   have t1 : (L[i].kind == [112, 97, 114, 97, 109]) = false := ne_lit cp
   have t2 : (L[i].kind == [99, 111, 110, 115, 116]) = true := by rw [cc]; decide
   have q2 : X1.cell? ⟨X.heap.size, 2, none⟩ = some (.int .i64 L[i].num) := cell_of_blk hx1 2
   have q0 : X1.cell? ⟨X.heap.size, 0, none⟩ = some (.string ⟨L[i].kind.toArray⟩) := cell_of_blk hx1 0
   generalize L[i] = n at *
   clear hJ hr g1 g2 g3 g4 g5 s1 s2 s3 s4 s5 hV cp cc hr1 hx1 hb1 hend hnd hvk IH c3 c4 c5 c6 c7 cg ch cs ck hlo
   go_enter Tryz.func39, Tryz.ntmps39
   go_wp2_with fail
   rw [← hX1]
   clear hX1 k0 k1 k2 k3 c2
   go_wp2
   go_ret2
   exact ⟨(HEND.out X1 (by (repeat (first | exact Below.refl _ _ | assumption | refine Below.drew ?_ | refine bT ?_ _ | refine bS ?_ _ | refine bA ?_ _)))).1, (HEND.out X1 (by (repeat (first | exact Below.refl _ _ | assumption | refine Below.drew ?_ | refine bT ?_ _ | refine bS ?_ _ | refine bA ?_ _)))).2, _, rfl, fun y h => by injection h⟩
  by_cases ckp : keeps L i
  ·have hr1 : valOf L args got i = if hs.getD i false then some (gs.getD i 0) else none := by
    rw [hV, ← g5 i hi ckp]; unfold stepV
    rw [if_neg cp, if_neg cc, if_pos (show (ndAt L i).kind = gPhi ∨ (ndAt L i).kind = gCall from ckp)]
   rw [hr1]
   unfold keeps at ckp
   rw [hnd] at cc cp ckp
   have t1 : (L[i].kind == [112, 97, 114, 97, 109]) = false := ne_lit cp
   have t2 : (L[i].kind == [99, 111, 110, 115, 116]) = false := ne_lit cc
   have t3 : ((L[i].kind == [112, 104, 105]) = true ∨ ((L[i].kind == [112, 104, 105]) = false ∧ (L[i].kind == [99, 97, 108, 108]) = true)) := by
    rcases ckp with h | h
    ·left; rw [h]; decide
    ·right; rw [h]; decide
   have q0 : X1.cell? ⟨X.heap.size, 0, none⟩ = some (.string ⟨L[i].kind.toArray⟩) := cell_of_blk hx1 0
   have q4 := (hb1.cell (p := ⟨wb, 4, none⟩) hwl).trans c4
   have q5 := (hb1.cell (p := ⟨wb, 5, none⟩) hwl).trans c5
   have qg := (hb1.cell (p := ⟨ga, i, none⟩) hgal).trans cg
   have qh := (hb1.cell (p := ⟨ha, i, none⟩) hhal).trans ch
   generalize hs.getD i false = bh at *
   generalize gs.getD i 0 = vg at *
   have HR := hidX (show (if bh = true then some vg else none).isSome = bh ∧ ∀ y, (if bh = true then some vg else none) = some y → vg = y from by
    cases bh
    ·exact ⟨rfl, fun y h => by cases h⟩
    ·exact ⟨rfl, fun y h => by injection h⟩)
   generalize (if bh = true then some vg else none : Option Int) = rr at *
   generalize L[i] = n at *
   clear hJ hr g1 g2 g3 g4 g5 s1 s2 s3 s4 s5 hV cp cc ckp hr1 hx1 hb1 hend hnd hvk IH c3 c4 c5 c6 c7 cg ch cs ck hlo
   rcases t3 with t3 | ⟨t3, t4⟩
   all_goals (
    go_enter Tryz.func39, Tryz.ntmps39
    go_wp2_with fail
    rw [← hX1]
    clear hX1 k0 k1 k2 k3 c2
    go_quiet (fail)
    go_wp2
    go_ret2
    exact ⟨(HEND.out (X1.drewN nq) (by (repeat (first | exact Below.refl _ _ | assumption | refine Below.drew ?_ | refine bT ?_ _ | refine bS ?_ _ | refine bA ?_ _)))).1, (HEND.out (X1.drewN nq) (by (repeat (first | exact Below.refl _ _ | assumption | refine Below.drew ?_ | refine bT ?_ _ | refine bS ?_ _ | refine bA ?_ _)))).2, vg, (by rw [HR.out.1]; rfl), fun y h => HR.out.2 y h⟩)
  have hsum : (ndAt L i).kind = gOne ∨ (ndAt L i).kind = gTwo := by
   unfold keeps at ckp
   rcases hvk with h | h | h | h | h | h
   ·exact absurd h cp
   ·exact absurd h cc
   ·exact Or.inl h
   ·exact Or.inr h
   ·exact absurd (Or.inl h) ckp
   ·exact absurd (Or.inr h) ckp
  have hrk : reck L i = L[i].ins := by unfold reck; rw [if_pos hsum, hnd]
  have hbd := reck_bnd hW i
  rw [hrk] at hbd
  have hRk : ∀ j : Nat, (j : Int) ∈ L[i].ins → Rk L i j := fun j hj => by unfold Rk; rw [hrk]; exact hj
  have hres : valOf L args got i = (askX (valOf L args got) (natL L[i].ins)).map fun vs => if L[i].kind = gOne then oneV L[i].name (vs.getD 0 0) else twoV L[i].name (vs.getD 0 0) (vs.getD 1 0) := by
   rw [hV]
   unfold stepV
   rw [if_neg cp, if_neg cc, if_neg (show ¬ ((ndAt L i).kind = gPhi ∨ (ndAt L i).kind = gCall) from ckp), hrk, hnd]
  have hWn := hW.node.at (ndAt_ex hi)
  have hknown := s5 i hi hsum
  rw [hnd] at hWn hsum cp cc
  obtain ⟨_, _, _, f4, f5, _⟩ := fits_len hWn.fits
  have hop := hWn.op
  unfold opB at hop
  have hl1 : 1 ≤ L[i].ins.length := by
   rcases hsum with h | h
   ·have := f4 h; omega
   ·have := f5 h; omega
  obtain ⟨gr, offr, er, hgr, kr0⟩ := first_int hr hl1
  subst er
  have hgrl : gr < X.heap.size := by have := (hJ.ab _ hgr).1; omega
  have hm0 : L[i].ins.getD 0 0 ∈ L[i].ins := by
   rw [List.getD_eq_getElem?_getD, List.getElem?_eq_getElem (by omega), Option.getD_some]
   exact List.getElem_mem _
  obtain ⟨i0, hi0⟩ : ∃ i0 : Nat, L[i].ins.getD 0 0 = (i0 : Int) := ⟨(L[i].ins.getD 0 0).toNat, by have := hbd _ hm0; omega⟩
  rw [hi0] at kr0 hm0
  have t1 : (L[i].kind == [112, 97, 114, 97, 109]) = false := ne_lit cp
  have t2 : (L[i].kind == [99, 111, 110, 115, 116]) = false := ne_lit cc
  have t3 : (L[i].kind == [112, 104, 105]) = false := by rcases hsum with h | h <;> rw [h] <;> decide
  have t4 : (L[i].kind == [99, 97, 108, 108]) = false := by rcases hsum with h | h <;> rw [h] <;> decide
  have q0 : X1.cell? ⟨X.heap.size, 0, none⟩ = some (.string ⟨L[i].kind.toArray⟩) := cell_of_blk hx1 0
  have q1 : X1.cell? ⟨X.heap.size, 1, none⟩ = some (.slice (some ⟨gr, offr, none⟩) L[i].ins.length cap1) := cell_of_blk hx1 1
  have q6 := (hb1.cell (p := ⟨wb, 6, none⟩) hwl).trans c6
  have q7 := (hb1.cell (p := ⟨wb, 7, none⟩) hwl).trans c7
  have qs := (hb1.cell (p := ⟨sa, i, none⟩) hsal).trans cs
  have qk := (hb1.cell (p := ⟨ka, i, none⟩) hkal).trans ck
  have qr := (hb1.cell (p := ⟨gr, _, none⟩) hgrl).trans kr0
  have hB1 : B ≤ X1.heap.size := by have := hb1.size; omega
  have hJ1 := hJ.below (hb1.mono hB)
  have HX1 := hidX hx1
  have HKN := hidX hknown
  have HL1 : (1 : Int) ≤ (L[i].ins.length : Int) := by omega
  generalize hbk : ks.getD i false = bk at *
  generalize hvs : ss.getD i 0 = sv at *
  cases bk with
  | true =>
   have hr1 : valOf L args got i = some sv := HKN.out rfl
   rw [hr1]
   generalize L[i] = n at *
   clear hJ hJ1 hr g1 g2 g3 g4 g5 s1 s2 s3 s4 s5 hV cp cc ckp hr1 hx1 hb1 hend hnd hvk c3 c4 c5 cg ch hlo IH hRk hres hWn hknown hop f4 f5 hsum hbd hrk hbk hvs hl1 hm0 hi0
   go_enter Tryz.func39, Tryz.ntmps39
   go_wp2
   rw [← hX1]
   go_ret2
   exact ⟨(HEND.out X1 (by (repeat (first | exact Below.refl _ _ | assumption | refine Below.drew ?_ | refine bT ?_ _ | refine bS ?_ _ | refine bA ?_ _)))).1, (HEND.out X1 (by (repeat (first | exact Below.refl _ _ | assumption | refine Below.drew ?_ | refine bT ?_ _ | refine bS ?_ _ | refine bA ?_ _)))).2, _, rfl, fun y h => by injection h⟩
  | false =>
   have HC1 := hidX (IH i0 (hRk i0 hm0) X1 hJ1 hB1)
   have hax0 : valOf L args got i0 = none → valOf L args got i = none := fun h => by
    rw [hres, askX_none (k := 0) (by rw [natL_len]; omega) (by
     have : (natL L[i].ins)[0]'(by rw [natL_len]; omega) = i0 := by
      simp only [natL, List.getElem_map]
      have h0 : L[i].ins[0]'(by omega) = (i0 : Int) := by
       rw [← hi0, List.getD_eq_getElem?_getD, List.getElem?_eq_getElem (by omega), Option.getD_some]
      rw [h0, Int.toNat_natCast]
     rw [this]; exact h)]
    rfl
   have HAX0 := hidX hax0
   have HF45 := hidX (show (L[i].kind = gOne → L[i].ins.length = 1) ∧ (L[i].kind = gTwo → L[i].ins.length = 2) from ⟨f4, f5⟩)
   by_cases ck1 : L[i].kind = gOne
   ·have hone : L[i].ins = [(i0 : Int)] := by
     have h1 := f4 ck1
     match hins : L[i].ins, h1, hi0 with
     | [x], _, h2 => simp at h2; rw [h2]
    have hr1 : ∀ x, valOf L args got i0 = some x → valOf L args got i = some (oneV L[i].name x) := fun x hx => by
     rw [hres, hone, show natL [(i0 : Int)] = [i0] from by simp [natL], show askX (valOf L args got) [i0] = some [x] from by unfold askX; rw [hx]; rfl]
     simp only [Option.map_some]
     rw [if_pos ck1]; rfl
    have hnm : L[i].name ∈ onesE := by rw [if_pos ck1] at hop; exact of_decide_eq_true hop
    have t5 : (L[i].kind == [111, 110, 101]) = true := by rw [ck1]; decide
    have HR1 := hidX hr1
    have HLAW := hidX (fun x Y => rone_val L[i].name hnm x Y)
    generalize hri : valOf L args got i = ri at *
    have HRI := hidX hri
    generalize L[i] = n at *
    clear hJ hJ1 hr g1 g2 g3 g4 g5 s1 s2 s3 s4 s5 hV cp cc ckp hr1 hx1 hb1 hend hnd hvk c3 c4 c5 cg ch IH hRk hres hWn hknown hop f4 f5 hsum hbd hrk hbk hvs hl1 hm0 hi0 hax0 hone hnm ck1 hri
    go_enter Tryz.func39, Tryz.ntmps39
    go_wp2_with fail
    rw [← hX1]
    clear hX1 k0 k1 k2 k3 c2 c6 c7 cs ck
    refine HC1.out.mono ?_
    rintro e W4 ⟨hJ4, hb4, v0, rfl, hv0⟩
    have hn4 := (hb4.block _ (heap_lt HX1.out) (by omega)).trans HX1.out
    have m0 : W4.cell? ⟨X.heap.size, 0, none⟩ = some (.string ⟨n.kind.toArray⟩) := cell_of_blk hn4 0
    have m3 : W4.cell? ⟨X.heap.size, 3, none⟩ = some (.string ⟨n.name.toArray⟩) := cell_of_blk hn4 3
    have HBX := hidX ((ButP.of (S := fun k => k = sa ∨ k = ka) HB1.out).trans hb4 (fun _ h => Or.inl h))
    cases hr0 : valOf L args got i0 with
    | none =>
     have hri4 := HAX0.out hr0
     subst hri4
     have HJ4 := hidX hJ4
     simp only [hr0, Option.isSome_none] at *
     clear hJ4 hb4 hv0 hn4
     go_wp2
     go_ret2
     exact ⟨HJ4.out, HBX.out, _, rfl, fun y h => by cases h⟩
    | some x =>
     have hri4 := HR1.out x hr0
     have hvx := hv0 x hr0
     subst hvx
     have hput := hJ4.put (i := i) (HRI.out.trans hri4)
     obtain ⟨ss4, ks4, u1, u2, u3, u4, _⟩ := hJ4.sums
     have p6 : W4.cell? ⟨wb, 6, none⟩ = some (rowV sa L.length) := cell_of_blk hJ4.blk 6
     have p7 : W4.cell? ⟨wb, 7, none⟩ = some (rowV ka L.length) := cell_of_blk hJ4.blk 7
     obtain ⟨z0, p8⟩ : ∃ z, W4.cell? ⟨sa, i, none⟩ = some z := ⟨_, by rw [cell_of_blk u1, List.getElem?_toArray, ints_at (by omega)]⟩
     have p8f := free_of_blk u1 i
     have u2' : (W4.setCell ⟨sa, i, none⟩ (.int .i64 (oneV n.name v0))).heap[ka]? = _ := (Below.heap_setCell _ _ _ _ (by show ka ≠ sa; omega)).trans u2
     obtain ⟨z1, p9⟩ : ∃ z, (W4.setCell ⟨sa, i, none⟩ (.int .i64 (oneV n.name v0))).cell? ⟨ka, i, none⟩ = some z := ⟨_, by rw [cell_of_blk u2', List.getElem?_toArray, bools_at (by omega)]⟩
     have p9f := free_of_blk u2' i
     have p7' : (W4.setCell ⟨sa, i, none⟩ (.int .i64 (oneV n.name v0))).cell? ⟨wb, 7, none⟩ = some (rowV ka L.length) := (World.cell?_of_block (a := ⟨wb, 7, none⟩) (Below.heap_setCell _ _ _ _ (by show wb ≠ sa; omega))).trans p7
     have HPUT := hidX hput
     have HL := hidX (HLAW.out v0 W4)
     subst hri4
     simp only [hr0, Option.isSome_some] at *
     generalize oneV n.name v0 = num at *
     clear hJ4 hb4 hv0 hn4 u1 u2 u3 u4 u2' hput p7
     go_wp2_with fail
     refine HL.out.mono ?_
     rintro e W5 ⟨rfl, hw5⟩
     subst hw5
     go_wp2
     go_ret2
     exact ⟨HPUT.out.1, HBX.out.trans HPUT.out.2 (fun _ h => Or.inl h), _, rfl, fun y h => by injection h⟩
   ·replace ck1 : L[i].kind = gTwo := hsum.resolve_left ck1
    have h2l := f5 ck1
    obtain ⟨i1, hi1⟩ : ∃ i1 : Nat, L[i].ins.getD 1 0 = (i1 : Int) := ⟨(L[i].ins.getD 1 0).toNat, by
     have hm1 : L[i].ins.getD 1 0 ∈ L[i].ins := by
      rw [List.getD_eq_getElem?_getD, List.getElem?_eq_getElem (by omega), Option.getD_some]
      exact List.getElem_mem _
     have := hbd _ hm1; omega⟩
    have hm1 : (i1 : Int) ∈ L[i].ins := by
     rw [← hi1, List.getD_eq_getElem?_getD, List.getElem?_eq_getElem (by omega), Option.getD_some]
     exact List.getElem_mem _
    have htwo : L[i].ins = [(i0 : Int), (i1 : Int)] := by
     match hins : L[i].ins, h2l, hi0, hi1 with
     | [x, y], _, h2, h3 => simp at h2 h3; rw [h2, h3]
    have hr1 : ∀ x y, valOf L args got i0 = some x → valOf L args got i1 = some y → valOf L args got i = some (twoV L[i].name x y) := fun x y hx hy => by
     rw [hres, htwo, show natL [(i0 : Int), (i1 : Int)] = [i0, i1] from by simp [natL], show askX (valOf L args got) [i0, i1] = some [x, y] from by simp [askX, hx, hy]]
     simp only [Option.map_some]
     rw [if_neg (by rw [ck1]; decide)]; rfl
    have hr2 : valOf L args got i1 = none → valOf L args got i = none := fun hy => by
     rw [hres, htwo, show natL [(i0 : Int), (i1 : Int)] = [i0, i1] from by simp [natL], askX_none (k := 1) (by simp) hy]
     rfl
    have hnm : L[i].name ∈ twosE := by rw [if_neg (by rw [ck1]; decide), if_pos ck1] at hop; exact of_decide_eq_true hop
    have t5 : (L[i].kind == [111, 110, 101]) = false := by rw [ck1]; decide
    have kr1 : X.cell? ⟨gr, offr + 1, none⟩ = some (.int .i64 (i1 : Int)) := by
     obtain ⟨g9, off9, e9, _, w9⟩ := hr.int (k := 1) (by omega)
     injection e9 with e9
     injection e9 with e9 e10
     subst e9 e10
     rw [w9, ← hi1, List.getD_eq_getElem?_getD, List.getElem?_eq_getElem (by omega), Option.getD_some]
    have hgrn := hJ.ab _ hgr
    have HR1 := hidX hr1
    have HR2 := hidX hr2
    have HLAW := hidX (fun x y (hx : In64 x) Y => rtwo_val L[i].name hnm x y hx Y)
    have H64 := hidX (fun x (hx : valOf L args got i0 = some x) => valOf64 hLow hag hg hx)
    have HIH1 := hidX (IH i1 (hRk i1 hm1))
    have hl2' : (L[i].ins.length : Int) = 2 := by omega
    generalize hri : valOf L args got i = ri at *
    have HRI := hidX hri
    generalize L[i] = n at *
    clear hJ hJ1 hr g1 g2 g3 g4 g5 s1 s2 s3 s4 s5 hV cp cc ckp hr1 hr2 hx1 hb1 hend hnd hvk c3 c4 c5 cg ch IH hRk hres hWn hknown hop f4 f5 hsum hbd hrk hbk hvs hl1 hm0 hi0 hax0 htwo hnm ck1 hri h2l hm1 hi1 HL1
    go_enter Tryz.func39, Tryz.ntmps39
    go_wp2_with fail
    rw [← hX1]
    clear hX1 k0 k1 k2 k3 c2 c6 c7 cs ck
    refine HC1.out.mono ?_
    rintro e W4 ⟨hJ4, hb4, v0, rfl, hv0⟩
    have hn4 := (hb4.block _ (heap_lt HX1.out) (by omega)).trans HX1.out
    have m0 : W4.cell? ⟨X.heap.size, 0, none⟩ = some (.string ⟨n.kind.toArray⟩) := cell_of_blk hn4 0
    have m1 : W4.cell? ⟨X.heap.size, 1, none⟩ = some (.slice (some ⟨gr, offr, none⟩) n.ins.length cap1) := cell_of_blk hn4 1
    have m2 : W4.cell? ⟨gr, offr + 1, none⟩ = some (.int .i64 (i1 : Int)) := (World.cell?_of_block (a := ⟨gr, _, none⟩) ((hb4.block gr (by have := HB1.out.size; omega) (by omega)).trans (HB1.out.block gr hgrl))).trans kr1
    have HBX := hidX ((ButP.of (S := fun k => k = sa ∨ k = ka) HB1.out).trans hb4 (fun _ h => Or.inl h))
    cases hr0 : valOf L args got i0 with
    | none =>
     have hri4 := HAX0.out hr0
     subst hri4
     have HJ4 := hidX hJ4
     simp only [hr0, Option.isSome_none] at *
     clear hJ4 hb4 hv0 hn4
     go_wp2
     go_ret2
     exact ⟨HJ4.out, HBX.out, _, rfl, fun y h => by cases h⟩
    | some x =>
     have hvx := hv0 x hr0
     subst hvx
     have HX64 := hidX (H64.out _ hr0)
     have HR0 := hidX hr0
     have hz4 := hb4.size
     have HC2 := hidX (HIH1.out W4 hJ4 (by omega))
     have HN4 := hidX hn4
     simp only [hr0, Option.isSome_some] at *
     clear hJ4 hb4 hv0 hn4 hr0 H64 HIH1
     go_wp2_with fail
     refine HC2.out.mono ?_
     rintro e W6 ⟨hJ6, hb6, v1, rfl, hv1⟩
     have hn6 := (hb6.block _ (heap_lt HN4.out) (by omega)).trans HN4.out
     have m3 : W6.cell? ⟨X.heap.size, 3, none⟩ = some (.string ⟨n.name.toArray⟩) := cell_of_blk hn6 3
     have HBX6 := hidX (HBX.out.trans hb6 (fun _ h => Or.inl h))
     cases hr1 : valOf L args got i1 with
     | none =>
      have hri4 := HR2.out hr1
      subst hri4
      have HJ6 := hidX hJ6
      simp only [hr1, Option.isSome_none] at *
      clear hJ6 hb6 hv1 hn6
      go_wp2
      go_ret2
      exact ⟨HJ6.out, HBX6.out, _, rfl, fun y h => by cases h⟩
     | some y =>
      have hri4 := HR1.out v0 y rfl hr1
      have hvy := hv1 y hr1
      subst hvy
      have hput := hJ6.put (i := i) (HRI.out.trans hri4)
      obtain ⟨ss4, ks4, u1, u2, u3, u4, _⟩ := hJ6.sums
      have p6 : W6.cell? ⟨wb, 6, none⟩ = some (rowV sa L.length) := cell_of_blk hJ6.blk 6
      have p7 : W6.cell? ⟨wb, 7, none⟩ = some (rowV ka L.length) := cell_of_blk hJ6.blk 7
      obtain ⟨z0, p8⟩ : ∃ z, W6.cell? ⟨sa, i, none⟩ = some z := ⟨_, by rw [cell_of_blk u1, List.getElem?_toArray, ints_at (by omega)]⟩
      have p8f := free_of_blk u1 i
      have u2' : (W6.setCell ⟨sa, i, none⟩ (.int .i64 (twoV n.name v0 v1))).heap[ka]? = _ := (Below.heap_setCell _ _ _ _ (by show ka ≠ sa; omega)).trans u2
      obtain ⟨z1, p9⟩ : ∃ z, (W6.setCell ⟨sa, i, none⟩ (.int .i64 (twoV n.name v0 v1))).cell? ⟨ka, i, none⟩ = some z := ⟨_, by rw [cell_of_blk u2', List.getElem?_toArray, bools_at (by omega)]⟩
      have p9f := free_of_blk u2' i
      have p7' : (W6.setCell ⟨sa, i, none⟩ (.int .i64 (twoV n.name v0 v1))).cell? ⟨wb, 7, none⟩ = some (rowV ka L.length) := (World.cell?_of_block (a := ⟨wb, 7, none⟩) (Below.heap_setCell _ _ _ _ (by show wb ≠ sa; omega))).trans p7
      have HPUT := hidX hput
      have HL := hidX (HLAW.out v0 v1 HX64.out W6)
      subst hri4
      simp only [hr1, Option.isSome_some] at *
      generalize twoV n.name v0 v1 = num at *
      clear hJ6 hb6 hv1 hn6 u1 u2 u3 u4 u2' hput p7 hr1
      go_wp2_with fail
      refine HL.out.mono ?_
      rintro e W7 ⟨rfl, hw7⟩
      subst hw7
      go_wp2
      go_ret2
      exact ⟨HPUT.out.1, HBX6.out.trans HPUT.out.2 (fun _ h => Or.inl h), _, rfl, fun y h => by injection h⟩
end
end Go.Proofs.YtlgejjmdanmglaaGreatDoor
