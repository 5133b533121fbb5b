/- Our own: texts joined: GrAhead, GrAhead2. -/
import Derived.Test.YtlgejjmdanmglaaGreatDoorVHangAll
import Derived.Test.YtlgejjmdanmglaaGreatDoorVAskedAll
namespace Go.Proofs.YtlgejjmdanmglaaGreatDoor
open Go.RowKit
def tkAt (L : List Nd) (a : Nat) : Nat × Nat := (tkI L L.length).getD a (0, 0)
def wayNx (L : List Nd) (i a : Nat) : List Nat := if (tkAt L a).1 = i then [] else behN L (ysI gYes L L.length) (ysI gNo L L.length) (tkAt L a).1
def noneIn (ks : List Nat) (l : List Int) : Bool := l.all fun v => decide (v.toNat ∉ ks)
def wellB (L : List Nd) (ks vis : List Nat) : Bool := vis.all fun a => noneIn ks (askL L (tkAt L a).1 (tkAt L a).2)
structure AI (w X : World) (p b0 b1 b2 b3 mb i : Nat) (L : List Nd) (ks vis : List Nat) : Prop where
 low : Below w.heap.size w X
 k0 : X.heap[b0]? = some (.cells #[.pointer (some ⟨p, 0, none⟩)] 71 (0, 0))
 k1 : X.heap[b1]? = some (.cells #[.int .i64 i] 3 (0, 0))
 k2 : X.heap[b2]? = some (.cells #[.bool (wellB L ks vis)] 4 (0, 0))
 k3 : X.heap[b3]? = some (.cells #[.map (some mb)] 80 (0, 0))
section
variable {ones twos : List (List UInt8)} {Q : Int} {L : List Nd}
theorem tkAt_spot (hW : WellG ones twos Q L) {a : Nat} (ha : a < L.length) (hw : isWay (ndAt L a).kind) : Spot L a (tkAt L a).1 (tkAt L a).2 := by
 obtain ⟨j, k, hs⟩ := way_spot hW ha hw
 have := tk_is hW ha hw hs
 unfold tkAt
 rw [List.getD_eq_getElem?_getD, this]
 exact hs
theorem askL_bnd (hW : WellG ones twos Q L) {a j k : Nat} (hs : Spot L a j k) : ∀ v ∈ askL L j k, 0 ≤ v ∧ v < (L.length : Int) := by
 intro v hv
 have := (askL_iff hW hs v).1 hv
 unfold AskAt at this
 split at this
 ·obtain ⟨p, n, h1, _, _, h4⟩ := this
  exact (hW.node.at h1).bnd v (List.mem_of_getElem? h4)
 ·obtain ⟨q, hq⟩ := this
  obtain ⟨n, h1, _⟩ := hs
  rw [ndAt_of h1] at hq
  exact (hW.node.at h1).bnd v (List.mem_of_getElem? hq)
end
theorem noneIn_snoc (ks : List Nat) (l : List Int) (x : Int) : noneIn ks (l ++ [x]) = (noneIn ks l && decide (x.toNat ∉ ks)) := by simp [noneIn]
theorem Fl.tak {A : Nat → Prop} {w : World} {p : Nat} {nm : List UInt8} {P : Int} {nv yv ov pv : Value} {ad : Option Addr} {n cap : Nat} {L : List Nd} {tk : List (Nat × Nat)} {ys ns : List Nat} {ph : List (List Nat)} (h : Fl A w p nm P nv (.slice ad n cap) yv ov pv L tk ys ns ph) {i : Nat} (hi : i < tk.length) :
  ∃ g off, ad = some ⟨g, off, none⟩ ∧ A g ∧ w.cell? ⟨g, off + i * 2, none⟩ = some (.int .i64 (tk[i].1 : Int)) ∧ w.cell? ⟨g, off + i * 2 + 1, none⟩ = some (.int .i64 (tk[i].2 : Int)) := by
 obtain ⟨g, off, e, hg, hc⟩ := h.tks.el 2 hi (fun j hj => spots_at tk i hi j hj)
 refine ⟨g, off, e, hg, hc 0 _ (by decide) rfl, ?_⟩
 have := hc 1 _ (by decide) rfl
 rwa [← Nat.add_assoc] at this
set_option maxRecDepth 100000 in
set_option maxHeartbeats 1000000 in
theorem ahead1_any {A : Nat → Prop} {w X : World} {p : Nat} {nm : List UInt8} {P : Int} {nv tv yv ov pv : Value} {L : List Nd} {ones twos : List (List UInt8)} {Q : Int} (hF : Fl A w p nm P nv tv yv ov pv L (tkI L L.length) (ysI gYes L L.length) (ysI gNo L L.length) (phI L L.length)) (hA : ∀ b, A b → b < w.heap.size) (hW : WellG ones twos Q L) (hLow : ∀ n ∈ L, LowN n) {b0 b1 b2 b3 mb i : Nat} {ks vis : List Nat} (hH : HangAt w mb ks) (hI : AI w X p b0 b1 b2 b3 mb i L ks vis) (hb : w.heap.size ≤ b2 ∧ b2 ≠ b0 ∧ b2 ≠ b1 ∧ b2 ≠ b3) (x : Nat) (hx : x < L.length) (hway : isWay (ndAt L x).kind) :
  Calls Tryz.prog 68 #[.int .i64 (x : Int), .pointer (some ⟨b0, 0, none⟩), .pointer (some ⟨b2, 0, none⟩), .pointer (some ⟨b3, 0, none⟩), .pointer (some ⟨b1, 0, none⟩)] X fun e w' => But b2 X w' ∧ AI w w' p b0 b1 b2 b3 mb i L ks (x :: vis) ∧ ∃ v, e = .returned v ∧ XRow (fun b => X.heap.size ≤ b ∧ b < w'.heap.size) w' v (wayNx L i x).length (natsG (wayNx L i x)) := by
 obtain ⟨adt, capt, rfl⟩ := hF.tks.is
 have hlt := tkI_len L L.length
 have hxt : x < (tkI L L.length).length := by omega
 obtain ⟨gt, offt, e1, hgt, kt0, kt1⟩ := hF.tak hxt
 subst e1
 have hs := tkAt_spot hW hx hway
 have hte : (tkI L L.length)[x] = tkAt L x := by unfold tkAt; simp [hxt]
 rw [hte] at kt0 kt1
 clear hte
 have hbnd := askL_bnd hW hs
 have hfew := askL_few hLow hW.len.2 (tkAt L x).1 (tkAt L x).2
 obtain ⟨hjl, _, _⟩ := spot_low hs hLow
 have hcons : wellB L ks (x :: vis) = (wellB L ks vis && noneIn ks (askL L (tkAt L x).1 (tkAt L x).2)) := by unfold wellB; rw [List.all_cons, Bool.and_comm]
 have hnx : wayNx L i x = if (tkAt L x).1 = i then [] else behN L (ysI gYes L L.length) (ysI gNo L L.length) (tkAt L x).1 := rfl
 rw [hnx]
 clear hnx
 have hL := hW.len.2
 have HFX := fun (Y : World) (hY : Below w.heap.size w Y) => hF.imp (hY.block p (heap_lt hF.blk)) (fun _ h => h) (fun b hb => hY.block b (hA b hb))
 have HFY := hidX HFX
 have HASK := hidX (fun (Y : World) (hY : Below w.heap.size w Y) => asked_any (HFX Y hY) (fun b hb => Nat.lt_of_lt_of_le (hA b hb) hY.size) hW hLow hs)
 have HBEH := hidX (fun (Y : World) (hY : Below w.heap.size w Y) => behind_any (HFX Y hY) hL (tkAt L x).1 hjl)
 have hwell : ∀ W : World, But b2 X W → W.heap[b2]? = some (.cells #[.bool (wellB L ks (x :: vis))] 4 (0, 0)) → AI w W p b0 b1 b2 b3 mb i L ks (x :: vis) := fun W h1 h2 =>
  ⟨hI.low.trans (⟨h1.os, h1.tape, h1.output, h1.size, fun k hk => h1.block k (by have := hI.low.size; omega) (by omega)⟩ : Below w.heap.size X W), (h1.block b0 (heap_lt hI.k0) (by omega)).trans hI.k0, (h1.block b1 (heap_lt hI.k1) (by omega)).trans hI.k1, h2, (h1.block b3 (heap_lt hI.k3) (by omega)).trans hI.k3⟩
 rw [hcons] at hwell
 generalize hvals : tkAt L x = st at *
 obtain ⟨j, k⟩ := st
 simp only at *
 generalize askL L j k = l at *
 generalize behN L (ysI gYes L L.length) (ysI gNo L L.length) j = bl at *
 generalize hres : (if j = i then [] else bl) = res
 have HRS := hidX hres
 clear hres
 have d0 : X.cell? ⟨b0, 0, none⟩ = some (.pointer (some ⟨p, 0, none⟩)) := cell_of_blk hI.k0 0
 have hpl := heap_lt hF.blk
 have c3 : X.cell? ⟨p, 3, none⟩ = some (.slice (some ⟨gt, offt, none⟩) (tkI L L.length).length capt) := (hI.low.cell (p := ⟨p, 3, none⟩) hpl).trans (cell_of_blk hF.blk 3)
 have e0 := (hI.low.cell (p := ⟨gt, _, none⟩) (hA _ hgt)).trans kt0
 have e1 := (hI.low.cell (p := ⟨gt, _, none⟩) (hA _ hgt)).trans kt1
 have hxt' : (x : Int) < ((tkI L L.length).length : Int) := by omega
 have hll' : (l.length : Int) ≤ 1000 := by omega
 have htl' : ((tkI L L.length).length : Int) ≤ 1000 := by omega
 obtain ⟨X1, hX1⟩ : ∃ X1, X1 = X.alloc (.cells #[.int .i64 (j : Int), .int .i64 (k : Int)] 99) := ⟨_, rfl⟩
 have hb1 : Below X.heap.size X X1 := by rw [hX1]; (repeat (first | exact Below.refl _ _ | assumption | refine Below.drew ?_ | refine bT ?_ _ | refine bS ?_ _ | refine bA ?_ _))
 have hbx : X1.heap[X.heap.size]? = some (.cells #[.int .i64 (j : Int), .int .i64 (k : Int)] 99 (0, 0)) := by rw [hX1]; exact heap_alloc_new _ _
 have hl1 : Below w.heap.size w X1 := bl_trans hI.low hI.low.size hb1
 have f0 : X1.cell? ⟨b0, 0, none⟩ = some (.pointer (some ⟨p, 0, none⟩)) := cell_of_blk ((hb1.block b0 (heap_lt hI.k0)).trans hI.k0) 0
 have f1 : X1.cell? ⟨X.heap.size, 0, none⟩ = some (.int .i64 (j : Int)) := cell_of_blk hbx 0
 have f2 : X1.cell? ⟨X.heap.size, 1, none⟩ = some (.int .i64 (k : Int)) := cell_of_blk hbx 1
 have HC1 := hidX (HASK.out X1 hl1)
 have HI1 := hidX hI
 have HB1 := hidX hb1
 have HBX := hidX hbx
 have HL1 := hidX hl1
 have HWL := hidX hwell
 have HH := hidX hH
 have HBN := hidX hbnd
 have HA := hidX hA
 have HFF := hidX hF
 have hwz := hI.low.size
 have hb2z := heap_lt hI.k2
 have hb0z := heap_lt hI.k0
 generalize (tkI L L.length).length = tl at *
 clear hI hH hbnd hwell hF hA hs hcons HFX HASK hlt hxt hbx hl1 hb1 hLow hway hfew HFY kt0 kt1
 go_enter Tryz.func68, Tryz.ntmps68
 go_wp2_with fail
 rw [← hX1]
 clear hX1 d0 c3 e0 e1
 go_wp2_with fail
 refine HC1.out.mono ?_
 rintro e W2 ⟨v, rfl, hb2', hrow⟩
 obtain ⟨av, cv, rfl⟩ := hrow.is
 clear f0 f1 f2
 have HB2 := hidX hb2'
 have HROW := hidX hrow
 clear hb2' hrow
 have hk0 : W2.heap[b2]? = some (.cells #[.bool (wellB L ks vis && noneIn ks (l.take 0))] 4 (0, 0)) := by
  have e : noneIn ks (l.take 0) = true := rfl
  rw [e, Bool.and_true]
  exact ((HB2.out.block b2 (by have := HB1.out.size; omega)).trans (HB1.out.block b2 hb2z)).trans HI1.out.k2
 have HK0 := hidX hk0
 clear hk0
 go_wp2_with fail
 go_loopw [21] (fun vi wr => ∃ q : Nat, q ≤ l.length ∧ vi = .int .i64 q ∧ Hid (But b2 W2 wr) ∧ Hid (wr.heap[b2]? = some (.cells #[.bool (wellB L ks vis && noneIn ks (l.take q))] 4 (0, 0)))) (fun vi _ => l.length - (intOf vi).toNat)
 case atStart => exact ⟨0, Nat.zero_le _, rfl, But.refl _ _, HK0.out⟩
 case round =>
  obtain ⟨q, hq, rfl, HBQ, HKQ⟩ := hrel
  have hXr : But b2 X wr := ((But.of HB1.out).trans (But.of (bl_trans (Below.refl _ _) (Nat.le_refl _) HB2.out))).trans HBQ.out
  have HXR := hidX hXr
  have hlw : Below w.heap.size w wr := HI1.out.low.trans (⟨hXr.os, hXr.tape, hXr.output, hXr.size, fun k hk => hXr.block k (by omega) (by omega)⟩ : Below w.heap.size X wr)
  have HLW := hidX hlw
  have hz1 := HB1.out.size
  have hz2 := HB2.out.size
  have hz3 := HBQ.out.size
  have hxz := heap_lt HBX.out
  have hsx : wr.heap[X.heap.size]? = some (.cells #[.int .i64 (j : Int), .int .i64 (k : Int)] 99 (0, 0)) := ((HBQ.out.block X.heap.size (by omega) (by omega)).trans (HB2.out.block X.heap.size hxz)).trans HBX.out
  by_cases hlt : q < l.length
  ·have hlt' : (q : Int) < (l.length : Int) := by omega
   obtain ⟨g3, off3, e3, hg3, kc⟩ := HROW.out.int hlt
   subst e3
   have hg3' : g3 < W2.heap.size ∧ g3 ≠ b2 := by
    rcases hg3 with h | h
    ·have := HA.out g3 h; omega
    ·omega
   have kc' : wr.cell? ⟨g3, off3 + q, none⟩ = some (.int .i64 l[q]) := (World.cell?_of_block (a := ⟨g3, _, none⟩) (HBQ.out.block g3 hg3'.1 hg3'.2)).trans kc
   have hbn := HBN.out _ (List.getElem_mem hlt)
   have htk : noneIn ks (l.take (q + 1)) = (noneIn ks (l.take q) && decide (l[q].toNat ∉ ks)) := by rw [List.take_succ_eq_append_getElem hlt, noneIn_snoc]
   obtain ⟨m, hm⟩ : ∃ m : Nat, l[q] = (m : Int) := ⟨l[q].toNat, by omega⟩
   rw [hm] at kc' hbn htk
   rw [Int.toNat_natCast] at htk
   have hlk := HH.out.look m (by omega) wr (hlw.block mb HH.out.lt)
   have m3 : wr.cell? ⟨b3, 0, none⟩ = some (.map (some mb)) := cell_of_blk ((hXr.block b3 (heap_lt HI1.out.k3) (by omega)).trans HI1.out.k3) 0
   have hk2 := HKQ.out
   have m2 := cell_of_blk hk2 0
   have m2f := free_of_blk hk2 0
   simp only [List.getElem?_toArray, List.getElem?_cons_zero] at m2
   have hdec : decide (m ∉ ks) = (((List.count m ks : Nat) : Int) == 0) := by
    by_cases h : m ∈ ks
    ·have hp : 0 < List.count m ks := List.count_pos_iff.2 h
     rw [show decide (m ∉ ks) = false by simp [h]]
     symm
     rw [beq_eq_false_iff_ne]
     omega
    ·rw [show decide (m ∉ ks) = true by simp [h], List.count_eq_zero_of_not_mem h]
     rfl
   rw [hdec] at htk
   have hset := fun u : Bool => blk_setCell hk2 0 (.bool u)
   simp only [List.setIfInBounds_toArray, List.set_cons_zero] at hset
   have HSET := hidX hset
   have HTK := hidX htk
   clear hdec hset htk hk2 kc hg3' hg3 hm hsx hlw hXr
   generalize List.count m ks = cm at *
   generalize wellB L ks vis = wv at *
   generalize noneIn ks (l.take q) = nq at *
   by_cases hwb : (wv && nq) = true
   ·have hval : (wv && noneIn ks (l.take (q + 1))) = ((cm : Int) == 0) := by
     rw [HTK.out, ← Bool.and_assoc, hwb, Bool.true_and]
    rw [hwb] at m2
    have HST := hidX (HSET.out (((cm : Int) == 0)))
    rw [← hval] at HST
    have HVAL := hidX hval
    clear hval hwb HSET HTK HKQ
    go_wp2
    go_roundw
    case rel => exact ⟨q + 1, by omega, by go_num, HBQ.out.set 0 _, by rw [HVAL.out] at HST ⊢; exact HST.out⟩
    case measure => simp [intOf]; omega
   ·have hwf : (wv && nq) = false := by simpa using hwb
    have hval : (wv && noneIn ks (l.take (q + 1))) = false := by
     rw [HTK.out, ← Bool.and_assoc, hwf, Bool.false_and]
    rw [hwf] at m2
    have HST := hidX (HSET.out false)
    have HVAL := hidX hval
    clear hval hwb hwf HSET HTK HKQ
    go_wp2
    go_roundw
    case rel => exact ⟨q + 1, by omega, by go_num, HBQ.out.set 0 _, by rw [HVAL.out]; exact HST.out⟩
    case measure => simp [intOf]; omega
  ·have hqn : q = l.length := by omega
   subst hqn
   have hk2 := HKQ.out
   rw [List.take_length] at hk2
   have s0 : wr.cell? ⟨X.heap.size, 0, none⟩ = some (.int .i64 (j : Int)) := cell_of_blk hsx 0
   have m1 : wr.cell? ⟨b1, 0, none⟩ = some (.int .i64 (i : Int)) := cell_of_blk ((hXr.block b1 (heap_lt HI1.out.k1) (by omega)).trans HI1.out.k1) 0
   have m0 : wr.cell? ⟨b0, 0, none⟩ = some (.pointer (some ⟨p, 0, none⟩)) := cell_of_blk ((hXr.block b0 (heap_lt HI1.out.k0) (by omega)).trans HI1.out.k0) 0
   have HBC := hidX (HBEH.out wr hlw)
   have HK2 := hidX hk2
   clear hk2 hsx hlw hXr HKQ
   by_cases hji : j = i
   ·have hte : ((j : Int) == (i : Int)) = true := by simp [hji]
    have hif : res = [] := by rw [← HRS.out]; exact if_pos hji
    subst hif
    clear hji HRS
    go_wp2
    go_ret
    exact ⟨HXR.out, HWL.out _ HXR.out HK2.out, _, rfl, xrow_nil _ _⟩
   ·have hte : ((j : Int) == (i : Int)) = false := by simp; omega
    have hif : res = bl := by rw [← HRS.out]; exact if_neg hji
    subst hif
    clear hji HRS
    go_wp2_with fail
    refine HBC.out.mono ?_
    rintro e W3 ⟨v3, rfl, hb3, hr3⟩
    have hbt : But b2 X W3 := HXR.out.trans (But.of hb3)
    have hfin := HWL.out W3 hbt ((hb3.block b2 (heap_lt HK2.out)).trans HK2.out)
    have HFN := hidX (show But b2 X W3 ∧ AI w W3 p b0 b1 b2 b3 mb i L ks (x :: vis) ∧ XRow (fun b => X.heap.size ≤ b ∧ b < W3.heap.size) W3 v3 res.length (natsG res) from ⟨hbt, hfin, hr3.imp (fun b hb => ⟨by omega, hb.2⟩) (fun _ _ => rfl)⟩)
    clear hbt hfin hr3 hb3
    go_wp2
    go_ret
    exact ⟨HFN.out.1, HFN.out.2.1, _, rfl, HFN.out.2.2⟩
end Go.Proofs.YtlgejjmdanmglaaGreatDoor
namespace Go.Proofs.YtlgejjmdanmglaaGreatDoor
open Go.RowKit
section
variable {ones twos : List (List UInt8)} {Q : Int} {L : List Nd}
theorem behN_iff (hW : WellG ones twos Q L) {j : Nat} (hj : j < L.length) (y : Nat) : y ∈ behN L (ysI gYes L L.length) (ysI gNo L L.length) j ↔ behL L j y := by
 unfold behN behL
 by_cases h1 : (ndAt L j).kind = gIf
 ·rw [if_pos h1, if_pos h1, if_beh hW hj h1]; simp
 ·rw [if_neg h1, if_neg h1]
  by_cases h2 : (ndAt L j).kind = gReturn
  ·rw [if_pos h2, if_pos h2]; simp
  ·rw [if_neg h2, if_neg h2]; simp
theorem wayNx_iff (hW : WellG ones twos Q L) {i x : Nat} (hx : x < L.length) (hw : isWay (ndAt L x).kind) (y : Nat) : y ∈ wayNx L i x ↔ WStep L i x y := by
 have hs := tkAt_spot hW hx hw
 have hj : (tkAt L x).1 < L.length := by obtain ⟨n, h1, _⟩ := hs; exact lt_of_at h1
 unfold wayNx WStep
 constructor
 ·intro h
  split at h
  ·simp at h
  ·next e => exact ⟨_, _, hs, e, (behN_iff hW hj y).1 h⟩
 ·rintro ⟨j, k, h1, h2, h3⟩
  obtain ⟨e1, e2⟩ := spot_one (way_len hW hx hw) hs h1
  rw [e1, if_neg h2]
  rw [e1] at hj
  exact (behN_iff hW hj y).2 h3
theorem wstep_way (hW : WellG ones twos Q L) {i : Nat} (hi : (ndAt L i).kind = gCall ∨ (ndAt L i).kind = gRegion) {x : Nat} (h : Star (WStep L i) 0 x) : x < L.length ∧ isWay (ndAt L x).kind := by
 obtain ⟨h1, h2⟩ := (wstep_come hW hi x).1 h
 exact ⟨star_lt hW (h2.imp (fun a b h => h.1)), h1⟩
end
theorem wayNx_few (L : List Nd) (i x : Nat) : (wayNx L i x).length ≤ 100000 := by
 unfold wayNx behN
 split
 ·simp
 ·split
  ·simp
  ·split <;> simp
theorem star_eq {R S : Nat → Nat → Prop} {a : Nat} (h : ∀ x, Star S a x → ∀ y, R x y ↔ S x y) (b : Nat) : Star R a b ↔ Star S a b := by
 constructor
 ·intro k
  induction k with
  | refl => exact .refl _
  | tail _ r ih => exact ih.tail ((h _ ih _).1 r)
 ·intro k
  induction k with
  | refl => exact .refl _
  | tail s r ih => exact ih.tail ((h _ s _).2 r)
set_option maxRecDepth 100000 in
set_option maxHeartbeats 1000000 in
theorem ahead_any {A : Nat → Prop} {w : World} {p : Nat} {nm : List UInt8} {P : Int} {nv tv yv ov pv : Value} {L : List Nd} {ones twos : List (List UInt8)} {Q : Int} (hF : Fl A w p nm P nv tv yv ov pv L (tkI L L.length) (ysI gYes L L.length) (ysI gNo L L.length) (phI L L.length)) (hA : ∀ b, A b → b < w.heap.size) (hW : WellG ones twos Q L) (hLow : ∀ n ∈ L, LowN n) {mb i : Nat} {ks : List Nat} (hH : HangAt w mb ks) (hik : (ndAt L i).kind = gCall ∨ (ndAt L i).kind = gRegion) :
  Calls Tryz.prog 37 #[.pointer (some ⟨p, 0, none⟩), .int .i64 (i : Int), .map (some mb)] w fun e w' => Below w.heap.size w w' ∧ ∃ b : Bool, e = .returned (.bool b) ∧ (b = true ↔ ∀ a, Star (WStep L i) 0 a → noneIn ks (askL L (tkAt L a).1 (tkAt L a).2) = true) := by
 obtain ⟨ad, cap, rfl⟩ := hF.gr.is
 have b2 : w.cell? ⟨p, 2, none⟩ = some (.slice ad L.length cap) := cell_of_blk hF.blk 2
 have hpl := heap_lt hF.blk
 obtain ⟨W0, hW0⟩ : ∃ W0, W0 = (((w.alloc (.cells #[.pointer (some ⟨p, 0, none⟩)] 71)).alloc (.cells #[.int .i64 (i : Int)] 3)).alloc (.cells #[.map (some mb)] 80)).alloc (.cells #[.bool true] 4) := ⟨_, rfl⟩
 obtain ⟨t0, t1, t2⟩ := threeG w (.cells #[.pointer (some ⟨p, 0, none⟩)] 71) (.cells #[.int .i64 (i : Int)] 3) (.cells #[.map (some mb)] 80)
 have hb3 : Below (w.heap.size + 3) (((w.alloc (.cells #[.pointer (some ⟨p, 0, none⟩)] 71)).alloc (.cells #[.int .i64 (i : Int)] 3)).alloc (.cells #[.map (some mb)] 80)) W0 := by rw [hW0]; (repeat (first | exact Below.refl _ _ | assumption | refine Below.drew ?_ | refine bT ?_ _ | refine bS ?_ _ | refine bA ?_ _))
 have q0 := (hb3.block _ (by omega)).trans t0
 have q1 := (hb3.block _ (by omega)).trans t1
 have q2 := (hb3.block _ (by omega)).trans t2
 have q3 : W0.heap[w.heap.size + 1 + 1 + 1]? = some (.cells #[.bool true] 4 (0, 0)) := by
  rw [hW0]
  have := heap_alloc_new (((w.alloc (.cells #[.pointer (some ⟨p, 0, none⟩)] 71)).alloc (.cells #[.int .i64 (i : Int)] 3)).alloc (.cells #[.map (some mb)] 80)) (.cells #[.bool true] 4)
  simpa using this
 have hbw : Below w.heap.size w W0 := by rw [hW0]; (repeat (first | exact Below.refl _ _ | assumption | refine Below.drew ?_ | refine bT ?_ _ | refine bS ?_ _ | refine bA ?_ _))
 have hz0 : W0.heap.size = w.heap.size + 4 := by rw [hW0]; simp
 have hfew := hW.len.2
 have h0l := hW.len.1
 have hvis : ∀ Y, Below W0.heap.size W0 Y → Y.heap[w.heap.size + 1 + 1 + 1 + 1]? = some (.cells #[.int .i64 0] 3 (0, 0)) → Calls Tryz.prog 63 #[.int .i64 (L.length : Int), .slice (some ⟨w.heap.size + 1 + 1 + 1 + 1, 0, none⟩) 1 1, .func (.func 68) #[] #[.pointer (some ⟨w.heap.size, 0, none⟩), .pointer (some ⟨w.heap.size + 1 + 1 + 1, 0, none⟩), .pointer (some ⟨w.heap.size + 1 + 1, 0, none⟩), .pointer (some ⟨w.heap.size + 1, 0, none⟩)]] Y fun e w' => e = .returned (.tuple #[]) ∧ ∃ b : Bool, (Below w.heap.size w w' ∧ (b = true ↔ ∀ a, Star (WStep L i) 0 a → noneIn ks (askL L (tkAt L a).1 (tkAt L a).2) = true)) ∧ w'.cell? ⟨w.heap.size + 1 + 1 + 1, 0, none⟩ = some (.bool b) := fun Y hY hrow => by
  have hYs := hY.size
  have hYw : Below w.heap.size w Y := bl_trans hbw hbw.size hY
  have hI0 : AI w Y p w.heap.size (w.heap.size + 1) (w.heap.size + 1 + 1 + 1) (w.heap.size + 1 + 1) mb i L ks [] := ⟨hYw, (hY.block _ (heap_lt q0)).trans q0, (hY.block _ (heap_lt q1)).trans q1, (hY.block _ (heap_lt q3)).trans q3, (hY.block _ (heap_lt q2)).trans q2⟩
  have hAs : Asks Y L.length (w.heap.size + 1 + 1 + 1) 68 #[.pointer (some ⟨w.heap.size, 0, none⟩), .pointer (some ⟨w.heap.size + 1 + 1 + 1, 0, none⟩), .pointer (some ⟨w.heap.size + 1 + 1, 0, none⟩), .pointer (some ⟨w.heap.size + 1, 0, none⟩)] (fun x => Star (WStep L i) 0 x) (fun x => wayNx L i x) (fun X vis => AI w X p w.heap.size (w.heap.size + 1) (w.heap.size + 1 + 1 + 1) (w.heap.size + 1 + 1) mb i L ks vis) := by
   refine ⟨enters_of Tryz.func68 (by kernel_rfl) rfl, fun x hx hg y hy => ?_, fun x hx hg y hy => ?_, fun x => wayNx_few L i x, by omega, fun X X' vis hI hb => ?_, fun X vis x hI hz hx hg _ => ?_⟩
   ·have hw := (wstep_way hW hik hg).2
    exact (wstep_way hW hik (hg.tail ((wayNx_iff hW hx hw y).1 hy))).1
   ·have hw := (wstep_way hW hik hg).2
    exact hg.tail ((wayNx_iff hW hx hw y).1 hy)
   ·exact ⟨hI.low.trans (hb.mono (by omega)), (hb.block _ (by omega)).trans hI.k0, (hb.block _ (by omega)).trans hI.k1, (hb.block _ (by omega)).trans hI.k2, (hb.block _ (by omega)).trans hI.k3⟩
   ·refine (ahead1_any hF hA hW hLow hH hI ⟨by omega, by omega, by omega, by omega⟩ x hx (wstep_way hW hik hg).2).mono ?_
    rintro e w' ⟨g1, g2, v, g3, g4⟩
    exact ⟨g1, g2, v, g3, g4.imp (fun b hb => Or.inr hb) (fun _ _ => rfl)⟩
  have hrw : XRow (InH Y) Y (.slice (some ⟨w.heap.size + 1 + 1 + 1 + 1, 0, none⟩) 1 1) ([0] : List Nat).length (natsG [0]) := ⟨_, _, rfl, fun _ => ⟨w.heap.size + 1 + 1 + 1 + 1, 0, rfl, heap_lt hrow, fun j u hj => by
   have hj0 : j = 0 := by
    cases j with
    | zero => rfl
    | succ j => simp [natsG] at hj
   subst hj0
   rw [Nat.zero_add, cell_of_blk hrow 0]
   simpa [natsG] using hj⟩⟩
  refine (visit_any Y L.length hfew _ [0] (by simpa using h0l) (by simp) hrw (w.heap.size + 1 + 1 + 1) _ _ _ (fun x hx => by rw [List.mem_singleton] at hx; subst hx; exact .refl _) _ _ hAs hI0).mono ?_
  rintro e w' ⟨g1, _, vis, g3, g4⟩
  refine ⟨g1, wellB L ks vis, ⟨g3.low, ?_⟩, cell_of_blk g3.k2 0⟩
  have hst := star_eq (R := fun a b => b ∈ wayNx L i a) (S := WStep L i) (a := 0) (fun x hx y => wayNx_iff hW (wstep_way hW hik hx).1 (wstep_way hW hik hx).2 y)
  unfold wellB
  rw [List.all_eq_true]
  constructor
  ·intro h a ha
   exact h a ((g4 a).2 ⟨0, by simp, (hst a).2 ha⟩)
  ·intro h a ha
   obtain ⟨s, hs, hs2⟩ := (g4 a).1 ha
   rw [List.mem_singleton] at hs
   subst hs
   exact h a ((hst a).1 hs2)
 have HV := hidX hvis
 have c0 : W0.cell? ⟨w.heap.size, 0, none⟩ = some (.pointer (some ⟨p, 0, none⟩)) := cell_of_blk q0 0
 have c2 : W0.cell? ⟨p, 2, none⟩ = some (.slice ad L.length cap) := (hbw.cell (p := ⟨p, 2, none⟩) hpl).trans b2
 rw [hW0] at c2
 have hz4 : W0.heap.size = w.heap.size + 1 + 1 + 1 + 1 := hz0
 have hnew := heap_alloc_new W0 (.cells #[.int .i64 0] 3)
 rw [hz4] at hnew
 have HC := hidX (HV.out (W0.alloc (.cells #[.int .i64 0] 3)) (by (repeat (first | exact Below.refl _ _ | assumption | refine Below.drew ?_ | refine bT ?_ _ | refine bS ?_ _ | refine bA ?_ _))) hnew)
 clear hF hA hLow hH hik hvis q0 q1 q2 q3 t0 t1 t2 hb3 hz0 hz4 hnew HV
 have hfew' : (L.length : Int) ≤ 1000 := by omega
 go_enter Tryz.func37, Tryz.ntmps37
 go_wp2_with fail
 rw [← hW0]
 clear hW0 c0 c2
 refine HC.out.mono ?_
 rintro e W2 ⟨rfl, b, hb, c3⟩
 have HB := hidX hb
 clear hb
 go_wp2
 go_ret
 exact ⟨HB.out.1, b, rfl, HB.out.2⟩
end Go.Proofs.YtlgejjmdanmglaaGreatDoor
