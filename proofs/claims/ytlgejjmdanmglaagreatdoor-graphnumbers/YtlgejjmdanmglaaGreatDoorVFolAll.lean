/- Our own: texts joined: GrFollowM, GrFollow. -/
import Derived.Test.YtlgejjmdanmglaaGreatDoorVWkAll
import Derived.Test.YtlgejjmdanmglaaGreatDoorVAskedAll
import Derived.Test.YtlgejjmdanmglaaGreatDoorVAheadAll
import Derived.Deep.RegionHeld3
namespace Go.Proofs.YtlgejjmdanmglaaGreatDoor
open Go.RowKit
section
variable {ones twos : List (List UInt8)} {Q : Int} {L : List Nd}
theorem giv_value (hW : WellG ones twos Q L) {i : Nat} {n : Nd} (hi : L[i]? = some n) {k : Nat} {v : Int} (hk : n.ins[k]? = some v) (hd : dueS (shp n.kind) k = 118) : v.toNat < L.length ∧ valueK (ndAt L v).kind := by
 have W := hW.node.at hi
 have hb := W.bnd v (List.mem_of_getElem? hk)
 have hg := W.giv k (lt_of_at hk)
 unfold givAt at hg
 rw [List.contains_iff_mem, List.getD_eq_getElem?_getD, hk, Option.getD_some, hd] at hg
 exact ⟨by omega, valueK_of hg⟩
theorem askL_val (hW : WellG ones twos Q L) {a j k : Nat} (hs : Spot L a j k) : ∀ v ∈ natL (askL L j k), v < L.length ∧ valueK (ndAt L v).kind := by
 intro v hv
 have hv' := (mem_natL (fun x hx => (askL_bnd hW hs x hx).1) v).1 hv
 have h := (askL_iff hW hs (v : Int)).1 hv'
 unfold AskAt at h
 split at h
 ·obtain ⟨p, n, h1, h2, _, h4⟩ := h
  have := giv_value hW h1 h4 (by rw [h2]; unfold dueS; rw [if_neg (by simp [shp, shpIn, shapesL, gPhi, gStart, gParam, gConst, gOne, gTwo])]; decide)
  simpa using this
 ·next hr =>
  obtain ⟨q, hq⟩ := h
  obtain ⟨n, h1, h2, h3⟩ := hs
  rw [ndAt_of h1] at hq hr
  have W := hW.node.at h1
  obtain ⟨f1, f2, f3, f4, f5, f6, f7, f8, f9, f10, f11, f12, f13, f14⟩ := fits_len W.fits
  have hl := lt_of_at hq
  have := giv_value hW h1 hq (by
   rcases kind_cases n.kind with e | e | e | e | e | e | e | e | e | e | e | e | e | e | ⟨e, _⟩
   ·rw [f1 e] at hl; simp at hl
   ·rw [f2 e] at hl; simp at hl
   ·rw [f3 e] at hl; simp at hl
   ·have := f4 e; omega
   ·have : q = 0 := by have := f5 e; omega
    rw [e, this]; decide
   ·rw [e]; unfold dueS; rw [if_neg (by simp [shp, shpIn, shapesL, gPhi, gStart, gParam, gConst, gOne, gTwo])]; decide
   ·exact absurd e hr
   ·have : q = 0 := by have := f8 e; omega
    rw [e, this]; decide
   ·have := f9 e; omega
   ·have := f10 e; omega
   ·have := f11 e; omega
   ·have : q = 0 := by have := f12 e; omega
    rw [e, this]; decide
   ·rw [e]; unfold dueS; rw [if_neg (by simp [shp, shpIn, shapesL, gPhi, gStart, gParam, gConst, gOne, gTwo, gRegion, gIf, gYes, gNo, gTick, gPrint, gCall])]; decide
   ·have : q = 0 := by have := f14 e; omega
    rw [e, this]; decide
   ·have := W.kind
    rw [e] at this
    exact absurd this.symm W.nonempty)
  simpa using this
end
section
variable {A S : Nat → Prop} {B : Nat} {X Y : World} {wb rb fp mb : Nat} {s : Rst} {argv ansv : Value} {most ways : Int} {nm : List UInt8} {P Q : Int} {nv tv yv ov pv : Value} {L : List Nd} {tk : List (Nat × Nat)} {ys ns : List Nat} {ph : List (List Nat)} {args : List Int} {got res : Nat → Option Int}
theorem asks_any (h : WkJ A S B X wb rb fp mb s argv ansv most ways nm P nv tv yv ov pv L tk ys ns ph args got res) (hB : B ≤ X.heap.size) (hW : WellG onesE twosE Q L) (hLow : ∀ n ∈ L, LowN n) (hV : IsVal L args got res) (hal : (args.length : Int) = Q) (hways : 1 ≤ ways ∧ ways ≤ 100000) {a j k : Nat} (hs : Spot L a j k) {v : Value} (hv : XRow (fun b => A b ∨ (B ≤ b ∧ b < X.heap.size)) X v (askL L j k).length (intsG (askL L j k))) :
  Calls Tryz.prog 75 #[.pointer (some ⟨wb, 0, none⟩), v] X fun e w' => WkJ A S B w' wb rb fp mb s argv ansv most ways nm P nv tv yv ov pv L tk ys ns ph args got res ∧ But mb X w' ∧ ∃ v ok, e = .returned (.tuple #[v, ok]) ∧ AskV X w' v ok (askX res (natL (askL L j k))) := by
 have hl := h.lo
 refine ask_any (c := mb) (l := natL (askL L j k)) (A := fun b => A b ∨ (B ≤ b ∧ b < X.heap.size)) (by rw [natL_len, nats_ints (fun x hx => (askL_bnd hW hs x hx).1)]; exact hv) (fun b hb => ?_) (by rw [natL_len]; exact askL_few hLow hW.len.2 j k) (by omega) res (fun Z => WkJ A S B Z wb rb fp mb s argv ansv most ways nm P nv tv yv ov pv L tk ys ns ph args got res) h (fun Z Z' h1 h2 h3 => h1.below (h3.mono hB)) (fun Z hZ hz i hi => ?_)
 ·rcases hb with hb | hb
  ·exact ⟨by have := (h.ab b hb).1; omega, (h.ab b hb).2.2.2.1⟩
  ·exact ⟨hb.2, by omega⟩
 ·obtain ⟨h1, h2⟩ := askL_val hW hs i hi
  exact reckon_any hW hLow hV hal hways (rkM L i + 1) i (by omega) h1 h2 Z hZ (by omega)
end
end Go.Proofs.YtlgejjmdanmglaaGreatDoor
namespace Go.Proofs.YtlgejjmdanmglaaGreatDoor
open Go.RowKit
def nextIf (ys ns : List Nat) (j : Nat) (x : Int) : Nat := if x ≠ 0 then ys.getD j 0 else ns.getD j 0
noncomputable def valOf (L : List Nd) (args : List Int) (got : Nat → Option Int) : Nat → Option Int := fun i => valF L args got (rkM L i + 1) i
theorem valOf_is {ones twos : List (List UInt8)} {P : Int} {L : List Nd} (hW : WellG ones twos P L) (args : List Int) (got : Nat → Option Int) : IsVal L args got (valOf L args got) := fun i _ => by
 show valF L args got (rkM L i + 1) i = _
 unfold valF
 refine stepV_congr hW fun j hj => ?_
 have := rk_less hW hj
 exact valF_same hW args got (rkM L j + 1) j (by omega) (rkM L i) (rkM L j + 1) (by omega) (by omega)
def phisOf (L : List Nd) (j : Nat) : List Nat := (List.range L.length).filter (phiOf L j)
def ansOf (ans : List Int) (s : Rst) : Int := if ans.length ≤ s.calls.length then 0 else ans.getD s.calls.length 0
def stepAt (L : List Nd) (ans : List Int) (most : Int) (j : Nat) (vs : List Int) (s : Rst) (got : Nat → Option Int) : Rst × (Nat → Option Int) × Nat :=
 if (ndAt L j).kind = gRegion then (s, setVs got ((phisOf L j).zip vs), j)
 else if (ndAt L j).kind = gIf then (s, got, nextIf (ysI gYes L L.length) (ysI gNo L L.length) j (vs.getD 0 0))
 else if (ndAt L j).kind = gTick then (tickR most s, got, j)
 else if (ndAt L j).kind = gPrint then (printR (vs.getD 0 0) s, got, j)
 else if (ndAt L j).kind = gCall then (callR ans (ndAt L j).name vs s, setV got (j, ansOf ans s), j)
 else (retR (vs.getD 0 0) s, got, j)
noncomputable def stepW (L : List Nd) (args ans : List Int) (most : Int) (j k : Nat) (s : Rst) (got : Nat → Option Int) : Rst × (Nat → Option Int) × Nat :=
 match askX (valOf L args got) (natL (askL L j k)) with
 | none => ({ s with how := hStuck }, got, 0)
 | some vs => stepAt L ans most j vs s got
def wayK (k : List UInt8) : Prop := k = gRegion ∨ k = gIf ∨ k = gTick ∨ k = gPrint ∨ k = gCall ∨ k = gReturn
section
variable {A S : Nat → Prop} {B : Nat} {w X Y : World} {wb rb fp mb : Nat} {s : Rst} {argv ansv : Value} {most ways : Int} {nm : List UInt8} {P Q : Int} {nv tv yv ov pv : Value} {L : List Nd} {tk : List (Nat × Nat)} {args : List Int} {got : Nat → Option Int}
theorem fol_told {ys ns : List Nat} {ph : List (List Nat)} (h : WkR A S B X wb rb fp mb s argv ansv most ways nm P nv tv yv ov pv L tk ys ns ph args got) (hB : B ≤ X.heap.size) (hw : ButP (fun k => k = mb ∨ k = rb ∨ S k) w X) {s' : Rst} (hr : RecTo S X rb s' ansv most ways Y) : ButP (fun k => k = mb ∨ k = rb ∨ S k) w Y ∧ ∃ S', (∀ b, S' b → S b ∨ w.heap.size ≤ b) ∧ WkR A S' Y.heap.size Y wb rb fp mb s' argv ansv most ways nm P nv tv yv ov pv L tk ys ns ph args got := by
 obtain ⟨S', h1, h2⟩ := h.told hB hr
 exact ⟨hw.trans hr.2 (fun x hx => Or.inl (Or.inr hx)), S', fun b hb => (h1 b hb).imp id (fun e => Nat.le_trans hw.size e), h2⟩
set_option maxRecDepth 100000 in
set_option maxHeartbeats 16000000 in
theorem follow_any (h : WkJ A S B w wb rb fp mb s argv ansv most ways nm P nv tv yv ov pv L tk (ysI gYes L L.length) (ysI gNo L L.length) (phI L L.length) args got (valOf L args got)) (hB : B ≤ w.heap.size) (hW : WellG onesE twosE Q L) (hLow : ∀ n ∈ L, LowN n) (hal : (args.length : Int) = Q) (hways : 1 ≤ ways ∧ ways ≤ 100000) {a j k : Nat} (hs : Spot L a j k) (hk6 : wayK (ndAt L j).kind) {ans : List Int} (hans : XRow A w ansv ans.length (intsG ans)) (hal2 : ans.length ≤ 100000) (htk : 0 ≤ s.tks ∧ s.tks ≤ 1000000000) (hout : s.out.length ≤ 1000) :
  Calls Tryz.prog 44 #[.pointer (some ⟨wb, 0, none⟩), .agg #[.int .i64 (j : Int), .int .i64 (k : Int)]] w fun e w' => e = .returned (.int .i64 ((stepW L args ans most j k s got).2.2 : Int)) ∧ ButP (fun k => k = mb ∨ k = rb ∨ S k) w w' ∧ ∃ S', (∀ b, S' b → S b ∨ w.heap.size ≤ b) ∧ WkR A S' w'.heap.size w' wb rb fp mb (stepW L args ans most j k s got).1 argv ansv most ways nm P nv tv yv ov pv L tk (ysI gYes L L.length) (ysI gNo L L.length) (phI L L.length) args (stepW L args ans most j k s got).2.1 := by
 have hV := valOf_is hW args got
 obtain ⟨hj, _, hkl⟩ := spot_low hs hLow
 have fl := fits_len (hW.node.at (ndAt_ex hj)).fits
 obtain ⟨ad, cap, rfl⟩ := h.fl.gr.is
 obtain ⟨g, off, ad1, cap1, e1, hg, _, hr, k0, k1, k2, k3⟩ := h.fl.gr.node hj
 subst e1
 have hnd : ndAt L (j : Int) = L[j] := by simp [ndAt, hj]
 have hL := hW.len.2
 have hL' : (L.length : Int) ≤ 1000 := by omega
 have hj' : (j : Int) < (L.length : Int) := by omega
 have c0 : w.cell? ⟨wb, 0, none⟩ = some (.pointer (some ⟨fp, 0, none⟩)) := cell_of_blk h.blk 0
 have b2 : w.cell? ⟨fp, 2, none⟩ = some (.slice (some ⟨g, off, none⟩) L.length cap) := cell_of_blk h.fl.blk 2
 have hlo := h.lo
 have hsb := h.sb
 have hwl := heap_lt h.blk
 have hfl := heap_lt h.fl.blk
 have hgl : g < w.heap.size := by have := (h.ab _ hg).1; omega
 obtain ⟨W0, hW0⟩ : ∃ W0, W0 = w.alloc (.cells #[.int .i64 (j : Int), .int .i64 (k : Int)] 99) := ⟨_, rfl⟩
 have hb0 : Below w.heap.size w W0 := by rw [hW0]; (repeat (first | exact Below.refl _ _ | assumption | refine Below.drew ?_ | refine bT ?_ _ | refine bS ?_ _ | refine bA ?_ _))
 have hz0 : W0.heap.size = w.heap.size + 1 := by rw [hW0]; simp
 have hx0 : W0.heap[w.heap.size]? = some (.cells #[.int .i64 (j : Int), .int .i64 (k : Int)] 99 (0, 0)) := by rw [hW0]; exact heap_alloc_new _ _
 have hS : ∀ W : World, Below W0.heap.size W0 W → W.cell? ⟨wb, 0, none⟩ = some (.pointer (some ⟨fp, 0, none⟩)) ∧ W.cell? ⟨fp, 2, none⟩ = some (.slice (some ⟨g, off, none⟩) L.length cap) ∧ W.cell? ⟨w.heap.size, 0, none⟩ = some (.int .i64 (j : Int)) ∧ W.cell? ⟨g, off + j * 4, none⟩ = some (.string ⟨L[j].kind.toArray⟩) ∧ W.cell? ⟨g, off + j * 4 + 1, none⟩ = some (.slice ad1 L[j].ins.length cap1) ∧ W.cell? ⟨g, off + j * 4 + 2, none⟩ = some (.int .i64 L[j].num) ∧ W.cell? ⟨g, off + j * 4 + 3, none⟩ = some (.string ⟨L[j].name.toArray⟩) := fun W h => by
  have h' := bl_trans hb0 hb0.size h
  exact ⟨(h'.cell (p := ⟨wb, 0, none⟩) hwl).trans c0, (h'.cell (p := ⟨fp, 2, none⟩) hfl).trans b2, cell_of_blk ((h.block _ (heap_lt hx0)).trans hx0) 0, (h'.cell (p := ⟨g, _, none⟩) hgl).trans k0, (h'.cell (p := ⟨g, _, none⟩) hgl).trans k1, (h'.cell (p := ⟨g, _, none⟩) hgl).trans k2, (h'.cell (p := ⟨g, _, none⟩) hgl).trans k3⟩
 have HAS := hidX (fun (Y : World) (hY : Below w.heap.size w Y) => asked_any (h.below (hY.mono hB)).fl (fun b hb' => by have := (h.ab b hb').1; have := hY.size; omega) hW hLow hs)
 have HASK := hidX (fun (Y : World) (hY : Below w.heap.size w Y) (v : Value) hv => asks_any (X := Y) (v := v) (h.below (hY.mono hB)) (Nat.le_trans hB hY.size) hW hLow hV hal hways hs hv)
 have HFL := hidX (show (ndAt L j).kind = gRegion ∨ (askL L j k).length = (ndAt L j).ins.length - 1 from by
  by_cases e : (ndAt L j).kind = gRegion
  ·exact Or.inl e
  ·right; unfold askL; rw [if_neg e]; simp)
 have HPH := hidX (show (ndAt L j).kind = gRegion → (askL L j k).length = (phisOf L j).length ∧ (phI L L.length)[j]? = some (phisOf L j) ∧ (phisOf L j).length ≤ 1000 ∧ ∀ q ∈ phisOf L j, q < L.length ∧ keeps L q from fun hk => by
  refine ⟨by unfold askL; rw [if_pos hk, List.length_map]; rfl, ph_is hW hj, ?_, fun q hq => ?_⟩
  ·refine Nat.le_trans (List.length_filter_le _ _) ?_
   simpa using hL
  ·have := mem_phi.1 hq
   exact ⟨this.1, Or.inl this.2.1⟩)
 have HONE := hidX (show ((ndAt L j).kind = gIf ∨ (ndAt L j).kind = gPrint ∨ (ndAt L j).kind = gReturn) → (ndAt L j).ins.length = 2 from fun hk => by
  rcases hk with hk | hk | hk
  ·exact fl.2.2.2.2.2.2.2.1 hk
  ·exact fl.2.2.2.2.2.2.2.2.2.2.2.1 hk
  ·exact fl.2.2.2.2.2.2.2.2.2.2.2.2.2 hk)
 have HFEW := hidX (askL_few hLow hL j k)
 have HB0 := hidX hb0
 have HX0 := hidX hx0
 have HZ0 := hidX hz0
 have HJ := hidX h
 have HS := hidX hS
 have HND := hidX hnd
 have HK6 := hidX hk6
 have HANS := hidX hans
 generalize hst : stepW L args ans most j k s got = st
 obtain ⟨s', got', a'⟩ := st
 have HST := hidX hst
 unfold stepW at HST
 rw [hnd] at HFL HPH HONE HK6
 cases hax : askX (valOf L args got) (natL (askL L j k)) with
 | none =>
  rw [hax] at HASK HST
  generalize askL L j k = al at *
  generalize hn : L[j] = n at *
  clear h hW hLow hs hax hV hal hnd hr hx0 hS hb0 hz0 k0 k1 k2 k3 b2 hst hk6 hans fl hn
  go_enter Tryz.func44, Tryz.ntmps44
  go_wp2_with fail
  rw [← hW0]
  clear hW0
  go_region_held3 (fun W => W.cell? ⟨wb, 0, none⟩ = some (.pointer (some ⟨fp, 0, none⟩)) ∧ W.cell? ⟨fp, 2, none⟩ = some (.slice (some ⟨g, off, none⟩) L.length cap) ∧ W.cell? ⟨w.heap.size, 0, none⟩ = some (.int .i64 (j : Int)) ∧ W.cell? ⟨g, off + j * 4, none⟩ = some (.string ⟨n.kind.toArray⟩) ∧ W.cell? ⟨g, off + j * 4 + 1, none⟩ = some (.slice ad1 n.ins.length cap1) ∧ W.cell? ⟨g, off + j * 4 + 2, none⟩ = some (.int .i64 n.num) ∧ W.cell? ⟨g, off + j * 4 + 3, none⟩ = some (.string ⟨n.name.toArray⟩)) (exact HS.out _ (by (repeat (first | exact Below.refl _ _ | assumption | refine Below.drew ?_ | refine bT ?_ _ | refine bS ?_ _ | refine bA ?_ _)))) (fail)
  generalize hX1 : World.drew _ = X1
  have hb1 : Below W0.heap.size W0 X1 := by rw [← hX1]; (repeat (first | exact Below.refl _ _ | assumption | refine Below.drew ?_ | refine bT ?_ _ | refine bS ?_ _ | refine bA ?_ _))
  have hx1 : X1.heap[W0.heap.size]? = some (.cells #[.string ⟨n.kind.toArray⟩, .slice ad1 n.ins.length cap1, .int .i64 n.num, .string ⟨n.name.toArray⟩] 55 (0, 0)) := by rw [← hX1]; exact heap_alloc_new W0 _
  have hw1 : Below w.heap.size w X1 := bl_trans HB0.out HB0.out.size hb1
  have hsp := (hb1.block _ (heap_lt HX0.out)).trans HX0.out
  have hz1 := hw1.size
  have hS2 : ∀ W : World, But mb X1 W → W.cell? ⟨wb, 0, none⟩ = some (.pointer (some ⟨fp, 0, none⟩)) ∧ W.cell? ⟨w.heap.size, 0, none⟩ = some (.int .i64 (j : Int)) ∧ W.cell? ⟨w.heap.size, 1, none⟩ = some (.int .i64 (k : Int)) := fun W h => by
   have e1 := (h.block _ (heap_lt hsp) (by omega)).trans hsp
   exact ⟨cell_of_blk ((h.block wb (by omega) (by omega)).trans ((hw1.block wb hwl).trans HJ.out.blk)) 0, cell_of_blk e1 0, cell_of_blk e1 1⟩
  have hak : ∀ (Y : World) (v2 : Value), Below X1.heap.size X1 Y → XRow (fun b => A b ∨ (X1.heap.size ≤ b ∧ b < Y.heap.size)) Y v2 al.length (intsG al) → Calls Tryz.prog 75 #[.pointer (some ⟨wb, 0, none⟩), v2] Y fun e w' => WkJ A S B w' wb rb fp mb s argv ansv most ways nm P (.slice (some ⟨g, off, none⟩) L.length cap) tv yv ov pv L tk (ysI gYes L L.length) (ysI gNo L L.length) (phI L L.length) args got (valOf L args got) ∧ But mb X1 w' ∧ ∃ v3, e = .returned (.tuple #[v3, .bool false]) := fun Y v2 hY hrow => by
   have hwy : Below w.heap.size w Y := bl_trans hw1 hw1.size hY
   refine (HASK.out Y hwy v2 (hrow.imp (fun b hb => hb.imp id (fun h => ⟨by omega, h.2⟩)) (fun _ _ => rfl))).mono ?_
   rintro e w' ⟨hj3, hbt3, v3, ok3, rfl, hav⟩
   obtain rfl : ok3 = .bool false := hav
   exact ⟨hj3, (But.of hY).trans hbt3, v3, rfl⟩
  have HAK := hidX hak
  have HS2 := hidX hS2
  have HN1 := hidX hx1
  have HW1 := hidX hw1
  have HSP := hidX hsp
  clear hX1 hb1 hx1 hw1 hsp hS2 hak HS c0 HASK
  go_wp2_with fail
  go_region_held3 (fun W => W.cell? ⟨wb, 0, none⟩ = some (.pointer (some ⟨fp, 0, none⟩)) ∧ W.cell? ⟨w.heap.size, 0, none⟩ = some (.int .i64 (j : Int)) ∧ W.cell? ⟨w.heap.size, 1, none⟩ = some (.int .i64 (k : Int)))
   (first | with_reducible exact s9 | with_reducible exact s8 | exact HS2.out _ (But.of (by (repeat (first | exact Below.refl _ _ | assumption | refine Below.drew ?_ | refine bT ?_ _ | refine bS ?_ _ | refine bA ?_ _)))))
   (first
    | (go_at_call 69; refine (HAS.out _ (bl_trans HW1.out HW1.out.size (by (repeat (first | exact Below.refl _ _ | assumption | refine Below.drew ?_ | refine bT ?_ _ | refine bS ?_ _ | refine bA ?_ _))))).mono ?_; rintro e X8 ⟨v8, rfl, hb8, hr8⟩; have hb8' : Below X1.heap.size X1 X8 := Below.trans (Below.drew (Below.refl _ _)) (show Below X1.heap.size X1.drew X8 from hb8); have s8 := HS2.out _ (But.of hb8'); have HB8 := hidX hb8'; have HR8 := hidX (show XRow (fun b => A b ∨ (X1.heap.size ≤ b ∧ b < X8.heap.size)) X8 v8 al.length (intsG al) from hr8); clear hb8 hb8' hr8)
    | (go_at_call 75; refine (HAK.out _ _ HB8.out HR8.out).mono ?_; rintro e X9 ⟨hj9, hbt9, v9, rfl⟩; have s9 := HS2.out _ hbt9; have HBT := hidX hbt9; have HJ9 := hidX hj9; clear hbt9 hj9))
  have hz9 := HBT.out.size
  have hn3 := (HBT.out.block _ (heap_lt HN1.out) (by have := HZ0.out; omega)).trans HN1.out
  have n0 : X9.cell? ⟨W0.heap.size, 0, none⟩ = some (.string ⟨n.kind.toArray⟩) := cell_of_blk hn3 0
  have hsp9 := (HBT.out.block _ (heap_lt HSP.out) (by omega)).trans HSP.out
  have c1 : X9.cell? ⟨wb, 1, none⟩ = some (.pointer (some ⟨rb, 0, none⟩)) := cell_of_blk HJ9.out.blk 1
  have HBW := hidX ((But.of (p := mb) HW1.out).trans HBT.out)
  have HBP := hidX (show ButP (fun k => k = mb ∨ k = rb ∨ S k) w X9 from ButP.but HBW.out (Or.inl rfl))
  have HN9 := hidX hn3
  have HSP9 := hidX hsp9
  have hB9 : B ≤ X9.heap.size := by omega
  have HTO := hidX (fun (Y : World) (s5 : Rst) (h5 : RecTo S X9 rb s5 ansv most ways Y) => (show (ButP (fun k => k = mb ∨ k = rb ∨ S k) w Y ∧ ∃ S', (∀ b, S' b → S b ∨ w.heap.size ≤ b) ∧ WkR A S' Y.heap.size Y wb rb fp mb s5 argv ansv most ways nm P (.slice (some ⟨g, off, none⟩) L.length cap) tv yv ov pv L tk (ysI gYes L L.length) (ysI gNo L L.length) (phI L L.length) args got) ∧ Y.heap[w.heap.size]? = X9.heap[w.heap.size]? ∧ Y.heap[wb]? = X9.heap[wb]? from ⟨fol_told HJ9.out.rest hB9 HBP.out h5, h5.2.block _ (heap_lt hsp9) (fun e => e.elim (by omega) (fun e => by have := (hsb _ e).1; omega)), h5.2.block _ (by omega) (fun e => e.elim (by omega) (fun e => (hsb _ e).2.1 rfl))⟩))
  clear hn3 hsp9
  have hres : ({ s with how := hStuck }, got, 0) = (s', got', a') := HST.out
  simp only [Prod.mk.injEq] at hres
  obtain ⟨rfl, rfl, rfl⟩ := hres
  have HLW := hidX (stop_r HJ9.out.rcd hStuck)
  go_wp2_with fail
  refine HLW.out.mono ?_
  rintro e W5 ⟨rfl, h5⟩
  have HFN := hidX (HTO.out W5 _ h5).1
  clear h5
  go_wp2
  go_ret
  exact ⟨rfl, HFN.out.1, HFN.out.2⟩
 | some vs =>
  have hvs := (askX_at hax).1
  rw [natL_len] at hvs
  have HVS := hidX hvs
  rw [hax] at HASK HST
  generalize askL L j k = al at *
  generalize hn : L[j] = n at *
  clear h hW hLow hs hax hV hal hnd hr hx0 hS hb0 hz0 k0 k1 k2 k3 b2 hst hk6 hans fl hn hvs
  go_enter Tryz.func44, Tryz.ntmps44
  go_wp2_with fail
  rw [← hW0]
  clear hW0
  go_region_held3 (fun W => W.cell? ⟨wb, 0, none⟩ = some (.pointer (some ⟨fp, 0, none⟩)) ∧ W.cell? ⟨fp, 2, none⟩ = some (.slice (some ⟨g, off, none⟩) L.length cap) ∧ W.cell? ⟨w.heap.size, 0, none⟩ = some (.int .i64 (j : Int)) ∧ W.cell? ⟨g, off + j * 4, none⟩ = some (.string ⟨n.kind.toArray⟩) ∧ W.cell? ⟨g, off + j * 4 + 1, none⟩ = some (.slice ad1 n.ins.length cap1) ∧ W.cell? ⟨g, off + j * 4 + 2, none⟩ = some (.int .i64 n.num) ∧ W.cell? ⟨g, off + j * 4 + 3, none⟩ = some (.string ⟨n.name.toArray⟩)) (exact HS.out _ (by (repeat (first | exact Below.refl _ _ | assumption | refine Below.drew ?_ | refine bT ?_ _ | refine bS ?_ _ | refine bA ?_ _)))) (fail)
  generalize hX1 : World.drew _ = X1
  have hb1 : Below W0.heap.size W0 X1 := by rw [← hX1]; (repeat (first | exact Below.refl _ _ | assumption | refine Below.drew ?_ | refine bT ?_ _ | refine bS ?_ _ | refine bA ?_ _))
  have hx1 : X1.heap[W0.heap.size]? = some (.cells #[.string ⟨n.kind.toArray⟩, .slice ad1 n.ins.length cap1, .int .i64 n.num, .string ⟨n.name.toArray⟩] 55 (0, 0)) := by rw [← hX1]; exact heap_alloc_new W0 _
  have hw1 : Below w.heap.size w X1 := bl_trans HB0.out HB0.out.size hb1
  have hsp := (hb1.block _ (heap_lt HX0.out)).trans HX0.out
  have hz1 := hw1.size
  have hS2 : ∀ W : World, But mb X1 W → W.cell? ⟨wb, 0, none⟩ = some (.pointer (some ⟨fp, 0, none⟩)) ∧ W.cell? ⟨w.heap.size, 0, none⟩ = some (.int .i64 (j : Int)) ∧ W.cell? ⟨w.heap.size, 1, none⟩ = some (.int .i64 (k : Int)) := fun W h => by
   have e1 := (h.block _ (heap_lt hsp) (by omega)).trans hsp
   exact ⟨cell_of_blk ((h.block wb (by omega) (by omega)).trans ((hw1.block wb hwl).trans HJ.out.blk)) 0, cell_of_blk e1 0, cell_of_blk e1 1⟩
  have hak : ∀ (Y : World) (v2 : Value), Below X1.heap.size X1 Y → XRow (fun b => A b ∨ (X1.heap.size ≤ b ∧ b < Y.heap.size)) Y v2 al.length (intsG al) → Calls Tryz.prog 75 #[.pointer (some ⟨wb, 0, none⟩), v2] Y fun e w' => WkJ A S B w' wb rb fp mb s argv ansv most ways nm P (.slice (some ⟨g, off, none⟩) L.length cap) tv yv ov pv L tk (ysI gYes L L.length) (ysI gNo L L.length) (phI L L.length) args got (valOf L args got) ∧ But mb X1 w' ∧ ∃ v3, e = .returned (.tuple #[v3, .bool true]) ∧ XRow (fun b => X1.heap.size ≤ b ∧ b < w'.heap.size) w' v3 vs.length (intsG vs) := fun Y v2 hY hrow => by
   have hwy : Below w.heap.size w Y := bl_trans hw1 hw1.size hY
   refine (HASK.out Y hwy v2 (hrow.imp (fun b hb => hb.imp id (fun h => ⟨by omega, h.2⟩)) (fun _ _ => rfl))).mono ?_
   rintro e w' ⟨hj3, hbt3, v3, ok3, rfl, hav⟩
   obtain ⟨rfl, hr3⟩ : ok3 = .bool true ∧ XRow (fun b => Y.heap.size ≤ b ∧ b < w'.heap.size) w' v3 vs.length (intsG vs) := hav
   exact ⟨hj3, (But.of hY).trans hbt3, v3, rfl, hr3.imp (fun b hb => ⟨Nat.le_trans hY.size hb.1, hb.2⟩) (fun _ _ => rfl)⟩
  have HAK := hidX hak
  have HS2 := hidX hS2
  have HN1 := hidX hx1
  have HW1 := hidX hw1
  have HSP := hidX hsp
  clear hX1 hb1 hx1 hw1 hsp hS2 hak HS c0 HASK
  go_wp2_with fail
  go_region_held3 (fun W => W.cell? ⟨wb, 0, none⟩ = some (.pointer (some ⟨fp, 0, none⟩)) ∧ W.cell? ⟨w.heap.size, 0, none⟩ = some (.int .i64 (j : Int)) ∧ W.cell? ⟨w.heap.size, 1, none⟩ = some (.int .i64 (k : Int)))
   (first | with_reducible exact s9 | with_reducible exact s8 | exact HS2.out _ (But.of (by (repeat (first | exact Below.refl _ _ | assumption | refine Below.drew ?_ | refine bT ?_ _ | refine bS ?_ _ | refine bA ?_ _)))))
   (first
    | (go_at_call 69; refine (HAS.out _ (bl_trans HW1.out HW1.out.size (by (repeat (first | exact Below.refl _ _ | assumption | refine Below.drew ?_ | refine bT ?_ _ | refine bS ?_ _ | refine bA ?_ _))))).mono ?_; rintro e X8 ⟨v8, rfl, hb8, hr8⟩; have hb8' : Below X1.heap.size X1 X8 := Below.trans (Below.drew (Below.refl _ _)) (show Below X1.heap.size X1.drew X8 from hb8); have s8 := HS2.out _ (But.of hb8'); have HB8 := hidX hb8'; have HR8 := hidX (show XRow (fun b => A b ∨ (X1.heap.size ≤ b ∧ b < X8.heap.size)) X8 v8 al.length (intsG al) from hr8); clear hb8 hb8' hr8)
    | (go_at_call 75; refine (HAK.out _ _ HB8.out HR8.out).mono ?_; rintro e X9 ⟨hj9, hbt9, v9, rfl, hr9⟩; have s9 := HS2.out _ hbt9; have HBT := hidX hbt9; have HJ9 := hidX hj9; have HR9 := hidX hr9; clear hbt9 hj9 hr9))
  have hz9 := HBT.out.size
  have hn3 := (HBT.out.block _ (heap_lt HN1.out) (by have := HZ0.out; omega)).trans HN1.out
  have n0 : X9.cell? ⟨W0.heap.size, 0, none⟩ = some (.string ⟨n.kind.toArray⟩) := cell_of_blk hn3 0
  have hsp9 := (HBT.out.block _ (heap_lt HSP.out) (by omega)).trans HSP.out
  have c1 : X9.cell? ⟨wb, 1, none⟩ = some (.pointer (some ⟨rb, 0, none⟩)) := cell_of_blk HJ9.out.blk 1
  have HBW := hidX ((But.of (p := mb) HW1.out).trans HBT.out)
  have HBP := hidX (show ButP (fun k => k = mb ∨ k = rb ∨ S k) w X9 from ButP.but HBW.out (Or.inl rfl))
  have HN9 := hidX hn3
  have HSP9 := hidX hsp9
  have hB9 : B ≤ X9.heap.size := by omega
  have HTO := hidX (fun (Y : World) (s5 : Rst) (h5 : RecTo S X9 rb s5 ansv most ways Y) => (show (ButP (fun k => k = mb ∨ k = rb ∨ S k) w Y ∧ ∃ S', (∀ b, S' b → S b ∨ w.heap.size ≤ b) ∧ WkR A S' Y.heap.size Y wb rb fp mb s5 argv ansv most ways nm P (.slice (some ⟨g, off, none⟩) L.length cap) tv yv ov pv L tk (ysI gYes L L.length) (ysI gNo L L.length) (phI L L.length) args got) ∧ Y.heap[w.heap.size]? = X9.heap[w.heap.size]? ∧ Y.heap[wb]? = X9.heap[wb]? from ⟨fol_told HJ9.out.rest hB9 HBP.out h5, h5.2.block _ (heap_lt hsp9) (fun e => e.elim (by omega) (fun e => by have := (hsb _ e).1; omega)), h5.2.block _ (by omega) (fun e => e.elim (by omega) (fun e => (hsb _ e).2.1 rfl))⟩))
  clear hn3 hsp9
  rcases HK6.out with hk | hk | hk | hk | hk | hk
  ·have hres : (s, setVs got ((phisOf L j).zip vs), j) = (s', got', a') := by
    rw [← HST.out]
    show _ = stepAt L ans most j vs s got
    unfold stepAt
    rw [HND.out, if_pos hk]
   simp only [Prod.mk.injEq] at hres
   obtain ⟨rfl, rfl, rfl⟩ := hres
   have t0 : (n.kind == [114, 101, 103, 105, 111, 110]) = true := by rw [hk]; decide
   obtain ⟨hla, hqs, hql, hqk⟩ := HPH.out hk
   generalize hqq : phisOf L j = qs at *
   have HQE := hidX hqq
   clear hqq
   have hvl : vs.length = qs.length := by have := HVS.out; omega
   obtain ⟨a3, c3, rfl⟩ := HR9.out.is
   obtain ⟨adp, capp, rfl⟩ : ∃ a c, pv = .slice a (phI L L.length).length c := by obtain ⟨xs, h1, _⟩ := HJ9.out.fl.phs; exact h1.is
   have hlp := HJ9.out.fl.lp
   obtain ⟨gp, offp, adq, capq, e1, hgp, kq, hrq⟩ := HJ9.out.fl.phi (i := j) (by omega)
   subst e1
   have hqe : (phI L L.length)[j]'(by omega) = qs := by
    have := List.getElem?_eq_getElem (l := phI L L.length) (i := j) (by omega)
    rw [this] at hqs; injection hqs
   rw [hqe] at kq hrq
   have c0 : X9.cell? ⟨wb, 0, none⟩ = some (.pointer (some ⟨fp, 0, none⟩)) := cell_of_blk HJ9.out.blk 0
   have b6 : X9.cell? ⟨fp, 6, none⟩ = some (.slice (some ⟨gp, offp, none⟩) (phI L L.length).length capp) := cell_of_blk HJ9.out.fl.blk 6
   have sp0 : X9.cell? ⟨w.heap.size, 0, none⟩ = some (.int .i64 (j : Int)) := cell_of_blk HSP9.out 0
   have hip : (j : Int) < ((phI L L.length).length : Int) := by omega
   have hpl' : ((phI L L.length).length : Int) ≤ 1000 := by omega
   have hql' : (qs.length : Int) ≤ 1000 := by omega
   have HRQ := hidX hrq
   have HQK := hidX hqk
   have HWR := hidX HJ9.out.rest
   clear hrq hqk hqs hqe hlp hla hk c1
   go_wp2_with fail
   go_quiet (fail)
   generalize hX10 : World.drewN _ _ = X10
   have hb10 : Below X9.heap.size X9 X10 := by rw [← hX10]; (repeat (first | exact Below.refl _ _ | assumption | refine Below.drew ?_ | refine bT ?_ _ | refine bS ?_ _ | refine bA ?_ _))
   have HB10 := hidX (But.of (p := mb) hb10)
   have HW10 := hidX (HWR.out.below (hb10.mono hB9))
   clear hX10 hb10 n0 sp0 c0 b6 kq
   have HZ10 := hidX (show B ≤ X10.heap.size from Nat.le_trans hB9 HB10.out.size)
   have HVR := hidX HR9.out
   go_wp2_with fail
   go_loopw [56] (fun vi wr => ∃ (q : Nat), q ≤ qs.length ∧ vi = .int .i64 q ∧ Hid (WkR A S B wr wb rb fp mb s argv ansv most ways nm P (.slice (some ⟨g, off, none⟩) L.length cap) tv yv ov (.slice (some ⟨gp, offp, none⟩) (phI L L.length).length capp) L tk (ysI gYes L L.length) (ysI gNo L L.length) (phI L L.length) args (setVs got ((qs.zip vs).take q))) ∧ Hid (But mb X9 wr)) (fun vi _ => qs.length - (intOf vi).toNat)
   case atStart => exact ⟨0, Nat.zero_le _, rfl, HW10.out, HB10.out⟩
   case round =>
    obtain ⟨q, hq, rfl, HWQ, HBQ⟩ := hrel
    by_cases hlt : q < qs.length
    ·have hlt' : (q : Int) < (qs.length : Int) := by omega
     have hltv : q < vs.length := by omega
     obtain ⟨g4, off4, e4, hg4, kc⟩ := HRQ.out.nat hlt
     subst e4
     obtain ⟨g3, off3, e3, hg3, kx⟩ := HVR.out.int hltv
     subst e3
     have hm := HQK.out _ (List.getElem_mem hlt)
     have hgd : qs.getD q 0 = qs[q] := by simp [hlt]
     rw [hgd] at kc
     have htk2 : (qs.zip vs).take (q + 1) = (qs.zip vs).take q ++ [(qs[q], vs[q])] := by rw [List.take_succ_eq_append_getElem (by simp; omega)]; simp
     have hab := HJ9.out.ab g4 hg4
     have u4 : wr.heap[g4]? = X9.heap[g4]? := HBQ.out.block g4 (by omega) hab.2.2.2.1
     have u3 : wr.heap[g3]? = X9.heap[g3]? := HBQ.out.block g3 hg3.2 (by have := hg3.1; omega)
     have kc' := (World.cell?_of_block (a := ⟨g4, _, none⟩) u4).trans kc
     have kx' := (World.cell?_of_block (a := ⟨g3, _, none⟩) u3).trans kx
     have c10 : wr.cell? ⟨wb, 3, none⟩ = some (.map (some mb)) := cell_of_blk HWQ.out.blk 3
     have hBr : B ≤ wr.heap.size := Nat.le_trans hB9 HBQ.out.size
     obtain ⟨W1, hu, hb1, hw1⟩ := (HWQ.out.below (show Below B wr wr.drew from (Below.drew (Below.refl _ _)))).put hBr hL qs[q] hm.1 hm.2 vs[q]
     have HFIN := hidX (show WkR A S B W1 wb rb fp mb s argv ansv most ways nm P (.slice (some ⟨g, off, none⟩) L.length cap) tv yv ov (.slice (some ⟨gp, offp, none⟩) (phI L L.length).length capp) L tk (ysI gYes L L.length) (ysI gNo L L.length) (phI L L.length) args (setVs got ((qs.zip vs).take (q + 1))) ∧ But mb X9 W1 from ⟨by rw [htk2]; unfold setVs; rw [List.foldl_append]; exact hw1, HBQ.out.trans (⟨hb1.os, hb1.tape, hb1.output, hb1.size, hb1.block⟩)⟩)
     generalize qs[q] = m at *
     generalize vs[q] = x at *
     clear htk2 hm hgd hab u4 u3 kc kx hb1 hw1 HWQ
     go_wp2_with fail
     go_region
     all_goals (
      go_wp2
      go_roundw
      case rel => exact ⟨q + 1, by omega, by go_num, HFIN.out.1, HFIN.out.2⟩
      case measure => simp [intOf]; omega)
    ·have hqn : q = qs.length := by omega
     subst hqn
     have hspr := (HBQ.out.block _ (heap_lt HSP9.out) (by omega)).trans HSP9.out
     have sp1 : wr.cell? ⟨w.heap.size, 0, none⟩ = some (.int .i64 (j : Int)) := cell_of_blk hspr 0
     have HFIN := hidX (show WkR A S B wr wb rb fp mb s argv ansv most ways nm P (.slice (some ⟨g, off, none⟩) L.length cap) tv yv ov (.slice (some ⟨gp, offp, none⟩) (phI L L.length).length capp) L tk (ysI gYes L L.length) (ysI gNo L L.length) (phI L L.length) args (setVs got (qs.zip vs)) from by have h := HWQ.out; rwa [List.take_of_length_le (by simp; omega)] at h)
     clear hspr HWQ
     go_wp2
     go_ret
     exact ⟨rfl, ButP.but (HBW.out.trans HBQ.out) (Or.inl rfl), S, fun _ h => Or.inl h, by rw [HQE.out]; exact HFIN.out.up (Nat.le_trans hB9 HBQ.out.size)⟩
  ·have hres : (s, got, nextIf (ysI gYes L L.length) (ysI gNo L L.length) j (vs.getD 0 0)) = (s', got', a') := by
    rw [← HST.out]
    show _ = stepAt L ans most j vs s got
    unfold stepAt
    rw [HND.out, if_neg (by rw [hk]; decide), if_pos hk]
   simp only [Prod.mk.injEq] at hres
   obtain ⟨rfl, rfl, rfl⟩ := hres
   have t0 : (n.kind == [114, 101, 103, 105, 111, 110]) = false := by rw [hk]; decide
   have t1 : (n.kind == [105, 102]) = true := by rw [hk]; decide
   have hvl : vs.length = 1 := by
    have h1 := HVS.out
    have h2 := HONE.out (by rw [hk]; decide)
    rcases HFL.out with h | h
    ·rw [hk] at h; exact absurd h (by decide)
    ·omega
   obtain ⟨a3, c3, rfl⟩ := HR9.out.is
   obtain ⟨g3, off3, e3, hg3, kx⟩ := HR9.out.int (k := 0) (by omega)
   subst e3
   have hvl' : (vs.length : Int) = 1 := by omega
   have kx' : X9.cell? ⟨g3, off3, none⟩ = some (.int .i64 (vs.getD 0 0)) := by rw [Nat.add_zero] at kx; rw [kx]; simp [show 0 < vs.length by omega]
   clear kx
   generalize hxv : vs.getD 0 0 = x at *
   have HXV := hidX hxv
   clear hxv
   have c0 : X9.cell? ⟨wb, 0, none⟩ = some (.pointer (some ⟨fp, 0, none⟩)) := cell_of_blk HJ9.out.blk 0
   have hly := HJ9.out.fl.ly
   have hln := HJ9.out.fl.ln
   have hyr := HJ9.out.fl.yes
   have hnr := HJ9.out.fl.no
   have b4 : X9.cell? ⟨fp, 4, none⟩ = some yv := cell_of_blk HJ9.out.fl.blk 4
   have b5 : X9.cell? ⟨fp, 5, none⟩ = some ov := cell_of_blk HJ9.out.fl.blk 5
   have sp0 : X9.cell? ⟨w.heap.size, 0, none⟩ = some (.int .i64 (j : Int)) := cell_of_blk HSP9.out 0
   obtain ⟨ay, cy, ey⟩ := hyr.is
   obtain ⟨an, cn, en⟩ := hnr.is
   subst ey en
   obtain ⟨ys, hys⟩ : ∃ ys, ysI gYes L L.length = ys := ⟨_, rfl⟩
   obtain ⟨ns, hns⟩ : ∃ ns, ysI gNo L L.length = ns := ⟨_, rfl⟩
   have HYS := hidX (And.intro hys hns)
   have HWR := hidX HJ9.out.rest
   rw [hys] at hly hyr b4
   rw [hns] at hln hnr b5
   clear hys hns
   have hjy : j < ys.length := by omega
   have hjn : j < ns.length := by omega
   obtain ⟨gy, offy, ey, _, ky⟩ := hyr.nat hjy
   obtain ⟨gn, offn, en, _, kn⟩ := hnr.nat hjn
   subst ey en
   have hjy' : (j : Int) < (ys.length : Int) := by omega
   have hjn' : (j : Int) < (ns.length : Int) := by omega
   have hyl' : (ys.length : Int) ≤ 1000 := by omega
   have hnl' : (ns.length : Int) ≤ 1000 := by omega
   have HEND := hidX (fun (Y : World) (hY : Below X9.heap.size X9 Y) => (And.intro (HBP.out.trans (ButP.of (S := fun _ => False) hY) (fun _ h => h.elim)) (HWR.out.below (hY.mono hB9)) ))
   generalize hyv : ys.getD j 0 = yj at *
   generalize hnv : ns.getD j 0 = nj at *
   have HYV := hidX (And.intro hyv hnv)
   clear hyr hnr hly hln hjy hjn hyv hnv hk
   by_cases hx0 : x = 0
   ·have tx : (x == 0) = true := by simp [hx0]
    have HX0' := hidX hx0
    clear hx0
    go_wp2_with fail
    go_quiet (fail)
    go_wp2
    go_ret
    have h := HEND.out (X9.drewN nq) (by (repeat (first | exact Below.refl _ _ | assumption | refine Below.drew ?_ | refine bT ?_ _ | refine bS ?_ _ | refine bA ?_ _)))
    exact ⟨by unfold nextIf; rw [HXV.out, HYS.out.1, HYS.out.2, if_neg (by simp [HX0'.out]), HYV.out.2]; rfl, h.1, S, fun _ h => Or.inl h, h.2.up (by have := h.2.lo; simp; omega)⟩
   ·have tx : (x == 0) = false := by simp [hx0]
    have HX0' := hidX hx0
    clear hx0
    go_wp2_with fail
    go_quiet (fail)
    go_wp2
    go_ret
    have h := HEND.out (X9.drewN nq) (by (repeat (first | exact Below.refl _ _ | assumption | refine Below.drew ?_ | refine bT ?_ _ | refine bS ?_ _ | refine bA ?_ _)))
    exact ⟨by unfold nextIf; rw [HXV.out, HYS.out.1, HYS.out.2, if_pos HX0'.out, HYV.out.1]; rfl, h.1, S, fun _ h => Or.inl h, h.2.up (by have := h.2.lo; simp; omega)⟩
  ·have hres : (tickR most s, got, j) = (s', got', a') := by
    rw [← HST.out]
    show _ = stepAt L ans most j vs s got
    unfold stepAt
    rw [HND.out, if_neg (by rw [hk]; decide), if_neg (by rw [hk]; decide), if_pos hk]
   simp only [Prod.mk.injEq] at hres
   obtain ⟨rfl, rfl, rfl⟩ := hres
   have t0 : (n.kind == [114, 101, 103, 105, 111, 110]) = false := by rw [hk]; decide
   have t1 : (n.kind == [105, 102]) = false := by rw [hk]; decide
   have t2 : (n.kind == [116, 105, 99, 107]) = true := by rw [hk]; decide
   have HLW := hidX (tick_r HJ9.out.rcd htk)
   clear hk
   go_wp2_with fail
   refine HLW.out.mono ?_
   rintro e W5 ⟨rfl, h5⟩
   obtain ⟨h6, h7, _⟩ := HTO.out W5 _ h5
   have sp5 : W5.cell? ⟨w.heap.size, 0, none⟩ = some (.int .i64 (j : Int)) := cell_of_blk (h7.trans HSP9.out) 0
   have HFN := hidX h6
   clear h5 h6 h7
   go_wp2
   go_ret
   exact ⟨rfl, HFN.out.1, HFN.out.2⟩
  ·have hres : (printR (vs.getD 0 0) s, got, j) = (s', got', a') := by
    rw [← HST.out]
    show _ = stepAt L ans most j vs s got
    unfold stepAt
    rw [HND.out, if_neg (by rw [hk]; decide), if_neg (by rw [hk]; decide), if_neg (by rw [hk]; decide), if_pos hk]
   simp only [Prod.mk.injEq] at hres
   obtain ⟨rfl, rfl, rfl⟩ := hres
   have t0 : (n.kind == [114, 101, 103, 105, 111, 110]) = false := by rw [hk]; decide
   have t1 : (n.kind == [105, 102]) = false := by rw [hk]; decide
   have t2 : (n.kind == [116, 105, 99, 107]) = false := by rw [hk]; decide
   have t3 : (n.kind == [112, 114, 105, 110, 116]) = true := by rw [hk]; decide
   have hvl : vs.length = 1 := by
    have h1 := HVS.out
    have h2 := HONE.out (by rw [hk]; decide)
    rcases HFL.out with h | h
    ·rw [hk] at h; exact absurd h (by decide)
    ·omega
   obtain ⟨a3, c3, rfl⟩ := HR9.out.is
   obtain ⟨g3, off3, e3, hg3, kx⟩ := HR9.out.int (k := 0) (by omega)
   subst e3
   have hvl' : (vs.length : Int) = 1 := by omega
   have kx' : X9.cell? ⟨g3, off3, none⟩ = some (.int .i64 (vs.getD 0 0)) := by rw [Nat.add_zero] at kx; rw [kx]; simp [show 0 < vs.length by omega]
   clear kx
   generalize hxv : vs.getD 0 0 = x at *
   have HXV := hidX hxv
   clear hxv
   have HLW := hidX (fun (Y : World) (hY : Below X9.heap.size X9 Y) => (show Calls Tryz.prog 77 #[.pointer (some ⟨rb, 0, none⟩), .int .i64 x] Y fun e w' => e = .returned (.tuple #[]) ∧ RecTo S X9 rb _ ansv most ways w' from (print_r (HJ9.out.rcd.below hY) hout x).mono (fun e w' h => ⟨h.1, RecTo.from hY h.2⟩)))
   have HS5 := hidX (fun (W : World) (h1 : W.heap[wb]? = X9.heap[wb]?) (h2 : W.heap[g3]? = X9.heap[g3]?) => (show W.cell? ⟨wb, 1, none⟩ = some (.pointer (some ⟨rb, 0, none⟩)) ∧ W.cell? ⟨g3, off3, none⟩ = some (.int .i64 x) from ⟨cell_of_blk (h1.trans HJ9.out.blk) 1, (World.cell?_of_block (a := ⟨g3, off3, none⟩) h2).trans kx'⟩))
   have HG3 := hidX hg3
   clear hk
   go_wp2_with fail
   go_region_held3 (fun W => W.cell? ⟨wb, 1, none⟩ = some (.pointer (some ⟨rb, 0, none⟩)) ∧ W.cell? ⟨g3, off3, none⟩ = some (.int .i64 x))
    (first | with_reducible exact s5 | exact HS5.out _ rfl rfl)
    ((go_at_call 77; refine (HLW.out _ (by (repeat (first | exact Below.refl _ _ | assumption | refine Below.drew ?_ | refine bT ?_ _ | refine bS ?_ _ | refine bA ?_ _)))).mono ?_; rintro e W5 ⟨rfl, h5⟩; have h8 := HTO.out W5 _ h5; have s5 := HS5.out W5 h8.2.2 (h5.2.block g3 HG3.out.2 (fun e => e.elim (fun e => (by have := HG3.out.1; omega)) (fun e => (by have := (hsb _ e).1; have := HG3.out.1; omega)))); have sp5 : W5.cell? ⟨w.heap.size, 0, none⟩ = some (.int .i64 (j : Int)) := cell_of_blk (h8.2.1.trans HSP9.out) 0; have HFN := hidX h8.1; clear h5 h8))
   go_wp2
   go_ret
   exact ⟨rfl, HFN.out.1, by rw [HXV.out]; exact HFN.out.2⟩
  ·have hres : (callR ans n.name vs s, setV got (j, ansOf ans s), j) = (s', got', a') := by
    rw [← HST.out]
    show _ = stepAt L ans most j vs s got
    unfold stepAt
    rw [HND.out, if_neg (by rw [hk]; decide), if_neg (by rw [hk]; decide), if_neg (by rw [hk]; decide), if_neg (by rw [hk]; decide), if_pos hk]
   simp only [Prod.mk.injEq] at hres
   obtain ⟨rfl, rfl, rfl⟩ := hres
   have t0 : (n.kind == [114, 101, 103, 105, 111, 110]) = false := by rw [hk]; decide
   have t1 : (n.kind == [105, 102]) = false := by rw [hk]; decide
   have t2 : (n.kind == [116, 105, 99, 107]) = false := by rw [hk]; decide
   have t3 : (n.kind == [112, 114, 105, 110, 116]) = false := by rw [hk]; decide
   have t4 : (n.kind == [99, 97, 108, 108]) = true := by rw [hk]; decide
   have hvl : vs.length ≤ 5000 := by have := HVS.out; have := HFEW.out; omega
   obtain ⟨a3, c3, rfl⟩ := HR9.out.is
   have hz00 := HZ0.out
   have HLW := hidX (fun (Y : World) (hY : Below X9.heap.size X9 Y) => (show Calls Tryz.prog 78 #[.pointer (some ⟨rb, 0, none⟩), .string ⟨n.name.toArray⟩, .slice a3 vs.length c3] Y fun e w' => e = .returned (.int .i64 (ansOf ans s)) ∧ RecTo S X9 rb (callR ans n.name vs s) ansv most ways w' from (call_r (HJ9.out.rcd.below hY) n.name (HR9.out.imp (fun b hb => Nat.lt_of_lt_of_le hb.2 hY.size) (fun b hb => hY.block b hb.2)) hvl (HANS.out.imp (fun _ h => h) (fun b hb => ((hY.block b (by have := (HJ9.out.ab b hb).1; omega)).trans (HBW.out.block b (by have := (HJ9.out.ab b hb).1; omega) (HJ9.out.ab b hb).2.2.2.1)))) (fun b hb => ⟨by have := (HJ9.out.ab b hb).1; have := hY.size; omega, (HJ9.out.ab b hb).2.2.1, (HJ9.out.ab b hb).2.2.2.2⟩) hal2).mono (fun e w' h => ⟨h.1, RecTo.from hY h.2⟩)))
   have HS5 := hidX (fun (W : World) (h1 : W.heap[wb]? = X9.heap[wb]?) (h2 : W.heap[w.heap.size]? = X9.heap[w.heap.size]?) (h3 : W.heap[W0.heap.size]? = X9.heap[W0.heap.size]?) => (show W.cell? ⟨wb, 1, none⟩ = some (.pointer (some ⟨rb, 0, none⟩)) ∧ W.cell? ⟨wb, 3, none⟩ = some (.map (some mb)) ∧ W.cell? ⟨w.heap.size, 0, none⟩ = some (.int .i64 (j : Int)) ∧ W.cell? ⟨W0.heap.size, 3, none⟩ = some (.string ⟨n.name.toArray⟩) from ⟨cell_of_blk (h1.trans HJ9.out.blk) 1, cell_of_blk (h1.trans HJ9.out.blk) 3, cell_of_blk (h2.trans HSP9.out) 0, cell_of_blk (h3.trans HN9.out) 3⟩))
   have HKI := hidX (show keeps L j from Or.inr (by rw [HND.out]; exact hk))
   have hn9 := heap_lt HN9.out
   have hup : ∀ W5, RecTo S X9 rb (callR ans n.name vs s) ansv most ways W5 → (W5.heap[wb]? = X9.heap[wb]? ∧ W5.heap[w.heap.size]? = X9.heap[w.heap.size]? ∧ W5.heap[W0.heap.size]? = X9.heap[W0.heap.size]?) ∧ ∃ W6, (Instr.mapUpdate 94 (.map (some mb)) (.int .i64 (j : Int)) (.agg #[.int .i64 (ansOf ans s), .int .i64 0])).run Tryz.prog W5 = .ok () W6 ∧ (W6.heap[wb]? = X9.heap[wb]? ∧ W6.heap[w.heap.size]? = X9.heap[w.heap.size]? ∧ W6.heap[W0.heap.size]? = X9.heap[W0.heap.size]?) ∧ ButP (fun k => k = mb ∨ k = rb ∨ S k) w W6 ∧ ∃ S', (∀ b, S' b → S b ∨ w.heap.size ≤ b) ∧ WkR A S' W6.heap.size W6 wb rb fp mb (callR ans n.name vs s) argv ansv most ways nm P (.slice (some ⟨g, off, none⟩) L.length cap) tv yv ov pv L tk (ysI gYes L L.length) (ysI gNo L L.length) (phI L L.length) args (setV got (j, ansOf ans s)) := fun W5 h5 => by
    obtain ⟨⟨h6, S', h7, h8⟩, h9, h10⟩ := HTO.out W5 _ h5
    have h11 : W5.heap[W0.heap.size]? = X9.heap[W0.heap.size]? := h5.2.block _ hn9 (fun e => e.elim (by omega) (fun e => by have := (hsb _ e).1; omega))
    obtain ⟨W6, hu, hb6, hw6⟩ := h8.put (Nat.le_refl _) hL j hj HKI.out (ansOf ans s)
    have hz5 := h5.2.size
    refine ⟨⟨h10, h9, h11⟩, W6, hu, ⟨(hb6.block _ (by omega) (by omega)).trans h10, (hb6.block _ (by omega) (by omega)).trans h9, (hb6.block _ (by omega) (by omega)).trans h11⟩, h6.trans (ButP.but (S := fun k => k = mb) hb6 rfl) (fun x hx => Or.inl (Or.inl hx)), S', h7, hw6.up hb6.size⟩
   have HUP := hidX hup
   generalize hae : ansOf ans s = av at *
   have HAE := hidX hae
   clear hae
   clear hk hup hn9 hz00
   go_wp2_with fail
   go_region_held3 (fun W => W.cell? ⟨wb, 1, none⟩ = some (.pointer (some ⟨rb, 0, none⟩)) ∧ W.cell? ⟨wb, 3, none⟩ = some (.map (some mb)) ∧ W.cell? ⟨w.heap.size, 0, none⟩ = some (.int .i64 (j : Int)) ∧ W.cell? ⟨W0.heap.size, 3, none⟩ = some (.string ⟨n.name.toArray⟩))
    (first | with_reducible exact s6 | with_reducible exact s5 | exact HS5.out _ rfl rfl rfl)
    ((go_at_call 78; refine (HLW.out _ (by (repeat (first | exact Below.refl _ _ | assumption | refine Below.drew ?_ | refine bT ?_ _ | refine bS ?_ _ | refine bA ?_ _)))).mono ?_; rintro e W5 ⟨rfl, h5⟩; have h8 := HUP.out W5 h5; have s5 := HS5.out W5 h8.1.1 h8.1.2.1 h8.1.2.2; obtain ⟨W6, hu6, h9, h10⟩ := h8.2; have s6 := HS5.out W6 h9.1 h9.2.1 h9.2.2; have HFN := hidX h10; clear h5 h8 h9 h10))
   have sp6 := s6.2.2.1
   clear s5 s6 hu6
   go_wp2
   go_ret
   exact ⟨rfl, HFN.out.1, by rw [HAE.out]; exact HFN.out.2⟩
  ·have hres : (retR (vs.getD 0 0) s, got, j) = (s', got', a') := by
    rw [← HST.out]
    show _ = stepAt L ans most j vs s got
    unfold stepAt
    rw [HND.out, if_neg (by rw [hk]; decide), if_neg (by rw [hk]; decide), if_neg (by rw [hk]; decide), if_neg (by rw [hk]; decide), if_neg (by rw [hk]; decide)]
   simp only [Prod.mk.injEq] at hres
   obtain ⟨rfl, rfl, rfl⟩ := hres
   have t0 : (n.kind == [114, 101, 103, 105, 111, 110]) = false := by rw [hk]; decide
   have t1 : (n.kind == [105, 102]) = false := by rw [hk]; decide
   have t2 : (n.kind == [116, 105, 99, 107]) = false := by rw [hk]; decide
   have t3 : (n.kind == [112, 114, 105, 110, 116]) = false := by rw [hk]; decide
   have t4 : (n.kind == [99, 97, 108, 108]) = false := by rw [hk]; decide
   have t5 : (n.kind == [114, 101, 116, 117, 114, 110]) = true := by rw [hk]; decide
   have hvl : vs.length = 1 := by
    have h1 := HVS.out
    have h2 := HONE.out (by rw [hk]; decide)
    rcases HFL.out with h | h
    ·rw [hk] at h; exact absurd h (by decide)
    ·omega
   obtain ⟨a3, c3, rfl⟩ := HR9.out.is
   obtain ⟨g3, off3, e3, hg3, kx⟩ := HR9.out.int (k := 0) (by omega)
   subst e3
   have hvl' : (vs.length : Int) = 1 := by omega
   have kx' : X9.cell? ⟨g3, off3, none⟩ = some (.int .i64 (vs.getD 0 0)) := by rw [Nat.add_zero] at kx; rw [kx]; simp [show 0 < vs.length by omega]
   clear kx
   generalize hxv : vs.getD 0 0 = x at *
   have HXV := hidX hxv
   clear hxv
   have HLW := hidX (fun (Y : World) (hY : Below X9.heap.size X9 Y) => (show Calls Tryz.prog 79 #[.pointer (some ⟨rb, 0, none⟩), .int .i64 x] Y fun e w' => e = .returned (.tuple #[]) ∧ RecTo S X9 rb _ ansv most ways w' from (return_r (HJ9.out.rcd.below hY) x).mono (fun e w' h => ⟨h.1, RecTo.from hY h.2⟩)))
   have HS5 := hidX (fun (W : World) (h1 : W.heap[wb]? = X9.heap[wb]?) (h2 : W.heap[g3]? = X9.heap[g3]?) => (show W.cell? ⟨wb, 1, none⟩ = some (.pointer (some ⟨rb, 0, none⟩)) ∧ W.cell? ⟨g3, off3, none⟩ = some (.int .i64 x) from ⟨cell_of_blk (h1.trans HJ9.out.blk) 1, (World.cell?_of_block (a := ⟨g3, off3, none⟩) h2).trans kx'⟩))
   have HG3 := hidX hg3
   clear hk
   go_wp2_with fail
   go_region_held3 (fun W => W.cell? ⟨wb, 1, none⟩ = some (.pointer (some ⟨rb, 0, none⟩)) ∧ W.cell? ⟨g3, off3, none⟩ = some (.int .i64 x))
    (first | with_reducible exact s5 | exact HS5.out _ rfl rfl)
    ((go_at_call 79; refine (HLW.out _ (by (repeat (first | exact Below.refl _ _ | assumption | refine Below.drew ?_ | refine bT ?_ _ | refine bS ?_ _ | refine bA ?_ _)))).mono ?_; rintro e W5 ⟨rfl, h5⟩; have h8 := HTO.out W5 _ h5; have s5 := HS5.out W5 h8.2.2 (h5.2.block g3 HG3.out.2 (fun e => e.elim (fun e => (by have := HG3.out.1; omega)) (fun e => (by have := (hsb _ e).1; have := HG3.out.1; omega)))); have sp5 : W5.cell? ⟨w.heap.size, 0, none⟩ = some (.int .i64 (j : Int)) := cell_of_blk (h8.2.1.trans HSP9.out) 0; have HFN := hidX h8.1; clear h5 h8))
   go_wp2
   go_ret
   exact ⟨rfl, HFN.out.1, by rw [HXV.out]; exact HFN.out.2⟩
end
end Go.Proofs.YtlgejjmdanmglaaGreatDoor
