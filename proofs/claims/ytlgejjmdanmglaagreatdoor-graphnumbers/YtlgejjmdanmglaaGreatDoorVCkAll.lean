/- Our own: texts joined: GrCk, GrBnd, GrMax. -/
import Derived.Test.YtlgejjmdanmglaaGreatDoorVShapes
import Derived.Test.YtlgejjmdanmglaaGreatDoorVGrCnt
import Derived.Test.YtlgejjmdanmglaaGreatDoorVValAll
import Derived.Test.YtlgejjmdanmglaaGreatDoorVGrRep
import Derived.Test.YtlgejjmdanmglaaGreatDoorVBase
namespace Go.Proofs.YtlgejjmdanmglaaGreatDoor
open Go.RowKit
theorem facts6 {w : World} {b c : Nat} {x0 x1 x2 x3 y0 y1 y2 : Value} {t u : TypeId} (h : w.heap[b]? = some (.cells #[x0, x1, x2, x3] t (0, 0))) (k : w.heap[c]? = some (.cells #[y0, y1, y2] u (0, 0))) : w.cell? ⟨b, 0, none⟩ = some x0 ∧ w.cell? ⟨b, 1, none⟩ = some x1 ∧ w.cell? ⟨b, 2, none⟩ = some x2 ∧ w.cell? ⟨b, 3, none⟩ = some x3 ∧ w.cell? ⟨c, 1, none⟩ = some y1 ∧ w.cell? ⟨c, 2, none⟩ = some y2 :=
 ⟨cell_of_blk h 0, cell_of_blk h 1, cell_of_blk h 2, cell_of_blk h 3, cell_of_blk k 1, cell_of_blk k 2⟩
theorem facts10 {w : World} {b c : Nat} {x0 x1 x2 x3 y0 y1 y2 y3 y4 y5 : Value} {t u : TypeId} (h : w.heap[b]? = some (.cells #[x0, x1, x2, x3] t (0, 0))) (k : w.heap[c]? = some (.cells #[y0, y1, y2, y3, y4, y5] u (0, 0))) : w.cell? ⟨b, 0, none⟩ = some x0 ∧ w.cell? ⟨b, 1, none⟩ = some x1 ∧ w.cell? ⟨b, 2, none⟩ = some x2 ∧ w.cell? ⟨b, 3, none⟩ = some x3 ∧ w.cell? ⟨c, 0, none⟩ = some y0 ∧ w.cell? ⟨c, 1, none⟩ = some y1 ∧ w.cell? ⟨c, 2, none⟩ = some y2 ∧ w.cell? ⟨c, 3, none⟩ = some y3 ∧ w.cell? ⟨c, 4, none⟩ = some y4 ∧ w.cell? ⟨c, 5, none⟩ = some y5 :=
 ⟨cell_of_blk h 0, cell_of_blk h 1, cell_of_blk h 2, cell_of_blk h 3, cell_of_blk k 0, cell_of_blk k 1, cell_of_blk k 2, cell_of_blk k 3, cell_of_blk k 4, cell_of_blk k 5⟩
theorem nxt3 {w X Y : World} {b c : Nat} {x y : Obj} (h : Hid (X.heap[b]? = some x)) (k : Hid (X.heap[c]? = some y)) (hb : Hid (Below w.heap.size w X)) (hn : Below X.heap.size X Y) : Hid (Y.heap[b]? = some x) ∧ Hid (Y.heap[c]? = some y) ∧ Hid (Below w.heap.size w Y) :=
 ⟨hidX ((hn.block _ (heap_lt h.out)).trans h.out), hidX ((hn.block _ (heap_lt k.out)).trans k.out), hidX (bl_trans hb.out hb.out.size hn)⟩
def shpsC (L : List Nd) : List Value := L.flatMap fun n => shpC (shp n.kind)
theorem shpsC_at : ∀ (L : List Nd) (i : Nat) (hi : i < L.length) (j : Nat), j < 6 → (shpsC L)[i * 6 + j]? = (shpC (shp L[i].kind))[j]?
 | [], _, hi, _, _ => absurd hi (by simp)
 | n :: r, 0, _, j, hj => by
  unfold shpsC
  rw [List.flatMap_cons, Nat.zero_mul, Nat.zero_add, List.getElem?_append_left (by simpa [shpC] using hj)]; rfl
 | n :: r, i + 1, hi, j, hj => by
  have := shpsC_at r i (by simpa using hi) j hj
  unfold shpsC at *
  rw [List.flatMap_cons, List.getElem?_append_right (by simp [shpC]; omega), show (i + 1) * 6 + j - (shpC (shp n.kind)).length = i * 6 + j by simp [shpC]; omega]
  exact this
structure Ck (w : World) (a : Nat → Addr) (p m : Nat) (nm : List UInt8) (P : Int) (nv sv : Value) (L : List Nd) : Prop where
 s : Sents w a
 blk : w.heap[p]? = some (.cells #[.string ⟨nm.toArray⟩, .int .i64 P, nv, sv, .map (some m)] 116 (0, 0))
 nodes : XG true (InH w) w nv L
 shapes : XRow (InH w) w sv L.length (shpsC L)
 cnt : CntAt w m (keysL L)
 low : ∀ n ∈ L, LowN n
 few : L.length ≤ 1000
theorem Ck.below {w w' : World} {a : Nat → Addr} {p m : Nat} {nm : List UInt8} {P : Int} {nv sv : Value} {L : List Nd} (h : Ck w a p m nm P nv sv L) (hb : Below w.heap.size w w') : Ck w' a p m nm P nv sv L :=
 ⟨h.s.below hb, (hb.block p (heap_lt h.blk)).trans h.blk, h.nodes.imp (inH_up hb) (keepH hb), h.shapes.imp (inH_up hb) (keepH hb), h.cnt.keep (hb.block m h.cnt.lt), h.low, h.few⟩
theorem shape_cells {A : Nat → Prop} {w : World} {ad : Option Addr} {l cap : Nat} {L : List Nd} (h : XRow A w (.slice ad l cap) L.length (shpsC L)) {i : Nat} (hi : i < L.length) :
  ∃ g off, ad = some ⟨g, off, none⟩ ∧ A g ∧ w.cell? ⟨g, off + i * 6, none⟩ = some (.string ⟨(shp L[i].kind).kind.toArray⟩) ∧ w.cell? ⟨g, off + i * 6 + 1, none⟩ = some (.string ⟨(shp L[i].kind).ins.toArray⟩) ∧ w.cell? ⟨g, off + i * 6 + 2, none⟩ = some (.string ⟨(shp L[i].kind).more.toArray⟩) ∧ w.cell? ⟨g, off + i * 6 + 3, none⟩ = some (.bool (shp L[i].kind).num) ∧ w.cell? ⟨g, off + i * 6 + 4, none⟩ = some (.bool (shp L[i].kind).name) ∧ w.cell? ⟨g, off + i * 6 + 5, none⟩ = some (.string ⟨(shp L[i].kind).gives.toArray⟩) := by
 obtain ⟨g, off, h1, h2, h3⟩ := h.el 6 hi (fun j hj => shpsC_at L i hi j hj)
 refine ⟨g, off, h1, h2, h3 0 _ (by decide) rfl, ?_, ?_, ?_, ?_, ?_⟩
 ·have := h3 1 _ (by decide) rfl; rwa [← Nat.add_assoc] at this
 ·have := h3 2 _ (by decide) rfl; rwa [← Nat.add_assoc] at this
 ·have := h3 3 _ (by decide) rfl; rwa [← Nat.add_assoc] at this
 ·have := h3 4 _ (by decide) rfl; rwa [← Nat.add_assoc] at this
 ·have := h3 5 _ (by decide) rfl; rwa [← Nat.add_assoc] at this
theorem ndAt_get {L : List Nd} {i : Nat} (h : i < L.length) : ndAt L (i : Int) = L[i] := by simp [ndAt, h]
set_option maxRecDepth 100000 in
set_option maxHeartbeats 1000000 in
theorem reckoned_any {w X : World} {a : Nat → Addr} {p m : Nat} {nm : List UInt8} {P : Int} {nv sv : Value} {L : List Nd} (h : Ck w a p m nm P nv sv L) (hX : Below w.heap.size w X) (i : Nat) (hi : i < L.length) :
  Calls Tryz.prog 61 #[.pointer (some ⟨p, 0, none⟩), .int .i64 i] X fun e w' => w' = X ∧ ∃ v, e = .returned v ∧ XRow (InH w) X v (reck L i).length (intsG (reck L i)) := by
 obtain ⟨ad, cap, rfl⟩ := h.nodes.is
 obtain ⟨g, off, ad1, cap1, rfl, hg, hc1, hr, k0, k1, k2, k3⟩ := h.nodes.node hi
 have c2 : X.cell? ⟨p, 2, none⟩ = some (.slice (some ⟨g, off, none⟩) L.length cap) := (hX.cell (p := ⟨p, 2, none⟩) (heap_lt h.blk)).trans (cell_of_blk h.blk 2)
 replace k0 := (hX.cell (p := ⟨g, _, none⟩) hg).trans k0
 replace k1 := (hX.cell (p := ⟨g, _, none⟩) hg).trans k1
 replace hr : XRow (InH w) X _ _ _ := hr.imp (fun _ h => h) (keepH hX)
 clear k2 k3
 have hi' : (i : Int) < (L.length : Int) := by omega
 have hfew : (L.length : Int) ≤ 1000 := by have := h.few; omega
 have hrk : reck L i = if L[i].kind = gOne ∨ L[i].kind = gTwo then L[i].ins else [] := by unfold reck; rw [ndAt_get hi]
 rw [hrk]
 have HR := hidX hr
 clear hrk hr hc1 h hX
 generalize L[i].kind = kk at k0 ⊢
 generalize L[i].ins = ii at k1 HR ⊢
 by_cases e1 : kk = gOne
 ·subst e1
  rw [if_pos (Or.inl rfl)]
  have t1 : (gOne == [111, 110, 101]) = true := by decide
  go_enter Tryz.func61, Tryz.ntmps61
  go_wp2
  go_ret
  exact ⟨rfl, _, rfl, HR.out⟩
 ·by_cases e2 : kk = gTwo
  ·subst e2
   rw [if_pos (Or.inr rfl)]
   have t1 : (gTwo == [111, 110, 101]) = false := by decide
   have t2 : (gTwo == [116, 119, 111]) = true := by decide
   clear e1
   go_enter Tryz.func61, Tryz.ntmps61
   go_wp2
   go_ret
   exact ⟨rfl, _, rfl, HR.out⟩
  ·rw [if_neg (by simp [e1, e2])]
   have t1 : (kk == [111, 110, 101]) = false := ne_lit e1
   have t2 : (kk == [116, 119, 111]) = false := ne_lit e2
   clear e1 e2
   go_enter Tryz.func61, Tryz.ntmps61
   go_wp2
   go_ret
   exact ⟨rfl, _, rfl, xrow_nil _ _⟩
set_option maxRecDepth 100000 in
set_option maxHeartbeats 1000000 in
theorem hasOp_any (a : Nat → Addr) (n : Nd) (w : World) (hS : Sents w a) : Calls Tryz.prog 58 #[.string ⟨n.kind.toArray⟩, .string ⟨n.name.toArray⟩] w fun e w' => e = .returned (.bool (opB onesE twosE n)) ∧ Below w.heap.size w w' := by
 obtain ⟨nk, ni, nn, nm⟩ := n
 have H1 := hidX (one_zero a nm _ hS)
 have H2 := hidX (do_zero a nm _ hS)
 clear hS
 by_cases e1 : nk = gOne
 ·subst e1
  have hop : opB onesE twosE ⟨gOne, ni, nn, nm⟩ = decide (nm ∈ onesE) := by unfold opB; rw [if_pos rfl]
  have t1 : (gOne == [111, 110, 101]) = true := by decide
  by_cases hm : nm ∈ onesE
  ·rw [hop, decide_eq_true hm]
   simp only [if_pos hm] at H1
   clear hop H2 hm
   go_enter Tryz.func58, Tryz.ntmps58
   go_wp2_with fail
   refine H1.out.mono ?_
   rintro e w' ⟨z, rfl, n, hh⟩
   replace hh := hh.symm
   subst hh
   go_wp2
   go_ret
   exact ⟨rfl, drewN_below' _ _ _⟩
  ·rw [hop, decide_eq_false hm]
   simp only [if_neg hm] at H1
   clear hop H2 hm
   go_enter Tryz.func58, Tryz.ntmps58
   go_wp2_with fail
   refine H1.out.mono ?_
   rintro e w' ⟨z, rfl, n, hh⟩
   replace hh := hh.symm
   subst hh
   go_wp2
   go_ret
   exact ⟨rfl, drewN_below' _ _ _⟩
 ·have t1 : (nk == [111, 110, 101]) = false := ne_lit e1
  by_cases e2 : nk = gTwo
  ·subst e2
   have hop : opB onesE twosE ⟨gTwo, ni, nn, nm⟩ = decide (nm ∈ twosE) := by unfold opB; rw [if_neg e1, if_pos rfl]
   have t2 : (gTwo == [116, 119, 111]) = true := by decide
   by_cases hm : nm ∈ twosE
   ·rw [hop, decide_eq_true hm]
    simp only [if_pos hm] at H2
    clear hop H1 e1 hm
    go_enter Tryz.func58, Tryz.ntmps58
    go_wp2_with fail
    refine H2.out.mono ?_
    rintro e w' ⟨z, rfl, n, hh⟩
    replace hh := hh.symm
    subst hh
    go_wp2
    go_ret
    exact ⟨rfl, drewN_below' _ _ _⟩
   ·rw [hop, decide_eq_false hm]
    simp only [if_neg hm] at H2
    clear hop H1 e1 hm
    go_enter Tryz.func58, Tryz.ntmps58
    go_wp2_with fail
    refine H2.out.mono ?_
    rintro e w' ⟨z, rfl, n, hh⟩
    replace hh := hh.symm
    subst hh
    go_wp2
    go_ret
    exact ⟨rfl, drewN_below' _ _ _⟩
  ·have hop : opB onesE twosE ⟨nk, ni, nn, nm⟩ = true := by unfold opB; rw [if_neg e1, if_neg e2]
   rw [hop]
   have t2 : (nk == [116, 119, 111]) = false := ne_lit e2
   clear hop H1 H2 e1 e2
   go_enter Tryz.func58, Tryz.ntmps58
   go_wp2
   go_ret
   exact ⟨rfl, Below.refl _ _⟩
end Go.Proofs.YtlgejjmdanmglaaGreatDoor
namespace Go.Proofs.YtlgejjmdanmglaaGreatDoor
open Go.RowKit
theorem bnd_bad {P : Int} {N : Nat} {n : Nd} {q : Nat} (hq : q < n.ins.length) (h : ¬ (0 ≤ n.ins[q] ∧ n.ins[q] < N)) : bndB P N n = false := by
 unfold bndB
 have : n.ins.all (fun i => decide (0 ≤ i ∧ i < (N : Int))) = false := by
  rw [List.all_eq_false]
  exact ⟨n.ins[q], List.getElem_mem _, by simpa using h⟩
 rw [this]; rfl
theorem bnd_good {P : Int} {N : Nat} {n : Nd} (h : ∀ j (hj : j < n.ins.length), 0 ≤ n.ins[j] ∧ n.ins[j] < N) : bndB P N n = (n.kind != gParam || decide (0 ≤ n.num ∧ n.num < P)) := by
 unfold bndB
 have : n.ins.all (fun i => decide (0 ≤ i ∧ i < (N : Int))) = true := by
  rw [List.all_eq_true]
  intro x hx
  obtain ⟨j, hj, e⟩ := List.getElem_of_mem hx
  rw [← e]; simpa using h j hj
 rw [this]; rfl
set_option maxRecDepth 100000 in
set_option maxHeartbeats 2000000 in
theorem bounded_any {w : World} {a : Nat → Addr} {p m : Nat} {nm : List UInt8} {P : Int} {nv sv : Value} {L : List Nd} (h : Ck w a p m nm P nv sv L) (n : Nd) (hn : LowN n) (ad1 : Option Addr) (cap1 : Nat) (hr : XRow (InH w) w (.slice ad1 n.ins.length cap1) n.ins.length (intsG n.ins)) :
  Calls Tryz.prog 57 #[.pointer (some ⟨p, 0, none⟩), ndV n ad1 cap1] w fun e w' => e = .returned (.bool (bndB P L.length n)) ∧ Below w.heap.size w w' := by
 obtain ⟨nk, ni, nn, nmm⟩ := n
 simp only at hr ⊢
 have hb0 := box_blk w #[.string ⟨nk.toArray⟩, .slice ad1 ni.length cap1, .int .i64 nn, .string ⟨nmm.toArray⟩] 55
 obtain ⟨ad, cap, rfl⟩ := h.nodes.is
 have hpl := heap_lt h.blk
 have c2 : w.cell? ⟨p, 2, none⟩ = some (.slice ad L.length cap) := cell_of_blk h.blk 2
 have c1 : w.cell? ⟨p, 1, none⟩ = some (.int .i64 P) := cell_of_blk h.blk 1
 have hni : (ni.length : Int) ≤ 1000 := by have := hn.ins; simp only at this; omega
 have hbad := fun q (hq : q < ni.length) hx => bnd_bad (P := P) (N := L.length) (n := ⟨nk, ni, nn, nmm⟩) (q := q) hq hx
 have hgood := bnd_good (P := P) (N := L.length) (n := ⟨nk, ni, nn, nmm⟩)
 simp only at hbad hgood
 generalize bndB P L.length ⟨nk, ni, nn, nmm⟩ = res at hbad hgood
 have HB := hidX hbad
 have HG := hidX hgood
 have HR := hidX hr
 clear hbad hgood hr h hn
 go_enter Tryz.func57, Tryz.ntmps57
 go_wp2_with fail
 go_loop [10] (fun vi => ∃ q : Nat, q ≤ ni.length ∧ vi = .int .i64 q ∧ Hid (∀ j (hj : j < q) (hq : q ≤ ni.length), 0 ≤ ni[j]'(by omega) ∧ ni[j]'(by omega) < (L.length : Int))) (fun vi => ni.length - (intOf vi).toNat)
 case atStart => exact ⟨0, Nat.zero_le _, rfl, fun j hj => absurd hj (by omega)⟩
 case round =>
  obtain ⟨q, hq, rfl, HA⟩ := hrel
  by_cases hlt : q < ni.length
  ·have hlt' : (q : Int) < (ni.length : Int) := by omega
   obtain ⟨g, off, rfl, hg, hc⟩ := HR.out.int hlt
   have hb := HB.out q hlt
   have hstep := fun (hx : 0 ≤ ni[q] ∧ ni[q] < (L.length : Int)) (j : Nat) (hj : j < q + 1) (hq2 : q + 1 ≤ ni.length) => show 0 ≤ ni[j]'(by omega) ∧ ni[j]'(by omega) < (L.length : Int) from by
    by_cases e : j = q
    ·subst e; exact hx
    ·exact HA.out j (by omega) (by omega)
   generalize ni[q] = x at hc hb hstep
   have HBB := hidX hb
   have HST := hidX hstep
   clear hb hstep
   by_cases x0 : x < 0
   ·have hres : res = false := HBB.out (by omega)
    subst hres
    go_wp2
    go_ret
    exact ⟨rfl, hb0⟩
   ·by_cases x1 : (L.length : Int) ≤ x
    ·have hres : res = false := HBB.out (by omega)
     subst hres
     go_wp2
     go_ret
     exact ⟨rfl, hb0⟩
    ·have HS := hidX (HST.out ⟨by omega, by omega⟩)
     go_wp2
     go_round
     case rel => exact ⟨q + 1, by omega, by go_num, HS.out⟩
     case measure => simp [intOf]; omega
  ·have hqn : q = ni.length := by omega
   subst hqn
   have hres := HG.out (fun j hj => HA.out j hj (Nat.le_refl _))
   have HRS := hidX hres
   clear hres
   by_cases e1 : nk = gParam
   ·subst e1
    have t1 : (gParam == [112, 97, 114, 97, 109]) = true := by decide
    by_cases x0 : nn < 0
    ·have hres : res = false := by rw [HRS.out]; simp; omega
     subst hres
     have y0 : ¬ (0 ≤ nn) := by omega
     have y1 : decide (0 ≤ nn) = false := by simpa using y0
     go_wp2_with fail
     go_quiet (fail)
     go_wp2
     go_ret
     exact ⟨rfl, by (repeat (first | exact Below.refl _ _ | assumption | refine Below.drew ?_ | refine bT ?_ _ | refine bS ?_ _ | refine bA ?_ _))⟩
    ·have y0 : 0 ≤ nn := by omega
     have y1 : decide (0 ≤ nn) = true := by simpa using y0
     by_cases x1 : nn < P
     ·have hres : res = true := by rw [HRS.out]; simp; omega
      subst hres
      go_wp2_with fail
      go_quiet (fail)
      go_wp2
      go_ret
      exact ⟨rfl, by (repeat (first | exact Below.refl _ _ | assumption | refine Below.drew ?_ | refine bT ?_ _ | refine bS ?_ _ | refine bA ?_ _))⟩
     ·have hres : res = false := by rw [HRS.out]; simp; omega
      subst hres
      go_wp2_with fail
      go_quiet (fail)
      go_wp2
      go_ret
      exact ⟨ret_bool (decide_eq_false (by omega)), by (repeat (first | exact Below.refl _ _ | assumption | refine Below.drew ?_ | refine bT ?_ _ | refine bS ?_ _ | refine bA ?_ _))⟩
   ·have t1 : (nk == [112, 97, 114, 97, 109]) = false := ne_lit e1
    have hres : res = true := by rw [HRS.out]; simp [e1]
    subst hres
    clear e1
    go_wp2_with fail
    go_quiet (fail)
    go_wp2
    go_ret
    exact ⟨rfl, by (repeat (first | exact Below.refl _ _ | assumption | refine Below.drew ?_ | refine bT ?_ _ | refine bS ?_ _ | refine bA ?_ _))⟩
end Go.Proofs.YtlgejjmdanmglaaGreatDoor
namespace Go.Proofs.YtlgejjmdanmglaaGreatDoor
open Go.RowKit
set_option maxRecDepth 100000 in
theorem index_any (A : Nat → Prop) (l : List Int) (hl : l.length ≤ 100000) (x : Int) (v : Value) (w : World) (hr : XRow A w v l.length (intsG l)) :
  Calls Tryz.prog 92 #[v, .int .i64 x] w fun e w' => w' = w ∧ ∃ r : Int, e = .returned (.int .i64 r) ∧ (0 ≤ r ↔ x ∈ l) := by
 obtain ⟨ad, cap, rfl⟩ := hr.is
 have hl' : (l.length : Int) ≤ 100000 := by omega
 have HR := hidX hr
 clear hr
 go_enter Tryz.func92, Tryz.ntmps92
 go_wp2_with fail
 go_loop [8] (fun vi => ∃ q : Nat, q ≤ l.length ∧ vi = .int .i64 q ∧ Hid (∀ j (hj : j < q) (hq : q ≤ l.length), l[j]'(by omega) ≠ x)) (fun vi => l.length - (intOf vi).toNat)
 case atStart => exact ⟨0, Nat.zero_le _, rfl, fun j hj => absurd hj (by omega)⟩
 case round =>
  obtain ⟨q, hq, rfl, HN⟩ := hrel
  by_cases hlt : q < l.length
  ·have hlt' : (q : Int) < (l.length : Int) := by omega
   obtain ⟨g, off, rfl, hg, hc⟩ := HR.out.int hlt
   have hm := List.getElem_mem hlt
   have hs := fun (h : l[q] ≠ x) (j : Nat) (hj : j < q + 1) (hq2 : q + 1 ≤ l.length) => show l[j]'(by omega) ≠ x from by
    by_cases e : j = q
    ·subst e; exact h
    ·exact HN.out j (by omega) (by omega)
   generalize l[q] = y at hc hm hs
   have HM := hidX hm
   have HS := hidX hs
   clear hm hs
   by_cases e : x = y
   ·subst e
    go_wp2
    go_ret
    exact ⟨rfl, _, rfl, fun _ => HM.out, fun _ => by omega⟩
   ·have HS2 := hidX (HS.out (fun h => e h.symm))
    have e' : (x == y) = false := by simpa using e
    clear HS
    go_wp2
    go_round
    case rel => exact ⟨q + 1, by omega, by go_num, HS2.out⟩
    case measure => simp [intOf]; omega
  ·have hqn : q = l.length := by omega
   subst hqn
   have hno : x ∉ l := fun hx => by
    obtain ⟨j, hj, e⟩ := List.getElem_of_mem hx
    exact HN.out j hj (Nat.le_refl _) e
   have HNO := hidX hno
   clear hno
   go_wp2
   go_ret
   exact ⟨rfl, _, rfl, fun h => absurd h (by omega), fun h => absurd h HNO.out⟩
set_option maxRecDepth 100000 in
theorem contains_any (A : Nat → Prop) (l : List Int) (hl : l.length ≤ 100000) (x : Int) (v : Value) (w : World) (hr : XRow A w v l.length (intsG l)) :
  Calls Tryz.prog 65 #[v, .int .i64 x] w fun e w' => e = .returned (.bool (decide (x ∈ l))) ∧ w' = w := by
 have HI := hidX (index_any A l hl x v w hr)
 clear hr
 generalize hd : decide (x ∈ l) = b
 have HD := hidX hd
 clear hd
 go_enter Tryz.func65, Tryz.ntmps65
 go_wp2_with fail
 refine HI.out.mono ?_
 rintro e w' ⟨hh, r, rfl, hr⟩
 replace hh := hh.symm
 subst hh
 have hb : b = decide (0 ≤ r) := by rw [← HD.out]; simp [hr]
 clear hr
 go_wp2
 go_ret
 exact ⟨ret_bool (by rw [hb]), rfl⟩
theorem max_of {l : List Int} {q : Nat} (hq : q < l.length) {m : Int} (h1 : m ∈ l.take q) (h2 : ∀ x ∈ l.take q, x ≤ m) : (if m < l[q] then l[q] else m) ∈ l.take (q + 1) ∧ ∀ x ∈ l.take (q + 1), x ≤ (if m < l[q] then l[q] else m) := by
 rw [List.take_succ_eq_append_getElem hq]
 constructor
 ·split
  ·exact List.mem_append_right _ (List.mem_singleton.2 rfl)
  ·exact List.mem_append_left _ h1
 ·intro x hx
  rcases List.mem_append.1 hx with h | h
  ·have := h2 x h; split <;> omega
  ·have := List.mem_singleton.1 h
   split <;> omega
set_option maxRecDepth 100000 in
theorem max_any (A : Nat → Prop) (l : List Int) (h1 : 1 ≤ l.length) (hl : l.length ≤ 100000) (v : Value) (w : World) (hr : XRow A w v l.length (intsG l)) :
  Calls Tryz.prog 62 #[v] w fun e w' => w' = w ∧ ∃ r : Int, e = .returned (.int .i64 r) ∧ r ∈ l ∧ ∀ x ∈ l, x ≤ r := by
 obtain ⟨ad, cap, rfl⟩ := hr.is
 have hl' : (l.length : Int) ≤ 100000 := by omega
 have h1' : (1 : Int) ≤ (l.length : Int) := by omega
 obtain ⟨g, off, rfl, hg, hc0⟩ := hr.int (k := 0) (by omega)
 rw [Nat.add_zero] at hc0
 have hst : l[0] ∈ l.take 1 ∧ ∀ x ∈ l.take 1, x ≤ l[0] := by
  cases l with
  | nil => simp at h1
  | cons y r => simp
 generalize l[0] = y0 at hc0 hst
 have HR := hidX hr
 have HST := hidX hst
 clear hr hst
 go_enter Tryz.func62, Tryz.ntmps62
 go_wp2_with fail
 go_loop [3, 4] (fun vm vi => ∃ (q : Nat) (mx : Int), 1 ≤ q ∧ q ≤ l.length ∧ vm = .int .i64 mx ∧ vi = .int .i64 q ∧ Hid (mx ∈ l.take q ∧ ∀ x ∈ l.take q, x ≤ mx)) (fun _ vi => l.length - (intOf vi).toNat)
 case atStart => exact ⟨1, y0, by omega, by omega, rfl, rfl, HST.out⟩
 case round =>
  obtain ⟨q, mx, hq1, hq, rfl, rfl, HM⟩ := hrel
  by_cases hlt : q < l.length
  ·have hlt' : (q : Int) < (l.length : Int) := by omega
   obtain ⟨g2, off2, e2, hg2, hc⟩ := HR.out.int hlt
   injection e2 with e2
   injection e2 with e2 e3
   subst e2 e3
   have hs := max_of hlt HM.out.1 HM.out.2
   generalize l[q] = y at hc hs
   have HS := hidX hs
   clear hs
   go_wp2
   go_round
   case rel => exact ⟨q + 1, _, by omega, by omega, rfl, by go_num, HS.out⟩
   case measure => simp [intOf]; omega
  ·have hqn : q = l.length := by omega
   subst hqn
   have hm := HM.out
   rw [List.take_length] at hm
   have HME := hidX hm
   clear hm
   go_wp2
   go_ret
   exact ⟨rfl, mx, rfl, HME.out.1, HME.out.2⟩
end Go.Proofs.YtlgejjmdanmglaaGreatDoor
