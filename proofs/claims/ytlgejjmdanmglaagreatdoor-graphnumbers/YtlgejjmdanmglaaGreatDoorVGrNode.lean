/- Our own: texts joined: GrNode. -/
import Derived.Test.YtlgejjmdanmglaaGreatDoorVCkAll
import Derived.Test.YtlgejjmdanmglaaGreatDoorVGivTak
import Derived.Deep.RegionHeld3
namespace Go.Proofs.YtlgejjmdanmglaaGreatDoor
open Go.RowKit
def errG (a : Nat → Addr) (c : Nat) : Value := if c = 0 then .nilIface else sentV (a (c - 1))
theorem twoG (w : World) (x y : Obj) : ((w.alloc x).alloc y).heap[w.heap.size]? = some x := (Below.heap_alloc (w.alloc x) y _ (by simp)).trans (heap_alloc_new w x)
theorem first_int {A : Nat → Prop} {w : World} {ad : Option Addr} {n cap : Nat} {l : List Int} (h : XRow A w (.slice ad n cap) l.length (intsG l)) (hl : 1 ≤ l.length) : ∃ g off, ad = some ⟨g, off, none⟩ ∧ A g ∧ w.cell? ⟨g, off, none⟩ = some (.int .i64 (l.getD 0 0)) := by
 obtain ⟨g, off, h1, h2, h3⟩ := h.int (k := 0) (by omega)
 refine ⟨g, off, h1, h2, ?_⟩
 rw [Nat.add_zero] at h3
 rw [h3, List.getD_eq_getElem?_getD, List.getElem?_eq_getElem (by omega)]; rfl
theorem phi_len {L : List Nd} {n : Nd} (h : n.kind = gPhi) : phiB L n = (n.ins.length == (ndAt L (n.ins.getD 0 0)).ins.length + 1) := by unfold phiB; simp [h]
theorem phi_no {L : List Nd} {n : Nd} (h : n.kind ≠ gPhi) : phiB L n = true := by unfold phiB; simp [h]
theorem fits_phi {n : Nd} (h : fitsB (shp n.kind) n = true) (hk : n.kind = gPhi) : 1 ≤ n.ins.length := (fits_len h).2.2.2.2.2.1 hk
theorem bnd_each {P : Int} {N : Nat} {n : Nd} (h : bndB P N n = true) : ∀ x ∈ n.ins, 0 ≤ x ∧ x < (N : Int) := by
 unfold bndB at h
 simp only [Bool.and_eq_true, List.all_eq_true, decide_eq_true_eq] at h
 exact h.1
set_option maxRecDepth 100000 in
set_option maxHeartbeats 8000000 in
theorem node_any {w : World} {a : Nat → Addr} {p m : Nat} {nm : List UInt8} {P : Int} {nv sv : Value} {L : List Nd} (h : Ck w a p m nm P nv sv L) (i : Nat) (hi : i < L.length) :
  Calls Tryz.prog 30 #[.pointer (some ⟨p, 0, none⟩), .int .i64 i] w fun e w' => e = .returned (errG a (nodeC onesE twosE P L i)) ∧ Below w.heap.size w w' := by
 have h0 := h
 obtain ⟨ad, cap, rfl⟩ := h.nodes.is
 obtain ⟨g, off, ad1, cap1, rfl, hg, hc1, hr, k0, k1, k2, k3⟩ := h.nodes.node hi
 obtain ⟨sa, sc, rfl⟩ := h.shapes.is
 obtain ⟨gs, offs, rfl, hgs, j0, j1, j2, j3, j4, j5⟩ := shape_cells h.shapes hi
 have c2 : w.cell? ⟨p, 2, none⟩ = some (.slice (some ⟨g, off, none⟩) L.length cap) := cell_of_blk h.blk 2
 have c3 : w.cell? ⟨p, 3, none⟩ = some (.slice (some ⟨gs, offs, none⟩) L.length sc) := cell_of_blk h.blk 3
 have hi' : (i : Int) < (L.length : Int) := by omega
 have hfew : (L.length : Int) ≤ 1000 := by have := h.few; omega
 have hlow := h.low _ (List.getElem_mem hi)
 have hni : (L[i].ins.length : Int) ≤ 1000 := by have := hlow.ins; omega
 have hn : nodeC onesE twosE P L i = if (shp L[i].kind).kind = [] then 4 else if ((shp L[i].kind).kind = gStart ∧ 0 < i) ∨ fitsB (shp L[i].kind) L[i] = false then 3 else if bndB P L.length L[i] = false then 2 else if opB onesE twosE L[i] = false then 4 else if givB L L[i] = false ∨ phiB L L[i] = false then 3 else 0 := by unfold nodeC; rw [ndAt_get hi]
 rw [hn]
 clear hn
 generalize L[i] = n at *
 have hkind := fun (hz : (shp n.kind).kind ≠ []) => shp_kind hz
 have hgv : ∀ X, Below w.heap.size w X → fitsB (shp n.kind) n = true → bndB P L.length n = true → Calls Tryz.prog 59 #[.pointer (some ⟨p, 0, none⟩), ndV n ad1 cap1, shpV (shp n.kind)] X fun e w' => e = .returned (.bool (givB L n)) ∧ Below X.heap.size X w' := fun X hX hf hb => given_any (h0.below hX) n hlow ad1 cap1 (hr.imp (inH_up hX) (keepH hX)) hf (bnd_each hb)
 have hbn : ∀ X, Below w.heap.size w X → Calls Tryz.prog 57 #[.pointer (some ⟨p, 0, none⟩), ndV n ad1 cap1] X fun e w' => e = .returned (.bool (bndB P L.length n)) ∧ Below X.heap.size X w' := fun X hX => bounded_any (h0.below hX) n hlow ad1 cap1 (hr.imp (inH_up hX) (keepH hX))
 have hop : ∀ X, Below w.heap.size w X → Calls Tryz.prog 58 #[.string ⟨n.kind.toArray⟩, .string ⟨n.name.toArray⟩] X fun e w' => e = .returned (.bool (opB onesE twosE n)) ∧ Below X.heap.size X w' := fun X hX => hasOp_any a n X (h0.s.below hX)
 have hft : ∀ X, Calls Tryz.prog 56 #[shpV (shp n.kind), ndV n ad1 cap1] X fun e w' => e = .returned (.bool (fitsB (shp n.kind) n)) ∧ Below X.heap.size X w' := fun X => fits_any _ n ad1 cap1 (shp_low _) (by have := hlow.ins; omega) X
 have hphi : fitsB (shp n.kind) n = true → bndB P L.length n = true → n.kind = gPhi → ∃ g1 off1, ad1 = some ⟨g1, off1, none⟩ ∧ InH w g1 ∧ ∃ x : Nat, w.cell? ⟨g1, off1, none⟩ = some (.int .i64 x) ∧ (x : Int) < (L.length : Int) ∧ ∃ ad2 cap2 l2, w.cell? ⟨g, off + x * 4 + 1, none⟩ = some (.slice ad2 l2 cap2) ∧ (l2 : Int) ≤ 1000 ∧ phiB L n = (n.ins.length == l2 + 1) ∧ 1 ≤ n.ins.length := fun hf hb hk => by
  have hl1 := fits_phi hf hk
  obtain ⟨g1, off1, e1, e2, e3⟩ := first_int hr hl1
  have hmem : n.ins.getD 0 0 ∈ n.ins := by
   rw [List.getD_eq_getElem?_getD, List.getElem?_eq_getElem (by omega), Option.getD_some]
   exact List.getElem_mem _
  obtain ⟨b1, b2⟩ := bnd_each hb _ hmem
  obtain ⟨x, hx⟩ : ∃ x : Nat, n.ins.getD 0 0 = (x : Int) := ⟨(n.ins.getD 0 0).toNat, by omega⟩
  rw [hx] at e3 b2
  have hxl : x < L.length := by omega
  obtain ⟨g', off', ad2, cap2, q1, _, _, _, _, q6, _, _⟩ := h0.nodes.node hxl
  injection q1 with q1
  injection q1 with q1 q2
  subst q1 q2
  refine ⟨g1, off1, e1, e2, x, e3, b2, ad2, cap2, _, q6, ?_, ?_, hl1⟩
  ·have := (h0.low _ (List.getElem_mem hxl)).ins; omega
  ·rw [phi_len hk, hx, ndAt_get hxl]
 have hpn := fun (hk : n.kind ≠ gPhi) => phi_no (L := L) hk
 have hsen := h0.s
 generalize fitsB (shp n.kind) n = fb at *
 generalize bndB P L.length n = bb at *
 generalize opB onesE twosE n = ob at *
 generalize givB L n = gb at *
 generalize phiB L n = pb at *
 have hkp := heap_lt h.blk
 generalize hsh : shp n.kind = s at *
 generalize hres : (if s.kind = [] then 4 else if (s.kind = gStart ∧ 0 < i) ∨ fb = false then 3 else if bb = false then 2 else if ob = false then 4 else if gb = false ∨ pb = false then 3 else 0) = res
 have HRS := hidX hres
 have HGV := hidX hgv
 have HBN := hidX hbn
 have HOP := hidX hop
 have HFT := hidX hft
 have HPH := hidX hphi
 have HPN := hidX hpn
 have HSE := hidX hsen
 have HKD := hidX hkind
 have c12 : w.cell? ⟨p, 2, none⟩ = some (.slice (some ⟨g, off, none⟩) L.length cap) ∧ w.cell? ⟨p, 3, none⟩ = some (.slice (some ⟨gs, offs, none⟩) L.length sc) ∧ w.cell? ⟨g, off + i * 4, none⟩ = some (.string ⟨n.kind.toArray⟩) ∧ w.cell? ⟨g, off + i * 4 + 1, none⟩ = some (.slice ad1 n.ins.length cap1) ∧ w.cell? ⟨g, off + i * 4 + 2, none⟩ = some (.int .i64 n.num) ∧ w.cell? ⟨g, off + i * 4 + 3, none⟩ = some (.string ⟨n.name.toArray⟩) ∧ w.cell? ⟨gs, offs + i * 6, none⟩ = some (.string ⟨s.kind.toArray⟩) ∧ w.cell? ⟨gs, offs + i * 6 + 1, none⟩ = some (.string ⟨s.ins.toArray⟩) ∧ w.cell? ⟨gs, offs + i * 6 + 2, none⟩ = some (.string ⟨s.more.toArray⟩) ∧ w.cell? ⟨gs, offs + i * 6 + 3, none⟩ = some (.bool s.num) ∧ w.cell? ⟨gs, offs + i * 6 + 4, none⟩ = some (.bool s.name) ∧ w.cell? ⟨gs, offs + i * 6 + 5, none⟩ = some (.string ⟨s.gives.toArray⟩) := ⟨c2, c3, k0, k1, k2, k3, j0, j1, j2, j3, j4, j5⟩
 have C12 := hidX c12
 clear c12 hres hpn hgv hbn hop hft hphi hsen h h0 hr hlow hc1 hkind hsh
 go_enter Tryz.func30, Tryz.ntmps30
 go_wp2_with fail
 go_region_held3 (fun W => W.cell? ⟨p, 2, none⟩ = some (.slice (some ⟨g, off, none⟩) L.length cap) ∧ W.cell? ⟨p, 3, none⟩ = some (.slice (some ⟨gs, offs, none⟩) L.length sc) ∧ W.cell? ⟨g, off + i * 4, none⟩ = some (.string ⟨n.kind.toArray⟩) ∧ W.cell? ⟨g, off + i * 4 + 1, none⟩ = some (.slice ad1 n.ins.length cap1) ∧ W.cell? ⟨g, off + i * 4 + 2, none⟩ = some (.int .i64 n.num) ∧ W.cell? ⟨g, off + i * 4 + 3, none⟩ = some (.string ⟨n.name.toArray⟩) ∧ W.cell? ⟨gs, offs + i * 6, none⟩ = some (.string ⟨s.kind.toArray⟩) ∧ W.cell? ⟨gs, offs + i * 6 + 1, none⟩ = some (.string ⟨s.ins.toArray⟩) ∧ W.cell? ⟨gs, offs + i * 6 + 2, none⟩ = some (.string ⟨s.more.toArray⟩) ∧ W.cell? ⟨gs, offs + i * 6 + 3, none⟩ = some (.bool s.num) ∧ W.cell? ⟨gs, offs + i * 6 + 4, none⟩ = some (.bool s.name) ∧ W.cell? ⟨gs, offs + i * 6 + 5, none⟩ = some (.string ⟨s.gives.toArray⟩))
  (first | exact C12.out | go_keep) (fail)
 ·obtain ⟨W1, hW1⟩ : ∃ W1, W1 = ((w.alloc (.cells #[.string ⟨n.kind.toArray⟩, .slice ad1 n.ins.length cap1, .int .i64 n.num, .string ⟨n.name.toArray⟩] 55)).alloc (.cells #[.string ⟨s.kind.toArray⟩, .string ⟨s.ins.toArray⟩, .string ⟨s.more.toArray⟩, .bool s.num, .bool s.name, .string ⟨s.gives.toArray⟩] 118)).drew := ⟨_, rfl⟩
  rw [← hW1]
  have HB := hidX (show Below w.heap.size w W1 from by rw [hW1]; (repeat (first | exact Below.refl _ _ | assumption | refine Below.drew ?_ | refine bT ?_ _ | refine bS ?_ _ | refine bA ?_ _)))
  have HNB := hidX (show W1.heap[w.heap.size]? = some (.cells #[.string ⟨n.kind.toArray⟩, .slice ad1 n.ins.length cap1, .int .i64 n.num, .string ⟨n.name.toArray⟩] 55 (0, 0)) from by rw [hW1]; exact twoG w _ _)
  have HSB := hidX (show W1.heap[w.heap.size + 1]? = some (.cells #[.string ⟨s.kind.toArray⟩, .string ⟨s.ins.toArray⟩, .string ⟨s.more.toArray⟩, .bool s.num, .bool s.name, .string ⟨s.gives.toArray⟩] 118 (0, 0)) from by rw [hW1]; exact heap_alloc2_new w _ _)
  clear hW1 C12 j0 j1 j2 j3 j4 j5 k0 k1 k2 k3 c3
  obtain ⟨d0, d1, d2, d3, e0, e1, e2, e3, e4, e5⟩ := facts10 HNB.out HSB.out
  have g2 : W1.cell? ⟨1, 0, none⟩ = _ := (HSE.out.below HB.out).glob 2 (by omega)
  have g3 : W1.cell? ⟨5, 0, none⟩ = _ := (HSE.out.below HB.out).glob 3 (by omega)
  have g1 : W1.cell? ⟨4, 0, none⟩ = _ := (HSE.out.below HB.out).glob 1 (by omega)
  by_cases z0 : s.kind = []
  ·have z1 : s.kind.isEmpty = true := by simp [z0]
   have hr : res = 4 := by rw [← HRS.out]; simp [z0]
   subst hr
   go_wp2
   go_ret
   exact ⟨rfl, (by first | exact HB.out | exact HB.out.trans (drewN_below' _ _ _))⟩
  ·have z1 : s.kind.isEmpty = false := nil_lit z0
   have hkk := HKD.out z0
   have HKK := hidX hkk
   clear hkk
   by_cases z2 : s.kind = gStart ∧ 0 < i
   ·have y0 : (s.kind == [115, 116, 97, 114, 116]) = true := by rw [z2.1]; decide
    have y1 : (0 : Int) < (i : Int) := by have := z2.2; omega
    have hr : res = 3 := by rw [← HRS.out]; simp [z2, gStart]
    subst hr
    clear z2 z0
    go_wp2
    go_ret
    exact ⟨rfl, (by first | exact HB.out | exact HB.out.trans (drewN_below' _ _ _))⟩
   ·have y : (s.kind == [115, 116, 97, 114, 116] && decide ((0 : Int) < (i : Int))) = false := by
     by_cases q0 : s.kind = gStart
     ·have : ¬ 0 < i := fun q => z2 ⟨q0, q⟩
      simp; intro _; omega
     ·have : (s.kind == [115, 116, 97, 114, 116]) = false := ne_lit q0
      rw [this]; rfl
    have hgo : ∃ b : Bool, (s.kind == [115, 116, 97, 114, 116]) = b ∧ (b = true → (i : Int) = 0) := ⟨_, rfl, fun hb => by rw [hb] at y; simp at y; omega⟩
    obtain ⟨b, hb1, hb2⟩ := hgo
    have hi0 : b = true → ¬ (0 : Int) < (i : Int) := fun q => by have := hb2 q; omega
    clear y hb2
    have HF := hidX (HFT.out W1)
    cases b with
    | false =>
     clear hi0
     cases fb with
     | false =>
      go_wp2_with fail
      refine HF.out.mono ?_
      rintro e W2 ⟨rfl, hbn⟩
      obtain ⟨HNB, HSB, HB⟩ := nxt3 HNB HSB HB hbn
      clear d0 d1 d2 d3 e0 e1 e2 e3 e4 e5 g1 g2 g3 hbn
      obtain ⟨d0, d1, d2, d3, e0, e1, e2, e3, e4, e5⟩ := facts10 HNB.out HSB.out
      have g2 : W2.cell? ⟨1, 0, none⟩ = _ := (HSE.out.below HB.out).glob 2 (by omega)
      have g3 : W2.cell? ⟨5, 0, none⟩ = _ := (HSE.out.below HB.out).glob 3 (by omega)
      have g1 : W2.cell? ⟨4, 0, none⟩ = _ := (HSE.out.below HB.out).glob 1 (by omega)
      have hr : res = 3 := by rw [← HRS.out]; simp [z0]
      subst hr
      go_wp2
      go_ret
      exact ⟨rfl, (by first | exact HB.out | exact HB.out.trans (drewN_below' _ _ _))⟩
     | true =>
      go_wp2_with fail
      refine HF.out.mono ?_
      rintro e W2 ⟨rfl, hbn⟩
      obtain ⟨HNB, HSB, HB⟩ := nxt3 HNB HSB HB hbn
      clear d0 d1 d2 d3 e0 e1 e2 e3 e4 e5 g1 g2 g3 hbn
      obtain ⟨d0, d1, d2, d3, e0, e1, e2, e3, e4, e5⟩ := facts10 HNB.out HSB.out
      have g2 : W2.cell? ⟨1, 0, none⟩ = _ := (HSE.out.below HB.out).glob 2 (by omega)
      have g3 : W2.cell? ⟨5, 0, none⟩ = _ := (HSE.out.below HB.out).glob 3 (by omega)
      have g1 : W2.cell? ⟨4, 0, none⟩ = _ := (HSE.out.below HB.out).glob 1 (by omega)
      have HN2 := hidX (HBN.out W2 HB.out)
      cases bb with
      | false =>
       go_wp2_with fail
       refine HN2.out.mono ?_
       rintro e W3 ⟨rfl, hbn⟩
       obtain ⟨HNB, HSB, HB⟩ := nxt3 HNB HSB HB hbn
       clear d0 d1 d2 d3 e0 e1 e2 e3 e4 e5 g1 g2 g3 hbn
       obtain ⟨d0, d1, d2, d3, e0, e1, e2, e3, e4, e5⟩ := facts10 HNB.out HSB.out
       have g2 : W3.cell? ⟨1, 0, none⟩ = _ := (HSE.out.below HB.out).glob 2 (by omega)
       have g3 : W3.cell? ⟨5, 0, none⟩ = _ := (HSE.out.below HB.out).glob 3 (by omega)
       have g1 : W3.cell? ⟨4, 0, none⟩ = _ := (HSE.out.below HB.out).glob 1 (by omega)
       have hr : res = 2 := by rw [← HRS.out]; simp [z0, z2]
       subst hr
       go_wp2
       go_ret
       exact ⟨rfl, (by first | exact HB.out | exact HB.out.trans (drewN_below' _ _ _))⟩
      | true =>
       go_wp2_with fail
       refine HN2.out.mono ?_
       rintro e W3 ⟨rfl, hbn⟩
       obtain ⟨HNB, HSB, HB⟩ := nxt3 HNB HSB HB hbn
       clear d0 d1 d2 d3 e0 e1 e2 e3 e4 e5 g1 g2 g3 hbn
       obtain ⟨d0, d1, d2, d3, e0, e1, e2, e3, e4, e5⟩ := facts10 HNB.out HSB.out
       have g2 : W3.cell? ⟨1, 0, none⟩ = _ := (HSE.out.below HB.out).glob 2 (by omega)
       have g3 : W3.cell? ⟨5, 0, none⟩ = _ := (HSE.out.below HB.out).glob 3 (by omega)
       have g1 : W3.cell? ⟨4, 0, none⟩ = _ := (HSE.out.below HB.out).glob 1 (by omega)
       have HN3 := hidX (HOP.out W3 HB.out)
       cases ob with
       | false =>
        go_wp2_with fail
        refine HN3.out.mono ?_
        rintro e W4 ⟨rfl, hbn⟩
        obtain ⟨HNB, HSB, HB⟩ := nxt3 HNB HSB HB hbn
        clear d0 d1 d2 d3 e0 e1 e2 e3 e4 e5 g1 g2 g3 hbn
        obtain ⟨d0, d1, d2, d3, e0, e1, e2, e3, e4, e5⟩ := facts10 HNB.out HSB.out
        have g2 : W4.cell? ⟨1, 0, none⟩ = _ := (HSE.out.below HB.out).glob 2 (by omega)
        have g3 : W4.cell? ⟨5, 0, none⟩ = _ := (HSE.out.below HB.out).glob 3 (by omega)
        have g1 : W4.cell? ⟨4, 0, none⟩ = _ := (HSE.out.below HB.out).glob 1 (by omega)
        have hr : res = 4 := by rw [← HRS.out]; simp [z0, z2]
        subst hr
        go_wp2
        go_ret
        exact ⟨rfl, (by first | exact HB.out | exact HB.out.trans (drewN_below' _ _ _))⟩
       | true =>
        go_wp2_with fail
        refine HN3.out.mono ?_
        rintro e W4 ⟨rfl, hbn⟩
        obtain ⟨HNB, HSB, HB⟩ := nxt3 HNB HSB HB hbn
        clear d0 d1 d2 d3 e0 e1 e2 e3 e4 e5 g1 g2 g3 hbn
        obtain ⟨d0, d1, d2, d3, e0, e1, e2, e3, e4, e5⟩ := facts10 HNB.out HSB.out
        have g2 : W4.cell? ⟨1, 0, none⟩ = _ := (HSE.out.below HB.out).glob 2 (by omega)
        have g3 : W4.cell? ⟨5, 0, none⟩ = _ := (HSE.out.below HB.out).glob 3 (by omega)
        have g1 : W4.cell? ⟨4, 0, none⟩ = _ := (HSE.out.below HB.out).glob 1 (by omega)
        have HN4 := hidX (HGV.out W4 HB.out (by first | rfl | trivial) (by first | rfl | trivial))
        cases gb with
        | false =>
         go_wp2_with fail
         refine HN4.out.mono ?_
         rintro e W5 ⟨rfl, hbn⟩
         obtain ⟨HNB, HSB, HB⟩ := nxt3 HNB HSB HB hbn
         clear d0 d1 d2 d3 e0 e1 e2 e3 e4 e5 g1 g2 g3 hbn
         obtain ⟨d0, d1, d2, d3, e0, e1, e2, e3, e4, e5⟩ := facts10 HNB.out HSB.out
         have g2 : W5.cell? ⟨1, 0, none⟩ = _ := (HSE.out.below HB.out).glob 2 (by omega)
         have g3 : W5.cell? ⟨5, 0, none⟩ = _ := (HSE.out.below HB.out).glob 3 (by omega)
         have g1 : W5.cell? ⟨4, 0, none⟩ = _ := (HSE.out.below HB.out).glob 1 (by omega)
         have hr : res = 3 := by rw [← HRS.out]; simp [z0, z2]
         subst hr
         go_wp2
         go_ret
         exact ⟨rfl, (by first | exact HB.out | exact HB.out.trans (drewN_below' _ _ _))⟩
        | true =>
         by_cases kp : n.kind = gPhi
         ·obtain ⟨gq, offq, rfl, hgq, x, x1, x2, ad2, cap2, l2, x3, x4, x5, x6⟩ := HPH.out (by first | rfl | trivial) (by first | rfl | trivial) kp
          have t1 : (s.kind == [112, 104, 105]) = true := by rw [HKK.out, kp]; decide
          have HX5 := hidX x5
          clear kp x5
          go_wp2_with fail
          refine HN4.out.mono ?_
          rintro e W5 ⟨rfl, hbn⟩
          obtain ⟨HNB, HSB, HB⟩ := nxt3 HNB HSB HB hbn
          clear d0 d1 d2 d3 e0 e1 e2 e3 e4 e5 g1 g2 g3 hbn
          obtain ⟨d0, d1, d2, d3, e0, e1, e2, e3, e4, e5⟩ := facts10 HNB.out HSB.out
          have g2 : W5.cell? ⟨1, 0, none⟩ = _ := (HSE.out.below HB.out).glob 2 (by omega)
          have g3 : W5.cell? ⟨5, 0, none⟩ = _ := (HSE.out.below HB.out).glob 3 (by omega)
          have g1 : W5.cell? ⟨4, 0, none⟩ = _ := (HSE.out.below HB.out).glob 1 (by omega)
          have v1 : W5.cell? ⟨gq, offq, none⟩ = some (.int .i64 x) := (HB.out.cell (p := ⟨gq, _, none⟩) hgq).trans x1
          have v2 : W5.cell? ⟨g, off + x * 4 + 1, none⟩ = some (.slice ad2 l2 cap2) := (HB.out.cell (p := ⟨g, _, none⟩) hg).trans x3
          have v3 : W5.cell? ⟨p, 2, none⟩ = some (.slice (some ⟨g, off, none⟩) L.length cap) := (HB.out.cell (p := ⟨p, 2, none⟩) hkp).trans c2
          have l6 : (1 : Int) ≤ (n.ins.length : Int) := by omega
          clear x1 x3
          by_cases x7 : n.ins.length = l2 + 1
          ·have x8 : pb = true := by rw [HX5.out]; simpa using x7
           subst x8
           have x9 : (n.ins.length : Int) - 1 = (l2 : Int) := by omega
           have x10 : ((n.ins.length : Int) - 1 == (l2 : Int)) = true := by simpa using x9
           have hr : res = 0 := by rw [← HRS.out]; simp [z0, z2]
           subst hr
           clear HX5 x7
           go_wp2_with fail
           go_quiet (fail)
           go_wp2
           go_ret
           exact ⟨rfl, (by first | exact HB.out | exact HB.out.trans (drewN_below' _ _ _))⟩
          ·have x8 : pb = false := by rw [HX5.out]; simpa using x7
           subst x8
           have x9 : ¬ (n.ins.length : Int) - 1 = (l2 : Int) := by omega
           have x10 : ((n.ins.length : Int) - 1 == (l2 : Int)) = false := by simpa using x9
           have x11 : wrap64 ((n.ins.length : Int) - 1) = (n.ins.length : Int) - 1 := by unfold wrap64; omega
           have hr : res = 3 := by rw [← HRS.out]; simp [z0, z2]
           subst hr
           clear HX5 x7
           go_wp2_with fail
           go_quiet (fail)
           go_wp2
           go_ret
           exact ⟨rfl, (by first | exact HB.out | exact HB.out.trans (drewN_below' _ _ _))⟩
         ·have t1 : (s.kind == [112, 104, 105]) = false := by rw [HKK.out]; exact ne_lit kp
          have x8 : pb = true := HPN.out kp
          subst x8
          clear kp
          go_wp2_with fail
          refine HN4.out.mono ?_
          rintro e W5 ⟨rfl, hbn⟩
          obtain ⟨HNB, HSB, HB⟩ := nxt3 HNB HSB HB hbn
          clear d0 d1 d2 d3 e0 e1 e2 e3 e4 e5 g1 g2 g3 hbn
          obtain ⟨d0, d1, d2, d3, e0, e1, e2, e3, e4, e5⟩ := facts10 HNB.out HSB.out
          have g2 : W5.cell? ⟨1, 0, none⟩ = _ := (HSE.out.below HB.out).glob 2 (by omega)
          have g3 : W5.cell? ⟨5, 0, none⟩ = _ := (HSE.out.below HB.out).glob 3 (by omega)
          have g1 : W5.cell? ⟨4, 0, none⟩ = _ := (HSE.out.below HB.out).glob 1 (by omega)
          have hr : res = 0 := by rw [← HRS.out]; simp [z0, z2]
          subst hr
          go_wp2_with fail
          go_quiet (fail)
          go_wp2
          go_ret
          exact ⟨rfl, (by first | exact HB.out | exact HB.out.trans (drewN_below' _ _ _))⟩
    | true =>
     have y0 : ¬ (0 : Int) < (i : Int) := hi0 rfl
     clear hi0
     cases fb with
     | false =>
      go_wp2_with fail
      refine HF.out.mono ?_
      rintro e W2 ⟨rfl, hbn⟩
      obtain ⟨HNB, HSB, HB⟩ := nxt3 HNB HSB HB hbn
      clear d0 d1 d2 d3 e0 e1 e2 e3 e4 e5 g1 g2 g3 hbn
      obtain ⟨d0, d1, d2, d3, e0, e1, e2, e3, e4, e5⟩ := facts10 HNB.out HSB.out
      have g2 : W2.cell? ⟨1, 0, none⟩ = _ := (HSE.out.below HB.out).glob 2 (by omega)
      have g3 : W2.cell? ⟨5, 0, none⟩ = _ := (HSE.out.below HB.out).glob 3 (by omega)
      have g1 : W2.cell? ⟨4, 0, none⟩ = _ := (HSE.out.below HB.out).glob 1 (by omega)
      have hr : res = 3 := by rw [← HRS.out]; simp [z0]
      subst hr
      go_wp2
      go_ret
      exact ⟨rfl, (by first | exact HB.out | exact HB.out.trans (drewN_below' _ _ _))⟩
     | true =>
      go_wp2_with fail
      refine HF.out.mono ?_
      rintro e W2 ⟨rfl, hbn⟩
      obtain ⟨HNB, HSB, HB⟩ := nxt3 HNB HSB HB hbn
      clear d0 d1 d2 d3 e0 e1 e2 e3 e4 e5 g1 g2 g3 hbn
      obtain ⟨d0, d1, d2, d3, e0, e1, e2, e3, e4, e5⟩ := facts10 HNB.out HSB.out
      have g2 : W2.cell? ⟨1, 0, none⟩ = _ := (HSE.out.below HB.out).glob 2 (by omega)
      have g3 : W2.cell? ⟨5, 0, none⟩ = _ := (HSE.out.below HB.out).glob 3 (by omega)
      have g1 : W2.cell? ⟨4, 0, none⟩ = _ := (HSE.out.below HB.out).glob 1 (by omega)
      have HN2 := hidX (HBN.out W2 HB.out)
      cases bb with
      | false =>
       go_wp2_with fail
       refine HN2.out.mono ?_
       rintro e W3 ⟨rfl, hbn⟩
       obtain ⟨HNB, HSB, HB⟩ := nxt3 HNB HSB HB hbn
       clear d0 d1 d2 d3 e0 e1 e2 e3 e4 e5 g1 g2 g3 hbn
       obtain ⟨d0, d1, d2, d3, e0, e1, e2, e3, e4, e5⟩ := facts10 HNB.out HSB.out
       have g2 : W3.cell? ⟨1, 0, none⟩ = _ := (HSE.out.below HB.out).glob 2 (by omega)
       have g3 : W3.cell? ⟨5, 0, none⟩ = _ := (HSE.out.below HB.out).glob 3 (by omega)
       have g1 : W3.cell? ⟨4, 0, none⟩ = _ := (HSE.out.below HB.out).glob 1 (by omega)
       have hr : res = 2 := by rw [← HRS.out]; simp [z0, z2]
       subst hr
       go_wp2
       go_ret
       exact ⟨rfl, (by first | exact HB.out | exact HB.out.trans (drewN_below' _ _ _))⟩
      | true =>
       go_wp2_with fail
       refine HN2.out.mono ?_
       rintro e W3 ⟨rfl, hbn⟩
       obtain ⟨HNB, HSB, HB⟩ := nxt3 HNB HSB HB hbn
       clear d0 d1 d2 d3 e0 e1 e2 e3 e4 e5 g1 g2 g3 hbn
       obtain ⟨d0, d1, d2, d3, e0, e1, e2, e3, e4, e5⟩ := facts10 HNB.out HSB.out
       have g2 : W3.cell? ⟨1, 0, none⟩ = _ := (HSE.out.below HB.out).glob 2 (by omega)
       have g3 : W3.cell? ⟨5, 0, none⟩ = _ := (HSE.out.below HB.out).glob 3 (by omega)
       have g1 : W3.cell? ⟨4, 0, none⟩ = _ := (HSE.out.below HB.out).glob 1 (by omega)
       have HN3 := hidX (HOP.out W3 HB.out)
       cases ob with
       | false =>
        go_wp2_with fail
        refine HN3.out.mono ?_
        rintro e W4 ⟨rfl, hbn⟩
        obtain ⟨HNB, HSB, HB⟩ := nxt3 HNB HSB HB hbn
        clear d0 d1 d2 d3 e0 e1 e2 e3 e4 e5 g1 g2 g3 hbn
        obtain ⟨d0, d1, d2, d3, e0, e1, e2, e3, e4, e5⟩ := facts10 HNB.out HSB.out
        have g2 : W4.cell? ⟨1, 0, none⟩ = _ := (HSE.out.below HB.out).glob 2 (by omega)
        have g3 : W4.cell? ⟨5, 0, none⟩ = _ := (HSE.out.below HB.out).glob 3 (by omega)
        have g1 : W4.cell? ⟨4, 0, none⟩ = _ := (HSE.out.below HB.out).glob 1 (by omega)
        have hr : res = 4 := by rw [← HRS.out]; simp [z0, z2]
        subst hr
        go_wp2
        go_ret
        exact ⟨rfl, (by first | exact HB.out | exact HB.out.trans (drewN_below' _ _ _))⟩
       | true =>
        go_wp2_with fail
        refine HN3.out.mono ?_
        rintro e W4 ⟨rfl, hbn⟩
        obtain ⟨HNB, HSB, HB⟩ := nxt3 HNB HSB HB hbn
        clear d0 d1 d2 d3 e0 e1 e2 e3 e4 e5 g1 g2 g3 hbn
        obtain ⟨d0, d1, d2, d3, e0, e1, e2, e3, e4, e5⟩ := facts10 HNB.out HSB.out
        have g2 : W4.cell? ⟨1, 0, none⟩ = _ := (HSE.out.below HB.out).glob 2 (by omega)
        have g3 : W4.cell? ⟨5, 0, none⟩ = _ := (HSE.out.below HB.out).glob 3 (by omega)
        have g1 : W4.cell? ⟨4, 0, none⟩ = _ := (HSE.out.below HB.out).glob 1 (by omega)
        have HN4 := hidX (HGV.out W4 HB.out (by first | rfl | trivial) (by first | rfl | trivial))
        cases gb with
        | false =>
         go_wp2_with fail
         refine HN4.out.mono ?_
         rintro e W5 ⟨rfl, hbn⟩
         obtain ⟨HNB, HSB, HB⟩ := nxt3 HNB HSB HB hbn
         clear d0 d1 d2 d3 e0 e1 e2 e3 e4 e5 g1 g2 g3 hbn
         obtain ⟨d0, d1, d2, d3, e0, e1, e2, e3, e4, e5⟩ := facts10 HNB.out HSB.out
         have g2 : W5.cell? ⟨1, 0, none⟩ = _ := (HSE.out.below HB.out).glob 2 (by omega)
         have g3 : W5.cell? ⟨5, 0, none⟩ = _ := (HSE.out.below HB.out).glob 3 (by omega)
         have g1 : W5.cell? ⟨4, 0, none⟩ = _ := (HSE.out.below HB.out).glob 1 (by omega)
         have hr : res = 3 := by rw [← HRS.out]; simp [z0, z2]
         subst hr
         go_wp2
         go_ret
         exact ⟨rfl, (by first | exact HB.out | exact HB.out.trans (drewN_below' _ _ _))⟩
        | true =>
         by_cases kp : n.kind = gPhi
         ·obtain ⟨gq, offq, rfl, hgq, x, x1, x2, ad2, cap2, l2, x3, x4, x5, x6⟩ := HPH.out (by first | rfl | trivial) (by first | rfl | trivial) kp
          have t1 : (s.kind == [112, 104, 105]) = true := by rw [HKK.out, kp]; decide
          have HX5 := hidX x5
          clear kp x5
          go_wp2_with fail
          refine HN4.out.mono ?_
          rintro e W5 ⟨rfl, hbn⟩
          obtain ⟨HNB, HSB, HB⟩ := nxt3 HNB HSB HB hbn
          clear d0 d1 d2 d3 e0 e1 e2 e3 e4 e5 g1 g2 g3 hbn
          obtain ⟨d0, d1, d2, d3, e0, e1, e2, e3, e4, e5⟩ := facts10 HNB.out HSB.out
          have g2 : W5.cell? ⟨1, 0, none⟩ = _ := (HSE.out.below HB.out).glob 2 (by omega)
          have g3 : W5.cell? ⟨5, 0, none⟩ = _ := (HSE.out.below HB.out).glob 3 (by omega)
          have g1 : W5.cell? ⟨4, 0, none⟩ = _ := (HSE.out.below HB.out).glob 1 (by omega)
          have v1 : W5.cell? ⟨gq, offq, none⟩ = some (.int .i64 x) := (HB.out.cell (p := ⟨gq, _, none⟩) hgq).trans x1
          have v2 : W5.cell? ⟨g, off + x * 4 + 1, none⟩ = some (.slice ad2 l2 cap2) := (HB.out.cell (p := ⟨g, _, none⟩) hg).trans x3
          have v3 : W5.cell? ⟨p, 2, none⟩ = some (.slice (some ⟨g, off, none⟩) L.length cap) := (HB.out.cell (p := ⟨p, 2, none⟩) hkp).trans c2
          have l6 : (1 : Int) ≤ (n.ins.length : Int) := by omega
          clear x1 x3
          by_cases x7 : n.ins.length = l2 + 1
          ·have x8 : pb = true := by rw [HX5.out]; simpa using x7
           subst x8
           have x9 : (n.ins.length : Int) - 1 = (l2 : Int) := by omega
           have x10 : ((n.ins.length : Int) - 1 == (l2 : Int)) = true := by simpa using x9
           have hr : res = 0 := by rw [← HRS.out]; simp [z0, z2]
           subst hr
           clear HX5 x7
           go_wp2_with fail
           go_quiet (fail)
           go_wp2
           go_ret
           exact ⟨rfl, (by first | exact HB.out | exact HB.out.trans (drewN_below' _ _ _))⟩
          ·have x8 : pb = false := by rw [HX5.out]; simpa using x7
           subst x8
           have x9 : ¬ (n.ins.length : Int) - 1 = (l2 : Int) := by omega
           have x10 : ((n.ins.length : Int) - 1 == (l2 : Int)) = false := by simpa using x9
           have x11 : wrap64 ((n.ins.length : Int) - 1) = (n.ins.length : Int) - 1 := by unfold wrap64; omega
           have hr : res = 3 := by rw [← HRS.out]; simp [z0, z2]
           subst hr
           clear HX5 x7
           go_wp2_with fail
           go_quiet (fail)
           go_wp2
           go_ret
           exact ⟨rfl, (by first | exact HB.out | exact HB.out.trans (drewN_below' _ _ _))⟩
         ·have t1 : (s.kind == [112, 104, 105]) = false := by rw [HKK.out]; exact ne_lit kp
          have x8 : pb = true := HPN.out kp
          subst x8
          clear kp
          go_wp2_with fail
          refine HN4.out.mono ?_
          rintro e W5 ⟨rfl, hbn⟩
          obtain ⟨HNB, HSB, HB⟩ := nxt3 HNB HSB HB hbn
          clear d0 d1 d2 d3 e0 e1 e2 e3 e4 e5 g1 g2 g3 hbn
          obtain ⟨d0, d1, d2, d3, e0, e1, e2, e3, e4, e5⟩ := facts10 HNB.out HSB.out
          have g2 : W5.cell? ⟨1, 0, none⟩ = _ := (HSE.out.below HB.out).glob 2 (by omega)
          have g3 : W5.cell? ⟨5, 0, none⟩ = _ := (HSE.out.below HB.out).glob 3 (by omega)
          have g1 : W5.cell? ⟨4, 0, none⟩ = _ := (HSE.out.below HB.out).glob 1 (by omega)
          have hr : res = 0 := by rw [← HRS.out]; simp [z0, z2]
          subst hr
          go_wp2_with fail
          go_quiet (fail)
          go_wp2
          go_ret
          exact ⟨rfl, (by first | exact HB.out | exact HB.out.trans (drewN_below' _ _ _))⟩
 ·obtain ⟨W1, hW1⟩ : ∃ W1, W1 = ((w.alloc (.cells #[.string ⟨s.kind.toArray⟩, .string ⟨s.ins.toArray⟩, .string ⟨s.more.toArray⟩, .bool s.num, .bool s.name, .string ⟨s.gives.toArray⟩] 118)).alloc (.cells #[.string ⟨n.kind.toArray⟩, .slice ad1 n.ins.length cap1, .int .i64 n.num, .string ⟨n.name.toArray⟩] 55)).drew := ⟨_, rfl⟩
  rw [← hW1]
  have HB := hidX (show Below w.heap.size w W1 from by rw [hW1]; (repeat (first | exact Below.refl _ _ | assumption | refine Below.drew ?_ | refine bT ?_ _ | refine bS ?_ _ | refine bA ?_ _)))
  have HNB := hidX (show W1.heap[w.heap.size + 1]? = some (.cells #[.string ⟨n.kind.toArray⟩, .slice ad1 n.ins.length cap1, .int .i64 n.num, .string ⟨n.name.toArray⟩] 55 (0, 0)) from by rw [hW1]; exact heap_alloc2_new w _ _)
  have HSB := hidX (show W1.heap[w.heap.size]? = some (.cells #[.string ⟨s.kind.toArray⟩, .string ⟨s.ins.toArray⟩, .string ⟨s.more.toArray⟩, .bool s.num, .bool s.name, .string ⟨s.gives.toArray⟩] 118 (0, 0)) from by rw [hW1]; exact twoG w _ _)
  clear hW1 C12 j0 j1 j2 j3 j4 j5 k0 k1 k2 k3 c3
  obtain ⟨d0, d1, d2, d3, e0, e1, e2, e3, e4, e5⟩ := facts10 HNB.out HSB.out
  have g2 : W1.cell? ⟨1, 0, none⟩ = _ := (HSE.out.below HB.out).glob 2 (by omega)
  have g3 : W1.cell? ⟨5, 0, none⟩ = _ := (HSE.out.below HB.out).glob 3 (by omega)
  have g1 : W1.cell? ⟨4, 0, none⟩ = _ := (HSE.out.below HB.out).glob 1 (by omega)
  by_cases z0 : s.kind = []
  ·have z1 : s.kind.isEmpty = true := by simp [z0]
   have hr : res = 4 := by rw [← HRS.out]; simp [z0]
   subst hr
   go_wp2
   go_ret
   exact ⟨rfl, (by first | exact HB.out | exact HB.out.trans (drewN_below' _ _ _))⟩
  ·have z1 : s.kind.isEmpty = false := nil_lit z0
   have hkk := HKD.out z0
   have HKK := hidX hkk
   clear hkk
   by_cases z2 : s.kind = gStart ∧ 0 < i
   ·have y0 : (s.kind == [115, 116, 97, 114, 116]) = true := by rw [z2.1]; decide
    have y1 : (0 : Int) < (i : Int) := by have := z2.2; omega
    have hr : res = 3 := by rw [← HRS.out]; simp [z2, gStart]
    subst hr
    clear z2 z0
    go_wp2
    go_ret
    exact ⟨rfl, (by first | exact HB.out | exact HB.out.trans (drewN_below' _ _ _))⟩
   ·have y : (s.kind == [115, 116, 97, 114, 116] && decide ((0 : Int) < (i : Int))) = false := by
     by_cases q0 : s.kind = gStart
     ·have : ¬ 0 < i := fun q => z2 ⟨q0, q⟩
      simp; intro _; omega
     ·have : (s.kind == [115, 116, 97, 114, 116]) = false := ne_lit q0
      rw [this]; rfl
    have hgo : ∃ b : Bool, (s.kind == [115, 116, 97, 114, 116]) = b ∧ (b = true → (i : Int) = 0) := ⟨_, rfl, fun hb => by rw [hb] at y; simp at y; omega⟩
    obtain ⟨b, hb1, hb2⟩ := hgo
    have hi0 : b = true → ¬ (0 : Int) < (i : Int) := fun q => by have := hb2 q; omega
    clear y hb2
    have HF := hidX (HFT.out W1)
    cases b with
    | false =>
     clear hi0
     cases fb with
     | false =>
      go_wp2_with fail
      refine HF.out.mono ?_
      rintro e W2 ⟨rfl, hbn⟩
      obtain ⟨HNB, HSB, HB⟩ := nxt3 HNB HSB HB hbn
      clear d0 d1 d2 d3 e0 e1 e2 e3 e4 e5 g1 g2 g3 hbn
      obtain ⟨d0, d1, d2, d3, e0, e1, e2, e3, e4, e5⟩ := facts10 HNB.out HSB.out
      have g2 : W2.cell? ⟨1, 0, none⟩ = _ := (HSE.out.below HB.out).glob 2 (by omega)
      have g3 : W2.cell? ⟨5, 0, none⟩ = _ := (HSE.out.below HB.out).glob 3 (by omega)
      have g1 : W2.cell? ⟨4, 0, none⟩ = _ := (HSE.out.below HB.out).glob 1 (by omega)
      have hr : res = 3 := by rw [← HRS.out]; simp [z0]
      subst hr
      go_wp2
      go_ret
      exact ⟨rfl, (by first | exact HB.out | exact HB.out.trans (drewN_below' _ _ _))⟩
     | true =>
      go_wp2_with fail
      refine HF.out.mono ?_
      rintro e W2 ⟨rfl, hbn⟩
      obtain ⟨HNB, HSB, HB⟩ := nxt3 HNB HSB HB hbn
      clear d0 d1 d2 d3 e0 e1 e2 e3 e4 e5 g1 g2 g3 hbn
      obtain ⟨d0, d1, d2, d3, e0, e1, e2, e3, e4, e5⟩ := facts10 HNB.out HSB.out
      have g2 : W2.cell? ⟨1, 0, none⟩ = _ := (HSE.out.below HB.out).glob 2 (by omega)
      have g3 : W2.cell? ⟨5, 0, none⟩ = _ := (HSE.out.below HB.out).glob 3 (by omega)
      have g1 : W2.cell? ⟨4, 0, none⟩ = _ := (HSE.out.below HB.out).glob 1 (by omega)
      have HN2 := hidX (HBN.out W2 HB.out)
      cases bb with
      | false =>
       go_wp2_with fail
       refine HN2.out.mono ?_
       rintro e W3 ⟨rfl, hbn⟩
       obtain ⟨HNB, HSB, HB⟩ := nxt3 HNB HSB HB hbn
       clear d0 d1 d2 d3 e0 e1 e2 e3 e4 e5 g1 g2 g3 hbn
       obtain ⟨d0, d1, d2, d3, e0, e1, e2, e3, e4, e5⟩ := facts10 HNB.out HSB.out
       have g2 : W3.cell? ⟨1, 0, none⟩ = _ := (HSE.out.below HB.out).glob 2 (by omega)
       have g3 : W3.cell? ⟨5, 0, none⟩ = _ := (HSE.out.below HB.out).glob 3 (by omega)
       have g1 : W3.cell? ⟨4, 0, none⟩ = _ := (HSE.out.below HB.out).glob 1 (by omega)
       have hr : res = 2 := by rw [← HRS.out]; simp [z0, z2]
       subst hr
       go_wp2
       go_ret
       exact ⟨rfl, (by first | exact HB.out | exact HB.out.trans (drewN_below' _ _ _))⟩
      | true =>
       go_wp2_with fail
       refine HN2.out.mono ?_
       rintro e W3 ⟨rfl, hbn⟩
       obtain ⟨HNB, HSB, HB⟩ := nxt3 HNB HSB HB hbn
       clear d0 d1 d2 d3 e0 e1 e2 e3 e4 e5 g1 g2 g3 hbn
       obtain ⟨d0, d1, d2, d3, e0, e1, e2, e3, e4, e5⟩ := facts10 HNB.out HSB.out
       have g2 : W3.cell? ⟨1, 0, none⟩ = _ := (HSE.out.below HB.out).glob 2 (by omega)
       have g3 : W3.cell? ⟨5, 0, none⟩ = _ := (HSE.out.below HB.out).glob 3 (by omega)
       have g1 : W3.cell? ⟨4, 0, none⟩ = _ := (HSE.out.below HB.out).glob 1 (by omega)
       have HN3 := hidX (HOP.out W3 HB.out)
       cases ob with
       | false =>
        go_wp2_with fail
        refine HN3.out.mono ?_
        rintro e W4 ⟨rfl, hbn⟩
        obtain ⟨HNB, HSB, HB⟩ := nxt3 HNB HSB HB hbn
        clear d0 d1 d2 d3 e0 e1 e2 e3 e4 e5 g1 g2 g3 hbn
        obtain ⟨d0, d1, d2, d3, e0, e1, e2, e3, e4, e5⟩ := facts10 HNB.out HSB.out
        have g2 : W4.cell? ⟨1, 0, none⟩ = _ := (HSE.out.below HB.out).glob 2 (by omega)
        have g3 : W4.cell? ⟨5, 0, none⟩ = _ := (HSE.out.below HB.out).glob 3 (by omega)
        have g1 : W4.cell? ⟨4, 0, none⟩ = _ := (HSE.out.below HB.out).glob 1 (by omega)
        have hr : res = 4 := by rw [← HRS.out]; simp [z0, z2]
        subst hr
        go_wp2
        go_ret
        exact ⟨rfl, (by first | exact HB.out | exact HB.out.trans (drewN_below' _ _ _))⟩
       | true =>
        go_wp2_with fail
        refine HN3.out.mono ?_
        rintro e W4 ⟨rfl, hbn⟩
        obtain ⟨HNB, HSB, HB⟩ := nxt3 HNB HSB HB hbn
        clear d0 d1 d2 d3 e0 e1 e2 e3 e4 e5 g1 g2 g3 hbn
        obtain ⟨d0, d1, d2, d3, e0, e1, e2, e3, e4, e5⟩ := facts10 HNB.out HSB.out
        have g2 : W4.cell? ⟨1, 0, none⟩ = _ := (HSE.out.below HB.out).glob 2 (by omega)
        have g3 : W4.cell? ⟨5, 0, none⟩ = _ := (HSE.out.below HB.out).glob 3 (by omega)
        have g1 : W4.cell? ⟨4, 0, none⟩ = _ := (HSE.out.below HB.out).glob 1 (by omega)
        have HN4 := hidX (HGV.out W4 HB.out (by first | rfl | trivial) (by first | rfl | trivial))
        cases gb with
        | false =>
         go_wp2_with fail
         refine HN4.out.mono ?_
         rintro e W5 ⟨rfl, hbn⟩
         obtain ⟨HNB, HSB, HB⟩ := nxt3 HNB HSB HB hbn
         clear d0 d1 d2 d3 e0 e1 e2 e3 e4 e5 g1 g2 g3 hbn
         obtain ⟨d0, d1, d2, d3, e0, e1, e2, e3, e4, e5⟩ := facts10 HNB.out HSB.out
         have g2 : W5.cell? ⟨1, 0, none⟩ = _ := (HSE.out.below HB.out).glob 2 (by omega)
         have g3 : W5.cell? ⟨5, 0, none⟩ = _ := (HSE.out.below HB.out).glob 3 (by omega)
         have g1 : W5.cell? ⟨4, 0, none⟩ = _ := (HSE.out.below HB.out).glob 1 (by omega)
         have hr : res = 3 := by rw [← HRS.out]; simp [z0, z2]
         subst hr
         go_wp2
         go_ret
         exact ⟨rfl, (by first | exact HB.out | exact HB.out.trans (drewN_below' _ _ _))⟩
        | true =>
         by_cases kp : n.kind = gPhi
         ·obtain ⟨gq, offq, rfl, hgq, x, x1, x2, ad2, cap2, l2, x3, x4, x5, x6⟩ := HPH.out (by first | rfl | trivial) (by first | rfl | trivial) kp
          have t1 : (s.kind == [112, 104, 105]) = true := by rw [HKK.out, kp]; decide
          have HX5 := hidX x5
          clear kp x5
          go_wp2_with fail
          refine HN4.out.mono ?_
          rintro e W5 ⟨rfl, hbn⟩
          obtain ⟨HNB, HSB, HB⟩ := nxt3 HNB HSB HB hbn
          clear d0 d1 d2 d3 e0 e1 e2 e3 e4 e5 g1 g2 g3 hbn
          obtain ⟨d0, d1, d2, d3, e0, e1, e2, e3, e4, e5⟩ := facts10 HNB.out HSB.out
          have g2 : W5.cell? ⟨1, 0, none⟩ = _ := (HSE.out.below HB.out).glob 2 (by omega)
          have g3 : W5.cell? ⟨5, 0, none⟩ = _ := (HSE.out.below HB.out).glob 3 (by omega)
          have g1 : W5.cell? ⟨4, 0, none⟩ = _ := (HSE.out.below HB.out).glob 1 (by omega)
          have v1 : W5.cell? ⟨gq, offq, none⟩ = some (.int .i64 x) := (HB.out.cell (p := ⟨gq, _, none⟩) hgq).trans x1
          have v2 : W5.cell? ⟨g, off + x * 4 + 1, none⟩ = some (.slice ad2 l2 cap2) := (HB.out.cell (p := ⟨g, _, none⟩) hg).trans x3
          have v3 : W5.cell? ⟨p, 2, none⟩ = some (.slice (some ⟨g, off, none⟩) L.length cap) := (HB.out.cell (p := ⟨p, 2, none⟩) hkp).trans c2
          have l6 : (1 : Int) ≤ (n.ins.length : Int) := by omega
          clear x1 x3
          by_cases x7 : n.ins.length = l2 + 1
          ·have x8 : pb = true := by rw [HX5.out]; simpa using x7
           subst x8
           have x9 : (n.ins.length : Int) - 1 = (l2 : Int) := by omega
           have x10 : ((n.ins.length : Int) - 1 == (l2 : Int)) = true := by simpa using x9
           have hr : res = 0 := by rw [← HRS.out]; simp [z0, z2]
           subst hr
           clear HX5 x7
           go_wp2_with fail
           go_quiet (fail)
           go_wp2
           go_ret
           exact ⟨rfl, (by first | exact HB.out | exact HB.out.trans (drewN_below' _ _ _))⟩
          ·have x8 : pb = false := by rw [HX5.out]; simpa using x7
           subst x8
           have x9 : ¬ (n.ins.length : Int) - 1 = (l2 : Int) := by omega
           have x10 : ((n.ins.length : Int) - 1 == (l2 : Int)) = false := by simpa using x9
           have x11 : wrap64 ((n.ins.length : Int) - 1) = (n.ins.length : Int) - 1 := by unfold wrap64; omega
           have hr : res = 3 := by rw [← HRS.out]; simp [z0, z2]
           subst hr
           clear HX5 x7
           go_wp2_with fail
           go_quiet (fail)
           go_wp2
           go_ret
           exact ⟨rfl, (by first | exact HB.out | exact HB.out.trans (drewN_below' _ _ _))⟩
         ·have t1 : (s.kind == [112, 104, 105]) = false := by rw [HKK.out]; exact ne_lit kp
          have x8 : pb = true := HPN.out kp
          subst x8
          clear kp
          go_wp2_with fail
          refine HN4.out.mono ?_
          rintro e W5 ⟨rfl, hbn⟩
          obtain ⟨HNB, HSB, HB⟩ := nxt3 HNB HSB HB hbn
          clear d0 d1 d2 d3 e0 e1 e2 e3 e4 e5 g1 g2 g3 hbn
          obtain ⟨d0, d1, d2, d3, e0, e1, e2, e3, e4, e5⟩ := facts10 HNB.out HSB.out
          have g2 : W5.cell? ⟨1, 0, none⟩ = _ := (HSE.out.below HB.out).glob 2 (by omega)
          have g3 : W5.cell? ⟨5, 0, none⟩ = _ := (HSE.out.below HB.out).glob 3 (by omega)
          have g1 : W5.cell? ⟨4, 0, none⟩ = _ := (HSE.out.below HB.out).glob 1 (by omega)
          have hr : res = 0 := by rw [← HRS.out]; simp [z0, z2]
          subst hr
          go_wp2_with fail
          go_quiet (fail)
          go_wp2
          go_ret
          exact ⟨rfl, (by first | exact HB.out | exact HB.out.trans (drewN_below' _ _ _))⟩
    | true =>
     have y0 : ¬ (0 : Int) < (i : Int) := hi0 rfl
     clear hi0
     cases fb with
     | false =>
      go_wp2_with fail
      refine HF.out.mono ?_
      rintro e W2 ⟨rfl, hbn⟩
      obtain ⟨HNB, HSB, HB⟩ := nxt3 HNB HSB HB hbn
      clear d0 d1 d2 d3 e0 e1 e2 e3 e4 e5 g1 g2 g3 hbn
      obtain ⟨d0, d1, d2, d3, e0, e1, e2, e3, e4, e5⟩ := facts10 HNB.out HSB.out
      have g2 : W2.cell? ⟨1, 0, none⟩ = _ := (HSE.out.below HB.out).glob 2 (by omega)
      have g3 : W2.cell? ⟨5, 0, none⟩ = _ := (HSE.out.below HB.out).glob 3 (by omega)
      have g1 : W2.cell? ⟨4, 0, none⟩ = _ := (HSE.out.below HB.out).glob 1 (by omega)
      have hr : res = 3 := by rw [← HRS.out]; simp [z0]
      subst hr
      go_wp2
      go_ret
      exact ⟨rfl, (by first | exact HB.out | exact HB.out.trans (drewN_below' _ _ _))⟩
     | true =>
      go_wp2_with fail
      refine HF.out.mono ?_
      rintro e W2 ⟨rfl, hbn⟩
      obtain ⟨HNB, HSB, HB⟩ := nxt3 HNB HSB HB hbn
      clear d0 d1 d2 d3 e0 e1 e2 e3 e4 e5 g1 g2 g3 hbn
      obtain ⟨d0, d1, d2, d3, e0, e1, e2, e3, e4, e5⟩ := facts10 HNB.out HSB.out
      have g2 : W2.cell? ⟨1, 0, none⟩ = _ := (HSE.out.below HB.out).glob 2 (by omega)
      have g3 : W2.cell? ⟨5, 0, none⟩ = _ := (HSE.out.below HB.out).glob 3 (by omega)
      have g1 : W2.cell? ⟨4, 0, none⟩ = _ := (HSE.out.below HB.out).glob 1 (by omega)
      have HN2 := hidX (HBN.out W2 HB.out)
      cases bb with
      | false =>
       go_wp2_with fail
       refine HN2.out.mono ?_
       rintro e W3 ⟨rfl, hbn⟩
       obtain ⟨HNB, HSB, HB⟩ := nxt3 HNB HSB HB hbn
       clear d0 d1 d2 d3 e0 e1 e2 e3 e4 e5 g1 g2 g3 hbn
       obtain ⟨d0, d1, d2, d3, e0, e1, e2, e3, e4, e5⟩ := facts10 HNB.out HSB.out
       have g2 : W3.cell? ⟨1, 0, none⟩ = _ := (HSE.out.below HB.out).glob 2 (by omega)
       have g3 : W3.cell? ⟨5, 0, none⟩ = _ := (HSE.out.below HB.out).glob 3 (by omega)
       have g1 : W3.cell? ⟨4, 0, none⟩ = _ := (HSE.out.below HB.out).glob 1 (by omega)
       have hr : res = 2 := by rw [← HRS.out]; simp [z0, z2]
       subst hr
       go_wp2
       go_ret
       exact ⟨rfl, (by first | exact HB.out | exact HB.out.trans (drewN_below' _ _ _))⟩
      | true =>
       go_wp2_with fail
       refine HN2.out.mono ?_
       rintro e W3 ⟨rfl, hbn⟩
       obtain ⟨HNB, HSB, HB⟩ := nxt3 HNB HSB HB hbn
       clear d0 d1 d2 d3 e0 e1 e2 e3 e4 e5 g1 g2 g3 hbn
       obtain ⟨d0, d1, d2, d3, e0, e1, e2, e3, e4, e5⟩ := facts10 HNB.out HSB.out
       have g2 : W3.cell? ⟨1, 0, none⟩ = _ := (HSE.out.below HB.out).glob 2 (by omega)
       have g3 : W3.cell? ⟨5, 0, none⟩ = _ := (HSE.out.below HB.out).glob 3 (by omega)
       have g1 : W3.cell? ⟨4, 0, none⟩ = _ := (HSE.out.below HB.out).glob 1 (by omega)
       have HN3 := hidX (HOP.out W3 HB.out)
       cases ob with
       | false =>
        go_wp2_with fail
        refine HN3.out.mono ?_
        rintro e W4 ⟨rfl, hbn⟩
        obtain ⟨HNB, HSB, HB⟩ := nxt3 HNB HSB HB hbn
        clear d0 d1 d2 d3 e0 e1 e2 e3 e4 e5 g1 g2 g3 hbn
        obtain ⟨d0, d1, d2, d3, e0, e1, e2, e3, e4, e5⟩ := facts10 HNB.out HSB.out
        have g2 : W4.cell? ⟨1, 0, none⟩ = _ := (HSE.out.below HB.out).glob 2 (by omega)
        have g3 : W4.cell? ⟨5, 0, none⟩ = _ := (HSE.out.below HB.out).glob 3 (by omega)
        have g1 : W4.cell? ⟨4, 0, none⟩ = _ := (HSE.out.below HB.out).glob 1 (by omega)
        have hr : res = 4 := by rw [← HRS.out]; simp [z0, z2]
        subst hr
        go_wp2
        go_ret
        exact ⟨rfl, (by first | exact HB.out | exact HB.out.trans (drewN_below' _ _ _))⟩
       | true =>
        go_wp2_with fail
        refine HN3.out.mono ?_
        rintro e W4 ⟨rfl, hbn⟩
        obtain ⟨HNB, HSB, HB⟩ := nxt3 HNB HSB HB hbn
        clear d0 d1 d2 d3 e0 e1 e2 e3 e4 e5 g1 g2 g3 hbn
        obtain ⟨d0, d1, d2, d3, e0, e1, e2, e3, e4, e5⟩ := facts10 HNB.out HSB.out
        have g2 : W4.cell? ⟨1, 0, none⟩ = _ := (HSE.out.below HB.out).glob 2 (by omega)
        have g3 : W4.cell? ⟨5, 0, none⟩ = _ := (HSE.out.below HB.out).glob 3 (by omega)
        have g1 : W4.cell? ⟨4, 0, none⟩ = _ := (HSE.out.below HB.out).glob 1 (by omega)
        have HN4 := hidX (HGV.out W4 HB.out (by first | rfl | trivial) (by first | rfl | trivial))
        cases gb with
        | false =>
         go_wp2_with fail
         refine HN4.out.mono ?_
         rintro e W5 ⟨rfl, hbn⟩
         obtain ⟨HNB, HSB, HB⟩ := nxt3 HNB HSB HB hbn
         clear d0 d1 d2 d3 e0 e1 e2 e3 e4 e5 g1 g2 g3 hbn
         obtain ⟨d0, d1, d2, d3, e0, e1, e2, e3, e4, e5⟩ := facts10 HNB.out HSB.out
         have g2 : W5.cell? ⟨1, 0, none⟩ = _ := (HSE.out.below HB.out).glob 2 (by omega)
         have g3 : W5.cell? ⟨5, 0, none⟩ = _ := (HSE.out.below HB.out).glob 3 (by omega)
         have g1 : W5.cell? ⟨4, 0, none⟩ = _ := (HSE.out.below HB.out).glob 1 (by omega)
         have hr : res = 3 := by rw [← HRS.out]; simp [z0, z2]
         subst hr
         go_wp2
         go_ret
         exact ⟨rfl, (by first | exact HB.out | exact HB.out.trans (drewN_below' _ _ _))⟩
        | true =>
         by_cases kp : n.kind = gPhi
         ·obtain ⟨gq, offq, rfl, hgq, x, x1, x2, ad2, cap2, l2, x3, x4, x5, x6⟩ := HPH.out (by first | rfl | trivial) (by first | rfl | trivial) kp
          have t1 : (s.kind == [112, 104, 105]) = true := by rw [HKK.out, kp]; decide
          have HX5 := hidX x5
          clear kp x5
          go_wp2_with fail
          refine HN4.out.mono ?_
          rintro e W5 ⟨rfl, hbn⟩
          obtain ⟨HNB, HSB, HB⟩ := nxt3 HNB HSB HB hbn
          clear d0 d1 d2 d3 e0 e1 e2 e3 e4 e5 g1 g2 g3 hbn
          obtain ⟨d0, d1, d2, d3, e0, e1, e2, e3, e4, e5⟩ := facts10 HNB.out HSB.out
          have g2 : W5.cell? ⟨1, 0, none⟩ = _ := (HSE.out.below HB.out).glob 2 (by omega)
          have g3 : W5.cell? ⟨5, 0, none⟩ = _ := (HSE.out.below HB.out).glob 3 (by omega)
          have g1 : W5.cell? ⟨4, 0, none⟩ = _ := (HSE.out.below HB.out).glob 1 (by omega)
          have v1 : W5.cell? ⟨gq, offq, none⟩ = some (.int .i64 x) := (HB.out.cell (p := ⟨gq, _, none⟩) hgq).trans x1
          have v2 : W5.cell? ⟨g, off + x * 4 + 1, none⟩ = some (.slice ad2 l2 cap2) := (HB.out.cell (p := ⟨g, _, none⟩) hg).trans x3
          have v3 : W5.cell? ⟨p, 2, none⟩ = some (.slice (some ⟨g, off, none⟩) L.length cap) := (HB.out.cell (p := ⟨p, 2, none⟩) hkp).trans c2
          have l6 : (1 : Int) ≤ (n.ins.length : Int) := by omega
          clear x1 x3
          by_cases x7 : n.ins.length = l2 + 1
          ·have x8 : pb = true := by rw [HX5.out]; simpa using x7
           subst x8
           have x9 : (n.ins.length : Int) - 1 = (l2 : Int) := by omega
           have x10 : ((n.ins.length : Int) - 1 == (l2 : Int)) = true := by simpa using x9
           have hr : res = 0 := by rw [← HRS.out]; simp [z0, z2]
           subst hr
           clear HX5 x7
           go_wp2_with fail
           go_quiet (fail)
           go_wp2
           go_ret
           exact ⟨rfl, (by first | exact HB.out | exact HB.out.trans (drewN_below' _ _ _))⟩
          ·have x8 : pb = false := by rw [HX5.out]; simpa using x7
           subst x8
           have x9 : ¬ (n.ins.length : Int) - 1 = (l2 : Int) := by omega
           have x10 : ((n.ins.length : Int) - 1 == (l2 : Int)) = false := by simpa using x9
           have x11 : wrap64 ((n.ins.length : Int) - 1) = (n.ins.length : Int) - 1 := by unfold wrap64; omega
           have hr : res = 3 := by rw [← HRS.out]; simp [z0, z2]
           subst hr
           clear HX5 x7
           go_wp2_with fail
           go_quiet (fail)
           go_wp2
           go_ret
           exact ⟨rfl, (by first | exact HB.out | exact HB.out.trans (drewN_below' _ _ _))⟩
         ·have t1 : (s.kind == [112, 104, 105]) = false := by rw [HKK.out]; exact ne_lit kp
          have x8 : pb = true := HPN.out kp
          subst x8
          clear kp
          go_wp2_with fail
          refine HN4.out.mono ?_
          rintro e W5 ⟨rfl, hbn⟩
          obtain ⟨HNB, HSB, HB⟩ := nxt3 HNB HSB HB hbn
          clear d0 d1 d2 d3 e0 e1 e2 e3 e4 e5 g1 g2 g3 hbn
          obtain ⟨d0, d1, d2, d3, e0, e1, e2, e3, e4, e5⟩ := facts10 HNB.out HSB.out
          have g2 : W5.cell? ⟨1, 0, none⟩ = _ := (HSE.out.below HB.out).glob 2 (by omega)
          have g3 : W5.cell? ⟨5, 0, none⟩ = _ := (HSE.out.below HB.out).glob 3 (by omega)
          have g1 : W5.cell? ⟨4, 0, none⟩ = _ := (HSE.out.below HB.out).glob 1 (by omega)
          have hr : res = 0 := by rw [← HRS.out]; simp [z0, z2]
          subst hr
          go_wp2_with fail
          go_quiet (fail)
          go_wp2
          go_ret
          exact ⟨rfl, (by first | exact HB.out | exact HB.out.trans (drewN_below' _ _ _))⟩
end Go.Proofs.YtlgejjmdanmglaaGreatDoor
