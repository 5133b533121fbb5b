/- Our own: texts joined: GrFlow, GrAsked, GrFlow2. -/
import Derived.Test.YtlgejjmdanmglaaGreatDoorVNoteV
import Derived.Test.YtlgejjmdanmglaaGreatDoorVBase
import Derived.Deep.RegionHeld3
namespace Go.Proofs.YtlgejjmdanmglaaGreatDoor
open Go.RowKit
def spotsC (l : List (Nat × Nat)) : List Value := l.flatMap fun s => [.int .i64 (s.1 : Int), .int .i64 (s.2 : Int)]
def XPs (A : Nat → Prop) (w : World) : List (List Nat) → List Value → Prop
 | [], xs => xs = []
 | l :: r, xs => ∃ ad cap ys, xs = .slice ad l.length cap :: ys ∧ XRow A w (.slice ad l.length cap) l.length (natsG l) ∧ XPs A w r ys
structure Fl (A : Nat → Prop) (w : World) (p : Nat) (nm : List UInt8) (P : Int) (nv tv yv ov pv : Value) (L : List Nd) (tk : List (Nat × Nat)) (ys ns : List Nat) (ph : List (List Nat)) : Prop where
 blk : w.heap[p]? = some (.cells #[.string ⟨nm.toArray⟩, .int .i64 P, nv, tv, yv, ov, pv] 78 (0, 0))
 gr : XG true A w nv L
 tks : XRow A w tv tk.length (spotsC tk)
 yes : XRow A w yv ys.length (natsG ys)
 no : XRow A w ov ns.length (natsG ns)
 phs : ∃ xs, XRow A w pv ph.length xs ∧ XPs A w ph xs
 lt : tk.length = L.length
 ly : ys.length = L.length
 ln : ns.length = L.length
 lp : ph.length = L.length
def behN (L : List Nd) (ys ns : List Nat) (i : Nat) : List Nat := if (ndAt L i).kind = gIf then [ys.getD i 0, ns.getD i 0] else if (ndAt L i).kind = gReturn then [] else [i]
theorem natsG_at {l : List Nat} {i : Nat} (h : i < l.length) : (natsG l)[i]? = some (.int .i64 ((l.getD i 0 : Nat) : Int)) := by simp [natsG, h]
theorem XRow.nat {A : Nat → Prop} {w : World} {ad : Option Addr} {n cap : Nat} {l : List Nat} (h : XRow A w (.slice ad n cap) l.length (natsG l)) {k : Nat} (hk : k < l.length) : ∃ g off, ad = some ⟨g, off, none⟩ ∧ A g ∧ w.cell? ⟨g, off + k, none⟩ = some (.int .i64 ((l.getD k 0 : Nat) : Int)) := by
 obtain ⟨g, off, h1, _, h2, h3⟩ := h.get (by omega)
 exact ⟨g, off, h1, h2, h3 k _ (natsG_at hk)⟩
theorem xrow_new1 (w : World) (x : Int) : XRow (fun b => w.heap.size ≤ b ∧ b < (w.alloc (.cells #[.int .i64 x] 3)).heap.size) (w.alloc (.cells #[.int .i64 x] 3)) (.slice (some ⟨w.heap.size, 0, none⟩) 1 1) 1 [.int .i64 x] :=
 (xrow_own (World.ownsRow_lit (base := w.heap.size) (e := 3) (size := 1) w #[.int .i64 x] 1 (Nat.le_refl _) (by decide) rfl)).imp (fun _ h => h) (fun _ _ => rfl)
theorem xrow_new2 (w : World) (x y : Int) : XRow (fun b => w.heap.size ≤ b ∧ b < (w.alloc (.cells #[.int .i64 x, .int .i64 y] 3)).heap.size) (w.alloc (.cells #[.int .i64 x, .int .i64 y] 3)) (.slice (some ⟨w.heap.size, 0, none⟩) 2 2) 2 [.int .i64 x, .int .i64 y] :=
 (xrow_own (World.ownsRow_lit (base := w.heap.size) (e := 3) (size := 1) w #[.int .i64 x, .int .i64 y] 2 (Nat.le_refl _) (by decide) rfl)).imp (fun _ h => h) (fun _ _ => rfl)
set_option maxRecDepth 100000 in
set_option maxHeartbeats 1000000 in
theorem behind_any {A : Nat → Prop} {w : World} {p : Nat} {nm : List UInt8} {P : Int} {nv tv yv ov pv : Value} {L : List Nd} {tk : List (Nat × Nat)} {ys ns : List Nat} {ph : List (List Nat)} (hF : Fl A w p nm P nv tv yv ov pv L tk ys ns ph) (hL : L.length ≤ 1000) (i : Nat) (hi : i < L.length) :
  Calls Tryz.prog 70 #[.pointer (some ⟨p, 0, none⟩), .int .i64 (i : Int)] w fun e w' => ∃ v, e = .returned v ∧ Below w.heap.size w w' ∧ XRow (fun b => w.heap.size ≤ b ∧ b < w'.heap.size) w' v (behN L ys ns i).length (natsG (behN L ys ns i)) := by
 obtain ⟨ad, cap, rfl⟩ := hF.gr.is
 obtain ⟨ady, capy, rfl⟩ := hF.yes.is
 obtain ⟨ado, capo, rfl⟩ := hF.no.is
 obtain ⟨g, off, ad1, cap1, e1, hg, _, hr, k0, k1, k2, k3⟩ := hF.gr.node hi
 subst e1
 obtain ⟨gy, offy, e1, _, ky⟩ := hF.yes.nat (k := i) (by have := hF.ly; omega)
 subst e1
 obtain ⟨go, offo, e1, _, ko⟩ := hF.no.nat (k := i) (by have := hF.ln; omega)
 subst e1
 have b2 : w.cell? ⟨p, 2, none⟩ = _ := cell_of_blk hF.blk 2
 have b4 : w.cell? ⟨p, 4, none⟩ = _ := cell_of_blk hF.blk 4
 have b5 : w.cell? ⟨p, 5, none⟩ = _ := cell_of_blk hF.blk 5
 simp only [List.getElem?_toArray, List.getElem?_cons_zero, List.getElem?_cons_succ] at b2 b4 b5
 have hi' : (i : Int) < (L.length : Int) := by omega
 have hiy : (i : Int) < (ys.length : Int) := by have := hF.ly; omega
 have hin : (i : Int) < (ns.length : Int) := by have := hF.ln; omega
 have hnd : ndAt L (i : Int) = L[i] := by simp [ndAt, hi]
 have hL' : (L.length : Int) ≤ 1000 := by omega
 unfold behN
 rw [hnd]
 clear hF hr hnd k1 k2 k3
 generalize ys.getD i 0 = y at *
 generalize ns.getD i 0 = z at *
 generalize L[i].kind = kd at *
 by_cases c1 : kd = gIf
 ·have t1 : (kd == [105, 102]) = true := by rw [c1]; decide
  have hbe : (if kd = gIf then [y, z] else if kd = gReturn then [] else [i]) = [y, z] := if_pos c1
  rw [hbe]
  have HX := hidX (show XRow (fun b => w.heap.size ≤ b ∧ b < (w.alloc (.cells #[.int .i64 (y : Int), .int .i64 (z : Int)] 3)).drew.heap.size) (w.alloc (.cells #[.int .i64 (y : Int), .int .i64 (z : Int)] 3)).drew _ 2 _ from (xrow_new2 w (y : Int) (z : Int)).imp (fun _ h => h) (fun _ _ => rfl))
  have hS : ∀ W : World, Below w.heap.size w W → W.cell? ⟨p, 4, none⟩ = some (.slice (some ⟨gy, offy, none⟩) ys.length capy) ∧ W.cell? ⟨p, 5, none⟩ = some (.slice (some ⟨go, offo, none⟩) ns.length capo) ∧ W.cell? ⟨gy, offy + i, none⟩ = some (.int .i64 (y : Int)) ∧ W.cell? ⟨go, offo + i, none⟩ = some (.int .i64 (z : Int)) := fun W h => ⟨(h.cell (p := ⟨p, 4, none⟩) (cell_lt b4)).trans b4, (h.cell (p := ⟨p, 5, none⟩) (cell_lt b5)).trans b5, (h.cell (p := ⟨gy, _, none⟩) (cell_lt ky)).trans ky, (h.cell (p := ⟨go, _, none⟩) (cell_lt ko)).trans ko⟩
  have S0 := hidX (hS w.drew (by (repeat (first | exact Below.refl _ _ | assumption | refine Below.drew ?_ | refine bT ?_ _ | refine bS ?_ _ | refine bA ?_ _))))
  have S1 := hidX (hS (w.alloc (.cells #[.int .i64 (y : Int), .int .i64 (z : Int)] 3)).drew (by (repeat (first | exact Below.refl _ _ | assumption | refine Below.drew ?_ | refine bT ?_ _ | refine bS ?_ _ | refine bA ?_ _))))
  clear c1 hbe hS
  go_enter Tryz.func70, Tryz.ntmps70
  go_wp2_with fail
  go_region_held3 (fun W => W.cell? ⟨p, 4, none⟩ = some (.slice (some ⟨gy, offy, none⟩) ys.length capy) ∧ W.cell? ⟨p, 5, none⟩ = some (.slice (some ⟨go, offo, none⟩) ns.length capo) ∧ W.cell? ⟨gy, offy + i, none⟩ = some (.int .i64 (y : Int)) ∧ W.cell? ⟨go, offo + i, none⟩ = some (.int .i64 (z : Int))) (first | with_reducible exact S0.out | with_reducible exact S1.out) (fail)
  all_goals (
   go_wp2
   go_ret
   exact ⟨_, rfl, by (repeat (first | exact Below.refl _ _ | assumption | refine Below.drew ?_ | refine bT ?_ _ | refine bS ?_ _ | refine bA ?_ _)), HX.out⟩)
 ·have t1 : (kd == [105, 102]) = false := ne_lit c1
  by_cases c2 : kd = gReturn
  ·have t2 : (kd == [114, 101, 116, 117, 114, 110]) = true := by rw [c2]; decide
   have hbe : (if kd = gIf then [y, z] else if kd = gReturn then [] else [i]) = [] := by rw [if_neg c1, if_pos c2]
   rw [hbe]
   clear c1 c2 hbe
   go_enter Tryz.func70, Tryz.ntmps70
   go_wp2
   go_ret
   exact ⟨_, rfl, by (repeat (first | exact Below.refl _ _ | assumption | refine Below.drew ?_ | refine bT ?_ _ | refine bS ?_ _ | refine bA ?_ _)), xrow_nil _ _⟩
  ·have t2 : (kd == [114, 101, 116, 117, 114, 110]) = false := ne_lit c2
   have hbe : (if kd = gIf then [y, z] else if kd = gReturn then [] else [i]) = [i] := by rw [if_neg c1, if_neg c2]
   rw [hbe]
   have HX := hidX (xrow_new1 w (i : Int))
   clear c1 c2 hbe
   go_enter Tryz.func70, Tryz.ntmps70
   go_wp2
   go_ret
   exact ⟨_, rfl, by (repeat (first | exact Below.refl _ _ | assumption | refine Below.drew ?_ | refine bT ?_ _ | refine bS ?_ _ | refine bA ?_ _)), HX.out⟩
end Go.Proofs.YtlgejjmdanmglaaGreatDoor
namespace Go.Proofs.YtlgejjmdanmglaaGreatDoor
open Go.RowKit
theorem XRow.tail {A : Nat → Prop} {w : World} {g off n cap : Nat} {l : List Int} {x : Int} (h : XRow A w (.slice (some ⟨g, off, none⟩) n cap) (x :: l).length (intsG (x :: l))) (o2 : Nat) (ho : l ≠ [] → o2 = off + 1) (c2 : Nat) : XRow A w (.slice (some ⟨g, o2, none⟩) l.length c2) l.length (intsG l) := by
 obtain ⟨g', off', h1, _, h2, h3⟩ := h.get (by simp)
 injection h1 with h1
 injection h1 with h1 h4
 subst h1 h4
 refine ⟨_, _, rfl, fun hne => ⟨_, _, rfl, h2, fun j u hu => ?_⟩⟩
 have hl : l ≠ [] := fun e => hne (by rw [e]; rfl)
 rw [ho hl]
 have := h3 (j + 1) u (by simpa [intsG] using hu)
 rwa [show off + (j + 1) = off + 1 + j by omega] at this
set_option maxRecDepth 100000 in
set_option maxHeartbeats 1000000 in
theorem asked_one {A : Nat → Prop} {w : World} {p : Nat} {nm : List UInt8} {P : Int} {nv tv yv ov pv : Value} {L : List Nd} {tk : List (Nat × Nat)} {ys ns : List Nat} {ph : List (List Nat)} (hF : Fl A w p nm P nv tv yv ov pv L tk ys ns ph) (hA : ∀ b, A b → b < w.heap.size) (hL : L.length ≤ 1000) (i : Nat) (hi : i < L.length) (hk : (L[i]).kind ≠ gRegion) (x : Int) (l : List Int) (hin : (L[i]).ins = x :: l) (hll : l.length ≤ 1000) (k : Nat) :
  Calls Tryz.prog 69 #[.pointer (some ⟨p, 0, none⟩), .agg #[.int .i64 (i : Int), .int .i64 (k : Int)]] w fun e w' => ∃ v, e = .returned v ∧ Below w.heap.size w w' ∧ XRow A w' v l.length (intsG l) := by
 obtain ⟨ad, cap, rfl⟩ := hF.gr.is
 obtain ⟨g, off, ad1, cap1, e1, hg, hcp, hr, k0, k1, k2, k3⟩ := hF.gr.node hi
 subst e1
 have b2 : w.cell? ⟨p, 2, none⟩ = _ := cell_of_blk hF.blk 2
 simp only [List.getElem?_toArray, List.getElem?_cons_zero, List.getElem?_cons_succ] at b2
 have hi' : (i : Int) < (L.length : Int) := by omega
 have hL' : (L.length : Int) ≤ 1000 := by omega
 have hcp := hcp rfl
 generalize L[i] = n at *
 obtain ⟨nk, ni, nn, na⟩ := n
 simp only at hk hin k0 k1 k2 k3 hr hcp
 subst hin
 have t1 : (nk == [114, 101, 103, 105, 111, 110]) = false := ne_lit hk
 obtain ⟨g1, off1, e1, hg1, _⟩ := hr.int (k := 0) (by simp)
 subst e1
 have hT := fun o2 ho c2 => hr.tail o2 ho c2
 have HT := hidX hT
 have HA := hidX hA
 have hcp' : ((l.length : Nat) : Int) + 1 ≤ (cap1 : Int) := by simp at hcp; omega
 have hll' : (l.length : Int) ≤ 1000 := by omega
 have hgl : g < w.heap.size := cell_lt k0
 have hpl : p < w.heap.size := cell_lt b2
 simp only [List.length_cons] at k1
 obtain ⟨W0, hW0⟩ : ∃ W0, W0 = w.alloc (.cells #[.int .i64 (i : Int), .int .i64 (k : Int)] 99) := ⟨_, rfl⟩
 have hb0 : Below w.heap.size w W0 := by rw [hW0]; (repeat (first | exact Below.refl _ _ | assumption | refine Below.drew ?_ | refine bT ?_ _ | refine bS ?_ _ | refine bA ?_ _))
 have hx0 : W0.heap[w.heap.size]? = some (.cells #[.int .i64 (i : Int), .int .i64 (k : Int)] 99 (0, 0)) := by rw [hW0]; exact heap_alloc_new _ _
 have hS : ∀ W : World, Below W0.heap.size W0 W → W.cell? ⟨p, 2, none⟩ = some (.slice (some ⟨g, off, none⟩) L.length cap) ∧ W.cell? ⟨w.heap.size, 0, none⟩ = some (.int .i64 (i : Int)) ∧ W.cell? ⟨g, off + i * 4, none⟩ = some (.string ⟨nk.toArray⟩) ∧ W.cell? ⟨g, off + i * 4 + 1, none⟩ = some (.slice (some ⟨g1, off1, none⟩) (l.length + 1) cap1) ∧ W.cell? ⟨g, off + i * 4 + 2, none⟩ = some (.int .i64 nn) ∧ W.cell? ⟨g, off + i * 4 + 3, none⟩ = some (.string ⟨na.toArray⟩) := fun W h => by
  have h' := bl_trans hb0 hb0.size h
  exact ⟨(h'.cell (p := ⟨p, 2, none⟩) hpl).trans b2, cell_of_blk ((h.block _ (heap_lt hx0)).trans hx0) 0, (h'.cell (p := ⟨g, _, none⟩) hgl).trans k0, (h'.cell (p := ⟨g, _, none⟩) hgl).trans k1, (h'.cell (p := ⟨g, _, none⟩) hgl).trans k2, (h'.cell (p := ⟨g, _, none⟩) hgl).trans k3⟩
 have HS := hidX hS
 have HB0 := hidX hb0
 clear hF hr hk hT hA hS hx0 hb0 k0 k1 k2 k3 b2
 go_enter Tryz.func69, Tryz.ntmps69
 go_wp2_with fail
 rw [← hW0]
 have hz0 : w.heap.size + 1 = W0.heap.size := by rw [hW0]; simp
 clear hW0
 go_region_held3 (fun W => W.cell? ⟨p, 2, none⟩ = some (.slice (some ⟨g, off, none⟩) L.length cap) ∧ W.cell? ⟨w.heap.size, 0, none⟩ = some (.int .i64 (i : Int)) ∧ W.cell? ⟨g, off + i * 4, none⟩ = some (.string ⟨nk.toArray⟩) ∧ W.cell? ⟨g, off + i * 4 + 1, none⟩ = some (.slice (some ⟨g1, off1, none⟩) (l.length + 1) cap1) ∧ W.cell? ⟨g, off + i * 4 + 2, none⟩ = some (.int .i64 nn) ∧ W.cell? ⟨g, off + i * 4 + 3, none⟩ = some (.string ⟨na.toArray⟩)) (exact HS.out _ (by (repeat (first | exact Below.refl _ _ | assumption | refine Below.drew ?_ | refine bT ?_ _ | refine bS ?_ _ | refine bA ?_ _)))) (fail)
 all_goals go_wp2_with fail
 all_goals (
  have hbw : ∀ c, Below w.heap.size w (W0.alloc c).drew := fun c => (HB0.out.alloc HB0.out.size c).drew
  go_ret
  refine ⟨_, rfl, hbw _, (HT.out _ (fun hl => ?_) _).imp (fun _ h => h) (fun b hb => (hbw _).block b (HA.out b hb))⟩
  first
   | rfl
   | (exfalso; have := List.length_pos_iff.2 hl; omega))
end Go.Proofs.YtlgejjmdanmglaaGreatDoor
namespace Go.Proofs.YtlgejjmdanmglaaGreatDoor
open Go.RowKit
theorem XPs.imp {A B : Nat → Prop} {w w' : World} (hA : ∀ b, A b → B b) (hk : KeepA A w w') : ∀ (l : List (List Nat)) (xs : List Value), XPs A w l xs → XPs B w' l xs
 | [], _, h => h
 | _ :: r, _, ⟨ad, cap, ys, e, hx, hr⟩ => ⟨ad, cap, ys, e, hx.imp hA hk, XPs.imp hA hk r ys hr⟩
theorem XPs.len {A : Nat → Prop} {w : World} : ∀ {l : List (List Nat)} {xs : List Value}, XPs A w l xs → xs.length = l.length
 | [], xs, h => by have : xs = [] := h; rw [this]; rfl
 | _ :: r, xs, ⟨ad, cap, ys, e, _, hr⟩ => by rw [e, List.length_cons, List.length_cons, XPs.len hr]
theorem XPs.at {A : Nat → Prop} {w : World} : ∀ {l : List (List Nat)} {xs : List Value} {i : Nat} (_ : XPs A w l xs) (hi : i < l.length), ∃ ad cap, xs[i]? = some (.slice ad l[i].length cap) ∧ XRow A w (.slice ad l[i].length cap) l[i].length (natsG l[i])
 | [], _, _, _, hi => absurd hi (by simp)
 | _ :: _, _, 0, ⟨ad, cap, ys, e, hx, _⟩, _ => ⟨ad, cap, by rw [e]; rfl, hx⟩
 | _ :: r, _, i + 1, ⟨_, _, ys, e, _, hr⟩, hi => by
  obtain ⟨a2, c2, h1, h2⟩ := XPs.at (i := i) hr (by simpa using hi)
  exact ⟨a2, c2, by rw [e]; simpa using h1, h2⟩
theorem Fl.phi {A : Nat → Prop} {w : World} {p : Nat} {nm : List UInt8} {P : Int} {nv tv yv ov : Value} {adp : Option Addr} {np cp : Nat} {L : List Nd} {tk : List (Nat × Nat)} {ys ns : List Nat} {ph : List (List Nat)} (h : Fl A w p nm P nv tv yv ov (.slice adp np cp) L tk ys ns ph) {i : Nat} (hi : i < ph.length) :
  ∃ g off ad cap, adp = some ⟨g, off, none⟩ ∧ A g ∧ w.cell? ⟨g, off + i, none⟩ = some (.slice ad ph[i].length cap) ∧ XRow A w (.slice ad ph[i].length cap) ph[i].length (natsG ph[i]) := by
 obtain ⟨xs, h1, h2⟩ := h.phs
 obtain ⟨ad, cap, e1, e2⟩ := h2.at hi
 obtain ⟨g, off, e3, _, hg, hc⟩ := h1.get (by omega)
 exact ⟨g, off, ad, cap, e3, hg, hc i _ e1, e2⟩
theorem Fl.imp {A B : Nat → Prop} {w w' : World} {p : Nat} {nm : List UInt8} {P : Int} {nv tv yv ov pv : Value} {L : List Nd} {tk : List (Nat × Nat)} {ys ns : List Nat} {ph : List (List Nat)} (h : Fl A w p nm P nv tv yv ov pv L tk ys ns ph) (hp : w'.heap[p]? = w.heap[p]?) (hA : ∀ b, A b → B b) (hk : KeepA A w w') : Fl B w' p nm P nv tv yv ov pv L tk ys ns ph := by
 obtain ⟨xs, h1, h2⟩ := h.phs
 exact ⟨hp.trans h.blk, h.gr.imp hA hk, h.tks.imp hA hk, h.yes.imp hA hk, h.no.imp hA hk, ⟨xs, h1.imp hA hk, XPs.imp hA hk _ _ h2⟩, h.lt, h.ly, h.ln, h.lp⟩
theorem spots_len (l : List (Nat × Nat)) : (spotsC l).length = l.length * 2 := by
 induction l with
 | nil => rfl
 | cons s r ih => simp only [spotsC, List.flatMap_cons, List.length_append, List.length_cons, List.length_nil] at ih ⊢; omega
theorem spots_at : ∀ (l : List (Nat × Nat)) (i : Nat) (hi : i < l.length) (j : Nat), j < 2 → (spotsC l)[i * 2 + j]? = ([.int .i64 (l[i].1 : Int), .int .i64 (l[i].2 : Int)] : List Value)[j]?
 | [], _, hi, _, _ => absurd hi (by simp)
 | s :: r, 0, _, j, hj => by
  show (([.int .i64 (s.1 : Int), .int .i64 (s.2 : Int)] : List Value) ++ spotsC r)[0 * 2 + j]? = _
  rw [List.getElem?_append_left (by simp; omega)]
  simp
 | s :: r, i + 1, hi, j, hj => by
  show (([.int .i64 (s.1 : Int), .int .i64 (s.2 : Int)] : List Value) ++ spotsC r)[(i + 1) * 2 + j]? = _
  rw [List.getElem?_append_right (by simp; omega)]
  have := spots_at r i (by simpa using hi) j hj
  simp only [List.length_cons, List.length_nil, List.getElem_cons_succ]
  rw [show (i + 1) * 2 + j - (0 + 1 + 1) = i * 2 + j by omega]
  exact this
end Go.Proofs.YtlgejjmdanmglaaGreatDoor
