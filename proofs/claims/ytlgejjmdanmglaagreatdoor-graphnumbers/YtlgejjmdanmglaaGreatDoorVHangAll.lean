/- Our own: texts joined: GrUsers, GrHang. -/
import Derived.Test.YtlgejjmdanmglaaGreatDoorVPileAll
import Derived.Test.YtlgejjmdanmglaaGreatDoorVFlowM
import Derived.OwnWalk
import Derived.Deep.OwnRows
import Derived.Shelf.Abstract
namespace Go.Proofs.YtlgejjmdanmglaaGreatDoor
open Go.RowKit
structure UsAt (w X : World) (vs : List Value) (u : List (List Nat)) : Prop where
 low : Below w.heap.size w X
 pile : PileAt X (w.heap.size + 1) w.heap.size vs u
theorem UsAt.below {w X Y : World} {vs : List Value} {u : List (List Nat)} (h : UsAt w X vs u) (hb : Below X.heap.size X Y) : UsAt w Y vs u :=
 ⟨bl_trans h.low h.low.size hb, h.pile.keep (fun b hb' _ => hb.block b hb')⟩
set_option maxRecDepth 100000 in
set_option maxHeartbeats 1000000 in
theorem users_any {A : Nat → Prop} {w : World} {p : Nat} {nm : List UInt8} {P : Int} {nv tv yv ov pv : Value} {L : List Nd} {tk : List (Nat × Nat)} {ys ns : List Nat} {ph : List (List Nat)} (hF : Fl A w p nm P nv tv yv ov pv L tk ys ns ph) (hA : ∀ b, A b → b < w.heap.size) (hL : L.length ≤ 1000) (hB : ∀ i, ∀ x ∈ reck L i, 0 ≤ x ∧ x < (L.length : Int)) (hR : ∀ i, (reck L i).length ≤ 2) :
  Calls Tryz.prog 36 #[.pointer (some ⟨p, 0, none⟩)] w fun e w' => e = .returned (.slice (some ⟨w.heap.size, 0, none⟩) L.length L.length) ∧ ∃ vs, UsAt w w' vs (usI L L.length) := by
 obtain ⟨ad, cap, rfl⟩ := hF.gr.is
 have b2 : w.cell? ⟨p, 2, none⟩ = some (.slice ad L.length cap) := cell_of_blk hF.blk 2
 have hpl := cell_lt b2
 have hmk := run_make_row' (P := Tryz.prog) 74 40 (.slice none 0 0) 24 Tryz.underlying74 pile_info rfl .i64 .i64 L.length (by omega) (by omega)
 rw [made_pile] at hmk
 obtain ⟨vs0, hvs0⟩ : ∃ vs0, vs0 = List.replicate L.length (Value.slice none 0 0) := ⟨_, rfl⟩
 rw [← hvs0] at hmk
 have hL' : (L.length : Int) ≤ 1000 := by omega
 obtain ⟨W0, hW0⟩ : ∃ W0, W0 = w.alloc (.cells vs0.toArray 40) := ⟨_, rfl⟩
 have h0 : UsAt w W0 vs0 (usI L 0) := ⟨by rw [hW0]; (repeat (first | exact Below.refl _ _ | assumption | refine Below.drew ?_ | refine bT ?_ _ | refine bS ?_ _ | refine bA ?_ _)), by rw [hvs0]; exact pile_new (by rw [hW0, hvs0]; exact heap_alloc_new _ _) (by omega)⟩
 clear hvs0
 have c2 : W0.cell? ⟨p, 2, none⟩ = some (.slice ad L.length cap) := (h0.low.cell (p := ⟨p, 2, none⟩) hpl).trans b2
 have HF := hidX hF
 have HA := hidX hA
 have HB := hidX hB
 have HR := hidX hR
 have H0 := hidX h0
 clear hF hA hB hR h0
 go_enter Tryz.func36, Tryz.ntmps36
 go_wp2_with fail
 rw [← hW0]
 clear hW0 hmk
 go_wp2_with fail
 clear c2 b2
 go_loopw [21] (fun vi wr => ∃ (q : Nat) (vs : List Value), q ≤ L.length ∧ vi = .int .i64 q ∧ Hid (UsAt w wr vs (usI L q))) (fun vi _ => L.length - (intOf vi).toNat)
 case atStart => exact ⟨0, _, Nat.zero_le _, rfl, H0.out⟩
 case round =>
  obtain ⟨q, vs, hq, rfl, HU⟩ := hrel
  by_cases hlt : q < L.length
  ·have hlt' : (q : Int) < (L.length : Int) := by omega
   obtain ⟨g, off, ad1, cap1, e1, hg, _, hr, k0, k1, k2, k3⟩ := HF.out.gr.node hlt
   subst e1
   have hlowq := HU.out.low
   have hgl := HA.out _ hg
   replace k0 := (hlowq.cell (p := ⟨g, _, none⟩) hgl).trans k0
   replace k1 := (hlowq.cell (p := ⟨g, _, none⟩) hgl).trans k1
   replace k2 := (hlowq.cell (p := ⟨g, _, none⟩) hgl).trans k2
   replace k3 := (hlowq.cell (p := ⟨g, _, none⟩) hgl).trans k3
   have hnd : ndAt L (q : Int) = L[q] := by simp [ndAt, hlt]
   have hus : usI L (q + 1) = usRow q (usI L q) (reck L q) := rfl
   have hrk : reck L q = if (L[q]).kind = gOne ∨ (L[q]).kind = gTwo then (L[q]).ins else [] := by unfold reck; rw [hnd]
   have hsum := usI_sum L HR.out q
   have hr2 := HR.out q
   have hbq := HB.out q
   have hul := usI_len L q
   rw [hrk] at hus hr2 hbq
   generalize L[q] = n at *
   generalize usI L q = uq at *
   obtain ⟨X1, hX1⟩ : ∃ X1, X1 = wr.alloc (.cells #[.string ⟨n.kind.toArray⟩, .slice ad1 n.ins.length cap1, .int .i64 n.num, .string ⟨n.name.toArray⟩] 55) := ⟨_, rfl⟩
   have hb1 : Below wr.heap.size wr X1 := by rw [hX1]; (repeat (first | exact Below.refl _ _ | assumption | refine Below.drew ?_ | refine bT ?_ _ | refine bS ?_ _ | refine bA ?_ _))
   have hu1 : UsAt w X1 vs uq := HU.out.below hb1
   have hx1 : X1.heap[wr.heap.size]? = some (.cells #[.string ⟨n.kind.toArray⟩, .slice ad1 n.ins.length cap1, .int .i64 n.num, .string ⟨n.name.toArray⟩] 55 (0, 0)) := by rw [hX1]; exact heap_alloc_new _ _
   have n0 : X1.cell? ⟨wr.heap.size, 0, none⟩ = some (.string ⟨n.kind.toArray⟩) := cell_of_blk hx1 0
   have n1 : X1.cell? ⟨wr.heap.size, 1, none⟩ = some (.slice ad1 n.ins.length cap1) := cell_of_blk hx1 1
   have HU1 := hidX hu1
   have HUS := hidX hus
   have HBQ := hidX hbq
   have HROW := hidX hr
   have HSM := hidX hsum
   have HR2 := hidX hr2
   have HUL := hidX hul
   clear hu1 hus hbq hr hsum hr2 hul hrk hnd hb1 hx1
   by_cases hk : n.kind = gOne ∨ n.kind = gTwo
   ·have hus := HUS.out
    have hbq := HBQ.out
    have hr2 := HR2.out
    rw [if_pos hk] at hus hbq hr2
    have HUT := hidX hus
    have HBT := hidX hbq
    clear hus hbq HUS HBQ HR2
    have hr2' : (n.ins.length : Int) ≤ 2 := by omega
    have hkk : ((n.kind == [111, 110, 101]) = true ∨ ((n.kind == [111, 110, 101]) = false ∧ (n.kind == [116, 119, 111]) = true)) := by
     rcases hk with h | h
     ·left; rw [h]; decide
     ·right; rw [h]; decide
    clear hk
    rcases hkk with hkk | ⟨hkk, hkk2⟩
    all_goals (
     go_wp2_with fail
     rw [← hX1]
     clear hX1 k0 k1 k2 k3
     go_wp2_with fail
     clear n0 n1
     rename World => wo
     go_loopw [37] (fun vi wr => ∃ (k : Nat) (vt : List Value), k ≤ n.ins.length ∧ vi = .int .i64 k ∧ Hid (UsAt w wr vt (usRow q uq (n.ins.take k)))) (fun vi _ => n.ins.length - (intOf vi).toNat)
     case atStart => exact ⟨0, _, Nat.zero_le _, rfl, HU1.out⟩
     case round =>
      obtain ⟨k, vt, hkl, rfl, HV⟩ := hrel
      by_cases hlk : k < n.ins.length
      ·have hlk' : (k : Int) < (n.ins.length : Int) := by omega
       obtain ⟨g3, off3, e3, hg3, kc⟩ := HROW.out.int hlk
       subst e3
       replace kc := (HV.out.low.cell (p := ⟨g3, _, none⟩) (HA.out _ hg3)).trans kc
       have hx := HBT.out _ (List.getElem_mem hlk)
       have hst : usRow q uq (n.ins.take (k + 1)) = usStep q (usRow q uq (n.ins.take k)) n.ins[k] := by rw [List.take_succ_eq_append_getElem hlk, usRow_snoc]
       have hsm := usRow_sum q (n.ins.take k) uq
       have htl : (n.ins.take k).length ≤ 2 := by rw [List.length_take]; omega
       have hur : (usRow q uq (n.ins.take k)).length = L.length := by rw [usRow_len]; exact HUL.out
       obtain ⟨m, hm⟩ : ∃ m : Nat, n.ins[k] = (m : Int) := ⟨n.ins[k].toNat, by omega⟩
       rw [hm] at kc hx hst
       have hml : m < (usRow q uq (n.ins.take k)).length := by omega
       have hsn := HSM.out
       unfold usStep at hst
       rw [Int.toNat_natCast, List.getD_eq_getElem?_getD, List.getElem?_eq_getElem hml, Option.getD_some] at hst
       have hlm := usSum_mem (List.getElem_mem hml)
       obtain ⟨ada, capa, a1, a2, a3⟩ := HV.out.pile.get hml
       have a4 := List.getElem?_eq_getElem hml
       have hlb : (usRow q uq (n.ins.take k))[m].length ≤ 3000 := by omega
       generalize (usRow q uq (n.ins.take k))[m] = lm at *
       generalize usRow q uq (n.ins.take k) = um at *
       have hm1 : (m : Int) < (L.length : Int) := by omega
       have hpush := fun (W3 : World) (v7 : Value) h1 h2 h3 => HV.out.pile.push (W7 := W3) (v7 := v7) (x := q) a1 a4 (box_blk wr #[.int .i64 (q : Int)] 3) h1 h2 h3
       have HP := hidX hpush
       have hlowr := HV.out.low
       have HLOW := hidX hlowr
       have hpb := HV.out.pile.blk
       have f0 := free_of_blk hpb m
       have HPB := hidX hpb
       have HST := hidX hst
       have HA1 := hidX (show vt.toArray[m]? = some (.slice ada lm.length capa) by rw [List.getElem?_toArray]; exact a1)
       have HO1 := hidX (owns_below a3 (box_blk wr #[.int .i64 (q : Int)] 3))
       have hsz := heap_lt hpb
       obtain ⟨i0, hi, iz0, iz1, iz2⟩ := info_parts int_info
       clear hpush hlowr hpb hst a3 a1 a4 hm hx hsm htl hur hsn HV
       go_wp2_with (first | (at_builtin; refine wpList_append_own_at _ rfl _ _ 40 rfl (w.heap.size + 1) 3 i0 _ 1 8 Tryz.underlying40 hi iz0 iz1 iz2 rfl (by decide) (.slice ada lm.length capa) lm.length (natsG lm) rfl HO1.out ⟨wr.heap.size, 0, none⟩ 1 1 [.int .i64 (q : Int)] rfl rfl (World.news_of_block (heap_alloc_new _ _)) (int_one _) (by unfold maxLen; omega) (by omega) (by simp; omega) ?_; intro lv3 W3 ho3 hg3 _ hl3; obtain ⟨ad3, cc3, rfl⟩ := own_is ho3; have hk3 : W3.heap[w.heap.size]? = _ := ((hg3.block w.heap.size (by simp; omega) (fun e => by have := (HO1.out.lt _ e.symm).1; omega)).trans (Below.heap_alloc _ _ _ hsz)).trans HPB.out; have g5 := free_of_blk hk3 m; have g5c := (cell_of_blk hk3 m).trans HA1.out; have HO3 := hidX ho3; have HG3 := hidX hg3; have HL3 := hidX hl3; clear ho3 hg3 hl3 hk3) | fail)
       obtain ⟨p1, p2⟩ := HP.out W3 _ HO3.out HG3.out HL3.out
       rw [← HST.out] at p1
       have hfin : UsAt w (W3.setCell ⟨w.heap.size, m, none⟩ (.slice ad3 (lm.length + 1) cc3)) (vt.set m (.slice ad3 (lm.length + 1) cc3)) (usRow q uq (n.ins.take (k + 1))) := ⟨⟨p2.os.trans HLOW.out.os, p2.tape.trans HLOW.out.tape, p2.output.trans HLOW.out.output, Nat.le_trans HLOW.out.size p2.size, fun b hb => (p2.block b (by omega) (by omega) (by omega)).trans (HLOW.out.block b hb)⟩, p1⟩
       have HFIN := hidX hfin
       clear hfin p1 p2 HP HO3 HG3 HL3
       go_wp2
       go_roundw
       case rel => exact ⟨k + 1, _, by omega, by go_num, HFIN.out⟩
       case measure => simp [intOf]; omega
      ·have hkn : k = n.ins.length := by omega
       subst hkn
       have hv := HV.out
       rw [List.take_length, ← HUT.out] at hv
       have HVE := hidX hv
       clear hv HV
       go_wp2
       go_roundw
       case rel => exact ⟨q + 1, _, by omega, by go_num, HVE.out⟩
       case measure => simp [intOf]; omega)
   ·have hus := HUS.out
    rw [if_neg hk] at hus
    have hu2 : usI L (q + 1) = uq := hus
    have hu3 := HU1.out
    rw [← hu2] at hu3
    have HU3 := hidX hu3
    have t1 : (n.kind == [111, 110, 101]) = false := ne_lit (fun h => hk (Or.inl h))
    have t2 : (n.kind == [116, 119, 111]) = false := ne_lit (fun h => hk (Or.inr h))
    clear hus hu2 hu3 hk HUS HBQ HR2
    go_wp2_with fail
    rw [← hX1]
    clear hX1 k0 k1 k2 k3
    go_wp2
    go_roundw
    case rel => exact ⟨q + 1, _, by omega, by go_num, HU3.out⟩
    case measure => simp [intOf]; omega
  ·have hqn : q = L.length := by omega
   subst hqn
   go_wp2
   go_ret
   exact ⟨rfl, vs, HU.out⟩
end Go.Proofs.YtlgejjmdanmglaaGreatDoor
namespace Go.Proofs.YtlgejjmdanmglaaGreatDoor
open Go.RowKit
structure HI (w X : World) (b0 b1 mb : Nat) (uv : Value) (vis : List Nat) : Prop where
 low : Below w.heap.size w X
 k0 : X.heap[b0]? = some (.cells #[.map (some mb)] 80 (0, 0))
 k1 : X.heap[b1]? = some (.cells #[uv] 74 (0, 0))
 cnt : HangAt X mb vis
theorem pile_row {A : Nat → Prop} {w : World} {ad : Option Addr} {n cap : Nat} {us : List (List Nat)} {xs : List Value} (hU : XRow A w (.slice ad n cap) us.length xs) (hP : XPs A w us xs) {x : Nat} (hx : x < us.length) :
  ∃ g off a1 c1, ad = some ⟨g, off, none⟩ ∧ A g ∧ w.cell? ⟨g, off + x, none⟩ = some (.slice a1 us[x].length c1) ∧ XRow A w (.slice a1 us[x].length c1) us[x].length (natsG us[x]) := by
 obtain ⟨a1, c1, e1, e2⟩ := hP.at hx
 obtain ⟨g, off, e3, _, hg, hc⟩ := hU.get (by omega)
 exact ⟨g, off, a1, c1, e3, hg, hc x _ e1, e2⟩
set_option maxRecDepth 100000 in
set_option maxHeartbeats 1000000 in
theorem hang1_any {A : Nat → Prop} {w X : World} {b0 b1 mb : Nat} {uv : Value} {us : List (List Nat)} {xs : List Value} {vis : List Nat} (hA : ∀ b, A b → b < w.heap.size) (hU : XRow A w uv us.length xs) (hP : XPs A w us xs) (hus : us.length ≤ 1000) (hI : HI w X b0 b1 mb uv vis) (hb : w.heap.size ≤ mb ∧ mb ≠ b0 ∧ mb ≠ b1) (hvl : vis.length ≤ 1000) (x : Nat) (hx : x < us.length) :
  Calls Tryz.prog 71 #[.int .i64 (x : Int), .pointer (some ⟨b0, 0, none⟩), .pointer (some ⟨b1, 0, none⟩)] X fun e w' => But mb X w' ∧ HI w w' b0 b1 mb uv (x :: vis) ∧ ∃ v, e = .returned v ∧ XRow A w' v (us.getD x []).length (natsG (us.getD x [])) := by
 obtain ⟨ad, cap, rfl⟩ := hU.is
 obtain ⟨g, off, a1, c1, e1, hg, kc, hr⟩ := pile_row hU hP hx
 subst e1
 have hgd : us.getD x [] = us[x] := by simp [hx]
 rw [hgd]
 have d0 : X.cell? ⟨b0, 0, none⟩ = some (.map (some mb)) := cell_of_blk hI.k0 0
 have hlk := hI.cnt.look x (by omega) X rfl
 have hcl : List.count x vis ≤ vis.length := List.count_le_length
 have hc1 : ((List.count x vis : Nat) : Int) ≤ 1000 := by omega
 obtain ⟨W1, hup, hgr, hcn⟩ := hI.cnt.add (by omega) x (by omega)
 have hk0 : W1.heap[b0]? = _ := (hgr.block b0 (heap_lt hI.k0) (by simp; omega)).trans hI.k0
 have hk1 : W1.heap[b1]? = _ := (hgr.block b1 (heap_lt hI.k1) (by simp; omega)).trans hI.k1
 have hlw : Below w.heap.size w W1 := ⟨hgr.os.trans hI.low.os, hgr.tape.trans hI.low.tape, hgr.output.trans hI.low.output, Nat.le_trans hI.low.size hgr.size, fun b hb' => (hgr.block b (by have := hI.low.size; omega) (by simp; omega)).trans (hI.low.block b hb')⟩
 have hbut : But mb X W1 := ⟨hgr.os, hgr.tape, hgr.output, hgr.size, fun k hk hne => hgr.block k hk (by simp; omega)⟩
 have f1 : W1.cell? ⟨b1, 0, none⟩ = some (.slice (some ⟨g, off, none⟩) us.length cap) := cell_of_blk hk1 0
 have f2 : W1.cell? ⟨g, off + x, none⟩ = some (.slice a1 us[x].length c1) := (hlw.cell (p := ⟨g, _, none⟩) (hA g hg)).trans kc
 have HFIN := hidX (show But mb X W1 ∧ HI w W1 b0 b1 mb (.slice (some ⟨g, off, none⟩) us.length cap) (x :: vis) ∧ XRow A W1 (.slice a1 us[x].length c1) us[x].length (natsG us[x]) from ⟨hbut, ⟨hlw, hk0, hk1, hcn⟩, hr.imp (fun _ h => h) (fun b hb' => hlw.block b (hA b hb'))⟩)
 have hx' : (x : Int) < (us.length : Int) := by omega
 have hus' : (us.length : Int) ≤ 1000 := by omega
 generalize us[x].length = xl at *
 generalize List.count x vis = cn at *
 clear hI hU hP hr hgr hcn hk0 hk1 hlw hbut kc hcl hgd
 go_enter Tryz.func71, Tryz.ntmps71
 go_wp2
 go_ret
 exact ⟨HFIN.out.1, HFIN.out.2.1, _, rfl, HFIN.out.2.2⟩
def hangFirst (L : List Nd) (ph : List (List Nat)) (i : Nat) : List Nat := if (ndAt L i).kind = gCall then [i] else ph.getD i []
set_option maxRecDepth 100000 in
set_option maxHeartbeats 1000000 in
theorem hanging_any {A : Nat → Prop} {w : World} {p : Nat} {nm : List UInt8} {P : Int} {nv tv yv ov pv : Value} {L : List Nd} {tk : List (Nat × Nat)} {ys ns : List Nat} {ph : List (List Nat)} (hF : Fl A w p nm P nv tv yv ov pv L tk ys ns ph) (hA : ∀ b, A b → b < w.heap.size) (hL : L.length ≤ 1000) {uv : Value} {us : List (List Nat)} {xs : List Value} (hU : XRow A w uv us.length xs) (hP : XPs A w us xs) (hul : us.length = L.length) (hfew : ∀ x, (us.getD x []).length ≤ 100000) (hlt : ∀ x, ∀ y ∈ us.getD x [], y < L.length) (i : Nat) (hi : i < L.length) (hph : ∀ y ∈ ph.getD i [], y < L.length) (hphl : (ph.getD i []).length ≤ 1000) :
  Calls Tryz.prog 38 #[.pointer (some ⟨p, 0, none⟩), .int .i64 (i : Int), uv] w fun e w' => Below w.heap.size w w' ∧ ∃ mb ks, e = .returned (.map (some mb)) ∧ w.heap.size ≤ mb ∧ HangAt w' mb ks ∧ ∀ x, x ∈ ks ↔ ∃ s, s ∈ hangFirst L ph i ∧ Star (fun a b => b ∈ us.getD a []) s x := by
 obtain ⟨adu, capu, rfl⟩ := hU.is
 obtain ⟨ad, cap, rfl⟩ := hF.gr.is
 obtain ⟨adp, capp, rfl⟩ : ∃ a c, pv = .slice a ph.length c := by obtain ⟨xs, h1, _⟩ := hF.phs; exact h1.is
 obtain ⟨g, off, ad1, cap1, e1, hg, _, hr, k0, k1, k2, k3⟩ := hF.gr.node hi
 subst e1
 have hip : i < ph.length := by have := hF.lp; omega
 obtain ⟨gp, offp, adq, capq, e1, hgp, kq, hrq⟩ := hF.phi hip
 subst e1
 have b2 : w.cell? ⟨p, 2, none⟩ = _ := cell_of_blk hF.blk 2
 have b6 : w.cell? ⟨p, 6, none⟩ = _ := cell_of_blk hF.blk 6
 simp only [List.getElem?_toArray, List.getElem?_cons_zero, List.getElem?_cons_succ] at b2 b6
 have hgd : ph.getD i [] = ph[i] := by simp [hip]
 have hnd : ndAt L (i : Int) = L[i] := by simp [ndAt, hi]
 rw [hgd] at hph hphl
 have hpl := cell_lt b2
 have hgl := cell_lt k0
 have hgpl := cell_lt kq
 have hi' : (i : Int) < (L.length : Int) := by omega
 have hip' : (i : Int) < (ph.length : Int) := by omega
 have hL' : (L.length : Int) ≤ 1000 := by omega
 have hphc : (ph.length : Int) ≤ 1000 := by have := hF.lp; omega
 have hvis : ∀ (Y : World) (b0 mb : Nat) (fv : Value) (first : List Nat), Below w.heap.size w Y → w.heap.size ≤ mb → mb ≠ b0 → mb ≠ w.heap.size → Y.heap[w.heap.size]? = some (.cells #[.slice adu us.length capu] 74 (0, 0)) → Y.heap[b0]? = some (.cells #[.map (some mb)] 80 (0, 0)) → HangAt Y mb [] → (∀ y ∈ first, y < L.length) → first.length ≤ 1000 → XRow (InH Y) Y fv first.length (natsG first) →
   Calls Tryz.prog 63 #[.int .i64 (L.length : Int), fv, .func (.func 71) #[] #[.pointer (some ⟨b0, 0, none⟩), .pointer (some ⟨w.heap.size, 0, none⟩)]] Y fun e w' => e = .returned (.tuple #[]) ∧ ∃ ks, (Below w.heap.size w w' ∧ HangAt w' mb ks ∧ ∀ x, x ∈ ks ↔ ∃ s, s ∈ first ∧ Star (fun a b => b ∈ us.getD a []) s x) ∧ w'.cell? ⟨b0, 0, none⟩ = some (.map (some mb)) := by
  intro Y b0 mb fv first hY hmb hne hne2 q1 q0 hc0 hff hfl hfr
  have hYz := hY.size
  have hI0 : HI w Y b0 w.heap.size mb (.slice adu us.length capu) [] := ⟨hY, q0, q1, hc0⟩
  have hAs : Asks Y L.length mb 71 #[.pointer (some ⟨b0, 0, none⟩), .pointer (some ⟨w.heap.size, 0, none⟩)] (fun _ => True) (fun x => us.getD x []) (fun X vis => HI w X b0 w.heap.size mb (.slice adu us.length capu) vis) := by
   refine ⟨enters_of Tryz.func71 (by kernel_rfl) rfl, fun x _ _ y hy => hlt x y hy, fun _ _ _ _ _ => trivial, hfew, hc0.lt, fun X X' vis hI hb => ?_, fun X vis x hI hz hx _ hvl => ?_⟩
   ·exact ⟨hI.low.trans (hb.mono (by omega)), (hb.block _ (heap_lt q0)).trans hI.k0, (hb.block _ (heap_lt q1)).trans hI.k1, hI.cnt.keep (hb.block _ hc0.lt)⟩
   ·refine (hang1_any hA hU hP (by omega) hI ⟨hmb, hne, hne2⟩ (by omega) x (by omega)).mono ?_
    rintro e w' ⟨g1, g2, v, g3, g4⟩
    exact ⟨g1, g2, v, g3, g4.imp (fun b hb => Or.inl (by have := hA b hb; omega)) (fun _ _ => rfl)⟩
  refine (visit_any Y L.length hL fv first hff hfl hfr mb _ _ _ (fun _ _ => trivial) _ _ hAs hI0).mono ?_
  rintro e w' ⟨g1, _, vis, g2, g3⟩
  exact ⟨g1, vis, ⟨g2.low, g2.cnt, g3⟩, cell_of_blk g2.k0 0⟩
 have HV := hidX hvis
 have HRQ := hidX hrq
 have HA := hidX hA
 have HPH := hidX hph
 unfold hangFirst
 rw [hnd, hgd]
 generalize L[i].kind = kd at *
 clear hF hr hrq hA hU hP hfew hlt hul hgd hnd hvis k1 k2 k3 hph
 by_cases ck : kd = gCall
 ·have t1 : (kd == [99, 97, 108, 108]) = true := by rw [ck]; decide
  have hfi : (if kd = gCall then [i] else ph[i]) = [i] := if_pos ck
  rw [hfi]
  obtain ⟨W1, hW1⟩ : ∃ W1, W1 = (((w.alloc (.cells #[.slice adu us.length capu] 74)).alloc (.cells #[.int .i64 (i : Int)] 3)).alloc (.map #[] 0)).alloc (.cells #[.map (some (w.heap.size + 1 + 1))] 80) := ⟨_, rfl⟩
  have hbw : Below w.heap.size w W1 := by rw [hW1]; (repeat (first | exact Below.refl _ _ | assumption | refine Below.drew ?_ | refine bT ?_ _ | refine bS ?_ _ | refine bA ?_ _))
  have hz1 : W1.heap.size = w.heap.size + 4 := by rw [hW1]; simp
  obtain ⟨t0, t2, t3⟩ := threeG w (.cells #[.slice adu us.length capu] 74) (.cells #[.int .i64 (i : Int)] 3) (.map #[] 0)
  have hb3 : Below (w.heap.size + 3) (((w.alloc (.cells #[.slice adu us.length capu] 74)).alloc (.cells #[.int .i64 (i : Int)] 3)).alloc (.map #[] 0)) W1 := by rw [hW1]; (repeat (first | exact Below.refl _ _ | assumption | refine Below.drew ?_ | refine bT ?_ _ | refine bS ?_ _ | refine bA ?_ _))
  have q0 := (hb3.block _ (by omega)).trans t0
  have q1 := (hb3.block _ (by omega)).trans t2
  have q3 : W1.heap[w.heap.size + 1 + 1 + 1]? = some (.cells #[.map (some (w.heap.size + 1 + 1))] 80 (0, 0)) := by
   rw [hW1]
   have := heap_alloc_new (((w.alloc (.cells #[.slice adu us.length capu] 74)).alloc (.cells #[.int .i64 (i : Int)] 3)).alloc (.map #[] 0)) (.cells #[.map (some (w.heap.size + 1 + 1))] 80)
   simpa using this
  have q2 : HangAt W1 (w.heap.size + 1 + 1) [] := by
   have h := hang_made ((w.alloc (.cells #[.slice adu us.length capu] 74)).alloc (.cells #[.int .i64 (i : Int)] 3))
   have e : ((w.alloc (.cells #[.slice adu us.length capu] 74)).alloc (.cells #[.int .i64 (i : Int)] 3)).heap.size = w.heap.size + 1 + 1 := by simp
   rw [e] at h
   exact h.keep (hb3.block _ (by omega))
  have hcl := HV.out W1 (w.heap.size + 1 + 1 + 1) (w.heap.size + 1 + 1) (.slice (some ⟨w.heap.size + 1, 0, none⟩) 1 1) [i] hbw (by omega) (by omega) (by omega) q0 q3 q2 (by simpa using hi) (by simp) ⟨_, _, rfl, fun _ => ⟨w.heap.size + 1, 0, rfl, heap_lt q1, fun j u hj => by
   have hj0 : j = 0 := by
    cases j with
    | zero => rfl
    | succ j => simp [natsG] at hj
   subst hj0
   rw [Nat.zero_add, cell_of_blk q1 0]
   simpa [natsG] using hj⟩⟩
  have HCL := hidX hcl
  have c2 := (hbw.cell (p := ⟨p, 2, none⟩) hpl).trans b2
  rw [hW1] at c2
  clear ck hfi hcl q0 q1 q2 q3 t0 t2 t3 hb3 hbw
  have hmm := @run_makeMap Tryz.prog
  go_enter Tryz.func38, Tryz.ntmps38
  go_wp2_with fail
  rw [← hW1]
  clear hW1 hmm
  refine HCL.out.mono ?_
  rintro e W2 ⟨rfl, ks, hks, c0⟩
  have HKS := hidX hks
  clear hks
  go_wp2
  go_ret
  exact ⟨HKS.out.1, _, ks, rfl, by omega, HKS.out.2.1, HKS.out.2.2⟩
 ·have t1 : (kd == [99, 97, 108, 108]) = false := ne_lit ck
  have hfi : (if kd = gCall then [i] else ph[i]) = ph[i] := if_neg ck
  rw [hfi]
  obtain ⟨W1, hW1⟩ : ∃ W1, W1 = ((w.alloc (.cells #[.slice adu us.length capu] 74)).alloc (.map #[] 0)).alloc (.cells #[.map (some (w.heap.size + 1))] 80) := ⟨_, rfl⟩
  have hbw : Below w.heap.size w W1 := by rw [hW1]; (repeat (first | exact Below.refl _ _ | assumption | refine Below.drew ?_ | refine bT ?_ _ | refine bS ?_ _ | refine bA ?_ _))
  obtain ⟨q0, t2, q3⟩ := threeG w (.cells #[.slice adu us.length capu] 74) (.map #[] 0) (.cells #[.map (some (w.heap.size + 1))] 80)
  rw [← hW1] at q0 t2 q3
  have q2 : HangAt W1 (w.heap.size + 1) [] := by
   have h := hang_made (w.alloc (.cells #[.slice adu us.length capu] 74))
   have e : (w.alloc (.cells #[.slice adu us.length capu] 74)).heap.size = w.heap.size + 1 := by simp
   rw [e] at h
   refine h.keep ?_
   rw [hW1]
   exact Below.heap_alloc _ _ _ (by simp)
  have hcl := HV.out W1 (w.heap.size + 1 + 1) (w.heap.size + 1) (.slice adq ph[i].length capq) ph[i] hbw (by omega) (by omega) (by omega) q0 q3 q2 HPH.out hphl (HRQ.out.imp (fun b hb => by have := HA.out b hb; have := hbw.size; show b < W1.heap.size; omega) (fun b hb => hbw.block b (HA.out b hb)))
  have HCL := hidX hcl
  have c2 := (hbw.cell (p := ⟨p, 2, none⟩) hpl).trans b2
  rw [hW1] at c2
  generalize ph[i] = phi at *
  clear ck hfi hcl q0 t2 q2 q3 hbw
  have hmm := @run_makeMap Tryz.prog
  go_enter Tryz.func38, Tryz.ntmps38
  go_wp2_with fail
  rw [← hW1]
  clear hW1 hmm
  refine HCL.out.mono ?_
  rintro e W2 ⟨rfl, ks, hks, c0⟩
  have HKS := hidX hks
  clear hks
  go_wp2
  go_ret
  exact ⟨HKS.out.1, _, ks, rfl, by omega, HKS.out.2.1, HKS.out.2.2⟩
end Go.Proofs.YtlgejjmdanmglaaGreatDoor
