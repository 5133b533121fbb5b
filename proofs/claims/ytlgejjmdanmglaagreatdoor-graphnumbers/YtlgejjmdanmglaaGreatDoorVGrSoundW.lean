/- Our own: texts joined: GrSoundW. -/
import Derived.Test.YtlgejjmdanmglaaGreatDoorVNewFl
import Derived.Test.YtlgejjmdanmglaaGreatDoorVAheadAll
import Derived.Test.YtlgejjmdanmglaaGreatDoorVNewAll
namespace Go.Proofs.YtlgejjmdanmglaaGreatDoor
open Go.RowKit
section
variable {ones twos : List (List UInt8)} {Q : Int} {L : List Nd}
theorem reck_lt {a : Nat} {b : Int} (h : b ∈ reck L a) : a < L.length := by
 rcases Nat.lt_or_ge a L.length with h' | h'
 ·exact h'
 ·unfold reck at h
  have : ndAt L (a : Int) = ⟨[], [], 0, []⟩ := by simp [ndAt, h']
  rw [this] at h
  simp at h
theorem hang_ks (hW : WellG ones twos Q L) {i : Nat} (hi : i < L.length) (v : Nat) : (∃ s, s ∈ hangFirst L (phI L L.length) i ∧ Star (fun a b => b ∈ (usI L L.length).getD a []) s v) ↔ hangsOn L i v := by
 have hf : ∀ s, s ∈ hangFirst L (phI L L.length) i ↔ (if (ndAt L i).kind = gCall then s = i else (ndAt L s).kind = gPhi ∧ s < L.length ∧ (ndAt L s).ins[0]? = some (i : Int)) := fun s => by
  unfold hangFirst
  by_cases h : (ndAt L i).kind = gCall
  ·rw [if_pos h, if_pos h]; simp
  ·rw [if_neg h, if_neg h, List.getD_eq_getElem?_getD, ph_is hW hi, Option.getD_some, mem_phi]
   constructor
   ·rintro ⟨h1, h2, h3⟩; exact ⟨h2, h1, h3⟩
   ·rintro ⟨h1, h2, h3⟩; exact ⟨h2, h1, h3⟩
 unfold hangsOn
 constructor
 ·rintro ⟨s, h1, h2⟩
  exact ⟨s, (hf s).1 h1, Star.flip (fun a b h => ((us_mem hW a b).1 h).2) h2⟩
 ·rintro ⟨s, h1, h2⟩
  exact ⟨s, (hf s).2 h1, Star.flip (fun a b h => (us_mem hW b a).2 ⟨reck_lt h, h⟩) h2⟩
def soundAt (L : List Nd) (i : Nat) : Prop := ((ndAt L i).kind = gCall ∨ (ndAt L i).kind = gRegion) → ∀ a, Star (WStep L i) 0 a → ∀ j k, Spot L a j k → ∀ v : Nat, AskAt L j k (v : Int) → ¬ hangsOn L i v
theorem sound_each : SoundP L ↔ ∀ i, i < L.length → soundAt L i := Iff.rfl
theorem ahead_at (hW : WellG ones twos Q L) {i : Nat} (hi : i < L.length) (hk : (ndAt L i).kind = gCall ∨ (ndAt L i).kind = gRegion) {ks : List Nat} (hks : ∀ x, x ∈ ks ↔ ∃ s, s ∈ hangFirst L (phI L L.length) i ∧ Star (fun a b => b ∈ (usI L L.length).getD a []) s x) : (∀ a, Star (WStep L i) 0 a → noneIn ks (askL L (tkAt L a).1 (tkAt L a).2) = true) ↔ soundAt L i := by
 have hks' : ∀ x, x ∈ ks ↔ hangsOn L i x := fun x => (hks x).trans (hang_ks hW hi x)
 constructor
 ·intro h _ a ha j k hs v hv hh
  obtain ⟨h1, h2⟩ := wstep_way hW hk ha
  have ht := tkAt_spot hW h1 h2
  obtain ⟨e1, e2⟩ := spot_one (way_len hW h1 h2) ht hs
  have hn := h a ha
  unfold noneIn at hn
  rw [List.all_eq_true] at hn
  have := hn (v : Int) (by rw [e1, e2]; exact (askL_iff hW hs v).2 hv)
  rw [Int.toNat_natCast, decide_eq_true_eq] at this
  exact this ((hks' v).2 hh)
 ·intro h a ha
  obtain ⟨h1, h2⟩ := wstep_way hW hk ha
  have ht := tkAt_spot hW h1 h2
  unfold noneIn
  rw [List.all_eq_true]
  intro v hv
  rw [decide_eq_true_eq]
  intro hm
  have hb := askL_bnd hW ht v hv
  have hv' := (askL_iff hW ht v).1 hv
  rw [← Int.toNat_of_nonneg hb.1] at hv'
  exact h hk a ha _ _ ht v.toNat hv' ((hks' _).1 hm)
end
set_option maxRecDepth 100000 in
set_option maxHeartbeats 2000000 in
theorem sound_any {w : World} {a : Nat → Addr} (hS : Sents w a) (hT : TabG w) (nm : List UInt8) (P : Int) (nv : Value) (L : List Nd) (hL : L.length ≤ 100000) (hlow : ∀ n ∈ L, LowN n) (hG : XG true (InH w) w nv L) :
  Calls Tryz.prog 13 #[.agg #[.string ⟨nm.toArray⟩, .int .i64 P, nv]] w fun e w' => Below w.heap.size w w' ∧ ∃ b : Bool, e = .returned (.bool b) ∧ (b = true ↔ (faultG onesE twosE P L).1 = 0 ∧ SoundP L) := by
 obtain ⟨ad, cap, rfl⟩ := hG.is
 obtain ⟨W0, hW0⟩ : ∃ W0, W0 = w.alloc (.cells #[.string ⟨nm.toArray⟩, .int .i64 P, .slice ad L.length cap] 29) := ⟨_, rfl⟩
 have hb0 : Below w.heap.size w W0 := by rw [hW0]; (repeat (first | exact Below.refl _ _ | assumption | refine Below.drew ?_ | refine bT ?_ _ | refine bS ?_ _ | refine bA ?_ _))
 have HB0 := hidX hb0
 by_cases hc : (faultG onesE twosE P L).1 = 0
 ·have hW := wellG hc
  have hL1 := hW.len.2
  have hL1' : (L.length : Int) ≤ 1000 := by omega
  have HNF := hidX (newFlow_any (hS.below hb0) (hT.below hb0) nm P (.slice ad L.length cap) L hc hL hlow (hG.imp (inH_up hb0) (keepH hb0)))
  have HW := hidX hW
  have HLW := hidX hlow
  have HC := hidX hc
  clear hS hT hlow hG hW hc hb0
  go_enter Tryz.func13, Tryz.ntmps13
  go_wp2_with fail
  rw [← hW0]
  clear hW0
  refine HNF.out.mono ?_
  rintro e W2 ⟨hb2, fp, tv, yv, ov, pv, rfl, hF⟩
  have hBus := reck_bnd HW.out
  have hR2 := reck_two HW.out
  have HUS := hidX (users_any hF (fun b hb => hb) hL1 hBus hR2)
  have HF := hidX hF
  have HB2 := hidX hb2
  clear hF hb2 hBus hR2
  go_wp2_with fail
  refine HUS.out.mono ?_
  rintro e W3 ⟨rfl, vs, hus⟩
  have hF3 := HF.out.imp (hus.low.block fp (heap_lt HF.out.blk)) (inH_up hus.low) (keepH hus.low)
  have hul := usI_len L L.length
  have hxp : XPs (InH W3) W3 (usI L L.length) vs := XPs.imp (fun b hb => hb.2) (fun _ _ => rfl) _ _ hus.pile.xps
  have hxr : XRow (InH W3) W3 (.slice (some ⟨W2.heap.size, 0, none⟩) L.length L.length) (usI L L.length).length vs := by
   have := hus.pile.xrow L.length
   rw [hul] at this ⊢
   exact this.imp (fun b hb => by rw [hb]; exact heap_lt hus.pile.blk) (fun _ _ => rfl)
  have hw3 : Below w.heap.size w W3 := bl_trans HB0.out HB0.out.size (bl_trans HB2.out HB2.out.size hus.low)
  have e2 : W3.cell? ⟨fp, 2, none⟩ = some (.slice ad L.length cap) := cell_of_blk hF3.blk 2
  have HF3 := hidX hF3
  have HXP := hidX hxp
  have HXR := hidX hxr
  have HW3 := hidX hw3
  clear hF3 hus hul hxp hxr hw3
  go_wp2_with fail
  clear e2
  go_loopw [23] (fun vi wr => ∃ q : Nat, q ≤ L.length ∧ vi = .int .i64 q ∧ Hid (Below W3.heap.size W3 wr) ∧ Hid (∀ i, i < q → soundAt L i)) (fun vi _ => L.length - (intOf vi).toNat)
  case atStart => exact ⟨0, Nat.zero_le _, rfl, Below.refl _ _, fun i hi => absurd hi (by omega)⟩
  case round =>
   obtain ⟨q, hq, rfl, HBQ, HSQ⟩ := hrel
   by_cases hlt : q < L.length
   ·have hlt' : (q : Int) < (L.length : Int) := by omega
    obtain ⟨g, off, ad1, cap1, e1, hg, _, hr, k0, k1, k2, k3⟩ := HF3.out.gr.node hlt
    subst e1
    have hgl : g < W3.heap.size := hg
    replace k0 := (HBQ.out.cell (p := ⟨g, _, none⟩) hgl).trans k0
    replace k1 := (HBQ.out.cell (p := ⟨g, _, none⟩) hgl).trans k1
    replace k2 := (HBQ.out.cell (p := ⟨g, _, none⟩) hgl).trans k2
    replace k3 := (HBQ.out.cell (p := ⟨g, _, none⟩) hgl).trans k3
    have hnd : ndAt L (q : Int) = L[q] := by simp [ndAt, hlt]
    obtain ⟨X1, hX1⟩ : ∃ X1, X1 = wr.alloc (.cells #[.string ⟨L[q].kind.toArray⟩, .slice ad1 L[q].ins.length cap1, .int .i64 L[q].num, .string ⟨L[q].name.toArray⟩] 55) := ⟨_, rfl⟩
    have hb1 : Below wr.heap.size wr X1 := by rw [hX1]; (repeat (first | exact Below.refl _ _ | assumption | refine Below.drew ?_ | refine bT ?_ _ | refine bS ?_ _ | refine bA ?_ _))
    have hx1b : Below W3.heap.size W3 X1 := bl_trans HBQ.out HBQ.out.size hb1
    have hx1 : X1.heap[wr.heap.size]? = some (.cells #[.string ⟨L[q].kind.toArray⟩, .slice ad1 L[q].ins.length cap1, .int .i64 L[q].num, .string ⟨L[q].name.toArray⟩] 55 (0, 0)) := by rw [hX1]; exact heap_alloc_new _ _
    have n0 : X1.cell? ⟨wr.heap.size, 0, none⟩ = some (.string ⟨L[q].kind.toArray⟩) := cell_of_blk hx1 0
    have hFX := fun (Y : World) (hY : Below W3.heap.size W3 Y) => HF3.out.imp (hY.block fp (heap_lt HF3.out.blk)) (fun _ h => h) (keepH hY)
    have HFX := hidX hFX
    have hphb : ∀ y ∈ (phI L L.length).getD q [], y < L.length := by
     rw [List.getD_eq_getElem?_getD, ph_is HW.out hlt, Option.getD_some]
     intro y hy
     exact (mem_phi.1 hy).1
    have hkd : (ndAt L (q : Int)).kind = L[q].kind := by rw [hnd]
    generalize L[q] = n at *
    by_cases c1 : n.kind = gCall
    ·have t1 : (n.kind == [99, 97, 108, 108]) = true := by rw [c1]; decide
     have hkk : (ndAt L (q : Int)).kind = gCall ∨ (ndAt L (q : Int)).kind = gRegion := by rw [hkd]; exact Or.inl c1
     clear c1 hkd hnd hx1 hr hb1
     have HHG := hidX (hanging_any (hFX X1 hx1b) (fun b (hb : b < W3.heap.size) => (show b < X1.heap.size from Nat.lt_of_lt_of_le hb hx1b.size)) hL1 (HXR.out.imp (fun _ h => h) (keepH hx1b)) (XPs.imp (fun _ h => h) (keepH hx1b) _ _ HXP.out) (usI_len L L.length) (fun x => Nat.le_trans (us_few HW.out x) (by decide)) (fun x y hy => ((us_mem HW.out x y).1 hy).1) q hlt hphb (phI_few HW.out _ (Nat.le_refl _) q))
     go_wp2_with fail
     rw [← hX1]
     clear hX1 k0 k1 k2 k3 n0
     refine HHG.out.mono ?_
     rintro e W4 ⟨hb4, mb, ks, rfl, hmb, hh4, hks⟩
     have hx4 : Below W3.heap.size W3 W4 := bl_trans hx1b hx1b.size hb4
     have HAH := hidX (ahead_any (HFX.out W4 hx4) (fun b (hb : b < W3.heap.size) => (show b < W4.heap.size from Nat.lt_of_lt_of_le hb hx4.size)) HW.out HLW.out hh4 hkk)
     have HAT := hidX (ahead_at HW.out hlt hkk hks)
     have HX4 := hidX hx4
     clear hb4 hmb hh4 hks hx4 hkk
     go_wp2_with fail
     refine HAH.out.mono ?_
     rintro e W5 ⟨hb5, b, rfl, hbi⟩
     have hbs : b = true ↔ soundAt L q := hbi.trans HAT.out
     have HBS := hidX hbs
     have HX5 := hidX (bl_trans HX4.out HX4.out.size hb5)
     clear hbi hbs hb5 HAT HAH
     cases b with
     | true =>
      go_wp2
      go_roundw
      case rel => exact ⟨q + 1, by omega, by go_num, HX5.out, fun i hi => (by
       by_cases e : i = q
       ·subst e; exact HBS.out.1 (by trivial)
       ·exact HSQ.out i (by omega))⟩
      case measure => simp [intOf]; omega
     | false =>
      go_wp2
      go_ret
      refine ⟨bl_trans HW3.out HW3.out.size HX5.out, false, rfl, ?_⟩
      constructor
      ·intro h; cases h
      ·rintro ⟨_, h⟩
       exact HBS.out.2 (sound_each.1 h q hlt)
    ·have t1 : (n.kind == [99, 97, 108, 108]) = false := ne_lit c1
     by_cases c2 : n.kind = gRegion
     ·have t2 : (n.kind == [114, 101, 103, 105, 111, 110]) = true := by rw [c2]; decide
      have hkk : (ndAt L (q : Int)).kind = gCall ∨ (ndAt L (q : Int)).kind = gRegion := by rw [hkd]; exact Or.inr c2
      clear c1 c2 hkd hnd hx1 hr hb1
      have HHG := hidX (hanging_any (hFX X1 hx1b) (fun b (hb : b < W3.heap.size) => (show b < X1.heap.size from Nat.lt_of_lt_of_le hb hx1b.size)) hL1 (HXR.out.imp (fun _ h => h) (keepH hx1b)) (XPs.imp (fun _ h => h) (keepH hx1b) _ _ HXP.out) (usI_len L L.length) (fun x => Nat.le_trans (us_few HW.out x) (by decide)) (fun x y hy => ((us_mem HW.out x y).1 hy).1) q hlt hphb (phI_few HW.out _ (Nat.le_refl _) q))
      go_wp2_with fail
      rw [← hX1]
      clear hX1 k0 k1 k2 k3 n0
      refine HHG.out.mono ?_
      rintro e W4 ⟨hb4, mb, ks, rfl, hmb, hh4, hks⟩
      have hx4 : Below W3.heap.size W3 W4 := bl_trans hx1b hx1b.size hb4
      have HAH := hidX (ahead_any (HFX.out W4 hx4) (fun b (hb : b < W3.heap.size) => (show b < W4.heap.size from Nat.lt_of_lt_of_le hb hx4.size)) HW.out HLW.out hh4 hkk)
      have HAT := hidX (ahead_at HW.out hlt hkk hks)
      have HX4 := hidX hx4
      clear hb4 hmb hh4 hks hx4 hkk
      go_wp2_with fail
      refine HAH.out.mono ?_
      rintro e W5 ⟨hb5, b, rfl, hbi⟩
      have hbs : b = true ↔ soundAt L q := hbi.trans HAT.out
      have HBS := hidX hbs
      have HX5 := hidX (bl_trans HX4.out HX4.out.size hb5)
      clear hbi hbs hb5 HAT HAH
      cases b with
      | true =>
       go_wp2
       go_roundw
       case rel => exact ⟨q + 1, by omega, by go_num, HX5.out, fun i hi => (by
        by_cases e : i = q
        ·subst e; exact HBS.out.1 (by trivial)
        ·exact HSQ.out i (by omega))⟩
       case measure => simp [intOf]; omega
      | false =>
       go_wp2
       go_ret
       refine ⟨bl_trans HW3.out HW3.out.size HX5.out, false, rfl, ?_⟩
       constructor
       ·intro h; cases h
       ·rintro ⟨_, h⟩
        exact HBS.out.2 (sound_each.1 h q hlt)
     ·have t2 : (n.kind == [114, 101, 103, 105, 111, 110]) = false := ne_lit c2
      have hno : soundAt L q := fun h => by
       rw [hkd] at h
       rcases h with h | h
       ·exact absurd h c1
       ·exact absurd h c2
      have HNO := hidX hno
      have HX1 := hidX hx1b
      clear c1 c2 hkd hnd hx1 hr hb1 hno hFX HFX hphb hx1b
      go_wp2_with fail
      rw [← hX1]
      clear hX1 k0 k1 k2 k3
      go_wp2
      go_roundw
      case rel => exact ⟨q + 1, by omega, by go_num, HX1.out, fun i hi => (by
       by_cases e : i = q
       ·subst e; exact HNO.out
       ·exact HSQ.out i (by omega))⟩
      case measure => simp [intOf]; omega
   ·have hqn : q = L.length := by omega
    subst hqn
    go_wp2
    go_ret
    exact ⟨bl_trans HW3.out HW3.out.size HBQ.out, true, rfl, fun _ => ⟨HC.out, sound_each.2 HSQ.out⟩, fun _ => rfl⟩
 ·have HNF := hidX (newFlow_bad (hS.below hb0) (hT.below hb0) nm P (.slice ad L.length cap) L hc hL hlow (hG.imp (inH_up hb0) (keepH hb0)))
  have HC := hidX hc
  clear hS hT hlow hG hc hb0
  go_enter Tryz.func13, Tryz.ntmps13
  go_wp2_with fail
  rw [← hW0]
  clear hW0
  refine HNF.out.mono ?_
  rintro e W1 ⟨v, rfl, hft⟩
  have HB1 := hidX (bl_trans HB0.out HB0.out.size hft.1)
  rcases ft_code hft with ⟨h0, _⟩ | ⟨_, t, u, rfl⟩
  ·exact absurd h0 HC.out
  ·clear hft
   go_wp2
   go_ret
   exact ⟨HB1.out, false, rfl, fun h => (by cases h), fun h => absurd h.1 HC.out⟩
end Go.Proofs.YtlgejjmdanmglaaGreatDoor
