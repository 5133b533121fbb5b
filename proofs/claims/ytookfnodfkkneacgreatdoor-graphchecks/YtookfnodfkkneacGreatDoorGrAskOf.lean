/-
  Our own: the document's model of graphs: the phis and calls that a value hangs on.
-/
import Derived.Test.YtookfnodfkkneacGreatDoorGrReach
import Derived.Test.YtookfnodfkkneacGreatDoorFlowM
import Derived.Test.YtookfnodfkkneacGreatDoorGrCirc
namespace Go.Proofs.YtookfnodfkkneacGreatDoor
open Go.RowKit

theorem HMem.other {w X Z : World} {nm0 : List UInt8} {P : Int} {gv : Value} {seen : List Bool} {ad : Option Addr} {n cap : Nat} {td : List Nat} {o : Option Nat} (h : HMem w X nm0 P gv seen ad n cap td) (hg : X.grownBy Z o) (ho : ∀ b, o = some b → w.heap.size + 2 ≤ b ∧ ∀ a, ad = some a → a.block ≠ b) : HMem w Z nm0 P gv seen ad n cap td := by
  have hz := h.low.size
  have hl := heap_lt h.sn
  have key : ∀ k, k < w.heap.size + 2 → Z.heap[k]? = X.heap[k]? := fun k hk => hg.block k (by omega) (fun e => by have := (ho k e.symm).1; omega)
  exact ⟨⟨hg.os.trans h.low.os, hg.tape.trans h.low.tape, hg.output.trans h.low.output, Nat.le_trans hz hg.size, fun k hk => (key k (by omega)).trans (h.low.block k hk)⟩, (key _ (by omega)).trans h.box, (key _ (by omega)).trans h.sn, h.q.keep hg.size fun a ha => hg.block _ (h.q.new a ha).2 (fun e => (ho _ e.symm).2 a ha rfl)⟩
set_option maxRecDepth 100000 in
set_option maxHeartbeats 4000000 in
theorem askedOf_any {w : World} (nm0 : List UInt8) (P : Int) (nv : Value) (L : List Nd) {ones twos : List (List UInt8)} {Q : Int} (hW : WellG ones twos Q L) (hlow : ∀ n ∈ L, LowN n) (hG : XG false (InH w) w nv L) (i : Nat) (hil : i < L.length) :
    Calls Tryz.prog 85 #[.agg #[.string ⟨nm0.toArray⟩, .int .i64 P, nv], .int .i64 i] w fun e w' => Below w.heap.size w w' ∧ ∃ (v : Value) (out : List Nat), e = .returned v ∧ out.length ≤ L.length ∧ w'.ownsRow (w.heap.size + 2) 3 1 v out.length (natsG out) ∧ (∀ x ∈ out, x < L.length) ∧ ∀ x, x ∈ out ↔ Star (Rk L) i x ∧ keeps L x := by
  have hL := hW.len.2
  have hL0 := hW.len.1
  obtain ⟨ad, cap, rfl⟩ := hG.is
  have hmk := run_make_row' (P := Tryz.prog) 101 4 (.bool false) 1 Tryz.underlying101 bool_infoG rfl .i64 .i64 L.length (by omega) (by omega)
  rw [made_bools] at hmk
  obtain ⟨W0, hW0⟩ : ∃ W0, W0 = ((w.alloc (.cells #[.string ⟨nm0.toArray⟩, .int .i64 P, .slice ad L.length cap] 48)).alloc (.cells (boolsG (List.replicate L.length false)).toArray 4)).alloc (.cells #[.int .i64 (i : Int)] 3) := ⟨_, rfl⟩
  obtain ⟨t1, t2, t3⟩ := threeG w (.cells #[.string ⟨nm0.toArray⟩, .int .i64 P, .slice ad L.length cap] 48) (.cells (boolsG (List.replicate L.length false)).toArray 4) (.cells #[.int .i64 (i : Int)] 3)
  rw [← hW0] at t1 t2 t3
  have hM0 : HMem w W0 nm0 P (.slice ad L.length cap) (List.replicate L.length false) (some ⟨w.heap.size + 2, 0, none⟩) 1 1 [i] := by
    refine ⟨by rw [hW0]; (repeat (first | exact Below.refl _ _ | assumption | refine Below.drew ?_ | refine Below.trans ?_ (drewN_below' _ _ _) | refine Below.setCell ?_ (by first | (simp; done) | (simp; omega)) _ | refine Below.alloc ?_ (by first | (simp; done) | (simp; omega)) _)), t1, t2, rfl, Nat.le_refl _, by unfold maxLen; omega, fun _ => ⟨w.heap.size + 2, 0, _, rfl, t3, by simp, fun j hj => ?_⟩, fun a ha => ?_⟩
    · have : j = 0 := by simpa using hj
      subst this; rfl
    · injection ha with ha
      subst ha
      exact ⟨Nat.le_refl _, by rw [hW0]; simp⟩
  have hQ0 := Qch.start (Rk L) (fun _ => False) i L.length
  have hL' : (L.length : Int) ≤ 1000 := by omega
  have hun := unseen_rep L.length
  have HM0 := hidX hM0
  have HQ0 := hidX hQ0
  have HW := hidX hW
  have HLW := hidX hlow
  have HG := hidX hG
  clear hM0 hQ0 hW hlow hG t1 t2 t3
  go_enter Tryz.func85, Tryz.ntmps85
  go_wp2_with fail
  rw [← hW0]
  clear hW0 hmk
  go_loopg [6, 7] (3 * L.length + 2) (fun k v6 v7 wr => ∃ (lv : Value) (ad6 : Option Addr) (n6 c6 : Nat) (sn : List Bool) (td out : List Nat), v6 = lv ∧ v7 = .slice ad6 n6 c6 ∧ 3 * unseen sn + td.length < k ∧ 3 * unseen sn + td.length ≤ 3 * L.length + 1 ∧ sn.length = L.length ∧ out.length + unseen sn ≤ L.length ∧ Hid (HMem w wr nm0 P (.slice ad L.length cap) sn ad6 n6 c6 td) ∧ Hid (Qch (Rk L) (fun _ => False) i (seenP sn) td) ∧ Hid (∀ x ∈ td, x < L.length) ∧ Hid (wr.ownsRow (w.heap.size + 2) 3 1 lv out.length (natsG out)) ∧ Hid (∀ a, ad6 = some a → lv.ownBlock ≠ some a.block) ∧ Hid (∀ y, y ∈ out ↔ seenP sn y ∧ keeps L y))
  case atStart => exact ⟨_, _, _, _, _, [i], [], rfl, rfl, by rw [hun]; simp, by rw [hun]; simp, by simp, by rw [hun]; simp, HM0.out, HQ0.out, (show ∀ x ∈ [i], x < L.length by simpa using hil), World.ownsRow_nil _ _ _ _, (fun a _ e => by simp [Value.ownBlock] at e), fun y => (by
    constructor
    · intro h; simp at h
    · rintro ⟨h, _⟩
      unfold seenP at h
      rw [List.getElem?_replicate] at h
      split at h <;> simp at h)⟩
  case round =>
    obtain ⟨lv, ad6, n6, c6, sn, td, out, hlv, rfl, hk, hle, hsl, hol, HM, HQ, HT, HOW, HAP, HOS⟩ := hrel
    replace hlv := hlv.symm
    subst hlv
    have hln := HM.out.q.len
    cases td with
    | nil =>
      have hn6 : n6 = 0 := by simpa using hln.symm
      subst hn6
      have hdn := HQ.out.done
      have HFN := hidX (show Below w.heap.size w wr ∧ out.length ≤ L.length ∧ wr.ownsRow (w.heap.size + 2) 3 1 lv out.length (natsG out) ∧ (∀ x ∈ out, x < L.length) ∧ ∀ x, x ∈ out ↔ Star (Rk L) i x ∧ keeps L x from ⟨HM.out.low, by omega, HOW.out, fun x hx => by
        have := ((HOS.out x).1 hx).1
        unfold seenP at this
        have := lt_of_at this
        omega, fun x => by
        rw [HOS.out x, hdn x]
        constructor
        · rintro ⟨⟨_, h⟩, h2⟩; exact ⟨h.imp (fun a b h => h.1), h2⟩
        · rintro ⟨h, h2⟩; exact ⟨⟨fun h => h, h.imp (fun a b h => ⟨h, fun h => h⟩)⟩, h2⟩⟩)
      clear HM HQ HT hsl hln HOW HAP HOS hdn hol
      go_wp2
      go_ret
      exact ⟨HFN.out.1, lv, out, rfl, HFN.out.2⟩
    | cons x t =>
      obtain ⟨g6, off6, e6, hc6, hn6, h1c, hq1, hq2⟩ := HM.out.q.head
      subst e6
      subst hn6
      have hxl := HT.out x (by simp)
      have hxl' : (x : Int) < (L.length : Int) := by omega
      have hsx : x < sn.length := by omega
      have b1 : wr.cell? ⟨w.heap.size + 1, x, none⟩ = some (.bool sn[x]) := by rw [cell_of_blk HM.out.sn x]; simp [boolsG, hsx]
      have b1f := free_of_blk HM.out.sn x
      simp only [List.length_cons] at hk hle hln
      have htl : (t.length : Int) + 1 ≤ 4000 := by omega
      have h1c' : (1 : Int) ≤ (c6 : Int) := by omega
      have HTT := hidX (fun y (hy : y ∈ t) => HT.out y (by simp [hy]))
      by_cases hc1 : c6 = 1
      · subst hc1
        obtain ⟨_, ht0⟩ := hq2 rfl none (by simp)
        subst ht0
        have HPOP := hidX (HM.out.pop (hq2 rfl (some ⟨g6, off6, none⟩) (fun a ha => by injection ha with ha; subst ha; rfl)).1)
        have HAZ := hidX (show ∀ a, (some ⟨g6, off6, none⟩ : Option Addr) = some a → lv.ownBlock ≠ some a.block from fun a ha => HAP.out a ha)
        have HAPP := HAZ
        simp only [List.length_nil] at hk hle htl
        clear hq1 hq2 hln HAP
        cases hb : sn[x] with
        | true =>
          rw [hb] at b1
          have HSK := hidX (HQ.out.skip (Or.inl (by unfold seenP; simp [hsx, hb])))
          clear hb
          go_wp2
          go_roundg (3 * unseen sn + ([] : List Nat).length + 1)
          case measure => (first | omega | (simp only [List.length_nil]; omega))
          case rel => exact ⟨_, _, _, _, sn, ([] : List Nat), out, rfl, rfl, by omega, by (first | omega | (simp only [List.length_nil]; omega)), hsl, hol, HPOP.out, HSK.out, HTT.out, HOW.out, HAPP.out, HOS.out⟩
        | false =>
          rw [hb] at b1
          have hns : ¬ seenP sn x := by unfold seenP; simp [hsx, hb]
          have HTK := hidX (HQ.out.take (nx := natL (reck L x)) (fun h => h) hsx (fun y => (mem_natL (fun z hz => (reck_bnd HW.out x z hz).1) y).symm))
          have hus := unseen_set sn x hsx (fun h => hns h)
          have hfew := reck_two HW.out x
          have hsl2 : (sn.set x true).length = L.length := by rw [List.length_set]; exact hsl
          obtain ⟨gg, goff, ad1, cap1, eg, hgg, _, hrow, k0, k1, k2, k3⟩ := HG.out.node hxl
          subst eg
          have hnd : ndAt L (x : Int) = L[x] := by simp [ndAt, hxl]
          have hgl : gg < w.heap.size := hgg
          have hgn : gg ≠ w.heap.size + 1 := by omega
          have v0 := (HM.out.low.cell (p := ⟨gg, _, none⟩) hgg).trans k0
          have v1 := (HM.out.low.cell (p := ⟨gg, _, none⟩) hgg).trans k1
          have v2 := (HM.out.low.cell (p := ⟨gg, _, none⟩) hgg).trans k2
          have v3 := (HM.out.low.cell (p := ⟨gg, _, none⟩) hgg).trans k3
          have c2 : wr.cell? ⟨w.heap.size, 2, none⟩ = some (.slice (some ⟨gg, goff, none⟩) L.length cap) := cell_of_blk HM.out.box 2
          have hrk : reck L x = if L[x].kind = gOne ∨ L[x].kind = gTwo then L[x].ins else [] := by unfold reck; rw [hnd]
          have hkp : keeps L x ↔ L[x].kind = gPhi ∨ L[x].kind = gCall := by unfold keeps; rw [hnd]
          have hbd := reck_bnd HW.out x
          obtain ⟨Y, hY⟩ : ∃ Y, Y = wr.setCell ⟨w.heap.size + 1, x, none⟩ (.bool true) := ⟨_, rfl⟩
          have hMY : HMem w Y nm0 P (.slice (some ⟨gg, goff, none⟩) L.length cap) (sn.set x true) (some ⟨g6, off6, none⟩) ([] : List Nat).length 0 ([] : List Nat) := by rw [hY]; exact HPOP.out.mark x
          have hOY : Y.ownsRow (w.heap.size + 2) 3 1 lv out.length (natsG out) := by
            rw [hY]
            exact own_same HOW.out fun b hb => Below.heap_setCell _ _ _ _ (by have := (HOW.out.lt b hb).1; show b ≠ w.heap.size + 1; omega)
          have y0 := (hMY.low.cell (p := ⟨gg, _, none⟩) hgg).trans k0
          have y1 := (hMY.low.cell (p := ⟨gg, _, none⟩) hgg).trans k1
          have y2 := (hMY.low.cell (p := ⟨gg, _, none⟩) hgg).trans k2
          have y3 := (hMY.low.cell (p := ⟨gg, _, none⟩) hgg).trans k3
          have g2 : Y.cell? ⟨w.heap.size, 2, none⟩ = some (.slice (some ⟨gg, goff, none⟩) L.length cap) := cell_of_blk hMY.box 2
          generalize L[x] = n at *
          obtain ⟨X1, hX1⟩ : ∃ X1, X1 = Y.alloc (.cells #[.string ⟨n.kind.toArray⟩, .slice ad1 n.ins.length cap1, .int .i64 n.num, .string ⟨n.name.toArray⟩] 93) := ⟨_, rfl⟩
          have hb1 : Below Y.heap.size Y X1 := by rw [hX1]; (repeat (first | exact Below.refl _ _ | assumption | refine Below.drew ?_ | refine Below.trans ?_ (drewN_below' _ _ _) | refine Below.setCell ?_ (by first | (simp; done) | (simp; omega)) _ | refine Below.alloc ?_ (by first | (simp; done) | (simp; omega)) _))
          have hx1 : X1.heap[Y.heap.size]? = some (.cells #[.string ⟨n.kind.toArray⟩, .slice ad1 n.ins.length cap1, .int .i64 n.num, .string ⟨n.name.toArray⟩] 93 (0, 0)) := by rw [hX1]; exact heap_alloc_new _ _
          have n0 : X1.cell? ⟨Y.heap.size, 0, none⟩ = some (.string ⟨n.kind.toArray⟩) := cell_of_blk hx1 0
          have n1 : X1.cell? ⟨Y.heap.size, 1, none⟩ = some (.slice ad1 n.ins.length cap1) := cell_of_blk hx1 1
          have HM1 := hidX (hMY.below hb1)
          have HO1 := hidX (owns_below hOY hb1)
          have hyz : Y.heap.size = wr.heap.size := by rw [hY]; simp [World.setCell]
          have hx1l : Below w.heap.size w X1 := (hMY.below hb1).low
          have HROW := hidX (hrow.imp (inH_up hx1l) (keepH hx1l))
          have HOS2 : Hid (∀ y, y ∈ out ↔ seenP sn y ∧ keeps L y) := HOS.out
          have HNS := hidX hns
          have HX1L := hidX hx1l
          clear hb hns hMY hOY hx1 hb1 k0 k1 k2 k3 hrow hnd hx1l
          by_cases ck : n.kind = gPhi ∨ n.kind = gCall
          · have hr0 : reck L x = [] := by
              rw [hrk, if_neg]
              rintro (h | h) <;> rw [h] at ck <;> exact absurd ck (by decide)
            have hkx : keeps L x := hkp.2 ck
            have hos : ∀ y, y ∈ out ++ [x] ↔ seenP (sn.set x true) y ∧ keeps L y := fun y => by
              rw [List.mem_append, List.mem_singleton, HOS2.out y, seen_set hsx]
              constructor
              · rintro (h | h)
                · exact ⟨Or.inl h.1, h.2⟩
                · exact ⟨Or.inr h, by rw [h]; exact hkx⟩
              · rintro ⟨h1 | h1, h2⟩
                · exact Or.inl ⟨h1, h2⟩
                · exact Or.inr h1
            have HOSN := hidX hos
            have htk := HTK.out
            rw [hr0] at htk
            have HTN := hidX (show Qch (Rk L) (fun _ => False) i (seenP (sn.set x true)) ([] : List Nat) from by simpa [natL] using htk)
            have hkk : ((n.kind == [112, 104, 105]) = true ∨ ((n.kind == [112, 104, 105]) = false ∧ (n.kind == [99, 97, 108, 108]) = true)) := by
              rcases ck with h | h
              · left; rw [h]; decide
              · right; rw [h]; decide
            have hout : ∀ (Z : World) (lv3 : Value), (X1.alloc (.cells #[.int .i64 (x : Int)] 3)).grownBy Z lv.ownBlock → (lv3.ownBlock = lv.ownBlock ∨ lv3.ownBlock = some (X1.alloc (.cells #[.int .i64 (x : Int)] 3)).heap.size) → HMem w Z nm0 P (.slice (some ⟨gg, goff, none⟩) L.length cap) (sn.set x true) (some ⟨g6, off6, none⟩) ([] : List Nat).length 0 ([] : List Nat) ∧ (∀ a : Addr, (some ⟨g6, off6, none⟩ : Option Addr) = some a → lv3.ownBlock ≠ some a.block) := fun Z lv3 hg h3 => by
              have hm2 := HM1.out.below (box_blk X1 #[.int .i64 (x : Int)] 3)
              refine ⟨hm2.other hg (fun b hb => ⟨(HO1.out.lt b hb).1, fun a ha e => HAZ.out a ha (by rw [hb, e])⟩), fun a ha e => ?_⟩
              rcases h3 with h3 | h3
              · exact HAZ.out a ha (h3.symm.trans e)
              · rw [h3] at e
                injection e with e
                have := (HM1.out.q.new a ha).2
                rw [World.size_alloc] at e
                omega
            have HOUT := hidX hout
            have hnews : ∀ j u, ([.int .i64 (x : Int)] : List Value)[j]? = some u → (X1.alloc (.cells #[.int .i64 (x : Int)] 3)).cell? ((⟨wr.heap.size + 1, 0, none⟩ : Addr).add j) = some u := by
              have h := World.news_of_block (heap_alloc_new X1 (.cells #[.int .i64 (x : Int)] 3))
              rw [show X1.heap.size = wr.heap.size + 1 by rw [hX1, World.size_alloc, hyz]] at h
              exact h
            have HNW := hidX hnews
            clear hnews
            have HO2 := hidX (owns_below HO1.out (box_blk X1 #[.int .i64 (x : Int)] 3))
            obtain ⟨i0, hi0, iz0, iz1, iz2⟩ := info_parts int_info
            have hwx : w.heap.size + 2 ≤ X1.heap.size := by have := heap_lt HM1.out.sn; omega
            have hol2 : (out ++ [x]).length + unseen (sn.set x true) ≤ L.length := by rw [List.length_append, List.length_singleton]; omega
            have hol3 : out.length ≤ 1000 := by omega
            obtain ⟨la, lc, rfl⟩ := own_is HO1.out
            clear hos htk hr0 hkx ck hrk hkp hout HTK
            rcases hkk with hkk | ⟨hkk, hkk2⟩
            all_goals (
              go_wp2_with (first | (at_builtin; rw [← hY, ← hX1]; refine wpList_append_own_at _ rfl _ _ 23 rfl (w.heap.size + 2) 3 i0 _ 1 8 Tryz.underlying23 hi0 iz0 iz1 iz2 rfl (by decide) (.slice la out.length lc) out.length (natsG out) rfl HO2.out ⟨wr.heap.size + 1, 0, none⟩ 1 1 [.int .i64 (x : Int)] rfl rfl HNW.out (int_one _) (by unfold maxLen; omega) (by omega) (by simp; omega) ?_; intro lv3 W3 ho3 hg3 _ hl3; obtain ⟨ad3, cc3, rfl⟩ := own_is ho3; have HO3 := hidX ho3; have HU3 := hidX (HOUT.out W3 _ hg3 hl3); clear ho3 hg3 hl3) | fail)
              go_roundg (3 * unseen (sn.set x true) + ([] : List Nat).length + 1)
              case measure => (first | omega | (simp only [List.length_nil]; omega))
              case rel => exact ⟨_, _, _, _, sn.set x true, ([] : List Nat), out ++ [x], rfl, rfl, by omega, by (first | omega | (simp only [List.length_nil]; omega)), hsl2, hol2, HU3.out.1, HTN.out, HTT.out, (by have h := HO3.out; rw [List.length_append, natsG_snoc]; exact h), HU3.out.2, HOSN.out⟩)
          · have hkx : ¬ keeps L x := fun h => ck (hkp.1 h)
            have hos : ∀ y, y ∈ out ↔ seenP (sn.set x true) y ∧ keeps L y := fun y => by
              rw [HOS2.out y, seen_set hsx]
              constructor
              · rintro h; exact ⟨Or.inl h.1, h.2⟩
              · rintro ⟨h1 | h1, h2⟩
                · exact ⟨h1, h2⟩
                · rw [h1] at h2; exact absurd h2 hkx
            have HOSN := hidX hos
            have t1 : (n.kind == [112, 104, 105]) = false := ne_lit (fun h => ck (Or.inl h))
            have t2 : (n.kind == [99, 97, 108, 108]) = false := ne_lit (fun h => ck (Or.inr h))
            have hol2 : out.length + unseen (sn.set x true) ≤ L.length := by omega
            clear hos hkx ck hkp
            by_cases cs : n.kind = gOne ∨ n.kind = gTwo
            · rw [if_pos cs] at hrk
              have hkk : ((n.kind == [111, 110, 101]) = true ∨ ((n.kind == [111, 110, 101]) = false ∧ (n.kind == [116, 119, 111]) = true)) := by
                rcases cs with h | h
                · left; rw [h]; decide
                · right; rw [h]; decide
              have htk := HTK.out
              rw [hrk] at htk hbd hfew
              have HTN := hidX htk
              have HXR := hidX (show XRow (InH X1) X1 (.slice ad1 n.ins.length cap1) (natL n.ins).length (natsG (natL n.ins)) by rw [natL_len, nats_ints (fun z hz => (hbd z hz).1)]; exact HROW.out)
              have HLT := hidX (fun y (hy : y ∈ natL n.ins) => (show y < L.length by
                have h1 := (mem_natL (fun z hz => (hbd z hz).1) y).1 hy
                have := (hbd _ h1).2
                omega))
              have hnl := natL_len n.ins
              have hwx : w.heap.size + 2 ≤ X1.heap.size := by have := heap_lt HM1.out.sn; omega
              have hqq : ∀ (Z : World) (ad3 : Option Addr), X1.grownBy Z (Value.slice (some ⟨g6, off6, none⟩) ([] : List Nat).length 0).ownBlock → (∀ a : Addr, ad3 = some a → (∃ a0 : Addr, (some ⟨g6, off6, none⟩ : Option Addr) = some a0 ∧ a.block = a0.block) ∨ a.block = X1.heap.size) → Z.ownsRow (w.heap.size + 2) 3 1 lv out.length (natsG out) ∧ (∀ a, ad3 = some a → lv.ownBlock ≠ some a.block) := fun Z ad3 hg h3 => by
                refine ⟨own_same HO1.out (fun b hb => hg.block b (HO1.out.lt b hb).2 (fun e => ?_)), fun a ha e => ?_⟩
                · revert e
                  rcases hca : (some ⟨g6, off6, none⟩ : Option Addr) with _ | a0
                  · intro e; cases e
                  · intro e
                    exact HAZ.out a0 hca (by rw [hb]; exact e)
                · rcases h3 a ha with ⟨a0, h4, h5⟩ | h4
                  · exact HAZ.out a0 h4 (by rw [e, h5])
                  · have := (HO1.out.lt _ e).2; omega
              have HQQ := hidX hqq
              clear htk hrk cs hbd hqq
              rcases hkk with hkk | ⟨hkk, hkk2⟩
              all_goals (
                go_wp2_with (first | (at_builtin; rw [← hY, ← hX1]; refine wpList_append_ql rfl _ _ rfl rfl HM1.out.q (by (first | omega | (simp only [List.length_nil]; omega))) hwx (natL n.ins) (by omega) rfl HXR.out ?_; intro ad3 cap3 W3 hq3 hg3 hl3; have HMF := hidX (HM1.out.pushL hg3 hq3); have HU3 := hidX (HQQ.out W3 ad3 hg3 hl3); clear hq3 hg3 hl3) | fail)
                go_roundg (3 * unseen (sn.set x true) + (([] : List Nat) ++ natL n.ins).length + 1)
                case measure => simp only [List.length_append, List.length_nil]; omega
                case rel => exact ⟨_, _, _, _, sn.set x true, ([] : List Nat) ++ natL n.ins, out, rfl, rfl, by omega, by (simp only [List.length_append, List.length_nil]; omega), hsl2, hol2, (by have h := HMF.out; rw [Nat.zero_add, natL_len] at h; exact h), HTN.out, fun y hy => (by
                  rcases List.mem_append.1 hy with h | h
                  · exact HTT.out y h
                  · exact HLT.out y h), HU3.out.1, HU3.out.2, HOSN.out⟩)
            · rw [if_neg cs] at hrk
              have t3 : (n.kind == [111, 110, 101]) = false := ne_lit (fun h => cs (Or.inl h))
              have t4 : (n.kind == [116, 119, 111]) = false := ne_lit (fun h => cs (Or.inr h))
              have htk := HTK.out
              rw [hrk] at htk
              have HTN := hidX (show Qch (Rk L) (fun _ => False) i (seenP (sn.set x true)) ([] : List Nat) from by simpa [natL] using htk)
              clear htk hrk cs
              go_wp2_with fail
              rw [← hY, ← hX1]
              clear hY hX1 y0 y1 y2 y3 g2 v0 v1 v2 v3 c2
              go_wp2
              go_roundg (3 * unseen (sn.set x true) + ([] : List Nat).length + 1)
              case measure => (first | omega | (simp only [List.length_nil]; omega))
              case rel => exact ⟨_, _, _, _, sn.set x true, ([] : List Nat), out, rfl, rfl, by omega, by (first | omega | (simp only [List.length_nil]; omega)), hsl2, hol2, HM1.out, HTN.out, HTT.out, HO1.out, HAZ.out, HOSN.out⟩
      · have hc1' : ¬ ((c6 : Int) = 1) := by omega
        have HPOP := hidX (HM.out.pop (hq1 hc1))
        have HAZ := hidX (show ∀ a, (some ⟨g6, off6 + 1, none⟩ : Option Addr) = some a → lv.ownBlock ≠ some a.block from fun a ha => by injection ha with ha; subst ha; exact HAP.out ⟨g6, off6, none⟩ rfl)
        have HAPP := HAZ
        have hcp : (t.length : Int) + 1 ≤ (c6 : Int) := by have := HM.out.q.room; omega
        clear hq1 hq2 hln HAP
        cases hb : sn[x] with
        | true =>
          rw [hb] at b1
          have HSK := hidX (HQ.out.skip (Or.inl (by unfold seenP; simp [hsx, hb])))
          clear hb
          go_wp2
          go_roundg (3 * unseen sn + t.length + 1)
          case measure => omega
          case rel => exact ⟨_, _, _, _, sn, t, out, rfl, rfl, by omega, by omega, hsl, hol, HPOP.out, HSK.out, HTT.out, HOW.out, HAPP.out, HOS.out⟩
        | false =>
          rw [hb] at b1
          have hns : ¬ seenP sn x := by unfold seenP; simp [hsx, hb]
          have HTK := hidX (HQ.out.take (nx := natL (reck L x)) (fun h => h) hsx (fun y => (mem_natL (fun z hz => (reck_bnd HW.out x z hz).1) y).symm))
          have hus := unseen_set sn x hsx (fun h => hns h)
          have hfew := reck_two HW.out x
          have hsl2 : (sn.set x true).length = L.length := by rw [List.length_set]; exact hsl
          obtain ⟨gg, goff, ad1, cap1, eg, hgg, _, hrow, k0, k1, k2, k3⟩ := HG.out.node hxl
          subst eg
          have hnd : ndAt L (x : Int) = L[x] := by simp [ndAt, hxl]
          have hgl : gg < w.heap.size := hgg
          have hgn : gg ≠ w.heap.size + 1 := by omega
          have v0 := (HM.out.low.cell (p := ⟨gg, _, none⟩) hgg).trans k0
          have v1 := (HM.out.low.cell (p := ⟨gg, _, none⟩) hgg).trans k1
          have v2 := (HM.out.low.cell (p := ⟨gg, _, none⟩) hgg).trans k2
          have v3 := (HM.out.low.cell (p := ⟨gg, _, none⟩) hgg).trans k3
          have c2 : wr.cell? ⟨w.heap.size, 2, none⟩ = some (.slice (some ⟨gg, goff, none⟩) L.length cap) := cell_of_blk HM.out.box 2
          have hrk : reck L x = if L[x].kind = gOne ∨ L[x].kind = gTwo then L[x].ins else [] := by unfold reck; rw [hnd]
          have hkp : keeps L x ↔ L[x].kind = gPhi ∨ L[x].kind = gCall := by unfold keeps; rw [hnd]
          have hbd := reck_bnd HW.out x
          obtain ⟨Y, hY⟩ : ∃ Y, Y = wr.setCell ⟨w.heap.size + 1, x, none⟩ (.bool true) := ⟨_, rfl⟩
          have hMY : HMem w Y nm0 P (.slice (some ⟨gg, goff, none⟩) L.length cap) (sn.set x true) (some ⟨g6, off6 + 1, none⟩) t.length (c6 - 1) t := by rw [hY]; exact HPOP.out.mark x
          have hOY : Y.ownsRow (w.heap.size + 2) 3 1 lv out.length (natsG out) := by
            rw [hY]
            exact own_same HOW.out fun b hb => Below.heap_setCell _ _ _ _ (by have := (HOW.out.lt b hb).1; show b ≠ w.heap.size + 1; omega)
          have y0 := (hMY.low.cell (p := ⟨gg, _, none⟩) hgg).trans k0
          have y1 := (hMY.low.cell (p := ⟨gg, _, none⟩) hgg).trans k1
          have y2 := (hMY.low.cell (p := ⟨gg, _, none⟩) hgg).trans k2
          have y3 := (hMY.low.cell (p := ⟨gg, _, none⟩) hgg).trans k3
          have g2 : Y.cell? ⟨w.heap.size, 2, none⟩ = some (.slice (some ⟨gg, goff, none⟩) L.length cap) := cell_of_blk hMY.box 2
          generalize L[x] = n at *
          obtain ⟨X1, hX1⟩ : ∃ X1, X1 = Y.alloc (.cells #[.string ⟨n.kind.toArray⟩, .slice ad1 n.ins.length cap1, .int .i64 n.num, .string ⟨n.name.toArray⟩] 93) := ⟨_, rfl⟩
          have hb1 : Below Y.heap.size Y X1 := by rw [hX1]; (repeat (first | exact Below.refl _ _ | assumption | refine Below.drew ?_ | refine Below.trans ?_ (drewN_below' _ _ _) | refine Below.setCell ?_ (by first | (simp; done) | (simp; omega)) _ | refine Below.alloc ?_ (by first | (simp; done) | (simp; omega)) _))
          have hx1 : X1.heap[Y.heap.size]? = some (.cells #[.string ⟨n.kind.toArray⟩, .slice ad1 n.ins.length cap1, .int .i64 n.num, .string ⟨n.name.toArray⟩] 93 (0, 0)) := by rw [hX1]; exact heap_alloc_new _ _
          have n0 : X1.cell? ⟨Y.heap.size, 0, none⟩ = some (.string ⟨n.kind.toArray⟩) := cell_of_blk hx1 0
          have n1 : X1.cell? ⟨Y.heap.size, 1, none⟩ = some (.slice ad1 n.ins.length cap1) := cell_of_blk hx1 1
          have HM1 := hidX (hMY.below hb1)
          have HO1 := hidX (owns_below hOY hb1)
          have hyz : Y.heap.size = wr.heap.size := by rw [hY]; simp [World.setCell]
          have hx1l : Below w.heap.size w X1 := (hMY.below hb1).low
          have HROW := hidX (hrow.imp (inH_up hx1l) (keepH hx1l))
          have HOS2 : Hid (∀ y, y ∈ out ↔ seenP sn y ∧ keeps L y) := HOS.out
          have HNS := hidX hns
          have HX1L := hidX hx1l
          clear hb hns hMY hOY hx1 hb1 k0 k1 k2 k3 hrow hnd hx1l
          by_cases ck : n.kind = gPhi ∨ n.kind = gCall
          · have hr0 : reck L x = [] := by
              rw [hrk, if_neg]
              rintro (h | h) <;> rw [h] at ck <;> exact absurd ck (by decide)
            have hkx : keeps L x := hkp.2 ck
            have hos : ∀ y, y ∈ out ++ [x] ↔ seenP (sn.set x true) y ∧ keeps L y := fun y => by
              rw [List.mem_append, List.mem_singleton, HOS2.out y, seen_set hsx]
              constructor
              · rintro (h | h)
                · exact ⟨Or.inl h.1, h.2⟩
                · exact ⟨Or.inr h, by rw [h]; exact hkx⟩
              · rintro ⟨h1 | h1, h2⟩
                · exact Or.inl ⟨h1, h2⟩
                · exact Or.inr h1
            have HOSN := hidX hos
            have htk := HTK.out
            rw [hr0] at htk
            have HTN := hidX (show Qch (Rk L) (fun _ => False) i (seenP (sn.set x true)) t from by simpa [natL] using htk)
            have hkk : ((n.kind == [112, 104, 105]) = true ∨ ((n.kind == [112, 104, 105]) = false ∧ (n.kind == [99, 97, 108, 108]) = true)) := by
              rcases ck with h | h
              · left; rw [h]; decide
              · right; rw [h]; decide
            have hout : ∀ (Z : World) (lv3 : Value), (X1.alloc (.cells #[.int .i64 (x : Int)] 3)).grownBy Z lv.ownBlock → (lv3.ownBlock = lv.ownBlock ∨ lv3.ownBlock = some (X1.alloc (.cells #[.int .i64 (x : Int)] 3)).heap.size) → HMem w Z nm0 P (.slice (some ⟨gg, goff, none⟩) L.length cap) (sn.set x true) (some ⟨g6, off6 + 1, none⟩) t.length (c6 - 1) t ∧ (∀ a : Addr, (some ⟨g6, off6 + 1, none⟩ : Option Addr) = some a → lv3.ownBlock ≠ some a.block) := fun Z lv3 hg h3 => by
              have hm2 := HM1.out.below (box_blk X1 #[.int .i64 (x : Int)] 3)
              refine ⟨hm2.other hg (fun b hb => ⟨(HO1.out.lt b hb).1, fun a ha e => HAZ.out a ha (by rw [hb, e])⟩), fun a ha e => ?_⟩
              rcases h3 with h3 | h3
              · exact HAZ.out a ha (h3.symm.trans e)
              · rw [h3] at e
                injection e with e
                have := (HM1.out.q.new a ha).2
                rw [World.size_alloc] at e
                omega
            have HOUT := hidX hout
            have hnews : ∀ j u, ([.int .i64 (x : Int)] : List Value)[j]? = some u → (X1.alloc (.cells #[.int .i64 (x : Int)] 3)).cell? ((⟨wr.heap.size + 1, 0, none⟩ : Addr).add j) = some u := by
              have h := World.news_of_block (heap_alloc_new X1 (.cells #[.int .i64 (x : Int)] 3))
              rw [show X1.heap.size = wr.heap.size + 1 by rw [hX1, World.size_alloc, hyz]] at h
              exact h
            have HNW := hidX hnews
            clear hnews
            have HO2 := hidX (owns_below HO1.out (box_blk X1 #[.int .i64 (x : Int)] 3))
            obtain ⟨i0, hi0, iz0, iz1, iz2⟩ := info_parts int_info
            have hwx : w.heap.size + 2 ≤ X1.heap.size := by have := heap_lt HM1.out.sn; omega
            have hol2 : (out ++ [x]).length + unseen (sn.set x true) ≤ L.length := by rw [List.length_append, List.length_singleton]; omega
            have hol3 : out.length ≤ 1000 := by omega
            obtain ⟨la, lc, rfl⟩ := own_is HO1.out
            clear hos htk hr0 hkx ck hrk hkp hout HTK
            rcases hkk with hkk | ⟨hkk, hkk2⟩
            all_goals (
              go_wp2_with (first | (at_builtin; rw [← hY, ← hX1]; refine wpList_append_own_at _ rfl _ _ 23 rfl (w.heap.size + 2) 3 i0 _ 1 8 Tryz.underlying23 hi0 iz0 iz1 iz2 rfl (by decide) (.slice la out.length lc) out.length (natsG out) rfl HO2.out ⟨wr.heap.size + 1, 0, none⟩ 1 1 [.int .i64 (x : Int)] rfl rfl HNW.out (int_one _) (by unfold maxLen; omega) (by omega) (by simp; omega) ?_; intro lv3 W3 ho3 hg3 _ hl3; obtain ⟨ad3, cc3, rfl⟩ := own_is ho3; have HO3 := hidX ho3; have HU3 := hidX (HOUT.out W3 _ hg3 hl3); clear ho3 hg3 hl3) | fail)
              go_roundg (3 * unseen (sn.set x true) + t.length + 1)
              case measure => omega
              case rel => exact ⟨_, _, _, _, sn.set x true, t, out ++ [x], rfl, rfl, by omega, by omega, hsl2, hol2, HU3.out.1, HTN.out, HTT.out, (by have h := HO3.out; rw [List.length_append, natsG_snoc]; exact h), HU3.out.2, HOSN.out⟩)
          · have hkx : ¬ keeps L x := fun h => ck (hkp.1 h)
            have hos : ∀ y, y ∈ out ↔ seenP (sn.set x true) y ∧ keeps L y := fun y => by
              rw [HOS2.out y, seen_set hsx]
              constructor
              · rintro h; exact ⟨Or.inl h.1, h.2⟩
              · rintro ⟨h1 | h1, h2⟩
                · exact ⟨h1, h2⟩
                · rw [h1] at h2; exact absurd h2 hkx
            have HOSN := hidX hos
            have t1 : (n.kind == [112, 104, 105]) = false := ne_lit (fun h => ck (Or.inl h))
            have t2 : (n.kind == [99, 97, 108, 108]) = false := ne_lit (fun h => ck (Or.inr h))
            have hol2 : out.length + unseen (sn.set x true) ≤ L.length := by omega
            clear hos hkx ck hkp
            by_cases cs : n.kind = gOne ∨ n.kind = gTwo
            · rw [if_pos cs] at hrk
              have hkk : ((n.kind == [111, 110, 101]) = true ∨ ((n.kind == [111, 110, 101]) = false ∧ (n.kind == [116, 119, 111]) = true)) := by
                rcases cs with h | h
                · left; rw [h]; decide
                · right; rw [h]; decide
              have htk := HTK.out
              rw [hrk] at htk hbd hfew
              have HTN := hidX htk
              have HXR := hidX (show XRow (InH X1) X1 (.slice ad1 n.ins.length cap1) (natL n.ins).length (natsG (natL n.ins)) by rw [natL_len, nats_ints (fun z hz => (hbd z hz).1)]; exact HROW.out)
              have HLT := hidX (fun y (hy : y ∈ natL n.ins) => (show y < L.length by
                have h1 := (mem_natL (fun z hz => (hbd z hz).1) y).1 hy
                have := (hbd _ h1).2
                omega))
              have hnl := natL_len n.ins
              have hwx : w.heap.size + 2 ≤ X1.heap.size := by have := heap_lt HM1.out.sn; omega
              have hqq : ∀ (Z : World) (ad3 : Option Addr), X1.grownBy Z (Value.slice (some ⟨g6, off6 + 1, none⟩) t.length (c6 - 1)).ownBlock → (∀ a : Addr, ad3 = some a → (∃ a0 : Addr, (some ⟨g6, off6 + 1, none⟩ : Option Addr) = some a0 ∧ a.block = a0.block) ∨ a.block = X1.heap.size) → Z.ownsRow (w.heap.size + 2) 3 1 lv out.length (natsG out) ∧ (∀ a, ad3 = some a → lv.ownBlock ≠ some a.block) := fun Z ad3 hg h3 => by
                refine ⟨own_same HO1.out (fun b hb => hg.block b (HO1.out.lt b hb).2 (fun e => ?_)), fun a ha e => ?_⟩
                · revert e
                  rcases hca : (some ⟨g6, off6 + 1, none⟩ : Option Addr) with _ | a0
                  · intro e; cases e
                  · intro e
                    exact HAZ.out a0 hca (by rw [hb]; exact e)
                · rcases h3 a ha with ⟨a0, h4, h5⟩ | h4
                  · exact HAZ.out a0 h4 (by rw [e, h5])
                  · have := (HO1.out.lt _ e).2; omega
              have HQQ := hidX hqq
              clear htk hrk cs hbd hqq
              rcases hkk with hkk | ⟨hkk, hkk2⟩
              all_goals (
                go_wp2_with (first | (at_builtin; rw [← hY, ← hX1]; refine wpList_append_ql rfl _ _ rfl rfl HM1.out.q (by omega) hwx (natL n.ins) (by omega) rfl HXR.out ?_; intro ad3 cap3 W3 hq3 hg3 hl3; have HMF := hidX (HM1.out.pushL hg3 hq3); have HU3 := hidX (HQQ.out W3 ad3 hg3 hl3); clear hq3 hg3 hl3) | fail)
                go_roundg (3 * unseen (sn.set x true) + (t ++ natL n.ins).length + 1)
                case measure => simp only [List.length_append]; omega
                case rel => exact ⟨_, _, _, _, sn.set x true, t ++ natL n.ins, out, rfl, rfl, by omega, by (simp only [List.length_append]; omega), hsl2, hol2, (by have h := HMF.out; rw [natL_len] at h; exact h), HTN.out, fun y hy => (by
                  rcases List.mem_append.1 hy with h | h
                  · exact HTT.out y h
                  · exact HLT.out y h), HU3.out.1, HU3.out.2, HOSN.out⟩)
            · rw [if_neg cs] at hrk
              have t3 : (n.kind == [111, 110, 101]) = false := ne_lit (fun h => cs (Or.inl h))
              have t4 : (n.kind == [116, 119, 111]) = false := ne_lit (fun h => cs (Or.inr h))
              have htk := HTK.out
              rw [hrk] at htk
              have HTN := hidX (show Qch (Rk L) (fun _ => False) i (seenP (sn.set x true)) t from by simpa [natL] using htk)
              clear htk hrk cs
              go_wp2_with fail
              rw [← hY, ← hX1]
              clear hY hX1 y0 y1 y2 y3 g2 v0 v1 v2 v3 c2
              go_wp2
              go_roundg (3 * unseen (sn.set x true) + t.length + 1)
              case measure => omega
              case rel => exact ⟨_, _, _, _, sn.set x true, t, out, rfl, rfl, by omega, by omega, hsl2, hol2, HM1.out, HTN.out, HTT.out, HO1.out, HAZ.out, HOSN.out⟩
end Go.Proofs.YtookfnodfkkneacGreatDoor
