/-
  Our own: the document's model of graphs: which nodes of control can be come to.
-/
import Derived.Test.YtookfnodfkkneacGreatDoorQueues
import Derived.Test.YtookfnodfkkneacGreatDoorGrHangs
import Derived.Test.YtookfnodfkkneacGreatDoorFlowM
namespace Go.Proofs.YtookfnodfkkneacGreatDoor
open Go.RowKit

section
variable {ones twos : List (List UInt8)} {Q : Int} {L : List Nd}
theorem tak_few (hW : WellG ones twos Q L) {a : Nat} (ha : a < L.length) : (takL L a).length ≤ 2 := by
  by_cases h1 : isWay (ndAt L a).kind
  · rw [way_len hW ha h1]; decide
  · by_cases h2 : (ndAt L a).kind = gIf
    · have h3 := hW.tak a ha
      rw [← tkR_is hW.node] at h3
      unfold tkR at h3
      rw [if_neg (fun h => h1 h.1), h2] at h3
      rw [if_pos rfl] at h3
      rcases Nat.lt_or_ge 2 (takL L a).length with h4 | h4
      · rw [if_pos (by omega)] at h3; cases h3
      · exact h4
    · rcases Nat.eq_zero_or_pos (takL L a).length with h3 | h3
      · omega
      · exfalso
        have hm : (takL L a)[0] ∈ takL L a := List.getElem_mem h3
        obtain ⟨k, hs⟩ := mem_spot hm
        have := spot_kind hW hs
        split at this
        · exact h2 this
        · exact h1 this
theorem ways_ins (hW : WellG ones twos Q L) : ∀ n ∈ L, waysN n ≤ n.ins.length := by
  intro n hn
  obtain ⟨i, hi⟩ := List.mem_iff_getElem?.1 hn
  obtain ⟨f1, f2, f3, f4, f5, f6, f7, f8, f9, f10, f11, f12, f13, f14⟩ := fits_len (hW.node.at hi).fits
  unfold waysN
  split
  · exact Nat.le_refl _
  · split
    · next h =>
      rcases h with h | h | h | h | h | h | h
      · have := f8 h; omega
      · have := f12 h; omega
      · have := f14 h; omega
      · have := f13 h; omega
      · have := f11 h; omega
      · have := f9 h; omega
      · have := f10 h; omega
    · omega
end
theorem HMem.below {w X Y : World} {nm0 : List UInt8} {P : Int} {gv : Value} {seen : List Bool} {ad : Option Addr} {n cap : Nat} {td : List Nat} (h : HMem w X nm0 P gv seen ad n cap td) (hb : Below X.heap.size X Y) : HMem w Y nm0 P gv seen ad n cap td :=
  ⟨bl_trans h.low h.low.size hb, (hb.block _ (heap_lt h.box)).trans h.box, (hb.block _ (heap_lt h.sn)).trans h.sn, h.q.below hb⟩
theorem QAt.ne {w : World} {B n cap k : Nat} {ad : Option Addr} {l : List Nat} (h : QAt w B ad n cap l) (hk : k < B) : some k ≠ (Value.slice ad n cap).ownBlock := fun e => by
  cases ad with
  | none => cases e
  | some a =>
    have := (h.new a rfl).1
    have : k = a.block := by simpa [Value.ownBlock] using e
    omega
theorem HMem.pushL {w X Z : World} {nm0 : List UInt8} {P : Int} {gv : Value} {seen : List Bool} {ad ad' : Option Addr} {n cap n' cap' : Nat} {td td' : List Nat} (h : HMem w X nm0 P gv seen ad n cap td) (hg : X.grownBy Z (Value.slice ad n cap).ownBlock) (hq : QAt Z (w.heap.size + 2) ad' n' cap' td') : HMem w Z nm0 P gv seen ad' n' cap' td' := by
  have hz := h.low.size
  have hl := heap_lt h.sn
  have key : ∀ k, k < w.heap.size + 2 → Z.heap[k]? = X.heap[k]? := fun k hk => hg.block k (by omega) (h.q.ne hk)
  exact ⟨⟨hg.os.trans h.low.os, hg.tape.trans h.low.tape, hg.output.trans h.low.output, Nat.le_trans hz hg.size, fun k hk => (key k (by omega)).trans (h.low.block k hk)⟩, (key _ (by omega)).trans h.box, (key _ (by omega)).trans h.sn, hq⟩
theorem HMem.mark {w X : World} {nm0 : List UInt8} {P : Int} {gv : Value} {seen : List Bool} {ad : Option Addr} {n cap : Nat} {td : List Nat} (h : HMem w X nm0 P gv seen ad n cap td) (y : Nat) : HMem w (X.setCell ⟨w.heap.size + 1, y, none⟩ (.bool true)) nm0 P gv (seen.set y true) ad n cap td := by
  have hz := h.low.size
  refine ⟨h.low.setCell (by show w.heap.size ≤ w.heap.size + 1; omega) _, (Below.heap_setCell _ _ _ _ (by show w.heap.size ≠ w.heap.size + 1; omega)).trans h.box, ?_, h.q.keep (by simp [World.setCell]) fun a ha => Below.heap_setCell _ _ _ _ (by have := (h.q.new a ha).1; show a.block ≠ w.heap.size + 1; omega)⟩
  have hs := blk_setCell h.sn y (.bool true)
  rw [boolsG_set] at hs
  exact hs
set_option maxRecDepth 100000 in
set_option maxHeartbeats 2000000 in
theorem reach_any {w : World} (nm0 : List UInt8) (P : Int) (nv : Value) (L : List Nd) {ones twos : List (List UInt8)} {Q : Int} (hW : WellG ones twos Q L) (hlow : ∀ n ∈ L, LowN n) (hG : XG false (InH w) w nv L) (but : Int) :
    Calls Tryz.prog 44 #[.agg #[.string ⟨nm0.toArray⟩, .int .i64 P, nv], .int .i64 but] w fun e w' => Below w.heap.size w w' ∧ ∃ sn : List Bool, e = .returned (.slice (some ⟨w.heap.size + 1, 0, none⟩) L.length L.length) ∧ w'.heap[w.heap.size + 1]? = some (.cells (boolsG sn).toArray 4 (0, 0)) ∧ sn.length = L.length ∧ ∀ x, seenP sn x ↔ ¬ ((0 : Nat) : Int) = but ∧ Star (Away (TkE L) (fun y => (y : Int) = but)) 0 x := by
  have hL := hW.len.2
  have hL0 := hW.len.1
  obtain ⟨ad, cap, rfl⟩ := hG.is
  have hmk := run_make_row' (P := Tryz.prog) 101 4 (.bool false) 1 Tryz.underlying101 bool_infoG rfl .i64 .i64 L.length (by omega) (by omega)
  rw [made_bools] at hmk
  obtain ⟨W0, hW0⟩ : ∃ W0, W0 = ((w.alloc (.cells #[.string ⟨nm0.toArray⟩, .int .i64 P, .slice ad L.length cap] 48)).alloc (.cells (boolsG (List.replicate L.length false)).toArray 4)).alloc (.cells #[.int .i64 0] 3) := ⟨_, rfl⟩
  obtain ⟨t1, t2, t3⟩ := threeG w (.cells #[.string ⟨nm0.toArray⟩, .int .i64 P, .slice ad L.length cap] 48) (.cells (boolsG (List.replicate L.length false)).toArray 4) (.cells #[.int .i64 0] 3)
  rw [← hW0] at t1 t2 t3
  have hM0 : HMem w W0 nm0 P (.slice ad L.length cap) (List.replicate L.length false) (some ⟨w.heap.size + 2, 0, none⟩) 1 1 [0] := by
    refine ⟨by rw [hW0]; (repeat (first | exact Below.refl _ _ | assumption | refine Below.drew ?_ | refine Below.trans ?_ (drewN_below' _ _ _) | refine Below.setCell ?_ (by first | (simp; done) | (simp; omega)) _ | refine Below.alloc ?_ (by first | (simp; done) | (simp; omega)) _)), t1, t2, rfl, Nat.le_refl _, by unfold maxLen; omega, fun _ => ⟨w.heap.size + 2, 0, _, rfl, t3, by simp, fun j hj => ?_⟩, fun a ha => ?_⟩
    · have : j = 0 := by simpa using hj
      subst this; rfl
    · injection ha with ha
      subst ha
      exact ⟨Nat.le_refl _, by rw [hW0]; simp⟩
  have hQ0 := Qch.start (TkE L) (fun y => (y : Int) = but) 0 L.length
  have hL' : (L.length : Int) ≤ 1000 := by omega
  have hun := unseen_rep L.length
  have HM0 := hidX hM0
  have HQ0 := hidX hQ0
  have HW := hidX hW
  have HLW := hidX hlow
  have HG := hidX hG
  clear hM0 hQ0 hW hlow hG t1 t2 t3
  go_enter Tryz.func44, Tryz.ntmps44
  go_wp2_with fail
  rw [← hW0]
  clear hW0 hmk
  go_loopg [6] (3 * L.length + 2) (fun k v6 wr => ∃ (ad6 : Option Addr) (n6 c6 : Nat) (sn : List Bool) (td : List Nat), v6 = .slice ad6 n6 c6 ∧ 3 * unseen sn + td.length < k ∧ 3 * unseen sn + td.length ≤ 3 * L.length + 1 ∧ sn.length = L.length ∧ Hid (HMem w wr nm0 P (.slice ad L.length cap) sn ad6 n6 c6 td) ∧ Hid (Qch (TkE L) (fun y => (y : Int) = but) 0 (seenP sn) td) ∧ Hid (∀ x ∈ td, x < L.length))
  case atStart => exact ⟨_, _, _, _, [0], rfl, by rw [hun]; simp, by rw [hun]; simp, by simp, HM0.out, HQ0.out, (show ∀ x ∈ [0], x < L.length by simpa using hL0)⟩
  case round =>
    obtain ⟨ad6, n6, c6, sn, td, rfl, hk, hle, hsl, HM, HQ, HT⟩ := hrel
    have hln := HM.out.q.len
    cases td with
    | nil =>
      have hn6 : n6 = 0 := by simpa using hln.symm
      subst hn6
      have HFN := hidX (show Below w.heap.size w wr ∧ wr.heap[w.heap.size + 1]? = some (.cells (boolsG sn).toArray 4 (0, 0)) ∧ sn.length = L.length ∧ ∀ x, seenP sn x ↔ ¬ ((0 : Nat) : Int) = but ∧ Star (Away (TkE L) (fun y => (y : Int) = but)) 0 x from ⟨HM.out.low, HM.out.sn, hsl, HQ.out.done⟩)
      clear HM HQ HT hsl hln
      go_wp2
      go_ret
      exact ⟨HFN.out.1, sn, rfl, HFN.out.2.1, HFN.out.2.2.1, HFN.out.2.2.2⟩
    | cons x t =>
      obtain ⟨g6, off6, e6, hc6, hn6, h1c, hq1, hq2⟩ := HM.out.q.head
      subst e6
      subst hn6
      have hxl := HT.out x (by simp)
      have hxl' : (x : Int) < (L.length : Int) := by omega
      have hsx : x < sn.length := by omega
      have b1 : wr.cell? ⟨w.heap.size + 1, x, none⟩ = some (.bool sn[x]) := by rw [cell_of_blk HM.out.sn x]; simp [boolsG, hsx]
      have b1f := free_of_blk HM.out.sn x
      simp only [List.length_cons] at hk hle hln
      have htl : (t.length : Int) + 1 ≤ 4000 := by omega
      have h1c' : (1 : Int) ≤ (c6 : Int) := by omega
      have HTT := hidX (fun y (hy : y ∈ t) => HT.out y (by simp [hy]))
      have hZ0 : ∀ ad' c', QAt wr (w.heap.size + 2) ad' t.length c' t → HMem w wr nm0 P (.slice ad L.length cap) sn ad' t.length c' t := fun ad' c' hq => HM.out.pop hq
      obtain ⟨Z, hZd⟩ : ∃ Z : Option Addr → Nat → Prop, Z = fun ad' c' => QAt wr (w.heap.size + 2) ad' t.length c' t := ⟨_, rfl⟩
      have hZ : ∀ ad' c', Z ad' c' → HMem w wr nm0 P (.slice ad L.length cap) sn ad' t.length c' t := by rw [hZd]; exact hZ0
      have HZ := hidX hZ
      clear hZ hZ0
      by_cases hc1 : c6 = 1
      · subst hc1
        obtain ⟨_, ht0⟩ := hq2 rfl none (by simp)
        subst ht0
        have hz2 : ∀ ad', (∀ a, ad' = some a → a.block = g6) → Z ad' 0 := fun ad' h => by rw [hZd]; exact (hq2 rfl ad' h).1
        have HZ2 := hidX hz2
        simp only [List.length_nil] at hk hle htl
        clear hq1 hq2 hln hZd hz2
        have HZZ := hidX (HZ2.out (some ⟨g6, off6, none⟩) (fun a ha => by injection ha with ha; subst ha; rfl))
        have HPOP := hidX (HZ.out _ _ HZZ.out)
        clear HZ2
        cases hb : sn[x] with
        | true =>
          rw [hb] at b1
          have HSK := hidX (HQ.out.skip (Or.inl (by unfold seenP; simp [hsx, hb])))
          clear hb
          go_wp2
          go_roundg (3 * unseen sn + ([] : List Nat).length + 1)
          case measure => (first | omega | (simp only [List.length_nil]; omega))
          case rel => exact ⟨_, _, _, sn, [], rfl, by omega, by (first | omega | (simp only [List.length_nil]; omega)), hsl, HPOP.out, HSK.out, HTT.out⟩
        | false =>
          rw [hb] at b1
          have hns : ¬ seenP sn x := by unfold seenP; simp [hsx, hb]
          by_cases hxb : (x : Int) = but
          · have hte : ((x : Int) == but) = true := by simp [hxb]
            have HSK := hidX (HQ.out.skip (Or.inr hxb))
            clear hb hns hxb
            go_wp2
            go_roundg (3 * unseen sn + ([] : List Nat).length + 1)
            case measure => (first | omega | (simp only [List.length_nil]; omega))
            case rel => exact ⟨_, _, _, sn, [], rfl, by omega, by (first | omega | (simp only [List.length_nil]; omega)), hsl, HPOP.out, HSK.out, HTT.out⟩
          · have hte : ((x : Int) == but) = false := by simp [hxb]
            have HTK := hidX (HQ.out.take (nx := takL L x) hxb hsx (fun y => Iff.rfl))
            have hus := unseen_set sn x hsx (fun h => hns h)
            have hfew := tak_few HW.out hxl
            obtain ⟨Y, hY⟩ : ∃ Y, Y = wr.setCell ⟨w.heap.size + 1, x, none⟩ (.bool true) := ⟨_, rfl⟩
            have hMY : ∀ ad' c', Z ad' c' → HMem w Y nm0 P (.slice ad L.length cap) (sn.set x true) ad' ([] : List Nat).length c' [] := fun ad' c' h => by rw [hY]; exact (HZ.out ad' c' h).mark x
            have hYlow : Below w.heap.size w Y := by rw [hY]; exact HM.out.low.setCell (by show w.heap.size ≤ w.heap.size + 1; omega) _
            have HTA := hidX (takers_any nm0 P (.slice ad L.length cap) L (by omega) HLW.out (HG.out.imp (inH_up hYlow) (keepH hYlow)) (ways_ins HW.out) (x : Int) (w := Y))
            have hbxY : Y.heap[w.heap.size]? = some (.cells #[.string ⟨nm0.toArray⟩, .int .i64 P, .slice ad L.length cap] 48 (0, 0)) := by rw [hY]; exact (Below.heap_setCell _ _ _ _ (by show w.heap.size ≠ w.heap.size + 1; omega)).trans HM.out.box
            have g0 := cell_of_blk hbxY 0
            have g1 := cell_of_blk hbxY 1
            have g2 := cell_of_blk hbxY 2
            simp only [List.getElem?_toArray, List.getElem?_cons_zero, List.getElem?_cons_succ] at g0 g1 g2
            have a0 := cell_of_blk HM.out.box 0
            have a1 := cell_of_blk HM.out.box 1
            have a2 := cell_of_blk HM.out.box 2
            simp only [List.getElem?_toArray, List.getElem?_cons_zero, List.getElem?_cons_succ] at a0 a1 a2
            have HMY := hidX hMY
            clear hb hns hxb hMY hYlow hbxY
            go_wp2_with fail
            rw [← hY]
            refine HTA.out.mono ?_
            rintro e W2 ⟨v, rfl, hlst⟩
            obtain ⟨va, vc, rfl⟩ := own_is hlst.own
            have hM2 := (HMY.out _ _ HZZ.out).below hlst.low
            have HXR := hidX (xrow_own hlst.own)
            have HM2 := hidX hM2
            have HTN := hidX (fun y (hy : y ∈ takL L x) => tk_lt (L := L) (a := x) hy)
            have hwz : w.heap.size + 2 ≤ W2.heap.size := by have := heap_lt hM2.sn; omega
            have hsl2 : (sn.set x true).length = L.length := by rw [List.length_set]; exact hsl
            clear hM2 hlst hY g0 g1 g2 a0 a1 a2
            go_wp2_with (first | (at_builtin; refine wpList_append_ql rfl _ _ rfl rfl HM2.out.q (by first | omega | (simp only [List.length_nil]; omega)) hwz (takL L x) (by omega) rfl HXR.out ?_; intro ad3 cap3 W3 hq3 hg3 _; have HM3 := hidX (HM2.out.pushL hg3 hq3); clear hq3 hg3) | fail)
            go_roundg (3 * unseen (sn.set x true) + ([] ++ takL L x).length + 1)
            case measure => simp only [List.length_append, List.length_nil]; omega
            case rel => exact ⟨_, _, _, sn.set x true, [] ++ takL L x, rfl, by omega, by (simp only [List.length_append, List.length_nil]; omega), hsl2, (by have h := HM3.out; rw [Nat.zero_add] at h; exact h), HTK.out, fun y hy => (by
              rcases List.mem_append.1 hy with h | h
              · exact HTT.out y h
              · exact HTN.out y h)⟩
      · have hc1' : ¬ ((c6 : Int) = 1) := by omega
        have hz2 : Z (some ⟨g6, off6 + 1, none⟩) (c6 - 1) := by rw [hZd]; exact hq1 hc1
        have HZZ := hidX hz2
        have HPOP := hidX (HZ.out _ _ HZZ.out)
        have hcp : (t.length : Int) + 1 ≤ (c6 : Int) := by have := HM.out.q.room; omega
        clear hq1 hq2 hln hZd hz2
        cases hb : sn[x] with
        | true =>
          rw [hb] at b1
          have HSK := hidX (HQ.out.skip (Or.inl (by unfold seenP; simp [hsx, hb])))
          clear hb
          go_wp2
          go_roundg (3 * unseen sn + t.length + 1)
          case measure => (first | omega | (simp only [List.length_nil]; omega))
          case rel => exact ⟨_, _, _, sn, t, rfl, by omega, by (first | omega | (simp only [List.length_nil]; omega)), hsl, HPOP.out, HSK.out, HTT.out⟩
        | false =>
          rw [hb] at b1
          have hns : ¬ seenP sn x := by unfold seenP; simp [hsx, hb]
          by_cases hxb : (x : Int) = but
          · have hte : ((x : Int) == but) = true := by simp [hxb]
            have HSK := hidX (HQ.out.skip (Or.inr hxb))
            clear hb hns hxb
            go_wp2
            go_roundg (3 * unseen sn + t.length + 1)
            case measure => (first | omega | (simp only [List.length_nil]; omega))
            case rel => exact ⟨_, _, _, sn, t, rfl, by omega, by (first | omega | (simp only [List.length_nil]; omega)), hsl, HPOP.out, HSK.out, HTT.out⟩
          · have hte : ((x : Int) == but) = false := by simp [hxb]
            have HTK := hidX (HQ.out.take (nx := takL L x) hxb hsx (fun y => Iff.rfl))
            have hus := unseen_set sn x hsx (fun h => hns h)
            have hfew := tak_few HW.out hxl
            obtain ⟨Y, hY⟩ : ∃ Y, Y = wr.setCell ⟨w.heap.size + 1, x, none⟩ (.bool true) := ⟨_, rfl⟩
            have hMY : ∀ ad' c', Z ad' c' → HMem w Y nm0 P (.slice ad L.length cap) (sn.set x true) ad' t.length c' t := fun ad' c' h => by rw [hY]; exact (HZ.out ad' c' h).mark x
            have hYlow : Below w.heap.size w Y := by rw [hY]; exact HM.out.low.setCell (by show w.heap.size ≤ w.heap.size + 1; omega) _
            have HTA := hidX (takers_any nm0 P (.slice ad L.length cap) L (by omega) HLW.out (HG.out.imp (inH_up hYlow) (keepH hYlow)) (ways_ins HW.out) (x : Int) (w := Y))
            have hbxY : Y.heap[w.heap.size]? = some (.cells #[.string ⟨nm0.toArray⟩, .int .i64 P, .slice ad L.length cap] 48 (0, 0)) := by rw [hY]; exact (Below.heap_setCell _ _ _ _ (by show w.heap.size ≠ w.heap.size + 1; omega)).trans HM.out.box
            have g0 := cell_of_blk hbxY 0
            have g1 := cell_of_blk hbxY 1
            have g2 := cell_of_blk hbxY 2
            simp only [List.getElem?_toArray, List.getElem?_cons_zero, List.getElem?_cons_succ] at g0 g1 g2
            have a0 := cell_of_blk HM.out.box 0
            have a1 := cell_of_blk HM.out.box 1
            have a2 := cell_of_blk HM.out.box 2
            simp only [List.getElem?_toArray, List.getElem?_cons_zero, List.getElem?_cons_succ] at a0 a1 a2
            have HMY := hidX hMY
            clear hb hns hxb hMY hYlow hbxY
            go_wp2_with fail
            rw [← hY]
            refine HTA.out.mono ?_
            rintro e W2 ⟨v, rfl, hlst⟩
            obtain ⟨va, vc, rfl⟩ := own_is hlst.own
            have hM2 := (HMY.out _ _ HZZ.out).below hlst.low
            have HXR := hidX (xrow_own hlst.own)
            have HM2 := hidX hM2
            have HTN := hidX (fun y (hy : y ∈ takL L x) => tk_lt (L := L) (a := x) hy)
            have hwz : w.heap.size + 2 ≤ W2.heap.size := by have := heap_lt hM2.sn; omega
            have hsl2 : (sn.set x true).length = L.length := by rw [List.length_set]; exact hsl
            clear hM2 hlst hY g0 g1 g2 a0 a1 a2
            go_wp2_with (first | (at_builtin; refine wpList_append_ql rfl _ _ rfl rfl HM2.out.q (by first | omega | (simp only [List.length_nil]; omega)) hwz (takL L x) (by omega) rfl HXR.out ?_; intro ad3 cap3 W3 hq3 hg3 _; have HM3 := hidX (HM2.out.pushL hg3 hq3); clear hq3 hg3) | fail)
            go_roundg (3 * unseen (sn.set x true) + (t ++ takL L x).length + 1)
            case measure => simp only [List.length_append]; omega
            case rel => exact ⟨_, _, _, sn.set x true, t ++ takL L x, rfl, by omega, by (simp only [List.length_append]; omega), hsl2, HM3.out, HTK.out, fun y hy => (by
              rcases List.mem_append.1 hy with h | h
              · exact HTT.out y h
              · exact HTN.out y h)⟩
end Go.Proofs.YtookfnodfkkneacGreatDoor
