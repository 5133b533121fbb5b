/-
  Our own: package show: an expression as part of another.
-/
import Derived.Test.YtcebpmaggnephabDoorShowNum
namespace Go.Proofs.YtcebpmaggnephabDoor
open Go.RowKit

def textE (e : Ex) : List UInt8 := bytesI (itE e)
/-- What writing an expression comes to. -/
def ExOk (e : Ex) : Prop := ∀ (w : World) (a : Nat → Addr) (B b : Nat) (k : Int) (l : List UInt8) (cs : List Value), Wr B b k l w → ShG B w a → B ≤ w.heap.size → RepE (fun b => b < B) w e cs → l.length + (textE e).length ≤ 1000000 →
  Calls Tryd.prog 38 #[.pointer (some ⟨b, 0, none⟩), .agg cs.toArray] w fun ev w' => ev = .returned (.tuple #[]) ∧ WTo B b k (l ++ textE e) w w'
def textK (e : Ex) (L : Nat) : List UInt8 := bytesI (parI (needsP e L) (itE e))
theorem textK_no {e : Ex} {L : Nat} (h : needsP e L = false) : textK e L = textE e := by unfold textK parI; rw [h]; rfl
theorem textK_yes {e : Ex} {L : Nat} (h : needsP e L = true) : textK e L = 40 :: (textE e ++ [41]) := by
  unfold textK parI
  rw [h]
  show bytesI (sg [40] :: (itE e ++ [sg [41]])) = _
  rw [bytesI, bytesI_append]; rfl
theorem two_PE {k : List UInt8} {n : Int} {m : List UInt8} {ks : List Ex} (hp : PE (.mk k n m ks)) : twoB k m ks.length = decide (k = kTwo) := by
  obtain ⟨hp, _⟩ := hp
  unfold twoB
  by_cases hk : k = kTwo
  · rcases hp with ⟨h, _⟩ | ⟨h, _⟩ | ⟨h, _⟩ | ⟨h, _⟩ | ⟨_, _, hm, a, b, rfl⟩
    · exact absurd (h.symm.trans hk) (by decide)
    · exact absurd (h.symm.trans hk) (by decide)
    · exact absurd (h.symm.trans hk) (by decide)
    · exact absurd (h.symm.trans hk) (by decide)
    · simp [hk, hm]
  · simp [hk]
theorem repE_keep {B : Nat} {w w' : World} {e : Ex} {cs : List Value} (h : RepE (fun b => b < B) w e cs) (hb : Below B w w') : RepE (fun b => b < B) w' e cs := RepE.imp (fun _ h => h) (fun b hb' => hb.block b hb') _ _ h
set_option maxRecDepth 100000 in
set_option maxHeartbeats 1000000 in
theorem kid_any {e : Ex} (hp : PE e) (hx : ExOk e) {least : Int} {L : Nat} (hL9 : L ≤ 9) (hL : ∀ x : Nat, x ≤ 8 → (least ≤ (x : Int) ↔ L ≤ x)) {w : World} {a : Nat → Addr} {B b : Nat} {k : Int} {l : List UInt8} {cs : List Value} (hW : Wr B b k l w) (hG : ShG B w a) (hB : B ≤ w.heap.size) (hr : RepE (fun b => b < B) w e cs) (hl : l.length + (textK e L).length ≤ 1000000) :
    Calls Tryd.prog 58 #[.pointer (some ⟨b, 0, none⟩), .agg cs.toArray, .int .i64 least] w fun ev w' => ev = .returned (.tuple #[]) ∧ WTo B b k (l ++ textK e L) w w' := by
  have hle : (textE e).length ≤ (textK e L).length := by
    cases h : needsP e L
    · rw [textK_no h]; exact Nat.le_refl _
    · rw [textK_yes h]; simp; omega
  have hcall : ∀ X l', Below B w X → Wr B b k l' X → l'.length + (textE e).length ≤ 1000000 → Calls Tryd.prog 38 #[.pointer (some ⟨b, 0, none⟩), .agg cs.toArray] X fun ev w' => ev = .returned (.tuple #[]) ∧ WTo B b k (l' ++ textE e) X w' := fun X l' hX hWX hl' =>
    hx X a B b k l' cs hWX (hG.on hX) (Nat.le_trans hB hX.size) (repE_keep hr hX) hl'
  have hbyte : ∀ X l' c, Wr B b k l' X → B ≤ X.heap.size → l'.length ≤ 1000000 → Calls Tryd.prog 40 #[.pointer (some ⟨b, 0, none⟩), .int .u8 (UInt8.toNat c : Nat)] X fun e w' => e = .returned .nilIface ∧ WTo B b k (l' ++ [c]) X w' := fun X l' c hWX hBX hl' => wwbyte_any B b k l' c X hWX hl' hBX
  obtain ⟨ek, en, em, ks⟩ := e
  obtain ⟨v, xs, rfl, hrow, _⟩ := hr
  obtain ⟨ad, cap, rfl, _⟩ := hrow
  have hb0 := box_blkS w #[.string ⟨ek.toArray⟩, .int .i64 en, .string ⟨em.toArray⟩, .slice ad ks.length cap] 55
  have hi2 := isTwo_any (hG.on (below_le hb0 hB)) (Nat.le_trans hB hb0.size) ek en em ad ks.length cap
  have htw := two_PE hp
  have hlv := signLevel_le em
  have hneed : needsP (.mk ek en em ks) L = if ek = kTwo then decide (signLevel em < L) else false := by
    unfold needsP
    by_cases hk : ek = kTwo
    · subst hk; rw [if_pos rfl, lv_two]
    · rw [if_neg hk, lv_not hk]; simp; omega
  have HCL := hidS hcall
  have HBY := hidS hbyte
  have HI := hidS hi2
  have HW := hidS hW
  have HN := hidS hneed
  have HL := hidS hL
  clear hcall hbyte hi2 hW hneed hL hx hp hG
  go_enter Tryd.func58, Tryd.ntmps58
  go_wp2_with fail
  refine HI.out.mono ?_
  rintro e w1 ⟨rfl, hb1⟩
  have hb01 : Below w.heap.size w w1 := bl_trans hb0 hb0.size hb1
  have bk : w1.heap[w.heap.size]? = some (.cells #[.string ⟨ek.toArray⟩, .int .i64 en, .string ⟨em.toArray⟩, .slice ad ks.length cap] 55 (0, 0)) := (hb1.block _ (by simp)).trans (heap_alloc_new _ _)
  have d0 : w1.cell? ⟨w.heap.size, 0, none⟩ = some (.string ⟨ek.toArray⟩) := cell_of_blk bk 0
  have d1 : w1.cell? ⟨w.heap.size, 1, none⟩ = some (.int .i64 en) := cell_of_blk bk 1
  have d2 : w1.cell? ⟨w.heap.size, 2, none⟩ = some (.string ⟨em.toArray⟩) := cell_of_blk bk 2
  have d3 : w1.cell? ⟨w.heap.size, 3, none⟩ = some (.slice ad ks.length cap) := cell_of_blk bk 3
  rw [htw]
  clear hb1 HI htw
  by_cases hk : ek = kTwo
  · rw [decide_eq_true hk]
    have hN : needsP (.mk ek en em ks) L = decide (signLevel em < L) := by have := HN.out; rw [if_pos hk] at this; exact this
    have hLe := HL.out (signLevel em) hlv
    clear hk HN HL
    go_wp2_with fail
    refine (slevel_any em _).mono ?_
    rintro e w2 ⟨rfl, rfl⟩
    by_cases hc : L ≤ signLevel em
    · have hc' : least ≤ (signLevel em : Int) := hLe.2 hc
      have HT := hidS (textK_no (hN.trans (decide_eq_false (by omega))))
      clear hN hLe
      go_wp2_with fail
      refine (HCL.out _ l (hb01.mono hB) (HW.out.keep hb01) (by omega)).mono ?_
      rintro e w2 ⟨rfl, hw2⟩
      go_wp2
      first | go_end0 | refine bodyPost_ret (v := .tuple #[]) (by simp [results, Tryd.results58, go_sem]) rfl ?_
      exact ⟨rfl, by rw [HT.out]; exact WTo.after hb01 hB hw2⟩
    · have hc' : ¬ least ≤ (signLevel em : Int) := fun h => hc (hLe.1 h)
      have ht := textK_yes (hN.trans (decide_eq_true (by omega)))
      rw [ht] at hl
      simp only [List.length_cons, List.length_append, List.length_nil] at hl
      have HT := hidS ht
      clear hN hLe ht
      go_wp2_with fail
      refine (HBY.out _ l 40 (HW.out.keep hb01) (by have := hb01.size; omega) (by omega)).mono ?_
      rintro e w2 ⟨rfl, hw2⟩
      have hz := hb01.size
      have hbne : w.heap.size ≠ b := fun e => by have := HW.out.lt.2; omega
      have bk2 := hw2.blk bk hbne (by decide)
      have f0 : w2.cell? ⟨w.heap.size, 0, none⟩ = some (.string ⟨ek.toArray⟩) := cell_of_blk bk2 0
      have f1 : w2.cell? ⟨w.heap.size, 1, none⟩ = some (.int .i64 en) := cell_of_blk bk2 1
      have f2 : w2.cell? ⟨w.heap.size, 2, none⟩ = some (.string ⟨em.toArray⟩) := cell_of_blk bk2 2
      have f3 : w2.cell? ⟨w.heap.size, 3, none⟩ = some (.slice ad ks.length cap) := cell_of_blk bk2 3
      have hw02 : WTo B b k (l ++ [40]) w w2 := WTo.after hb01 hB hw2
      clear d0 d1 d2 d3 bk bk2 hw2
      go_wp2_with fail
      refine (HCL.out _ (l ++ [40]) hw02.2.1 hw02.1 (by simp; omega)).mono ?_
      rintro e w3 ⟨rfl, hw3⟩
      have hw03 := hw02.trans hw3
      clear f0 f1 f2 f3 hw3 hw02
      go_wp2_with fail
      refine (HBY.out _ _ 41 hw03.1 (Nat.le_trans hB hw03.2.1.size) (by simp; omega)).mono ?_
      rintro e w4 ⟨rfl, hw4⟩
      have hw04 := hw03.trans hw4
      go_wp2
      first | go_end0 | refine bodyPost_ret (v := .tuple #[]) (by simp [results, Tryd.results58, go_sem]) rfl ?_
      refine ⟨rfl, ?_⟩
      rw [HT.out]
      simpa using hw04
  · rw [decide_eq_false hk]
    have hN : needsP (.mk ek en em ks) L = false := by have := HN.out; rw [if_neg hk] at this; exact this
    have HT := hidS (textK_no hN)
    go_wp2_with fail
    refine (HCL.out _ l (hb01.mono hB) (HW.out.keep hb01) (by omega)).mono ?_
    rintro e w2 ⟨rfl, hw2⟩
    go_wp2
    first | go_end0 | refine bodyPost_ret (v := .tuple #[]) (by simp [results, Tryd.results58, go_sem]) rfl ?_
    exact ⟨rfl, by rw [HT.out]; exact WTo.after hb01 hB hw2⟩
end Go.Proofs.YtcebpmaggnephabDoor
