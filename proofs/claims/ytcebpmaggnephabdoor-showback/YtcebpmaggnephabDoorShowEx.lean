/-
  Our own: package show: an expression as text.
-/
import Derived.Test.YtcebpmaggnephabDoorShowArgs
namespace Go.Proofs.YtcebpmaggnephabDoor
open Go.RowKit

theorem size_toArray (l : List UInt8) : (⟨l.toArray⟩ : ByteArray).size = l.length := by show l.toArray.size = _; simp
theorem textE_num (v : Nat) : textE (.mk kNumE v [] []) = digs v := by unfold textE; rw [itE_num]; simp [bytesI, It.bytes]
theorem textE_name (m : List UInt8) : textE (.mk kName 0 m []) = m := by unfold textE; rw [itE_name]; simp [bytesI, It.bytes]
theorem textE_call (m : List UInt8) (ks : List Ex) : textE (.mk kCall 0 m ks) = m ++ 40 :: (textA ks ++ [41]) := by unfold textE textA; rw [itE_call]; simp [bytesI, It.bytes, bytesI_append]
theorem textE_one (m : List UInt8) (e : Ex) : textE (.mk kOne 0 m [e]) = m ++ textK e 9 := by unfold textE textK; rw [itE_one]; simp [bytesI, It.bytes]
theorem textE_two (m : List UInt8) (x y : Ex) : textE (.mk kTwo 0 m [x, y]) = textK x (signLevel m) ++ (32 :: (m ++ [32]) ++ textK y (signLevel m + 1)) := by unfold textE textK; rw [itE_two]; simp [bytesI, It.bytes, bytesI_append]
set_option maxRecDepth 100000 in
set_option maxHeartbeats 1000000 in
theorem expr_num (v : Nat) (hv : v < 1000000000000000000) : ExOk (.mk kNumE v [] []) := by
  intro w a B b k l cs hW hG hB hr hl
  obtain ⟨vv, xs, rfl, ⟨ad, cap, rfl, _⟩, _⟩ := hr
  have hb0 := box_blkS w #[.string ⟨kNumE.toArray⟩, .int .i64 v, .string ⟨#[]⟩, .slice ad 0 cap] 55
  have hc := num_any v hv (hW.keep hb0) (hG.on (below_le hb0 hB)) (Nat.le_trans hB hb0.size) (by omega : l.length ≤ 1000000)
  have HC := hidS hc
  rw [textE_num]
  clear hc hW hG hl
  unfold kNumE at HC hb0 ⊢
  go_enter Tryd.func38, Tryd.ntmps38
  go_wp2_with fail
  refine HC.out.mono ?_
  rintro e w2 ⟨rfl, hw2⟩
  go_wp2
  go_end0
  exact ⟨rfl, WTo.after hb0 hB hw2⟩
set_option maxRecDepth 100000 in
set_option maxHeartbeats 1000000 in
theorem expr_name (m : List UInt8) (hm : nameG m) : ExOk (.mk kName 0 m []) := by
  intro w a B b k l cs hW hG hB hr hl
  obtain ⟨vv, xs, rfl, ⟨ad, cap, rfl, _⟩, _⟩ := hr
  rw [textE_name] at hl ⊢
  have hb0 := box_blkS w #[.string ⟨kName.toArray⟩, .int .i64 0, .string ⟨m.toArray⟩, .slice ad 0 cap] 55
  have hc : ∀ X, Below w.heap.size w X → Calls Tryd.prog 41 #[.pointer (some ⟨b, 0, none⟩), .string ⟨m.toArray⟩] X fun e w' => e = .returned (.tuple #[.int .i64 (⟨m.toArray⟩ : ByteArray).size, .nilIface]) ∧ WTo B b k (l ++ m) X w' := fun X hX => wwstr_any B b k l ⟨m.toArray⟩ X (hW.keep hX) (by omega) (by rw [size_toArray]; omega) (by simpa using hm.1) (Nat.le_trans hB hX.size)
  have HC := hidS hc
  clear hc hW hG hl
  unfold kName at hb0 ⊢
  go_enter Tryd.func38, Tryd.ntmps38
  go_wp2
  go_region_with (go_at_call 41; refine (HC.out _ (by (repeat (first | exact Below.refl _ _ | assumption | refine Below.drew ?_ | refine Below.trans ?_ (drewN_below' _ _ _) | refine Below.setCell ?_ (by first | (simp; done) | (simp; omega)) _ | refine Below.alloc ?_ (by first | (simp; done) | (simp; omega)) _)))).mono ?_; rintro e w2 ⟨rfl, hw2⟩)
  all_goals (go_wp2; go_end0; exact ⟨rfl, WTo.after (by (repeat (first | exact Below.refl _ _ | assumption | refine Below.drew ?_ | refine Below.trans ?_ (drewN_below' _ _ _) | refine Below.setCell ?_ (by first | (simp; done) | (simp; omega)) _ | refine Below.alloc ?_ (by first | (simp; done) | (simp; omega)) _))) hB hw2⟩)
set_option maxRecDepth 100000 in
set_option maxHeartbeats 1000000 in
theorem expr_call (m : List UInt8) (ks : List Ex) (hm : nameG m) (ih : ∀ e ∈ ks, ExOk e) : ExOk (.mk kCall 0 m ks) := by
  intro w a B b k l cs hW hG hB hr hl
  obtain ⟨vv, xs, rfl, hrow, hes⟩ := hr
  obtain ⟨ad, cap, rfl⟩ : ∃ ad cap, vv = .slice ad ks.length cap := by obtain ⟨ad, cap, h, _⟩ := hrow; exact ⟨ad, cap, h⟩
  rw [textE_call] at hl ⊢
  simp only [List.length_append, List.length_cons, List.length_nil] at hl
  have hb0 := box_blkS w #[.string ⟨kCall.toArray⟩, .int .i64 0, .string ⟨m.toArray⟩, .slice ad ks.length cap] 55
  have hc : ∀ X, Below w.heap.size w X → Calls Tryd.prog 41 #[.pointer (some ⟨b, 0, none⟩), .string ⟨m.toArray⟩] X fun e w' => e = .returned (.tuple #[.int .i64 (⟨m.toArray⟩ : ByteArray).size, .nilIface]) ∧ WTo B b k (l ++ m) X w' := fun X hX => wwstr_any B b k l ⟨m.toArray⟩ X (hW.keep hX) (by omega) (by rw [size_toArray]; omega) (by simpa using hm.1) (Nat.le_trans hB hX.size)
  have hkl : ks.length ≤ 1000000 := by
    have : ∀ q, q ≤ ks.length → q ≤ (textA (ks.take q)).length + 1 := by
      intro q
      induction q with
      | zero => intro _; omega
      | succ q ihq =>
        intro hq
        have h1 := ihq (by omega)
        rw [textA_step ks q (by omega)]
        simp only [List.length_append]
        unfold gapA
        by_cases h0 : q = 0
        · subst h0; omega
        · rw [if_neg h0]; simp; omega
    have h2 := this ks.length (Nat.le_refl _)
    rw [List.take_length] at h2
    omega
  have ha : ∀ X l', Below B w X → Wr B b k l' X → l'.length + (textA ks).length + 2 ≤ 1000000 → Calls Tryd.prog 56 #[.pointer (some ⟨b, 0, none⟩), .slice ad ks.length cap] X fun ev w' => ev = .returned (.tuple #[]) ∧ WTo B b k (l' ++ 40 :: (textA ks ++ [41])) X w' := fun X l' hX hWX hl' =>
    args_any ih hWX (hG.on hX) (Nat.le_trans hB hX.size) (hrow.imp (fun _ h => h) (fun b hb => hX.block b hb)) (RepEs.imp (fun _ h => h) (fun b hb => hX.block b hb) _ _ hes) hl' hkl
  have hbne : w.heap.size ≠ b := fun e => by have := hW.lt.2; omega
  have HC := hidS hc
  have HA := hidS ha
  have HL := hidS hl
  clear hc hW hG hl ha hrow hes ih
  unfold kCall at hb0 ⊢
  go_enter Tryd.func38, Tryd.ntmps38
  go_wp2
  go_region_with (go_at_call 41; refine (HC.out _ (by (repeat (first | exact Below.refl _ _ | assumption | refine Below.drew ?_ | refine Below.trans ?_ (drewN_below' _ _ _) | refine Below.setCell ?_ (by first | (simp; done) | (simp; omega)) _ | refine Below.alloc ?_ (by first | (simp; done) | (simp; omega)) _)))).mono ?_; rintro e w2 ⟨rfl, hw2⟩)
  all_goals (
    have bk2 := hw2.blk (g := w.heap.size) (t := 55) (heap_alloc_new _ _) hbne (by decide)
    have f3 : w2.cell? ⟨w.heap.size, 3, none⟩ = some (.slice ad ks.length cap) := cell_of_blk bk2 3
    have HW2 := hidS (WTo.after (w := w) (by (repeat (first | exact Below.refl _ _ | assumption | refine Below.drew ?_ | refine Below.trans ?_ (drewN_below' _ _ _) | refine Below.setCell ?_ (by first | (simp; done) | (simp; omega)) _ | refine Below.alloc ?_ (by first | (simp; done) | (simp; omega)) _))) hB hw2)
    clear hw2 bk2
    go_wp2_with fail
    refine (HA.out _ (l ++ m) HW2.out.2.1 HW2.out.1 (by have := HL.out; simp only [List.length_append]; omega)).mono ?_
    rintro e w3 ⟨rfl, hw3⟩
    have HF := hidS (HW2.out.trans hw3)
    clear hw3 f3
    go_wp2
    go_end0
    exact ⟨rfl, by simpa using HF.out⟩)
end Go.Proofs.YtcebpmaggnephabDoor
