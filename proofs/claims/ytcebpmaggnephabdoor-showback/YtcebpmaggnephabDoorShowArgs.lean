/-
  Our own: package show: a call's arguments.
-/
import Derived.Test.YtcebpmaggnephabDoorShowKid
namespace Go.Proofs.YtcebpmaggnephabDoor
open Go.RowKit

theorem repEs_at {A : Nat → Prop} {w : World} : ∀ {es : List Ex} {xs : List Value} {q : Nat} (_ : RepEs A w es xs) (hq : q < es.length), ∃ ca, RepE A w es[q] ca ∧ ∀ i u, ca[i]? = some u → xs[q * 4 + i]? = some u
  | [], xs, q, h, hq => absurd hq (by simp)
  | e :: r, xs, 0, h, hq => by
    obtain ⟨cs, ys, rfl, he, hr⟩ := h
    refine ⟨cs, he, fun i u hu => ?_⟩
    have hlt : i < cs.length := by
      rcases Nat.lt_or_ge i cs.length with h | h
      · exact h
      · rw [List.getElem?_eq_none h] at hu; cases hu
    rw [Nat.zero_mul, Nat.zero_add, List.getElem?_append_left hlt]; exact hu
  | e :: r, xs, q + 1, h, hq => by
    obtain ⟨cs, ys, rfl, he, hr⟩ := h
    obtain ⟨ca, h1, h2⟩ := repEs_at (q := q) hr (by simpa using hq)
    refine ⟨ca, h1, fun i u hu => ?_⟩
    rw [List.getElem?_append_right (by rw [he.len]; omega), he.len, show (q + 1) * 4 + i - 4 = q * 4 + i by omega]
    exact h2 i u hu
theorem itL_append (a b : List Ex) : itL (a ++ b) = itL a ++ itL b := by
  induction a with
  | nil => rfl
  | cons x r ih => rw [List.cons_append, itL, itL, ih, List.cons_append]
theorem commasI_snoc : ∀ (L : List (List It)) (x : List It), L ≠ [] → commasI (L ++ [x]) = commasI L ++ sg [44] :: sp :: x
  | [], _, h => absurd rfl h
  | [y], x, _ => rfl
  | y :: z :: r, x, _ => by
    show commasI (y :: z :: (r ++ [x])) = _
    rw [commasI, show z :: (r ++ [x]) = (z :: r) ++ [x] from rfl, commasI_snoc (z :: r) x (by simp), commasI]
    simp
def textA (l : List Ex) : List UInt8 := bytesI (commasI (itL l))
def gapA (q : Nat) : List UInt8 := if q = 0 then [] else [44, 32]
theorem textA_step (ks : List Ex) (q : Nat) (h : q < ks.length) : textA (ks.take (q + 1)) = textA (ks.take q) ++ (gapA q ++ textE ks[q]) := by
  unfold textA textE gapA
  rw [List.take_succ_eq_append_getElem h, itL_append]
  by_cases h0 : q = 0
  · subst h0
    simp [itL, commasI, bytesI]
  · rw [if_neg h0]
    have hne : itL (ks.take q) ≠ [] := by
      cases hk : ks.take q with
      | nil => have : (ks.take q).length = 0 := by rw [hk]; rfl
               rw [List.length_take] at this; omega
      | cons x r => simp [itL]
    show bytesI (commasI (itL (ks.take q) ++ [itE ks[q]])) = _
    rw [commasI_snoc _ _ hne, bytesI_append]
    rfl
theorem textA_le (ks : List Ex) : ∀ (n q : Nat), q + n = ks.length → (textA (ks.take q)).length ≤ (textA ks).length
  | 0, q, h => by rw [show q = ks.length by omega, List.take_length]; exact Nat.le_refl _
  | n + 1, q, h => by
    have := textA_le ks n (q + 1) (by omega)
    rw [textA_step ks q (by omega), List.length_append] at this
    omega
set_option maxRecDepth 100000 in
set_option maxHeartbeats 1000000 in
theorem args_any {ks : List Ex} (ih : ∀ e ∈ ks, ExOk e) {w : World} {a : Nat → Addr} {B b : Nat} {k : Int} {l : List UInt8} {v : Value} {xs : List Value} (hW : Wr B b k l w) (hG : ShG B w a) (hB : B ≤ w.heap.size) (hrow : Row (fun b => b < B) w v ks.length xs) (hes : RepEs (fun b => b < B) w ks xs) (hl : l.length + (textA ks).length + 2 ≤ 1000000) (hk8 : ks.length ≤ 1000000) :
    Calls Tryd.prog 56 #[.pointer (some ⟨b, 0, none⟩), v] w fun ev w' => ev = .returned (.tuple #[]) ∧ WTo B b k (l ++ 40 :: (textA ks ++ [41])) w w' := by
  obtain ⟨ad, cap, rfl, hx⟩ := hrow
  have hby := wwbyte_any B b k l 40 w hW (by omega) hB
  have HX := hidS hx
  have HE := hidS hes
  have HBY := hidS hby
  have HW := hidS hW
  have HG := hidS hG
  have IH := hidS ih
  clear hx hes hby hW hG ih
  go_enter Tryd.func56, Tryd.ntmps56
  go_wp2_with fail
  refine HBY.out.mono ?_
  rintro e w1 ⟨rfl, hw1⟩
  have HW1 := hidS hw1
  have z1 := hw1.2.1.size
  clear hw1 HBY
  go_wp2_with fail
  go_loopw [12] (fun vi wr => ∃ q : Nat, q ≤ ks.length ∧ vi = .int .i64 q ∧ w.heap.size ≤ wr.heap.size ∧ Hid (WTo B b k (l ++ 40 :: textA (ks.take q)) w wr)) (fun vi _ => ks.length - (intOf vi).toNat)
  case atStart => exact ⟨0, Nat.zero_le _, rfl, z1, by have := HW1.out; unfold Hid; simpa [textA, itL, commasI, bytesI] using this⟩
  case round =>
    obtain ⟨q, hq, rfl, hz, HQ⟩ := hrel
    clear HW1
    by_cases hlt : q < ks.length
    · have hlt' : (q : Int) < (ks.length : Int) := by omega
      obtain ⟨ca, e1, e2⟩ := repEs_at HE.out hlt
      obtain ⟨g, rfl, ⟨hg, _⟩, hc⟩ := HX.out (by omega)
      have hgw : g < w.heap.size := by omega
      have hbl := HQ.out.2.1
      have hst := textA_step ks q hlt
      have hle := textA_le ks (ks.length - (q + 1)) (q + 1) (by omega)
      rw [hst] at hle
      simp only [List.length_append] at hle
      have hex := IH.out _ (List.getElem_mem hlt)
      generalize ks[q] = x at e1 hst hle hex
      obtain ⟨xk, xn, xm, xks⟩ := x
      obtain ⟨ya, za, rfl, ra, rb⟩ := e1
      obtain ⟨ad1, cap1, rfl, hra⟩ := ra
      have a0 := (hbl.cell (p := ⟨g, _, none⟩) hg).trans (hc _ _ (e2 0 _ rfl))
      have a1 := (hbl.cell (p := ⟨g, _, none⟩) hg).trans (hc _ _ (e2 1 _ rfl))
      have a2 := (hbl.cell (p := ⟨g, _, none⟩) hg).trans (hc _ _ (e2 2 _ rfl))
      have a3 := (hbl.cell (p := ⟨g, _, none⟩) hg).trans (hc _ _ (e2 3 _ rfl))
      rw [Nat.add_zero] at a0
      have hrep : RepE (fun b => b < B) w (.mk xk xn xm xks) [.string ⟨xk.toArray⟩, .int .i64 xn, .string ⟨xm.toArray⟩, .slice ad1 xks.length cap1] := ⟨_, za, rfl, ⟨ad1, cap1, rfl, hra⟩, rb⟩
      have hcall : ∀ X l', Below B w X → Wr B b k l' X → l'.length + (textE (.mk xk xn xm xks)).length ≤ 1000000 → Calls Tryd.prog 38 #[.pointer (some ⟨b, 0, none⟩), .agg #[.string ⟨xk.toArray⟩, .int .i64 xn, .string ⟨xm.toArray⟩, .slice ad1 xks.length cap1]] X fun ev w' => ev = .returned (.tuple #[]) ∧ WTo B b k (l' ++ textE (.mk xk xn xm xks)) X w' := fun X l' hX hWX hl' =>
        hex X a B b k l' _ hWX (HG.out.on hX) (Nat.le_trans hB hX.size) (repE_keep hrep hX) hl'
      have HCL := hidS hcall
      have HST := hidS hst
      have hbx := box_blkS wr #[.string ⟨xk.toArray⟩, .int .i64 xn, .string ⟨xm.toArray⟩, .slice ad1 xks.length cap1] 55
      have hWX := HQ.out.keep (by omega) hbx
      have HWX := hidS hWX
      have hbne : wr.heap.size ≠ b := fun e => by have := HW.out.lt.2; omega
      clear hra rb hrep hcall hex hst e2 hc hbl hWX hbx
      by_cases h0 : q = 0
      · subst h0
        go_wp2_with fail
        refine (HCL.out _ _ HWX.out.2.1 HWX.out.1 (by simp only [List.length_append, List.length_cons]; omega)).mono ?_
        rintro e w3 ⟨rfl, hw3⟩
        have HF := hidS (HWX.out.trans hw3)
        have z3 := hw3.2.1.size
        simp at z3
        clear hw3 a0 a1 a2 a3
        go_wp2
        go_roundw
        case rel => exact ⟨1, by omega, by go_num, by omega, by have := HF.out; unfold Hid; rw [HST.out]; simpa [gapA] using this⟩
        case measure => simp [intOf]; omega
      · have h0' : (0 : Int) < (q : Int) := by omega
        have hs := wwstr_any B b k (l ++ 40 :: textA (ks.take q)) ⟨#[44, 32]⟩ _ HWX.out.1 (by simp; omega) (by decide) (by simp) (Nat.le_trans hB HWX.out.2.1.size)
        have HS := hidS hs
        clear hs
        go_wp2_with fail
        refine HS.out.mono ?_
        rintro e w2 ⟨rfl, hw2⟩
        have bk2 := hw2.blk (heap_alloc_new _ _) hbne (by decide)
        have f0 : w2.cell? ⟨wr.heap.size, 0, none⟩ = some (.string ⟨xk.toArray⟩) := cell_of_blk bk2 0
        have f1 : w2.cell? ⟨wr.heap.size, 1, none⟩ = some (.int .i64 xn) := cell_of_blk bk2 1
        have f2 : w2.cell? ⟨wr.heap.size, 2, none⟩ = some (.string ⟨xm.toArray⟩) := cell_of_blk bk2 2
        have f3 : w2.cell? ⟨wr.heap.size, 3, none⟩ = some (.slice ad1 xks.length cap1) := cell_of_blk bk2 3
        have HW2 := hidS (HWX.out.trans hw2)
        have z2 := hw2.2.1.size
        simp at z2
        clear hw2 bk2 a0 a1 a2 a3
        go_wp2_with fail
        refine (HCL.out _ _ HW2.out.2.1 HW2.out.1 (by simp [gapA, h0] at hle ⊢; omega)).mono ?_
        rintro e w3 ⟨rfl, hw3⟩
        have HF := hidS (HW2.out.trans hw3)
        have z3 := hw3.2.1.size
        clear hw3 f0 f1 f2 f3
        go_wp2
        go_roundw
        case rel => exact ⟨q + 1, by omega, by go_num, by omega, by have := HF.out; unfold Hid; rw [HST.out]; simpa [gapA, h0] using this⟩
        case measure => simp [intOf]; omega
    · have hqn : q = ks.length := by omega
      subst hqn
      rw [List.take_length] at HQ
      have hs := wwbyte_any B b k (l ++ 40 :: textA ks) 41 _ HQ.out.1 (by simp; omega) (Nat.le_trans hB HQ.out.2.1.size)
      have HS := hidS hs
      clear hs
      go_wp2_with fail
      refine HS.out.mono ?_
      rintro e w2 ⟨rfl, hw2⟩
      have HF := hidS (HQ.out.trans hw2)
      clear hw2
      go_wp2
      go_end0
      exact ⟨rfl, by simpa using HF.out⟩
end Go.Proofs.YtcebpmaggnephabDoor
