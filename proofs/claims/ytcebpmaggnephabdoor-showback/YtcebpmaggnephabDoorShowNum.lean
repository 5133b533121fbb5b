/-
  Our own: package show: numbers as text.
-/
import Derived.Test.YtcebpmaggnephabDoorShowIs
namespace Go.Proofs.YtcebpmaggnephabDoor
open Go.RowKit

theorem dec_digs : ∀ (f n : Nat), n < 10 ^ f → 0 < f → Lib.decDigits n = digsF f n
  | 0, _, _, h => absurd h (by omega)
  | f + 1, n, h, _ => by
    rw [Lib.decDigits]
    by_cases h1 : n < 10
    · rw [dif_pos h1]
      exact (if_pos h1).symm
    · have hf : 0 < f := by
        rcases Nat.eq_zero_or_pos f with h0 | h0
        · subst h0; simp at h; omega
        · exact h0
      rw [dif_neg h1, dec_digs f (n / 10) (by rw [Nat.pow_succ] at h; omega) hf]
      exact (if_neg h1).symm
theorem itoa_digs (v : Nat) (h : v < 1000000000000000000) : Lib.itoa v = digs v := by
  unfold Lib.itoa digs
  rw [if_neg (by omega), Int.toNat_natCast]
  exact dec_digs 20 v (by omega) (by omega)
theorem digs_len (v : Nat) : (digs v).length ≤ 20 := by
  have : ∀ (f n : Nat), (digsF f n).length ≤ f := by
    intro f
    induction f with
    | zero => intro n; simp [digsF]
    | succ f ih =>
      intro n
      rw [digsF]
      split
      · simp
      · have := ih (n / 10); simp; omega
  exact this 20 v
theorem itoa_any {B : Nat} {w : World} {a : Nat → Addr} (hG : ShG B w a) (v : Nat) (h : v < 1000000000000000000) :
    Calls Tryd.prog 72 #[.int .i64 v] w fun e w' => e = .returned (.string ⟨(digs v).toArray⟩) ∧ Below w.heap.size w w' := by
  refine (sh_strconv_Itoa v (by omega) (by omega) w hG.tab.here).mono ?_
  rintro e w' ⟨rfl, k, os, rfl⟩
  refine ⟨by rw [itoa_digs v h], ?_⟩
  exact Lib.below_grow _ _ (Nat.le_refl _) _ _
set_option maxRecDepth 100000 in
theorem num_any {B b : Nat} {k : Int} {l : List UInt8} {w : World} {a : Nat → Addr} (v : Nat) (hv : v < 1000000000000000000) (hW : Wr B b k l w) (hG : ShG B w a) (hB : B ≤ w.heap.size) (hl : l.length ≤ 1000000) :
    Calls Tryd.prog 55 #[.pointer (some ⟨b, 0, none⟩), .int .i64 v] w fun e w' => e = .returned (.tuple #[]) ∧ WTo B b k (l ++ digs v) w w' := by
  have e1 : ((v : Int) == -9223372036854775808) = false := by simp
  have e2 : ¬ ((v : Int) < 0) := by omega
  have h20 := digs_len v
  have hne : (⟨(digs v).toArray⟩ : ByteArray).data.toList ≠ [] := by
    obtain ⟨c, q, hd, _⟩ := digs_head v
    rw [hd]; simp
  have hsz : (⟨(digs v).toArray⟩ : ByteArray).size ≤ 1000000 := by show (digs v).toArray.size ≤ _; simp; omega
  have hI : ∀ X, Below B w X → Calls Tryd.prog 72 #[.int .i64 v] X fun e w' => e = .returned (.string ⟨(digs v).toArray⟩) ∧ Below X.heap.size X w' := fun X hX => itoa_any (hG.on hX) v hv
  have hS : ∀ X, Wr B b k l X → B ≤ X.heap.size → Calls Tryd.prog 41 #[.pointer (some ⟨b, 0, none⟩), .string ⟨(digs v).toArray⟩] X fun e w' => e = .returned (.tuple #[.int .i64 (⟨(digs v).toArray⟩ : ByteArray).size, .nilIface]) ∧ WTo B b k (l ++ digs v) X w' := fun X hX hB => wwstr_any B b k l _ X hX hl hsz hne hB
  have HI := hidS hI
  have HS := hidS hS
  have HW := hidS hW
  clear hI hS hW hG hne hsz
  generalize hdg : (⟨(digs v).toArray⟩ : ByteArray) = dg at HI HS
  generalize (digs v) = dl at HS ⊢
  clear hdg h20
  go_enter Tryd.func55, Tryd.ntmps55
  go_wp2
  go_region_with (first
    | (go_at_call 72; refine (HI.out _ (by (repeat (first | exact Below.refl _ _ | assumption | refine Below.drew ?_ | refine Below.trans ?_ (drewN_below' _ _ _) | refine Below.setCell ?_ (by first | (simp; done) | (simp; omega)) _ | refine Below.alloc ?_ (by first | (simp; done) | (simp; omega)) _)))).mono ?_; rintro e w2 ⟨rfl, hb2⟩)
    | (go_at_call 41; refine (HS.out _ (HW.out.keep ((Below.refl _ _).drew.trans hb2)) (Nat.le_trans hB hb2.size)).mono ?_; rintro e w3 ⟨rfl, hb3⟩))
  all_goals (go_wp2; go_end0; exact ⟨rfl, WTo.after ((Below.refl _ _).drew.trans hb2) hB hb3⟩)
end Go.Proofs.YtcebpmaggnephabDoor
