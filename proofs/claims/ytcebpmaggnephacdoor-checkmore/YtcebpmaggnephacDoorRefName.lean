/-
  Our own: IsName of the document's own model: is a text a name?
-/
import Derived.Test.YtcebpmaggnephacDoorLexRef
import Derived.Test.YtcebpmaggnephacDoorCheckName
namespace Go.Proofs.YtcebpmaggnephacDoor
open Go.RowKit

theorem hidI {p : Prop} (h : p) : Hid p := h
theorem span_all (p : UInt8 → Bool) : ∀ l : List UInt8, (∀ c ∈ l, p c = true) → spanN p l = l.length
  | [], _ => rfl
  | c :: l, h => by rw [spanN_cons, if_pos (h c (by simp)), span_all p l (fun d hd => h d (by simp [hd]))]; rfl
theorem name_true {s : List UInt8} (h0 : s ≠ []) (h8 : s.length ≤ 8) (hall : ∀ i (h : i < s.length), isL s[i] = true ∨ (isD s[i] = true ∧ i ≠ 0)) (hw : s ∉ wordsL) : nameB s = true := by
  rw [nameB_iff]
  refine ⟨h0, ?_⟩
  have hsp : spanN isLD s = s.length := span_all _ _ fun c hc => by
    obtain ⟨i, hi, rfl⟩ := List.getElem_of_mem hc
    unfold isLD
    rcases hall i hi with h | h
    · simp [h]
    · simp [h.1]
  match s, h0 with
  | c :: r, _ =>
    have hc : isL c = true := by
      rcases hall 0 (by simp) with h | h
      · simpa using h
      · exact absurd rfl h.2
    rw [firstOf, if_pos hc, nameOf, hsp, if_neg (by omega), if_neg]
    rw [List.take_length]
    simpa using hw
theorem name_props {s : List UInt8} (h : nameB s = true) : s ≠ [] ∧ s.length ≤ 8 ∧ (∀ i (h : i < s.length), isL s[i] = true ∨ (isD s[i] = true ∧ i ≠ 0)) ∧ s ∉ wordsL := by
  rw [nameB_iff] at h
  obtain ⟨h0, h1⟩ := h
  match s, h0 with
  | c :: r, h0 =>
    have hc := kind_name (c := c) (r := r) (by rw [h1])
    rw [firstOf, if_pos hc, nameOf] at h1
    split at h1
    · simp [kName] at h1
    · next h8 =>
      split at h1
      · simp [kName, kWord] at h1
      · next hw =>
        have hsp : spanN isLD (c :: r) = (c :: r).length := by simpa using h1
        refine ⟨h0, by omega, fun i hi => ?_, ?_⟩
        · have := spanN_at isLD (c :: r) i hi (by omega)
          unfold isLD at this
          rw [Bool.or_eq_true] at this
          rcases this with h | h
          · exact Or.inl h
          · by_cases hi0 : i = 0
            · subst hi0; exact Or.inl (by simpa using hc)
            · exact Or.inr ⟨h, hi0⟩
        · intro hm
          apply hw
          rw [hsp, List.take_length]
          simpa using hm
theorem name_false {s : List UInt8} (h : ¬ (s ≠ [] ∧ s.length ≤ 8 ∧ (∀ i (h : i < s.length), isL s[i] = true ∨ (isD s[i] = true ∧ i ≠ 0)) ∧ s ∉ wordsL)) : nameB s = false := by
  cases hb : nameB s with
  | false => rfl
  | true => exact absurd (name_props hb) h
theorem name_step {t : ByteArray} {q : Nat} (h : ∀ i (h : i < t.size), i < q → isL t[i] = true ∨ (isD t[i] = true ∧ i ≠ 0)) (hq : q < t.size) (hg : isL t[q] = true ∨ (isD t[q] = true ∧ q ≠ 0)) : Hid (∀ i (h : i < t.size), i < q + 1 → isL t[i] = true ∨ (isD t[i] = true ∧ i ≠ 0)) := by
  intro i hi hlt
  rcases Nat.lt_or_ge i q with h1 | h1
  · exact h i hi h1
  · have : i = q := by omega
    subst this
    exact hg
theorem name_bad {t : ByteArray} {q : Nat} (hq : q < t.size) (hg : ¬ (isL t[q] = true ∨ (isD t[q] = true ∧ q ≠ 0))) : nameB t.data.toList = false :=
  name_false fun h => hg (h.2.2.1 q hq)
theorem rname_word {t : ByteArray} (h0 : ¬ t.size = 0) (h8 : ¬ 8 < t.size) (h : ∀ i (h : i < t.size), i < t.size → isL t[i] = true ∨ (isD t[i] = true ∧ i ≠ 0)) : nameB t.data.toList = !inL wordsL t.data.toList := by
  cases hw : inL wordsL t.data.toList with
  | true => exact name_false fun h => h.2.2.2 ((inL_iff _ _).1 hw)
  | false =>
    refine name_true (fun e => h0 ?_) (by rw [data_len]; omega) (fun i hi => h i hi hi) fun hm => ?_
    · rw [← data_len, e]; rfl
    · rw [(inL_iff _ _).2 hm] at hw; cases hw
theorem isWord_t (t : ByteArray) (w : World) : Calls Tryd.prog 28 #[.string t] w fun e w' => e = .returned (.bool (inL wordsL t.data.toList)) ∧ Below w.heap.size w w' := by
  have := isWord_any t.data.toList w
  have e : (⟨t.data.toList.toArray⟩ : ByteArray) = t := by cases t; rfl
  rw [e] at this
  exact this.mono fun _ _ h => ⟨h.1, by rw [h.2]; exact (Below.refl _ _).alloc (Nat.le_refl _) _⟩
set_option maxRecDepth 100000 in
set_option maxHeartbeats 2000000 in
theorem rIsName_any (t : ByteArray) (ht : t.size ≤ 9223372036854775807) (w : World) :
    Calls Tryd.prog 11 #[.string t] w fun e w' => e = .returned (.bool (nameB t.data.toList)) ∧ Below w.heap.size w w' := by
  have hsz : t.data.toList.length = t.size := data_len t
  have hti : (t.size : Int) ≤ 9223372036854775807 := by omega
  by_cases c0 : t.size = 0
  · have hf : nameB t.data.toList = false := name_false fun h => h.1 (List.eq_nil_of_length_eq_zero (by omega))
    rw [hf]
    have c0' : (t.size : Int) < 1 := by omega
    clear hf hsz c0
    go_enter Tryd.func11, Tryd.ntmps11
    go_wp2
    go_ret
    exact ⟨rfl, by (repeat (first | exact Below.refl _ _ | assumption | refine Below.drew ?_ | refine Below.trans ?_ (drewN_below' _ _ _) | refine Below.setCell ?_ (by first | (simp; done) | (simp; omega)) _ | refine Below.alloc ?_ (by first | (simp; done) | (simp; omega)) _))⟩
  · have c0' : ¬ (t.size : Int) < 1 := by omega
    by_cases c8 : 8 < t.size
    · have hf : nameB t.data.toList = false := name_false fun h => by omega
      rw [hf]
      have c8' : (8 : Int) < t.size := by omega
      clear hf hsz
      go_enter Tryd.func11, Tryd.ntmps11
      go_wp2
      go_ret
      exact ⟨rfl, by (repeat (first | exact Below.refl _ _ | assumption | refine Below.drew ?_ | refine Below.trans ?_ (drewN_below' _ _ _) | refine Below.setCell ?_ (by first | (simp; done) | (simp; omega)) _ | refine Below.alloc ?_ (by first | (simp; done) | (simp; omega)) _))⟩
    · have c8' : ¬ (8 : Int) < t.size := by omega
      have hat : ∀ i (h : i < t.size), t.data.toList[i]'h = t[i] := fun i h => rfl
      generalize hnb : nameB t.data.toList = nb
      have HNB := hidI hnb
      have HAT := hidI hat
      have HSZ := hidI hsz
      clear hnb hat hsz
      go_enter Tryd.func11, Tryd.ntmps11
      go_wp2_with fail
      go_loop [3] (fun vi => ∃ q : Nat, q ≤ t.size ∧ vi = .int .i64 q ∧ Hid (∀ i (h : i < t.size), i < q → isL t[i] = true ∨ (isD t[i] = true ∧ i ≠ 0))) (fun vi => t.size - (intOf vi).toNat)
      case atStart => exact ⟨0, Nat.zero_le _, rfl, fun i _ h => absurd h (by omega)⟩
      case round =>
        obtain ⟨q, hq, rfl, HQ⟩ := hrel
        by_cases hlt : q < t.size
        · have hlt' : (q : Int) < t.size := by omega
          cases hL : isL t[q] with
          | true =>
            have HQ2 := name_step HQ.out hlt (Or.inl hL)
            go_wp2_with (first | (go_at_call 26; refine (rletter_any _ _).mono ?_; rintro e w' ⟨rfl, hh⟩; replace hh := hh.symm; subst hh) | (go_at_call 27; refine (rdigit_any _ _).mono ?_; rintro e w' ⟨rfl, hh⟩; replace hh := hh.symm; subst hh))
            refine ⟨⟨q + 1, by omega, by go_num, HQ2⟩, by simp [intOf]; omega⟩
          | false =>
            cases hD : isD t[q] with
            | false =>
              have hb := name_bad hlt (by rw [hL, hD]; simp)
              rw [HNB.out] at hb
              subst hb
              go_wp2_with (first | (go_at_call 26; refine (rletter_any _ _).mono ?_; rintro e w' ⟨rfl, hh⟩; replace hh := hh.symm; subst hh) | (go_at_call 27; refine (rdigit_any _ _).mono ?_; rintro e w' ⟨rfl, hh⟩; replace hh := hh.symm; subst hh))
              go_ret
              exact ⟨rfl, by (repeat (first | exact Below.refl _ _ | assumption | refine Below.drew ?_ | refine Below.trans ?_ (drewN_below' _ _ _) | refine Below.setCell ?_ (by first | (simp; done) | (simp; omega)) _ | refine Below.alloc ?_ (by first | (simp; done) | (simp; omega)) _))⟩
            | true =>
              by_cases hq0 : q = 0
              · have hb := name_bad hlt (by rw [hL]; simp [hq0])
                rw [HNB.out] at hb
                subst hb
                subst hq0
                clear HQ hq
                go_wp2_with (first | (go_at_call 26; refine (rletter_any _ _).mono ?_; rintro e w' ⟨rfl, hh⟩; replace hh := hh.symm; subst hh) | (go_at_call 27; refine (rdigit_any _ _).mono ?_; rintro e w' ⟨rfl, hh⟩; replace hh := hh.symm; subst hh))
                go_ret
                exact ⟨rfl, by (repeat (first | exact Below.refl _ _ | assumption | refine Below.drew ?_ | refine Below.trans ?_ (drewN_below' _ _ _) | refine Below.setCell ?_ (by first | (simp; done) | (simp; omega)) _ | refine Below.alloc ?_ (by first | (simp; done) | (simp; omega)) _))⟩
              · have HQ2 := name_step HQ.out hlt (Or.inr ⟨hD, hq0⟩)
                have hq0' : ¬ (q : Int) = 0 := by omega
                go_wp2_with (first | (go_at_call 26; refine (rletter_any _ _).mono ?_; rintro e w' ⟨rfl, hh⟩; replace hh := hh.symm; subst hh) | (go_at_call 27; refine (rdigit_any _ _).mono ?_; rintro e w' ⟨rfl, hh⟩; replace hh := hh.symm; subst hh))
                refine ⟨⟨q + 1, by omega, by go_num, HQ2⟩, by simp [intOf]; omega⟩
        · have hqe : q = t.size := by omega
          subst hqe
          have hnw := rname_word c0 c8 HQ.out
          rw [HNB.out] at hnw
          generalize hiw : inL wordsL t.data.toList = iw at hnw
          have hwc := isWord_t t w
          rw [hiw] at hwc
          have HWC := hidI hwc
          subst hnw
          clear hwc hiw HNB
          go_wp2_with fail
          refine HWC.out.mono ?_
          rintro e w2 ⟨rfl, hb2⟩
          go_wp2
          go_ret
          exact ⟨rfl, hb2⟩
end Go.Proofs.YtcebpmaggnephacDoor
