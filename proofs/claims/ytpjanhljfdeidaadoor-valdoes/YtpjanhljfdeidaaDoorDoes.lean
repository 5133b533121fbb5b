/-
  Our own: the walk of ValDoes: for any text and any two ints it answers true.
-/
import Derived.Test.YtpjanhljfdeidaaDoorRef
import Derived.Test.YtpjanhljfdeidaaDoorNames
namespace Go.Proofs.YtpjanhljfdeidaaDoor
open Go.RowKit

theorem first_at (f : Nat → ByteArray) (s : ByteArray) : ∀ n : Nat, ∃ k, k ≤ n ∧ (∀ i, i < k → f i ≠ s) ∧ (k < n → f k = s)
  | 0 => ⟨0, Nat.le_refl _, fun i h => absurd h (by omega), fun h => absurd h (by omega)⟩
  | n + 1 => by
    obtain ⟨k, h1, h2, h3⟩ := first_at f s n
    by_cases hk : k < n
    · exact ⟨k, by omega, h2, fun _ => h3 hk⟩
    · have hkn : k = n := by omega
      subst hkn
      by_cases e : f k = s
      · exact ⟨k, by omega, h2, fun _ => e⟩
      · refine ⟨k + 1, Nat.le_refl _, fun i hi => ?_, fun h => absurd h (by omega)⟩
        by_cases hik : i < k
        · exact h2 i hik
        · have : i = k := by omega
          rw [this]; exact e
/-- Is a text one of these? -/
def inB (l : List ByteArray) (s : ByteArray) : Bool := l.any fun x => x.toList == s.toList
theorem bytes_eq {s t : ByteArray} (h : s.toList = t.toList) : s = t := by
  cases s; cases t
  rw [byteArray_toList, byteArray_toList] at h
  congr 1
  exact Array.toList_inj.1 h
theorem inB_iff (l : List ByteArray) (s : ByteArray) : inB l s = true ↔ s ∈ l := by
  unfold inB
  rw [List.any_eq_true]
  constructor
  · rintro ⟨x, hx, e⟩
    have := bytes_eq (beq_iff_eq.1 e)
    exact this ▸ hx
  · intro h
    exact ⟨s, h, by simp⟩
/-- IsIn at a list of texts. -/
theorem isIn_any (l : List ByteArray) (s : ByteArray) (b o c : Nat) (hn : l.length ≤ 1000000) (w : World) (hc : ∀ i, i < l.length → w.cell? ⟨b, o + i, none⟩ = some (.string (l.getD i ByteArray.empty))) :
    Calls Tryd.prog 22 #[.string s, .slice (some ⟨b, o, none⟩) l.length c] w fun e w' => e = .returned (.bool (inB l s)) ∧ w' = w := by
  obtain ⟨k, h1, h2, h3⟩ := first_at (fun i => l.getD i ByteArray.empty) s l.length
  have e : inB l s = decide (k < l.length) := by
    rw [Bool.eq_iff_iff, inB_iff, decide_eq_true_iff]
    constructor
    · intro hm
      obtain ⟨i, hi, e⟩ := List.mem_iff_getElem.1 hm
      rcases Nat.lt_or_ge k l.length with h | h
      · exact h
      · exfalso
        apply h2 i (by omega)
        show l.getD i ByteArray.empty = s
        rw [List.getD_eq_getElem?_getD, List.getElem?_eq_getElem hi]
        exact e
    · intro h
      have := h3 h
      rw [← this]
      show l.getD k ByteArray.empty ∈ l
      rw [List.getD_eq_getElem?_getD, List.getElem?_eq_getElem h]
      exact List.getElem_mem _
  rw [e]
  exact r_isIn s (fun i => l.getD i ByteArray.empty) l.length k b o c hn h1 w hc h2 h3

/-- kelpforestref1.SameTexts at two slices that hold the same texts. -/
theorem sameTexts_eq (f : Nat → ByteArray) (n ba oa ca bb ob cb : Nat) (hn : n ≤ 1000000) (w : World) (ha : ∀ i, i < n → w.cell? ⟨ba, oa + i, none⟩ = some (.string (f i))) (hb : ∀ i, i < n → w.cell? ⟨bb, ob + i, none⟩ = some (.string (f i))) :
    Calls Tryd.prog 18 #[.slice (some ⟨ba, oa, none⟩) n ca, .slice (some ⟨bb, ob, none⟩) n cb] w fun e w' => e = .returned (.bool true) ∧ ∃ m, w' = w.drewN m := by
  have HA : Hid (∀ i, i < n → w.cell? ⟨ba, oa + i, none⟩ = some (.string (f i))) := ha
  have HB : Hid (∀ i, i < n → w.cell? ⟨bb, ob + i, none⟩ = some (.string (f i))) := hb
  clear ha hb
  go_enter Tryd.func18, Tryd.ntmps18
  go_wp2
  go_loopw [5] (fun i wr => ∃ q m : Nat, q ≤ n ∧ i = .int .i64 q ∧ wr = w.drewN m) (fun i _ => n - (intOf i).toNat)
  case atStart => exact ⟨0, 0, by omega, rfl, rfl⟩
  case round =>
    obtain ⟨q, m, hq, rfl, rfl⟩ := hrel
    by_cases hlt : q < n
    · have h1 := HA.out q hlt
      have h2 := HB.out q hlt
      have h1' : (w.drewN m).cell? ⟨ba, oa + q, none⟩ = some (.string (f q)) := h1
      have h2' : (w.drewN m).cell? ⟨bb, ob + q, none⟩ = some (.string (f q)) := h2
      have hlt' : (q : Int) < (n : Int) := by omega
      clear h1 h2
      generalize hW : w.drewN m = W at h1' h2'
      go_wp2
      go_quiet (fail)
      go_wp2
      go_roundw
      case rel => exact ⟨q + 1, m + nq, by omega, by go_num, by rw [← hW, World.drewN_drewN]⟩
      case measure => simp [intOf]; omega
    · have hqn : q = n := by omega
      subst hqn
      go_wp2
      go_ret
      exact ⟨rfl, m, rfl⟩

theorem drewN_below (w : World) (m : Nat) : Below w.heap.size w (w.drewN m) := ⟨rfl, rfl, rfl, Nat.le_refl _, fun _ _ => rfl⟩
theorem lit_ne {s : ByteArray} {l : List UInt8} (h : s ≠ ⟨l.toArray⟩) : (s.toList == l) = false := by
  have := bytes_ne s ⟨l.toArray⟩ h
  rwa [byteArray_toList l.toArray] at this

set_option maxHeartbeats 1000000 in
/-- val.Do at a text that is no op. -/
theorem do_bad (s : Nat → Addr) (t : ByteArray) (ht : t ∉ opsTwo) (a b : Int) (w : World) (hS : Sents w s) : Calls Tryd.prog 12 #[.string t, .int .i64 a, .int .i64 b] w fun e w' => e = .returned (.tuple #[.int .i64 0, sentV (s 3)]) ∧ ∃ m, w' = w.drewN m := by
  have hv := hS.glob 3 (by omega)
  simp only [gErr, List.getD_cons_zero, List.getD_cons_succ] at hv
  simp only [opsTwo, List.mem_cons, List.not_mem_nil, or_false, not_or] at ht
  obtain ⟨h1, h2, h3, h4, h5, h6, h7, h8, h9, h10, h11, h12, h13, h14⟩ := ht
  replace h1 := lit_ne h1
  replace h2 := lit_ne h2
  replace h3 := lit_ne h3
  replace h4 := lit_ne h4
  replace h5 := lit_ne h5
  replace h6 := lit_ne h6
  replace h7 := lit_ne h7
  replace h8 := lit_ne h8
  replace h9 := lit_ne h9
  replace h10 := lit_ne h10
  replace h11 := lit_ne h11
  replace h12 := lit_ne h12
  replace h13 := lit_ne h13
  replace h14 := lit_ne h14
  go_enter Tryd.func12, Tryd.ntmps12
  go_wp2
  go_quiet (fail)
  go_wp2
  go_ret2
  exact ⟨rfl, nq, rfl⟩
/-- val.One at a text that is no op of one number. -/
theorem one_bad (s : Nat → Addr) (t : ByteArray) (h1 : t ≠ ⟨#[45]⟩) (h2 : t ≠ ⟨#[33]⟩) (a : Int) (w : World) (hS : Sents w s) : Calls Tryd.prog 15 #[.string t, .int .i64 a] w fun e w' => e = .returned (.tuple #[.int .i64 0, sentV (s 3)]) ∧ ∃ m, w' = w.drewN m := by
  have hv := hS.glob 3 (by omega)
  simp only [gErr, List.getD_cons_zero, List.getD_cons_succ] at hv
  replace h1 := lit_ne h1
  replace h2 := lit_ne h2
  go_enter Tryd.func15, Tryd.ntmps15
  go_wp2
  go_quiet (fail)
  go_wp2
  go_ret2
  exact ⟨rfl, nq, rfl⟩
theorem isTwo_any (t : ByteArray) (w : World) : Calls Tryd.prog 13 #[.string t] w fun e w' => e = .returned (.bool (inB opsTwo t)) ∧ Below w.heap.size w w' := by
  have HI : Hid (Calls Tryd.prog 22 #[.string t, .slice (some ⟨w.heap.size, 0, none⟩) 14 14] (opsW w) fun e w' => e = .returned (.bool (inB opsTwo t)) ∧ w' = opsW w) :=
    isIn_any opsTwo t w.heap.size 0 14 (by decide) (opsW w) (fun i hi => by rw [Nat.zero_add]; exact ops_cell w i hi)
  go_enter Tryd.func13, Tryd.ntmps13
  go_wp2_with (first | (go_at_call 20; refine (r_ops _).mono ?_; rintro e w' ⟨rfl, hh⟩; replace hh := hh.symm; subst hh) | (go_at_call 22; refine HI.out.mono ?_; rintro e w' ⟨rfl, hh⟩; replace hh := hh.symm; subst hh))
  go_ret
  exact ⟨rfl, (Below.refl _ _).alloc (Nat.le_refl _) _⟩
theorem isOne_neg (w : World) : Calls Tryd.prog 16 #[.string ⟨#[45]⟩] w fun e w' => e = .returned (.bool true) ∧ w' = w := by
  go_enter Tryd.func16, Tryd.ntmps16
  go_wp2
  go_ret
  exact ⟨rfl, rfl⟩
theorem isOne_not (w : World) : Calls Tryd.prog 16 #[.string ⟨#[33]⟩] w fun e w' => e = .returned (.bool true) ∧ w' = w := by
  go_enter Tryd.func16, Tryd.ntmps16
  go_wp2
  go_ret
  exact ⟨rfl, rfl⟩
theorem isOne_bad (t : ByteArray) (h1 : t ≠ ⟨#[45]⟩) (h2 : t ≠ ⟨#[33]⟩) (w : World) : Calls Tryd.prog 16 #[.string t] w fun e w' => e = .returned (.bool false) ∧ w' = w := by
  replace h1 := lit_ne h1
  replace h2 := lit_ne h2
  go_enter Tryd.func16, Tryd.ntmps16
  go_wp2
  go_ret
  exact ⟨rfl, rfl⟩
theorem oneOf_neg (a : Int) (w : World) : Calls Tryd.prog 17 #[.string ⟨#[45]⟩, .int .i64 a] w fun e w' => e = .returned (.int .i64 (wrap64 (-a))) ∧ w' = w := by
  go_enter Tryd.func17, Tryd.ntmps17
  go_wp2
  go_ret
  exact ⟨ret_int (by simp), rfl⟩
theorem oneOf_not (a : Int) (w : World) : Calls Tryd.prog 17 #[.string ⟨#[33]⟩, .int .i64 a] w fun e w' => e = .returned (.int .i64 (vBit (a = 0))) ∧ w' = w := by
  by_cases h : a = 0
  · have e : vBit (a = 0) = 1 := by simp [vBit, h]
    rw [e]; clear e
    have h' : (a == 0) = true := by simpa using h
    clear h
    go_enter Tryd.func17, Tryd.ntmps17
    go_wp2
    go_ret
    exact ⟨rfl, rfl⟩
  · have e : vBit (a = 0) = 0 := by simp [vBit, h]
    rw [e]; clear e
    have h' : (a == 0) = false := by simpa using h
    clear h
    go_enter Tryd.func17, Tryd.ntmps17
    go_wp2
    go_ret
    exact ⟨rfl, rfl⟩

def opsSwap : List ByteArray := [⟨#[43]⟩, ⟨#[42]⟩, ⟨#[38]⟩, ⟨#[124]⟩, ⟨#[94]⟩, ⟨#[61, 61]⟩, ⟨#[33, 61]⟩]
abbrev swapW (w : World) : World := w.alloc (.cells #[.string ⟨#[43]⟩, .string ⟨#[42]⟩, .string ⟨#[38]⟩, .string ⟨#[124]⟩, .string ⟨#[94]⟩, .string ⟨#[61, 61]⟩, .string ⟨#[33, 61]⟩] 9)
theorem swap_cell (w : World) (k : Nat) (hk : k < 7) : (swapW w).cell? ⟨w.heap.size, 0 + k, none⟩ = some (.string (opsSwap.getD k ByteArray.empty)) := by
  rw [Nat.zero_add]
  match k, hk with
  | 0, _ => simp [opsSwap]
  | 1, _ => simp [opsSwap]
  | 2, _ => simp [opsSwap]
  | 3, _ => simp [opsSwap]
  | 4, _ => simp [opsSwap]
  | 5, _ => simp [opsSwap]
  | 6, _ => simp [opsSwap]
theorem swaps_in (t : ByteArray) : vSwaps t = inB opsSwap t := by
  unfold vSwaps inB opsSwap
  simp only [List.any_cons, List.any_nil, byteArray_toList, Bool.or_false, Bool.or_assoc]
  have hc : ∀ l : List UInt8, (t.toList == l) = (l == t.toList) := fun l => by rw [Bool.eq_iff_iff, beq_iff_eq, beq_iff_eq]; exact ⟨Eq.symm, Eq.symm⟩
  rw [hc [43], hc [42], hc [38], hc [124], hc [94], hc [61, 61], hc [33, 61]]

theorem ops_cells (w : World) (i : Nat) (hi : i < 14) : (opsW (opsW w)).cell? ⟨w.heap.size, 0 + i, none⟩ = some (.string (opsTwo.getD i ByteArray.empty)) ∧ (opsW (opsW w)).cell? ⟨w.heap.size + 1, 0 + i, none⟩ = some (.string (opsTwo.getD i ByteArray.empty)) := by
  rw [Nat.zero_add]
  constructor
  · rw [World.cell?_alloc_lt _ _ _ (by simp)]
    exact ops_cell w i hi
  · have := ops_cell (opsW w) i hi
    have e : (opsW w).heap.size = w.heap.size + 1 := by simp
    rw [e] at this
    exact this
theorem ops_below (w w' : World) (m : Nat) (h : w' = (opsW (opsW w)).drewN m) : Below w.heap.size w w' := by
  subst h
  exact (((Below.refl _ _).alloc (Nat.le_refl _) _).alloc (by simp) _).trans ⟨rfl, rfl, rfl, Nat.le_refl _, fun _ _ => rfl⟩
theorem hid_app {q : Prop} (h : Hid (true = true → q)) : Hid q := h rfl
set_option maxRecDepth 100000 in
set_option maxHeartbeats 4000000 in
/-- The law, out of what its callees do at this text. -/
theorem does_walk (s : Nat → Addr) (t : ByteArray) (a b vt vo : Int) (et eo : Value) (two one : Bool) (hlen : t.size ≤ 20) (w : World) (hS : Sents w s)
    (HDo : Hid (∀ w, Sents w s → Calls Tryd.prog 12 #[.string t, .int .i64 a, .int .i64 b] w fun e w' => e = .returned (.tuple #[.int .i64 vt, et]) ∧ Below w.heap.size w w'))
    (HTwo : Hid (∀ w, Calls Tryd.prog 13 #[.string t] w fun e w' => e = .returned (.bool two) ∧ Below w.heap.size w w'))
    (HOf : Hid (two = true → ∀ w, Calls Tryd.prog 14 #[.string t, .int .i64 a, .int .i64 b] w fun e w' => e = .returned (.int .i64 vt) ∧ w' = w))
    (hE : et = if two then .nilIface else sentV (s 3)) (hV : two = false → vt = 0)
    (HOne : Hid (∀ w, Sents w s → Calls Tryd.prog 15 #[.string t, .int .i64 a] w fun e w' => e = .returned (.tuple #[.int .i64 vo, eo]) ∧ Below w.heap.size w w'))
    (HIsOne : Hid (∀ w, Calls Tryd.prog 16 #[.string t] w fun e w' => e = .returned (.bool one) ∧ w' = w))
    (HOneOf : Hid (one = true → ∀ w, Calls Tryd.prog 17 #[.string t, .int .i64 a] w fun e w' => e = .returned (.int .i64 vo) ∧ w' = w))
    (hE1 : eo = if one then .nilIface else sentV (s 3)) (hV1 : one = false → vo = 0) :
    Calls Tryd.prog 4 #[.string t, .int .i64 a, .int .i64 b] w fun e w' => e = .returned (.bool true) ∧ Below w.heap.size w w' := by
  have hlen' : ¬ (20 : Int) < (t.size : Int) := by omega
  have hB := Below.refl w.heap.size w
  have HO : Hid (∀ i j, i < 10 → j < 10 → i ≠ j → s i ≠ s j) := hS.other
  have h4 : (4 : Int) = codeOf 3 := rfl
  have HK : Hid (∀ w, Sents w s → Calls Tryd.prog 9 #[sentV (s 3), .int .i64 4] w fun e w' => e = .returned (.bool true) ∧ Below w.heap.size w w') :=
    fun w hS => coded_str s (s 3) 3 (by omega) 4 h4 w hS (hS.row 3 (by omega)) (fun i hi => HO.out 3 i (by omega) (by omega) (by omega)) (fun _ => rfl)
  clear h4 HO hlen
  cases two <;> cases one <;> simp only [if_true, if_false, Bool.false_eq_true, reduceCtorEq, false_implies, true_implies] at hE hV hE1 hV1
  all_goals try subst hE
  all_goals try subst hE1
  all_goals try (subst hV)
  all_goals try replace HOf := hid_app HOf
  all_goals try replace HOneOf := hid_app HOneOf
  all_goals try (subst hV1)
  all_goals
    go_enter Tryd.func4, Tryd.ntmps4
    go_wp2_with (first | (go_at_call 11; refine (done_any _).mono ?_; rintro e w' ⟨rfl, hh⟩; replace hh := hh.symm; subst hh) | (go_at_call 12; refine (HDo.out _ ?_).mono ?_; exact hS; rintro e w1 ⟨rfl, hb⟩; replace hS := hS.below hb; replace hB := hB.trans (hb.mono hB.size); clear hb) | (go_at_call 13; refine (HTwo.out _).mono ?_; rintro e w1 ⟨rfl, hb⟩; replace hS := hS.below hb; replace hB := hB.trans (hb.mono hB.size); clear hb) | (go_at_call 14; refine (HOf.out _).mono ?_; rintro e w' ⟨rfl, hh⟩; replace hh := hh.symm; subst hh) | (go_at_call 9; refine (HK.out _ ?_).mono ?_; exact hS; rintro e w1 ⟨rfl, hb⟩; replace hS := hS.below hb; replace hB := hB.trans (hb.mono hB.size); clear hb) | (go_at_call 15; refine (HOne.out _ ?_).mono ?_; exact hS; rintro e w1 ⟨rfl, hb⟩; replace hS := hS.below hb; replace hB := hB.trans (hb.mono hB.size); clear hb) | (go_at_call 16; refine (HIsOne.out _).mono ?_; rintro e w' ⟨rfl, hh⟩; replace hh := hh.symm; subst hh) | (go_at_call 17; refine (HOneOf.out _).mono ?_; rintro e w' ⟨rfl, hh⟩; replace hh := hh.symm; subst hh))
  all_goals
    refine (ops_any _).mono ?_
    rintro e w' ⟨rfl, hh⟩
    replace hh := hh.symm
    subst hh
    go_wp2_with (go_at_call 20; refine (r_ops _).mono ?_; rintro e w' ⟨rfl, hh⟩; replace hh := hh.symm; subst hh)
    refine (sameTexts_eq (fun i => opsTwo.getD i ByteArray.empty) 14 w1.heap.size 0 14 (w1.heap.size + 1) 0 14 (by omega) _ (fun i hi => (ops_cells w1 i hi).1) (fun i hi => (ops_cells w1 i hi).2)).mono ?_
    rintro e w5 ⟨rfl, m, hw5⟩
    replace hB := hB.trans ((ops_below w1 w5 m hw5).mono hB.size)
    clear hw5
    have HI : Hid (Calls Tryd.prog 22 #[.string t, .slice (some ⟨w5.heap.size, 0, none⟩) 7 7] (swapW w5) fun e w' => e = .returned (.bool (vSwaps t)) ∧ w' = swapW w5) := by
      rw [swaps_in t]
      exact isIn_any opsSwap t w5.heap.size 0 7 (by decide) (swapW w5) (fun i hi => swap_cell w5 i hi)
    go_wp2_with (first | (go_at_call 21; refine (swaps_any _ _).mono ?_; rintro e w' ⟨rfl, hh⟩; replace hh := hh.symm; subst hh) | (go_at_call 22; refine HI.out.mono ?_; rintro e w' ⟨rfl, hh⟩; replace hh := hh.symm; subst hh))
    go_ret
    exact ⟨by simp, hB.alloc hB.size _⟩

set_option maxHeartbeats 1000000 in
theorem does_long (t : ByteArray) (a b : Int) (hlen : 20 < t.size) (w : World) :
    Calls Tryd.prog 4 #[.string t, .int .i64 a, .int .i64 b] w fun e w' => e = .returned (.bool true) ∧ Below w.heap.size w w' := by
  have hlen' : (20 : Int) < (t.size : Int) := by omega
  go_enter Tryd.func4, Tryd.ntmps4
  go_wp2_with (go_at_call 11; refine (done_any _).mono ?_; rintro e w' ⟨rfl, hh⟩; replace hh := hh.symm; subst hh)
  go_ret
  exact ⟨rfl, Below.refl _ _⟩

theorem of_same {f : FuncId} {args : Array Value} {w : World} {v : Value} (h : Calls Tryd.prog f args w fun e w' => e = .returned v ∧ w' = w) : Calls Tryd.prog f args w fun e w' => e = .returned v ∧ Below w.heap.size w w' :=
  h.mono fun _ _ ⟨he, hw⟩ => ⟨he, hw ▸ Below.refl _ _⟩
theorem of_drew {f : FuncId} {args : Array Value} {w : World} {v : Value} (h : Calls Tryd.prog f args w fun e w' => e = .returned v ∧ ∃ m, w' = w.drewN m) : Calls Tryd.prog f args w fun e w' => e = .returned v ∧ Below w.heap.size w w' :=
  h.mono fun _ _ ⟨he, _, hw⟩ => ⟨he, hw ▸ drewN_below _ _⟩
theorem two_not : (⟨#[33]⟩ : ByteArray) ∉ opsTwo := by simp [opsTwo]

/-- For any text and any two ints. -/
theorem does_any (s : Nat → Addr) (t : ByteArray) (a b : Int) (ha : In64 a) (w : World) (hS : Sents w s) :
    Calls Tryd.prog 4 #[.string t, .int .i64 a, .int .i64 b] w fun e w' => e = .returned (.bool true) ∧ Below w.heap.size w w' := by
  by_cases hlen : t.size ≤ 20
  · obtain ⟨vt, et, two, hDo, hTwo, hOf, hE, hV⟩ : ∃ (vt : Int) (et : Value) (two : Bool),
        (∀ w, Sents w s → Calls Tryd.prog 12 #[.string t, .int .i64 a, .int .i64 b] w fun e w' => e = .returned (.tuple #[.int .i64 vt, et]) ∧ Below w.heap.size w w') ∧
        (∀ w, Calls Tryd.prog 13 #[.string t] w fun e w' => e = .returned (.bool two) ∧ Below w.heap.size w w') ∧
        (two = true → ∀ w, Calls Tryd.prog 14 #[.string t, .int .i64 a, .int .i64 b] w fun e w' => e = .returned (.int .i64 vt) ∧ w' = w) ∧
        (et = if two then .nilIface else sentV (s 3)) ∧ (two = false → vt = 0) := by
      by_cases ht : t ∈ opsTwo
      · refine ⟨vOp t a b, .nilIface, true, fun w _ => of_same (do_any t ht a b w), fun w => ?_, fun _ w => r_any t ht a b ha w, rfl, fun h => by cases h⟩
        have := isTwo_any t w
        rwa [(inB_iff opsTwo t).2 ht] at this
      · refine ⟨0, sentV (s 3), false, fun w h => of_drew (do_bad s t ht a b w h), fun w => ?_, fun h => (by cases h), rfl, fun _ => rfl⟩
        have := isTwo_any t w
        rwa [(Bool.eq_false_iff.2 (fun e => ht ((inB_iff opsTwo t).1 e)) : inB opsTwo t = false)] at this
    obtain ⟨vo, eo, one, hOne, hIsOne, hOneOf, hE1, hV1⟩ : ∃ (vo : Int) (eo : Value) (one : Bool),
        (∀ w, Sents w s → Calls Tryd.prog 15 #[.string t, .int .i64 a] w fun e w' => e = .returned (.tuple #[.int .i64 vo, eo]) ∧ Below w.heap.size w w') ∧
        (∀ w, Calls Tryd.prog 16 #[.string t] w fun e w' => e = .returned (.bool one) ∧ w' = w) ∧
        (one = true → ∀ w, Calls Tryd.prog 17 #[.string t, .int .i64 a] w fun e w' => e = .returned (.int .i64 vo) ∧ w' = w) ∧
        (eo = if one then .nilIface else sentV (s 3)) ∧ (one = false → vo = 0) := by
      by_cases h1 : t = ⟨#[45]⟩
      · subst h1
        exact ⟨_, .nilIface, true, fun w _ => of_same (one_neg a w), isOne_neg, fun _ => oneOf_neg a, rfl, fun h => by cases h⟩
      · by_cases h2 : t = ⟨#[33]⟩
        · subst h2
          exact ⟨_, .nilIface, true, fun w _ => of_same (one_not a w), isOne_not, fun _ => oneOf_not a, rfl, fun h => by cases h⟩
        · exact ⟨0, sentV (s 3), false, fun w h => of_drew (one_bad s t h1 h2 a w h), isOne_bad t h1 h2, fun h => (by cases h), rfl, fun _ => rfl⟩
    exact does_walk s t a b vt vo et eo two one hlen w hS hDo hTwo hOf hE hV hOne hIsOne hOneOf hE1 hV1
  · exact does_long t a b (by omega) w
end Go.Proofs.YtpjanhljfdeidaaDoor
