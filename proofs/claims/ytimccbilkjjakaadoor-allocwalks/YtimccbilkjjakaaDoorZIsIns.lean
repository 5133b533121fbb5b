/- Our own: texts joined: IsIn, InTexts, RefOps. -/
import Derived.Test.YtimccbilkjjakaaDoorZBase
namespace Go.Proofs.YtimccbilkjjakaaDoor
open Go.RowKit
theorem r_isIn (s : ByteArray) (f : Nat → ByteArray) (n k b o c : Nat) (hn : n ≤ 1000000) (hk : k ≤ n) (w : World) (hc : ∀ i, i < n → w.cell? ⟨b, o + i, none⟩ = some (.string (f i))) (hlo : ∀ i, i < k → f i ≠ s) (hat : k < n → f k = s) :
  Calls Tryd.prog 44 #[.string s, .slice (some ⟨b, o, none⟩) n c] w fun e w' => e = .returned (.bool (decide (k < n))) ∧ w' = w := by
 have HC : Hid (∀ i, i < n → w.cell? ⟨b, o + i, none⟩ = some (.string (f i))) := hc
 have HL : Hid (∀ i, i < k → f i ≠ s) := hlo
 have HA : Hid (k < n → f k = s) := hat
 clear hc hlo hat
 go_enter Tryd.func44, Tryd.ntmps44
 go_wp2
 go_loop [5] (fun i => ∃ q : Nat, q ≤ k ∧ i = .int .i64 q) (fun i => n - (intOf i).toNat)
 case atStart => exact ⟨0, by omega, rfl⟩
 case round =>
  obtain ⟨q, hq, rfl⟩ := hrel
  by_cases hlt : q < n
  ·have h1 := HC.out q hlt
   have hlt' : (q : Int) < (n : Int) := by omega
   by_cases hqk : q < k
   ·have hne := bytes_ne _ _ (HL.out q hqk)
    go_wp2
    go_round
    case rel => exact ⟨q + 1, by omega, by go_num⟩
    case measure => simp [intOf]; omega
   ·have hqe : q = k := by omega
    subst hqe
    have he := HA.out hlt
    rw [he] at h1
    clear he
    go_wp2
    go_ret
    exact ⟨by simp, rfl⟩
  ·have hqn : q = n := by omega
   subst hqn
   have hke : k = q := by omega
   subst hke
   go_wp2
   go_ret
   exact ⟨by simp, rfl⟩
theorem isIn_any (l : List ByteArray) (s : ByteArray) (b o c : Nat) (hn : l.length ≤ 1000000) (w : World) (hc : ∀ i, i < l.length → w.cell? ⟨b, o + i, none⟩ = some (.string (l.getD i ByteArray.empty))) :
  Calls Tryd.prog 44 #[.string s, .slice (some ⟨b, o, none⟩) l.length c] w fun e w' => e = .returned (.bool (inB l s)) ∧ w' = w := by
 obtain ⟨k, h1, h2, h3⟩ := first_at (fun i => l.getD i ByteArray.empty) s l.length
 have e : inB l s = decide (k < l.length) := by
  rw [Bool.eq_iff_iff, inB_iff, decide_eq_true_iff]
  constructor
  ·intro hm
   obtain ⟨i, hi, e⟩ := List.mem_iff_getElem.1 hm
   rcases Nat.lt_or_ge k l.length with h | h
   ·exact h
   ·exfalso
    apply h2 i (by omega)
    show l.getD i ByteArray.empty = s
    rw [List.getD_eq_getElem?_getD, List.getElem?_eq_getElem hi]
    exact e
  ·intro h
   have := h3 h
   rw [← this]
   show l.getD k ByteArray.empty ∈ l
   rw [List.getD_eq_getElem?_getD, List.getElem?_eq_getElem h]
   exact List.getElem_mem _
 rw [e]
 exact r_isIn s (fun i => l.getD i ByteArray.empty) l.length k b o c hn h1 w hc h2 h3
end Go.Proofs.YtimccbilkjjakaaDoor
namespace Go.Proofs.YtimccbilkjjakaaDoor
open Go.RowKit
def baL (l : List (List UInt8)) : List ByteArray := l.map fun x => ⟨x.toArray⟩
def inL (l : List (List UInt8)) (t : List UInt8) : Bool := l.contains t
theorem inL_iff (l : List (List UInt8)) (t : List UInt8) : inL l t = true ↔ t ∈ l := by unfold inL; exact List.contains_iff_mem
theorem inB_baL (l : List (List UInt8)) (t : List UInt8) : inB (baL l) ⟨t.toArray⟩ = inL l t := by
 rw [Bool.eq_iff_iff, inB_iff, inL_iff]
 constructor
 ·intro h
  obtain ⟨x, hx, e⟩ := List.mem_map.1 h
  have : x = t := by
   have := congrArg (fun b : ByteArray => b.data.toList) e
   simpa using this
  exact this ▸ hx
 ·intro h
  exact List.mem_map.2 ⟨t, h, rfl⟩
abbrev textW (w : World) (l : List (List UInt8)) : World := w.alloc (.cells ((baL l).map Value.string).toArray 9)
theorem text_cell (w : World) (l : List (List UInt8)) (i : Nat) (hi : i < (baL l).length) : (textW w l).cell? ⟨w.heap.size, 0 + i, none⟩ = some (.string ((baL l).getD i ByteArray.empty)) := by
 rw [World.cell?_alloc_at _ _ _ _ rfl, Nat.zero_add, List.getElem?_toArray, List.getElem?_map, List.getD_eq_getElem?_getD, List.getElem?_eq_getElem hi]
 rfl
theorem isIn_texts (l : List (List UInt8)) (hl : l.length ≤ 1000) (t : List UInt8) (c : Nat) (w : World) :
  Calls Tryd.prog 44 #[.string ⟨t.toArray⟩, .slice (some ⟨w.heap.size, 0, none⟩) l.length c] (textW w l) fun e w' => e = .returned (.bool (inL l t)) ∧ w' = textW w l := by
 have := isIn_any (baL l) ⟨t.toArray⟩ w.heap.size 0 c (by simp [baL]; omega) (textW w l) (fun i hi => text_cell w l i hi)
 rw [inB_baL] at this
 simpa [baL] using this
end Go.Proofs.YtimccbilkjjakaaDoor
namespace Go.Proofs.YtimccbilkjjakaaDoor
open Go.RowKit
theorem rIsOne_any (m : List UInt8) (w : World) : Calls Tryd.prog 29 #[.string ⟨m.toArray⟩] w fun e w' => e = .returned (.bool (decide (m ∈ onesE))) ∧ w' = w := by
 by_cases h1 : m = [45]
 ·subst h1
  go_enter Tryd.func29, Tryd.ntmps29
  go_wp2
  go_ret
  exact ⟨ret_bool (by decide), rfl⟩
 ·have n1 : (m == [45]) = false := ne_lit h1
  by_cases h2 : m = [33]
  ·subst h2
   go_enter Tryd.func29, Tryd.ntmps29
   go_wp2
   go_ret
   exact ⟨ret_bool (by decide), rfl⟩
  ·have n2 : (m == [33]) = false := ne_lit h2
   have hd : decide (m ∈ onesE) = false := by simp [onesE, h1, h2]
   rw [hd]
   clear h1 h2 hd
   go_enter Tryd.func29, Tryd.ntmps29
   go_wp2
   go_ret
   exact ⟨rfl, rfl⟩
theorem rOps_any (w : World) : Calls Tryd.prog 45 #[] w fun e w' => e = .returned (.slice (some ⟨w.heap.size, 0, none⟩) 14 14) ∧ w' = textW w twosE := by
 go_enter Tryd.func45, Tryd.ntmps45
 go_wp2
 go_ret
 exact ⟨rfl, rfl⟩
theorem rIsTwo_any (m : List UInt8) (w : World) : Calls Tryd.prog 30 #[.string ⟨m.toArray⟩] w fun e w' => e = .returned (.bool (decide (m ∈ twosE))) ∧ Below w.heap.size w w' := by
 have hin := isIn_texts twosE (by decide) m 14 w
 have hd : inL twosE m = decide (m ∈ twosE) := by rw [Bool.eq_iff_iff, inL_iff]; simp
 rw [hd] at hin
 generalize decide (m ∈ twosE) = b at hin
 have HIN := hidX hin
 clear hin hd
 go_enter Tryd.func30, Tryd.ntmps30
 go_wp2_with fail
 refine (rOps_any w).mono ?_
 rintro e w' ⟨rfl, hh⟩
 subst hh
 go_wp2_with fail
 refine HIN.out.mono ?_
 rintro e w' ⟨rfl, hh⟩
 subst hh
 go_wp2
 go_ret
 exact ⟨rfl, box_blk _ _ _⟩
end Go.Proofs.YtimccbilkjjakaaDoor
