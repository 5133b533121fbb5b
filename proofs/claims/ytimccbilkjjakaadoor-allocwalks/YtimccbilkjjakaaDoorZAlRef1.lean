/- Our own: texts joined: AlRef1. -/
import Derived.Test.YtimccbilkjjakaaDoorZCkA
import Derived.Test.YtimccbilkjjakaaDoorZTools
namespace Go.Proofs.YtimccbilkjjakaaDoor
open Go.RowKit
set_option maxRecDepth 100000 in
set_option maxHeartbeats 1000000 in
theorem risOf_any (t : ByteArray) (hsz : t.size ≤ 1000) (c : UInt8) (w : World) : Calls Tryd.prog 31 #[.string t, .int .u8 (c.toNat : Int)] w fun e w' => e = .returned (.bool (decide (c ∈ t.data.toList))) ∧ w' = w := by
 have hl : t.data.toList.length = t.size := rfl
 have hsz' : (t.size : Int) ≤ 1000 := by omega
 have hat : ∀ i (h : i < t.size), t.data.toList[i]'h = t[i] := fun i h => rfl
 generalize hR : decide (c ∈ t.data.toList) = R
 have HR := hidX hR
 have HAT := hidX hat
 have HL := hidX hl
 clear hR hat hl
 go_enter Tryd.func31, Tryd.ntmps31
 go_wp2_with fail
 go_loop [5] (fun vi => ∃ q : Nat, q ≤ t.size ∧ vi = .int .i64 q ∧ Hid (∀ i (h : i < t.size), i < q → t[i] ≠ c)) (fun vi => t.size - (intOf vi).toNat)
 case atStart => exact ⟨0, Nat.zero_le _, rfl, fun i _ h => absurd h (by omega)⟩
 case round =>
  obtain ⟨q, hq, rfl, HQ⟩ := hrel
  by_cases hlt : q < t.size
  ·have hlt' : (q : Int) < t.size := by omega
   by_cases he : t[q] = c
   ·have he' : ((t[q].toNat : Int) == (c.toNat : Int)) = true := by rw [he]; simp
    have hr : R = true := by
     rw [← HR.out, decide_eq_true_iff, ← he, ← HAT.out q hlt]
     exact List.getElem_mem _
    subst hr
    clear he
    go_wp2
    go_ret
    exact ⟨rfl, rfl⟩
   ·have he' : ((t[q].toNat : Int) == (c.toNat : Int)) = false := by
     rw [beq_eq_false_iff_ne]
     intro h
     exact he (UInt8.toNat_inj.1 (by omega))
    have HQ2 := hidX (show ∀ i (h : i < t.size), i < q + 1 → t[i] ≠ c from fun i h hi => by
     by_cases e : i = q
     ·subst e; exact he
     ·exact HQ.out i h (by omega))
    clear he
    go_wp2
    refine ⟨⟨q + 1, by omega, by go_num, HQ2.out⟩, by simp [intOf]; omega⟩
  ·have hqe : q = t.size := by omega
   subst hqe
   have hr : R = false := by
    rw [← HR.out, decide_eq_false_iff_not]
    intro h
    obtain ⟨i, hi, e⟩ := List.getElem_of_mem h
    have hi' : i < t.size := by rw [← HL.out]; exact hi
    exact HQ.out i hi' hi' (by rw [← HAT.out i hi']; exact e)
   subst hr
   go_wp2
   go_ret
   exact ⟨rfl, rfl⟩
theorem risReg_any (r : Int) (w : World) : Calls Tryd.prog 17 #[.int .i64 r] w fun e w' => e = .returned (.bool (decide (0 ≤ r ∧ r < 8))) ∧ w' = w := by
 by_cases h0 : 0 ≤ r
 ·by_cases h1 : r < 8
  ·rw [decide_eq_true (And.intro h0 h1)]
   go_enter Tryd.func17, Tryd.ntmps17
   go_wp2
   go_ret
   exact ⟨rfl, rfl⟩
  ·rw [decide_eq_false (fun h => h1 h.2)]
   go_enter Tryd.func17, Tryd.ntmps17
   go_wp2
   go_ret
   exact ⟨rfl, rfl⟩
 ·rw [decide_eq_false (fun h => h0 h.1)]
  have h0' : r < 0 := by omega
  go_enter Tryd.func17, Tryd.ntmps17
  go_wp2
  go_ret
  exact ⟨rfl, rfl⟩
end Go.Proofs.YtimccbilkjjakaaDoor
