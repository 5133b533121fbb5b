/- Our own: texts joined: CdChk. -/
import Derived.Test.YtbcpomdcmilpjaaDoorXCdM
import Derived.Test.YtbcpomdcmilpjaaDoorXBaseM
namespace Go.Proofs.YtbcpomdcmilpjaaDoor
open Go.RowKit
theorem bey_any (has : Bool) (n last : Int) (w : World) : Calls Tryd.prog 58 #[.bool has, .int .i64 n, .int .i64 last] w fun e w' => e = .returned (.bool (bey has n last)) ∧ w' = w := by
 unfold bey
 cases has
 ·go_enter Tryd.func58, Tryd.ntmps58
  go_wp2
  go_ret
  exact ⟨rfl, rfl⟩
 ·by_cases h1 : n < 0
  ·have h1' : decide (n < 0) = true := by simpa using h1
   rw [h1']
   go_enter Tryd.func58, Tryd.ntmps58
   go_wp2
   go_ret
   exact ⟨rfl, rfl⟩
  ·have h1' : decide (n < 0) = false := by simpa using h1
   rw [h1']
   generalize hb : decide (last < n) = b
   go_enter Tryd.func58, Tryd.ntmps58
   go_wp2
   go_ret
   exact ⟨by simp, rfl⟩
theorem ndl_any (has : Bool) (n : Int) (w : World) : Calls Tryd.prog 59 #[.bool has, .int .i64 n] w fun e w' => e = .returned (.bool (ndl has n)) ∧ w' = w := by
 unfold ndl
 cases has
 ·by_cases h : n = 0
  ·subst h
   go_enter Tryd.func59, Tryd.ntmps59
   go_wp2
   go_ret
   exact ⟨by simp, rfl⟩
  ·have h' : decide (n = 0) = false := by simpa using h
   have h2 : (n == 0) = false := by simpa using h
   rw [h']
   go_enter Tryd.func59, Tryd.ntmps59
   go_wp2
   go_ret
   exact ⟨by simp [h], rfl⟩
 ·go_enter Tryd.func59, Tryd.ntmps59
  go_wp2
  go_ret
  exact ⟨by simp, rfl⟩
theorem ne32 (n : Int) : (n != wrap64 (wrap32 n)) = !in32 n := by
 have h1 : wrap64 (wrap32 n) = wrap32 n := by unfold wrap64 wrap32; omega
 rw [h1]
 by_cases h : in32 n = true
 ·have : wrap32 n = n := by
   simp only [in32, Bool.and_eq_true, decide_eq_true_eq] at h
   unfold wrap32; omega
  rw [this, h]; simp
 ·have h' : in32 n = false := by simpa using h
  have : n ≠ wrap32 n := by
   intro e
   apply h
   simp only [in32, Bool.and_eq_true, decide_eq_true_eq]
   unfold wrap32 at e; omega
  rw [h']
  simpa using this
abbrev ciV (i : Ci) : Value := .agg #[.string ⟨i.op.toArray⟩, .int .i64 i.d, .int .i64 i.a, .int .i64 i.b, .int .i64 i.imm]
structure CdG (w : World) (a : Nat → Addr) : Prop where
 kind : w.cell? ⟨6, 0, none⟩ = some (sentV (a 1))
 bound : w.cell? ⟨2, 0, none⟩ = some (sentV (a 2))
 shape : w.cell? ⟨5, 0, none⟩ = some (sentV (a 3))
theorem CdG.below {w w' : World} {a : Nat → Addr} (h : CdG w a) (hb : Below w.heap.size w w') : CdG w' a :=
 ⟨by rw [hb.cell (cell_lt h.kind)]; exact h.kind, by rw [hb.cell (cell_lt h.bound)]; exact h.bound, by rw [hb.cell (cell_lt h.shape)]; exact h.shape⟩
abbrev erV (a : Nat → Addr) (c : Nat) : Value := if c = 0 then .nilIface else sentV (a c)
set_option maxRecDepth 100000 in
set_option maxHeartbeats 1000000 in
theorem chk_any (o : Co) (i : Ci) (a : Nat → Addr) (w : World) (hG : CdG w a) : Calls Tryd.prog 49 #[coV o, ciV i] w fun e w' => e = .returned (erV a (coChk o i)) ∧ Below w.heap.size w w' := by
 obtain ⟨hk, hb, hs⟩ := hG
 have lk := cell_lt hk
 have lb := cell_lt hb
 have ls := cell_lt hs
 have lk' : 6 < w.heap.size + 1 := Nat.lt_succ_of_lt lk
 have lb' : 2 < w.heap.size + 1 := Nat.lt_succ_of_lt lb
 have ls' : 5 < w.heap.size + 1 := Nat.lt_succ_of_lt ls
 obtain ⟨kd, sg, od, oa, ob, om, oi⟩ := o
 obtain ⟨ip, id, ia, ib, ii⟩ := i
 by_cases h0 : kd = []
 ·subst h0
  have hr : coChk ⟨[], sg, od, oa, ob, om, oi⟩ ⟨ip, id, ia, ib, ii⟩ = 1 := rfl
  rw [hr]
  go_enter Tryd.func49, Tryd.ntmps49
  go_wp2
  (try simp only [Exit.inBlock, Exit.then])
  go_ret
  exact ⟨rfl, by (repeat (first | exact Below.refl _ _ | assumption | refine Below.drew ?_ | refine bT ?_ _ | refine bS ?_ _ | refine bA ?_ _))⟩
 ·have h0' : kd.isEmpty = false := by simpa using h0
  have hres : coChk ⟨kd, sg, od, oa, ob, om, oi⟩ ⟨ip, id, ia, ib, ii⟩ = if (bey od id 7 || bey oa ia 7 || bey ob ib 7 || !in32 ii || bey om ib 4) = true then 2 else if (ndl od id || ndl oa ia || ndl (ob || om) ib || ndl oi ii) = true then 3 else 0 := if_neg h0
  rw [hres]
  clear hres h0
  generalize hb1 : bey od id 7 = b1
  generalize hb2 : bey oa ia 7 = b2
  generalize hb3 : bey ob ib 7 = b3
  generalize hb5 : bey om ib 4 = b5
  generalize hc1 : ndl od id = c1
  generalize hc2 : ndl oa ia = c2
  generalize hc3 : ndl (ob || om) ib = c3
  generalize hc4 : ndl oi ii = c4
  have hB1 := hidX fun W => hb1 ▸ bey_any od id 7 W
  have hB2 := hidX fun W => hb2 ▸ bey_any oa ia 7 W
  have hB3 := hidX fun W => hb3 ▸ bey_any ob ib 7 W
  have hB5 := hidX fun W => hb5 ▸ bey_any om ib 4 W
  have hC1 := hidX fun W => hc1 ▸ ndl_any od id W
  have hC2 := hidX fun W => hc2 ▸ ndl_any oa ia W
  have hC3 := hidX fun W => hc3 ▸ ndl_any (ob || om) ib W
  have hC4 := hidX fun W => hc4 ▸ ndl_any oi ii W
  clear hb1 hb2 hb3 hb5 hc1 hc2 hc3 hc4
  obtain ⟨res, hres⟩ : ∃ res, res = (if (b1 || b2 || b3 || !in32 ii || b5) = true then 2 else if (c1 || c2 || c3 || c4) = true then 3 else 0) := ⟨_, rfl⟩
  rw [← hres]
  have HR := hidX hres
  clear hres
  go_enter Tryd.func49, Tryd.ntmps49
  go_wp2_with fail
  refine (hB1.out _).mono ?_
  rintro e w' ⟨rfl, hh⟩
  replace hh := hh.symm
  subst hh
  clear hB1
  cases b1
  rotate_left
  ·go_wp2
   (try simp only [Exit.inBlock, Exit.then])
   go_ret
   exact ⟨by rw [HR.out]; rfl, by (repeat (first | exact Below.refl _ _ | assumption | refine Below.drew ?_ | refine bT ?_ _ | refine bS ?_ _ | refine bA ?_ _))⟩
  go_wp2_with fail
  refine (hB2.out _).mono ?_
  rintro e w' ⟨rfl, hh⟩
  replace hh := hh.symm
  subst hh
  clear hB2
  cases b2
  rotate_left
  ·go_wp2
   (try simp only [Exit.inBlock, Exit.then])
   go_ret
   exact ⟨by rw [HR.out]; rfl, by (repeat (first | exact Below.refl _ _ | assumption | refine Below.drew ?_ | refine bT ?_ _ | refine bS ?_ _ | refine bA ?_ _))⟩
  go_wp2_with fail
  refine (hB3.out _).mono ?_
  rintro e w' ⟨rfl, hh⟩
  replace hh := hh.symm
  subst hh
  clear hB3
  cases b3
  rotate_left
  ·go_wp2
   (try simp only [Exit.inBlock, Exit.then])
   go_ret
   exact ⟨by rw [HR.out]; rfl, by (repeat (first | exact Below.refl _ _ | assumption | refine Below.drew ?_ | refine bT ?_ _ | refine bS ?_ _ | refine bA ?_ _))⟩
  have e4 := ne32 ii
  cases h4 : in32 ii
  ·rw [h4] at e4 HR
   replace e4 : (ii != wrap64 (wrap32 ii)) = true := e4
   go_wp2
   (try simp only [Exit.inBlock, Exit.then])
   go_ret
   exact ⟨by rw [HR.out]; rfl, by (repeat (first | exact Below.refl _ _ | assumption | refine Below.drew ?_ | refine bT ?_ _ | refine bS ?_ _ | refine bA ?_ _))⟩
  rw [h4] at e4 HR
  replace e4 : (ii != wrap64 (wrap32 ii)) = false := e4
  clear h4
  go_wp2_with fail
  refine (hB5.out _).mono ?_
  rintro e w' ⟨rfl, hh⟩
  replace hh := hh.symm
  subst hh
  clear hB5
  cases b5
  rotate_left
  ·go_wp2
   (try simp only [Exit.inBlock, Exit.then])
   go_ret
   exact ⟨by rw [HR.out]; rfl, by (repeat (first | exact Below.refl _ _ | assumption | refine Below.drew ?_ | refine bT ?_ _ | refine bS ?_ _ | refine bA ?_ _))⟩
  go_wp2_with fail
  refine (hC1.out _).mono ?_
  rintro e w' ⟨rfl, hh⟩
  replace hh := hh.symm
  subst hh
  clear hC1
  cases c1
  rotate_left
  ·go_wp2
   (try simp only [Exit.inBlock, Exit.then])
   go_ret
   exact ⟨by rw [HR.out]; rfl, by (repeat (first | exact Below.refl _ _ | assumption | refine Below.drew ?_ | refine bT ?_ _ | refine bS ?_ _ | refine bA ?_ _))⟩
  go_wp2_with fail
  refine (hC2.out _).mono ?_
  rintro e w' ⟨rfl, hh⟩
  replace hh := hh.symm
  subst hh
  clear hC2
  cases c2
  rotate_left
  ·go_wp2
   (try simp only [Exit.inBlock, Exit.then])
   go_ret
   exact ⟨by rw [HR.out]; rfl, by (repeat (first | exact Below.refl _ _ | assumption | refine Below.drew ?_ | refine bT ?_ _ | refine bS ?_ _ | refine bA ?_ _))⟩
  cases ob
  ·replace hC3 : Hid (∀ W : World, Calls Tryd.prog 59 #[.bool om, .int .i64 ib] W fun e w' => e = .returned (.bool c3) ∧ w' = W) := hC3
   go_wp2_with fail
   refine (hC3.out _).mono ?_
   rintro e w' ⟨rfl, hh⟩
   replace hh := hh.symm
   subst hh
   clear hC3
   cases c3
   rotate_left
   ·go_wp2
    (try simp only [Exit.inBlock, Exit.then])
    go_ret
    exact ⟨by rw [HR.out]; rfl, by (repeat (first | exact Below.refl _ _ | assumption | refine Below.drew ?_ | refine bT ?_ _ | refine bS ?_ _ | refine bA ?_ _))⟩
   go_wp2_with fail
   refine (hC4.out _).mono ?_
   rintro e w' ⟨rfl, hh⟩
   replace hh := hh.symm
   subst hh
   clear hC4
   cases c4
   rotate_left
   ·go_wp2
    (try simp only [Exit.inBlock, Exit.then])
    go_ret
    exact ⟨by rw [HR.out]; rfl, by (repeat (first | exact Below.refl _ _ | assumption | refine Below.drew ?_ | refine bT ?_ _ | refine bS ?_ _ | refine bA ?_ _))⟩
   go_wp2
   (try simp only [Exit.inBlock, Exit.then])
   go_ret
   exact ⟨by rw [HR.out]; rfl, by (repeat (first | exact Below.refl _ _ | assumption | refine Below.drew ?_ | refine bT ?_ _ | refine bS ?_ _ | refine bA ?_ _))⟩
  ·replace hC3 : Hid (∀ W : World, Calls Tryd.prog 59 #[.bool true, .int .i64 ib] W fun e w' => e = .returned (.bool c3) ∧ w' = W) := hC3
   go_wp2_with fail
   refine (hC3.out _).mono ?_
   rintro e w' ⟨rfl, hh⟩
   replace hh := hh.symm
   subst hh
   clear hC3
   cases c3
   rotate_left
   ·go_wp2
    (try simp only [Exit.inBlock, Exit.then])
    go_ret
    exact ⟨by rw [HR.out]; rfl, by (repeat (first | exact Below.refl _ _ | assumption | refine Below.drew ?_ | refine bT ?_ _ | refine bS ?_ _ | refine bA ?_ _))⟩
   go_wp2_with fail
   refine (hC4.out _).mono ?_
   rintro e w' ⟨rfl, hh⟩
   replace hh := hh.symm
   subst hh
   clear hC4
   cases c4
   rotate_left
   ·go_wp2
    (try simp only [Exit.inBlock, Exit.then])
    go_ret
    exact ⟨by rw [HR.out]; rfl, by (repeat (first | exact Below.refl _ _ | assumption | refine Below.drew ?_ | refine bT ?_ _ | refine bS ?_ _ | refine bA ?_ _))⟩
   go_wp2
   (try simp only [Exit.inBlock, Exit.then])
   go_ret
   exact ⟨by rw [HR.out]; rfl, by (repeat (first | exact Below.refl _ _ | assumption | refine Below.drew ?_ | refine bT ?_ _ | refine bS ?_ _ | refine bA ?_ _))⟩
end Go.Proofs.YtbcpomdcmilpjaaDoor
