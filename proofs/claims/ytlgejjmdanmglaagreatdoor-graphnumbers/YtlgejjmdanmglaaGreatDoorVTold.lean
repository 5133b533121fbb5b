/- Our own: texts joined: GrTold, GrMany. -/
import Derived.Test.YtlgejjmdanmglaaGreatDoorVBase
import Derived.Test.YtlgejjmdanmglaaGreatDoorVErrAll
import Derived.Test.YtlgejjmdanmglaaGreatDoorVNewAll
namespace Go.Proofs.YtlgejjmdanmglaaGreatDoor
open Go.RowKit
end Go.Proofs.YtlgejjmdanmglaaGreatDoor
namespace Go.Proofs.YtlgejjmdanmglaaGreatDoor
open Go.RowKit
theorem codedL_nil (w : World) : Calls Tryz.prog 19 #[.nilIface, .int .i64 0] w fun e w' => e = .returned (.bool true) ∧ w' = w := by
 go_enter Tryz.func19, Tryz.ntmps19
 go_wp2_with (go_at_call 27; refine (code_nil _).mono ?_; rintro e w' ⟨rfl, hh⟩; subst hh)
 go_ret
 exact ⟨rfl, rfl⟩
set_option maxRecDepth 100000 in
theorem many_any (w : World) (a1 a2 : Option Addr) (l1 l2 c1 c2 : Nat) (t : Int) (h1 : l1 ≤ 9223372036854775807) (h2 : l2 ≤ 9223372036854775807) :
  Calls Tryz.prog 14 #[.slice a1 l1 c1, .slice a2 l2 c2, .int .i64 t] w fun e w' => w' = w ∧ (e = .returned (.int .i64 1) ∨ (e = .returned (.int .i64 0) ∧ l1 ≤ 8 ∧ l2 ≤ 30 ∧ 0 ≤ t ∧ t ≤ 60)) := by
 have h1' : (l1 : Int) ≤ 9223372036854775807 := by omega
 have h2' : (l2 : Int) ≤ 9223372036854775807 := by omega
 by_cases k1 : 8 < l1
 ·have k1' : (8 : Int) < l1 := by omega
  go_enter Tryz.func14, Tryz.ntmps14
  go_wp2
  go_ret
  exact ⟨rfl, Or.inl rfl⟩
 ·have k1' : ¬ (8 : Int) < l1 := by omega
  by_cases k2 : 30 < l2
  ·have k2' : (30 : Int) < l2 := by omega
   go_enter Tryz.func14, Tryz.ntmps14
   go_wp2
   go_ret
   exact ⟨rfl, Or.inl rfl⟩
  ·have k2' : ¬ (30 : Int) < l2 := by omega
   by_cases k3 : t < 0
   ·go_enter Tryz.func14, Tryz.ntmps14
    go_wp2
    go_ret
    exact ⟨rfl, Or.inl rfl⟩
   ·by_cases k4 : 60 < t
    ·go_enter Tryz.func14, Tryz.ntmps14
     go_wp2
     go_ret
     exact ⟨rfl, Or.inl rfl⟩
    ·go_enter Tryz.func14, Tryz.ntmps14
     go_wp2
     go_ret
     exact ⟨rfl, Or.inr ⟨rfl, by omega, by omega⟩⟩
end Go.Proofs.YtlgejjmdanmglaaGreatDoor
