/- Our own: texts joined: MrHasOf. -/
import Derived.Test.YtbcpomdcmilpjaaDoorXMrHs
namespace Go.Proofs.YtbcpomdcmilpjaaDoor
open Go.RowKit
set_option maxRecDepth 100000 in
theorem rHas_0 (w : World) : Calls Tryd.prog 45 #[.string ⟨([99, 111, 110, 115, 116] : List UInt8).toArray⟩] w fun e w' => e = .returned (.string ⟨(hasS (coL[0]'(by decide))).toArray⟩) ∧ w' = w := by
 go_enter Tryd.func45, Tryd.ntmps45
 go_wp2
 go_ret
 exact ⟨rfl, rfl⟩
set_option maxRecDepth 100000 in
theorem rHas_1 (w : World) : Calls Tryd.prog 45 #[.string ⟨([104, 105, 103, 104] : List UInt8).toArray⟩] w fun e w' => e = .returned (.string ⟨(hasS (coL[1]'(by decide))).toArray⟩) ∧ w' = w := by
 go_enter Tryd.func45, Tryd.ntmps45
 go_wp2
 go_ret
 exact ⟨rfl, rfl⟩
set_option maxRecDepth 100000 in
theorem rHas_2 (w : World) : Calls Tryd.prog 45 #[.string ⟨([109, 111, 118, 101] : List UInt8).toArray⟩] w fun e w' => e = .returned (.string ⟨(hasS (coL[2]'(by decide))).toArray⟩) ∧ w' = w := by
 go_enter Tryd.func45, Tryd.ntmps45
 go_wp2
 go_ret
 exact ⟨rfl, rfl⟩
set_option maxRecDepth 100000 in
theorem rHas_3 (w : World) : Calls Tryd.prog 45 #[.string ⟨([108, 111, 97, 100] : List UInt8).toArray⟩] w fun e w' => e = .returned (.string ⟨(hasS (coL[3]'(by decide))).toArray⟩) ∧ w' = w := by
 go_enter Tryd.func45, Tryd.ntmps45
 go_wp2
 go_ret
 exact ⟨rfl, rfl⟩
set_option maxRecDepth 100000 in
theorem rHas_4 (w : World) : Calls Tryd.prog 45 #[.string ⟨([115, 116, 111, 114, 101] : List UInt8).toArray⟩] w fun e w' => e = .returned (.string ⟨(hasS (coL[4]'(by decide))).toArray⟩) ∧ w' = w := by
 go_enter Tryd.func45, Tryd.ntmps45
 go_wp2
 go_ret
 exact ⟨rfl, rfl⟩
set_option maxRecDepth 100000 in
theorem rHas_5 (w : World) : Calls Tryd.prog 45 #[.string ⟨([112, 97, 114, 97, 109] : List UInt8).toArray⟩] w fun e w' => e = .returned (.string ⟨(hasS (coL[5]'(by decide))).toArray⟩) ∧ w' = w := by
 go_enter Tryd.func45, Tryd.ntmps45
 go_wp2
 go_ret
 exact ⟨rfl, rfl⟩
set_option maxRecDepth 100000 in
theorem rHas_6 (w : World) : Calls Tryd.prog 45 #[.string ⟨([97, 114, 103] : List UInt8).toArray⟩] w fun e w' => e = .returned (.string ⟨(hasS (coL[6]'(by decide))).toArray⟩) ∧ w' = w := by
 go_enter Tryd.func45, Tryd.ntmps45
 go_wp2
 go_ret
 exact ⟨rfl, rfl⟩
set_option maxRecDepth 100000 in
theorem rHas_7 (w : World) : Calls Tryd.prog 45 #[.string ⟨([99, 97, 108, 108] : List UInt8).toArray⟩] w fun e w' => e = .returned (.string ⟨(hasS (coL[7]'(by decide))).toArray⟩) ∧ w' = w := by
 go_enter Tryd.func45, Tryd.ntmps45
 go_wp2
 go_ret
 exact ⟨rfl, rfl⟩
set_option maxRecDepth 100000 in
theorem rHas_8 (w : World) : Calls Tryd.prog 45 #[.string ⟨([116, 105, 99, 107] : List UInt8).toArray⟩] w fun e w' => e = .returned (.string ⟨(hasS (coL[8]'(by decide))).toArray⟩) ∧ w' = w := by
 go_enter Tryd.func45, Tryd.ntmps45
 go_wp2
 go_ret
 exact ⟨rfl, rfl⟩
set_option maxRecDepth 100000 in
theorem rHas_9 (w : World) : Calls Tryd.prog 45 #[.string ⟨([112, 114, 105, 110, 116] : List UInt8).toArray⟩] w fun e w' => e = .returned (.string ⟨(hasS (coL[9]'(by decide))).toArray⟩) ∧ w' = w := by
 go_enter Tryd.func45, Tryd.ntmps45
 go_wp2
 go_ret
 exact ⟨rfl, rfl⟩
set_option maxRecDepth 100000 in
theorem rHas_10 (w : World) : Calls Tryd.prog 45 #[.string ⟨([106, 117, 109, 112] : List UInt8).toArray⟩] w fun e w' => e = .returned (.string ⟨(hasS (coL[10]'(by decide))).toArray⟩) ∧ w' = w := by
 go_enter Tryd.func45, Tryd.ntmps45
 go_wp2
 go_ret
 exact ⟨rfl, rfl⟩
set_option maxRecDepth 100000 in
theorem rHas_11 (w : World) : Calls Tryd.prog 45 #[.string ⟨([105, 102] : List UInt8).toArray⟩] w fun e w' => e = .returned (.string ⟨(hasS (coL[11]'(by decide))).toArray⟩) ∧ w' = w := by
 go_enter Tryd.func45, Tryd.ntmps45
 go_wp2
 go_ret
 exact ⟨rfl, rfl⟩
set_option maxRecDepth 100000 in
theorem rHas_12 (w : World) : Calls Tryd.prog 45 #[.string ⟨([114, 101, 116, 117, 114, 110] : List UInt8).toArray⟩] w fun e w' => e = .returned (.string ⟨(hasS (coL[12]'(by decide))).toArray⟩) ∧ w' = w := by
 go_enter Tryd.func45, Tryd.ntmps45
 go_wp2
 go_ret
 exact ⟨rfl, rfl⟩
set_option maxRecDepth 100000 in
theorem rHas_13 (w : World) : Calls Tryd.prog 45 #[.string ⟨([110, 101, 103] : List UInt8).toArray⟩] w fun e w' => e = .returned (.string ⟨(hasS (coL[13]'(by decide))).toArray⟩) ∧ w' = w := by
 go_enter Tryd.func45, Tryd.ntmps45
 go_wp2
 go_ret
 exact ⟨rfl, rfl⟩
set_option maxRecDepth 100000 in
theorem rHas_14 (w : World) : Calls Tryd.prog 45 #[.string ⟨([110, 111, 116] : List UInt8).toArray⟩] w fun e w' => e = .returned (.string ⟨(hasS (coL[14]'(by decide))).toArray⟩) ∧ w' = w := by
 go_enter Tryd.func45, Tryd.ntmps45
 go_wp2
 go_ret
 exact ⟨rfl, rfl⟩
set_option maxRecDepth 100000 in
theorem rHas_15 (w : World) : Calls Tryd.prog 45 #[.string ⟨([97, 100, 100] : List UInt8).toArray⟩] w fun e w' => e = .returned (.string ⟨(hasS (coL[15]'(by decide))).toArray⟩) ∧ w' = w := by
 go_enter Tryd.func45, Tryd.ntmps45
 go_wp2
 go_ret
 exact ⟨rfl, rfl⟩
set_option maxRecDepth 100000 in
theorem rHas_16 (w : World) : Calls Tryd.prog 45 #[.string ⟨([115, 117, 98] : List UInt8).toArray⟩] w fun e w' => e = .returned (.string ⟨(hasS (coL[16]'(by decide))).toArray⟩) ∧ w' = w := by
 go_enter Tryd.func45, Tryd.ntmps45
 go_wp2
 go_ret
 exact ⟨rfl, rfl⟩
set_option maxRecDepth 100000 in
theorem rHas_17 (w : World) : Calls Tryd.prog 45 #[.string ⟨([109, 117, 108] : List UInt8).toArray⟩] w fun e w' => e = .returned (.string ⟨(hasS (coL[17]'(by decide))).toArray⟩) ∧ w' = w := by
 go_enter Tryd.func45, Tryd.ntmps45
 go_wp2
 go_ret
 exact ⟨rfl, rfl⟩
set_option maxRecDepth 100000 in
theorem rHas_18 (w : World) : Calls Tryd.prog 45 #[.string ⟨([100, 105, 118] : List UInt8).toArray⟩] w fun e w' => e = .returned (.string ⟨(hasS (coL[18]'(by decide))).toArray⟩) ∧ w' = w := by
 go_enter Tryd.func45, Tryd.ntmps45
 go_wp2
 go_ret
 exact ⟨rfl, rfl⟩
set_option maxRecDepth 100000 in
theorem rHas_19 (w : World) : Calls Tryd.prog 45 #[.string ⟨([114, 101, 109] : List UInt8).toArray⟩] w fun e w' => e = .returned (.string ⟨(hasS (coL[19]'(by decide))).toArray⟩) ∧ w' = w := by
 go_enter Tryd.func45, Tryd.ntmps45
 go_wp2
 go_ret
 exact ⟨rfl, rfl⟩
set_option maxRecDepth 100000 in
theorem rHas_20 (w : World) : Calls Tryd.prog 45 #[.string ⟨([97, 110, 100] : List UInt8).toArray⟩] w fun e w' => e = .returned (.string ⟨(hasS (coL[20]'(by decide))).toArray⟩) ∧ w' = w := by
 go_enter Tryd.func45, Tryd.ntmps45
 go_wp2
 go_ret
 exact ⟨rfl, rfl⟩
set_option maxRecDepth 100000 in
theorem rHas_21 (w : World) : Calls Tryd.prog 45 #[.string ⟨([111, 114] : List UInt8).toArray⟩] w fun e w' => e = .returned (.string ⟨(hasS (coL[21]'(by decide))).toArray⟩) ∧ w' = w := by
 go_enter Tryd.func45, Tryd.ntmps45
 go_wp2
 go_ret
 exact ⟨rfl, rfl⟩
set_option maxRecDepth 100000 in
theorem rHas_22 (w : World) : Calls Tryd.prog 45 #[.string ⟨([120, 111, 114] : List UInt8).toArray⟩] w fun e w' => e = .returned (.string ⟨(hasS (coL[22]'(by decide))).toArray⟩) ∧ w' = w := by
 go_enter Tryd.func45, Tryd.ntmps45
 go_wp2
 go_ret
 exact ⟨rfl, rfl⟩
set_option maxRecDepth 100000 in
theorem rHas_23 (w : World) : Calls Tryd.prog 45 #[.string ⟨([115, 104, 108] : List UInt8).toArray⟩] w fun e w' => e = .returned (.string ⟨(hasS (coL[23]'(by decide))).toArray⟩) ∧ w' = w := by
 go_enter Tryd.func45, Tryd.ntmps45
 go_wp2
 go_ret
 exact ⟨rfl, rfl⟩
set_option maxRecDepth 100000 in
theorem rHas_24 (w : World) : Calls Tryd.prog 45 #[.string ⟨([115, 104, 114] : List UInt8).toArray⟩] w fun e w' => e = .returned (.string ⟨(hasS (coL[24]'(by decide))).toArray⟩) ∧ w' = w := by
 go_enter Tryd.func45, Tryd.ntmps45
 go_wp2
 go_ret
 exact ⟨rfl, rfl⟩
set_option maxRecDepth 100000 in
theorem rHas_25 (w : World) : Calls Tryd.prog 45 #[.string ⟨([108, 101, 115, 115] : List UInt8).toArray⟩] w fun e w' => e = .returned (.string ⟨(hasS (coL[25]'(by decide))).toArray⟩) ∧ w' = w := by
 go_enter Tryd.func45, Tryd.ntmps45
 go_wp2
 go_ret
 exact ⟨rfl, rfl⟩
set_option maxRecDepth 100000 in
theorem rHas_26 (w : World) : Calls Tryd.prog 45 #[.string ⟨([109, 111, 115, 116] : List UInt8).toArray⟩] w fun e w' => e = .returned (.string ⟨(hasS (coL[26]'(by decide))).toArray⟩) ∧ w' = w := by
 go_enter Tryd.func45, Tryd.ntmps45
 go_wp2
 go_ret
 exact ⟨rfl, rfl⟩
set_option maxRecDepth 100000 in
theorem rHas_27 (w : World) : Calls Tryd.prog 45 #[.string ⟨([115, 97, 109, 101] : List UInt8).toArray⟩] w fun e w' => e = .returned (.string ⟨(hasS (coL[27]'(by decide))).toArray⟩) ∧ w' = w := by
 go_enter Tryd.func45, Tryd.ntmps45
 go_wp2
 go_ret
 exact ⟨rfl, rfl⟩
set_option maxRecDepth 100000 in
theorem rHas_28 (w : World) : Calls Tryd.prog 45 #[.string ⟨([111, 116, 104, 101, 114] : List UInt8).toArray⟩] w fun e w' => e = .returned (.string ⟨(hasS (coL[28]'(by decide))).toArray⟩) ∧ w' = w := by
 go_enter Tryd.func45, Tryd.ntmps45
 go_wp2
 go_ret
 exact ⟨rfl, rfl⟩
end Go.Proofs.YtbcpomdcmilpjaaDoor
