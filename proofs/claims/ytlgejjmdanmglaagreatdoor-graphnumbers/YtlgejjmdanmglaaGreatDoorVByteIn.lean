/- Our own: texts joined: ByteIn. -/
import Derived.Test.YtlgejjmdanmglaaGreatDoorVBase
import Derived.Lib.Bytealg
import Derived.Lib.Strings
import Derived.Lib.Walk
namespace Go.Proofs.YtlgejjmdanmglaaGreatDoor
open Go.RowKit
set_option maxRecDepth 100000 in
theorem lite_byte (s : ByteArray) (c : Int) (w : World) :
  Calls Tryz.prog 103 #[.string s, .int .u8 c] w fun e w' => e = .returned (.int .i64 (Lib.indexByte s.data.toList c.toNat.toUInt8)) ∧ w' = w := by
 go_enter Tryz.func103, Tryz.ntmps103
 go_wp2
 rw [run_callFunc_extern Tryz.func106 (by kernel_rfl) (by kernel_rfl) (by kernel_rfl) (e := Extern.BytealgIndexByte.indexByte) (by kernel_rfl), Lib.run_indexByteString]
 simp only [Result.andThen]
 rw [Oper.upon_value]
 go_wp2
 go_ret
 exact ⟨rfl, rfl⟩
theorem index_byte (s : ByteArray) (c : Int) (w : World) :
  Calls Tryz.prog 89 #[.string s, .int .u8 c] w fun e w' => e = .returned (.int .i64 (Lib.indexByte s.data.toList c.toNat.toUInt8)) ∧ w' = w := by
 go_enter Tryz.func89, Tryz.ntmps89
 go_wp2_with (go_at_call 103; refine (lite_byte _ _ _).mono ?_; rintro e w' ⟨rfl, rfl⟩)
 go_ret
 exact ⟨rfl, rfl⟩
theorem index_mem (c : UInt8) : ∀ l : List UInt8, 0 ≤ Lib.indexByte l c ↔ c ∈ l
 | [] => by simp [Lib.indexByte]
 | b :: l => by
  have ih := index_mem c l
  have hg := Lib.indexByte_ge l c
  unfold Lib.indexByte
  by_cases h : b = c
  ·simp [h]
  ·have h' : (b == c) = false := by simpa using h
   simp only [h', Bool.false_eq_true, if_false, List.mem_cons]
   by_cases hm : c ∈ l
   ·have := ih.2 hm
    have hne : (Lib.indexByte l c == -1) = false := by simp; omega
    simp only [hne, Bool.false_eq_true, if_false]
    exact ⟨fun _ => Or.inr hm, fun _ => by omega⟩
   ·have hlt : Lib.indexByte l c = -1 := by have : ¬ 0 ≤ Lib.indexByte l c := fun x => hm (ih.1 x); omega
    simp [hlt, hm, Ne.symm h]
end Go.Proofs.YtlgejjmdanmglaaGreatDoor
