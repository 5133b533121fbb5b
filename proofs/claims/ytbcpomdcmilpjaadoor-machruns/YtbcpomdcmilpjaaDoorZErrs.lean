/- Our own: texts joined: Errs. -/
import Derived.Test.YtbcpomdcmilpjaaDoorProg
import Derived.WalkKit
import Derived.LaidEql
import Derived.Stop.Asserts
import Derived.RowKitTokens
namespace Go.Proofs.YtbcpomdcmilpjaaDoor
open Go.RowKit Go.Extern.Stop Go.Stop Go.Extern
theorem c_typeOfS (v : Value) (w : World) : (Extern.ReflectliteType.typeOf #[.iface 156 v]).run Tryd.prog w = .ok (.iface 140 (.agg #[.pointer (some ⟨12, 156, none⟩)])) w := by kernel_rfl
theorem c_typeOfF (v : Value) (w : World) : (Extern.ReflectliteType.typeOf #[.iface 86 v]).run Tryd.prog w = .ok (.iface 140 (.agg #[.pointer (some ⟨12, 86, none⟩)])) w := by kernel_rfl
theorem c_callComparable (w : World) : Sem.run Tryd.prog (callFunc 96 #[.agg #[.pointer (some ⟨12, 156, none⟩)]]) w = .ok (Next.value (.bool true)) w := by
 have h := @run_callFunc_extern Tryd.prog 96 _ (Extern.ReflectliteType.method fun t => do Extern.Rtype.noPackHeld "Comparable" t; pure (.bool (← typeInfo t).comparable)) Tryd.func96 (by kernel_rfl) (by kernel_rfl) (by kernel_rfl) (by kernel_rfl)
 have e : ((Extern.ReflectliteType.method fun t => do Extern.Rtype.noPackHeld "Comparable" t; pure (.bool (← typeInfo t).comparable)) #[.agg #[.pointer (some ⟨12, 156, none⟩)]]).run Tryd.prog w = .ok (.bool true) w := by kernel_rfl
 rw [h, e]; rfl
theorem c_mComparable (v : Value) (w : World) : (Go.method 289 140 v "Comparable").run Tryd.prog w = .ok (96, v) w := by kernel_rfl
theorem c_comp : (Tryd.prog.info? 156).map (·.comparable) = some true := by kernel_rfl
theorem c_size : (Tryd.prog.info? 177).map (·.size) = some 1 := by kernel_rfl
theorem c_noIsS (v : Value) (xT : TypeId) (w : World) : (Instr.typeAssert (.iface 156 v) xT 151 true).run Tryd.prog w = .ok (.tuple #[.nilIface, .bool false]) w := run_typeAssert_lacksB Tryd.underlying151 (by kernel_rfl) (by kernel_rfl) v xT w
theorem c_noAsS (v : Value) (xT : TypeId) (w : World) : (Instr.typeAssert (.iface 156 v) xT 144 true).run Tryd.prog w = .ok (.tuple #[.nilIface, .bool false]) w := run_typeAssert_lacksB Tryd.underlying144 (by kernel_rfl) (by kernel_rfl) v xT w
theorem c_noUnS (v : Value) (xT : TypeId) (w : World) : (Instr.typeAssert (.iface 156 v) xT 147 true).run Tryd.prog w = .ok (.tuple #[.nilIface, .bool false]) w := run_typeAssert_lacksB Tryd.underlying147 (by kernel_rfl) (by kernel_rfl) v xT w
theorem c_noUnsS (v : Value) (xT : TypeId) (w : World) : (Instr.typeAssert (.iface 156 v) xT 149 true).run Tryd.prog w = .ok (.tuple #[.nilIface, .bool false]) w := run_typeAssert_lacksB Tryd.underlying149 (by kernel_rfl) (by kernel_rfl) v xT w
theorem c_noIsF (v : Value) (xT : TypeId) (w : World) : (Instr.typeAssert (.iface 86 v) xT 151 true).run Tryd.prog w = .ok (.tuple #[.nilIface, .bool false]) w := run_typeAssert_lacksB Tryd.underlying151 (by kernel_rfl) (by kernel_rfl) v xT w
theorem c_hasUnF (v : Value) (xT : TypeId) (w : World) : (Instr.typeAssert (.iface 86 v) xT 147 true).run Tryd.prog w = .ok (.tuple #[.iface 86 v, .bool true]) w := run_typeAssert_hasB Tryd.underlying147 (by kernel_rfl) v xT w
theorem c_mUnwrap (v : Value) (w : World) : (Go.method 289 86 v "Unwrap").run Tryd.prog w = .ok (90, v) w := by kernel_rfl
theorem is_same (a : Addr) (w : World) :
  Calls Tryd.prog 40 #[.iface 156 (.pointer (some a)), .iface 156 (.pointer (some a))] w fun e w' => e = .returned (.bool true) ∧ w' = w := by
 obtain ⟨i, hi, hcmp⟩ := Option.map_eq_some_iff.1 c_comp
 obtain ⟨j, hj, hjs⟩ := Option.map_eq_some_iff.1 c_size
 have h8 := @run_callFunc_extern Tryd.prog 56 _ Extern.ReflectliteType.typeOf Tryd.func56 (by kernel_rfl) (by kernel_rfl) (by kernel_rfl) (by kernel_rfl)
 have tT := c_typeOfS
 have cT := c_callComparable
 have mR := c_mComparable
 have heq := run_eql_iface_ptr_same (P := Tryd.prog) w a Tryd.underlying42 Tryd.underlying156 hi hcmp hj
 go_enter Tryd.func40, Tryd.ntmps40
 go_wp2
 refine wp_loop_rounds 1 ?_
 rw [rounds_succ]
 go_wp2
 go_ret
 exact ⟨rfl, rfl⟩
theorem is_other (a b : Addr) (ca cb : Array Value) (ta tb : TypeId) (w : World) (hne : a ≠ b) (ha : w.heap[a.block]? = some (.cells ca ta (0, 0))) (hb : w.heap[b.block]? = some (.cells cb tb (0, 0))) :
  Calls Tryd.prog 40 #[.iface 156 (.pointer (some a)), .iface 156 (.pointer (some b))] w fun e w' => e = .returned (.bool false) ∧ w' = w := by
 obtain ⟨i, hi, hcmp⟩ := Option.map_eq_some_iff.1 c_comp
 obtain ⟨j, hj, hjs⟩ := Option.map_eq_some_iff.1 c_size
 have h8 := @run_callFunc_extern Tryd.prog 56 _ Extern.ReflectliteType.typeOf Tryd.func56 (by kernel_rfl) (by kernel_rfl) (by kernel_rfl) (by kernel_rfl)
 have tT := c_typeOfS
 have cT := c_callComparable
 have mR := c_mComparable
 have nE := c_noIsS
 have uE := c_noUnS
 have vE := c_noUnsS
 have heq := run_eql_iface_ptr_other (P := Tryd.prog) w Tryd.underlying42 Tryd.underlying156 hi hcmp hj (by rw [hjs]; decide) hne ha hb
 go_enter Tryd.func40, Tryd.ntmps40
 go_wp2
 refine wp_loop_rounds 1 ?_
 rw [rounds_succ]
 go_wp2
 go_ret
 exact ⟨rfl, rfl⟩
theorem is_fault_same (pb po : Nat) (b : Addr) (w : World) (h1 : w.cell? ⟨pb, po + 1, none⟩ = some (.iface 156 (.pointer (some b)))) :
  Calls Tryd.prog 40 #[.iface 86 (.pointer (some ⟨pb, po, none⟩)), .iface 156 (.pointer (some b))] w fun e w' => e = .returned (.bool true) ∧ w' = w := by
 obtain ⟨i, hi, hcmp⟩ := Option.map_eq_some_iff.1 c_comp
 obtain ⟨j, hj, hjs⟩ := Option.map_eq_some_iff.1 c_size
 have h8 := @run_callFunc_extern Tryd.prog 56 _ Extern.ReflectliteType.typeOf Tryd.func56 (by kernel_rfl) (by kernel_rfl) (by kernel_rfl) (by kernel_rfl)
 have tT := c_typeOfS
 have cT := c_callComparable
 have mR := c_mComparable
 have nW := c_noIsF
 have uW := c_hasUnF
 have mU := c_mUnwrap
 have heq := run_eql_iface_ptr_same (P := Tryd.prog) w b Tryd.underlying42 Tryd.underlying156 hi hcmp hj
 have hty := run_eql_iface_types (P := Tryd.prog) 86 156 (.pointer (some ⟨pb, po, none⟩)) (.pointer (some b)) Tryd.underlying42 (by decide) w
 go_enter Tryd.func40, Tryd.ntmps40
 go_wp2
 refine wp_loop_rounds 2 ?_
 rw [rounds_succ]
 go_wp2
 rw [rounds_succ]
 go_wp2
 go_ret
 exact ⟨rfl, rfl⟩
theorem is_fault_other (pb po : Nat) (b a : Addr) (ca cb : Array Value) (ta tb : TypeId) (w : World) (h1 : w.cell? ⟨pb, po + 1, none⟩ = some (.iface 156 (.pointer (some a)))) (hne : a ≠ b) (ha : w.heap[a.block]? = some (.cells ca ta (0, 0))) (hb : w.heap[b.block]? = some (.cells cb tb (0, 0))) :
  Calls Tryd.prog 40 #[.iface 86 (.pointer (some ⟨pb, po, none⟩)), .iface 156 (.pointer (some b))] w fun e w' => e = .returned (.bool false) ∧ w' = w := by
 obtain ⟨i, hi, hcmp⟩ := Option.map_eq_some_iff.1 c_comp
 obtain ⟨j, hj, hjs⟩ := Option.map_eq_some_iff.1 c_size
 have h8 := @run_callFunc_extern Tryd.prog 56 _ Extern.ReflectliteType.typeOf Tryd.func56 (by kernel_rfl) (by kernel_rfl) (by kernel_rfl) (by kernel_rfl)
 have tT := c_typeOfS
 have cT := c_callComparable
 have mR := c_mComparable
 have nE := c_noIsS
 have uE := c_noUnS
 have vE := c_noUnsS
 have nW := c_noIsF
 have uW := c_hasUnF
 have mU := c_mUnwrap
 have heq := run_eql_iface_ptr_other (P := Tryd.prog) w Tryd.underlying42 Tryd.underlying156 hi hcmp hj (by rw [hjs]; decide) hne ha hb
 have hty := run_eql_iface_types (P := Tryd.prog) 86 156 (.pointer (some ⟨pb, po, none⟩)) (.pointer (some b)) Tryd.underlying42 (by decide) w
 go_enter Tryd.func40, Tryd.ntmps40
 go_wp2
 refine wp_loop_rounds 2 ?_
 rw [rounds_succ]
 go_wp2
 rw [rounds_succ]
 go_wp2
 go_ret
 exact ⟨rfl, rfl⟩
end Go.Proofs.YtbcpomdcmilpjaaDoor
