/-
  Our own: errors.Is and errors.As at what package plain hands them: a sentinel of errors.New's make, or a pointer to an api.Fault that holds one. Go's own text of both is walked.
-/
import Derived.Test.YtcebpmaggnephacDoorProg
import Derived.WalkKit
import Derived.LaidEql
import Derived.Stop.Asserts
import Derived.RowKitTokens
namespace Go.Proofs.YtcebpmaggnephacDoor
open Go.RowKit Go.Extern.Stop Go.Stop Go.Extern

/-! ### Closed facts on the model's entries, at this translation's numbers -/
theorem c_typeOfS (v : Value) (w : World) : (Extern.ReflectliteType.typeOf #[.iface 161 v]).run Tryd.prog w = .ok (.iface 136 (.agg #[.pointer (some ⟨12, 161, none⟩)])) w := by kernel_rfl
theorem c_typeOfF (v : Value) (w : World) : (Extern.ReflectliteType.typeOf #[.iface 70 v]).run Tryd.prog w = .ok (.iface 136 (.agg #[.pointer (some ⟨12, 70, none⟩)])) w := by kernel_rfl
theorem c_callComparable (w : World) : Sem.run Tryd.prog (callFunc 112 #[.agg #[.pointer (some ⟨12, 161, none⟩)]]) w = .ok (Next.value (.bool true)) w := by
  have h := @run_callFunc_extern Tryd.prog 112 _ (Extern.ReflectliteType.method fun t => do Extern.Rtype.noPackHeld "Comparable" t; pure (.bool (← typeInfo t).comparable)) Tryd.func112 (by kernel_rfl) (by kernel_rfl) (by kernel_rfl) (by kernel_rfl)
  have e : ((Extern.ReflectliteType.method fun t => do Extern.Rtype.noPackHeld "Comparable" t; pure (.bool (← typeInfo t).comparable)) #[.agg #[.pointer (some ⟨12, 161, none⟩)]]).run Tryd.prog w = .ok (.bool true) w := by kernel_rfl
  rw [h, e]; rfl
theorem c_mComparable (v : Value) (w : World) : (Go.method 294 136 v "Comparable").run Tryd.prog w = .ok (112, v) w := by kernel_rfl
theorem c_comp : (Tryd.prog.info? 161).map (·.comparable) = some true := by kernel_rfl
theorem c_size : (Tryd.prog.info? 183).map (·.size) = some 1 := by kernel_rfl

theorem c_noIsS (v : Value) (xT : TypeId) (w : World) : (Instr.typeAssert (.iface 161 v) xT 147 true).run Tryd.prog w = .ok (.tuple #[.nilIface, .bool false]) w := run_typeAssert_lacksB Tryd.underlying147 (by kernel_rfl) (by kernel_rfl) v xT w
theorem c_noAsS (v : Value) (xT : TypeId) (w : World) : (Instr.typeAssert (.iface 161 v) xT 140 true).run Tryd.prog w = .ok (.tuple #[.nilIface, .bool false]) w := run_typeAssert_lacksB Tryd.underlying140 (by kernel_rfl) (by kernel_rfl) v xT w
theorem c_noUnS (v : Value) (xT : TypeId) (w : World) : (Instr.typeAssert (.iface 161 v) xT 143 true).run Tryd.prog w = .ok (.tuple #[.nilIface, .bool false]) w := run_typeAssert_lacksB Tryd.underlying143 (by kernel_rfl) (by kernel_rfl) v xT w
theorem c_noUnsS (v : Value) (xT : TypeId) (w : World) : (Instr.typeAssert (.iface 161 v) xT 145 true).run Tryd.prog w = .ok (.tuple #[.nilIface, .bool false]) w := run_typeAssert_lacksB Tryd.underlying145 (by kernel_rfl) (by kernel_rfl) v xT w
theorem c_noIsF (v : Value) (xT : TypeId) (w : World) : (Instr.typeAssert (.iface 70 v) xT 147 true).run Tryd.prog w = .ok (.tuple #[.nilIface, .bool false]) w := run_typeAssert_lacksB Tryd.underlying147 (by kernel_rfl) (by kernel_rfl) v xT w
theorem c_hasUnF (v : Value) (xT : TypeId) (w : World) : (Instr.typeAssert (.iface 70 v) xT 143 true).run Tryd.prog w = .ok (.tuple #[.iface 70 v, .bool true]) w := run_typeAssert_hasB Tryd.underlying143 (by kernel_rfl) v xT w
theorem c_mUnwrap (v : Value) (w : World) : (Go.method 294 70 v "Unwrap").run Tryd.prog w = .ok (106, v) w := by kernel_rfl

/-- errors.Is(x, x), x a pointer to an errors.errorString. -/
theorem is_same (a : Addr) (w : World) :
    Calls Tryd.prog 48 #[.iface 161 (.pointer (some a)), .iface 161 (.pointer (some a))] w fun e w' => e = .returned (.bool true) ∧ w' = w := by
  obtain ⟨i, hi, hcmp⟩ := Option.map_eq_some_iff.1 c_comp
  obtain ⟨j, hj, hjs⟩ := Option.map_eq_some_iff.1 c_size
  have h8 := @run_callFunc_extern Tryd.prog 58 _ Extern.ReflectliteType.typeOf Tryd.func58 (by kernel_rfl) (by kernel_rfl) (by kernel_rfl) (by kernel_rfl)
  have tT := c_typeOfS
  have cT := c_callComparable
  have mR := c_mComparable
  have heq := run_eql_iface_ptr_same (P := Tryd.prog) w a Tryd.underlying28 Tryd.underlying161 hi hcmp hj
  go_enter Tryd.func48, Tryd.ntmps48
  go_wp2
  refine wp_loop_rounds 1 ?_
  rw [rounds_succ]
  go_wp2
  go_ret
  exact ⟨rfl, rfl⟩

/-- errors.Is(x, y), two different pointers to errors.errorString. -/
theorem is_other (a b : Addr) (ca cb : Array Value) (ta tb : TypeId) (w : World) (hne : a ≠ b) (ha : w.heap[a.block]? = some (.cells ca ta (0, 0))) (hb : w.heap[b.block]? = some (.cells cb tb (0, 0))) :
    Calls Tryd.prog 48 #[.iface 161 (.pointer (some a)), .iface 161 (.pointer (some b))] w fun e w' => e = .returned (.bool false) ∧ w' = w := by
  obtain ⟨i, hi, hcmp⟩ := Option.map_eq_some_iff.1 c_comp
  obtain ⟨j, hj, hjs⟩ := Option.map_eq_some_iff.1 c_size
  have h8 := @run_callFunc_extern Tryd.prog 58 _ Extern.ReflectliteType.typeOf Tryd.func58 (by kernel_rfl) (by kernel_rfl) (by kernel_rfl) (by kernel_rfl)
  have tT := c_typeOfS
  have cT := c_callComparable
  have mR := c_mComparable
  have nE := c_noIsS
  have uE := c_noUnS
  have vE := c_noUnsS
  have heq := run_eql_iface_ptr_other (P := Tryd.prog) w Tryd.underlying28 Tryd.underlying161 hi hcmp hj (by rw [hjs]; decide) hne ha hb
  go_enter Tryd.func48, Tryd.ntmps48
  go_wp2
  refine wp_loop_rounds 1 ?_
  rw [rounds_succ]
  go_wp2
  go_ret
  exact ⟨rfl, rfl⟩

/-- errors.Is(e, x), e a pointer to an api.Fault that holds x itself. -/
theorem is_fault_same (pb po : Nat) (b : Addr) (w : World) (h1 : w.cell? ⟨pb, po + 1, none⟩ = some (.iface 161 (.pointer (some b)))) :
    Calls Tryd.prog 48 #[.iface 70 (.pointer (some ⟨pb, po, none⟩)), .iface 161 (.pointer (some b))] w fun e w' => e = .returned (.bool true) ∧ w' = w := by
  obtain ⟨i, hi, hcmp⟩ := Option.map_eq_some_iff.1 c_comp
  obtain ⟨j, hj, hjs⟩ := Option.map_eq_some_iff.1 c_size
  have h8 := @run_callFunc_extern Tryd.prog 58 _ Extern.ReflectliteType.typeOf Tryd.func58 (by kernel_rfl) (by kernel_rfl) (by kernel_rfl) (by kernel_rfl)
  have tT := c_typeOfS
  have cT := c_callComparable
  have mR := c_mComparable
  have nW := c_noIsF
  have uW := c_hasUnF
  have mU := c_mUnwrap
  have heq := run_eql_iface_ptr_same (P := Tryd.prog) w b Tryd.underlying28 Tryd.underlying161 hi hcmp hj
  have hty := run_eql_iface_types (P := Tryd.prog) 70 161 (.pointer (some ⟨pb, po, none⟩)) (.pointer (some b)) Tryd.underlying28 (by decide) w
  go_enter Tryd.func48, Tryd.ntmps48
  go_wp2
  refine wp_loop_rounds 2 ?_
  rw [rounds_succ]
  go_wp2
  rw [rounds_succ]
  go_wp2
  go_ret
  exact ⟨rfl, rfl⟩

/-- errors.Is(e, x), e a pointer to an api.Fault that holds another error of errors.New's make. -/
theorem is_fault_other (pb po : Nat) (b a : Addr) (ca cb : Array Value) (ta tb : TypeId) (w : World) (h1 : w.cell? ⟨pb, po + 1, none⟩ = some (.iface 161 (.pointer (some a)))) (hne : a ≠ b) (ha : w.heap[a.block]? = some (.cells ca ta (0, 0))) (hb : w.heap[b.block]? = some (.cells cb tb (0, 0))) :
    Calls Tryd.prog 48 #[.iface 70 (.pointer (some ⟨pb, po, none⟩)), .iface 161 (.pointer (some b))] w fun e w' => e = .returned (.bool false) ∧ w' = w := by
  obtain ⟨i, hi, hcmp⟩ := Option.map_eq_some_iff.1 c_comp
  obtain ⟨j, hj, hjs⟩ := Option.map_eq_some_iff.1 c_size
  have h8 := @run_callFunc_extern Tryd.prog 58 _ Extern.ReflectliteType.typeOf Tryd.func58 (by kernel_rfl) (by kernel_rfl) (by kernel_rfl) (by kernel_rfl)
  have tT := c_typeOfS
  have cT := c_callComparable
  have mR := c_mComparable
  have nE := c_noIsS
  have uE := c_noUnS
  have vE := c_noUnsS
  have nW := c_noIsF
  have uW := c_hasUnF
  have mU := c_mUnwrap
  have heq := run_eql_iface_ptr_other (P := Tryd.prog) w Tryd.underlying28 Tryd.underlying161 hi hcmp hj (by rw [hjs]; decide) hne ha hb
  have hty := run_eql_iface_types (P := Tryd.prog) 70 161 (.pointer (some ⟨pb, po, none⟩)) (.pointer (some b)) Tryd.underlying28 (by decide) w
  go_enter Tryd.func48, Tryd.ntmps48
  go_wp2
  refine wp_loop_rounds 2 ?_
  rw [rounds_succ]
  go_wp2
  rw [rounds_succ]
  go_wp2
  go_ret
  exact ⟨rfl, rfl⟩
end Go.Proofs.YtcebpmaggnephacDoor
