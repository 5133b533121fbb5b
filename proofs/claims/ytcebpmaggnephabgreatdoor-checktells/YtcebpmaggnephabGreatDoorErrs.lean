/-
  Our own: errors.Is and errors.As at what package plain hands them: a sentinel of errors.New's make, or a pointer to an api.Fault that holds one. Go's own text of both is walked.
-/
import Derived.Test.YtcebpmaggnephabGreatDoorProg
import Derived.WalkKit
import Derived.LaidEql
import Derived.Stop.Asserts
import Derived.RowKitTokens
namespace Go.Proofs.YtcebpmaggnephabGreatDoor
open Go.RowKit Go.Extern.Stop Go.Stop Go.Extern

/-! ### Closed facts on the model's entries, at this translation's numbers -/
theorem c_typeOfS (v : Value) (w : World) : (Extern.ReflectliteType.typeOf #[.iface 208 v]).run Tryz.prog w = .ok (.iface 166 (.agg #[.pointer (some ⟨17, 208, none⟩)])) w := by kernel_rfl
theorem c_typeOfF (v : Value) (w : World) : (Extern.ReflectliteType.typeOf #[.iface 93 v]).run Tryz.prog w = .ok (.iface 166 (.agg #[.pointer (some ⟨17, 93, none⟩)])) w := by kernel_rfl
theorem c_callComparable (w : World) : Sem.run Tryz.prog (callFunc 181 #[.agg #[.pointer (some ⟨17, 208, none⟩)]]) w = .ok (Next.value (.bool true)) w := by
  have h := @run_callFunc_extern Tryz.prog 181 _ (Extern.ReflectliteType.method fun t => do Extern.Rtype.noPackHeld "Comparable" t; pure (.bool (← typeInfo t).comparable)) Tryz.func181 (by kernel_rfl) (by kernel_rfl) (by kernel_rfl) (by kernel_rfl)
  have e : ((Extern.ReflectliteType.method fun t => do Extern.Rtype.noPackHeld "Comparable" t; pure (.bool (← typeInfo t).comparable)) #[.agg #[.pointer (some ⟨17, 208, none⟩)]]).run Tryz.prog w = .ok (.bool true) w := by kernel_rfl
  rw [h, e]; rfl
theorem c_mComparable (v : Value) (w : World) : (Go.method 353 166 v "Comparable").run Tryz.prog w = .ok (181, v) w := by kernel_rfl
theorem c_comp : (Tryz.prog.info? 208).map (·.comparable) = some true := by kernel_rfl
theorem c_size : (Tryz.prog.info? 210).map (·.size) = some 1 := by kernel_rfl

theorem c_noIsS (v : Value) (xT : TypeId) (w : World) : (Instr.typeAssert (.iface 208 v) xT 177 true).run Tryz.prog w = .ok (.tuple #[.nilIface, .bool false]) w := run_typeAssert_lacksB Tryz.underlying177 (by kernel_rfl) (by kernel_rfl) v xT w
theorem c_noAsS (v : Value) (xT : TypeId) (w : World) : (Instr.typeAssert (.iface 208 v) xT 170 true).run Tryz.prog w = .ok (.tuple #[.nilIface, .bool false]) w := run_typeAssert_lacksB Tryz.underlying170 (by kernel_rfl) (by kernel_rfl) v xT w
theorem c_noUnS (v : Value) (xT : TypeId) (w : World) : (Instr.typeAssert (.iface 208 v) xT 173 true).run Tryz.prog w = .ok (.tuple #[.nilIface, .bool false]) w := run_typeAssert_lacksB Tryz.underlying173 (by kernel_rfl) (by kernel_rfl) v xT w
theorem c_noUnsS (v : Value) (xT : TypeId) (w : World) : (Instr.typeAssert (.iface 208 v) xT 175 true).run Tryz.prog w = .ok (.tuple #[.nilIface, .bool false]) w := run_typeAssert_lacksB Tryz.underlying175 (by kernel_rfl) (by kernel_rfl) v xT w
theorem c_noIsF (v : Value) (xT : TypeId) (w : World) : (Instr.typeAssert (.iface 93 v) xT 177 true).run Tryz.prog w = .ok (.tuple #[.nilIface, .bool false]) w := run_typeAssert_lacksB Tryz.underlying177 (by kernel_rfl) (by kernel_rfl) v xT w
theorem c_hasUnF (v : Value) (xT : TypeId) (w : World) : (Instr.typeAssert (.iface 93 v) xT 173 true).run Tryz.prog w = .ok (.tuple #[.iface 93 v, .bool true]) w := run_typeAssert_hasB Tryz.underlying173 (by kernel_rfl) v xT w
theorem c_mUnwrap (v : Value) (w : World) : (Go.method 353 93 v "Unwrap").run Tryz.prog w = .ok (175, v) w := by kernel_rfl

/-- errors.Is(x, x), x a pointer to an errors.errorString. -/
theorem is_same (a : Addr) (w : World) :
    Calls Tryz.prog 62 #[.iface 208 (.pointer (some a)), .iface 208 (.pointer (some a))] w fun e w' => e = .returned (.bool true) ∧ w' = w := by
  obtain ⟨i, hi, hcmp⟩ := Option.map_eq_some_iff.1 c_comp
  obtain ⟨j, hj, hjs⟩ := Option.map_eq_some_iff.1 c_size
  have h8 := @run_callFunc_extern Tryz.prog 90 _ Extern.ReflectliteType.typeOf Tryz.func90 (by kernel_rfl) (by kernel_rfl) (by kernel_rfl) (by kernel_rfl)
  have tT := c_typeOfS
  have cT := c_callComparable
  have mR := c_mComparable
  have heq := run_eql_iface_ptr_same (P := Tryz.prog) w a Tryz.underlying30 Tryz.underlying208 hi hcmp hj
  go_enter Tryz.func62, Tryz.ntmps62
  go_wp2
  refine wp_loop_rounds 1 ?_
  rw [rounds_succ]
  go_wp2
  go_ret
  exact ⟨rfl, rfl⟩

/-- errors.Is(x, y), two different pointers to errors.errorString. -/
theorem is_other (a b : Addr) (ca cb : Array Value) (ta tb : TypeId) (w : World) (hne : a ≠ b) (ha : w.heap[a.block]? = some (.cells ca ta (0, 0))) (hb : w.heap[b.block]? = some (.cells cb tb (0, 0))) :
    Calls Tryz.prog 62 #[.iface 208 (.pointer (some a)), .iface 208 (.pointer (some b))] w fun e w' => e = .returned (.bool false) ∧ w' = w := by
  obtain ⟨i, hi, hcmp⟩ := Option.map_eq_some_iff.1 c_comp
  obtain ⟨j, hj, hjs⟩ := Option.map_eq_some_iff.1 c_size
  have h8 := @run_callFunc_extern Tryz.prog 90 _ Extern.ReflectliteType.typeOf Tryz.func90 (by kernel_rfl) (by kernel_rfl) (by kernel_rfl) (by kernel_rfl)
  have tT := c_typeOfS
  have cT := c_callComparable
  have mR := c_mComparable
  have nE := c_noIsS
  have uE := c_noUnS
  have vE := c_noUnsS
  have heq := run_eql_iface_ptr_other (P := Tryz.prog) w Tryz.underlying30 Tryz.underlying208 hi hcmp hj (by rw [hjs]; decide) hne ha hb
  go_enter Tryz.func62, Tryz.ntmps62
  go_wp2
  refine wp_loop_rounds 1 ?_
  rw [rounds_succ]
  go_wp2
  go_ret
  exact ⟨rfl, rfl⟩

/-- errors.Is(e, x), e a pointer to an api.Fault that holds x itself. -/
theorem is_fault_same (pb po : Nat) (b : Addr) (w : World) (h1 : w.cell? ⟨pb, po + 1, none⟩ = some (.iface 208 (.pointer (some b)))) :
    Calls Tryz.prog 62 #[.iface 93 (.pointer (some ⟨pb, po, none⟩)), .iface 208 (.pointer (some b))] w fun e w' => e = .returned (.bool true) ∧ w' = w := by
  obtain ⟨i, hi, hcmp⟩ := Option.map_eq_some_iff.1 c_comp
  obtain ⟨j, hj, hjs⟩ := Option.map_eq_some_iff.1 c_size
  have h8 := @run_callFunc_extern Tryz.prog 90 _ Extern.ReflectliteType.typeOf Tryz.func90 (by kernel_rfl) (by kernel_rfl) (by kernel_rfl) (by kernel_rfl)
  have tT := c_typeOfS
  have cT := c_callComparable
  have mR := c_mComparable
  have nW := c_noIsF
  have uW := c_hasUnF
  have mU := c_mUnwrap
  have heq := run_eql_iface_ptr_same (P := Tryz.prog) w b Tryz.underlying30 Tryz.underlying208 hi hcmp hj
  have hty := run_eql_iface_types (P := Tryz.prog) 93 208 (.pointer (some ⟨pb, po, none⟩)) (.pointer (some b)) Tryz.underlying30 (by decide) w
  go_enter Tryz.func62, Tryz.ntmps62
  go_wp2
  refine wp_loop_rounds 2 ?_
  rw [rounds_succ]
  go_wp2
  rw [rounds_succ]
  go_wp2
  go_ret
  exact ⟨rfl, rfl⟩

/-- errors.Is(e, x), e a pointer to an api.Fault that holds another error of errors.New's make. -/
theorem is_fault_other (pb po : Nat) (b a : Addr) (ca cb : Array Value) (ta tb : TypeId) (w : World) (h1 : w.cell? ⟨pb, po + 1, none⟩ = some (.iface 208 (.pointer (some a)))) (hne : a ≠ b) (ha : w.heap[a.block]? = some (.cells ca ta (0, 0))) (hb : w.heap[b.block]? = some (.cells cb tb (0, 0))) :
    Calls Tryz.prog 62 #[.iface 93 (.pointer (some ⟨pb, po, none⟩)), .iface 208 (.pointer (some b))] w fun e w' => e = .returned (.bool false) ∧ w' = w := by
  obtain ⟨i, hi, hcmp⟩ := Option.map_eq_some_iff.1 c_comp
  obtain ⟨j, hj, hjs⟩ := Option.map_eq_some_iff.1 c_size
  have h8 := @run_callFunc_extern Tryz.prog 90 _ Extern.ReflectliteType.typeOf Tryz.func90 (by kernel_rfl) (by kernel_rfl) (by kernel_rfl) (by kernel_rfl)
  have tT := c_typeOfS
  have cT := c_callComparable
  have mR := c_mComparable
  have nE := c_noIsS
  have uE := c_noUnS
  have vE := c_noUnsS
  have nW := c_noIsF
  have uW := c_hasUnF
  have mU := c_mUnwrap
  have heq := run_eql_iface_ptr_other (P := Tryz.prog) w Tryz.underlying30 Tryz.underlying208 hi hcmp hj (by rw [hjs]; decide) hne ha hb
  have hty := run_eql_iface_types (P := Tryz.prog) 93 208 (.pointer (some ⟨pb, po, none⟩)) (.pointer (some b)) Tryz.underlying30 (by decide) w
  go_enter Tryz.func62, Tryz.ntmps62
  go_wp2
  refine wp_loop_rounds 2 ?_
  rw [rounds_succ]
  go_wp2
  rw [rounds_succ]
  go_wp2
  go_ret
  exact ⟨rfl, rfl⟩
end Go.Proofs.YtcebpmaggnephabGreatDoor
