/-
  Our own: texts joined: Errs, As, Code.
-/
import Derived.Test.YtookfnodfkkneacGreatDoorProg
import Derived.WalkKit
import Derived.LaidEql
import Derived.Stop.Asserts
import Derived.RowKitTokens
import Derived.Test.YtookfnodfkkneacGreatDoorBase

/-
  Our own: errors.Is and errors.As at what package plain hands them: a sentinel of errors.New's make, or a pointer to an api.Fault that holds one. Go's own text of both is walked.
-/
namespace Go.Proofs.YtookfnodfkkneacGreatDoor
open Go.RowKit Go.Extern.Stop Go.Stop Go.Extern

/-! ### Closed facts on the model's entries, at this translation's numbers -/
theorem c_typeOfS (v : Value) (w : World) : (Extern.ReflectliteType.typeOf #[.iface 269 v]).run Tryz.prog w = .ok (.iface 233 (.agg #[.pointer (some ⟨13, 269, none⟩)])) w := by kernel_rfl
theorem c_typeOfF (v : Value) (w : World) : (Extern.ReflectliteType.typeOf #[.iface 126 v]).run Tryz.prog w = .ok (.iface 233 (.agg #[.pointer (some ⟨13, 126, none⟩)])) w := by kernel_rfl
theorem c_callComparable (w : World) : Sem.run Tryz.prog (callFunc 189 #[.agg #[.pointer (some ⟨13, 269, none⟩)]]) w = .ok (Next.value (.bool true)) w := by
  have h := @run_callFunc_extern Tryz.prog 189 _ (Extern.ReflectliteType.method fun t => do Extern.Rtype.noPackHeld "Comparable" t; pure (.bool (← typeInfo t).comparable)) Tryz.func189 (by kernel_rfl) (by kernel_rfl) (by kernel_rfl) (by kernel_rfl)
  have e : ((Extern.ReflectliteType.method fun t => do Extern.Rtype.noPackHeld "Comparable" t; pure (.bool (← typeInfo t).comparable)) #[.agg #[.pointer (some ⟨13, 269, none⟩)]]).run Tryz.prog w = .ok (.bool true) w := by kernel_rfl
  rw [h, e]; rfl
theorem c_mComparable (v : Value) (w : World) : (Go.method 401 233 v "Comparable").run Tryz.prog w = .ok (189, v) w := by kernel_rfl
theorem c_comp : (Tryz.prog.info? 269).map (·.comparable) = some true := by kernel_rfl
theorem c_size : (Tryz.prog.info? 290).map (·.size) = some 1 := by kernel_rfl

theorem c_noIsS (v : Value) (xT : TypeId) (w : World) : (Instr.typeAssert (.iface 269 v) xT 244 true).run Tryz.prog w = .ok (.tuple #[.nilIface, .bool false]) w := run_typeAssert_lacksB Tryz.underlying244 (by kernel_rfl) (by kernel_rfl) v xT w
theorem c_noAsS (v : Value) (xT : TypeId) (w : World) : (Instr.typeAssert (.iface 269 v) xT 237 true).run Tryz.prog w = .ok (.tuple #[.nilIface, .bool false]) w := run_typeAssert_lacksB Tryz.underlying237 (by kernel_rfl) (by kernel_rfl) v xT w
theorem c_noUnS (v : Value) (xT : TypeId) (w : World) : (Instr.typeAssert (.iface 269 v) xT 240 true).run Tryz.prog w = .ok (.tuple #[.nilIface, .bool false]) w := run_typeAssert_lacksB Tryz.underlying240 (by kernel_rfl) (by kernel_rfl) v xT w
theorem c_noUnsS (v : Value) (xT : TypeId) (w : World) : (Instr.typeAssert (.iface 269 v) xT 242 true).run Tryz.prog w = .ok (.tuple #[.nilIface, .bool false]) w := run_typeAssert_lacksB Tryz.underlying242 (by kernel_rfl) (by kernel_rfl) v xT w
theorem c_noIsF (v : Value) (xT : TypeId) (w : World) : (Instr.typeAssert (.iface 126 v) xT 244 true).run Tryz.prog w = .ok (.tuple #[.nilIface, .bool false]) w := run_typeAssert_lacksB Tryz.underlying244 (by kernel_rfl) (by kernel_rfl) v xT w
theorem c_hasUnF (v : Value) (xT : TypeId) (w : World) : (Instr.typeAssert (.iface 126 v) xT 240 true).run Tryz.prog w = .ok (.tuple #[.iface 126 v, .bool true]) w := run_typeAssert_hasB Tryz.underlying240 (by kernel_rfl) v xT w
theorem c_mUnwrap (v : Value) (w : World) : (Go.method 401 126 v "Unwrap").run Tryz.prog w = .ok (183, v) w := by kernel_rfl

/-- errors.Is(x, x), x a pointer to an errors.errorString. -/
theorem is_same (a : Addr) (w : World) :
    Calls Tryz.prog 61 #[.iface 269 (.pointer (some a)), .iface 269 (.pointer (some a))] w fun e w' => e = .returned (.bool true) ∧ w' = w := by
  obtain ⟨i, hi, hcmp⟩ := Option.map_eq_some_iff.1 c_comp
  obtain ⟨j, hj, hjs⟩ := Option.map_eq_some_iff.1 c_size
  have h8 := @run_callFunc_extern Tryz.prog 106 _ Extern.ReflectliteType.typeOf Tryz.func106 (by kernel_rfl) (by kernel_rfl) (by kernel_rfl) (by kernel_rfl)
  have tT := c_typeOfS
  have cT := c_callComparable
  have mR := c_mComparable
  have heq := run_eql_iface_ptr_same (P := Tryz.prog) w a Tryz.underlying29 Tryz.underlying269 hi hcmp hj
  go_enter Tryz.func61, Tryz.ntmps61
  go_wp2
  refine wp_loop_rounds 1 ?_
  rw [rounds_succ]
  go_wp2
  go_ret
  exact ⟨rfl, rfl⟩

/-- errors.Is(x, y), two different pointers to errors.errorString. -/
theorem is_other (a b : Addr) (ca cb : Array Value) (ta tb : TypeId) (w : World) (hne : a ≠ b) (ha : w.heap[a.block]? = some (.cells ca ta (0, 0))) (hb : w.heap[b.block]? = some (.cells cb tb (0, 0))) :
    Calls Tryz.prog 61 #[.iface 269 (.pointer (some a)), .iface 269 (.pointer (some b))] w fun e w' => e = .returned (.bool false) ∧ w' = w := by
  obtain ⟨i, hi, hcmp⟩ := Option.map_eq_some_iff.1 c_comp
  obtain ⟨j, hj, hjs⟩ := Option.map_eq_some_iff.1 c_size
  have h8 := @run_callFunc_extern Tryz.prog 106 _ Extern.ReflectliteType.typeOf Tryz.func106 (by kernel_rfl) (by kernel_rfl) (by kernel_rfl) (by kernel_rfl)
  have tT := c_typeOfS
  have cT := c_callComparable
  have mR := c_mComparable
  have nE := c_noIsS
  have uE := c_noUnS
  have vE := c_noUnsS
  have heq := run_eql_iface_ptr_other (P := Tryz.prog) w Tryz.underlying29 Tryz.underlying269 hi hcmp hj (by rw [hjs]; decide) hne ha hb
  go_enter Tryz.func61, Tryz.ntmps61
  go_wp2
  refine wp_loop_rounds 1 ?_
  rw [rounds_succ]
  go_wp2
  go_ret
  exact ⟨rfl, rfl⟩

/-- errors.Is(e, x), e a pointer to an api.Fault that holds x itself. -/
theorem is_fault_same (pb po : Nat) (b : Addr) (w : World) (h1 : w.cell? ⟨pb, po + 1, none⟩ = some (.iface 269 (.pointer (some b)))) :
    Calls Tryz.prog 61 #[.iface 126 (.pointer (some ⟨pb, po, none⟩)), .iface 269 (.pointer (some b))] w fun e w' => e = .returned (.bool true) ∧ w' = w := by
  obtain ⟨i, hi, hcmp⟩ := Option.map_eq_some_iff.1 c_comp
  obtain ⟨j, hj, hjs⟩ := Option.map_eq_some_iff.1 c_size
  have h8 := @run_callFunc_extern Tryz.prog 106 _ Extern.ReflectliteType.typeOf Tryz.func106 (by kernel_rfl) (by kernel_rfl) (by kernel_rfl) (by kernel_rfl)
  have tT := c_typeOfS
  have cT := c_callComparable
  have mR := c_mComparable
  have nW := c_noIsF
  have uW := c_hasUnF
  have mU := c_mUnwrap
  have heq := run_eql_iface_ptr_same (P := Tryz.prog) w b Tryz.underlying29 Tryz.underlying269 hi hcmp hj
  have hty := run_eql_iface_types (P := Tryz.prog) 126 269 (.pointer (some ⟨pb, po, none⟩)) (.pointer (some b)) Tryz.underlying29 (by decide) w
  go_enter Tryz.func61, Tryz.ntmps61
  go_wp2
  refine wp_loop_rounds 2 ?_
  rw [rounds_succ]
  go_wp2
  rw [rounds_succ]
  go_wp2
  go_ret
  exact ⟨rfl, rfl⟩

/-- errors.Is(e, x), e a pointer to an api.Fault that holds another error of errors.New's make. -/
theorem is_fault_other (pb po : Nat) (b a : Addr) (ca cb : Array Value) (ta tb : TypeId) (w : World) (h1 : w.cell? ⟨pb, po + 1, none⟩ = some (.iface 269 (.pointer (some a)))) (hne : a ≠ b) (ha : w.heap[a.block]? = some (.cells ca ta (0, 0))) (hb : w.heap[b.block]? = some (.cells cb tb (0, 0))) :
    Calls Tryz.prog 61 #[.iface 126 (.pointer (some ⟨pb, po, none⟩)), .iface 269 (.pointer (some b))] w fun e w' => e = .returned (.bool false) ∧ w' = w := by
  obtain ⟨i, hi, hcmp⟩ := Option.map_eq_some_iff.1 c_comp
  obtain ⟨j, hj, hjs⟩ := Option.map_eq_some_iff.1 c_size
  have h8 := @run_callFunc_extern Tryz.prog 106 _ Extern.ReflectliteType.typeOf Tryz.func106 (by kernel_rfl) (by kernel_rfl) (by kernel_rfl) (by kernel_rfl)
  have tT := c_typeOfS
  have cT := c_callComparable
  have mR := c_mComparable
  have nE := c_noIsS
  have uE := c_noUnS
  have vE := c_noUnsS
  have nW := c_noIsF
  have uW := c_hasUnF
  have mU := c_mUnwrap
  have heq := run_eql_iface_ptr_other (P := Tryz.prog) w Tryz.underlying29 Tryz.underlying269 hi hcmp hj (by rw [hjs]; decide) hne ha hb
  have hty := run_eql_iface_types (P := Tryz.prog) 126 269 (.pointer (some ⟨pb, po, none⟩)) (.pointer (some b)) Tryz.underlying29 (by decide) w
  go_enter Tryz.func61, Tryz.ntmps61
  go_wp2
  refine wp_loop_rounds 2 ?_
  rw [rounds_succ]
  go_wp2
  rw [rounds_succ]
  go_wp2
  go_ret
  exact ⟨rfl, rfl⟩
end Go.Proofs.YtookfnodfkkneacGreatDoor

/-
  Our own: errors.As(err, the address of a variable of type *api.Fault): at a pointer to an api.Fault (true, and the variable is set), at an error of errors.New's make (false). Go's own text is walked.
-/
namespace Go.Proofs.YtookfnodfkkneacGreatDoor
open Go.RowKit Go.Extern.Stop Go.Stop Go.Extern

theorem d_valueOf (t : Addr) (w : World) : (ReflectliteValue.unpack (.iface 140 (.pointer (some t)))).run Tryz.prog w
    = .ok (.agg #[.pointer (some ⟨13, 140, none⟩), .pointer (some ⟨w.heap.size, 0, none⟩), .int .u64 150]) (w.alloc (.cells #[.pointer (some t)] 140)) := by kernel_rfl
theorem d_type (a : Addr) (w : World) : (ReflectliteValue.methodAny (ReflectliteValue.valueError "reflectlite.Value.Type" 0) (fun t _ _ _ => ReflectliteType.toType t) #[.agg #[.pointer (some ⟨13, 140, none⟩), .pointer (some a), .int .u64 150]]).run Tryz.prog w
    = .ok (.iface 233 (.agg #[.pointer (some ⟨13, 140, none⟩)])) w := by kernel_rfl
theorem d_mKind (h : Value) (w : World) : (Go.method 401 233 (.agg #[h]) "Kind").run Tryz.prog w = .ok (179, h) w := by kernel_rfl
theorem d_kindPP (w : World) : ((ReflectliteType.abiMethod fun t => (fun a : Nat => Value.int IntKind.u8 (a : Int)) <$> Rtype.kind t) #[.pointer (some ⟨13, 140, none⟩)]).run Tryz.prog w = .ok (.int .u8 22) w := by kernel_rfl
theorem d_kindP (w : World) : ((ReflectliteType.abiMethod fun t => (fun a : Nat => Value.int IntKind.u8 (a : Int)) <$> Rtype.kind t) #[.pointer (some ⟨13, 126, none⟩)]).run Tryz.prog w = .ok (.int .u8 22) w := by kernel_rfl
theorem d_partsPP (a : Addr) (w : World) : (ReflectliteValue.parts (.agg #[.pointer (some ⟨13, 140, none⟩), .pointer (some a), .int .u64 150])).run Tryz.prog w = .ok (some (140, a, 150)) w := by kernel_rfl
theorem d_isNil (a p : Addr) (W : World) (ha : W.cell? a = some (.pointer (some p))) :
    (ReflectliteValue.method (ReflectliteValue.valueError "reflectlite.Value.IsNil" 0) ReflectliteValue.isNil #[.agg #[.pointer (some ⟨13, 140, none⟩), .pointer (some a), .int .u64 150]]).run Tryz.prog W = .ok (.bool false) W := by
  rw [show ReflectliteValue.method (ReflectliteValue.valueError "reflectlite.Value.IsNil" 0) ReflectliteValue.isNil #[.agg #[.pointer (some ⟨13, 140, none⟩), .pointer (some a), .int .u64 150]] = (ReflectliteValue.parts (.agg #[.pointer (some ⟨13, 140, none⟩), .pointer (some a), .int .u64 150]) >>= _) from rfl]
  simp only [Sem.run_bind, d_partsPP, Result.andThen]
  simp [ReflectliteValue.isNil, loadVar, isAgg, underlying, Tryz.underlying140, ha, Result.andThen]
theorem d_mElem (h : Value) (w : World) : (Go.method 401 233 (.agg #[h]) "Elem").run Tryz.prog w = .ok (190, .agg #[h]) w := by kernel_rfl
theorem d_mImplements (h : Value) (w : World) : (Go.method 401 233 (.agg #[h]) "Implements").run Tryz.prog w = .ok (191, .agg #[h]) w := by kernel_rfl
theorem d_mAssignable (h : Value) (w : World) : (Go.method 401 233 (.agg #[h]) "AssignableTo").run Tryz.prog w = .ok (188, .agg #[h]) w := by kernel_rfl
theorem d_elem (w : World) : (ReflectliteType.method ReflectliteType.elem #[.agg #[.pointer (some ⟨13, 140, none⟩)]]).run Tryz.prog w = .ok (.iface 233 (.agg #[.pointer (some ⟨13, 126, none⟩)])) w := by kernel_rfl
theorem d_implements (w : World) : (ReflectliteType.relation "Implements" ReflectliteType.implements_ #[.agg #[.pointer (some ⟨13, 126, none⟩)], .iface 233 (.agg #[.pointer (some ⟨13, 29, none⟩)])]).run Tryz.prog w = .ok (.bool true) w := by kernel_rfl
theorem d_assignable (w : World) : (ReflectliteType.relation "AssignableTo" ReflectliteType.assignableTo #[.agg #[.pointer (some ⟨13, 126, none⟩)], .iface 233 (.agg #[.pointer (some ⟨13, 126, none⟩)])]).run Tryz.prog w = .ok (.bool true) w := by kernel_rfl
theorem d_assignableS (w : World) : (ReflectliteType.relation "AssignableTo" ReflectliteType.assignableTo #[.agg #[.pointer (some ⟨13, 269, none⟩)], .iface 233 (.agg #[.pointer (some ⟨13, 126, none⟩)])]).run Tryz.prog w = .ok (.bool false) w := by kernel_rfl
theorem d_valueOfP (e : Addr) (w : World) : (ReflectliteValue.unpack (.iface 126 (.pointer (some e)))).run Tryz.prog w
    = .ok (.agg #[.pointer (some ⟨13, 126, none⟩), .pointer (some ⟨w.heap.size, 0, none⟩), .int .u64 150]) (w.alloc (.cells #[.pointer (some e)] 126)) := by kernel_rfl
theorem d_elemOf (w : World) : (Rtype.elem? 140).run Tryz.prog w = .ok (some 126) w := by kernel_rfl
theorem d_mk (p : Addr) (w : World) : (ReflectliteValue.mk 126 p ReflectliteValue.flagAddr).run Tryz.prog w = .ok (.agg #[.pointer (some ⟨13, 126, none⟩), .pointer (some p), .int .u64 406]) w := by kernel_rfl
theorem d_elemV (a p : Addr) (W : World) (ha : W.cell? a = some (.pointer (some p))) :
    (ReflectliteValue.method (ReflectliteValue.valueError "reflectlite.Value.Elem" 0) ReflectliteValue.elem #[.agg #[.pointer (some ⟨13, 140, none⟩), .pointer (some a), .int .u64 150]]).run Tryz.prog W
      = .ok (.agg #[.pointer (some ⟨13, 126, none⟩), .pointer (some p), .int .u64 406]) W := by
  rw [show ReflectliteValue.method (ReflectliteValue.valueError "reflectlite.Value.Elem" 0) ReflectliteValue.elem #[.agg #[.pointer (some ⟨13, 140, none⟩), .pointer (some a), .int .u64 150]] = (ReflectliteValue.parts (.agg #[.pointer (some ⟨13, 140, none⟩), .pointer (some a), .int .u64 150]) >>= _) from rfl]
  simp only [Sem.run_bind, d_partsPP, Result.andThen]
  simp [ReflectliteValue.elem, loadVar, isAgg, underlying, Tryz.underlying140, ha, Result.andThen, d_elemOf, d_mk]
theorem d_partsA (a : Addr) (w : World) : (ReflectliteValue.parts (.agg #[.pointer (some ⟨13, 126, none⟩), .pointer (some a), .int .u64 406])).run Tryz.prog w = .ok (some (126, a, 406)) w := by kernel_rfl
theorem d_parts (a : Addr) (w : World) : (ReflectliteValue.parts (.agg #[.pointer (some ⟨13, 126, none⟩), .pointer (some a), .int .u64 150])).run Tryz.prog w = .ok (some (126, a, 150)) w := by kernel_rfl
theorem d_direct (w : World) : (Rtype.directlyAssignable 126 126).run Tryz.prog w = .ok true w := by kernel_rfl
theorem d_set (ta b e : Addr) (old : Value) (W : World) (hb : W.cell? b = some (.pointer (some e))) (ht : W.cell? ta = some old) (hf : W.frozen? ta = false) :
    (ReflectliteValue.set #[.agg #[.pointer (some ⟨13, 126, none⟩), .pointer (some ta), .int .u64 406], .agg #[.pointer (some ⟨13, 126, none⟩), .pointer (some b), .int .u64 150]]).run Tryz.prog W
      = .ok (.tuple #[]) (W.setCell ta (.pointer (some e))) := by
  rw [show ReflectliteValue.set #[.agg #[.pointer (some ⟨13, 126, none⟩), .pointer (some ta), .int .u64 406], .agg #[.pointer (some ⟨13, 126, none⟩), .pointer (some b), .int .u64 150]] = (ReflectliteValue.parts (.agg #[.pointer (some ⟨13, 126, none⟩), .pointer (some ta), .int .u64 406]) >>= fun _ => (ReflectliteValue.parts (.agg #[.pointer (some ⟨13, 126, none⟩), .pointer (some b), .int .u64 150]) >>= _)) from rfl]
  simp only [Sem.run_bind, d_partsA, d_parts, Result.andThen]
  simp [ReflectliteValue.flagAddr, loadVar, isAgg, underlying, Tryz.underlying126, hb, Result.andThen, d_direct, storeVar, Value.cells, storeCells, Addr.add]
  rw [run_store Tryz.prog W ta _ _ (by rfl)]
  simp [ht, hf]

/-- The world with the three copies that errors.As makes of its target. -/
abbrev asW (w : World) (t : Addr) : World := ((w.alloc (.cells #[.pointer (some t)] 140)).alloc (.cells #[.pointer (some ⟨13, 140, none⟩), .pointer (some ⟨w.heap.size, 0, none⟩), .int .u64 150] 189)).alloc (.cells #[.pointer (some ⟨13, 140, none⟩), .pointer (some ⟨w.heap.size, 0, none⟩), .int .u64 150] 189)

set_option maxHeartbeats 4000000 in
theorem as_hit (e t : Addr) (old : Value) (w : World) (hg : w.cell? ⟨10, 0, none⟩ = some (.iface 233 (.agg #[.pointer (some ⟨13, 29, none⟩)]))) (ht0 : w.cell? t = some old) (hf0 : w.frozen? t = false) :
    Calls Tryz.prog 60 #[.iface 126 (.pointer (some e)), .iface 140 (.pointer (some t))] w fun ev w' => ev = .returned (.bool true) ∧ w' = ((asW w t).alloc (.cells #[.pointer (some e)] 126)).setCell t (.pointer (some e)) := by
  have h6 := @run_callFunc_extern Tryz.prog 102 _ (fun args => ReflectliteValue.unpack (args.getD 0 (.tuple #[]))) Tryz.func102 (by kernel_rfl) (by kernel_rfl) (by kernel_rfl) (by kernel_rfl)
  have h7 := @run_callFunc_extern Tryz.prog 103 _ (ReflectliteValue.methodAny (ReflectliteValue.valueError "reflectlite.Value.Type" 0) (fun t _ _ _ => ReflectliteType.toType t)) Tryz.func103 (by kernel_rfl) (by kernel_rfl) (by kernel_rfl) (by kernel_rfl)
  have h8 := @run_callFunc_extern Tryz.prog 104 _ (ReflectliteValue.method (ReflectliteValue.valueError "reflectlite.Value.IsNil" 0) ReflectliteValue.isNil) Tryz.func104 (by kernel_rfl) (by kernel_rfl) (by kernel_rfl) (by kernel_rfl)
  have h27 := @run_callFunc_extern Tryz.prog 179 _ (ReflectliteType.abiMethod fun t => do pure (.int .u8 (← Rtype.kind t))) Tryz.func179 (by kernel_rfl) (by kernel_rfl) (by kernel_rfl) (by kernel_rfl)
  have h37 := @run_callFunc_extern Tryz.prog 190 _ (ReflectliteType.method ReflectliteType.elem) Tryz.func190 (by kernel_rfl) (by kernel_rfl) (by kernel_rfl) (by kernel_rfl)
  have h38 := @run_callFunc_extern Tryz.prog 191 _ (ReflectliteType.relation "Implements" ReflectliteType.implements_) Tryz.func191 (by kernel_rfl) (by kernel_rfl) (by kernel_rfl) (by kernel_rfl)
  have h10 := @run_callFunc_extern Tryz.prog 106 _ ReflectliteType.typeOf Tryz.func106 (by kernel_rfl) (by kernel_rfl) (by kernel_rfl) (by kernel_rfl)
  have h35 := @run_callFunc_extern Tryz.prog 188 _ (ReflectliteType.relation "AssignableTo" ReflectliteType.assignableTo) Tryz.func188 (by kernel_rfl) (by kernel_rfl) (by kernel_rfl) (by kernel_rfl)
  have h11 := @run_callFunc_extern Tryz.prog 129 _ (ReflectliteValue.method (ReflectliteValue.valueError "reflectlite.Value.Elem" 0) ReflectliteValue.elem) Tryz.func129 (by kernel_rfl) (by kernel_rfl) (by kernel_rfl) (by kernel_rfl)
  have h12 := @run_callFunc_extern Tryz.prog 130 _ ReflectliteValue.set Tryz.func130 (by kernel_rfl) (by kernel_rfl) (by kernel_rfl) (by kernel_rfl)
  have tO := c_typeOfF
  have mA := d_mAssignable
  have a25 := d_assignable
  have v25 := d_valueOfP
  have f6 := d_valueOf
  have f7 := d_type
  have mK := d_mKind
  have mE := d_mElem
  have mI := d_mImplements
  have k27 := d_kindPP
  have k25 := d_kindP
  have e27 := d_elem
  have i25 := d_implements
  have n8 := d_isNil ⟨w.heap.size, 0, none⟩ t ((w.alloc (.cells #[.pointer (some t)] 140)).alloc (.cells #[.pointer (some ⟨13, 140, none⟩), .pointer (some ⟨w.heap.size, 0, none⟩), .int .u64 150] 189)) (by simp)
  have hlt : 10 < w.heap.size := by
    rcases Nat.lt_or_ge 10 w.heap.size with h | h
    · exact h
    · simp [World.cell?, Array.getElem?_eq_none h] at hg
  have hg2 : ((w.alloc (.cells #[.pointer (some t)] 140)).alloc (.cells #[.pointer (some ⟨13, 140, none⟩), .pointer (some ⟨w.heap.size, 0, none⟩), .int .u64 150] 189)).cell? ⟨10, 0, none⟩ = some (.iface 233 (.agg #[.pointer (some ⟨13, 29, none⟩)])) := by
    rw [World.cell?_alloc_lt _ _ ⟨10, 0, none⟩ (by simp; omega), World.cell?_alloc_lt _ _ ⟨10, 0, none⟩ hlt]; exact hg
  have htl : t.block < w.heap.size := by
    rcases Nat.lt_or_ge t.block w.heap.size with h | h
    · exact h
    · simp [World.cell?, Array.getElem?_eq_none h] at ht0
  have el := d_elemV ⟨w.heap.size, 0, none⟩ t (asW w t) (by rw [World.cell?_alloc_lt _ _ ⟨w.heap.size, 0, none⟩ (by simp; omega)]; simp)
  have st := d_set t ⟨w.heap.size + 1 + 1 + 1, 0, none⟩ e old ((asW w t).alloc (.cells #[.pointer (some e)] 126))
    (by rw [World.cell?_alloc_at _ _ _ _ (by simp)]; rfl)
    (by rw [World.cell?_alloc_lt _ _ t (by simp; omega), World.cell?_alloc_lt _ _ t (by simp; omega), World.cell?_alloc_lt _ _ t (by simp; omega), World.cell?_alloc_lt _ _ t htl]; exact ht0)
    (by rw [World.frozen?_alloc_old _ _ t (by simp; omega), World.frozen?_alloc_old _ _ t (by simp; omega), World.frozen?_alloc_old _ _ t (by simp; omega), World.frozen?_alloc_old _ _ t (Nat.ne_of_lt htl)]; exact hf0)
  go_enter Tryz.func60, Tryz.ntmps60
  go_wp2
  refine wp_loop_rounds 1 ?_
  rw [rounds_succ]
  go_wp2
  go_ret
  exact ⟨rfl, rfl⟩

set_option maxHeartbeats 4000000 in
theorem as_miss (a t : Addr) (w : World) (hg : w.cell? ⟨10, 0, none⟩ = some (.iface 233 (.agg #[.pointer (some ⟨13, 29, none⟩)]))) :
    Calls Tryz.prog 60 #[.iface 269 (.pointer (some a)), .iface 140 (.pointer (some t))] w fun ev w' => ev = .returned (.bool false) ∧ w' = asW w t := by
  have h6 := @run_callFunc_extern Tryz.prog 102 _ (fun args => ReflectliteValue.unpack (args.getD 0 (.tuple #[]))) Tryz.func102 (by kernel_rfl) (by kernel_rfl) (by kernel_rfl) (by kernel_rfl)
  have h7 := @run_callFunc_extern Tryz.prog 103 _ (ReflectliteValue.methodAny (ReflectliteValue.valueError "reflectlite.Value.Type" 0) (fun t _ _ _ => ReflectliteType.toType t)) Tryz.func103 (by kernel_rfl) (by kernel_rfl) (by kernel_rfl) (by kernel_rfl)
  have h8 := @run_callFunc_extern Tryz.prog 104 _ (ReflectliteValue.method (ReflectliteValue.valueError "reflectlite.Value.IsNil" 0) ReflectliteValue.isNil) Tryz.func104 (by kernel_rfl) (by kernel_rfl) (by kernel_rfl) (by kernel_rfl)
  have h27 := @run_callFunc_extern Tryz.prog 179 _ (ReflectliteType.abiMethod fun t => do pure (.int .u8 (← Rtype.kind t))) Tryz.func179 (by kernel_rfl) (by kernel_rfl) (by kernel_rfl) (by kernel_rfl)
  have h37 := @run_callFunc_extern Tryz.prog 190 _ (ReflectliteType.method ReflectliteType.elem) Tryz.func190 (by kernel_rfl) (by kernel_rfl) (by kernel_rfl) (by kernel_rfl)
  have h38 := @run_callFunc_extern Tryz.prog 191 _ (ReflectliteType.relation "Implements" ReflectliteType.implements_) Tryz.func191 (by kernel_rfl) (by kernel_rfl) (by kernel_rfl) (by kernel_rfl)
  have h10 := @run_callFunc_extern Tryz.prog 106 _ ReflectliteType.typeOf Tryz.func106 (by kernel_rfl) (by kernel_rfl) (by kernel_rfl) (by kernel_rfl)
  have h35 := @run_callFunc_extern Tryz.prog 188 _ (ReflectliteType.relation "AssignableTo" ReflectliteType.assignableTo) Tryz.func188 (by kernel_rfl) (by kernel_rfl) (by kernel_rfl) (by kernel_rfl)
  have tO := c_typeOfS
  have mA := d_mAssignable
  have a25 := d_assignableS
  have f6 := d_valueOf
  have f7 := d_type
  have mK := d_mKind
  have mE := d_mElem
  have mI := d_mImplements
  have k27 := d_kindPP
  have k25 := d_kindP
  have e27 := d_elem
  have i25 := d_implements
  have nE := c_noAsS
  have uE := c_noUnS
  have vE := c_noUnsS
  have n8 := d_isNil ⟨w.heap.size, 0, none⟩ t ((w.alloc (.cells #[.pointer (some t)] 140)).alloc (.cells #[.pointer (some ⟨13, 140, none⟩), .pointer (some ⟨w.heap.size, 0, none⟩), .int .u64 150] 189)) (by simp)
  have hlt : 10 < w.heap.size := by
    rcases Nat.lt_or_ge 10 w.heap.size with h | h
    · exact h
    · simp [World.cell?, Array.getElem?_eq_none h] at hg
  have hg2 : ((w.alloc (.cells #[.pointer (some t)] 140)).alloc (.cells #[.pointer (some ⟨13, 140, none⟩), .pointer (some ⟨w.heap.size, 0, none⟩), .int .u64 150] 189)).cell? ⟨10, 0, none⟩ = some (.iface 233 (.agg #[.pointer (some ⟨13, 29, none⟩)])) := by
    rw [World.cell?_alloc_lt _ _ ⟨10, 0, none⟩ (by simp; omega), World.cell?_alloc_lt _ _ ⟨10, 0, none⟩ hlt]; exact hg
  go_enter Tryz.func60, Tryz.ntmps60
  go_wp2
  refine wp_loop_rounds 1 ?_
  rw [rounds_succ]
  go_wp2
  go_ret
  exact ⟨rfl, rfl⟩
end Go.Proofs.YtookfnodfkkneacGreatDoor

/-
  Our own: plain.Code by its contracts: at nil, at an error of errors.New's make, at a pointer to an api.Fault that holds one.
-/
namespace Go.Proofs.YtookfnodfkkneacGreatDoor
open Go.RowKit

/-- The numbers of the ten error variables, in the document's order. -/
def gErr : List Nat := [5, 2, 4, 6, 7, 0, 8, 3, 1, 9]

/-- The ten error variables hold ten different errors of errors.New's make, at s 0 .. s 9; errors' own variable holds the type of error. -/
structure Sents (w : World) (s : Nat → Addr) : Prop where
  glob : ∀ i, i < 10 → w.cell? ⟨gErr.getD i 0, 0, none⟩ = some (sentV (s i))
  row : ∀ i, i < 10 → ∃ c t, w.heap[(s i).block]? = some (.cells c t (0, 0))
  other : ∀ i j, i < 10 → j < 10 → i ≠ j → s i ≠ s j
  handle : w.cell? ⟨10, 0, none⟩ = some (.iface 233 (.agg #[.pointer (some ⟨13, 29, none⟩)]))

theorem Sents.below {w w' : World} {s : Nat → Addr} (h : Sents w s) (hb : Below w.heap.size w w') : Sents w' s where
  glob i hi := by rw [hb.cell (cell_lt (h.glob i hi))]; exact h.glob i hi
  row i hi := by
    obtain ⟨c, t, e⟩ := h.row i hi
    exact ⟨c, t, by rw [hb.block _ (heap_lt e)]; exact e⟩
  other := h.other
  handle := by rw [hb.cell (cell_lt h.handle)]; exact h.handle

/-- plain.Code(nil). -/
theorem code_nil (w : World) : Calls Tryz.prog 29 #[.nilIface] w fun e w' => e = .returned (.tuple #[.int .i64 0, .int .i64 (-1)]) ∧ w' = w := by
  go_enter Tryz.func29, Tryz.ntmps29
  go_wp2
  go_ret2
  exact ⟨rfl, rfl⟩

/-- The world behind errors.As, at an error of errors.New's make. -/
abbrev codeW (w : World) : World := asW (w.alloc (.cells #[.pointer none] 126)) ⟨w.heap.size, 0, none⟩
/-- .. at a pointer to an api.Fault. -/
abbrev codeFW (w : World) (e : Addr) : World := ((asW (w.alloc (.cells #[.pointer none] 126)) ⟨w.heap.size, 0, none⟩).alloc (.cells #[.pointer (some e)] 126)).setCell ⟨w.heap.size, 0, none⟩ (.pointer (some e))
theorem codeW_below (w : World) : Below w.heap.size w (codeW w) :=
  ((((Below.refl _ _).alloc (Nat.le_refl _) _).alloc (by simp) _).alloc (by simp; omega) _).alloc (by simp; omega) _
theorem codeFW_below (w : World) (e : Addr) : Below w.heap.size w (codeFW w e) :=
  (((((Below.refl _ _).alloc (Nat.le_refl _) _).alloc (by simp) _).alloc (by simp; omega) _).alloc (by simp; omega) _ |>.alloc (by simp; omega) _).setCell (Nat.le_refl _) _
/-- .. and behind the list of all errors. -/
abbrev listW (w : World) (s : Nat → Addr) : World := w.alloc (.cells #[sentV (s 0), sentV (s 1), sentV (s 2), sentV (s 3), sentV (s 4), sentV (s 5), sentV (s 6), sentV (s 7), sentV (s 8), sentV (s 9)] 29)
theorem list_cell (w : World) (s : Nat → Addr) (k : Nat) (hk : k < 10) : (listW w s).cell? ⟨w.heap.size, k, none⟩ = some (sentV (s k)) := by
  match k, hk with
  | 0, _ => simp
  | 1, _ => simp
  | 2, _ => simp
  | 3, _ => simp
  | 4, _ => simp
  | 5, _ => simp
  | 6, _ => simp
  | 7, _ => simp
  | 8, _ => simp
  | 9, _ => simp

/-- The code of the k-th error; -1 behind the last one. -/
def codeOf (k : Nat) : Int := if k < 10 then (k : Int) + 1 else -1

set_option maxRecDepth 100000 in
set_option maxHeartbeats 4000000 in
/-- plain.Code at an error of errors.New's make: the first of the ten that it is. -/
theorem code_str (s : Nat → Addr) (a : Addr) (k : Nat) (hk : k ≤ 10) (w : World) (hS : Sents w s) (hrow : ∃ c t, w.heap[a.block]? = some (.cells c t (0, 0))) (hlo : ∀ i, i < k → a ≠ s i) (hat : k < 10 → a = s k) :
    Calls Tryz.prog 29 #[sentV a] w fun e w' => e = .returned (.tuple #[.int .i64 (codeOf k), .int .i64 (-1)]) ∧ Below w.heap.size w w' := by
  have hH := (hS.below ((Below.refl w.heap.size w).alloc (Nat.le_refl _) (.cells #[.pointer none] 126))).handle
  have hS2 := hS.below (codeW_below w)
  have g0 := hS2.glob 0 (by omega)
  have g1 := hS2.glob 1 (by omega)
  have g2 := hS2.glob 2 (by omega)
  have g3 := hS2.glob 3 (by omega)
  have g4 := hS2.glob 4 (by omega)
  have g5 := hS2.glob 5 (by omega)
  have g6 := hS2.glob 6 (by omega)
  have g7 := hS2.glob 7 (by omega)
  have g8 := hS2.glob 8 (by omega)
  have g9 := hS2.glob 9 (by omega)
  simp only [gErr, List.getD_cons_zero, List.getD_cons_succ] at g0 g1 g2 g3 g4 g5 g6 g7 g8 g9
  have hb3 : Below w.heap.size w (listW (codeW w) s) := (codeW_below w).alloc (by simp; omega) _
  have hS3 := hS.below hb3
  have hrow3 : ∃ c t, (listW (codeW w) s).heap[a.block]? = some (.cells c t (0, 0)) := by
    obtain ⟨c, t, e⟩ := hrow
    exact ⟨c, t, by rw [hb3.block _ (heap_lt e)]; exact e⟩
  have hcell := list_cell (codeW w) s
  have hsz : (codeW w).heap.size = w.heap.size + 1 + 1 + 1 + 1 := by simp
  rw [hsz] at hcell
  have HL : Hid (∀ i, i < k → a ≠ s i) := hlo
  have HA : Hid (k < 10 → a = s k) := hat
  have HC : Hid (∀ k, k < 10 → (listW (codeW w) s).cell? ⟨w.heap.size + 1 + 1 + 1 + 1, k, none⟩ = some (sentV (s k))) := hcell
  have HR : Hid (∃ c t, (listW (codeW w) s).heap[a.block]? = some (.cells c t (0, 0))) := hrow3
  clear hlo hat hcell hrow3 hrow hsz
  go_enter Tryz.func29, Tryz.ntmps29
  go_wp2_with (go_at_call 60; refine (as_miss _ _ _ hH).mono ?_; rintro e w' ⟨rfl, hh⟩; replace hh := hh.symm; subst hh)
  go_loop [3, 28] (fun at_ i => ∃ q : Nat, at_ = .int .i64 (-1) ∧ q ≤ k ∧ i = .int .i64 q) (fun _ i => 10 - (intOf i).toNat)
  case atStart => exact ⟨0, rfl, by omega, rfl⟩
  case round =>
    obtain ⟨q, rfl, hq, rfl⟩ := hrel
    clear g0 g1 g2 g3 g4 g5 g6 g7 g8 g9 hH
    by_cases hq10 : q < 10
    · have hc := HC.out q hq10
      have hq' : (q : Int) < 10 := by omega
      by_cases hqk : q < k
      · have hne : a ≠ s q := HL.out q hqk
        obtain ⟨ca, ta, ha⟩ := HR.out
        obtain ⟨cb, tb, hb⟩ := hS3.row q hq10
        generalize hW : listW (codeW w) s = W at hc ha hb
        go_wp2_with (go_at_call 61; refine (is_other a (s q) ca cb ta tb _ ?_ ?_ ?_).mono ?_; exact hne; exact ha; exact hb; rintro e w' ⟨rfl, hh⟩; replace hh := hh.symm; subst hh)
        subst hW
        refine ⟨⟨rfl, ?_⟩, ?_⟩
        · (repeat apply Exists.intro)
          refine ⟨?rel, rfl⟩
          exact ⟨q + 1, rfl, by omega, by go_num⟩
        · simp [intOf]; omega
      · have hqe : q = k := by omega
        subst hqe
        have hcode : codeOf q = (q : Int) + 1 := by simp [codeOf, hq10]
        have he : a = s q := HA.out hq10
        subst he
        generalize hW : listW (codeW w) s = W at hc
        go_wp2_with (go_at_call 61; refine (is_same (s q) _).mono ?_; rintro e w' ⟨rfl, hh⟩; replace hh := hh.symm; subst hh)
        go_ret2
        exact ⟨by rw [hcode]; rfl, by rw [← hW]; exact hb3⟩
    · have hqe : q = 10 := by omega
      subst hqe
      have hke : k = 10 := by omega
      subst hke
      have hcode : codeOf 10 = -1 := rfl
      generalize hW : listW (codeW w) s = W
      go_wp2
      go_ret2
      exact ⟨rfl, by rw [← hW]; exact hb3⟩

/-- errors.As at a pointer to an api.Fault, told by what it leaves. -/
theorem as_hit_b (e t : Addr) (old : Value) (B : Nat) (w : World) (hg : w.cell? ⟨10, 0, none⟩ = some (.iface 233 (.agg #[.pointer (some ⟨13, 29, none⟩)]))) (ht0 : w.cell? t = some old) (hf0 : w.frozen? t = false) (hB : B ≤ t.block) :
    Calls Tryz.prog 60 #[.iface 126 (.pointer (some e)), .iface 140 (.pointer (some t))] w fun ev w' => ev = .returned (.bool true) ∧ w'.cell? t = some (.pointer (some e)) ∧ Below B w w' ∧ w.heap.size < w'.heap.size := by
  have htl := cell_lt ht0
  refine (as_hit e t old w hg ht0 hf0).mono ?_
  rintro ev w' ⟨rfl, rfl⟩
  refine ⟨rfl, ?_, ?_, ?_⟩
  · have hold : ((asW w t).alloc (.cells #[.pointer (some e)] 126)).cell? t = some old := by
      rw [World.cell?_alloc_lt _ _ t (by simp; omega), World.cell?_alloc_lt _ _ t (by simp; omega), World.cell?_alloc_lt _ _ t (by simp; omega), World.cell?_alloc_lt _ _ t htl]; exact ht0
    exact World.cell?_setCell_same _ _ _ hold
  · exact (((((Below.refl B w).alloc (by omega) _).alloc (by simp; omega) _).alloc (by simp; omega) _).alloc (by simp; omega) _).setCell hB _
  · simp [World.setCell]; omega

set_option maxRecDepth 100000 in
set_option maxHeartbeats 4000000 in
/-- plain.Code at a pointer to an api.Fault that holds an error of errors.New's make. -/
theorem code_fault (s : Nat → Addr) (pb po : Nat) (n : Int) (a : Addr) (k : Nat) (hk : k ≤ 10) (w : World) (hS : Sents w s) (hn : w.cell? ⟨pb, po, none⟩ = some (.int .i64 n)) (he : w.cell? ⟨pb, po + 1, none⟩ = some (sentV a)) (hrow : ∃ c t, w.heap[a.block]? = some (.cells c t (0, 0))) (hlo : ∀ i, i < k → a ≠ s i) (hat : k < 10 → a = s k) :
    Calls Tryz.prog 29 #[.iface 126 (.pointer (some ⟨pb, po, none⟩))] w fun e w' => e = .returned (.tuple #[.int .i64 (codeOf k), .int .i64 n]) ∧ Below w.heap.size w w' := by
  have hb1 : Below w.heap.size w (w.alloc (.cells #[.pointer none] 126)) := (Below.refl w.heap.size w).alloc (Nat.le_refl _) _
  have hH := (hS.below hb1).handle
  have ht : (w.alloc (.cells #[.pointer none] 126)).cell? ⟨w.heap.size, 0, none⟩ = some (.pointer none) := by simp
  have hf : (w.alloc (.cells #[.pointer none] 126)).frozen? ⟨w.heap.size, 0, none⟩ = false := by simp
  have HL : Hid (∀ i, i < k → a ≠ s i) := hlo
  have HA : Hid (k < 10 → a = s k) := hat
  have HR : Hid (∃ c t, w.heap[a.block]? = some (.cells c t (0, 0))) := hrow
  have HN : Hid (w.cell? ⟨pb, po, none⟩ = some (.int .i64 n)) := hn
  have HE : Hid (w.cell? ⟨pb, po + 1, none⟩ = some (sentV a)) := he
  clear hlo hat hrow hn he
  go_enter Tryz.func29, Tryz.ntmps29
  go_wp2_with fail
  refine (as_hit_b _ _ _ w.heap.size _ hH ht hf (Nat.le_refl _)).mono ?_
  rintro e w1 ⟨rfl, hc1, hb2, hs1⟩
  have hb : Below w.heap.size w w1 := hb1.trans hb2
  clear hH ht hf hb1 hb2
  have hn1 : w1.cell? ⟨pb, po, none⟩ = some (.int .i64 n) := by rw [hb.cell (cell_lt HN.out)]; exact HN.out
  have hS2 := hS.below hb
  have g0 := hS2.glob 0 (by omega)
  have g1 := hS2.glob 1 (by omega)
  have g2 := hS2.glob 2 (by omega)
  have g3 := hS2.glob 3 (by omega)
  have g4 := hS2.glob 4 (by omega)
  have g5 := hS2.glob 5 (by omega)
  have g6 := hS2.glob 6 (by omega)
  have g7 := hS2.glob 7 (by omega)
  have g8 := hS2.glob 8 (by omega)
  have g9 := hS2.glob 9 (by omega)
  simp only [gErr, List.getD_cons_zero, List.getD_cons_succ] at g0 g1 g2 g3 g4 g5 g6 g7 g8 g9
  have hb3 : Below w.heap.size w (listW w1 s) := hb.alloc (by have := hb.size; omega) _
  have hS3 := hS.below hb3
  have HE3 : Hid ((listW w1 s).cell? ⟨pb, po + 1, none⟩ = some (sentV a)) := by unfold Hid; rw [hb3.cell (cell_lt HE.out)]; exact HE.out
  have HR3 : Hid (∃ c t, (listW w1 s).heap[a.block]? = some (.cells c t (0, 0))) := by
    obtain ⟨c, t, e⟩ := HR.out
    exact ⟨c, t, by rw [hb3.block _ (heap_lt e)]; exact e⟩
  have HC : Hid (∀ k, k < 10 → (listW w1 s).cell? ⟨w1.heap.size, k, none⟩ = some (sentV (s k))) := list_cell w1 s
  go_wp2
  go_loop [3, 28] (fun at_ i => ∃ q : Nat, at_ = .int .i64 n ∧ q ≤ k ∧ i = .int .i64 q) (fun _ i => 10 - (intOf i).toNat)
  case atStart => exact ⟨0, rfl, by omega, rfl⟩
  case round =>
    obtain ⟨q, rfl, hq, rfl⟩ := hrel
    clear g0 g1 g2 g3 g4 g5 g6 g7 g8 g9 hc1 hn1
    by_cases hq10 : q < 10
    · have hc := HC.out q hq10
      have hq' : (q : Int) < 10 := by omega
      have he := HE3.out
      by_cases hqk : q < k
      · have hne : a ≠ s q := HL.out q hqk
        obtain ⟨ca, ta, ha⟩ := HR3.out
        obtain ⟨cb, tb, hb⟩ := hS3.row q hq10
        generalize hW : listW w1 s = W at hc ha hb he
        go_wp2_with (go_at_call 61; refine (is_fault_other pb po (s q) a ca cb ta tb _ ?_ ?_ ?_ ?_).mono ?_; exact he; exact hne; exact ha; exact hb; rintro e w' ⟨rfl, hh⟩; replace hh := hh.symm; subst hh)
        subst hW
        refine ⟨⟨rfl, ?_⟩, ?_⟩
        · (repeat apply Exists.intro)
          refine ⟨?rel, rfl⟩
          exact ⟨q + 1, rfl, by omega, by go_num⟩
        · simp [intOf]; omega
      · have hqe : q = k := by omega
        subst hqe
        have hcode : codeOf q = (q : Int) + 1 := by simp [codeOf, hq10]
        have hea : a = s q := HA.out hq10
        subst hea
        generalize hW : listW w1 s = W at hc he
        go_wp2_with (go_at_call 61; refine (is_fault_same pb po (s q) _ ?_).mono ?_; exact he; rintro e w' ⟨rfl, hh⟩; replace hh := hh.symm; subst hh)
        go_ret2
        exact ⟨by rw [hcode]; rfl, by rw [← hW]; exact hb3⟩
    · have hqe : q = 10 := by omega
      subst hqe
      have hke : k = 10 := by omega
      subst hke
      have hcode : codeOf 10 = -1 := rfl
      generalize hW : listW w1 s = W
      go_wp2
      go_ret2
      exact ⟨rfl, by rw [← hW]; exact hb3⟩
end Go.Proofs.YtookfnodfkkneacGreatDoor
