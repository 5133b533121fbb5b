/- Our own: texts joined: Errs, As, Code. -/
import Derived.Test.YtimccbilkjjakaaDoorProg
import Derived.WalkKit
import Derived.LaidEql
import Derived.Stop.Asserts
import Derived.RowKitTokens
import Derived.Test.YtimccbilkjjakaaDoorZBase
namespace Go.Proofs.YtimccbilkjjakaaDoor
open Go.RowKit Go.Extern.Stop Go.Stop Go.Extern
theorem c_typeOfS (v : Value) (w : World) : (Extern.ReflectliteType.typeOf #[.iface 147 v]).run Tryd.prog w = .ok (.iface 128 (.agg #[.pointer (some ⟨12, 147, none⟩)])) w := by kernel_rfl
theorem c_typeOfF (v : Value) (w : World) : (Extern.ReflectliteType.typeOf #[.iface 68 v]).run Tryd.prog w = .ok (.iface 128 (.agg #[.pointer (some ⟨12, 68, none⟩)])) w := by kernel_rfl
theorem c_callComparable (w : World) : Sem.run Tryd.prog (callFunc 91 #[.agg #[.pointer (some ⟨12, 147, none⟩)]]) w = .ok (Next.value (.bool true)) w := by
 have h := @run_callFunc_extern Tryd.prog 91 _ (Extern.ReflectliteType.method fun t => do Extern.Rtype.noPackHeld "Comparable" t; pure (.bool (← typeInfo t).comparable)) Tryd.func91 (by kernel_rfl) (by kernel_rfl) (by kernel_rfl) (by kernel_rfl)
 have e : ((Extern.ReflectliteType.method fun t => do Extern.Rtype.noPackHeld "Comparable" t; pure (.bool (← typeInfo t).comparable)) #[.agg #[.pointer (some ⟨12, 147, none⟩)]]).run Tryd.prog w = .ok (.bool true) w := by kernel_rfl
 rw [h, e]; rfl
theorem c_mComparable (v : Value) (w : World) : (Go.method 281 128 v "Comparable").run Tryd.prog w = .ok (91, v) w := by kernel_rfl
theorem c_comp : (Tryd.prog.info? 147).map (·.comparable) = some true := by kernel_rfl
theorem c_size : (Tryd.prog.info? 169).map (·.size) = some 1 := by kernel_rfl
theorem c_noIsS (v : Value) (xT : TypeId) (w : World) : (Instr.typeAssert (.iface 147 v) xT 139 true).run Tryd.prog w = .ok (.tuple #[.nilIface, .bool false]) w := run_typeAssert_lacksB Tryd.underlying139 (by kernel_rfl) (by kernel_rfl) v xT w
theorem c_noAsS (v : Value) (xT : TypeId) (w : World) : (Instr.typeAssert (.iface 147 v) xT 132 true).run Tryd.prog w = .ok (.tuple #[.nilIface, .bool false]) w := run_typeAssert_lacksB Tryd.underlying132 (by kernel_rfl) (by kernel_rfl) v xT w
theorem c_noUnS (v : Value) (xT : TypeId) (w : World) : (Instr.typeAssert (.iface 147 v) xT 135 true).run Tryd.prog w = .ok (.tuple #[.nilIface, .bool false]) w := run_typeAssert_lacksB Tryd.underlying135 (by kernel_rfl) (by kernel_rfl) v xT w
theorem c_noUnsS (v : Value) (xT : TypeId) (w : World) : (Instr.typeAssert (.iface 147 v) xT 137 true).run Tryd.prog w = .ok (.tuple #[.nilIface, .bool false]) w := run_typeAssert_lacksB Tryd.underlying137 (by kernel_rfl) (by kernel_rfl) v xT w
theorem c_noIsF (v : Value) (xT : TypeId) (w : World) : (Instr.typeAssert (.iface 68 v) xT 139 true).run Tryd.prog w = .ok (.tuple #[.nilIface, .bool false]) w := run_typeAssert_lacksB Tryd.underlying139 (by kernel_rfl) (by kernel_rfl) v xT w
theorem c_hasUnF (v : Value) (xT : TypeId) (w : World) : (Instr.typeAssert (.iface 68 v) xT 135 true).run Tryd.prog w = .ok (.tuple #[.iface 68 v, .bool true]) w := run_typeAssert_hasB Tryd.underlying135 (by kernel_rfl) v xT w
theorem c_mUnwrap (v : Value) (w : World) : (Go.method 281 68 v "Unwrap").run Tryd.prog w = .ok (85, v) w := by kernel_rfl
theorem is_same (a : Addr) (w : World) :
  Calls Tryd.prog 33 #[.iface 147 (.pointer (some a)), .iface 147 (.pointer (some a))] w fun e w' => e = .returned (.bool true) ∧ w' = w := by
 obtain ⟨i, hi, hcmp⟩ := Option.map_eq_some_iff.1 c_comp
 obtain ⟨j, hj, hjs⟩ := Option.map_eq_some_iff.1 c_size
 have h8 := @run_callFunc_extern Tryd.prog 50 _ Extern.ReflectliteType.typeOf Tryd.func50 (by kernel_rfl) (by kernel_rfl) (by kernel_rfl) (by kernel_rfl)
 have tT := c_typeOfS
 have cT := c_callComparable
 have mR := c_mComparable
 have heq := run_eql_iface_ptr_same (P := Tryd.prog) w a Tryd.underlying38 Tryd.underlying147 hi hcmp hj
 go_enter Tryd.func33, Tryd.ntmps33
 go_wp2
 refine wp_loop_rounds 1 ?_
 rw [rounds_succ]
 go_wp2
 go_ret
 exact ⟨rfl, rfl⟩
theorem is_other (a b : Addr) (ca cb : Array Value) (ta tb : TypeId) (w : World) (hne : a ≠ b) (ha : w.heap[a.block]? = some (.cells ca ta (0, 0))) (hb : w.heap[b.block]? = some (.cells cb tb (0, 0))) :
  Calls Tryd.prog 33 #[.iface 147 (.pointer (some a)), .iface 147 (.pointer (some b))] w fun e w' => e = .returned (.bool false) ∧ w' = w := by
 obtain ⟨i, hi, hcmp⟩ := Option.map_eq_some_iff.1 c_comp
 obtain ⟨j, hj, hjs⟩ := Option.map_eq_some_iff.1 c_size
 have h8 := @run_callFunc_extern Tryd.prog 50 _ Extern.ReflectliteType.typeOf Tryd.func50 (by kernel_rfl) (by kernel_rfl) (by kernel_rfl) (by kernel_rfl)
 have tT := c_typeOfS
 have cT := c_callComparable
 have mR := c_mComparable
 have nE := c_noIsS
 have uE := c_noUnS
 have vE := c_noUnsS
 have heq := run_eql_iface_ptr_other (P := Tryd.prog) w Tryd.underlying38 Tryd.underlying147 hi hcmp hj (by rw [hjs]; decide) hne ha hb
 go_enter Tryd.func33, Tryd.ntmps33
 go_wp2
 refine wp_loop_rounds 1 ?_
 rw [rounds_succ]
 go_wp2
 go_ret
 exact ⟨rfl, rfl⟩
theorem is_fault_same (pb po : Nat) (b : Addr) (w : World) (h1 : w.cell? ⟨pb, po + 1, none⟩ = some (.iface 147 (.pointer (some b)))) :
  Calls Tryd.prog 33 #[.iface 68 (.pointer (some ⟨pb, po, none⟩)), .iface 147 (.pointer (some b))] w fun e w' => e = .returned (.bool true) ∧ w' = w := by
 obtain ⟨i, hi, hcmp⟩ := Option.map_eq_some_iff.1 c_comp
 obtain ⟨j, hj, hjs⟩ := Option.map_eq_some_iff.1 c_size
 have h8 := @run_callFunc_extern Tryd.prog 50 _ Extern.ReflectliteType.typeOf Tryd.func50 (by kernel_rfl) (by kernel_rfl) (by kernel_rfl) (by kernel_rfl)
 have tT := c_typeOfS
 have cT := c_callComparable
 have mR := c_mComparable
 have nW := c_noIsF
 have uW := c_hasUnF
 have mU := c_mUnwrap
 have heq := run_eql_iface_ptr_same (P := Tryd.prog) w b Tryd.underlying38 Tryd.underlying147 hi hcmp hj
 have hty := run_eql_iface_types (P := Tryd.prog) 68 147 (.pointer (some ⟨pb, po, none⟩)) (.pointer (some b)) Tryd.underlying38 (by decide) w
 go_enter Tryd.func33, Tryd.ntmps33
 go_wp2
 refine wp_loop_rounds 2 ?_
 rw [rounds_succ]
 go_wp2
 rw [rounds_succ]
 go_wp2
 go_ret
 exact ⟨rfl, rfl⟩
theorem is_fault_other (pb po : Nat) (b a : Addr) (ca cb : Array Value) (ta tb : TypeId) (w : World) (h1 : w.cell? ⟨pb, po + 1, none⟩ = some (.iface 147 (.pointer (some a)))) (hne : a ≠ b) (ha : w.heap[a.block]? = some (.cells ca ta (0, 0))) (hb : w.heap[b.block]? = some (.cells cb tb (0, 0))) :
  Calls Tryd.prog 33 #[.iface 68 (.pointer (some ⟨pb, po, none⟩)), .iface 147 (.pointer (some b))] w fun e w' => e = .returned (.bool false) ∧ w' = w := by
 obtain ⟨i, hi, hcmp⟩ := Option.map_eq_some_iff.1 c_comp
 obtain ⟨j, hj, hjs⟩ := Option.map_eq_some_iff.1 c_size
 have h8 := @run_callFunc_extern Tryd.prog 50 _ Extern.ReflectliteType.typeOf Tryd.func50 (by kernel_rfl) (by kernel_rfl) (by kernel_rfl) (by kernel_rfl)
 have tT := c_typeOfS
 have cT := c_callComparable
 have mR := c_mComparable
 have nE := c_noIsS
 have uE := c_noUnS
 have vE := c_noUnsS
 have nW := c_noIsF
 have uW := c_hasUnF
 have mU := c_mUnwrap
 have heq := run_eql_iface_ptr_other (P := Tryd.prog) w Tryd.underlying38 Tryd.underlying147 hi hcmp hj (by rw [hjs]; decide) hne ha hb
 have hty := run_eql_iface_types (P := Tryd.prog) 68 147 (.pointer (some ⟨pb, po, none⟩)) (.pointer (some b)) Tryd.underlying38 (by decide) w
 go_enter Tryd.func33, Tryd.ntmps33
 go_wp2
 refine wp_loop_rounds 2 ?_
 rw [rounds_succ]
 go_wp2
 rw [rounds_succ]
 go_wp2
 go_ret
 exact ⟨rfl, rfl⟩
end Go.Proofs.YtimccbilkjjakaaDoor
namespace Go.Proofs.YtimccbilkjjakaaDoor
open Go.RowKit Go.Extern.Stop Go.Stop Go.Extern
theorem d_valueOf (t : Addr) (w : World) : (ReflectliteValue.unpack (.iface 91 (.pointer (some t)))).run Tryd.prog w
  = .ok (.agg #[.pointer (some ⟨12, 91, none⟩), .pointer (some ⟨w.heap.size, 0, none⟩), .int .u64 150]) (w.alloc (.cells #[.pointer (some t)] 91)) := by kernel_rfl
theorem d_type (a : Addr) (w : World) : (ReflectliteValue.methodAny (ReflectliteValue.valueError "reflectlite.Value.Type" 0) (fun t _ _ _ => ReflectliteType.toType t) #[.agg #[.pointer (some ⟨12, 91, none⟩), .pointer (some a), .int .u64 150]]).run Tryd.prog w
  = .ok (.iface 128 (.agg #[.pointer (some ⟨12, 91, none⟩)])) w := by kernel_rfl
theorem d_mKind (h : Value) (w : World) : (Go.method 281 128 (.agg #[h]) "Kind").run Tryd.prog w = .ok (81, h) w := by kernel_rfl
theorem d_kindPP (w : World) : ((ReflectliteType.abiMethod fun t => (fun a : Nat => Value.int IntKind.u8 (a : Int)) <$> Rtype.kind t) #[.pointer (some ⟨12, 91, none⟩)]).run Tryd.prog w = .ok (.int .u8 22) w := by kernel_rfl
theorem d_kindP (w : World) : ((ReflectliteType.abiMethod fun t => (fun a : Nat => Value.int IntKind.u8 (a : Int)) <$> Rtype.kind t) #[.pointer (some ⟨12, 68, none⟩)]).run Tryd.prog w = .ok (.int .u8 22) w := by kernel_rfl
theorem d_partsPP (a : Addr) (w : World) : (ReflectliteValue.parts (.agg #[.pointer (some ⟨12, 91, none⟩), .pointer (some a), .int .u64 150])).run Tryd.prog w = .ok (some (91, a, 150)) w := by kernel_rfl
theorem d_isNil (a p : Addr) (W : World) (ha : W.cell? a = some (.pointer (some p))) :
  (ReflectliteValue.method (ReflectliteValue.valueError "reflectlite.Value.IsNil" 0) ReflectliteValue.isNil #[.agg #[.pointer (some ⟨12, 91, none⟩), .pointer (some a), .int .u64 150]]).run Tryd.prog W = .ok (.bool false) W := by
 rw [show ReflectliteValue.method (ReflectliteValue.valueError "reflectlite.Value.IsNil" 0) ReflectliteValue.isNil #[.agg #[.pointer (some ⟨12, 91, none⟩), .pointer (some a), .int .u64 150]] = (ReflectliteValue.parts (.agg #[.pointer (some ⟨12, 91, none⟩), .pointer (some a), .int .u64 150]) >>= _) from rfl]
 simp only [Sem.run_bind, d_partsPP, Result.andThen]
 simp [ReflectliteValue.isNil, loadVar, isAgg, underlying, Tryd.underlying91, ha, Result.andThen]
theorem d_mElem (h : Value) (w : World) : (Go.method 281 128 (.agg #[h]) "Elem").run Tryd.prog w = .ok (92, .agg #[h]) w := by kernel_rfl
theorem d_mImplements (h : Value) (w : World) : (Go.method 281 128 (.agg #[h]) "Implements").run Tryd.prog w = .ok (93, .agg #[h]) w := by kernel_rfl
theorem d_mAssignable (h : Value) (w : World) : (Go.method 281 128 (.agg #[h]) "AssignableTo").run Tryd.prog w = .ok (90, .agg #[h]) w := by kernel_rfl
theorem d_elem (w : World) : (ReflectliteType.method ReflectliteType.elem #[.agg #[.pointer (some ⟨12, 91, none⟩)]]).run Tryd.prog w = .ok (.iface 128 (.agg #[.pointer (some ⟨12, 68, none⟩)])) w := by kernel_rfl
theorem d_implements (w : World) : (ReflectliteType.relation "Implements" ReflectliteType.implements_ #[.agg #[.pointer (some ⟨12, 68, none⟩)], .iface 128 (.agg #[.pointer (some ⟨12, 38, none⟩)])]).run Tryd.prog w = .ok (.bool true) w := by kernel_rfl
theorem d_assignable (w : World) : (ReflectliteType.relation "AssignableTo" ReflectliteType.assignableTo #[.agg #[.pointer (some ⟨12, 68, none⟩)], .iface 128 (.agg #[.pointer (some ⟨12, 68, none⟩)])]).run Tryd.prog w = .ok (.bool true) w := by kernel_rfl
theorem d_assignableS (w : World) : (ReflectliteType.relation "AssignableTo" ReflectliteType.assignableTo #[.agg #[.pointer (some ⟨12, 147, none⟩)], .iface 128 (.agg #[.pointer (some ⟨12, 68, none⟩)])]).run Tryd.prog w = .ok (.bool false) w := by kernel_rfl
theorem d_valueOfP (e : Addr) (w : World) : (ReflectliteValue.unpack (.iface 68 (.pointer (some e)))).run Tryd.prog w
  = .ok (.agg #[.pointer (some ⟨12, 68, none⟩), .pointer (some ⟨w.heap.size, 0, none⟩), .int .u64 150]) (w.alloc (.cells #[.pointer (some e)] 68)) := by kernel_rfl
theorem d_elemOf (w : World) : (Rtype.elem? 91).run Tryd.prog w = .ok (some 68) w := by kernel_rfl
theorem d_mk (p : Addr) (w : World) : (ReflectliteValue.mk 68 p ReflectliteValue.flagAddr).run Tryd.prog w = .ok (.agg #[.pointer (some ⟨12, 68, none⟩), .pointer (some p), .int .u64 406]) w := by kernel_rfl
theorem d_elemV (a p : Addr) (W : World) (ha : W.cell? a = some (.pointer (some p))) :
  (ReflectliteValue.method (ReflectliteValue.valueError "reflectlite.Value.Elem" 0) ReflectliteValue.elem #[.agg #[.pointer (some ⟨12, 91, none⟩), .pointer (some a), .int .u64 150]]).run Tryd.prog W
   = .ok (.agg #[.pointer (some ⟨12, 68, none⟩), .pointer (some p), .int .u64 406]) W := by
 rw [show ReflectliteValue.method (ReflectliteValue.valueError "reflectlite.Value.Elem" 0) ReflectliteValue.elem #[.agg #[.pointer (some ⟨12, 91, none⟩), .pointer (some a), .int .u64 150]] = (ReflectliteValue.parts (.agg #[.pointer (some ⟨12, 91, none⟩), .pointer (some a), .int .u64 150]) >>= _) from rfl]
 simp only [Sem.run_bind, d_partsPP, Result.andThen]
 simp [ReflectliteValue.elem, loadVar, isAgg, underlying, Tryd.underlying91, ha, Result.andThen, d_elemOf, d_mk]
theorem d_partsA (a : Addr) (w : World) : (ReflectliteValue.parts (.agg #[.pointer (some ⟨12, 68, none⟩), .pointer (some a), .int .u64 406])).run Tryd.prog w = .ok (some (68, a, 406)) w := by kernel_rfl
theorem d_parts (a : Addr) (w : World) : (ReflectliteValue.parts (.agg #[.pointer (some ⟨12, 68, none⟩), .pointer (some a), .int .u64 150])).run Tryd.prog w = .ok (some (68, a, 150)) w := by kernel_rfl
theorem d_direct (w : World) : (Rtype.directlyAssignable 68 68).run Tryd.prog w = .ok true w := by kernel_rfl
theorem d_set (ta b e : Addr) (old : Value) (W : World) (hb : W.cell? b = some (.pointer (some e))) (ht : W.cell? ta = some old) (hf : W.frozen? ta = false) :
  (ReflectliteValue.set #[.agg #[.pointer (some ⟨12, 68, none⟩), .pointer (some ta), .int .u64 406], .agg #[.pointer (some ⟨12, 68, none⟩), .pointer (some b), .int .u64 150]]).run Tryd.prog W
   = .ok (.tuple #[]) (W.setCell ta (.pointer (some e))) := by
 rw [show ReflectliteValue.set #[.agg #[.pointer (some ⟨12, 68, none⟩), .pointer (some ta), .int .u64 406], .agg #[.pointer (some ⟨12, 68, none⟩), .pointer (some b), .int .u64 150]] = (ReflectliteValue.parts (.agg #[.pointer (some ⟨12, 68, none⟩), .pointer (some ta), .int .u64 406]) >>= fun _ => (ReflectliteValue.parts (.agg #[.pointer (some ⟨12, 68, none⟩), .pointer (some b), .int .u64 150]) >>= _)) from rfl]
 simp only [Sem.run_bind, d_partsA, d_parts, Result.andThen]
 simp [ReflectliteValue.flagAddr, loadVar, isAgg, underlying, Tryd.underlying68, hb, Result.andThen, d_direct, storeVar, Value.cells, storeCells, Addr.add]
 rw [run_store Tryd.prog W ta _ _ (by rfl)]
 simp [ht, hf]
abbrev asW (w : World) (t : Addr) : World := ((w.alloc (.cells #[.pointer (some t)] 91)).alloc (.cells #[.pointer (some ⟨12, 91, none⟩), .pointer (some ⟨w.heap.size, 0, none⟩), .int .u64 150] 110)).alloc (.cells #[.pointer (some ⟨12, 91, none⟩), .pointer (some ⟨w.heap.size, 0, none⟩), .int .u64 150] 110)
set_option maxHeartbeats 4000000 in
theorem as_hit (e t : Addr) (old : Value) (w : World) (hg : w.cell? ⟨10, 0, none⟩ = some (.iface 128 (.agg #[.pointer (some ⟨12, 38, none⟩)]))) (ht0 : w.cell? t = some old) (hf0 : w.frozen? t = false) :
  Calls Tryd.prog 32 #[.iface 68 (.pointer (some e)), .iface 91 (.pointer (some t))] w fun ev w' => ev = .returned (.bool true) ∧ w' = ((asW w t).alloc (.cells #[.pointer (some e)] 68)).setCell t (.pointer (some e)) := by
 have h6 := @run_callFunc_extern Tryd.prog 46 _ (fun args => ReflectliteValue.unpack (args.getD 0 (.tuple #[]))) Tryd.func46 (by kernel_rfl) (by kernel_rfl) (by kernel_rfl) (by kernel_rfl)
 have h7 := @run_callFunc_extern Tryd.prog 47 _ (ReflectliteValue.methodAny (ReflectliteValue.valueError "reflectlite.Value.Type" 0) (fun t _ _ _ => ReflectliteType.toType t)) Tryd.func47 (by kernel_rfl) (by kernel_rfl) (by kernel_rfl) (by kernel_rfl)
 have h8 := @run_callFunc_extern Tryd.prog 48 _ (ReflectliteValue.method (ReflectliteValue.valueError "reflectlite.Value.IsNil" 0) ReflectliteValue.isNil) Tryd.func48 (by kernel_rfl) (by kernel_rfl) (by kernel_rfl) (by kernel_rfl)
 have h27 := @run_callFunc_extern Tryd.prog 81 _ (ReflectliteType.abiMethod fun t => do pure (.int .u8 (← Rtype.kind t))) Tryd.func81 (by kernel_rfl) (by kernel_rfl) (by kernel_rfl) (by kernel_rfl)
 have h37 := @run_callFunc_extern Tryd.prog 92 _ (ReflectliteType.method ReflectliteType.elem) Tryd.func92 (by kernel_rfl) (by kernel_rfl) (by kernel_rfl) (by kernel_rfl)
 have h38 := @run_callFunc_extern Tryd.prog 93 _ (ReflectliteType.relation "Implements" ReflectliteType.implements_) Tryd.func93 (by kernel_rfl) (by kernel_rfl) (by kernel_rfl) (by kernel_rfl)
 have h10 := @run_callFunc_extern Tryd.prog 50 _ ReflectliteType.typeOf Tryd.func50 (by kernel_rfl) (by kernel_rfl) (by kernel_rfl) (by kernel_rfl)
 have h35 := @run_callFunc_extern Tryd.prog 90 _ (ReflectliteType.relation "AssignableTo" ReflectliteType.assignableTo) Tryd.func90 (by kernel_rfl) (by kernel_rfl) (by kernel_rfl) (by kernel_rfl)
 have h11 := @run_callFunc_extern Tryd.prog 59 _ (ReflectliteValue.method (ReflectliteValue.valueError "reflectlite.Value.Elem" 0) ReflectliteValue.elem) Tryd.func59 (by kernel_rfl) (by kernel_rfl) (by kernel_rfl) (by kernel_rfl)
 have h12 := @run_callFunc_extern Tryd.prog 60 _ ReflectliteValue.set Tryd.func60 (by kernel_rfl) (by kernel_rfl) (by kernel_rfl) (by kernel_rfl)
 have tO := c_typeOfF
 have mA := d_mAssignable
 have a25 := d_assignable
 have v25 := d_valueOfP
 have f6 := d_valueOf
 have f7 := d_type
 have mK := d_mKind
 have mE := d_mElem
 have mI := d_mImplements
 have k27 := d_kindPP
 have k25 := d_kindP
 have e27 := d_elem
 have i25 := d_implements
 have n8 := d_isNil ⟨w.heap.size, 0, none⟩ t ((w.alloc (.cells #[.pointer (some t)] 91)).alloc (.cells #[.pointer (some ⟨12, 91, none⟩), .pointer (some ⟨w.heap.size, 0, none⟩), .int .u64 150] 110)) (by simp)
 have hlt : 10 < w.heap.size := by
  rcases Nat.lt_or_ge 10 w.heap.size with h | h
  ·exact h
  ·simp [World.cell?, Array.getElem?_eq_none h] at hg
 have hg2 : ((w.alloc (.cells #[.pointer (some t)] 91)).alloc (.cells #[.pointer (some ⟨12, 91, none⟩), .pointer (some ⟨w.heap.size, 0, none⟩), .int .u64 150] 110)).cell? ⟨10, 0, none⟩ = some (.iface 128 (.agg #[.pointer (some ⟨12, 38, none⟩)])) := by
  rw [World.cell?_alloc_lt _ _ ⟨10, 0, none⟩ (by simp; omega), World.cell?_alloc_lt _ _ ⟨10, 0, none⟩ hlt]; exact hg
 have htl : t.block < w.heap.size := by
  rcases Nat.lt_or_ge t.block w.heap.size with h | h
  ·exact h
  ·simp [World.cell?, Array.getElem?_eq_none h] at ht0
 have el := d_elemV ⟨w.heap.size, 0, none⟩ t (asW w t) (by rw [World.cell?_alloc_lt _ _ ⟨w.heap.size, 0, none⟩ (by simp; omega)]; simp)
 have st := d_set t ⟨w.heap.size + 1 + 1 + 1, 0, none⟩ e old ((asW w t).alloc (.cells #[.pointer (some e)] 68))
  (by rw [World.cell?_alloc_at _ _ _ _ (by simp)]; rfl)
  (by rw [World.cell?_alloc_lt _ _ t (by simp; omega), World.cell?_alloc_lt _ _ t (by simp; omega), World.cell?_alloc_lt _ _ t (by simp; omega), World.cell?_alloc_lt _ _ t htl]; exact ht0)
  (by rw [World.frozen?_alloc_old _ _ t (by simp; omega), World.frozen?_alloc_old _ _ t (by simp; omega), World.frozen?_alloc_old _ _ t (by simp; omega), World.frozen?_alloc_old _ _ t (Nat.ne_of_lt htl)]; exact hf0)
 go_enter Tryd.func32, Tryd.ntmps32
 go_wp2
 refine wp_loop_rounds 1 ?_
 rw [rounds_succ]
 go_wp2
 go_ret
 exact ⟨rfl, rfl⟩
set_option maxHeartbeats 4000000 in
theorem as_miss (a t : Addr) (w : World) (hg : w.cell? ⟨10, 0, none⟩ = some (.iface 128 (.agg #[.pointer (some ⟨12, 38, none⟩)]))) :
  Calls Tryd.prog 32 #[.iface 147 (.pointer (some a)), .iface 91 (.pointer (some t))] w fun ev w' => ev = .returned (.bool false) ∧ w' = asW w t := by
 have h6 := @run_callFunc_extern Tryd.prog 46 _ (fun args => ReflectliteValue.unpack (args.getD 0 (.tuple #[]))) Tryd.func46 (by kernel_rfl) (by kernel_rfl) (by kernel_rfl) (by kernel_rfl)
 have h7 := @run_callFunc_extern Tryd.prog 47 _ (ReflectliteValue.methodAny (ReflectliteValue.valueError "reflectlite.Value.Type" 0) (fun t _ _ _ => ReflectliteType.toType t)) Tryd.func47 (by kernel_rfl) (by kernel_rfl) (by kernel_rfl) (by kernel_rfl)
 have h8 := @run_callFunc_extern Tryd.prog 48 _ (ReflectliteValue.method (ReflectliteValue.valueError "reflectlite.Value.IsNil" 0) ReflectliteValue.isNil) Tryd.func48 (by kernel_rfl) (by kernel_rfl) (by kernel_rfl) (by kernel_rfl)
 have h27 := @run_callFunc_extern Tryd.prog 81 _ (ReflectliteType.abiMethod fun t => do pure (.int .u8 (← Rtype.kind t))) Tryd.func81 (by kernel_rfl) (by kernel_rfl) (by kernel_rfl) (by kernel_rfl)
 have h37 := @run_callFunc_extern Tryd.prog 92 _ (ReflectliteType.method ReflectliteType.elem) Tryd.func92 (by kernel_rfl) (by kernel_rfl) (by kernel_rfl) (by kernel_rfl)
 have h38 := @run_callFunc_extern Tryd.prog 93 _ (ReflectliteType.relation "Implements" ReflectliteType.implements_) Tryd.func93 (by kernel_rfl) (by kernel_rfl) (by kernel_rfl) (by kernel_rfl)
 have h10 := @run_callFunc_extern Tryd.prog 50 _ ReflectliteType.typeOf Tryd.func50 (by kernel_rfl) (by kernel_rfl) (by kernel_rfl) (by kernel_rfl)
 have h35 := @run_callFunc_extern Tryd.prog 90 _ (ReflectliteType.relation "AssignableTo" ReflectliteType.assignableTo) Tryd.func90 (by kernel_rfl) (by kernel_rfl) (by kernel_rfl) (by kernel_rfl)
 have tO := c_typeOfS
 have mA := d_mAssignable
 have a25 := d_assignableS
 have f6 := d_valueOf
 have f7 := d_type
 have mK := d_mKind
 have mE := d_mElem
 have mI := d_mImplements
 have k27 := d_kindPP
 have k25 := d_kindP
 have e27 := d_elem
 have i25 := d_implements
 have nE := c_noAsS
 have uE := c_noUnS
 have vE := c_noUnsS
 have n8 := d_isNil ⟨w.heap.size, 0, none⟩ t ((w.alloc (.cells #[.pointer (some t)] 91)).alloc (.cells #[.pointer (some ⟨12, 91, none⟩), .pointer (some ⟨w.heap.size, 0, none⟩), .int .u64 150] 110)) (by simp)
 have hlt : 10 < w.heap.size := by
  rcases Nat.lt_or_ge 10 w.heap.size with h | h
  ·exact h
  ·simp [World.cell?, Array.getElem?_eq_none h] at hg
 have hg2 : ((w.alloc (.cells #[.pointer (some t)] 91)).alloc (.cells #[.pointer (some ⟨12, 91, none⟩), .pointer (some ⟨w.heap.size, 0, none⟩), .int .u64 150] 110)).cell? ⟨10, 0, none⟩ = some (.iface 128 (.agg #[.pointer (some ⟨12, 38, none⟩)])) := by
  rw [World.cell?_alloc_lt _ _ ⟨10, 0, none⟩ (by simp; omega), World.cell?_alloc_lt _ _ ⟨10, 0, none⟩ hlt]; exact hg
 go_enter Tryd.func32, Tryd.ntmps32
 go_wp2
 refine wp_loop_rounds 1 ?_
 rw [rounds_succ]
 go_wp2
 go_ret
 exact ⟨rfl, rfl⟩
end Go.Proofs.YtimccbilkjjakaaDoor
namespace Go.Proofs.YtimccbilkjjakaaDoor
open Go.RowKit
def gErr : List Nat := [4, 3, 1, 5, 6, 7, 8, 0, 2, 9]
structure Sents (w : World) (s : Nat → Addr) : Prop where
 glob : ∀ i, i < 10 → w.cell? ⟨gErr.getD i 0, 0, none⟩ = some (sentV (s i))
 row : ∀ i, i < 10 → ∃ c t, w.heap[(s i).block]? = some (.cells c t (0, 0))
 other : ∀ i j, i < 10 → j < 10 → i ≠ j → s i ≠ s j
 handle : w.cell? ⟨10, 0, none⟩ = some (.iface 128 (.agg #[.pointer (some ⟨12, 38, none⟩)]))
theorem Sents.below {w w' : World} {s : Nat → Addr} (h : Sents w s) (hb : Below w.heap.size w w') : Sents w' s where
 glob i hi := by rw [hb.cell (cell_lt (h.glob i hi))]; exact h.glob i hi
 row i hi := by
  obtain ⟨c, t, e⟩ := h.row i hi
  exact ⟨c, t, by rw [hb.block _ (heap_lt e)]; exact e⟩
 other := h.other
 handle := by rw [hb.cell (cell_lt h.handle)]; exact h.handle
theorem code_nil (w : World) : Calls Tryd.prog 20 #[.nilIface] w fun e w' => e = .returned (.tuple #[.int .i64 0, .int .i64 (-1)]) ∧ w' = w := by
 go_enter Tryd.func20, Tryd.ntmps20
 go_wp2
 go_ret2
 exact ⟨rfl, rfl⟩
abbrev codeW (w : World) : World := asW (w.alloc (.cells #[.pointer none] 68)) ⟨w.heap.size, 0, none⟩
theorem codeW_below (w : World) : Below w.heap.size w (codeW w) :=
 ((((Below.refl _ _).alloc (Nat.le_refl _) _).alloc (by simp) _).alloc (by simp; omega) _).alloc (by simp; omega) _
abbrev listW (w : World) (s : Nat → Addr) : World := w.alloc (.cells #[sentV (s 0), sentV (s 1), sentV (s 2), sentV (s 3), sentV (s 4), sentV (s 5), sentV (s 6), sentV (s 7), sentV (s 8), sentV (s 9)] 38)
theorem list_cell (w : World) (s : Nat → Addr) (k : Nat) (hk : k < 10) : (listW w s).cell? ⟨w.heap.size, k, none⟩ = some (sentV (s k)) := by
 match k, hk with
 | 0, _ => simp
 | 1, _ => simp
 | 2, _ => simp
 | 3, _ => simp
 | 4, _ => simp
 | 5, _ => simp
 | 6, _ => simp
 | 7, _ => simp
 | 8, _ => simp
 | 9, _ => simp
def codeOf (k : Nat) : Int := if k < 10 then (k : Int) + 1 else -1
set_option maxRecDepth 100000 in
set_option maxHeartbeats 4000000 in
theorem code_str (s : Nat → Addr) (a : Addr) (k : Nat) (hk : k ≤ 10) (w : World) (hS : Sents w s) (hrow : ∃ c t, w.heap[a.block]? = some (.cells c t (0, 0))) (hlo : ∀ i, i < k → a ≠ s i) (hat : k < 10 → a = s k) :
  Calls Tryd.prog 20 #[sentV a] w fun e w' => e = .returned (.tuple #[.int .i64 (codeOf k), .int .i64 (-1)]) ∧ Below w.heap.size w w' := by
 have hH := (hS.below ((Below.refl w.heap.size w).alloc (Nat.le_refl _) (.cells #[.pointer none] 68))).handle
 have hS2 := hS.below (codeW_below w)
 have g0 := hS2.glob 0 (by omega)
 have g1 := hS2.glob 1 (by omega)
 have g2 := hS2.glob 2 (by omega)
 have g3 := hS2.glob 3 (by omega)
 have g4 := hS2.glob 4 (by omega)
 have g5 := hS2.glob 5 (by omega)
 have g6 := hS2.glob 6 (by omega)
 have g7 := hS2.glob 7 (by omega)
 have g8 := hS2.glob 8 (by omega)
 have g9 := hS2.glob 9 (by omega)
 simp only [gErr, List.getD_cons_zero, List.getD_cons_succ] at g0 g1 g2 g3 g4 g5 g6 g7 g8 g9
 have hb3 : Below w.heap.size w (listW (codeW w) s) := (codeW_below w).alloc (by simp; omega) _
 have hS3 := hS.below hb3
 have hrow3 : ∃ c t, (listW (codeW w) s).heap[a.block]? = some (.cells c t (0, 0)) := by
  obtain ⟨c, t, e⟩ := hrow
  exact ⟨c, t, by rw [hb3.block _ (heap_lt e)]; exact e⟩
 have hcell := list_cell (codeW w) s
 have hsz : (codeW w).heap.size = w.heap.size + 1 + 1 + 1 + 1 := by simp
 rw [hsz] at hcell
 have HL : Hid (∀ i, i < k → a ≠ s i) := hlo
 have HA : Hid (k < 10 → a = s k) := hat
 have HC : Hid (∀ k, k < 10 → (listW (codeW w) s).cell? ⟨w.heap.size + 1 + 1 + 1 + 1, k, none⟩ = some (sentV (s k))) := hcell
 have HR : Hid (∃ c t, (listW (codeW w) s).heap[a.block]? = some (.cells c t (0, 0))) := hrow3
 clear hlo hat hcell hrow3 hrow hsz
 go_enter Tryd.func20, Tryd.ntmps20
 go_wp2_with (go_at_call 32; refine (as_miss _ _ _ hH).mono ?_; rintro e w' ⟨rfl, hh⟩; replace hh := hh.symm; subst hh)
 go_loop [3, 28] (fun at_ i => ∃ q : Nat, at_ = .int .i64 (-1) ∧ q ≤ k ∧ i = .int .i64 q) (fun _ i => 10 - (intOf i).toNat)
 case atStart => exact ⟨0, rfl, by omega, rfl⟩
 case round =>
  obtain ⟨q, rfl, hq, rfl⟩ := hrel
  clear g0 g1 g2 g3 g4 g5 g6 g7 g8 g9 hH
  by_cases hq10 : q < 10
  ·have hc := HC.out q hq10
   have hq' : (q : Int) < 10 := by omega
   by_cases hqk : q < k
   ·have hne : a ≠ s q := HL.out q hqk
    obtain ⟨ca, ta, ha⟩ := HR.out
    obtain ⟨cb, tb, hb⟩ := hS3.row q hq10
    generalize hW : listW (codeW w) s = W at hc ha hb
    go_wp2_with (go_at_call 33; refine (is_other a (s q) ca cb ta tb _ ?_ ?_ ?_).mono ?_; exact hne; exact ha; exact hb; rintro e w' ⟨rfl, hh⟩; replace hh := hh.symm; subst hh)
    subst hW
    refine ⟨⟨rfl, ?_⟩, ?_⟩
    ·(repeat apply Exists.intro)
     refine ⟨?rel, rfl⟩
     exact ⟨q + 1, rfl, by omega, by go_num⟩
    ·simp [intOf]; omega
   ·have hqe : q = k := by omega
    subst hqe
    have hcode : codeOf q = (q : Int) + 1 := by simp [codeOf, hq10]
    have he : a = s q := HA.out hq10
    subst he
    generalize hW : listW (codeW w) s = W at hc
    go_wp2_with (go_at_call 33; refine (is_same (s q) _).mono ?_; rintro e w' ⟨rfl, hh⟩; replace hh := hh.symm; subst hh)
    go_ret2
    exact ⟨by rw [hcode]; rfl, by rw [← hW]; exact hb3⟩
  ·have hqe : q = 10 := by omega
   subst hqe
   have hke : k = 10 := by omega
   subst hke
   have hcode : codeOf 10 = -1 := rfl
   generalize hW : listW (codeW w) s = W
   go_wp2
   go_ret2
   exact ⟨rfl, by rw [← hW]; exact hb3⟩
theorem as_hit_b (e t : Addr) (old : Value) (B : Nat) (w : World) (hg : w.cell? ⟨10, 0, none⟩ = some (.iface 128 (.agg #[.pointer (some ⟨12, 38, none⟩)]))) (ht0 : w.cell? t = some old) (hf0 : w.frozen? t = false) (hB : B ≤ t.block) :
  Calls Tryd.prog 32 #[.iface 68 (.pointer (some e)), .iface 91 (.pointer (some t))] w fun ev w' => ev = .returned (.bool true) ∧ w'.cell? t = some (.pointer (some e)) ∧ Below B w w' ∧ w.heap.size < w'.heap.size := by
 have htl := cell_lt ht0
 refine (as_hit e t old w hg ht0 hf0).mono ?_
 rintro ev w' ⟨rfl, rfl⟩
 refine ⟨rfl, ?_, ?_, ?_⟩
 ·have hold : ((asW w t).alloc (.cells #[.pointer (some e)] 68)).cell? t = some old := by
   rw [World.cell?_alloc_lt _ _ t (by simp; omega), World.cell?_alloc_lt _ _ t (by simp; omega), World.cell?_alloc_lt _ _ t (by simp; omega), World.cell?_alloc_lt _ _ t htl]; exact ht0
  exact World.cell?_setCell_same _ _ _ hold
 ·exact (((((Below.refl B w).alloc (by omega) _).alloc (by simp; omega) _).alloc (by simp; omega) _).alloc (by simp; omega) _).setCell hB _
 ·simp [World.setCell]; omega
set_option maxRecDepth 100000 in
set_option maxHeartbeats 4000000 in
theorem code_fault (s : Nat → Addr) (pb po : Nat) (n : Int) (a : Addr) (k : Nat) (hk : k ≤ 10) (w : World) (hS : Sents w s) (hn : w.cell? ⟨pb, po, none⟩ = some (.int .i64 n)) (he : w.cell? ⟨pb, po + 1, none⟩ = some (sentV a)) (hrow : ∃ c t, w.heap[a.block]? = some (.cells c t (0, 0))) (hlo : ∀ i, i < k → a ≠ s i) (hat : k < 10 → a = s k) :
  Calls Tryd.prog 20 #[.iface 68 (.pointer (some ⟨pb, po, none⟩))] w fun e w' => e = .returned (.tuple #[.int .i64 (codeOf k), .int .i64 n]) ∧ Below w.heap.size w w' := by
 have hb1 : Below w.heap.size w (w.alloc (.cells #[.pointer none] 68)) := (Below.refl w.heap.size w).alloc (Nat.le_refl _) _
 have hH := (hS.below hb1).handle
 have ht : (w.alloc (.cells #[.pointer none] 68)).cell? ⟨w.heap.size, 0, none⟩ = some (.pointer none) := by simp
 have hf : (w.alloc (.cells #[.pointer none] 68)).frozen? ⟨w.heap.size, 0, none⟩ = false := by simp
 have HL : Hid (∀ i, i < k → a ≠ s i) := hlo
 have HA : Hid (k < 10 → a = s k) := hat
 have HR : Hid (∃ c t, w.heap[a.block]? = some (.cells c t (0, 0))) := hrow
 have HN : Hid (w.cell? ⟨pb, po, none⟩ = some (.int .i64 n)) := hn
 have HE : Hid (w.cell? ⟨pb, po + 1, none⟩ = some (sentV a)) := he
 clear hlo hat hrow hn he
 go_enter Tryd.func20, Tryd.ntmps20
 go_wp2_with fail
 refine (as_hit_b _ _ _ w.heap.size _ hH ht hf (Nat.le_refl _)).mono ?_
 rintro e w1 ⟨rfl, hc1, hb2, hs1⟩
 have hb : Below w.heap.size w w1 := hb1.trans hb2
 clear hH ht hf hb1 hb2
 have hn1 : w1.cell? ⟨pb, po, none⟩ = some (.int .i64 n) := by rw [hb.cell (cell_lt HN.out)]; exact HN.out
 have hS2 := hS.below hb
 have g0 := hS2.glob 0 (by omega)
 have g1 := hS2.glob 1 (by omega)
 have g2 := hS2.glob 2 (by omega)
 have g3 := hS2.glob 3 (by omega)
 have g4 := hS2.glob 4 (by omega)
 have g5 := hS2.glob 5 (by omega)
 have g6 := hS2.glob 6 (by omega)
 have g7 := hS2.glob 7 (by omega)
 have g8 := hS2.glob 8 (by omega)
 have g9 := hS2.glob 9 (by omega)
 simp only [gErr, List.getD_cons_zero, List.getD_cons_succ] at g0 g1 g2 g3 g4 g5 g6 g7 g8 g9
 have hb3 : Below w.heap.size w (listW w1 s) := hb.alloc (by have := hb.size; omega) _
 have hS3 := hS.below hb3
 have HE3 : Hid ((listW w1 s).cell? ⟨pb, po + 1, none⟩ = some (sentV a)) := by unfold Hid; rw [hb3.cell (cell_lt HE.out)]; exact HE.out
 have HR3 : Hid (∃ c t, (listW w1 s).heap[a.block]? = some (.cells c t (0, 0))) := by
  obtain ⟨c, t, e⟩ := HR.out
  exact ⟨c, t, by rw [hb3.block _ (heap_lt e)]; exact e⟩
 have HC : Hid (∀ k, k < 10 → (listW w1 s).cell? ⟨w1.heap.size, k, none⟩ = some (sentV (s k))) := list_cell w1 s
 go_wp2
 go_loop [3, 28] (fun at_ i => ∃ q : Nat, at_ = .int .i64 n ∧ q ≤ k ∧ i = .int .i64 q) (fun _ i => 10 - (intOf i).toNat)
 case atStart => exact ⟨0, rfl, by omega, rfl⟩
 case round =>
  obtain ⟨q, rfl, hq, rfl⟩ := hrel
  clear g0 g1 g2 g3 g4 g5 g6 g7 g8 g9 hc1 hn1
  by_cases hq10 : q < 10
  ·have hc := HC.out q hq10
   have hq' : (q : Int) < 10 := by omega
   have he := HE3.out
   by_cases hqk : q < k
   ·have hne : a ≠ s q := HL.out q hqk
    obtain ⟨ca, ta, ha⟩ := HR3.out
    obtain ⟨cb, tb, hb⟩ := hS3.row q hq10
    generalize hW : listW w1 s = W at hc ha hb he
    go_wp2_with (go_at_call 33; refine (is_fault_other pb po (s q) a ca cb ta tb _ ?_ ?_ ?_ ?_).mono ?_; exact he; exact hne; exact ha; exact hb; rintro e w' ⟨rfl, hh⟩; replace hh := hh.symm; subst hh)
    subst hW
    refine ⟨⟨rfl, ?_⟩, ?_⟩
    ·(repeat apply Exists.intro)
     refine ⟨?rel, rfl⟩
     exact ⟨q + 1, rfl, by omega, by go_num⟩
    ·simp [intOf]; omega
   ·have hqe : q = k := by omega
    subst hqe
    have hcode : codeOf q = (q : Int) + 1 := by simp [codeOf, hq10]
    have hea : a = s q := HA.out hq10
    subst hea
    generalize hW : listW w1 s = W at hc he
    go_wp2_with (go_at_call 33; refine (is_fault_same pb po (s q) _ ?_).mono ?_; exact he; rintro e w' ⟨rfl, hh⟩; replace hh := hh.symm; subst hh)
    go_ret2
    exact ⟨by rw [hcode]; rfl, by rw [← hW]; exact hb3⟩
  ·have hqe : q = 10 := by omega
   subst hqe
   have hke : k = 10 := by omega
   subst hke
   have hcode : codeOf 10 = -1 := rfl
   generalize hW : listW w1 s = W
   go_wp2
   go_ret2
   exact ⟨rfl, by rw [← hW]; exact hb3⟩
end Go.Proofs.YtimccbilkjjakaaDoor
