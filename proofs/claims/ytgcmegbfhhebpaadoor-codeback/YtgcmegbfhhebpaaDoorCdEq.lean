/-
  Our own: two instructions compared.
-/
import Derived.Test.YtgcmegbfhhebpaaDoorCdCoding
import Derived.Laws.StructEq
namespace Go.Proofs.YtgcmegbfhhebpaaDoor
open Go.RowKit

theorem ci_under : Tryd.prog.underlying 26 = some (.struct (Tryd.prog.fieldsOf 26)) := by kernel_rfl
theorem ci_stood : Tryd.prog.stoodInHeld 26 = false := by kernel_rfl
theorem ci_guard : Tryd.prog.eqGuardType Tryd.prog.depth 26 = false := by kernel_rfl
theorem ci_fields : (Tryd.prog.fieldsOf 26).toList.map (fun f => (f.name, f.type, f.offset)) = [("Op", 9, 0), ("D", 3, 1), ("A", 3, 2), ("B", 3, 3), ("Imm", 3, 4)] := by kernel_rfl
/-- Are two instructions one? -/
def eqC (x y : Ci) : Bool := (x.op == y.op) && ((x.d == y.d) && ((x.a == y.a) && ((x.b == y.b) && (x.imm == y.imm))))
theorem eqC_iff (x y : Ci) : eqC x y = true ↔ x = y := by
  obtain ⟨xo, xd, xa, xb, xi⟩ := x
  obtain ⟨yo, yd, ya, yb, yi⟩ := y
  simp [eqC]
theorem part_at (x : Ci) (w : World) : (part 9 #[.string ⟨x.op.toArray⟩, .int .i64 x.d, .int .i64 x.a, .int .i64 x.b, .int .i64 x.imm] 0).run Tryd.prog w = .ok (.string ⟨x.op.toArray⟩) w := by kernel_rfl
theorem part_at1 (x : Ci) (w : World) : (part 3 #[.string ⟨x.op.toArray⟩, .int .i64 x.d, .int .i64 x.a, .int .i64 x.b, .int .i64 x.imm] 1).run Tryd.prog w = .ok (.int .i64 x.d) w := by kernel_rfl
theorem part_at2 (x : Ci) (w : World) : (part 3 #[.string ⟨x.op.toArray⟩, .int .i64 x.d, .int .i64 x.a, .int .i64 x.b, .int .i64 x.imm] 2).run Tryd.prog w = .ok (.int .i64 x.a) w := by kernel_rfl
theorem part_at3 (x : Ci) (w : World) : (part 3 #[.string ⟨x.op.toArray⟩, .int .i64 x.d, .int .i64 x.a, .int .i64 x.b, .int .i64 x.imm] 3).run Tryd.prog w = .ok (.int .i64 x.b) w := by kernel_rfl
theorem part_at4 (x : Ci) (w : World) : (part 3 #[.string ⟨x.op.toArray⟩, .int .i64 x.d, .int .i64 x.a, .int .i64 x.b, .int .i64 x.imm] 4).run Tryd.prog w = .ok (.int .i64 x.imm) w := by kernel_rfl
theorem eqF_nil (d : Nat) (xs ys : Array Value) (w : World) : (Op.eqFields d xs ys []).run Tryd.prog w = .ok true w := rfl
theorem eqF_cons {d : Nat} {xs ys : Array Value} {f : Field} {fs : List Field} {w : World} {a b : Value} {r s : Bool} (hn : f.name ≠ "_") (ha : (part f.type xs f.offset).run Tryd.prog w = .ok a w) (hb : (part f.type ys f.offset).run Tryd.prog w = .ok b w) (he : (Op.equalIn d f.type a b).run Tryd.prog w = .ok r w) (hs : (Op.eqFields d xs ys fs).run Tryd.prog w = .ok s w) :
    (Op.eqFields d xs ys (f :: fs)).run Tryd.prog w = .ok (r && s) w := by
  simp only [Op.eqFields, Sem.run_ite, if_pos hn, Sem.run_bind, ha, hb, he, Result.andThen_ok]
  cases r
  · simp
  · simpa using hs
theorem eq_ci (x y : Ci) (w : World) : (binOp .eql 26 (ciV x) (ciV y)).run Tryd.prog w = .ok (.bool (eqC x y)) w := by
  rw [run_eql_struct, run_equalIn_agg w 9999 _ _ _ ci_under ci_stood]
  have hf := ci_fields
  generalize (Tryd.prog.fieldsOf 26).toList = fs at hf
  have hl : fs.length = 5 := by simpa using congrArg List.length hf
  match fs, hl with
  | [f0, f1, f2, f3, f4], _ =>
    simp only [List.map_cons, List.map_nil, List.cons.injEq, Prod.mk.injEq, and_true] at hf
    obtain ⟨⟨n0, t0, o0⟩, ⟨n1, t1, o1⟩, ⟨n2, t2, o2⟩, ⟨n3, t3, o3⟩, ⟨n4, t4, o4⟩⟩ := hf
    have hs := run_equalIn_string (P := Tryd.prog) w 9998 9 ⟨x.op.toArray⟩ ⟨y.op.toArray⟩ Tryd.underlying9
    rw [byteArray_toList, byteArray_toList] at hs
    have hi := fun p q => run_equalIn_int (P := Tryd.prog) w 9998 3 .i64 _ p q Tryd.underlying3
    have h4 := eqF_cons (d := 9999) (fs := []) (by rw [n4]; decide) (by rw [t4, o4]; exact part_at4 x w) (by rw [t4, o4]; exact part_at4 y w) (by rw [t4]; exact hi _ _) (eqF_nil _ _ _ w)
    have h3 := eqF_cons (d := 9999) (by rw [n3]; decide) (by rw [t3, o3]; exact part_at3 x w) (by rw [t3, o3]; exact part_at3 y w) (by rw [t3]; exact hi _ _) h4
    have h2 := eqF_cons (d := 9999) (by rw [n2]; decide) (by rw [t2, o2]; exact part_at2 x w) (by rw [t2, o2]; exact part_at2 y w) (by rw [t2]; exact hi _ _) h3
    have h1 := eqF_cons (d := 9999) (by rw [n1]; decide) (by rw [t1, o1]; exact part_at1 x w) (by rw [t1, o1]; exact part_at1 y w) (by rw [t1]; exact hi _ _) h2
    have h0 := eqF_cons (d := 9999) (by rw [n0]; decide) (by rw [t0, o0]; exact part_at x w) (by rw [t0, o0]; exact part_at y w) (by rw [t0]; exact hs) h1
    rw [h0]
    simp [eqC, Result.andThen]
end Go.Proofs.YtgcmegbfhhebpaaDoor
