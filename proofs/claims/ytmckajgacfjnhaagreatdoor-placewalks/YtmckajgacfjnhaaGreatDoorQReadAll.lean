/- Our own: texts joined: SliceRead, PlRead. -/
import Derived.Test.YtmckajgacfjnhaaGreatDoorQBase
import Derived.Deep.Slices
import Derived.OpenShut
import Derived.Test.YtmckajgacfjnhaaGreatDoorQGrowAll
namespace Go.Proofs.YtmckajgacfjnhaaGreatDoor
open Go.RowKit Go.ChangeShapes Go.WideShapes
theorem rows_build {α : Type} {w : World} {g off : Nat} (s : Nat) (Rep : α → List Value → Prop) (Reps : List α → List Value → Prop) (G : α → Prop) (hnil : Reps [] []) (hsnoc : ∀ l xs e cs, Reps l xs → Rep e cs → Reps (l ++ [e]) (xs ++ cs)) (hlen : ∀ e cs, Rep e cs → cs.length = s) :
  ∀ n : Nat, (∀ i, i < n → ∃ e cs, Rep e cs ∧ G e ∧ ∀ j, j < s → w.cell? ⟨g, off + (i * s + j), none⟩ = cs[j]?) → ∃ l xs, l.length = n ∧ (∀ e ∈ l, G e) ∧ xs.length = n * s ∧ Reps l xs ∧ ∀ j u, xs[j]? = some u → w.cell? ⟨g, off + j, none⟩ = some u
 | 0, _ => ⟨[], [], rfl, by simp, by simp, hnil, by simp⟩
 | n + 1, h => by
  obtain ⟨l, xs, h1, h2, h3, h4, h5⟩ := rows_build s Rep Reps G hnil hsnoc hlen n (fun i hi => h i (by omega))
  obtain ⟨e, cs, h6, h7, h8⟩ := h n (by omega)
  have hl := hlen e cs h6
  refine ⟨l ++ [e], xs ++ cs, by simp [h1], fun x hx => ?_, by simp [h3, hl, Nat.succ_mul], hsnoc _ _ _ _ h4 h6, fun j u hu => ?_⟩
  ·rcases List.mem_append.1 hx with hx | hx
   ·exact h2 x hx
   ·rw [List.mem_singleton.1 hx]; exact h7
  ·by_cases hj : j < xs.length
   ·rw [List.getElem?_append_left hj] at hu; exact h5 j u hu
   ·rw [List.getElem?_append_right (by omega)] at hu
    have hjl : j - xs.length < s := by
     rcases Nat.lt_or_ge (j - xs.length) cs.length with h' | h'
     ·omega
     ·rw [List.getElem?_eq_none h'] at hu; cases hu
    have := h8 (j - xs.length) hjl
    rw [hu] at this
    rw [← this]
    congr 2
    omega
section
variable {H : Type} {enc : TypeId × Value → H} {w : World} {sp : Nat → Bool} {held : Bool}
theorem slice_read {P : Program} {α : Type} {t e : TypeId} (s : Nat) (ht : P.underlying t = some (.slice e)) (hs : P.cellsOf e = s) (h0 : 0 < s) (Rep : α → List Value → Prop) (Reps : List α → List Value → Prop) (G : α → Prop) (hnil : Reps [] []) (hsnoc : ∀ l xs e cs, Reps l xs → Rep e cs → Reps (l ++ [e]) (xs ++ cs)) (hlen : ∀ e cs, Rep e cs → cs.length = s)
  {fuel : Nat} {cs : List Value} {x : DataW H × List MemPlace} (h : DataW.trod enc P w 0 sp held fuel t cs = some x) (ih : ∀ n, fuel = n + 1 → ∀ cs y, DataW.trod enc P w 0 sp held n e cs = some y → ∃ a, Rep a cs ∧ G a) :
  ∃ v l xs, cs = [v] ∧ l.length ≤ 9223372036854775807 ∧ (∀ e ∈ l, G e) ∧ XRow (fun b => b < w.heap.size) w v l.length xs ∧ Reps l xs := by
 rcases DataW.trod_slice ht h with ⟨rfl, _⟩ | ⟨a, len, cap, elems, rest, n, hf, rfl, _, _, hl, hm, hlen', hel, _⟩
 ·exact ⟨_, [], [], rfl, by simp, by simp, xrow_nil _ _, hnil⟩
 ·by_cases hz : len = 0
  ·subst hz
   exact ⟨_, [], [], rfl, by simp, by simp, ⟨_, _, rfl, fun h => absurd rfl h⟩, hnil⟩
  ·have key : ∀ i, i < len → ∃ cs' y, w.cells? 0 (a.add (i * s)) s = some cs' ∧ DataW.trod enc P w 0 sp held n e cs' = some y := fun i hi => by
    have := hel i hi
    rw [List.getElem?_eq_getElem (by omega), hs] at this
    obtain ⟨cs', h1, h2⟩ := Option.bind_eq_some_iff.1 this
    exact ⟨cs', _, h1, h2⟩
   have hspot : a.spot = none ∧ a.block < w.heap.size := by
    obtain ⟨cs', y, h1, _⟩ := key 0 (by omega)
    have h2 := (World.cells?_some h1).2.2 0 h0
    have hl' := (World.cells?_some h1).2.1
    have e1 : (a.add (0 * s)).add 0 = a := by simp [Addr.add]
    rw [e1, List.getElem?_eq_getElem (by omega)] at h2
    refine ⟨?_, cell_lt h2⟩
    cases hsp : a.spot with
    | none => rfl
    | some k =>
     unfold World.cell? at h2
     split at h2
     ·simp [hsp] at h2
     ·cases h2
   obtain ⟨g, off, spot⟩ := a
   obtain ⟨rfl, hg⟩ := hspot
   obtain ⟨l, xs, h1, h2, h3, h4, h5⟩ := rows_build (w := w) (g := g) (off := off) s Rep Reps G hnil hsnoc hlen len (fun i hi => by
    obtain ⟨cs', y, h1, h2⟩ := key i hi
    obtain ⟨b, hb1, hb2⟩ := ih n hf cs' y h2
    refine ⟨b, cs', hb1, hb2, fun j hj => ?_⟩
    have := (World.cells?_some h1).2.2 j hj
    rw [Go.Deep.add_add] at this
    rw [← this]
    congr 1
    unfold Addr.add
    split
    ·simp
    ·rfl)
   have hml : maxLen = 9223372036854775807 := rfl
   exact ⟨_, l, xs, rfl, by omega, h2, ⟨_, _, by rw [h1], fun _ => ⟨g, off, rfl, hg, h5⟩⟩, h4⟩
theorem c_string : Tryz.prog.cellsOf 9 = 1 := by kernel_rfl
theorem c_int : Tryz.prog.cellsOf 3 = 1 := by kernel_rfl
theorem str_len {s : ByteArray} (h : s.size ≤ maxLen) : s.data.toList.length ≤ 9223372036854775807 := h
end
end Go.Proofs.YtmckajgacfjnhaaGreatDoor
namespace Go.Proofs.YtmckajgacfjnhaaGreatDoor
open Go.RowKit Go.ChangeShapes Go.WideShapes
theorem c_insP : Tryz.prog.cellsOf 61 = 5 := by kernel_rfl
theorem c_blkP : Tryz.prog.cellsOf 60 = 6 := by kernel_rfl
theorem c_codeP : Tryz.prog.cellsOf 24 = 4 := by kernel_rfl
theorem c_intsP : Tryz.prog.cellsOf 25 = 1 := by kernel_rfl
theorem c_insS : Tryz.prog.cellsOf 58 = 1 := by kernel_rfl
theorem c_rowS : Tryz.prog.cellsOf 54 = 1 := by kernel_rfl
theorem c_blkS : Tryz.prog.cellsOf 22 = 1 := by kernel_rfl
def In64p (x : Int) : Prop := -9223372036854775808 ≤ x ∧ x ≤ 9223372036854775807
theorem in64p_wf {x : Int} (h : (Lit.int .i64 x).wf = true) : In64p x := by
 simp [Lit.wf, IntKind.min, IntKind.max, IntKind.signed, IntKind.bits] at h
 exact ⟨by omega, by omega⟩
structure IntI (x : Pi) : Prop where
 d : In64p x.d
 num : In64p x.num
 args : ∀ y ∈ x.args, In64p y
structure IntB (b : Pb) : Prop where
 v : In64p b.v
 params : ∀ y ∈ b.params, In64p y
 tos : ∀ y ∈ b.tos, In64p y
 ins : ∀ x ∈ b.ins, IntI x
 wi : ∀ l ∈ b.wi, ∀ y ∈ l, In64p y
section
variable {H : Type} {enc : TypeId × Value → H} {w : World} {sp : Nat → Bool} {held : Bool}
theorem read_intsP (fuel : Nat) (cs : List Value) (x : DataW H × List MemPlace) (h : DataW.trod enc Tryz.prog w 0 sp held fuel 25 cs = some x) : ∃ (ad : Option Addr) (cap : Nat) (l : List Int), cs = [.slice ad l.length cap] ∧ XRow (fun b => b < w.heap.size) w (.slice ad l.length cap) l.length (intsG l) ∧ l.length ≤ 9223372036854775807 ∧ ∀ y ∈ l, In64p y := by
 obtain ⟨v, l, ys, h1, hl1, hg1, hr1, hs1⟩ := slice_read (α := Int) 1 Tryz.underlying25 c_int (by decide) (fun x cs => cs = [.int .i64 x]) (fun l xs => xs = intsG l) In64p rfl (fun l xs e cs h1 h2 => by rw [h1, h2, intsG_snoc]) (fun e cs h => by rw [h]; rfl) h
  (fun m hm cs y hy => by
   obtain ⟨n1, h1, _, w1⟩ := DataW.trod_int Tryz.underlying3 hy
   exact ⟨n1, h1, in64p_wf w1⟩)
 subst hs1
 obtain ⟨ad, cap, hv⟩ := hr1.is
 subst hv
 exact ⟨ad, cap, l, h1, hr1, hl1, hg1⟩
set_option maxRecDepth 100000 in
theorem read_insP (fuel : Nat) (cs : List Value) (x : DataW H × List MemPlace) (h : DataW.trod enc Tryz.prog w 0 sp held fuel 61 cs = some x) : ∃ y : Pi, XI (fun b => b < w.heap.size) w y cs ∧ (OkI y ∧ IntI y) := by
 obtain ⟨xs, n, hf, _, hl, hx, hall⟩ := DataW.trod_struct Tryz.underlying61 h
 rw [c_insP] at hl
 have hxm : xs.length = 5 := hx
 match cs, hl with
 | [v0, v1, v2, v3, v4], _ =>
  have e0 : DataW.trod enc Tryz.prog w 0 sp held n 9 (([v0, v1, v2, v3, v4].drop 0).take (Tryz.prog.cellsOf 9)) = xs[0]? := hall 0 _ rfl
  have e1 : DataW.trod enc Tryz.prog w 0 sp held n 3 (([v0, v1, v2, v3, v4].drop 1).take (Tryz.prog.cellsOf 3)) = xs[1]? := hall 1 _ rfl
  have e2 : DataW.trod enc Tryz.prog w 0 sp held n 25 (([v0, v1, v2, v3, v4].drop 2).take (Tryz.prog.cellsOf 25)) = xs[2]? := hall 2 _ rfl
  have e3 : DataW.trod enc Tryz.prog w 0 sp held n 3 (([v0, v1, v2, v3, v4].drop 3).take (Tryz.prog.cellsOf 3)) = xs[3]? := hall 3 _ rfl
  have e4 : DataW.trod enc Tryz.prog w 0 sp held n 9 (([v0, v1, v2, v3, v4].drop 4).take (Tryz.prog.cellsOf 9)) = xs[4]? := hall 4 _ rfl
  rw [List.getElem?_eq_getElem (by omega)] at e0 e1 e2 e3 e4
  rw [c_string] at e0
  rw [c_int] at e1
  rw [c_intsP] at e2
  rw [c_int] at e3
  rw [c_string] at e4
  simp only [List.drop_zero, List.drop_succ_cons, List.take_succ_cons, List.take_zero] at e0 e1 e2 e3 e4
  obtain ⟨s0, h0, _, w0⟩ := DataW.trod_string Tryz.underlying9 e0
  obtain ⟨n1, h1, _, w1⟩ := DataW.trod_int Tryz.underlying3 e1
  obtain ⟨ad, cap, l, h2, hr2, hl2, hg2⟩ := read_intsP n _ _ e2
  obtain ⟨n3, h3, _, w3⟩ := DataW.trod_int Tryz.underlying3 e3
  obtain ⟨s4, h4, _, w4⟩ := DataW.trod_string Tryz.underlying9 e4
  injection h0 with h0; injection h1 with h1; injection h2 with h2; injection h3 with h3; injection h4 with h4
  subst h0 h1 h2 h3 h4
  exact ⟨⟨s0.data.toList, n1, l, n3, s4.data.toList⟩, ⟨ad, cap, by simp, hr2⟩, ⟨str_len w0, hl2, str_len w4⟩, in64p_wf w1, in64p_wf w3, hg2⟩
set_option maxRecDepth 100000 in
theorem read_blkP (fuel : Nat) (cs : List Value) (x : DataW H × List MemPlace) (h : DataW.trod enc Tryz.prog w 0 sp held fuel 60 cs = some x) : ∃ b : Pb, XB (fun b => b < w.heap.size) w b cs ∧ (OkB b ∧ IntB b) := by
 obtain ⟨xs, n, hf, _, hl, hx, hall⟩ := DataW.trod_struct Tryz.underlying60 h
 rw [c_blkP] at hl
 have hxm : xs.length = 6 := hx
 match cs, hl with
 | [v0, v1, v2, v3, v4, v5], _ =>
  have e0 : DataW.trod enc Tryz.prog w 0 sp held n 25 (([v0, v1, v2, v3, v4, v5].drop 0).take (Tryz.prog.cellsOf 25)) = xs[0]? := hall 0 _ rfl
  have e1 : DataW.trod enc Tryz.prog w 0 sp held n 58 (([v0, v1, v2, v3, v4, v5].drop 1).take (Tryz.prog.cellsOf 58)) = xs[1]? := hall 1 _ rfl
  have e2 : DataW.trod enc Tryz.prog w 0 sp held n 9 (([v0, v1, v2, v3, v4, v5].drop 2).take (Tryz.prog.cellsOf 9)) = xs[2]? := hall 2 _ rfl
  have e3 : DataW.trod enc Tryz.prog w 0 sp held n 3 (([v0, v1, v2, v3, v4, v5].drop 3).take (Tryz.prog.cellsOf 3)) = xs[3]? := hall 3 _ rfl
  have e4 : DataW.trod enc Tryz.prog w 0 sp held n 25 (([v0, v1, v2, v3, v4, v5].drop 4).take (Tryz.prog.cellsOf 25)) = xs[4]? := hall 4 _ rfl
  have e5 : DataW.trod enc Tryz.prog w 0 sp held n 54 (([v0, v1, v2, v3, v4, v5].drop 5).take (Tryz.prog.cellsOf 54)) = xs[5]? := hall 5 _ rfl
  rw [List.getElem?_eq_getElem (by omega)] at e0 e1 e2 e3 e4 e5
  rw [c_intsP] at e0
  rw [c_insS] at e1
  rw [c_string] at e2
  rw [c_int] at e3
  rw [c_intsP] at e4
  rw [c_rowS] at e5
  simp only [List.drop_zero, List.drop_succ_cons, List.take_succ_cons, List.take_zero] at e0 e1 e2 e3 e4 e5
  obtain ⟨pa, pc, lp, h0, hr0, hl0, hg0⟩ := read_intsP n _ _ e0
  obtain ⟨v1', li, yi, h1, hl1, hg1, hr1, hs1⟩ := slice_read (α := Pi) 5 Tryz.underlying58 c_insP (by decide) (XI (fun b => b < w.heap.size) w) (XSs (XI (fun b => b < w.heap.size) w)) (fun y => OkI y ∧ IntI y) rfl (fun _ _ _ _ => XSs.snoc) XI.len e1 (fun m hm cs y hy => read_insP m cs y hy)
  obtain ⟨s2, h2, _, w2⟩ := DataW.trod_string Tryz.underlying9 e2
  obtain ⟨n3, h3, _, w3⟩ := DataW.trod_int Tryz.underlying3 e3
  obtain ⟨ta, tc, lt, h4, hr4, hl4, hg4⟩ := read_intsP n _ _ e4
  obtain ⟨v5', lw, yw, h5, hl5, hg5, hr5, hs5⟩ := slice_read (α := List Int) 1 Tryz.underlying54 c_intsP (by decide) (XW (fun b => b < w.heap.size) w) (XSs (XW (fun b => b < w.heap.size) w)) (fun l => l.length ≤ 9223372036854775807 ∧ ∀ y ∈ l, In64p y) rfl (fun _ _ _ _ => XSs.snoc) XW.len e5 (fun m hm cs y hy => by
   obtain ⟨ad, cap, l, hc, hr, hl, hg⟩ := read_intsP m cs y hy
   exact ⟨l, ⟨ad, cap, hc, hr⟩, hl, hg⟩)
  injection h0 with h0; injection h1 with h1; injection h2 with h2; injection h3 with h3; injection h4 with h4; injection h5 with h5
  subst h0 h1 h2 h3 h4 h5
  obtain ⟨ia, ic, hi⟩ := hr1.is
  obtain ⟨wa, wq, hw⟩ := hr5.is
  subst hi hw
  exact ⟨⟨lp, li, s2.data.toList, n3, lt, lw⟩, ⟨pa, pc, ia, ic, ta, tc, wa, wq, by simp, hr0, ⟨yi, hr1, hs1⟩, hr4, ⟨yw, hr5, hs5⟩⟩, ⟨hl0, hl1, str_len w2, hl4, hl5, fun x hx => (hg1 x hx).1, fun l hl => (hg5 l hl).1⟩, in64p_wf w3, hg0, hg4, fun x hx => (hg1 x hx).2, fun l hl => (hg5 l hl).2⟩
set_option maxRecDepth 100000 in
theorem read_codeP {v : Value} {cs : Array Value} (hv : v = .agg cs) {d : DataW H} {ps : List MemPlace} (h : DataW.Trod enc Tryz.prog w 0 sp held 24 v d ps) : ∃ (nm : List UInt8) (P V : Int) (ba : Option Addr) (bc : Nat) (L : List Pb), v = .agg #[.string ⟨nm.toArray⟩, .int .i64 P, .int .i64 V, .slice ba L.length bc] ∧ In64p P ∧ In64p V ∧ L.length ≤ 9223372036854775807 ∧ (∀ b ∈ L, OkB b ∧ IntB b) ∧ XCo (fun b => b < w.heap.size) w (.slice ba L.length bc) L := by
 obtain ⟨fuel, h⟩ := h
 subst hv
 obtain ⟨xs, n, hf, _, hl, hx, hall⟩ := DataW.trod_struct Tryz.underlying24 h
 have hcs : (Value.agg cs).cells.toList = cs.toList := rfl
 rw [hcs] at hl hall
 obtain ⟨l, rfl⟩ : ∃ l, cs = l.toArray := ⟨cs.toList, by simp⟩
 simp only at hl hall
 rw [c_codeP] at hl
 have hxm : xs.length = 4 := hx
 match l, hl with
 | [v0, v1, v2, v3], _ =>
  have e0 : DataW.trod enc Tryz.prog w 0 sp held n 9 (([v0, v1, v2, v3].drop 0).take (Tryz.prog.cellsOf 9)) = xs[0]? := hall 0 _ rfl
  have e1 : DataW.trod enc Tryz.prog w 0 sp held n 3 (([v0, v1, v2, v3].drop 1).take (Tryz.prog.cellsOf 3)) = xs[1]? := hall 1 _ rfl
  have e2 : DataW.trod enc Tryz.prog w 0 sp held n 3 (([v0, v1, v2, v3].drop 2).take (Tryz.prog.cellsOf 3)) = xs[2]? := hall 2 _ rfl
  have e3 : DataW.trod enc Tryz.prog w 0 sp held n 22 (([v0, v1, v2, v3].drop 3).take (Tryz.prog.cellsOf 22)) = xs[3]? := hall 3 _ rfl
  rw [List.getElem?_eq_getElem (by omega)] at e0 e1 e2 e3
  rw [c_string] at e0
  rw [c_int] at e1
  rw [c_int] at e2
  rw [c_blkS] at e3
  simp only [List.drop_zero, List.drop_succ_cons, List.take_succ_cons, List.take_zero] at e0 e1 e2 e3
  obtain ⟨s0, h0, _, w0⟩ := DataW.trod_string Tryz.underlying9 e0
  obtain ⟨n1, h1, _, w1⟩ := DataW.trod_int Tryz.underlying3 e1
  obtain ⟨n2, h2, _, w2⟩ := DataW.trod_int Tryz.underlying3 e2
  obtain ⟨v3', lb, yb, h3, hl3, hg3, hr3, hs3⟩ := slice_read (α := Pb) 6 Tryz.underlying22 c_blkP (by decide) (XB (fun b => b < w.heap.size) w) (XSs (XB (fun b => b < w.heap.size) w)) (fun b => OkB b ∧ IntB b) rfl (fun _ _ _ _ => XSs.snoc) XB.len e3 (fun m hm cs y hy => read_blkP m cs y hy)
  injection h0 with h0; injection h1 with h1; injection h2 with h2; injection h3 with h3
  subst h0 h1 h2 h3
  obtain ⟨ba, bc, hb⟩ := hr3.is
  subst hb
  exact ⟨s0.data.toList, n1, n2, ba, bc, lb, by simp, in64p_wf w1, in64p_wf w2, hl3, hg3, yb, hr3, hs3⟩
end
end Go.Proofs.YtmckajgacfjnhaaGreatDoor
