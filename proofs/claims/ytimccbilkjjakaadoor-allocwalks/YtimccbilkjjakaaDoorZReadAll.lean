/- Our own: texts joined: SliceRead, AlRead. -/
import Derived.Test.YtimccbilkjjakaaDoorZBase
import Derived.Deep.Slices
import Derived.OpenShut
import Derived.Test.YtimccbilkjjakaaDoorZGrowAll
import Derived.Test.YtimccbilkjjakaaDoorZMathVal
namespace Go.Proofs.YtimccbilkjjakaaDoor
open Go.RowKit Go.ChangeShapes Go.WideShapes
theorem rows_build {α : Type} {w : World} {g off : Nat} (s : Nat) (Rep : α → List Value → Prop) (Reps : List α → List Value → Prop) (G : α → Prop) (hnil : Reps [] []) (hsnoc : ∀ l xs e cs, Reps l xs → Rep e cs → Reps (l ++ [e]) (xs ++ cs)) (hlen : ∀ e cs, Rep e cs → cs.length = s) :
  ∀ n : Nat, (∀ i, i < n → ∃ e cs, Rep e cs ∧ G e ∧ ∀ j, j < s → w.cell? ⟨g, off + (i * s + j), none⟩ = cs[j]?) → ∃ l xs, l.length = n ∧ (∀ e ∈ l, G e) ∧ xs.length = n * s ∧ Reps l xs ∧ ∀ j u, xs[j]? = some u → w.cell? ⟨g, off + j, none⟩ = some u
 | 0, _ => ⟨[], [], rfl, by simp, by simp, hnil, by simp⟩
 | n + 1, h => by
  obtain ⟨l, xs, h1, h2, h3, h4, h5⟩ := rows_build s Rep Reps G hnil hsnoc hlen n (fun i hi => h i (by omega))
  obtain ⟨e, cs, h6, h7, h8⟩ := h n (by omega)
  have hl := hlen e cs h6
  refine ⟨l ++ [e], xs ++ cs, by simp [h1], fun x hx => ?_, by simp [h3, hl, Nat.succ_mul], hsnoc _ _ _ _ h4 h6, fun j u hu => ?_⟩
  ·rcases List.mem_append.1 hx with hx | hx
   ·exact h2 x hx
   ·rw [List.mem_singleton.1 hx]; exact h7
  ·by_cases hj : j < xs.length
   ·rw [List.getElem?_append_left hj] at hu; exact h5 j u hu
   ·rw [List.getElem?_append_right (by omega)] at hu
    have hjl : j - xs.length < s := by
     rcases Nat.lt_or_ge (j - xs.length) cs.length with h' | h'
     ·omega
     ·rw [List.getElem?_eq_none h'] at hu; cases hu
    have := h8 (j - xs.length) hjl
    rw [hu] at this
    rw [← this]
    congr 2
    omega
section
variable {H : Type} {enc : TypeId × Value → H} {w : World} {sp : Nat → Bool} {held : Bool}
theorem slice_read {P : Program} {α : Type} {t e : TypeId} (s : Nat) (ht : P.underlying t = some (.slice e)) (hs : P.cellsOf e = s) (h0 : 0 < s) (Rep : α → List Value → Prop) (Reps : List α → List Value → Prop) (G : α → Prop) (hnil : Reps [] []) (hsnoc : ∀ l xs e cs, Reps l xs → Rep e cs → Reps (l ++ [e]) (xs ++ cs)) (hlen : ∀ e cs, Rep e cs → cs.length = s)
  {fuel : Nat} {cs : List Value} {x : DataW H × List MemPlace} (h : DataW.trod enc P w 0 sp held fuel t cs = some x) (ih : ∀ n, fuel = n + 1 → ∀ cs y, DataW.trod enc P w 0 sp held n e cs = some y → ∃ a, Rep a cs ∧ G a) :
  ∃ v l xs, cs = [v] ∧ l.length ≤ 9223372036854775807 ∧ (∀ e ∈ l, G e) ∧ XRow (fun b => b < w.heap.size) w v l.length xs ∧ Reps l xs := by
 rcases DataW.trod_slice ht h with ⟨rfl, _⟩ | ⟨a, len, cap, elems, rest, n, hf, rfl, _, _, hl, hm, hlen', hel, _⟩
 ·exact ⟨_, [], [], rfl, by simp, by simp, xrow_nil _ _, hnil⟩
 ·by_cases hz : len = 0
  ·subst hz
   exact ⟨_, [], [], rfl, by simp, by simp, ⟨_, _, rfl, fun h => absurd rfl h⟩, hnil⟩
  ·have key : ∀ i, i < len → ∃ cs' y, w.cells? 0 (a.add (i * s)) s = some cs' ∧ DataW.trod enc P w 0 sp held n e cs' = some y := fun i hi => by
    have := hel i hi
    rw [List.getElem?_eq_getElem (by omega), hs] at this
    obtain ⟨cs', h1, h2⟩ := Option.bind_eq_some_iff.1 this
    exact ⟨cs', _, h1, h2⟩
   have hspot : a.spot = none ∧ a.block < w.heap.size := by
    obtain ⟨cs', y, h1, _⟩ := key 0 (by omega)
    have h2 := (World.cells?_some h1).2.2 0 h0
    have hl' := (World.cells?_some h1).2.1
    have e1 : (a.add (0 * s)).add 0 = a := by simp [Addr.add]
    rw [e1, List.getElem?_eq_getElem (by omega)] at h2
    refine ⟨?_, cell_lt h2⟩
    cases hsp : a.spot with
    | none => rfl
    | some k =>
     unfold World.cell? at h2
     split at h2
     ·simp [hsp] at h2
     ·cases h2
   obtain ⟨g, off, spot⟩ := a
   obtain ⟨rfl, hg⟩ := hspot
   obtain ⟨l, xs, h1, h2, h3, h4, h5⟩ := rows_build (w := w) (g := g) (off := off) s Rep Reps G hnil hsnoc hlen len (fun i hi => by
    obtain ⟨cs', y, h1, h2⟩ := key i hi
    obtain ⟨b, hb1, hb2⟩ := ih n hf cs' y h2
    refine ⟨b, cs', hb1, hb2, fun j hj => ?_⟩
    have := (World.cells?_some h1).2.2 j hj
    rw [Go.Deep.add_add] at this
    rw [← this]
    congr 1
    unfold Addr.add
    split
    ·simp
    ·rfl)
   have hml : maxLen = 9223372036854775807 := rfl
   exact ⟨_, l, xs, rfl, by omega, h2, ⟨_, _, by rw [h1], fun _ => ⟨g, off, rfl, hg, h5⟩⟩, h4⟩
theorem c_string : Tryd.prog.cellsOf 9 = 1 := by kernel_rfl
theorem c_int : Tryd.prog.cellsOf 3 = 1 := by kernel_rfl
theorem str_len {s : ByteArray} (h : s.size ≤ maxLen) : s.data.toList.length ≤ 9223372036854775807 := h
end
end Go.Proofs.YtimccbilkjjakaaDoor
namespace Go.Proofs.YtimccbilkjjakaaDoor
open Go.RowKit Go.ChangeShapes Go.WideShapes
theorem c_lowL : Tryd.prog.cellsOf 60 = 6 := by kernel_rfl
theorem c_blkL : Tryd.prog.cellsOf 59 = 4 := by kernel_rfl
theorem c_codeL : Tryd.prog.cellsOf 24 = 4 := by kernel_rfl
theorem c_intsL : Tryd.prog.cellsOf 25 = 1 := by kernel_rfl
theorem c_lowS : Tryd.prog.cellsOf 57 = 1 := by kernel_rfl
theorem c_blkLS : Tryd.prog.cellsOf 22 = 1 := by kernel_rfl
theorem in64l_wf {x : Int} (h : (Lit.int .i64 x).wf = true) : In64 x := by
 simp [Lit.wf, IntKind.min, IntKind.max, IntKind.signed, IntKind.bits] at h
 unfold In64
 omega
section
variable {H : Type} {enc : TypeId × Value → H} {w : World} {sp : Nat → Bool} {held : Bool}
theorem read_intsL (fuel : Nat) (cs : List Value) (x : DataW H × List MemPlace) (h : DataW.trod enc Tryd.prog w 0 sp held fuel 25 cs = some x) : ∃ (ad : Option Addr) (cap : Nat) (l : List Int), cs = [.slice ad l.length cap] ∧ XRow (fun b => b < w.heap.size) w (.slice ad l.length cap) l.length (intsG l) ∧ l.length ≤ 9223372036854775807 ∧ ∀ y ∈ l, In64 y := by
 obtain ⟨v, l, ys, h1, hl1, hg1, hr1, hs1⟩ := slice_read (α := Int) 1 Tryd.underlying25 c_int (by decide) (fun x cs => cs = [.int .i64 x]) (fun l xs => xs = intsG l) In64 rfl (fun l xs e cs h1 h2 => by rw [h1, h2, intsG_snoc]) (fun e cs h => by rw [h]; rfl) h
  (fun m hm cs y hy => by
   obtain ⟨n1, h1, _, w1⟩ := DataW.trod_int Tryd.underlying3 hy
   exact ⟨n1, h1, in64l_wf w1⟩)
 subst hs1
 obtain ⟨ad, cap, hv⟩ := hr1.is
 subst hv
 exact ⟨ad, cap, l, h1, hr1, hl1, hg1⟩
set_option maxRecDepth 100000 in
theorem read_lowL (fuel : Nat) (cs : List Value) (x : DataW H × List MemPlace) (h : DataW.trod enc Tryd.prog w 0 sp held fuel 60 cs = some x) : ∃ y : Li, XL y cs ∧ (OkL y ∧ In64 y.num) := by
 obtain ⟨xs, n, hf, _, hl, hx, hall⟩ := DataW.trod_struct Tryd.underlying60 h
 rw [c_lowL] at hl
 have hxm : xs.length = 6 := hx
 match cs, hl with
 | [v0, v1, v2, v3, v4, v5], _ =>
  have e0 : DataW.trod enc Tryd.prog w 0 sp held n 9 (([v0, v1, v2, v3, v4, v5].drop 0).take (Tryd.prog.cellsOf 9)) = xs[0]? := hall 0 _ rfl
  have e1 : DataW.trod enc Tryd.prog w 0 sp held n 3 (([v0, v1, v2, v3, v4, v5].drop 1).take (Tryd.prog.cellsOf 3)) = xs[1]? := hall 1 _ rfl
  have e2 : DataW.trod enc Tryd.prog w 0 sp held n 3 (([v0, v1, v2, v3, v4, v5].drop 2).take (Tryd.prog.cellsOf 3)) = xs[2]? := hall 2 _ rfl
  have e3 : DataW.trod enc Tryd.prog w 0 sp held n 3 (([v0, v1, v2, v3, v4, v5].drop 3).take (Tryd.prog.cellsOf 3)) = xs[3]? := hall 3 _ rfl
  have e4 : DataW.trod enc Tryd.prog w 0 sp held n 3 (([v0, v1, v2, v3, v4, v5].drop 4).take (Tryd.prog.cellsOf 3)) = xs[4]? := hall 4 _ rfl
  have e5 : DataW.trod enc Tryd.prog w 0 sp held n 9 (([v0, v1, v2, v3, v4, v5].drop 5).take (Tryd.prog.cellsOf 9)) = xs[5]? := hall 5 _ rfl
  rw [List.getElem?_eq_getElem (by omega)] at e0 e1 e2 e3 e4 e5
  rw [c_string] at e0
  rw [c_int] at e1
  rw [c_int] at e2
  rw [c_int] at e3
  rw [c_int] at e4
  rw [c_string] at e5
  simp only [List.drop_zero, List.drop_succ_cons, List.take_succ_cons, List.take_zero] at e0 e1 e2 e3 e4 e5
  obtain ⟨s0, h0, _, w0⟩ := DataW.trod_string Tryd.underlying9 e0
  obtain ⟨n1, h1, _, w1⟩ := DataW.trod_int Tryd.underlying3 e1
  obtain ⟨n2, h2, _, w2⟩ := DataW.trod_int Tryd.underlying3 e2
  obtain ⟨n3, h3, _, w3⟩ := DataW.trod_int Tryd.underlying3 e3
  obtain ⟨n4, h4, _, w4⟩ := DataW.trod_int Tryd.underlying3 e4
  obtain ⟨s5, h5, _, w5⟩ := DataW.trod_string Tryd.underlying9 e5
  injection h0 with h0; injection h1 with h1; injection h2 with h2; injection h3 with h3; injection h4 with h4; injection h5 with h5
  subst h0 h1 h2 h3 h4 h5
  exact ⟨⟨s0.data.toList, n1, n2, n3, n4, s5.data.toList⟩, by simp [XL, liV], ⟨str_len w0, str_len w5⟩, in64l_wf w4⟩
set_option maxRecDepth 100000 in
theorem read_blkL (fuel : Nat) (cs : List Value) (x : DataW H × List MemPlace) (h : DataW.trod enc Tryd.prog w 0 sp held fuel 59 cs = some x) : ∃ b : Lb, XLB (fun b => b < w.heap.size) w b cs ∧ (OkLb b ∧ ∀ x ∈ b.ins, In64 x.num) := by
 obtain ⟨xs, n, hf, _, hl, hx, hall⟩ := DataW.trod_struct Tryd.underlying59 h
 rw [c_blkL] at hl
 have hxm : xs.length = 4 := hx
 match cs, hl with
 | [v0, v1, v2, v3], _ =>
  have e0 : DataW.trod enc Tryd.prog w 0 sp held n 57 (([v0, v1, v2, v3].drop 0).take (Tryd.prog.cellsOf 57)) = xs[0]? := hall 0 _ rfl
  have e1 : DataW.trod enc Tryd.prog w 0 sp held n 9 (([v0, v1, v2, v3].drop 1).take (Tryd.prog.cellsOf 9)) = xs[1]? := hall 1 _ rfl
  have e2 : DataW.trod enc Tryd.prog w 0 sp held n 3 (([v0, v1, v2, v3].drop 2).take (Tryd.prog.cellsOf 3)) = xs[2]? := hall 2 _ rfl
  have e3 : DataW.trod enc Tryd.prog w 0 sp held n 25 (([v0, v1, v2, v3].drop 3).take (Tryd.prog.cellsOf 25)) = xs[3]? := hall 3 _ rfl
  rw [List.getElem?_eq_getElem (by omega)] at e0 e1 e2 e3
  rw [c_lowS] at e0
  rw [c_string] at e1
  rw [c_int] at e2
  rw [c_intsL] at e3
  simp only [List.drop_zero, List.drop_succ_cons, List.take_succ_cons, List.take_zero] at e0 e1 e2 e3
  obtain ⟨v0', li, yi, h0, hl0, hg0, hr0, hs0⟩ := slice_read (α := Li) 6 Tryd.underlying57 c_lowL (by decide) XL (YSs XL) (fun y => OkL y ∧ In64 y.num) rfl (fun _ _ _ _ => YSs.snoc) XL.len e0 (fun m hm cs y hy => read_lowL m cs y hy)
  obtain ⟨s1, h1, _, w1⟩ := DataW.trod_string Tryd.underlying9 e1
  obtain ⟨n2, h2, _, w2⟩ := DataW.trod_int Tryd.underlying3 e2
  obtain ⟨ta, tc, lt, h3, hr3, hl3, hg3⟩ := read_intsL n _ _ e3
  injection h0 with h0; injection h1 with h1; injection h2 with h2; injection h3 with h3
  subst h0 h1 h2 h3
  obtain ⟨ia, ic, hi⟩ := hr0.is
  subst hi
  exact ⟨⟨li, s1.data.toList, n2, lt⟩, ⟨ia, ic, ta, tc, by simp, ⟨yi, hr0, hs0⟩, hr3⟩, ⟨hl0, str_len w1, hl3, fun x hx => (hg0 x hx).1⟩, fun x hx => (hg0 x hx).2⟩
set_option maxRecDepth 100000 in
theorem read_codeL {v : Value} {cs : Array Value} (hv : v = .agg cs) {d : DataW H} {ps : List MemPlace} (h : DataW.Trod enc Tryd.prog w 0 sp held 24 v d ps) : ∃ (nm : List UInt8) (P V : Int) (ba : Option Addr) (bc : Nat) (L : List Lb), v = .agg #[.string ⟨nm.toArray⟩, .int .i64 P, .int .i64 V, .slice ba L.length bc] ∧ nm.length ≤ 9223372036854775807 ∧ L.length ≤ 9223372036854775807 ∧ (∀ b ∈ L, OkLb b ∧ ∀ x ∈ b.ins, In64 x.num) ∧ XLC (fun b => b < w.heap.size) w (.slice ba L.length bc) L := by
 obtain ⟨fuel, h⟩ := h
 subst hv
 obtain ⟨xs, n, hf, _, hl, hx, hall⟩ := DataW.trod_struct Tryd.underlying24 h
 have hcs : (Value.agg cs).cells.toList = cs.toList := rfl
 rw [hcs] at hl hall
 obtain ⟨l, rfl⟩ : ∃ l, cs = l.toArray := ⟨cs.toList, by simp⟩
 simp only at hl hall
 rw [c_codeL] at hl
 have hxm : xs.length = 4 := hx
 match l, hl with
 | [v0, v1, v2, v3], _ =>
  have e0 : DataW.trod enc Tryd.prog w 0 sp held n 9 (([v0, v1, v2, v3].drop 0).take (Tryd.prog.cellsOf 9)) = xs[0]? := hall 0 _ rfl
  have e1 : DataW.trod enc Tryd.prog w 0 sp held n 3 (([v0, v1, v2, v3].drop 1).take (Tryd.prog.cellsOf 3)) = xs[1]? := hall 1 _ rfl
  have e2 : DataW.trod enc Tryd.prog w 0 sp held n 3 (([v0, v1, v2, v3].drop 2).take (Tryd.prog.cellsOf 3)) = xs[2]? := hall 2 _ rfl
  have e3 : DataW.trod enc Tryd.prog w 0 sp held n 22 (([v0, v1, v2, v3].drop 3).take (Tryd.prog.cellsOf 22)) = xs[3]? := hall 3 _ rfl
  rw [List.getElem?_eq_getElem (by omega)] at e0 e1 e2 e3
  rw [c_string] at e0
  rw [c_int] at e1
  rw [c_int] at e2
  rw [c_blkLS] at e3
  simp only [List.drop_zero, List.drop_succ_cons, List.take_succ_cons, List.take_zero] at e0 e1 e2 e3
  obtain ⟨s0, h0, _, w0⟩ := DataW.trod_string Tryd.underlying9 e0
  obtain ⟨n1, h1, _, w1⟩ := DataW.trod_int Tryd.underlying3 e1
  obtain ⟨n2, h2, _, w2⟩ := DataW.trod_int Tryd.underlying3 e2
  obtain ⟨v3', lb, yb, h3, hl3, hg3, hr3, hs3⟩ := slice_read (α := Lb) 4 Tryd.underlying22 c_blkL (by decide) (XLB (fun b => b < w.heap.size) w) (YSs (XLB (fun b => b < w.heap.size) w)) (fun b => OkLb b ∧ ∀ x ∈ b.ins, In64 x.num) rfl (fun _ _ _ _ => YSs.snoc) XLB.len e3 (fun m hm cs y hy => read_blkL m cs y hy)
  injection h0 with h0; injection h1 with h1; injection h2 with h2; injection h3 with h3
  subst h0 h1 h2 h3
  obtain ⟨ba, bc, hb⟩ := hr3.is
  subst hb
  exact ⟨s0.data.toList, n1, n2, ba, bc, lb, by simp, str_len w0, hl3, hg3, yb, hr3, hs3⟩
end
end Go.Proofs.YtimccbilkjjakaaDoor
