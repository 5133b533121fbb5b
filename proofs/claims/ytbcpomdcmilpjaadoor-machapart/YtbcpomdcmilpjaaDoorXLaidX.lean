/- Our own: texts joined: LaidBase, MxLaid. -/
import Derived.Test.YtbcpomdcmilpjaaDoorRows
import Derived.Test.YtbcpomdcmilpjaaDoorXBaseM
import Derived.LaidLaws
import Derived.LaidHandle
import Derived.RowKitTokens
import Derived.Test.YtbcpomdcmilpjaaDoorXCdM
import Derived.Test.YtbcpomdcmilpjaaDoorXChkM
import Derived.LaidSub
import Derived.OpenShut
import Derived.Lib.LaidTab
import Derived.WalkSmall
namespace Go.Proofs.YtbcpomdcmilpjaaDoor
open Go.RowKit Go.ChangeShapes
theorem laid_sents {P : Program} {nm : String} {W : World} {ti tp te ts : TypeId} {ms : Array (String × TypeId)} {f : Field}
  (hi : P.underlying ti = some (.interface ms)) (hrow : ∀ u, P.typeName? 3 u = some nm → u = tp)
  (hp : P.underlying tp = some (.pointer te)) (he : P.underlying te = some (.struct #[f])) (hft : f.type = ts) (hfo : f.offset = 0) (hs : P.underlying ts = some .string) (hc : P.cellsOf te = 1) (hcs : P.cellsOf ts = 1) :
  ∀ (l : List (String × List UInt8)) (ps : List MemPlace),
   DataW.LaidVars P W (l.map fun x => (x.1, .iface nm (.ptr (.agg [.lit (.string x.2)])))) ps →
   (∀ b off, MemPlace.cell b off ∈ ps → (∃ c t, W.heap[b]? = some (.cells c t (0, 0))) ∧ ∀ u v, W.cell? ⟨b, off, none⟩ = some (.iface u v) → Value.okWide P W .any 0 u v) →
   (∀ x ∈ l, ∀ g, P.globalNamed x.1 = some g → (P.globals[g]?).map (·.type) = some ti) →
   ∃ al : List Addr, al.length = l.length ∧ (al.map fun a => MemPlace.cell a.block a.off).Sublist ps ∧
    ∀ i x, l[i]? = some x → W.var? P x.1 = some #[.iface tp (.pointer (some (al.getD i ⟨0, 0, none⟩)))] ∧ ∃ c t, W.heap[(al.getD i ⟨0, 0, none⟩).block]? = some (.cells c t (0, 0))
 | [], _, _, _, _ => ⟨[], rfl, List.nil_sublist _, fun i x h => by simp at h⟩
 | x :: r, ps, h, hrows, hty => by
  obtain ⟨g, t, cs, fuel, p, q, hg, ht, hv, hd, hr, rfl⟩ := h
  obtain rfl := Option.some.inj ((hty x (List.mem_cons_self ..) g hg).symm.trans ht)
  obtain ⟨cl⟩ := cs
  have ok : ∀ u v, cl = [.iface u v] → Value.okWide P W .any 0 u v := fun u v e => by
   subst e
   exact (hrows g 0 (by simp [MemPlace.row])).2 u v (by simpa using World.var?_cell hg hv 0)
  obtain ⟨a, s0, rfl, hc0, hs0, hz0, rfl⟩ := errorString_of_trod hi hrow hp he hft hfo hs hc hcs hd ok
  obtain ⟨al, hlen, hsub, hall⟩ := laid_sents hi hrow hp he hft hfo hs hc hcs r q hr (fun b off hm => hrows b off (List.mem_append_right _ hm)) (fun y hy => hty y (List.mem_cons_of_mem _ hy))
  refine ⟨a :: al, by simp [hlen], ?_, ?_⟩
  ·have e : MemPlace.row a 1 = [MemPlace.cell a.block a.off] := by simp [MemPlace.row]
   rw [List.map_cons, e, List.append_assoc]
   exact ((List.Sublist.cons_cons _ hsub)).trans (List.sublist_append_right _ _)
  ·intro i y hy
   cases i with
   | zero =>
    simp only [List.getElem?_cons_zero, Option.some.injEq] at hy
    subst hy
    exact ⟨hv, (hrows a.block a.off (by simp [MemPlace.row])).1⟩
   | succ i => exact hall i y (by simpa using hy)
end Go.Proofs.YtbcpomdcmilpjaaDoor
namespace Go.Proofs.YtbcpomdcmilpjaaDoor
open Go.RowKit Go.ChangeShapes
theorem k_str : Tryd.prog.cellsOf 9 = 1 := by kernel_rfl
theorem k_bool : Tryd.prog.cellsOf 4 = 1 := by kernel_rfl
theorem str_cell {w : World} {sp : Nat → Bool} {held : Bool} {n : Nat} {v : Value} {l : List UInt8} {p : List MemPlace} (h : DataW.trod (fun _ => ()) Tryd.prog w 0 sp held n 9 [v] = some (.lit (.string l), p)) : v = .string ⟨l.toArray⟩ := by
 obtain ⟨s, h1, h2, _⟩ := DataW.trod_string Tryd.underlying9 h
 injection h1 with h1
 have : l = s.data.toList := by simpa using congrArg Prod.fst h2
 rw [h1, this]
theorem bool_cell {w : World} {sp : Nat → Bool} {held : Bool} {n : Nat} {v : Value} {b : Bool} {p : List MemPlace} (h : DataW.trod (fun _ => ()) Tryd.prog w 0 sp held n 4 [v] = some (.lit (.bool b), p)) : v = .bool b := by
 obtain ⟨b', h1, h2⟩ := DataW.trod_bool Tryd.underlying4 h
 injection h1 with h1
 have : b = b' := by simpa using congrArg Prod.fst h2
 rw [h1, this]
theorem cut_rows {α : Type} (s : Nat) : ∀ (n : Nat) (l : List α) (f : Nat → List α), l.length = n * s → (∀ i, i < n → (l.drop (i * s)).take s = f i) → l = (List.range n).flatMap f
 | 0, l, f, hl, _ => by
  have : l = [] := List.length_eq_zero_iff.1 (by omega)
  rw [this]; rfl
 | n + 1, l, f, hl, h => by
  have h1 := cut_rows s n (l.take (n * s)) f (by rw [List.length_take]; have : n * s ≤ (n + 1) * s := Nat.mul_le_mul_right s (by omega); omega) (fun i hi => by
   rw [← h i (by omega), List.drop_take, List.take_take]
   congr 1
   have : (i + 1) * s ≤ n * s := Nat.mul_le_mul_right s (by omega)
   rw [Nat.succ_mul] at this
   omega)
  have h2 := h n (by omega)
  have h3 : (l.drop (n * s)).take s = l.drop (n * s) := List.take_of_length_le (by rw [List.length_drop, hl, Nat.succ_mul]; omega)
  rw [List.range_succ, List.flatMap_append, ← h1]
  simp only [List.flatMap_cons, List.flatMap_nil, List.append_nil]
  rw [← h2, h3, List.take_append_drop]
theorem k_co : Tryd.prog.cellsOf 110 = 7 := by kernel_rfl
theorem k_coT : Tryd.prog.cellsOf 132 = 203 := by kernel_rfl
def coD (s : Co) : DataW Unit := .agg [.lit (.string s.kind), .lit (.string s.sg), .lit (.bool s.d), .lit (.bool s.a), .lit (.bool s.b), .lit (.bool s.many), .lit (.bool s.imm)]
theorem co_data : (Rows.laid_kelpforest_code_ops : DataW Unit) = .agg (coL.map coD) := by kernel_rfl
set_option maxRecDepth 100000 in
theorem co_cellsD {w : World} {sp : Nat → Bool} {held : Bool} {fuel : Nat} {cs : List Value} {s : Co} {p : List MemPlace} (h : DataW.trod (fun _ => ()) Tryd.prog w 0 sp held fuel 110 cs = some (coD s, p)) : cs = coC s := by
 obtain ⟨xs, n, hf, hx0, hl, hx, hall⟩ := DataW.trod_struct Tryd.underlying110 h
 rw [k_co] at hl
 have hx6 : xs.length = 7 := hx
 have hd : xs.map (·.1) = [.lit (.string s.kind), .lit (.string s.sg), .lit (.bool s.d), .lit (.bool s.a), .lit (.bool s.b), .lit (.bool s.many), .lit (.bool s.imm)] := by
  have := congrArg Prod.fst hx0
  simp only [coD] at this
  injection this with this
  exact this.symm
 match cs, hl, xs, hx6, hd with
 | [v0, v1, v2, v3, v4, v5, v6], _, [⟨x0, p0⟩, ⟨x1, p1⟩, ⟨x2, p2⟩, ⟨x3, p3⟩, ⟨x4, p4⟩, ⟨x5, p5⟩, ⟨x6, p6⟩], _, hd =>
  simp only [List.map_cons, List.map_nil, List.cons.injEq, and_true] at hd
  obtain ⟨rfl, rfl, rfl, rfl, rfl, rfl, rfl⟩ := hd
  have e0 : DataW.trod (fun _ => ()) Tryd.prog w 0 sp held n 9 (([v0, v1, v2, v3, v4, v5, v6].drop 0).take (Tryd.prog.cellsOf 9)) = some _ := hall 0 _ rfl
  have e1 : DataW.trod (fun _ => ()) Tryd.prog w 0 sp held n 9 (([v0, v1, v2, v3, v4, v5, v6].drop 1).take (Tryd.prog.cellsOf 9)) = some _ := hall 1 _ rfl
  have e2 : DataW.trod (fun _ => ()) Tryd.prog w 0 sp held n 4 (([v0, v1, v2, v3, v4, v5, v6].drop 2).take (Tryd.prog.cellsOf 4)) = some _ := hall 2 _ rfl
  have e3 : DataW.trod (fun _ => ()) Tryd.prog w 0 sp held n 4 (([v0, v1, v2, v3, v4, v5, v6].drop 3).take (Tryd.prog.cellsOf 4)) = some _ := hall 3 _ rfl
  have e4 : DataW.trod (fun _ => ()) Tryd.prog w 0 sp held n 4 (([v0, v1, v2, v3, v4, v5, v6].drop 4).take (Tryd.prog.cellsOf 4)) = some _ := hall 4 _ rfl
  have e5 : DataW.trod (fun _ => ()) Tryd.prog w 0 sp held n 4 (([v0, v1, v2, v3, v4, v5, v6].drop 5).take (Tryd.prog.cellsOf 4)) = some _ := hall 5 _ rfl
  have e6 : DataW.trod (fun _ => ()) Tryd.prog w 0 sp held n 4 (([v0, v1, v2, v3, v4, v5, v6].drop 6).take (Tryd.prog.cellsOf 4)) = some _ := hall 6 _ rfl
  rw [k_str] at e0
  rw [k_str] at e1
  rw [k_bool] at e2
  rw [k_bool] at e3
  rw [k_bool] at e4
  rw [k_bool] at e5
  rw [k_bool] at e6
  simp only [List.drop_zero, List.drop_succ_cons, List.take_succ_cons, List.take_zero] at e0 e1 e2 e3 e4 e5 e6
  rw [str_cell e0, str_cell e1, bool_cell e2, bool_cell e3, bool_cell e4, bool_cell e5, bool_cell e6]
  rfl
theorem co_tab : (List.range 29).flatMap (fun i => coC (coL.getD i coN)) = coT := by kernel_rfl
set_option maxRecDepth 100000 in
theorem co_of_laid {W : World} (h : laidMetH Tryd.prog [("kelpforest/code.ops", Rows.laid_kelpforest_code_ops)] W) : TabC W := by
 have h : laidMet Tryd.prog [("kelpforest/code.ops", Rows.laid_kelpforest_code_ops)] W := h
 obtain ⟨ps, ⟨g, t, cs, fuel, p, q, hg, ht, hv, hd, hr, rfl⟩, _, hrows⟩ := h
 have hg0 : Tryd.prog.globalNamed "kelpforest/code.ops" = some 11 := by kernel_rfl
 obtain rfl := Option.some.inj (hg0.symm.trans hg)
 have hty0 : (Tryd.prog.globals[11]?).map (·.type) = some 132 := by kernel_rfl
 obtain rfl := Option.some.inj (hty0.symm.trans ht)
 rw [co_data] at hd
 obtain ⟨xs, m, hf, hx0, hl, hx, hall⟩ := DataW.trod_array Tryd.underlying132 hd
 rw [k_coT] at hl
 have hd2 : xs.map (·.1) = coL.map coD := by
  have := congrArg Prod.fst hx0
  injection this with this
  exact this.symm
 have hcs : cs.toList = coT := by
  rw [← co_tab]
  refine cut_rows 7 29 cs.toList _ hl (fun i hi => ?_)
  have h1 := hall i hi
  rw [k_co] at h1
  have hxi : i < xs.length := by omega
  rw [List.getElem?_eq_getElem hxi] at h1
  have hsi : i < coL.length := hi
  have h2 : (xs[i]).1 = coD (coL.getD i coN) := by
   have := congrArg (fun l => l[i]?) hd2
   simp only [List.getElem?_map, List.getElem?_eq_getElem hxi, List.getElem?_eq_getElem hsi, Option.map_some] at this
   injection this with this
   rw [this]
   simp [hsi]
  generalize xs[i] = y at h1 h2
  obtain ⟨y1, y2⟩ := y
  simp only at h2
  subst h2
  exact co_cellsD h1
 have hlt : 0 < cs.size := by
  have : cs.toList.length = 203 := hl
  simp at this; omega
 obtain ⟨⟨c, tt, hc⟩, _⟩ := hrows 11 0 (List.mem_append_left _ (List.mem_append_left _ (by
  unfold MemPlace.row
  exact List.mem_map.2 ⟨0, List.mem_range.2 hlt, rfl⟩)))
 unfold World.var? at hv
 rw [hg0, Option.bind_some, hc] at hv
 injection hv with hv
 refine ⟨tt, ?_⟩
 rw [hc, hv, ← hcs]
def maNames : List (String × List UInt8) := [
 ("kelpforest/api.ErrBound", [107, 101, 108, 112, 102, 111, 114, 101, 115, 116, 58, 32, 98, 111, 117, 110, 100]),
 ("kelpforest/api.ErrShape", [107, 101, 108, 112, 102, 111, 114, 101, 115, 116, 58, 32, 115, 104, 97, 112, 101]),
 ("kelpforest/api.ErrKind", [107, 101, 108, 112, 102, 111, 114, 101, 115, 116, 58, 32, 107, 105, 110, 100]),
 ("kelpforest/api.ErrName", [107, 101, 108, 112, 102, 111, 114, 101, 115, 116, 58, 32, 110, 97, 109, 101]),
 ("kelpforest/api.ErrNone", [107, 101, 108, 112, 102, 111, 114, 101, 115, 116, 58, 32, 110, 111, 110, 101]),
 ("kelpforest/api.ErrFull", [107, 101, 108, 112, 102, 111, 114, 101, 115, 116, 58, 32, 102, 117, 108, 108]),
 ("kelpforest/api.ErrArgs", [107, 101, 108, 112, 102, 111, 114, 101, 115, 116, 58, 32, 97, 114, 103, 115])]
def maErrs : List (String × DataW Unit) := maNames.map fun x => (x.1, .iface "*errors.errorString" (.ptr (.agg [.lit (.string x.2)])))
theorem xm_row : ∀ u, Tryd.prog.typeName? 3 u = some "*errors.errorString" → u = 156 :=
 typeName_ptr_named (nm := "errors.errorString") (by kernel_rfl) (by kernel_rfl) (by decide)
theorem xm_cellsS : Tryd.prog.cellsOf 177 = 1 := by kernel_rfl
theorem xm_cellsT : Tryd.prog.cellsOf 9 = 1 := by kernel_rfl
theorem xm_globs : maNames.map (fun x => Tryd.prog.globalNamed x.1) = [some 2, some 5, some 6, some 7, some 0, some 3, some 1] := by kernel_rfl
theorem xm_types : ([2, 5, 6, 7, 0, 3, 1].all fun g => (Tryd.prog.globals[g]?).map (·.type) == some 42) = true := by kernel_rfl
theorem senM_of_laid {W : World} (h : laidMetH Tryd.prog maErrs W) : ∃ a : Nat → Addr, SenM W a := by
 have hm : laidMet Tryd.prog maErrs W := h
 obtain ⟨ps, hv, hnd, hrows⟩ := hm
 have hty : ∀ x ∈ maNames, ∀ g, Tryd.prog.globalNamed x.1 = some g → (Tryd.prog.globals[g]?).map (·.type) = some 42 := by
  intro x hx g hg
  have hmem : some g ∈ [some 2, some 5, some 6, some 7, some 0, some 3, some 1] := by
   rw [← xm_globs, ← hg]
   exact List.mem_map_of_mem (f := fun x => Tryd.prog.globalNamed x.1) hx
  have hmem' : g ∈ [2, 5, 6, 7, 0, 3, 1] := by simpa using hmem
  have := List.all_eq_true.1 xm_types g hmem'
  simpa using this
 obtain ⟨al, hlen, hsub, hall⟩ := laid_sents Tryd.underlying42 xm_row Tryd.underlying156 Tryd.underlying177 rfl rfl Tryd.underlying9 xm_cellsS xm_cellsT maNames ps hv hrows hty
 have c : ∀ i x g, maNames[i]? = some x → Tryd.prog.globalNamed x.1 = some g → W.cell? ⟨g, 0, none⟩ = some (sentV (al.getD i ⟨0, 0, none⟩)) := fun i x g hx hg => by
  simpa using World.var?_cell hg (hall i x hx).1 0
 refine ⟨fun i => al.getD (if i = 7 then 5 else if i = 8 then 6 else i - 1) ⟨0, 0, none⟩, ?_, ?_, ?_, ?_, ?_, ?_, ?_⟩
 ·exact c 0 _ _ rfl (by kernel_rfl)
 ·exact c 1 _ _ rfl (by kernel_rfl)
 ·exact c 2 _ _ rfl (by kernel_rfl)
 ·exact c 3 _ _ rfl (by kernel_rfl)
 ·exact c 4 _ _ rfl (by kernel_rfl)
 ·exact c 5 _ _ rfl (by kernel_rfl)
 ·exact c 6 _ _ rfl (by kernel_rfl)
end Go.Proofs.YtbcpomdcmilpjaaDoor
