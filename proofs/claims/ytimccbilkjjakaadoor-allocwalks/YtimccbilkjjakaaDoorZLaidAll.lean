/- Our own: texts joined: LaidBase, Laid, AlLaid. -/
import Derived.Test.YtimccbilkjjakaaDoorRows
import Derived.Test.YtimccbilkjjakaaDoorZBase
import Derived.LaidLaws
import Derived.LaidHandle
import Derived.RowKitTokens
import Derived.Test.YtimccbilkjjakaaDoorZErrAll
import Derived.Test.YtimccbilkjjakaaDoorZAlTab
import Derived.LaidSub
import Derived.OpenShut
namespace Go.Proofs.YtimccbilkjjakaaDoor
open Go.RowKit Go.ChangeShapes
theorem laidMetH_parts {P : Program} {laid l : List (String × DataW Unit)} {x : String × DataW Unit} {r : List (String × DataW Unit)} {w : World}
  (h : laidMetH P laid w) (e1 : (laid.filter fun x => x.2.handleName?.isSome) = x :: r) (e2 : (laid.filter fun x => x.2.handleName?.isNone) = l) : laidMet P l w ∧ handlesMet P (x :: r) w := by
 unfold laidMetH at h
 rw [e1, e2] at h
 exact h
theorem laid_sents {P : Program} {nm : String} {W : World} {ti tp te ts : TypeId} {ms : Array (String × TypeId)} {f : Field}
  (hi : P.underlying ti = some (.interface ms)) (hrow : ∀ u, P.typeName? 3 u = some nm → u = tp)
  (hp : P.underlying tp = some (.pointer te)) (he : P.underlying te = some (.struct #[f])) (hft : f.type = ts) (hfo : f.offset = 0) (hs : P.underlying ts = some .string) (hc : P.cellsOf te = 1) (hcs : P.cellsOf ts = 1) :
  ∀ (l : List (String × List UInt8)) (ps : List MemPlace),
   DataW.LaidVars P W (l.map fun x => (x.1, .iface nm (.ptr (.agg [.lit (.string x.2)])))) ps →
   (∀ b off, MemPlace.cell b off ∈ ps → (∃ c t, W.heap[b]? = some (.cells c t (0, 0))) ∧ ∀ u v, W.cell? ⟨b, off, none⟩ = some (.iface u v) → Value.okWide P W .any 0 u v) →
   (∀ x ∈ l, ∀ g, P.globalNamed x.1 = some g → (P.globals[g]?).map (·.type) = some ti) →
   ∃ al : List Addr, al.length = l.length ∧ (al.map fun a => MemPlace.cell a.block a.off).Sublist ps ∧
    ∀ i x, l[i]? = some x → W.var? P x.1 = some #[.iface tp (.pointer (some (al.getD i ⟨0, 0, none⟩)))] ∧ ∃ c t, W.heap[(al.getD i ⟨0, 0, none⟩).block]? = some (.cells c t (0, 0))
 | [], _, _, _, _ => ⟨[], rfl, List.nil_sublist _, fun i x h => by simp at h⟩
 | x :: r, ps, h, hrows, hty => by
  obtain ⟨g, t, cs, fuel, p, q, hg, ht, hv, hd, hr, rfl⟩ := h
  obtain rfl := Option.some.inj ((hty x (List.mem_cons_self ..) g hg).symm.trans ht)
  obtain ⟨cl⟩ := cs
  have ok : ∀ u v, cl = [.iface u v] → Value.okWide P W .any 0 u v := fun u v e => by
   subst e
   exact (hrows g 0 (by simp [MemPlace.row])).2 u v (by simpa using World.var?_cell hg hv 0)
  obtain ⟨a, s0, rfl, hc0, hs0, hz0, rfl⟩ := errorString_of_trod hi hrow hp he hft hfo hs hc hcs hd ok
  obtain ⟨al, hlen, hsub, hall⟩ := laid_sents hi hrow hp he hft hfo hs hc hcs r q hr (fun b off hm => hrows b off (List.mem_append_right _ hm)) (fun y hy => hty y (List.mem_cons_of_mem _ hy))
  refine ⟨a :: al, by simp [hlen], ?_, ?_⟩
  ·have e : MemPlace.row a 1 = [MemPlace.cell a.block a.off] := by simp [MemPlace.row]
   rw [List.map_cons, e, List.append_assoc]
   exact ((List.Sublist.cons_cons _ hsub)).trans (List.sublist_append_right _ _)
  ·intro i y hy
   cases i with
   | zero =>
    simp only [List.getElem?_cons_zero, Option.some.injEq] at hy
    subst hy
    exact ⟨hv, (hrows a.block a.off (by simp [MemPlace.row])).1⟩
   | succ i => exact hall i y (by simpa using hy)
end Go.Proofs.YtimccbilkjjakaaDoor
namespace Go.Proofs.YtimccbilkjjakaaDoor
open Go.RowKit Go.ChangeShapes
def errNames : List (String × List UInt8) := [
 ("kelpforest/api.ErrText", [107, 101, 108, 112, 102, 111, 114, 101, 115, 116, 58, 32, 116, 101, 120, 116]),
 ("kelpforest/api.ErrBound", [107, 101, 108, 112, 102, 111, 114, 101, 115, 116, 58, 32, 98, 111, 117, 110, 100]),
 ("kelpforest/api.ErrShape", [107, 101, 108, 112, 102, 111, 114, 101, 115, 116, 58, 32, 115, 104, 97, 112, 101]),
 ("kelpforest/api.ErrKind", [107, 101, 108, 112, 102, 111, 114, 101, 115, 116, 58, 32, 107, 105, 110, 100]),
 ("kelpforest/api.ErrName", [107, 101, 108, 112, 102, 111, 114, 101, 115, 116, 58, 32, 110, 97, 109, 101]),
 ("kelpforest/api.ErrNone", [107, 101, 108, 112, 102, 111, 114, 101, 115, 116, 58, 32, 110, 111, 110, 101]),
 ("kelpforest/api.ErrExist", [107, 101, 108, 112, 102, 111, 114, 101, 115, 116, 58, 32, 101, 120, 105, 115, 116]),
 ("kelpforest/api.ErrFull", [107, 101, 108, 112, 102, 111, 114, 101, 115, 116, 58, 32, 102, 117, 108, 108]),
 ("kelpforest/api.ErrArgs", [107, 101, 108, 112, 102, 111, 114, 101, 115, 116, 58, 32, 97, 114, 103, 115]),
 ("kelpforest/api.ErrDeep", [107, 101, 108, 112, 102, 111, 114, 101, 115, 116, 58, 32, 100, 101, 101, 112])]
def laidErrs : List (String × DataW Unit) := ("errors.errorType", Rows.laid_errors_errorType) :: errNames.map fun x => (x.1, .iface "*errors.errorString" (.ptr (.agg [.lit (.string x.2)])))
theorem l_row : ∀ u, Tryd.prog.typeName? 3 u = some "*errors.errorString" → u = 147 :=
 typeName_ptr_named (nm := "errors.errorString") (by kernel_rfl) (by kernel_rfl) (by decide)
theorem l_cellsS : Tryd.prog.cellsOf 169 = 1 := by kernel_rfl
theorem l_cellsT : Tryd.prog.cellsOf 9 = 1 := by kernel_rfl
theorem l_globs : errNames.map (fun x => Tryd.prog.globalNamed x.1) = gErr.map some := by kernel_rfl
theorem l_types : (gErr.all fun g => (Tryd.prog.globals[g]?).map (·.type) == some 38) = true := by kernel_rfl
theorem l_et : Tryd.prog.globalNamed "errors.errorType" = some 10 := by kernel_rfl
theorem l_rt : (Tryd.prog.cutTypes.find? (·.1 == "internal/reflectlite.rtype")).map (·.2) = some 128 := by kernel_rfl
theorem l_oneRow : ((List.range 181).filter fun t => Tryd.prog.rowNamed t [101, 114, 114, 111, 114]) = [38] := by kernel_rfl
theorem l_size : Tryd.prog.types.size = 181 := by kernel_rfl
theorem sents_of_laid {W : World} (h : laidMetH Tryd.prog laidErrs W) : ∃ s : Nat → Addr, Sents W s := by
 obtain ⟨hm, hh⟩ := laidMetH_parts (x := ("errors.errorType", Rows.laid_errors_errorType)) (r := []) (l := errNames.map fun x => (x.1, .iface "*errors.errorString" (.ptr (.agg [.lit (.string x.2)])))) h (by kernel_rfl) (by kernel_rfl)
 obtain ⟨ps, hv, hnd, hrows⟩ := hm
 have hty : ∀ x ∈ errNames, ∀ g, Tryd.prog.globalNamed x.1 = some g → (Tryd.prog.globals[g]?).map (·.type) = some 38 := by
  intro x hx g hg
  have hmem : some g ∈ gErr.map some := by
   rw [← l_globs, ← hg]
   exact List.mem_map_of_mem (f := fun x => Tryd.prog.globalNamed x.1) hx
  have hmem' : g ∈ gErr := by simpa using hmem
  have := List.all_eq_true.1 l_types g hmem'
  simpa using this
 obtain ⟨al, hlen, hsub, hall⟩ := laid_sents Tryd.underlying38 l_row Tryd.underlying147 Tryd.underlying169 rfl rfl Tryd.underlying9 l_cellsS l_cellsT errNames ps hv hrows hty
 have hl10 : al.length = 10 := hlen
 have hnd2 : ∀ i j (hi : i < al.length) (hj : j < al.length), i < j → al[i] ≠ al[j] := by
  have hp := List.pairwise_iff_getElem.1 (hsub.nodup hnd)
  intro i j hi hj hlt e
  have := hp i j (by simpa using hi) (by simpa using hj) hlt
  simp only [List.getElem_map, ne_eq] at this
  exact this (by rw [e])
 refine ⟨fun i => al.getD i ⟨0, 0, none⟩, ?_, ?_, ?_, ?_⟩
 ·intro i hi
  obtain ⟨x, hx⟩ : ∃ x, errNames[i]? = some x := ⟨_, List.getElem?_eq_getElem (show i < errNames.length from hi)⟩
  have hv0 := (hall i x hx).1
  have hg : Tryd.prog.globalNamed x.1 = some (gErr.getD i 0) := by
   have e := congrArg (fun l => l[i]?) l_globs
   simp only [List.getElem?_map, hx, Option.map_some] at e
   have h10 : i < gErr.length := hi
   rw [List.getElem?_eq_getElem h10] at e
   simp only [Option.map_some, Option.some.injEq] at e
   rw [e, List.getD_eq_getElem?_getD, List.getElem?_eq_getElem h10]
   rfl
  simpa using World.var?_cell hg hv0 0
 ·intro i hi
  obtain ⟨x, hx⟩ : ∃ x, errNames[i]? = some x := ⟨_, List.getElem?_eq_getElem (show i < errNames.length from hi)⟩
  exact (hall i x hx).2
 ·intro i j hi hj hne e
  have hi' : i < al.length := by omega
  have hj' : j < al.length := by omega
  simp only [List.getD_eq_getElem?_getD, List.getElem?_eq_getElem hi', List.getElem?_eq_getElem hj', Option.getD_some] at e
  rcases Nat.lt_or_gt_of_ne hne with h' | h'
  ·exact hnd2 i j hi' hj' h' e
  ·exact hnd2 j i hj' hi' h' e.symm
 ·obtain ⟨name, u, ty, e1, e2, e3, e4, e5⟩ := hh _ (List.mem_cons_self ..)
  have en : name = [101, 114, 114, 111, 114] := (Option.some.inj e1).symm
  subst en
  obtain rfl := Option.some.inj (l_rt.symm.trans e2)
  have hm : ty ∈ (List.range 181).filter fun t => Tryd.prog.rowNamed t [101, 114, 114, 111, 114] := List.mem_filter.2 ⟨List.mem_range.2 (by rw [← l_size]; exact e3), e4⟩
  rw [l_oneRow] at hm
  obtain rfl := List.mem_singleton.1 hm
  have hh : typeHandle Tryd.prog 38 = .pointer (some ⟨12, 38, none⟩) := by kernel_rfl
  rw [hh] at e5
  simpa using World.var?_cell l_et e5 0
end Go.Proofs.YtimccbilkjjakaaDoor
namespace Go.Proofs.YtimccbilkjjakaaDoor
open Go.RowKit Go.ChangeShapes
theorem k_str : Tryd.prog.cellsOf 9 = 1 := by kernel_rfl
theorem k_bool : Tryd.prog.cellsOf 4 = 1 := by kernel_rfl
theorem k_int : Tryd.prog.cellsOf 3 = 1 := by kernel_rfl
theorem str_cell {w : World} {sp : Nat → Bool} {held : Bool} {n : Nat} {v : Value} {l : List UInt8} {p : List MemPlace} (h : DataW.trod (fun _ => ()) Tryd.prog w 0 sp held n 9 [v] = some (.lit (.string l), p)) : v = .string ⟨l.toArray⟩ := by
 obtain ⟨s, h1, h2, _⟩ := DataW.trod_string Tryd.underlying9 h
 injection h1 with h1
 have : l = s.data.toList := by simpa using congrArg Prod.fst h2
 rw [h1, this]
theorem bool_cell {w : World} {sp : Nat → Bool} {held : Bool} {n : Nat} {v : Value} {b : Bool} {p : List MemPlace} (h : DataW.trod (fun _ => ()) Tryd.prog w 0 sp held n 4 [v] = some (.lit (.bool b), p)) : v = .bool b := by
 obtain ⟨b', h1, h2⟩ := DataW.trod_bool Tryd.underlying4 h
 injection h1 with h1
 have : b = b' := by simpa using congrArg Prod.fst h2
 rw [h1, this]
theorem int_cell {w : World} {sp : Nat → Bool} {held : Bool} {n : Nat} {v : Value} {b : Int} {p : List MemPlace} (h : DataW.trod (fun _ => ()) Tryd.prog w 0 sp held n 3 [v] = some (.lit (.int .i64 b), p)) : v = .int .i64 b := by
 obtain ⟨b', h1, h2, _⟩ := DataW.trod_int Tryd.underlying3 h
 injection h1 with h1
 have : b = b' := by simpa using congrArg Prod.fst h2
 rw [h1, this]
theorem cut_rows {α : Type} (s : Nat) : ∀ (n : Nat) (l : List α) (f : Nat → List α), l.length = n * s → (∀ i, i < n → (l.drop (i * s)).take s = f i) → l = (List.range n).flatMap f
 | 0, l, f, hl, _ => by
  have : l = [] := List.length_eq_zero_iff.1 (by omega)
  rw [this]; rfl
 | n + 1, l, f, hl, h => by
  have h1 := cut_rows s n (l.take (n * s)) f (by rw [List.length_take]; have : n * s ≤ (n + 1) * s := Nat.mul_le_mul_right s (by omega); omega) (fun i hi => by
   rw [← h i (by omega), List.drop_take, List.take_take]
   congr 1
   have : (i + 1) * s ≤ n * s := Nat.mul_le_mul_right s (by omega)
   rw [Nat.succ_mul] at this
   omega)
  have h2 := h n (by omega)
  have h3 : (l.drop (n * s)).take s = l.drop (n * s) := List.take_of_length_le (by rw [List.length_drop, hl, Nat.succ_mul]; omega)
  rw [List.range_succ, List.flatMap_append, ← h1]
  simp only [List.flatMap_cons, List.flatMap_nil, List.append_nil]
  rw [← h2, h3, List.take_append_drop]
theorem k_ash : Tryd.prog.cellsOf 97 = 8 := by kernel_rfl
theorem k_ashT : Tryd.prog.cellsOf 123 = 112 := by kernel_rfl
def ashD (s : Ash) : DataW Unit := .agg [.lit (.string s.kind), .lit (.bool s.d), .lit (.bool s.a), .lit (.bool s.b), .lit (.bool s.num), .lit (.bool s.name), .lit (.bool s.fin), .lit (.int .i64 (s.ways : Int))]
theorem ash_data : (Rows.laid_kelpforest_alloc_shapes : DataW Unit) = .agg (ashL.map ashD) := by kernel_rfl
set_option maxRecDepth 100000 in
theorem ash_cellsD {w : World} {sp : Nat → Bool} {held : Bool} {fuel : Nat} {cs : List Value} {s : Ash} {p : List MemPlace} (h : DataW.trod (fun _ => ()) Tryd.prog w 0 sp held fuel 97 cs = some (ashD s, p)) : cs = ashC s := by
 obtain ⟨xs, n, hf, hx0, hl, hx, hall⟩ := DataW.trod_struct Tryd.underlying97 h
 rw [k_ash] at hl
 have hx6 : xs.length = 8 := hx
 have hd : xs.map (·.1) = [.lit (.string s.kind), .lit (.bool s.d), .lit (.bool s.a), .lit (.bool s.b), .lit (.bool s.num), .lit (.bool s.name), .lit (.bool s.fin), .lit (.int .i64 (s.ways : Int))] := by
  have := congrArg Prod.fst hx0
  simp only [ashD] at this
  injection this with this
  exact this.symm
 match cs, hl, xs, hx6, hd with
 | [v0, v1, v2, v3, v4, v5, v6, v7], _, [⟨x0, p0⟩, ⟨x1, p1⟩, ⟨x2, p2⟩, ⟨x3, p3⟩, ⟨x4, p4⟩, ⟨x5, p5⟩, ⟨x6, p6⟩, ⟨x7, p7⟩], _, hd =>
  simp only [List.map_cons, List.map_nil, List.cons.injEq, and_true] at hd
  obtain ⟨rfl, rfl, rfl, rfl, rfl, rfl, rfl, rfl⟩ := hd
  have e0 : DataW.trod (fun _ => ()) Tryd.prog w 0 sp held n 9 (([v0, v1, v2, v3, v4, v5, v6, v7].drop 0).take (Tryd.prog.cellsOf 9)) = some _ := hall 0 _ rfl
  have e1 : DataW.trod (fun _ => ()) Tryd.prog w 0 sp held n 4 (([v0, v1, v2, v3, v4, v5, v6, v7].drop 1).take (Tryd.prog.cellsOf 4)) = some _ := hall 1 _ rfl
  have e2 : DataW.trod (fun _ => ()) Tryd.prog w 0 sp held n 4 (([v0, v1, v2, v3, v4, v5, v6, v7].drop 2).take (Tryd.prog.cellsOf 4)) = some _ := hall 2 _ rfl
  have e3 : DataW.trod (fun _ => ()) Tryd.prog w 0 sp held n 4 (([v0, v1, v2, v3, v4, v5, v6, v7].drop 3).take (Tryd.prog.cellsOf 4)) = some _ := hall 3 _ rfl
  have e4 : DataW.trod (fun _ => ()) Tryd.prog w 0 sp held n 4 (([v0, v1, v2, v3, v4, v5, v6, v7].drop 4).take (Tryd.prog.cellsOf 4)) = some _ := hall 4 _ rfl
  have e5 : DataW.trod (fun _ => ()) Tryd.prog w 0 sp held n 4 (([v0, v1, v2, v3, v4, v5, v6, v7].drop 5).take (Tryd.prog.cellsOf 4)) = some _ := hall 5 _ rfl
  have e6 : DataW.trod (fun _ => ()) Tryd.prog w 0 sp held n 4 (([v0, v1, v2, v3, v4, v5, v6, v7].drop 6).take (Tryd.prog.cellsOf 4)) = some _ := hall 6 _ rfl
  have e7 : DataW.trod (fun _ => ()) Tryd.prog w 0 sp held n 3 (([v0, v1, v2, v3, v4, v5, v6, v7].drop 7).take (Tryd.prog.cellsOf 3)) = some _ := hall 7 _ rfl
  rw [k_str] at e0
  rw [k_bool] at e1
  rw [k_bool] at e2
  rw [k_bool] at e3
  rw [k_bool] at e4
  rw [k_bool] at e5
  rw [k_bool] at e6
  rw [k_int] at e7
  simp only [List.drop_zero, List.drop_succ_cons, List.take_succ_cons, List.take_zero] at e0 e1 e2 e3 e4 e5 e6 e7
  rw [str_cell e0, bool_cell e1, bool_cell e2, bool_cell e3, bool_cell e4, bool_cell e5, bool_cell e6, int_cell e7]
  rfl
theorem ash_tab : (List.range 14).flatMap (fun i => ashC (ashL.getD i ⟨[], false, false, false, false, false, false, 0⟩)) = ashT := by kernel_rfl
set_option maxRecDepth 100000 in
theorem ash_of_laid {W : World} (h : laidMetH Tryd.prog [("kelpforest/alloc.shapes", Rows.laid_kelpforest_alloc_shapes)] W) : TabA W := by
 have h : laidMet Tryd.prog [("kelpforest/alloc.shapes", Rows.laid_kelpforest_alloc_shapes)] W := h
 obtain ⟨ps, ⟨g, t, cs, fuel, p, q, hg, ht, hv, hd, hr, rfl⟩, _, hrows⟩ := h
 have hg0 : Tryd.prog.globalNamed "kelpforest/alloc.shapes" = some 11 := by kernel_rfl
 obtain rfl := Option.some.inj (hg0.symm.trans hg)
 have hty0 : (Tryd.prog.globals[11]?).map (·.type) = some 123 := by kernel_rfl
 obtain rfl := Option.some.inj (hty0.symm.trans ht)
 rw [ash_data] at hd
 obtain ⟨xs, m, hf, hx0, hl, hx, hall⟩ := DataW.trod_array Tryd.underlying123 hd
 rw [k_ashT] at hl
 have hd2 : xs.map (·.1) = ashL.map ashD := by
  have := congrArg Prod.fst hx0
  injection this with this
  exact this.symm
 have hcs : cs.toList = ashT := by
  rw [← ash_tab]
  refine cut_rows 8 14 cs.toList _ hl (fun i hi => ?_)
  have h1 := hall i hi
  rw [k_ash] at h1
  have hxi : i < xs.length := by omega
  rw [List.getElem?_eq_getElem hxi] at h1
  have hsi : i < ashL.length := hi
  have h2 : (xs[i]).1 = ashD (ashL.getD i ⟨[], false, false, false, false, false, false, 0⟩) := by
   have := congrArg (fun l => l[i]?) hd2
   simp only [List.getElem?_map, List.getElem?_eq_getElem hxi, List.getElem?_eq_getElem hsi, Option.map_some] at this
   injection this with this
   rw [this]
   simp [hsi]
  generalize xs[i] = y at h1 h2
  obtain ⟨y1, y2⟩ := y
  simp only at h2
  subst h2
  exact ash_cellsD h1
 have hlt : 0 < cs.size := by
  have : cs.toList.length = 112 := hl
  simp at this; omega
 obtain ⟨⟨c, tt, hc⟩, _⟩ := hrows 11 0 (List.mem_append_left _ (List.mem_append_left _ (by
  unfold MemPlace.row
  exact List.mem_map.2 ⟨0, List.mem_range.2 hlt, rfl⟩)))
 unfold World.var? at hv
 rw [hg0, Option.bind_some, hc] at hv
 injection hv with hv
 refine ⟨tt, ?_⟩
 rw [hc, hv, ← hcs]
end Go.Proofs.YtimccbilkjjakaaDoor
