/-
  Our own: texts joined: LaidBase, ShowLaid.
-/
import Derived.Test.YtcebpmaggnephabDoorRows
import Derived.Test.YtcebpmaggnephabDoorIn
import Derived.LaidLaws
import Derived.LaidHandle
import Derived.RowKitTokens
import Derived.Test.YtcebpmaggnephabDoorShowBack
import Derived.Lib.LaidTab
import Derived.WalkSmall

/-
  Our own: what the cards' condition on the listed error variables gives a walk: ten different errors of errors.New's make, and the type of error.
-/
namespace Go.Proofs.YtcebpmaggnephabDoor
open Go.RowKit Go.ChangeShapes

/-- The condition, parted: the data, and the types. -/
theorem laidMetH_parts {P : Program} {laid l : List (String × DataW Unit)} {x : String × DataW Unit} {r : List (String × DataW Unit)} {w : World}
    (h : laidMetH P laid w) (e1 : (laid.filter fun x => x.2.handleName?.isSome) = x :: r) (e2 : (laid.filter fun x => x.2.handleName?.isNone) = l) : laidMet P l w ∧ handlesMet P (x :: r) w := by
  unfold laidMetH at h
  rw [e1, e2] at h
  exact h

/-- A list of errors of errors.New's make: their addresses, no two alike. -/
theorem laid_sents {P : Program} {nm : String} {W : World} {ti tp te ts : TypeId} {ms : Array (String × TypeId)} {f : Field}
    (hi : P.underlying ti = some (.interface ms)) (hrow : ∀ u, P.typeName? 3 u = some nm → u = tp)
    (hp : P.underlying tp = some (.pointer te)) (he : P.underlying te = some (.struct #[f])) (hft : f.type = ts) (hfo : f.offset = 0) (hs : P.underlying ts = some .string) (hc : P.cellsOf te = 1) (hcs : P.cellsOf ts = 1) :
    ∀ (l : List (String × List UInt8)) (ps : List MemPlace),
      DataW.LaidVars P W (l.map fun x => (x.1, .iface nm (.ptr (.agg [.lit (.string x.2)])))) ps →
      (∀ b off, MemPlace.cell b off ∈ ps → (∃ c t, W.heap[b]? = some (.cells c t (0, 0))) ∧ ∀ u v, W.cell? ⟨b, off, none⟩ = some (.iface u v) → Value.okWide P W .any 0 u v) →
      (∀ x ∈ l, ∀ g, P.globalNamed x.1 = some g → (P.globals[g]?).map (·.type) = some ti) →
      ∃ al : List Addr, al.length = l.length ∧ (al.map fun a => MemPlace.cell a.block a.off).Sublist ps ∧
        ∀ i x, l[i]? = some x → W.var? P x.1 = some #[.iface tp (.pointer (some (al.getD i ⟨0, 0, none⟩)))] ∧ ∃ c t, W.heap[(al.getD i ⟨0, 0, none⟩).block]? = some (.cells c t (0, 0))
  | [], _, _, _, _ => ⟨[], rfl, List.nil_sublist _, fun i x h => by simp at h⟩
  | x :: r, ps, h, hrows, hty => by
    obtain ⟨g, t, cs, fuel, p, q, hg, ht, hv, hd, hr, rfl⟩ := h
    obtain rfl := Option.some.inj ((hty x (List.mem_cons_self ..) g hg).symm.trans ht)
    obtain ⟨cl⟩ := cs
    have ok : ∀ u v, cl = [.iface u v] → Value.okWide P W .any 0 u v := fun u v e => by
      subst e
      exact (hrows g 0 (by simp [MemPlace.row])).2 u v (by simpa using World.var?_cell hg hv 0)
    obtain ⟨a, s0, rfl, hc0, hs0, hz0, rfl⟩ := errorString_of_trod hi hrow hp he hft hfo hs hc hcs hd ok
    obtain ⟨al, hlen, hsub, hall⟩ := laid_sents hi hrow hp he hft hfo hs hc hcs r q hr (fun b off hm => hrows b off (List.mem_append_right _ hm)) (fun y hy => hty y (List.mem_cons_of_mem _ hy))
    refine ⟨a :: al, by simp [hlen], ?_, ?_⟩
    · have e : MemPlace.row a 1 = [MemPlace.cell a.block a.off] := by simp [MemPlace.row]
      rw [List.map_cons, e, List.append_assoc]
      exact ((List.Sublist.cons_cons _ hsub)).trans (List.sublist_append_right _ _)
    · intro i y hy
      cases i with
      | zero =>
        simp only [List.getElem?_cons_zero, Option.some.injEq] at hy
        subst hy
        exact ⟨hv, (hrows a.block a.off (by simp [MemPlace.row])).1⟩
      | succ i => exact hall i y (by simpa using hy)
end Go.Proofs.YtcebpmaggnephabDoor

/-
  Our own: from the card's condition to what the walks of package show want: a table, then error variables.
-/
namespace Go.Proofs.YtcebpmaggnephabDoor
open Go.RowKit Go.ChangeShapes

def backNames : List (String × List UInt8) := [
  ("kelpforest/api.ErrText", [107, 101, 108, 112, 102, 111, 114, 101, 115, 116, 58, 32, 116, 101, 120, 116]),
  ("kelpforest/api.ErrBound", [107, 101, 108, 112, 102, 111, 114, 101, 115, 116, 58, 32, 98, 111, 117, 110, 100]),
  ("kelpforest/api.ErrKind", [107, 101, 108, 112, 102, 111, 114, 101, 115, 116, 58, 32, 107, 105, 110, 100]),
  ("kelpforest/api.ErrFull", [107, 101, 108, 112, 102, 111, 114, 101, 115, 116, 58, 32, 102, 117, 108, 108]),
  ("kelpforest/api.ErrDeep", [107, 101, 108, 112, 102, 111, 114, 101, 115, 116, 58, 32, 100, 101, 101, 112])]
def backErrs (l : List (String × List UInt8)) : List (String × DataW Unit) := l.map fun x => (x.1, .iface "*errors.errorString" (.ptr (.agg [.lit (.string x.2)])))
theorem z_row : ∀ u, Tryd.prog.typeName? 3 u = some "*errors.errorString" → u = 151 :=
  typeName_ptr_named (nm := "errors.errorString") (by kernel_rfl) (by kernel_rfl) (by decide)
theorem z_cellsS : Tryd.prog.cellsOf 153 = 1 := by kernel_rfl
theorem z_cellsT : Tryd.prog.cellsOf 9 = 1 := by kernel_rfl
theorem z_globs : backNames.map (fun x => Tryd.prog.globalNamed x.1) = [some 1, some 0, some 4, some 2, some 3] := by kernel_rfl
theorem z_types : ([1, 0, 4, 2, 3].all fun g => (Tryd.prog.globals[g]?).map (·.type) == some 25) = true := by kernel_rfl
/-- What is laid ahead is passed over; what is laid behind is left. -/
theorem laid_splitB {P : Program} {W : World} : ∀ (l r : List (String × DataW Unit)) (ps : List MemPlace), DataW.LaidVars P W (l ++ r) ps → ∃ p q, ps = p ++ q ∧ DataW.LaidVars P W l p ∧ DataW.LaidVars P W r q
  | [], r, ps, h => ⟨[], ps, rfl, rfl, h⟩
  | x :: l, r, ps, h => by
    obtain ⟨g, t, cs, fuel, p, q, hg, ht, hv, hd, hr, rfl⟩ := h
    obtain ⟨p', q', rfl, h1, h2⟩ := laid_splitB l r q hr
    exact ⟨_, q', by simp only [List.append_assoc], ⟨g, t, cs, fuel, p, p', hg, ht, hv, hd, h1, rfl⟩, h2⟩
theorem backG_of_laid {W : World} (A B : List (String × DataW Unit)) (h : laidMet Tryd.prog (A ++ (("internal/strconv.uint64pow10", Lib.tabData .u64 Lib.pow10Tab) :: (backErrs backNames ++ B))) W) : ∃ a : Nat → Addr, CutG W a ∧ ShG W.heap.size W a := by
  obtain ⟨ps, hv, hnd, hrows⟩ := h
  obtain ⟨p1, q1, rfl, _, hv1⟩ := laid_splitB A _ ps hv
  obtain ⟨gt, tt, cst, fuel, pt, qt, hgt, htt, hvt, hdt, hrt, rfl⟩ := hv1
  obtain ⟨p2, q2, rfl, hv2, _⟩ := laid_splitB (backErrs backNames) B qt hrt
  have hg0 : Tryd.prog.globalNamed "internal/strconv.uint64pow10" = some 6 := by kernel_rfl
  obtain rfl := Option.some.inj (hg0.symm.trans hgt)
  have hty0 : (Tryd.prog.globals[6]?).map (·.type) = some 134 := by kernel_rfl
  obtain rfl := Option.some.inj (hty0.symm.trans htt)
  have htab : Lib.TabIs Tryd.prog W "internal/strconv.uint64pow10" .u64 Lib.pow10Tab := by
    unfold Lib.TabIs
    rw [hvt, ← Lib.cells_of_tab Tryd.underlying134 Tryd.underlying124 (by kernel_rfl) (by kernel_rfl) hdt]
  have hlt : 6 < W.heap.size := cell_lt (htab.cell hg0 0 (by decide))
  have hty : ∀ x ∈ backNames, ∀ g, Tryd.prog.globalNamed x.1 = some g → (Tryd.prog.globals[g]?).map (·.type) = some 25 := by
    intro x hx g hg
    have hmem : some g ∈ [some 1, some 0, some 4, some 2, some 3] := by
      rw [← z_globs, ← hg]
      exact List.mem_map_of_mem (f := fun x => Tryd.prog.globalNamed x.1) hx
    have hmem' : g ∈ [1, 0, 4, 2, 3] := by simpa using hmem
    have := List.all_eq_true.1 z_types g hmem'
    simpa using this
  obtain ⟨al, hlen, hsub, hall⟩ := laid_sents Tryd.underlying25 z_row Tryd.underlying151 Tryd.underlying153 rfl rfl Tryd.underlying9 z_cellsS z_cellsT backNames p2 hv2 (fun b off hm => hrows b off (List.mem_append_right _ (List.mem_append_right _ (List.mem_append_left _ hm)))) hty
  have c : ∀ i x g, backNames[i]? = some x → Tryd.prog.globalNamed x.1 = some g → W.cell? ⟨g, 0, none⟩ = some (sentV (al.getD i ⟨0, 0, none⟩)) := fun i x g hx hg => by
    simpa using World.var?_cell hg (hall i x hx).1 0
  have hk := c 2 _ 4 rfl (by kernel_rfl)
  refine ⟨fun i => if i = 7 then al.getD 3 ⟨0, 0, none⟩ else if i = 9 then al.getD 4 ⟨0, 0, none⟩ else if i = 3 then al.getD 2 ⟨0, 0, none⟩ else al.getD i ⟨0, 0, none⟩, ⟨⟨?_, ?_, ?_⟩, ?_⟩, ⟨?_, cell_lt hk, ?_⟩⟩
  · exact c 0 _ _ rfl (by kernel_rfl)
  · exact c 1 _ _ rfl (by kernel_rfl)
  · exact c 3 _ _ rfl (by kernel_rfl)
  · exact c 4 _ _ rfl (by kernel_rfl)
  · exact hk
  · exact fun w' hb => var?_below hb hg0 hlt htab
end Go.Proofs.YtcebpmaggnephabDoor
