/-
  Our own: what the cards' condition on the listed error variables gives a walk: ten different errors of errors.New's make, and the type of error.
-/
import Derived.Test.YtgcmegbfhhebpaaDoorRows
import Derived.Test.YtgcmegbfhhebpaaDoorIn
import Derived.LaidLaws
import Derived.LaidHandle
import Derived.RowKitTokens
namespace Go.Proofs.YtgcmegbfhhebpaaDoor
open Go.RowKit Go.ChangeShapes

/-- The condition, parted: the data, and the types. -/
theorem laidMetH_parts {P : Program} {laid l : List (String × DataW Unit)} {x : String × DataW Unit} {r : List (String × DataW Unit)} {w : World}
    (h : laidMetH P laid w) (e1 : (laid.filter fun x => x.2.handleName?.isSome) = x :: r) (e2 : (laid.filter fun x => x.2.handleName?.isNone) = l) : laidMet P l w ∧ handlesMet P (x :: r) w := by
  unfold laidMetH at h
  rw [e1, e2] at h
  exact h

/-- A list of errors of errors.New's make: their addresses, no two alike. -/
theorem laid_sents {P : Program} {nm : String} {W : World} {ti tp te ts : TypeId} {ms : Array (String × TypeId)} {f : Field}
    (hi : P.underlying ti = some (.interface ms)) (hrow : ∀ u, P.typeName? 3 u = some nm → u = tp)
    (hp : P.underlying tp = some (.pointer te)) (he : P.underlying te = some (.struct #[f])) (hft : f.type = ts) (hfo : f.offset = 0) (hs : P.underlying ts = some .string) (hc : P.cellsOf te = 1) (hcs : P.cellsOf ts = 1) :
    ∀ (l : List (String × List UInt8)) (ps : List MemPlace),
      DataW.LaidVars P W (l.map fun x => (x.1, .iface nm (.ptr (.agg [.lit (.string x.2)])))) ps →
      (∀ b off, MemPlace.cell b off ∈ ps → (∃ c t, W.heap[b]? = some (.cells c t (0, 0))) ∧ ∀ u v, W.cell? ⟨b, off, none⟩ = some (.iface u v) → Value.okWide P W .any 0 u v) →
      (∀ x ∈ l, ∀ g, P.globalNamed x.1 = some g → (P.globals[g]?).map (·.type) = some ti) →
      ∃ al : List Addr, al.length = l.length ∧ (al.map fun a => MemPlace.cell a.block a.off).Sublist ps ∧
        ∀ i x, l[i]? = some x → W.var? P x.1 = some #[.iface tp (.pointer (some (al.getD i ⟨0, 0, none⟩)))] ∧ ∃ c t, W.heap[(al.getD i ⟨0, 0, none⟩).block]? = some (.cells c t (0, 0))
  | [], _, _, _, _ => ⟨[], rfl, List.nil_sublist _, fun i x h => by simp at h⟩
  | x :: r, ps, h, hrows, hty => by
    obtain ⟨g, t, cs, fuel, p, q, hg, ht, hv, hd, hr, rfl⟩ := h
    obtain rfl := Option.some.inj ((hty x (List.mem_cons_self ..) g hg).symm.trans ht)
    obtain ⟨cl⟩ := cs
    have ok : ∀ u v, cl = [.iface u v] → Value.okWide P W .any 0 u v := fun u v e => by
      subst e
      exact (hrows g 0 (by simp [MemPlace.row])).2 u v (by simpa using World.var?_cell hg hv 0)
    obtain ⟨a, s0, rfl, hc0, hs0, hz0, rfl⟩ := errorString_of_trod hi hrow hp he hft hfo hs hc hcs hd ok
    obtain ⟨al, hlen, hsub, hall⟩ := laid_sents hi hrow hp he hft hfo hs hc hcs r q hr (fun b off hm => hrows b off (List.mem_append_right _ hm)) (fun y hy => hty y (List.mem_cons_of_mem _ hy))
    refine ⟨a :: al, by simp [hlen], ?_, ?_⟩
    · have e : MemPlace.row a 1 = [MemPlace.cell a.block a.off] := by simp [MemPlace.row]
      rw [List.map_cons, e, List.append_assoc]
      exact ((List.Sublist.cons_cons _ hsub)).trans (List.sublist_append_right _ _)
    · intro i y hy
      cases i with
      | zero =>
        simp only [List.getElem?_cons_zero, Option.some.injEq] at hy
        subst hy
        exact ⟨hv, (hrows a.block a.off (by simp [MemPlace.row])).1⟩
      | succ i => exact hall i y (by simpa using hy)
end Go.Proofs.YtgcmegbfhhebpaaDoor
