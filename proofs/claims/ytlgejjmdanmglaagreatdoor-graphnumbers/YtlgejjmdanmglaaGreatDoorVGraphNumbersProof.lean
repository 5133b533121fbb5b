/- For any graph, any arguments, any answers and any ticks the law GraphNumbers returns true and leaves its arguments alone: a graph without fault, its nodes' numbers turned around (but the start's), is without fault, as sound as it was, and graph.Walk of it comes to what the document's walk of the first one comes to (where that is neither stuck nor long). No condition beyond the card's own: the listed error variables, errors' own type variable and package graph's table of shapes read as the program's text lays them. -/
import Derived.Test.YtlgejjmdanmglaaGreatDoorRows
import Derived.Test.YtlgejjmdanmglaaGreatDoorTie
import Derived.Test.YtlgejjmdanmglaaGreatDoorCards
import Derived.Test.YtlgejjmdanmglaaGreatDoorVNumAll
import Derived.Test.YtlgejjmdanmglaaGreatDoorVReadAll
import Derived.Test.YtlgejjmdanmglaaGreatDoorVLaidAll
import Derived.ProofKit
import Derived.LaidMore
import Derived.OpenShut
import Derived.SevenTiedAt
import Derived.Stop.Joined
import Derived.Carry
namespace Go.Proofs.YtlgejjmdanmglaaGreatDoor.GraphNumbers
open Go.ChangeShapes Go.WideShapes Go.ChangeAt Go.RowKit
theorem laidOut : laidOutB Tryz.prog = true := by kernel_rfl
theorem own : ownKnob Tryz.prog.godebug = none := by kernel_rfl
section
variable {H : Type} {enc : TypeId × Value → H} {w : World} {sp : Nat → Bool} {held : Bool}
theorem read_intsG {v : Value} {d : DataW H} {ps : List MemPlace} (h : DataW.Trod enc Tryz.prog w 0 sp held 40 v d ps) (hv : v.cells.toList = [v]) : ∃ l : List Int, XRow (fun b => b < w.heap.size) w v l.length (intsG l) ∧ l.length ≤ 9223372036854775807 ∧ ∀ x ∈ l, In64 x := by
 obtain ⟨fuel, hf⟩ := h
 rw [hv] at hf
 obtain ⟨v', l, ys, h1, hl, hg, hr, hs⟩ := slice_read (α := Int) 1 Tryz.underlying40 c_int (by decide) (fun x cs => cs = [.int .i64 x]) (fun l xs => xs = intsG l) In64g rfl (fun l xs e cs h1 h2 => by rw [h1, h2, intsG_snoc]) (fun e cs h => by rw [h]; rfl) hf
  (fun m hm cs y hy => by
   obtain ⟨n1, h1, _, w1⟩ := DataW.trod_int Tryz.underlying3 hy
   exact ⟨n1, h1, in64g_wf w1⟩)
 injection h1 with h1
 subst h1 hs
 exact ⟨l, hr, hl, hg⟩
end
theorem door_met (os : Os) (args : Array Value) : laidMetH Tryz.prog Rows.graphNumbersRow.laid ((World.doorLaid Tryz.prog 400 os).forCall (fun _ _ => 0) ⟨#[], args, []⟩).memory :=
 laidMetH_of_parts3 (fuel := 8) (laidMet_of_run' 8 (by kernel_rfl) (by kernel_rfl)) (by kernel_rfl) (by kernel_rfl)
theorem errs_of {W : World} (h : laidMetH Tryz.prog Rows.graphNumbersRow.laid W) : laidMetH Tryz.prog laidErrs W := by
 have h1 := h.filter (fun x => x.1 != "kelpforest/graph.shapes")
 have e : Rows.graphNumbersRow.laid.filter (fun x => x.1 != "kelpforest/graph.shapes") = laidErrs := by kernel_rfl
 rwa [e] at h1
theorem tab_of {W : World} (h : laidMetH Tryz.prog Rows.graphNumbersRow.laid W) : laidMetH Tryz.prog [("kelpforest/graph.shapes", Rows.laid_kelpforest_graph_shapes)] W := by
 have h1 := h.filter (fun x => x.1 == "kelpforest/graph.shapes")
 have e : Rows.graphNumbersRow.laid.filter (fun x => x.1 == "kelpforest/graph.shapes") = [("kelpforest/graph.shapes", Rows.laid_kelpforest_graph_shapes)] := by kernel_rfl
 rwa [e] at h1
set_option maxRecDepth 100000 in
theorem lifted (os : Os) (started : os.Started) (H : Type) (enc : TypeId × Value → H) :
  ReturnsInHanded {} Tryz.checked os 5 .any (fun w args => (Rows.graphNumbersSpec.pre enc Tryz.prog Tryz.f5 [] false w args ∧ laidMetH Tryz.prog Rows.graphNumbersRow.laid w) ∧ sizedMet enc Tryz.prog Tryz.f5 (OpenSpec.ofChange Rows.graphNumbersSpec) false w args)
   (Rows.graphNumbersSpec.post enc Tryz.prog Tryz.f5 false true false false) := by
 refine returnsInHanded_of_change_and (C := Tryz.checked) (X := fun w _ => laidMetH Tryz.prog Rows.graphNumbersRow.laid w) (fun _ _ _ hh h => h.of_heap hh) own started (by kernel_rfl) Tryz.func5
  (ChangeSpec.witness_shaped (enc := enc) (C := Tryz.checked) (os := os) (X := fun w _ => laidMetH Tryz.prog Rows.graphNumbersRow.laid w) false (World.doorLaid Tryz.prog 400 os) #[.agg #[.string ⟨#[]⟩, .int .i64 0, .slice none 0 0], .slice none 0 0, .slice none 0 0, .int .i64 0] 8 rfl (World.shaped_of_RefB (by kernel_rfl) (by kernel_rfl)) (by kernel_rfl) (by kernel_rfl) (by kernel_rfl) (door_met os _)) ?_
 intro W base args ds gs before hval0 hW _ _ hL _
 have hval : ∀ (j : Nat) t v, Tryz.f5.params[j]? = some t → args[j]? = some v → Value.okWide Tryz.prog W .any base t v := hval0
 have hW' := hW
 obtain ⟨p, q, hA0, hV, rfl, hfz, hnd⟩ := hW
 have hA : DataW.TrodAll enc Tryz.prog W 0 (fun _ => true) true Tryz.f5.params.toList args.toList ds p := hA0
 rw [Tryz.params5] at hA hval
 obtain ⟨v0, vs0, d0, ds0, p0, q0, hargs, rfl, rfl, h0, r0⟩ := trodAll_cons hA
 obtain ⟨v1, vs1, d1, ds1, p1, q1, rfl, rfl, rfl, h1, r1⟩ := trodAll_cons r0
 obtain ⟨v2, vs2, d2, ds2, p2, q2, rfl, rfl, rfl, h2, r2⟩ := trodAll_cons r1
 obtain ⟨v3, vs3, d3, ds3, p3, q3, rfl, rfl, rfl, h3, r3⟩ := trodAll_cons r2
 obtain ⟨rfl, rfl, rfl⟩ := trodAll_nil r3
 obtain rfl : args = #[v0, v1, v2, v3] := by cases args; simp_all
 obtain ⟨rfl, rfl⟩ := trodVars_none hV
 obtain ⟨cs, hcs, _⟩ := okWide_struct Tryz.underlying24 (hval 0 24 v0 rfl rfl)
 obtain ⟨a1, n1, c1, rfl⟩ := okWide_slice Tryz.underlying40 (hval 1 40 v1 rfl rfl)
 obtain ⟨a2, n2, c2, rfl⟩ := okWide_slice Tryz.underlying40 (hval 2 40 v2 rfl rfl)
 obtain ⟨i3, rfl, rfl, rfl, w3⟩ := open_int Tryz.underlying3 (hval 3 3 v3 rfl rfl) h3
 obtain ⟨nm, P, nv, L, hv, hl, hO, hX⟩ := read_graph hcs h0
 obtain ⟨k1, hK1, hk1, hk164⟩ := read_intsG h1 rfl
 obtain ⟨k2, hK2, hk2, hk264⟩ := read_intsG h2 rfl
 obtain ⟨s, hS⟩ := sents_of_laid (W := W) (errs_of hL)
 have hT := tabG_of_laid (tab_of hL)
 clear hA0 hval0
 simp only [List.append_nil] at hW'
 have hlt : ∀ x ∈ p0, x.block < W.heap.size := fun x hx => by simpa using hW'.lt x (by simp [hx])
 have hlt1 : ∀ x ∈ p1, x.block < W.heap.size := fun x hx => by simpa using hW'.lt x (by simp [hx])
 have hlt2 : ∀ x ∈ p2, x.block < W.heap.size := fun x hx => by simpa using hW'.lt x (by simp [hx])
 have e1 : Rows.graphNumbersSpec.fn H ([d0, d1, d2, .lit (.int .i64 i3)] ++ []) = { results := [.lit (.bool true)], args := [d0, d1, d2, .lit (.int .i64 i3)] } := rfl
 subst hv
 refine (graphNumbers_any hS hT nm P nv L hl (fun n hn => (hO n hn).1) (fun n hn => (hO n hn).2) hX k1 _ _ hK1 hk1 hk164 k2 hK2 hk2 hk264 i3).mono fun e W' ⟨he, hg⟩ => ?_
 subst he
 refine ⟨_, rfl, _, _, _, [], p0 ++ (p1 ++ p2), [], hW', ?_, ?_, ?_, hg.frame _, fun h => by cases h⟩
 ·rw [e1]; exact trodAll_cons_mk (shut_bool Tryz.underlying4 true) trodAll_mk0
 ·rw [e1]
  have := trodAll_cons_mk (Below.trod laidOut (by kernel_rfl) (of_decide_eq_true (by kernel_rfl)) h0 hg hlt) (trodAll_cons_mk (Below.trod laidOut (by kernel_rfl) (of_decide_eq_true (by kernel_rfl)) h1 hg hlt1) (trodAll_cons_mk (Below.trod laidOut (by kernel_rfl) (of_decide_eq_true (by kernel_rfl)) h2 hg hlt2) (trodAll_cons_mk (shut_int Tryz.underlying3 w3) trodAll_mk0)))
  simp only [List.append_nil] at this
  exact this
 ·rw [e1]; rfl
theorem row_holds : Rows.GraphNumbersSaid :=
 OpenClaim.holds_of_wide 5 Tryz.f5 rfl rfl rfl rfl rfl rfl rfl ⟨rfl, rfl, rfl, rfl, rfl⟩ rfl rfl rfl rfl rfl (by kernel_rfl) Tryz.func5 (by kernel_rfl)
  (of_decide_eq_true (by kernel_rfl)) (by unfold Func.isWrapper; first | (rw [if_pos (by decide +kernel)]; kernel_rfl) | (rw [if_neg (by decide +kernel)]; exact ⟨rfl, rfl⟩))
  (fun os started H enc _ => lifted os started H enc)
end GraphNumbers
open Go
theorem graphNumbers_card : Rows.GraphNumbersCardSaid :=
 Claim7.holds_tied_plain_at .later [] [.handle, .sentinel, .sentinel, .sentinel, .sentinel, .sentinel, .sentinel, .sentinel, .sentinel, .sentinel, .sentinel, .data] true (true, "a6674b836ab8b5439d1315999f2cdba2611eb9aa66b86c0c907d003db06adb70") true
  GraphNumbers.row_holds (fun _ h => by cases h) (by kernel_rfl) (fun _ h => by cases h) graphNumbers_row_tie rfl ⟨rfl, rfl⟩ (by kernel_rfl) rfl
  (fun f fn hf hfn => by
   obtain rfl : f = 5 := Option.some.inj ((show Tryz.prog.funcNamed "kelpforest/kelpforestlaw2.GraphNumbers" = some 5 by kernel_rfl).symm.trans hf) |>.symm
   obtain rfl : fn = Tryz.f5 := (Option.some.inj (Tryz.func5.symm.trans hfn)).symm
   exact ⟨by kernel_rfl, fun j t ht => by
    rw [Tryz.params5] at ht
    have hm : t ∈ [24, 40, 40, 3] := by simpa using Array.mem_of_getElem? ht
    have hall : ([24, 40, 40, 3].all fun u => !Tryz.prog.wantsStandIn u) = true := by kernel_rfl
    exact (show Tryz.prog.wantsStandIn t = false by simpa using List.all_eq_true.1 hall t hm)⟩)
  (by kernel_rfl)
#print axioms graphNumbers_card
end Go.Proofs.YtlgejjmdanmglaaGreatDoor
