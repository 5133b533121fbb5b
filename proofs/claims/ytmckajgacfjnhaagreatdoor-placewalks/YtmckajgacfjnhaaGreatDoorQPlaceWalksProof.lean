/- For any code of values, any arguments, any answers and any ticks the law PlaceWalks returns true and leaves its arguments alone: place.Check tells what the document's own check tells, and place.Walk of the code comes to what the document's own walk comes to. No condition beyond the card's own: the listed error variables, errors' own type variable and package place's two tables read as the program's text lays them. -/
import Derived.Test.YtmckajgacfjnhaaGreatDoorRows
import Derived.Test.YtmckajgacfjnhaaGreatDoorTie
import Derived.Test.YtmckajgacfjnhaaGreatDoorCards
import Derived.Test.YtmckajgacfjnhaaGreatDoorQPlaceWalks
import Derived.Test.YtmckajgacfjnhaaGreatDoorQReadAll
import Derived.Test.YtmckajgacfjnhaaGreatDoorQLaidAll
import Derived.LaidSub
import Derived.ProofKit
import Derived.LaidMore
import Derived.OpenShut
import Derived.SevenTiedAt
import Derived.Stop.Joined
import Derived.Carry
namespace Go.Proofs.YtmckajgacfjnhaaGreatDoor.PlaceWalks
open Go.ChangeShapes Go.WideShapes Go.ChangeAt Go.RowKit
theorem laidOut : laidOutB Tryz.prog = true := by kernel_rfl
theorem own : ownKnob Tryz.prog.godebug = none := by kernel_rfl
section
variable {H : Type} {enc : TypeId × Value → H} {w : World} {sp : Nat → Bool} {held : Bool}
theorem read_intsW {v : Value} {d : DataW H} {ps : List MemPlace} (h : DataW.Trod enc Tryz.prog w 0 sp held 25 v d ps) (hv : v.cells.toList = [v]) : ∃ l : List Int, XRow (fun b => b < w.heap.size) w v l.length (intsG l) ∧ l.length ≤ 9223372036854775807 ∧ ∀ x ∈ l, In64 x := by
 obtain ⟨fuel, hf⟩ := h
 rw [hv] at hf
 obtain ⟨ad, cap, l, h1, h2, h3, h4⟩ := read_intsP fuel _ _ hf
 injection h1 with h1
 subst h1
 exact ⟨l, h2, h3, fun x hx => by have := h4 x hx; unfold In64p at this; unfold In64; omega⟩
end
theorem door_met (os : Os) (args : Array Value) : laidMetH Tryz.prog Rows.placeWalksRow.laid ((World.doorLaid Tryz.prog 400 os).forCall (fun _ _ => 0) ⟨#[], args, []⟩).memory :=
 laidMetH_of_parts3 (fuel := 8) (laidMet_of_run' 8 (by kernel_rfl) (by kernel_rfl)) (by kernel_rfl) (by kernel_rfl)
theorem errs_of {W : World} (h : laidMetH Tryz.prog Rows.placeWalksRow.laid W) : laidMetH Tryz.prog laidErrs W := by
 have h1 := h.filter (fun x => x.1 != "kelpforest/place.shapes" && x.1 != "kelpforest/place.endings")
 have e : Rows.placeWalksRow.laid.filter (fun x => x.1 != "kelpforest/place.shapes" && x.1 != "kelpforest/place.endings") = laidErrs := by kernel_rfl
 rwa [e] at h1
theorem tabP_of {W : World} (h : laidMetH Tryz.prog Rows.placeWalksRow.laid W) : laidMetH Tryz.prog [("kelpforest/place.shapes", Rows.laid_kelpforest_place_shapes)] W := by
 have h1 := h.filter (fun x => x.1 == "kelpforest/place.shapes")
 have e : Rows.placeWalksRow.laid.filter (fun x => x.1 == "kelpforest/place.shapes") = [("kelpforest/place.shapes", Rows.laid_kelpforest_place_shapes)] := by kernel_rfl
 rwa [e] at h1
theorem tabE_of {W : World} (h : laidMetH Tryz.prog Rows.placeWalksRow.laid W) : laidMetH Tryz.prog [("kelpforest/place.endings", Rows.laid_kelpforest_place_endings)] W := by
 have h1 := h.filter (fun x => x.1 == "kelpforest/place.endings")
 have e : Rows.placeWalksRow.laid.filter (fun x => x.1 == "kelpforest/place.endings") = [("kelpforest/place.endings", Rows.laid_kelpforest_place_endings)] := by kernel_rfl
 rwa [e] at h1
set_option maxRecDepth 100000 in
theorem lifted (os : Os) (started : os.Started) (H : Type) (enc : TypeId × Value → H) :
  ReturnsInHanded {} Tryz.checked os 3 .any (fun w args => (Rows.placeWalksSpec.pre enc Tryz.prog Tryz.f3 [] false w args ∧ laidMetH Tryz.prog Rows.placeWalksRow.laid w) ∧ sizedMet enc Tryz.prog Tryz.f3 (OpenSpec.ofChange Rows.placeWalksSpec) false w args)
   (Rows.placeWalksSpec.post enc Tryz.prog Tryz.f3 false true false false) := by
 refine returnsInHanded_of_change_and (C := Tryz.checked) (X := fun w _ => laidMetH Tryz.prog Rows.placeWalksRow.laid w) (fun _ _ _ hh h => h.of_heap hh) own started (by kernel_rfl) Tryz.func3
  (ChangeSpec.witness_shaped (enc := enc) (C := Tryz.checked) (os := os) (X := fun w _ => laidMetH Tryz.prog Rows.placeWalksRow.laid w) false (World.doorLaid Tryz.prog 400 os) #[.agg #[.string ⟨#[]⟩, .int .i64 0, .int .i64 0, .slice none 0 0], .slice none 0 0, .slice none 0 0, .int .i64 0] 8 rfl (World.shaped_of_RefB (by kernel_rfl) (by kernel_rfl)) (by kernel_rfl) (by kernel_rfl) (by kernel_rfl) (door_met os _)) ?_
 intro W base args ds gs before hval0 hW _ _ hL _
 have hval : ∀ (j : Nat) t v, Tryz.f3.params[j]? = some t → args[j]? = some v → Value.okWide Tryz.prog W .any base t v := hval0
 have hW' := hW
 obtain ⟨p, q, hA0, hV, rfl, hfz, hnd⟩ := hW
 have hA : DataW.TrodAll enc Tryz.prog W 0 (fun _ => true) true Tryz.f3.params.toList args.toList ds p := hA0
 rw [Tryz.params3] at hA hval
 obtain ⟨v0, vs0, d0, ds0, p0, q0, hargs, rfl, rfl, h0, r0⟩ := trodAll_cons hA
 obtain ⟨v1, vs1, d1, ds1, p1, q1, rfl, rfl, rfl, h1, r1⟩ := trodAll_cons r0
 obtain ⟨v2, vs2, d2, ds2, p2, q2, rfl, rfl, rfl, h2, r2⟩ := trodAll_cons r1
 obtain ⟨v3, vs3, d3, ds3, p3, q3, rfl, rfl, rfl, h3, r3⟩ := trodAll_cons r2
 obtain ⟨rfl, rfl, rfl⟩ := trodAll_nil r3
 obtain rfl : args = #[v0, v1, v2, v3] := by cases args; simp_all
 obtain ⟨rfl, rfl⟩ := trodVars_none hV
 obtain ⟨cs, hcs, _⟩ := okWide_struct Tryz.underlying24 (hval 0 24 v0 rfl rfl)
 obtain ⟨a1, n1, c1, rfl⟩ := okWide_slice Tryz.underlying25 (hval 1 25 v1 rfl rfl)
 obtain ⟨a2, n2, c2, rfl⟩ := okWide_slice Tryz.underlying25 (hval 2 25 v2 rfl rfl)
 obtain ⟨i3, rfl, rfl, rfl, w3⟩ := open_int Tryz.underlying3 (hval 3 3 v3 rfl rfl) h3
 obtain ⟨nm, P, V, ba, bc, L, hv, _, _, hl, hO, hX⟩ := read_codeP hcs h0
 obtain ⟨k1, hK1, hk1, hk164⟩ := read_intsW h1 rfl
 obtain ⟨k2, hK2, hk2, hk264⟩ := read_intsW h2 rfl
 obtain ⟨s, hS⟩ := sents_of_laid (W := W) (errs_of hL)
 have hT := psh_of_laid (tabP_of hL)
 have hE := pen_of_laid (tabE_of hL)
 have hgs : 13 ≤ W.heap.size := by obtain ⟨t, ht⟩ := hT.tab; exact heap_lt ht
 clear hA0 hval0
 simp only [List.append_nil] at hW'
 have hlt : ∀ x ∈ p0, x.block < W.heap.size := fun x hx => by simpa using hW'.lt x (by simp [hx])
 have hlt1 : ∀ x ∈ p1, x.block < W.heap.size := fun x hx => by simpa using hW'.lt x (by simp [hx])
 have hlt2 : ∀ x ∈ p2, x.block < W.heap.size := fun x hx => by simpa using hW'.lt x (by simp [hx])
 have e1 : Rows.placeWalksSpec.fn H ([d0, d1, d2, .lit (.int .i64 i3)] ++ []) = { results := [.lit (.bool true)], args := [d0, d1, d2, .lit (.int .i64 i3)] } := rfl
 subst hv
 refine (placeWalks_any hS hT hE hgs nm P V ba bc L hl (fun n hn => (hO n hn).1) (fun n hn => (hO n hn).2) hX k1 _ _ hK1 hk1 hk164 k2 hK2 hk2 hk264 i3).mono fun e W' ⟨he, hg⟩ => ?_
 subst he
 refine ⟨_, rfl, _, _, _, [], p0 ++ (p1 ++ p2), [], hW', ?_, ?_, ?_, hg.frame _, fun h => by cases h⟩
 ·rw [e1]; exact trodAll_cons_mk (shut_bool Tryz.underlying4 true) trodAll_mk0
 ·rw [e1]
  have := trodAll_cons_mk (Below.trod laidOut (by kernel_rfl) (of_decide_eq_true (by kernel_rfl)) h0 hg hlt) (trodAll_cons_mk (Below.trod laidOut (by kernel_rfl) (of_decide_eq_true (by kernel_rfl)) h1 hg hlt1) (trodAll_cons_mk (Below.trod laidOut (by kernel_rfl) (of_decide_eq_true (by kernel_rfl)) h2 hg hlt2) (trodAll_cons_mk (shut_int Tryz.underlying3 w3) trodAll_mk0)))
  simp only [List.append_nil] at this
  exact this
 ·rw [e1]; rfl
theorem row_holds : Rows.PlaceWalksSaid :=
 OpenClaim.holds_of_wide 3 Tryz.f3 rfl rfl rfl rfl rfl rfl rfl ⟨rfl, rfl, rfl, rfl, rfl⟩ rfl rfl rfl rfl rfl (by kernel_rfl) Tryz.func3 (by kernel_rfl)
  (of_decide_eq_true (by kernel_rfl)) (by unfold Func.isWrapper; first | (rw [if_pos (by decide +kernel)]; kernel_rfl) | (rw [if_neg (by decide +kernel)]; exact ⟨rfl, rfl⟩))
  (fun os started H enc _ => lifted os started H enc)
end PlaceWalks
open Go
theorem placeWalks_card : Rows.PlaceWalksCardSaid :=
 Claim7.holds_tied_plain_at .later [] [.handle, .sentinel, .sentinel, .sentinel, .sentinel, .sentinel, .sentinel, .sentinel, .sentinel, .sentinel, .sentinel, .data, .data] true (true, "7c3bdc6853ffc834331ef0f6d43506ca0905f17349e5ec9ced3613681ae8aa02") true
  PlaceWalks.row_holds (fun _ h => by cases h) (by kernel_rfl) (fun _ h => by cases h) placeWalks_row_tie rfl ⟨rfl, rfl⟩ (by kernel_rfl) rfl
  (fun f fn hf hfn => by
   obtain rfl : f = 3 := Option.some.inj ((show Tryz.prog.funcNamed "kelpforest/kelpforestlaw2.PlaceWalks" = some 3 by kernel_rfl).symm.trans hf) |>.symm
   obtain rfl : fn = Tryz.f3 := (Option.some.inj (Tryz.func3.symm.trans hfn)).symm
   exact ⟨by kernel_rfl, fun j t ht => by
    rw [Tryz.params3] at ht
    have hm : t ∈ [24, 25, 25, 3] := by simpa using Array.mem_of_getElem? ht
    have hall : ([24, 25, 25, 3].all fun u => !Tryz.prog.wantsStandIn u) = true := by kernel_rfl
    exact (show Tryz.prog.wantsStandIn t = false by simpa using List.all_eq_true.1 hall t hm)⟩)
  (by kernel_rfl)
#print axioms placeWalks_card
end Go.Proofs.YtmckajgacfjnhaaGreatDoor
