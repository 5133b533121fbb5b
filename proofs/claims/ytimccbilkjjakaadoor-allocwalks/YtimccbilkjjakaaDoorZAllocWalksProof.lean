/- For any code of registers, any arguments, any answers and any ticks the law AllocWalks returns true and leaves its arguments alone: alloc.Check tells what the document's own check tells, and alloc.Walk of the code comes to what the document's own walk comes to. No condition beyond the card's own: the listed error variables, errors' own type variable and package alloc's table read as the program's text lays them. -/
import Derived.Test.YtimccbilkjjakaaDoorRows
import Derived.Test.YtimccbilkjjakaaDoorTie
import Derived.Test.YtimccbilkjjakaaDoorCards
import Derived.Test.YtimccbilkjjakaaDoorZAllocWalks
import Derived.Test.YtimccbilkjjakaaDoorZReadAll
import Derived.Test.YtimccbilkjjakaaDoorZLaidAll
import Derived.LaidSub
import Derived.ProofKit
import Derived.LaidMore
import Derived.OpenShut
import Derived.SevenTiedAt
import Derived.Stop.Joined
import Derived.Carry
namespace Go.Proofs.YtimccbilkjjakaaDoor.AllocWalks
open Go.ChangeShapes Go.WideShapes Go.ChangeAt Go.RowKit
theorem laidOut : laidOutB Tryd.prog = true := by kernel_rfl
theorem own : ownKnob Tryd.prog.godebug = none := by kernel_rfl
section
variable {H : Type} {enc : TypeId × Value → H} {w : World} {sp : Nat → Bool} {held : Bool}
theorem read_intsW {v : Value} {d : DataW H} {ps : List MemPlace} (h : DataW.Trod enc Tryd.prog w 0 sp held 25 v d ps) (hv : v.cells.toList = [v]) : ∃ l : List Int, XRow (fun b => b < w.heap.size) w v l.length (intsG l) ∧ l.length ≤ 9223372036854775807 ∧ ∀ x ∈ l, In64 x := by
 obtain ⟨fuel, hf⟩ := h
 rw [hv] at hf
 obtain ⟨ad, cap, l, h1, h2, h3, h4⟩ := read_intsL fuel _ _ hf
 injection h1 with h1
 subst h1
 exact ⟨l, h2, h3, h4⟩
end
theorem door_met (os : Os) (args : Array Value) : laidMetH Tryd.prog Rows.allocWalksRow.laid ((World.doorLaid Tryd.prog 400 os).forCall (fun _ _ => 0) ⟨#[], args, []⟩).memory :=
 laidMetH_of_parts3 (fuel := 8) (laidMet_of_run' 8 (by kernel_rfl) (by kernel_rfl)) (by kernel_rfl) (by kernel_rfl)
theorem errs_of {W : World} (h : laidMetH Tryd.prog Rows.allocWalksRow.laid W) : laidMetH Tryd.prog laidErrs W := by
 have h1 := h.filter (fun x => x.1 != "kelpforest/alloc.shapes")
 have e : Rows.allocWalksRow.laid.filter (fun x => x.1 != "kelpforest/alloc.shapes") = laidErrs := by kernel_rfl
 rwa [e] at h1
theorem tabA_of {W : World} (h : laidMetH Tryd.prog Rows.allocWalksRow.laid W) : laidMetH Tryd.prog [("kelpforest/alloc.shapes", Rows.laid_kelpforest_alloc_shapes)] W := by
 have h1 := h.filter (fun x => x.1 == "kelpforest/alloc.shapes")
 have e : Rows.allocWalksRow.laid.filter (fun x => x.1 == "kelpforest/alloc.shapes") = [("kelpforest/alloc.shapes", Rows.laid_kelpforest_alloc_shapes)] := by kernel_rfl
 rwa [e] at h1
set_option maxRecDepth 100000 in
theorem lifted (os : Os) (started : os.Started) (H : Type) (enc : TypeId × Value → H) :
  ReturnsInHanded {} Tryd.checked os 3 .any (fun w args => (Rows.allocWalksSpec.pre enc Tryd.prog Tryd.f3 [] false w args ∧ laidMetH Tryd.prog Rows.allocWalksRow.laid w) ∧ sizedMet enc Tryd.prog Tryd.f3 (OpenSpec.ofChange Rows.allocWalksSpec) false w args)
   (Rows.allocWalksSpec.post enc Tryd.prog Tryd.f3 false true false false) := by
 refine returnsInHanded_of_change_and (C := Tryd.checked) (X := fun w _ => laidMetH Tryd.prog Rows.allocWalksRow.laid w) (fun _ _ _ hh h => h.of_heap hh) own started (by kernel_rfl) Tryd.func3
  (ChangeSpec.witness_shaped (enc := enc) (C := Tryd.checked) (os := os) (X := fun w _ => laidMetH Tryd.prog Rows.allocWalksRow.laid w) false (World.doorLaid Tryd.prog 400 os) #[.agg #[.string ⟨#[]⟩, .int .i64 0, .int .i64 0, .slice none 0 0], .slice none 0 0, .slice none 0 0, .int .i64 0] 8 rfl (World.shaped_of_RefB (by kernel_rfl) (by kernel_rfl)) (by kernel_rfl) (by kernel_rfl) (by kernel_rfl) (door_met os _)) ?_
 intro W base args ds gs before hval0 hW _ _ hL _
 have hval : ∀ (j : Nat) t v, Tryd.f3.params[j]? = some t → args[j]? = some v → Value.okWide Tryd.prog W .any base t v := hval0
 have hW' := hW
 obtain ⟨p, q, hA0, hV, rfl, hfz, hnd⟩ := hW
 have hA : DataW.TrodAll enc Tryd.prog W 0 (fun _ => true) true Tryd.f3.params.toList args.toList ds p := hA0
 rw [Tryd.params3] at hA hval
 obtain ⟨v0, vs0, d0, ds0, p0, q0, hargs, rfl, rfl, h0, r0⟩ := trodAll_cons hA
 obtain ⟨v1, vs1, d1, ds1, p1, q1, rfl, rfl, rfl, h1, r1⟩ := trodAll_cons r0
 obtain ⟨v2, vs2, d2, ds2, p2, q2, rfl, rfl, rfl, h2, r2⟩ := trodAll_cons r1
 obtain ⟨v3, vs3, d3, ds3, p3, q3, rfl, rfl, rfl, h3, r3⟩ := trodAll_cons r2
 obtain ⟨rfl, rfl, rfl⟩ := trodAll_nil r3
 obtain rfl : args = #[v0, v1, v2, v3] := by cases args; simp_all
 obtain ⟨rfl, rfl⟩ := trodVars_none hV
 obtain ⟨cs, hcs, _⟩ := okWide_struct Tryd.underlying24 (hval 0 24 v0 rfl rfl)
 obtain ⟨a1, n1, c1, rfl⟩ := okWide_slice Tryd.underlying25 (hval 1 25 v1 rfl rfl)
 obtain ⟨a2, n2, c2, rfl⟩ := okWide_slice Tryd.underlying25 (hval 2 25 v2 rfl rfl)
 obtain ⟨i3, rfl, rfl, rfl, w3⟩ := open_int Tryd.underlying3 (hval 3 3 v3 rfl rfl) h3
 obtain ⟨nm, P, V, ba, bc, L, hv, hnm, hl, hO, hX⟩ := read_codeL hcs h0
 obtain ⟨k1, hK1, hk1, hk164⟩ := read_intsW h1 rfl
 obtain ⟨k2, hK2, hk2, hk264⟩ := read_intsW h2 rfl
 obtain ⟨s, hS⟩ := sents_of_laid (W := W) (errs_of hL)
 have hT := ash_of_laid (tabA_of hL)
 clear hA0 hval0
 simp only [List.append_nil] at hW'
 have hlt : ∀ x ∈ p0, x.block < W.heap.size := fun x hx => by simpa using hW'.lt x (by simp [hx])
 have hlt1 : ∀ x ∈ p1, x.block < W.heap.size := fun x hx => by simpa using hW'.lt x (by simp [hx])
 have hlt2 : ∀ x ∈ p2, x.block < W.heap.size := fun x hx => by simpa using hW'.lt x (by simp [hx])
 have e1 : Rows.allocWalksSpec.fn H ([d0, d1, d2, .lit (.int .i64 i3)] ++ []) = { results := [.lit (.bool true)], args := [d0, d1, d2, .lit (.int .i64 i3)] } := rfl
 subst hv
 refine (allocWalks_any hS hT nm hnm P V ba bc L hl (fun n hn => (hO n hn).1) (fun n hn => (hO n hn).2) hX k1 _ _ hK1 hk1 hk164 k2 hK2 hk2 hk264 i3).mono fun e W' ⟨he, hg⟩ => ?_
 subst he
 refine ⟨_, rfl, _, _, _, [], p0 ++ (p1 ++ p2), [], hW', ?_, ?_, ?_, hg.frame _, fun h => by cases h⟩
 ·rw [e1]; exact trodAll_cons_mk (shut_bool Tryd.underlying4 true) trodAll_mk0
 ·rw [e1]
  have := trodAll_cons_mk (Below.trod laidOut (by kernel_rfl) (of_decide_eq_true (by kernel_rfl)) h0 hg hlt) (trodAll_cons_mk (Below.trod laidOut (by kernel_rfl) (of_decide_eq_true (by kernel_rfl)) h1 hg hlt1) (trodAll_cons_mk (Below.trod laidOut (by kernel_rfl) (of_decide_eq_true (by kernel_rfl)) h2 hg hlt2) (trodAll_cons_mk (shut_int Tryd.underlying3 w3) trodAll_mk0)))
  simp only [List.append_nil] at this
  exact this
 ·rw [e1]; rfl
theorem row_holds : Rows.AllocWalksSaid :=
 OpenClaim.holds_of_wide 3 Tryd.f3 rfl rfl rfl rfl rfl rfl rfl ⟨rfl, rfl, rfl, rfl, rfl⟩ rfl rfl rfl rfl rfl (by kernel_rfl) Tryd.func3 (by kernel_rfl)
  (of_decide_eq_true (by kernel_rfl)) (by unfold Func.isWrapper; first | (rw [if_pos (by decide +kernel)]; kernel_rfl) | (rw [if_neg (by decide +kernel)]; exact ⟨rfl, rfl⟩))
  (fun os started H enc _ => lifted os started H enc)
end AllocWalks
open Go
theorem allocWalks_card : Rows.AllocWalksCardSaid :=
 Claim7.holds_tied_plain_at .later [] [.handle, .sentinel, .sentinel, .sentinel, .sentinel, .sentinel, .sentinel, .sentinel, .sentinel, .sentinel, .sentinel, .data] true (true, "55ff195aee7751920efff9bc0d959c6dc1f651e15239d5ac66ca6c9a4562616c") true
  AllocWalks.row_holds (fun _ h => by cases h) (by kernel_rfl) (fun _ h => by cases h) allocWalks_row_tie rfl ⟨rfl, rfl⟩ (by kernel_rfl) rfl
  (fun f fn hf hfn => by
   obtain rfl : f = 3 := Option.some.inj ((show Tryd.prog.funcNamed "kelpforest/kelpforestlaw3.AllocWalks" = some 3 by kernel_rfl).symm.trans hf) |>.symm
   obtain rfl : fn = Tryd.f3 := (Option.some.inj (Tryd.func3.symm.trans hfn)).symm
   exact ⟨by kernel_rfl, fun j t ht => by
    rw [Tryd.params3] at ht
    have hm : t ∈ [24, 25, 25, 3] := by simpa using Array.mem_of_getElem? ht
    have hall : ([24, 25, 25, 3].all fun u => !Tryd.prog.wantsStandIn u) = true := by kernel_rfl
    exact (show Tryd.prog.wantsStandIn t = false by simpa using List.all_eq_true.1 hall t hm)⟩)
  (by kernel_rfl)
#print axioms allocWalks_card
end Go.Proofs.YtimccbilkjjakaaDoor
