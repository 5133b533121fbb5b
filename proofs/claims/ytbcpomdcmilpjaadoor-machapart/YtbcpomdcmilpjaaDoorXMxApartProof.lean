/- For any image, name, arguments and number of ticks the law MachApart returns true and leaves its arguments alone: a function and a word behind all others make no difference. No condition beyond the card's own: the listed variables (seven errors, package code's table of ops) read as the program's text lays them. -/
import Derived.Test.YtbcpomdcmilpjaaDoorRows
import Derived.Test.YtbcpomdcmilpjaaDoorTie
import Derived.Test.YtbcpomdcmilpjaaDoorCards
import Derived.Test.YtbcpomdcmilpjaaDoorXRunsA
import Derived.Test.YtbcpomdcmilpjaaDoorXReadX
import Derived.Test.YtbcpomdcmilpjaaDoorXLaidX
import Derived.ProofKit
import Derived.LaidMore
import Derived.OpenShut
import Derived.SevenTiedAt
import Derived.Stop.Joined
import Derived.Carry
namespace Go.Proofs.YtbcpomdcmilpjaaDoor.MachApart
open Go.ChangeShapes Go.WideShapes Go.ChangeAt Go.RowKit
open Go.ChangeMaps (open_string shut_string)
theorem laidOut : laidOutB Tryd.prog = true := by kernel_rfl
theorem own : ownKnob Tryd.prog.godebug = none := by kernel_rfl
theorem door_met (os : Os) (args : Array Value) : laidMetH Tryd.prog Rows.machApartRow.laid ((World.doorLaid Tryd.prog 400 os).forCall (fun _ _ => 0) ⟨#[], args, []⟩).memory :=
 laidMetH_of_parts3 (fuel := 8) (laidMet_of_run' 8 (by kernel_rfl) (by kernel_rfl)) (by kernel_rfl) (by kernel_rfl)
theorem errs_of {W : World} (h : laidMetH Tryd.prog Rows.machApartRow.laid W) : laidMetH Tryd.prog maErrs W := by
 have h1 := h.filter (fun x => x.1 != "kelpforest/code.ops")
 have e : Rows.machApartRow.laid.filter (fun x => x.1 != "kelpforest/code.ops") = maErrs := by kernel_rfl
 rwa [e] at h1
theorem tab_of {W : World} (h : laidMetH Tryd.prog Rows.machApartRow.laid W) : laidMetH Tryd.prog [("kelpforest/code.ops", Rows.laid_kelpforest_code_ops)] W := by
 have h1 := h.filter (fun x => x.1 == "kelpforest/code.ops")
 have e : Rows.machApartRow.laid.filter (fun x => x.1 == "kelpforest/code.ops") = [("kelpforest/code.ops", Rows.laid_kelpforest_code_ops)] := by kernel_rfl
 rwa [e] at h1
set_option maxRecDepth 100000 in
theorem lifted (os : Os) (started : os.Started) (H : Type) (enc : TypeId × Value → H) :
  ReturnsInHanded {} Tryd.checked os 5 .any (fun w args => (Rows.machApartSpec.pre enc Tryd.prog Tryd.f5 [] false w args ∧ laidMetH Tryd.prog Rows.machApartRow.laid w) ∧ sizedMet enc Tryd.prog Tryd.f5 (OpenSpec.ofChange Rows.machApartSpec) false w args)
   (Rows.machApartSpec.post enc Tryd.prog Tryd.f5 false true false false) := by
 refine returnsInHanded_of_change_and (C := Tryd.checked) (X := fun w _ => laidMetH Tryd.prog Rows.machApartRow.laid w) (fun _ _ _ hh h => h.of_heap hh) own started (by kernel_rfl) Tryd.func5
  (ChangeSpec.witness_shaped (enc := enc) (C := Tryd.checked) (os := os) (X := fun w _ => laidMetH Tryd.prog Rows.machApartRow.laid w) false (World.doorLaid Tryd.prog 400 os) #[.agg #[.slice none 0 0, .slice none 0 0], .string ⟨#[]⟩, .slice none 0 0, .int .i64 0] 8 rfl (World.shaped_of_RefB (by kernel_rfl) (by kernel_rfl)) (by kernel_rfl) (by kernel_rfl) (by kernel_rfl) (door_met os _)) ?_
 intro W base args ds gs before hval0 hW _ _ hL _
 have hval : ∀ (j : Nat) t v, Tryd.f5.params[j]? = some t → args[j]? = some v → Value.okWide Tryd.prog W .any base t v := hval0
 have hW' := hW
 obtain ⟨p, q, hA0, hV, rfl, hfz, hnd⟩ := hW
 have hA : DataW.TrodAll enc Tryd.prog W 0 (fun _ => true) true Tryd.f5.params.toList args.toList ds p := hA0
 rw [Tryd.params5] at hA hval
 obtain ⟨v0, vs0, d0, ds0, p0, q0, hargs, rfl, rfl, h0, r0⟩ := trodAll_cons hA
 obtain ⟨v1, vs1, d1, ds1, p1, q1, rfl, rfl, rfl, h1, r1⟩ := trodAll_cons r0
 obtain ⟨v2, vs2, d2, ds2, p2, q2, rfl, rfl, rfl, h2, r2⟩ := trodAll_cons r1
 obtain ⟨v3, vs3, d3, ds3, p3, q3, rfl, rfl, rfl, h3, r3⟩ := trodAll_cons r2
 obtain ⟨rfl, rfl, rfl⟩ := trodAll_nil r3
 obtain rfl : args = #[v0, v1, v2, v3] := by cases args; simp_all
 obtain ⟨rfl, rfl⟩ := trodVars_none hV
 obtain ⟨cs, hcs, _⟩ := okWide_struct Tryd.underlying25 (hval 0 25 v0 rfl rfl)
 obtain ⟨t1, rfl, rfl, rfl, w1⟩ := open_string Tryd.underlying9 (hval 1 9 v1 rfl rfl) h1
 obtain ⟨a2, n2, c2, rfl⟩ := okWide_slice Tryd.underlying26 (hval 2 26 v2 rfl rfl)
 obtain ⟨i3, rfl, rfl, rfl, w3⟩ := open_int Tryd.underlying3 (hval 3 3 v3 rfl rfl) h3
 obtain ⟨I, adf, adw, cf, cw, hv, hfl, hwl, hnl, hwv, hF, hWd⟩ := read_imgM hcs h0
 obtain ⟨k2, hK2, hk2, hk264⟩ := read_intsM h2 rfl
 obtain ⟨s, hS⟩ := senM_of_laid (W := W) (errs_of hL)
 have hT := co_of_laid (tab_of hL)
 clear hA0 hval0
 simp only [List.append_nil] at hW'
 have hlt : ∀ x ∈ p0, x.block < W.heap.size := fun x hx => by simpa using hW'.lt x (by simp [hx])
 have hlt2 : ∀ x ∈ p2, x.block < W.heap.size := fun x hx => by simpa using hW'.lt x (by simp [hx])
 have e1 : Rows.machApartSpec.fn H ([d0, .lit (.string t1.data.toList), d2, .lit (.int .i64 i3)] ++ []) = { results := [.lit (.bool true)], args := [d0, .lit (.string t1.data.toList), d2, .lit (.int .i64 i3)] } := rfl
 subst hv
 obtain ⟨_, _, ek⟩ := hK2.is
 injection ek with e2 e3 e4
 subst e3
 refine (machApart_any hS hT I hfl hwl hnl hwv adf adw cf cw hF hWd t1.data.toList (str_len w1) k2 hk2 hk264 _ _ hK2 i3).mono fun e W' ⟨he, hg⟩ => ?_
 subst he
 refine ⟨_, rfl, _, _, _, [], p0 ++ p2, [], hW', ?_, ?_, ?_, hg.frame _, fun h => by cases h⟩
 ·rw [e1]; exact trodAll_cons_mk (shut_bool Tryd.underlying4 true) trodAll_mk0
 ·rw [e1]
  have := trodAll_cons_mk (Below.trod laidOut (by kernel_rfl) (of_decide_eq_true (by kernel_rfl)) h0 hg hlt) (trodAll_cons_mk (shut_string Tryd.underlying9 w1) (trodAll_cons_mk (Below.trod laidOut (by kernel_rfl) (of_decide_eq_true (by kernel_rfl)) h2 hg hlt2) (trodAll_cons_mk (shut_int Tryd.underlying3 w3) trodAll_mk0)))
  simp only [List.nil_append, List.append_nil] at this
  exact this
 ·rw [e1]; rfl
theorem row_holds : Rows.MachApartSaid :=
 OpenClaim.holds_of_wide 5 Tryd.f5 rfl rfl rfl rfl rfl rfl rfl ⟨rfl, rfl, rfl, rfl, rfl⟩ rfl rfl rfl rfl rfl (by kernel_rfl) Tryd.func5 (by kernel_rfl)
  (of_decide_eq_true (by kernel_rfl)) (by unfold Func.isWrapper; first | (rw [if_pos (by decide +kernel)]; kernel_rfl) | (rw [if_neg (by decide +kernel)]; exact ⟨rfl, rfl⟩))
  (fun os started H enc _ => lifted os started H enc)
end MachApart
open Go
theorem machApart_card : Rows.MachApartCardSaid :=
 Claim7.holds_tied_plain_at .later [] [.sentinel, .sentinel, .sentinel, .sentinel, .sentinel, .sentinel, .sentinel, .data] true (true, "f9fa6cd99db09df6765e77767c08ef29680c267810fc7a97c96396f9a58bb6f2") true
  MachApart.row_holds (fun _ h => by cases h) (by kernel_rfl) (fun _ h => by cases h) machApart_row_tie rfl ⟨rfl, rfl⟩ (by kernel_rfl) rfl
  (fun f fn hf hfn => by
   obtain rfl : f = 5 := Option.some.inj ((show Tryd.prog.funcNamed "kelpforest/kelpforestlaw3.MachApart" = some 5 by kernel_rfl).symm.trans hf) |>.symm
   obtain rfl : fn = Tryd.f5 := (Option.some.inj (Tryd.func5.symm.trans hfn)).symm
   exact ⟨by kernel_rfl, fun j t ht => by
    rw [Tryd.params5] at ht
    have hm : t ∈ [25, 9, 26, 3] := by simpa using Array.mem_of_getElem? ht
    have hall : ([25, 9, 26, 3].all fun u => !Tryd.prog.wantsStandIn u) = true := by kernel_rfl
    exact (show Tryd.prog.wantsStandIn t = false by simpa using List.all_eq_true.1 hall t hm)⟩)
  (by kernel_rfl)
#print axioms machApart_card
end Go.Proofs.YtbcpomdcmilpjaaDoor
