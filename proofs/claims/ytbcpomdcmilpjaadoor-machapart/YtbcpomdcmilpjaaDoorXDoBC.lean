/- Our own: texts joined: MaDoB, MaDoC. -/
import Derived.Test.YtbcpomdcmilpjaaDoorXTickM
namespace Go.Proofs.YtbcpomdcmilpjaaDoor
open Go.RowKit
section
variable {w : World} {B mb fb sb wb wo : Nat} {fv wv ov : Value} {I : Im} {g : Gm} {most d t : Nat} {f : Fm} {i : Ci}
set_option maxRecDepth 100000 in
set_option maxHeartbeats 4000000 in
theorem do_move (h : MM w B mb fv wv ov I [] g most d t) (hf : FM w B mb fb sb f) (hof : ov.ownBlock ≠ some fb) (hos : ov.ownBlock ≠ some sb) (hw : WordAt w wb wo i) (hi : OkI i) (hk : i.op = mMove) (fs : List Fm) :
  Calls Tryd.prog 51 #[.pointer (some ⟨fb, 0, none⟩), .pointer (some ⟨wb, wo, none⟩)] w (DoTo w B mb fb sb fv wv ov I most d t f fs (doM I most g f fs i)) := by
 obtain ⟨op, D, a, b, imm⟩ := i
 have hk : op = _ := hk
 subst hk
 obtain ⟨D, rfl⟩ : ∃ n : Nat, D = (n : Int) := ⟨D.toNat, by have := hi.d; simp only at this; omega⟩
 have hD : D < 8 := by have := hi.d; simp only at this; omega
 have hD' : (D : Int) < 8 := by omega
 obtain ⟨a, rfl⟩ : ∃ n : Nat, a = (n : Int) := ⟨a.toNat, by have := hi.a; simp only at this; omega⟩
 have ha : a < 8 := by have := hi.a; simp only at this; omega
 have ha' : (a : Int) < 8 := by omega
 have q0 : w.cell? ⟨wb, wo, none⟩ = some (.string ⟨([109, 111, 118, 101] : List UInt8).toArray⟩) := hw.op
 have q1 : w.cell? ⟨wb, wo + 1, none⟩ = some (.int .i64 (D : Int)) := hw.d
 have q2 : w.cell? ⟨wb, wo + 2, none⟩ = some (.int .i64 (a : Int)) := hw.a
 have ra := hf.reg ha
 have rd := hf.reg hD
 have fr := free_of_blk hf.blk (1 + D)
 have hS := hidX (show doM I most g f fs ⟨mMove, (D : Int), (a : Int), b, imm⟩ = .run g (f.put D (f.regs.getD a 0)) fs from rfl)
 have HM := hidX h
 have HF := hidX hf
 have HO := hidX hof
 have HOS := hidX hos
 generalize f.regs.getD a 0 = va at ra hS
 generalize f.regs.getD D 0 = vd at rd
 clear h hf hof hos hw hi
 go_enter Tryd.func51, Tryd.ntmps51
 go_wp2_with fail
 go_region
 go_wp2
 go_ret
 exact (do_put HM.out HF.out HO.out (by (repeat (first | exact Below.refl _ _ | assumption | refine Below.drew ?_ | refine bT ?_ _ | refine bS ?_ _ | refine bA ?_ _))) hD va fs hS.out).drew
theorem do_next (h : MM w B mb fv wv ov I [] g most d t) (hf : FM w B mb fb sb f) (hof : ov.ownBlock ≠ some fb) {X : World} (hX : Below w.heap.size w X) {k : Nat} (hk : k < 4) (v : Int) (fs : List Fm) {S : Sm} (hS : S = .run g { f with next := f.next.set k v } fs) :
  DoTo w B mb fb sb fv wv ov I most d t f fs S (.returned (.bool true)) (X.setCell ⟨fb, 13 + k, none⟩ (.int .i64 v)) := by
 have hfl := hf.flt
 have hml := h.mlt
 refine ⟨fr_set hX fb _ _ (Or.inr (Or.inl rfl)), 0, ov, g, RowB.refl _ _, Or.inl ⟨{ f with next := f.next.set k v }, ⟨rfl, rfl⟩, hS, rfl, ?_, (hf.below hX).told hk v⟩⟩
 have hoth : ∀ b, b ≠ fb → (X.setCell ⟨fb, 13 + k, none⟩ (.int .i64 v)).heap[b]? = X.heap[b]? := fun b hb => Below.heap_setCell _ _ _ _ (show b ≠ fb from hb)
 have hp := hf.hp
 exact (h.below hX).stay ⟨rfl, rfl, rfl, by simp [World.setCell], fun b hb => hoth b (by omega)⟩ (hoth mb hf.nm.symm) (fun b e => hoth b (fun e' => hof (e' ▸ e)))
set_option maxRecDepth 100000 in
set_option maxHeartbeats 4000000 in
theorem do_arg (h : MM w B mb fv wv ov I [] g most d t) (hf : FM w B mb fb sb f) (hof : ov.ownBlock ≠ some fb) (hos : ov.ownBlock ≠ some sb) (hw : WordAt w wb wo i) (hi : OkI i) (hk : i.op = mArg) (hm : 0 ≤ i.imm ∧ i.imm < 4) (fs : List Fm) :
  Calls Tryd.prog 51 #[.pointer (some ⟨fb, 0, none⟩), .pointer (some ⟨wb, wo, none⟩)] w (DoTo w B mb fb sb fv wv ov I most d t f fs (doM I most g f fs i)) := by
 obtain ⟨op, D, a, b, imm⟩ := i
 have hk : op = _ := hk
 subst hk
 obtain ⟨a, rfl⟩ : ∃ n : Nat, a = (n : Int) := ⟨a.toNat, by have := hi.a; simp only at this; omega⟩
 have ha : a < 8 := by have := hi.a; simp only at this; omega
 have ha' : (a : Int) < 8 := by omega
 have q0 : w.cell? ⟨wb, wo, none⟩ = some (.string ⟨([97, 114, 103] : List UInt8).toArray⟩) := hw.op
 have q2 : w.cell? ⟨wb, wo + 2, none⟩ = some (.int .i64 (a : Int)) := hw.a
 obtain ⟨m, rfl⟩ : ∃ n : Nat, imm = (n : Int) := ⟨imm.toNat, by have := hm.1; simp only at this; omega⟩
 have hm4 : m < 4 := by have := hm.2; simp only at this; omega
 have hm4' : (m : Int) < 4 := by omega
 have q4 : w.cell? ⟨wb, wo + 4, none⟩ = some (.int .i64 (m : Int)) := hw.imm
 have ra := hf.reg ha
 have fr := free_of_blk hf.blk (13 + m)
 have rm : w.cell? ⟨fb, 13 + m, none⟩ = some (.int .i64 (f.next.getD m 0)) := by rw [cell_of_blk hf.blk, List.getElem?_toArray, fmL_next hf.rl hf.al hf.nl hm4]
 have hS := hidX (show doM I most g f fs ⟨mArg, D, (a : Int), b, (m : Int)⟩ = .run g { f with next := f.next.set m (f.regs.getD a 0) } fs from rfl)
 have HM := hidX h
 have HF := hidX hf
 have HO := hidX hof
 have HOS := hidX hos
 generalize f.regs.getD a 0 = va at ra hS
 generalize f.next.getD m 0 = vm at rm
 clear h hf hof hos hw hi hm
 go_enter Tryd.func51, Tryd.ntmps51
 go_wp2_with fail
 go_region
 go_wp2
 go_ret
 exact (do_next HM.out HF.out HO.out (by (repeat (first | exact Below.refl _ _ | assumption | refine Below.drew ?_ | refine bT ?_ _ | refine bS ?_ _ | refine bA ?_ _))) hm4 va fs hS.out).drew
theorem high_is (vd imm : Int) : bits .or .i64 (wrap64 (vd * 4294967296)) (imm % 4294967296) = highV vd imm := by
 have h1 : (BitVec.ofInt 64 (wrap64 (vd * 4294967296))).toNat = 2 ^ 32 * (vd % 4294967296).toNat := by
  rw [BitVec.toNat_ofInt]; unfold wrap64; omega
 have h2 : (BitVec.ofInt 64 (imm % 4294967296)).toNat = (imm % 4294967296).toNat := by
  rw [BitVec.toNat_ofInt]; omega
 show IntKind.i64.wrap ((BitVec.ofInt 64 (wrap64 (vd * 4294967296)) ||| BitVec.ofInt 64 (imm % 4294967296)).toNat : Int) = _
 rw [BitVec.toNat_or, h1, h2, ← Nat.two_pow_add_eq_or_of_lt (by omega), IntKind.wrap_i64]
 unfold highV wrap64
 omega
set_option maxRecDepth 100000 in
set_option maxHeartbeats 4000000 in
theorem do_high (h : MM w B mb fv wv ov I [] g most d t) (hf : FM w B mb fb sb f) (hof : ov.ownBlock ≠ some fb) (hos : ov.ownBlock ≠ some sb) (hw : WordAt w wb wo i) (hi : OkI i) (hk : i.op = mHigh) (fs : List Fm) :
  Calls Tryd.prog 51 #[.pointer (some ⟨fb, 0, none⟩), .pointer (some ⟨wb, wo, none⟩)] w (DoTo w B mb fb sb fv wv ov I most d t f fs (doM I most g f fs i)) := by
 obtain ⟨op, D, a, b, imm⟩ := i
 have hk : op = _ := hk
 subst hk
 obtain ⟨D, rfl⟩ : ∃ n : Nat, D = (n : Int) := ⟨D.toNat, by have := hi.d; simp only at this; omega⟩
 have hD : D < 8 := by have := hi.d; simp only at this; omega
 have hD' : (D : Int) < 8 := by omega
 have q0 : w.cell? ⟨wb, wo, none⟩ = some (.string ⟨([104, 105, 103, 104] : List UInt8).toArray⟩) := hw.op
 have q1 : w.cell? ⟨wb, wo + 1, none⟩ = some (.int .i64 (D : Int)) := hw.d
 have q4 : w.cell? ⟨wb, wo + 4, none⟩ = some (.int .i64 imm) := hw.imm
 have rd := hf.reg hD
 have fr := free_of_blk hf.blk (1 + D)
 have hS := hidX (show doM I most g f fs ⟨mHigh, (D : Int), a, b, imm⟩ = .run g (f.put D (highV (f.regs.getD D 0) imm)) fs from rfl)
 have HM := hidX h
 have HF := hidX hf
 have HO := hidX hof
 have HOS := hidX hos
 generalize f.regs.getD D 0 = vd at rd hS
 clear h hf hof hos hw hi
 go_enter Tryd.func51, Tryd.ntmps51
 go_wp2_with fail
 go_region
 go_wp2
 go_ret
 refine DoTo.drew ?_
 rw [high_is]
 exact (do_put HM.out HF.out HO.out (by (repeat (first | exact Below.refl _ _ | assumption | refine Below.drew ?_ | refine bT ?_ _ | refine bS ?_ _ | refine bA ?_ _))) hD (highV vd imm) fs hS.out)
end
end Go.Proofs.YtbcpomdcmilpjaaDoor
namespace Go.Proofs.YtbcpomdcmilpjaaDoor
open Go.RowKit
section
variable {w : World} {B mb fb sb wb wo : Nat} {fv wv ov : Value} {I : Im} {g : Gm} {most d t : Nat} {f : Fm} {i : Ci}
theorem mprint_e {X : World} {v : Int} {e : Ending} (h : MPrint w B mb fv wv ov I g most d t v e X) : e = .returned (.bool (!decide (1000 ≤ g.out.length))) ∧ Hid (Fr (Sx mb ov.ownBlock) w X) ∧ Hid (if 1000 ≤ g.out.length then MM X B mb fv wv ov I hLoud g most d t else ∃ ov', MM X B mb fv wv ov' I [] ⟨g.out ++ [v], g.ticks⟩ most d t ∧ RowB w ov.ownBlock ov'.ownBlock) := by
 obtain ⟨h1, h2⟩ := h
 by_cases hc : 1000 ≤ g.out.length
 ·rw [if_pos hc] at h2
  exact ⟨by rw [h2.1]; simp [hc], h1, by unfold Hid; rw [if_pos hc]; exact h2.2⟩
 ·rw [if_neg hc] at h2
  exact ⟨by rw [h2.1]; simp [hc], h1, by unfold Hid; rw [if_neg hc]; exact h2.2⟩
theorem do_mach {X : World} {ov' : Value} {g' : Gm} (hf : FM w B mb fb sb f) (hof : ov.ownBlock ≠ some fb) (hos : ov.ownBlock ≠ some sb) (hX : Fr (Sx mb ov.ownBlock) w X) (hM : MM X B mb fv wv ov' I [] g' most d t) (hr : RowB w ov.ownBlock ov'.ownBlock) (fs : List Fm) {S : Sm} (hS : S = .run g' f fs) :
  DoTo w B mb fb sb fv wv ov I most d t f fs S (.returned (.bool true)) X :=
 ⟨hX.mono (fun _ => Sx.toSw), 0, ov', g', hr, Or.inl ⟨f, ⟨rfl, rfl⟩, hS, rfl, hM, hf.keep (hX.block _ hf.flt (by rintro (e | e); exact hf.nm e; exact hof e)) (hX.block _ hf.slt (by rintro (e | e); exact hf.ns e; exact hos e))⟩⟩
theorem do_halt {X : World} {ov' : Value} {g' : Gm} {how : List UInt8} (hX : Fr (Sx mb ov.ownBlock) w X) (hM : MM X B mb fv wv ov' I how g' most d t) (hr : RowB w ov.ownBlock ov'.ownBlock) (fs : List Fm) {S : Sm} (hS : S = .halt how 0 g') :
  DoTo w B mb fb sb fv wv ov I most d t f fs S (.returned (.bool false)) X :=
 ⟨hX.mono (fun _ => Sx.toSw), 0, ov', g', hr, Or.inr ⟨how, rfl, hM, Or.inl ⟨0, hS⟩⟩⟩
set_option maxRecDepth 100000 in
set_option maxHeartbeats 4000000 in
theorem do_tick (h : MM w B mb fv wv ov I [] g most d t) (hf : FM w B mb fb sb f) (hof : ov.ownBlock ≠ some fb) (hos : ov.ownBlock ≠ some sb) (hw : WordAt w wb wo i) (hi : OkI i) (hk : i.op = mTick) (fs : List Fm) :
  Calls Tryd.prog 51 #[.pointer (some ⟨fb, 0, none⟩), .pointer (some ⟨wb, wo, none⟩)] w (DoTo w B mb fb sb fv wv ov I most d t f fs (doM I most g f fs i)) := by
 obtain ⟨op, D, a, b, imm⟩ := i
 have hk : op = _ := hk
 subst hk
 have q0 : w.cell? ⟨wb, wo, none⟩ = some (.string ⟨([116, 105, 99, 107] : List UInt8).toArray⟩) := hw.op
 have p0 := hf.ptr
 have hS := hidX (show doM I most g f fs ⟨mTick, D, a, b, imm⟩ = if most ≤ g.ticks then .halt hTired 0 g else .run ⟨g.out, g.ticks + 1⟩ f fs from rfl)
 have HM := hidX h
 have HF := hidX hf
 have HO := hidX hof
 have HOS := hidX hos
 clear h hf hof hos hw hi
 go_enter Tryd.func51, Tryd.ntmps51
 go_wp2_with fail
 refine (mtick_any HM.out).mono ?_
 rintro e X ⟨hX, h1⟩
 have HX := hidX hX
 clear hX
 by_cases ht : most ≤ g.ticks
 ·rw [if_pos ht] at h1
  obtain ⟨he, hm1⟩ := h1
  subst he
  have HM1 := hidX hm1
  have HE := hidX (hS.out.trans (if_pos ht))
  clear hm1 ht hS
  go_wp2
  go_ret
  exact do_halt HX.out HM1.out (RowB.refl _ _) fs HE.out
 ·rw [if_neg ht] at h1
  obtain ⟨he, hm1⟩ := h1
  subst he
  have HM1 := hidX hm1
  have HE := hidX (hS.out.trans (if_neg ht))
  clear hm1 ht hS
  go_wp2
  go_ret
  exact do_mach HF.out HO.out HOS.out HX.out HM1.out (RowB.refl _ _) fs HE.out
set_option maxRecDepth 100000 in
set_option maxHeartbeats 4000000 in
theorem do_print (h : MM w B mb fv wv ov I [] g most d t) (hf : FM w B mb fb sb f) (hof : ov.ownBlock ≠ some fb) (hos : ov.ownBlock ≠ some sb) (hw : WordAt w wb wo i) (hi : OkI i) (hk : i.op = mPrint) (fs : List Fm) :
  Calls Tryd.prog 51 #[.pointer (some ⟨fb, 0, none⟩), .pointer (some ⟨wb, wo, none⟩)] w (DoTo w B mb fb sb fv wv ov I most d t f fs (doM I most g f fs i)) := by
 obtain ⟨op, D, a, b, imm⟩ := i
 have hk : op = _ := hk
 subst hk
 obtain ⟨a, rfl⟩ : ∃ n : Nat, a = (n : Int) := ⟨a.toNat, by have := hi.a; simp only at this; omega⟩
 have ha : a < 8 := by have := hi.a; simp only at this; omega
 have ha' : (a : Int) < 8 := by omega
 have q0 : w.cell? ⟨wb, wo, none⟩ = some (.string ⟨([112, 114, 105, 110, 116] : List UInt8).toArray⟩) := hw.op
 have q2 : w.cell? ⟨wb, wo + 2, none⟩ = some (.int .i64 (a : Int)) := hw.a
 have ra := hf.reg ha
 have p0 := hf.ptr
 have hS := hidX (show doM I most g f fs ⟨mPrint, D, (a : Int), b, imm⟩ = if 1000 ≤ g.out.length then .halt hLoud 0 g else .run ⟨g.out ++ [f.regs.getD a 0], g.ticks⟩ f fs from rfl)
 have HM := hidX h
 have HF := hidX hf
 have HO := hidX hof
 have HOS := hidX hos
 generalize f.regs.getD a 0 = va at ra hS
 clear h hf hof hos hw hi
 go_enter Tryd.func51, Tryd.ntmps51
 go_wp2_with fail
 go_region_with (refine (mprint_any (HM.out.below (by (repeat (first | exact Below.refl _ _ | assumption | refine Below.drew ?_ | refine bT ?_ _ | refine bS ?_ _ | refine bA ?_ _)))) va).mono ?_; rintro e X hX; obtain ⟨he, hX1, hX2⟩ := mprint_e hX; subst he; clear hX)
 all_goals (
  go_wp2
  go_ret
  by_cases hc : 1000 ≤ g.out.length
  ·have h2 := hX2.out
   rw [if_pos hc] at h2
   have he : (!decide (1000 ≤ g.out.length)) = false := by simp [hc]
   have H := do_halt (fb := fb) (sb := sb) (f := f) ((Fr.of (S := Sx mb ov.ownBlock) (show Below w.heap.size w w.drew by (repeat (first | exact Below.refl _ _ | assumption | refine Below.drew ?_ | refine bT ?_ _ | refine bS ?_ _ | refine bA ?_ _)))).trans hX1.out (fun _ _ h => h)) h2 (RowB.refl _ _) fs (hS.out.trans (if_pos hc))
   rw [← he] at H
   exact H
  ·have h2 := hX2.out
   rw [if_neg hc] at h2
   obtain ⟨ov', m1, m2⟩ := h2
   have he : (!decide (1000 ≤ g.out.length)) = true := by simp [hc]
   have H := do_mach HF.out HO.out HOS.out ((Fr.of (S := Sx mb ov.ownBlock) (show Below w.heap.size w w.drew by (repeat (first | exact Below.refl _ _ | assumption | refine Below.drew ?_ | refine bT ?_ _ | refine bS ?_ _ | refine bA ?_ _)))).trans hX1.out (fun _ _ h => h)) m1 (m2.mono (by simp)) fs (hS.out.trans (if_neg hc))
   rw [← he] at H
   exact H)
end
end Go.Proofs.YtbcpomdcmilpjaaDoor
