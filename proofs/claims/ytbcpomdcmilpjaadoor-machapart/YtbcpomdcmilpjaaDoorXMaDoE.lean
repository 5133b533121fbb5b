/- Our own: texts joined: MaDoE. -/
import Derived.Test.YtbcpomdcmilpjaaDoorXTickM
import Derived.Test.YtbcpomdcmilpjaaDoorXDoBC
namespace Go.Proofs.YtbcpomdcmilpjaaDoor
open Go.RowKit
section
variable {w : World} {B mb fb sb wb wo : Nat} {fv wv ov : Value} {I : Im} {g : Gm} {most d t : Nat} {f : Fm} {i : Ci}
set_option maxRecDepth 100000 in
set_option maxHeartbeats 4000000 in
theorem slot_load (h : MM w B mb fv wv ov I [] g most d t) (hf : FM w B mb fb sb f) (hof : ov.ownBlock ≠ some fb) (hos : ov.ownBlock ≠ some sb) (hw : WordAt w wb wo i) (hi : OkI i) (hk : i.op = mLoad) (hm : 0 ≤ i.imm) (fs : List Fm) :
  Calls Tryd.prog 60 #[.pointer (some ⟨fb, 0, none⟩), .pointer (some ⟨wb, wo, none⟩)] w (DoTo w B mb fb sb fv wv ov I most d t f fs (doM I most g f fs i)) := by
 obtain ⟨op, D, a, b, imm⟩ := i
 have hk : op = _ := hk
 subst hk
 obtain ⟨D, rfl⟩ : ∃ n : Nat, D = (n : Int) := ⟨D.toNat, by have := hi.d; simp only at this; omega⟩
 have hD : D < 8 := by have := hi.d; simp only at this; omega
 have hD' : (D : Int) < 8 := by omega
 have q0 : w.cell? ⟨wb, wo, none⟩ = some (.string ⟨([108, 111, 97, 100] : List UInt8).toArray⟩) := hw.op
 have q1 : w.cell? ⟨wb, wo + 1, none⟩ = some (.int .i64 (D : Int)) := hw.d
 obtain ⟨m, rfl⟩ : ∃ n : Nat, imm = (n : Int) := ⟨imm.toNat, by have := hm; simp only at this; omega⟩
 have q4 : w.cell? ⟨wb, wo + 4, none⟩ = some (.int .i64 (m : Int)) := hw.imm
 have p5 : w.cell? ⟨fb, 18, none⟩ = some (.slice (some ⟨sb, 0, none⟩) f.slots.length f.slots.length) := by rw [cell_of_blk hf.blk, List.getElem?_toArray, (fmL_par hf.rl hf.al hf.nl).2]
 have hzl := hf.zl
 have hzl' : (f.slots.length : Int) ≤ 1000 := by omega
 have p0 := hf.ptr
 have HM := hidX h
 have HF := hidX hf
 have HO := hidX hof
 have HOS := hidX hos
 have hS := hidX (show doM I most g f fs ⟨mLoad, (D : Int), a, b, (m : Int)⟩ = if (m : Int) < (f.slots.length : Int) then .run g (f.put D (f.slots.getD m 0)) fs else .halt hStuck 0 g from rfl)
 by_cases hlt : m < f.slots.length
 ·have hlt' : (m : Int) < (f.slots.length : Int) := by omega
  have HE := hidX (hS.out.trans (if_pos hlt'))
  have s0 : w.cell? ⟨sb, m, none⟩ = some (.int .i64 (f.slots.getD m 0)) := by rw [cell_of_blk hf.sl, List.getElem?_toArray, intsG_at hlt]; simp [List.getD, hlt]
  have fr := free_of_blk hf.blk (1 + D)
  have rd := hf.reg hD
  generalize f.regs.getD D 0 = vd at rd
  generalize f.slots.getD m 0 = vs at s0 HE
  generalize f.slots.length = n at *
  clear h hf hof hos hw hi hm hS hlt
  go_enter Tryd.func60, Tryd.ntmps60
  go_wp2_with fail
  go_quiet (fail)
  go_wp2_with fail
  go_region
  go_wp2
  go_ret
  exact do_put HM.out HF.out HO.out (by (repeat (first | exact Below.refl _ _ | assumption | refine Below.drew ?_ | refine bT ?_ _ | refine bS ?_ _ | refine bA ?_ _))) hD vs fs HE.out
 ·have hlt' : ¬ (m : Int) < (f.slots.length : Int) := by omega
  have HE := hidX (hS.out.trans (if_neg hlt'))
  generalize f.slots.length = n at *
  clear h hf hof hos hw hi hm hS hlt
  go_enter Tryd.func60, Tryd.ntmps60
  go_wp2_with fail
  go_quiet (fail)
  go_wp2_with fail
  refine (mstop_any (HM.out.below (by (repeat (first | exact Below.refl _ _ | assumption | refine Below.drew ?_ | refine bT ?_ _ | refine bS ?_ _ | refine bA ?_ _)))) hStuck).mono ?_
  rintro e X ⟨rfl, h1, h2⟩
  have H1 := hidX h1
  have H2 := hidX (show Fr (Sx mb ov.ownBlock) w X from (Fr.of (by (repeat (first | exact Below.refl _ _ | assumption | refine Below.drew ?_ | refine bT ?_ _ | refine bS ?_ _ | refine bA ?_ _)))).trans h2 (fun _ _ h => h))
  clear h1 h2
  go_wp2
  go_ret
  exact do_halt H2.out H1.out (RowB.refl _ _) fs HE.out
theorem do_slot (h : MM w B mb fv wv ov I [] g most d t) (hf : FM w B mb fb sb f) (hos : ov.ownBlock ≠ some sb) {X : World} (hX : Below w.heap.size w X) (k : Nat) (v : Int) (fs : List Fm) {S : Sm} (hS : S = .run g { f with slots := f.slots.set k v } fs) :
  DoTo w B mb fb sb fv wv ov I most d t f fs S (.returned (.bool true)) (X.setCell ⟨sb, k, none⟩ (.int .i64 v)) := by
 have hfl := hf.slt
 have hml := h.mlt
 refine ⟨fr_set hX sb _ _ (Or.inr (Or.inr (Or.inl rfl))), 0, ov, g, RowB.refl _ _, Or.inl ⟨{ f with slots := f.slots.set k v }, ⟨rfl, rfl⟩, hS, rfl, ?_, (hf.below hX).store k v⟩⟩
 have hoth : ∀ b, b ≠ sb → (X.setCell ⟨sb, k, none⟩ (.int .i64 v)).heap[b]? = X.heap[b]? := fun b hb => Below.heap_setCell _ _ _ _ (show b ≠ sb from hb)
 have hp := hf.hs
 exact (h.below hX).stay ⟨rfl, rfl, rfl, by simp [World.setCell], fun b hb => hoth b (by omega)⟩ (hoth mb hf.ns.symm) (fun b e => hoth b (fun e' => hos (e' ▸ e)))
set_option maxRecDepth 100000 in
set_option maxHeartbeats 4000000 in
theorem slot_store (h : MM w B mb fv wv ov I [] g most d t) (hf : FM w B mb fb sb f) (hof : ov.ownBlock ≠ some fb) (hos : ov.ownBlock ≠ some sb) (hw : WordAt w wb wo i) (hi : OkI i) (hk : i.op = mStore) (hm : 0 ≤ i.imm) (fs : List Fm) :
  Calls Tryd.prog 60 #[.pointer (some ⟨fb, 0, none⟩), .pointer (some ⟨wb, wo, none⟩)] w (DoTo w B mb fb sb fv wv ov I most d t f fs (doM I most g f fs i)) := by
 obtain ⟨op, D, a, b, imm⟩ := i
 have hk : op = _ := hk
 subst hk
 obtain ⟨a, rfl⟩ : ∃ n : Nat, a = (n : Int) := ⟨a.toNat, by have := hi.a; simp only at this; omega⟩
 have ha : a < 8 := by have := hi.a; simp only at this; omega
 have ha' : (a : Int) < 8 := by omega
 have q0 : w.cell? ⟨wb, wo, none⟩ = some (.string ⟨([115, 116, 111, 114, 101] : List UInt8).toArray⟩) := hw.op
 have q2 : w.cell? ⟨wb, wo + 2, none⟩ = some (.int .i64 (a : Int)) := hw.a
 obtain ⟨m, rfl⟩ : ∃ n : Nat, imm = (n : Int) := ⟨imm.toNat, by have := hm; simp only at this; omega⟩
 have q4 : w.cell? ⟨wb, wo + 4, none⟩ = some (.int .i64 (m : Int)) := hw.imm
 have p5 : w.cell? ⟨fb, 18, none⟩ = some (.slice (some ⟨sb, 0, none⟩) f.slots.length f.slots.length) := by rw [cell_of_blk hf.blk, List.getElem?_toArray, (fmL_par hf.rl hf.al hf.nl).2]
 have hzl := hf.zl
 have hzl' : (f.slots.length : Int) ≤ 1000 := by omega
 have p0 := hf.ptr
 have HM := hidX h
 have HF := hidX hf
 have HO := hidX hof
 have HOS := hidX hos
 have hS := hidX (show doM I most g f fs ⟨mStore, D, (a : Int), b, (m : Int)⟩ = if (m : Int) < (f.slots.length : Int) then .run g { f with slots := f.slots.set m (f.regs.getD a 0) } fs else .halt hStuck 0 g from rfl)
 by_cases hlt : m < f.slots.length
 ·have hlt' : (m : Int) < (f.slots.length : Int) := by omega
  have HE := hidX (hS.out.trans (if_pos hlt'))
  have s0 : w.cell? ⟨sb, m, none⟩ = some (.int .i64 (f.slots.getD m 0)) := by rw [cell_of_blk hf.sl, List.getElem?_toArray, intsG_at hlt]; simp [List.getD, hlt]
  have ra := hf.reg ha
  have fr := free_of_blk hf.sl m
  generalize f.regs.getD a 0 = va at ra HE
  generalize f.slots.getD m 0 = vs at s0
  generalize f.slots.length = n at *
  clear h hf hof hos hw hi hm hS hlt
  go_enter Tryd.func60, Tryd.ntmps60
  go_wp2_with fail
  go_quiet (fail)
  go_wp2_with fail
  go_region
  go_wp2
  go_ret
  exact do_slot HM.out HF.out HOS.out (by (repeat (first | exact Below.refl _ _ | assumption | refine Below.drew ?_ | refine bT ?_ _ | refine bS ?_ _ | refine bA ?_ _))) m va fs HE.out
 ·have hlt' : ¬ (m : Int) < (f.slots.length : Int) := by omega
  have HE := hidX (hS.out.trans (if_neg hlt'))
  generalize f.slots.length = n at *
  clear h hf hof hos hw hi hm hS hlt
  go_enter Tryd.func60, Tryd.ntmps60
  go_wp2_with fail
  go_quiet (fail)
  go_wp2_with fail
  refine (mstop_any (HM.out.below (by (repeat (first | exact Below.refl _ _ | assumption | refine Below.drew ?_ | refine bT ?_ _ | refine bS ?_ _ | refine bA ?_ _)))) hStuck).mono ?_
  rintro e X ⟨rfl, h1, h2⟩
  have H1 := hidX h1
  have H2 := hidX (show Fr (Sx mb ov.ownBlock) w X from (Fr.of (by (repeat (first | exact Below.refl _ _ | assumption | refine Below.drew ?_ | refine bT ?_ _ | refine bS ?_ _ | refine bA ?_ _)))).trans h2 (fun _ _ h => h))
  clear h1 h2
  go_wp2
  go_ret
  exact do_halt H2.out H1.out (RowB.refl _ _) fs HE.out
set_option maxRecDepth 100000 in
set_option maxHeartbeats 4000000 in
theorem param_any (h : MM w B mb fv wv ov I [] g most d t) (hf : FM w B mb fb sb f) (hof : ov.ownBlock ≠ some fb) (_hos : ov.ownBlock ≠ some sb) (hw : WordAt w wb wo i) (hi : OkI i) (hk : i.op = mParam) (hm : 0 ≤ i.imm ∧ i.imm < 4) (fs : List Fm) :
  Calls Tryd.prog 61 #[.pointer (some ⟨fb, 0, none⟩), .pointer (some ⟨wb, wo, none⟩)] w (DoTo w B mb fb sb fv wv ov I most d t f fs (doM I most g f fs i)) := by
 obtain ⟨op, D, a, b, imm⟩ := i
 have hk : op = _ := hk
 subst hk
 obtain ⟨D, rfl⟩ : ∃ n : Nat, D = (n : Int) := ⟨D.toNat, by have := hi.d; simp only at this; omega⟩
 have hD : D < 8 := by have := hi.d; simp only at this; omega
 have hD' : (D : Int) < 8 := by omega
 have q0 : w.cell? ⟨wb, wo, none⟩ = some (.string ⟨([112, 97, 114, 97, 109] : List UInt8).toArray⟩) := hw.op
 have q1 : w.cell? ⟨wb, wo + 1, none⟩ = some (.int .i64 (D : Int)) := hw.d
 obtain ⟨m, rfl⟩ : ∃ n : Nat, imm = (n : Int) := ⟨imm.toNat, by have := hm.1; simp only at this; omega⟩
 have q4 : w.cell? ⟨wb, wo + 4, none⟩ = some (.int .i64 (m : Int)) := hw.imm
 have hm4 : m < 4 := by have := hm.2; simp only at this; omega
 have hm4' : (m : Int) < 4 := by omega
 have p4 : w.cell? ⟨fb, 17, none⟩ = some (.int .i64 f.params) := by rw [cell_of_blk hf.blk, List.getElem?_toArray, (fmL_par hf.rl hf.al hf.nl).1]
 have rm : w.cell? ⟨fb, 9 + m, none⟩ = some (.int .i64 (f.args.getD m 0)) := by rw [cell_of_blk hf.blk, List.getElem?_toArray, fmL_arg hf.rl hf.al hm4]
 have p0 := hf.ptr
 have fr := free_of_blk hf.blk (1 + D)
 have rd := hf.reg hD
 generalize f.regs.getD D 0 = vd at rd
 have HM := hidX h
 have HF := hidX hf
 have HO := hidX hof
 have hS := hidX (show doM I most g f fs ⟨mParam, (D : Int), a, b, (m : Int)⟩ = if (m : Int) < f.params then .run g (f.put D (f.args.getD m 0)) fs else .halt hStuck 0 g from rfl)
 generalize f.args.getD m 0 = va at rm hS
 by_cases hlt' : (m : Int) < f.params
 ·have HE := hidX (hS.out.trans (if_pos hlt'))
  generalize f.params = n at *
  clear h hf hof _hos hw hi hm hS
  go_enter Tryd.func61, Tryd.ntmps61
  go_wp2_with fail
  go_quiet (fail)
  go_wp2_with fail
  go_region
  go_wp2
  go_ret
  exact do_put HM.out HF.out HO.out (by (repeat (first | exact Below.refl _ _ | assumption | refine Below.drew ?_ | refine bT ?_ _ | refine bS ?_ _ | refine bA ?_ _))) hD va fs HE.out
 ·have HE := hidX (hS.out.trans (if_neg hlt'))
  generalize f.params = n at *
  clear h hf hof _hos hw hi hm hS
  go_enter Tryd.func61, Tryd.ntmps61
  go_wp2_with fail
  go_quiet (fail)
  go_wp2_with fail
  refine (mstop_any (HM.out.below (by (repeat (first | exact Below.refl _ _ | assumption | refine Below.drew ?_ | refine bT ?_ _ | refine bS ?_ _ | refine bA ?_ _)))) hStuck).mono ?_
  rintro e X ⟨rfl, h1, h2⟩
  have H1 := hidX h1
  have H2 := hidX (show Fr (Sx mb ov.ownBlock) w X from (Fr.of (by (repeat (first | exact Below.refl _ _ | assumption | refine Below.drew ?_ | refine bT ?_ _ | refine bS ?_ _ | refine bA ?_ _)))).trans h2 (fun _ _ h => h))
  clear h1 h2
  go_wp2
  go_ret
  exact do_halt H2.out H1.out (RowB.refl _ _) fs HE.out
set_option maxRecDepth 100000 in
set_option maxHeartbeats 4000000 in
theorem do_load (h : MM w B mb fv wv ov I [] g most d t) (hf : FM w B mb fb sb f) (hof : ov.ownBlock ≠ some fb) (hos : ov.ownBlock ≠ some sb) (hw : WordAt w wb wo i) (hi : OkI i) (hk : i.op = mLoad) (hm : 0 ≤ i.imm) (fs : List Fm) :
  Calls Tryd.prog 51 #[.pointer (some ⟨fb, 0, none⟩), .pointer (some ⟨wb, wo, none⟩)] w (DoTo w B mb fb sb fv wv ov I most d t f fs (doM I most g f fs i)) := by
 have q0 : w.cell? ⟨wb, wo, none⟩ = some (.string ⟨([108, 111, 97, 100] : List UInt8).toArray⟩) := by have := hw.op; rw [hk] at this; exact this
 have HC := hidX (slot_load h hf hof hos hw hi hk hm fs)
 generalize doM I most g f fs i = S at HC
 clear h hf hof hos hw hi hm hk
 go_enter Tryd.func51, Tryd.ntmps51
 go_wp2_with fail
 refine HC.out.mono ?_
 intro e X hX
 have hv : ∃ v, e = .returned v := by
  obtain ⟨_, _, _, _, _, h | h⟩ := hX
  ·obtain ⟨_, _, _, h, _⟩ := h; exact ⟨_, h⟩
  ·obtain ⟨_, h, _⟩ := h; exact ⟨_, h⟩
 obtain ⟨v, rfl⟩ := hv
 have HX := hidX hX
 clear hX HC
 go_wp2
 go_ret
 exact HX.out
set_option maxRecDepth 100000 in
set_option maxHeartbeats 4000000 in
theorem do_store (h : MM w B mb fv wv ov I [] g most d t) (hf : FM w B mb fb sb f) (hof : ov.ownBlock ≠ some fb) (hos : ov.ownBlock ≠ some sb) (hw : WordAt w wb wo i) (hi : OkI i) (hk : i.op = mStore) (hm : 0 ≤ i.imm) (fs : List Fm) :
  Calls Tryd.prog 51 #[.pointer (some ⟨fb, 0, none⟩), .pointer (some ⟨wb, wo, none⟩)] w (DoTo w B mb fb sb fv wv ov I most d t f fs (doM I most g f fs i)) := by
 have q0 : w.cell? ⟨wb, wo, none⟩ = some (.string ⟨([115, 116, 111, 114, 101] : List UInt8).toArray⟩) := by have := hw.op; rw [hk] at this; exact this
 have HC := hidX (slot_store h hf hof hos hw hi hk hm fs)
 generalize doM I most g f fs i = S at HC
 clear h hf hof hos hw hi hm hk
 go_enter Tryd.func51, Tryd.ntmps51
 go_wp2_with fail
 refine HC.out.mono ?_
 intro e X hX
 have hv : ∃ v, e = .returned v := by
  obtain ⟨_, _, _, _, _, h | h⟩ := hX
  ·obtain ⟨_, _, _, h, _⟩ := h; exact ⟨_, h⟩
  ·obtain ⟨_, h, _⟩ := h; exact ⟨_, h⟩
 obtain ⟨v, rfl⟩ := hv
 have HX := hidX hX
 clear hX HC
 go_wp2
 go_ret
 exact HX.out
set_option maxRecDepth 100000 in
set_option maxHeartbeats 4000000 in
theorem do_param (h : MM w B mb fv wv ov I [] g most d t) (hf : FM w B mb fb sb f) (hof : ov.ownBlock ≠ some fb) (hos : ov.ownBlock ≠ some sb) (hw : WordAt w wb wo i) (hi : OkI i) (hk : i.op = mParam) (hm : 0 ≤ i.imm ∧ i.imm < 4) (fs : List Fm) :
  Calls Tryd.prog 51 #[.pointer (some ⟨fb, 0, none⟩), .pointer (some ⟨wb, wo, none⟩)] w (DoTo w B mb fb sb fv wv ov I most d t f fs (doM I most g f fs i)) := by
 have q0 : w.cell? ⟨wb, wo, none⟩ = some (.string ⟨([112, 97, 114, 97, 109] : List UInt8).toArray⟩) := by have := hw.op; rw [hk] at this; exact this
 have HC := hidX (param_any h hf hof hos hw hi hk hm fs)
 generalize doM I most g f fs i = S at HC
 clear h hf hof hos hw hi hm hk
 go_enter Tryd.func51, Tryd.ntmps51
 go_wp2_with fail
 refine HC.out.mono ?_
 intro e X hX
 have hv : ∃ v, e = .returned v := by
  obtain ⟨_, _, _, _, _, h | h⟩ := hX
  ·obtain ⟨_, _, _, h, _⟩ := h; exact ⟨_, h⟩
  ·obtain ⟨_, h, _⟩ := h; exact ⟨_, h⟩
 obtain ⟨v, rfl⟩ := hv
 have HX := hidX hX
 clear hX HC
 go_wp2
 go_ret
 exact HX.out
end
end Go.Proofs.YtbcpomdcmilpjaaDoor
