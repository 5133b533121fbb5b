/-
  Our own: law 3's closed fact of words.
-/
import Derived.Test.YtgcmegbfhhebpaaDoorCdTxt
namespace Go.Proofs.YtgcmegbfhhebpaaDoor
open Go.RowKit

/-- What the walks of package code want of a world. -/
structure CdW (w : World) (a : Nat → Addr) : Prop where
  tab : TabC w
  err : CdG w a
  dig : TabD w.heap.size w
theorem CdW.below {w w' : World} {a : Nat → Addr} (h : CdW w a) (hb : Below w.heap.size w w') : CdW w' a :=
  ⟨h.tab.below hb, h.err.below hb, (h.dig.on hb).up hb.size⟩
def codI : Ci := ⟨[99, 111, 110, 115, 116], 1, 0, 0, -1⟩
theorem cod_chk : coChk (coNamed codI.op).2 codI = 0 := by decide
theorem cod_enc : encR codI = 72339073309605887 := by decide
theorem cod_back : coChk (coNum (72339073309605887 / 72057594037927936)) (decC 72339073309605887) = 0 ∧ decR 72339073309605887 = codI := by
  obtain ⟨v, e1, _, e2, e3⟩ := enc_nat (i := codI) cod_chk
  have : v = 72339073309605887 := by rw [cod_enc] at e1; omega
  subst this
  exact ⟨e3, e2⟩
set_option maxRecDepth 100000 in
set_option maxHeartbeats 1000000 in
theorem coding_any (a : Nat → Addr) (w : World) (hW : CdW w a) : Calls Tryd.prog 4 #[] w fun e w' => e = .returned (.bool true) ∧ Below w.heap.size w w' := by
  have h1 := fun W (hb : Below w.heap.size w W) => enc_any codI a W (hW.below hb).tab (hW.below hb).err
  have h2 := fun W (hb : Below w.heap.size w W) => dec_any 72339073309605887 (by decide) a W (hW.below hb).tab (hW.below hb).err
  rw [cod_chk, cod_enc] at h1
  rw [cod_back.1, cod_back.2] at h2
  have H1 := hidX h1
  have H2 := hidX h2
  clear h1 h2 hW
  go_enter Tryd.func4, Tryd.ntmps4
  go_wp2_with fail
  refine (H1.out _ (by (repeat (first | exact Below.refl _ _ | assumption | refine Below.drew ?_ | refine bT ?_ _ | refine bS ?_ _ | refine bA ?_ _)))).mono ?_
  rintro e w2 ⟨rfl, hb2⟩
  rw [show erV a 0 = .nilIface from rfl]
  go_wp2_with fail
  refine (H2.out _ (by (repeat (first | exact Below.refl _ _ | assumption | refine Below.drew ?_ | refine bT ?_ _ | refine bS ?_ _ | refine bA ?_ _)))).mono ?_
  rintro e w3 ⟨rfl, hb3⟩
  rw [show erV a 0 = .nilIface from rfl]
  go_wp2
  go_ret
  exact ⟨rfl, ((hb2.trans (hb3.mono hb2.size)).alloc (Nat.le_trans hb2.size hb3.size) _)⟩
end Go.Proofs.YtgcmegbfhhebpaaDoor
