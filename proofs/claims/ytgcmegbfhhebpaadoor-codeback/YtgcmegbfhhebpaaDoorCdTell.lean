/-
  Our own: package code: a field's text.
-/
import Derived.Test.YtgcmegbfhhebpaaDoorCdChk
import Derived.Test.YtgcmegbfhhebpaaDoorItoaShelf
import Derived.Lib.ItoaLen
import Derived.Lib.AppendIntMem
namespace Go.Proofs.YtgcmegbfhhebpaaDoor
open Go.RowKit

/-- A text with a field behind it. -/
def tellT (has : Bool) (mark : List UInt8) (n : Int) (l : List UInt8) : List UInt8 := if has then l ++ 32 :: (mark ++ Lib.itoa n) else l
theorem catL (a b : List UInt8) (h : a.length + b.length ≤ 9223372036854775807) (W : World) : (Op.stringOp .add ⟨a.toArray⟩ ⟨b.toArray⟩).run Tryd.prog W = .ok (.string ⟨(a ++ b).toArray⟩) W := by
  have h' := run_string_add_sum (P := Tryd.prog) W ⟨a.toArray⟩ ⟨b.toArray⟩ (by show a.toArray.size + b.toArray.size ≤ _; simpa using h)
  rw [h']
  congr 2
/-- The library's table, also in what comes of w. -/
def TabD (B : Nat) (w : World) : Prop := ∀ w', Below B w w' → Lib.TabIs Tryd.prog w' "internal/strconv.uint64pow10" .u64 Lib.pow10Tab
theorem TabD.on {B : Nat} {w w1 : World} (h : TabD B w) (hb : Below B w w1) : TabD B w1 := fun w' h' => h w' (hb.trans h')
theorem TabD.up {B C : Nat} {w : World} (h : TabD B w) (hc : B ≤ C) : TabD C w := fun w' h' => h w' (h'.mono hc)
theorem itoa_any (n : Int) (h0 : -9223372036854775808 ≤ n) (h1 : n ≤ 9223372036854775807) (w : World) (ht : Lib.TabIs Tryd.prog w "internal/strconv.uint64pow10" .u64 Lib.pow10Tab) :
    Calls Tryd.prog 12 #[.int .i64 n] w fun e w' => e = .returned (.string ⟨(Lib.itoa n).toArray⟩) ∧ Below w.heap.size w w' := by
  refine (sh_strconv_Itoa n h0 h1 w ht).mono ?_
  rintro e w' ⟨rfl, k, os, rfl⟩
  exact ⟨rfl, Lib.below_grow _ _ (Nat.le_refl _) _ _⟩
/-- What a field's text leaves. -/
def TellTo (b : Nat) (l : List UInt8) (w w' : World) : Prop := Below b w w' ∧ w'.heap[b]? = some (.cells #[.string ⟨l.toArray⟩] 9 (0, 0))
set_option maxRecDepth 100000 in
set_option maxHeartbeats 1000000 in
theorem tell_any (has : Bool) (mark : List UInt8) (n : Int) (b : Nat) (l : List UInt8) (w : World) (hn : -9223372036854775808 ≤ n ∧ n ≤ 9223372036854775807) (hk : w.heap[b]? = some (.cells #[.string ⟨l.toArray⟩] 9 (0, 0))) (hm : mark.length ≤ 10) (hl : l.length ≤ 1000) (hT : TabD b w) :
    Calls Tryd.prog 11 #[.bool has, .string ⟨mark.toArray⟩, .int .i64 n, .pointer (some ⟨b, 0, none⟩)] w fun e w' => e = .returned (.tuple #[]) ∧ TellTo b (tellT has mark n l) w w' := by
  have hc : w.cell? ⟨b, 0, none⟩ = some (.string ⟨l.toArray⟩) := cell_of_blk hk 0
  have hf := free_of_blk hk 0
  have hlt := cell_lt hc
  have HK := hidX hk
  clear hk
  cases has
  · go_enter Tryd.func11, Tryd.ntmps11
    go_wp2
    go_end0
    exact ⟨rfl, Below.refl _ _, HK.out⟩
  · have hI := hidX fun X (hb : Below w.heap.size w X) => itoa_any n hn.1 hn.2 X (hT _ (hb.mono (Nat.le_of_lt hlt)))
    have h21 := Lib.itoa_length_le n hn.1 hn.2
    have e1 := catL [32] mark (by simp; omega)
    have e2 := catL (32 :: mark) (Lib.itoa n) (by simp; omega)
    have e3 := catL l (32 :: (mark ++ Lib.itoa n)) (by simp; omega)
    have hr : tellT true mark n l = l ++ 32 :: (mark ++ Lib.itoa n) := rfl
    rw [hr]
    generalize Lib.itoa n = it at hI e2 e3 ⊢
    simp only [List.cons_append, List.nil_append] at e1 e2
    generalize l ++ 32 :: (mark ++ it) = out at e3 ⊢
    clear hT hr h21
    go_enter Tryd.func11, Tryd.ntmps11
    go_wp2
    go_region_with (first
      | (go_at_call 12; refine (hI.out _ (by (repeat (first | exact Below.refl _ _ | assumption | refine Below.drew ?_ | refine bT ?_ _ | refine bS ?_ _ | refine bA ?_ _)))).mono ?_; rintro e w2 ⟨rfl, hb2⟩; have c2 := (hb2.cell hlt).trans hc; have f2 := (hb2.frozen hlt).trans hf))
    all_goals (go_wp2; go_end0; exact ⟨rfl, (((Below.refl _ w).drew.trans hb2).mono (Nat.le_of_lt hlt)).setCell (Nat.le_refl _) _, blk_setCell ((hb2.block _ hlt).trans HK.out) 0 _⟩)
end Go.Proofs.YtgcmegbfhhebpaaDoor
