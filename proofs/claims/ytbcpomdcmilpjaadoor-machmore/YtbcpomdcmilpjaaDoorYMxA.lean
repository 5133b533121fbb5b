/- Our own: texts joined: MxMath, MaMore. -/
import Derived.Test.YtbcpomdcmilpjaaDoorYMoA
import Derived.Test.YtbcpomdcmilpjaaDoorYWellM
import Derived.Test.YtbcpomdcmilpjaaDoorYMaMa
namespace Go.Proofs.YtbcpomdcmilpjaaDoor
open Go.RowKit
def lastM (nm : List UInt8) : Nat → List Mf → Int → Int
 | _, [], k => k
 | i, f :: r, k => lastM nm (i + 1) r (if f.name = nm then (i : Int) else k)
theorem lastM_snoc (nm : List UInt8) : ∀ (l : List Mf) (f : Mf) (i : Nat) (k : Int), lastM nm i (l ++ [f]) k = if f.name = nm then ((i + l.length : Nat) : Int) else lastM nm i l k
 | [], f, i, k => by simp [lastM]
 | x :: r, f, i, k => by
  rw [List.cons_append, lastM, lastM_snoc nm r f (i + 1) _, lastM, show i + 1 + r.length = i + (x :: r).length from by simp; omega]
theorem lastM_take {nm : List UInt8} {L : List Mf} {i : Nat} (hi : i < L.length) : lastM nm 0 (L.take (i + 1)) (-1) = if L[i].name = nm then (i : Int) else lastM nm 0 (L.take i) (-1) := by
 rw [List.take_add_one, List.getElem?_eq_getElem hi, Option.toList_some, lastM_snoc, List.length_take, Nat.min_eq_left (by omega), Nat.zero_add]
theorem lastM_none {nm : List UInt8} : ∀ (l : List Mf) (i : Nat) (k : Int), (∀ f ∈ l, f.name ≠ nm) → lastM nm i l k = k
 | [], _, _, _ => rfl
 | f :: r, i, k, h => by
  rw [lastM, if_neg (h f List.mem_cons_self)]
  exact lastM_none r _ _ (fun x hx => h x (List.mem_cons_of_mem _ hx))
theorem lastM_lt {nm : List UInt8} : ∀ (l : List Mf) (i : Nat) (k : Int), k < (i : Int) → lastM nm i l k < ((i + l.length : Nat) : Int)
 | [], i, k, h => by simpa [lastM] using h
 | f :: r, i, k, h => by
  rw [lastM]
  have := lastM_lt (nm := nm) r (i + 1) (if f.name = nm then (i : Int) else k) (by split <;> omega)
  simp only [List.length_cons]
  omega
theorem names_nd {I : Im} (h : (imF I).1 = 0) : (I.funs.map Mf.name).Nodup := by
 have h1 : (mfFrom I 0 I.funs).1 = 0 := by
  unfold imF at h
  split at h
  ·exact absurd h (by decide)
  ·split at h
   ·rename_i h2; exact absurd h h2
   ·rename_i h2; exact Decidable.not_not.1 h2
 have h2 := fun j (hj : j < I.funs.length) => mfFrom_zero h1 j hj
 rw [List.nodup_iff_pairwise_ne, List.pairwise_iff_getElem]
 intro i j hi hj hij e
 simp only [List.length_map] at hi hj
 have h3 := h2 j hj
 rw [Nat.zero_add] at h3
 unfold funN at h3
 split at h3
 ·exact absurd h3 (by decide)
 ·rename_i h4
  apply h4
  right
  rw [List.getElem_map, List.getElem_map] at e
  rw [← e]
  exact List.mem_map.2 ⟨I.funs[i], List.mem_take_iff_getElem.2 ⟨i, by omega, rfl⟩, rfl⟩
theorem lastM_cons {nm : List UInt8} : ∀ (l : List Mf) (i : Nat), (l.map Mf.name).Nodup → lastM nm i l (-1) = match l.findIdx? (fun f => f.name == nm) with | some j => ((i + j : Nat) : Int) | none => -1
 | [], _, _ => rfl
 | f :: r, i, h => by
  rw [lastM]
  simp only [List.map_cons, List.nodup_cons] at h
  by_cases hf : f.name = nm
  ·rw [if_pos hf, lastM_none r _ _ (fun x hx e => h.1 (List.mem_map.2 ⟨x, hx, e.trans hf.symm⟩)), List.findIdx?_cons]
   simp [hf]
  ·rw [if_neg hf, lastM_cons r (i + 1) h.2, List.findIdx?_cons]
   have : (f.name == nm) = false := by simpa using hf
   rw [this]
   cases r.findIdx? (fun f => f.name == nm) with
   | none => rfl
   | some j =>
    show ((i + 1 + j : Nat) : Int) = ((i + (j + 1) : Nat) : Int)
    congr 1
    omega
theorem last_which {I : Im} (h : (imF I).1 = 0) (nm : List UInt8) : lastM nm 0 I.funs (-1) = whichM I.funs nm := by
 rw [lastM_cons I.funs 0 (names_nd h)]
 unfold whichM
 cases I.funs.findIdx? (fun f => f.name == nm) with
 | none => rfl
 | some j => simp
end Go.Proofs.YtbcpomdcmilpjaaDoor
namespace Go.Proofs.YtbcpomdcmilpjaaDoor
open Go.RowKit
def gOf : Sm → Gm
 | .run g _ _ => g
 | .halt _ _ g => g
def LeM (a b : Gm) : Prop := a.out <+: b.out ∧ a.ticks ≤ b.ticks
theorem LeM.refl (a : Gm) : LeM a a := ⟨List.prefix_refl _, Nat.le_refl _⟩
theorem LeM.trans {a b c : Gm} (h : LeM a b) (k : LeM b c) : LeM a c := ⟨h.1.trans k.1, Nat.le_trans h.2 k.2⟩
theorem enter_le (I : Im) (most : Nat) (g : Gm) (fs : List Fm) (k : Int) (args : List Int) (d : Nat) : LeM g (gOf (enterM I most g fs k args d)) := by
 unfold enterM
 split
 ·exact LeM.refl _
 ·split <;> exact ⟨List.prefix_refl _, Nat.le_succ _⟩
theorem ret_le (g : Gm) (fs : List Fm) (d : Nat) (v : Int) : LeM g (gOf (retM g fs d v)) := by
 unfold retM
 split <;> exact LeM.refl _
theorem le_ite {p : Prop} [Decidable p] {a b : Sm} {g : Gm} (h1 : LeM g (gOf a)) (h2 : LeM g (gOf b)) : LeM g (gOf (if p then a else b)) := by split <;> assumption
theorem doM_le (I : Im) (most : Nat) (g : Gm) (f : Fm) (fs : List Fm) (i : Ci) : LeM g (gOf (doM I most g f fs i)) := by
 unfold doM
 repeat' (first | exact LeM.refl _ | exact ret_le _ _ _ _ | exact enter_le _ _ _ _ _ _ _ | exact ⟨List.prefix_refl _, Nat.le_succ _⟩ | exact ⟨List.prefix_append _ _, Nat.le_refl _⟩ | refine le_ite ?_ ?_)
theorem stepM_run (I : Im) (most : Nat) (g : Gm) (f : Fm) (fs : List Fm) : stepM I most (.run g f fs) = match I.words[f.pc]? with | none => .halt hStuck 0 g | some v => doM I most g (f.go (f.pc + 1)) fs (decR v) := rfl
theorem step_le (I : Im) (most : Nat) (s : Sm) : LeM (gOf s) (gOf (stepM I most s)) := by
 cases s with
 | halt h v g => exact LeM.refl _
 | run g f fs =>
  rw [stepM_run]
  cases I.words[f.pc]? with
  | none => exact LeM.refl _
  | some v => exact doM_le _ _ _ _ _ _
def Ext (A B : Sm) : Prop := A = B ∨ ∃ g, A = .halt hTired 0 g ∧ LeM g (gOf B)
theorem enter_ext (I : Im) (m x : Nat) (g : Gm) (fs : List Fm) (k : Int) (args : List Int) (d : Nat) : Ext (enterM I m g fs k args d) (enterM I (m + x) g fs k args d) := by
 by_cases h : m ≤ g.ticks
 ·refine Or.inr ⟨g, ?_, enter_le _ _ _ _ _ _ _⟩
  unfold enterM
  rw [if_pos h]
 ·left
  unfold enterM
  rw [if_neg h, if_neg (show ¬ m + x ≤ g.ticks by omega)]
theorem do_ext (I : Im) (m x : Nat) (g : Gm) (f : Fm) (fs : List Fm) (i : Ci) : Ext (doM I m g f fs i) (doM I (m + x) g f fs i) := by
 by_cases hc : i.op = mCall
 ·unfold doM
  rw [hc]
  simp only [show mCall ≠ mJump by decide, show mCall ≠ mIf by decide, show mCall ≠ mRet by decide, show mCall ≠ mConst by decide, show mCall ≠ mHigh by decide, show mCall ≠ mMove by decide, show mCall ≠ mLoad by decide, show mCall ≠ mStore by decide, show mCall ≠ mParam by decide, show mCall ≠ mArg by decide, if_false, if_true]
  split
  ·exact enter_ext _ _ _ _ _ _ _ _
  ·exact Or.inl rfl
 by_cases ht : i.op = mTick
 ·by_cases h : m ≤ g.ticks
  ·refine Or.inr ⟨g, ?_, doM_le _ _ _ _ _ _⟩
   unfold doM
   rw [ht]
   simp only [show mTick ≠ mJump by decide, show mTick ≠ mIf by decide, show mTick ≠ mRet by decide, show mTick ≠ mConst by decide, show mTick ≠ mHigh by decide, show mTick ≠ mMove by decide, show mTick ≠ mLoad by decide, show mTick ≠ mStore by decide, show mTick ≠ mParam by decide, show mTick ≠ mArg by decide, show mTick ≠ mCall by decide, if_false, if_true, if_pos h]
  ·left
   unfold doM
   rw [ht]
   simp only [show mTick ≠ mJump by decide, show mTick ≠ mIf by decide, show mTick ≠ mRet by decide, show mTick ≠ mConst by decide, show mTick ≠ mHigh by decide, show mTick ≠ mMove by decide, show mTick ≠ mLoad by decide, show mTick ≠ mStore by decide, show mTick ≠ mParam by decide, show mTick ≠ mArg by decide, show mTick ≠ mCall by decide, if_false, if_true, if_neg h, if_neg (show ¬ m + x ≤ g.ticks by omega)]
 left
 unfold doM
 simp only [if_neg hc, if_neg ht]
theorem step_ext (I : Im) (m x : Nat) {A B : Sm} (h : Ext A B) : Ext (stepM I m A) (stepM I (m + x) B) := by
 rcases h with rfl | ⟨g, rfl, hg⟩
 ·cases A with
  | halt h v g => exact Or.inl rfl
  | run g f fs =>
   rw [stepM_run, stepM_run]
   cases I.words[f.pc]? with
   | none => exact Or.inl rfl
   | some v => exact do_ext _ _ _ _ _ _ _
 ·exact Or.inr ⟨g, rfl, hg.trans (step_le _ _ _)⟩
theorem it_ext (I : Im) (m x : Nat) : ∀ (n : Nat) {A B : Sm}, Ext A B → Ext (itM I m n A) (itM I (m + x) n B)
 | 0, _, _, h => h
 | n + 1, _, _, h => it_ext I m x n (step_ext I m x h)
def Im.more (I : Im) (z : Mf) (v : Nat) : Im := ⟨I.funs ++ [z], I.words ++ [v]⟩
end Go.Proofs.YtbcpomdcmilpjaaDoor
