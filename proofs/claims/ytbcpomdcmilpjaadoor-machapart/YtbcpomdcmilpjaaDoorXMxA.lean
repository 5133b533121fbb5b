/- Our own: texts joined: MxMath, MaMore, MxMath2. -/
import Derived.Test.YtbcpomdcmilpjaaDoorXMoA
import Derived.Test.YtbcpomdcmilpjaaDoorXWellM
import Derived.Test.YtbcpomdcmilpjaaDoorXMaMa
import Derived.Test.YtbcpomdcmilpjaaDoorXRunBM
namespace Go.Proofs.YtbcpomdcmilpjaaDoor
open Go.RowKit
def lastM (nm : List UInt8) : Nat → List Mf → Int → Int
 | _, [], k => k
 | i, f :: r, k => lastM nm (i + 1) r (if f.name = nm then (i : Int) else k)
theorem lastM_snoc (nm : List UInt8) : ∀ (l : List Mf) (f : Mf) (i : Nat) (k : Int), lastM nm i (l ++ [f]) k = if f.name = nm then ((i + l.length : Nat) : Int) else lastM nm i l k
 | [], f, i, k => by simp [lastM]
 | x :: r, f, i, k => by
  rw [List.cons_append, lastM, lastM_snoc nm r f (i + 1) _, lastM, show i + 1 + r.length = i + (x :: r).length from by simp; omega]
theorem lastM_take {nm : List UInt8} {L : List Mf} {i : Nat} (hi : i < L.length) : lastM nm 0 (L.take (i + 1)) (-1) = if L[i].name = nm then (i : Int) else lastM nm 0 (L.take i) (-1) := by
 rw [List.take_add_one, List.getElem?_eq_getElem hi, Option.toList_some, lastM_snoc, List.length_take, Nat.min_eq_left (by omega), Nat.zero_add]
theorem lastM_none {nm : List UInt8} : ∀ (l : List Mf) (i : Nat) (k : Int), (∀ f ∈ l, f.name ≠ nm) → lastM nm i l k = k
 | [], _, _, _ => rfl
 | f :: r, i, k, h => by
  rw [lastM, if_neg (h f List.mem_cons_self)]
  exact lastM_none r _ _ (fun x hx => h x (List.mem_cons_of_mem _ hx))
theorem lastM_lt {nm : List UInt8} : ∀ (l : List Mf) (i : Nat) (k : Int), k < (i : Int) → lastM nm i l k < ((i + l.length : Nat) : Int)
 | [], i, k, h => by simpa [lastM] using h
 | f :: r, i, k, h => by
  rw [lastM]
  have := lastM_lt (nm := nm) r (i + 1) (if f.name = nm then (i : Int) else k) (by split <;> omega)
  simp only [List.length_cons]
  omega
theorem names_nd {I : Im} (h : (imF I).1 = 0) : (I.funs.map Mf.name).Nodup := by
 have h1 : (mfFrom I 0 I.funs).1 = 0 := by
  unfold imF at h
  split at h
  ·exact absurd h (by decide)
  ·split at h
   ·rename_i h2; exact absurd h h2
   ·rename_i h2; exact Decidable.not_not.1 h2
 have h2 := fun j (hj : j < I.funs.length) => mfFrom_zero h1 j hj
 rw [List.nodup_iff_pairwise_ne, List.pairwise_iff_getElem]
 intro i j hi hj hij e
 simp only [List.length_map] at hi hj
 have h3 := h2 j hj
 rw [Nat.zero_add] at h3
 unfold funN at h3
 split at h3
 ·exact absurd h3 (by decide)
 ·rename_i h4
  apply h4
  right
  rw [List.getElem_map, List.getElem_map] at e
  rw [← e]
  exact List.mem_map.2 ⟨I.funs[i], List.mem_take_iff_getElem.2 ⟨i, by omega, rfl⟩, rfl⟩
theorem lastM_cons {nm : List UInt8} : ∀ (l : List Mf) (i : Nat), (l.map Mf.name).Nodup → lastM nm i l (-1) = match l.findIdx? (fun f => f.name == nm) with | some j => ((i + j : Nat) : Int) | none => -1
 | [], _, _ => rfl
 | f :: r, i, h => by
  rw [lastM]
  simp only [List.map_cons, List.nodup_cons] at h
  by_cases hf : f.name = nm
  ·rw [if_pos hf, lastM_none r _ _ (fun x hx e => h.1 (List.mem_map.2 ⟨x, hx, e.trans hf.symm⟩)), List.findIdx?_cons]
   simp [hf]
  ·rw [if_neg hf, lastM_cons r (i + 1) h.2, List.findIdx?_cons]
   have : (f.name == nm) = false := by simpa using hf
   rw [this]
   cases r.findIdx? (fun f => f.name == nm) with
   | none => rfl
   | some j =>
    show ((i + 1 + j : Nat) : Int) = ((i + (j + 1) : Nat) : Int)
    congr 1
    omega
theorem last_which {I : Im} (h : (imF I).1 = 0) (nm : List UInt8) : lastM nm 0 I.funs (-1) = whichM I.funs nm := by
 rw [lastM_cons I.funs 0 (names_nd h)]
 unfold whichM
 cases I.funs.findIdx? (fun f => f.name == nm) with
 | none => rfl
 | some j => simp
end Go.Proofs.YtbcpomdcmilpjaaDoor
namespace Go.Proofs.YtbcpomdcmilpjaaDoor
open Go.RowKit
def LeM (a b : Gm) : Prop := a.out <+: b.out ∧ a.ticks ≤ b.ticks
theorem LeM.refl (a : Gm) : LeM a a := ⟨List.prefix_refl _, Nat.le_refl _⟩
theorem LeM.trans {a b c : Gm} (h : LeM a b) (k : LeM b c) : LeM a c := ⟨h.1.trans k.1, Nat.le_trans h.2 k.2⟩
theorem stepM_run (I : Im) (most : Nat) (g : Gm) (f : Fm) (fs : List Fm) : stepM I most (.run g f fs) = match I.words[f.pc]? with | none => .halt hStuck 0 g | some v => doM I most g (f.go (f.pc + 1)) fs (decR v) := rfl
def Im.more (I : Im) (z : Mf) (v : Nat) : Im := ⟨I.funs ++ [z], I.words ++ [v]⟩
theorem funAt_more (I : Im) (z : Mf) (v : Nat) {k : Int} (h : k.toNat < I.funs.length) : funAt (I.more z v) k = funAt I k := by
 unfold funAt Im.more
 rw [List.getElem?_append_left h]
theorem enter_more (I : Im) (z : Mf) (v : Nat) (m : Nat) (g : Gm) (fs : List Fm) {k : Int} (h : k.toNat < I.funs.length) (args : List Int) (d : Nat) : enterM (I.more z v) m g fs k args d = enterM I m g fs k args d := by
 unfold enterM
 rw [funAt_more I z v h]
theorem do_more (I : Im) (z : Mf) (v : Nat) (m : Nat) (g : Gm) (f : Fm) (fs : List Fm) (i : Ci) (h : i.op = mCall → i.imm.toNat < I.funs.length) : doM (I.more z v) m g f fs i = doM I m g f fs i := by
 by_cases hc : i.op = mCall
 ·unfold doM
  rw [funAt_more I z v (h hc), enter_more I z v m g _ (h hc)]
 ·unfold doM
  simp only [if_neg hc]
theorem step_more (I : Im) (z : Mf) (v : Nat) (m : Nat) (hW : ∀ u ∈ I.words, (decR u).op = mCall → (decR u).imm.toNat < I.funs.length) (s : Sm) (h : ∀ g, stepM I m s ≠ .halt hStuck 0 g) : stepM (I.more z v) m s = stepM I m s := by
 cases s with
 | halt h v g => rfl
 | run g f fs =>
  rw [stepM_run] at h ⊢
  rw [stepM_run]
  cases e : I.words[f.pc]? with
  | none =>
   rw [e] at h
   exact absurd rfl (h g)
  | some u =>
   have hlt : f.pc < I.words.length := by
    rcases Nat.lt_or_ge f.pc I.words.length with h' | h'
    ·exact h'
    ·rw [List.getElem?_eq_none h'] at e; cases e
   have e' : (I.more z v).words[f.pc]? = some u := by
    unfold Im.more
    rw [List.getElem?_append_left hlt, e]
   rw [e']
   exact do_more I z v m g _ fs _ (hW u (List.mem_of_getElem? e))
theorem it_more (I : Im) (z : Mf) (v : Nat) (m : Nat) (hW : ∀ u ∈ I.words, (decR u).op = mCall → (decR u).imm.toNat < I.funs.length) (s : Sm) : ∀ n : Nat, (∀ g, itM I m n s ≠ .halt hStuck 0 g) → itM (I.more z v) m n s = itM I m n s
 | 0, _ => rfl
 | n + 1, h => by
  have hn : ∀ g, itM I m n s ≠ .halt hStuck 0 g := fun g e => h g (by rw [itM_one, e]; rfl)
  rw [itM_one, itM_one, it_more I z v m hW s n hn]
  exact step_more I z v m hW _ (fun g e => h g (by rw [itM_one]; exact e))
end Go.Proofs.YtbcpomdcmilpjaaDoor
namespace Go.Proofs.YtbcpomdcmilpjaaDoor
open Go.RowKit
def zzF : Mf := ⟨[122, 122], 0, 0, 0⟩
def tkW : Nat := (coNamed mTick).1 * 72057594037927936 + 0
theorem tkW_ins : insM tkW = 0 := by kernel_rfl
theorem tkW_op : (decR tkW).op = mTick := by kernel_rfl
theorem tkW_lt : tkW < 18446744073709551616 := by decide
theorem mfFrom_of {I : Im} : ∀ {l : List Mf} {i : Nat}, (∀ j (hj : j < l.length), funN I (i + j) l[j] = 0) → (mfFrom I i l).1 = 0
 | [], _, _ => rfl
 | f :: r, i, h => by
  unfold mfFrom
  have h0 : funN I i f = 0 := h 0 (by simp)
  rw [if_pos h0]
  refine mfFrom_of (fun j hj => ?_)
  have := h (j + 1) (by simpa using hj)
  rw [show i + 1 + j = i + (j + 1) from by omega]
  simpa using this
theorem wdFrom_of {I : Im} : ∀ {l : List Nat} {i : Nat}, (∀ v ∈ l, wdN I v = 0) → (wdFrom I i l).1 = 0
 | [], _, _ => rfl
 | v :: r, i, h => by
  unfold wdFrom
  rw [if_pos (h v List.mem_cons_self)]
  exact wdFrom_of (fun u hu => h u (List.mem_cons_of_mem _ hu))
theorem outM_more {I : Im} {z : Mf} {v : Nat} {op : List UInt8} {imm : Int} (h : outM (mostOf I op) imm = false) : outM (mostOf (I.more z v) op) imm = false := by
 unfold mostOf at h ⊢
 split
 ·next h1 =>
  rw [if_pos h1] at h
  simp only [outM, Im.more, List.length_append, List.length_cons, List.length_nil, decide_eq_false_iff_not] at h ⊢
  omega
 ·next h1 =>
  rw [if_neg h1] at h
  split
  ·next h2 =>
   rw [if_pos h2] at h
   simp only [outM, Im.more, List.length_append, List.length_cons, List.length_nil, decide_eq_false_iff_not] at h ⊢
   omega
  ·next h2 => rw [if_neg h2] at h; exact h
theorem imF_more {I : Im} (h : (imF I).1 = 0) (hf : I.funs.length < 8) (hw : I.words.length ≤ 200) (hz : ∀ f ∈ I.funs, f.name ≠ [122, 122]) : (imF (I.more zzF tkW)).1 = 0 := by
 have h1 : (mfFrom I 0 I.funs).1 = 0 ∧ (wdFrom I 0 I.words).1 = 0 := by
  unfold imF at h
  split at h
  ·exact absurd h (by decide)
  ·split at h
   ·rename_i h2; exact absurd h h2
   ·rename_i h2; exact ⟨Decidable.not_not.1 h2, h⟩
 have hfu := fun j (hj : j < I.funs.length) => mfFrom_zero h1.1 j hj
 have hwd := wdFrom_zero h1.2
 have hfl : (I.more zzF tkW).funs.length = I.funs.length + 1 := by simp [Im.more]
 have hwl : (I.more zzF tkW).words.length = I.words.length + 1 := by simp [Im.more]
 have hA : (mfFrom (I.more zzF tkW) 0 (I.more zzF tkW).funs).1 = 0 := by
  refine mfFrom_of (fun j hj => ?_)
  rw [Nat.zero_add]
  rcases Nat.lt_or_ge j I.funs.length with hl | hl
  ·have e : (I.more zzF tkW).funs[j] = I.funs[j] := by simp [Im.more, List.getElem_append_left hl]
   have et : (I.more zzF tkW).funs.take j = I.funs.take j := by simp only [Im.more]; exact List.take_append_of_le_length (by omega)
   have h2 := hfu j hl
   rw [Nat.zero_add] at h2
   unfold funN at h2 ⊢
   rw [e, et, hwl]
   split at h2
   ·exact absurd h2 (by decide)
   ·rename_i n1
    rw [if_neg n1]
    split at h2
    ·exact absurd h2 (by decide)
    ·rename_i n2
     rw [if_neg n2]
     split at h2
     ·exact absurd h2 (by decide)
     ·rename_i n3
      rw [if_neg (by omega)]
  ·have hje : j = I.funs.length := by omega
   subst hje
   have e : (I.more zzF tkW).funs[I.funs.length] = zzF := by simp [Im.more]
   have et : (I.more zzF tkW).funs.take I.funs.length = I.funs := by simp [Im.more]
   unfold funN
   rw [e, et, hwl]
   rw [if_neg, if_neg, if_neg]
   ·show ¬ ((0 : Int) < 0 ∨ (1000 : Int) < 0 ∨ (0 : Int) < 0 ∨ ((I.words.length + 1 : Nat) : Int) ≤ 0)
    omega
   ·show ¬ ((0 : Int) < 0 ∨ (4 : Int) < 0)
    omega
   ·rintro (e1 | e1)
    ·cases e1
    ·obtain ⟨f, hf1, hf2⟩ := List.mem_map.1 e1
     exact hz f hf1 hf2
 have hB : (wdFrom (I.more zzF tkW) 0 (I.more zzF tkW).words).1 = 0 := by
  refine wdFrom_of (fun v hv => ?_)
  have hv2 : v ∈ I.words ++ [tkW] := hv
  rcases List.mem_append.1 hv2 with hv2 | hv2
  ·have h2 := hwd v hv2
   unfold wdN at h2 ⊢
   split at h2
   ·rename_i h3; exact absurd h2 h3
   ·rename_i h3
    rw [if_neg h3]
    split at h2
    ·cases h2
    ·rename_i h4
     rw [if_neg]
     rw [outM_more (by simpa using h4)]
     decide
  ·rw [List.mem_singleton.1 hv2]
   unfold wdN
   rw [tkW_ins, tkW_op, if_neg (by decide), if_neg]
   unfold mostOf
   rw [if_neg (by decide), if_neg (by decide), if_neg (by decide), if_neg (by decide)]
   decide
 unfold imF
 rw [if_neg (by rw [hfl, hwl]; omega), if_neg (by rw [hA]; decide)]
 exact hB
theorem which_more {I : Im} {nm : List UInt8} {z : Mf} {v q : Nat} (h : whichM I.funs nm = (q : Int)) : whichM (I.more z v).funs nm = (q : Int) := by
 unfold whichM at h ⊢
 show (match (I.funs ++ [z]).findIdx? (fun f => f.name == nm) with | some i => (i : Int) | none => -1) = _
 rw [List.findIdx?_append]
 cases e : I.funs.findIdx? (fun f => f.name == nm) with
 | none => rw [e] at h; simp only at h; omega
 | some i => rw [e] at h; exact h
theorem more_one {I : Im} {z : Mf} {v t : Nat} {S0 : Sm} {how how2 : List UInt8} {x x2 : Int} {g g2 : Gm} (hW : WellI I) (h : EndO I t 20000 S0 how x g) (hl : how ≠ hLong) (hs : how ≠ hStuck) (h2 : EndM (I.more z v) t S0 how2 x2 g2) : how2 = how ∧ x2 = x ∧ g2 = g := by
 have hc : ∀ u ∈ I.words, (decR u).op = mCall → (decR u).imm.toNat < I.funs.length := fun u hu e => by
  have := (hW.words u hu).call e
  omega
 rcases h with h | ⟨h, _⟩
 ·have hm : itM (I.more z v) t 20000 S0 = .halt how x g := by
   rw [it_more I z v t hc S0 20000 (fun g3 e => by rw [h] at e; injection e with e1; exact hs e1)]
   exact h
  rcases h2 with ⟨n, h2⟩ | ⟨_, _, g1, f1, fs1, h2⟩
  ·exact itM_same h2 hm
  ·rw [itM_stay hm (by omega)] at h2; cases h2
 ·exact absurd h hl
end Go.Proofs.YtbcpomdcmilpjaaDoor
