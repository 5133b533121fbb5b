/- Our own: texts joined: GrFlowM, GrUsersM. -/
import Derived.Test.YtlgejjmdanmglaaGreatDoorVGMath
namespace Go.Proofs.YtlgejjmdanmglaaGreatDoor
def tkStep (n : Nd) (j : Nat) (t : List (Nat × Nat)) (k : Nat) : List (Nat × Nat) := if dueS (shp n.kind) k = 119 then t.set (n.ins.getD k 0).toNat (j, k) else t
def tkRow (n : Nd) (j : Nat) (t : List (Nat × Nat)) (m : Nat) : List (Nat × Nat) := (List.range m).foldl (tkStep n j) t
def tkI (L : List Nd) : Nat → List (Nat × Nat)
 | 0 => List.replicate L.length (0, 0)
 | i + 1 => tkRow (ndAt L i) i (tkI L i) (ndAt L i).ins.length
def ysI (kd : List UInt8) (L : List Nd) : Nat → List Nat
 | 0 => List.replicate L.length 0
 | i + 1 => if (ndAt L i).kind = kd then (ysI kd L i).set ((ndAt L i).ins.getD 0 0).toNat i else ysI kd L i
def phI (L : List Nd) : Nat → List (List Nat)
 | 0 => List.replicate L.length []
 | i + 1 => if (ndAt L i).kind = gPhi then (phI L i).set ((ndAt L i).ins.getD 0 0).toNat ((phI L i).getD ((ndAt L i).ins.getD 0 0).toNat [] ++ [i]) else phI L i
theorem tkRow_succ (n : Nd) (j : Nat) (t : List (Nat × Nat)) (m : Nat) : tkRow n j t (m + 1) = tkStep n j (tkRow n j t m) m := by simp [tkRow, List.range_succ]
theorem tkStep_len (n : Nd) (j : Nat) (t : List (Nat × Nat)) (k : Nat) : (tkStep n j t k).length = t.length := by unfold tkStep; split <;> simp
theorem tkRow_len (n : Nd) (j : Nat) (t : List (Nat × Nat)) : ∀ m, (tkRow n j t m).length = t.length
 | 0 => rfl
 | m + 1 => by rw [tkRow_succ, tkStep_len, tkRow_len n j t m]
theorem tkI_len (L : List Nd) : ∀ i, (tkI L i).length = L.length
 | 0 => by simp [tkI]
 | i + 1 => by rw [tkI, tkRow_len, tkI_len L i]
theorem ysI_len (kd : List UInt8) (L : List Nd) : ∀ i, (ysI kd L i).length = L.length
 | 0 => by simp [ysI]
 | i + 1 => by unfold ysI; split <;> simp [ysI_len kd L i]
theorem phI_len (L : List Nd) : ∀ i, (phI L i).length = L.length
 | 0 => by simp [phI]
 | i + 1 => by unfold phI; split <;> simp [phI_len L i]
section
variable {ones twos : List (List UInt8)} {P : Int} {L : List Nd}
theorem due_way {i : Nat} {n : Nd} (W : NodeW ones twos P L i n) {k : Nat} (hk : k < n.ins.length) : dueS (shp n.kind) k = 119 ↔ k < waysN n ∧ n.kind ≠ gYes ∧ n.kind ≠ gNo := by
 obtain ⟨f1, f2, f3, f4, f5, f6, f7, f8, f9, f10, f11, f12, f13, f14⟩ := fits_len W.fits
 have hne := W.nonempty
 have hkk := W.kind
 unfold waysN
 generalize n.ins = l at *
 generalize n.kind = kd at *
 rcases kind_cases kd with rfl | rfl | rfl | rfl | rfl | rfl | rfl | rfl | rfl | rfl | rfl | rfl | rfl | rfl | ⟨e, _⟩
 ·rw [f1 rfl] at hk; simp at hk
 ·rw [f2 rfl] at hk; simp at hk
 ·rw [f3 rfl] at hk; simp at hk
 ·have : k = 0 := by have := f4 rfl; omega
  subst this; rw [if_neg (by decide)]; decide
 ·have : k = 0 ∨ k = 1 := by have := f5 rfl; omega
  rcases this with rfl | rfl <;> (rw [if_neg (by decide)]; decide)
 ·have h0 : ¬ dueS (shp gPhi) k = 119 := by
   rcases Nat.eq_zero_or_pos k with rfl | h
   ·decide
   ·rw [due_more (c := 1) (m := 118) rfl rfl k h]; decide
  constructor
  ·exact fun h => absurd h h0
  ·rintro ⟨h, _⟩
   have e : (if gPhi = gRegion then l.length else if gPhi = gIf ∨ gPhi = gPrint ∨ gPhi = gReturn ∨ gPhi = gCall ∨ gPhi = gTick ∨ gPhi = gYes ∨ gPhi = gNo then 1 else 0) = 0 := by rw [if_neg (by decide), if_neg (by decide)]
   rw [e] at h; omega
 ·rw [due_region]
  constructor
  ·intro _; rw [if_pos rfl]; exact ⟨hk, by decide, by decide⟩
  ·intro _; rfl
 ·have : k = 0 ∨ k = 1 := by have := f8 rfl; omega
  rcases this with rfl | rfl <;> (rw [if_neg (by decide)]; decide)
 ·have : k = 0 := by have := f9 rfl; omega
  subst this; rw [if_neg (by decide)]; decide
 ·have : k = 0 := by have := f10 rfl; omega
  subst this; rw [if_neg (by decide)]; decide
 ·have : k = 0 := by have := f11 rfl; omega
  subst this; rw [if_neg (by decide)]; decide
 ·have : k = 0 ∨ k = 1 := by have := f12 rfl; omega
  rcases this with rfl | rfl <;> (rw [if_neg (by decide)]; decide)
 ·rcases Nat.eq_zero_or_pos k with rfl | h
  ·rw [if_neg (by decide)]; decide
  ·rw [due_more (c := 1) (m := 118) rfl rfl k h]
   constructor
   ·intro h'; exact absurd h' (by decide)
   ·rintro ⟨h', _⟩
    rw [if_neg (by decide), if_pos (by decide)] at h'
    omega
 ·have : k = 0 ∨ k = 1 := by have := f14 rfl; omega
  rcases this with rfl | rfl <;> (rw [if_neg (by decide)]; decide)
 ·rw [e] at hkk; exact absurd hkk.symm hne
theorem ins_get {n : Nd} {k : Nat} (hk : k < n.ins.length) : n.ins[k]? = some (n.ins.getD k 0) := by simp [hk]
theorem tkStep_at (hW : WellG ones twos P L) {a : Nat} (ha : a < L.length) (hw : isWay (ndAt L a).kind) {j k : Nat} (hs : Spot L a j k) {i m : Nat} (hi : i < L.length) (hm : m < (ndAt L i).ins.length) (t : List (Nat × Nat)) (ht : t.length = L.length) :
  (tkStep (ndAt L i) i t m)[a]? = if i = j ∧ m = k then some (j, k) else t[a]? := by
 have hx := ndAt_ex hi
 have W := hW.node.at hx
 have hg := ins_get hm
 have hb := W.bnd _ (List.mem_of_getElem? hg)
 unfold tkStep
 by_cases hd : dueS (shp (ndAt L i).kind) m = 119
 ·rw [if_pos hd]
  have hdw := (due_way W hm).1 hd
  by_cases hv : (ndAt L i).ins.getD m 0 = (a : Int)
  ·have hsp : Spot L a i m := ⟨_, hx, hdw.1, by rw [hg, hv]⟩
   obtain ⟨e1, e2⟩ := spot_one (way_len hW ha hw) hs hsp
   subst e1 e2
   rw [if_pos ⟨rfl, rfl⟩, hv, Int.toNat_natCast, List.getElem?_set_self (by omega)]
  ·rw [List.getElem?_set_ne (by omega), if_neg]
   rintro ⟨rfl, rfl⟩
   obtain ⟨n, h1, _, h3⟩ := hs
   rw [hx] at h1; injection h1 with h1
   rw [← h1, hg] at h3; injection h3 with h3
   exact hv h3
 ·rw [if_neg hd, if_neg]
  rintro ⟨rfl, rfl⟩
  have hk := spot_kind hW hs
  obtain ⟨n, h1, h2, h3⟩ := hs
  rw [hx] at h1; injection h1 with h1
  subst h1
  refine hd ((due_way W hm).2 ⟨h2, fun e => ?_, fun e => ?_⟩)
  ·rw [if_pos (Or.inl e)] at hk; rw [hk] at hw; exact if_noway hw
  ·rw [if_pos (Or.inr e)] at hk; rw [hk] at hw; exact if_noway hw
theorem tkRow_at (hW : WellG ones twos P L) {a : Nat} (ha : a < L.length) (hw : isWay (ndAt L a).kind) {j k : Nat} (hs : Spot L a j k) {i : Nat} (hi : i < L.length) (t : List (Nat × Nat)) (ht : t.length = L.length) :
  ∀ m, m ≤ (ndAt L i).ins.length → (tkRow (ndAt L i) i t m)[a]? = if i = j ∧ k < m then some (j, k) else t[a]?
 | 0, _ => by rw [if_neg (by omega)]; rfl
 | m + 1, hm => by
  rw [tkRow_succ, tkStep_at hW ha hw hs hi (by omega) _ (by rw [tkRow_len, ht]), tkRow_at hW ha hw hs hi t ht m (by omega)]
  by_cases e : i = j
  ·subst e
   by_cases e2 : m = k
   ·subst e2; rw [if_pos ⟨rfl, rfl⟩, if_pos ⟨rfl, by omega⟩]
   ·rw [if_neg (by omega)]
    by_cases e3 : k < m
    ·rw [if_pos ⟨rfl, e3⟩, if_pos ⟨rfl, by omega⟩]
    ·rw [if_neg (by omega), if_neg (by omega)]
  ·rw [if_neg (by omega), if_neg (by omega), if_neg (by omega)]
theorem tkI_at (hW : WellG ones twos P L) {a : Nat} (ha : a < L.length) (hw : isWay (ndAt L a).kind) {j k : Nat} (hs : Spot L a j k) :
  ∀ i, i ≤ L.length → (tkI L i)[a]? = if j < i then some (j, k) else some (0, 0)
 | 0, _ => by rw [if_neg (by omega), tkI, List.getElem?_replicate, if_pos ha]
 | i + 1, hi => by
  rw [tkI, tkRow_at hW ha hw hs (by omega) _ (tkI_len L i) _ (Nat.le_refl _), tkI_at hW ha hw hs i (by omega)]
  obtain ⟨n, h1, _, h3⟩ := hs
  by_cases e : i = j
  ·subst e
   have : k < (ndAt L i).ins.length := by rw [ndAt_of h1]; exact lt_of_at h3
   rw [if_pos ⟨rfl, this⟩, if_pos (by omega)]
  ·rw [if_neg (by omega)]
   by_cases e2 : j < i
   ·rw [if_pos e2, if_pos (by omega)]
   ·rw [if_neg e2, if_neg (by omega)]
theorem tk_is (hW : WellG ones twos P L) {a : Nat} (ha : a < L.length) (hw : isWay (ndAt L a).kind) {j k : Nat} (hs : Spot L a j k) : (tkI L L.length)[a]? = some (j, k) := by
 rw [tkI_at hW ha hw hs _ (Nat.le_refl _), if_pos]
 obtain ⟨n, h1, _⟩ := hs
 exact lt_of_at h1
theorem yes_tak (hW : WellG ones twos P L) {kd : List UInt8} (hkd : kd = gYes ∨ kd = gNo) {j : Nat} (hj : j < L.length) (hk : (ndAt L j).kind = kd) : ∃ i : Nat, i < L.length ∧ (ndAt L j).ins.getD 0 0 = (i : Int) ∧ (ndAt L i).kind = gIf ∧ j ∈ takL L i := by
 have hx := ndAt_ex hj
 have W := hW.node.at hx
 obtain ⟨f1, f2, f3, f4, f5, f6, f7, f8, f9, f10, f11, f12, f13, f14⟩ := fits_len W.fits
 have hl : (ndAt L j).ins.length = 1 := by rcases hkd with rfl | rfl; exact f9 hk; exact f10 hk
 have hg := ins_get (n := ndAt L j) (k := 0) (by omega)
 have hb := W.bnd _ (List.mem_of_getElem? hg)
 have hsp : Spot L ((ndAt L j).ins.getD 0 0).toNat j 0 := by
  refine ⟨_, hx, ?_, ?_⟩
  ·unfold waysN
   rw [if_neg (by rw [hk]; rcases hkd with rfl | rfl <;> decide), if_pos (by rw [hk]; rcases hkd with rfl | rfl <;> decide)]; decide
  ·rw [hg]; congr 1; omega
 have hkk := spot_kind hW hsp
 rw [if_pos (by rw [hk]; exact hkd)] at hkk
 exact ⟨_, by omega, by omega, hkk, spot_mem hsp⟩
theorem yes_one (hW : WellG ones twos P L) {kd : List UInt8} (hkd : kd = gYes ∨ kd = gNo) {i : Nat} (hi : i < L.length) (hf : (ndAt L i).kind = gIf) : ∃ y, y ∈ takL L i ∧ (ndAt L y).kind = kd ∧ ∀ x, x ∈ takL L i → (ndAt L x).kind = kd → x = y := by
 have h1 := hW.tak i hi
 unfold tkC at h1
 have hc := tk_if hW.node (a := i) kd hkd
 have hone : (keysL L).count ((i : Int), kd) = 1 := by
  simp only [hf] at h1
  have e2 : (shp gIf).gives = [105] := by decide
  rcases hkd with rfl | rfl
  ·exact Classical.not_not.1 fun h => absurd h1 (by simp [e2, h])
  ·exact Classical.not_not.1 fun h => absurd h1 (by simp [e2, h])
 rw [hone] at hc
 obtain ⟨y, hy⟩ := List.length_eq_one_iff.1 hc.symm
 have hmem : ∀ x, x ∈ (takL L i).filter (fun (x : Nat) => (ndAt L (x : Int)).kind = kd) ↔ x = y := fun x => by rw [hy]; simp
 have hy' := (hmem y).2 rfl
 rw [List.mem_filter] at hy'
 exact ⟨y, hy'.1, by simpa using hy'.2, fun x h2 h3 => (hmem x).1 (List.mem_filter.2 ⟨h2, by simpa using h3⟩)⟩
theorem ysI_at (hW : WellG ones twos P L) {kd : List UInt8} (hkd : kd = gYes ∨ kd = gNo) {a y : Nat} (hf : (ndAt L a).kind = gIf) (hy : y ∈ takL L a) (hyk : (ndAt L y).kind = kd) (hu : ∀ x, x ∈ takL L a → (ndAt L x).kind = kd → x = y) (ha : a < L.length) :
  ∀ i, i ≤ L.length → (ysI kd L i)[a]? = if y < i then some y else some 0
 | 0, _ => by rw [if_neg (by omega), ysI, List.getElem?_replicate, if_pos ha]
 | i + 1, hi => by
  have ih := ysI_at hW hkd hf hy hyk hu ha i (by omega)
  unfold ysI
  split
  ·next e =>
   obtain ⟨b, h1, h2, h3, h4⟩ := yes_tak hW hkd (j := i) (by omega) e
   rw [h2, Int.toNat_natCast]
   by_cases hab : b = a
   ·subst hab
    have := hu i h4 e
    subst this
    rw [List.getElem?_set_self (by rw [ysI_len]; exact h1), if_pos (by omega)]
   ·rw [List.getElem?_set_ne hab, ih]
    have hne : i ≠ y := fun e' => by
     subst e'
     obtain ⟨k, n, g1, g2, g3⟩ := mem_spot hy
     have hl := ndAt_of g1
     have hl1 : n.ins.length = 1 := by
      obtain ⟨f1, f2, f3, f4, f5, f6, f7, f8, f9, f10, f11, f12, f13, f14⟩ := fits_len (hW.node.at g1).fits
      rw [hl] at hyk
      rcases hkd with rfl | rfl; exact f9 hyk; exact f10 hyk
     have hk0 : k = 0 := by have := lt_of_at g3; omega
     subst hk0
     rw [hl, List.getD_eq_getElem?_getD, g3] at h2
     simp at h2; omega
    by_cases h5 : y < i
    ·rw [if_pos h5, if_pos (by omega)]
    ·rw [if_neg h5, if_neg (by omega)]
  ·next e =>
   have hne : i ≠ y := fun e' => by subst e'; exact e hyk
   rw [ih]
   by_cases h5 : y < i
   ·rw [if_pos h5, if_pos (by omega)]
   ·rw [if_neg h5, if_neg (by omega)]
theorem ys_is (hW : WellG ones twos P L) {kd : List UInt8} (hkd : kd = gYes ∨ kd = gNo) {a : Nat} (ha : a < L.length) (hf : (ndAt L a).kind = gIf) (x : Nat) : (x ∈ takL L a ∧ (ndAt L x).kind = kd) ↔ x = (ysI kd L L.length).getD a 0 := by
 obtain ⟨y, h1, h2, h3⟩ := yes_one hW hkd ha hf
 have hy : y < L.length := tk_lt (L := L) (a := a) h1
 have h4 := ysI_at hW hkd hf h1 h2 h3 ha L.length (Nat.le_refl _)
 rw [if_pos hy] at h4
 rw [List.getD_eq_getElem?_getD, h4, Option.getD_some]
 constructor
 ·rintro ⟨h5, h6⟩; exact h3 x h5 h6
 ·rintro rfl; exact ⟨h1, h2⟩
theorem if_beh (hW : WellG ones twos P L) {a : Nat} (ha : a < L.length) (hf : (ndAt L a).kind = gIf) (x : Nat) : x ∈ takL L a ↔ x = (ysI gYes L L.length).getD a 0 ∨ x = (ysI gNo L L.length).getD a 0 := by
 rw [← ys_is hW (Or.inl rfl) ha hf, ← ys_is hW (Or.inr rfl) ha hf]
 constructor
 ·intro h
  rcases tak_if hW.node hf h with h' | h'
  ·exact Or.inl ⟨h, h'⟩
  ·exact Or.inr ⟨h, h'⟩
 ·rintro (h | h)
  ·exact h.1
  ·exact h.1
def phiOf (L : List Nd) (r p : Nat) : Bool := decide ((ndAt L p).kind = gPhi) && decide ((ndAt L p).ins[0]? = some (r : Int))
theorem phI_at (hW : WellG ones twos P L) {r : Nat} (hr : r < L.length) : ∀ i, i ≤ L.length → (phI L i)[r]? = some ((List.range i).filter (phiOf L r))
 | 0, _ => by rw [phI, List.getElem?_replicate, if_pos hr]; rfl
 | i + 1, hi => by
  have ih := phI_at hW hr i (by omega)
  rw [List.range_succ, List.filter_append]
  unfold phI
  split
  ·next e =>
   obtain ⟨r', h1, h2, _, _⟩ := phi_region hW (ndAt_ex (j := i) (by omega)) e
   have h3 : (ndAt L i).ins.getD 0 0 = (r' : Int) := by rw [List.getD_eq_getElem?_getD, h1]; rfl
   rw [h3, Int.toNat_natCast]
   by_cases er : r' = r
   ·subst er
    rw [List.getElem?_set_self (by rw [phI_len]; exact hr), List.getD_eq_getElem?_getD, ih, Option.getD_some]
    have : phiOf L r' i = true := by unfold phiOf; simp [e, h1]
    rw [List.filter_cons_of_pos this]; rfl
   ·rw [List.getElem?_set_ne er, ih]
    have : ¬ phiOf L r i = true := by unfold phiOf; simp [e, h1]; omega
    rw [List.filter_cons_of_neg this]; simp
  ·next e =>
   rw [ih]
   have : ¬ phiOf L r i = true := by unfold phiOf; simp [e]
   rw [List.filter_cons_of_neg this]; simp
theorem phI_few (hW : WellG ones twos P L) (i : Nat) (hi : i ≤ L.length) (r : Nat) : ((phI L i).getD r []).length ≤ 1000 := by
 rcases Nat.lt_or_ge r L.length with hr | hr
 ·rw [List.getD_eq_getElem?_getD, phI_at hW hr i hi, Option.getD_some]
  refine Nat.le_trans (List.length_filter_le _ _) ?_
  have := hW.len.2
  rw [List.length_range]; omega
 ·rw [List.getD_eq_getElem?_getD, List.getElem?_eq_none (by rw [phI_len]; exact hr)]; simp
theorem ph_is (hW : WellG ones twos P L) {r : Nat} (hr : r < L.length) : (phI L L.length)[r]? = some ((List.range L.length).filter (phiOf L r)) := phI_at hW hr _ (Nat.le_refl _)
theorem mem_phi {r p : Nat} : p ∈ (List.range L.length).filter (phiOf L r) ↔ p < L.length ∧ (ndAt L p).kind = gPhi ∧ (ndAt L p).ins[0]? = some (r : Int) := by
 rw [List.mem_filter, List.mem_range]; unfold phiOf; simp
def askL (L : List Nd) (j k : Nat) : List Int := if (ndAt L j).kind = gRegion then ((List.range L.length).filter (phiOf L j)).map (fun (q : Nat) => (ndAt L (q : Int)).ins.getD (1 + k) 0) else (ndAt L j).ins.drop 1
theorem phis_len (hW : WellG ones twos P L) {j k a : Nat} (hs : Spot L a j k) {q : Nat} (hq : q ∈ (List.range L.length).filter (phiOf L j)) : q < L.length ∧ 1 + k < (ndAt L q).ins.length := by
 obtain ⟨h1, h2, h3⟩ := mem_phi.1 hq
 obtain ⟨r, e1, e2, e3, e4⟩ := phi_region hW (ndAt_ex h1) h2
 rw [h3] at e1; injection e1 with e1
 have e1 : j = r := by omega
 subst e1
 obtain ⟨n, g1, g2, g3⟩ := hs
 rw [ndAt_of g1] at e4
 have := lt_of_at g3
 exact ⟨h1, by omega⟩
theorem askL_iff (hW : WellG ones twos P L) {j k a : Nat} (hs : Spot L a j k) (v : Int) : v ∈ askL L j k ↔ AskAt L j k v := by
 unfold askL AskAt
 split
 ·next e =>
  rw [List.mem_map]
  constructor
  ·rintro ⟨q, h1, h2⟩
   have hl := phis_len hW hs h1
   obtain ⟨h3, h4, h5⟩ := mem_phi.1 h1
   refine ⟨q, _, ndAt_ex h3, h4, h5, ?_⟩
   rw [← h2, show k + 1 = 1 + k by omega, ins_get hl.2]
  ·rintro ⟨p, n, h1, h2, h3, h4⟩
   have hp := lt_of_at h1
   have hn := ndAt_of h1
   refine ⟨p, mem_phi.2 ⟨hp, by rw [hn]; exact h2, by rw [hn]; exact h3⟩, ?_⟩
   rw [hn, List.getD_eq_getElem?_getD, show 1 + k = k + 1 by omega, h4]; rfl
 ·next e =>
  rw [List.mem_iff_getElem?]
  constructor
  ·rintro ⟨q, hq⟩
   rw [List.getElem?_drop] at hq
   exact ⟨q, by rw [show q + 1 = 1 + q by omega]; exact hq⟩
  ·rintro ⟨q, hq⟩
   exact ⟨q, by rw [List.getElem?_drop, show 1 + q = q + 1 by omega]; exact hq⟩
end
end Go.Proofs.YtlgejjmdanmglaaGreatDoor
namespace Go.Proofs.YtlgejjmdanmglaaGreatDoor
def usStep (i : Nat) (u : List (List Nat)) (x : Int) : List (List Nat) := u.set x.toNat (u.getD x.toNat [] ++ [i])
def usRow (i : Nat) (u : List (List Nat)) (l : List Int) : List (List Nat) := l.foldl (usStep i) u
def usI (L : List Nd) : Nat → List (List Nat)
 | 0 => List.replicate L.length []
 | i + 1 => usRow i (usI L i) (reck L i)
theorem usRow_snoc (i : Nat) (u : List (List Nat)) (l : List Int) (x : Int) : usRow i u (l ++ [x]) = usStep i (usRow i u l) x := by simp [usRow]
theorem usStep_len (i : Nat) (u : List (List Nat)) (x : Int) : (usStep i u x).length = u.length := by simp [usStep]
theorem usRow_len (i : Nat) : ∀ (l : List Int) (u : List (List Nat)), (usRow i u l).length = u.length
 | [], _ => rfl
 | x :: l, u => by show (usRow i (usStep i u x) l).length = _; rw [usRow_len i l, usStep_len]
theorem usI_len (L : List Nd) : ∀ i, (usI L i).length = L.length
 | 0 => by simp [usI]
 | i + 1 => by rw [usI, usRow_len, usI_len L i]
def usSum (u : List (List Nat)) : Nat := (u.map List.length).sum
theorem usSum_set : ∀ (u : List (List Nat)) (k i : Nat), usSum (u.set k (u.getD k [] ++ [i])) ≤ usSum u + 1
 | [], _, _ => by simp [usSum]
 | l :: u, 0, i => by simp [usSum]; omega
 | l :: u, k + 1, i => by
  have := usSum_set u k i
  simp only [usSum, List.set_cons_succ, List.map_cons, List.sum_cons, List.getD_cons_succ] at this ⊢
  omega
theorem usRow_sum (i : Nat) : ∀ (l : List Int) (u : List (List Nat)), usSum (usRow i u l) ≤ usSum u + l.length
 | [], _ => Nat.le_refl _
 | x :: l, u => by
  have h1 := usRow_sum i l (usStep i u x)
  have h2 := usSum_set u x.toNat i
  show usSum (usRow i (usStep i u x) l) ≤ _
  unfold usStep at h1 ⊢
  simp only [List.length_cons]; omega
theorem usSum_rep (n : Nat) : usSum (List.replicate n []) = 0 := by simp [usSum]
theorem usSum_mem : ∀ {u : List (List Nat)} {l : List Nat}, l ∈ u → l.length ≤ usSum u
 | [], _, h => absurd h (by simp)
 | a :: u, l, h => by
  simp only [usSum, List.map_cons, List.sum_cons]
  rcases List.mem_cons.1 h with rfl | h
  ·omega
  ·have := usSum_mem h; unfold usSum at this; omega
theorem usI_sum (L : List Nd) (hR : ∀ i, (reck L i).length ≤ 2) : ∀ i, usSum (usI L i) ≤ 2 * i
 | 0 => by rw [usI, usSum_rep]; omega
 | i + 1 => by
  have h1 := usI_sum L hR i
  have h2 := usRow_sum i (reck L i) (usI L i)
  have h3 := hR i
  rw [usI]; omega
theorem mem_usStep {i : Nat} {u : List (List Nat)} {x : Int} (h0 : 0 ≤ x) (hx : x.toNat < u.length) (a y : Nat) : y ∈ (usStep i u x).getD a [] ↔ y ∈ u.getD a [] ∨ (y = i ∧ (a : Int) = x) := by
 unfold usStep
 by_cases e : x.toNat = a
 ·subst e
  rw [List.getD_eq_getElem?_getD, List.getElem?_set_self hx, Option.getD_some, List.mem_append, List.mem_singleton]
  constructor
  ·rintro (h | h)
   ·exact Or.inl h
   ·exact Or.inr ⟨h, by omega⟩
  ·rintro (h | h)
   ·exact Or.inl h
   ·exact Or.inr h.1
 ·rw [List.getD_eq_getElem?_getD, List.getElem?_set_ne e, ← List.getD_eq_getElem?_getD]
  constructor
  ·exact Or.inl
  ·rintro (h | h)
   ·exact h
   ·omega
theorem mem_usRow (i : Nat) (a y : Nat) : ∀ (l : List Int) (u : List (List Nat)), (∀ x ∈ l, 0 ≤ x ∧ x < (u.length : Int)) → (y ∈ (usRow i u l).getD a [] ↔ y ∈ u.getD a [] ∨ (y = i ∧ (a : Int) ∈ l))
 | [], _, _ => by simp [usRow]
 | x :: l, u, h => by
  have hx := h x (by simp)
  show y ∈ (usRow i (usStep i u x) l).getD a [] ↔ _
  rw [mem_usRow i a y l _ (fun z hz => by rw [usStep_len]; exact h z (by simp [hz])), mem_usStep hx.1 (by omega), List.mem_cons]
  constructor
  ·rintro ((h | h) | h)
   ·exact Or.inl h
   ·exact Or.inr ⟨h.1, Or.inl h.2⟩
   ·exact Or.inr ⟨h.1, Or.inr h.2⟩
  ·rintro (h | ⟨h1, h2 | h2⟩)
   ·exact Or.inl (Or.inl h)
   ·exact Or.inl (Or.inr ⟨h1, h2⟩)
   ·exact Or.inr ⟨h1, h2⟩
theorem mem_usI {L : List Nd} (hB : ∀ i, ∀ x ∈ reck L i, 0 ≤ x ∧ x < (L.length : Int)) (a y : Nat) : ∀ i, y ∈ (usI L i).getD a [] ↔ y < i ∧ Rk L y a
 | 0 => by
  rw [usI, List.getD_eq_getElem?_getD, List.getElem?_replicate]
  split <;> simp
 | i + 1 => by
  rw [usI, mem_usRow i a y _ _ (fun x hx => by rw [usI_len]; exact hB i x hx), mem_usI hB a y i]
  unfold Rk
  constructor
  ·rintro (h | ⟨rfl, h⟩)
   ·exact ⟨by omega, h.2⟩
   ·exact ⟨by omega, h⟩
  ·rintro ⟨h1, h2⟩
   by_cases e : y = i
   ·subst e; exact Or.inr ⟨rfl, h2⟩
   ·exact Or.inl ⟨by omega, h2⟩
section
variable {ones twos : List (List UInt8)} {P : Int} {L : List Nd}
theorem reck_bnd (hW : WellG ones twos P L) (i : Nat) : ∀ x ∈ reck L i, 0 ≤ x ∧ x < (L.length : Int) := by
 intro x hx
 unfold reck at hx
 rcases Nat.lt_or_ge i L.length with hi | hi
 ·have W := hW.node.at (ndAt_ex hi)
  split at hx
  ·exact W.bnd x hx
  ·simp at hx
 ·have : ndAt L (i : Int) = ⟨[], [], 0, []⟩ := by simp [ndAt, hi]
  rw [this] at hx
  simp at hx
theorem reck_two (hW : WellG ones twos P L) (i : Nat) : (reck L i).length ≤ 2 := by
 unfold reck
 rcases Nat.lt_or_ge i L.length with hi | hi
 ·have W := hW.node.at (ndAt_ex hi)
  obtain ⟨f1, f2, f3, f4, f5, f6, f7, f8, f9, f10, f11, f12, f13, f14⟩ := fits_len W.fits
  split
  ·next e =>
   rcases e with e | e
   ·have := f4 e; omega
   ·have := f5 e; omega
  ·simp
 ·have : ndAt L (i : Int) = ⟨[], [], 0, []⟩ := by simp [ndAt, hi]
  rw [this]; simp
theorem us_mem (hW : WellG ones twos P L) (a y : Nat) : y ∈ (usI L L.length).getD a [] ↔ y < L.length ∧ Rk L y a := mem_usI (reck_bnd hW) a y _
theorem us_few (hW : WellG ones twos P L) (a : Nat) : ((usI L L.length).getD a []).length ≤ 2000 := by
 have h1 := usI_sum L (reck_two hW) L.length
 have h2 := hW.len.2
 rcases Nat.lt_or_ge a (usI L L.length).length with h | h
 ·have := usSum_mem (List.getElem_mem h)
  rw [List.getD_eq_getElem?_getD, List.getElem?_eq_getElem h, Option.getD_some]; omega
 ·rw [List.getD_eq_getElem?_getD, List.getElem?_eq_none h]; simp
end
end Go.Proofs.YtlgejjmdanmglaaGreatDoor
