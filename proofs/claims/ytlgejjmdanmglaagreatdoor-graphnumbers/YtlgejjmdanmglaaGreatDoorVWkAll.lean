/- Our own: texts joined: GrVals, ValMap, GrWk, GrReckon. -/
import Derived.Test.YtlgejjmdanmglaaGreatDoorVGrAsk
import Derived.Test.YtlgejjmdanmglaaGreatDoorVFlowM
import Derived.Test.YtlgejjmdanmglaaGreatDoorVGrCirc
import Derived.Test.YtlgejjmdanmglaaGreatDoorVMathVal
import Derived.Test.YtlgejjmdanmglaaGreatDoorVPileAll
import Derived.Test.YtlgejjmdanmglaaGreatDoorVGrRec
import Derived.Test.YtlgejjmdanmglaaGreatDoorVAskedAll
import Derived.BigQuiet
import Derived.Deep.QuietTactic
namespace Go.Proofs.YtlgejjmdanmglaaGreatDoor
open Go.RowKit
def oneV (m : List UInt8) (a : Int) : Int := if m = [45] then wrap64 (-a) else vBit (a = 0)
def twoV (m : List UInt8) (a b : Int) : Int := vOp ⟨m.toArray⟩ a b
def stepV (L : List Nd) (args : List Int) (got res : Nat → Option Int) (i : Nat) : Option Int :=
 if (ndAt L i).kind = gParam then some (args.getD (ndAt L i).num.toNat 0)
 else if (ndAt L i).kind = gConst then some (ndAt L i).num
 else if (ndAt L i).kind = gPhi ∨ (ndAt L i).kind = gCall then got i
 else (askX res (natL (reck L i))).map fun vs => if (ndAt L i).kind = gOne then oneV (ndAt L i).name (vs.getD 0 0) else twoV (ndAt L i).name (vs.getD 0 0) (vs.getD 1 0)
def IsVal (L : List Nd) (args : List Int) (got res : Nat → Option Int) : Prop := ∀ i, i < L.length → res i = stepV L args got res i
theorem askX_congr {r s : Nat → Option Int} : ∀ {l : List Nat}, (∀ i ∈ l, r i = s i) → askX r l = askX s l
 | [], _ => rfl
 | i :: l, h => by
  unfold askX
  rw [h i (by simp), askX_congr (l := l) (fun j hj => h j (by simp [hj]))]
section
variable {ones twos : List (List UInt8)} {P : Int} {L : List Nd}
theorem natL_rk (hW : WellG ones twos P L) (i y : Nat) : y ∈ natL (reck L i) ↔ Rk L i y := mem_natL (fun z hz => (reck_bnd hW i z hz).1) y
theorem stepV_congr (hW : WellG ones twos P L) {args : List Int} {got r s : Nat → Option Int} {i : Nat} (h : ∀ j, Rk L i j → r j = s j) : stepV L args got r i = stepV L args got s i := by
 unfold stepV
 rw [askX_congr (fun j hj => h j ((natL_rk hW i j).1 hj))]
theorem filter_less {α : Type} {p q : α → Bool} : ∀ {l : List α}, (∀ x ∈ l, p x = true → q x = true) → (∃ x ∈ l, q x = true ∧ p x = false) → (l.filter p).length < (l.filter q).length
 | [], _, ⟨x, hx, _⟩ => absurd hx (by simp)
 | y :: l, hpq, ⟨x, hx, hq, hp⟩ => by
  have hle : ∀ (l : List α), (∀ x ∈ l, p x = true → q x = true) → (l.filter p).length ≤ (l.filter q).length := by
   intro l
   induction l with
   | nil => intro _; simp
   | cons z l ih =>
    intro h
    have := ih (fun x hx => h x (by simp [hx]))
    cases hpz : p z with
    | true => rw [List.filter_cons_of_pos hpz, List.filter_cons_of_pos (h z (by simp) hpz)]; simp; exact this
    | false =>
     rw [List.filter_cons_of_neg (by simp [hpz])]
     cases hqz : q z with
     | true => rw [List.filter_cons_of_pos hqz]; simp; omega
     | false => rw [List.filter_cons_of_neg (by simp [hqz])]; exact this
  rcases List.mem_cons.1 hx with rfl | hx'
  ·rw [List.filter_cons_of_neg (by simp [hp]), List.filter_cons_of_pos hq, List.length_cons]
   have := hle l (fun z hz => hpq z (by simp [hz]))
   omega
  ·have ih := filter_less (l := l) (fun z hz => hpq z (by simp [hz])) ⟨x, hx', hq, hp⟩
   cases hpy : p y with
   | true => rw [List.filter_cons_of_pos hpy, List.filter_cons_of_pos (hpq y (by simp) hpy)]; simpa using ih
   | false =>
    rw [List.filter_cons_of_neg (by simp [hpy])]
    cases hqy : q y with
    | true => rw [List.filter_cons_of_pos hqy]; simp; omega
    | false => rw [List.filter_cons_of_neg (by simp [hqy])]; exact ih
open Classical in
noncomputable def rkM (L : List Nd) (i : Nat) : Nat := ((List.range L.length).filter fun x => decide (Star (Rk L) i x)).length
theorem rk_less (hW : WellG ones twos P L) {i j : Nat} (h : Rk L i j) : rkM L j < rkM L i := by
 have hi : i < L.length := by
  rcases Nat.lt_or_ge i L.length with h' | h'
  ·exact h'
  ·unfold Rk reck at h
   have : ndAt L (i : Int) = ⟨[], [], 0, []⟩ := by simp [ndAt, h']
   rw [this] at h
   simp at h
 unfold rkM
 refine filter_less (fun x _ hx => ?_) ⟨i, List.mem_range.2 hi, ?_, ?_⟩
 ·simp only [decide_eq_true_eq] at hx ⊢
  exact Star.head h hx
 ·simp only [decide_eq_true_eq]; exact .refl _
 ·simp only [decide_eq_false_iff_not]
  exact fun h2 => hW.deep i hi ⟨j, h, h2⟩
def valF (L : List Nd) (args : List Int) (got : Nat → Option Int) : Nat → Nat → Option Int
 | 0, _ => none
 | f + 1, i => stepV L args got (valF L args got f) i
theorem valF_same (hW : WellG ones twos P L) (args : List Int) (got : Nat → Option Int) : ∀ (m i : Nat), rkM L i < m → ∀ f g, rkM L i < f → rkM L i < g → valF L args got f i = valF L args got g i
 | 0, _, h => absurd h (by omega)
 | m + 1, i, hm => by
  intro f g hf hg
  cases f with
  | zero => omega
  | succ f =>
   cases g with
   | zero => omega
   | succ g =>
    unfold valF
    refine stepV_congr hW fun j hj => ?_
    have := rk_less hW hj
    exact valF_same hW args got m j (by omega) f g (by omega) (by omega)
end
end Go.Proofs.YtlgejjmdanmglaaGreatDoor
namespace Go.Proofs.YtlgejjmdanmglaaGreatDoor
open Go.RowKit Go.Maps
def valD (p : Int × Int) : DataW Unit := .agg [.lit (.int .i64 p.1), .lit (.int .i64 p.2)]
abbrev valV (p : Int × Int) : Value := .agg #[.int .i64 p.1, .int .i64 p.2]
def valR : Value → Option (DataW Unit × List MemPlace)
 | .agg cs => match cs.toList with
  | [.int .i64 a, .int .i64 b] => some (valD (a, b), [])
  | _ => none
 | _ => none
theorem valR_mk (p : Int × Int) : valR (valV p) = some (valD p, []) := rfl
theorem valR_inv {v : Value} {p : Int × Int} {ps : List MemPlace} (h : valR v = some (valD p, ps)) : v = valV p := by
 unfold valR at h
 split at h
 ·split at h
  ·next a b e =>
   injection h with h
   have h1 := congrArg Prod.fst h
   simp only [valD] at h1
   injection h1 with h1
   simp only [List.cons.injEq, DataW.lit.injEq, Lit.int.injEq, true_and, and_true] at h1
   obtain ⟨h2, h3⟩ := h1
   subst h2 h3
   exact congrArg Value.agg (Array.toList_inj.1 e)
  ·cases h
 ·cases h
theorem zero_valV (w : World) : (zeroValue 139).run Tryz.prog w = .ok (valV (0, 0)) w := by kernel_rfl
theorem owns_sizeV {P : Program} {k : TypeId} {R : Value → Option (DataW Unit × List MemPlace)} {w : World} {b n : Nat} {D : DataW Unit} (h : w.ownsMap P k R b n D) : w.ownsMap P k R b (Maps.size D) D := by
 obtain ⟨es, clock, hb, F, _, rfl⟩ := h
 exact ⟨es, clock, hb, F, by simp [Maps.size, length_sorted], rfl⟩
theorem nodup_lt : ∀ (n : Nat) (l : List Nat), l.Nodup → (∀ x ∈ l, x < n) → l.length ≤ n
 | 0, l, _, h => by
  cases l with
  | nil => simp
  | cons a r => exact absurd (h a (by simp)) (by omega)
 | n + 1, l, hn, h => by
  by_cases hm : n ∈ l
  ·have h1 := nodup_lt n (l.erase n) (hn.erase n) (fun x hx => by
    have h2 := (hn.mem_erase_iff).1 hx
    have := h x h2.2
    omega)
   rw [List.length_erase_of_mem hm] at h1
   omega
  ·have := nodup_lt n l hn (fun x hx => by
    have := h x hx
    have : x ≠ n := fun e => hm (e ▸ hx)
    omega)
   omega
def VMap (w : World) (mb N : Nat) (f : Nat → Option (Int × Int)) : Prop :=
 ∃ (D : DataW Unit) (ks : List Nat), w.ownsMap Tryz.prog 3 valR mb ks.length D ∧ Maps.size D = ks.length ∧ ks.Nodup ∧ (∀ x ∈ ks, x < N) ∧ (∀ x, x < N → Maps.has D (.int .i64 (x : Int)) = decide (x ∈ ks)) ∧ (∀ x, x < N → (x ∈ ks ↔ (f x).isSome = true)) ∧ ∀ x, x < N → D.atKey (.int .i64 (x : Int)) (valD (0, 0)) = valD ((f x).getD (0, 0))
theorem VMap.keep {w w' : World} {mb N : Nat} {f : Nat → Option (Int × Int)} (h : VMap w mb N f) (hb : w'.heap[mb]? = w.heap[mb]?) : VMap w' mb N f := by
 obtain ⟨D, ks, ⟨es, clock, h1, r⟩, h2⟩ := h
 exact ⟨D, ks, ⟨es, clock, hb.trans h1, r⟩, h2⟩
theorem VMap.lt {w : World} {mb N : Nat} {f : Nat → Option (Int × Int)} (h : VMap w mb N f) : mb < w.heap.size := by
 obtain ⟨D, ks, ⟨es, clock, h1, r⟩, h2⟩ := h
 exact heap_lt h1
theorem vmap_made (w : World) (N : Nat) : VMap (w.alloc (.map #[] 0)) w.heap.size N (fun _ => none) :=
 ⟨.map [], [], World.ownsMap_made _ _ _ _, rfl, List.nodup_nil, by simp, fun x _ => by simp [Maps.has], fun x _ => by simp, fun x _ => by simp [DataW.atKey]⟩
theorem VMap.look {w : World} {mb N : Nat} {f : Nat → Option (Int × Int)} (h : VMap w mb N f) (hN : N ≤ 1000000) (x : Nat) (hx : x < N) (X : World) (hX : X.heap[mb]? = w.heap[mb]?) :
  (Instr.lookup 94 (.map (some mb)) (.int .i64 (x : Int)) false).run Tryz.prog X = .ok (valV ((f x).getD (0, 0))) X := by
 obtain ⟨D, ks, h1, _, _, _, _, _, h6⟩ := h.keep hX
 obtain ⟨v, ps, hrun, hv⟩ := h1.lookup law_intK Tryz.underlying94 (zero_valV X) (valR_mk (0, 0)) (key_intK x (by omega))
 rw [h6 x hx] at hv
 rw [hrun, valR_inv hv]
theorem VMap.lookOk {w : World} {mb N : Nat} {f : Nat → Option (Int × Int)} (h : VMap w mb N f) (hN : N ≤ 1000000) (x : Nat) (hx : x < N) (X : World) (hX : X.heap[mb]? = w.heap[mb]?) :
  (Instr.lookup 94 (.map (some mb)) (.int .i64 (x : Int)) true).run Tryz.prog X = .ok (.tuple #[valV ((f x).getD (0, 0)), .bool (f x).isSome]) X := by
 obtain ⟨D, ks, h1, _, _, _, h4, h5, h6⟩ := h.keep hX
 obtain ⟨v, ps, hrun, hv⟩ := h1.look_ok law_intK Tryz.underlying94 (zero_valV X) (valR_mk (0, 0)) (key_intK x (by omega))
 rw [h6 x hx] at hv
 have hb : Maps.has D (.int .i64 (x : Int)) = (f x).isSome := by
  rw [h4 x hx]
  cases e : (f x).isSome with
  | true => exact decide_eq_true ((h5 x hx).2 e)
  | false => exact decide_eq_false (fun hm => by rw [(h5 x hx).1 hm] at e; cases e)
 rw [hrun, valR_inv hv, hb]
theorem VMap.put {w : World} {mb N : Nat} {f : Nat → Option (Int × Int)} (h : VMap w mb N f) (hN : N ≤ 1000000) (x : Nat) (hx : x < N) (p : Int × Int) :
  ∃ W1, (Instr.mapUpdate 94 (.map (some mb)) (.int .i64 (x : Int)) (valV p)).run Tryz.prog w = .ok () W1 ∧ w.grownBy W1 (some mb) ∧ VMap W1 mb N (fun y => if y = x then some p else f y) := by
 obtain ⟨D, ks, h1, h2, h3, h3', h4, h5, h6⟩ := h
 have hl := nodup_lt N ks h3 h3'
 obtain ⟨w', u1, u2, u3⟩ := h1.update law_intK Tryz.underlying94 (by unfold maxLen; omega) (key_intK x (by omega)) (valR_mk p)
 have hk := keyLitK x (by omega)
 have u4 := owns_sizeV u2
 have hsz := Maps.size_put (k := .int .i64 (x : Int)) (h1.tidy law_intK) (valD p)
 rw [h4 x hx, h2] at hsz
 have hne : ∀ y, y ≠ x → (Lit.int .i64 (y : Int)) ≠ .int .i64 (x : Int) := fun y hy e => hy (by simp only [Lit.int.injEq, true_and] at e; omega)
 refine ⟨w', u1, u3, D.put (.int .i64 (x : Int)) (valD p), if x ∈ ks then ks else x :: ks, ?_, ?_, ?_, ?_, ?_, ?_, ?_⟩
 ·rw [hsz] at u4
  by_cases hm : x ∈ ks
  ·rw [if_pos hm]; rw [if_pos (decide_eq_true hm)] at u4; exact u4
  ·rw [if_neg hm]; rw [if_neg (by simp [hm])] at u4; exact u4
 ·rw [hsz]
  by_cases hm : x ∈ ks
  ·rw [if_pos hm, if_pos (decide_eq_true hm)]
  ·rw [if_neg hm, if_neg (by simp [hm])]; rfl
 ·by_cases hm : x ∈ ks
  ·rw [if_pos hm]; exact h3
  ·rw [if_neg hm]; exact List.nodup_cons.2 ⟨hm, h3⟩
 ·intro y hy
  by_cases hm : x ∈ ks
  ·rw [if_pos hm] at hy; exact h3' y hy
  ·rw [if_neg hm] at hy
   rcases List.mem_cons.1 hy with rfl | hy
   ·exact hx
   ·exact h3' y hy
 ·intro y hy
  by_cases e : y = x
  ·subst e
   rw [Maps.has_put_same h1.isMap hk]
   by_cases hm : y ∈ ks
   ·rw [if_pos hm]; simp [hm]
   ·rw [if_neg hm]; simp
  ·rw [Maps.has_put_other (hne y e), h4 y hy]
   by_cases hm : x ∈ ks
   ·rw [if_pos hm]
   ·rw [if_neg hm]; simp [e]
 ·intro y hy
  show _ ↔ (if y = x then some p else f y).isSome = true
  by_cases e : y = x
  ·subst e
   rw [if_pos rfl]
   by_cases hm : y ∈ ks
   ·rw [if_pos hm]; simp [hm]
   ·rw [if_neg hm]; simp
  ·rw [if_neg e, ← h5 y hy]
   by_cases hm : x ∈ ks
   ·rw [if_pos hm]
   ·rw [if_neg hm]; simp [e]
 ·intro y hy
  show _ = valD ((if y = x then some p else f y).getD (0, 0))
  by_cases e : y = x
  ·subst e
   rw [if_pos rfl, Maps.atKey_put_same h1.isMap hk]; rfl
  ·rw [if_neg e, Maps.atKey_put_other (hne y e), h6 y hy]
end Go.Proofs.YtlgejjmdanmglaaGreatDoor
namespace Go.Proofs.YtlgejjmdanmglaaGreatDoor
open Go.RowKit
abbrev wkV (fp rb : Nat) (argv : Value) (mb : Nat) : List Value := [.pointer (some ⟨fp, 0, none⟩), .pointer (some ⟨rb, 0, none⟩), argv, .map (some mb)]
structure Memo (L : List Nd) (got res : Nat → Option Int) (ways : Int) (f : Nat → Option (Int × Int)) : Prop where
 kept : ∀ i, i < L.length → keeps L i → f i = (got i).map fun v => (v, 0)
 sums : ∀ i, i < L.length → ((ndAt L i).kind = gOne ∨ (ndAt L i).kind = gTwo) → ∀ p, f i = some p → p.2 = ways → res i = some p.1
 old : ∀ i, i < L.length → ((ndAt L i).kind = gOne ∨ (ndAt L i).kind = gTwo) → ∀ p, f i = some p → p.2 ≤ ways
structure WkA (A S : Nat → Prop) (B : Nat) (X : World) (wb rb fp mb : Nat) (s : Rst) (argv ansv : Value) (most ways : Int) (nm : List UInt8) (P : Int) (nv tv yv ov pv : Value) (L : List Nd) (tk : List (Nat × Nat)) (ys ns : List Nat) (ph : List (List Nat)) (args : List Int) : Prop where
 blk : X.heap[wb]? = some (.cells (wkV fp rb argv mb).toArray 96 (0, 0))
 rcd : RecE S X rb s ansv most ways
 fl : Fl A X fp nm P nv tv yv ov pv L tk ys ns ph
 arg : XRow A X argv args.length (intsG args)
 ab : ∀ b, A b → b < B ∧ b ≠ wb ∧ b ≠ rb ∧ b ≠ mb ∧ ¬ S b
 sb : ∀ b, S b → b < B ∧ b ≠ wb ∧ b ≠ fp ∧ b ≠ mb
 lo : wb < B ∧ rb < B ∧ fp < B ∧ mb < B ∧ wb ≠ fp ∧ wb ≠ mb ∧ fp ≠ mb ∧ wb ≠ rb ∧ fp ≠ rb ∧ mb ≠ rb
structure WkJ (A S : Nat → Prop) (B : Nat) (X : World) (wb rb fp mb : Nat) (s : Rst) (argv ansv : Value) (most ways : Int) (nm : List UInt8) (P : Int) (nv tv yv ov pv : Value) (L : List Nd) (tk : List (Nat × Nat)) (ys ns : List Nat) (ph : List (List Nat)) (args : List Int) (got res : Nat → Option Int) : Prop extends WkA A S B X wb rb fp mb s argv ansv most ways nm P nv tv yv ov pv L tk ys ns ph args where
 map : ∃ f, VMap X mb L.length f ∧ Memo L got res ways f
structure WkR (A S : Nat → Prop) (B : Nat) (X : World) (wb rb fp mb : Nat) (s : Rst) (argv ansv : Value) (most ways : Int) (nm : List UInt8) (P : Int) (nv tv yv ov pv : Value) (L : List Nd) (tk : List (Nat × Nat)) (ys ns : List Nat) (ph : List (List Nat)) (args : List Int) (got : Nat → Option Int) : Prop extends WkA A S B X wb rb fp mb s argv ansv most ways nm P nv tv yv ov pv L tk ys ns ph args where
 map : ∃ f, VMap X mb L.length f ∧ (∀ i, i < L.length → keeps L i → f i = (got i).map fun v => (v, 0)) ∧ ∀ i, i < L.length → ((ndAt L i).kind = gOne ∨ (ndAt L i).kind = gTwo) → ∀ p, f i = some p → p.2 ≤ ways
def setV (g : Nat → Option Int) (p : Nat × Int) : Nat → Option Int := fun i => if i = p.1 then some p.2 else g i
def setVs (g : Nat → Option Int) (l : List (Nat × Int)) : Nat → Option Int := l.foldl setV g
section
variable {A S : Nat → Prop} {B : Nat} {X Y : World} {wb rb fp mb : Nat} {s : Rst} {argv ansv : Value} {most ways : Int} {nm : List UInt8} {P : Int} {nv tv yv ov pv : Value} {L : List Nd} {tk : List (Nat × Nat)} {ys ns : List Nat} {ph : List (List Nat)} {args : List Int} {got res : Nat → Option Int}
theorem WkA.keep (h : WkA A S B X wb rb fp mb s argv ansv most ways nm P nv tv yv ov pv L tk ys ns ph args) (hz : X.heap.size ≤ Y.heap.size) (hb : ∀ k, k < B → k ≠ mb → Y.heap[k]? = X.heap[k]?) : WkA A S B Y wb rb fp mb s argv ansv most ways nm P nv tv yv ov pv L tk ys ns ph args := by
 have hl := h.lo
 refine ⟨(hb _ hl.1 (by omega)).trans h.blk, h.rcd.keep hz (fun k hk => ?_), h.fl.imp (hb _ (by omega) (by omega)) (fun _ h => h) (fun b hb' => hb b (h.ab b hb').1 (h.ab b hb').2.2.2.1), h.arg.imp (fun _ h => h) (fun b hb' => hb b (h.ab b hb').1 (h.ab b hb').2.2.2.1), h.ab, h.sb, h.lo⟩
 rcases hk with rfl | hk
 ·exact hb _ (by omega) (by omega)
 ·exact hb k (h.sb k hk).1 (h.sb k hk).2.2.2
theorem WkJ.below (h : WkJ A S B X wb rb fp mb s argv ansv most ways nm P nv tv yv ov pv L tk ys ns ph args got res) (hb : Below B X Y) : WkJ A S B Y wb rb fp mb s argv ansv most ways nm P nv tv yv ov pv L tk ys ns ph args got res := by
 obtain ⟨f, h1, h2⟩ := h.map
 have hl := h.lo
 exact ⟨h.toWkA.keep hb.size (fun k hk _ => hb.block k hk), ⟨f, h1.keep (hb.block _ (by omega)), h2⟩⟩
theorem WkJ.but (h : WkJ A S B X wb rb fp mb s argv ansv most ways nm P nv tv yv ov pv L tk ys ns ph args got res) (hB : B ≤ X.heap.size) (hb : But mb X Y) {f : Nat → Option (Int × Int)} (h1 : VMap Y mb L.length f) (h2 : Memo L got res ways f) : WkJ A S B Y wb rb fp mb s argv ansv most ways nm P nv tv yv ov pv L tk ys ns ph args got res :=
 ⟨h.toWkA.keep hb.size (fun k hk hne => hb.block k (by omega) hne), ⟨f, h1, h2⟩⟩
theorem WkJ.rest (h : WkJ A S B X wb rb fp mb s argv ansv most ways nm P nv tv yv ov pv L tk ys ns ph args got res) : WkR A S B X wb rb fp mb s argv ansv most ways nm P nv tv yv ov pv L tk ys ns ph args got := by
 obtain ⟨f, h1, h2⟩ := h.map
 exact ⟨h.toWkA, ⟨f, h1, h2.kept, h2.old⟩⟩
theorem WkR.below (h : WkR A S B X wb rb fp mb s argv ansv most ways nm P nv tv yv ov pv L tk ys ns ph args got) (hb : Below B X Y) : WkR A S B Y wb rb fp mb s argv ansv most ways nm P nv tv yv ov pv L tk ys ns ph args got := by
 obtain ⟨f, h1, h2⟩ := h.map
 have hl := h.lo
 exact ⟨h.toWkA.keep hb.size (fun k hk _ => hb.block k hk), ⟨f, h1.keep (hb.block _ (by omega)), h2⟩⟩
theorem WkR.up (h : WkR A S B X wb rb fp mb s argv ansv most ways nm P nv tv yv ov pv L tk ys ns ph args got) {C : Nat} (hC : B ≤ C) : WkR A S C X wb rb fp mb s argv ansv most ways nm P nv tv yv ov pv L tk ys ns ph args got := by
 have hl := h.lo
 exact ⟨⟨h.blk, h.rcd, h.fl, h.arg, fun b hb => ⟨by have := (h.ab b hb).1; omega, (h.ab b hb).2⟩, fun b hb => ⟨by have := (h.sb b hb).1; omega, (h.sb b hb).2⟩, by omega⟩, h.map⟩
theorem WkA.told (h : WkA A S B X wb rb fp mb s argv ansv most ways nm P nv tv yv ov pv L tk ys ns ph args) (hB : B ≤ X.heap.size) {s' : Rst} {ways' : Int} (hr : RecTo S X rb s' ansv most ways' Y) : ∃ S', (∀ b, S' b → S b ∨ X.heap.size ≤ b) ∧ WkA A S' Y.heap.size Y wb rb fp mb s' argv ansv most ways' nm P nv tv yv ov pv L tk ys ns ph args := by
 obtain ⟨⟨S', h1, h2⟩, h3⟩ := hr
 have hl := h.lo
 have hz := h3.size
 have hs : ∀ k, k < B → k ≠ rb → ¬ S k → Y.heap[k]? = X.heap[k]? := fun k hk h4 h5 => h3.block k (by omega) (fun e => e.elim h4 h5)
 have hw : ¬ S wb := fun e => (h.sb _ e).2.1 rfl
 have hf : ¬ S fp := fun e => (h.sb _ e).2.2.1 rfl
 refine ⟨S', h1, (hs _ (by omega) (by omega) hw).trans h.blk, h2, h.fl.imp (hs _ (by omega) (by omega) hf) (fun _ h => h) (fun b hb' => hs b (h.ab b hb').1 (h.ab b hb').2.2.1 (h.ab b hb').2.2.2.2), h.arg.imp (fun _ h => h) (fun b hb' => hs b (h.ab b hb').1 (h.ab b hb').2.2.1 (h.ab b hb').2.2.2.2), fun b hb => ?_, fun b hb => ?_, by omega⟩
 ·have := h.ab b hb
  refine ⟨by omega, this.2.1, this.2.2.1, this.2.2.2.1, fun e => ?_⟩
  rcases h1 b e with e | e
  ·exact this.2.2.2.2 e
  ·omega
 ·refine ⟨(h2.sl b hb).1, ?_⟩
  rcases h1 b hb with e | e
  ·exact (h.sb b e).2
  ·omega
theorem WkR.told (h : WkR A S B X wb rb fp mb s argv ansv most ways nm P nv tv yv ov pv L tk ys ns ph args got) (hB : B ≤ X.heap.size) {s' : Rst} (hr : RecTo S X rb s' ansv most ways Y) : ∃ S', (∀ b, S' b → S b ∨ X.heap.size ≤ b) ∧ WkR A S' Y.heap.size Y wb rb fp mb s' argv ansv most ways nm P nv tv yv ov pv L tk ys ns ph args got := by
 obtain ⟨S', h1, h2⟩ := h.toWkA.told hB hr
 obtain ⟨f, h3, h4⟩ := h.map
 have hl := h.lo
 exact ⟨S', h1, h2, ⟨f, h3.keep (hr.2.block _ (by omega) (fun e => e.elim (by omega) (fun e => (h.sb _ e).2.2.2 rfl))), h4⟩⟩
theorem WkR.start (h : WkR A S B X wb rb fp mb s argv ansv most ways nm P nv tv yv ov pv L tk ys ns ph args got) (hB : B ≤ X.heap.size) {s' : Rst} (hr : RecTo S X rb s' ansv most (ways + 1) Y) (res : Nat → Option Int) : ∃ S', (∀ b, S' b → S b ∨ X.heap.size ≤ b) ∧ WkJ A S' Y.heap.size Y wb rb fp mb s' argv ansv most (ways + 1) nm P nv tv yv ov pv L tk ys ns ph args got res := by
 obtain ⟨S', h1, h2⟩ := h.toWkA.told hB hr
 obtain ⟨f, h3, h4, h5⟩ := h.map
 have hl := h.lo
 exact ⟨S', h1, h2, ⟨f, h3.keep (hr.2.block _ (by omega) (fun e => e.elim (by omega) (fun e => (h.sb _ e).2.2.2 rfl))), h4, fun i hi hk p hp he => by have := h5 i hi hk p hp; omega, fun i hi hk p hp => by have := h5 i hi hk p hp; omega⟩⟩
theorem WkR.put (h : WkR A S B X wb rb fp mb s argv ansv most ways nm P nv tv yv ov pv L tk ys ns ph args got) (hB : B ≤ X.heap.size) (hL : L.length ≤ 1000) (p : Nat) (hp : p < L.length) (hk : keeps L p) (v : Int) :
  ∃ W1, (Instr.mapUpdate 94 (.map (some mb)) (.int .i64 (p : Int)) (.agg #[.int .i64 v, .int .i64 0])).run Tryz.prog X = .ok () W1 ∧ But mb X W1 ∧ WkR A S B W1 wb rb fp mb s argv ansv most ways nm P nv tv yv ov pv L tk ys ns ph args (setV got (p, v)) := by
 obtain ⟨f, h1, h2, h3⟩ := h.map
 obtain ⟨W1, r1, hg1, hm1⟩ := h1.put (by omega) p hp (v, 0)
 have hb : But mb X W1 := ⟨hg1.os, hg1.tape, hg1.output, hg1.size, fun k hk hne => hg1.block k hk (fun e => hne (by injection e))⟩
 refine ⟨W1, r1, hb, h.toWkA.keep hb.size (fun k hk hne => hb.block k (by omega) hne), ⟨_, hm1, fun i hi hki => ?_, fun i hi hki q hq => ?_⟩⟩
 ·show (if i = p then some (v, 0) else f i) = (if i = p then some v else got i).map _
  by_cases e : i = p
  ·rw [if_pos e, if_pos e]; rfl
  ·rw [if_neg e, if_neg e]; exact h2 i hi hki
 ·have hq' : (if i = p then some ((v, 0) : Int × Int) else f i) = some q := hq
  by_cases e : i = p
  ·subst e
   unfold keeps at hk
   rcases hki with h | h <;> rw [h] at hk <;> exact absurd hk (by decide)
  ·rw [if_neg e] at hq'; exact h3 i hi hki q hq'
end
theorem one_val (m : List UInt8) (hm : m ∈ onesE) (a : Int) (w : World) : Calls Tryz.prog 87 #[.string ⟨m.toArray⟩, .int .i64 a] w fun e w' => e = .returned (.tuple #[.int .i64 (oneV m a), .nilIface]) ∧ w' = w := by
 have : m = [45] ∨ m = [33] := by simpa [onesE] using hm
 rcases this with rfl | rfl
 ·exact one_neg a w
 ·exact one_not a w
theorem two_val (m : List UInt8) (hm : m ∈ twosE) (a b : Int) (w : World) : Calls Tryz.prog 88 #[.string ⟨m.toArray⟩, .int .i64 a, .int .i64 b] w fun e w' => e = .returned (.tuple #[.int .i64 (twoV m a b), .nilIface]) ∧ w' = w := by
 refine do_any ⟨m.toArray⟩ ?_ a b w
 simp only [twosE, List.mem_cons, List.not_mem_nil, or_false] at hm
 rcases hm with rfl | rfl | rfl | rfl | rfl | rfl | rfl | rfl | rfl | rfl | rfl | rfl | rfl | rfl <;> simp [opsTwo]
def sumV (k m : List UInt8) (vs : List Int) : Int := if k = gOne then oneV m (vs.getD 0 0) else twoV m (vs.getD 0 0) (vs.getD 1 0)
set_option maxRecDepth 100000 in
set_option maxHeartbeats 1000000 in
theorem reckonF_any (k m : List UInt8) (vs : List Int) {A : Nat → Prop} {X : World} {v : Value} (hr : XRow A X v vs.length (intsG vs)) (hk : (k = gOne ∧ vs.length = 1 ∧ m ∈ onesE) ∨ (k = gTwo ∧ vs.length = 2 ∧ m ∈ twosE)) :
  Calls Tryz.prog 105 #[.string ⟨k.toArray⟩, .string ⟨m.toArray⟩, v] X fun e w' => e = .returned (.tuple #[.int .i64 (sumV k m vs), .nilIface]) ∧ ∃ n, w' = X.drewN n := by
 obtain ⟨ad, cap, rfl⟩ := hr.is
 rcases hk with ⟨rfl, hl, hm⟩ | ⟨rfl, hl, hm⟩
 ·obtain ⟨g, off, e, _, w8⟩ := hr.int (k := 0) (by omega)
  subst e
  have w8' : X.cell? ⟨g, off, none⟩ = some (.int .i64 (vs.getD 0 0)) := by rw [Nat.add_zero] at w8; rw [w8]; simp [show 0 < vs.length by omega]
  have hl' : (vs.length : Int) = 1 := by omega
  have hsv : sumV gOne m vs = oneV m (vs.getD 0 0) := if_pos rfl
  rw [hsv]
  generalize vs.getD 0 0 = x0 at *
  have t0 : (gOne == [111, 110, 101]) = true := by decide
  have HL := hidX (one_val m hm x0 X)
  clear hr w8 hsv hm hl
  go_enter Tryz.func105, Tryz.ntmps105
  go_wp2_with fail
  refine HL.out.mono ?_
  rintro e w' ⟨rfl, hw⟩
  replace hw := hw.symm
  subst hw
  go_wp2
  go_ret2
  exact ⟨rfl, 0, rfl⟩
 ·obtain ⟨g, off, e, _, w8⟩ := hr.int (k := 0) (by omega)
  subst e
  obtain ⟨g9, off9, e9, _, w9⟩ := hr.int (k := 1) (by omega)
  injection e9 with e9
  injection e9 with e9 e10
  subst e9 e10
  have w8' : X.cell? ⟨g, off, none⟩ = some (.int .i64 (vs.getD 0 0)) := by rw [Nat.add_zero] at w8; rw [w8]; simp [show 0 < vs.length by omega]
  have w9' : X.cell? ⟨g, off + 1, none⟩ = some (.int .i64 (vs.getD 1 0)) := by rw [w9]; simp [show 1 < vs.length by omega]
  have hl' : (vs.length : Int) = 2 := by omega
  have hsv : sumV gTwo m vs = twoV m (vs.getD 0 0) (vs.getD 1 0) := if_neg (by decide)
  rw [hsv]
  generalize vs.getD 0 0 = x0 at *
  generalize vs.getD 1 0 = x1 at *
  have t0 : (gTwo == [111, 110, 101]) = false := by decide
  have t1 : (gTwo == [116, 119, 111]) = true := by decide
  have HL := hidX (fun Y => two_val m hm x0 x1 Y)
  clear hr w8 w9 hsv hm hl
  go_enter Tryz.func105, Tryz.ntmps105
  go_wp2_with fail
  go_quiet ((go_at_call 88; exact Calls.quiet_of_same (HL.out _)))
  go_wp2
  go_ret2
  exact ⟨rfl, _, rfl⟩
end Go.Proofs.YtlgejjmdanmglaaGreatDoor
namespace Go.Proofs.YtlgejjmdanmglaaGreatDoor
open Go.RowKit
theorem RecE.c7 {S : Nat → Prop} {X : World} {rb : Nat} {s : Rst} {ansv : Value} {most steps : Int} (h : RecE S X rb s ansv most steps) : X.cell? ⟨rb, 7, none⟩ = some (.int .i64 steps) := by
 obtain ⟨o, c, x, h⟩ := h
 exact cell_of_blk h.blk 7
set_option maxRecDepth 100000 in
set_option maxHeartbeats 1000000 in
theorem reckon_param {A : Nat → Prop} {X : World} {wb rb fp mb : Nat} {argv : Value} {nm : List UInt8} {P : Int} {nv tv yv ov pv : Value} {L : List Nd} {tk : List (Nat × Nat)} {ys ns : List Nat} {ph : List (List Nat)} (hb : X.heap[wb]? = some (.cells (wkV fp rb argv mb).toArray 96 (0, 0))) (hF : Fl A X fp nm P nv tv yv ov pv L tk ys ns ph) (hA : ∀ b, A b → b < X.heap.size) (hL : L.length ≤ 1000) (i : Nat) (hi : i < L.length) (hk : L[i].kind = gParam) (args : List Int) (hal : args.length ≤ 1000) (m : Nat) (hn : L[i].num = (m : Int)) (hm : m < args.length) (hargs : XRow (InH X) X argv args.length (intsG args)) :
  Calls Tryz.prog 96 #[.pointer (some ⟨wb, 0, none⟩), .int .i64 (i : Int)] X fun e w' => Below X.heap.size X w' ∧ e = .returned (.tuple #[.int .i64 args[m], .bool true]) := by
 obtain ⟨ad, cap, rfl⟩ := hF.gr.is
 obtain ⟨aad, acap, rfl⟩ := hargs.is
 obtain ⟨g, off, ad1, cap1, e1, hg, _, hr, k0, k1, k2, k3⟩ := hF.gr.node hi
 subst e1
 obtain ⟨ga, offa, e2, hga, ka⟩ := hargs.int hm
 subst e2
 have c0 : X.cell? ⟨wb, 0, none⟩ = some (.pointer (some ⟨fp, 0, none⟩)) := cell_of_blk hb 0
 have c6 : X.cell? ⟨wb, 2, none⟩ = some (.slice (some ⟨ga, offa, none⟩) args.length acap) := cell_of_blk hb 2
 have b2 : X.cell? ⟨fp, 2, none⟩ = some (.slice (some ⟨g, off, none⟩) L.length cap) := cell_of_blk hF.blk 2
 have hgl := hA _ hg
 have hwl := heap_lt hb
 have hfl := heap_lt hF.blk
 have hgal : ga < X.heap.size := hga
 have hi' : (i : Int) < (L.length : Int) := by omega
 have hL' : (L.length : Int) ≤ 1000 := by omega
 have hm' : (m : Int) < (args.length : Int) := by omega
 have hal' : (args.length : Int) ≤ 1000 := by omega
 rw [hn] at k2
 have t1 : (L[i].kind == [112, 97, 114, 97, 109]) = true := by rw [hk]; decide
 generalize L[i] = n at *
 generalize args[m] = x at *
 obtain ⟨X1, hX1⟩ : ∃ X1, X1 = X.alloc (.cells #[.string ⟨n.kind.toArray⟩, .slice ad1 n.ins.length cap1, .int .i64 (m : Int), .string ⟨n.name.toArray⟩] 55) := ⟨_, rfl⟩
 have hb1 : Below X.heap.size X X1 := by rw [hX1]; (repeat (first | exact Below.refl _ _ | assumption | refine Below.drew ?_ | refine bT ?_ _ | refine bS ?_ _ | refine bA ?_ _))
 have hx1 : X1.heap[X.heap.size]? = some (.cells #[.string ⟨n.kind.toArray⟩, .slice ad1 n.ins.length cap1, .int .i64 (m : Int), .string ⟨n.name.toArray⟩] 55 (0, 0)) := by rw [hX1]; exact heap_alloc_new _ _
 have q2 : X1.cell? ⟨X.heap.size, 2, none⟩ = some (.int .i64 (m : Int)) := cell_of_blk hx1 2
 have q6 := (hb1.cell (p := ⟨wb, 2, none⟩) hwl).trans c6
 have qa := (hb1.cell (p := ⟨ga, _, none⟩) hgal).trans ka
 have HB1 := hidX hb1
 clear hF hA hk hn hr hargs hb hx1 hb1
 go_enter Tryz.func96, Tryz.ntmps96
 go_wp2_with fail
 rw [← hX1]
 clear hX1 k0 k1 k2 k3 b2 c0 c6 ka
 go_quiet (fail)
 go_wp2
 go_ret2
 exact ⟨by have h := HB1.out; exact bl_trans h h.size (by (repeat (first | exact Below.refl _ _ | assumption | refine Below.drew ?_ | refine bT ?_ _ | refine bS ?_ _ | refine bA ?_ _))), rfl⟩
section
variable {A S : Nat → Prop} {B : Nat} {X Y : World} {wb rb fp mb : Nat} {s : Rst} {argv ansv : Value} {most ways : Int} {nm : List UInt8} {P : Int} {nv tv yv ov pv : Value} {L : List Nd} {tk : List (Nat × Nat)} {ys ns : List Nat} {ph : List (List Nat)} {args : List Int} {got res : Nat → Option Int}
set_option maxRecDepth 100000 in
set_option maxHeartbeats 2000000 in
theorem reckon_flat (h : WkJ A S B X wb rb fp mb s argv ansv most ways nm P nv tv yv ov pv L tk ys ns ph args got res) (hB : B ≤ X.heap.size) (hL : L.length ≤ 1000) (hal : args.length ≤ 1000) (i : Nat) (hi : i < L.length) (hres : res i = stepV L args got res i) (hk : (ndAt L i).kind = gParam ∨ (ndAt L i).kind = gConst ∨ (ndAt L i).kind = gPhi ∨ (ndAt L i).kind = gCall) (hp : (ndAt L i).kind = gParam → 0 ≤ (ndAt L i).num ∧ (ndAt L i).num < (args.length : Int)) :
  Calls Tryz.prog 96 #[.pointer (some ⟨wb, 0, none⟩), .int .i64 (i : Int)] X fun e w' => Below X.heap.size X w' ∧ e = .returned (.tuple #[.int .i64 ((res i).getD 0), .bool (res i).isSome]) := by
 have hnd : ndAt L (i : Int) = L[i] := by simp [ndAt, hi]
 by_cases ck : (ndAt L i).kind = gParam
 ·obtain ⟨h1, h2⟩ := hp ck
  obtain ⟨m, hm⟩ : ∃ m : Nat, (ndAt L i).num = (m : Int) := ⟨(ndAt L i).num.toNat, by omega⟩
  have hr : res i = some (args[m]'(by omega)) := by
   rw [hres]; unfold stepV
   rw [if_pos ck, hm, Int.toNat_natCast]
   simp [show m < args.length by omega]
  rw [hr]
  refine (reckon_param h.blk h.fl (fun b hb => by have := (h.ab b hb).1; omega) hL i hi (by rw [← hnd]; exact ck) args hal m (by rw [← hnd]; exact hm) (by omega) (h.arg.imp (fun b hb => by have := (h.ab b hb).1; show b < X.heap.size; omega) (fun _ _ => rfl))).mono ?_
  rintro e w' ⟨h1, h2⟩
  exact ⟨h1, h2⟩
 ·obtain ⟨ad, cap, rfl⟩ := h.fl.gr.is
  obtain ⟨g, off, ad1, cap1, e1, hg, _, hr, k0, k1, k2, k3⟩ := h.fl.gr.node hi
  subst e1
  obtain ⟨f, hM, hF⟩ := h.map
  have c0 : X.cell? ⟨wb, 0, none⟩ = some (.pointer (some ⟨fp, 0, none⟩)) := cell_of_blk h.blk 0
  have c10 : X.cell? ⟨wb, 3, none⟩ = some (.map (some mb)) := cell_of_blk h.blk 3
  have b2 : X.cell? ⟨fp, 2, none⟩ = some (.slice (some ⟨g, off, none⟩) L.length cap) := cell_of_blk h.fl.blk 2
  have hgl : g < X.heap.size := by have := (h.ab g hg).1; omega
  have hwl := heap_lt h.blk
  have hfl := heap_lt h.fl.blk
  have hi' : (i : Int) < (L.length : Int) := by omega
  have hL' : (L.length : Int) ≤ 1000 := by omega
  rw [hnd] at ck hk
  have t1 : (L[i].kind == [112, 97, 114, 97, 109]) = false := ne_lit ck
  obtain ⟨X1, hX1⟩ : ∃ X1, X1 = X.alloc (.cells #[.string ⟨L[i].kind.toArray⟩, .slice ad1 L[i].ins.length cap1, .int .i64 L[i].num, .string ⟨L[i].name.toArray⟩] 55) := ⟨_, rfl⟩
  have hb1 : Below X.heap.size X X1 := by rw [hX1]; (repeat (first | exact Below.refl _ _ | assumption | refine Below.drew ?_ | refine bT ?_ _ | refine bS ?_ _ | refine bA ?_ _))
  have hx1 : X1.heap[X.heap.size]? = some (.cells #[.string ⟨L[i].kind.toArray⟩, .slice ad1 L[i].ins.length cap1, .int .i64 L[i].num, .string ⟨L[i].name.toArray⟩] 55 (0, 0)) := by rw [hX1]; exact heap_alloc_new _ _
  have n0 : X1.cell? ⟨X.heap.size, 0, none⟩ = some (.string ⟨L[i].kind.toArray⟩) := cell_of_blk hx1 0
  have n2 : X1.cell? ⟨X.heap.size, 2, none⟩ = some (.int .i64 L[i].num) := cell_of_blk hx1 2
  have q10 := (hb1.cell (p := ⟨wb, 3, none⟩) hwl).trans c10
  have hlk := hM.lookOk (by omega) i hi X1 (hb1.block mb hM.lt)
  have HB1 := hidX hb1
  by_cases cc : L[i].kind = gConst
  ·have t2 : (L[i].kind == [99, 111, 110, 115, 116]) = true := by rw [cc]; decide
   have hr : res i = some L[i].num := by
    rw [hres]; unfold stepV
    rw [hnd, if_neg ck, if_pos cc]
   rw [hr]
   generalize L[i] = n at *
   clear h hM hF hk hr hres hp hnd hlk hx1 hb1 ck cc
   go_enter Tryz.func96, Tryz.ntmps96
   go_wp2_with fail
   rw [← hX1]
   clear hX1 k0 k1 k2 k3 b2 c0 c10
   go_wp2
   go_ret2
   exact ⟨HB1.out, rfl⟩
  ·have t2 : (L[i].kind == [99, 111, 110, 115, 116]) = false := ne_lit cc
   have hkp : keeps L i := by
    unfold keeps
    rw [hnd]
    rcases hk with h | h | h | h
    ·exact absurd h ck
    ·exact absurd h cc
    ·exact Or.inl h
    ·exact Or.inr h
   have hfi := hF.kept i hi hkp
   have hr : res i = got i := by
    rw [hres]; unfold stepV
    rw [hnd, if_neg ck, if_neg cc]
    rw [if_pos (by unfold keeps at hkp; rw [hnd] at hkp; exact hkp)]
   rw [hfi] at hlk
   rw [hr]
   have hkk : ((L[i].kind == [112, 104, 105]) = true ∨ ((L[i].kind == [112, 104, 105]) = false ∧ (L[i].kind == [99, 97, 108, 108]) = true)) := by
    unfold keeps at hkp
    rw [hnd] at hkp
    rcases hkp with h | h
    ·left; rw [h]; decide
    ·right; rw [h]; decide
   have hz1 : X1.heap.size = X.heap.size + 1 := by rw [hX1]; simp
   have HZ1 := hidX hz1
   generalize L[i] = n at *
   clear h hM hF hk hr hres hp hnd hx1 hb1 ck cc hkp hfi hz1
   generalize got i = gi at *
   subst hX1
   clear n0 n2 q10
   cases gi with
   | none =>
    simp only [Option.map_none, Option.getD_none, Option.isSome_none] at hlk
    try simp only [Option.getD_none, Option.isSome_none]
    rcases hkk with hkk | ⟨hkk, hkk2⟩
    all_goals (
     go_enter Tryz.func96, Tryz.ntmps96
     go_wp2
     go_ret2
     exact ⟨bl_trans HB1.out HB1.out.size (by (repeat (first | exact Below.refl _ _ | assumption | refine Below.drew ?_ | refine bT ?_ _ | refine bS ?_ _ | refine bA ?_ _))), rfl⟩)
   | some v =>
    simp only [Option.map_some, Option.getD_some, Option.isSome_some] at hlk
    try simp only [Option.getD_some, Option.isSome_some]
    rcases hkk with hkk | ⟨hkk, hkk2⟩
    all_goals (
     go_enter Tryz.func96, Tryz.ntmps96
     go_wp2
     go_ret2
     exact ⟨bl_trans HB1.out HB1.out.size (by (repeat (first | exact Below.refl _ _ | assumption | refine Below.drew ?_ | refine bT ?_ _ | refine bS ?_ _ | refine bA ?_ _))), rfl⟩)
end
def valueK (k : List UInt8) : Prop := k = gParam ∨ k = gConst ∨ k = gOne ∨ k = gTwo ∨ k = gPhi ∨ k = gCall
theorem valueK_of {k : List UInt8} (h : 118 ∈ (shp k).gives) : valueK k := by
 unfold valueK
 rcases kind_cases k with rfl | rfl | rfl | rfl | rfl | rfl | rfl | rfl | rfl | rfl | rfl | rfl | rfl | rfl | ⟨e, _⟩
 all_goals first | (exact absurd h (by decide)) | (simp; done) | (rw [e] at h; exact absurd h (by decide))
section
variable {ones twos : List (List UInt8)} {Q : Int} {L : List Nd}
theorem rk_value (hW : WellG ones twos Q L) {i j : Nat} (h : Rk L i j) : j < L.length ∧ valueK (ndAt L j).kind := by
 have hb := reck_bnd hW i _ h
 have hi : i < L.length := by
  rcases Nat.lt_or_ge i L.length with h' | h'
  ·exact h'
  ·unfold Rk reck at h
   have : ndAt L (i : Int) = ⟨[], [], 0, []⟩ := by simp [ndAt, h']
   rw [this] at h
   simp at h
 refine ⟨by omega, valueK_of ?_⟩
 have W := hW.node.at (ndAt_ex hi)
 unfold Rk reck at h
 split at h
 ·next e =>
  obtain ⟨k, hk⟩ := List.mem_iff_getElem?.1 h
  have hkl := lt_of_at hk
  have hg := W.giv k hkl
  unfold givAt at hg
  rw [List.contains_iff_mem, List.getD_eq_getElem?_getD, hk, Option.getD_some] at hg
  obtain ⟨_, _, _, f4, f5, _⟩ := fits_len W.fits
  have hd : dueS (shp (ndAt L i).kind) k = 118 := by
   rcases e with e | e
   ·have : k = 0 := by have := f4 e; omega
    rw [e, this]; decide
   ·have : k = 0 ∨ k = 1 := by have := f5 e; omega
    rw [e]
    rcases this with rfl | rfl <;> decide
  rw [hd] at hg
  exact hg
 ·simp at h
end
section
variable {A S : Nat → Prop} {B : Nat} {wb rb fp mb : Nat} {s : Rst} {argv ansv : Value} {most ways : Int} {nm : List UInt8} {P Q : Int} {nv tv yv ov pv : Value} {L : List Nd} {tk : List (Nat × Nat)} {ys ns : List Nat} {ph : List (List Nat)} {args : List Int} {got res : Nat → Option Int}
set_option maxRecDepth 100000 in
set_option maxHeartbeats 4000000 in
theorem reckon_any (hW : WellG onesE twosE Q L) (hLow : ∀ n ∈ L, LowN n) (hV : IsVal L args got res) (hal : (args.length : Int) = Q) (hways : 1 ≤ ways ∧ ways ≤ 100000) : ∀ (m i : Nat), rkM L i < m → i < L.length → valueK (ndAt L i).kind → ∀ X, WkJ A S B X wb rb fp mb s argv ansv most ways nm P nv tv yv ov pv L tk ys ns ph args got res → B ≤ X.heap.size →
  Calls Tryz.prog 96 #[.pointer (some ⟨wb, 0, none⟩), .int .i64 (i : Int)] X fun e w' => WkJ A S B w' wb rb fp mb s argv ansv most ways nm P nv tv yv ov pv L tk ys ns ph args got res ∧ But mb X w' ∧ e = .returned (.tuple #[.int .i64 ((res i).getD 0), .bool (res i).isSome])
 | 0, _, h => absurd h (by omega)
 | m + 1, i, hm => by
  intro hi hvk X hJ hB
  have hL := hW.len.2
  have hal1 : args.length ≤ 1000 := by have := hW.par; omega
  have hnd : ndAt L (i : Int) = L[i] := by simp [ndAt, hi]
  by_cases hsum : (ndAt L i).kind = gOne ∨ (ndAt L i).kind = gTwo
  ·have IH : ∀ j, Rk L i j → ∀ X, WkJ A S B X wb rb fp mb s argv ansv most ways nm P nv tv yv ov pv L tk ys ns ph args got res → B ≤ X.heap.size →
     Calls Tryz.prog 96 #[.pointer (some ⟨wb, 0, none⟩), .int .i64 (j : Int)] X fun e w' => WkJ A S B w' wb rb fp mb s argv ansv most ways nm P nv tv yv ov pv L tk ys ns ph args got res ∧ But mb X w' ∧ e = .returned (.tuple #[.int .i64 ((res j).getD 0), .bool (res j).isSome]) := fun j hj => by
    have h1 := rk_less hW hj
    obtain ⟨h2, h3⟩ := rk_value hW hj
    exact reckon_any hW hLow hV hal hways m j (by omega) h2 h3
   have hrk : reck L i = L[i].ins := by unfold reck; rw [if_pos hsum, hnd]
   have hbd := reck_bnd hW i
   rw [hrk] at hbd
   have hres : res i = (askX res (natL L[i].ins)).map fun vs => if L[i].kind = gOne then oneV L[i].name (vs.getD 0 0) else twoV L[i].name (vs.getD 0 0) (vs.getD 1 0) := by
    rw [hV i hi]
    unfold stepV
    rw [if_neg (by rcases hsum with h | h <;> rw [h] <;> decide), if_neg (by rcases hsum with h | h <;> rw [h] <;> decide), if_neg (by rcases hsum with h | h <;> rw [h] <;> decide), hrk, hnd]
   have hWn := hW.node.at (ndAt_ex hi)
   rw [hnd] at hWn hsum
   obtain ⟨_, _, _, f4, f5, _⟩ := fits_len hWn.fits
   have hop := hWn.op
   unfold opB at hop
   have hln := (hLow _ (List.getElem_mem hi)).ins
   obtain ⟨ad, cap, rfl⟩ := hJ.fl.gr.is
   obtain ⟨g, off, ad1, cap1, e1, hg, _, hr, k0, k1, k2, k3⟩ := hJ.fl.gr.node hi
   subst e1
   obtain ⟨f, hM, hF⟩ := hJ.map
   have c0 : X.cell? ⟨wb, 0, none⟩ = some (.pointer (some ⟨fp, 0, none⟩)) := cell_of_blk hJ.blk 0
   have c1 : X.cell? ⟨wb, 1, none⟩ = some (.pointer (some ⟨rb, 0, none⟩)) := cell_of_blk hJ.blk 1
   have c7 : X.cell? ⟨rb, 7, none⟩ = some (.int .i64 ways) := hJ.rcd.c7
   have hrl := hJ.rcd.rl
   have c10 : X.cell? ⟨wb, 3, none⟩ = some (.map (some mb)) := cell_of_blk hJ.blk 3
   have b2 : X.cell? ⟨fp, 2, none⟩ = some (.slice (some ⟨g, off, none⟩) L.length cap) := cell_of_blk hJ.fl.blk 2
   have hgl : g < X.heap.size := by have := (hJ.ab g hg).1; omega
   have hwl := heap_lt hJ.blk
   have hfl := heap_lt hJ.fl.blk
   have hi' : (i : Int) < (L.length : Int) := by omega
   have hL' : (L.length : Int) ≤ 1000 := by omega
   have t1 : (L[i].kind == [112, 97, 114, 97, 109]) = false := by rcases hsum with h | h <;> rw [h] <;> decide
   have t2 : (L[i].kind == [99, 111, 110, 115, 116]) = false := by rcases hsum with h | h <;> rw [h] <;> decide
   have t3 : (L[i].kind == [112, 104, 105]) = false := by rcases hsum with h | h <;> rw [h] <;> decide
   have t4 : (L[i].kind == [99, 97, 108, 108]) = false := by rcases hsum with h | h <;> rw [h] <;> decide
   have hsums := hF.sums i hi (by rw [hnd]; exact hsum)
   have hlk := hM.look (by omega) i hi (X.alloc (.cells #[.string ⟨L[i].kind.toArray⟩, .slice ad1 L[i].ins.length cap1, .int .i64 L[i].num, .string ⟨L[i].name.toArray⟩] 55)) (Below.heap_alloc _ _ _ hM.lt)
   obtain ⟨X2, hX2⟩ : ∃ X2, X2 = (X.alloc (.cells #[.string ⟨L[i].kind.toArray⟩, .slice ad1 L[i].ins.length cap1, .int .i64 L[i].num, .string ⟨L[i].name.toArray⟩] 55)).alloc (.cells #[.int .i64 ((f i).getD (0, 0)).1, .int .i64 ((f i).getD (0, 0)).2] 139) := ⟨_, rfl⟩
   have hb2 : Below X.heap.size X X2 := by rw [hX2]; (repeat (first | exact Below.refl _ _ | assumption | refine Below.drew ?_ | refine bT ?_ _ | refine bS ?_ _ | refine bA ?_ _))
   have hx1 : X2.heap[X.heap.size]? = some (.cells #[.string ⟨L[i].kind.toArray⟩, .slice ad1 L[i].ins.length cap1, .int .i64 L[i].num, .string ⟨L[i].name.toArray⟩] 55 (0, 0)) := by rw [hX2]; exact twoG X _ _
   have hx2 : X2.heap[X.heap.size + 1]? = some (.cells #[.int .i64 ((f i).getD (0, 0)).1, .int .i64 ((f i).getD (0, 0)).2] 139 (0, 0)) := by rw [hX2]; exact heap_alloc2_new X _ _
   have q1 := (hb2.cell (p := ⟨wb, 1, none⟩) hwl).trans c1
   have q7 := (hb2.cell (p := ⟨rb, 7, none⟩) hrl).trans c7
   have v0 := cell_of_blk hx2 0
   have v1 := cell_of_blk hx2 1
   have z1 := cell_of_blk hx1 1
   simp only [List.getElem?_toArray, List.getElem?_cons_zero, List.getElem?_cons_succ] at v0 v1 z1
   have hJ2 := hJ.below (hb2.mono hB)
   have hz2 := hb2.size
   have hB2 : B ≤ X2.heap.size := by omega
   have HJ := hidX hJ
   have HJ2 := hidX hJ2
   have HB2 := hidX hb2
   have HX1 := hidX hx1
   have HIH := hidX IH
   have HRK := hidX (fun (j : Nat) (hj : j ∈ natL L[i].ins) => (show Rk L i j from by
    have := (mem_natL (fun z hz => (hbd z hz).1) j).1 hj
    unfold Rk
    rw [hrk]
    exact this))
   have HROW := hidX (show XRow A X (.slice ad1 L[i].ins.length cap1) (natL L[i].ins).length (natsG (natL L[i].ins)) by rw [natL_len, nats_ints (fun z hz => (hbd z hz).1)]; exact hr)
   have HSM := hidX hsums
   have HRES := hidX hres
   have HFM := hidX (show VMap X mb L.length f ∧ Memo L got res ways f from ⟨hM, hF⟩)
   have HSUM := hidX hsum
   have HOP := hidX hop
   have HND := hidX hnd
   have HF45 := hidX (show (L[i].kind = gOne → L[i].ins.length = 1) ∧ (L[i].kind = gTwo → L[i].ins.length = 2) from ⟨f4, f5⟩)
   generalize hri : res i = ri at *
   have HRI := hidX hri
   generalize L[i] = n at *
   generalize hp0 : (f i).getD (0, 0) = p0 at *
   have HP0 := hidX hp0
   clear hJ hJ2 hb2 hx1 hx2 IH hr hsums hres hM hF hsum hop f4 f5 hWn hbd hrk hV hnd hvk hm hp0 hri
   by_cases hwe : p0.2 = ways
   ·have hte : (p0.2 == ways) = true := by simp [hwe]
    have hfs : ri = some p0.1 := by
     refine HSM.out p0 ?_ hwe
     have h1 := HP0.out
     cases hfi : f i with
     | none => rw [hfi] at h1; have : p0 = (0, 0) := h1.symm; rw [this] at hwe; have : (0 : Int) = ways := hwe; omega
     | some y => rw [hfi] at h1; simp at h1; rw [h1]
    subst hfs
    clear hwe
    go_enter Tryz.func96, Tryz.ntmps96
    go_wp2_with fail
    rw [← hX2]
    clear hX2 k0 k1 k2 k3 b2 c0 c1 c7 c10 hlk
    go_quiet (fail)
    go_wp2
    go_ret2
    exact ⟨HJ2.out.below (by (repeat (first | exact Below.refl _ _ | assumption | refine Below.drew ?_ | refine bT ?_ _ | refine bS ?_ _ | refine bA ?_ _))), But.of (bl_trans HB2.out HB2.out.size (by (repeat (first | exact Below.refl _ _ | assumption | refine Below.drew ?_ | refine bT ?_ _ | refine bS ?_ _ | refine bA ?_ _)))), rfl⟩
   ·have hte : (p0.2 == ways) = false := by simp [hwe]
    have hak : ∀ Y, Below X2.heap.size X2 Y → Calls Tryz.prog 75 #[.pointer (some ⟨wb, 0, none⟩), .slice ad1 n.ins.length cap1] Y fun e w' => WkJ A S B w' wb rb fp mb s argv ansv most ways nm P (.slice (some ⟨g, off, none⟩) L.length cap) tv yv ov pv L tk ys ns ph args got res ∧ But mb Y w' ∧ ∃ v ok, e = .returned (.tuple #[v, ok]) ∧ AskV Y w' v ok (askX res (natL n.ins)) := fun Y hY => by
     have hbxy := bl_trans HB2.out hz2 hY
     have hBY : B ≤ Y.heap.size := by have := hY.size; omega
     have hJY := HJ2.out.below (hY.mono hB2)
     have hlo := hJY.lo
     exact ask_any (c := mb) (l := natL n.ins) (HROW.out.imp (fun _ h => h) (fun b hb => hbxy.block b (by have := (HJ2.out.ab b hb).1; omega))) (fun b hb => ⟨by have := (HJ2.out.ab b hb).1; omega, (HJ2.out.ab b hb).2.2.2.1⟩) (by rw [natL_len]; exact hln) (by omega) res (fun Z => WkJ A S B Z wb rb fp mb s argv ansv most ways nm P (.slice (some ⟨g, off, none⟩) L.length cap) tv yv ov pv L tk ys ns ph args got res) hJY (fun Z Z' h1 h2 h3 => h1.below (h3.mono hBY)) (fun Z hZ hz j hj => HIH.out j (HRK.out j hj) Z hZ (by omega))
    have HAK := hidX hak
    clear hak hwe
    go_enter Tryz.func96, Tryz.ntmps96
    go_wp2_with fail
    rw [← hX2]
    clear hX2 k0 k1 k2 k3 b2 c0 c1 c7 c10 hlk
    go_quiet (fail)
    go_wp2_with fail
    refine (HAK.out (X2.drewN nq) (by (repeat (first | exact Below.refl _ _ | assumption | refine Below.drew ?_ | refine bT ?_ _ | refine bS ?_ _ | refine bA ?_ _)))).mono ?_
    rintro e W4 ⟨hJ4, hbt0, v4, ok4, rfl, hav⟩
    have hbt2 : But mb X2 W4 := ⟨hbt0.os, hbt0.tape, hbt0.output, hbt0.size, hbt0.block⟩
    have hB4 : B ≤ W4.heap.size := by have := hbt2.size; omega
    have hlo4 := hJ4.lo
    have hnx4 := (hbt2.block _ (heap_lt HX1.out) (by omega)).trans HX1.out
    have s0 := cell_of_blk hnx4 0
    have s3 := cell_of_blk hnx4 3
    simp only [List.getElem?_toArray, List.getElem?_cons_zero, List.getElem?_cons_succ] at s0 s3
    cases hax : askX res (natL n.ins) with
    | none =>
     rw [hax] at hav
     have hok : ok4 = .bool false := hav
     subst hok
     have hri4 : ri = none := by rw [HRES.out, hax]; rfl
     subst hri4
     have HJ4 := hidX hJ4
     have HBT := hidX ((But.of HB2.out).trans hbt2)
     clear hJ4 hav hax hbt0 hbt2 hnx4
     go_wp2
     go_ret2
     exact ⟨HJ4.out, HBT.out, rfl⟩
    | some vs =>
     rw [hax] at hav
     obtain ⟨hok, hrow4⟩ : ok4 = .bool true ∧ XRow (fun b => (X2.drewN nq).heap.size ≤ b ∧ b < W4.heap.size) W4 v4 vs.length (intsG vs) := hav
     subst hok
     obtain ⟨a4, c4, rfl⟩ := hrow4.is
     clear hbt0 hnx4
     have hkk : (n.kind = gOne ∧ vs.length = 1 ∧ n.name ∈ onesE) ∨ (n.kind = gTwo ∧ vs.length = 2 ∧ n.name ∈ twosE) := by
      have hvn := (askX_at hax).1
      rw [natL_len] at hvn
      have h := HOP.out
      rcases HSUM.out with ck | ck
      ·left
       rw [if_pos ck] at h
       exact ⟨ck, by have := HF45.out.1 ck; omega, of_decide_eq_true h⟩
      ·right
       rw [if_neg (by rw [ck]; decide), if_pos ck] at h
       exact ⟨ck, by have := HF45.out.2 ck; omega, of_decide_eq_true h⟩
     have hri4 : ri = some (sumV n.kind n.name vs) := by rw [HRES.out, hax]; rfl
     have HLAW := hidX (reckonF_any n.kind n.name vs hrow4 hkk)
     generalize hnum : sumV n.kind n.name vs = num at *
     subst hri4
     obtain ⟨f4, hM4, hF4⟩ := hJ4.map
     obtain ⟨up, hup⟩ := Classical.axiomOfChoice (fun nn => (hM4.keep (w' := W4.drewN nn) rfl).put (by omega) i hi (num, ways))
     have hu1 : ∀ nn, (Instr.mapUpdate 94 (.map (some mb)) (.int .i64 (i : Int)) (.agg #[.int .i64 num, .int .i64 ways])).run Tryz.prog (W4.drewN nn) = .ok () (up nn) := fun nn => (hup nn).1
     have hfin : ∀ nn, WkJ A S B (up nn) wb rb fp mb s argv ansv most ways nm P (.slice (some ⟨g, off, none⟩) L.length cap) tv yv ov pv L tk ys ns ph args got res ∧ But mb X (up nn) := fun nn => by
      obtain ⟨_, hg1, hm1⟩ := hup nn
      have hbt : But mb W4 (up nn) := ⟨hg1.os, hg1.tape, hg1.output, hg1.size, fun k hk hne => hg1.block k hk (fun e => hne (by injection e))⟩
      refine ⟨hJ4.but hB4 hbt hm1 ⟨fun j hj hkp => ?_, fun j hj hsk p hp hpw => ?_, fun j hj hsk p hp => ?_⟩, (But.of HB2.out).trans (hbt2.trans hbt)⟩
      ·have hne : j ≠ i := fun e => by
        subst e
        unfold keeps at hkp
        rw [HND.out] at hkp
        rcases HSUM.out with h | h <;> rw [h] at hkp <;> exact absurd hkp (by decide)
       show (if j = i then some (num, ways) else f4 j) = _
       rw [if_neg hne]
       exact hF4.kept j hj hkp
      ·have hp' : (if j = i then some (num, ways) else f4 j) = some p := hp
       by_cases e : j = i
       ·rw [if_pos e] at hp'
        injection hp' with hp'
        rw [e, HRI.out, ← hp']
       ·rw [if_neg e] at hp'
        exact hF4.sums j hj hsk p hp' hpw
      ·have hp' : (if j = i then some (num, ways) else f4 j) = some p := hp
       by_cases e : j = i
       ·rw [if_pos e] at hp'
        injection hp' with hp'
        rw [← hp']
        exact Int.le_refl _
       ·rw [if_neg e] at hp'
        exact hF4.old j hj hsk p hp'
     have HFIN := hidX hfin
     have u1 : W4.cell? ⟨wb, 1, none⟩ = some (.pointer (some ⟨rb, 0, none⟩)) := cell_of_blk hJ4.blk 1
     have u7 : W4.cell? ⟨rb, 7, none⟩ = some (.int .i64 ways) := hJ4.rcd.c7
     have u10 : W4.cell? ⟨wb, 3, none⟩ = some (.map (some mb)) := cell_of_blk hJ4.blk 3
     clear hup hfin hM4 hF4 hJ4 hrow4 hbt2 hax hnum hkk
     go_wp2_with fail
     refine HLAW.out.mono ?_
     rintro e W5 ⟨rfl, nw, hW5⟩
     subst hW5
     go_wp2_with fail
     go_region
     go_wp2
     go_ret2
     exact ⟨(HFIN.out _).1, (HFIN.out _).2, rfl⟩
  ·refine (reckon_flat hJ hB hL hal1 i hi (hV i hi) ?_ (fun hk => ?_)).mono ?_
   ·rcases hvk with h | h | h | h | h | h
    ·exact Or.inl h
    ·exact Or.inr (Or.inl h)
    ·exact absurd (Or.inl h) hsum
    ·exact absurd (Or.inr h) hsum
    ·exact Or.inr (Or.inr (Or.inl h))
    ·exact Or.inr (Or.inr (Or.inr h))
   ·have := (hW.node.at (ndAt_ex hi)).par hk
    omega
   ·rintro e w' ⟨h1, h2⟩
    exact ⟨hJ.below (h1.mono hB), But.of h1, h2⟩
end
end Go.Proofs.YtlgejjmdanmglaaGreatDoor
