/- Our own: texts joined: AlMath, AlRep. -/
import Derived.Test.YtimccbilkjjakaaDoorZGMath
import Derived.Test.YtimccbilkjjakaaDoorZGrRep
namespace Go.Proofs.YtimccbilkjjakaaDoor
structure Li where
 kind : List UInt8
 d : Int
 a : Int
 b : Int
 num : Int
 name : List UInt8
structure Lb where
 ins : List Li
 fin : List UInt8
 a : Int
 tos : List Int
def lJump : List UInt8 := [106, 117, 109, 112]
def lMove : List UInt8 := [109, 111, 118, 101]
def lLoad : List UInt8 := [108, 111, 97, 100]
def lStore : List UInt8 := [115, 116, 111, 114, 101]
def lArg : List UInt8 := [97, 114, 103]
structure Ash where
 kind : List UInt8
 d : Bool
 a : Bool
 b : Bool
 num : Bool
 name : Bool
 fin : Bool
 ways : Nat
def ashL : List Ash := [
 ⟨gParam, true, false, false, true, false, false, 0⟩,
 ⟨gConst, true, false, false, true, false, false, 0⟩,
 ⟨gOne, true, true, false, false, true, false, 0⟩,
 ⟨gTwo, true, true, true, false, true, false, 0⟩,
 ⟨lMove, true, true, false, false, false, false, 0⟩,
 ⟨lLoad, true, false, false, true, false, false, 0⟩,
 ⟨lStore, false, true, false, true, false, false, 0⟩,
 ⟨lArg, false, true, false, true, false, false, 0⟩,
 ⟨gCall, true, false, false, true, true, false, 0⟩,
 ⟨gTick, false, false, false, false, false, false, 0⟩,
 ⟨gPrint, false, true, false, false, false, false, 0⟩,
 ⟨lJump, false, false, false, false, false, true, 1⟩,
 ⟨gIf, false, true, false, false, false, true, 2⟩,
 ⟨gReturn, false, true, false, false, false, true, 0⟩]
def noAsh : Ash := ⟨[], false, false, false, false, false, false, 0⟩
def ashIn (l : List Ash) (k : List UInt8) (e : Bool) : Ash := match l with
 | [] => noAsh
 | s :: r => if s.kind = k ∧ s.fin = e then s else ashIn r k e
def ash (k : List UInt8) (e : Bool) : Ash := ashIn ashL k e
def inR (n x : Int) : Bool := decide (0 ≤ x) && decide (x < n)
def lOp (ones twos : List (List UInt8)) (k m : List UInt8) : Bool := if k = gOne then decide (m ∈ ones) else if k = gTwo then decide (m ∈ twos) else true
def lNum (P S : Int) (x : Li) : Bool :=
 if x.kind = gParam then inR P x.num else if x.kind = lLoad then inR S x.num else if x.kind = lStore then inR S x.num else if x.kind = lArg then inR 4 x.num else if x.kind = gCall then inR 5 x.num else true
def lKind (ones twos : List (List UInt8)) (x : Li) (s : Ash) : Bool := s.kind != [] && lOp ones twos x.kind x.name
def lBound (P S : Int) (x : Li) (s : Ash) : Bool := (!s.d || inR 8 x.d) && (!s.a || inR 8 x.a) && (!s.b || inR 8 x.b) && lNum P S x
def lShape (x : Li) (s : Ash) : Bool := (s.d || x.d == 0) && (s.a || x.a == 0) && (s.b || x.b == 0) && (s.num || x.num == 0) && (s.name || x.name == [])
def lowC (ones twos : List (List UInt8)) (P S : Int) (x : Li) (s : Ash) : Nat :=
 if lKind ones twos x s = false then 4 else if lBound P S x s = false then 2 else if lShape x s = false then 3 else 0
def lEnd (b : Lb) : Li := ⟨b.fin, 0, b.a, 0, 0, []⟩
def soonC (a b : Nat) : Nat := if a = 4 ∨ b = 4 then 4 else if a = 2 ∨ b = 2 then 2 else if a = 3 ∨ b = 3 then 3 else 0
def endC (ones twos : List (List UInt8)) (P S : Int) (N : Nat) (b : Lb) : Nat :=
 soonC (b.tos.foldl (fun c t => soonC c (if inR N t then 0 else 2)) (lowC ones twos P S (lEnd b) (ash b.fin true))) (if b.tos.length = (ash b.fin true).ways then 0 else 3)
def blkC (ones twos : List (List UInt8)) (P S : Int) (N : Nat) (b : Lb) : Nat :=
 b.ins.foldl (fun c x => soonC c (lowC ones twos P S x (ash x.kind false))) (endC ones twos P S N b)
def lowFrom (ones twos : List (List UInt8)) (P S : Int) (N : Nat) : Nat → List Lb → Nat × Int
 | _, [] => (0, -1)
 | i, b :: r => if blkC ones twos P S N b = 0 then lowFrom ones twos P S N (i + 1) r else (blkC ones twos P S N b, i)
def lowF (ones twos : List (List UInt8)) (P S : Int) (L : List Lb) : Nat × Int :=
 if 3000 < L.length then (8, -1) else if L.length = 0 then (3, -1) else if P < 0 ∨ 4 < P then (9, -1) else if S < 0 ∨ 1000 < S then (2, -1) else lowFrom ones twos P S L.length 0 L
def lbAt (L : List Lb) (i : Nat) : Lb := (L[i]?).getD ⟨[], [], 0, []⟩
def turn0 (ones twos : List (List UInt8)) (b : Lb) : Bool := (ash b.fin true).kind != [] && b.ins.all fun x => lKind ones twos x (ash x.kind false)
def turn1 (P S : Int) (N : Nat) (b : Lb) : Bool := (b.fin == lJump || inR 8 b.a) && b.tos.all (inR N) && b.ins.all fun x => lBound P S x (ash x.kind false)
def turn2 (b : Lb) : Bool := decide (b.tos.length = (ash b.fin true).ways) && (b.fin != lJump || b.a == 0) && b.ins.all fun x => lShape x (ash x.kind false)
def blkT (ones twos : List (List UInt8)) (P S : Int) (N : Nat) (b : Lb) : Nat := if turn0 ones twos b = false then 4 else if turn1 P S N b = false then 2 else if turn2 b = false then 3 else 0
theorem lowC_cases (ones twos : List (List UInt8)) (P S : Int) (x : Li) (s : Ash) : (lowC ones twos P S x s = 4 ↔ lKind ones twos x s = false) ∧ (lKind ones twos x s = true → (lowC ones twos P S x s = 2 ↔ lBound P S x s = false)) ∧ (lKind ones twos x s = true → lBound P S x s = true → (lowC ones twos P S x s = 3 ↔ lShape x s = false)) ∧ (lowC ones twos P S x s = 0 ∨ lowC ones twos P S x s = 2 ∨ lowC ones twos P S x s = 3 ∨ lowC ones twos P S x s = 4) := by
 unfold lowC
 cases lKind ones twos x s <;> cases lBound P S x s <;> cases lShape x s <;> simp
def Ec (c : Nat) : Prop := c = 0 ∨ c = 2 ∨ c = 3 ∨ c = 4
theorem soon_ec (a b : Nat) : Ec (soonC a b) := by
 unfold soonC Ec; split <;> (try split) <;> (try split) <;> simp
theorem soon_zero {c : Nat} (h : Ec c) : soonC c 0 = c := by rcases h with rfl | rfl | rfl | rfl <;> rfl
theorem fold_ec {α : Type} (f : α → Nat) : ∀ (l : List α) (c : Nat), Ec c → Ec (l.foldl (fun c x => soonC c (f x)) c)
 | [], _, h => h
 | _ :: r, _, _ => fold_ec f r _ (soon_ec _ _)
theorem soon_fold {α : Type} (f : α → Nat) (hf : ∀ x, f x = 0 ∨ f x = 2 ∨ f x = 3 ∨ f x = 4) : ∀ (l : List α) (c : Nat), (c = 0 ∨ c = 2 ∨ c = 3 ∨ c = 4) → l.foldl (fun c x => soonC c (f x)) c = if c = 4 ∨ ∃ x ∈ l, f x = 4 then 4 else if c = 2 ∨ ∃ x ∈ l, f x = 2 then 2 else if c = 3 ∨ ∃ x ∈ l, f x = 3 then 3 else 0
 | [], c, hc => by rcases hc with rfl | rfl | rfl | rfl <;> simp
 | x :: r, c, hc => by
  have hs : soonC c (f x) = 0 ∨ soonC c (f x) = 2 ∨ soonC c (f x) = 3 ∨ soonC c (f x) = 4 := by
   rcases hc with rfl | rfl | rfl | rfl <;> rcases hf x with h | h | h | h <;> rw [h] <;> decide
  rw [List.foldl_cons, soon_fold f hf r _ hs]
  simp only [List.mem_cons, exists_eq_or_imp]
  rcases hc with rfl | rfl | rfl | rfl <;> rcases hf x with h | h | h | h <;> rw [h] <;> simp [soonC]
theorem lowC_ec (ones twos : List (List UInt8)) (P S : Int) (x : Li) (s : Ash) : Ec (lowC ones twos P S x s) := (lowC_cases ones twos P S x s).2.2.2
theorem ash_fin {k : List UInt8} (h : (ash k true).kind ≠ []) : k = lJump ∨ k = gIf ∨ k = gReturn := by
 by_cases h1 : k = lJump
 ·simp [h1]
 by_cases h2 : k = gIf
 ·simp [h2]
 by_cases h3 : k = gReturn
 ·simp [h3]
 refine absurd ?_ h
 have e : ∀ l : List Ash, (∀ s ∈ l, s.fin = true → s.kind ≠ k) → ashIn l k true = noAsh := by
  intro l
  induction l with
  | nil => intro _; rfl
  | cons s r ih =>
   intro hl
   unfold ashIn
   rw [if_neg (fun h => hl s (by simp) h.2 h.1)]
   exact ih fun t ht => hl t (by simp [ht])
 show (ashIn ashL k true).kind = []
 rw [e ashL]
 ·rfl
 ·intro s hs hf
  simp only [ashL, List.mem_cons, List.not_mem_nil, or_false] at hs
  rcases hs with rfl | rfl | rfl | rfl | rfl | rfl | rfl | rfl | rfl | rfl | rfl | rfl | rfl | rfl <;> first | (cases hf; done) | exact Ne.symm h1 | exact Ne.symm h2 | exact Ne.symm h3
theorem endC_ec (ones twos : List (List UInt8)) (P S : Int) (N : Nat) (b : Lb) : Ec (endC ones twos P S N b) := soon_ec _ _
theorem all_false {α : Type} {p : α → Bool} {l : List α} : l.all p = false ↔ ∃ x ∈ l, p x = false := by
 rw [← Bool.not_eq_true, List.all_eq_true]
 simp
theorem end_bound {P S : Int} {b : Lb} (h : b.fin = lJump ∨ b.fin = gIf ∨ b.fin = gReturn) : lBound P S (lEnd b) (ash b.fin true) = (b.fin == lJump || inR 8 b.a) ∧ lShape (lEnd b) (ash b.fin true) = (b.fin != lJump || b.a == 0) ∧ (ash b.fin true).kind ≠ [] ∧ ∀ ones twos, lKind ones twos (lEnd b) (ash b.fin true) = true := by
 have hj : ash lJump true = ⟨lJump, false, false, false, false, false, true, 1⟩ := rfl
 have hi : ash gIf true = ⟨gIf, false, true, false, false, false, true, 2⟩ := rfl
 have hr : ash gReturn true = ⟨gReturn, false, true, false, false, false, true, 0⟩ := rfl
 obtain ⟨ins, fin, a, tos⟩ := b
 simp only at h
 rcases h with rfl | rfl | rfl
 ·refine ⟨?_, ?_, by simp only [hj]; decide, fun ones twos => ?_⟩
  ·simp only [lBound, lEnd, hj]; simp [ lNum, lJump, gParam, lLoad, lStore, lArg, gCall]
  ·simp only [lShape, lEnd, hj]; simp
  ·simp only [lKind, lEnd, hj]; simp [ lOp, lJump, gOne, gTwo]
 ·refine ⟨?_, ?_, by simp only [hi]; decide, fun ones twos => ?_⟩
  ·simp only [lBound, lEnd, hi]; simp [ lNum, lJump, gParam, lLoad, lStore, lArg, gCall, gIf]
  ·simp only [lShape, lEnd, hi]; simp [lJump, gIf]
  ·simp only [lKind, lEnd, hi]; simp [ lOp, gIf, gOne, gTwo]
 ·refine ⟨?_, ?_, by simp only [hr]; decide, fun ones twos => ?_⟩
  ·simp only [lBound, lEnd, hr]; simp [ lNum, lJump, gParam, lLoad, lStore, lArg, gCall, gReturn]
  ·simp only [lShape, lEnd, hr]; simp [lJump, gReturn]
  ·simp only [lKind, lEnd, hr]; simp [ lOp, gReturn, gOne, gTwo]
theorem blk_same (ones twos : List (List UInt8)) (P S : Int) (N : Nat) (b : Lb) : blkC ones twos P S N b = blkT ones twos P S N b := by
 have hl := fun x => lowC_cases ones twos P S x (ash x.kind false)
 have hg : ∀ t : Int, Ec (if inR N t then 0 else 2) := fun t => by unfold Ec; split <;> simp
 have h1 := soon_fold (fun t : Int => if inR N t then 0 else 2) hg b.tos _ (lowC_ec ones twos P S (lEnd b) (ash b.fin true))
 have h2 := soon_fold (fun x => lowC ones twos P S x (ash x.kind false)) (fun x => (hl x).2.2.2) b.ins _ (endC_ec ones twos P S N b)
 have g4 : ¬ ∃ t ∈ b.tos, (if inR N t then 0 else 2) = 4 := by rintro ⟨t, _, h⟩; split at h <;> cases h
 have g3 : ¬ ∃ t ∈ b.tos, (if inR N t then 0 else 2) = 3 := by rintro ⟨t, _, h⟩; split at h <;> cases h
 have g2 : (∃ t ∈ b.tos, (if inR N t then 0 else 2) = 2) ↔ b.tos.all (inR N) = false := by
  rw [all_false]
  constructor
  ·rintro ⟨t, ht, h⟩
   refine ⟨t, ht, ?_⟩
   cases e : inR N t with
   | true => rw [e] at h; cases h
   | false => rfl
  ·rintro ⟨t, ht, h⟩
   exact ⟨t, ht, by rw [h]; rfl⟩
 have i4 : (∃ x ∈ b.ins, lowC ones twos P S x (ash x.kind false) = 4) ↔ (b.ins.all fun x => lKind ones twos x (ash x.kind false)) = false := by
  rw [all_false]
  exact ⟨fun ⟨x, hx, h⟩ => ⟨x, hx, (hl x).1.1 h⟩, fun ⟨x, hx, h⟩ => ⟨x, hx, (hl x).1.2 h⟩⟩
 unfold blkC blkT turn0
 rw [h2]
 simp only [i4]
 by_cases hk : (ash b.fin true).kind = []
 ·have hlk : lKind ones twos (lEnd b) (ash b.fin true) = false := by simp [lKind, hk]
  have hl4 := (lowC_cases ones twos P S (lEnd b) (ash b.fin true)).1.2 hlk
  have he : endC ones twos P S N b = 4 := by
   unfold endC
   rw [h1, hl4]
   simp [soonC]
  simp [he, hk]
 obtain ⟨eb, es, ek, eo⟩ := end_bound (P := P) (S := S) (ash_fin hk)
 have hek := eo ones twos
 have hc := lowC_cases ones twos P S (lEnd b) (ash b.fin true)
 have hne : (ash b.fin true).kind != [] := by simpa using hk
 have c4 : lowC ones twos P S (lEnd b) (ash b.fin true) ≠ 4 := fun h => by rw [hc.1.1 h] at hek; cases hek
 have he : endC ones twos P S N b = if lBound P S (lEnd b) (ash b.fin true) = false ∨ b.tos.all (inR N) = false then 2 else if lShape (lEnd b) (ash b.fin true) = false ∨ b.tos.length ≠ (ash b.fin true).ways then 3 else 0 := by
  unfold endC
  rw [h1]
  simp only [c4, g4, g3, g2, or_self, or_false, if_false]
  by_cases hb : lBound P S (lEnd b) (ash b.fin true) = false
  ·rw [(hc.2.1 hek).2 hb]
   simp [hb, soonC]
   split <;> simp
  ·have hb' : lBound P S (lEnd b) (ash b.fin true) = true := by simpa using hb
   have c2 : lowC ones twos P S (lEnd b) (ash b.fin true) ≠ 2 := fun h => hb ((hc.2.1 hek).1 h)
   have hs := hc.2.2.1 hek hb'
   by_cases ha : b.tos.all (inR N) = false
   ·simp only [c2, ha, hb, or_true, if_true]
    unfold soonC; split <;> simp
   ·by_cases hw : b.tos.length = (ash b.fin true).ways
    ·by_cases hsh : lShape (lEnd b) (ash b.fin true) = false
     ·simp only [ha, hb, hs.2 hsh, hw, hsh]; simp [soonC]
     ·have c3 : lowC ones twos P S (lEnd b) (ash b.fin true) ≠ 3 := fun h => hsh (hs.1 h)
      simp only [c2, ha, hb, c3, hw, hsh]; simp [soonC]
    ·by_cases hsh : lShape (lEnd b) (ash b.fin true) = false
     ·simp only [ha, hb, hs.2 hsh, hw, hsh]; simp [soonC]
     ·have c3 : lowC ones twos P S (lEnd b) (ash b.fin true) ≠ 3 := fun h => hsh (hs.1 h)
      simp only [c2, ha, hb, c3, hw, hsh, or_self, if_false]; simp [soonC, hw]
 simp only [hne, Bool.true_and, he]
 by_cases ka : (b.ins.all fun x => lKind ones twos x (ash x.kind false)) = false
 ·simp [ka]
 ·have ka' : ∀ x ∈ b.ins, lKind ones twos x (ash x.kind false) = true := by simpa using ka
  have i2 : (∃ x ∈ b.ins, lowC ones twos P S x (ash x.kind false) = 2) ↔ (b.ins.all fun x => lBound P S x (ash x.kind false)) = false := by
   rw [all_false]
   exact ⟨fun ⟨x, hx, h⟩ => ⟨x, hx, ((hl x).2.1 (ka' x hx)).1 h⟩, fun ⟨x, hx, h⟩ => ⟨x, hx, ((hl x).2.1 (ka' x hx)).2 h⟩⟩
  have ht1 : turn1 P S N b = false ↔ (lBound P S (lEnd b) (ash b.fin true) = false ∨ b.tos.all (inR N) = false) ∨ (b.ins.all fun x => lBound P S x (ash x.kind false)) = false := by
   unfold turn1
   rw [Bool.and_eq_false_iff, Bool.and_eq_false_iff, eb]
  have ht2 : turn2 b = false ↔ (lShape (lEnd b) (ash b.fin true) = false ∨ b.tos.length ≠ (ash b.fin true).ways) ∨ (b.ins.all fun x => lShape x (ash x.kind false)) = false := by
   unfold turn2
   rw [Bool.and_eq_false_iff, Bool.and_eq_false_iff, es, decide_eq_false_iff_not, or_comm (a := ¬ _)]
  simp only [ka, i2, ht1, ht2]
  by_cases b1 : lBound P S (lEnd b) (ash b.fin true) = false ∨ b.tos.all (inR N) = false
  ·simp only [b1, true_or, if_true, Nat.reduceEqDiff] <;> simp
  ·by_cases b2 : (b.ins.all fun x => lBound P S x (ash x.kind false)) = false
   ·simp only [b1, b2]; by_cases b3 : lShape (lEnd b) (ash b.fin true) = false ∨ b.tos.length ≠ (ash b.fin true).ways <;> simp only [b3, true_or, or_true, if_true, if_false, Nat.reduceEqDiff] <;> simp
   ·have b2' : ∀ x ∈ b.ins, lBound P S x (ash x.kind false) = true := by simpa using b2
    have i3 : (∃ x ∈ b.ins, lowC ones twos P S x (ash x.kind false) = 3) ↔ (b.ins.all fun x => lShape x (ash x.kind false)) = false := by
     rw [all_false]
     exact ⟨fun ⟨x, hx, h⟩ => ⟨x, hx, ((hl x).2.2.1 (ka' x hx) (b2' x hx)).1 h⟩, fun ⟨x, hx, h⟩ => ⟨x, hx, ((hl x).2.2.1 (ka' x hx) (b2' x hx)).2 h⟩⟩
    simp only [b1, b2, i3]
    by_cases b3 : lShape (lEnd b) (ash b.fin true) = false ∨ b.tos.length ≠ (ash b.fin true).ways <;> by_cases b4 : (b.ins.all fun x => lShape x (ash x.kind false)) = false <;> simp only [b3, b4, true_or, or_true, if_true, if_false, Nat.reduceEqDiff, or_self] <;> simp
end Go.Proofs.YtimccbilkjjakaaDoor
namespace Go.Proofs.YtimccbilkjjakaaDoor
open Go.RowKit
def YSs {α : Type} (R : α → List Value → Prop) : List α → List Value → Prop
 | [], xs => xs = []
 | x :: r, xs => ∃ cs ys, xs = cs ++ ys ∧ R x cs ∧ YSs R r ys
theorem YSs.mono {α : Type} {R S : α → List Value → Prop} (h : ∀ x cs, R x cs → S x cs) : ∀ {l : List α} {xs : List Value}, YSs R l xs → YSs S l xs
 | [], _, k => k
 | _ :: _, _, ⟨cs, ys, e, h1, h2⟩ => ⟨cs, ys, e, h _ _ h1, YSs.mono h h2⟩
theorem YSs.len {α : Type} {R : α → List Value → Prop} {n : Nat} (hn : ∀ x cs, R x cs → cs.length = n) : ∀ {l : List α} {xs : List Value}, YSs R l xs → xs.length = l.length * n
 | [], xs, k => by have : xs = [] := k; rw [this]; simp
 | x :: r, _, ⟨cs, ys, e, h1, h2⟩ => by rw [e, List.length_append, hn _ _ h1, YSs.len hn h2, List.length_cons, Nat.add_mul]; omega
theorem YSs.snoc {α : Type} {R : α → List Value → Prop} : ∀ {l : List α} {xs : List Value} {x : α} {cs : List Value}, YSs R l xs → R x cs → YSs R (l ++ [x]) (xs ++ cs)
 | [], xs, x, cs, h, he => ⟨cs, [], by have : xs = [] := h; rw [this]; simp, he, rfl⟩
 | y :: r, _, x, cs, ⟨c1, ys, e, hx, hr⟩, he => ⟨c1, ys ++ cs, by rw [e, List.append_assoc], hx, YSs.snoc hr he⟩
theorem YSs.at {α : Type} {R : α → List Value → Prop} {n : Nat} (hn : ∀ x cs, R x cs → cs.length = n) : ∀ {l : List α} {xs : List Value} {i : Nat} (_ : YSs R l xs) (hi : i < l.length), ∃ cs, R l[i] cs ∧ ∀ j, j < n → xs[i * n + j]? = cs[j]?
 | [], _, _, _, hi => absurd hi (by simp)
 | x :: r, _, 0, ⟨cs, ys, rfl, he, _⟩, _ => ⟨cs, he, fun j hj => by rw [Nat.zero_mul, Nat.zero_add, List.getElem?_append_left (by rw [hn _ _ he]; exact hj)]⟩
 | x :: r, _, i + 1, ⟨cs, ys, rfl, he, hr⟩, hi => by
  obtain ⟨c2, h1, h2⟩ := YSs.at hn (i := i) hr (by simpa using hi)
  refine ⟨c2, h1, fun j hj => ?_⟩
  rw [List.getElem?_append_right (by rw [hn _ _ he, Nat.add_mul]; omega), hn _ _ he, show (i + 1) * n + j - n = i * n + j by rw [Nat.add_mul]; omega]
  exact h2 j hj
abbrev liV (x : Li) : List Value := [.string ⟨x.kind.toArray⟩, .int .i64 x.d, .int .i64 x.a, .int .i64 x.b, .int .i64 x.num, .string ⟨x.name.toArray⟩]
def XL (x : Li) (cs : List Value) : Prop := cs = liV x
def XLs (A : Nat → Prop) (w : World) (v : Value) (L : List Li) : Prop := ∃ xs, XRow A w v L.length xs ∧ YSs XL L xs
def XLB (A : Nat → Prop) (w : World) (b : Lb) (cs : List Value) : Prop :=
 ∃ ia ic ta tc, cs = [.slice ia b.ins.length ic, .string ⟨b.fin.toArray⟩, .int .i64 b.a, .slice ta b.tos.length tc] ∧ XLs A w (.slice ia b.ins.length ic) b.ins ∧ XRow A w (.slice ta b.tos.length tc) b.tos.length (intsG b.tos)
def XLC (A : Nat → Prop) (w : World) (v : Value) (L : List Lb) : Prop := ∃ xs, XRow A w v L.length xs ∧ YSs (XLB A w) L xs
theorem XL.len (x : Li) (cs : List Value) (h : XL x cs) : cs.length = 6 := by have : cs = _ := h; rw [this]; rfl
theorem XLB.len {A : Nat → Prop} {w : World} (x : Lb) (cs : List Value) (h : XLB A w x cs) : cs.length = 4 := by obtain ⟨_, _, _, _, rfl, _⟩ := h; rfl
section
variable {A B : Nat → Prop} {w w' : World}
theorem XLs.imp {v : Value} {L : List Li} (h : XLs A w v L) (hA : ∀ b, A b → B b) (hk : KeepA A w w') : XLs B w' v L := by
 obtain ⟨xs, h1, h2⟩ := h; exact ⟨xs, h1.imp hA hk, h2⟩
theorem XLB.imp (hA : ∀ b, A b → B b) (hk : KeepA A w w') (x : Lb) (cs : List Value) (h : XLB A w x cs) : XLB B w' x cs := by
 obtain ⟨ia, ic, ta, tc, h1, h2, h3⟩ := h
 exact ⟨ia, ic, ta, tc, h1, h2.imp hA hk, h3.imp hA hk⟩
theorem XLC.imp {v : Value} {L : List Lb} (h : XLC A w v L) (hA : ∀ b, A b → B b) (hk : KeepA A w w') : XLC B w' v L := by
 obtain ⟨xs, h1, h2⟩ := h; exact ⟨xs, h1.imp hA hk, h2.mono (XLB.imp hA hk)⟩
theorem XLs.is {v : Value} {L : List Li} (h : XLs A w v L) : ∃ ad cap, v = .slice ad L.length cap := by obtain ⟨xs, h1, _⟩ := h; exact h1.is
theorem XLC.is {v : Value} {L : List Lb} (h : XLC A w v L) : ∃ ad cap, v = .slice ad L.length cap := by obtain ⟨xs, h1, _⟩ := h; exact h1.is
theorem XLs.ins {ad : Option Addr} {l cap : Nat} {L : List Li} (h : XLs A w (.slice ad l cap) L) {i : Nat} (hi : i < L.length) :
  ∃ g off, ad = some ⟨g, off, none⟩ ∧ A g ∧
   w.cell? ⟨g, off + i * 6, none⟩ = some (.string ⟨L[i].kind.toArray⟩) ∧ w.cell? ⟨g, off + i * 6 + 1, none⟩ = some (.int .i64 L[i].d) ∧ w.cell? ⟨g, off + i * 6 + 2, none⟩ = some (.int .i64 L[i].a) ∧ w.cell? ⟨g, off + i * 6 + 3, none⟩ = some (.int .i64 L[i].b) ∧ w.cell? ⟨g, off + i * 6 + 4, none⟩ = some (.int .i64 L[i].num) ∧ w.cell? ⟨g, off + i * 6 + 5, none⟩ = some (.string ⟨L[i].name.toArray⟩) := by
 obtain ⟨xs, h1, h2⟩ := h
 obtain ⟨cs, e1, e2⟩ := h2.at XL.len hi
 obtain ⟨g, off, e3, hg, e4⟩ := h1.el 6 hi e2
 have e1 : cs = _ := e1
 subst e1
 refine ⟨g, off, e3, hg, e4 0 _ (by decide) rfl, ?_, ?_, ?_, ?_, ?_⟩
 ·simpa [Nat.add_assoc] using e4 1 _ (by decide) rfl
 ·simpa [Nat.add_assoc] using e4 2 _ (by decide) rfl
 ·simpa [Nat.add_assoc] using e4 3 _ (by decide) rfl
 ·simpa [Nat.add_assoc] using e4 4 _ (by decide) rfl
 ·simpa [Nat.add_assoc] using e4 5 _ (by decide) rfl
theorem XLC.blk {ad : Option Addr} {l cap : Nat} {L : List Lb} (h : XLC A w (.slice ad l cap) L) {i : Nat} (hi : i < L.length) :
  ∃ g off ia ic ta tc, ad = some ⟨g, off, none⟩ ∧ A g ∧ XLs A w (.slice ia L[i].ins.length ic) L[i].ins ∧ XRow A w (.slice ta L[i].tos.length tc) L[i].tos.length (intsG L[i].tos) ∧
   w.cell? ⟨g, off + i * 4, none⟩ = some (.slice ia L[i].ins.length ic) ∧ w.cell? ⟨g, off + i * 4 + 1, none⟩ = some (.string ⟨L[i].fin.toArray⟩) ∧ w.cell? ⟨g, off + i * 4 + 2, none⟩ = some (.int .i64 L[i].a) ∧ w.cell? ⟨g, off + i * 4 + 3, none⟩ = some (.slice ta L[i].tos.length tc) := by
 obtain ⟨xs, h1, h2⟩ := h
 obtain ⟨cs, e1, e2⟩ := h2.at XLB.len hi
 obtain ⟨g, off, e3, hg, e4⟩ := h1.el 4 hi e2
 obtain ⟨ia, ic, ta, tc, rfl, q1, q2⟩ := e1
 refine ⟨g, off, ia, ic, ta, tc, e3, hg, q1, q2, e4 0 _ (by decide) rfl, ?_, ?_, ?_⟩
 ·simpa [Nat.add_assoc] using e4 1 _ (by decide) rfl
 ·simpa [Nat.add_assoc] using e4 2 _ (by decide) rfl
 ·simpa [Nat.add_assoc] using e4 3 _ (by decide) rfl
end
end Go.Proofs.YtimccbilkjjakaaDoor
