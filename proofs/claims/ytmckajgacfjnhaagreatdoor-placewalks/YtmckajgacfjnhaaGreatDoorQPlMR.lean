/- Our own: texts joined: PlMath, PlRep. -/
import Derived.Test.YtmckajgacfjnhaaGreatDoorQGMath
import Derived.Test.YtmckajgacfjnhaaGreatDoorQGrRep
namespace Go.Proofs.YtmckajgacfjnhaaGreatDoor
structure Pi where
 kind : List UInt8
 d : Int
 args : List Int
 num : Int
 name : List UInt8
structure Pb where
 params : List Int
 ins : List Pi
 fin : List UInt8
 v : Int
 tos : List Int
 wi : List (List Int)
def gJump : List UInt8 := [106, 117, 109, 112]
def inV (V x : Int) : Bool := decide (0 ≤ x) && decide (x < V)
def pMakes (k : List UInt8) : Bool := k != gTick && k != gPrint
structure Psh where
 kind : List UInt8
 args : Int
 d : Bool
 num : Bool
 name : Bool
def pshL : List Psh := [⟨gParam, 0, true, true, false⟩, ⟨gConst, 0, true, true, false⟩, ⟨gOne, 1, true, false, true⟩, ⟨gTwo, 2, true, false, true⟩, ⟨gCall, -1, true, false, true⟩, ⟨gTick, 0, false, false, false⟩, ⟨gPrint, 1, false, false, false⟩]
def pshIn (l : List Psh) (k : List UInt8) : Psh := match l with
 | [] => ⟨[], 0, false, false, false⟩
 | s :: r => if s.kind = k then s else pshIn r k
def psh (k : List UInt8) : Psh := pshIn pshL k
def pOp (ones twos : List (List UInt8)) (k m : List UInt8) : Bool := if k = gOne then decide (m ∈ ones) else if k = gTwo then decide (m ∈ twos) else true
def pKind (ones twos : List (List UInt8)) (x : Pi) : Bool := (psh x.kind).kind != [] && pOp ones twos x.kind x.name
def pBound (V P : Int) (x : Pi) : Bool := (!(psh x.kind).d || inV V x.d) && (x.kind != gParam || inV P x.num) && x.args.all (inV V)
def pShape (x : Pi) : Bool := (decide ((psh x.kind).args < 0) || (x.args.length : Int) == (psh x.kind).args) && ((psh x.kind).d || x.d == 0) && ((psh x.kind).num || x.num == 0) && ((psh x.kind).name || x.name == [])
structure Pen where
 kind : List UInt8
 ways : Nat
 v : Bool
def penL : List Pen := [⟨gJump, 1, false⟩, ⟨gIf, 2, true⟩, ⟨gReturn, 0, true⟩]
def penIn (l : List Pen) (k : List UInt8) : Pen := match l with
 | [] => ⟨[], 0, false⟩
 | s :: r => if s.kind = k then s else penIn r k
def pen (k : List UInt8) : Pen := penIn penL k
def blkAt (L : List Pb) (i : Int) : Pb := (L[i.toNat]?).getD ⟨[], [], [], 0, [], []⟩
def bKind (ones twos : List (List UInt8)) (b : Pb) : Bool := (pen b.fin).kind != [] && b.ins.all (pKind ones twos)
def bBound (V P : Int) (N : Nat) (b : Pb) : Bool := b.params.all (inV V) && b.ins.all (pBound V P) && (!(pen b.fin).v || inV V b.v) && b.tos.all (inV N) && b.wi.all (fun l => l.all (inV V))
def bFit (L : List Pb) (b : Pb) : Bool := decide (b.wi.length = b.tos.length) && (List.range b.tos.length).all fun i => decide ((b.wi.getD i []).length = (blkAt L (b.tos.getD i 0)).params.length)
def bShape (L : List Pb) (b : Pb) : Bool := b.ins.all pShape && decide (b.tos.length = (pen b.fin).ways) && ((pen b.fin).v || b.v == 0) && bFit L b
def defsB (b : Pb) : List Int := b.params ++ (b.ins.filter fun x => (psh x.kind).d).map Pi.d
def newB (prev : List Int) : List Int → Bool
 | [] => true
 | x :: r => !prev.contains x && newB (prev ++ [x]) r
def blockC (ones twos : List (List UInt8)) (V P : Int) (L : List Pb) (prev : List Int) (b : Pb) : Nat :=
 if bKind ones twos b = false then 4 else if bBound V P L.length b = false then 2 else if bShape L b = false then 3 else if newB prev (defsB b) = false then 7 else 0
def codeFrom (ones twos : List (List UInt8)) (V P : Int) (L : List Pb) : Nat → List Int → List Pb → Nat × Int
 | _, _, [] => (0, -1)
 | i, prev, b :: r => if blockC ones twos V P L prev b = 0 then codeFrom ones twos V P L (i + 1) (prev ++ defsB b) r else (blockC ones twos V P L prev b, i)
def codeF (ones twos : List (List UInt8)) (V P : Int) (L : List Pb) : Nat × Int :=
 if 1000 < L.length ∨ 1000 < V then (8, -1) else if L.length = 0 ∨ (blkAt L 0).params ≠ [] ∨ V < 0 then (3, -1) else if P < 0 ∨ 4 < P then (9, -1) else codeFrom ones twos V P L 0 [] L
end Go.Proofs.YtmckajgacfjnhaaGreatDoor
namespace Go.Proofs.YtmckajgacfjnhaaGreatDoor
open Go.RowKit
def XSs {α : Type} (R : α → List Value → Prop) : List α → List Value → Prop
 | [], xs => xs = []
 | x :: r, xs => ∃ cs ys, xs = cs ++ ys ∧ R x cs ∧ XSs R r ys
theorem XSs.mono {α : Type} {R S : α → List Value → Prop} (h : ∀ x cs, R x cs → S x cs) : ∀ {l : List α} {xs : List Value}, XSs R l xs → XSs S l xs
 | [], _, k => k
 | _ :: _, _, ⟨cs, ys, e, h1, h2⟩ => ⟨cs, ys, e, h _ _ h1, XSs.mono h h2⟩
theorem XSs.len {α : Type} {R : α → List Value → Prop} {n : Nat} (hn : ∀ x cs, R x cs → cs.length = n) : ∀ {l : List α} {xs : List Value}, XSs R l xs → xs.length = l.length * n
 | [], xs, k => by have : xs = [] := k; rw [this]; simp
 | x :: r, _, ⟨cs, ys, e, h1, h2⟩ => by rw [e, List.length_append, hn _ _ h1, XSs.len hn h2, List.length_cons, Nat.add_mul]; omega
theorem XSs.snoc {α : Type} {R : α → List Value → Prop} : ∀ {l : List α} {xs : List Value} {x : α} {cs : List Value}, XSs R l xs → R x cs → XSs R (l ++ [x]) (xs ++ cs)
 | [], xs, x, cs, h, he => ⟨cs, [], by have : xs = [] := h; rw [this]; simp, he, rfl⟩
 | y :: r, _, x, cs, ⟨c1, ys, e, hx, hr⟩, he => ⟨c1, ys ++ cs, by rw [e, List.append_assoc], hx, XSs.snoc hr he⟩
theorem XSs.at {α : Type} {R : α → List Value → Prop} {n : Nat} (hn : ∀ x cs, R x cs → cs.length = n) : ∀ {l : List α} {xs : List Value} {i : Nat} (_ : XSs R l xs) (hi : i < l.length), ∃ cs, R l[i] cs ∧ ∀ j, j < n → xs[i * n + j]? = cs[j]?
 | [], _, _, _, hi => absurd hi (by simp)
 | x :: r, _, 0, ⟨cs, ys, rfl, he, _⟩, _ => ⟨cs, he, fun j hj => by rw [Nat.zero_mul, Nat.zero_add, List.getElem?_append_left (by rw [hn _ _ he]; exact hj)]⟩
 | x :: r, _, i + 1, ⟨cs, ys, rfl, he, hr⟩, hi => by
  obtain ⟨c2, h1, h2⟩ := XSs.at hn (i := i) hr (by simpa using hi)
  refine ⟨c2, h1, fun j hj => ?_⟩
  rw [List.getElem?_append_right (by rw [hn _ _ he, Nat.add_mul]; omega), hn _ _ he, show (i + 1) * n + j - n = i * n + j by rw [Nat.add_mul]; omega]
  exact h2 j hj
def XI (A : Nat → Prop) (w : World) (x : Pi) (cs : List Value) : Prop :=
 ∃ ad cap, cs = [.string ⟨x.kind.toArray⟩, .int .i64 x.d, .slice ad x.args.length cap, .int .i64 x.num, .string ⟨x.name.toArray⟩] ∧ XRow A w (.slice ad x.args.length cap) x.args.length (intsG x.args)
def XW (A : Nat → Prop) (w : World) (l : List Int) (cs : List Value) : Prop := ∃ ad cap, cs = [.slice ad l.length cap] ∧ XRow A w (.slice ad l.length cap) l.length (intsG l)
def XIs (A : Nat → Prop) (w : World) (v : Value) (L : List Pi) : Prop := ∃ xs, XRow A w v L.length xs ∧ XSs (XI A w) L xs
def XWs (A : Nat → Prop) (w : World) (v : Value) (L : List (List Int)) : Prop := ∃ xs, XRow A w v L.length xs ∧ XSs (XW A w) L xs
def XB (A : Nat → Prop) (w : World) (b : Pb) (cs : List Value) : Prop :=
 ∃ pa pc ia ic ta tc wa wc, cs = [.slice pa b.params.length pc, .slice ia b.ins.length ic, .string ⟨b.fin.toArray⟩, .int .i64 b.v, .slice ta b.tos.length tc, .slice wa b.wi.length wc] ∧
  XRow A w (.slice pa b.params.length pc) b.params.length (intsG b.params) ∧ XIs A w (.slice ia b.ins.length ic) b.ins ∧ XRow A w (.slice ta b.tos.length tc) b.tos.length (intsG b.tos) ∧ XWs A w (.slice wa b.wi.length wc) b.wi
def XCo (A : Nat → Prop) (w : World) (v : Value) (L : List Pb) : Prop := ∃ xs, XRow A w v L.length xs ∧ XSs (XB A w) L xs
theorem XI.len {A : Nat → Prop} {w : World} (x : Pi) (cs : List Value) (h : XI A w x cs) : cs.length = 5 := by obtain ⟨_, _, rfl, _⟩ := h; rfl
theorem XW.len {A : Nat → Prop} {w : World} (x : List Int) (cs : List Value) (h : XW A w x cs) : cs.length = 1 := by obtain ⟨_, _, rfl, _⟩ := h; rfl
theorem XB.len {A : Nat → Prop} {w : World} (x : Pb) (cs : List Value) (h : XB A w x cs) : cs.length = 6 := by obtain ⟨_, _, _, _, _, _, _, _, rfl, _⟩ := h; rfl
section
variable {A B : Nat → Prop} {w w' : World}
theorem XI.imp (hA : ∀ b, A b → B b) (hk : KeepA A w w') (x : Pi) (cs : List Value) (h : XI A w x cs) : XI B w' x cs := by
 obtain ⟨ad, cap, h1, h2⟩ := h; exact ⟨ad, cap, h1, h2.imp hA hk⟩
theorem XW.imp (hA : ∀ b, A b → B b) (hk : KeepA A w w') (x : List Int) (cs : List Value) (h : XW A w x cs) : XW B w' x cs := by
 obtain ⟨ad, cap, h1, h2⟩ := h; exact ⟨ad, cap, h1, h2.imp hA hk⟩
theorem XIs.imp {v : Value} {L : List Pi} (h : XIs A w v L) (hA : ∀ b, A b → B b) (hk : KeepA A w w') : XIs B w' v L := by
 obtain ⟨xs, h1, h2⟩ := h; exact ⟨xs, h1.imp hA hk, h2.mono (XI.imp hA hk)⟩
theorem XWs.imp {v : Value} {L : List (List Int)} (h : XWs A w v L) (hA : ∀ b, A b → B b) (hk : KeepA A w w') : XWs B w' v L := by
 obtain ⟨xs, h1, h2⟩ := h; exact ⟨xs, h1.imp hA hk, h2.mono (XW.imp hA hk)⟩
theorem XB.imp (hA : ∀ b, A b → B b) (hk : KeepA A w w') (x : Pb) (cs : List Value) (h : XB A w x cs) : XB B w' x cs := by
 obtain ⟨pa, pc, ia, ic, ta, tc, wa, wc, h1, h2, h3, h4, h5⟩ := h
 exact ⟨pa, pc, ia, ic, ta, tc, wa, wc, h1, h2.imp hA hk, h3.imp hA hk, h4.imp hA hk, h5.imp hA hk⟩
theorem XCo.imp {v : Value} {L : List Pb} (h : XCo A w v L) (hA : ∀ b, A b → B b) (hk : KeepA A w w') : XCo B w' v L := by
 obtain ⟨xs, h1, h2⟩ := h; exact ⟨xs, h1.imp hA hk, h2.mono (XB.imp hA hk)⟩
theorem XIs.is {v : Value} {L : List Pi} (h : XIs A w v L) : ∃ ad cap, v = .slice ad L.length cap := by obtain ⟨xs, h1, _⟩ := h; exact h1.is
theorem XWs.is {v : Value} {L : List (List Int)} (h : XWs A w v L) : ∃ ad cap, v = .slice ad L.length cap := by obtain ⟨xs, h1, _⟩ := h; exact h1.is
theorem XCo.is {v : Value} {L : List Pb} (h : XCo A w v L) : ∃ ad cap, v = .slice ad L.length cap := by obtain ⟨xs, h1, _⟩ := h; exact h1.is
theorem XIs.ins {ad : Option Addr} {l cap : Nat} {L : List Pi} (h : XIs A w (.slice ad l cap) L) {i : Nat} (hi : i < L.length) :
  ∃ g off ad1 cap1, ad = some ⟨g, off, none⟩ ∧ A g ∧ XRow A w (.slice ad1 L[i].args.length cap1) L[i].args.length (intsG L[i].args) ∧
   w.cell? ⟨g, off + i * 5, none⟩ = some (.string ⟨L[i].kind.toArray⟩) ∧ w.cell? ⟨g, off + i * 5 + 1, none⟩ = some (.int .i64 L[i].d) ∧ w.cell? ⟨g, off + i * 5 + 2, none⟩ = some (.slice ad1 L[i].args.length cap1) ∧ w.cell? ⟨g, off + i * 5 + 3, none⟩ = some (.int .i64 L[i].num) ∧ w.cell? ⟨g, off + i * 5 + 4, none⟩ = some (.string ⟨L[i].name.toArray⟩) := by
 obtain ⟨xs, h1, h2⟩ := h
 obtain ⟨cs, e1, e2⟩ := h2.at XI.len hi
 obtain ⟨g, off, e3, hg, e4⟩ := h1.el 5 hi e2
 obtain ⟨ad1, cap1, rfl, q2⟩ := e1
 refine ⟨g, off, ad1, cap1, e3, hg, q2, e4 0 _ (by decide) rfl, ?_, ?_, ?_, ?_⟩
 ·simpa [Nat.add_assoc] using e4 1 _ (by decide) rfl
 ·simpa [Nat.add_assoc] using e4 2 _ (by decide) rfl
 ·simpa [Nat.add_assoc] using e4 3 _ (by decide) rfl
 ·simpa [Nat.add_assoc] using e4 4 _ (by decide) rfl
theorem XWs.row {ad : Option Addr} {l cap : Nat} {L : List (List Int)} (h : XWs A w (.slice ad l cap) L) {i : Nat} (hi : i < L.length) :
  ∃ g off ad1 cap1, ad = some ⟨g, off, none⟩ ∧ A g ∧ XRow A w (.slice ad1 L[i].length cap1) L[i].length (intsG L[i]) ∧ w.cell? ⟨g, off + i, none⟩ = some (.slice ad1 L[i].length cap1) := by
 obtain ⟨xs, h1, h2⟩ := h
 obtain ⟨cs, e1, e2⟩ := h2.at XW.len hi
 obtain ⟨g, off, e3, hg, e4⟩ := h1.el 1 hi e2
 obtain ⟨ad1, cap1, rfl, q2⟩ := e1
 refine ⟨g, off, ad1, cap1, e3, hg, q2, ?_⟩
 simpa using e4 0 _ (by decide) rfl
theorem XCo.blk {ad : Option Addr} {l cap : Nat} {L : List Pb} (h : XCo A w (.slice ad l cap) L) {i : Nat} (hi : i < L.length) :
  ∃ g off pa pc ia ic ta tc wa wc, ad = some ⟨g, off, none⟩ ∧ A g ∧ XRow A w (.slice pa L[i].params.length pc) L[i].params.length (intsG L[i].params) ∧ XIs A w (.slice ia L[i].ins.length ic) L[i].ins ∧ XRow A w (.slice ta L[i].tos.length tc) L[i].tos.length (intsG L[i].tos) ∧ XWs A w (.slice wa L[i].wi.length wc) L[i].wi ∧
   w.cell? ⟨g, off + i * 6, none⟩ = some (.slice pa L[i].params.length pc) ∧ w.cell? ⟨g, off + i * 6 + 1, none⟩ = some (.slice ia L[i].ins.length ic) ∧ w.cell? ⟨g, off + i * 6 + 2, none⟩ = some (.string ⟨L[i].fin.toArray⟩) ∧ w.cell? ⟨g, off + i * 6 + 3, none⟩ = some (.int .i64 L[i].v) ∧ w.cell? ⟨g, off + i * 6 + 4, none⟩ = some (.slice ta L[i].tos.length tc) ∧ w.cell? ⟨g, off + i * 6 + 5, none⟩ = some (.slice wa L[i].wi.length wc) := by
 obtain ⟨xs, h1, h2⟩ := h
 obtain ⟨cs, e1, e2⟩ := h2.at XB.len hi
 obtain ⟨g, off, e3, hg, e4⟩ := h1.el 6 hi e2
 obtain ⟨pa, pc, ia, ic, ta, tc, wa, wc, rfl, q1, q2, q3, q4⟩ := e1
 refine ⟨g, off, pa, pc, ia, ic, ta, tc, wa, wc, e3, hg, q1, q2, q3, q4, e4 0 _ (by decide) rfl, ?_, ?_, ?_, ?_, ?_⟩
 ·simpa [Nat.add_assoc] using e4 1 _ (by decide) rfl
 ·simpa [Nat.add_assoc] using e4 2 _ (by decide) rfl
 ·simpa [Nat.add_assoc] using e4 3 _ (by decide) rfl
 ·simpa [Nat.add_assoc] using e4 4 _ (by decide) rfl
 ·simpa [Nat.add_assoc] using e4 5 _ (by decide) rfl
end
end Go.Proofs.YtmckajgacfjnhaaGreatDoor
