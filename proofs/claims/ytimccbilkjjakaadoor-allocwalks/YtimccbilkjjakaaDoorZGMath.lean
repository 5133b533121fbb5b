/- Our own: texts joined: GrSearch, GrMath, GrWell, GrSound. -/
namespace Go.Proofs.YtimccbilkjjakaaDoor
inductive Star (R : Nat → Nat → Prop) : Nat → Nat → Prop
 | refl (a : Nat) : Star R a a
 | tail {a b c : Nat} : Star R a b → R b c → Star R a c
theorem Star.trans {R : Nat → Nat → Prop} {a b c : Nat} (h : Star R a b) (k : Star R b c) : Star R a c := by
 induction k with
 | refl => exact h
 | tail _ r ih => exact ih.tail r
theorem Star.one {R : Nat → Nat → Prop} {a b : Nat} (h : R a b) : Star R a b := (Star.refl a).tail h
theorem Star.imp {R S : Nat → Nat → Prop} (h : ∀ a b, R a b → S a b) {a b : Nat} (k : Star R a b) : Star S a b := by
 induction k with
 | refl => exact .refl _
 | tail _ r ih => exact ih.tail (h _ _ r)
theorem Star.closed {R : Nat → Nat → Prop} {P : Nat → Prop} (hP : ∀ a b, P a → R a b → P b) {a b : Nat} (k : Star R a b) (h : P a) : P b := by
 induction k with
 | refl => exact h
 | tail _ r ih => exact hP _ _ ih r
def seenP (s : List Bool) (x : Nat) : Prop := s[x]? = some true
instance (s : List Bool) (x : Nat) : Decidable (seenP s x) := inferInstanceAs (Decidable (_ = _))
def note1 (s : List Bool × List Nat) (i : Nat) : List Bool × List Nat := if s.1[i]? = some true then s else (s.1.set i true, s.2 ++ [i])
def noteL (s : List Bool × List Nat) (l : List Nat) : List Bool × List Nat := l.foldl note1 s
def unseen (s : List Bool) : Nat := s.count false
theorem unseen_set : ∀ (s : List Bool) (i : Nat), i < s.length → s[i]? ≠ some true → unseen (s.set i true) + 1 = unseen s
 | [], _, h, _ => absurd h (by simp)
 | b :: s, 0, _, h => by
  have : b = false := by simpa using h
  subst this
  simp [unseen]
 | b :: s, i + 1, hi, h => by
  have := unseen_set s i (by simpa using hi) (by simpa using h)
  simp only [List.set_cons_succ]
  unfold unseen at *
  rw [List.count_cons, List.count_cons]
  omega
theorem seen_set {s : List Bool} {i x : Nat} (hi : i < s.length) : seenP (s.set i true) x ↔ seenP s x ∨ x = i := by
 unfold seenP
 by_cases h : i = x
 ·subst h; simp [hi]
 ·rw [List.getElem?_set_ne h]; constructor
  ·exact Or.inl
  ·rintro (h' | h')
   ·exact h'
   ·exact absurd h'.symm h
structure Noted (s t : List Bool × List Nat) (l : List Nat) : Prop where
 len : t.1.length = s.1.length
 seen : ∀ x, seenP t.1 x ↔ seenP s.1 x ∨ x ∈ l
 todo : ∀ x, x ∈ t.2 ↔ x ∈ s.2 ∨ (x ∈ l ∧ ¬ seenP s.1 x)
 many : 2 * unseen t.1 + t.2.length ≤ 2 * unseen s.1 + s.2.length
 few : unseen t.1 + t.2.length = unseen s.1 + s.2.length
theorem note1_noted (s : List Bool × List Nat) (i : Nat) (hi : i < s.1.length) : Noted s (note1 s i) [i] := by
 unfold note1
 by_cases h : s.1[i]? = some true
 ·rw [if_pos h]
  refine ⟨rfl, fun x => ?_, fun x => ?_, Nat.le_refl _, rfl⟩
  ·constructor
   ·exact Or.inl
   ·rintro (h' | h')
    ·exact h'
    ·rw [List.mem_singleton] at h'; subst h'; exact h
  ·constructor
   ·exact Or.inl
   ·rintro (h' | ⟨h', h2⟩)
    ·exact h'
    ·rw [List.mem_singleton] at h'; subst h'; exact absurd h h2
 ·rw [if_neg h]
  have hu := unseen_set s.1 i hi h
  refine ⟨by simp, fun x => ?_, fun x => ?_, by simp; omega, by simp; omega⟩
  ·rw [seen_set hi]; simp
  ·simp only [List.mem_append, List.mem_singleton]
   constructor
   ·rintro (h' | h')
    ·exact Or.inl h'
    ·subst h'; exact Or.inr ⟨rfl, h⟩
   ·rintro (h' | ⟨h', _⟩)
    ·exact Or.inl h'
    ·exact Or.inr h'
theorem Noted.trans {s t u : List Bool × List Nat} {l m : List Nat} (h : Noted s t l) (k : Noted t u m) : Noted s u (l ++ m) := by
 refine ⟨k.len.trans h.len, fun x => ?_, fun x => ?_, Nat.le_trans k.many h.many, k.few.trans h.few⟩
 ·rw [k.seen, h.seen, List.mem_append, or_assoc]
 ·rw [k.todo, h.todo, h.seen, List.mem_append]
  constructor
  ·rintro ((h1 | ⟨h1, h2⟩) | ⟨h1, h2⟩)
   ·exact Or.inl h1
   ·exact Or.inr ⟨Or.inl h1, h2⟩
   ·exact Or.inr ⟨Or.inr h1, fun h => h2 (Or.inl h)⟩
  ·rintro (h1 | ⟨h1 | h1, h2⟩)
   ·exact Or.inl (Or.inl h1)
   ·exact Or.inl (Or.inr ⟨h1, h2⟩)
   ·by_cases hl : x ∈ l
    ·exact Or.inl (Or.inr ⟨hl, h2⟩)
    ·exact Or.inr ⟨h1, fun h => h.elim h2 hl⟩
theorem noted_nil (s : List Bool × List Nat) : Noted s s [] := ⟨rfl, fun x => by simp, fun x => by simp, Nat.le_refl _, rfl⟩
theorem noted_all : ∀ (l : List Nat) (s : List Bool × List Nat), (∀ i ∈ l, i < s.1.length) → Noted s (noteL s l) l
 | [], s, _ => noted_nil s
 | i :: l, s, h => by
  have h1 := note1_noted s i (h i (by simp))
  have h2 := noted_all l (note1 s i) (fun j hj => by rw [h1.len]; exact h j (by simp [hj]))
  exact h1.trans h2
structure Srch (R : Nat → Nat → Prop) (first : Nat → Prop) (seen : Nat → Prop) (todo vis : List Nat) : Prop where
 come : ∀ x, seen x → ∃ f, first f ∧ Star R f x
 hfirst : ∀ f, first f → seen f
 htodo : ∀ x ∈ todo, seen x
 hvis : ∀ x ∈ vis, seen x
 each : ∀ x, seen x → x ∈ todo ∨ x ∈ vis
 next : ∀ x y, x ∈ vis → R x y → seen y
theorem Srch.done {R : Nat → Nat → Prop} {first seen : Nat → Prop} {vis : List Nat} (h : Srch R first seen [] vis) (x : Nat) : x ∈ vis ↔ ∃ f, first f ∧ Star R f x := by
 constructor
 ·intro hx; exact h.come x (h.hvis x hx)
 ·rintro ⟨f, hf, hs⟩
  have hf' : f ∈ vis := (h.each f (h.hfirst f hf)).resolve_left (by simp)
  exact Star.closed (P := fun x => x ∈ vis) (fun a b ha r => (h.each b (h.next a b ha r)).resolve_left (by simp)) hs hf'
theorem Srch.start {R : Nat → Nat → Prop} {n : Nat} {l : List Nat} (hl : ∀ i ∈ l, i < n) : Srch R (fun x => x ∈ l) (seenP (noteL (List.replicate n false, []) l).1) (noteL (List.replicate n false, []) l).2 [] := by
 have h := noted_all l (List.replicate n false, []) (by simpa using hl)
 have h0 : ∀ x, ¬ seenP (List.replicate n false) x := fun x hx => by
  unfold seenP at hx
  rw [List.getElem?_replicate] at hx
  split at hx <;> simp at hx
 refine ⟨fun x hx => ?_, fun f hf => (h.seen f).2 (Or.inr hf), fun x hx => ?_, by simp, fun x hx => ?_, by simp⟩
 ·rcases (h.seen x).1 hx with h1 | h1
  ·exact absurd h1 (h0 x)
  ·exact ⟨x, h1, .refl _⟩
 ·rcases (h.todo x).1 hx with h1 | ⟨h1, _⟩
  ·simp at h1
  ·exact (h.seen x).2 (Or.inr h1)
 ·rcases (h.seen x).1 hx with h1 | h1
  ·exact absurd h1 (h0 x)
  ·exact Or.inl ((h.todo x).2 (Or.inr ⟨h1, h0 x⟩))
theorem Srch.step {R : Nat → Nat → Prop} {first : Nat → Prop} {s : List Bool} {t vis nx : List Nat} {x : Nat} (h : Srch R first (seenP s) (t ++ [x]) vis) (hR : ∀ y, R x y ↔ y ∈ nx) (hn : ∀ i ∈ nx, i < s.length) :
  Srch R first (seenP (noteL (s, t) nx).1) (noteL (s, t) nx).2 (x :: vis) := by
 have k := noted_all nx (s, t) hn
 have hx : seenP s x := h.htodo x (by simp)
 refine ⟨fun y hy => ?_, fun f hf => (k.seen f).2 (Or.inl (h.hfirst f hf)), fun y hy => ?_, fun y hy => ?_, fun y hy => ?_, fun y z hy r => ?_⟩
 ·rcases (k.seen y).1 hy with h1 | h1
  ·exact h.come y h1
  ·obtain ⟨f, hf, hs⟩ := h.come x hx
   exact ⟨f, hf, hs.tail ((hR y).2 h1)⟩
 ·rcases (k.todo y).1 hy with h1 | ⟨h1, _⟩
  ·exact (k.seen y).2 (Or.inl (h.htodo y (by simp only [List.mem_append]; exact Or.inl h1)))
  ·exact (k.seen y).2 (Or.inr h1)
 ·rcases List.mem_cons.1 hy with rfl | h1
  ·exact (k.seen y).2 (Or.inl hx)
  ·exact (k.seen y).2 (Or.inl (h.hvis y h1))
 ·by_cases hs : seenP s y
  ·rcases h.each y hs with h1 | h1
   ·rcases List.mem_append.1 h1 with h1 | h1
    ·exact Or.inl ((k.todo y).2 (Or.inl h1))
    ·rw [List.mem_singleton] at h1; subst h1; exact Or.inr (by simp)
   ·exact Or.inr (List.mem_cons_of_mem _ h1)
  ·rcases (k.seen y).1 hy with h1 | h1
   ·exact absurd h1 hs
   ·exact Or.inl ((k.todo y).2 (Or.inr ⟨h1, hs⟩))
 ·rcases List.mem_cons.1 hy with h1 | h1
  ·subst h1; exact (k.seen z).2 (Or.inr ((hR z).1 r))
  ·exact (k.seen z).2 (Or.inl (h.next y z h1 r))
def Away (R : Nat → Nat → Prop) (but : Nat → Prop) (x y : Nat) : Prop := R x y ∧ ¬ but y
structure Qch (R : Nat → Nat → Prop) (but : Nat → Prop) (a : Nat) (seen : Nat → Prop) (todo : List Nat) : Prop where
 come : ∀ x, seen x → ¬ but a ∧ Star (Away R but) a x
 htodo : ∀ x ∈ todo, but x ∨ (¬ but a ∧ Star (Away R but) a x)
 hfirst : ¬ but a → seen a ∨ a ∈ todo
 next : ∀ x y, seen x → R x y → ¬ but y → seen y ∨ y ∈ todo
theorem Qch.start (R : Nat → Nat → Prop) (but : Nat → Prop) (a : Nat) (n : Nat) : Qch R but a (seenP (List.replicate n false)) [a] := by
 have h0 : ∀ x, ¬ seenP (List.replicate n false) x := fun x hx => by
  unfold seenP at hx
  rw [List.getElem?_replicate] at hx
  split at hx <;> simp at hx
 refine ⟨fun x hx => absurd hx (h0 x), fun x hx => ?_, fun _ => Or.inr (by simp), fun x y hx => absurd hx (h0 x)⟩
 rw [List.mem_singleton] at hx
 subst hx
 by_cases h : but x
 ·exact Or.inl h
 ·exact Or.inr ⟨h, .refl _⟩
theorem Qch.skip {R : Nat → Nat → Prop} {but : Nat → Prop} {a : Nat} {seen : Nat → Prop} {x : Nat} {t : List Nat} (h : Qch R but a seen (x :: t)) (hx : seen x ∨ but x) : Qch R but a seen t := by
 refine ⟨h.come, fun y hy => h.htodo y (by simp [hy]), fun ha => ?_, fun y z hy r hz => ?_⟩
 ·rcases h.hfirst ha with h1 | h1
  ·exact Or.inl h1
  ·rcases List.mem_cons.1 h1 with h1 | h1
   ·subst h1; exact Or.inl (hx.resolve_right ha)
   ·exact Or.inr h1
 ·rcases h.next y z hy r hz with h1 | h1
  ·exact Or.inl h1
  ·rcases List.mem_cons.1 h1 with h1 | h1
   ·subst h1; exact Or.inl (hx.resolve_right hz)
   ·exact Or.inr h1
theorem Qch.take {R : Nat → Nat → Prop} {but : Nat → Prop} {a : Nat} {s : List Bool} {x : Nat} {t nx : List Nat} (h : Qch R but a (seenP s) (x :: t)) (hb : ¬ but x) (hlt : x < s.length) (hR : ∀ y, R x y ↔ y ∈ nx) : Qch R but a (seenP (s.set x true)) (t ++ nx) := by
 have hx := (h.htodo x (by simp)).resolve_left hb
 have key : ∀ y, seenP s y ∨ y ∈ (x :: t) → seenP (s.set x true) y ∨ y ∈ t ++ nx := by
  rintro y (h1 | h1)
  ·exact Or.inl ((seen_set hlt).2 (Or.inl h1))
  ·rcases List.mem_cons.1 h1 with h1 | h1
   ·exact Or.inl ((seen_set hlt).2 (Or.inr h1))
   ·exact Or.inr (by simp [h1])
 refine ⟨fun y hy => ?_, fun y hy => ?_, fun ha => key a (h.hfirst ha), fun y z hy r hz => ?_⟩
 ·rcases (seen_set hlt).1 hy with h1 | h1
  ·exact h.come y h1
  ·subst h1; exact hx
 ·rcases List.mem_append.1 hy with h1 | h1
  ·exact h.htodo y (by simp [h1])
  ·by_cases hy' : but y
   ·exact Or.inl hy'
   ·exact Or.inr ⟨hx.1, hx.2.tail ⟨(hR y).2 h1, hy'⟩⟩
 ·rcases (seen_set hlt).1 hy with h1 | h1
  ·exact key z (h.next y z h1 r hz)
  ·subst h1; exact Or.inr (by simp [(hR z).1 r])
theorem Qch.done {R : Nat → Nat → Prop} {but : Nat → Prop} {a : Nat} {seen : Nat → Prop} (h : Qch R but a seen []) (x : Nat) : seen x ↔ ¬ but a ∧ Star (Away R but) a x := by
 refine ⟨h.come x, fun ⟨ha, hs⟩ => ?_⟩
 exact Star.closed (P := seen) (fun y z hy r => (h.next y z hy r.1 r.2).resolve_right (by simp)) hs ((h.hfirst ha).resolve_right (by simp))
end Go.Proofs.YtimccbilkjjakaaDoor
namespace Go.Proofs.YtimccbilkjjakaaDoor
structure Nd where
 kind : List UInt8
 ins : List Int
 num : Int
 name : List UInt8
structure Shp where
 kind : List UInt8
 ins : List UInt8
 more : List UInt8
 num : Bool
 name : Bool
 gives : List UInt8
def gStart : List UInt8 := [115, 116, 97, 114, 116]
def gParam : List UInt8 := [112, 97, 114, 97, 109]
def gConst : List UInt8 := [99, 111, 110, 115, 116]
def gOne : List UInt8 := [111, 110, 101]
def gTwo : List UInt8 := [116, 119, 111]
def gPhi : List UInt8 := [112, 104, 105]
def gRegion : List UInt8 := [114, 101, 103, 105, 111, 110]
def gIf : List UInt8 := [105, 102]
def gYes : List UInt8 := [121, 101, 115]
def gNo : List UInt8 := [110, 111]
def gTick : List UInt8 := [116, 105, 99, 107]
def gPrint : List UInt8 := [112, 114, 105, 110, 116]
def gCall : List UInt8 := [99, 97, 108, 108]
def gReturn : List UInt8 := [114, 101, 116, 117, 114, 110]
def noShp : Shp := ⟨[], [], [], false, false, []⟩
def shapesL : List Shp := [
 ⟨gStart, [], [], false, false, [119]⟩,
 ⟨gParam, [], [], true, false, [118]⟩,
 ⟨gConst, [], [], true, false, [118]⟩,
 ⟨gOne, [118], [], false, true, [118]⟩,
 ⟨gTwo, [118, 118], [], false, true, [118]⟩,
 ⟨gPhi, [114], [118], false, false, [118]⟩,
 ⟨gRegion, [119], [119], false, false, [119, 114]⟩,
 ⟨gIf, [119, 118], [], false, false, [105]⟩,
 ⟨gYes, [105], [], false, false, [119]⟩,
 ⟨gNo, [105], [], false, false, [119]⟩,
 ⟨gTick, [119], [], false, false, [119]⟩,
 ⟨gPrint, [119, 118], [], false, false, [119]⟩,
 ⟨gCall, [119], [118], false, true, [119, 118]⟩,
 ⟨gReturn, [119, 118], [], false, false, []⟩]
def shpIn (l : List Shp) (k : List UInt8) : Shp := match l with
 | [] => noShp
 | s :: r => if s.kind = k then s else shpIn r k
def shp (k : List UInt8) : Shp := shpIn shapesL k
theorem shpIn_cases (k : List UInt8) : ∀ l : List Shp, (shpIn l k = noShp ∧ ∀ s ∈ l, s.kind ≠ k) ∨ ∃ s ∈ l, s.kind = k ∧ shpIn l k = s
 | [] => Or.inl ⟨rfl, by simp⟩
 | s :: r => by
  unfold shpIn
  by_cases h : s.kind = k
  ·rw [if_pos h]; exact Or.inr ⟨s, by simp, h, rfl⟩
  ·rw [if_neg h]
   rcases shpIn_cases k r with ⟨h1, h2⟩ | ⟨t, h1, h2, h3⟩
   ·exact Or.inl ⟨h1, by simp [h]; exact h2⟩
   ·exact Or.inr ⟨t, by simp [h1], h2, h3⟩
theorem kind_cases (k : List UInt8) : k = gStart ∨ k = gParam ∨ k = gConst ∨ k = gOne ∨ k = gTwo ∨ k = gPhi ∨ k = gRegion ∨ k = gIf ∨ k = gYes ∨ k = gNo ∨ k = gTick ∨ k = gPrint ∨ k = gCall ∨ k = gReturn ∨ (shp k = noShp ∧ k ≠ gStart ∧ k ≠ gParam ∧ k ≠ gConst ∧ k ≠ gOne ∧ k ≠ gTwo ∧ k ≠ gPhi ∧ k ≠ gRegion ∧ k ≠ gIf ∧ k ≠ gYes ∧ k ≠ gNo ∧ k ≠ gTick ∧ k ≠ gPrint ∧ k ≠ gCall ∧ k ≠ gReturn) := by
 rcases shpIn_cases k shapesL with ⟨h1, h2⟩ | ⟨s, h1, h2, h3⟩
 ·simp only [shapesL, List.mem_cons, List.not_mem_nil, or_false, forall_eq_or_imp, forall_eq] at h2
  obtain ⟨a1, a2, a3, a4, a5, a6, a7, a8, a9, a10, a11, a12, a13, a14⟩ := h2
  simp only [ne_eq, eq_comm] at *
  exact Or.inr (Or.inr (Or.inr (Or.inr (Or.inr (Or.inr (Or.inr (Or.inr (Or.inr (Or.inr (Or.inr (Or.inr (Or.inr (Or.inr ⟨h1, a1, a2, a3, a4, a5, a6, a7, a8, a9, a10, a11, a12, a13, a14⟩)))))))))))))
 ·simp only [shapesL, List.mem_cons, List.not_mem_nil, or_false] at h1
  rcases h1 with rfl | rfl | rfl | rfl | rfl | rfl | rfl | rfl | rfl | rfl | rfl | rfl | rfl | rfl <;> simp only at h2 <;> subst h2 <;> simp
theorem shp_kind {k : List UInt8} (h : (shp k).kind ≠ []) : (shp k).kind = k := by
 rcases kind_cases k with rfl | rfl | rfl | rfl | rfl | rfl | rfl | rfl | rfl | rfl | rfl | rfl | rfl | rfl | ⟨h', _⟩ <;> first | rfl | exact absurd (by rw [h']; rfl) h
def dueS (s : Shp) (k : Nat) : UInt8 := if k < s.ins.length then s.ins.getD k 0 else s.more.headD 0
def fitsB (s : Shp) (n : Nd) : Bool := (n.ins.length == s.ins.length || (decide (s.ins.length < n.ins.length) && s.more != [])) && (s.num || n.num == 0) && (s.name || n.name == [])
def bndB (P : Int) (N : Nat) (n : Nd) : Bool := n.ins.all (fun i => decide (0 ≤ i ∧ i < N)) && (n.kind != gParam || decide (0 ≤ n.num ∧ n.num < P))
def opB (ones twos : List (List UInt8)) (n : Nd) : Bool := if n.kind = gOne then decide (n.name ∈ ones) else if n.kind = gTwo then decide (n.name ∈ twos) else true
def ndAt (L : List Nd) (i : Int) : Nd := (L[i.toNat]?).getD ⟨[], [], 0, []⟩
def givAt (L : List Nd) (n : Nd) (k : Nat) : Bool := (shp (ndAt L (n.ins.getD k 0)).kind).gives.contains (dueS (shp n.kind) k)
def givB (L : List Nd) (n : Nd) : Bool := (List.range n.ins.length).all (givAt L n)
def phiB (L : List Nd) (n : Nd) : Bool := n.kind != gPhi || n.ins.length == (ndAt L (n.ins.getD 0 0)).ins.length + 1
def nodeC (ones twos : List (List UInt8)) (P : Int) (L : List Nd) (i : Nat) : Nat :=
 let n := ndAt L i
 let s := shp n.kind
 if s.kind = [] then 4 else if (s.kind = gStart ∧ 0 < i) ∨ fitsB s n = false then 3 else if bndB P L.length n = false then 2 else if opB ones twos n = false then 4 else if givB L n = false ∨ phiB L n = false then 3 else 0
end Go.Proofs.YtimccbilkjjakaaDoor
namespace Go.Proofs.YtimccbilkjjakaaDoor
def AllW (ones twos : List (List UInt8)) (P : Int) (L : List Nd) : Prop := ∀ i, i < L.length → nodeC ones twos P L i = 0
structure NodeW (ones twos : List (List UInt8)) (P : Int) (L : List Nd) (i : Nat) (n : Nd) : Prop where
 kind : (shp n.kind).kind = n.kind
 nonempty : n.kind ≠ []
 start : n.kind = gStart → i = 0
 fits : fitsB (shp n.kind) n = true
 bnd : ∀ x ∈ n.ins, 0 ≤ x ∧ x < L.length
 par : n.kind = gParam → 0 ≤ n.num ∧ n.num < P
 op : opB ones twos n = true
 giv : ∀ k, k < n.ins.length → givAt L n k = true
 phi : phiB L n = true
theorem nodeW {ones twos : List (List UInt8)} {P : Int} {L : List Nd} {i : Nat} {n : Nd} (hn : L[i]? = some n) (h : nodeC ones twos P L i = 0) : NodeW ones twos P L i n := by
 have e : ndAt L i = n := by simp [ndAt, hn]
 unfold nodeC at h
 simp only [e] at h
 split at h
 ·cases h
 ·next h1 =>
  split at h
  ·cases h
  ·next h2 =>
   split at h
   ·cases h
   ·next h3 =>
    split at h
    ·cases h
    ·next h4 =>
     split at h
     ·cases h
     ·next h5 =>
      simp only [not_or, not_and, Bool.not_eq_false] at h2 h3 h4 h5
      have hk := shp_kind h1
      unfold bndB at h3
      simp only [Bool.and_eq_true, List.all_eq_true, decide_eq_true_eq, Bool.or_eq_true, bne_iff_ne, ne_eq] at h3
      refine ⟨hk, fun e => h1 (by rw [hk]; exact e), fun hs => ?_, h2.2, h3.1, fun hp => h3.2.resolve_left (fun h => h hp), h4, fun k hk => ?_, h5.2⟩
      ·have := h2.1 (by rw [hk]; exact hs); omega
      ·have := h5.1
       unfold givB at this
       rw [List.all_eq_true] at this
       exact this k (by simpa using hk)
theorem AllW.at {ones twos : List (List UInt8)} {P : Int} {L : List Nd} (h : AllW ones twos P L) {i : Nat} {n : Nd} (hn : L[i]? = some n) : NodeW ones twos P L i n := by
 have hi : i < L.length := by
  rcases Nat.lt_or_ge i L.length with h | h
  ·exact h
  ·rw [List.getElem?_eq_none h] at hn; cases hn
 exact nodeW hn (h i hi)
end Go.Proofs.YtimccbilkjjakaaDoor
namespace Go.Proofs.YtimccbilkjjakaaDoor
section
variable {ones twos : List (List UInt8)} {P : Int} {L : List Nd}
end
end Go.Proofs.YtimccbilkjjakaaDoor
