/- Our own: texts joined: GrSearch, GrMath, GrWell, GrSound. -/
namespace Go.Proofs.YtlgejjmdanmglaaGreatDoor
inductive Star (R : Nat → Nat → Prop) : Nat → Nat → Prop
 | refl (a : Nat) : Star R a a
 | tail {a b c : Nat} : Star R a b → R b c → Star R a c
theorem Star.trans {R : Nat → Nat → Prop} {a b c : Nat} (h : Star R a b) (k : Star R b c) : Star R a c := by
 induction k with
 | refl => exact h
 | tail _ r ih => exact ih.tail r
theorem Star.one {R : Nat → Nat → Prop} {a b : Nat} (h : R a b) : Star R a b := (Star.refl a).tail h
theorem Star.head {R : Nat → Nat → Prop} {a b c : Nat} (h : R a b) (k : Star R b c) : Star R a c := (Star.one h).trans k
theorem Star.imp {R S : Nat → Nat → Prop} (h : ∀ a b, R a b → S a b) {a b : Nat} (k : Star R a b) : Star S a b := by
 induction k with
 | refl => exact .refl _
 | tail _ r ih => exact ih.tail (h _ _ r)
theorem Star.closed {R : Nat → Nat → Prop} {P : Nat → Prop} (hP : ∀ a b, P a → R a b → P b) {a b : Nat} (k : Star R a b) (h : P a) : P b := by
 induction k with
 | refl => exact h
 | tail _ r ih => exact hP _ _ ih r
theorem Star.flip {R S : Nat → Nat → Prop} (h : ∀ a b, R a b → S b a) {a b : Nat} (k : Star R a b) : Star S b a := by
 induction k with
 | refl => exact .refl _
 | tail _ r ih => exact Star.head (h _ _ r) ih
theorem Star.cases_head {R : Nat → Nat → Prop} {a c : Nat} (k : Star R a c) : a = c ∨ ∃ b, R a b ∧ Star R b c := by
 induction k with
 | refl => exact Or.inl rfl
 | tail h r ih =>
  rcases ih with rfl | ⟨b, h1, h2⟩
  ·exact Or.inr ⟨_, r, .refl _⟩
  ·exact Or.inr ⟨b, h1, h2.tail r⟩
def seenP (s : List Bool) (x : Nat) : Prop := s[x]? = some true
instance (s : List Bool) (x : Nat) : Decidable (seenP s x) := inferInstanceAs (Decidable (_ = _))
def note1 (s : List Bool × List Nat) (i : Nat) : List Bool × List Nat := if s.1[i]? = some true then s else (s.1.set i true, s.2 ++ [i])
def noteL (s : List Bool × List Nat) (l : List Nat) : List Bool × List Nat := l.foldl note1 s
theorem noteL_snoc (s : List Bool × List Nat) (l : List Nat) (i : Nat) : noteL s (l ++ [i]) = note1 (noteL s l) i := by simp [noteL]
def unseen (s : List Bool) : Nat := s.count false
theorem unseen_set : ∀ (s : List Bool) (i : Nat), i < s.length → s[i]? ≠ some true → unseen (s.set i true) + 1 = unseen s
 | [], _, h, _ => absurd h (by simp)
 | b :: s, 0, _, h => by
  have : b = false := by simpa using h
  subst this
  simp [unseen]
 | b :: s, i + 1, hi, h => by
  have := unseen_set s i (by simpa using hi) (by simpa using h)
  simp only [List.set_cons_succ]
  unfold unseen at *
  rw [List.count_cons, List.count_cons]
  omega
theorem unseen_le (s : List Bool) : unseen s ≤ s.length := List.count_le_length
theorem seen_set {s : List Bool} {i x : Nat} (hi : i < s.length) : seenP (s.set i true) x ↔ seenP s x ∨ x = i := by
 unfold seenP
 by_cases h : i = x
 ·subst h; simp [hi]
 ·rw [List.getElem?_set_ne h]; constructor
  ·exact Or.inl
  ·rintro (h' | h')
   ·exact h'
   ·exact absurd h'.symm h
structure Noted (s t : List Bool × List Nat) (l : List Nat) : Prop where
 len : t.1.length = s.1.length
 seen : ∀ x, seenP t.1 x ↔ seenP s.1 x ∨ x ∈ l
 todo : ∀ x, x ∈ t.2 ↔ x ∈ s.2 ∨ (x ∈ l ∧ ¬ seenP s.1 x)
 many : 2 * unseen t.1 + t.2.length ≤ 2 * unseen s.1 + s.2.length
 few : unseen t.1 + t.2.length = unseen s.1 + s.2.length
theorem note1_noted (s : List Bool × List Nat) (i : Nat) (hi : i < s.1.length) : Noted s (note1 s i) [i] := by
 unfold note1
 by_cases h : s.1[i]? = some true
 ·rw [if_pos h]
  refine ⟨rfl, fun x => ?_, fun x => ?_, Nat.le_refl _, rfl⟩
  ·constructor
   ·exact Or.inl
   ·rintro (h' | h')
    ·exact h'
    ·rw [List.mem_singleton] at h'; subst h'; exact h
  ·constructor
   ·exact Or.inl
   ·rintro (h' | ⟨h', h2⟩)
    ·exact h'
    ·rw [List.mem_singleton] at h'; subst h'; exact absurd h h2
 ·rw [if_neg h]
  have hu := unseen_set s.1 i hi h
  refine ⟨by simp, fun x => ?_, fun x => ?_, by simp; omega, by simp; omega⟩
  ·rw [seen_set hi]; simp
  ·simp only [List.mem_append, List.mem_singleton]
   constructor
   ·rintro (h' | h')
    ·exact Or.inl h'
    ·subst h'; exact Or.inr ⟨rfl, h⟩
   ·rintro (h' | ⟨h', _⟩)
    ·exact Or.inl h'
    ·exact Or.inr h'
theorem Noted.trans {s t u : List Bool × List Nat} {l m : List Nat} (h : Noted s t l) (k : Noted t u m) : Noted s u (l ++ m) := by
 refine ⟨k.len.trans h.len, fun x => ?_, fun x => ?_, Nat.le_trans k.many h.many, k.few.trans h.few⟩
 ·rw [k.seen, h.seen, List.mem_append, or_assoc]
 ·rw [k.todo, h.todo, h.seen, List.mem_append]
  constructor
  ·rintro ((h1 | ⟨h1, h2⟩) | ⟨h1, h2⟩)
   ·exact Or.inl h1
   ·exact Or.inr ⟨Or.inl h1, h2⟩
   ·exact Or.inr ⟨Or.inr h1, fun h => h2 (Or.inl h)⟩
  ·rintro (h1 | ⟨h1 | h1, h2⟩)
   ·exact Or.inl (Or.inl h1)
   ·exact Or.inl (Or.inr ⟨h1, h2⟩)
   ·by_cases hl : x ∈ l
    ·exact Or.inl (Or.inr ⟨hl, h2⟩)
    ·exact Or.inr ⟨h1, fun h => h.elim h2 hl⟩
theorem noted_nil (s : List Bool × List Nat) : Noted s s [] := ⟨rfl, fun x => by simp, fun x => by simp, Nat.le_refl _, rfl⟩
theorem noted_all : ∀ (l : List Nat) (s : List Bool × List Nat), (∀ i ∈ l, i < s.1.length) → Noted s (noteL s l) l
 | [], s, _ => noted_nil s
 | i :: l, s, h => by
  have h1 := note1_noted s i (h i (by simp))
  have h2 := noted_all l (note1 s i) (fun j hj => by rw [h1.len]; exact h j (by simp [hj]))
  exact h1.trans h2
structure Srch (R : Nat → Nat → Prop) (first : Nat → Prop) (seen : Nat → Prop) (todo vis : List Nat) : Prop where
 come : ∀ x, seen x → ∃ f, first f ∧ Star R f x
 hfirst : ∀ f, first f → seen f
 htodo : ∀ x ∈ todo, seen x
 hvis : ∀ x ∈ vis, seen x
 each : ∀ x, seen x → x ∈ todo ∨ x ∈ vis
 next : ∀ x y, x ∈ vis → R x y → seen y
theorem Srch.done {R : Nat → Nat → Prop} {first seen : Nat → Prop} {vis : List Nat} (h : Srch R first seen [] vis) (x : Nat) : x ∈ vis ↔ ∃ f, first f ∧ Star R f x := by
 constructor
 ·intro hx; exact h.come x (h.hvis x hx)
 ·rintro ⟨f, hf, hs⟩
  have hf' : f ∈ vis := (h.each f (h.hfirst f hf)).resolve_left (by simp)
  exact Star.closed (P := fun x => x ∈ vis) (fun a b ha r => (h.each b (h.next a b ha r)).resolve_left (by simp)) hs hf'
theorem Srch.start {R : Nat → Nat → Prop} {n : Nat} {l : List Nat} (hl : ∀ i ∈ l, i < n) : Srch R (fun x => x ∈ l) (seenP (noteL (List.replicate n false, []) l).1) (noteL (List.replicate n false, []) l).2 [] := by
 have h := noted_all l (List.replicate n false, []) (by simpa using hl)
 have h0 : ∀ x, ¬ seenP (List.replicate n false) x := fun x hx => by
  unfold seenP at hx
  rw [List.getElem?_replicate] at hx
  split at hx <;> simp at hx
 refine ⟨fun x hx => ?_, fun f hf => (h.seen f).2 (Or.inr hf), fun x hx => ?_, by simp, fun x hx => ?_, by simp⟩
 ·rcases (h.seen x).1 hx with h1 | h1
  ·exact absurd h1 (h0 x)
  ·exact ⟨x, h1, .refl _⟩
 ·rcases (h.todo x).1 hx with h1 | ⟨h1, _⟩
  ·simp at h1
  ·exact (h.seen x).2 (Or.inr h1)
 ·rcases (h.seen x).1 hx with h1 | h1
  ·exact absurd h1 (h0 x)
  ·exact Or.inl ((h.todo x).2 (Or.inr ⟨h1, h0 x⟩))
theorem Srch.step {R : Nat → Nat → Prop} {first : Nat → Prop} {s : List Bool} {t vis nx : List Nat} {x : Nat} (h : Srch R first (seenP s) (t ++ [x]) vis) (hR : ∀ y, R x y ↔ y ∈ nx) (hn : ∀ i ∈ nx, i < s.length) :
  Srch R first (seenP (noteL (s, t) nx).1) (noteL (s, t) nx).2 (x :: vis) := by
 have k := noted_all nx (s, t) hn
 have hx : seenP s x := h.htodo x (by simp)
 refine ⟨fun y hy => ?_, fun f hf => (k.seen f).2 (Or.inl (h.hfirst f hf)), fun y hy => ?_, fun y hy => ?_, fun y hy => ?_, fun y z hy r => ?_⟩
 ·rcases (k.seen y).1 hy with h1 | h1
  ·exact h.come y h1
  ·obtain ⟨f, hf, hs⟩ := h.come x hx
   exact ⟨f, hf, hs.tail ((hR y).2 h1)⟩
 ·rcases (k.todo y).1 hy with h1 | ⟨h1, _⟩
  ·exact (k.seen y).2 (Or.inl (h.htodo y (by simp only [List.mem_append]; exact Or.inl h1)))
  ·exact (k.seen y).2 (Or.inr h1)
 ·rcases List.mem_cons.1 hy with rfl | h1
  ·exact (k.seen y).2 (Or.inl hx)
  ·exact (k.seen y).2 (Or.inl (h.hvis y h1))
 ·by_cases hs : seenP s y
  ·rcases h.each y hs with h1 | h1
   ·rcases List.mem_append.1 h1 with h1 | h1
    ·exact Or.inl ((k.todo y).2 (Or.inl h1))
    ·rw [List.mem_singleton] at h1; subst h1; exact Or.inr (by simp)
   ·exact Or.inr (List.mem_cons_of_mem _ h1)
  ·rcases (k.seen y).1 hy with h1 | h1
   ·exact absurd h1 hs
   ·exact Or.inl ((k.todo y).2 (Or.inr ⟨h1, hs⟩))
 ·rcases List.mem_cons.1 hy with h1 | h1
  ·subst h1; exact (k.seen z).2 (Or.inr ((hR z).1 r))
  ·exact (k.seen z).2 (Or.inl (h.next y z h1 r))
def Away (R : Nat → Nat → Prop) (but : Nat → Prop) (x y : Nat) : Prop := R x y ∧ ¬ but y
structure Qch (R : Nat → Nat → Prop) (but : Nat → Prop) (a : Nat) (seen : Nat → Prop) (todo : List Nat) : Prop where
 come : ∀ x, seen x → ¬ but a ∧ Star (Away R but) a x
 htodo : ∀ x ∈ todo, but x ∨ (¬ but a ∧ Star (Away R but) a x)
 hfirst : ¬ but a → seen a ∨ a ∈ todo
 next : ∀ x y, seen x → R x y → ¬ but y → seen y ∨ y ∈ todo
theorem Qch.start (R : Nat → Nat → Prop) (but : Nat → Prop) (a : Nat) (n : Nat) : Qch R but a (seenP (List.replicate n false)) [a] := by
 have h0 : ∀ x, ¬ seenP (List.replicate n false) x := fun x hx => by
  unfold seenP at hx
  rw [List.getElem?_replicate] at hx
  split at hx <;> simp at hx
 refine ⟨fun x hx => absurd hx (h0 x), fun x hx => ?_, fun _ => Or.inr (by simp), fun x y hx => absurd hx (h0 x)⟩
 rw [List.mem_singleton] at hx
 subst hx
 by_cases h : but x
 ·exact Or.inl h
 ·exact Or.inr ⟨h, .refl _⟩
theorem Qch.skip {R : Nat → Nat → Prop} {but : Nat → Prop} {a : Nat} {seen : Nat → Prop} {x : Nat} {t : List Nat} (h : Qch R but a seen (x :: t)) (hx : seen x ∨ but x) : Qch R but a seen t := by
 refine ⟨h.come, fun y hy => h.htodo y (by simp [hy]), fun ha => ?_, fun y z hy r hz => ?_⟩
 ·rcases h.hfirst ha with h1 | h1
  ·exact Or.inl h1
  ·rcases List.mem_cons.1 h1 with h1 | h1
   ·subst h1; exact Or.inl (hx.resolve_right ha)
   ·exact Or.inr h1
 ·rcases h.next y z hy r hz with h1 | h1
  ·exact Or.inl h1
  ·rcases List.mem_cons.1 h1 with h1 | h1
   ·subst h1; exact Or.inl (hx.resolve_right hz)
   ·exact Or.inr h1
theorem Qch.take {R : Nat → Nat → Prop} {but : Nat → Prop} {a : Nat} {s : List Bool} {x : Nat} {t nx : List Nat} (h : Qch R but a (seenP s) (x :: t)) (hb : ¬ but x) (hlt : x < s.length) (hR : ∀ y, R x y ↔ y ∈ nx) : Qch R but a (seenP (s.set x true)) (t ++ nx) := by
 have hx := (h.htodo x (by simp)).resolve_left hb
 have key : ∀ y, seenP s y ∨ y ∈ (x :: t) → seenP (s.set x true) y ∨ y ∈ t ++ nx := by
  rintro y (h1 | h1)
  ·exact Or.inl ((seen_set hlt).2 (Or.inl h1))
  ·rcases List.mem_cons.1 h1 with h1 | h1
   ·exact Or.inl ((seen_set hlt).2 (Or.inr h1))
   ·exact Or.inr (by simp [h1])
 refine ⟨fun y hy => ?_, fun y hy => ?_, fun ha => key a (h.hfirst ha), fun y z hy r hz => ?_⟩
 ·rcases (seen_set hlt).1 hy with h1 | h1
  ·exact h.come y h1
  ·subst h1; exact hx
 ·rcases List.mem_append.1 hy with h1 | h1
  ·exact h.htodo y (by simp [h1])
  ·by_cases hy' : but y
   ·exact Or.inl hy'
   ·exact Or.inr ⟨hx.1, hx.2.tail ⟨(hR y).2 h1, hy'⟩⟩
 ·rcases (seen_set hlt).1 hy with h1 | h1
  ·exact key z (h.next y z h1 r hz)
  ·subst h1; exact Or.inr (by simp [(hR z).1 r])
theorem Qch.done {R : Nat → Nat → Prop} {but : Nat → Prop} {a : Nat} {seen : Nat → Prop} (h : Qch R but a seen []) (x : Nat) : seen x ↔ ¬ but a ∧ Star (Away R but) a x := by
 refine ⟨h.come x, fun ⟨ha, hs⟩ => ?_⟩
 exact Star.closed (P := seen) (fun y z hy r => (h.next y z hy r.1 r.2).resolve_right (by simp)) hs ((h.hfirst ha).resolve_right (by simp))
end Go.Proofs.YtlgejjmdanmglaaGreatDoor
namespace Go.Proofs.YtlgejjmdanmglaaGreatDoor
structure Nd where
 kind : List UInt8
 ins : List Int
 num : Int
 name : List UInt8
structure Shp where
 kind : List UInt8
 ins : List UInt8
 more : List UInt8
 num : Bool
 name : Bool
 gives : List UInt8
def gStart : List UInt8 := [115, 116, 97, 114, 116]
def gParam : List UInt8 := [112, 97, 114, 97, 109]
def gConst : List UInt8 := [99, 111, 110, 115, 116]
def gOne : List UInt8 := [111, 110, 101]
def gTwo : List UInt8 := [116, 119, 111]
def gPhi : List UInt8 := [112, 104, 105]
def gRegion : List UInt8 := [114, 101, 103, 105, 111, 110]
def gIf : List UInt8 := [105, 102]
def gYes : List UInt8 := [121, 101, 115]
def gNo : List UInt8 := [110, 111]
def gTick : List UInt8 := [116, 105, 99, 107]
def gPrint : List UInt8 := [112, 114, 105, 110, 116]
def gCall : List UInt8 := [99, 97, 108, 108]
def gReturn : List UInt8 := [114, 101, 116, 117, 114, 110]
def noShp : Shp := ⟨[], [], [], false, false, []⟩
def shapesL : List Shp := [
 ⟨gStart, [], [], false, false, [119]⟩,
 ⟨gParam, [], [], true, false, [118]⟩,
 ⟨gConst, [], [], true, false, [118]⟩,
 ⟨gOne, [118], [], false, true, [118]⟩,
 ⟨gTwo, [118, 118], [], false, true, [118]⟩,
 ⟨gPhi, [114], [118], false, false, [118]⟩,
 ⟨gRegion, [119], [119], false, false, [119, 114]⟩,
 ⟨gIf, [119, 118], [], false, false, [105]⟩,
 ⟨gYes, [105], [], false, false, [119]⟩,
 ⟨gNo, [105], [], false, false, [119]⟩,
 ⟨gTick, [119], [], false, false, [119]⟩,
 ⟨gPrint, [119, 118], [], false, false, [119]⟩,
 ⟨gCall, [119], [118], false, true, [119, 118]⟩,
 ⟨gReturn, [119, 118], [], false, false, []⟩]
def shpIn (l : List Shp) (k : List UInt8) : Shp := match l with
 | [] => noShp
 | s :: r => if s.kind = k then s else shpIn r k
def shp (k : List UInt8) : Shp := shpIn shapesL k
theorem shpIn_cases (k : List UInt8) : ∀ l : List Shp, (shpIn l k = noShp ∧ ∀ s ∈ l, s.kind ≠ k) ∨ ∃ s ∈ l, s.kind = k ∧ shpIn l k = s
 | [] => Or.inl ⟨rfl, by simp⟩
 | s :: r => by
  unfold shpIn
  by_cases h : s.kind = k
  ·rw [if_pos h]; exact Or.inr ⟨s, by simp, h, rfl⟩
  ·rw [if_neg h]
   rcases shpIn_cases k r with ⟨h1, h2⟩ | ⟨t, h1, h2, h3⟩
   ·exact Or.inl ⟨h1, by simp [h]; exact h2⟩
   ·exact Or.inr ⟨t, by simp [h1], h2, h3⟩
theorem kind_cases (k : List UInt8) : k = gStart ∨ k = gParam ∨ k = gConst ∨ k = gOne ∨ k = gTwo ∨ k = gPhi ∨ k = gRegion ∨ k = gIf ∨ k = gYes ∨ k = gNo ∨ k = gTick ∨ k = gPrint ∨ k = gCall ∨ k = gReturn ∨ (shp k = noShp ∧ k ≠ gStart ∧ k ≠ gParam ∧ k ≠ gConst ∧ k ≠ gOne ∧ k ≠ gTwo ∧ k ≠ gPhi ∧ k ≠ gRegion ∧ k ≠ gIf ∧ k ≠ gYes ∧ k ≠ gNo ∧ k ≠ gTick ∧ k ≠ gPrint ∧ k ≠ gCall ∧ k ≠ gReturn) := by
 rcases shpIn_cases k shapesL with ⟨h1, h2⟩ | ⟨s, h1, h2, h3⟩
 ·simp only [shapesL, List.mem_cons, List.not_mem_nil, or_false, forall_eq_or_imp, forall_eq] at h2
  obtain ⟨a1, a2, a3, a4, a5, a6, a7, a8, a9, a10, a11, a12, a13, a14⟩ := h2
  simp only [ne_eq, eq_comm] at *
  exact Or.inr (Or.inr (Or.inr (Or.inr (Or.inr (Or.inr (Or.inr (Or.inr (Or.inr (Or.inr (Or.inr (Or.inr (Or.inr (Or.inr ⟨h1, a1, a2, a3, a4, a5, a6, a7, a8, a9, a10, a11, a12, a13, a14⟩)))))))))))))
 ·simp only [shapesL, List.mem_cons, List.not_mem_nil, or_false] at h1
  rcases h1 with rfl | rfl | rfl | rfl | rfl | rfl | rfl | rfl | rfl | rfl | rfl | rfl | rfl | rfl <;> simp only at h2 <;> subst h2 <;> simp
theorem shp_kind {k : List UInt8} (h : (shp k).kind ≠ []) : (shp k).kind = k := by
 rcases kind_cases k with rfl | rfl | rfl | rfl | rfl | rfl | rfl | rfl | rfl | rfl | rfl | rfl | rfl | rfl | ⟨h', _⟩ <;> first | rfl | exact absurd (by rw [h']; rfl) h
def dueS (s : Shp) (k : Nat) : UInt8 := if k < s.ins.length then s.ins.getD k 0 else s.more.headD 0
def fitsB (s : Shp) (n : Nd) : Bool := (n.ins.length == s.ins.length || (decide (s.ins.length < n.ins.length) && s.more != [])) && (s.num || n.num == 0) && (s.name || n.name == [])
def bndB (P : Int) (N : Nat) (n : Nd) : Bool := n.ins.all (fun i => decide (0 ≤ i ∧ i < N)) && (n.kind != gParam || decide (0 ≤ n.num ∧ n.num < P))
def opB (ones twos : List (List UInt8)) (n : Nd) : Bool := if n.kind = gOne then decide (n.name ∈ ones) else if n.kind = gTwo then decide (n.name ∈ twos) else true
def ndAt (L : List Nd) (i : Int) : Nd := (L[i.toNat]?).getD ⟨[], [], 0, []⟩
def givAt (L : List Nd) (n : Nd) (k : Nat) : Bool := (shp (ndAt L (n.ins.getD k 0)).kind).gives.contains (dueS (shp n.kind) k)
def givB (L : List Nd) (n : Nd) : Bool := (List.range n.ins.length).all (givAt L n)
def phiB (L : List Nd) (n : Nd) : Bool := n.kind != gPhi || n.ins.length == (ndAt L (n.ins.getD 0 0)).ins.length + 1
def nodeC (ones twos : List (List UInt8)) (P : Int) (L : List Nd) (i : Nat) : Nat :=
 let n := ndAt L i
 let s := shp n.kind
 if s.kind = [] then 4 else if (s.kind = gStart ∧ 0 < i) ∨ fitsB s n = false then 3 else if bndB P L.length n = false then 2 else if opB ones twos n = false then 4 else if givB L n = false ∨ phiB L n = false then 3 else 0
def keyOf1 (n : Nd) (k : Nat) (i : Int) : List (Int × List UInt8) := if dueS (shp n.kind) k = 119 then [(i, [])] else if dueS (shp n.kind) k = 105 then [(i, n.kind)] else []
def keysFrom (n : Nd) : Nat → List Int → List (Int × List UInt8)
 | _, [] => []
 | k, i :: r => keyOf1 n k i ++ keysFrom n (k + 1) r
def keysN (n : Nd) : List (Int × List UInt8) := if fitsB (shp n.kind) n then keysFrom n 0 n.ins else []
def keysL (L : List Nd) : List (Int × List UInt8) := L.flatMap keysN
def tkC (L : List Nd) (i : Nat) : Nat :=
 let g := (shp (ndAt L i).kind).gives
 if (119 ∈ g ∧ (keysL L).count ((i : Int), []) ≠ 1) ∨ (g = [105] ∧ ((keysL L).count ((i : Int), gYes) ≠ 1 ∨ (keysL L).count ((i : Int), gNo) ≠ 1)) then 3 else 0
def reck (L : List Nd) (i : Nat) : List Int := if (ndAt L i).kind = gOne ∨ (ndAt L i).kind = gTwo then (ndAt L i).ins else []
def Rk (L : List Nd) (a b : Nat) : Prop := (b : Int) ∈ reck L a
def Hang (L : List Nd) (i : Nat) : Prop := ∃ b, Rk L i b ∧ Star (Rk L) b i
open Classical in
noncomputable def hangC (L : List Nd) (i : Nat) : Nat := if Hang L i then 10 else 0
def Circ (L : List Nd) (i : Nat) : Prop := (∃ b ∈ reck L i, (i : Int) ≤ b) ∧ Hang L i
open Classical in
noncomputable def circC (L : List Nd) (i : Nat) : Nat := if Circ L i then 10 else 0
def firstC (f : Nat → Nat) : Nat → Nat → Nat × Int
 | 0, _ => (0, -1)
 | m + 1, i => if f i = 0 then firstC f m (i + 1) else (f i, i)
def firstOf2 (a b : Nat × Int) : Nat × Int := if a.1 = 0 then b else a
noncomputable def faultW (ones twos : List (List UInt8)) (P : Int) (L : List Nd) (hg : Nat → Nat) : Nat × Int :=
 if 1000 < L.length then (8, -1) else if L.length = 0 ∨ (ndAt L 0).kind ≠ gStart then (3, -1) else if P < 0 ∨ 4 < P then (9, -1) else
  firstOf2 (firstC (nodeC ones twos P L) L.length 0) (firstOf2 (firstC (tkC L) L.length 0) (firstC hg L.length 0))
noncomputable def faultG (ones twos : List (List UInt8)) (P : Int) (L : List Nd) : Nat × Int := faultW ones twos P L (hangC L)
theorem first_same {f g : Nat → Nat} : ∀ (m i : Nat), (∀ j, i ≤ j → j < i + m → (∀ h, i ≤ h → h < j → f h = 0) → f j = g j) → firstC f m i = firstC g m i
 | 0, i, _ => rfl
 | m + 1, i, h => by
  have h0 := h i (Nat.le_refl _) (by omega) (fun h h1 h2 => by omega)
  unfold firstC
  rw [← h0]
  by_cases e : f i = 0
  ·rw [if_pos e, if_pos e]
   exact first_same m (i + 1) fun j h1 h2 h3 => h j (by omega) (by omega) fun k k1 k2 => by
    by_cases hk : k = i
    ·subst hk; exact e
    ·exact h3 k (by omega) k2
  ·rw [if_neg e, if_neg e]
theorem first_zero {f : Nat → Nat} : ∀ (m i : Nat), (firstC f m i).1 = 0 ↔ ∀ j, i ≤ j → j < i + m → f j = 0
 | 0, i => ⟨fun _ j h1 h2 => by omega, fun _ => rfl⟩
 | m + 1, i => by
  unfold firstC
  by_cases e : f i = 0
  ·rw [if_pos e, first_zero m (i + 1)]
   constructor
   ·intro h j h1 h2
    by_cases hj : j = i
    ·subst hj; exact e
    ·exact h j (by omega) (by omega)
   ·intro h j h1 h2; exact h j (by omega) (by omega)
  ·rw [if_neg e]
   exact ⟨fun h => absurd h e, fun h => h i (Nat.le_refl _) (by omega)⟩
theorem hang_all {L : List Nd} {i b : Nat} (h : Rk L i b) (k : Star (Rk L) b i) : Hang L b := by
 rcases k.cases_head with rfl | ⟨c, h1, h2⟩
 ·exact ⟨b, h, .refl _⟩
 ·exact ⟨c, h1, h2.tail h⟩
theorem circ_first (L : List Nd) (m : Nat) : firstC (circC L) m 0 = firstC (hangC L) m 0 := by
 apply Eq.symm
 apply first_same
 intro j _ _ h
 unfold hangC circC
 by_cases hj : Hang L j
 ·rw [if_pos hj, if_pos]
  refine ⟨?_, hj⟩
  obtain ⟨b, h1, h2⟩ := hj
  refine ⟨b, h1, ?_⟩
  rcases Nat.lt_or_ge b j with hl | hl
  ·have := h b (Nat.zero_le _) hl
   unfold hangC at this
   rw [if_pos (hang_all h1 h2)] at this
   cases this
  ·omega
 ·rw [if_neg hj, if_neg (fun h => hj h.2)]
theorem faultG_circ (ones twos : List (List UInt8)) (P : Int) (L : List Nd) : faultW ones twos P L (circC L) = faultG ones twos P L := by
 unfold faultG faultW
 rw [circ_first]
end Go.Proofs.YtlgejjmdanmglaaGreatDoor
namespace Go.Proofs.YtlgejjmdanmglaaGreatDoor
def waysN (n : Nd) : Nat := if n.kind = gRegion then n.ins.length else if n.kind = gIf ∨ n.kind = gPrint ∨ n.kind = gReturn ∨ n.kind = gCall ∨ n.kind = gTick ∨ n.kind = gYes ∨ n.kind = gNo then 1 else 0
def tkN (n : Nd) (a : Int) : Nat := (n.ins.take (waysN n)).count a
def takFrom (a : Int) : Nat → List Nd → List Nat
 | _, [] => []
 | j, n :: r => List.replicate (tkN n a) j ++ takFrom a (j + 1) r
def takL (L : List Nd) (a : Int) : List Nat := takFrom a 0 L
theorem takFrom_snoc (a : Int) (n : Nd) : ∀ (l : List Nd) (j : Nat), takFrom a j (l ++ [n]) = takFrom a j l ++ List.replicate (tkN n a) (j + l.length)
 | [], j => by simp [takFrom]
 | x :: r, j => by rw [List.cons_append, takFrom, takFrom, takFrom_snoc a n r (j + 1), List.append_assoc, List.length_cons, show j + 1 + r.length = j + (r.length + 1) by omega]
theorem mem_takFrom (a : Int) (x : Nat) : ∀ (l : List Nd) (j : Nat), x ∈ takFrom a j l ↔ ∃ n, j ≤ x ∧ l[x - j]? = some n ∧ 0 < tkN n a
 | [], j => by simp [takFrom]
 | n :: r, j => by
  rw [takFrom, List.mem_append, mem_takFrom a x r (j + 1), List.mem_replicate]
  constructor
  ·rintro (⟨h1, rfl⟩ | ⟨m, h1, h2, h3⟩)
   ·exact ⟨n, Nat.le_refl _, by simp, by omega⟩
   ·refine ⟨m, by omega, ?_, h3⟩
    rw [show x - j = (x - (j + 1)) + 1 by omega]
    simpa using h2
  ·rintro ⟨m, h1, h2, h3⟩
   by_cases hx : x = j
   ·subst hx
    have : n = m := by simpa using h2
    subst this
    exact Or.inl ⟨by omega, rfl⟩
   ·refine Or.inr ⟨m, by omega, ?_, h3⟩
    rw [show x - j = (x - (j + 1)) + 1 by omega] at h2
    simpa using h2
def AllW (ones twos : List (List UInt8)) (P : Int) (L : List Nd) : Prop := ∀ i, i < L.length → nodeC ones twos P L i = 0
structure NodeW (ones twos : List (List UInt8)) (P : Int) (L : List Nd) (i : Nat) (n : Nd) : Prop where
 kind : (shp n.kind).kind = n.kind
 nonempty : n.kind ≠ []
 start : n.kind = gStart → i = 0
 fits : fitsB (shp n.kind) n = true
 bnd : ∀ x ∈ n.ins, 0 ≤ x ∧ x < L.length
 par : n.kind = gParam → 0 ≤ n.num ∧ n.num < P
 op : opB ones twos n = true
 giv : ∀ k, k < n.ins.length → givAt L n k = true
 phi : phiB L n = true
theorem nodeW {ones twos : List (List UInt8)} {P : Int} {L : List Nd} {i : Nat} {n : Nd} (hn : L[i]? = some n) (h : nodeC ones twos P L i = 0) : NodeW ones twos P L i n := by
 have e : ndAt L i = n := by simp [ndAt, hn]
 unfold nodeC at h
 simp only [e] at h
 split at h
 ·cases h
 ·next h1 =>
  split at h
  ·cases h
  ·next h2 =>
   split at h
   ·cases h
   ·next h3 =>
    split at h
    ·cases h
    ·next h4 =>
     split at h
     ·cases h
     ·next h5 =>
      simp only [not_or, not_and, Bool.not_eq_false] at h2 h3 h4 h5
      have hk := shp_kind h1
      unfold bndB at h3
      simp only [Bool.and_eq_true, List.all_eq_true, decide_eq_true_eq, Bool.or_eq_true, bne_iff_ne, ne_eq] at h3
      refine ⟨hk, fun e => h1 (by rw [hk]; exact e), fun hs => ?_, h2.2, h3.1, fun hp => h3.2.resolve_left (fun h => h hp), h4, fun k hk => ?_, h5.2⟩
      ·have := h2.1 (by rw [hk]; exact hs); omega
      ·have := h5.1
       unfold givB at this
       rw [List.all_eq_true] at this
       exact this k (by simpa using hk)
theorem AllW.at {ones twos : List (List UInt8)} {P : Int} {L : List Nd} (h : AllW ones twos P L) {i : Nat} {n : Nd} (hn : L[i]? = some n) : NodeW ones twos P L i n := by
 have hi : i < L.length := by
  rcases Nat.lt_or_ge i L.length with h | h
  ·exact h
  ·rw [List.getElem?_eq_none h] at hn; cases hn
 exact nodeW hn (h i hi)
theorem fits_len {n : Nd} (h : fitsB (shp n.kind) n = true) :
  (n.kind = gStart → n.ins = []) ∧ (n.kind = gParam → n.ins = []) ∧ (n.kind = gConst → n.ins = []) ∧ (n.kind = gOne → n.ins.length = 1) ∧ (n.kind = gTwo → n.ins.length = 2) ∧ (n.kind = gPhi → 1 ≤ n.ins.length) ∧ (n.kind = gRegion → 1 ≤ n.ins.length) ∧ (n.kind = gIf → n.ins.length = 2) ∧ (n.kind = gYes → n.ins.length = 1) ∧ (n.kind = gNo → n.ins.length = 1) ∧ (n.kind = gTick → n.ins.length = 1) ∧ (n.kind = gPrint → n.ins.length = 2) ∧ (n.kind = gCall → 1 ≤ n.ins.length) ∧ (n.kind = gReturn → n.ins.length = 2) := by
 unfold fitsB at h
 simp only [Bool.and_eq_true, Bool.or_eq_true, beq_iff_eq, decide_eq_true_eq, bne_iff_ne, ne_eq] at h
 obtain ⟨⟨h, _⟩, _⟩ := h
 refine ⟨?_, ?_, ?_, ?_, ?_, ?_, ?_, ?_, ?_, ?_, ?_, ?_, ?_, ?_⟩ <;> intro e <;> rw [e] at h
 ·exact List.length_eq_zero_iff.1 (h.resolve_right (fun h => h.2 (by decide)))
 ·exact List.length_eq_zero_iff.1 (h.resolve_right (fun h => h.2 (by decide)))
 ·exact List.length_eq_zero_iff.1 (h.resolve_right (fun h => h.2 (by decide)))
 ·exact h.resolve_right (fun h => h.2 (by decide))
 ·exact h.resolve_right (fun h => h.2 (by decide))
 ·have e1 : (shp gPhi).ins.length = 1 := by decide
  rw [e1] at h; omega
 ·have e1 : (shp gRegion).ins.length = 1 := by decide
  rw [e1] at h; omega
 ·exact h.resolve_right (fun h => h.2 (by decide))
 ·exact h.resolve_right (fun h => h.2 (by decide))
 ·exact h.resolve_right (fun h => h.2 (by decide))
 ·exact h.resolve_right (fun h => h.2 (by decide))
 ·exact h.resolve_right (fun h => h.2 (by decide))
 ·have e1 : (shp gCall).ins.length = 1 := by decide
  rw [e1] at h; omega
 ·exact h.resolve_right (fun h => h.2 (by decide))
theorem keysFrom_none (n : Nd) : ∀ (l : List Int) (k : Nat), (∀ j, j < l.length → dueS (shp n.kind) (k + j) ≠ 119 ∧ dueS (shp n.kind) (k + j) ≠ 105) → keysFrom n k l = []
 | [], k, _ => rfl
 | i :: r, k, h => by
  have h0 := h 0 (by simp)
  rw [Nat.add_zero] at h0
  rw [keysFrom, keyOf1, if_neg h0.1, if_neg h0.2, keysFrom_none n r (k + 1) fun j hj => by rw [Nat.add_right_comm, Nat.add_assoc]; exact h (j + 1) (by simpa using hj)]
  rfl
theorem keysFrom_ways (n : Nd) : ∀ (l : List Int) (k : Nat), (∀ j, j < l.length → dueS (shp n.kind) (k + j) = 119) → keysFrom n k l = l.map fun i => (i, [])
 | [], k, _ => rfl
 | i :: r, k, h => by
  have h0 := h 0 (by simp)
  rw [Nat.add_zero] at h0
  rw [keysFrom, keyOf1, if_pos h0, keysFrom_ways n r (k + 1) fun j hj => by rw [Nat.add_right_comm, Nat.add_assoc]; exact h (j + 1) (by simpa using hj)]
  rfl
theorem due_region (k : Nat) : dueS (shp gRegion) k = 119 := by
 unfold dueS
 split
 ·next h =>
  have e : (shp gRegion).ins.length = 1 := by decide
  have : k = 0 := by omega
  subst this; decide
 ·decide
theorem due_more {k : List UInt8} {m : UInt8} {c : Nat} (hl : (shp k).ins.length = c) (hm : (shp k).more = [m]) (j : Nat) (hj : c ≤ j) : dueS (shp k) j = m := by
 unfold dueS
 rw [if_neg (by omega), hm]; rfl
theorem keys_well {ones twos : List (List UInt8)} {P : Int} {L : List Nd} {i : Nat} {n : Nd} (h : NodeW ones twos P L i n) : keysN n = if n.kind = gYes ∨ n.kind = gNo then (n.ins.take (waysN n)).map (fun x => (x, n.kind)) else (n.ins.take (waysN n)).map fun x => (x, []) := by
 have hl := fits_len h.fits
 obtain ⟨f1, f2, f3, f4, f5, f6, f7, f8, f9, f10, f11, f12, f13, f14⟩ := hl
 unfold keysN
 rw [if_pos h.fits]
 have one : ∀ (l : List Int), 1 ≤ l.length → ∃ x r, l = x :: r := fun l hl => by
  cases l with
  | nil => simp at hl
  | cons x r => exact ⟨x, r, rfl⟩
 obtain ⟨kind, ins, num, name⟩ := n
 simp only at *
 rcases kind_cases kind with e | e | e | e | e | e | e | e | e | e | e | e | e | e | ⟨e, _⟩
 ·rw [f1 e]; subst e; rfl
 ·rw [f2 e]; subst e; rfl
 ·rw [f3 e]; subst e; rfl
 ·obtain ⟨x, r, rfl⟩ := one ins (by rw [f4 e]; decide)
  have hr : r = [] := List.length_eq_zero_iff.1 (by have := f4 e; simpa using this)
  subst hr e; rfl
 ·obtain ⟨x, r, rfl⟩ := one ins (by rw [f5 e]; decide)
  have h5 := f5 e
  obtain ⟨y, q, rfl⟩ := one r (by simp at h5; omega)
  have hr : q = [] := List.length_eq_zero_iff.1 (by simpa using h5)
  subst hr e; rfl
 ·subst e
  rw [if_neg (by decide), keysFrom_none]
  ·have : waysN ⟨gPhi, ins, num, name⟩ = 0 := rfl
   rw [this]; rfl
  ·intro j _
   rw [Nat.zero_add]
   by_cases hj : j = 0
   ·subst hj; exact (by decide : dueS (shp gPhi) 0 ≠ 119 ∧ dueS (shp gPhi) 0 ≠ 105)
   ·rw [due_more (k := gPhi) (m := 118) (c := 1) (by decide) (by decide) j (by omega)]; decide
 ·subst e
  rw [if_neg (by decide), keysFrom_ways]
  ·have : waysN ⟨gRegion, ins, num, name⟩ = ins.length := rfl
   rw [this, List.take_length]
  ·intro j _; exact due_region _
 ·obtain ⟨x, r, rfl⟩ := one ins (by rw [f8 e]; decide)
  have h5 := f8 e
  obtain ⟨y, q, rfl⟩ := one r (by simp at h5; omega)
  have hr : q = [] := List.length_eq_zero_iff.1 (by simpa using h5)
  subst hr e; rfl
 ·obtain ⟨x, r, rfl⟩ := one ins (by rw [f9 e]; decide)
  have hr : r = [] := List.length_eq_zero_iff.1 (by have := f9 e; simpa using this)
  subst hr e; rfl
 ·obtain ⟨x, r, rfl⟩ := one ins (by rw [f10 e]; decide)
  have hr : r = [] := List.length_eq_zero_iff.1 (by have := f10 e; simpa using this)
  subst hr e; rfl
 ·obtain ⟨x, r, rfl⟩ := one ins (by rw [f11 e]; decide)
  have hr : r = [] := List.length_eq_zero_iff.1 (by have := f11 e; simpa using this)
  subst hr e; rfl
 ·obtain ⟨x, r, rfl⟩ := one ins (by rw [f12 e]; decide)
  have h5 := f12 e
  obtain ⟨y, q, rfl⟩ := one r (by simp at h5; omega)
  have hr : q = [] := List.length_eq_zero_iff.1 (by simpa using h5)
  subst hr e; rfl
 ·obtain ⟨x, r, rfl⟩ := one ins (f13 e)
  subst e
  rw [if_neg (by decide), keysFrom, keysFrom_none]
  ·rfl
  ·intro j _
   rw [due_more (k := gCall) (m := 118) (c := 1) (by decide) (by decide) _ (by omega)]; decide
 ·obtain ⟨x, r, rfl⟩ := one ins (by rw [f14 e]; decide)
  have h5 := f14 e
  obtain ⟨y, q, rfl⟩ := one r (by simp at h5; omega)
  have hr : q = [] := List.length_eq_zero_iff.1 (by simpa using h5)
  subst hr e; rfl
 ·exact absurd (by rw [← h.kind, e]; rfl) h.nonempty
theorem takFrom_len {a : Int} {key : Int × List UInt8} : ∀ (l : List Nd) (j : Nat), (∀ n ∈ l, (keysN n).count key = tkN n a) → (l.flatMap keysN).count key = (takFrom a j l).length
 | [], j, _ => rfl
 | n :: r, j, h => by
  rw [List.flatMap_cons, List.count_append, takFrom, List.length_append, List.length_replicate, h n (by simp), takFrom_len r (j + 1) fun m hm => h m (by simp [hm])]
theorem gives_not {k : List UInt8} (h : 119 ∈ (shp k).gives) : 105 ∉ (shp k).gives := by
 rcases kind_cases k with rfl | rfl | rfl | rfl | rfl | rfl | rfl | rfl | rfl | rfl | rfl | rfl | rfl | rfl | ⟨e, _⟩ <;> first | (revert h; decide) | (rw [e] at h; exact absurd h (by decide))
theorem gives_if {k : List UInt8} (h : 105 ∈ (shp k).gives) : k = gIf := by
 rcases kind_cases k with rfl | rfl | rfl | rfl | rfl | rfl | rfl | rfl | rfl | rfl | rfl | rfl | rfl | rfl | ⟨e, _⟩ <;> first | rfl | (revert h; decide) | (rw [e] at h; exact absurd h (by decide))
theorem way_gives {ones twos : List (List UInt8)} {P : Int} {L : List Nd} {i : Nat} {n : Nd} (h : NodeW ones twos P L i n) {x : Int} (hx : x ∈ n.ins.take (waysN n)) : if n.kind = gYes ∨ n.kind = gNo then 105 ∈ (shp (ndAt L x).kind).gives else 119 ∈ (shp (ndAt L x).kind).gives := by
 obtain ⟨k, hk⟩ := List.mem_iff_getElem?.1 hx
 have hkl : k < waysN n := by
  rcases Nat.lt_or_ge k (waysN n) with h | h
  ·exact h
  ·rw [List.getElem?_take_eq_none h] at hk; cases hk
 rw [List.getElem?_take_of_lt hkl] at hk
 have hki : k < n.ins.length := by
  rcases Nat.lt_or_ge k n.ins.length with h | h
  ·exact h
  ·rw [List.getElem?_eq_none h] at hk; cases hk
 have hg := h.giv k hki
 unfold givAt at hg
 rw [List.getD_eq_getElem?_getD, hk, Option.getD_some, List.contains_iff_mem] at hg
 unfold waysN at hkl
 split at hkl
 ·next e => rw [if_neg (by rw [e]; decide)]; rwa [e, due_region] at hg
 ·split at hkl
  ·next e1 e =>
   have hk0 : k = 0 := by omega
   subst hk0
   rcases e with e | e | e | e | e | e | e <;> rw [e] at hg ⊢
   ·rw [if_neg (by decide)]; exact hg
   ·rw [if_neg (by decide)]; exact hg
   ·rw [if_neg (by decide)]; exact hg
   ·rw [if_neg (by decide)]; exact hg
   ·rw [if_neg (by decide)]; exact hg
   ·rw [if_pos (by decide)]; exact hg
   ·rw [if_pos (by decide)]; exact hg
  ·omega
theorem count_map_fst {b : List UInt8} (a : Int) : ∀ l : List Int, (l.map fun x => (x, b)).count (a, b) = l.count a
 | [] => rfl
 | x :: r => by
  rw [List.map_cons, List.count_cons, List.count_cons, count_map_fst a r]
  by_cases h : x = a
  ·subst h; simp
  ·have : ((x, b) == (a, b)) = false := by simp [h]
   rw [this]; simp [h]
theorem count_map_ne {b c : List UInt8} (a : Int) (h : b ≠ c) (l : List Int) : (l.map fun x => (x, b)).count (a, c) = 0 := by
 rw [List.count_eq_zero]
 intro hm
 obtain ⟨x, _, e⟩ := List.mem_map.1 hm
 injection e with _ e2
 exact h e2
theorem tkN_zero {n : Nd} {a : Int} (h : a ∉ n.ins.take (waysN n)) : tkN n a = 0 := List.count_eq_zero.2 h
theorem tk_way {ones twos : List (List UInt8)} {P : Int} {L : List Nd} (hA : AllW ones twos P L) {a : Nat} (hw : 119 ∈ (shp (ndAt L a).kind).gives) : (keysL L).count ((a : Int), []) = (takL L a).length := by
 refine takFrom_len L 0 fun n hn => ?_
 obtain ⟨i, hi⟩ := List.mem_iff_getElem?.1 hn
 have W := hA.at hi
 rw [keys_well W]
 by_cases hk : n.kind = gYes ∨ n.kind = gNo
 ·rw [if_pos hk, count_map_ne _ (by exact W.nonempty), tkN_zero]
  intro hm
  have := way_gives W hm
  rw [if_pos hk] at this
  exact gives_not hw this
 ·rw [if_neg hk, count_map_fst]; rfl
theorem takFrom_kind {L : List Nd} {a : Int} {kd : List UInt8} : ∀ (l : List Nd) (j : Nat), (∀ i n, l[i]? = some n → ndAt L ((j + i : Nat) : Int) = n) → (∀ n ∈ l, (keysN n).count (a, kd) = if n.kind = kd then tkN n a else 0) → (l.flatMap keysN).count (a, kd) = ((takFrom a j l).filter fun (x : Nat) => (ndAt L (x : Int)).kind = kd).length
 | [], j, _, _ => rfl
 | n :: r, j, h0, h => by
  have e0 := h0 0 n rfl
  rw [Nat.add_zero] at e0
  rw [List.flatMap_cons, List.count_append, takFrom, List.filter_append, List.length_append, h n (by simp), takFrom_kind (L := L) r (j + 1) (fun i m hm => by rw [show j + 1 + i = j + (i + 1) by omega]; exact h0 (i + 1) m (by simpa using hm)) fun m hm => h m (by simp [hm]), List.filter_replicate, e0]
  by_cases e : n.kind = kd <;> simp [e]
theorem tk_if {ones twos : List (List UInt8)} {P : Int} {L : List Nd} (hA : AllW ones twos P L) {a : Nat} (kd : List UInt8) (hkd : kd = gYes ∨ kd = gNo) : (keysL L).count ((a : Int), kd) = ((takL L a).filter fun (x : Nat) => (ndAt L (x : Int)).kind = kd).length := by
 refine takFrom_kind (L := L) L 0 (fun i n hn => by simp [ndAt, hn]) fun n hn => ?_
 obtain ⟨i, hi⟩ := List.mem_iff_getElem?.1 hn
 have W := hA.at hi
 rw [keys_well W]
 by_cases hk : n.kind = gYes ∨ n.kind = gNo
 ·rw [if_pos hk]
  by_cases e : n.kind = kd
  ·rw [if_pos e, e, count_map_fst]; rfl
  ·rw [if_neg e, count_map_ne _ e]
 ·rw [if_neg hk, count_map_ne _ (by rcases hkd with rfl | rfl <;> decide)]
  split
  ·next e => exact absurd (by rw [e]; exact hkd) hk
  ·rfl
theorem tak_if {ones twos : List (List UInt8)} {P : Int} {L : List Nd} (hA : AllW ones twos P L) {a : Nat} (hw : (ndAt L a).kind = gIf) {x : Nat} (hx : x ∈ takL L a) : (ndAt L (x : Int)).kind = gYes ∨ (ndAt L (x : Int)).kind = gNo := by
 obtain ⟨n, _, h2, h3⟩ := (mem_takFrom a x L 0).1 hx
 have e : ndAt L (x : Int) = n := by simpa [ndAt] using congrArg (·.getD ⟨[], [], 0, []⟩) h2
 have W := hA.at h2
 have hm : (a : Int) ∈ n.ins.take (waysN n) := by
  have := List.count_pos_iff.1 h3; exact this
 have := way_gives W hm
 rw [e]
 by_cases hk : n.kind = gYes ∨ n.kind = gNo
 ·exact hk
 ·rw [if_neg hk, hw] at this
  exact absurd this (by decide)
def tkR (L : List Nd) (i : Nat) : Nat :=
 if 119 ∈ (shp (ndAt L i).kind).gives ∧ (takL L i).length ≠ 1 then 3
 else if (ndAt L i).kind = gIf then (if (takL L i).length ≠ 2 then 3 else if (ndAt L (((takL L i).getD 0 0 : Nat) : Int)).kind = (ndAt L (((takL L i).getD 1 0 : Nat) : Int)).kind then 3 else 0) else 0
theorem tkR_is {ones twos : List (List UInt8)} {P : Int} {L : List Nd} (hA : AllW ones twos P L) (i : Nat) : tkR L i = tkC L i := by
 unfold tkR tkC
 simp only
 by_cases hw : 119 ∈ (shp (ndAt L i).kind).gives
 ·have h1 := tk_way hA hw
  have hn : (shp (ndAt L i).kind).gives ≠ [105] := fun e => gives_not hw (by rw [e]; simp)
  have hk : (ndAt L i).kind ≠ gIf := fun e => by rw [e] at hw; exact absurd hw (by decide)
  rw [h1]
  by_cases hl : (takL L i).length = 1
  ·rw [if_neg (by simp [hl]), if_neg hk, if_neg (by simp [hl, hn])]
  ·rw [if_pos ⟨hw, hl⟩, if_pos (Or.inl ⟨hw, hl⟩)]
 ·rw [if_neg (fun h => hw h.1)]
  by_cases hk : (ndAt L i).kind = gIf
  ·have hy := tk_if hA (a := i) gYes (Or.inl rfl)
   have hn := tk_if hA (a := i) gNo (Or.inr rfl)
   have hg : (shp (ndAt L i).kind).gives = [105] := by rw [hk]; decide
   rw [if_pos hk, hy, hn]
   have hall := fun x hx => tak_if hA hk (x := x) hx
   generalize takL L i = l at *
   have hsum : ∀ l : List Nat, (∀ x ∈ l, (ndAt L (x : Int)).kind = gYes ∨ (ndAt L (x : Int)).kind = gNo) → (l.filter fun (x : Nat) => (ndAt L (x : Int)).kind = gYes).length + (l.filter fun (x : Nat) => (ndAt L (x : Int)).kind = gNo).length = l.length := by
    intro l
    induction l with
    | nil => intro _; rfl
    | cons x r ih =>
     intro h
     have := ih fun y hy => h y (by simp [hy])
     have d1 : gYes ≠ gNo := by decide
     rcases h x (by simp) with e | e
     ·rw [List.filter_cons_of_pos (by simpa using e), List.filter_cons_of_neg (by rw [e]; decide)]; simp; omega
     ·rw [List.filter_cons_of_neg (by rw [e]; decide), List.filter_cons_of_pos (by simpa using e)]; simp; omega
   have hs := hsum l hall
   by_cases hl : l.length = 2
   ·rw [if_neg (by simp [hl])]
    match l, hl with
    | [x, y], _ =>
     have hx := hall x (by simp)
     have hy := hall y (by simp)
     have d1 : gYes ≠ gNo := by decide
     have d2 : gNo ≠ gYes := by decide
     rcases hx with hx | hx <;> rcases hy with hy | hy <;> simp [hx, hy, hg, d1, d2]
   ·rw [if_pos hl, if_pos]
    refine Or.inr ⟨hg, ?_⟩
    omega
  ·rw [if_neg hk, if_neg]
   rintro (h | h)
   ·exact hw h.1
   ·exact hk (gives_if (by rw [h.1]; simp))
end Go.Proofs.YtlgejjmdanmglaaGreatDoor
namespace Go.Proofs.YtlgejjmdanmglaaGreatDoor
structure WellG (ones twos : List (List UInt8)) (P : Int) (L : List Nd) : Prop where
 len : 0 < L.length ∧ L.length ≤ 1000
 start : (ndAt L 0).kind = gStart
 par : 0 ≤ P ∧ P ≤ 4
 node : AllW ones twos P L
 tak : ∀ i, i < L.length → tkC L i = 0
 deep : ∀ i, i < L.length → ¬ Hang L i
theorem wellG {ones twos : List (List UInt8)} {P : Int} {L : List Nd} (h : (faultG ones twos P L).1 = 0) : WellG ones twos P L := by
 unfold faultG faultW at h
 split at h
 ·simp at h
 ·next h1 =>
  split at h
  ·simp at h
  ·next h2 =>
   split at h
   ·simp at h
   ·next h3 =>
    simp only [not_or, ne_eq, Classical.not_not] at h2 h3
    have z : ∀ a b : Nat × Int, (firstOf2 a b).1 = 0 → a.1 = 0 ∧ b.1 = 0 := fun a b hab => by
     unfold firstOf2 at hab
     split at hab
     ·next e => exact ⟨e, hab⟩
     ·next e => exact absurd hab e
    obtain ⟨a1, a2⟩ := z _ _ h
    obtain ⟨a2, a3⟩ := z _ _ a2
    rw [first_zero] at a1 a2 a3
    refine ⟨by omega, h2.2, by omega, fun i hi => a1 i (Nat.zero_le _) (by omega), fun i hi => a2 i (Nat.zero_le _) (by omega), fun i hi hh => ?_⟩
    have := a3 i (Nat.zero_le _) (by omega)
    unfold hangC at this
    rw [if_pos hh] at this
    cases this
theorem ndAt_of {L : List Nd} {j : Nat} {n : Nd} (h : L[j]? = some n) : ndAt L (j : Int) = n := by simp [ndAt, h]
theorem lt_of_at {α : Type} {l : List α} {i : Nat} {x : α} (h : l[i]? = some x) : i < l.length := by
 rcases Nat.lt_or_ge i l.length with h' | h'
 ·exact h'
 ·rw [List.getElem?_eq_none h'] at h; cases h
theorem ndAt_ex {L : List Nd} {j : Nat} (h : j < L.length) : L[j]? = some (ndAt L (j : Int)) := by simp [ndAt, h]
def isWay (k : List UInt8) : Prop := 119 ∈ (shp k).gives
def Spot (L : List Nd) (a j k : Nat) : Prop := ∃ n, L[j]? = some n ∧ k < waysN n ∧ n.ins[k]? = some (a : Int)
theorem count_two {a : Int} : ∀ (l : List Int) (i j : Nat), l.count a ≤ 1 → l[i]? = some a → l[j]? = some a → i = j
 | [], i, j, _, h, _ => by simp at h
 | x :: r, 0, 0, _, _, _ => rfl
 | x :: r, 0, j + 1, hc, h1, h2 => by
  have e : x = a := by simpa using h1
  subst e
  have : x ∈ r := List.mem_iff_getElem?.2 ⟨j, by simpa using h2⟩
  have := List.count_pos_iff.2 this
  simp at hc; omega
 | x :: r, i + 1, 0, hc, h1, h2 => by
  have e : x = a := by simpa using h2
  subst e
  have : x ∈ r := List.mem_iff_getElem?.2 ⟨i, by simpa using h1⟩
  have := List.count_pos_iff.2 this
  simp at hc; omega
 | x :: r, i + 1, j + 1, hc, h1, h2 => by
  have := count_two r i j (Nat.le_trans (show r.count a ≤ (x :: r).count a by rw [List.count_cons]; omega) hc) (by simpa using h1) (by simpa using h2)
  omega
theorem takFrom_le (a : Int) (x : Nat) : ∀ (l : List Nd) (j : Nat) (n : Nd), j ≤ x → l[x - j]? = some n → tkN n a ≤ (takFrom a j l).length
 | [], j, n, _, h => by simp at h
 | m :: r, j, n, hj, h => by
  rw [takFrom, List.length_append, List.length_replicate]
  by_cases hx : x = j
  ·subst hx
   have : m = n := by simpa using h
   subst this; omega
  ·have := takFrom_le a x r (j + 1) n (by omega) (by rw [show x - j = (x - (j + 1)) + 1 by omega] at h; simpa using h)
   omega
theorem spot_mem {L : List Nd} {a j k : Nat} (h : Spot L a j k) : j ∈ takL L a := by
 obtain ⟨n, h1, h2, h3⟩ := h
 refine (mem_takFrom a j L 0).2 ⟨n, Nat.zero_le _, h1, List.count_pos_iff.2 (List.mem_iff_getElem?.2 ⟨k, ?_⟩)⟩
 rw [List.getElem?_take_of_lt h2]; exact h3
theorem mem_spot {L : List Nd} {a j : Nat} (h : j ∈ takL L a) : ∃ k, Spot L a j k := by
 obtain ⟨n, _, h2, h3⟩ := (mem_takFrom a j L 0).1 h
 obtain ⟨k, hk⟩ := List.mem_iff_getElem?.1 (List.count_pos_iff.1 h3)
 have hkl : k < waysN n := by
  rcases Nat.lt_or_ge k (waysN n) with h | h
  ·exact h
  ·rw [List.getElem?_take_eq_none h] at hk; cases hk
 rw [List.getElem?_take_of_lt hkl] at hk
 exact ⟨k, n, h2, hkl, hk⟩
theorem spot_one {L : List Nd} {a j k j' k' : Nat} (hl : (takL L a).length = 1) (h : Spot L a j k) (h' : Spot L a j' k') : j = j' ∧ k = k' := by
 have h1 := spot_mem h
 have h2 := spot_mem h'
 obtain ⟨x, hx⟩ := List.length_eq_one_iff.1 hl
 rw [hx, List.mem_singleton] at h1 h2
 subst h1
 subst h2
 refine ⟨rfl, ?_⟩
 obtain ⟨n, a1, a2, a3⟩ := h
 obtain ⟨m, b1, b2, b3⟩ := h'
 rw [a1] at b1
 injection b1 with e
 subst e
 have hc := takFrom_le a j' L 0 n (Nat.zero_le _) a1
 rw [show (takFrom (a : Int) 0 L).length = 1 from hl] at hc
 exact count_two _ k k' hc (by rw [List.getElem?_take_of_lt a2]; exact a3) (by rw [List.getElem?_take_of_lt b2]; exact b3)
section
variable {ones twos : List (List UInt8)} {P : Int} {L : List Nd}
theorem way_len (hW : WellG ones twos P L) {a : Nat} (ha : a < L.length) (hw : isWay (ndAt L a).kind) : (takL L a).length = 1 := by
 have h1 := hW.tak a ha
 rw [← tkR_is hW.node] at h1
 unfold tkR at h1
 split at h1
 ·cases h1
 ·next h => exact Classical.not_not.1 fun h' => h ⟨hw, h'⟩
theorem way_spot (hW : WellG ones twos P L) {a : Nat} (ha : a < L.length) (hw : isWay (ndAt L a).kind) : ∃ j k, Spot L a j k := by
 obtain ⟨x, hx⟩ := List.length_eq_one_iff.1 (way_len hW ha hw)
 obtain ⟨k, hk⟩ := mem_spot (L := L) (a := a) (j := x) (by rw [hx]; simp)
 exact ⟨x, k, hk⟩
theorem kinds_ways {n : Nd} {k : Nat} (h : k < waysN n) : n.kind = gRegion ∨ n.kind = gIf ∨ n.kind = gPrint ∨ n.kind = gReturn ∨ n.kind = gCall ∨ n.kind = gTick ∨ n.kind = gYes ∨ n.kind = gNo := by
 unfold waysN at h
 split at h
 ·next e => exact Or.inl e
 ·split at h
  ·next e => exact Or.inr e
  ·omega
theorem spot_kind (hW : WellG ones twos P L) {a j k : Nat} (h : Spot L a j k) : if (ndAt L j).kind = gYes ∨ (ndAt L j).kind = gNo then (ndAt L a).kind = gIf else isWay (ndAt L a).kind := by
 obtain ⟨n, h1, h2, h3⟩ := h
 have := way_gives (hW.node.at h1) (x := (a : Int)) (List.mem_iff_getElem?.2 ⟨k, by rw [List.getElem?_take_of_lt h2]; exact h3⟩)
 rw [ndAt_of h1]
 split at this
 ·next e => rw [if_pos e]; exact gives_if this
 ·next e => rw [if_neg e]; exact this
def behL (L : List Nd) (j : Nat) (x : Nat) : Prop := if (ndAt L j).kind = gIf then x ∈ takL L j else if (ndAt L j).kind = gReturn then False else x = j
def WStep (L : List Nd) (i : Nat) (a x : Nat) : Prop := ∃ j k, Spot L a j k ∧ j ≠ i ∧ behL L j x
def TkE (L : List Nd) (a b : Nat) : Prop := b ∈ takL L a
theorem tk_lt {a b : Nat} (h : TkE L a b) : b < L.length := by
 obtain ⟨k, n, h1, _⟩ := mem_spot h
 exact lt_of_at h1
theorem yes_way {k : List UInt8} (h : k = gYes ∨ k = gNo) : isWay k := by rcases h with rfl | rfl <;> (unfold isWay; decide)
theorem if_noway : ¬ isWay gIf := by unfold isWay; decide
theorem ret_noway : ¬ isWay gReturn := by unfold isWay; decide
theorem start_way : isWay gStart := by unfold isWay; decide
theorem rest_way {k : List UInt8} (h : k = gRegion ∨ k = gPrint ∨ k = gCall ∨ k = gTick) : isWay k := by rcases h with rfl | rfl | rfl | rfl <;> (unfold isWay; decide)
theorem wstep_come (hW : WellG ones twos P L) {i : Nat} (hi : (ndAt L i).kind = gCall ∨ (ndAt L i).kind = gRegion) (x : Nat) : Star (WStep L i) 0 x ↔ isWay (ndAt L x).kind ∧ Star (Away (TkE L) (fun y => y = i)) 0 x := by
 have ne : ∀ {y : Nat} {q : List UInt8}, (ndAt L y).kind = q → (q = gYes ∨ q = gNo) → y ≠ i := fun hy hq e => by
  subst e
  rcases hi with hi | hi <;> rcases hq with hq | hq <;> rw [hy, hq] at hi <;> exact absurd hi (by decide)
 constructor
 ·intro h
  induction h with
  | refl => exact ⟨by rw [show ((0 : Nat) : Int) = 0 from rfl, hW.start]; exact start_way, .refl _⟩
  | tail _ r ih =>
   obtain ⟨j, k, h1, h2, h3⟩ := r
   have s1 := ih.2.tail ⟨spot_mem h1, h2⟩
   unfold behL at h3
   split at h3
   ·next e =>
    have hk := tak_if hW.node e h3
    exact ⟨yes_way hk, s1.tail ⟨h3, ne rfl hk⟩⟩
   ·split at h3
    ·exact h3.elim
    ·next e1 e2 =>
     subst h3
     refine ⟨?_, s1⟩
     have e := spot_kind hW h1
     obtain ⟨n, a1, a2, a3⟩ := h1
     have hk := kinds_ways a2
     rw [ndAt_of a1] at e1 e2 e ⊢
     rcases hk with hk | hk | hk | hk | hk | hk | hk | hk
     ·exact rest_way (Or.inl hk)
     ·exact absurd hk e1
     ·exact rest_way (Or.inr (Or.inl hk))
     ·exact absurd hk e2
     ·exact rest_way (Or.inr (Or.inr (Or.inl hk)))
     ·exact rest_way (Or.inr (Or.inr (Or.inr hk)))
     ·exact yes_way (Or.inl hk)
     ·exact yes_way (Or.inr hk)
 ·rintro ⟨hx, h⟩
  have key : (isWay (ndAt L x).kind → Star (WStep L i) 0 x) ∧ ((ndAt L x).kind = gIf → ∃ a k, Star (WStep L i) 0 a ∧ Spot L a x k ∧ x ≠ i) := by
   clear hx
   induction h with
   | refl => exact ⟨fun _ => .refl _, fun h => by rw [show ((0 : Nat) : Int) = 0 from rfl, hW.start] at h; exact absurd h (by decide)⟩
   | @tail b c _ r ih =>
    obtain ⟨r1, r2⟩ := r
    obtain ⟨k, hk⟩ := mem_spot r1
    have hs := spot_kind hW hk
    by_cases hy : (ndAt L c).kind = gYes ∨ (ndAt L c).kind = gNo
    ·rw [if_pos hy] at hs
     obtain ⟨a, ka, a1, a2, a3⟩ := ih.2 hs
     refine ⟨fun _ => a1.tail ⟨b, ka, a2, a3, ?_⟩, fun h => ?_⟩
     ·unfold behL; rw [if_pos hs]; exact r1
     ·rw [h] at hy; exact absurd hy (by decide)
    ·rw [if_neg hy] at hs
     have hb := ih.1 hs
     refine ⟨fun hc => hb.tail ⟨c, k, hk, r2, ?_⟩, fun h => ⟨b, k, hb, hk, r2⟩⟩
     unfold behL
     rw [if_neg (fun e => if_noway (by rwa [e] at hc)), if_neg (fun e => ret_noway (by rwa [e] at hc))]
  exact key.1 hx
def Ask (L : List Nd) (a : Nat) (v : Int) : Prop := ∃ (j : Nat) (n : Nd), L[j]? = some n ∧
 (((n.kind = gIf ∨ n.kind = gPrint ∨ n.kind = gReturn ∨ n.kind = gCall) ∧ n.ins[0]? = some (a : Int) ∧ ∃ k : Nat, n.ins[k + 1]? = some v) ∨
  (n.kind = gPhi ∧ ∃ (r : Nat) (m : Nd) (k : Nat), n.ins[0]? = some (r : Int) ∧ L[r]? = some m ∧ m.ins[k]? = some (a : Int) ∧ n.ins[k + 1]? = some v))
def AskAt (L : List Nd) (j k : Nat) (v : Int) : Prop :=
 if (ndAt L j).kind = gRegion then ∃ (p : Nat) (n : Nd), L[p]? = some n ∧ n.kind = gPhi ∧ n.ins[0]? = some (j : Int) ∧ n.ins[k + 1]? = some v else ∃ q : Nat, (ndAt L j).ins[q + 1]? = some v
theorem phi_region (hW : WellG ones twos P L) {p : Nat} {n : Nd} (hp : L[p]? = some n) (hk : n.kind = gPhi) : ∃ r : Nat, n.ins[0]? = some (r : Int) ∧ r < L.length ∧ (ndAt L r).kind = gRegion ∧ n.ins.length = (ndAt L r).ins.length + 1 := by
 have W := hW.node.at hp
 have hl := (fits_len W.fits).2.2.2.2.2.1 hk
 have h0 : n.ins[0]? = some (n.ins[0]) := by rw [List.getElem?_eq_getElem]
 have hb := W.bnd n.ins[0] (List.getElem_mem _)
 have hg := W.giv 0 (by omega)
 have hph := W.phi
 unfold givAt at hg
 unfold phiB at hph
 rw [List.getD_eq_getElem?_getD, h0, Option.getD_some] at hg hph
 rw [hk, List.contains_iff_mem] at hg
 rw [hk] at hph
 simp only [Bool.or_eq_true, bne_self_eq_false, Bool.false_eq_true, false_or, beq_iff_eq] at hph
 refine ⟨n.ins[0].toNat, ?_, by omega, ?_, ?_⟩
 ·rw [h0]; congr 1; omega
 ·rw [show ((n.ins[0].toNat : Nat) : Int) = n.ins[0] by omega]
  have hd : dueS (shp gPhi) 0 = 114 := by decide
  rw [hd] at hg
  generalize (ndAt L n.ins[0]).kind = k at hg
  rcases kind_cases k with rfl | rfl | rfl | rfl | rfl | rfl | rfl | rfl | rfl | rfl | rfl | rfl | rfl | rfl | ⟨e, _⟩ <;> first | rfl | exact absurd hg (by decide) | (rw [e] at hg; exact absurd hg (by decide))
 ·rw [show ((n.ins[0].toNat : Nat) : Int) = n.ins[0] by omega]; exact hph
theorem ask_at (hW : WellG ones twos P L) {a : Nat} (ha : a < L.length) (hw : isWay (ndAt L a).kind) (v : Int) : Ask L a v ↔ ∃ j k, Spot L a j k ∧ AskAt L j k v := by
 have hl := way_len hW ha hw
 constructor
 ·rintro ⟨j, n, h1, ⟨h2, h3, k, h4⟩ | ⟨h2, r, m, k, h3, h4, h5, h6⟩⟩
  ·have hn : n.kind ≠ gRegion := fun e => by rw [e] at h2; exact absurd h2 (by decide)
   refine ⟨j, 0, ⟨n, h1, ?_, h3⟩, ?_⟩
   ·unfold waysN
    rw [if_neg hn, if_pos (by rcases h2 with h | h | h | h <;> simp [h])]; decide
   ·unfold AskAt; rw [ndAt_of h1, if_neg hn]; exact ⟨k, h4⟩
  ·obtain ⟨r', e1, e2, e3, e4⟩ := phi_region hW h1 h2
   rw [h3] at e1
   injection e1 with e1
   have e1 : r = r' := by omega
   subst e1
   rw [ndAt_of h4] at e3
   refine ⟨r, k, ⟨m, h4, ?_, h5⟩, ?_⟩
   ·unfold waysN; rw [if_pos e3]; exact lt_of_at h5
   ·unfold AskAt; rw [ndAt_of h4, if_pos e3]; exact ⟨j, n, h1, h2, h3, h6⟩
 ·rintro ⟨j, k, hs, hA⟩
  have hk := spot_kind hW hs
  obtain ⟨n, h1, h2, h3⟩ := hs
  unfold AskAt at hA
  rw [ndAt_of h1] at hA hk
  by_cases e : n.kind = gRegion
  ·rw [if_pos e] at hA
   obtain ⟨p, m, a1, a2, a3, a4⟩ := hA
   exact ⟨p, m, a1, Or.inr ⟨a2, j, n, k, a3, h1, h3, a4⟩⟩
  ·rw [if_neg e] at hA
   obtain ⟨q, hq⟩ := hA
   have hk0 : k = 0 := by
    unfold waysN at h2
    rw [if_neg e] at h2
    split at h2 <;> omega
   subst hk0
   refine ⟨j, n, h1, Or.inl ⟨?_, h3, q, hq⟩⟩
   have hln := lt_of_at hq
   have F := fits_len (hW.node.at h1).fits
   obtain ⟨f1, f2, f3, f4, f5, f6, f7, f8, f9, f10, f11, f12, f13, f14⟩ := F
   rcases kinds_ways h2 with hk | hk | hk | hk | hk | hk | hk | hk
   ·exact absurd hk e
   ·exact Or.inl hk
   ·exact Or.inr (Or.inl hk)
   ·exact Or.inr (Or.inr (Or.inl hk))
   ·exact Or.inr (Or.inr (Or.inr hk))
   ·have := f11 hk; omega
   ·have := f9 hk; omega
   ·have := f10 hk; omega
def madeAt (L : List Nd) (f : Nat) : Nat := if (ndAt L f).kind = gPhi then ((ndAt L f).ins.getD 0 0).toNat else f
def keeps (L : List Nd) (f : Nat) : Prop := (ndAt L f).kind = gPhi ∨ (ndAt L f).kind = gCall
def SoundR (L : List Nd) : Prop := ∀ a v f : Nat, Ask L a (v : Int) → Star (TkE L) 0 a → Star (Rk L) v f → keeps L f → madeAt L f = a ∨ ¬ Star (Away (TkE L) (fun y => y = madeAt L f)) 0 a
def hangsOn (L : List Nd) (i v : Nat) : Prop := ∃ f, (if (ndAt L i).kind = gCall then f = i else (ndAt L f).kind = gPhi ∧ f < L.length ∧ (ndAt L f).ins[0]? = some (i : Int)) ∧ Star (Rk L) v f
def SoundP (L : List Nd) : Prop := ∀ i, i < L.length → ((ndAt L i).kind = gCall ∨ (ndAt L i).kind = gRegion) → ∀ a, Star (WStep L i) 0 a → ∀ j k, Spot L a j k → ∀ v : Nat, AskAt L j k (v : Int) → ¬ hangsOn L i v
theorem star_lt (hW : WellG ones twos P L) {a : Nat} (h : Star (TkE L) 0 a) : a < L.length := by
 cases h with
 | refl => exact hW.len.1
 | tail _ r => exact tk_lt r
theorem ask_way (hW : WellG ones twos P L) {a : Nat} {v : Int} (h : Ask L a v) : isWay (ndAt L a).kind := by
 obtain ⟨j, n, h1, ⟨h2, h3, k, h4⟩ | ⟨h2, r, m, k, h3, h4, h5, h6⟩⟩ := h
 ·have hn : n.kind ≠ gRegion := fun e => by rw [e] at h2; exact absurd h2 (by decide)
  have hs : Spot L a j 0 := ⟨n, h1, by unfold waysN; rw [if_neg hn, if_pos (by rcases h2 with h | h | h | h <;> simp [h])]; decide, h3⟩
  have := spot_kind hW hs
  rw [ndAt_of h1, if_neg (by rcases h2 with h | h | h | h <;> rw [h] <;> decide)] at this
  exact this
 ·obtain ⟨r', e1, e2, e3, e4⟩ := phi_region hW h1 h2
  rw [h3] at e1
  injection e1 with e1
  have e1 : r = r' := by omega
  subst e1
  rw [ndAt_of h4] at e3
  have hs : Spot L a r k := ⟨m, h4, by unfold waysN; rw [if_pos e3]; exact lt_of_at h5, h5⟩
  have := spot_kind hW hs
  rw [ndAt_of h4, if_neg (by rw [e3]; decide)] at this
  exact this
theorem away_ne {i x : Nat} (h : Star (Away (TkE L) (fun y => y = i)) 0 x) (h0 : i ≠ 0) : x ≠ i := by
 cases h with
 | refl => exact fun e => h0 e.symm
 | tail _ r => exact r.2
theorem sound_iff (hW : WellG ones twos P L) : SoundP L ↔ SoundR L := by
 have hz : ∀ {i}, ((ndAt L i).kind = gCall ∨ (ndAt L i).kind = gRegion) → i ≠ ((0 : Nat) : Int) := fun h e => by
  rw [e, show ((0 : Nat) : Int) = 0 from rfl, hW.start] at h; exact absurd h (by decide)
 constructor
 ·intro hP a v f hA hs hv hf
  by_cases e : madeAt L f = a
  ·exact Or.inl e
  ·refine Or.inr fun haw => ?_
   have hw := ask_way hW hA
   have ha := star_lt hW hs
   have hfl : f < L.length ∧ ((ndAt L (madeAt L f)).kind = gCall ∨ (ndAt L (madeAt L f)).kind = gRegion) ∧ madeAt L f < L.length ∧ hangsOn L (madeAt L f) v := by
    have hfl : f < L.length := by
     rcases Nat.lt_or_ge f L.length with h | h
     ·exact h
     ·have : ndAt L f = ⟨[], [], 0, []⟩ := by simp [ndAt, h]
      unfold keeps at hf
      rw [this] at hf
      exact absurd hf (by decide)
    refine ⟨hfl, ?_⟩
    rcases hf with hf | hf
    ·obtain ⟨r, r1, r2, r3, r4⟩ := phi_region hW (ndAt_ex hfl) hf
     have hm : madeAt L f = r := by
      unfold madeAt
      rw [if_pos hf, List.getD_eq_getElem?_getD, r1]; simp
     rw [hm]
     refine ⟨Or.inr r3, r2, f, ?_, hv⟩
     rw [if_neg (by rw [r3]; decide)]
     exact ⟨hf, hfl, r1⟩
    ·have hm : madeAt L f = f := by unfold madeAt; rw [if_neg (by rw [hf]; decide)]
     rw [hm]
     exact ⟨Or.inl hf, hfl, f, by rw [if_pos hf], hv⟩
   obtain ⟨_, h2, h3, h4⟩ := hfl
   obtain ⟨j, k, h5, h6⟩ := (ask_at hW ha hw v).1 hA
   exact hP _ h3 h2 a ((wstep_come hW h2 a).2 ⟨hw, haw⟩) j k h5 v h6 h4
 ·intro hR i hi hk a ha j k hs v hA hon
  obtain ⟨hw, haw⟩ := (wstep_come hW hk a).1 ha
  have hst : Star (TkE L) 0 a := haw.imp fun _ _ h => h.1
  have hal := star_lt hW hst
  obtain ⟨f, h1, h2⟩ := hon
  have hne := away_ne haw (fun e => hz hk (by rw [e]))
  have hask := (ask_at hW hal hw v).2 ⟨j, k, hs, hA⟩
  have hm : keeps L f ∧ madeAt L f = i := by
   by_cases e : (ndAt L i).kind = gCall
   ·rw [if_pos e] at h1
    subst h1
    exact ⟨Or.inr e, by unfold madeAt; rw [if_neg (by rw [e]; decide)]⟩
   ·rw [if_neg e] at h1
    exact ⟨Or.inl h1.1, by unfold madeAt; rw [if_pos h1.1, List.getD_eq_getElem?_getD, h1.2.2]; simp⟩
  have := hR a v f hask hst h2 hm.1
  rw [hm.2] at this
  rcases this with h | h
  ·exact hne h.symm
  ·exact h haw
end
end Go.Proofs.YtlgejjmdanmglaaGreatDoor
