/-
  Our own: package check: its variables and functions, in maps.
-/
import Derived.Test.YtcebpmaggnephabGreatDoorCheckWell
import Derived.Test.YtcebpmaggnephabGreatDoorTreeAny
import Derived.Test.YtcebpmaggnephabGreatDoorCode
import Derived.Test.YtcebpmaggnephabGreatDoorCheckLow
import Derived.Maps.OwnSet
import Derived.Maps.OwnOps
import Derived.StringKeys
namespace Go.Proofs.YtcebpmaggnephabGreatDoor
open Go.RowKit Go.Maps

/-- How an element of type 'variable' reads. -/
def varR : Value → Option (DataW Unit × List MemPlace)
  | .agg cs => match cs.toList with
    | [.bool b] => some (.lit (.bool b), [])
    | _ => none
  | _ => none
theorem varR_mk (b : Bool) : varR (.agg #[.bool b]) = some (.lit (.bool b), []) := rfl
theorem varR_inv {v : Value} {z : DataW Unit × List MemPlace} (h : varR v = some z) : ∃ b, v = .agg #[.bool b] ∧ z = (.lit (.bool b), []) := by
  unfold varR at h
  split at h
  · split at h
    · next b e => cases h; exact ⟨b, congrArg Value.agg (Array.toList_inj.1 e), rfl⟩
    · cases h
  · cases h
theorem law_string : Keyed Tryz.prog 9 := string_keyed Tryz.underlying9
theorem zero_var (w : World) : (zeroValue 156).run Tryz.prog w = .ok (.agg #[.bool false]) w := by kernel_rfl
theorem zero_int (w : World) : (zeroValue 3).run Tryz.prog w = .ok (.int .i64 0) w := by kernel_rfl
theorem key_text (m : List UInt8) (h : m.length ≤ 4000) : keyOf Tryz.prog 9 (.string ⟨m.toArray⟩) = some (.string m) :=
  WideMaps.keyOf_string_mk Tryz.underlying9 (s := ⟨m.toArray⟩) (by unfold maxLen; show m.length ≤ _; omega)
theorem keyLit (m : List UInt8) : WideAt.IsKeyLit (.string m) := by first | trivial | exact ⟨_, rfl⟩ | simp [WideAt.IsKeyLit]
/-- A map has just as many entries as it has. -/
theorem owns_size {H : Type} {P : Program} {k : TypeId} {R : Value → Option (DataW H × List MemPlace)} {w : World} {b n : Nat} {D : DataW H} (h : w.ownsMap P k R b n D) : w.ownsMap P k R b (Maps.size D) D := by
  obtain ⟨es, clock, hb, F, _, rfl⟩ := h
  exact ⟨es, clock, hb, F, by simp [Maps.size, length_sorted], rfl⟩
theorem owns_block {H : Type} {P : Program} {k : TypeId} {R : Value → Option (DataW H × List MemPlace)} {w w' : World} {b n : Nat} {D : DataW H} (h : w.ownsMap P k R b n D) (hb : w'.heap[b]? = w.heap[b]?) : w'.ownsMap P k R b n D := by
  obtain ⟨es, clock, h1, r⟩ := h
  exact ⟨es, clock, hb.trans h1, r⟩
/-- A function's variables: all of them, and those that are there now. -/
structure VarsAt (w : World) (b : Nat) (all vis : List (List UInt8)) : Prop where
  sub : ∀ s ∈ vis, s ∈ all
  map : ∃ D : DataW Unit, w.ownsMap Tryz.prog 9 varR b all.length D ∧ Maps.size D = all.length ∧ (∀ s, Maps.has D (.string s) = decide (s ∈ all)) ∧ ∀ s, s ∈ all → ∀ z, D.atKey (.string s) z = .lit (.bool (decide (s ∉ vis)))
theorem VarsAt.keep {w w' : World} {b : Nat} {all vis : List (List UInt8)} (h : VarsAt w b all vis) (hb : w'.heap[b]? = w.heap[b]?) : VarsAt w' b all vis := by
  obtain ⟨h0, D, h1, h2⟩ := h
  exact ⟨h0, D, owns_block h1 hb, h2⟩
theorem VarsAt.lt {w : World} {b : Nat} {all vis : List (List UInt8)} (h : VarsAt w b all vis) : b < w.heap.size := by
  obtain ⟨_, D, ⟨es, clock, h1, _⟩, _⟩ := h
  exact heap_lt h1
theorem VarsAt.isMap {w : World} {b : Nat} {all vis : List (List UInt8)} (h : VarsAt w b all vis) : ∃ es clock, w.heap[b]? = some (.map es clock) := by
  obtain ⟨_, D, ⟨es, clock, h1, _⟩, _⟩ := h
  exact ⟨es, clock, h1⟩
theorem varsAt_made (w : World) : VarsAt (w.alloc (.map #[] 0)) w.heap.size [] [] :=
  ⟨by simp, .map [], World.ownsMap_made _ _ _ _, rfl, fun s => by simp [Maps.has], fun s hs => by cases hs⟩
theorem VarsAt.congr {w : World} {b : Nat} {all vis vis' : List (List UInt8)} (h : VarsAt w b all vis) (hv : ∀ s, s ∈ vis' ↔ s ∈ vis) : VarsAt w b all vis' := by
  obtain ⟨h0, D, h1, h2, h3, h4⟩ := h
  refine ⟨fun s hs => h0 s ((hv s).1 hs), D, h1, h2, h3, fun s hs z => ?_⟩
  rw [h4 s hs z]
  congr 2
  simp [hv s]
/-- One variable more. -/
theorem VarsAt.put_new {w w' : World} {b n : Nat} {all vis : List (List UInt8)} {D : DataW Unit} {m : List UInt8} (hs : ∀ s ∈ vis, s ∈ all) (h1 : w.ownsMap Tryz.prog 9 varR b n D) (h2 : Maps.size D = all.length) (h3 : ∀ s, Maps.has D (.string s) = decide (s ∈ all)) (h4 : ∀ s, s ∈ all → ∀ z, D.atKey (.string s) z = .lit (.bool (decide (s ∉ vis))))
    (hm : m ∉ all) (n' : Nat) (hw : w'.ownsMap Tryz.prog 9 varR b n' (D.put (.string m) (.lit (.bool false)))) : VarsAt w' b (all ++ [m]) (vis ++ [m]) := by
  have hT := h1.tidy law_string
  have hsz : Maps.size (D.put (.string m) (.lit (.bool false))) = (all ++ [m]).length := by
    rw [Maps.size_put hT, h3 m]; simp [hm, h2]
  refine ⟨fun s h => ?_, _, by rw [← hsz]; exact owns_size hw, hsz, fun s => ?_, fun s h z => ?_⟩
  · rcases List.mem_append.1 h with h | h
    · exact List.mem_append_left _ (hs s h)
    · exact List.mem_append_right _ h
  · by_cases e : s = m
    · subst e
      rw [Maps.has_put_same h1.isMap (keyLit s)]; simp
    · rw [Maps.has_put_other (by simpa using e), h3 s]; simp [e]
  · by_cases e : s = m
    · subst e
      rw [Maps.atKey_put_same h1.isMap (keyLit s)]; simp
    · rw [Maps.atKey_put_other (by simpa using e)]
      rw [h4 s (by simpa [e] using h) z]
      congr 2
      simp [e]
/-- A variable whose block has ended. -/
theorem VarsAt.put_end {w w' : World} {b n : Nat} {all vis : List (List UInt8)} {D : DataW Unit} {m : List UInt8} (hs : ∀ s ∈ vis, s ∈ all) (h1 : w.ownsMap Tryz.prog 9 varR b n D) (h2 : Maps.size D = all.length) (h3 : ∀ s, Maps.has D (.string s) = decide (s ∈ all)) (h4 : ∀ s, s ∈ all → ∀ z, D.atKey (.string s) z = .lit (.bool (decide (s ∉ vis))))
    (hm : m ∈ all) (n' : Nat) (hw : w'.ownsMap Tryz.prog 9 varR b n' (D.put (.string m) (.lit (.bool true)))) : VarsAt w' b all (vis.filter (fun s => s ≠ m)) := by
  have hT := h1.tidy law_string
  have hsz : Maps.size (D.put (.string m) (.lit (.bool true))) = all.length := by
    rw [Maps.size_put hT, h3 m]; simp [hm, h2]
  refine ⟨fun s h => hs s (List.mem_filter.1 h).1, _, by rw [← hsz]; exact owns_size hw, hsz, fun s => ?_, fun s h z => ?_⟩
  · by_cases e : s = m
    · subst e
      rw [Maps.has_put_same h1.isMap (keyLit s)]; simp [hm]
    · rw [Maps.has_put_other (by simpa using e), h3 s]
  · by_cases e : s = m
    · subst e
      rw [Maps.atKey_put_same h1.isMap (keyLit s)]; simp
    · rw [Maps.atKey_put_other (by simpa using e)]
      rw [h4 s h z]
      congr 2
      simp [e]
/-- Of each name, the first function that has it. -/
structure FirstAt (w : World) (b : Nat) (F : List Fu) : Prop where
  map : ∃ D : DataW Unit, w.ownsMap Tryz.prog 9 (plainElem Tryz.prog 3) b F.length D ∧ (∀ s, Maps.has D (.string s) = F.any fun f => f.name == s) ∧
    ∀ i (hi : i < F.length), (∀ j (hj : j < i), (F[j]'(by omega)).name ≠ F[i].name) → ∀ z, D.atKey (.string F[i].name) z = .lit (.int .i64 i)
theorem FirstAt.keep {w w' : World} {b : Nat} {F : List Fu} (h : FirstAt w b F) (hb : w'.heap[b]? = w.heap[b]?) : FirstAt w' b F := by
  obtain ⟨D, h1, h2⟩ := h
  exact ⟨D, owns_block h1 hb, h2⟩
theorem FirstAt.isMap {w : World} {b : Nat} {F : List Fu} (h : FirstAt w b F) : ∃ es clock, w.heap[b]? = some (.map es clock) := by
  obtain ⟨D, ⟨es, clock, h1, _⟩, _⟩ := h
  exact ⟨es, clock, h1⟩
/-- The first that is so. -/
theorem first_of {F : List Fu} {m : List UInt8} (h : (F.any fun f => f.name == m) = true) : ∃ i, ∃ hi : i < F.length, F[i].name = m ∧ (∀ j (hj : j < i), (F[j]'(by omega)).name ≠ m) ∧ F.find? (fun f => f.name == m) = some F[i] := by
  induction F with
  | nil => simp at h
  | cons f r ih =>
    by_cases e : f.name = m
    · exact ⟨0, by simp, by simpa using e, fun j hj => absurd hj (by omega), by simp [e]⟩
    · have h' : (r.any fun f => f.name == m) = true := by simpa [e] using h
      obtain ⟨i, hi, h1, h2, h3⟩ := ih h'
      refine ⟨i + 1, by simpa using hi, by simpa using h1, fun j hj => ?_, ?_⟩
      · cases j with
        | zero => simpa using e
        | succ j => simpa using h2 j (by omega)
      · simp [e, h3]
theorem callC_none {F : List Fu} {m : List UInt8} {n : Nat} (h : (F.any fun f => f.name == m) = false) : callC F m n = 6 := by
  unfold callC
  have : F.find? (fun f => f.name == m) = none := by
    rw [List.find?_eq_none]
    intro x hx
    rw [List.any_eq_false] at h
    exact h x hx
  rw [this]
/-- The error that a number tells. -/
def errV (a : Nat → Addr) (c : Nat) : Value := if c = 0 then .nilIface else sentV (a (c - 1))
theorem Sents.but {w w' : World} {s : Nat → Addr} {p : Nat} (h : Sents w s) (hb : But p w w') (hp : ∀ cs t z, w.heap[p]? ≠ some (.cells cs t z)) : Sents w' s := by
  have key : ∀ b i v, w.cell? ⟨b, i, none⟩ = some v → w'.cell? ⟨b, i, none⟩ = some v := fun b i v hc => by
    refine (World.cell?_of_block (w := w) (a := ⟨b, i, none⟩) (hb.block b (cell_lt hc) ?_)).trans hc
    rintro rfl
    unfold World.cell? at hc
    split at hc
    · next cs t z e => exact hp _ _ _ e
    · cases hc
  refine ⟨fun i hi => key _ _ _ (h.glob i hi), fun i hi => ?_, h.other, key _ _ _ h.handle⟩
  obtain ⟨c, t, e⟩ := h.row i hi
  refine ⟨c, t, (hb.block _ (heap_lt e) ?_).trans e⟩
  intro e'
  rw [e'] at e
  exact hp _ _ _ e
/-- A checker in block p: its functions, of each name the first one, and its variables in block m. -/
structure Chk (w : World) (a : Nat → Addr) (B p f m : Nat) (fv : Value) (F : List Fu) (all vis : List (List UInt8)) : Prop where
  s : Sents w a
  blk : w.heap[p]? = some (.cells #[.bool false, fv, .map (some f), .map (some m)] 91 (0, 0))
  funs : XLF (fun b => b < B) w fv F
  few : F.length ≤ 10
  low : ∀ g ∈ F, LowF g
  first : FirstAt w f F
  vars : VarsAt w m all vis
  hB : B ≤ m
  hf : f ≠ m
theorem Chk.mlt {w : World} {a : Nat → Addr} {B p f m : Nat} {fv : Value} {F : List Fu} {all vis : List (List UInt8)} (h : Chk w a B p f m fv F all vis) : m < w.heap.size := h.vars.lt
theorem keepBut {B m : Nat} {w w' : World} (hB : B ≤ m) (hm : m < w.heap.size) (hb : But m w w') : KeepA (fun b => b < B) w w' := fun b h => hb.block b (by omega) (by omega)
theorem Chk.keep {w w' : World} {a : Nat → Addr} {B p f m : Nat} {fv : Value} {F : List Fu} {all vis all' vis' : List (List UInt8)} (h : Chk w a B p f m fv F all vis) (hb : But m w w') (hv : VarsAt w' m all' vis') : Chk w' a B p f m fv F all' vis' := by
  obtain ⟨es, clock, hm⟩ := h.vars.isMap
  obtain ⟨es2, clock2, hfm⟩ := h.first.isMap
  refine ⟨h.s.but hb (fun cs t z e => by rw [hm] at e; cases e), (hb.block p (heap_lt h.blk) ?_).trans h.blk, h.funs.imp (fun _ x => x) (keepBut h.hB h.mlt hb), h.few, h.low, h.first.keep (hb.block f (heap_lt hfm) h.hf), hv, h.hB, h.hf⟩
  rintro rfl
  have := h.blk
  rw [hm] at this
  cases this
theorem Chk.below {w w' : World} {a : Nat → Addr} {B p f m : Nat} {fv : Value} {F : List Fu} {all vis : List (List UInt8)} (h : Chk w a B p f m fv F all vis) (hb : Below w.heap.size w w') : Chk w' a B p f m fv F all vis :=
  h.keep (But.of hb) (h.vars.keep (hb.block m h.mlt))
end Go.Proofs.YtcebpmaggnephabGreatDoor
