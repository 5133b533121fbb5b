/-
  Our own: package run: the variables of a call in a map; a frame; the numbers of functions.
-/
import Derived.Test.YtcebpmaggnephacDoorRunTick
import Derived.Test.YtcebpmaggnephacDoorRunWf
namespace Go.Proofs.YtcebpmaggnephacDoor
open Go.RowKit Go.Maps

theorem nodup_le : ∀ (ks V : List (List UInt8)), ks.Nodup → (∀ x ∈ ks, x ∈ V) → ks.length ≤ V.length
  | [], _, _, _ => Nat.zero_le _
  | x :: r, V, hn, hs => by
    have hx := hs x (by simp)
    have hxr : x ∉ r := (List.nodup_cons.1 hn).1
    have h1 := nodup_le r (V.erase x) (List.nodup_cons.1 hn).2 (fun y hy => by
      have hne : y ≠ x := fun e => hxr (by rw [← e]; exact hy)
      exact (List.mem_erase_of_ne hne).2 (hs y (by simp [hy])))
    rw [List.length_erase_of_mem hx] at h1
    have : 0 < V.length := List.length_pos_of_mem hx
    simp; omega
/-- The variables of a call, in a map. -/
def EnvAt (w : World) (vb : Nat) (env : Env) (V : List (List UInt8)) : Prop :=
  ∃ (ks : List (List UInt8)) (D : DataW Unit), ks.Nodup ∧ (∀ x ∈ ks, x ∈ V) ∧ w.ownsMap Tryd.prog 9 (plainElem Tryd.prog 3) vb ks.length D ∧ Maps.size D = ks.length ∧ (∀ s, Maps.has D (.string s) = decide (s ∈ ks)) ∧ ∀ s, D.atKey (.string s) (.lit (.int .i64 0)) = .lit (.int .i64 (env s))
theorem EnvAt.keep {w w' : World} {vb : Nat} {env : Env} {V : List (List UInt8)} (h : EnvAt w vb env V) (e : w'.heap[vb]? = w.heap[vb]?) : EnvAt w' vb env V := by
  obtain ⟨ks, D, h1, h2, h3, h4⟩ := h
  exact ⟨ks, D, h1, h2, owns_block h3 e, h4⟩
theorem EnvAt.lt {w : World} {vb : Nat} {env : Env} {V : List (List UInt8)} (h : EnvAt w vb env V) : vb < w.heap.size := by
  obtain ⟨ks, D, _, _, ⟨es, clock, h1, _⟩, _⟩ := h
  exact heap_lt h1
theorem envAt_made (w : World) (V : List (List UInt8)) : EnvAt (w.alloc (.map #[] 0)) w.heap.size (fun _ => 0) V :=
  ⟨[], .map [], List.nodup_nil, by simp, World.ownsMap_made _ _ _ _, by simp [Maps.size], fun s => by simp [Maps.has], fun s => by simp [DataW.atKey]⟩
theorem EnvAt.put {w w' : World} {vb n : Nat} {env : Env} {V ks : List (List UInt8)} {D : DataW Unit} (h1 : ks.Nodup) (h2 : ∀ x ∈ ks, x ∈ V) (h3 : w.ownsMap Tryd.prog 9 (plainElem Tryd.prog 3) vb ks.length D) (h4 : Maps.size D = ks.length) (h5 : ∀ s, Maps.has D (.string s) = decide (s ∈ ks)) (h6 : ∀ s, D.atKey (.string s) (.lit (.int .i64 0)) = .lit (.int .i64 (env s)))
    {m : List UInt8} {v : Int} (hm : m ∈ V) (hw : w'.ownsMap Tryd.prog 9 (plainElem Tryd.prog 3) vb n (D.put (.string m) (.lit (.int .i64 v)))) : EnvAt w' vb (setE env m v) V := by
  have hT := h3.tidy law_string
  have hat : ∀ s, (D.put (.string m) (.lit (.int .i64 v))).atKey (.string s) (.lit (.int .i64 0)) = .lit (.int .i64 (setE env m v s)) := fun s => by
    unfold setE
    by_cases e : s = m
    · subst e
      rw [if_pos rfl, Maps.atKey_put_same h3.isMap (keyLit _)]
    · rw [if_neg e, Maps.atKey_put_other (by simpa using e)]
      exact h6 s
  by_cases hk : m ∈ ks
  · have hsz : Maps.size (D.put (.string m) (.lit (.int .i64 v))) = ks.length := by
      rw [Maps.size_put hT, h5 m]; simp [hk, h4]
    refine ⟨ks, _, h1, h2, by rw [← hsz]; exact owns_size hw, hsz, fun s => ?_, hat⟩
    by_cases e : s = m
    · subst e
      rw [Maps.has_put_same h3.isMap (keyLit s)]; simp [hk]
    · rw [Maps.has_put_other (by simpa using e), h5 s]
  · have hsz : Maps.size (D.put (.string m) (.lit (.int .i64 v))) = (ks ++ [m]).length := by
      rw [Maps.size_put hT, h5 m]; simp [hk, h4]
    refine ⟨ks ++ [m], _, ?_, ?_, by rw [← hsz]; exact owns_size hw, hsz, fun s => ?_, hat⟩
    · rw [List.nodup_append]
      refine ⟨h1, by simp, ?_⟩
      rintro x hx b hb rfl
      simp only [List.mem_singleton] at hb
      exact hk (hb ▸ hx)
    · intro x hx
      rcases List.mem_append.1 hx with hx | hx
      · exact h2 x hx
      · rw [List.mem_singleton.1 hx]; exact hm
    · by_cases e : s = m
      · subst e
        rw [Maps.has_put_same h3.isMap (keyLit s)]; simp
      · rw [Maps.has_put_other (by simpa using e), h5 s]; simp [e]
theorem look_env {w : World} {vb : Nat} {env : Env} {V : List (List UInt8)} (h : EnvAt w vb env V) (m : List UInt8) (hm : m.length ≤ 4000) (X : World) (hX : X.heap[vb]? = w.heap[vb]?) :
    (Instr.lookup 63 (.map (some vb)) (.string ⟨m.toArray⟩) false).run Tryd.prog X = .ok (.int .i64 (env m)) X := by
  obtain ⟨ks, D, _, _, h3, _, _, h6⟩ := h
  obtain ⟨c, hrun, hat, _⟩ := (owns_block h3 hX).lookup_int law_string Tryd.underlying63 Tryd.underlying3 (zero_int X) (key_text _ hm)
  rw [h6 m] at hat
  simp only [DataW.lit.injEq, Lit.int.injEq, true_and] at hat
  rw [hrun, hat]
/-- A look-up of a function's number. -/
theorem look_num {w : World} {b : Nat} {F : List Fu} (h : FirstAt w b F) (hw : WfP F) {q : Nat} (hq : q < F.length) (hm : F[q].name.length ≤ 4000) (X : World) (hX : X.heap[b]? = w.heap[b]?) :
    (Instr.lookup 63 (.map (some b)) (.string ⟨F[q].name.toArray⟩) false).run Tryd.prog X = .ok (.int .i64 (q : Int)) X := by
  obtain ⟨D, h1, h2, h3⟩ := h
  obtain ⟨c, hrun, hat, _⟩ := (owns_block h1 hX).lookup_int law_string Tryd.underlying63 Tryd.underlying3 (zero_int X) (key_text _ hm)
  have := h3 q hq (fun j hj e => by have := hw.names q hq j (by omega) e; omega) (.lit (.int .i64 0))
  rw [hat] at this
  simp only [DataW.lit.injEq, Lit.int.injEq, true_and] at this
  rw [hrun, this]
/-- A frame: its machine, its variables, its answer. -/
structure Fram (w : World) (B mb fb vb : Nat) (env : Env) (V : List (List UInt8)) (ans : Int) : Prop where
  hf : B ≤ fb
  hv : B ≤ vb
  fm : fb ≠ mb
  blk : w.heap[fb]? = some (.cells #[.pointer (some ⟨mb, 0, none⟩), .map (some vb), .int .i64 ans] 97 (0, 0))
  vars : EnvAt w vb env V
theorem Fram.flt {w : World} {B mb fb vb : Nat} {env : Env} {V : List (List UInt8)} {ans : Int} (h : Fram w B mb fb vb env V ans) : fb < w.heap.size := heap_lt h.blk
theorem Fram.keep {w w' : World} {B mb fb vb : Nat} {env : Env} {V : List (List UInt8)} {ans : Int} (h : Fram w B mb fb vb env V ans) (e1 : w'.heap[fb]? = w.heap[fb]?) (e2 : w'.heap[vb]? = w.heap[vb]?) : Fram w' B mb fb vb env V ans := ⟨h.hf, h.hv, h.fm, e1.trans h.blk, h.vars.keep e2⟩
/-- A map's block is no block of cells. -/
theorem EnvAt.isMap {w : World} {vb : Nat} {env : Env} {V : List (List UInt8)} (h : EnvAt w vb env V) : ∃ es clock, w.heap[vb]? = some (.map es clock) := by
  obtain ⟨ks, D, _, _, ⟨es, clock, h1, _⟩, _⟩ := h
  exact ⟨es, clock, h1⟩
section
variable {w w' : World} {B mb nb fb vb : Nat} {fv ov : Value} {F : List Fu} {how : List UInt8} {s : Ms} {most d : Nat} {env : Env} {V : List (List UInt8)} {ans : Int}
theorem Fram.vm (h : Fram w B mb fb vb env V ans) (hM : Mach w B mb nb fv ov F how s most d) : vb ≠ mb := by
  rintro rfl
  obtain ⟨es, clock, h1⟩ := h.vars.isMap
  have := hM.blk
  rw [h1] at this; cases this
theorem Fram.vf (h : Fram w B mb fb vb env V ans) : vb ≠ fb := by
  rintro rfl
  obtain ⟨es, clock, h1⟩ := h.vars.isMap
  have := h.blk
  rw [h1] at this; cases this
theorem Fram.vo (h : Fram w B mb fb vb env V ans) (hM : Mach w B mb nb fv ov F how s most d) : ov.ownBlock ≠ some vb := by
  obtain ⟨es, clock, h1⟩ := h.vars.isMap
  exact map_not_row h1 hM.own
/-- An expression leaves a frame alone. -/
theorem Fram.stay (h : Fram w B mb fb vb env V ans) (hM : Mach w B mb nb fv ov F how s most d) (ho : ov.ownBlock ≠ some fb) (hf : Fr (Sx mb ov.ownBlock) w w') : Fram w' B mb fb vb env V ans :=
  h.keep (hf.block fb h.flt (by rintro (e | e); exact h.fm e; exact ho e)) (hf.block vb h.vars.lt (by rintro (e | e); exact h.vm hM e; exact h.vo hM e))
end
end Go.Proofs.YtcebpmaggnephacDoor
