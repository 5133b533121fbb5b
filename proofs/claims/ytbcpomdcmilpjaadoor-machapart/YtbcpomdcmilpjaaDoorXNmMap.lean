/- Our own: texts joined: NmMap. -/
import Derived.Test.YtbcpomdcmilpjaaDoorXBaseM
import Derived.Maps.OwnSet
import Derived.Maps.OwnOps
import Derived.StringKeys
import Derived.WideKeyEntry
namespace Go.Proofs.YtbcpomdcmilpjaaDoor
open Go.RowKit Go.Maps
theorem law_stringM : Keyed Tryd.prog 9 := string_keyed Tryd.underlying9
theorem zero_intM (w : World) : (zeroValue 3).run Tryd.prog w = .ok (.int .i64 0) w := by kernel_rfl
theorem key_textM (m : List UInt8) (h : m.length ≤ 4000) : keyOf Tryd.prog 9 (.string ⟨m.toArray⟩) = some (.string m) :=
 WideMaps.keyOf_string_mk Tryd.underlying9 (s := ⟨m.toArray⟩) (by unfold maxLen; show m.length ≤ _; omega)
theorem keyLitM (m : List UInt8) : WideAt.IsKeyLit (.string m) := by first | trivial | exact ⟨_, rfl⟩ | simp [WideAt.IsKeyLit]
theorem owns_sizeM {H : Type} {P : Program} {k : TypeId} {R : Value → Option (DataW H × List MemPlace)} {w : World} {b n : Nat} {D : DataW H} (h : w.ownsMap P k R b n D) : w.ownsMap P k R b (Maps.size D) D := by
 obtain ⟨es, clock, hb, F, _, rfl⟩ := h
 exact ⟨es, clock, hb, F, by simp [Maps.size, length_sorted], rfl⟩
theorem owns_blockM {H : Type} {P : Program} {k : TypeId} {R : Value → Option (DataW H × List MemPlace)} {w w' : World} {b n : Nat} {D : DataW H} (h : w.ownsMap P k R b n D) (hb : w'.heap[b]? = w.heap[b]?) : w'.ownsMap P k R b n D := by
 obtain ⟨es, clock, h1, r⟩ := h
 exact ⟨es, clock, hb.trans h1, r⟩
def NmAt (w : World) (b : Nat) (ks : List (List UInt8)) (f : List UInt8 → Int) : Prop :=
 ∃ D : DataW Unit, w.ownsMap Tryd.prog 9 (plainElem Tryd.prog 3) b ks.length D ∧ Maps.size D = ks.length ∧ ks.Nodup ∧ (∀ s, Maps.has D (.string s) = decide (s ∈ ks)) ∧ ∀ s, s ∈ ks → ∀ z, D.atKey (.string s) z = .lit (.int .i64 (f s))
theorem NmAt.keep {w w' : World} {b : Nat} {ks : List (List UInt8)} {f : List UInt8 → Int} (h : NmAt w b ks f) (hb : w'.heap[b]? = w.heap[b]?) : NmAt w' b ks f := by
 obtain ⟨D, h1, r⟩ := h
 exact ⟨D, owns_blockM h1 hb, r⟩
theorem NmAt.lt {w : World} {b : Nat} {ks : List (List UInt8)} {f : List UInt8 → Int} (h : NmAt w b ks f) : b < w.heap.size := by
 obtain ⟨D, ⟨es, clock, h1, _⟩, _⟩ := h
 exact heap_lt h1
theorem NmAt.isMap {w : World} {b : Nat} {ks : List (List UInt8)} {f : List UInt8 → Int} (h : NmAt w b ks f) : ∃ es clock, w.heap[b]? = some (.map es clock) := by
 obtain ⟨D, ⟨es, clock, h1, _⟩, _⟩ := h
 exact ⟨es, clock, h1⟩
theorem nmAt_made (w : World) (f : List UInt8 → Int) : NmAt (w.alloc (.map #[] 0)) w.heap.size [] f :=
 ⟨.map [], World.ownsMap_made _ _ _ _, rfl, List.nodup_nil, fun s => by simp [Maps.has], fun s hs => by cases hs⟩
theorem NmAt.look {w : World} {b : Nat} {ks : List (List UInt8)} {f : List UInt8 → Int} (h : NmAt w b ks f) (m : List UInt8) (hm : m.length ≤ 4000) (X : World) (hX : X.heap[b]? = w.heap[b]?) :
  ∃ v, (Instr.lookup 84 (.map (some b)) (.string ⟨m.toArray⟩) true).run Tryd.prog X = .ok (.tuple #[.int .i64 v, .bool (decide (m ∈ ks))]) X ∧ (m ∈ ks → v = f m) := by
 obtain ⟨D, h1, h2, h3, h4, h5⟩ := h.keep hX
 obtain ⟨v, ps, hrun, hv⟩ := h1.look_ok law_stringM Tryd.underlying84 (zero_intM X) (plainElem_int (H := Unit) Tryd.underlying3 (q := .i64) (a := 0) (by decide)) (key_textM m hm)
 obtain ⟨a, rfl, hz, _⟩ := plainElem_int_inv Tryd.underlying3 hv
 rw [h4 m] at hrun
 refine ⟨a, hrun, fun hk => ?_⟩
 rw [h5 m hk] at hz
 simp only [Prod.mk.injEq, DataW.lit.injEq, Lit.int.injEq, true_and] at hz
 exact hz.1.symm
theorem NmAt.put {w : World} {b : Nat} {ks : List (List UInt8)} {f : List UInt8 → Int} (h : NmAt w b ks f) (hks : ks.length ≤ 1000) (m : List UInt8) (hm : m.length ≤ 4000) (hn : m ∉ ks) (v : Int) (hv : -9223372036854775808 ≤ v ∧ v ≤ 9223372036854775807) (hf : f m = v) (X : World) (hX : X.heap[b]? = w.heap[b]?) :
  ∃ w', (Instr.mapUpdate 84 (.map (some b)) (.string ⟨m.toArray⟩) (.int .i64 v)).run Tryd.prog X = .ok () w' ∧ NmAt w' b (ks ++ [m]) f ∧ X.grownBy w' (some b) := by
 obtain ⟨D, h1, h2, h3, h4, h5⟩ := h.keep hX
 obtain ⟨w', hrun, r1, r2⟩ := h1.update law_stringM Tryd.underlying84 (by unfold maxLen; omega) (key_textM m hm) (plainElem_int (H := Unit) Tryd.underlying3 (q := .i64) (a := v) (WalkArith.wf_i64 (by omega)))
 refine ⟨w', hrun, ?_, r2⟩
 have hT := h1.tidy law_stringM
 have hsz : Maps.size (D.put (.string m) (.lit (.int .i64 v))) = (ks ++ [m]).length := by
  rw [Maps.size_put hT, h4 m]; simp [hn, h2]
 refine ⟨_, by rw [← hsz]; exact owns_sizeM r1, hsz, ?_, fun s => ?_, fun s hs z => ?_⟩
 ·rw [List.nodup_append]
  refine ⟨h3, by simp, ?_⟩
  rintro x hx c hc rfl
  simp only [List.mem_singleton] at hc
  exact hn (hc ▸ hx)
 ·by_cases e : s = m
  ·subst e
   rw [Maps.has_put_same h1.isMap (keyLitM s)]; simp
  ·rw [Maps.has_put_other (by simpa using e), h4 s]; simp [e]
 ·by_cases e : s = m
  ·subst e
   rw [Maps.atKey_put_same h1.isMap (keyLitM _), hf]
  ·rw [Maps.atKey_put_other (by simpa using e)]
   have : s ∈ ks := by
    rcases List.mem_append.1 hs with h | h
    ·exact h
    ·exact absurd (List.mem_singleton.1 h) e
   exact h5 s this z
end Go.Proofs.YtbcpomdcmilpjaaDoor
