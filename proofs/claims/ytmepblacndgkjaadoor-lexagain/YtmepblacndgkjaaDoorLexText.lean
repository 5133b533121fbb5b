/-
  Our own: lex.Text: the texts of tokens, a blank between.
-/
import Derived.Test.YtmepblacndgkjaaDoorBuild
import Derived.Test.YtmepblacndgkjaaDoorLexView
namespace Go.Proofs.YtmepblacndgkjaaDoor
open Go.RowKit

theorem joined_snoc (t : Tok) : ∀ l : List Tok, l ≠ [] → joined (l ++ [t]) = joined l ++ [32] ++ t.text
  | [], h => absurd rfl h
  | [u], _ => by simp [joined]
  | u :: v :: r, _ => by
    have := joined_snoc t (v :: r) (by simp)
    simp only [List.cons_append, joined] at this ⊢
    rw [this]
    simp
/-- The first k tokens' text. -/
def joinTo (ts : List Tok) (k : Nat) : List UInt8 := joined (ts.take k)
theorem joinTo_zero (ts : List Tok) : joinTo ts 0 = [] := by simp [joinTo, joined]
theorem joinTo_one (ts : List Tok) (h : 0 < ts.length) : joinTo ts 1 = joinTo ts 0 ++ ts[0].text := by
  match ts, h with
  | t :: r, _ => simp [joinTo, joined]
theorem joinTo_succ (ts : List Tok) (k : Nat) (h : k < ts.length) (h0 : k ≠ 0) : joinTo ts (k + 1) = joinTo ts k ++ [32] ++ ts[k].text := by
  unfold joinTo
  rw [List.take_succ_eq_append_getElem h]
  apply joined_snoc
  intro e
  have := congrArg List.length e
  rw [List.length_take, List.length_nil] at this
  omega
theorem joinTo_all (ts : List Tok) : joinTo ts ts.length = joined ts := by simp [joinTo]
theorem bld_alloc {B b : Nat} {l : List UInt8} {w : World} (h : Bld B b l w) (o : Obj) : Bld B b l (w.alloc o) := by
  rcases h with ⟨h1, v, h2, h3, h4⟩ | ⟨h1, v, h2, h3, h4⟩
  · exact Or.inl ⟨h1, v, (Below.heap_alloc _ _ _ (heap_lt h2)).trans h2, h3.alloc _, h4⟩
  · exact Or.inr ⟨h1, v, (Below.heap_alloc _ _ _ (heap_lt h2)).trans h2, h3.alloc _, h4⟩
theorem bld_new (w : World) : Bld w.heap.size w.heap.size [] (w.alloc (.cells #[.pointer none, .slice none 0 0] 81)) :=
  Or.inl ⟨Nat.le_refl _, .slice none 0 0, heap_alloc_new _ _, World.ownsRow_nil _ _ _ _, by simp [Value.ownBlock]⟩
/-- A block that holds a token stays behind a writer. -/
theorem tok_kept {B b n : Nat} {l : List UInt8} {w w' : World} {cs : Array Value} (hw : Wrote B b l w w') (hb : w.heap[n]? = some (.cells cs 58 (0, 0))) (hn : n ≠ b) : w'.heap[n]? = some (.cells cs 58 (0, 0)) :=
  hw.2.2 n _ hb (by intro e; exact hn (Option.some.inj e)) (by intro c fz e; injection e with _ e2 _; exact absurd e2 (by decide))
set_option maxRecDepth 100000 in
set_option maxHeartbeats 1000000 in
theorem text_any (ts : List Tok) (xa : Option Addr) (ca : Nat) (w : World) (hn : ts.length ≤ 5000) (hj : ∀ k, (joinTo ts k).length ≤ 100000) (ht : ∀ i (h : i < ts.length), ts[i].text.length ≤ 100000)
    (hv : ts ≠ [] → ∃ g, xa = some ⟨g, 0, none⟩ ∧ TokView w (.slice xa ts.length ca) g ts) :
    Calls Tryd.prog 31 #[.slice xa ts.length ca] w fun e w' => e = .returned (.string ⟨(joined ts).toArray⟩) ∧ Below w.heap.size w w' := by
  have HV : Hid (ts ≠ [] → ∃ g, xa = some ⟨g, 0, none⟩ ∧ TokView w (.slice xa ts.length ca) g ts) := hv
  have HJ : Hid (∀ k, (joinTo ts k).length ≤ 100000) := hj
  have HT : Hid (∀ i (h : i < ts.length), ts[i].text.length ≤ 100000) := ht
  have h0 := bld_new w
  have hb0 : Below w.heap.size w (w.alloc (.cells #[.pointer none, .slice none 0 0] 81)) := (Below.refl _ _).alloc (Nat.le_refl _) _
  clear hv hj ht
  go_enter Tryd.func31, Tryd.ntmps31
  go_wp2
  go_loopw [8] (fun i wr => ∃ k : Nat, k ≤ ts.length ∧ i = .int .i64 k ∧ Bld w.heap.size w.heap.size (joinTo ts k) wr ∧ Below w.heap.size w wr ∧ w.heap.size < wr.heap.size) (fun i _ => ts.length - (intOf i).toNat)
  case atStart => exact ⟨0, Nat.zero_le _, rfl, by rw [joinTo_zero]; exact h0, hb0, by simp⟩
  case round =>
    clear h0 hb0
    obtain ⟨k, hk, rfl, hbl, hbe, hsz⟩ := hrel
    by_cases hlt : k < ts.length
    · obtain ⟨g, rfl, hv⟩ := HV.out (by intro e; rw [e] at hlt; simp at hlt)
      have v0 : wr.cell? ⟨g, k * 3, none⟩ = some (.string ⟨ts[k].kind.toArray⟩) := (hbe.cell (p := ⟨g, k * 3, none⟩) (cell_lt (hv.c0 k hlt))).trans (hv.c0 k hlt)
      have v1 : wr.cell? ⟨g, k * 3 + 1, none⟩ = some (.string ⟨ts[k].text.toArray⟩) := (hbe.cell (p := ⟨g, k * 3 + 1, none⟩) (cell_lt (hv.c1 k hlt))).trans (hv.c1 k hlt)
      have v2 : wr.cell? ⟨g, k * 3 + 2, none⟩ = some (.int .i64 ts[k].pos) := (hbe.cell (p := ⟨g, k * 3 + 2, none⟩) (cell_lt (hv.c2 k hlt))).trans (hv.c2 k hlt)
      have hlt' : (k : Int) < (ts.length : Int) := by omega
      have hbl2 := bld_alloc hbl (.cells #[.string ⟨ts[k].kind.toArray⟩, .string ⟨ts[k].text.toArray⟩, .int .i64 ts[k].pos] 58)
      have hbe2 := hbe.alloc (by omega) (.cells #[.string ⟨ts[k].kind.toArray⟩, .string ⟨ts[k].text.toArray⟩, .int .i64 ts[k].pos] 58)
      have hnw := heap_alloc_new wr (.cells #[.string ⟨ts[k].kind.toArray⟩, .string ⟨ts[k].text.toArray⟩, .int .i64 ts[k].pos] 58)
      have hts := HT.out k hlt
      have htz : (⟨ts[k].text.toArray⟩ : ByteArray).size = ts[k].text.length := by simp [ByteArray.size]
      clear hv HV hbl
      by_cases hk0 : k = 0
      · subst hk0
        go_wp2_with fail
        refine (wstr_any _ _ _ _ _ hbl2 (Nat.le_trans (HJ.out 0) (by decide)) (by omega) (by simp; omega)).mono ?_
        rintro e w2 ⟨rfl, hw2⟩
        have e2 := joinTo_one ts hlt
        have hbl3 : Bld w.heap.size w.heap.size (joinTo ts (0 + 1)) w2 := by rw [Nat.zero_add, e2]; exact hw2.1
        have hbe3 := hbe2.trans hw2.2.1
        have hs3 := hw2.2.1.size
        clear hw2 e2 hnw hbl2 hbe2
        go_wp2
        go_roundw
        case rel => exact ⟨0 + 1, by omega, by go_num, hbl3, hbe3, by simp at hs3; omega⟩
        case measure => simp [intOf]; omega
      · have hk0' : (0 : Int) < (k : Int) := by omega
        go_wp2_with fail
        refine (wbyte_any _ _ _ 32 _ hbl2 (Nat.le_trans (HJ.out k) (by decide)) (by simp; omega)).mono ?_
        rintro e w2 ⟨rfl, hw2⟩
        have hkp := tok_kept hw2 hnw (by omega)
        have c1 : w2.cell? ⟨wr.heap.size, 1, none⟩ = some (.string ⟨ts[k].text.toArray⟩) := by simp [World.cell?, hkp]
        have hbl3 := hw2.1
        have hbe3 := hbe2.trans hw2.2.1
        have hs3 := hw2.2.1.size
        have hs3' : wr.heap.size + 1 ≤ w2.heap.size := by simpa using hs3
        have hll : (joinTo ts k ++ [32]).length ≤ 1000000 := by have := HJ.out k; simp; omega
        clear hw2 hnw hbl2 hbe2 hkp hs3
        go_wp2_with fail
        refine (wstr_any _ _ _ _ _ hbl3 hll (by omega) (by omega)).mono ?_
        rintro e w3 ⟨rfl, hw3⟩
        have hbl4 : Bld w.heap.size w.heap.size (joinTo ts (k + 1)) w3 := by rw [joinTo_succ ts k hlt hk0]; exact hw3.1
        have hbe4 := hbe3.trans hw3.2.1
        have hs4 := hw3.2.1.size
        clear hw3 hbl3 hbe3
        go_wp2
        go_roundw
        case rel => exact ⟨k + 1, by omega, by go_num, hbl4, hbe4, by omega⟩
        case measure => simp [intOf]; omega
    · have hke : k = ts.length := by omega
      subst hke
      rw [joinTo_all] at hbl
      go_wp2_with fail
      refine (string_any _ _ _ _ hbl (by omega)).mono ?_
      rintro e w2 ⟨rfl, hb2⟩
      go_wp2
      go_ret
      exact ⟨rfl, hbe.trans hb2⟩
end Go.Proofs.YtmepblacndgkjaaDoor
