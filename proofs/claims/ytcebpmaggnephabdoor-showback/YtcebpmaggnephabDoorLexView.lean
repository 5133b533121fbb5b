/-
  Our own: a slice of tokens, as a walk reads it; the law's own small text.
-/
import Derived.Test.YtcebpmaggnephabDoorLexRead
import Derived.Deep.Draws
namespace Go.Proofs.YtcebpmaggnephabDoor
open Go.RowKit

/-- A slice of tokens, as a walk reads it. -/
structure TokView (w : World) (v : Value) (g : Nat) (ts : List Tok) : Prop where
  c0 : ∀ i (h : i < ts.length), w.cell? ⟨g, i * 3, none⟩ = some (.string ⟨ts[i].kind.toArray⟩)
  c1 : ∀ i (h : i < ts.length), w.cell? ⟨g, i * 3 + 1, none⟩ = some (.string ⟨ts[i].text.toArray⟩)
  c2 : ∀ i (h : i < ts.length), w.cell? ⟨g, i * 3 + 2, none⟩ = some (.int .i64 ts[i].pos)
theorem toksC_get (ts : List Tok) : ∀ i (h : i < ts.length), (toksC ts)[i * 3]? = some (.string ⟨ts[i].kind.toArray⟩) ∧ (toksC ts)[i * 3 + 1]? = some (.string ⟨ts[i].text.toArray⟩) ∧ (toksC ts)[i * 3 + 2]? = some (.int .i64 ts[i].pos) := by
  induction ts with
  | nil => intro i h; simp at h
  | cons t r ih =>
    intro i h
    have e : toksC (t :: r) = tokC t ++ toksC r := rfl
    have hl : (tokC t).length = 3 := rfl
    rw [e]
    match i, h with
    | 0, _ => exact ⟨rfl, rfl, rfl⟩
    | i + 1, h =>
      have := ih i (by simpa using h)
      rw [List.getElem?_append_right (by omega), List.getElem?_append_right (by omega), List.getElem?_append_right (by omega), hl]
      simp only [List.getElem_cons_succ]
      rw [show (i + 1) * 3 - 3 = i * 3 from by omega, show (i + 1) * 3 + 1 - 3 = i * 3 + 1 from by omega, show (i + 1) * 3 + 2 - 3 = i * 3 + 2 from by omega]
      exact this
theorem tokView {w : World} {B : Nat} {t : TypeId} {v : Value} {ts : List Tok} (h : w.ownsRow B t 3 v ts.length (toksC ts)) (hn : ts ≠ []) : ∃ g cap, v = .slice (some ⟨g, 0, none⟩) ts.length cap ∧ TokView w v g ts := by
  rcases id h with ⟨_, ⟨_, h0⟩ | ⟨g, cap, cur, rfl, _⟩⟩
  · exact absurd (List.length_eq_zero_iff.1 h0) hn
  · refine ⟨g, cap, rfl, ⟨fun i hi => ?_, fun i hi => ?_, fun i hi => ?_⟩⟩
    · rw [h.cellAt _ (by omega)]; exact (toksC_get ts i hi).1
    · rw [h.cellAt _ (by omega)]; exact (toksC_get ts i hi).2.1
    · rw [h.cellAt _ (by omega)]; exact (toksC_get ts i hi).2.2
theorem tokEmpty {w : World} {B : Nat} {t : TypeId} {v : Value} {n : Nat} {xs : List Value} (h : w.ownsRow B t 3 v n xs) : ∃ a cap, v = .slice a n cap := by
  rcases id h with ⟨_, ⟨rfl, rfl⟩ | ⟨g, cap, cur, rfl, _⟩⟩
  · exact ⟨_, _, rfl⟩
  · exact ⟨_, _, rfl⟩
theorem owns_below {w w' : World} {B n size : Nat} {t : TypeId} {v : Value} {xs : List Value} (h : w.ownsRow B t size v n xs) (hb : Below w.heap.size w w') : w'.ownsRow B t size v n xs := by
  rcases h with ⟨h1, h2 | ⟨g, cap, cur, h3, h4, h5, h6⟩⟩
  · exact ⟨h1, Or.inl h2⟩
  · exact ⟨h1, Or.inr ⟨g, cap, cur, h3, h4, (hb.block g (heap_lt h5)).trans h5, h6⟩⟩
theorem bl_trans {B : Nat} {a b c : World} (h1 : Below B a b) (hB : B ≤ b.heap.size) (h2 : Below b.heap.size b c) : Below B a c := h1.trans (h2.mono hB)
theorem tokAny {w : World} {B : Nat} {t : TypeId} {v : Value} {ts : List Tok} (h : w.ownsRow B t 3 v ts.length (toksC ts)) : ∃ ad cap, v = .slice ad ts.length cap ∧ (ts ≠ [] → ∃ g, ad = some ⟨g, 0, none⟩ ∧ TokView w v g ts) := by
  by_cases h0 : ts = []
  · obtain ⟨a, c, rfl⟩ := tokEmpty h
    exact ⟨a, c, rfl, fun x => absurd h0 x⟩
  · obtain ⟨g, c, rfl, hv⟩ := tokView h h0
    exact ⟨_, c, rfl, fun _ => ⟨g, rfl, hv⟩⟩
theorem TokView.below {w w' : World} {v : Value} {g : Nat} {ts : List Tok} (h : TokView w v g ts) (hb : Below w.heap.size w w') : TokView w' v g ts :=
  ⟨fun i hi => (hb.cell (p := ⟨g, i * 3, none⟩) (cell_lt (h.c0 i hi))).trans (h.c0 i hi), fun i hi => (hb.cell (p := ⟨g, i * 3 + 1, none⟩) (cell_lt (h.c1 i hi))).trans (h.c1 i hi), fun i hi => (hb.cell (p := ⟨g, i * 3 + 2, none⟩) (cell_lt (h.c2 i hi))).trans (h.c2 i hi)⟩
/-- Some words, whatever is read next. -/
abbrev someS : ByteArray := ⟨#[105, 102, 32, 120, 49, 60, 61, 50, 48]⟩
def someT : List Tok := [⟨kWord, [105, 102], 0⟩, ⟨kName, [120, 49], 3⟩, ⟨kSign, [60, 61], 5⟩, ⟨kNum, [50, 48], 7⟩]
theorem some_scan : Scan 0 someS.data.toList someT none := by
  show Scan 0 [105, 102, 32, 120, 49, 60, 61, 50, 48] _ none
  refine Scan.tokAt (k := kWord) (n := 2) rfl rfl rfl (by decide) ?_
  refine Scan.blank rfl ?_
  refine Scan.tokAt (k := kName) (n := 2) rfl rfl rfl (by decide) ?_
  refine Scan.tokAt (k := kSign) (n := 2) rfl rfl rfl (by decide) ?_
  refine Scan.tokAt (k := kNum) (n := 2) rfl rfl rfl (by decide) ?_
  exact .nil _
theorem lexed_any (a : Nat → Addr) (w : World) (hG : LexG w a) : Calls Tryd.prog 7 #[] w fun e w' => e = .returned (.bool true) ∧ Below w.heap.size w w' := by
  go_enter Tryd.func7, Tryd.ntmps7
  go_wp2_with fail
  refine (read_any a someS (by decide) _ hG).mono ?_
  rintro e w' ⟨ts, er, hsc, hbel, hx⟩
  obtain ⟨rfl, rfl⟩ := some_scan.det hsc
  rcases hx with ⟨_, _, v, rfl, ho⟩ | ⟨p, b, h, _⟩ | ⟨_, h, _⟩
  · obtain ⟨g, cap, rfl, hv⟩ := tokView ho (by simp [someT])
    have c0 : w'.cell? ⟨g, 6, none⟩ = some (.string ⟨#[115, 105, 103, 110]⟩) := hv.c0 2 (by decide)
    have c1 : w'.cell? ⟨g, 7, none⟩ = some (.string ⟨#[60, 61]⟩) := hv.c1 2 (by decide)
    have c2 : w'.cell? ⟨g, 8, none⟩ = some (.int .i64 5) := hv.c2 2 (by decide)
    have hl : someT.length = 4 := rfl
    clear ho hv hsc
    go_wp2
    go_ret
    exact ⟨rfl, hbel⟩
  · cases h
  · simp [someT] at h
end Go.Proofs.YtcebpmaggnephabDoor
