/-
  Our own: tokens held against tokens; an error held against a fault.
-/
import Derived.Test.YtmepblacndgkjaaDoorLexRead
import Derived.Deep.Draws
namespace Go.Proofs.YtmepblacndgkjaaDoor
open Go.RowKit

/-- A slice of tokens, as a walk reads it. -/
structure TokView (w : World) (v : Value) (g : Nat) (ts : List Tok) : Prop where
  c0 : ∀ i (h : i < ts.length), w.cell? ⟨g, i * 3, none⟩ = some (.string ⟨ts[i].kind.toArray⟩)
  c1 : ∀ i (h : i < ts.length), w.cell? ⟨g, i * 3 + 1, none⟩ = some (.string ⟨ts[i].text.toArray⟩)
  c2 : ∀ i (h : i < ts.length), w.cell? ⟨g, i * 3 + 2, none⟩ = some (.int .i64 ts[i].pos)
theorem toksC_get (ts : List Tok) : ∀ i (h : i < ts.length), (toksC ts)[i * 3]? = some (.string ⟨ts[i].kind.toArray⟩) ∧ (toksC ts)[i * 3 + 1]? = some (.string ⟨ts[i].text.toArray⟩) ∧ (toksC ts)[i * 3 + 2]? = some (.int .i64 ts[i].pos) := by
  induction ts with
  | nil => intro i h; simp at h
  | cons t r ih =>
    intro i h
    have e : toksC (t :: r) = tokC t ++ toksC r := rfl
    have hl : (tokC t).length = 3 := rfl
    rw [e]
    match i, h with
    | 0, _ => exact ⟨rfl, rfl, rfl⟩
    | i + 1, h =>
      have := ih i (by simpa using h)
      rw [List.getElem?_append_right (by omega), List.getElem?_append_right (by omega), List.getElem?_append_right (by omega), hl]
      simp only [List.getElem_cons_succ]
      rw [show (i + 1) * 3 - 3 = i * 3 from by omega, show (i + 1) * 3 + 1 - 3 = i * 3 + 1 from by omega, show (i + 1) * 3 + 2 - 3 = i * 3 + 2 from by omega]
      exact this
theorem tokView {w : World} {B : Nat} {t : TypeId} {v : Value} {ts : List Tok} (h : w.ownsRow B t 3 v ts.length (toksC ts)) (hn : ts ≠ []) : ∃ g cap, v = .slice (some ⟨g, 0, none⟩) ts.length cap ∧ TokView w v g ts := by
  rcases id h with ⟨_, ⟨_, h0⟩ | ⟨g, cap, cur, rfl, _⟩⟩
  · exact absurd (List.length_eq_zero_iff.1 h0) hn
  · refine ⟨g, cap, rfl, ⟨fun i hi => ?_, fun i hi => ?_, fun i hi => ?_⟩⟩
    · rw [h.cellAt _ (by omega)]; exact (toksC_get ts i hi).1
    · rw [h.cellAt _ (by omega)]; exact (toksC_get ts i hi).2.1
    · rw [h.cellAt _ (by omega)]; exact (toksC_get ts i hi).2.2
theorem tokEmpty {w : World} {B : Nat} {t : TypeId} {v : Value} {n : Nat} {xs : List Value} (h : w.ownsRow B t 3 v n xs) : ∃ a cap, v = .slice a n cap := by
  rcases id h with ⟨_, ⟨rfl, rfl⟩ | ⟨g, cap, cur, rfl, _⟩⟩
  · exact ⟨_, _, rfl⟩
  · exact ⟨_, _, rfl⟩
theorem same_none (a b : Option Addr) (ca cb : Nat) (w : World) :
    Calls Tryd.prog 30 #[.slice a 0 ca, .slice b 0 cb] w fun e w' => e = .returned (.bool true) ∧ ∃ m, w' = w.drewN m := by
  go_enter Tryd.func30, Tryd.ntmps30
  go_wp2
  go_loop [5] (fun i => ∃ k : Nat, k ≤ 0 ∧ i = .int .i64 k) (fun i => 0 - (intOf i).toNat)
  case atStart => exact ⟨0, Nat.le_refl _, rfl⟩
  case round =>
    obtain ⟨k, hk, rfl⟩ := hrel
    have : k = 0 := by omega
    subst this
    go_wp2
    go_ret
    exact ⟨rfl, 0, rfl⟩
theorem same_toks (ts : List Tok) (ga gb ca cb : Nat) (hn : ts.length ≤ 100000) (w : World) (va vb : Value) (ha : TokView w va ga ts) (hb : TokView w vb gb ts) :
    Calls Tryd.prog 30 #[.slice (some ⟨ga, 0, none⟩) ts.length ca, .slice (some ⟨gb, 0, none⟩) ts.length cb] w fun e w' => e = .returned (.bool true) ∧ ∃ m, w' = w.drewN m := by
  go_enter Tryd.func30, Tryd.ntmps30
  go_wp2
  go_loopw [5] (fun i wr => ∃ k m : Nat, k ≤ ts.length ∧ i = .int .i64 k ∧ wr = w.drewN m) (fun i _ => ts.length - (intOf i).toNat)
  case atStart => exact ⟨0, 0, Nat.zero_le _, rfl, rfl⟩
  case round =>
    obtain ⟨k, m, hk, rfl, rfl⟩ := hrel
    by_cases hlt : k < ts.length
    · have a0 := ha.c0 k hlt
      have a1 := ha.c1 k hlt
      have a2 := ha.c2 k hlt
      have b0 := hb.c0 k hlt
      have b1 := hb.c1 k hlt
      have b2 := hb.c2 k hlt
      have hlt' : (k : Int) < (ts.length : Int) := by omega
      have h0' : (w.drewN m).cell? ⟨ga, k * 3, none⟩ = some (.string ⟨ts[k].kind.toArray⟩) := a0
      have h1' : (w.drewN m).cell? ⟨ga, k * 3 + 1, none⟩ = some (.string ⟨ts[k].text.toArray⟩) := a1
      have h2' : (w.drewN m).cell? ⟨ga, k * 3 + 2, none⟩ = some (.int .i64 ts[k].pos) := a2
      have g0' : (w.drewN m).cell? ⟨gb, k * 3, none⟩ = some (.string ⟨ts[k].kind.toArray⟩) := b0
      have g1' : (w.drewN m).cell? ⟨gb, k * 3 + 1, none⟩ = some (.string ⟨ts[k].text.toArray⟩) := b1
      have g2' : (w.drewN m).cell? ⟨gb, k * 3 + 2, none⟩ = some (.int .i64 ts[k].pos) := b2
      clear a0 a1 a2 b0 b1 b2
      generalize hW : w.drewN m = W at h0' h1' h2' g0' g1' g2'
      go_wp2
      go_quiet (fail)
      go_wp2
      go_roundw
      case rel => exact ⟨k + 1, m + nq, by omega, by go_num, by rw [← hW, World.drewN_drewN]⟩
      case measure => simp [intOf]; omega
    · have hqn : k = ts.length := by omega
      subst hqn
      go_wp2
      go_ret
      exact ⟨rfl, m, rfl⟩
theorem same_any {w : World} {Ba Bb : Nat} {va vb : Value} {ts : List Tok} (hn : ts.length ≤ 100000) (ha : w.ownsRow Ba 58 3 va ts.length (toksC ts)) (hb : w.ownsRow Bb 76 3 vb ts.length (toksC ts)) :
    Calls Tryd.prog 30 #[va, vb] w fun e w' => e = .returned (.bool true) ∧ ∃ m, w' = w.drewN m := by
  by_cases h0 : ts = []
  · subst h0
    obtain ⟨a, ca, rfl⟩ := tokEmpty ha
    obtain ⟨b, cb, rfl⟩ := tokEmpty hb
    exact same_none a b ca cb w
  · obtain ⟨ga, ca, rfl, hva⟩ := tokView ha h0
    obtain ⟨gb, cb, rfl, hvb⟩ := tokView hb h0
    exact same_toks ts ga gb ca cb hn w _ _ hva hvb
/-- Some words, whatever is read next. -/
abbrev someS : ByteArray := ⟨#[105, 102, 32, 120, 49, 60, 61, 50, 48]⟩
def someT : List Tok := [⟨kWord, [105, 102], 0⟩, ⟨kName, [120, 49], 3⟩, ⟨kSign, [60, 61], 5⟩, ⟨kNum, [50, 48], 7⟩]
theorem some_scan : Scan 0 someS.data.toList someT none := by
  show Scan 0 [105, 102, 32, 120, 49, 60, 61, 50, 48] _ none
  refine Scan.tokAt (k := kWord) (n := 2) rfl rfl rfl (by decide) ?_
  refine Scan.blank rfl ?_
  refine Scan.tokAt (k := kName) (n := 2) rfl rfl rfl (by decide) ?_
  refine Scan.tokAt (k := kSign) (n := 2) rfl rfl rfl (by decide) ?_
  refine Scan.tokAt (k := kNum) (n := 2) rfl rfl rfl (by decide) ?_
  exact .nil _
theorem lexed_any (a : Nat → Addr) (w : World) (hG : LexG w a) : Calls Tryd.prog 26 #[] w fun e w' => e = .returned (.bool true) ∧ Below w.heap.size w w' := by
  go_enter Tryd.func26, Tryd.ntmps26
  go_wp2_with fail
  refine (read_any a someS (by decide) _ hG).mono ?_
  rintro e w' ⟨ts, er, hsc, hbel, hx⟩
  obtain ⟨rfl, rfl⟩ := some_scan.det hsc
  rcases hx with ⟨_, _, v, rfl, ho⟩ | ⟨p, b, h, _⟩ | ⟨_, h, _⟩
  · obtain ⟨g, cap, rfl, hv⟩ := tokView ho (by simp [someT])
    have c0 : w'.cell? ⟨g, 6, none⟩ = some (.string ⟨#[115, 105, 103, 110]⟩) := hv.c0 2 (by decide)
    have c1 : w'.cell? ⟨g, 7, none⟩ = some (.string ⟨#[60, 61]⟩) := hv.c1 2 (by decide)
    have c2 : w'.cell? ⟨g, 8, none⟩ = some (.int .i64 5) := hv.c2 2 (by decide)
    have hl : someT.length = 4 := rfl
    clear ho hv hsc
    go_wp2
    go_ret
    exact ⟨rfl, hbel⟩
  · cases h
  · simp [someT] at h
end Go.Proofs.YtmepblacndgkjaaDoor
