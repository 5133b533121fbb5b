/-
  Our own: package show: a program as text.
-/
import Derived.Test.YtcebpmaggnephabDoorShowIf
namespace Go.Proofs.YtcebpmaggnephabDoor
open Go.RowKit

theorem textS_pos (d : Nat) (s : Sm) : 1 ≤ (textS d s).length := by
  obtain ⟨k, m, e, t, o⟩ := s
  unfold textS
  rw [itS, combIS]
  repeat' split
  all_goals simp only [bytesI_append, text_line, List.length_append, lineT, List.length_cons]
  all_goals omega
theorem textSs_len (d : Nat) : ∀ (l : List Sm), l.length ≤ (textSs d l).length
  | [] => Nat.zero_le _
  | s :: r => by
    have h1 := textSs_len d r
    have h2 := textS_pos d s
    have h3 : textSs d (s :: r) = textS d s ++ textSs d r := by unfold textSs textS; rw [itSs, bytesI_append]
    rw [h3, List.length_append, List.length_cons]
    omega
theorem block_all {t : List Sm} (ih : ∀ s ∈ t, StW s) : BlW t := fun w a B b d l v xs h1 h2 h3 h4 h5 h6 h7 => block_w ih (by have := textSs_len (d + 1) t; omega) w a B b d l v xs h1 h2 h3 h4 h5 h6 h7
theorem wstmt_if' (e : Ex) (t o : List Sm) (hp : PE e) (iht : BlW t) (iho : BlW o) : StW (.mk kIf [] e t o) := fun w a B b d l cs hW hG hB hr hl => by
  refine wstmt_if e t o hp iht iho ?_ w a B b d l cs hW hG hB hr hl
  have := textSs_len (d + 1) o
  rw [textS_if] at hl
  by_cases ho : o.isEmpty = true
  · have : o = [] := by simpa using ho
    simp [this]
  · rw [if_neg ho] at hl
    simp only [List.length_append] at hl
    omega
mutual
theorem stmt_all : ∀ (s : Sm), PS s → StW s
  | .mk k m e t o, hp => by
    obtain ⟨he, ht, ho, hk⟩ := hp
    have h1 := block_all (stmts_all t ht)
    have h2 := block_all (stmts_all o ho)
    rcases hk with ⟨rfl, hm, rfl, rfl⟩ | ⟨rfl, hm, rfl, rfl⟩ | ⟨rfl, rfl⟩ | ⟨rfl, rfl, rfl⟩ | ⟨rfl, rfl, rfl, rfl⟩ | ⟨rfl, rfl, rfl, rfl⟩
    · exact wstmt_var m e he
    · exact wstmt_set m e he
    · exact wstmt_if' e t o he h1 h2
    · exact wstmt_while e t he h1 h2
    · exact wstmt_ret e he
    · exact wstmt_print e he
theorem stmts_all : ∀ (l : List Sm), PSs l → ∀ s ∈ l, StW s
  | [], _, _, h => absurd h (by simp)
  | x :: r, hp, s, h => by
    rcases List.mem_cons.1 h with h | h
    · rw [h]; exact stmt_all x hp.1
    · exact stmts_all r hp.2 s h
end
def textPs (l : List (List UInt8)) : List UInt8 := bytesI (commasI (l.map fun p => [nm p]))
theorem join_text : ∀ (l : List (List UInt8)), Lib.join l [44, 32] = textPs l
  | [] => rfl
  | [x] => by simp [Lib.join, textPs, commasI, bytesI, It.bytes]
  | x :: y :: r => by
    have h1 : Lib.join (x :: y :: r) [44, 32] = x ++ ([44, 32] ++ Lib.join (y :: r) [44, 32]) := by simp [Lib.join, List.intercalate, List.intersperse]
    rw [h1, join_text (y :: r)]
    unfold textPs
    simp [commasI, bytesI, It.bytes]
theorem join_any {A : Nat → Prop} {w X : World} {v : Value} {l : List (List UInt8)} (hr : Row A w v l.length (textsC l)) (hk : ∀ g, A g → X.heap[g]? = w.heap[g]?) (hlt : ∀ g, A g → g < X.heap.size) (hl : (textPs l).length ≤ 1000000) (hn : l.length ≤ 1000000) :
    Calls Tryd.prog 23 #[v, .string ⟨#[44, 32]⟩] X fun e w' => e = .returned (.string ⟨(textPs l).toArray⟩) ∧ Below X.heap.size X w' := by
  obtain ⟨ad, cap, rfl, hx⟩ := hr
  by_cases h0 : l = []
  · subst h0
    refine (sh_strings_Join_none ad cap ⟨#[44, 32]⟩ X).mono ?_
    rintro e w' ⟨rfl, rfl⟩
    exact ⟨rfl, Below.refl _ _⟩
  · obtain ⟨g, rfl, ⟨hg, hcap⟩, hc⟩ := hx (by simpa using h0)
    have hmap : (l.map fun p => (⟨p.toArray⟩ : ByteArray)).map (·.data.toList) = l := by rw [List.map_map]; exact List.map_id _
    have := sh_strings_Join g 0 cap (l.map fun p => (⟨p.toArray⟩ : ByteArray)) ⟨#[44, 32]⟩ X ?_ (hlt g hg) (by simp; omega) (by simpa using hcap) ?_
    · rw [hmap, List.length_map] at this
      refine this.mono ?_
      rintro e w' ⟨rfl, hb⟩
      exact ⟨by rw [show (⟨#[44, 32]⟩ : ByteArray).data.toList = [44, 32] from rfl, join_text], hb⟩
    · intro j x hj
      rw [Nat.zero_add, World.cell?_of_block (w := w) (a := ⟨g, j, none⟩) (hk g hg)]
      refine hc j _ ?_
      rw [List.getElem?_map] at hj
      unfold textsC
      rw [List.getElem?_map]
      cases hlj : l[j]? with
      | none => rw [hlj] at hj; cases hj
      | some p => rw [hlj] at hj; injection hj with hj; subst hj; rfl
    · rw [hmap, show (⟨#[44, 32]⟩ : ByteArray).data.toList = [44, 32] from rfl, join_text]; omega
end Go.Proofs.YtcebpmaggnephabDoor
