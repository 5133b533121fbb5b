/-
  Our own: texts joined: CheckIn, CheckGood, IsIn, LexRef, RefName.
-/
import Derived.Test.YtcebpmaggnephabGreatDoorCheckLists
import Derived.Test.YtcebpmaggnephabGreatDoorCheckProg
import Derived.Test.YtcebpmaggnephabGreatDoorFaulted
import Derived.Test.YtcebpmaggnephabGreatDoorIn
import Derived.Test.YtcebpmaggnephabGreatDoorLexRead
import Derived.Test.YtcebpmaggnephabGreatDoorCheckName

/-
  Our own: IsIn of the document's own model at a list of texts; the law's own test of package check.
-/
namespace Go.Proofs.YtcebpmaggnephabGreatDoor
open Go.RowKit Go.Maps

set_option maxRecDepth 100000 in
set_option maxHeartbeats 2000000 in
/-- IsIn at a list of texts that does not hold the text. -/
theorem isIn_out (l : List (List UInt8)) (s : List UInt8) (hs : s ∉ l) (hn : l.length ≤ 5000) (w : World) (ad : Option Addr) (c : Nat) (hX : XRow (InH w) w (.slice ad l.length c) l.length (textsC l)) :
    Calls Tryz.prog 27 #[.string ⟨s.toArray⟩, .slice ad l.length c] w fun e w' => e = .returned (.bool false) ∧ w' = w := by
  have R := hidX hX
  have HS := hidX hs
  have hn' : (l.length : Int) ≤ 5000 := by omega
  clear hX hs
  go_enter Tryz.func27, Tryz.ntmps27
  go_wp2
  go_loop [5] (fun i => ∃ q : Nat, q ≤ l.length ∧ i = .int .i64 q) (fun i => l.length - (intOf i).toNat)
  case atStart => exact ⟨0, by omega, rfl⟩
  case round =>
    obtain ⟨q, hq, rfl⟩ := hrel
    by_cases hlt : q < l.length
    · have hlt' : (q : Int) < (l.length : Int) := by omega
      have hne : l[q] ≠ s := fun e => HS.out (e ▸ List.getElem_mem hlt)
      obtain ⟨g, off, rfl, hg, ht⟩ := R.out.text hlt
      generalize l[q] = x at hne ht
      have hne' := txt_ne hne
      clear hne
      go_wp2
      go_round
      case rel => exact ⟨q + 1, by omega, by go_num⟩
      case measure => simp [intOf]; omega
    · have hqn : q = l.length := by omega
      subst hqn
      go_wp2
      go_ret
      exact ⟨rfl, rfl⟩
end Go.Proofs.YtcebpmaggnephabGreatDoor

/-
  Our own: the law's own test of package check: a program that is nothing, and one that is not well.
-/
namespace Go.Proofs.YtcebpmaggnephabGreatDoor
open Go.RowKit Go.Maps

def e0 : Ex := .mk [110, 97, 109, 101] 0 [97] []
def s0 : Sm := .mk [114, 101, 116, 117, 114, 110] [] e0 [] []
def f0 : Fu := ⟨[102], [], [s0]⟩
theorem name_f : nameB [102] = true := by kernel_rfl
theorem name_a : nameB [97] = true := by kernel_rfl
theorem funs0 : funsC [f0] [] [f0] = some (6, 0) := by
  have h1 : exprC [f0] [] e0 = 6 := by
    rw [e0, exprC]
    simp only [List.length_nil, exprsC]
    simp [shapeE, name_a, kName, kNumE, andC]
  have h2 : funC [f0] (([] : List Fu).any fun g => g.name == f0.name) f0 = 6 := by
    simp only [funC, f0, name_f, parsC, Cs.bind, blockC, s0, stmtC]
    simp [shapeS, kVar, kSet, kIf, kWhile, kReturn, kPrint]
    have h3 := h1
    simp only [f0, s0] at h3
    rw [h3]
    simp
  rw [funsC, h2]
  simp
theorem low_f0 : LowF f0 := by
  simp [LowF, f0, s0, e0, LowSs, LowS, LowE, LowEs]
theorem coded_nil (w : World) : Calls Tryz.prog 36 #[.nilIface, .int .i64 0] w fun e w' => e = .returned (.bool true) ∧ w' = w := by
  go_enter Tryz.func36, Tryz.ntmps36
  go_wp2
  go_ret
  exact ⟨rfl, rfl⟩
abbrev ca0 : Array Value := #[.string ⟨#[114, 101, 116, 117, 114, 110]⟩, .string ⟨#[]⟩, .string ⟨#[110, 97, 109, 101]⟩, .int .i64 0, .string ⟨#[97]⟩, .slice none 0 0, .slice none 0 0, .slice none 0 0]
abbrev cb0 (n : Nat) : Array Value := #[.string ⟨#[102]⟩, .slice none 0 0, .slice (some ⟨n, 0, none⟩) 1 1]
abbrev W0 (w : World) : World := (w.alloc (.cells ca0 62)).alloc (.cells (cb0 w.heap.size) 50)
theorem cells_read {w : World} {b : Nat} {cs : Array Value} {t : TypeId} (h : w.heap[b]? = some (.cells cs t (0, 0))) : ∀ j u, cs.toList[j]? = some u → w.cell? ⟨b, 0 + j, none⟩ = some u := by
  intro j u hj
  rw [Nat.zero_add]
  have := cell_of_blk h j
  rw [this]
  simpa using hj
theorem lit_f0 (w : World) : XLF (InH (W0 w)) (W0 w) (.slice (some ⟨w.heap.size + 1, 0, none⟩) 1 1) [f0] := by
  have h1 : (W0 w).heap[w.heap.size]? = some (.cells ca0 62 (0, 0)) := two_new w _ _
  have h2 : (W0 w).heap[w.heap.size + 1]? = some (.cells (cb0 w.heap.size) 50 (0, 0)) := second_new w _ _
  refine ⟨(cb0 w.heap.size).toList, ⟨_, _, rfl, fun _ => ⟨_, _, rfl, heap_lt h2, cells_read h2⟩⟩, ?_⟩
  refine ⟨(cb0 w.heap.size).toList, [], rfl, ?_, rfl⟩
  refine ⟨_, _, ca0.toList, rfl, xrow_nil _ _, ⟨_, _, rfl, fun _ => ⟨_, _, rfl, heap_lt h1, cells_read h1⟩⟩, ?_⟩
  refine ⟨ca0.toList, [], rfl, ?_, rfl⟩
  exact ⟨[.string ⟨#[110, 97, 109, 101]⟩, .int .i64 0, .string ⟨#[97]⟩, .slice none 0 0], _, [], _, [], rfl, ⟨_, [], rfl, xrow_nil _ _, rfl⟩, xrow_nil _ _, rfl, xrow_nil _ _, rfl⟩
set_option maxRecDepth 100000 in
set_option maxHeartbeats 2000000 in
theorem checked_any (a : Nat → Addr) (w : World) (hS : Sents w a) : Calls Tryz.prog 12 #[] w fun e w' => e = .returned (.bool true) ∧ Below w.heap.size w w' := by
  have hb0 : Below w.heap.size w (W0 w) := bl_trans (box_blk _ _ _) (by simp) (box_blk _ _ _)
  have hl0 := lit_f0 w
  have hS0 := hS.below hb0
  have hz0 : (W0 w).heap.size = w.heap.size + 2 := by simp
  generalize hWe : W0 w = W at hb0 hl0 hS0 hz0
  have HW := hidX hWe
  have HL := hidX hl0
  have HSS := hidX hS0
  clear hS hWe hl0 hS0
  go_enter Tryz.func12, Tryz.ntmps12
  go_wp2_with fail
  have hWe := HW.out
  unfold W0 ca0 cb0 at hWe
  rw [hWe]
  clear hWe
  refine (program_any a [] (by simp) (by simp) W HSS.out _ ⟨[], xrow_nil _ _, rfl⟩).mono ?_
  rintro e W1 ⟨hb1, hp⟩
  rw [if_neg (by simp), funsC] at hp
  simp only at hp
  subst hp
  have hz1 := hb1.size
  have hx1 := XLF.imp HL.out (inH_up hb1) (keepH hb1)
  have hS1 := HSS.out.below hb1
  have hpc := program_any a [f0] (by simp) (by simp [low_f0]) W1 hS1 _ hx1
  have HPC := hidX hpc
  have HS1 := hidX hS1
  clear hpc hx1 hS1
  go_wp2_with (first | (go_at_call 36; refine (coded_nil _).mono ?_; rintro e w' ⟨rfl, hh⟩; replace hh := hh.symm; subst hh))
  refine HPC.out.mono ?_
  rintro e W2 ⟨hb2, hp⟩
  rw [if_neg (by simp), funs0] at hp
  simp only at hp
  obtain ⟨_, b, he, _, hx⟩ := hp
  subst he
  have hS2 := HS1.out.below hb2
  have hfa := faulted_fault a 5 (by omega) 6 (by omega) b 0 W2 hS2 hx
  have HFA := hidX hfa
  have HB : Hid (Below w.heap.size w W2) := hb0.trans ((hb1.mono (by omega)).trans (hb2.mono (by omega)))
  clear hfa hS2 hx
  go_wp2_with fail
  refine HFA.out.mono ?_
  rintro e W3 ⟨rfl, hb3⟩
  have hz2 := HB.out.size
  go_wp2
  go_ret
  exact ⟨rfl, HB.out.trans (hb3.mono hz2)⟩
end Go.Proofs.YtcebpmaggnephabGreatDoor

/-
  Our own: IsIn of the document's own model: is a text one of a list?
-/
namespace Go.Proofs.YtcebpmaggnephabGreatDoor
open Go.RowKit

/-- IsIn at a list of texts that holds the text first at place k (k: the list's length: nowhere). -/
theorem r_isIn (s : ByteArray) (f : Nat → ByteArray) (n k b o c : Nat) (hn : n ≤ 1000000) (hk : k ≤ n) (w : World) (hc : ∀ i, i < n → w.cell? ⟨b, o + i, none⟩ = some (.string (f i))) (hlo : ∀ i, i < k → f i ≠ s) (hat : k < n → f k = s) :
    Calls Tryz.prog 27 #[.string s, .slice (some ⟨b, o, none⟩) n c] w fun e w' => e = .returned (.bool (decide (k < n))) ∧ w' = w := by
  have HC : Hid (∀ i, i < n → w.cell? ⟨b, o + i, none⟩ = some (.string (f i))) := hc
  have HL : Hid (∀ i, i < k → f i ≠ s) := hlo
  have HA : Hid (k < n → f k = s) := hat
  clear hc hlo hat
  go_enter Tryz.func27, Tryz.ntmps27
  go_wp2
  go_loop [5] (fun i => ∃ q : Nat, q ≤ k ∧ i = .int .i64 q) (fun i => n - (intOf i).toNat)
  case atStart => exact ⟨0, by omega, rfl⟩
  case round =>
    obtain ⟨q, hq, rfl⟩ := hrel
    by_cases hlt : q < n
    · have h1 := HC.out q hlt
      have hlt' : (q : Int) < (n : Int) := by omega
      by_cases hqk : q < k
      · have hne := bytes_ne _ _ (HL.out q hqk)
        go_wp2
        go_round
        case rel => exact ⟨q + 1, by omega, by go_num⟩
        case measure => simp [intOf]; omega
      · have hqe : q = k := by omega
        subst hqe
        have he := HA.out hlt
        rw [he] at h1
        clear he
        go_wp2
        go_ret
        exact ⟨by simp, rfl⟩
    · have hqn : q = n := by omega
      subst hqn
      have hke : k = q := by omega
      subst hke
      go_wp2
      go_ret
      exact ⟨by simp, rfl⟩
/-- IsIn at a list of texts. -/
theorem isIn_any (l : List ByteArray) (s : ByteArray) (b o c : Nat) (hn : l.length ≤ 1000000) (w : World) (hc : ∀ i, i < l.length → w.cell? ⟨b, o + i, none⟩ = some (.string (l.getD i ByteArray.empty))) :
    Calls Tryz.prog 27 #[.string s, .slice (some ⟨b, o, none⟩) l.length c] w fun e w' => e = .returned (.bool (inB l s)) ∧ w' = w := by
  obtain ⟨k, h1, h2, h3⟩ := first_at (fun i => l.getD i ByteArray.empty) s l.length
  have e : inB l s = decide (k < l.length) := by
    rw [Bool.eq_iff_iff, inB_iff, decide_eq_true_iff]
    constructor
    · intro hm
      obtain ⟨i, hi, e⟩ := List.mem_iff_getElem.1 hm
      rcases Nat.lt_or_ge k l.length with h | h
      · exact h
      · exfalso
        apply h2 i (by omega)
        show l.getD i ByteArray.empty = s
        rw [List.getD_eq_getElem?_getD, List.getElem?_eq_getElem hi]
        exact e
    · intro h
      have := h3 h
      rw [← this]
      show l.getD k ByteArray.empty ∈ l
      rw [List.getD_eq_getElem?_getD, List.getElem?_eq_getElem h]
      exact List.getElem_mem _
  rw [e]
  exact r_isIn s (fun i => l.getD i ByteArray.empty) l.length k b o c hn h1 w hc h2 h3
end Go.Proofs.YtcebpmaggnephabGreatDoor

/-
  Our own: the document's own reading of a text (package kelpforestref1), its small functions.
-/
namespace Go.Proofs.YtcebpmaggnephabGreatDoor
open Go.RowKit

theorem rletter_any (b : UInt8) (w : World) : Calls Tryz.prog 24 #[.int .u8 b.toNat] w fun e w' => e = .returned (.bool (isL b)) ∧ w' = w := by
  go_enter Tryz.func24, Tryz.ntmps24
  go_wp2
  all_goals (go_ret; exact ⟨ret_bool (by rw [Bool.eq_iff_iff]; simp [isL]; omega), rfl⟩)
theorem rdigit_any (b : UInt8) (w : World) : Calls Tryz.prog 25 #[.int .u8 b.toNat] w fun e w' => e = .returned (.bool (isD b)) ∧ w' = w := by
  go_enter Tryz.func25, Tryz.ntmps25
  go_wp2
  all_goals (go_ret; exact ⟨ret_bool (by rw [Bool.eq_iff_iff]; simp [isD]; omega), rfl⟩)
theorem bare_any (c : Int) (w : World) : Calls Tryz.prog 23 #[.int .i64 c] w fun e w' => e = .returned (.agg #[.int .i64 c, .int .i64 (-1)]) ∧ w' = w.alloc (.cells #[.int .i64 c, .int .i64 (-1)] 25) := by
  go_enter Tryz.func23, Tryz.ntmps23
  go_wp2
  exact bodyPost_ret (v := .agg #[.int .i64 c, .int .i64 (-1)]) (by simp [results, Tryz.results23, go_sem]) rfl ⟨rfl, rfl⟩
theorem fine_any (w : World) : Calls Tryz.prog 28 #[] w fun e w' => e = .returned (.agg #[.int .i64 0, .int .i64 (-1)]) ∧ w' = w.alloc (.cells #[.int .i64 0, .int .i64 (-1)] 25) := by
  go_enter Tryz.func28, Tryz.ntmps28
  go_wp2
  exact bodyPost_ret (v := .agg #[.int .i64 0, .int .i64 (-1)]) (by simp [results, Tryz.results28, go_sem]) rfl ⟨rfl, rfl⟩
def baL (l : List (List UInt8)) : List ByteArray := l.map fun x => ⟨x.toArray⟩
/-- Is a text one of these? (A name for the walk.) -/
def inL (l : List (List UInt8)) (t : List UInt8) : Bool := l.contains t
theorem inL_iff (l : List (List UInt8)) (t : List UInt8) : inL l t = true ↔ t ∈ l := by unfold inL; exact List.contains_iff_mem
theorem inB_baL (l : List (List UInt8)) (t : List UInt8) : inB (baL l) ⟨t.toArray⟩ = inL l t := by
  rw [Bool.eq_iff_iff, inB_iff, inL_iff]
  constructor
  · intro h
    obtain ⟨x, hx, e⟩ := List.mem_map.1 h
    have : x = t := by
      have := congrArg (fun b : ByteArray => b.data.toList) e
      simpa using this
    exact this ▸ hx
  · intro h
    exact List.mem_map.2 ⟨t, h, rfl⟩
/-- Cells that hold texts. -/
abbrev textW (w : World) (l : List (List UInt8)) : World := w.alloc (.cells ((baL l).map Value.string).toArray 9)
theorem text_cell (w : World) (l : List (List UInt8)) (i : Nat) (hi : i < (baL l).length) : (textW w l).cell? ⟨w.heap.size, 0 + i, none⟩ = some (.string ((baL l).getD i ByteArray.empty)) := by
  rw [World.cell?_alloc_at _ _ _ _ rfl, Nat.zero_add, List.getElem?_toArray, List.getElem?_map, List.getD_eq_getElem?_getD, List.getElem?_eq_getElem hi]
  rfl
theorem isIn_texts (l : List (List UInt8)) (hl : l.length ≤ 1000) (t : List UInt8) (c : Nat) (w : World) :
    Calls Tryz.prog 27 #[.string ⟨t.toArray⟩, .slice (some ⟨w.heap.size, 0, none⟩) l.length c] (textW w l) fun e w' => e = .returned (.bool (inL l t)) ∧ w' = textW w l := by
  have := isIn_any (baL l) ⟨t.toArray⟩ w.heap.size 0 c (by simp [baL]; omega) (textW w l) (fun i hi => text_cell w l i hi)
  rw [inB_baL] at this
  simpa [baL] using this
theorem isWord_any (t : List UInt8) (w : World) : Calls Tryz.prog 26 #[.string ⟨t.toArray⟩] w fun e w' => e = .returned (.bool (inL wordsL t)) ∧ w' = textW w wordsL := by
  go_enter Tryz.func26, Tryz.ntmps26
  go_wp2_with (go_at_call 27; refine (isIn_texts wordsL (by decide) t _ _).mono ?_; rintro e w' ⟨rfl, rfl⟩)
  go_ret
  exact ⟨rfl, rfl⟩
end Go.Proofs.YtcebpmaggnephabGreatDoor

/-
  Our own: IsName of the document's own model: is a text a name?
-/
namespace Go.Proofs.YtcebpmaggnephabGreatDoor
open Go.RowKit

theorem hidI {p : Prop} (h : p) : Hid p := h
theorem span_all (p : UInt8 → Bool) : ∀ l : List UInt8, (∀ c ∈ l, p c = true) → spanN p l = l.length
  | [], _ => rfl
  | c :: l, h => by rw [spanN_cons, if_pos (h c (by simp)), span_all p l (fun d hd => h d (by simp [hd]))]; rfl
theorem name_true {s : List UInt8} (h0 : s ≠ []) (h8 : s.length ≤ 8) (hall : ∀ i (h : i < s.length), isL s[i] = true ∨ (isD s[i] = true ∧ i ≠ 0)) (hw : s ∉ wordsL) : nameB s = true := by
  rw [nameB_iff]
  refine ⟨h0, ?_⟩
  have hsp : spanN isLD s = s.length := span_all _ _ fun c hc => by
    obtain ⟨i, hi, rfl⟩ := List.getElem_of_mem hc
    unfold isLD
    rcases hall i hi with h | h
    · simp [h]
    · simp [h.1]
  match s, h0 with
  | c :: r, _ =>
    have hc : isL c = true := by
      rcases hall 0 (by simp) with h | h
      · simpa using h
      · exact absurd rfl h.2
    rw [firstOf, if_pos hc, nameOf, hsp, if_neg (by omega), if_neg]
    rw [List.take_length]
    simpa using hw
theorem name_props {s : List UInt8} (h : nameB s = true) : s ≠ [] ∧ s.length ≤ 8 ∧ (∀ i (h : i < s.length), isL s[i] = true ∨ (isD s[i] = true ∧ i ≠ 0)) ∧ s ∉ wordsL := by
  rw [nameB_iff] at h
  obtain ⟨h0, h1⟩ := h
  match s, h0 with
  | c :: r, h0 =>
    have hc := kind_name (c := c) (r := r) (by rw [h1])
    rw [firstOf, if_pos hc, nameOf] at h1
    split at h1
    · simp [kName] at h1
    · next h8 =>
      split at h1
      · simp [kName, kWord] at h1
      · next hw =>
        have hsp : spanN isLD (c :: r) = (c :: r).length := by simpa using h1
        refine ⟨h0, by omega, fun i hi => ?_, ?_⟩
        · have := spanN_at isLD (c :: r) i hi (by omega)
          unfold isLD at this
          rw [Bool.or_eq_true] at this
          rcases this with h | h
          · exact Or.inl h
          · by_cases hi0 : i = 0
            · subst hi0; exact Or.inl (by simpa using hc)
            · exact Or.inr ⟨h, hi0⟩
        · intro hm
          apply hw
          rw [hsp, List.take_length]
          simpa using hm
theorem name_false {s : List UInt8} (h : ¬ (s ≠ [] ∧ s.length ≤ 8 ∧ (∀ i (h : i < s.length), isL s[i] = true ∨ (isD s[i] = true ∧ i ≠ 0)) ∧ s ∉ wordsL)) : nameB s = false := by
  cases hb : nameB s with
  | false => rfl
  | true => exact absurd (name_props hb) h
theorem name_step {t : ByteArray} {q : Nat} (h : ∀ i (h : i < t.size), i < q → isL t[i] = true ∨ (isD t[i] = true ∧ i ≠ 0)) (hq : q < t.size) (hg : isL t[q] = true ∨ (isD t[q] = true ∧ q ≠ 0)) : Hid (∀ i (h : i < t.size), i < q + 1 → isL t[i] = true ∨ (isD t[i] = true ∧ i ≠ 0)) := by
  intro i hi hlt
  rcases Nat.lt_or_ge i q with h1 | h1
  · exact h i hi h1
  · have : i = q := by omega
    subst this
    exact hg
theorem name_bad {t : ByteArray} {q : Nat} (hq : q < t.size) (hg : ¬ (isL t[q] = true ∨ (isD t[q] = true ∧ q ≠ 0))) : nameB t.data.toList = false :=
  name_false fun h => hg (h.2.2.1 q hq)
theorem rname_word {t : ByteArray} (h0 : ¬ t.size = 0) (h8 : ¬ 8 < t.size) (h : ∀ i (h : i < t.size), i < t.size → isL t[i] = true ∨ (isD t[i] = true ∧ i ≠ 0)) : nameB t.data.toList = !inL wordsL t.data.toList := by
  cases hw : inL wordsL t.data.toList with
  | true => exact name_false fun h => h.2.2.2 ((inL_iff _ _).1 hw)
  | false =>
    refine name_true (fun e => h0 ?_) (by rw [data_len]; omega) (fun i hi => h i hi hi) fun hm => ?_
    · rw [← data_len, e]; rfl
    · rw [(inL_iff _ _).2 hm] at hw; cases hw
theorem isWord_t (t : ByteArray) (w : World) : Calls Tryz.prog 26 #[.string t] w fun e w' => e = .returned (.bool (inL wordsL t.data.toList)) ∧ Below w.heap.size w w' := by
  have := isWord_any t.data.toList w
  have e : (⟨t.data.toList.toArray⟩ : ByteArray) = t := by cases t; rfl
  rw [e] at this
  exact this.mono fun _ _ h => ⟨h.1, by rw [h.2]; exact (Below.refl _ _).alloc (Nat.le_refl _) _⟩
set_option maxRecDepth 100000 in
set_option maxHeartbeats 2000000 in
theorem rIsName_any (t : ByteArray) (ht : t.size ≤ 9223372036854775807) (w : World) :
    Calls Tryz.prog 71 #[.string t] w fun e w' => e = .returned (.bool (nameB t.data.toList)) ∧ Below w.heap.size w w' := by
  have hsz : t.data.toList.length = t.size := data_len t
  have hti : (t.size : Int) ≤ 9223372036854775807 := by omega
  by_cases c0 : t.size = 0
  · have hf : nameB t.data.toList = false := name_false fun h => h.1 (List.eq_nil_of_length_eq_zero (by omega))
    rw [hf]
    have c0' : (t.size : Int) < 1 := by omega
    clear hf hsz c0
    go_enter Tryz.func71, Tryz.ntmps71
    go_wp2
    go_ret
    exact ⟨rfl, by (repeat (first | exact Below.refl _ _ | assumption | refine Below.drew ?_ | refine Below.trans ?_ (drewN_below' _ _ _) | refine Below.setCell ?_ (by first | (simp; done) | (simp; omega)) _ | refine Below.alloc ?_ (by first | (simp; done) | (simp; omega)) _))⟩
  · have c0' : ¬ (t.size : Int) < 1 := by omega
    by_cases c8 : 8 < t.size
    · have hf : nameB t.data.toList = false := name_false fun h => by omega
      rw [hf]
      have c8' : (8 : Int) < t.size := by omega
      clear hf hsz
      go_enter Tryz.func71, Tryz.ntmps71
      go_wp2
      go_ret
      exact ⟨rfl, by (repeat (first | exact Below.refl _ _ | assumption | refine Below.drew ?_ | refine Below.trans ?_ (drewN_below' _ _ _) | refine Below.setCell ?_ (by first | (simp; done) | (simp; omega)) _ | refine Below.alloc ?_ (by first | (simp; done) | (simp; omega)) _))⟩
    · have c8' : ¬ (8 : Int) < t.size := by omega
      have hat : ∀ i (h : i < t.size), t.data.toList[i]'h = t[i] := fun i h => rfl
      generalize hnb : nameB t.data.toList = nb
      have HNB := hidI hnb
      have HAT := hidI hat
      have HSZ := hidI hsz
      clear hnb hat hsz
      go_enter Tryz.func71, Tryz.ntmps71
      go_wp2_with fail
      go_loop [3] (fun vi => ∃ q : Nat, q ≤ t.size ∧ vi = .int .i64 q ∧ Hid (∀ i (h : i < t.size), i < q → isL t[i] = true ∨ (isD t[i] = true ∧ i ≠ 0))) (fun vi => t.size - (intOf vi).toNat)
      case atStart => exact ⟨0, Nat.zero_le _, rfl, fun i _ h => absurd h (by omega)⟩
      case round =>
        obtain ⟨q, hq, rfl, HQ⟩ := hrel
        by_cases hlt : q < t.size
        · have hlt' : (q : Int) < t.size := by omega
          cases hL : isL t[q] with
          | true =>
            have HQ2 := name_step HQ.out hlt (Or.inl hL)
            go_wp2_with (first | (go_at_call 24; refine (rletter_any _ _).mono ?_; rintro e w' ⟨rfl, hh⟩; replace hh := hh.symm; subst hh) | (go_at_call 25; refine (rdigit_any _ _).mono ?_; rintro e w' ⟨rfl, hh⟩; replace hh := hh.symm; subst hh))
            refine ⟨⟨q + 1, by omega, by go_num, HQ2⟩, by simp [intOf]; omega⟩
          | false =>
            cases hD : isD t[q] with
            | false =>
              have hb := name_bad hlt (by rw [hL, hD]; simp)
              rw [HNB.out] at hb
              subst hb
              go_wp2_with (first | (go_at_call 24; refine (rletter_any _ _).mono ?_; rintro e w' ⟨rfl, hh⟩; replace hh := hh.symm; subst hh) | (go_at_call 25; refine (rdigit_any _ _).mono ?_; rintro e w' ⟨rfl, hh⟩; replace hh := hh.symm; subst hh))
              go_ret
              exact ⟨rfl, by (repeat (first | exact Below.refl _ _ | assumption | refine Below.drew ?_ | refine Below.trans ?_ (drewN_below' _ _ _) | refine Below.setCell ?_ (by first | (simp; done) | (simp; omega)) _ | refine Below.alloc ?_ (by first | (simp; done) | (simp; omega)) _))⟩
            | true =>
              by_cases hq0 : q = 0
              · have hb := name_bad hlt (by rw [hL]; simp [hq0])
                rw [HNB.out] at hb
                subst hb
                subst hq0
                clear HQ hq
                go_wp2_with (first | (go_at_call 24; refine (rletter_any _ _).mono ?_; rintro e w' ⟨rfl, hh⟩; replace hh := hh.symm; subst hh) | (go_at_call 25; refine (rdigit_any _ _).mono ?_; rintro e w' ⟨rfl, hh⟩; replace hh := hh.symm; subst hh))
                go_ret
                exact ⟨rfl, by (repeat (first | exact Below.refl _ _ | assumption | refine Below.drew ?_ | refine Below.trans ?_ (drewN_below' _ _ _) | refine Below.setCell ?_ (by first | (simp; done) | (simp; omega)) _ | refine Below.alloc ?_ (by first | (simp; done) | (simp; omega)) _))⟩
              · have HQ2 := name_step HQ.out hlt (Or.inr ⟨hD, hq0⟩)
                have hq0' : ¬ (q : Int) = 0 := by omega
                go_wp2_with (first | (go_at_call 24; refine (rletter_any _ _).mono ?_; rintro e w' ⟨rfl, hh⟩; replace hh := hh.symm; subst hh) | (go_at_call 25; refine (rdigit_any _ _).mono ?_; rintro e w' ⟨rfl, hh⟩; replace hh := hh.symm; subst hh))
                refine ⟨⟨q + 1, by omega, by go_num, HQ2⟩, by simp [intOf]; omega⟩
        · have hqe : q = t.size := by omega
          subst hqe
          have hnw := rname_word c0 c8 HQ.out
          rw [HNB.out] at hnw
          generalize hiw : inL wordsL t.data.toList = iw at hnw
          have hwc := isWord_t t w
          rw [hiw] at hwc
          have HWC := hidI hwc
          subst hnw
          clear hwc hiw HNB
          go_wp2_with fail
          refine HWC.out.mono ?_
          rintro e w2 ⟨rfl, hb2⟩
          go_wp2
          go_ret
          exact ⟨rfl, hb2⟩
end Go.Proofs.YtcebpmaggnephabGreatDoor
