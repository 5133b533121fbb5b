/-
  Our own: package check: the closure that notes whom an expression calls.
-/
import Derived.Test.YtcebpmaggnephabGreatDoorCheckList
namespace Go.Proofs.YtcebpmaggnephabGreatDoor
open Go.RowKit Go.Maps

/-- Whom has been called: the list in block lb, and how often, in the map of block mb that variable tb holds. -/
structure CSt (w : World) (lb tb mb : Nat) (acc : List (List UInt8)) (N : Nat) : Prop where
  list : ListAt w lb acc
  tcell : w.heap[tb]? = some (.cells #[.map (some mb)] 86 (0, 0))
  tno : ¬ OwnB w lb tb
  len : acc.length ≤ N
  ord : lb < mb ∧ lb ≠ tb ∧ mb ≠ tb
  map : ∃ D : DataW Unit, w.ownsMap Tryz.prog 9 (plainElem Tryz.prog 3) mb N D ∧ ∀ s, ∃ c : Nat, D.atKey (.string s) (.lit (.int .i64 0)) = .lit (.int .i64 c) ∧ c ≤ N ∧ (c = 0 ↔ s ∉ acc)
theorem CSt.mlt {w : World} {lb tb mb N : Nat} {acc : List (List UInt8)} (h : CSt w lb tb mb acc N) : ∃ es clock, w.heap[mb]? = some (.map es clock) := by
  obtain ⟨D, ⟨es, clock, h1, _⟩, _⟩ := h.map
  exact ⟨es, clock, h1⟩
theorem CSt.below {w w' : World} {lb tb mb N : Nat} {acc : List (List UInt8)} (h : CSt w lb tb mb acc N) (hb : Below w.heap.size w w') {N' : Nat} (hN : N ≤ N') : CSt w' lb tb mb acc N' := by
  obtain ⟨es, clock, hm⟩ := h.mlt
  obtain ⟨D, h1, h2⟩ := h.map
  refine ⟨h.list.below hb, (hb.block tb (heap_lt h.tcell)).trans h.tcell, fun ho => h.tno (ho.same (hb.block lb h.list.lt)), by have := h.len; omega, h.ord, D, (owns_block h1 (hb.block mb (heap_lt hm))).mono hN, fun s => ?_⟩
  obtain ⟨c, c1, c2, c3⟩ := h2 s
  exact ⟨c, c1, by omega, c3⟩
/-- A block that holds a map is no list's row. -/
theorem map_noOwn {w : World} {lb b : Nat} {acc : List (List UInt8)} (h : ListAt w lb acc) {es : Array MapEntry} {clock : Nat} (hm : w.heap[b]? = some (.map es clock)) : ¬ OwnB w lb b := by
  rintro ⟨ad', n', c', h3, h4⟩
  obtain ⟨ad, c, h1, h2⟩ := h
  rw [h1] at h3
  injection h3 with h3
  injection h3 with h3
  have h5 : Value.slice ad acc.length c = .slice ad' n' c' := by simpa using h3
  rw [← h5] at h4
  rcases h2 with ⟨_, ⟨e, _⟩ | ⟨g, cap, cur, e, _, hg, _⟩⟩
  · rw [e] at h4; cases h4
  · rw [e] at h4
    have : g = b := by simpa [Value.ownBlock] using h4
    subst this
    rw [hm] at hg
    cases hg
theorem two_new (w : World) (a b : Obj) : ((w.alloc a).alloc b).heap[w.heap.size]? = some a := (Below.heap_alloc (w.alloc a) b _ (by simp)).trans (heap_alloc_new w a)
/-- One call more. -/
theorem CSt.put {w w' : World} {lb tb mb N N' n : Nat} {acc acc' : List (List UInt8)} {x : List UInt8} {c : Nat} {D : DataW Unit} (hl : ListAt w' lb acc') (ht : w'.heap[tb]? = some (.cells #[.map (some mb)] 86 (0, 0))) (hn : ¬ OwnB w' lb tb) (hlen : acc'.length ≤ N') (hord : lb < mb ∧ lb ≠ tb ∧ mb ≠ tb)
    (h1 : w.ownsMap Tryz.prog 9 (plainElem Tryz.prog 3) mb n D) (h2 : ∀ s, ∃ c : Nat, D.atKey (.string s) (.lit (.int .i64 0)) = .lit (.int .i64 c) ∧ c ≤ N ∧ (c = 0 ↔ s ∉ acc)) (hc : c ≤ N) (hN : N + 1 = N') (hacc : ∀ s, s ∈ acc' ↔ s ∈ acc ∨ s = x)
    (hw : w'.ownsMap Tryz.prog 9 (plainElem Tryz.prog 3) mb N' (D.put (.string x) (.lit (.int .i64 ((c + 1 : Nat) : Int))))) : CSt w' lb tb mb acc' N' := by
  refine ⟨hl, ht, hn, hlen, hord, _, hw, fun s => ?_⟩
  by_cases e : s = x
  · subst e
    exact ⟨c + 1, by rw [Maps.atKey_put_same h1.isMap (keyLit _)], by omega, by simp [hacc s]⟩
  · obtain ⟨d, d1, d2, d3⟩ := h2 s
    exact ⟨d, by rw [Maps.atKey_put_other (by simpa using e)]; exact d1, by omega, by rw [d3, hacc s]; simp [e]⟩
theorem look_times {w : World} {mb N : Nat} {D : DataW Unit} (h1 : w.ownsMap Tryz.prog 9 (plainElem Tryz.prog 3) mb N D) (m : List UInt8) (hm : m.length ≤ 4000) (c : Nat) (hc : D.atKey (.string m) (.lit (.int .i64 0)) = .lit (.int .i64 c)) (X : World) (hX : X.heap[mb]? = w.heap[mb]?) :
    (Instr.lookup 86 (.map (some mb)) (.string ⟨m.toArray⟩) false).run Tryz.prog X = .ok (.int .i64 c) X := by
  obtain ⟨d, hrun, hat, _⟩ := (owns_block h1 hX).lookup_int law_string Tryz.underlying86 Tryz.underlying3 (zero_int X) (key_text _ hm)
  rw [hc] at hat
  simp only [DataW.lit.injEq, Lit.int.injEq, true_and] at hat
  rw [hrun, hat]
theorem grown_lfr {w w' : World} {m lb : Nat} {acc : List (List UInt8)} (h : w.grownBy w' (some m)) (hl : ListAt w lb acc) (hm : lb ≠ m) : LFr m lb w w' :=
  ⟨h.os, h.tape, h.output, h.size, fun b hb _ h2 ho => ⟨h.block b hb (fun e => h2 (by injection e)), fun hw => ho (hw.same (h.block lb hl.lt (fun e => hm (by injection e))))⟩⟩
theorem ListAt.map {w w' : World} {m lb : Nat} {acc : List (List UInt8)} (hl : ListAt w lb acc) (h : w.grownBy w' (some m)) (hm : lb ≠ m) (hno : ¬ OwnB w lb m) : ListAt w' lb acc := by
  obtain ⟨ad, c, h1, h2⟩ := hl
  refine ⟨ad, c, (h.block lb (heap_lt h1) (fun e => hm (by injection e))).trans h1, ?_⟩
  rcases h2 with ⟨o1, o2 | ⟨gg, cc, cur, o3, o4, o5, o6⟩⟩
  · exact ⟨o1, Or.inl o2⟩
  · exact ⟨o1, Or.inr ⟨gg, cc, cur, o3, o4, (h.block gg (heap_lt o5) (fun e => by
      injection e with e
      exact hno ⟨_, _, _, h1, by rw [o3, ← e]; rfl⟩)).trans o5, o6⟩⟩
set_option maxRecDepth 100000 in
set_option maxHeartbeats 2000000 in
theorem callClo_any (k : List UInt8) (n : Int) (m : List UInt8) (v : Value) (hm : m.length ≤ 4000) (w : World) (lb tb mb : Nat) (acc : List (List UInt8)) (N : Nat) (h : CSt w lb tb mb acc N) (hN : N ≤ 4000) :
    Calls Tryz.prog 47 #[.agg #[.string ⟨k.toArray⟩, .int .i64 n, .string ⟨m.toArray⟩, v], .pointer (some ⟨tb, 0, none⟩), .pointer (some ⟨lb, 0, none⟩)] w fun ev w' => ev = .returned (.tuple #[]) ∧ LFr mb lb w w' ∧ CSt w' lb tb mb (if k = kCall then (if m ∈ acc then acc else acc ++ [m]) else acc) (N + 1) := by
  obtain ⟨i0, hi, hy0, hy1, hy2⟩ := info_parts text_info
  have hbb := box_blk w #[.string ⟨k.toArray⟩, .int .i64 n, .string ⟨m.toArray⟩, v] 60
  have hlt := h.list.lt
  by_cases k1 : k = kCall
  · subst k1
    rw [if_pos rfl]
    obtain ⟨es, clock, hmb⟩ := h.mlt
    have hml := heap_lt hmb
    have htl := heap_lt h.tcell
    have c1 : w.cell? ⟨tb, 0, none⟩ = some (.map (some mb)) := cell_of_blk h.tcell 0
    have hC := h
    obtain ⟨hL, htc, htn, hlen, hord, D, d1, d2⟩ := h
    obtain ⟨c, hc1, hc2, hc3⟩ := d2 m
    have hlk := look_times d1 m hm c hc1
    have hx : (w.alloc (.cells #[.string ⟨kCall.toArray⟩, .int .i64 n, .string ⟨m.toArray⟩, v] 60)).heap[mb]? = w.heap[mb]? := Below.heap_alloc _ _ _ hml
    have hlk0 := hlk _ hx
    have hkey := key_text m hm
    have D1 := hidX d1
    have D2 := hidX d2
    have HL := hidX hL
    have HLK := hidX hlk
    have HTC := hidX htc
    have HMB := hidX hmb
    have HC := hidX hC
    have hc2' : (c : Int) ≤ 4000 := by omega
    by_cases hin : m ∈ acc
    · rw [if_pos hin]
      have hc0 : ((c : Int) == 0) = false := by
        have : ¬ c = 0 := fun e => (hc3.1 e) hin
        simp; omega
      have HIN := hidX hin
      clear d1 d2 hL hlk hin hc3 hc1 htc hmb hC
      go_enter Tryz.func47, Tryz.ntmps47
      go_wp2_with (first | (at_mapUpdate; refine wpList_mapUpdate_own _ rfl _ _ _ 86 rfl 9 3 law_string Tryz.underlying86 (plainElem Tryz.prog 3) mb N D rfl (owns_block D1.out hx) (by unfold maxLen; omega) _ _ (.string m) rfl rfl hkey (.lit (.int .i64 ((c + 1 : Nat) : Int))) [] (plainElem_int Tryz.underlying3 (WalkArith.wf_i64 (by omega))) ?_; intro w1 hown1 hgrow1) | go_in)
      go_end0
      have hb1 : ListAt _ lb acc := HL.out.below hbb
      refine ⟨rfl, (LFr.of hbb hlt).trans (grown_lfr hgrow1 hb1 (by omega)), ?_⟩
      refine CSt.put (hb1.map hgrow1 (by omega) (map_noOwn hb1 (hx.trans HMB.out))) ((hgrow1.block tb (by simp; omega) (fun e => by injection e with e; omega)).trans ((hbb.block tb htl).trans HTC.out)) (fun ho => htn ((ho.same (hgrow1.block lb (by simp; omega) (fun e => by injection e with e; omega))).same (hbb.block lb hlt))) (by omega) hord D1.out D2.out hc2 rfl (fun s => ⟨Or.inl, fun h => h.elim id (fun e => e ▸ HIN.out)⟩) hown1
    · rw [if_neg hin]
      obtain rfl : c = 0 := hc3.2 hin
      have HIN := hidX hin
      obtain ⟨ad, cc, h1, h2⟩ := hL
      have c0 : w.cell? ⟨lb, 0, none⟩ = some (.slice ad acc.length cc) := cell_of_blk h1 0
      have H1 := hidX h1
      have H2 := hidX h2
      have hb2 : Below w.heap.size w ((w.alloc (.cells #[.string ⟨kCall.toArray⟩, .int .i64 n, .string ⟨m.toArray⟩, v] 60)).alloc (.cells #[.string ⟨m.toArray⟩] 9)) := bl_trans hbb (by simp) (box_blk _ _ _)
      have HB2 := hidX hb2
      have hnc := new_two w (.cells #[.string ⟨kCall.toArray⟩, .int .i64 n, .string ⟨m.toArray⟩, v] 60) #[.string ⟨m.toArray⟩] 9
      have HNC := hidX hnc
      have hmno := map_noOwn HL.out HMB.out
      have HMN := hidX hmno
      have HOR := hidX hord
      have hlt1 : lb < mb := hord.1
      have hnt : lb ≠ tb := hord.2.1
      have hnm : mb ≠ tb := hord.2.2
      clear d1 d2 hlk hin hc3 hc1 htc hmb hC hnc hb2 h1 h2 hmno
      go_enter Tryz.func47, Tryz.ntmps47
      go_wp2_with (first
        | (at_builtin; refine wpList_append_own_at _ rfl _ _ 46 rfl (lb + 1) 9 i0 _ 1 16 Tryz.underlying46 hi hy0 hy1 hy2 rfl (by decide) (.slice ad acc.length cc) acc.length (textsC acc) rfl (owns_below H2.out HB2.out) ⟨w.heap.size + 1, 0, none⟩ 1 1 [.string ⟨m.toArray⟩] rfl rfl HNC.out (text_one m) (by unfold maxLen; omega) (by omega) (by simp; omega) ?_; intro v' w3 hown' hgrow _ hloc; obtain ⟨gb, capb, hvb⟩ := own_someX hown'; subst hvb; have f3 := grown_blk hgrow ((HB2.out.block _ hlt).trans H1.out) (fun e => (by have := (H2.out.lt _ e.symm).1; omega)); have g3 : w3.cell? ⟨lb, 0, none⟩ = some (.slice ad acc.length cc) := cell_of_blk f3 0; have z3 := free_of_blk f3 0; have tt3 := grown_blk hgrow ((HB2.out.block _ htl).trans HTC.out) (fun e => (htn ⟨_, _, _, H1.out, e.symm⟩)); have g4 : w3.cell? ⟨tb, 0, none⟩ = some (.map (some mb)) := cell_of_blk tt3 0; have bx3 := grown_blk hgrow (two_new w _ _) (fun e => (by have := (H2.out.lt _ e.symm).2; omega)); have g5 : w3.cell? ⟨w.heap.size, 2, none⟩ = some (.string ⟨m.toArray⟩) := cell_of_blk bx3 2; have hm3 := grown_blk hgrow ((HB2.out.block _ hml).trans HMB.out) (fun e => (HMN.out ⟨_, _, _, H1.out, e.symm⟩)); have hl4 := HLK.out (w3.setCell ⟨lb, 0, none⟩ (.slice (some ⟨gb, 0, none⟩) (acc.length + 1) capb)) ((Below.heap_setCell _ _ _ _ (by show mb ≠ lb; omega)).trans (hm3.trans HMB.out.symm)); have HM3 := hidX hm3; have HTT := hidX tt3; clear f3 tt3 bx3 hm3)
        | (at_mapUpdate; refine wpList_mapUpdate_own _ rfl _ _ _ 86 rfl 9 3 law_string Tryz.underlying86 (plainElem Tryz.prog 3) mb N D rfl (owns_block D1.out ((Below.heap_setCell _ _ _ _ (by show mb ≠ lb; omega)).trans (HM3.out.trans HMB.out.symm))) (by unfold maxLen; omega) _ _ (.string m) rfl rfl hkey (.lit (.int .i64 ((0 + 1 : Nat) : Int))) [] (plainElem_int Tryz.underlying3 (WalkArith.wf_i64 (by omega))) ?_; intro w1 hown1 hgrow1)
        | go_in)
      obtain ⟨q1, q2⟩ := list_push (m := mb) (x := m) H1.out H2.out HB2.out hown' rfl hgrow (by simpa using hloc)
      have q3 := q1.size
      have e4 : (w3.setCell ⟨lb, 0, none⟩ (.slice (some ⟨gb, 0, none⟩) (acc.length + 1) capb)).heap[mb]? = _ := (Below.heap_setCell _ _ _ _ (by show mb ≠ lb; omega)).trans HM3.out
      have e5 : (w3.setCell ⟨lb, 0, none⟩ (.slice (some ⟨gb, 0, none⟩) (acc.length + 1) capb)).heap[tb]? = _ := (Below.heap_setCell _ _ _ _ (by show tb ≠ lb; omega)).trans HTT.out
      have htn4 := (q1.block tb htl (by omega) (by omega) htn).2
      go_end0
      refine ⟨rfl, q1.trans (grown_lfr hgrow1 q2 (by omega)), ?_⟩
      exact CSt.put (q2.map hgrow1 (by omega) (map_noOwn q2 e4)) ((hgrow1.block tb (by omega) (fun e => by injection e with e; omega)).trans e5) (fun ho => htn4 (ho.same (hgrow1.block lb (by omega) (fun e => by injection e with e; omega)))) (by simp; omega) hord D1.out D2.out hc2 rfl (fun s => by simp) hown1
  · rw [if_neg k1]
    have n1 : (k == [99, 97, 108, 108]) = false := ne_lit k1
    have HC := hidX h
    clear k1 h
    go_enter Tryz.func47, Tryz.ntmps47
    go_wp2
    first | go_end0 | refine bodyPost_ret (v := .tuple #[]) (by simp [results, Tryz.results47, go_sem]) rfl ?_
    exact ⟨rfl, LFr.of hbb hlt, HC.out.below hbb (by omega)⟩
end Go.Proofs.YtcebpmaggnephabGreatDoor
