/-
  Our own: what the model's own check of a program asks for, where the lists of variables and calls are not there.
-/
import Derived.Test.YtcebpmaggnephacGreatDoorChecksAs
import Derived.Test.YtcebpmaggnephacGreatDoorCheckProg
import Derived.Test.YtcebpmaggnephacGreatDoorFaulted
import Derived.Laws.OwnMore
namespace Go.Proofs.YtcebpmaggnephacGreatDoor
open Go.RowKit Go.Maps

theorem own_base {B B' n size : Nat} {t : TypeId} {w : World} {v : Value} {xs : List Value} (h : w.ownsRow B t size v n xs) (hB : B' ≤ B) : w.ownsRow B' t size v n xs := by
  rcases h with ⟨h1, h2 | ⟨g, cap, cur, h3, h4, h5⟩⟩
  · exact ⟨h1, Or.inl h2⟩
  · exact ⟨h1, Or.inr ⟨g, cap, cur, h3, by omega, h5⟩⟩
theorem textsC_append (a b : List (List UInt8)) : textsC (a ++ b) = textsC a ++ textsC b := by simp [textsC]
/-- What append(own, texts...) leaves. -/
theorem run_append_on (w : World) (ty : TypeId) (B : Nat) (v sv : Value) (acc l : List (List UInt8)) (hB : B ≤ w.heap.size) (hl : acc.length + l.length ≤ 5000) (ho : w.ownsRow B 9 1 v acc.length (textsC acc)) (h : XRow (InH w) w sv l.length (textsC l)) :
    ∃ v' w', (Builtin.append_ #[37, 37] ty #[v, sv]).run Tryz.prog w = .ok v' w' ∧ w'.ownsRow B 9 1 v' (acc ++ l).length (textsC (acc ++ l)) ∧ w.grownBy w' v.ownBlock := by
  obtain ⟨i0, hi, hz0, hz1, hz2⟩ := info_parts text_info
  obtain ⟨ad, cap, rfl⟩ := h.is
  rw [List.length_append, textsC_append]
  cases ad with
  | some a =>
    obtain ⟨v', w', hrun, hown, hg, _, _⟩ := run_append_own_at (P := Tryz.prog) w B 37 ty 9 i0 _ 1 16 Tryz.underlying37 hi hz0 hz1 hz2 rfl (by decide) v acc.length (textsC acc) ho a l.length cap (textsC l) (textsC_len l) (xrow_cells h) (textsC_one l) (by unfold maxLen; omega) (by omega) hB
    exact ⟨v', w', hrun, hown, hg⟩
  | none =>
    have h0 : l = [] := by
      rcases Nat.eq_zero_or_pos l.length with h' | h'
      · exact List.length_eq_zero_iff.1 h'
      · obtain ⟨g, off, e, _⟩ := h.get (by omega); cases e
    subst h0
    refine ⟨v, w, ?_, by simpa [textsC] using ho, ⟨rfl, rfl, rfl, Nat.le_refl _, fun _ _ _ => rfl⟩⟩
    rcases ho.2 with ⟨rfl, hn⟩ | ⟨g, cap', cur, rfl, _, _, hnc, _⟩
    · simp [Builtin.append_, run_underlying Tryz.underlying37, sizeOf, typeInfo, hi, Builtin.lenOf, Builtin.firstCells]
    · simp [Builtin.append_, run_underlying Tryz.underlying37, sizeOf, typeInfo, hi, Builtin.lenOf, Builtin.firstCells, hnc, storeCells]
/-- .. in the walk. -/
theorem wpList_append_on {ops : Array Oper} {rest : List Oper} {o : Oper} {a : Act} {w : World} {Q : Exit → Act → World → Prop} (hgd : o.guard = none) (s x : Operand)
    (ho : o.op = .call { callee := .builtin .append, args := #[s, x], argTypes := #[37, 37] }) (v : Value) (hs : a.eval s = v) (sv : Value) (hx : a.eval x = sv) (B : Nat) (acc l : List (List UInt8)) (hB : B ≤ w.heap.size) (hl : acc.length + l.length ≤ 5000) (hown : w.ownsRow B 9 1 v acc.length (textsC acc)) (h : XRow (InH w) w sv l.length (textsC l))
    (hk : ∀ v' w', w'.ownsRow B 9 1 v' (acc ++ l).length (textsC (acc ++ l)) → w.grownBy w' v.ownBlock → wpList Tryz.prog ops Q rest (a.put o.dst v') w') :
    wpList Tryz.prog ops Q (o :: rest) a w := by
  refine wpList_plain hgd fun K hK => ?_
  obtain ⟨v', w', hr, h1, h2⟩ := run_append_on w o.type B v sv acc l hB hl hown h
  unfold Oper.wp execOp
  simp only [ho, resolve, invoke, builtin, Sem.run_bind, Sem.run_pure, Result.andThen_ok, List.map_toArray, List.map_cons, List.map_nil, hs, hx, hr]
  exact hK _ _ (hk _ _ h1 h2)
/-- A list of one text in a new block. -/
theorem one_text (w : World) (m : List UInt8) : XRow (InH (w.alloc (.cells #[.string ⟨m.toArray⟩] 9))) (w.alloc (.cells #[.string ⟨m.toArray⟩] 9)) (.slice (some ⟨w.heap.size, 0, none⟩) 1 1) [m].length (textsC [m]) :=
  ⟨_, _, rfl, fun _ => ⟨_, _, rfl, heap_lt (heap_alloc_new w _), fun j u hj => by
    have hj' : j = 0 := by
      rcases Nat.eq_zero_or_pos j with h | h
      · exact h
      · rw [List.getElem?_eq_none (by simp [textsC]; omega)] at hj; cases hj
    subst hj'
    have : u = .string ⟨m.toArray⟩ := by simpa [textsC] using hj.symm
    subst this
    exact cell_of_blk (heap_alloc_new w (.cells #[.string ⟨m.toArray⟩] 9)) 0⟩⟩
mutual
theorem varsM_len : ∀ e : Sm, (varsM e).length ≤ nodesM e
  | .mk k m e t o => by
    have h2 := varsS_len t
    have h3 := varsS_len o
    rw [varsM, nodesM, List.length_append, List.length_append]
    split <;> simp <;> omega
theorem varsS_len : ∀ l : List Sm, (varsS l).length ≤ nodesS l
  | [] => by simp [varsS]
  | e :: r => by
    have h1 := varsM_len e
    have h2 := varsS_len r
    rw [varsS, nodesS, List.length_append]; omega
end
theorem nodesS_mem {l : List Sm} {s : Sm} (h : s ∈ l) : nodesM s ≤ nodesS l := by
  induction l with
  | nil => cases h
  | cons x r ih =>
    rw [nodesS]
    rcases List.mem_cons.1 h with rfl | h
    · omega
    · have := ih h; omega
set_option maxRecDepth 100000 in
set_option maxHeartbeats 2000000 in
/-- IsIn at a list of texts that does not hold the text. -/
theorem isIn_out (l : List (List UInt8)) (s : List UInt8) (hs : s ∉ l) (hn : l.length ≤ 5000) (w : World) (ad : Option Addr) (c : Nat) (hX : XRow (InH w) w (.slice ad l.length c) l.length (textsC l)) :
    Calls Tryz.prog 58 #[.string ⟨s.toArray⟩, .slice ad l.length c] w fun e w' => e = .returned (.bool false) ∧ w' = w := by
  have R := hidX hX
  have HS := hidX hs
  have hn' : (l.length : Int) ≤ 5000 := by omega
  clear hX hs
  go_enter Tryz.func58, Tryz.ntmps58
  go_wp2
  go_loop [5] (fun i => ∃ q : Nat, q ≤ l.length ∧ i = .int .i64 q) (fun i => l.length - (intOf i).toNat)
  case atStart => exact ⟨0, by omega, rfl⟩
  case round =>
    obtain ⟨q, hq, rfl⟩ := hrel
    by_cases hlt : q < l.length
    · have hlt' : (q : Int) < (l.length : Int) := by omega
      have hne : l[q] ≠ s := fun e => HS.out (e ▸ List.getElem_mem hlt)
      obtain ⟨g, off, rfl, hg, ht⟩ := R.out.text hlt
      generalize l[q] = x at hne ht
      have hne' := txt_ne hne
      clear hne
      go_wp2
      go_round
      case rel => exact ⟨q + 1, by omega, by go_num⟩
      case measure => simp [intOf]; omega
    · have hqn : q = l.length := by omega
      subst hqn
      go_wp2
      go_ret
      exact ⟨rfl, rfl⟩
set_option maxRecDepth 100000 in
set_option maxHeartbeats 2000000 in
/-- IsIn at a list of texts. -/
theorem isIn_allR (l : List (List UInt8)) (s : List UInt8) (hn : l.length ≤ 5000) (w : World) (ad : Option Addr) (c : Nat) (hX : XRow (InH w) w (.slice ad l.length c) l.length (textsC l)) :
    Calls Tryz.prog 58 #[.string ⟨s.toArray⟩, .slice ad l.length c] w fun e w' => e = .returned (.bool (decide (s ∈ l))) ∧ w' = w := by
  by_cases hs : s ∈ l
  · have R := hidX hX
    have hd : decide (s ∈ l) = true := by simpa using hs
    rw [hd]
    have HS := hidX hs
    have hn' : (l.length : Int) ≤ 5000 := by omega
    clear hX hs hd
    go_enter Tryz.func58, Tryz.ntmps58
    go_wp2
    go_loop [5] (fun i => ∃ q : Nat, q ≤ l.length ∧ i = .int .i64 q ∧ Hid (s ∉ l.take q)) (fun i => l.length - (intOf i).toNat)
    case atStart => exact ⟨0, by omega, rfl, by simp [Hid]⟩
    case round =>
      obtain ⟨q, hq, rfl, HQ⟩ := hrel
      by_cases hlt : q < l.length
      · have hlt' : (q : Int) < (l.length : Int) := by omega
        obtain ⟨g, off, rfl, hg, ht⟩ := R.out.text hlt
        have htk : l.take (q + 1) = l.take q ++ [l[q]] := List.take_succ_eq_append_getElem hlt
        generalize l[q] = x at ht htk
        have HTK := hidX htk
        clear htk
        by_cases hne : x = s
        · subst hne
          go_wp2
          go_ret
          exact ⟨rfl, rfl⟩
        · have hne' := txt_ne hne
          have HQ2 : Hid (s ∉ l.take (q + 1)) := by
            unfold Hid
            rw [HTK.out, List.mem_append]
            rintro (h | h)
            · exact HQ.out h
            · exact hne (List.mem_singleton.1 h).symm
          clear hne
          go_wp2
          go_round
          case rel => exact ⟨q + 1, by omega, by go_num, HQ2⟩
          case measure => simp [intOf]; omega
      · have hqn : q = l.length := by omega
        subst hqn
        exact absurd HS.out (by have := HQ.out; rwa [List.take_length] at this)
  · have hd : decide (s ∈ l) = false := by simpa using hs
    rw [hd]
    exact isIn_out l s hs hn w ad c hX
end Go.Proofs.YtcebpmaggnephacGreatDoor
