/-
  Our own: the laws of runs: numbers alike, outcomes alike, a list of numbers copied; a closed run.
-/
import Derived.Test.YtalojkkhmbfjiacDoorRunRun
import Derived.Laws.OwnMore
namespace Go.Proofs.YtalojkkhmbfjiacDoor
open Go.RowKit Go.Maps

def e0 : Ex := .mk [110, 97, 109, 101] 0 [97] []
def s0 : Sm := .mk [114, 101, 116, 117, 114, 110] [] e0 [] []
theorem name_f : nameB [102] = true := by kernel_rfl
theorem name_a : nameB [97] = true := by kernel_rfl
abbrev ca0 : Array Value := #[.string ⟨#[114, 101, 116, 117, 114, 110]⟩, .string ⟨#[]⟩, .string ⟨#[110, 97, 109, 101]⟩, .int .i64 0, .string ⟨#[97]⟩, .slice none 0 0, .slice none 0 0, .slice none 0 0]
theorem cells_read {w : World} {b : Nat} {cs : Array Value} {t : TypeId} (h : w.heap[b]? = some (.cells cs t (0, 0))) : ∀ j u, cs.toList[j]? = some u → w.cell? ⟨b, 0 + j, none⟩ = some u := by
  intro j u hj
  rw [Nat.zero_add]
  have := cell_of_blk h j
  rw [this]
  simpa using hj
theorem second_newR (w : World) (a b : Obj) : ((w.alloc a).alloc b).heap[w.heap.size + 1]? = some b := by
  have := heap_alloc_new (w.alloc a) b
  simpa using this
theorem intsC_get {l : List Int} {i : Nat} (h : i < l.length) : (intsC l)[i]? = some (.int .i64 l[i]) := by simp [intsC, h]
theorem intsC_one (l : List Int) : ∀ u ∈ intsC l, u.oneCell' = true := by
  intro u hu
  obtain ⟨v, _, rfl⟩ := List.mem_map.1 hu
  rfl
theorem XRow.int {A : Nat → Prop} {w : World} {ad : Option Addr} {n c : Nat} {l : List Int} (h : XRow A w (.slice ad n c) l.length (intsC l)) {i : Nat} (hi : i < l.length) : ∃ g off, ad = some ⟨g, off, none⟩ ∧ A g ∧ w.cell? ⟨g, off + i, none⟩ = some (.int .i64 l[i]) := by
  obtain ⟨g, off, e, _, h2, h3⟩ := h.get (by omega)
  exact ⟨g, off, e, h2, h3 i _ (intsC_get hi)⟩
set_option maxRecDepth 100000 in
set_option maxHeartbeats 2000000 in
/-- SameInts at two lists of the same numbers. -/
theorem sameInts_any (l : List Int) (hn : l.length ≤ 9223372036854775807) (w : World) (ad ad' : Option Addr) (c c' : Nat) (h1 : XRow (InH w) w (.slice ad l.length c) l.length (intsC l)) (h2 : XRow (InH w) w (.slice ad' l.length c') l.length (intsC l)) :
    Calls Tryd.prog 17 #[.slice ad l.length c, .slice ad' l.length c'] w fun e w' => e = .returned (.bool true) ∧ Below w.heap.size w w' := by
  have R1 := hidX h1
  have R2 := hidX h2
  have hn' : (l.length : Int) ≤ 9223372036854775807 := by omega
  clear h1 h2
  go_enter Tryd.func17, Tryd.ntmps17
  go_wp2_with fail
  go_loopw [5] (fun i wr => ∃ q : Nat, q ≤ l.length ∧ i = .int .i64 q ∧ Below w.heap.size w wr) (fun i _ => l.length - (intOf i).toNat)
  case atStart => exact ⟨0, by omega, rfl, Below.refl _ _⟩
  case round =>
    obtain ⟨q, hq, rfl, hbl⟩ := hrel
    by_cases hlt : q < l.length
    · have hlt' : (q : Int) < (l.length : Int) := by omega
      obtain ⟨g, off, rfl, hg, ht0⟩ := R1.out.int hlt
      obtain ⟨g', off', rfl, hg', ht0'⟩ := R2.out.int hlt
      have ht := (hbl.cell (p := ⟨g, _, none⟩) hg).trans ht0
      have ht' := (hbl.cell (p := ⟨g', _, none⟩) hg').trans ht0'
      generalize l[q] = x at ht ht' ht0 ht0'
      clear ht0 ht0'
      go_wp2_with fail
      go_quiet (fail)
      go_wp2
      go_roundw
      case rel => exact ⟨q + 1, by omega, by go_num, by (repeat (first | exact Below.refl _ _ | assumption | refine Below.drew ?_ | refine Below.trans ?_ (drewN_below' _ _ _) | refine Below.setCell ?_ (by first | (simp; done) | (simp; omega)) _ | refine Below.alloc ?_ (by first | (simp; done) | (simp; omega)) _))⟩
      case measure => simp [intOf]; omega
    · have hqn : q = l.length := by omega
      subst hqn
      go_wp2
      go_ret
      exact ⟨rfl, hbl⟩
set_option maxRecDepth 100000 in
set_option maxHeartbeats 2000000 in
theorem sameOut_any (how : List UInt8) (v : Int) (t : Nat) (l : List Int) (hn : l.length ≤ 9223372036854775807) (w : World) (ad ad' : Option Addr) (c c' : Nat) (h1 : XRow (InH w) w (.slice ad l.length c) l.length (intsC l)) (h2 : XRow (InH w) w (.slice ad' l.length c') l.length (intsC l)) :
    Calls Tryd.prog 18 #[.agg (outC how v (.slice ad l.length c) t), .agg (outC how v (.slice ad' l.length c') t)] w fun e w' => e = .returned (.bool true) ∧ Below w.heap.size w w' := by
  have hsi : ∀ X, Below w.heap.size w X → Calls Tryd.prog 17 #[.slice ad l.length c, .slice ad' l.length c'] X fun e w' => e = .returned (.bool true) ∧ Below X.heap.size X w' := fun X hX => sameInts_any l hn X ad ad' c c' (h1.imp (inH_up hX) (keepH hX)) (h2.imp (inH_up hX) (keepH hX))
  have HSI := hidX hsi
  clear hsi h1 h2
  unfold outC
  go_enter Tryd.func18, Tryd.ntmps18
  go_wp2_with fail
  refine (HSI.out _ (by (repeat (first | exact Below.refl _ _ | assumption | refine Below.drew ?_ | refine Below.trans ?_ (drewN_below' _ _ _) | refine Below.setCell ?_ (by first | (simp; done) | (simp; omega)) _ | refine Below.alloc ?_ (by first | (simp; done) | (simp; omega)) _)))).mono ?_
  rintro e w2 ⟨rfl, hb2⟩
  have hb3 : Below w.heap.size w w2 := bl_trans (show Below w.heap.size w _ by (repeat (first | exact Below.refl _ _ | assumption | refine Below.drew ?_ | refine Below.trans ?_ (drewN_below' _ _ _) | refine Below.setCell ?_ (by first | (simp; done) | (simp; omega)) _ | refine Below.alloc ?_ (by first | (simp; done) | (simp; omega)) _))) (by simp; omega) hb2
  clear hb2
  go_wp2
  go_ret
  exact ⟨rfl, hb3⟩
theorem xrow_intsR {A : Nat → Prop} {w : World} {a : Addr} {c : Nat} {l : List Int} (h : XRow A w (.slice (some a) l.length c) l.length (intsC l)) : ∀ j u, (intsC l)[j]? = some u → w.cell? (a.add j) = some u := by
  intro j u hu
  have hj : j < l.length := by
    rcases Nat.lt_or_ge j (intsC l).length with h' | h'
    · simpa [intsC] using h'
    · rw [List.getElem?_eq_none h'] at hu; cases hu
  obtain ⟨g, off, e, _, _, hc⟩ := h.get (by omega)
  injection e with e
  subst e
  rw [← hc j u hu]
  congr 1
  unfold Addr.add
  split
  · next h0 => rw [h0, Nat.add_zero]
  · rfl
/-- What append(nil, numbers...) leaves. -/
theorem run_append_ints (w : World) (ty : TypeId) (sv : Value) (l : List Int) (hl : l.length ≤ 5000) (h : XRow (InH w) w sv l.length (intsC l)) :
    ∃ v' w', (Builtin.append_ #[42, 42] ty #[.slice none 0 0, sv]).run Tryd.prog w = .ok v' w' ∧ w'.ownsRow w.heap.size 3 1 v' l.length (intsC l) ∧ Below w.heap.size w w' := by
  obtain ⟨i0, hi, hz0, hz1, hz2⟩ := info_parts int_info
  obtain ⟨ad, cap, rfl⟩ := h.is
  cases ad with
  | some a =>
    obtain ⟨v', w', hrun, hown, hg, _, _⟩ := run_append_own_at (P := Tryd.prog) w w.heap.size 42 ty 3 i0 _ 1 8 Tryd.underlying42 hi hz0 hz1 hz2 rfl (by decide) (.slice none 0 0) 0 [] (World.ownsRow_nil _ _ _ _) a l.length cap (intsC l) (intsC_len l) (xrow_intsR h) (intsC_one l) (by unfold maxLen; omega) (by omega) (Nat.le_refl _)
    refine ⟨v', w', hrun, by simpa using hown, ⟨hg.os, hg.tape, hg.output, hg.size, fun i hi => hg.block i hi (fun e => by simp [Value.ownBlock] at e)⟩⟩
  | none =>
    have h0 : l = [] := by
      rcases Nat.eq_zero_or_pos l.length with h' | h'
      · exact List.length_eq_zero_iff.1 h'
      · obtain ⟨g, off, e, _⟩ := h.get (by omega); cases e
    subst h0
    refine ⟨.slice none 0 0, w, ?_, World.ownsRow_nil _ _ _ _, Below.refl _ _⟩
    simp [Builtin.append_, run_underlying Tryd.underlying42, sizeOf, typeInfo, hi, Builtin.lenOf, Builtin.firstCells]
theorem wpList_append_ints {ops : Array Oper} {rest : List Oper} {o : Oper} {a : Act} {w : World} {Q : Exit → Act → World → Prop} (hgd : o.guard = none) (s x : Operand)
    (ho : o.op = .call { callee := .builtin .append, args := #[s, x], argTypes := #[42, 42] }) (hs : a.eval s = .slice none 0 0) (sv : Value) (hx : a.eval x = sv) (l : List Int) (hl : l.length ≤ 5000) (h : XRow (InH w) w sv l.length (intsC l))
    (hk : ∀ v' w', w'.ownsRow w.heap.size 3 1 v' l.length (intsC l) → Below w.heap.size w w' → wpList Tryd.prog ops Q rest (a.put o.dst v') w') :
    wpList Tryd.prog ops Q (o :: rest) a w := by
  refine wpList_plain hgd fun K hK => ?_
  obtain ⟨v', w', hr, h1, h2⟩ := run_append_ints w o.type sv l hl h
  unfold Oper.wp execOp
  simp only [ho, resolve, invoke, builtin, Sem.run_bind, Sem.run_pure, Result.andThen_ok, List.map_toArray, List.map_cons, List.map_nil, hs, hx, hr]
  exact hK _ _ (hk _ _ h1 h2)
def fR : Fu := ⟨[102], [[97]], [s0]⟩
theorem funsR : funsC [fR] [] [fR] = none := by
  have h1 : exprC [fR] [[97]] e0 = 0 := by
    rw [e0, exprC]
    simp only [List.length_nil, exprsC]
    simp [shapeE, name_a, kName, kNumE, andC]
  have h2 : funC [fR] (([] : List Fu).any fun g => g.name == fR.name) fR = 0 := by
    simp only [funC, fR, name_f, parsC, declC, Cs.bind, blockC, s0, stmtC]
    have h3 := h1
    simp only [fR, s0] at h3
    simp [shapeS, kVar, kSet, kIf, kWhile, kReturn, kPrint, name_a, h3]
  rw [funsC, h2]
  simp [funsC]
theorem low_fR : LowF fR := by
  simp [LowF, fR, s0, e0, LowSs, LowS, LowE, LowEs]
theorem ok_fR : OkF fR := by
  refine ⟨by simp [fR], by simp [fR], by simp [fR], by simp [fR], ?_⟩
  simp [fR, s0, e0, OkSs, OkS, OkE, OkEs]
  decide
theorem runR : runX runOps [fR] [102] [7] 5 = .val 7 ⟨1, []⟩ := by
  simp [runX, callX, funOf, fR, blockX, s0, stmtX, e0, exprX, exprsX, exprV, bindE, setE, kWhile, kVar, kSet, kIf, kPrint, kReturn, kName]
abbrev pc0 : Array Value := #[.string ⟨#[97]⟩]
abbrev fc0 (n : Nat) : Array Value := #[.string ⟨#[102]⟩, .slice (some ⟨n, 0, none⟩) 1 1, .slice (some ⟨n + 1, 0, none⟩) 1 1]
abbrev WR (w : World) : World := (((w.alloc (.cells pc0 9)).alloc (.cells ca0 54)).alloc (.cells (fc0 w.heap.size) 37)).alloc (.cells #[.int .i64 7] 3)
end Go.Proofs.YtalojkkhmbfjiacDoor
