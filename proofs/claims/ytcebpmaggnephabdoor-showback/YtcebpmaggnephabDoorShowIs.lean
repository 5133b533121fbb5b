/-
  Our own: package show: is an expression an op of one, of two?
-/
import Derived.Test.YtcebpmaggnephabDoorShowBld
import Derived.Test.YtcebpmaggnephabDoorShowShelf
import Derived.Test.YtcebpmaggnephabDoorTreeNum
import Derived.Test.YtcebpmaggnephabDoorVal
import Derived.Test.YtcebpmaggnephabDoorShowMaths
import Derived.Lib.AppendIntMem
namespace Go.Proofs.YtcebpmaggnephabDoor
open Go.RowKit

theorem hidS {p : Prop} (h : p) : Hid p := h
theorem box_blkS (w : World) (cs : Array Value) (t : TypeId) : Below w.heap.size w (w.alloc (.cells cs t)) := by (repeat (first | exact Below.refl _ _ | assumption | refine Below.drew ?_ | refine Below.trans ?_ (drewN_below' _ _ _) | refine Below.setCell ?_ (by first | (simp; done) | (simp; omega)) _ | refine Below.alloc ?_ (by first | (simp; done) | (simp; omega)) _))
theorem arr_eq {m : List UInt8} {c : Array UInt8} (h : (⟨m.toArray⟩ : ByteArray) = ⟨c⟩) : m = c.toList := by
  injection h with h
  rw [← h]
theorem ops_iff (m : List UInt8) : 1 ≤ signLevel m ↔ (⟨m.toArray⟩ : ByteArray) ∈ opsTwo := by
  constructor
  · intro h
    have := level_mem h
    simp only [List.mem_cons, List.not_mem_nil, or_false] at this
    rcases this with rfl | rfl | rfl | rfl | rfl | rfl | rfl | rfl | rfl | rfl | rfl | rfl | rfl | rfl <;> simp [opsTwo]
  · intro h
    simp only [opsTwo, List.mem_cons, List.not_mem_nil, or_false] at h
    rcases h with h | h | h | h | h | h | h | h | h | h | h | h | h | h <;> (have e := arr_eq h; subst e; decide)
theorem one_iff (m : List UInt8) : (m = [45] ∨ m = [33]) ↔ ((⟨m.toArray⟩ : ByteArray) = ⟨#[45]⟩ ∨ (⟨m.toArray⟩ : ByteArray) = ⟨#[33]⟩) :=
  ⟨fun h => h.imp (fun h => by rw [h]) fun h => by rw [h], fun h => h.imp arr_eq arr_eq⟩
/-- What package show wants of the listed variables, below block B. -/
structure ShG (B : Nat) (w : World) (a : Nat → Addr) : Prop where
  kind : w.cell? ⟨4, 0, none⟩ = some (sentV (a 3))
  kb : 4 < B
  tab : Lib.TabBelow Tryd.prog B w "internal/strconv.uint64pow10" .u64 Lib.pow10Tab
theorem ShG.on {B : Nat} {w w' : World} {a : Nat → Addr} (h : ShG B w a) (hb : Below B w w') : ShG B w' a := ⟨(hb.cell (p := ⟨_, 0, none⟩) h.kb).trans h.kind, h.kb, h.tab.on hb⟩
theorem below_le {B C : Nat} {w w' : World} (h : Below C w w') (hc : B ≤ C) : Below B w w' := ⟨h.os, h.tape, h.output, h.size, fun k hk => h.block k (by omega)⟩
theorem ShG.up {B C : Nat} {w : World} {a : Nat → Addr} (h : ShG B w a) (hc : B ≤ C) : ShG C w a := ⟨h.kind, Nat.lt_of_lt_of_le h.kb hc, fun w' hw => h.tab w' (below_le hw hc)⟩
set_option maxHeartbeats 1000000 in
theorem do_badK (s : Nat → Addr) (t : ByteArray) (ht : t ∉ opsTwo) (a b : Int) (w : World) (hv : w.cell? ⟨4, 0, none⟩ = some (sentV (s 3))) : Calls Tryd.prog 74 #[.string t, .int .i64 a, .int .i64 b] w fun e w' => e = .returned (.tuple #[.int .i64 0, sentV (s 3)]) ∧ ∃ m, w' = w.drewN m := by
  simp only [opsTwo, List.mem_cons, List.not_mem_nil, or_false, not_or] at ht
  obtain ⟨h1, h2, h3, h4, h5, h6, h7, h8, h9, h10, h11, h12, h13, h14⟩ := ht
  replace h1 := lit_ne h1
  replace h2 := lit_ne h2
  replace h3 := lit_ne h3
  replace h4 := lit_ne h4
  replace h5 := lit_ne h5
  replace h6 := lit_ne h6
  replace h7 := lit_ne h7
  replace h8 := lit_ne h8
  replace h9 := lit_ne h9
  replace h10 := lit_ne h10
  replace h11 := lit_ne h11
  replace h12 := lit_ne h12
  replace h13 := lit_ne h13
  replace h14 := lit_ne h14
  go_enter Tryd.func74, Tryd.ntmps74
  go_wp2
  go_quiet (fail)
  go_wp2
  go_ret2
  exact ⟨rfl, nq, rfl⟩
theorem one_badK (s : Nat → Addr) (t : ByteArray) (h1 : t ≠ ⟨#[45]⟩) (h2 : t ≠ ⟨#[33]⟩) (a : Int) (w : World) (hv : w.cell? ⟨4, 0, none⟩ = some (sentV (s 3))) : Calls Tryd.prog 73 #[.string t, .int .i64 a] w fun e w' => e = .returned (.tuple #[.int .i64 0, sentV (s 3)]) ∧ ∃ m, w' = w.drewN m := by
  replace h1 := lit_ne h1
  replace h2 := lit_ne h2
  go_enter Tryd.func73, Tryd.ntmps73
  go_wp2
  go_quiet (fail)
  go_wp2
  go_ret2
  exact ⟨rfl, nq, rfl⟩
/-- val.Do at whatever text: does it tell an error? -/
theorem do_all (s : Nat → Addr) (t : List UInt8) (w : World) (hv : w.cell? ⟨4, 0, none⟩ = some (sentV (s 3))) : Calls Tryd.prog 74 #[.string ⟨t.toArray⟩, .int .i64 0, .int .i64 0] w fun e w' => (∃ x, e = .returned (.tuple #[.int .i64 x, if 1 ≤ signLevel t then .nilIface else sentV (s 3)])) ∧ Below w.heap.size w w' := by
  by_cases h : 1 ≤ signLevel t
  · refine (do_any _ ((ops_iff t).1 h) 0 0 w).mono ?_
    rintro e w' ⟨rfl, rfl⟩
    exact ⟨⟨_, by rw [if_pos h]⟩, Below.refl _ _⟩
  · refine (do_badK s _ (fun h' => h ((ops_iff t).2 h')) 0 0 w hv).mono ?_
    rintro e w' ⟨rfl, m, rfl⟩
    exact ⟨⟨_, by rw [if_neg h]⟩, drewN_below' _ _ _⟩
theorem one_all (s : Nat → Addr) (t : List UInt8) (w : World) (hv : w.cell? ⟨4, 0, none⟩ = some (sentV (s 3))) : Calls Tryd.prog 73 #[.string ⟨t.toArray⟩, .int .i64 0] w fun e w' => (∃ x, e = .returned (.tuple #[.int .i64 x, if t = [45] ∨ t = [33] then .nilIface else sentV (s 3)])) ∧ Below w.heap.size w w' := by
  by_cases h1 : t = [45]
  · subst h1
    refine (one_neg 0 w).mono ?_
    rintro e w' ⟨rfl, rfl⟩
    exact ⟨⟨_, by rw [if_pos (Or.inl rfl)]⟩, Below.refl _ _⟩
  · by_cases h2 : t = [33]
    · subst h2
      refine (one_not 0 w).mono ?_
      rintro e w' ⟨rfl, rfl⟩
      exact ⟨⟨_, by rw [if_pos (Or.inr rfl)]⟩, Below.refl _ _⟩
    · refine (one_badK s _ (fun h => h1 (arr_eq h)) (fun h => h2 (arr_eq h)) 0 w hv).mono ?_
      rintro e w' ⟨rfl, m, rfl⟩
      exact ⟨⟨_, by rw [if_neg (fun h => h.elim h1 h2)]⟩, drewN_below' _ _ _⟩
/-- Is it an op of two, of one? -/
def twoB (k m : List UInt8) (len : Nat) : Bool := decide (k = kTwo ∧ 1 ≤ signLevel m ∧ len = 2)
def oneB (k m : List UInt8) (len : Nat) : Bool := decide (k = kOne ∧ (m = [45] ∨ m = [33]) ∧ len = 1)
set_option maxRecDepth 100000 in
set_option maxHeartbeats 1000000 in
theorem isTwo_any {B : Nat} {w : World} {a : Nat → Addr} (hG : ShG B w a) (hB : B ≤ w.heap.size) (k : List UInt8) (n : Int) (m : List UInt8) (ad : Option Addr) (len cap : Nat) :
    Calls Tryd.prog 59 #[.agg #[.string ⟨k.toArray⟩, .int .i64 n, .string ⟨m.toArray⟩, .slice ad len cap]] w fun e w' => e = .returned (.bool (twoB k m len)) ∧ Below w.heap.size w w' := by
  have hb0 := box_blkS w #[.string ⟨k.toArray⟩, .int .i64 n, .string ⟨m.toArray⟩, .slice ad len cap] 55
  have hd := do_all a m _ (hG.on (below_le hb0 hB)).kind
  have HD := hidS hd
  clear hd hG
  go_enter Tryd.func59, Tryd.ntmps59
  go_wp2_with fail
  refine HD.out.mono ?_
  rintro e w1 ⟨⟨x, rfl⟩, hb1⟩
  have hb01 : Below w.heap.size w w1 := bl_trans hb0 hb0.size hb1
  have bk : w1.heap[w.heap.size]? = some (.cells #[.string ⟨k.toArray⟩, .int .i64 n, .string ⟨m.toArray⟩, .slice ad len cap] 55 (0, 0)) := (hb1.block _ (by simp)).trans (heap_alloc_new _ _)
  have d0 : w1.cell? ⟨w.heap.size, 0, none⟩ = some (.string ⟨k.toArray⟩) := cell_of_blk bk 0
  have d3 : w1.cell? ⟨w.heap.size, 3, none⟩ = some (.slice ad len cap) := cell_of_blk bk 3
  clear bk hb1 HD hb0
  by_cases hk : k = kTwo
  · subst hk
    by_cases hm : 1 ≤ signLevel m
    · rw [if_pos hm]
      by_cases hl2 : len = 2
      · subst hl2
        have e1 : twoB kTwo m 2 = true := decide_eq_true ⟨rfl, hm, rfl⟩
        have E1 := hidS e1
        clear e1 hm
        unfold kTwo at d0
        go_wp2
        go_ret
        exact ⟨by rw [E1.out]; rfl, hb01⟩
      · have e1 : twoB kTwo m len = false := decide_eq_false fun h => hl2 h.2.2
        have e2 : ((len : Int) == 2) = false := by simp; omega
        have E1 := hidS e1
        clear e1 hm hl2
        unfold kTwo at d0
        go_wp2
        go_ret
        exact ⟨by rw [E1.out]; rfl, hb01⟩
    · rw [if_neg hm]
      have e1 : twoB kTwo m len = false := decide_eq_false fun h => hm h.2.1
      have E1 := hidS e1
      clear e1 hm
      unfold kTwo at d0
      go_wp2
      go_ret
      exact ⟨by rw [E1.out]; rfl, hb01⟩
  · have e1 : twoB k m len = false := decide_eq_false fun h => hk h.1
    have e2 := str_ne hk
    unfold kTwo at e2
    have E1 := hidS e1
    clear e1 hk
    go_wp2
    all_goals (go_ret; exact ⟨by rw [E1.out]; rfl, hb01⟩)
set_option maxRecDepth 100000 in
set_option maxHeartbeats 1000000 in
theorem isOne_any {B : Nat} {w : World} {a : Nat → Addr} (hG : ShG B w a) (hB : B ≤ w.heap.size) (k : List UInt8) (n : Int) (m : List UInt8) (ad : Option Addr) (len cap : Nat) :
    Calls Tryd.prog 57 #[.agg #[.string ⟨k.toArray⟩, .int .i64 n, .string ⟨m.toArray⟩, .slice ad len cap]] w fun e w' => e = .returned (.bool (oneB k m len)) ∧ Below w.heap.size w w' := by
  have hb0 := box_blkS w #[.string ⟨k.toArray⟩, .int .i64 n, .string ⟨m.toArray⟩, .slice ad len cap] 55
  have hd := one_all a m _ (hG.on (below_le hb0 hB)).kind
  have HD := hidS hd
  clear hd hG
  go_enter Tryd.func57, Tryd.ntmps57
  go_wp2_with fail
  refine HD.out.mono ?_
  rintro e w1 ⟨⟨x, rfl⟩, hb1⟩
  have hb01 : Below w.heap.size w w1 := bl_trans hb0 hb0.size hb1
  have bk : w1.heap[w.heap.size]? = some (.cells #[.string ⟨k.toArray⟩, .int .i64 n, .string ⟨m.toArray⟩, .slice ad len cap] 55 (0, 0)) := (hb1.block _ (by simp)).trans (heap_alloc_new _ _)
  have d0 : w1.cell? ⟨w.heap.size, 0, none⟩ = some (.string ⟨k.toArray⟩) := cell_of_blk bk 0
  have d3 : w1.cell? ⟨w.heap.size, 3, none⟩ = some (.slice ad len cap) := cell_of_blk bk 3
  clear bk hb1 HD hb0
  by_cases hk : k = kOne
  · subst hk
    by_cases hm : m = [45] ∨ m = [33]
    · rw [if_pos hm]
      by_cases hl2 : len = 1
      · subst hl2
        have e1 : oneB kOne m 1 = true := decide_eq_true ⟨rfl, hm, rfl⟩
        have E1 := hidS e1
        clear e1 hm
        unfold kOne at d0
        go_wp2
        go_ret
        exact ⟨by rw [E1.out]; rfl, hb01⟩
      · have e1 : oneB kOne m len = false := decide_eq_false fun h => hl2 h.2.2
        have e2 : ((len : Int) == 1) = false := by simp; omega
        have E1 := hidS e1
        clear e1 hm hl2
        unfold kOne at d0
        go_wp2
        go_ret
        exact ⟨by rw [E1.out]; rfl, hb01⟩
    · rw [if_neg hm]
      have e1 : oneB kOne m len = false := decide_eq_false fun h => hm h.2.1
      have E1 := hidS e1
      clear e1 hm
      unfold kOne at d0
      go_wp2
      go_ret
      exact ⟨by rw [E1.out]; rfl, hb01⟩
  · have e1 : oneB k m len = false := decide_eq_false fun h => hk h.1
    have e2 := str_ne hk
    unfold kOne at e2
    have E1 := hidS e1
    clear e1 hk
    go_wp2
    all_goals (go_ret; exact ⟨by rw [E1.out]; rfl, hb01⟩)
end Go.Proofs.YtcebpmaggnephabDoor
