/-
  Our own: a strings.Builder inside package show's writer: written on, then read.
-/
import Derived.Test.YtcebpmaggnephabDoorBuild
import Derived.Test.YtcebpmaggnephabDoorLexView
namespace Go.Proofs.YtcebpmaggnephabDoor
open Go.RowKit Go.Shelf

/-- A writer in block b that holds these bytes and is in k blocks; its row of bytes, all from block B on. -/
def WrAt (B b : Nat) (k : Int) (p : Value) (l : List UInt8) (w : World) : Prop :=
  B ≤ b ∧ ∃ v, w.heap[b]? = some (.cells #[p, v, .int .i64 k] 73 (0, 0)) ∧ w.ownsRow B 5 1 v l.length (Lib.byteCells l) ∧ v.ownBlock ≠ some b ∧ (l = [] → v = .slice none 0 0)
def Wr (B b : Nat) (k : Int) (l : List UInt8) (w : World) : Prop := WrAt B b k (.pointer none) l w ∨ WrAt B b k (.pointer (some ⟨b, 0, none⟩)) l w
theorem wr_lies : liesAt Tryd.prog Tryd.prog.depth 73 (3 / Tryd.prog.cellsOf 73) 0 71 1 = true := by kernel_rfl
theorem WrAt.keep {B b : Nat} {k : Int} {p : Value} {l : List UInt8} {w w' : World} (h : WrAt B b k p l w) (hb : Below w.heap.size w w') : WrAt B b k p l w' := by
  obtain ⟨h1, v, h2, h3, h4⟩ := h
  exact ⟨h1, v, (hb.block b (heap_lt h2)).trans h2, owns_below h3 hb, h4⟩
theorem Wr.keep {B b : Nat} {k : Int} {l : List UInt8} {w w' : World} (h : Wr B b k l w) (hb : Below w.heap.size w w') : Wr B b k l w' := h.imp (fun h => h.keep hb) fun h => h.keep hb
theorem Wr.lt {B b : Nat} {k : Int} {l : List UInt8} {w : World} (h : Wr B b k l w) : B ≤ b ∧ b < w.heap.size := by
  rcases h with ⟨h1, v, h2, _⟩ | ⟨h1, v, h2, _⟩ <;> exact ⟨h1, heap_lt h2⟩
theorem own_set {w : World} {B b n i : Nat} {v u : Value} {xs : List Value} (h : w.ownsRow B 5 1 v n xs) (hne : v.ownBlock ≠ some b) : (w.setCell ⟨b, i, none⟩ u).ownsRow B 5 1 v n xs :=
  h.kept (row := some b) ⟨rfl, rfl, rfl, by simp [World.setCell], fun k _ hk => Below.heap_setCell _ _ _ _ (fun e => hk (by simp [e]))⟩ (Or.inr hne)
theorem WrAt.used {B b : Nat} {k : Int} {p : Value} {l : List UInt8} {w : World} (h : WrAt B b k p l w) (q : Value) : WrAt B b k q l (w.setCell ⟨b, 0, none⟩ q) := by
  obtain ⟨hB, v, hb, hown, hne, hnil⟩ := h
  exact ⟨hB, v, by simp [World.setCell, Array.getElem?_modify, hb], own_set hown hne, hne, hnil⟩
/-- The number of blocks stored. -/
theorem Wr.count {B b : Nat} {k : Int} {l : List UInt8} {w : World} (h : Wr B b k l w) (j : Int) : Wr B b j l (w.setCell ⟨b, 2, none⟩ (.int .i64 j)) := by
  rcases h with ⟨hB, v, hb, hown, hne, hnil⟩ | ⟨hB, v, hb, hown, hne, hnil⟩
  · exact Or.inl ⟨hB, v, by simp [World.setCell, Array.getElem?_modify, hb], own_set hown hne, hne, hnil⟩
  · exact Or.inr ⟨hB, v, by simp [World.setCell, Array.getElem?_modify, hb], own_set hown hne, hne, hnil⟩
theorem Wr.cell2 {B b : Nat} {k : Int} {l : List UInt8} {w : World} (h : Wr B b k l w) : w.cell? ⟨b, 2, none⟩ = some (.int .i64 k) ∧ w.frozen? ⟨b, 2, none⟩ = false := by
  rcases h with ⟨_, v, hb, _⟩ | ⟨_, v, hb, _⟩ <;> simp [World.cell?, World.frozen?, hb]
set_option maxRecDepth 100000 in
theorem wcopy_used (b : Nat) (w : World) (h0 : w.cell? ⟨b, 0, none⟩ = some (.pointer (some ⟨b, 0, none⟩))) :
    Calls Tryd.prog 61 #[.pointer (some ⟨b, 0, none⟩)] w fun e w' => e = .returned (.tuple #[]) ∧ w' = w := copy_used b w h0
set_option maxRecDepth 100000 in
theorem wcopy_fresh (b : Nat) (w : World) (h0 : w.cell? ⟨b, 0, none⟩ = some (.pointer none)) (hsh : w.shape? b = some (73, 3)) (hfz : w.frozen? ⟨b, 0, none⟩ = false) :
    Calls Tryd.prog 61 #[.pointer (some ⟨b, 0, none⟩)] w fun e w' => e = .returned (.tuple #[]) ∧ w' = w.setCell ⟨b, 0, none⟩ (.pointer (some ⟨b, 0, none⟩)) := by
  obtain ⟨j, hj, hjs⟩ := Option.map_eq_some_iff.1 bld_info
  go_enter Tryd.func61, Tryd.ntmps61
  go_wp2
  rw [Lib.run_to_unsafe w ⟨b, 0, none⟩ Tryd.underlying68 Tryd.underlying115 hj (by rw [hjs]; decide) hsh (Nat.zero_lt_succ 2)]
  simp only [Result.andThen]
  rw [Oper.upon_value]
  go_wp2
  rw [run_callFunc_extern Tryd.func75 (by kernel_rfl) (by kernel_rfl) (by kernel_rfl) (e := Extern.AbiNoEscape.same) (by kernel_rfl), Lib.run_noEscape]
  simp only [Result.andThen]
  rw [Oper.upon_value]
  go_wp2
  rw [Lib.run_from_unsafe w ⟨b, 0, none⟩ Tryd.underlying115 Tryd.underlying68 hj hsh wr_lies]
  simp only [Result.andThen]
  rw [Oper.upon_value]
  go_wp2
  go_end0
  exact ⟨rfl, rfl⟩
theorem wcopy_any (B b : Nat) (k : Int) (l : List UInt8) (w : World) (h : Wr B b k l w) :
    Calls Tryd.prog 61 #[.pointer (some ⟨b, 0, none⟩)] w fun e w' => e = .returned (.tuple #[]) ∧ WrAt B b k (.pointer (some ⟨b, 0, none⟩)) l w' ∧ Below B w w' ∧ Lib.OthersKept 5 (some b) w w' := by
  rcases h with h | h
  · obtain ⟨hB, v, hb, _⟩ := id h
    refine (wcopy_fresh b w (by simp [World.cell?, hb]) (by simp [World.shape?, hb]) (by simp [World.frozen?, hb])).mono ?_
    rintro e w' ⟨rfl, rfl⟩
    exact ⟨rfl, h.used _, (Below.refl B w).setCell (p := ⟨b, 0, none⟩) hB _, (Lib.OthersKept.refl _ _ _).setCell ⟨b, 0, none⟩ rfl _⟩
  · obtain ⟨hB, v, hb, _⟩ := id h
    refine (wcopy_used b w (by simp [World.cell?, hb])).mono ?_
    rintro e w' ⟨rfl, rfl⟩
    exact ⟨rfl, h, Below.refl B _, Lib.OthersKept.refl _ _ _⟩
theorem WrAt.put {B b : Nat} {k : Int} {p v v' : Value} {l : List UInt8} {w : World} (hB : B ≤ b) (hb : w.heap[b]? = some (.cells #[p, v, .int .i64 k] 73 (0, 0))) (hown : w.ownsRow B 5 1 v' l.length (Lib.byteCells l)) (hl : l ≠ []) : WrAt B b k p l (w.setCell ⟨b, 1, none⟩ v') := by
  have hne : v'.ownBlock ≠ some b := Lib.ownBlock_ne hown hb (by decide)
  exact ⟨hB, v', by simp [World.setCell, Array.getElem?_modify, hb], own_set hown hne, hne, fun h => absurd h hl⟩
/-- What a writer's writer leaves. -/
def WTo (B b : Nat) (k : Int) (l : List UInt8) (w : World) (w' : World) : Prop := Wr B b k l w' ∧ Below B w w' ∧ Lib.OthersKept 5 (some b) w w'
theorem kept_of {b : Option Nat} {w w' : World} (h : Below w.heap.size w w') : Lib.OthersKept 5 b w w' := fun i _ hi _ _ => (h.block i (heap_lt hi)).trans hi
theorem WTo.keep {B b : Nat} {k : Int} {l : List UInt8} {w w1 w2 : World} (h : WTo B b k l w w1) (hB : B ≤ w1.heap.size) (h2 : Below w1.heap.size w1 w2) : WTo B b k l w w2 := ⟨h.1.keep h2, bl_trans h.2.1 hB h2, h.2.2.trans (kept_of h2)⟩
theorem WTo.after {B b : Nat} {k : Int} {l : List UInt8} {w w1 w2 : World} (h : Below w.heap.size w w1) (hB : B ≤ w.heap.size) (h2 : WTo B b k l w1 w2) : WTo B b k l w w2 := ⟨h2.1, (h.mono hB).trans h2.2.1, (kept_of h).trans h2.2.2⟩
theorem WTo.trans {B b : Nat} {k j : Int} {l m : List UInt8} {w w1 w2 : World} (h : WTo B b k l w w1) (h2 : WTo B b j m w1 w2) : WTo B b j m w w2 := ⟨h2.1, h.2.1.trans h2.2.1, h.2.2.trans h2.2.2⟩
theorem WTo.blk {B b : Nat} {k : Int} {l : List UInt8} {w w1 : World} (h : WTo B b k l w w1) {g : Nat} {cs : Array Value} {t : TypeId} (hg : w.heap[g]? = some (.cells cs t (0, 0))) (hb : g ≠ b) (ht : t ≠ 5) : w1.heap[g]? = some (.cells cs t (0, 0)) := h.2.2 g _ hg (fun e => hb (Option.some.inj e)) (fun c fz e => by injection e with _ e; exact ht e)
set_option maxRecDepth 100000 in
theorem wwbyte_any (B b : Nat) (k : Int) (l : List UInt8) (c : UInt8) (w : World) (h : Wr B b k l w) (hl : l.length ≤ 1000000) (hB : B ≤ w.heap.size) :
    Calls Tryd.prog 40 #[.pointer (some ⟨b, 0, none⟩), .int .u8 c.toNat] w fun e w' => e = .returned .nilIface ∧ WTo B b k (l ++ [c]) w w' := by
  obtain ⟨i0, hi, hz0, hz1, hz2⟩ := info_parts byte_info
  have hn : (Lib.byteCells l).length = l.length := Lib.byteCells_length l
  go_enter Tryd.func40, Tryd.ntmps40
  go_wp2_with fail
  refine (wcopy_any B b k l _ h).mono ?_
  rintro e w1 ⟨rfl, ⟨hBb, v, hbk, hown, hne, _⟩, hb1, hk1⟩
  have c1 : w1.cell? ⟨b, 1, none⟩ = some v := by simp [World.cell?, hbk]
  have s1 := hb1.size
  have hlt := heap_lt hbk
  go_wp2_with (at_builtin; refine wpList_append_own _ rfl _ _ 69 rfl B 5 i0 (.int .u8 0) 1 1 Tryd.underlying69 hi hz0 hz1 hz2 rfl (by decide) _ _ _ rfl (hown.alloc _) ⟨w1.heap.size, 0, none⟩ 1 1 [.int .u8 c.toNat] rfl rfl (one_new _ _) (by intro u hu; simp at hu; subst hu; rfl) (by unfold maxLen; omega) (by omega) (by simp; omega) ?_)
  intro v' w2 hown' hgrow _
  have hb2 : w2.heap[b]? = some (.cells #[.pointer (some ⟨b, 0, none⟩), v, .int .i64 k] 73 (0, 0)) := by
    rw [hgrow.block b (by simp; omega) (fun e => hne e.symm), Below.heap_alloc _ _ _ hlt]; exact hbk
  have d1 : w2.cell? ⟨b, 1, none⟩ = some v := by simp [World.cell?, hb2]
  have f1 : w2.frozen? ⟨b, 1, none⟩ = false := by simp [World.frozen?, hb2]
  have hput : WrAt B b k (.pointer (some ⟨b, 0, none⟩)) (l ++ [c]) (w2.setCell ⟨b, 1, none⟩ v') :=
    WrAt.put hBb hb2 (by rw [← bytes_more, List.length_append]; exact hown') (by simp)
  have hbe : Below B w (w2.setCell ⟨b, 1, none⟩ v') := ((hb1.alloc (by omega) _).grown hgrow (by simp; omega) (fun k hk => (hown.lt k hk).1)).setCell (p := ⟨b, 1, none⟩) hBb _
  have hot : Lib.OthersKept 5 (some b) w (w2.setCell ⟨b, 1, none⟩ v') := ((hk1.alloc _).grown hgrow (Lib.ownsRow_kind (hown.alloc _))).setCell ⟨b, 1, none⟩ rfl _
  obtain ⟨g, cap, hv⟩ : ∃ g cap, v' = .slice (some ⟨g, 0, none⟩) (l.length + 1) cap := by
    rcases hown'.2 with ⟨_, h0⟩ | ⟨g, cap, cur, hv, _⟩
    · omega
    · exact ⟨g, cap, hv⟩
  subst hv
  clear hown' hgrow hbk hb2 hown hk1 hb1
  go_wp2
  go_ret
  exact ⟨rfl, Or.inr hput, hbe, hot⟩
set_option maxRecDepth 100000 in
theorem wwstr_any (B b : Nat) (k : Int) (l : List UInt8) (s : ByteArray) (w : World) (h : Wr B b k l w) (hl : l.length ≤ 1000000) (hs : s.size ≤ 1000000) (hs0 : s.data.toList ≠ []) (hB : B ≤ w.heap.size) :
    Calls Tryd.prog 41 #[.pointer (some ⟨b, 0, none⟩), .string s] w fun e w' => e = .returned (.tuple #[.int .i64 s.size, .nilIface]) ∧ WTo B b k (l ++ s.data.toList) w w' := by
  obtain ⟨i0, hi, hz0, hz1, hz2⟩ := info_parts byte_info
  have hn : (Lib.byteCells l).length = l.length := Lib.byteCells_length l
  go_enter Tryd.func41, Tryd.ntmps41
  go_wp2_with fail
  refine (wcopy_any B b k l _ h).mono ?_
  rintro e w1 ⟨rfl, ⟨hBb, v, hbk, hown, hne, _⟩, hb1, hk1⟩
  have c1 : w1.cell? ⟨b, 1, none⟩ = some v := by simp [World.cell?, hbk]
  have s1 := hb1.size
  have hlt := heap_lt hbk
  go_wp2_with (at_builtin; refine Lib.wpList_append_own_string _ rfl _ _ 69 9 rfl B 5 i0 Tryd.underlying69 Tryd.underlying9 hi hz0 hz1 hz2 _ _ _ rfl hown s rfl (by unfold maxLen; omega) (by omega) (by omega) ?_)
  intro v' w2 hown' hgrow _
  have hb2 : w2.heap[b]? = some (.cells #[.pointer (some ⟨b, 0, none⟩), v, .int .i64 k] 73 (0, 0)) := by
    rw [hgrow.block b hlt (fun e => hne e.symm)]; exact hbk
  have d1 : w2.cell? ⟨b, 1, none⟩ = some v := by simp [World.cell?, hb2]
  have f1 : w2.frozen? ⟨b, 1, none⟩ = false := by simp [World.frozen?, hb2]
  have hput : WrAt B b k (.pointer (some ⟨b, 0, none⟩)) (l ++ s.data.toList) (w2.setCell ⟨b, 1, none⟩ v') :=
    WrAt.put hBb hb2 (by rw [← bytes_more, ← Lib.strCells_eq, List.length_append]; exact hown') (fun h => hs0 (List.append_eq_nil_iff.1 h).2)
  have hbe : Below B w (w2.setCell ⟨b, 1, none⟩ v') := (hb1.grown hgrow (by omega) (fun k hk => (hown.lt k hk).1)).setCell (p := ⟨b, 1, none⟩) hBb _
  have hot : Lib.OthersKept 5 (some b) w (w2.setCell ⟨b, 1, none⟩ v') := (hk1.grown hgrow (Lib.ownsRow_kind hown)).setCell ⟨b, 1, none⟩ rfl _
  obtain ⟨ao, n', cap, hv⟩ : ∃ ao n' cap, v' = .slice ao n' cap := by
    rcases hown'.2 with ⟨hv, _⟩ | ⟨g, cap, cur, hv, _⟩
    · exact ⟨_, _, _, hv⟩
    · exact ⟨_, _, _, hv⟩
  subst hv
  clear hown' hgrow hbk hb2 hown hk1 hb1
  go_wp2
  go_ret2
  exact ⟨rfl, Or.inr hput, hbe, hot⟩
set_option maxRecDepth 100000 in
theorem wstring_some (B b : Nat) (k : Int) (l : List UInt8) (w : World) (h : Wr B b k l w) (h0 : l ≠ []) :
    Calls Tryd.prog 25 #[.pointer (some ⟨b, 0, none⟩)] w fun e w' => e = .returned (.string ⟨l.toArray⟩) ∧ Below B w w' := by
  obtain ⟨p, hB, v, hbk, hown, hne, _⟩ : ∃ p, WrAt B b k p l w := h.elim (fun h => ⟨_, h⟩) fun h => ⟨_, h⟩
  have hl0 : l.length ≠ 0 := by simpa using h0
  obtain ⟨g, cap, cur, rfl, hbg, hg, hnc, hcm, hcs, htake⟩ : ∃ g cap cur, v = .slice (some ⟨g, 0, none⟩) l.length cap ∧ B ≤ g ∧ w.heap[g]? = some (.cells cur 5 (0, 0)) ∧ l.length ≤ cap ∧ cap ≤ maxLen ∧ cur.size = cap * 1 ∧ cur.toList.take (l.length * 1) = Lib.byteCells l := by
    rcases hown.2 with ⟨_, hz⟩ | ⟨g, cap, cur, hv, r⟩
    · exact absurd hz hl0
    · exact ⟨g, cap, cur, hv, r⟩
  have c1 : w.drew.cell? ⟨b, 1, none⟩ = some (.slice (some ⟨g, 0, none⟩) l.length cap) := by
    have : w.drew.heap[b]? = some (.cells #[p, .slice (some ⟨g, 0, none⟩) l.length cap, .int .i64 k] 73 (0, 0)) := hbk
    rw [Lib.cell_of_heap this]; rfl
  have hSD : (Builtin.unsafeSliceData_ #[69] 96 #[.slice (some ⟨g, 0, none⟩) l.length cap]).run Tryd.prog w.drew = .ok (.pointer (some ⟨g, 0, none⟩)) w.drew :=
    Lib.run_unsafeSliceData_row _ _ _ _ _ _ (by omega)
  have hUS : (Builtin.unsafeString_ #[96, 3] 9 #[.pointer (some ⟨g, 0, none⟩), .int .i64 l.length]).run Tryd.prog w.drew = .ok (.string ⟨l.toArray⟩) (w.drew.freeze ⟨g, 0, none⟩ l.length) := by
    refine Lib.run_unsafeString_row w.drew 96 3 9 5 Tryd.underlying96 strExtra.cellsByte g cur.size (by have hg' : w.drew.heap[g]? = some (.cells cur 5 (0, 0)) := hg; simp [World.shape?, hg']) l h0 (by omega) (by unfold maxLen at hcm; omega) ?_
    intro j x hx
    have := hown.cells (g := g) rfl j (.int .u8 x.toNat) (by simp [Lib.byteCells, hx])
    exact this
  go_enter Tryd.func25, Tryd.ntmps25
  go_wp2
  go_region
  all_goals (go_wp2; go_ret; exact ⟨rfl, Lib.below_freeze (Below.drew (Below.refl B w)) (p := ⟨g, 0, none⟩) hbg _⟩)
set_option maxRecDepth 100000 in
theorem wstring_none (B b : Nat) (k : Int) (w : World) (h : Wr B b k [] w) :
    Calls Tryd.prog 25 #[.pointer (some ⟨b, 0, none⟩)] w fun e w' => e = .returned (.string ⟨#[]⟩) ∧ Below B w w' := by
  obtain ⟨p, hB, v, hbk, hown, hne, hnil⟩ : ∃ p, WrAt B b k p [] w := h.elim (fun h => ⟨_, h⟩) fun h => ⟨_, h⟩
  have hv := hnil rfl
  subst hv
  have hUS : ∀ W q, (Builtin.unsafeString_ #[96, 3] 9 #[.pointer q, .int .i64 0]).run Tryd.prog W = .ok (.string .empty) W := fun W q => Lib.run_unsafeString_none W _ _ _ q
  have c1 : w.drew.cell? ⟨b, 1, none⟩ = some (.slice none 0 0) := by
    have : w.drew.heap[b]? = some (.cells #[p, .slice none 0 0, .int .i64 k] 73 (0, 0)) := hbk
    rw [Lib.cell_of_heap this]; rfl
  have hSD : (Builtin.unsafeSliceData_ #[69] 96 #[.slice none 0 0]).run Tryd.prog w.drew = .ok (.pointer none) w.drew := rfl
  clear hown hnil hne
  go_enter Tryd.func25, Tryd.ntmps25
  go_wp2
  go_region
  all_goals (go_wp2; go_ret; exact ⟨rfl, Below.drew (Below.refl B w)⟩)
theorem wstring_any (B b : Nat) (k : Int) (l : List UInt8) (w : World) (h : Wr B b k l w) :
    Calls Tryd.prog 25 #[.pointer (some ⟨b, 0, none⟩)] w fun e w' => e = .returned (.string ⟨l.toArray⟩) ∧ Below B w w' := by
  by_cases h0 : l = []
  · subst h0
    exact wstring_none B b k w h
  · exact wstring_some B b k l w h h0
end Go.Proofs.YtcebpmaggnephabDoor
