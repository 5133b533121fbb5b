/-
  Our own: package run: a tick, a stop, a number printed.
-/
import Derived.Test.YtcebpmaggnephacDoorRunSt
import Derived.Deep.AppendLies
import Derived.Deep.RegionLaw
namespace Go.Proofs.YtcebpmaggnephacDoor
open Go.RowKit Go.Maps

set_option maxRecDepth 100000 in
set_option maxHeartbeats 2000000 in
theorem stop_any {w : World} {B mb nb : Nat} {fv ov : Value} {F : List Fu} {s : Ms} {most d : Nat} (h : Mach w B mb nb fv ov F [] s most d) (how : List UInt8) :
    Calls Tryd.prog 45 #[.pointer (some ⟨mb, 0, none⟩), .string ⟨how.toArray⟩] w fun e w' => e = .returned (.bool false) ∧ Mach w' B mb nb fv ov F how s most d ∧ Fr (Sx mb ov.ownBlock) w w' := by
  have c0 : w.cell? ⟨mb, 0, none⟩ = some (.string ⟨([] : List UInt8).toArray⟩) := cell_of_blk h.blk 0
  have f0 := free_of_blk h.blk 0
  have HP := hidX (h.put (j := 0) (u := .string ⟨how.toArray⟩) (how' := how) (s' := s) (d' := d) rfl h.tl h.dl (by simp))
  clear h
  go_enter Tryd.func45, Tryd.ntmps45
  go_wp2
  go_ret
  exact ⟨rfl, HP.out.1, HP.out.2⟩
/-- What a tick comes to. -/
def TickTo (w : World) (B mb nb : Nat) (fv ov : Value) (F : List Fu) (s : Ms) (most d : Nat) (e : Ending) (w' : World) : Prop :=
  Fr (Sx mb ov.ownBlock) w w' ∧ if s.ticks = most then e = .returned (.bool false) ∧ Mach w' B mb nb fv ov F (howS .tired) s most d else e = .returned (.bool true) ∧ Mach w' B mb nb fv ov F [] ⟨s.ticks + 1, s.out⟩ most d
set_option maxRecDepth 100000 in
set_option maxHeartbeats 2000000 in
theorem tick_any {w : World} {B mb nb : Nat} {fv ov : Value} {F : List Fu} {s : Ms} {most d : Nat} (h : Mach w B mb nb fv ov F [] s most d) :
    Calls Tryd.prog 44 #[.pointer (some ⟨mb, 0, none⟩)] w (TickTo w B mb nb fv ov F s most d) := by
  have c3 : w.cell? ⟨mb, 3, none⟩ = some (.int .i64 (s.ticks : Int)) := cell_of_blk h.blk 3
  have c6 : w.cell? ⟨mb, 6, none⟩ = some (.int .i64 (most : Int)) := cell_of_blk h.blk 6
  have f3 := free_of_blk h.blk 3
  have hs' : (s.ticks : Int) ≤ 5000 := by have := h.tl; have := h.ml; omega
  have HM := hidX h
  clear h
  by_cases ht : s.ticks = most
  · have ht' : (s.ticks : Int) = (most : Int) := by omega
    have HT := hidX ht
    clear ht
    go_enter Tryd.func44, Tryd.ntmps44
    go_wp2_with fail
    go_quiet (fail)
    go_wp2_with fail
    refine (stop_any (HM.out.below (by (repeat (first | exact Below.refl _ _ | assumption | refine Below.drew ?_ | refine Below.trans ?_ (drewN_below' _ _ _) | refine Below.setCell ?_ (by first | (simp; done) | (simp; omega)) _ | refine Below.alloc ?_ (by first | (simp; done) | (simp; omega)) _)))) (howS .tired)).mono ?_
    rintro e w' ⟨rfl, h1, h2⟩
    have H1 := hidX h1
    have H2 := hidX (show Fr (Sx mb ov.ownBlock) w w' from (Fr.of (by (repeat (first | exact Below.refl _ _ | assumption | refine Below.drew ?_ | refine Below.trans ?_ (drewN_below' _ _ _) | refine Below.setCell ?_ (by first | (simp; done) | (simp; omega)) _ | refine Below.alloc ?_ (by first | (simp; done) | (simp; omega)) _)))).trans h2 (fun _ _ h => h))
    clear h1 h2
    go_wp2
    go_ret
    exact ⟨H2.out, by rw [if_pos HT.out]; exact ⟨rfl, H1.out⟩⟩
  · have ht' : ¬ (s.ticks : Int) = (most : Int) := by omega
    have HT := hidX ht
    clear ht
    go_enter Tryd.func44, Tryd.ntmps44
    go_wp2_with fail
    go_quiet (fail)
    go_wp2
    go_ret
    have hbq : Below w.heap.size w (w.drewN nq) := by (repeat (first | exact Below.refl _ _ | assumption | refine Below.drew ?_ | refine Below.trans ?_ (drewN_below' _ _ _) | refine Below.setCell ?_ (by first | (simp; done) | (simp; omega)) _ | refine Below.alloc ?_ (by first | (simp; done) | (simp; omega)) _))
    obtain ⟨h1, h2⟩ := (HM.out.below hbq).put (j := 3) (u := .int .i64 ((s.ticks : Int) + 1)) (how' := []) (s' := ⟨s.ticks + 1, s.out⟩) (d' := d) rfl (by show s.ticks + 1 ≤ most; have := HT.out; have := HM.out.tl; omega) HM.out.dl (by simp)
    exact ⟨(Fr.of hbq).trans h2 (fun _ _ h => h), by rw [if_neg HT.out]; exact ⟨rfl, h1⟩⟩
theorem int_info : (Tryd.prog.info? 3).map (fun i => (i.zero, i.size, i.bytes)) = some (some (.int .i64 0), 1, 8) := by kernel_rfl
theorem int_one (v : Int) : ∀ u ∈ ([.int .i64 v] : List Value), u.oneCell' = true := by
  intro u hu
  simp only [List.mem_cons, List.not_mem_nil, or_false] at hu
  rcases hu with rfl; rfl
/-- What a print comes to. -/
def PrintTo (w : World) (B mb nb : Nat) (fv ov : Value) (F : List Fu) (s : Ms) (most d : Nat) (v : Int) (e : Ending) (w' : World) : Prop :=
  Fr (Sx mb ov.ownBlock) w w' ∧ if s.out.length = 1000 then e = .returned (.bool false) ∧ Mach w' B mb nb fv ov F (howS .loud) s most d else e = .returned (.bool true) ∧ ∃ ov', Mach w' B mb nb fv ov' F [] ⟨s.ticks, s.out ++ [v]⟩ most d ∧ RowB w ov.ownBlock ov'.ownBlock
theorem print_fin {w X w4 : World} {B mb nb g cap : Nat} {fv ov : Value} {F : List Fu} {s : Ms} {most d : Nat} {v : Int} (h : Mach w B mb nb fv ov F [] s most d) (hg : X.grownBy w4 ov.ownBlock) (hb : Below w.heap.size w X) (hown : w4.ownsRow B 3 1 (.slice (some ⟨g, 0, none⟩) (s.out.length + 1) cap) (s.out.length + 1) (intsC s.out ++ [.int .i64 v])) (hl : ov.ownBlock = some g ∨ g = X.heap.size) (hne : ¬ s.out.length = 1000) :
    PrintTo w B mb nb fv ov F s most d v (.returned (.bool true)) (w4.setCell ⟨mb, 2, none⟩ (.slice (some ⟨g, 0, none⟩) (s.out.length + 1) cap)) := by
  obtain ⟨m1, m2, m3⟩ := (h.below hb).push (s' := ⟨s.ticks, s.out ++ [v]⟩) (v' := .slice (some ⟨g, 0, none⟩) (s.out.length + 1) cap) rfl (by have := h.ol; show (s.out ++ [v]).length ≤ 1000; rw [List.length_append]; simp; omega) (by show w4.ownsRow B _ 1 _ (s.out ++ [v]).length (intsC (s.out ++ [v])); rw [intsC_snoc, List.length_append]; exact hown) hg (hl.elim (fun e => Or.inl (by rw [e]; rfl)) (fun e => Or.inr (by rw [e]; rfl)))
  exact ⟨(Fr.of hb).trans m2 (fun _ _ h => h), by rw [if_neg hne]; exact ⟨rfl, _, m1, m3.mono hb.size⟩⟩
set_option maxRecDepth 100000 in
set_option maxHeartbeats 2000000 in
theorem print_any {w : World} {B mb nb fb vb : Nat} {fv ov : Value} {F : List Fu} {s : Ms} {most d : Nat} {ans : Int} (h : Mach w B mb nb fv ov F [] s most d) (hf : w.heap[fb]? = some (.cells #[.pointer (some ⟨mb, 0, none⟩), .map (some vb), .int .i64 ans] 97 (0, 0))) (hfo : ov.ownBlock ≠ some fb) (v : Int) :
    Calls Tryd.prog 68 #[.pointer (some ⟨fb, 0, none⟩), .int .i64 v] w (PrintTo w B mb nb fv ov F s most d v) := by
  have c0 : w.cell? ⟨fb, 0, none⟩ = some (.pointer (some ⟨mb, 0, none⟩)) := cell_of_blk hf 0
  have c2 : w.cell? ⟨mb, 2, none⟩ = some ov := cell_of_blk h.blk 2
  have hfl := heap_lt hf
  have hml := h.mlt
  obtain ⟨ado, co, rfl⟩ := own_is h.own
  have ho := h.ol
  have ho' : (s.out.length : Int) ≤ 1000 := by omega
  have HM := hidX h
  have HF := hidX hf
  have HFO := hidX hfo
  clear h hf hfo
  by_cases hl : s.out.length = 1000
  · have hl' : (s.out.length : Int) = 1000 := by omega
    have HL := hidX hl
    clear hl
    go_enter Tryd.func68, Tryd.ntmps68
    go_wp2_with fail
    refine (stop_any HM.out (howS .loud)).mono ?_
    rintro e w' ⟨rfl, h1, h2⟩
    have H1 := hidX h1
    have H2 := hidX h2
    clear h1 h2
    go_wp2
    go_ret
    exact ⟨H2.out, by rw [if_pos HL.out]; exact ⟨rfl, H1.out⟩⟩
  · have hl' : ¬ (s.out.length : Int) = 1000 := by omega
    have HL := hidX hl
    obtain ⟨i0, hi, hz0, hz1, hz2⟩ := info_parts int_info
    have hBX : ∀ X, Below w.heap.size w X → B ≤ X.heap.size := fun X hX => by have := hX.size; have := HM.out.hp; omega
    have k2a : ∀ n, ((w.drewN n).alloc (.cells #[.int .i64 v] 3)).cell? ⟨mb, 2, none⟩ = some (.slice ado s.out.length co) := fun n => ((show Below w.heap.size w ((w.drewN n).alloc (.cells #[.int .i64 v] 3)) by (repeat (first | exact Below.refl _ _ | assumption | refine Below.drew ?_ | refine Below.trans ?_ (drewN_below' _ _ _) | refine Below.setCell ?_ (by first | (simp; done) | (simp; omega)) _ | refine Below.alloc ?_ (by first | (simp; done) | (simp; omega)) _))).cell (p := ⟨mb, 2, none⟩) hml).trans c2
    have k2b : (w.drew.alloc (.cells #[.int .i64 v] 3)).cell? ⟨mb, 2, none⟩ = some (.slice ado s.out.length co) := ((show Below w.heap.size w (w.drew.alloc (.cells #[.int .i64 v] 3)) by (repeat (first | exact Below.refl _ _ | assumption | refine Below.drew ?_ | refine Below.trans ?_ (drewN_below' _ _ _) | refine Below.setCell ?_ (by first | (simp; done) | (simp; omega)) _ | refine Below.alloc ?_ (by first | (simp; done) | (simp; omega)) _))).cell (p := ⟨mb, 2, none⟩) hml).trans c2
    have k0a : ∀ n, ((w.drewN n).alloc (.cells #[.int .i64 v] 3)).cell? ⟨fb, 0, none⟩ = some (.pointer (some ⟨mb, 0, none⟩)) := fun n => ((show Below w.heap.size w ((w.drewN n).alloc (.cells #[.int .i64 v] 3)) by (repeat (first | exact Below.refl _ _ | assumption | refine Below.drew ?_ | refine Below.trans ?_ (drewN_below' _ _ _) | refine Below.setCell ?_ (by first | (simp; done) | (simp; omega)) _ | refine Below.alloc ?_ (by first | (simp; done) | (simp; omega)) _))).cell (p := ⟨fb, 0, none⟩) hfl).trans c0
    have k0b : (w.drew.alloc (.cells #[.int .i64 v] 3)).cell? ⟨fb, 0, none⟩ = some (.pointer (some ⟨mb, 0, none⟩)) := ((show Below w.heap.size w (w.drew.alloc (.cells #[.int .i64 v] 3)) by (repeat (first | exact Below.refl _ _ | assumption | refine Below.drew ?_ | refine Below.trans ?_ (drewN_below' _ _ _) | refine Below.setCell ?_ (by first | (simp; done) | (simp; omega)) _ | refine Below.alloc ?_ (by first | (simp; done) | (simp; omega)) _))).cell (p := ⟨fb, 0, none⟩) hfl).trans c0
    clear hl
    go_enter Tryd.func68, Tryd.ntmps68
    go_wp2_with fail
    go_region_law (first
        | (refine step_append_lies _ rfl (.tmp 31) (.tmp 33) 42 rfl B 3 i0 _ 1 8 Tryd.underlying42 hi hz0 hz1 hz2 rfl (by decide) _ s.out.length (intsC s.out) (by first | (simp [Act.eval]; done) | (simp [Act.eval]; rfl) | (simp [Act.eval, Act.put]; done) | (simp [Act.eval, Act.put]; rfl)) (owns_below HM.out.own (by (repeat (first | exact Below.refl _ _ | assumption | refine Below.drew ?_ | refine Below.trans ?_ (drewN_below' _ _ _) | refine Below.setCell ?_ (by first | (simp; done) | (simp; omega)) _ | refine Below.alloc ?_ (by first | (simp; done) | (simp; omega)) _)))) ⟨_, 0, none⟩ 1 1 [.int .i64 v] (by first | (simp [Act.eval]; done) | (simp [Act.eval]; rfl) | (simp [Act.eval, Act.put]; done) | (simp [Act.eval, Act.put]; rfl)) rfl (World.news_of_block (heap_alloc_new _ _)) (int_one v) (by decide) (by show s.out.length + 1 ≤ 9223372036854775807; omega) (by omega) (hBX _ (by (repeat (first | exact Below.refl _ _ | assumption | refine Below.drew ?_ | refine Below.trans ?_ (drewN_below' _ _ _) | refine Below.setCell ?_ (by first | (simp; done) | (simp; omega)) _ | refine Below.alloc ?_ (by first | (simp; done) | (simp; omega)) _)))) _ rfl ?_; intro g4 cap4 w4 hown4 hgrow hloc _; have hp4 : w4.heap[mb]? = _ := (hgrow.block mb (by first | exact hml | (simp; omega)) (fun e => HM.out.n1 e.symm)).trans ((show Below w.heap.size w _ by (repeat (first | exact Below.refl _ _ | assumption | refine Below.drew ?_ | refine Below.trans ?_ (drewN_below' _ _ _) | refine Below.setCell ?_ (by first | (simp; done) | (simp; omega)) _ | refine Below.alloc ?_ (by first | (simp; done) | (simp; omega)) _))).block mb hml |>.trans HM.out.blk); have f2 := free_of_blk hp4 2; have s2 : w4.cell? ⟨mb, 2, none⟩ = some (.slice ado s.out.length co) := cell_of_blk hp4 2; have hf4 : w4.heap[fb]? = _ := (hgrow.block fb (by first | exact hfl | (simp; omega)) (fun e => HFO.out e.symm)).trans ((show Below w.heap.size w _ by (repeat (first | exact Below.refl _ _ | assumption | refine Below.drew ?_ | refine Below.trans ?_ (drewN_below' _ _ _) | refine Below.setCell ?_ (by first | (simp; done) | (simp; omega)) _ | refine Below.alloc ?_ (by first | (simp; done) | (simp; omega)) _))).block fb hfl |>.trans HF.out); have s0 : w4.cell? ⟨fb, 0, none⟩ = some (.pointer (some ⟨mb, 0, none⟩)) := cell_of_blk hf4 0; clear hp4 hf4))
    all_goals (
      go_wp2
      go_ret
      exact print_fin HM.out hgrow (by (repeat (first | exact Below.refl _ _ | assumption | refine Below.drew ?_ | refine Below.trans ?_ (drewN_below' _ _ _) | refine Below.setCell ?_ (by first | (simp; done) | (simp; omega)) _ | refine Below.alloc ?_ (by first | (simp; done) | (simp; omega)) _))) hown4 hloc HL.out)
end Go.Proofs.YtcebpmaggnephacDoor
