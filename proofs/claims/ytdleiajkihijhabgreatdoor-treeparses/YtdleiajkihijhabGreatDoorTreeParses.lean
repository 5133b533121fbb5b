/-
  Our own: the reference's tokens, as the package has them; the law TreeParses, walked.
-/
import Derived.Test.YtdleiajkihijhabGreatDoorSame
import Derived.Test.YtdleiajkihijhabGreatDoorLexOf
import Derived.Test.YtdleiajkihijhabGreatDoorFaulted
namespace Go.Proofs.YtdleiajkihijhabGreatDoor
open Go.RowKit

theorem toksV_row {w : World} {B p : Nat} {t : TypeId} {v : Value} {T : List Tok} (h : w.ownsRow B t 3 v T.length (toksC T)) (hp : w.heap.size ≤ p) : ToksV w v T p := by
  obtain ⟨ad, cap, rfl, hx⟩ := tokAny h
  refine ⟨ad, cap, rfl, fun hn => ?_⟩
  obtain ⟨g, rfl, hv⟩ := hx hn
  have hl : 0 < T.length := List.length_pos_iff.2 hn
  refine ⟨g, 0, rfl, by have : g < w.heap.size := cell_lt (hv.c0 0 hl); omega, ⟨fun i hi => ?_, fun i hi => ?_, fun i hi => ?_⟩⟩
  · rw [Nat.zero_add]; exact hv.c0 i hi
  · rw [Nat.zero_add]; exact hv.c1 i hi
  · rw [Nat.zero_add]; exact hv.c2 i hi
/-- A region whose orders all end in one frame but for what an append gives. -/
theorem reg_cut2 {P : Program} {c : Code} {Q : Exit → Act → World → Prop} {a : Act} {w : World} (F : Nat → Nat → Act) (R : Nat → Nat → World → Prop) (h : c.wp P (Exit.then (fun a' w' => ∃ g cap, a' = F g cap ∧ R g cap w') (fun _ _ _ => False)) a w) (k : ∀ g cap w', R g cap w' → Q .normal (F g cap) w') : c.wp P Q a w :=
  Code.wp_mono (fun e a w g => by
    cases e with
    | normal => obtain ⟨x, y, rfl, g⟩ := g; exact k _ _ _ g
    | _ => exact g.elim) h
theorem grown_below {B : Nat} {w a b : World} {v : Value} {t : TypeId} {n size : Nat} {xs : List Value} {W : World} (h : Below B w a) (hB : B ≤ w.heap.size) (hown : W.ownsRow B t size v n xs) (hg : a.grownBy b v.ownBlock) : Below B w b :=
  ⟨hg.os.trans h.os, hg.tape.trans h.tape, hg.output.trans h.output, Nat.le_trans h.size hg.size, fun i hi => (hg.block i (by have := h.size; omega) (fun e => by have := (hown.lt i e.symm).1; omega)).trans (h.block i hi)⟩
set_option maxRecDepth 100000 in
set_option maxHeartbeats 2000000 in
theorem tokensOf_any (ts : List Tok) (hn : ts.length ≤ 1000) (w : World) (B : Nat) (v : Value) (h : w.ownsRow B 54 3 v ts.length (toksC ts)) :
    Calls Tryz.prog 7 #[v] w fun e w' => Below w.heap.size w w' ∧ ∃ v', e = .returned v' ∧ w'.ownsRow w.heap.size 62 3 v' ts.length (toksC ts) := by
  obtain ⟨i0, hi, hz0, hz1, hz2⟩ := info_parts tok_info
  obtain ⟨ad, cap, rfl, hx⟩ := tokAny h
  have hn' : (ts.length : Int) ≤ 1000 := by omega
  have HX := hidR hx
  clear hx h
  go_enter Tryz.func7, Tryz.ntmps7
  go_wp2_with fail
  go_loopw [3, 4] (fun o i wr => ∃ q : Nat, q ≤ ts.length ∧ i = .int .i64 q ∧ Below w.heap.size w wr ∧ wr.ownsRow w.heap.size 62 3 o q (toksC (ts.take q))) (fun _ i _ => ts.length - (intOf i).toNat)
  case atStart => exact ⟨0, Nat.zero_le _, rfl, by (repeat (first | exact Below.refl _ _ | assumption | refine Below.drew ?_ | refine Below.trans ?_ (drewN_below' _ _ _) | refine Below.setCell ?_ (by first | (simp; done) | (simp; omega)) _ | refine Below.alloc ?_ (by first | (simp; done) | (simp; omega)) _)), rfl, Or.inl ⟨rfl, rfl⟩⟩
  case round =>
    obtain ⟨q, hq, rfl, hbl, hown⟩ := hrel
    obtain ⟨adv, capv, rfl⟩ := tokEmpty hown
    have hzr := hbl.size
    by_cases hlt : q < ts.length
    · have hlt' : (q : Int) < (ts.length : Int) := by omega
      obtain ⟨g, rfl, hv⟩ := HX.out (by intro e; rw [e] at hlt; simp at hlt)
      have hg : g < w.heap.size := cell_lt (hv.c0 q hlt)
      have a0 := (hbl.cell (p := ⟨g, q * 3, none⟩) hg).trans (hv.c0 q hlt)
      have a1 := (hbl.cell (p := ⟨g, q * 3 + 1, none⟩) hg).trans (hv.c1 q hlt)
      have a2 := (hbl.cell (p := ⟨g, q * 3 + 2, none⟩) hg).trans (hv.c2 q hlt)
      have htk : toksC (ts.take (q + 1)) = toksC (ts.take q) ++ [.string ⟨ts[q].kind.toArray⟩, .string ⟨ts[q].text.toArray⟩, .int .i64 ts[q].pos] := by
        rw [List.take_succ_eq_append_getElem hlt, toksC_snoc]; rfl
      have HK := hidR htk
      clear htk hv
      generalize ts[q] = x at a0 a1 a2 HK
      have HOW := hidR hown
      clear hown
      go_wp2
      apply reg_cut2 (R := fun g cap w' => Below w.heap.size w w' ∧ w'.ownsRow w.heap.size 62 3 (.slice (some ⟨g, 0, none⟩) (q + 1) cap) (q + 1) (toksC (ts.take (q + 1))))
      · go_region_law (refine step_append_lies _ rfl (.tmp 11) (.tmp 28) 33 rfl w.heap.size 62 i0 _ 3 40 Tryz.underlying33 hi hz0 hz1 hz2 rfl (by decide) _ q (toksC (ts.take q)) (by first | (simp [Act.eval]; done) | (simp [Act.eval]; rfl) | (simp [Act.eval, Act.put]; done) | (simp [Act.eval, Act.put]; rfl)) (owns_below HOW.out (by (repeat (first | exact Below.refl _ _ | assumption | refine Below.drew ?_ | refine Below.trans ?_ (drewN_below' _ _ _) | refine Below.setCell ?_ (by first | (simp; done) | (simp; omega)) _ | refine Below.alloc ?_ (by first | (simp; done) | (simp; omega)) _)))) ⟨_, 0, none⟩ 1 1 [.string ⟨x.kind.toArray⟩, .string ⟨x.text.toArray⟩, .int .i64 x.pos] (by first | (simp [Act.eval]; done) | (simp [Act.eval]; rfl) | (simp [Act.eval, Act.put]; done) | (simp [Act.eval, Act.put]; rfl)) rfl (World.news_of_block (heap_alloc_new _ _)) (tok_one x.kind x.text x.pos) (by decide) (by show q + 1 ≤ 9223372036854775807; omega) (by omega) (by first | omega | (simp; omega)) _ rfl ?_; intro g4 cap4 w4 hown4 hgrow _ _)
        all_goals exact ⟨_, _, rfl, grown_below (by first | exact hbl.alloc hzr _ | exact (hbl.alloc hzr _).drew | exact hbl.drew.alloc hzr _) (Nat.le_refl _) HOW.out hgrow, by rw [HK.out]; exact hown4⟩
      · rintro g4 cap4 w4 ⟨hb4, ho4⟩
        have HO4 := hidR ho4
        clear ho4 a0 a1 a2
        go_wp2
        go_roundw
        case rel => exact ⟨q + 1, by omega, by go_num, hb4, HO4.out⟩
        case measure => simp [intOf]; omega
    · have hqn : q = ts.length := by omega
      subst hqn
      rw [List.take_length] at hown
      go_wp2
      go_ret
      exact ⟨hbl, _, rfl, hown⟩


theorem Sents.cutG {w : World} {s : Nat → Addr} (h : Sents w s) : CutG w s := ⟨h.lexG, h.glob 9 (by decide)⟩
theorem alike_nil (w : World) : Calls Tryz.prog 10 #[.slice none 0 0, .slice none 0 0] w fun e w' => e = .returned (.int .i64 1) ∧ Below w.heap.size w w' :=
  alike_any [] (by simp) (by simp) w _ _ [] [] ⟨none, 0, rfl, fun h => absurd rfl h⟩ rfl ⟨none, 0, rfl, fun h => absurd rfl h⟩ rfl
/-- A variable of two cells, stored to. -/
theorem box_two {B b : Nat} {w w6 : World} {x0 x1 : Value} {t : TypeId} (u0 u1 : Value) (h : Below B w w6) (hB : B ≤ b) (hx : w6.heap[b]? = some (.cells #[x0, x1] t (0, 0))) :
    Below B w ((w6.setCell ⟨b, 0, none⟩ u0).setCell ⟨b, 1, none⟩ u1) ∧ (∀ k, k ≠ b → ((w6.setCell ⟨b, 0, none⟩ u0).setCell ⟨b, 1, none⟩ u1).heap[k]? = w6.heap[k]?) ∧ ((w6.setCell ⟨b, 0, none⟩ u0).setCell ⟨b, 1, none⟩ u1).heap.size = w6.heap.size ∧
    ((w6.setCell ⟨b, 0, none⟩ u0).setCell ⟨b, 1, none⟩ u1).cell? ⟨b, 0, none⟩ = some u0 ∧ ((w6.setCell ⟨b, 0, none⟩ u0).setCell ⟨b, 1, none⟩ u1).cell? ⟨b, 1, none⟩ = some u1 := by
  have y := blk_setCell (blk_setCell hx 0 u0) 1 u1
  refine ⟨(h.setCell hB _).setCell hB _, fun k hk => by rw [heap_far hk, heap_far hk], by simp [World.setCell], cell_of_blk y 0, cell_of_blk y 1⟩
set_option maxRecDepth 100000 in
set_option maxHeartbeats 2000000 in
theorem treeParses_any (s : Nat → Addr) (t : ByteArray) (hm : t.size ≤ 9223372036854775807) (w : World) (hS : Sents w s) :
    Calls Tryz.prog 3 #[.string t] w fun e w' => e = .returned (.bool true) ∧ Below w.heap.size w w' := by
  have hm' : (t.size : Int) ≤ 9223372036854775807 := by omega
  go_enter Tryz.func3, Tryz.ntmps3
  go_wp2_with fail
  refine (treed_any s _ hS.cutG).mono ?_
  rintro e w1 ⟨rfl, hb1⟩
  have hS1 := hS.below hb1
  have z1 := hb1.size
  by_cases hl : 2000 < t.size
  · have hl' : (2000 : Int) < t.size := by omega
    go_wp2
    go_ret
    exact ⟨rfl, hb1⟩
  · have hl' : ¬ (2000 : Int) < t.size := by omega
    go_wp2_with fail
    refine (lexOf_any t (by omega) w1).mono ?_
    rintro e w2 ⟨ts, er, hsc, hb2, hx⟩
    have hS2 := hS1.below hb2
    have z2 := hb2.size
    have hb12 := bl_trans hb1 z1 hb2
    rcases hx with ⟨rfl, hlen, v, rfl, ho⟩ | ⟨p, rfl, rfl⟩ | ⟨rfl, hlen, rfl⟩
    · have HG := hidR hsc.good
      have HO := hidR ho
      clear hsc ho
      go_wp2_with fail
      have hb3 : Below w2.heap.size w2 (w2.alloc (.cells #[.int .i64 0, .int .i64 (-1)] 25)) := (Below.refl _ _).alloc (Nat.le_refl _) _
      have hx3 := heap_alloc_new w2 (.cells #[.int .i64 0, .int .i64 (-1)] 25)
      have z3 := size_alloc w2 (.cells #[.int .i64 0, .int .i64 (-1)] 25)
      generalize w2.alloc (.cells #[.int .i64 0, .int .i64 (-1)] 25) = w3 at hb3 hx3 z3 ⊢
      have hb13 := bl_trans hb12 (by omega) hb3
      have hS3 := hS2.below hb3
      have ho3 := owns_below HO.out hb3
      refine (tokensOf_any ts hlen w3 _ v ho3).mono ?_
      rintro e w4 ⟨hb4, v4, rfl, ho4⟩
      have z4 := hb4.size
      have hS4 := hS3.below hb4
      have hb14 := bl_trans hb13 (by omega) hb4
      have HO4 := hidR ho4
      have HO4' := hidR (owns_below ho3 hb4)
      have HX3 := hidR hx3
      clear ho4 ho3 hx3
      go_wp2_with fail
      refine (parse_any (a := s) HG.out hlen hS4.cutG.tree (toksV_row HO4.out (Nat.le_refl _))).mono ?_
      rintro e w5 ⟨hb5, h5⟩
      have z5 := hb5.size
      have hS5 := hS4.below hb5
      have hb15 := bl_trans hb14 (by omega) hb5
      cases hp : parseT ts with
      | out => rw [hp] at h5; exact h5.elim
      | bad c k =>
        rw [hp] at h5
        obtain ⟨b, rfl, hlb, hblk⟩ := h5
        go_wp2_with fail
        refine (rparse_any HG.out hlen (toksV_row (owns_below HO4'.out hb5) (Nat.le_refl _))).mono ?_
        rintro e w6 ⟨hb6, h6⟩
        rw [hp] at h6
        obtain ⟨hc0, rfl⟩ := h6
        have hc10 := parse_low hp
        have z6 := hb6.size
        have hS6 := hS5.below hb6
        have hb16 := bl_trans hb15 (by omega) hb6
        have hx6 : w6.heap[w2.heap.size]? = some (.cells #[.int .i64 0, .int .i64 (-1)] 25 (0, 0)) := (hb6.block _ (by omega)).trans ((hb5.block _ (by omega)).trans ((hb4.block _ (by omega)).trans HX3.out))
        have c0 := cell_of_blk hx6 0
        have c1 := cell_of_blk hx6 1
        have g0 := free_of_blk hx6 0
        have g1 := free_of_blk hx6 1
        have lx := heap_lt hx6
        obtain ⟨k1, k2, k3, k4, k5⟩ := box_two (.int .i64 (c : Nat)) (.int .i64 (k : Nat)) hb16 (b := w2.heap.size) (by omega) hx6
        have b26 := bl_trans hb3 hb3.size (bl_trans hb4 hb4.size (bl_trans hb5 hb5.size hb6))
        have hS7 := hS2.below (box_two (.int .i64 (c : Nat)) (.int .i64 (k : Nat)) b26 (b := w2.heap.size) (Nat.le_refl _) hx6).1
        have hblk6 := (hb6.block _ (heap_lt hblk)).trans hblk
        have hblk7 := (k2 b (by omega)).trans hblk6
        have K1 := hidR k1
        have HS7 := hidR hS7
        have HB7 := hidR hblk7
        clear hS7 hblk7 hblk6 hblk k1 k2
        go_wp2_with fail
        refine (faulted_fault s (c - 1) (by omega) c (by omega) b k _ HS7.out HB7.out).mono ?_
        rintro e w8 ⟨rfl, hb8⟩
        have hb18 := bl_trans K1.out K1.out.size hb8
        clear HB7 HS7 k3 k4 k5
        go_wp2_with fail
        refine (alike_nil w8).mono ?_
        rintro e w9 ⟨rfl, hb9⟩
        have hb19 := bl_trans hb18 hb18.size hb9
        go_wp2
        go_ret
        exact ⟨rfl, hb19⟩
      | ok P j =>
        rw [hp] at h5
        obtain ⟨ad, n, cc, xs, rfl, r5, p5⟩ := h5
        have R5 := hidR r5
        have P5 := hidR p5
        clear r5 p5
        go_wp2_with fail
        refine (rparse_any HG.out hlen (toksV_row (owns_below HO4'.out hb5) (Nat.le_refl _))).mono ?_
        rintro e w6 ⟨hb6, h6⟩
        rw [hp] at h6
        obtain ⟨ad', n', cc', xs', rfl, r6, p6⟩ := h6
        obtain ⟨hpl, hps⟩ := parse_small hp
        have z6 := hb6.size
        have hb16 := bl_trans hb15 (by omega) hb6
        have hx6 : w6.heap[w2.heap.size]? = some (.cells #[.int .i64 0, .int .i64 (-1)] 25 (0, 0)) := (hb6.block _ (by omega)).trans ((hb5.block _ (by omega)).trans ((hb4.block _ (by omega)).trans HX3.out))
        have c0 := cell_of_blk hx6 0
        have c1 := cell_of_blk hx6 1
        have g0 := free_of_blk hx6 0
        have g1 := free_of_blk hx6 1
        have lx := heap_lt hx6
        obtain ⟨k1, k2, k3, k4, k5⟩ := box_two (.int .i64 0) (.int .i64 (-1)) hb16 (b := w2.heap.size) (by omega) hx6
        have K1 := hidR k1
        have K2 := hidR k2
        have K3 := hidR k3
        have R6 := hidR r6
        have P6 := hidR p6
        have PS := hidR hps
        clear k1 k2 k3 r6 p6 hps hp
        go_wp2_with fail
        generalize (w6.setCell ⟨w2.heap.size, 0, none⟩ (.int .i64 0)).setCell ⟨w2.heap.size, 1, none⟩ (.int .i64 (-1)) = w7 at K1 K2 K3 k4 k5 ⊢
        have z7 := K3.out
        refine (faulted_nil w7).mono ?_
        rintro e w8 ⟨rfl, hb8⟩
        have z8 := hb8.size
        have hb18 := bl_trans K1.out K1.out.size hb8
        have kA : ∀ b, InB w4.heap.size w5 b → InW w8 b := fun b hb => by have := hb.2; show b < _; omega
        have kB : ∀ b, InB w5.heap.size w6 b → InW w8 b := fun b hb => by have := hb.2; show b < _; omega
        have mA : KeepA (InB w4.heap.size w5) w5 w8 := fun b hb => by
          have h1 := hb.1
          have h2 := hb.2
          exact (hb8.block b (by omega)).trans ((K2.out b (by omega)).trans (hb6.block b h2))
        have mB : KeepA (InB w5.heap.size w6) w6 w8 := fun b hb => by
          have h1 := hb.1
          have h2 := hb.2
          exact (hb8.block b (by omega)).trans (K2.out b (by omega))
        have HC := hidR (alike_any P hpl PS.out w8 _ _ xs xs' (R5.out.imp kA mA) (RepFs.imp kA mA _ _ P5.out) (R6.out.imp kB mB) (RepFs.imp kB mB _ _ P6.out))
        clear kA kB mA mB k4 k5 R5 R6 P5 P6
        go_wp2_with fail
        refine HC.out.mono ?_
        rintro e w9 ⟨rfl, hb9⟩
        have hb19 := bl_trans hb18 hb18.size hb9
        go_wp2
        go_ret
        exact ⟨rfl, hb19⟩
    · clear hsc
      go_wp2
      go_ret
      exact ⟨rfl, hb12.alloc (by omega) _⟩
    · clear hsc
      go_wp2
      go_ret
      exact ⟨rfl, hb12.alloc (by omega) _⟩
end Go.Proofs.YtdleiajkihijhabGreatDoor
