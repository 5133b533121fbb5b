/-
  Our own: package show: statements with blocks as text; every statement.
-/
import Derived.Test.YtcebpmaggnephabDoorShowSm
namespace Go.Proofs.YtcebpmaggnephabDoor
open Go.RowKit

set_option maxRecDepth 100000 in
set_option maxHeartbeats 2000000 in
theorem stmt_cond (k : List UInt8) (hk : k = kWhile ∨ k = kIf) (e : Ex) (t o : List Sm) (hp : PE e) (iht : BlW t) (iho : BlW o) (ho8 : o.length ≤ 1000000) (hko : k = kWhile → o = []) (tt : List UInt8) (tx0 : List UInt8) (htx0 : tx0 = textE e) (d : Nat)
    (htt : tt = lineT d (k ++ [32] ++ tx0 ++ [32, 123]) ++ (textSs (d + 1) t ++ ((if o.isEmpty then [] else lineT d [125, 32, 101, 108, 115, 101, 32, 123] ++ textSs (d + 1) o) ++ lineT d [125]))) :
    ∀ (w : World) (a : Nat → Addr) (B b : Nat) (l : List UInt8) (cs : List Value), Wr B b (d : Nat) l w → ShG B w a → B ≤ w.heap.size → RepS (fun b => b < B) w (.mk k [] e t o) cs → l.length + tt.length ≤ 1000000 →
      Calls Tryd.prog 43 #[.pointer (some ⟨b, 0, none⟩), .agg cs.toArray] w fun ev w' => ev = .returned (.tuple #[]) ∧ WTo B b (d : Nat) (l ++ tt) w w' := by
  intro w a B b l cs hW hG hB hr hl
  obtain ⟨es, tv, ts, ov, os, rfl, he, ht, hts, ho, hos⟩ := hr
  have hkl : k.length ≤ 5 := by rcases hk with h | h <;> (rw [h]; decide)
  have hlen : tt.length = d + (k.length + 1 + tx0.length + 2) + 1 + (textSs (d + 1) t).length + (if o.isEmpty then 0 else (d + 8 + 1) + (textSs (d + 1) o).length) + (d + 1 + 1) := by
    rw [htt]
    simp only [lineT, List.length_append, List.length_cons, List.length_nil, List.length_replicate]
    split <;> simp <;> omega
  have hbne : w.heap.size ≠ b := fun e => by have := hW.lt.2; omega
  have hEx : ∀ X, Below w.heap.size w X → Calls Tryd.prog 20 #[.agg es.toArray] X fun ev w' => ev = .returned (.string ⟨tx0.toArray⟩) ∧ Below X.heap.size X w' := fun X hX => by
    have := exprS_any hp (hG.on (below_le hX hB)) (Nat.le_trans hB hX.size) (repE_keep he (below_le hX hB)) (by rw [← htx0]; omega)
    rwa [← htx0] at this
  have hline : ∀ X l' (t : ByteArray) x, t.data.toList = x → x ≠ [] → Wr B b (d : Nat) l' X → Below B w X → l'.length + d + x.length + 1 ≤ 1000000 → Calls Tryd.prog 22 #[.pointer (some ⟨b, 0, none⟩), .string t] X fun ev w' => ev = .returned (.tuple #[]) ∧ WTo B b (d : Nat) (l' ++ lineT d x) X w' := fun X l' t x h1 h2 hX hb h4 => line_any t x h1 h2 hX (Nat.le_trans hB hb.size) h4
  have hbt : ∀ X l', Below B w X → Wr B b (d : Nat) l' X → l'.length + (textSs (d + 1) t).length ≤ 1000000 → Calls Tryd.prog 24 #[.pointer (some ⟨b, 0, none⟩), tv] X fun ev w' => ev = .returned (.tuple #[]) ∧ WTo B b (d : Nat) (l' ++ textSs (d + 1) t) X w' := fun X l' hX hWX hl' =>
    iht X a B b d l' tv ts hWX (hG.on hX) (Nat.le_trans hB hX.size) (ht.imp (fun _ h => h) (fun b hb => hX.block b hb)) (RepSs.imp (fun _ h => h) (fun b hb => hX.block b hb) _ _ hts) hl' (by omega)
  have hbo : ∀ X l', Below B w X → Wr B b (d : Nat) l' X → l'.length + (textSs (d + 1) o).length ≤ 1000000 → Calls Tryd.prog 24 #[.pointer (some ⟨b, 0, none⟩), ov] X fun ev w' => ev = .returned (.tuple #[]) ∧ WTo B b (d : Nat) (l' ++ textSs (d + 1) o) X w' := fun X l' hX hWX hl' =>
    iho X a B b d l' ov os hWX (hG.on hX) (Nat.le_trans hB hX.size) (ho.imp (fun _ h => h) (fun b hb => hX.block b hb)) (RepSs.imp (fun _ h => h) (fun b hb => hX.block b hb) _ _ hos) hl' (by omega)
  have hsz0 := size_toArray k
  have hsz1 : (⟨#[32]⟩ : ByteArray).size = 1 := rfl
  have hsz2 := size_toArray tx0
  have hsz3 : (⟨#[32, 123]⟩ : ByteArray).size = 2 := rfl
  obtain ⟨s1, ha1, hl1, hz1⟩ := cat_list ⟨k.toArray⟩ ⟨#[32]⟩ (by omega) rfl rfl
  obtain ⟨s2, ha2, hl2, hz2⟩ := cat_list s1 ⟨tx0.toArray⟩ (by omega) hl1 rfl
  obtain ⟨s3, ha3, hl3, hz3⟩ := cat_list s2 ⟨#[32, 123]⟩ (by omega) hl2 rfl
  generalize textSs (d + 1) t = t1 at hlen hbt htt
  generalize textSs (d + 1) o = t2 at hlen hbo htt
  have HX := hidS hEx
  have HLN := hidS hline
  have HLS := hidS hl3
  have HLL := hidS hl
  have HLE := hidS hlen
  have HBT := hidS hbt
  have HBO := hidS hbo
  have HTT := hidS htt
  have HW := hidS hW
  obtain ⟨ek, en, em, eks⟩ := e
  obtain ⟨ev, exs, rfl, her, _⟩ := he
  obtain ⟨ade, cae, rfl, _⟩ := her
  obtain ⟨adt, ct, rfl, _⟩ := ht
  obtain ⟨ado, co, rfl, _⟩ := ho
  have hb0 := box_blkS w #[.string ⟨k.toArray⟩, .string ⟨#[]⟩, .string ⟨ek.toArray⟩, .int .i64 en, .string ⟨em.toArray⟩, .slice ade eks.length cae, .slice adt t.length ct, .slice ado o.length co] 57
  clear hEx hline hl1 hl2 hl3 hz1 hz2 hz3 hl hlen hts hos hW hG hsz0 hsz1 hsz2 hsz3 iht iho hbt hbo htt htx0 hkl hp
  rcases hk with rfl | rfl
  · have hon := hko rfl
    subst hon
    clear hko
    simp only [List.length_nil] at *
    unfold kWhile at *
    go_enter Tryd.func43, Tryd.ntmps43
    go_wp2_with fail
    refine (HX.out _ hb0).mono ?_
    rintro e w1 ⟨rfl, hb1⟩
    have hb01 : Below w.heap.size w w1 := bl_trans hb0 hb0.size hb1
    have bk := (hb1.block _ (by simp)).trans (heap_alloc_new _ _)
    have d0 := cell_of_blk bk 0
    simp at d0
    clear hb1
    have BK := hidS bk
    clear bk
    go_wp2_with fail
    refine (HLN.out _ l _ _ HLS.out (by simp) (HW.out.keep hb01) (hb01.mono hB) (by have := HLL.out; have := HLE.out; simp only [List.length_append, List.length_cons, List.length_nil] at *; omega)).mono ?_
    rintro e w2 ⟨rfl, hw2⟩
    have bk2 := hw2.blk BK.out hbne (by decide)
    have HW2 := hidS (WTo.after hb01 hB hw2)
    have d6 := cell_of_blk bk2 6
    simp at d6
    have BK2 := hidS bk2
    clear bk2 hw2 d0
    go_wp2_with fail
    refine (HBT.out _ _ HW2.out.2.1 HW2.out.1 (by have := HLL.out; have := HLE.out; simp only [lineT, List.length_append, List.length_cons, List.length_nil, List.length_replicate] at *; omega)).mono ?_
    rintro e w3 ⟨rfl, hw3⟩
    have bk3 := hw3.blk BK2.out hbne (by decide)
    have HW3 := hidS (HW2.out.trans hw3)
    have d0 := cell_of_blk bk3 0
    have d7 := cell_of_blk bk3 7
    simp at d0 d7
    have BK3 := hidS bk3
    clear bk3 hw3 d6
    go_wp2_with fail
    refine (HLN.out _ _ ⟨#[125]⟩ [125] rfl (by simp) HW3.out.1 HW3.out.2.1 (by have := HLL.out; have := HLE.out; simp only [lineT, List.length_append, List.length_cons, List.length_nil, List.length_replicate, List.isEmpty_nil, if_true] at *; omega)).mono ?_
    rintro e w4 ⟨rfl, hw4⟩
    have HF := hidS (HW3.out.trans hw4)
    clear hw4 d0 d7
    go_wp2
    go_end0
    refine ⟨rfl, ?_⟩
    rw [HTT.out]
    simpa using HF.out
  · clear hko
    by_cases hon : o = []
    · subst hon
      simp only [List.length_nil] at *
      unfold kIf at *
      go_enter Tryd.func43, Tryd.ntmps43
      go_wp2_with fail
      refine (HX.out _ hb0).mono ?_
      rintro e w1 ⟨rfl, hb1⟩
      have hb01 : Below w.heap.size w w1 := bl_trans hb0 hb0.size hb1
      have bk := (hb1.block _ (by simp)).trans (heap_alloc_new _ _)
      have d0 := cell_of_blk bk 0
      simp at d0
      clear hb1
      have BK := hidS bk
      clear bk
      go_wp2_with fail
      refine (HLN.out _ l _ _ HLS.out (by simp) (HW.out.keep hb01) (hb01.mono hB) (by have := HLL.out; have := HLE.out; simp only [List.length_append, List.length_cons, List.length_nil] at *; omega)).mono ?_
      rintro e w2 ⟨rfl, hw2⟩
      have bk2 := hw2.blk BK.out hbne (by decide)
      have HW2 := hidS (WTo.after hb01 hB hw2)
      have d6 := cell_of_blk bk2 6
      simp at d6
      have BK2 := hidS bk2
      clear bk2 hw2 d0
      go_wp2_with fail
      refine (HBT.out _ _ HW2.out.2.1 HW2.out.1 (by have := HLL.out; have := HLE.out; simp only [lineT, List.length_append, List.length_cons, List.length_nil, List.length_replicate] at *; omega)).mono ?_
      rintro e w3 ⟨rfl, hw3⟩
      have bk3 := hw3.blk BK2.out hbne (by decide)
      have HW3 := hidS (HW2.out.trans hw3)
      have d0 := cell_of_blk bk3 0
      have d7 := cell_of_blk bk3 7
      simp at d0 d7
      have BK3 := hidS bk3
      clear bk3 hw3 d6
      go_wp2_with fail
      refine (HLN.out _ _ ⟨#[125]⟩ [125] rfl (by simp) HW3.out.1 HW3.out.2.1 (by have := HLL.out; have := HLE.out; simp only [lineT, List.length_append, List.length_cons, List.length_nil, List.length_replicate, List.isEmpty_nil, if_true] at *; omega)).mono ?_
      rintro e w4 ⟨rfl, hw4⟩
      have HF := hidS (HW3.out.trans hw4)
      clear hw4 d0 d7
      go_wp2
      go_end0
      refine ⟨rfl, ?_⟩
      rw [HTT.out]
      simpa using HF.out
    · have hoe : ¬ (o.isEmpty = true) := by simpa using hon
      have hop : (0 : Int) < (o.length : Int) := by have := List.length_pos_iff.2 hon; omega
      unfold kIf at *
      go_enter Tryd.func43, Tryd.ntmps43
      go_wp2_with fail
      refine (HX.out _ hb0).mono ?_
      rintro e w1 ⟨rfl, hb1⟩
      have hb01 : Below w.heap.size w w1 := bl_trans hb0 hb0.size hb1
      have bk := (hb1.block _ (by simp)).trans (heap_alloc_new _ _)
      have d0 := cell_of_blk bk 0
      simp at d0
      clear hb1
      have BK := hidS bk
      clear bk
      go_wp2_with fail
      refine (HLN.out _ l _ _ HLS.out (by simp) (HW.out.keep hb01) (hb01.mono hB) (by have := HLL.out; have := HLE.out; simp only [List.length_append, List.length_cons, List.length_nil] at *; omega)).mono ?_
      rintro e w2 ⟨rfl, hw2⟩
      have bk2 := hw2.blk BK.out hbne (by decide)
      have HW2 := hidS (WTo.after hb01 hB hw2)
      have d6 := cell_of_blk bk2 6
      simp at d6
      have BK2 := hidS bk2
      clear bk2 hw2 d0
      go_wp2_with fail
      refine (HBT.out _ _ HW2.out.2.1 HW2.out.1 (by have := HLL.out; have := HLE.out; simp only [lineT, List.length_append, List.length_cons, List.length_nil, List.length_replicate] at *; omega)).mono ?_
      rintro e w3 ⟨rfl, hw3⟩
      have bk3 := hw3.blk BK2.out hbne (by decide)
      have HW3 := hidS (HW2.out.trans hw3)
      have d0 := cell_of_blk bk3 0
      have d7 := cell_of_blk bk3 7
      simp at d0 d7
      have BK3 := hidS bk3
      clear bk3 hw3 d6
      go_wp2_with fail
      refine (HLN.out _ _ ⟨#[125, 32, 101, 108, 115, 101, 32, 123]⟩ [125, 32, 101, 108, 115, 101, 32, 123] rfl (by simp) HW3.out.1 HW3.out.2.1 (by have := HLL.out; have := HLE.out; rw [if_neg hoe] at this; simp only [lineT, List.length_append, List.length_cons, List.length_nil, List.length_replicate] at *; omega)).mono ?_
      rintro e w4 ⟨rfl, hw4⟩
      have bk4 := hw4.blk BK3.out hbne (by decide)
      have HW4 := hidS (HW3.out.trans hw4)
      clear hw4 d0 d7
      have d7 := cell_of_blk bk4 7
      simp at d7
      clear bk4
      go_wp2_with fail
      refine (HBO.out _ _ HW4.out.2.1 HW4.out.1 (by have := HLL.out; have := HLE.out; rw [if_neg hoe] at this; simp only [lineT, List.length_append, List.length_cons, List.length_nil, List.length_replicate] at *; omega)).mono ?_
      rintro e w5 ⟨rfl, hw5⟩
      have HW5 := hidS (HW4.out.trans hw5)
      clear hw5 d7
      go_wp2_with fail
      refine (HLN.out _ _ ⟨#[125]⟩ [125] rfl (by simp) HW5.out.1 HW5.out.2.1 (by have := HLL.out; have := HLE.out; rw [if_neg hoe] at this; simp only [lineT, List.length_append, List.length_cons, List.length_nil, List.length_replicate] at *; omega)).mono ?_
      rintro e w6 ⟨rfl, hw6⟩
      have HF := hidS (HW5.out.trans hw6)
      clear hw6
      go_wp2
      go_end0
      refine ⟨rfl, ?_⟩
      rw [HTT.out, if_neg hoe]
      simpa using HF.out
theorem wstmt_while (e : Ex) (t : List Sm) (hp : PE e) (iht : BlW t) (ihn : BlW []) : StW (.mk kWhile [] e t []) := fun w a B b d l cs hW hG hB hr hl =>
  stmt_cond kWhile (Or.inl rfl) e t [] hp iht ihn (by simp) (fun _ => rfl) _ _ rfl d (by rw [textS_while]; simp) w a B b l cs hW hG hB hr hl
theorem wstmt_if (e : Ex) (t o : List Sm) (hp : PE e) (iht : BlW t) (iho : BlW o) (ho8 : o.length ≤ 1000000) : StW (.mk kIf [] e t o) := fun w a B b d l cs hW hG hB hr hl =>
  stmt_cond kIf (Or.inr rfl) e t o hp iht iho ho8 (fun h => absurd h (by decide)) _ _ rfl d (by rw [textS_if]) w a B b l cs hW hG hB hr hl
end Go.Proofs.YtcebpmaggnephabDoor
