/-
  Our own: package show: a statement of each kind as text.
-/
import Derived.Test.YtcebpmaggnephabDoorShowSts
namespace Go.Proofs.YtcebpmaggnephabDoor
open Go.RowKit

theorem cat_list (a b : ByteArray) (h : a.size + b.size ≤ 9223372036854775807) {x y : List UInt8} (hx : a.data.toList = x) (hy : b.data.toList = y) : ∃ s : ByteArray, (∀ W, (Op.stringOp .add a b).run Tryd.prog W = .ok (.string s) W) ∧ s.data.toList = x ++ y ∧ s.size = a.size + b.size := by
  obtain ⟨s, h1, h2, h3⟩ := cat_any a b h
  exact ⟨s, h1, by rw [h2, hx, hy], h3⟩
set_option maxRecDepth 100000 in
set_option maxHeartbeats 1000000 in
theorem wstmt_var (m : List UInt8) (e : Ex) (hp : PE e) : StW (.mk kVar m e [] []) := by
  intro w a B b d l cs hW hG hB hr hl
  obtain ⟨es, tv, ts, ov, os, rfl, he, ht, hts, ho, hos⟩ := hr
  rw [textS_var] at hl ⊢
  simp only [lineT, List.length_append, List.length_cons, List.length_nil, List.length_replicate] at hl
  have hbne : w.heap.size ≠ b := fun e => by have := hW.lt.2; omega
  have hEx : ∀ X, Below w.heap.size w X → Calls Tryd.prog 20 #[.agg es.toArray] X fun ev w' => ev = .returned (.string ⟨(textE e).toArray⟩) ∧ Below X.heap.size X w' := fun X hX =>
    exprS_any hp (hG.on (below_le hX hB)) (Nat.le_trans hB hX.size) (repE_keep he (below_le hX hB)) (by omega)
  have hline : ∀ X (t : ByteArray) x, t.data.toList = x → x ≠ [] → Below w.heap.size w X → l.length + d + x.length + 1 ≤ 1000000 → Calls Tryd.prog 22 #[.pointer (some ⟨b, 0, none⟩), .string t] X fun ev w' => ev = .returned (.tuple #[]) ∧ WTo B b (d : Nat) (l ++ (List.replicate d 9 ++ (x ++ [10]))) X w' := fun X t x h1 h2 hX h4 => line_any t x h1 h2 (hW.keep hX) (Nat.le_trans hB hX.size) h4
  generalize textE e = tx at hl hEx ⊢
  have hsz0 : (⟨#[118, 97, 114, 32]⟩ : ByteArray).size = 4 := rfl
  have hsz1 : (⟨m.toArray⟩ : ByteArray).size = m.length := size_toArray m
  have hsz2 : (⟨#[32, 61, 32]⟩ : ByteArray).size = 3 := rfl
  have hsz3 : (⟨tx.toArray⟩ : ByteArray).size = tx.length := size_toArray tx
  have hsz4 : (⟨#[59]⟩ : ByteArray).size = 1 := rfl
  obtain ⟨s1, ha1, hl1, hz1⟩ := cat_list ⟨#[118, 97, 114, 32]⟩ ⟨m.toArray⟩ (by omega) rfl rfl
  obtain ⟨s2, ha2, hl2, hz2⟩ := cat_list s1 ⟨#[32, 61, 32]⟩ (by omega) hl1 rfl
  obtain ⟨s3, ha3, hl3, hz3⟩ := cat_list s2 ⟨tx.toArray⟩ (by omega) hl2 rfl
  obtain ⟨s4, ha4, hl4, hz4⟩ := cat_list s3 ⟨#[59]⟩ (by omega) hl3 rfl
  have HX := hidS hEx
  have HLN := hidS hline
  have HLS := hidS hl4
  have HLL := hidS hl
  obtain ⟨ek, en, em, eks⟩ := e
  obtain ⟨ev, exs, rfl, her, _⟩ := he
  obtain ⟨ade, cae, rfl, _⟩ := her
  obtain ⟨adt, ct, rfl, _⟩ := ht
  obtain ⟨ado, co, rfl, _⟩ := ho
  have hb0 := box_blkS w #[.string ⟨kVar.toArray⟩, .string ⟨m.toArray⟩, .string ⟨ek.toArray⟩, .int .i64 en, .string ⟨em.toArray⟩, .slice ade eks.length cae, .slice adt 0 ct, .slice ado 0 co] 57
  clear hEx hline hl1 hz1 hl2 hz2 hl3 hz3 hl4 hz4 hsz0 hsz1 hsz2 hsz3 hsz4 hl hts hos hW hG
  unfold kVar at *
  simp only [List.length_nil] at hb0 ⊢
  go_enter Tryd.func43, Tryd.ntmps43
  go_wp2_with fail
  refine (HX.out _ hb0).mono ?_
  rintro e w1 ⟨rfl, hb1⟩
  have hb01 : Below w.heap.size w w1 := bl_trans hb0 hb0.size hb1
  have bk := (hb1.block _ (by simp)).trans (heap_alloc_new _ _)
  have d0 := cell_of_blk bk 0
  have d1 := cell_of_blk bk 1
  simp at d0 d1
  clear hb1 bk
  go_wp2_with fail
  refine (HLN.out _ _ _ HLS.out (by simp) hb01 (by have := HLL.out; simp only [List.length_append, List.length_cons, List.length_nil]; omega)).mono ?_
  rintro e w2 ⟨rfl, hw2⟩
  go_wp2
  go_end0
  exact ⟨rfl, WTo.after hb01 hB hw2⟩
set_option maxRecDepth 100000 in
set_option maxHeartbeats 1000000 in
theorem wstmt_set (m : List UInt8) (e : Ex) (hp : PE e) : StW (.mk kSet m e [] []) := by
  intro w a B b d l cs hW hG hB hr hl
  obtain ⟨es, tv, ts, ov, os, rfl, he, ht, hts, ho, hos⟩ := hr
  rw [textS_set] at hl ⊢
  simp only [lineT, List.length_append, List.length_cons, List.length_nil, List.length_replicate] at hl
  have hbne : w.heap.size ≠ b := fun e => by have := hW.lt.2; omega
  have hEx : ∀ X, Below w.heap.size w X → Calls Tryd.prog 20 #[.agg es.toArray] X fun ev w' => ev = .returned (.string ⟨(textE e).toArray⟩) ∧ Below X.heap.size X w' := fun X hX =>
    exprS_any hp (hG.on (below_le hX hB)) (Nat.le_trans hB hX.size) (repE_keep he (below_le hX hB)) (by omega)
  have hline : ∀ X (t : ByteArray) x, t.data.toList = x → x ≠ [] → Below w.heap.size w X → l.length + d + x.length + 1 ≤ 1000000 → Calls Tryd.prog 22 #[.pointer (some ⟨b, 0, none⟩), .string t] X fun ev w' => ev = .returned (.tuple #[]) ∧ WTo B b (d : Nat) (l ++ (List.replicate d 9 ++ (x ++ [10]))) X w' := fun X t x h1 h2 hX h4 => line_any t x h1 h2 (hW.keep hX) (Nat.le_trans hB hX.size) h4
  generalize textE e = tx at hl hEx ⊢
  have hsz0 : (⟨m.toArray⟩ : ByteArray).size = m.length := size_toArray m
  have hsz1 : (⟨#[32, 61, 32]⟩ : ByteArray).size = 3 := rfl
  have hsz2 : (⟨tx.toArray⟩ : ByteArray).size = tx.length := size_toArray tx
  have hsz3 : (⟨#[59]⟩ : ByteArray).size = 1 := rfl
  obtain ⟨s1, ha1, hl1, hz1⟩ := cat_list ⟨m.toArray⟩ ⟨#[32, 61, 32]⟩ (by omega) rfl rfl
  obtain ⟨s2, ha2, hl2, hz2⟩ := cat_list s1 ⟨tx.toArray⟩ (by omega) hl1 rfl
  obtain ⟨s3, ha3, hl3, hz3⟩ := cat_list s2 ⟨#[59]⟩ (by omega) hl2 rfl
  have HX := hidS hEx
  have HLN := hidS hline
  have HLS := hidS hl3
  have HLL := hidS hl
  obtain ⟨ek, en, em, eks⟩ := e
  obtain ⟨ev, exs, rfl, her, _⟩ := he
  obtain ⟨ade, cae, rfl, _⟩ := her
  obtain ⟨adt, ct, rfl, _⟩ := ht
  obtain ⟨ado, co, rfl, _⟩ := ho
  have hb0 := box_blkS w #[.string ⟨kSet.toArray⟩, .string ⟨m.toArray⟩, .string ⟨ek.toArray⟩, .int .i64 en, .string ⟨em.toArray⟩, .slice ade eks.length cae, .slice adt 0 ct, .slice ado 0 co] 57
  clear hEx hline hl1 hz1 hl2 hz2 hl3 hz3 hsz0 hsz1 hsz2 hsz3 hl hts hos hW hG
  unfold kSet at *
  simp only [List.length_nil] at hb0 ⊢
  go_enter Tryd.func43, Tryd.ntmps43
  go_wp2_with fail
  refine (HX.out _ hb0).mono ?_
  rintro e w1 ⟨rfl, hb1⟩
  have hb01 : Below w.heap.size w w1 := bl_trans hb0 hb0.size hb1
  have bk := (hb1.block _ (by simp)).trans (heap_alloc_new _ _)
  have d0 := cell_of_blk bk 0
  have d1 := cell_of_blk bk 1
  simp at d0 d1
  clear hb1 bk
  go_wp2_with fail
  refine (HLN.out _ _ _ HLS.out (by simp) hb01 (by have := HLL.out; simp only [List.length_append, List.length_cons, List.length_nil]; omega)).mono ?_
  rintro e w2 ⟨rfl, hw2⟩
  go_wp2
  go_end0
  exact ⟨rfl, WTo.after hb01 hB hw2⟩
set_option maxRecDepth 100000 in
set_option maxHeartbeats 1000000 in
theorem wstmt_ret (e : Ex) (hp : PE e) : StW (.mk kReturn [] e [] []) := by
  intro w a B b d l cs hW hG hB hr hl
  obtain ⟨es, tv, ts, ov, os, rfl, he, ht, hts, ho, hos⟩ := hr
  rw [textS_give d kReturn e (Or.inl rfl)] at hl ⊢
  unfold kReturn at hl ⊢
  simp only [lineT, List.length_append, List.length_cons, List.length_nil, List.length_replicate] at hl
  have hbne : w.heap.size ≠ b := fun e => by have := hW.lt.2; omega
  have hEx : ∀ X, Below w.heap.size w X → Calls Tryd.prog 20 #[.agg es.toArray] X fun ev w' => ev = .returned (.string ⟨(textE e).toArray⟩) ∧ Below X.heap.size X w' := fun X hX =>
    exprS_any hp (hG.on (below_le hX hB)) (Nat.le_trans hB hX.size) (repE_keep he (below_le hX hB)) (by omega)
  have hline : ∀ X (t : ByteArray) x, t.data.toList = x → x ≠ [] → Below w.heap.size w X → l.length + d + x.length + 1 ≤ 1000000 → Calls Tryd.prog 22 #[.pointer (some ⟨b, 0, none⟩), .string t] X fun ev w' => ev = .returned (.tuple #[]) ∧ WTo B b (d : Nat) (l ++ (List.replicate d 9 ++ (x ++ [10]))) X w' := fun X t x h1 h2 hX h4 => line_any t x h1 h2 (hW.keep hX) (Nat.le_trans hB hX.size) h4
  generalize textE e = tx at hl hEx ⊢
  have hsz0 : (⟨#[114, 101, 116, 117, 114, 110]⟩ : ByteArray).size = 6 := rfl
  have hsz1 : (⟨#[32]⟩ : ByteArray).size = 1 := rfl
  have hsz2 : (⟨tx.toArray⟩ : ByteArray).size = tx.length := size_toArray tx
  have hsz3 : (⟨#[59]⟩ : ByteArray).size = 1 := rfl
  obtain ⟨s1, ha1, hl1, hz1⟩ := cat_list ⟨#[114, 101, 116, 117, 114, 110]⟩ ⟨#[32]⟩ (by omega) rfl rfl
  obtain ⟨s2, ha2, hl2, hz2⟩ := cat_list s1 ⟨tx.toArray⟩ (by omega) hl1 rfl
  obtain ⟨s3, ha3, hl3, hz3⟩ := cat_list s2 ⟨#[59]⟩ (by omega) hl2 rfl
  have HX := hidS hEx
  have HLN := hidS hline
  have HLS := hidS hl3
  have HLL := hidS hl
  obtain ⟨ek, en, em, eks⟩ := e
  obtain ⟨ev, exs, rfl, her, _⟩ := he
  obtain ⟨ade, cae, rfl, _⟩ := her
  obtain ⟨adt, ct, rfl, _⟩ := ht
  obtain ⟨ado, co, rfl, _⟩ := ho
  have hb0 := box_blkS w #[.string ⟨kReturn.toArray⟩, .string ⟨#[]⟩, .string ⟨ek.toArray⟩, .int .i64 en, .string ⟨em.toArray⟩, .slice ade eks.length cae, .slice adt 0 ct, .slice ado 0 co] 57
  clear hEx hline hl1 hz1 hl2 hz2 hl3 hz3 hsz0 hsz1 hsz2 hsz3 hl hts hos hW hG
  unfold kReturn at *
  simp only [List.length_nil] at hb0 ⊢
  go_enter Tryd.func43, Tryd.ntmps43
  go_wp2_with fail
  refine (HX.out _ hb0).mono ?_
  rintro e w1 ⟨rfl, hb1⟩
  have hb01 : Below w.heap.size w w1 := bl_trans hb0 hb0.size hb1
  have bk := (hb1.block _ (by simp)).trans (heap_alloc_new _ _)
  have d0 := cell_of_blk bk 0
  have d1 := cell_of_blk bk 1
  simp at d0 d1
  clear hb1 bk
  go_wp2_with fail
  refine (HLN.out _ _ _ HLS.out (by simp) hb01 (by have := HLL.out; simp only [List.length_append, List.length_cons, List.length_nil]; omega)).mono ?_
  rintro e w2 ⟨rfl, hw2⟩
  go_wp2
  go_end0
  exact ⟨rfl, WTo.after hb01 hB hw2⟩
set_option maxRecDepth 100000 in
set_option maxHeartbeats 1000000 in
theorem wstmt_print (e : Ex) (hp : PE e) : StW (.mk kPrint [] e [] []) := by
  intro w a B b d l cs hW hG hB hr hl
  obtain ⟨es, tv, ts, ov, os, rfl, he, ht, hts, ho, hos⟩ := hr
  rw [textS_give d kPrint e (Or.inr rfl)] at hl ⊢
  unfold kPrint at hl ⊢
  simp only [lineT, List.length_append, List.length_cons, List.length_nil, List.length_replicate] at hl
  have hbne : w.heap.size ≠ b := fun e => by have := hW.lt.2; omega
  have hEx : ∀ X, Below w.heap.size w X → Calls Tryd.prog 20 #[.agg es.toArray] X fun ev w' => ev = .returned (.string ⟨(textE e).toArray⟩) ∧ Below X.heap.size X w' := fun X hX =>
    exprS_any hp (hG.on (below_le hX hB)) (Nat.le_trans hB hX.size) (repE_keep he (below_le hX hB)) (by omega)
  have hline : ∀ X (t : ByteArray) x, t.data.toList = x → x ≠ [] → Below w.heap.size w X → l.length + d + x.length + 1 ≤ 1000000 → Calls Tryd.prog 22 #[.pointer (some ⟨b, 0, none⟩), .string t] X fun ev w' => ev = .returned (.tuple #[]) ∧ WTo B b (d : Nat) (l ++ (List.replicate d 9 ++ (x ++ [10]))) X w' := fun X t x h1 h2 hX h4 => line_any t x h1 h2 (hW.keep hX) (Nat.le_trans hB hX.size) h4
  generalize textE e = tx at hl hEx ⊢
  have hsz0 : (⟨#[112, 114, 105, 110, 116]⟩ : ByteArray).size = 5 := rfl
  have hsz1 : (⟨#[32]⟩ : ByteArray).size = 1 := rfl
  have hsz2 : (⟨tx.toArray⟩ : ByteArray).size = tx.length := size_toArray tx
  have hsz3 : (⟨#[59]⟩ : ByteArray).size = 1 := rfl
  obtain ⟨s1, ha1, hl1, hz1⟩ := cat_list ⟨#[112, 114, 105, 110, 116]⟩ ⟨#[32]⟩ (by omega) rfl rfl
  obtain ⟨s2, ha2, hl2, hz2⟩ := cat_list s1 ⟨tx.toArray⟩ (by omega) hl1 rfl
  obtain ⟨s3, ha3, hl3, hz3⟩ := cat_list s2 ⟨#[59]⟩ (by omega) hl2 rfl
  have HX := hidS hEx
  have HLN := hidS hline
  have HLS := hidS hl3
  have HLL := hidS hl
  obtain ⟨ek, en, em, eks⟩ := e
  obtain ⟨ev, exs, rfl, her, _⟩ := he
  obtain ⟨ade, cae, rfl, _⟩ := her
  obtain ⟨adt, ct, rfl, _⟩ := ht
  obtain ⟨ado, co, rfl, _⟩ := ho
  have hb0 := box_blkS w #[.string ⟨kPrint.toArray⟩, .string ⟨#[]⟩, .string ⟨ek.toArray⟩, .int .i64 en, .string ⟨em.toArray⟩, .slice ade eks.length cae, .slice adt 0 ct, .slice ado 0 co] 57
  clear hEx hline hl1 hz1 hl2 hz2 hl3 hz3 hsz0 hsz1 hsz2 hsz3 hl hts hos hW hG
  unfold kPrint at *
  simp only [List.length_nil] at hb0 ⊢
  go_enter Tryd.func43, Tryd.ntmps43
  go_wp2_with fail
  refine (HX.out _ hb0).mono ?_
  rintro e w1 ⟨rfl, hb1⟩
  have hb01 : Below w.heap.size w w1 := bl_trans hb0 hb0.size hb1
  have bk := (hb1.block _ (by simp)).trans (heap_alloc_new _ _)
  have d0 := cell_of_blk bk 0
  have d1 := cell_of_blk bk 1
  simp at d0 d1
  clear hb1 bk
  go_wp2_with fail
  refine (HLN.out _ _ _ HLS.out (by simp) hb01 (by have := HLL.out; simp only [List.length_append, List.length_cons, List.length_nil]; omega)).mono ?_
  rintro e w2 ⟨rfl, hw2⟩
  go_wp2
  go_end0
  exact ⟨rfl, WTo.after hb01 hB hw2⟩
end Go.Proofs.YtcebpmaggnephabDoor
