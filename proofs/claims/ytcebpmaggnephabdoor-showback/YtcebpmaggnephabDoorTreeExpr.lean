/-
  Our own: package tree's parser: an expression with ops of two.
-/
import Derived.Test.YtcebpmaggnephabDoorTreeSingle
namespace Go.Proofs.YtcebpmaggnephabDoor
open Go.RowKit

/-- Blocks behind rb that are there, but for eb. -/
def InX (rb eb : Nat) (w : World) (b : Nat) : Prop := rb < b ∧ b < w.heap.size ∧ b ≠ eb
/-- What a block of one Expr holds: the tree in other blocks behind rb. -/
def EbX (rb eb : Nat) (r : Rs Ex) (w : World) : Prop :=
  ∃ k i m ad l c, w.heap[eb]? = some (.cells #[.string k, .int .i64 i, .string m, .slice ad l c] 55 (0, 0)) ∧ ∀ x j, r = .ok x j → RepE (InX rb eb w) w x [.string k, .int .i64 i, .string m, .slice ad l c]
theorem EbX.keep {p rb eb : Nat} {r : Rs Ex} {w w' : World} (h : EbX rb eb r w) (hb : But p w w') (hp : p < rb) (hr : rb < eb) : EbX rb eb r w' := by
  obtain ⟨k, i, x, ad, l, c, h1, h2⟩ := h
  exact ⟨k, i, x, ad, l, c, heap_keep hb h1 (by omega), fun y j hy => RepE.imp (fun b hb' => ⟨hb'.1, Nat.lt_of_lt_of_le hb'.2.1 hb.size, hb'.2.2⟩) (fun b hb' => hb.block b hb'.2.1 (by have := hb'.1; omega)) _ _ (h2 y j hy)⟩
/-- An Expr with new kids laid into block eb. -/
theorem eb_two {T : List Tok} {a : Nat → Addr} {p d rb eb : Nat} {s : Rs Unit} {w : World} {x0 x1 x2 x3 : Value} (hp : PAt T a p d s w) (heb : w.heap[eb]? = some (.cells #[x0, x1, x2, x3] 55 (0, 0))) (hpe : p < eb) (hrb : rb < eb)
    (kk tx : List UInt8) (row : Array Value) (L : Nat) (r : Rs Ex) (hrep : ∀ x j, r = .ok x j → ∃ ys, x = .mk kk 0 tx ys ∧ ys.length = L ∧ RepEs (InX rb eb w) w ys row.toList) :
    ∃ W, W = (((((w.setCell ⟨eb, 0, none⟩ (.string ⟨kk.toArray⟩)).setCell ⟨eb, 1, none⟩ (.int .i64 0)).setCell ⟨eb, 2, none⟩ (.string ⟨tx.toArray⟩)).setCell ⟨eb, 3, none⟩ (.slice (some ⟨w.heap.size, 0, none⟩) L L)).alloc (.cells row 55)) ∧
      PAt T a p d s W ∧ But2 p eb w W ∧ EbX rb eb r W := by
  have hlt := heap_lt heb
  have h4 := set4_blk heb (.string ⟨kk.toArray⟩) (.int .i64 0) (.string ⟨tx.toArray⟩) (.slice (some ⟨w.heap.size, 0, none⟩) L L)
  have hp4 := hp.set4 hpe heb (.string ⟨kk.toArray⟩) (.int .i64 0) (.string ⟨tx.toArray⟩) (.slice (some ⟨w.heap.size, 0, none⟩) L L)
  have hb4 : But2 p eb w ((((w.setCell ⟨eb, 0, none⟩ (.string ⟨kk.toArray⟩)).setCell ⟨eb, 1, none⟩ (.int .i64 0)).setCell ⟨eb, 2, none⟩ (.string ⟨tx.toArray⟩)).setCell ⟨eb, 3, none⟩ (.slice (some ⟨w.heap.size, 0, none⟩) L L)) := ((((But2.refl p eb w).set 0 _).set 1 _).set 2 _).set 3 _
  have hs4 := @size_set4 w eb (.string ⟨kk.toArray⟩) (.int .i64 0) (.string ⟨tx.toArray⟩) (.slice (some ⟨w.heap.size, 0, none⟩) L L)
  have hk4 : ∀ k, k ≠ eb → ((((w.setCell ⟨eb, 0, none⟩ (.string ⟨kk.toArray⟩)).setCell ⟨eb, 1, none⟩ (.int .i64 0)).setCell ⟨eb, 2, none⟩ (.string ⟨tx.toArray⟩)).setCell ⟨eb, 3, none⟩ (.slice (some ⟨w.heap.size, 0, none⟩) L L)).heap[k]? = w.heap[k]? := fun k hk => heap_set4 hk
  generalize ((((w.setCell ⟨eb, 0, none⟩ (.string ⟨kk.toArray⟩)).setCell ⟨eb, 1, none⟩ (.int .i64 0)).setCell ⟨eb, 2, none⟩ (.string ⟨tx.toArray⟩)).setCell ⟨eb, 3, none⟩ (.slice (some ⟨w.heap.size, 0, none⟩) L L)) = w4 at h4 hp4 hb4 hs4 hk4 ⊢
  have hnew : (w4.alloc (.cells row 55)).heap[w.heap.size]? = some (.cells row 55 (0, 0)) := by rw [← hs4]; exact heap_alloc_new _ _
  have hal : Below w4.heap.size w4 (w4.alloc (.cells row 55)) := (Below.refl _ _).alloc (Nat.le_refl _) _
  have hz : (w4.alloc (.cells row 55)).heap.size = w.heap.size + 1 := by rw [size_alloc, hs4]
  refine ⟨_, rfl, hp4.keep hal, hb4.alloc _, _, _, _, _, _, _, (hal.block eb (heap_lt h4)).trans h4, fun x j hj => ?_⟩
  obtain ⟨ys, rfl, hl, hr⟩ := hrep x j hj
  refine ⟨_, row.toList, rfl, ⟨_, _, by rw [hl], fun _ => ⟨w.heap.size, rfl, ⟨⟨by omega, by omega, by omega⟩, by omega⟩, fun j u hu => cell_row hnew j u hu⟩⟩, RepEs.imp (fun b hb => ⟨hb.1, by have := hb.2.1; omega, hb.2.2⟩) (fun b hb => (hal.block b (by have := hb.2.1; omega)).trans (hk4 b hb.2.2)) _ _ hr⟩
/-- A round of an expression's loop: what has been read, and what is left to read. -/
def ExR (T : List Tok) (a : Nat → Addr) (p d l rb eb : Nat) (w : World) (r : Rs Ex) (k : Nat) (wr : World) : Prop :=
  ∃ rr : Rs Ex, PAt T a p d rr.st wr ∧ But p w wr ∧ wr.heap[rb]? = some (.cells #[.string ⟨#[]⟩, .int .i64 0, .string ⟨#[]⟩, .slice none 0 0] 55 (0, 0)) ∧ EbX rb eb rr wr ∧ rr.bind (loopT T k d l) = r
theorem levelT_le (t : Tok) : levelT t ≤ 8 := by
  unfold levelT signLevel
  repeat' split
  all_goals omega
theorem nxt_bad {T : List Tok} {c k : Nat} : nxt T (.bad c k) = ⟨[], [], 0⟩ := rfl
set_option maxHeartbeats 4000000 in
set_option maxRecDepth 100000 in
theorem expr_ok {T : List Tok} {a : Nat → Addr} {p n : Nat} (hE : ∀ m, m < n → EOk T a p m) (hS : SOk T a p n) : EOk T a p (n + 1) := by
  intro d l s w hl hl9 h hout
  have hlt := h.lt
  obtain ⟨r, hr⟩ : ∃ r, r = s.via (exprT T (n + 1) d l) := ⟨_, rfl⟩
  rw [← hr] at hout ⊢
  have hr2 : r = (s.via (singleT T n d)).bind fun e j => loopT T n d l e j := by
    rw [hr]
    cases s with
    | out => rfl
    | bad c k => rfl
    | ok u i => rw [Rs.via_ok, Rs.via_ok, exprT]
  have hso : s.via (singleT T n d) ≠ .out := fun e => hout (by rw [hr2, e]; rfl)
  have HR := hid hr2
  have HE := hid hE
  have HO := hid hout
  have hf : ∀ args w, (callFunc 70 args).run Tryd.prog w = .ok (.enter 70 args) w := enters_of Tryd.func70 (by kernel_rfl) rfl
  clear hr hr2 hE hout
  go_enter Tryd.func70, Tryd.ntmps70
  go_wp2_with fail
  have hb0 : Below w.heap.size w (w.alloc (.cells #[.string ⟨#[]⟩, .int .i64 0, .string ⟨#[]⟩, .slice none 0 0] 55)) := by (repeat (first | exact Below.refl _ _ | assumption | refine Below.drew ?_ | refine Below.trans ?_ (drewN_below' _ _ _) | refine Below.setCell ?_ (by first | (simp; done) | (simp; omega)) _ | refine Below.alloc ?_ (by first | (simp; done) | (simp; omega)) _))
  have hr0 := heap_alloc_new w (.cells #[.string ⟨#[]⟩, .int .i64 0, .string ⟨#[]⟩, .slice none 0 0] 55)
  have hz0 := size_alloc w (.cells #[.string ⟨#[]⟩, .int .i64 0, .string ⟨#[]⟩, .slice none 0 0] 55)
  generalize w.alloc (.cells #[.string ⟨#[]⟩, .int .i64 0, .string ⟨#[]⟩, .slice none 0 0] 55) = w0 at hb0 hr0 hz0 ⊢
  refine (hS d s w0 (h.keep hb0) hso).mono ?_
  rintro e w1 hx1
  obtain ⟨k, m, x, ad, c1, c2, rfl, k1, k2, k3⟩ := hx1.rep (rb := w.heap.size) (by omega)
  have hz1 := k3.size
  have r0 : ExR T a p d l w.heap.size w1.heap.size w r n (w1.alloc (.cells #[.string k, .int .i64 m, .string x, .slice ad c1 c2] 55)) := by
    have hal : Below w1.heap.size w1 (w1.alloc (.cells #[.string k, .int .i64 m, .string x, .slice ad c1 c2] 55)) := by (repeat (first | exact Below.refl _ _ | assumption | refine Below.drew ?_ | refine Below.trans ?_ (drewN_below' _ _ _) | refine Below.setCell ?_ (by first | (simp; done) | (simp; omega)) _ | refine Below.alloc ?_ (by first | (simp; done) | (simp; omega)) _))
    have hz2 := hal.size
    refine ⟨s.via (singleT T n d), k2.keep hal, ((But.of hb0).trans k3).trans (But.of hal), (hal.block _ (by omega)).trans (heap_keep k3 hr0 (by omega)), ⟨_, _, _, _, _, _, heap_alloc_new _ _, fun y j hy => ?_⟩, HR.out.symm⟩
    exact RepE.imp (fun b hb => ⟨by have := hb.1; omega, by have := hb.2; omega, by have := hb.2; omega⟩) (fun b hb => hal.block b hb.2) _ _ (k1 y j hy)
  have hle : w1.heap.size < (w1.alloc (.cells #[.string k, .int .i64 m, .string x, .slice ad c1 c2] 55)).heap.size := by rw [size_alloc]; omega
  have R0 := hid r0
  clear r0 k1 k2 hx1
  go_wp2_with fail
  go_loopg [] n (fun k wr => ExR T a p d l w.heap.size w1.heap.size w r k wr ∧ k ≤ n ∧ w1.heap.size < wr.heap.size)
  case atStart => exact ⟨R0.out, Nat.le_refl _, hle⟩
  case round =>
    obtain ⟨⟨rr, hpr, hbr, hrr, her, hlr⟩, hkn, hwr⟩ := hrel
    have hzr := hbr.size
    obtain ⟨kd, tx, ps, ht⟩ := tok_parts (nxt T rr.st)
    have hn := next_any hpr
    rw [ht] at hn
    unfold tokA at hn
    obtain ⟨lv, hlv⟩ : ∃ lv, lv = levelT ⟨kd, tx, ps⟩ := ⟨_, rfl⟩
    have HLV := hid hlv
    have HT := hid ht
    have HLR := hid hlr
    have HRR := hid hrr
    have HER := hid her
    clear hlv ht hlr hrr her
    by_cases hlt2 : lv < l
    · have hlt3 : (lv : Int) < l := by omega
      go_wp2_with fail
      refine hn.mono ?_
      rintro e w2 ⟨rfl, hb2⟩
      have hz2 := hb2.size
      go_wp2_with fail
      have hb3 : Below wr.heap.size wr (w2.alloc (.cells #[.string ⟨kd.toArray⟩, .string ⟨tx.toArray⟩, .int .i64 ps] 29)) := hb2.alloc (by omega) _
      generalize w2.alloc (.cells #[.string ⟨kd.toArray⟩, .string ⟨tx.toArray⟩, .int .i64 ps] 29) = w3 at hb3 ⊢
      refine (level_at kd tx ps w3).mono ?_
      rw [← HLV.out]
      rintro e w4 ⟨rfl, hb4⟩
      have b4 := bl_trans hb3 hb3.size hb4
      have hp4 := hpr.keep b4
      have hr4 := (b4.block _ (by omega)).trans HRR.out
      have he4 := HER.out.keep (But.of b4) (p := p) (by omega) (by omega)
      obtain ⟨k, m, x, ad, c1, c2, k5, k6⟩ := he4
      have n2 := heap_lt hr4
      have n3 := heap_lt k5
      have e50 : w4.cell? ⟨w1.heap.size, 0, none⟩ = some (.string k) := cell_of_blk k5 0
      have e51 : w4.cell? ⟨w1.heap.size, 1, none⟩ = some (.int .i64 m) := cell_of_blk k5 1
      have e52 : w4.cell? ⟨w1.heap.size, 2, none⟩ = some (.string x) := cell_of_blk k5 2
      have e53 : w4.cell? ⟨w1.heap.size, 3, none⟩ = some (.slice ad c1 c2) := cell_of_blk k5 3
      have r50 := cell_of_blk hr4 0
      have r51 := cell_of_blk hr4 1
      have r52 := cell_of_blk hr4 2
      have r53 := cell_of_blk hr4 3
      have q50 := free_of_blk hr4 0
      have q51 := free_of_blk hr4 1
      have q52 := free_of_blk hr4 2
      have q53 := free_of_blk hr4 3
      have hres : r = rr := by
        have hk := HLR.out
        rw [← hk]
        cases rr with
        | out => rfl
        | bad c k => rfl
        | ok y j =>
          rw [Rs.bind_ok] at hk ⊢
          have : levelT (tk T j) < l := by have e : tk T j = ⟨kd, tx, ps⟩ := HT.out; rw [e, ← HLV.out]; exact hlt2
          cases gk with
          | zero => exact absurd (hk.symm.trans (by rw [loopT])) HO.out
          | succ g => rw [loopT, if_pos this]
      have HR5 := hid hr4
      have K2 := hid hp4
      have K6 := hid k6
      have HRS := hid hres
      clear hr4 hp4 k5 k6 hres
      go_wp2
      rw [HRS.out]
      exact ret_ex Tryd.results70 rfl (by omega) (Nat.le_refl _) HR5.out K2.out (hbr.trans (But.of b4)) (fun y j hy => RepE.imp (fun b hb => ⟨hb.1, hb.2.1⟩) (fun _ _ => rfl) _ _ (K6.out y j hy))
    · have hok : ∃ y j, rr = .ok y j := by
        cases rr with
        | out => exact absurd HLR.out.symm HO.out
        | bad c k => exact absurd (by rw [HLV.out, ← (show _ = (⟨kd, tx, ps⟩ : Tok) from HT.out)]; exact hl) hlt2
        | ok y j => exact ⟨y, j, rfl⟩
      obtain ⟨y, j, rfl⟩ := hok
      obtain ⟨g, rfl⟩ : ∃ g, gk = g + 1 := by
        cases gk with
        | zero => exact absurd (HLR.out.symm.trans (by rw [Rs.bind_ok, loopT])) HO.out
        | succ g => exact ⟨g, rfl⟩
      have htj : tk T j = ⟨kd, tx, ps⟩ := HT.out
      have hjl : j < T.length := by
        refine level_lt (l := l) ?_ hl
        rw [htj, ← HLV.out]; exact hlt2
      have hlr := HLR.out
      rw [Rs.bind_ok, loopT, if_neg (by rw [htj, ← HLV.out]; exact hlt2), htj, ← HLV.out] at hlr
      have hlv8 : lv ≤ 8 := by rw [HLV.out]; exact levelT_le _
      have ho : Rs.via (.ok () (j + 1)) (exprT T g d (lv + 1)) ≠ .out := fun e => HO.out (by rw [← hlr, show exprT T g d (lv + 1) (j + 1) = .out from e]; rfl)
      have HL2 := hid hlr
      have HO2 := hid ho
      have HJL := hid hjl
      have hj1 : (j : Int) ≤ 1000 := by have := hpr.few; omega
      have hlt3 : ¬ (lv : Int) < l := by omega
      have hlv9 : (lv : Int) ≤ 8 := by omega
      clear htj hlr ho hjl HLR
      go_wp2_with fail
      refine hn.mono ?_
      rintro e w2 ⟨rfl, hb2⟩
      have hz2 := hb2.size
      go_wp2_with fail
      have hb3 : Below wr.heap.size wr (w2.alloc (.cells #[.string ⟨kd.toArray⟩, .string ⟨tx.toArray⟩, .int .i64 ps] 29)) := hb2.alloc (by omega) _
      have ho3 := heap_alloc_new w2 (.cells #[.string ⟨kd.toArray⟩, .string ⟨tx.toArray⟩, .int .i64 ps] 29)
      have hz3 := size_alloc w2 (.cells #[.string ⟨kd.toArray⟩, .string ⟨tx.toArray⟩, .int .i64 ps] 29)
      generalize w2.alloc (.cells #[.string ⟨kd.toArray⟩, .string ⟨tx.toArray⟩, .int .i64 ps] 29) = w3 at hb3 ho3 hz3 ⊢
      refine (level_at kd tx ps w3).mono ?_
      rw [← HLV.out]
      rintro e w4 ⟨rfl, hb4⟩
      have hz4 := hb4.size
      have b4 := bl_trans hb3 hb3.size hb4
      have hp4 := hpr.keep b4
      have ho4 := (hb4.block _ (by omega)).trans ho3
      have hr4 := (b4.block _ (by omega)).trans HRR.out
      have he4 := HER.out.keep (But.of b4) (p := p) (by omega) (by omega)
      have hblk : ∃ tv, w4.heap[p]? = some (.cells #[tv, .int .i64 j, .int .i64 d, .nilIface] 60 (0, 0)) := by obtain ⟨_, _, _, tv, i, ev, hx, _, _, rfl, rfl⟩ := hp4; exact ⟨tv, hx⟩
      obtain ⟨tv, hx⟩ := hblk
      have c1 : w4.cell? ⟨p, 1, none⟩ = some (.int .i64 j) := cell_of_blk hx 1
      have f1 := free_of_blk hx 1
      have hlt4 := heap_lt hx
      have HP4 := hid hp4
      have HO4 := hid ho4
      have HR4 := hid hr4
      have HE4 := hid he4
      clear hx hp4 ho4 hr4 he4 ho3 hb3 hb4 hn
      go_wp2_with fail
      have hp5 := HP4.out.step HJL.out
      have b5 : But p w (w4.setCell ⟨p, 1, none⟩ (.int .i64 ((j : Int) + 1))) := (hbr.trans (But.of b4)).set 1 _
      have ho5 := (heap_far (w := w4) (r := p) (i := 1) (u := .int .i64 ((j : Int) + 1)) (by omega : w2.heap.size ≠ p)).trans HO4.out
      have hr5 := (heap_far (w := w4) (r := p) (i := 1) (u := .int .i64 ((j : Int) + 1)) (by omega : w.heap.size ≠ p)).trans HR4.out
      have he5 := HE4.out.keep (p := p) ((But.refl p w4).set 1 (.int .i64 ((j : Int) + 1))) (by omega) (by omega)
      have hz5 : (w4.setCell ⟨p, 1, none⟩ (.int .i64 ((j : Int) + 1))).heap.size = w4.heap.size := by simp [World.setCell]
      generalize w4.setCell ⟨p, 1, none⟩ (.int .i64 ((j : Int) + 1)) = w5 at hp5 b5 ho5 hr5 he5 hz5 ⊢
      obtain ⟨k, m, x, ad, c1, c2, k5, k6⟩ := he5
      have t5 : w5.cell? ⟨w2.heap.size, 1, none⟩ = some (.string ⟨tx.toArray⟩) := cell_of_blk ho5 1
      have e50 : w5.cell? ⟨w1.heap.size, 0, none⟩ = some (.string k) := cell_of_blk k5 0
      have e51 : w5.cell? ⟨w1.heap.size, 1, none⟩ = some (.int .i64 m) := cell_of_blk k5 1
      have e52 : w5.cell? ⟨w1.heap.size, 2, none⟩ = some (.string x) := cell_of_blk k5 2
      have e53 : w5.cell? ⟨w1.heap.size, 3, none⟩ = some (.slice ad c1 c2) := cell_of_blk k5 3
      have K5 := hid k5
      have K6 := hid k6
      have HR5 := hid hr5
      have HO5 := hid ho5
      have hcall : ∀ X, Below w5.heap.size w5 X → Calls Tryd.prog 70 #[ptrV p, .int .i64 ((lv : Int) + 1)] X fun e w' => ∃ v, e = .returned v ∧ ∃ k n m ad l c, v = exA k n m (.slice ad l c) ∧ (∀ x j2, exprT T g d (lv + 1) (j + 1) = .ok x j2 → RepE (InB w5.heap.size w') w' x [.string k, .int .i64 n, .string m, .slice ad l c]) ∧ PAt T a p d (exprT T g d (lv + 1) (j + 1)).st w' ∧ But p X w' := fun X hX => by
        have ee := HE.out g (by omega) d (lv + 1) (.ok () (j + 1)) X (by omega) (by omega) (hp5.keep hX) HO2.out
        rw [show ((lv + 1 : Nat) : Int) = (lv : Int) + 1 by omega] at ee
        refine ee.mono ?_
        rintro e w2 ⟨k, n, m, ad, l, c, rfl, hrep, hp2, hb2⟩
        exact ⟨_, rfl, k, n, m, ad, l, c, rfl, fun x j hj => RepE.imp (fun b hb => ⟨Nat.le_trans hX.size hb.1, hb.2⟩) (fun _ _ => rfl) _ _ (hrep x j hj), hp2, hb2⟩
      have HC := hid hcall
      have hwv : IntKind.i64.wrap ((lv : Int) + 1) = (lv : Int) + 1 := by rw [IntKind.wrap_i64]; omega
      clear hcall k5 k6 hr5 ho5 HE4 HR4 HO4 HP4 HER HRR hp5
      go_region_law (first
          | (refine step_call rfl 70 #[.tmp 28, .tmp 30] #[58, 3] rfl #[ptrV p, .int .i64 ((lv : Int) + 1)] (by first | (simp [Act.eval]; done) | (simp [Act.eval, Act.put]; done) | (simp [Act.eval, Act.put, hwv]; done)) hf _ (HC.out _ (by (repeat (first | exact Below.refl _ _ | assumption | refine Below.drew ?_ | refine Below.trans ?_ (drewN_below' _ _ _) | refine Below.setCell ?_ (by first | (simp; done) | (simp; omega)) _ | refine Below.alloc ?_ (by first | (simp; done) | (simp; omega)) _)))) ?_; rintro v6 w6 ⟨k', n', m', ad', l', c', rfl, hrep, hp6, hb6⟩; have hb7 : But p w5 w6 := But.trans (by (repeat (first | exact But.refl _ _ | assumption | refine But.drew ?_ | refine But.drewN ?_ _ | refine But.set ?_ _ _ | refine But.setNew ?_ _ _ (by first | (simp; done) | (simp; omega)) _ | refine But.alloc ?_ _))) hb6; have hz6 := hb7.size; have t6 : w6.cell? ⟨w2.heap.size, 1, none⟩ = some (.string ⟨tx.toArray⟩) := cell_keep hb7 t5 (by omega); have e60 := cell_keep hb7 e50 (by omega); have e61 := cell_keep hb7 e51 (by omega); have e62 := cell_keep hb7 e52 (by omega); have e63 := cell_keep hb7 e53 (by omega); have hx6 := heap_keep hb7 K5.out (by omega); have f60 := free_of_blk hx6 0; have f61 := free_of_blk hx6 1; have f62 := free_of_blk hx6 2; have f63 := free_of_blk hx6 3; have l6 := heap_lt hx6; have lo6 : w2.heap.size < w6.heap.size := (by omega); have HREP := hid hrep; have HX6 := hid hx6; clear hrep hx6))
      all_goals
        have hz7 := hb7.size
        obtain ⟨W, hW, o1, o2, o3⟩ := eb_two (rb := w.heap.size) hp6 HX6.out (by omega) (by omega) [116, 119, 111] tx #[.string k, .int .i64 m, .string x, .slice ad c1 c2, .string k', .int .i64 n', .string m', .slice ad' l' c'] 2 ((exprT T g d (lv + 1) (j + 1)).bind fun r j2 => .ok (.mk kTwo 0 tx [y, r]) j2) (fun z j3 hz => by
          cases hq : exprT T g d (lv + 1) (j + 1) with
          | out => rw [hq] at hz; cases hz
          | bad c k => rw [hq] at hz; cases hz
          | ok y2 j4 =>
            rw [hq] at hz
            cases hz
            refine ⟨[y, y2], rfl, rfl, _, _, rfl, RepE.imp (fun b hb => ⟨hb.1, by have := hb.2.1; omega, hb.2.2⟩) (fun b hb => hb7.block b hb.2.1 (by have := hb.1; omega)) _ _ (K6.out y j rfl), _, [], by simp, RepE.imp (fun b hb => ⟨by have := hb.1; omega, hb.2, by have := hb.1; omega⟩) (fun _ _ => rfl) _ _ (HREP.out y2 _ hq), rfl⟩)
        have r1 : ExR T a p d l w.heap.size w1.heap.size w r g W := by
          refine ⟨(exprT T g d (lv + 1) (j + 1)).bind fun r j2 => .ok (.mk kTwo 0 tx [y, r]) j2, ?_, But2.base (b5.trans hb7) o2 (by omega), (o2.block _ (by omega) (by omega) (by omega)).trans (heap_keep hb7 HR5.out (by omega)), o3, ?_⟩
          · cases hq : exprT T g d (lv + 1) (j + 1) with
            | out => rw [hq] at o1; exact o1
            | bad c k => rw [hq] at o1; exact o1
            | ok y2 j4 => rw [hq] at o1; exact o1
          · rw [← HL2.out]
            cases exprT T g d (lv + 1) (j + 1) <;> rfl
        have hzW := o2.size
        have R1 := hid r1
        clear r1 o1 o2 o3 hp6
        rw [← hW]
        clear hW
        go_wp2
        go_roundg g
        case measure => omega
        case rel => exact ⟨R1.out, by omega, by omega⟩
theorem single_zero {T : List Tok} {a : Nat → Addr} {p : Nat} : SOk T a p 0 := by
  intro d s w h hout
  cases s with
  | out => exact absurd rfl hout
  | ok u i => exact absurd (by rw [Rs.via_ok, singleT]) hout
  | bad c k => exact single_par (n := 0) (fun ⟨i, hi⟩ => by cases hi) h (by rw [nxt_bad]; decide) (by rw [nxt_bad]; decide) (sees_bad sign_ne) (sees_bad sign_ne) (fun e => by cases e)
/-- The contracts of expr and single, whatever the bound. -/
theorem es_ok {T : List Tok} {a : Nat → Addr} {p : Nat} (HT : ∀ t ∈ T, t.Good) : ∀ n m, m ≤ n → EOk T a p m ∧ SOk T a p m := by
  have e1 : EOk T a p 1 := expr_ok (fun m hm => absurd hm (by omega)) single_zero
  have e0 : EOk T a p 0 := fun d l s w hl hl9 h hout => by
    cases s with
    | out => exact absurd rfl hout
    | ok u i => exact absurd (by rw [Rs.via_ok, exprT]) hout
    | bad c k => exact e1 d l (.bad c k) w hl hl9 h (fun e => by cases e)
  intro n
  induction n with
  | zero => intro m hm; obtain rfl : m = 0 := by omega
            exact ⟨e0, single_zero⟩
  | succ n ih =>
    intro m hm
    rcases Nat.lt_or_ge m (n + 1) with h | h
    · exact ih m (by omega)
    · obtain rfl : m = n + 1 := by omega
      exact ⟨expr_ok (fun m hm => (ih m (by omega)).1) (ih n (Nat.le_refl _)).2, single_ok HT (fun m hm => (ih m hm).1) (ih n (Nat.le_refl _)).2⟩
theorem eok {T : List Tok} {a : Nat → Addr} {p : Nat} (HT : ∀ t ∈ T, t.Good) (n : Nat) : EOk T a p n := (es_ok HT n n (Nat.le_refl _)).1
end Go.Proofs.YtcebpmaggnephabDoor
