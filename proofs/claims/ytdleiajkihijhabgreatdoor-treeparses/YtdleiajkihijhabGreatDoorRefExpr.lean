/-
  Our own: the reference's parser: an expression with ops of two.
-/
import Derived.Test.YtdleiajkihijhabGreatDoorRefAhead
import Derived.Test.YtdleiajkihijhabGreatDoorTreeExpr
namespace Go.Proofs.YtdleiajkihijhabGreatDoor
open Go.RowKit

/-- What a block of one Expr of the reference holds: the tree in other blocks behind rb. -/
def EbR (rb eb : Nat) (r : Rs Ex) (w : World) : Prop :=
  ∃ k i m ad l c, w.heap[eb]? = some (.cells #[.string k, .int .i64 i, .string m, .slice ad l c] 89 (0, 0)) ∧ ∀ x j, r = .ok x j → RepE (InX rb eb w) w x [.string k, .int .i64 i, .string m, .slice ad l c]
theorem EbR.keep {p rb eb : Nat} {r : Rs Ex} {w w' : World} (h : EbR rb eb r w) (hb : But p w w') (hp : p < rb) (hr : rb < eb) : EbR rb eb r w' := by
  obtain ⟨k, i, x, ad, l, c, h1, h2⟩ := h
  exact ⟨k, i, x, ad, l, c, heap_keep hb h1 (by omega), fun y j hy => RepE.imp (fun b hb' => ⟨hb'.1, Nat.lt_of_lt_of_le hb'.2.1 hb.size, hb'.2.2⟩) (fun b hb' => hb.block b hb'.2.1 (by have := hb'.1; omega)) _ _ (h2 y j hy)⟩
/-- An Expr with new kids laid into block eb, two new blocks behind. -/
theorem eb_twoR {T : List Tok} {q d rb eb : Nat} {s : Rs Unit} {w : World} {x0 x1 x2 x3 : Value} (hp : RAt T q d s w) (heb : w.heap[eb]? = some (.cells #[x0, x1, x2, x3] 89 (0, 0))) (hpe : q < eb) (hrb : rb < eb)
    (kk tx : List UInt8) (K row : Array Value) (L : Nat) (r : Rs Ex) (hrep : ∀ x j, r = .ok x j → ∃ ys, x = .mk kk 0 tx ys ∧ ys.length = L ∧ RepEs (InX rb eb w) w ys row.toList) :
    ∃ W, W = ((((((w.setCell ⟨eb, 0, none⟩ (.string ⟨kk.toArray⟩)).setCell ⟨eb, 1, none⟩ (.int .i64 0)).setCell ⟨eb, 2, none⟩ (.string ⟨tx.toArray⟩)).setCell ⟨eb, 3, none⟩ (.slice (some ⟨w.heap.size + 1, 0, none⟩) L L)).alloc (.cells K 89)).alloc (.cells row 89)) ∧
      RAt T q d s W ∧ But2 q eb w W ∧ EbR rb eb r W := by
  have hlt := heap_lt heb
  have h4 := set4_blk heb (.string ⟨kk.toArray⟩) (.int .i64 0) (.string ⟨tx.toArray⟩) (.slice (some ⟨w.heap.size + 1, 0, none⟩) L L)
  have hp4 := hp.set4 hpe (.string ⟨kk.toArray⟩) (.int .i64 0) (.string ⟨tx.toArray⟩) (.slice (some ⟨w.heap.size + 1, 0, none⟩) L L)
  have hb4 : But2 q eb w ((((w.setCell ⟨eb, 0, none⟩ (.string ⟨kk.toArray⟩)).setCell ⟨eb, 1, none⟩ (.int .i64 0)).setCell ⟨eb, 2, none⟩ (.string ⟨tx.toArray⟩)).setCell ⟨eb, 3, none⟩ (.slice (some ⟨w.heap.size + 1, 0, none⟩) L L)) := ((((But2.refl q eb w).set 0 _).set 1 _).set 2 _).set 3 _
  have hs4 := @size_set4 w eb (.string ⟨kk.toArray⟩) (.int .i64 0) (.string ⟨tx.toArray⟩) (.slice (some ⟨w.heap.size + 1, 0, none⟩) L L)
  have hk4 : ∀ k, k ≠ eb → ((((w.setCell ⟨eb, 0, none⟩ (.string ⟨kk.toArray⟩)).setCell ⟨eb, 1, none⟩ (.int .i64 0)).setCell ⟨eb, 2, none⟩ (.string ⟨tx.toArray⟩)).setCell ⟨eb, 3, none⟩ (.slice (some ⟨w.heap.size + 1, 0, none⟩) L L)).heap[k]? = w.heap[k]? := fun k hk => heap_set4 hk
  generalize ((((w.setCell ⟨eb, 0, none⟩ (.string ⟨kk.toArray⟩)).setCell ⟨eb, 1, none⟩ (.int .i64 0)).setCell ⟨eb, 2, none⟩ (.string ⟨tx.toArray⟩)).setCell ⟨eb, 3, none⟩ (.slice (some ⟨w.heap.size + 1, 0, none⟩) L L)) = w4 at h4 hp4 hb4 hs4 hk4 ⊢
  have hal : Below w4.heap.size w4 ((w4.alloc (.cells K 89)).alloc (.cells row 89)) := ((Below.refl _ _).alloc (Nat.le_refl _) _).alloc (by rw [size_alloc]; omega) _
  have hnew : ((w4.alloc (.cells K 89)).alloc (.cells row 89)).heap[w.heap.size + 1]? = some (.cells row 89 (0, 0)) := by
    have := heap_alloc_new (w4.alloc (.cells K 89)) (.cells row 89)
    rwa [size_alloc, hs4] at this
  have hz : ((w4.alloc (.cells K 89)).alloc (.cells row 89)).heap.size = w.heap.size + 2 := by rw [size_alloc, size_alloc, hs4]
  refine ⟨_, rfl, hp4.keep hal, (hb4.alloc _).alloc _, _, _, _, _, _, _, (hal.block eb (heap_lt h4)).trans h4, fun x j hj => ?_⟩
  obtain ⟨ys, rfl, hl, hr⟩ := hrep x j hj
  exact rep_new hl ⟨by omega, by omega, by omega⟩ (fun j u hu => cell_row hnew j u hu) (RepEs.imp (fun b hb => ⟨hb.1, by have := hb.2.1; omega, hb.2.2⟩) (fun b hb => (hal.block b (by have := hb.2.1; omega)).trans (hk4 b hb.2.2)) _ _ hr)
/-- A round of the reference's loop. -/
def RxR (T : List Tok) (q d l rb eb : Nat) (w : World) (r : Rs Ex) (k : Nat) (wr : World) : Prop :=
  ∃ rr : Rs Ex, RAt T q d rr.st wr ∧ But q w wr ∧ wr.heap[rb]? = some (.cells #[.string ⟨#[]⟩, .int .i64 0, .string ⟨#[]⟩, .slice none 0 0] 89 (0, 0)) ∧ EbR rb eb rr wr ∧ rr.bind (loopT T k d l) = r
theorem level_next (T : List Tok) (j : Nat) : signLevel (nextR T kSign (.ok () j)) = levelT (tk T j) := by
  unfold nextR levelT
  show signLevel (if (tk T j).kind = kSign then (tk T j).text else []) = _
  by_cases h : (tk T j).kind = kSign
  · rw [if_pos h, if_pos h]
  · rw [if_neg h, if_neg h]; rfl
theorem level_text {T : List Tok} {j : Nat} (h : 0 < levelT (tk T j)) : nextR T kSign (.ok () j) = (tk T j).text := by
  refine if_pos ?_
  unfold levelT at h
  split at h
  · next hk => exact hk
  · omega
set_option maxHeartbeats 4000000 in
set_option maxRecDepth 100000 in
theorem rexpr_ok {T : List Tok} {q n : Nat} (hE : ∀ m, m < n → REOk T q m) (hS : RSOk T q n) : REOk T q (n + 1) := by
  intro d l s w hl hl9 h hout
  have hlt := h.lt
  obtain ⟨r, hr⟩ : ∃ r, r = s.via (exprT T (n + 1) d l) := ⟨_, rfl⟩
  rw [← hr] at hout ⊢
  have hr2 : r = (s.via (singleT T n d)).bind fun e j => loopT T n d l e j := by
    rw [hr]
    cases s with
    | out => rfl
    | bad c k => rfl
    | ok u i => rw [Rs.via_ok, Rs.via_ok, exprT]
  have hso : s.via (singleT T n d) ≠ .out := fun e => hout (by rw [hr2, e]; rfl)
  have HR := hidR hr2
  have HE := hidR hE
  have HO := hidR hout
  clear hr hr2 hE hout
  go_enter Tryz.func52, Tryz.ntmps52
  go_wp2_with fail
  have hb0 : Below w.heap.size w (w.alloc (.cells #[.string ⟨#[]⟩, .int .i64 0, .string ⟨#[]⟩, .slice none 0 0] 89)) := by (repeat (first | exact Below.refl _ _ | assumption | refine Below.drew ?_ | refine Below.trans ?_ (drewN_below' _ _ _) | refine Below.setCell ?_ (by first | (simp; done) | (simp; omega)) _ | refine Below.alloc ?_ (by first | (simp; done) | (simp; omega)) _))
  have hr0 := heap_alloc_new w (.cells #[.string ⟨#[]⟩, .int .i64 0, .string ⟨#[]⟩, .slice none 0 0] 89)
  have hz0 := size_alloc w (.cells #[.string ⟨#[]⟩, .int .i64 0, .string ⟨#[]⟩, .slice none 0 0] 89)
  generalize w.alloc (.cells #[.string ⟨#[]⟩, .int .i64 0, .string ⟨#[]⟩, .slice none 0 0] 89) = w0 at hb0 hr0 hz0 ⊢
  refine (hS d s w0 (h.keep hb0) hso).mono ?_
  rintro e w1 hx1
  obtain ⟨k, m, x, ad, c1, c2, rfl, k1, k2, k3⟩ := hx1.rep (rb := w.heap.size) (by omega)
  have hz1 := k3.size
  have r0 : RxR T q d l w.heap.size w1.heap.size w r n (w1.alloc (.cells #[.string k, .int .i64 m, .string x, .slice ad c1 c2] 89)) := by
    have hal : Below w1.heap.size w1 (w1.alloc (.cells #[.string k, .int .i64 m, .string x, .slice ad c1 c2] 89)) := by (repeat (first | exact Below.refl _ _ | assumption | refine Below.drew ?_ | refine Below.trans ?_ (drewN_below' _ _ _) | refine Below.setCell ?_ (by first | (simp; done) | (simp; omega)) _ | refine Below.alloc ?_ (by first | (simp; done) | (simp; omega)) _))
    have hz2 := hal.size
    refine ⟨s.via (singleT T n d), k2.keep hal, ((But.of hb0).trans k3).trans (But.of hal), (hal.block _ (by omega)).trans (heap_keep k3 hr0 (by omega)), ⟨_, _, _, _, _, _, heap_alloc_new _ _, fun y j hy => ?_⟩, HR.out.symm⟩
    exact RepE.imp (fun b hb => ⟨by have := hb.1; omega, by have := hb.2; omega, by have := hb.2; omega⟩) (fun b hb => hal.block b hb.2) _ _ (k1 y j hy)
  have hle : w1.heap.size < (w1.alloc (.cells #[.string k, .int .i64 m, .string x, .slice ad c1 c2] 89)).heap.size := by rw [size_alloc]; omega
  have R0 := hidR r0
  clear r0 k1 k2 hx1
  go_wp2_with fail
  go_loopg [] n (fun k wr => RxR T q d l w.heap.size w1.heap.size w r k wr ∧ k ≤ n ∧ w1.heap.size < wr.heap.size)
  case atStart => exact ⟨R0.out, Nat.le_refl _, hle⟩
  case round =>
    obtain ⟨⟨rr, hpr, hbr, hrr, her, hlr⟩, hkn, hwr⟩ := hrel
    have hzr := hbr.size
    have fin : ∀ W, But q wr W → RAt T q d rr.st W → ∃ k m x ad c1 c2, W.heap[w1.heap.size]? = some (.cells #[.string k, .int .i64 m, .string x, .slice ad c1 c2] 89 (0, 0)) ∧ W.heap[w.heap.size]? = some (.cells #[.string ⟨#[]⟩, .int .i64 0, .string ⟨#[]⟩, .slice none 0 0] 89 (0, 0)) ∧ ∀ y j, rr = .ok y j → RepE (InB (w.heap.size + 1) W) W y [.string k, .int .i64 m, .string x, .slice ad c1 c2] := fun W hb hp => by
      obtain ⟨k, m, x, ad, c1, c2, g1, g2⟩ := her.keep hb (by omega) (by omega)
      exact ⟨k, m, x, ad, c1, c2, g1, heap_keep hb hrr (by omega), fun y j hy => RepE.imp (fun b hb => ⟨hb.1, hb.2.1⟩) (fun _ _ => rfl) _ _ (g2 y j hy)⟩
    have HLR := hidR hlr
    have HRR := hidR hrr
    have HER := hidR her
    have HF := hidR fin
    clear hlr hrr her fin
    cases rr with
    | out => exact absurd HLR.out.symm HO.out
    | bad c0 k0 =>
      have hc : ∃ v : Int, wr.cell? ⟨q, 3, none⟩ = some (.int .i64 v) ∧ (v == 0) = false := by obtain ⟨_, _, tv, i, dd, c1, k1, hx, _, _, rfl, h0, _⟩ := hpr; exact ⟨_, cell_of_blk hx 3, by simpa using (by omega : (c0 : Int) ≠ 0)⟩
      obtain ⟨v, hc, hv⟩ := hc
      obtain ⟨k, m, x, ad, c1, c2, k5, hr4, k6⟩ := HF.out wr (But.refl q wr) hpr
      have n2 := heap_lt hr4
      have n3 := heap_lt k5
      have e50 : wr.cell? ⟨w1.heap.size, 0, none⟩ = some (.string k) := cell_of_blk k5 0
      have e51 : wr.cell? ⟨w1.heap.size, 1, none⟩ = some (.int .i64 m) := cell_of_blk k5 1
      have e52 : wr.cell? ⟨w1.heap.size, 2, none⟩ = some (.string x) := cell_of_blk k5 2
      have e53 : wr.cell? ⟨w1.heap.size, 3, none⟩ = some (.slice ad c1 c2) := cell_of_blk k5 3
      have r50 := cell_of_blk hr4 0
      have r51 := cell_of_blk hr4 1
      have r52 := cell_of_blk hr4 2
      have r53 := cell_of_blk hr4 3
      have q50 := free_of_blk hr4 0
      have q51 := free_of_blk hr4 1
      have q52 := free_of_blk hr4 2
      have q53 := free_of_blk hr4 3
      have HR5 := hidR hr4
      have K2 := hidR hpr
      have K6 := hidR k6
      clear hr4 hpr k5 k6
      go_wp2
      rw [← HLR.out]
      exact ret_rx Tryz.results52 rfl (by omega) (Nat.le_refl _) HR5.out K2.out hbr (fun y j hy => by cases hy)
    | ok y j =>
      obtain ⟨tv, hx, hjT⟩ := hpr.at
      have hc : wr.cell? ⟨q, 3, none⟩ = some (.int .i64 0) := cell_of_blk hx 3
      have hn := rnext_any hpr kSign sign_ne
      rw [Rs.st_ok] at hn
      have hlv := level_next T j
      obtain ⟨g, rfl⟩ : ∃ g, gk = g + 1 := by
        cases gk with
        | zero => exact absurd (HLR.out.symm.trans (by rw [Rs.bind_ok, loopT])) HO.out
        | succ g => exact ⟨g, rfl⟩
      have hlr := HLR.out
      rw [Rs.bind_ok, loopT] at hlr
      have hlv8 := levelT_le (tk T j)
      have htxt := level_text (T := T) (j := j)
      have hlvT := level_lt (T := T) (i := j) (l := l)
      obtain ⟨tx, htx⟩ : ∃ tx, tx = nextR T kSign (.ok () j) := ⟨_, rfl⟩
      rw [← htx] at hn hlv htxt
      have hsl := rlevel_any tx
      obtain ⟨lv, hlv'⟩ : ∃ lv, lv = signLevel tx := ⟨_, rfl⟩
      rw [← hlv'] at hsl hlv
      rw [← hlv] at hlr hlv8 htxt hlvT
      by_cases hlt2 : lv < l
      · rw [if_pos hlt2] at hlr
        have hlt3 : (lv : Int) - 1 < (l : Int) - 1 := by omega
        have HQ := hidR hlr
        clear hlr htxt hlvT hlv hx htx hlv'
        go_wp2_with fail
        refine hn.mono ?_
        rintro e w2 ⟨rfl, hb2⟩
        have hz2 := hb2.size
        go_wp2_with fail
        refine (hsl w2).mono ?_
        rintro e w2' ⟨rfl, hh⟩
        replace hh := hh.symm
        subst hh
        obtain ⟨k, m, x, ad, c1, c2, k5, hr4, k6⟩ := HF.out w2 (But.of hb2) (hpr.keep hb2)
        have hp4 := hpr.keep hb2
        have n2 := heap_lt hr4
        have n3 := heap_lt k5
        have e50 : w2.cell? ⟨w1.heap.size, 0, none⟩ = some (.string k) := cell_of_blk k5 0
        have e51 : w2.cell? ⟨w1.heap.size, 1, none⟩ = some (.int .i64 m) := cell_of_blk k5 1
        have e52 : w2.cell? ⟨w1.heap.size, 2, none⟩ = some (.string x) := cell_of_blk k5 2
        have e53 : w2.cell? ⟨w1.heap.size, 3, none⟩ = some (.slice ad c1 c2) := cell_of_blk k5 3
        have r50 := cell_of_blk hr4 0
        have r51 := cell_of_blk hr4 1
        have r52 := cell_of_blk hr4 2
        have r53 := cell_of_blk hr4 3
        have q50 := free_of_blk hr4 0
        have q51 := free_of_blk hr4 1
        have q52 := free_of_blk hr4 2
        have q53 := free_of_blk hr4 3
        have HR5 := hidR hr4
        have K2 := hidR hp4
        have K6 := hidR k6
        clear hr4 hp4 k5 k6 hn hsl
        go_wp2
        rw [← HQ.out]
        refine ret_rx Tryz.results52 rfl (by omega) (Nat.le_refl _) HR5.out K2.out (hbr.trans (But.of hb2)) (fun y2 j2 hy => ?_)
        cases hy
        exact K6.out y j rfl
      · rw [if_neg hlt2] at hlr
        have hjl := hlvT hlt2 hl
        have htj : tx = (tk T j).text := htxt (by omega)
        rw [← htj] at hlr
        have ho : Rs.via (.ok () (j + 1)) (exprT T g d (lv + 1)) ≠ .out := fun e => HO.out (by rw [← hlr, show exprT T g d (lv + 1) (j + 1) = .out from e]; rfl)
        have hlt3 : ¬ (lv : Int) - 1 < (l : Int) - 1 := by omega
        have hlv9 : (lv : Int) ≤ 8 := by omega
        have hlv0 : (0 : Int) ≤ lv := by omega
        have hj1 : (j : Int) ≤ 1000 := by have := hpr.few; omega
        have HL2 := hidR hlr
        have HO2 := hidR ho
        have HJL := hidR hjl
        clear hlr ho hjl htxt hlvT hlv hx htx htj hlv' hlv8
        go_wp2_with fail
        refine hn.mono ?_
        rintro e w2 ⟨rfl, hb2⟩
        have hz2 := hb2.size
        go_wp2_with fail
        refine (hsl w2).mono ?_
        rintro e w2' ⟨rfl, hh⟩
        replace hh := hh.symm
        subst hh
        have hp4 := hpr.keep hb2
        obtain ⟨tv2, hx2, _⟩ := hp4.at
        have c1 : w2.cell? ⟨q, 1, none⟩ = some (.int .i64 j) := cell_of_blk hx2 1
        have f1 := free_of_blk hx2 1
        have hlt4 := heap_lt hx2
        have HP4 := hidR hp4
        clear hx2 hp4 hn hsl
        go_wp2_with fail
        have hp5 := HP4.out.step HJL.out
        have b5 : But q w (w2.setCell ⟨q, 1, none⟩ (.int .i64 ((j : Int) + 1))) := (hbr.trans (But.of hb2)).set 1 _
        have b25 : But q wr (w2.setCell ⟨q, 1, none⟩ (.int .i64 ((j : Int) + 1))) := (But.of hb2).set 1 _
        have hz5 : (w2.setCell ⟨q, 1, none⟩ (.int .i64 ((j : Int) + 1))).heap.size = w2.heap.size := by simp [World.setCell]
        generalize w2.setCell ⟨q, 1, none⟩ (.int .i64 ((j : Int) + 1)) = w5 at hp5 b5 b25 hz5 ⊢
        have ee := HE.out g (by omega) d (lv + 1) (.ok () (j + 1)) w5 (by omega) (by omega) hp5 HO2.out
        rw [show ((lv + 1 : Nat) : Int) - 1 = (lv : Int) by omega, Rs.via_ok] at ee
        refine ee.mono ?_
        rintro e w6 ⟨k', n', m', ad', l', c', rfl, hrep, hp6, hb6⟩
        have hz6 := hb6.size
        have b6 : But q wr w6 := b25.trans hb6
        obtain ⟨k, m, x, ad, c1, c2, k5, k6⟩ := HER.out.keep b6 (by omega) (by omega)
        have hr6 := heap_keep b6 HRR.out (by omega)
        have e60 : w6.cell? ⟨w1.heap.size, 0, none⟩ = some (.string k) := cell_of_blk k5 0
        have e61 : w6.cell? ⟨w1.heap.size, 1, none⟩ = some (.int .i64 m) := cell_of_blk k5 1
        have e62 : w6.cell? ⟨w1.heap.size, 2, none⟩ = some (.string x) := cell_of_blk k5 2
        have e63 : w6.cell? ⟨w1.heap.size, 3, none⟩ = some (.slice ad c1 c2) := cell_of_blk k5 3
        have f60 := free_of_blk k5 0
        have f61 := free_of_blk k5 1
        have f62 := free_of_blk k5 2
        have f63 := free_of_blk k5 3
        have l6 := heap_lt k5
        obtain ⟨W, hW, o1, o2, o3⟩ := eb_twoR (rb := w.heap.size) hp6 k5 (by omega) (by omega) [116, 119, 111] tx #[.string k', .int .i64 n', .string m', .slice ad' l' c'] #[.string k, .int .i64 m, .string x, .slice ad c1 c2, .string k', .int .i64 n', .string m', .slice ad' l' c'] 2 ((exprT T g d (lv + 1) (j + 1)).bind fun r j2 => .ok (.mk kTwo 0 tx [y, r]) j2) (fun z j3 hz => by
          cases hq : exprT T g d (lv + 1) (j + 1) with
          | out => rw [hq] at hz; cases hz
          | bad c k => rw [hq] at hz; cases hz
          | ok y2 j4 =>
            rw [hq] at hz
            cases hz
            exact ⟨[y, y2], rfl, rfl, _, _, rfl, k6 y j rfl, _, [], by simp, RepE.imp (fun b hb => ⟨by have := hb.1; omega, hb.2, by have := hb.1; omega⟩) (fun _ _ => rfl) _ _ (hrep y2 _ hq), rfl⟩)
        have r1 : RxR T q d l w.heap.size w1.heap.size w r g W := by
          refine ⟨(exprT T g d (lv + 1) (j + 1)).bind fun r j2 => .ok (.mk kTwo 0 tx [y, r]) j2, ?_, But2.base (b5.trans hb6) o2 (by omega), (o2.block _ (by omega) (by omega) (by omega)).trans hr6, o3, ?_⟩
          · cases hq : exprT T g d (lv + 1) (j + 1) with
            | out => rw [hq] at o1; exact o1
            | bad c k => rw [hq] at o1; exact o1
            | ok y2 j4 => rw [hq] at o1; exact o1
          · rw [← HL2.out]
            cases exprT T g d (lv + 1) (j + 1) <;> rfl
        have hzW := o2.size
        have R1 := hidR r1
        have HW := hidR hW
        clear r1 o1 o2 o3 hp6 hrep k5 k6 hr6 hW ee
        go_wp2
        rw [← HW.out]
        go_roundg g
        case measure => omega
        case rel => exact ⟨R1.out, by omega, by omega⟩
end Go.Proofs.YtdleiajkihijhabGreatDoor
