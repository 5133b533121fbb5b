/-
  Our own: the reference's parser: a program.
-/
import Derived.Test.YtdleiajkihijhabGreatDoorRefBlock
import Derived.Test.YtdleiajkihijhabGreatDoorTreeParse
namespace Go.Proofs.YtdleiajkihijhabGreatDoor
open Go.RowKit

/-- A round of the reference's parameters: the function's block fb holds those read. -/
def NR (T : List Tok) (q fb : Nat) (nm : ByteArray) (w : World) (r : Rs (List (List UInt8))) (k : Nat) (wr : World) : Prop :=
  ∃ (l : List (List UInt8)) (j : Nat) (v : Value), RAt T q 0 (.ok () j) wr ∧ Bb q fb w wr ∧ wr.heap[fb]? = some (.cells #[.string nm, v, .slice none 0 0] 70 (0, 0)) ∧
    wr.ownsRow (fb + 1) 9 1 v l.length (textsC l) ∧ l.length ≤ j ∧ namesT T k l j = r
/-- A round of the reference's functions. -/
def FR (T : List Tok) (q : Nat) (w : World) (k : Nat) (v : Value) (wr : World) : Prop :=
  ∃ (rr : Rs (List Fu)) (cnt : Nat) (xs : List Value), RAt T q 0 rr.st wr ∧ Below q w wr ∧ wr.ownsRow (q + 1) 70 3 v cnt xs ∧
    (∀ l, rr.list = some l → l.length = cnt ∧ RepFs (fun b => q < b ∧ b < wr.heap.size ∧ v.ownBlock ≠ some b) wr l xs) ∧ (∀ l j, rr = .ok l j → cnt ≤ j) ∧ rr.bind (funsT T k) = parseT T
theorem rf_info : (Tryz.prog.info? 70).map (fun i => (i.zero, i.size, i.bytes)) = some (some (.agg #[.string ⟨#[]⟩, .slice none 0 0, .slice none 0 0]), 3, 64) := by kernel_rfl
theorem FR.next {T : List Tok} {q g j cnt : Nat} {w wr w6 w7 W : World} {l : List Fu} {v v' : Value} {xs cs : List Value} (hpr : q < wr.heap.size)
    (hq : ((funT T g j).bind fun f j => funsT T g (l ++ [f]) j) = parseT T) (hcj : cnt ≤ j) (hbl : Below q w wr) (hown : wr.ownsRow (q + 1) 70 3 v cnt xs)
    (hes : ∀ l', (Rs.ok l j).list = some l' → l'.length = cnt ∧ RepFs (fun b => q < b ∧ b < wr.heap.size ∧ v.ownBlock ≠ some b) wr l' xs)
    (k1 : ∀ x j2, funT T g j = .ok x j2 → RepF (InB wr.heap.size w6) w6 x cs) (k2 : RAt T q 0 (funT T g j).st w6) (k3 : But q wr w6) (hal : Below w6.heap.size w6 w7)
    (hown' : W.ownsRow (q + 1) 70 3 v' (cnt + 1) (xs ++ cs)) (hgrow : w7.grownBy W v.ownBlock) (hat : v'.ownBlock = v.ownBlock ∨ v'.ownBlock = some w7.heap.size) : FR T q w g v' W := by
  have hv : ∀ k, v.ownBlock = some k → q < k ∧ k < wr.heap.size := fun k hk => hown.lt k hk
  have hz6 := k3.size
  have hz7 := hal.size
  have hz8 := hgrow.size
  have hz := hbl.size
  have n7 : ∀ k, k < w6.heap.size → w7.heap[k]? = w6.heap[k]? := fun k hk => hal.block k hk
  have n8 : ∀ k, k < w6.heap.size → v.ownBlock ≠ some k → W.heap[k]? = w6.heap[k]? := fun k hk hne => (hgrow.block k (by omega) (fun e => hne e.symm)).trans (n7 k hk)
  refine ⟨(funT T g j).more l, cnt + 1, _, by rw [more_st]; exact (k2.keep hal).grown hgrow (fun k hk => (hv k hk).1), ⟨hgrow.os.trans (hal.os.trans (k3.os.trans hbl.os)), hgrow.tape.trans (hal.tape.trans (k3.tape.trans hbl.tape)), hgrow.output.trans (hal.output.trans (k3.output.trans hbl.output)), by omega, fun k hk => ?_⟩, hown', fun l' hl' => ?_, fun l2 j2 hl => ?_, ?_⟩
  · rw [n8 k (by omega) (fun e => by have := (hv k e).1; omega), k3.block k (by omega) (by omega)]
    exact hbl.block k hk
  · rw [more_list] at hl'
    obtain ⟨x, j2, l0, hr, he, rfl⟩ := Rs.add_some hl'
    cases he
    obtain ⟨hl0, hr0⟩ := hes l rfl
    have hnew : ∀ b, b < w7.heap.size → v.ownBlock ≠ some b → v'.ownBlock ≠ some b := fun b hb hne e => by
      rcases hat with h | h
      · exact hne (h ▸ e)
      · rw [h] at e; injection e with e; omega
    have o1 : RepFs (fun b => q < b ∧ b < W.heap.size ∧ v'.ownBlock ≠ some b) W l xs :=
      RepFs.imp (fun b hb => ⟨hb.1, by have := hb.2.1; omega, hnew b (by have := hb.2.1; omega) hb.2.2⟩) (fun b hb => by
        rw [n8 b (by have := hb.2.1; omega) hb.2.2]
        exact k3.block b hb.2.1 (by have := hb.1; omega)) _ _ hr0
    have o2 : RepF (fun b => q < b ∧ b < W.heap.size ∧ v'.ownBlock ≠ some b) W x cs :=
      RepF.imp (fun b hb => ⟨by have := hb.1; omega, by have := hb.2; omega, hnew b (by have := hb.2; omega) (fun e => by have := (hv b e).2; have := hb.1; omega)⟩) (fun b hb => n8 b hb.2 (fun e => by have := (hv b e).2; have := hb.1; omega)) _ _ (k1 x j2 hr)
    exact ⟨by simp [hl0], o1.snoc o2⟩
  · cases hr : funT T g j with
    | out => rw [hr] at hl; cases hl
    | bad c k => rw [hr] at hl; cases hl
    | ok x j' =>
      rw [hr] at hl
      cases hl
      have := fun_past hr
      omega
  · rw [← hq]; cases funT T g j <;> rfl
/-- What the reference's ParseOf leaves. -/
def RoTo (T : List Tok) (w : World) (e : Ending) (w' : World) : Prop :=
  Below w.heap.size w w' ∧ match parseT T with
  | .out => False
  | .bad c k => 0 < c ∧ e = .returned (.tuple #[.slice none 0 0, .agg #[.int .i64 (c : Nat), .int .i64 (k : Nat)]])
  | .ok P _ => ∃ ad n c xs, e = .returned (.tuple #[.slice ad n c, .agg #[.int .i64 0, .int .i64 (-1)]]) ∧ Row (InB w.heap.size w') w' (.slice ad n c) P.length xs ∧ RepFs (InB w.heap.size w') w' P xs
theorem own_some {w : World} {B n size : Nat} {t : TypeId} {v : Value} {xs : List Value} (h : w.ownsRow B t size v (n + 1) xs) : ∃ g cap, v = .slice (some ⟨g, 0, none⟩) (n + 1) cap := by
  rcases id h with ⟨_, ⟨_, h0⟩ | ⟨g, cap, cur, rfl, _⟩⟩
  · omega
  · exact ⟨g, cap, rfl⟩
/-- The end of the reference's ParseOf. -/
theorem ret_po {R : Ending → World → Prop} {tmps : Array Value} {W : World} {zb : Nat} {v : Value} {c k : Int} (hs2 : tmps[2]? = some v) (hs3 : tmps[3]? = some (ptrV zb)) (z0 : W.cell? ⟨zb, 0, none⟩ = some (.int .i64 c)) (z1 : W.cell? ⟨zb, 1, none⟩ = some (.int .i64 k)) (h : R (.returned (.tuple #[v, .agg #[.int .i64 c, .int .i64 k]])) W) :
    bodyPost Tryz.prog Tryz.f8 R Exit.ret { tmps := tmps, defers := [] } W := by
  refine bodyPost_ret (v := .tuple #[v, .agg #[.int .i64 c, .int .i64 k]]) ?_ rfl h
  simp [results, Tryz.results8, go_sem, hs2, hs3, z0, z1]
/-- A function's parameters are read: the parser's state, and the function's block. -/
def PaR (T : List Tok) (q fb : Nat) (nm : ByteArray) (w : World) (r : Rs (List (List UInt8))) (wr : World) : Prop :=
  ∃ ad cnt c xs, RAt T q 0 r.st wr ∧ Bb q fb w wr ∧ wr.heap[fb]? = some (.cells #[.string nm, .slice ad cnt c, .slice none 0 0] 70 (0, 0)) ∧ wr.ownsRow (fb + 1) 9 1 (.slice ad cnt c) cnt xs ∧ ∀ l j, r = .ok l j → l.length = cnt ∧ xs = textsC l
theorem fineR (w : World) : Calls Tryz.prog 17 #[] w fun e w' => e = .returned (.agg #[.int .i64 0, .int .i64 (-1)]) ∧ Below w.heap.size w w' := by
  go_enter Tryz.func17, Tryz.ntmps17
  go_wp2
  refine bodyPost_ret (v := .agg #[.int .i64 0, .int .i64 (-1)]) (by simp [results, Tryz.results17, go_sem]) rfl ⟨rfl, ?_⟩
  (repeat (first | exact Below.refl _ _ | assumption | refine Below.drew ?_ | refine Below.trans ?_ (drewN_below' _ _ _) | refine Below.setCell ?_ (by first | (simp; done) | (simp; omega)) _ | refine Below.alloc ?_ (by first | (simp; done) | (simp; omega)) _))
theorem rf_one (nm : ByteArray) (ad1 : Option Addr) (l1 c1 : Nat) (ad2 : Option Addr) (l2 c2 : Nat) : ∀ u ∈ ([.string nm, .slice ad1 l1 c1, .slice ad2 l2 c2] : List Value), u.oneCell' = true := by
  intro u hu
  simp only [List.mem_cons, List.not_mem_nil, or_false] at hu
  rcases hu with rfl | rfl | rfl <;> rfl
/-- A parameter appended. -/
theorem pa_app {T : List Tok} {q fb cnt g cap : Nat} {s2 : Rs Unit} {w wr w2 w3 w4 : World} {nm : ByteArray} {adv : Option Addr} {capv : Nat} {xs : List Value} {x : List UInt8} (h3 : q < fb) (hbr : Bb q fb w wr) (hb3 : But q wr w2) (hp2 : RAt T q 0 s2 w2) (hal : Below w2.heap.size w2 w3) (hgrow : w3.grownBy w4 (Value.slice adv cnt capv).ownBlock)
    (HE : wr.heap[fb]? = some (.cells #[.string nm, .slice adv cnt capv, .slice none 0 0] 70 (0, 0))) (HO : wr.ownsRow (fb + 1) 9 1 (.slice adv cnt capv) cnt xs)
    (hown4 : w4.ownsRow (fb + 1) 9 1 (.slice (some ⟨g, 0, none⟩) (cnt + 1) cap) (cnt + 1) (xs ++ [.string ⟨x.toArray⟩])) :
    w4.cell? ⟨fb, 1, none⟩ = some (.slice adv cnt capv) ∧ w4.frozen? ⟨fb, 1, none⟩ = false ∧ fb < w4.heap.size ∧ g ≠ fb ∧
    RAt T q 0 s2 (w4.setCell ⟨fb, 1, none⟩ (.slice (some ⟨g, 0, none⟩) (cnt + 1) cap)) ∧ Bb q fb w (w4.setCell ⟨fb, 1, none⟩ (.slice (some ⟨g, 0, none⟩) (cnt + 1) cap)) ∧
    (w4.setCell ⟨fb, 1, none⟩ (.slice (some ⟨g, 0, none⟩) (cnt + 1) cap)).heap[fb]? = some (.cells #[.string nm, .slice (some ⟨g, 0, none⟩) (cnt + 1) cap, .slice none 0 0] 70 (0, 0)) ∧
    (w4.setCell ⟨fb, 1, none⟩ (.slice (some ⟨g, 0, none⟩) (cnt + 1) cap)).ownsRow (fb + 1) 9 1 (.slice (some ⟨g, 0, none⟩) (cnt + 1) cap) (cnt + 1) (xs ++ [.string ⟨x.toArray⟩]) := by
  have hlt := heap_lt HE
  have hz2 := hb3.size
  have hz3 := hal.size
  have hz4 := hgrow.size
  have hge : fb < g := (hown4.lt g rfl).1
  have hv : ∀ k, (Value.slice adv cnt capv).ownBlock = some k → fb < k ∧ k < wr.heap.size := fun k hk => HO.lt k hk
  have n3 : ∀ k, k < w2.heap.size → w3.heap[k]? = w2.heap[k]? := fun k hk => hal.block k hk
  have n4 : ∀ k, k < w2.heap.size → (Value.slice adv cnt capv).ownBlock ≠ some k → w4.heap[k]? = w2.heap[k]? := fun k hk hne => (hgrow.block k (by omega) (fun e => hne e.symm)).trans (n3 k hk)
  have heb4 : w4.heap[fb]? = some (.cells #[.string nm, .slice adv cnt capv, .slice none 0 0] 70 (0, 0)) :=
    (n4 fb (by omega) (fun e => by have := (hv fb e).1; omega)).trans (heap_keep hb3 HE (by omega))
  have hp4 : RAt T q 0 s2 w4 := (hp2.keep hal).grown hgrow (fun k hk => by have := (hv k hk).1; omega)
  refine ⟨cell_of_blk heb4 1, free_of_blk heb4 1, heap_lt heb4, by omega, hp4.setCell h3 1 _, hbr.trans ⟨(hgrow.os.trans (hal.os.trans hb3.os)), (hgrow.tape.trans (hal.tape.trans hb3.tape)), (hgrow.output.trans (hal.output.trans hb3.output)), by simp [World.setCell]; omega, fun b hb hp => ?_⟩, (blk_setCell heb4 1 _).trans rfl, ownsRow_setCell_other hown4 (by simp [Value.ownBlock]; omega) _⟩
  rw [heap_far (by omega), n4 b (by omega) (fun e => by have := (hv b e).1; omega)]
  exact hb3.block b (by omega) hp
set_option maxHeartbeats 4000000 in
set_option maxRecDepth 100000 in
theorem rparse_any {T : List Tok} {w : World} {tv : Value} (HT : ∀ t ∈ T, t.Good) (hf : T.length ≤ 1000) (ht : ToksV w tv T w.heap.size) :
    Calls Tryz.prog 8 #[tv] w (RoTo T w) := by
  obtain ⟨i0, hi, hz0, hz1, hz2⟩ := info_parts rf_info
  obtain ⟨j0, hj0, hy0, hy1, hy2⟩ := info_parts str_info
  have hpt := parse_to T hf
  have hout : parseT T ≠ .out := fun e => by rw [e] at hpt; exact hpt
  obtain ⟨ad, cap, rfl, htv⟩ := id ht
  have hfl : (T.length : Int) ≤ 1000 := by omega
  have HO := hidR hout
  have HG := hidR HT
  have HTV := hidR ht
  clear hout HT ht htv hpt
  go_enter Tryz.func8, Tryz.ntmps8
  go_wp2_with fail
  have hbz : Below w.heap.size w (w.alloc (.cells #[.int .i64 0, .int .i64 0] 25)) := by (repeat (first | exact Below.refl _ _ | assumption | refine Below.drew ?_ | refine Below.trans ?_ (drewN_below' _ _ _) | refine Below.setCell ?_ (by first | (simp; done) | (simp; omega)) _ | refine Below.alloc ?_ (by first | (simp; done) | (simp; omega)) _))
  have hzz := size_alloc w (.cells #[.int .i64 0, .int .i64 0] 25)
  have hzb := heap_alloc_new w (.cells #[.int .i64 0, .int .i64 0] 25)
  generalize w.alloc (.cells #[.int .i64 0, .int .i64 0] 25) = w0 at hbz hzz hzb ⊢
  refine (fineR w0).mono ?_
  rintro e w1 ⟨rfl, hb1⟩
  have hs1 := hb1.size
  have b1 := bl_trans hbz hbz.size hb1
  have hzb1 := (hb1.block _ (by omega)).trans hzb
  have bq : Below w1.heap.size w1 (w1.alloc (.cells #[.slice ad T.length cap, .int .i64 0, .int .i64 0, .int .i64 0, .int .i64 (-1)] 65)) := by (repeat (first | exact Below.refl _ _ | assumption | refine Below.drew ?_ | refine Below.trans ?_ (drewN_below' _ _ _) | refine Below.setCell ?_ (by first | (simp; done) | (simp; omega)) _ | refine Below.alloc ?_ (by first | (simp; done) | (simp; omega)) _))
  have r0 : FR T w1.heap.size w1 4020 (.slice none 0 0) (w1.alloc (.cells #[.slice ad T.length cap, .int .i64 0, .int .i64 0, .int .i64 0, .int .i64 (-1)] 65)) := by
    refine ⟨.ok [] 0, 0, [], ⟨hf, by omega, _, 0, 0, 0, -1, heap_alloc_new _ _, Nat.zero_le _, ?_, rfl, rfl, rfl, rfl⟩, bq, ⟨rfl, Or.inl ⟨rfl, rfl⟩⟩, fun l hl => by cases hl; exact ⟨rfl, rfl⟩, fun _ _ _ => Nat.zero_le _, rfl⟩
    obtain ⟨ad', cap', e, hx⟩ := HTV.out
    refine ⟨ad', cap', e, fun hn => ?_⟩
    obtain ⟨g, off, rfl, hg, hT⟩ := hx hn
    exact ⟨g, off, rfl, by omega, hT.of ((bq.block g (by omega)).trans (b1.block g hg))⟩
  have R0 := hidR r0
  have HZB := hidR hzb1
  clear r0 hzb1 hzb bq HTV
  go_wp2_with fail
  go_loopg [5] 4020 (fun k v wr => FR T w1.heap.size w1 k v wr)
  case atStart => exact R0.out
  case round =>
    rename World => wo
    clear R0
    obtain ⟨rr, cnt, xs, hpr, hbl, hown, hes, hcr, hrr⟩ := hrel
    have hzr := hbl.size
    have hltp := hpr.lt
    obtain ⟨adv, capv, rfl⟩ := tokEmpty' hown
    have hzbr := (hbl.block w.heap.size (by omega)).trans HZB.out
    have bwr : Below w.heap.size w wo := b1.trans (hbl.mono (by omega))
    cases rr with
    | out => exact absurd hrr.symm HO.out
    | bad c0 k0 =>
      have hc : wo.cell? ⟨w1.heap.size, 3, none⟩ = some (.int .i64 (c0 : Nat)) ∧ wo.cell? ⟨w1.heap.size, 4, none⟩ = some (.int .i64 (k0 : Nat)) ∧ 0 < c0 := by obtain ⟨_, _, tv, i, dd, c1, k1, hx, _, _, rfl, h0, rfl⟩ := hpr; exact ⟨cell_of_blk hx 3, cell_of_blk hx 4, h0⟩
      obtain ⟨hc, hk, h0⟩ := hc
      have hv : ((c0 : Int) == 0) = false := by simpa using (by omega : (c0 : Int) ≠ 0)
      have hv2 : (0 : Int) < c0 := by omega
      have z0 := cell_of_blk hzbr 0
      have z1 := cell_of_blk hzbr 1
      have zf0 := free_of_blk hzbr 0
      have zf1 := free_of_blk hzbr 1
      have lz := heap_lt hzbr
      have HQ := hidR hrr
      have HZ := hidR hzbr
      clear hcr hrr hes hown hzbr
      go_wp2
      go_region
      go_wp2
      all_goals
        have y0 := blk_setCell (blk_setCell HZ.out 0 (.int .i64 (c0 : Nat))) 1 (.int .i64 (k0 : Nat))
        refine ret_po rfl rfl (zb := w.heap.size) (c := c0) (k := k0) (cell_of_blk y0 0) (cell_of_blk y0 1) ⟨?_, ?_⟩
        · exact ((bwr.drew).setCell (Nat.le_refl _) _).setCell (Nat.le_refl _) _
        · rw [← HQ.out]
          exact ⟨h0, rfl⟩
    | ok l j =>
      obtain ⟨tvx, hx, hjT⟩ := hpr.at
      have hc : wo.cell? ⟨w1.heap.size, 3, none⟩ = some (.int .i64 0) := cell_of_blk hx 3
      have hc1 : wo.cell? ⟨w1.heap.size, 1, none⟩ = some (.int .i64 j) := cell_of_blk hx 1
      have hcj := hcr l j rfl
      rw [Rs.bind_ok] at hrr
      obtain ⟨g, rfl⟩ : ∃ g, gk = g + 1 := by
        cases gk with
        | zero => exact absurd (hrr.symm.trans (by rw [funsT])) HO.out
        | succ g => exact ⟨g, rfl⟩
      rw [funsT] at hrr
      by_cases hjl : j < T.length
      · rw [if_pos hjl] at hrr
        have ho : Rs.via (.ok () j) (funT T g) ≠ .out := fun e => HO.out (by rw [← hrr, show funT T g j = .out from e]; rfl)
        have hjl2 : (j : Int) < T.length := by omega
        obtain ⟨s1, r2, s3, r4, r5, e1, e2, e3, e4, e5, e6, e7, e8⟩ := fun_st (T := T) (n := g) (.ok () j)
        have e9 := e7 ho
        rw [Rs.via_ok] at e6 e8
        have HQ := hidR hrr
        have HES := hidR hes
        have HBK := hidR (rbok (q := w1.heap.size) HG.out g)
        have E1 := hidR e1
        have E2 := hidR e2
        have E3 := hidR e3
        have E4 := hidR e4
        have E5 := hidR e5
        have E6 := hidR e6
        have E8 := hidR e8
        have E9 := hidR e9
        have HPR := hidR hpr
        clear hcr hrr hes ho e1 e2 e3 e4 e5 e6 e7 e8 e9 hx hpr
        go_wp2_with fail
        refine (rmust_any HG.out HPR.out kWord kFn rfl (Or.inr rfl) (by decide)).mono ?_
        rw [Rs.st_ok, E1.out]
        rintro e w2 ⟨rfl, hp2, hb2⟩
        have hz2' := hb2.size
        go_wp2_with fail
        refine (rname_any HG.out hp2).mono ?_
        rw [E2.out]
        rintro e w3 ⟨x, rfl, hxx, hp3, hb3⟩
        have hz3 := hb3.size
        have HXX := hidR hxx
        have HP3 := hidR hp3
        clear hxx hp3 hp2
        go_wp2_with fail
        have hb4' : Below w3.heap.size w3 (w3.alloc (.cells #[.string ⟨x.toArray⟩, .slice none 0 0, .slice none 0 0] 70)) := by (repeat (first | exact Below.refl _ _ | assumption | refine Below.drew ?_ | refine Below.trans ?_ (drewN_below' _ _ _) | refine Below.setCell ?_ (by first | (simp; done) | (simp; omega)) _ | refine Below.alloc ?_ (by first | (simp; done) | (simp; omega)) _))
        have hf4 := heap_alloc_new w3 (.cells #[.string ⟨x.toArray⟩, .slice none 0 0, .slice none 0 0] 70)
        have hz4 := size_alloc w3 (.cells #[.string ⟨x.toArray⟩, .slice none 0 0, .slice none 0 0] 70)
        generalize w3.alloc (.cells #[.string ⟨x.toArray⟩, .slice none 0 0, .slice none 0 0] 70) = w4 at hb4' hf4 hz4 ⊢
        have b4 : But w1.heap.size wo w4 := (hb2.trans hb3).trans (But.of hb4')
        refine (rmust_any HG.out (HP3.out.keep hb4') kSign [40] rfl (Or.inl rfl) (by simp)).mono ?_
        rw [E3.out]
        rintro e w5 ⟨rfl, hp5, hb5⟩
        have hz5 := hb5.size
        have hf5 := heap_keep hb5 hf4 (by omega)
        have HF5 := hidR hf5
        clear hf5 hf4
        cases s3 with
        | out => obtain ⟨_, _, _, _, _, _, _, _, _, _, he⟩ := hp5; exact he.elim
        | bad c3 k3 =>
          have hc5 : ∃ v : Int, w5.cell? ⟨w1.heap.size, 3, none⟩ = some (.int .i64 v) ∧ (v == 0) = false := by obtain ⟨_, _, tv, i, dd, c1, k1, hx, _, _, rfl, h0, _⟩ := hp5; exact ⟨_, cell_of_blk hx 3, by simpa using (by omega : (c3 : Int) ≠ 0)⟩
          obtain ⟨v5, hc5, hv5⟩ := hc5
          have e4 : r4 = .bad c3 k3 := E4.out.symm
          have HPA := hidR (show PaR T w1.heap.size w3.heap.size ⟨x.toArray⟩ w4 r4 w5 from ⟨none, 0, 0, [], by rw [e4]; exact hp5, hb5.bb (by omega), HF5.out, ⟨rfl, Or.inl ⟨rfl, rfl⟩⟩, fun l j hl => by rw [e4] at hl; cases hl⟩)
          clear e4 hp5
          obtain ⟨adp, cntp, cp, xsp, pp, pb, ph, po, pl⟩ := HPA.out
          have hzp := pb.size
          have HPH := hidR ph
          have HPO := hidR po
          have HPL := hidR pl
          have HPB := hidR pb
          have HPP := hidR pp
          clear ph po pl pb pp
          go_wp2_with fail
          refine (HBK.out 0 _ w5 HPP.out (by rw [E5.out]; exact E9.out.2)).mono ?_
          rw [E5.out]
          rintro e w20 hx20
          obtain ⟨ad2, l2, c2, rfl, k1, k2, k3⟩ := hx20.rep (rb := w3.heap.size) (by have := heap_lt HPH.out; omega)
          have hz20 := k3.size
          have hf20 := heap_keep k3 HPH.out (by omega)
          have lf20 := heap_lt hf20
          have f200 := cell_of_blk hf20 0
          have f201 := cell_of_blk hf20 1
          have f202 := cell_of_blk hf20 2
          have g202 := free_of_blk hf20 2
          have HF20 := hidR hf20
          have K1 := hidR k1
          have K2 := hidR k2
          have b20 : But w1.heap.size wo w20 := But.trans (Bb.base b4 HPB.out (by omega)) k3
          have hown20 := own_but' hown b20 (Nat.lt_succ_self _)
          have t1 := K2.out.setCell (r := w3.heap.size) (by omega) 2 (.slice ad2 l2 c2)
          have t2 : But w1.heap.size wo (w20.setCell ⟨w3.heap.size, 2, none⟩ (.slice ad2 l2 c2)) := b20.setNew _ 2 (by omega) _
          have t3 : ∀ b, b ≠ w3.heap.size → (w20.setCell ⟨w3.heap.size, 2, none⟩ (.slice ad2 l2 c2)).heap[b]? = w20.heap[b]? := fun b hb => heap_far hb
          have t4 : (w20.setCell ⟨w3.heap.size, 2, none⟩ (.slice ad2 l2 c2)).heap.size = w20.heap.size := by simp [World.setCell]
          have hown21 := own_but' hown t2 (Nat.lt_succ_self _)
          have rep : ∀ f j2, funT T g j = .ok f j2 → RepF (InB wo.heap.size (w20.setCell ⟨w3.heap.size, 2, none⟩ (.slice ad2 l2 c2))) (w20.setCell ⟨w3.heap.size, 2, none⟩ (.slice ad2 l2 c2)) f [.string ⟨x.toArray⟩, .slice adp cntp cp, .slice ad2 l2 c2] := fun f j2 hf => by
            obtain ⟨x', jj, ps, j4, b, q1, q2, q3, rfl⟩ := E8.out f j2 hf
            obtain ⟨rfl, _⟩ := HXX.out x' jj q1
            obtain ⟨hl0, hxs⟩ := HPL.out ps j4 q2
            obtain ⟨bs, v1, v2⟩ := K1.out b j2 q3
            have ki : ∀ b, InB (w3.heap.size + 1) w20 b → InB wo.heap.size (w20.setCell ⟨w3.heap.size, 2, none⟩ (.slice ad2 l2 c2)) b := fun b hb => ⟨by have := hb.1; omega, by have := hb.2; omega⟩
            have kk : KeepA (InB (w3.heap.size + 1) w20) w20 (w20.setCell ⟨w3.heap.size, 2, none⟩ (.slice ad2 l2 c2)) := fun b hb => t3 b (by have := hb.1; omega)
            have hrw : Row (fun b => w3.heap.size < b ∧ b < w5.heap.size) w5 (.slice adp cntp cp) ps.length (textsC ps) := by rw [hl0, ← hxs]; exact own_row HPO.out (fun g h1 h2 => ⟨by omega, h2⟩)
            exact ⟨_, _, bs, rfl, hrw.imp (fun b hb => ⟨by have := hb.1; omega, by have := hb.2; omega⟩) (fun b hb => (t3 b (by have := hb.1; omega)).trans (k3.block b hb.2 (by have := hb.1; omega))), v1.imp ki kk, RepSs.imp ki kk _ _ v2⟩
          have t1' : RAt T w1.heap.size 0 (funT T g j).st (w20.setCell ⟨w3.heap.size, 2, none⟩ (.slice ad2 l2 c2)) := by rw [E6.out]; exact t1
          have REP := hidR rep
          clear k1 k2 hx20 hf20 rep t1
          have nc : ∀ i u, ([.string ⟨x.toArray⟩, .slice adp cntp cp, .slice ad2 l2 c2] : List Value)[i]? = some u → ((w20.setCell ⟨w3.heap.size, 2, none⟩ (.slice ad2 l2 c2)).alloc (.cells #[.string ⟨x.toArray⟩, .slice adp cntp cp, .slice ad2 l2 c2] 70)).cell? ((⟨w20.heap.size, 0, none⟩ : Addr).add i) = some u := fun i u hu => by rw [← t4]; exact new_cells _ #[.string ⟨x.toArray⟩, .slice adp cntp cp, .slice ad2 l2 c2] _ i u hu
          have NC := hidR nc
          have T3 := hidR t3
          clear nc t3
          go_wp2_with (at_builtin; refine wpList_append_own_at _ rfl _ _ 35 rfl (w1.heap.size + 1) 70 i0 _ 3 64 Tryz.underlying35 hi hz0 hz1 hz2 rfl (by decide) _ cnt xs rfl (hown21.alloc _) ⟨w20.heap.size, 0, none⟩ 1 1 [.string ⟨x.toArray⟩, .slice adp cntp cp, .slice ad2 l2 c2] rfl rfl NC.out (rf_one ⟨x.toArray⟩ adp cntp cp ad2 l2 c2) (by unfold maxLen; omega) (by omega) (by simp; omega) ?_; intro v' w30 hown' hgrow _ hat')
          have hal : Below (w20.setCell ⟨w3.heap.size, 2, none⟩ (.slice ad2 l2 c2)).heap.size (w20.setCell ⟨w3.heap.size, 2, none⟩ (.slice ad2 l2 c2)) ((w20.setCell ⟨w3.heap.size, 2, none⟩ (.slice ad2 l2 c2)).alloc (.cells #[.string ⟨x.toArray⟩, .slice adp cntp cp, .slice ad2 l2 c2] 70)) := by (repeat (first | exact Below.refl _ _ | assumption | refine Below.drew ?_ | refine Below.trans ?_ (drewN_below' _ _ _) | refine Below.setCell ?_ (by first | (simp; done) | (simp; omega)) _ | refine Below.alloc ?_ (by first | (simp; done) | (simp; omega)) _))
          have R1 := hidR (FR.next hltp HQ.out hcj hbl hown HES.out REP.out t1' t2 hal hown' hgrow hat')
          clear hown' hgrow hat'
          go_roundg g
          case measure => omega
          case rel => exact R1.out
        | ok u3 j3 =>
          obtain ⟨tv5, hx5, hj3⟩ := hp5.at
          have hc5 : w5.cell? ⟨w1.heap.size, 3, none⟩ = some (.int .i64 0) := cell_of_blk hx5 3
          have e4 := E4.out
          rw [Rs.via_ok, paramsT] at e4
          have hs5 := reat_k HG.out hp5 kSign [41] rfl (Or.inl rfl) (by simp)
          rw [sees_ok, skip_ok] at hs5
          by_cases hcl : isT T kSign [41] j3
          · rw [if_pos hcl] at e4
            rw [if_pos hcl, show decide (isT T kSign [41] j3) = true by simpa using hcl] at hs5
            have E4' := hidR e4
            clear e4 hx5 hcl hp5
            go_wp2_with fail
            refine hs5.mono ?_
            rintro e w6 ⟨rfl, hp6, hb6⟩
            have HPA := hidR (show PaR T w1.heap.size w3.heap.size ⟨x.toArray⟩ w4 r4 w6 from ⟨none, 0, 0, [], by rw [← E4'.out]; exact hp6, (hb5.trans hb6).bb (by omega), heap_keep hb6 HF5.out (by omega), ⟨rfl, Or.inl ⟨rfl, rfl⟩⟩, fun l j hl => by rw [← E4'.out] at hl; cases hl; exact ⟨rfl, rfl⟩⟩)
            clear hp6 hs5
            obtain ⟨adp, cntp, cp, xsp, pp, pb, ph, po, pl⟩ := HPA.out
            have hzp := pb.size
            have HPH := hidR ph
            have HPO := hidR po
            have HPL := hidR pl
            have HPB := hidR pb
            have HPP := hidR pp
            clear ph po pl pb pp
            go_wp2_with fail
            refine (HBK.out 0 _ w6 HPP.out (by rw [E5.out]; exact E9.out.2)).mono ?_
            rw [E5.out]
            rintro e w20 hx20
            obtain ⟨ad2, l2, c2, rfl, k1, k2, k3⟩ := hx20.rep (rb := w3.heap.size) (by have := heap_lt HPH.out; omega)
            have hz20 := k3.size
            have hf20 := heap_keep k3 HPH.out (by omega)
            have lf20 := heap_lt hf20
            have f200 := cell_of_blk hf20 0
            have f201 := cell_of_blk hf20 1
            have f202 := cell_of_blk hf20 2
            have g202 := free_of_blk hf20 2
            have HF20 := hidR hf20
            have K1 := hidR k1
            have K2 := hidR k2
            have b20 : But w1.heap.size wo w20 := But.trans (Bb.base b4 HPB.out (by omega)) k3
            have hown20 := own_but' hown b20 (Nat.lt_succ_self _)
            have t1 := K2.out.setCell (r := w3.heap.size) (by omega) 2 (.slice ad2 l2 c2)
            have t2 : But w1.heap.size wo (w20.setCell ⟨w3.heap.size, 2, none⟩ (.slice ad2 l2 c2)) := b20.setNew _ 2 (by omega) _
            have t3 : ∀ b, b ≠ w3.heap.size → (w20.setCell ⟨w3.heap.size, 2, none⟩ (.slice ad2 l2 c2)).heap[b]? = w20.heap[b]? := fun b hb => heap_far hb
            have t4 : (w20.setCell ⟨w3.heap.size, 2, none⟩ (.slice ad2 l2 c2)).heap.size = w20.heap.size := by simp [World.setCell]
            have hown21 := own_but' hown t2 (Nat.lt_succ_self _)
            have rep : ∀ f j2, funT T g j = .ok f j2 → RepF (InB wo.heap.size (w20.setCell ⟨w3.heap.size, 2, none⟩ (.slice ad2 l2 c2))) (w20.setCell ⟨w3.heap.size, 2, none⟩ (.slice ad2 l2 c2)) f [.string ⟨x.toArray⟩, .slice adp cntp cp, .slice ad2 l2 c2] := fun f j2 hf => by
              obtain ⟨x', jj, ps, j4, b, q1, q2, q3, rfl⟩ := E8.out f j2 hf
              obtain ⟨rfl, _⟩ := HXX.out x' jj q1
              obtain ⟨hl0, hxs⟩ := HPL.out ps j4 q2
              obtain ⟨bs, v1, v2⟩ := K1.out b j2 q3
              have ki : ∀ b, InB (w3.heap.size + 1) w20 b → InB wo.heap.size (w20.setCell ⟨w3.heap.size, 2, none⟩ (.slice ad2 l2 c2)) b := fun b hb => ⟨by have := hb.1; omega, by have := hb.2; omega⟩
              have kk : KeepA (InB (w3.heap.size + 1) w20) w20 (w20.setCell ⟨w3.heap.size, 2, none⟩ (.slice ad2 l2 c2)) := fun b hb => t3 b (by have := hb.1; omega)
              have hrw : Row (fun b => w3.heap.size < b ∧ b < w6.heap.size) w6 (.slice adp cntp cp) ps.length (textsC ps) := by rw [hl0, ← hxs]; exact own_row HPO.out (fun g h1 h2 => ⟨by omega, h2⟩)
              exact ⟨_, _, bs, rfl, hrw.imp (fun b hb => ⟨by have := hb.1; omega, by have := hb.2; omega⟩) (fun b hb => (t3 b (by have := hb.1; omega)).trans (k3.block b hb.2 (by have := hb.1; omega))), v1.imp ki kk, RepSs.imp ki kk _ _ v2⟩
            have t1' : RAt T w1.heap.size 0 (funT T g j).st (w20.setCell ⟨w3.heap.size, 2, none⟩ (.slice ad2 l2 c2)) := by rw [E6.out]; exact t1
            have REP := hidR rep
            clear k1 k2 hx20 hf20 rep t1
            have nc : ∀ i u, ([.string ⟨x.toArray⟩, .slice adp cntp cp, .slice ad2 l2 c2] : List Value)[i]? = some u → ((w20.setCell ⟨w3.heap.size, 2, none⟩ (.slice ad2 l2 c2)).alloc (.cells #[.string ⟨x.toArray⟩, .slice adp cntp cp, .slice ad2 l2 c2] 70)).cell? ((⟨w20.heap.size, 0, none⟩ : Addr).add i) = some u := fun i u hu => by rw [← t4]; exact new_cells _ #[.string ⟨x.toArray⟩, .slice adp cntp cp, .slice ad2 l2 c2] _ i u hu
            have NC := hidR nc
            have T3 := hidR t3
            clear nc t3
            go_wp2_with (at_builtin; refine wpList_append_own_at _ rfl _ _ 35 rfl (w1.heap.size + 1) 70 i0 _ 3 64 Tryz.underlying35 hi hz0 hz1 hz2 rfl (by decide) _ cnt xs rfl (hown21.alloc _) ⟨w20.heap.size, 0, none⟩ 1 1 [.string ⟨x.toArray⟩, .slice adp cntp cp, .slice ad2 l2 c2] rfl rfl NC.out (rf_one ⟨x.toArray⟩ adp cntp cp ad2 l2 c2) (by unfold maxLen; omega) (by omega) (by simp; omega) ?_; intro v' w30 hown' hgrow _ hat')
            have hal : Below (w20.setCell ⟨w3.heap.size, 2, none⟩ (.slice ad2 l2 c2)).heap.size (w20.setCell ⟨w3.heap.size, 2, none⟩ (.slice ad2 l2 c2)) ((w20.setCell ⟨w3.heap.size, 2, none⟩ (.slice ad2 l2 c2)).alloc (.cells #[.string ⟨x.toArray⟩, .slice adp cntp cp, .slice ad2 l2 c2] 70)) := by (repeat (first | exact Below.refl _ _ | assumption | refine Below.drew ?_ | refine Below.trans ?_ (drewN_below' _ _ _) | refine Below.setCell ?_ (by first | (simp; done) | (simp; omega)) _ | refine Below.alloc ?_ (by first | (simp; done) | (simp; omega)) _))
            have R1 := hidR (FR.next hltp HQ.out hcj hbl hown HES.out REP.out t1' t2 hal hown' hgrow hat')
            clear hown' hgrow hat'
            go_roundg g
            case measure => omega
            case rel => exact R1.out
          · rw [if_neg hcl] at e4
            rw [if_neg hcl, show decide (isT T kSign [41] j3) = false by simpa using hcl] at hs5
            have E4' := hidR e4
            clear e4 hx5 hcl hp5
            go_wp2_with fail
            refine hs5.mono ?_
            rintro e w6 ⟨rfl, hp6, hb6⟩
            have RN := hidR (show NR T w1.heap.size w3.heap.size ⟨x.toArray⟩ w4 r4 g w6 from ⟨[], j3, _, hp6, (hb5.trans hb6).bb (by omega), heap_keep hb6 HF5.out (by omega), ⟨rfl, Or.inl ⟨rfl, rfl⟩⟩, Nat.zero_le _, E4'.out⟩)
            clear hp6 hs5
            go_wp2_with fail
            go_loopg [] g (fun k wn => NR T w1.heap.size w3.heap.size ⟨x.toArray⟩ w4 r4 k wn ∧ k ≤ g)
            case atStart => exact ⟨RN.out, Nat.le_refl _⟩
            case round =>
              clear RN
              obtain ⟨⟨ln, jn, vn, npr, nbr, nfb, nown, nlj, nrr⟩, nkq⟩ := hrel
              obtain ⟨ade, cape, rfl⟩ := tokEmpty' nown
              obtain ⟨tvn, hxn, hjn⟩ := npr.at
              have hcn : wr.cell? ⟨w1.heap.size, 3, none⟩ = some (.int .i64 0) := cell_of_blk hxn 3
              have hzn := nbr.size
              have hln := npr.few
              obtain ⟨h, rfl⟩ : ∃ h, gk = h + 1 := by
                cases gk with
                | zero => exact absurd (nrr.symm.trans (by rw [namesT])) E9.out.1
                | succ h => exact ⟨h, rfl⟩
              rw [namesT] at nrr
              have NRR := hidR nrr
              have NFB := hidR nfb
              have NOW := hidR nown
              have NPR := hidR npr
              clear nrr nfb nown npr hxn
              go_wp2_with fail
              refine (rname_any HG.out NPR.out).mono ?_
              rw [show nameR T (.ok () jn) = nameT T jn from rfl]
              rintro e w7 ⟨y, rfl, hy7, hp7, hb7⟩
              have hz7 := hb7.size
              have hf7 := heap_keep hb7 NFB.out (by omega)
              have c71 : w7.cell? ⟨w3.heap.size, 1, none⟩ = some (.slice ade ln.length cape) := cell_of_blk hf7 1
              have lf7 := heap_lt hf7
              have hown7 := own_but NOW.out hb7 (by omega)
              have HY7 := hidR hy7
              have HP7 := hidR hp7
              clear hy7 hp7 hf7
              go_wp2_with (at_builtin; refine wpList_append_own_at _ rfl _ _ 43 rfl (w3.heap.size + 1) 9 j0 _ 1 16 Tryz.underlying43 hj0 hy0 hy1 hy2 rfl (by decide) _ ln.length (textsC ln) rfl (hown7.alloc _) ⟨w7.heap.size, 0, none⟩ 1 1 [.string ⟨y.toArray⟩] rfl rfl (new_cells w7 #[.string ⟨y.toArray⟩] 9) (str_one y) (by unfold maxLen; omega) (by omega) (by simp; omega) ?_; intro v' w8 hown' hgrow _ _; obtain ⟨gb, capb, rfl⟩ := own_some hown'; obtain ⟨a1, a2, a3, a4, a5, a6, a7, a8⟩ := pa_app (by omega) nbr hb7 HP7.out (Below.alloc (Below.refl _ _) (Nat.le_refl _) _) hgrow NFB.out NOW.out hown'; have A5 := hidR a5; have A6 := hidR a6; have A7 := hidR a7; have A8 := hidR a8; clear a5 a6 a7 a8 hown' hgrow)
              generalize w8.setCell ⟨w3.heap.size, 1, none⟩ (.slice (some ⟨gb, 0, none⟩) (ln.length + 1) capb) = wA at A5 A6 A7 A8 ⊢
              have hzA := A6.out.size
              have lfA := heap_lt A7.out
              clear a1 a2 a3 HP7 NPR NFB NOW hown7 c71
              have hee : ∀ (w9 w10 : World), But w1.heap.size wA w9 → But w1.heap.size w9 w10 → Bb w1.heap.size w3.heap.size w4 w10 ∧ w10.heap[w3.heap.size]? = some (.cells #[.string ⟨x.toArray⟩, .slice (some ⟨gb, 0, none⟩) (ln.length + 1) capb, .slice none 0 0] 70 (0, 0)) ∧ w10.ownsRow (w3.heap.size + 1) 9 1 (.slice (some ⟨gb, 0, none⟩) (ln.length + 1) capb) (ln.length + 1) (textsC ln ++ [.string ⟨y.toArray⟩]) := fun w9 w10 h1 h2 =>
                ⟨A6.out.trans ((h1.trans h2).bb (by omega)), heap_keep (h1.trans h2) A7.out (by omega), own_but A8.out (h1.trans h2) (by omega)⟩
              have HEE := hidR hee
              clear hee
              cases hq : nameT T jn with
              | out => have o1 := A5.out; rw [hq] at o1; obtain ⟨_, _, _, _, _, _, _, _, _, _, he⟩ := o1; exact he.elim
              | bad c0 k0 =>
                have o1 := A5.out
                rw [hq] at o1
                have hs := reat_k HG.out o1 kSign [44] rfl (Or.inl rfl) (by simp)
                rw [Rs.st_bad, sees_bad sign_ne, skip_bad sign_ne] at hs
                have hr9 := NRR.out
                rw [hq, Rs.bind_bad] at hr9
                have HR9 := hidR hr9
                clear hr9 o1
                refine hs.mono ?_
                rintro e w9 ⟨rfl, hp9, hb9⟩
                go_wp2_with fail
                refine (rmust_any HG.out hp9 kSign [41] rfl (Or.inl rfl) (by simp)).mono ?_
                rintro e w10 ⟨rfl, hp10, hb10⟩
                obtain ⟨f1, f2, f3⟩ := HEE.out w9 w10 hb9 hb10
                have HPA := hidR (show PaR T w1.heap.size w3.heap.size ⟨x.toArray⟩ w4 r4 w10 from ⟨_, _, _, _, by rw [← HR9.out]; exact hp10, f1, f2, f3, fun l j hl => by rw [← HR9.out] at hl; cases hl⟩)
                clear f1 f2 f3 hp9 hp10 hs
                obtain ⟨adp, cntp, cp, xsp, pp, pb, ph, po, pl⟩ := HPA.out
                have hzp := pb.size
                have HPH := hidR ph
                have HPO := hidR po
                have HPL := hidR pl
                have HPB := hidR pb
                have HPP := hidR pp
                clear ph po pl pb pp
                go_wp2_with fail
                refine (HBK.out 0 _ w10 HPP.out (by rw [E5.out]; exact E9.out.2)).mono ?_
                rw [E5.out]
                rintro e w20 hx20
                obtain ⟨ad2, l2, c2, rfl, k1, k2, k3⟩ := hx20.rep (rb := w3.heap.size) (by have := heap_lt HPH.out; omega)
                have hz20 := k3.size
                have hf20 := heap_keep k3 HPH.out (by omega)
                have lf20 := heap_lt hf20
                have f200 := cell_of_blk hf20 0
                have f201 := cell_of_blk hf20 1
                have f202 := cell_of_blk hf20 2
                have g202 := free_of_blk hf20 2
                have HF20 := hidR hf20
                have K1 := hidR k1
                have K2 := hidR k2
                have b20 : But w1.heap.size wo w20 := But.trans (Bb.base b4 HPB.out (by omega)) k3
                have hown20 := own_but' hown b20 (Nat.lt_succ_self _)
                have t1 := K2.out.setCell (r := w3.heap.size) (by omega) 2 (.slice ad2 l2 c2)
                have t2 : But w1.heap.size wo (w20.setCell ⟨w3.heap.size, 2, none⟩ (.slice ad2 l2 c2)) := b20.setNew _ 2 (by omega) _
                have t3 : ∀ b, b ≠ w3.heap.size → (w20.setCell ⟨w3.heap.size, 2, none⟩ (.slice ad2 l2 c2)).heap[b]? = w20.heap[b]? := fun b hb => heap_far hb
                have t4 : (w20.setCell ⟨w3.heap.size, 2, none⟩ (.slice ad2 l2 c2)).heap.size = w20.heap.size := by simp [World.setCell]
                have hown21 := own_but' hown t2 (Nat.lt_succ_self _)
                have rep : ∀ f j2, funT T g j = .ok f j2 → RepF (InB wo.heap.size (w20.setCell ⟨w3.heap.size, 2, none⟩ (.slice ad2 l2 c2))) (w20.setCell ⟨w3.heap.size, 2, none⟩ (.slice ad2 l2 c2)) f [.string ⟨x.toArray⟩, .slice adp cntp cp, .slice ad2 l2 c2] := fun f j2 hf => by
                  obtain ⟨x', jj, ps, j4, b, q1, q2, q3, rfl⟩ := E8.out f j2 hf
                  obtain ⟨rfl, _⟩ := HXX.out x' jj q1
                  obtain ⟨hl0, hxs⟩ := HPL.out ps j4 q2
                  obtain ⟨bs, v1, v2⟩ := K1.out b j2 q3
                  have ki : ∀ b, InB (w3.heap.size + 1) w20 b → InB wo.heap.size (w20.setCell ⟨w3.heap.size, 2, none⟩ (.slice ad2 l2 c2)) b := fun b hb => ⟨by have := hb.1; omega, by have := hb.2; omega⟩
                  have kk : KeepA (InB (w3.heap.size + 1) w20) w20 (w20.setCell ⟨w3.heap.size, 2, none⟩ (.slice ad2 l2 c2)) := fun b hb => t3 b (by have := hb.1; omega)
                  have hrw : Row (fun b => w3.heap.size < b ∧ b < w10.heap.size) w10 (.slice adp cntp cp) ps.length (textsC ps) := by rw [hl0, ← hxs]; exact own_row HPO.out (fun g h1 h2 => ⟨by omega, h2⟩)
                  exact ⟨_, _, bs, rfl, hrw.imp (fun b hb => ⟨by have := hb.1; omega, by have := hb.2; omega⟩) (fun b hb => (t3 b (by have := hb.1; omega)).trans (k3.block b hb.2 (by have := hb.1; omega))), v1.imp ki kk, RepSs.imp ki kk _ _ v2⟩
                have t1' : RAt T w1.heap.size 0 (funT T g j).st (w20.setCell ⟨w3.heap.size, 2, none⟩ (.slice ad2 l2 c2)) := by rw [E6.out]; exact t1
                have REP := hidR rep
                clear k1 k2 hx20 hf20 rep t1
                have nc : ∀ i u, ([.string ⟨x.toArray⟩, .slice adp cntp cp, .slice ad2 l2 c2] : List Value)[i]? = some u → ((w20.setCell ⟨w3.heap.size, 2, none⟩ (.slice ad2 l2 c2)).alloc (.cells #[.string ⟨x.toArray⟩, .slice adp cntp cp, .slice ad2 l2 c2] 70)).cell? ((⟨w20.heap.size, 0, none⟩ : Addr).add i) = some u := fun i u hu => by rw [← t4]; exact new_cells _ #[.string ⟨x.toArray⟩, .slice adp cntp cp, .slice ad2 l2 c2] _ i u hu
                have NC := hidR nc
                have T3 := hidR t3
                clear nc t3
                go_wp2_with (at_builtin; refine wpList_append_own_at _ rfl _ _ 35 rfl (w1.heap.size + 1) 70 i0 _ 3 64 Tryz.underlying35 hi hz0 hz1 hz2 rfl (by decide) _ cnt xs rfl (hown21.alloc _) ⟨w20.heap.size, 0, none⟩ 1 1 [.string ⟨x.toArray⟩, .slice adp cntp cp, .slice ad2 l2 c2] rfl rfl NC.out (rf_one ⟨x.toArray⟩ adp cntp cp ad2 l2 c2) (by unfold maxLen; omega) (by omega) (by simp; omega) ?_; intro v' w30 hown' hgrow _ hat')
                have hal : Below (w20.setCell ⟨w3.heap.size, 2, none⟩ (.slice ad2 l2 c2)).heap.size (w20.setCell ⟨w3.heap.size, 2, none⟩ (.slice ad2 l2 c2)) ((w20.setCell ⟨w3.heap.size, 2, none⟩ (.slice ad2 l2 c2)).alloc (.cells #[.string ⟨x.toArray⟩, .slice adp cntp cp, .slice ad2 l2 c2] 70)) := by (repeat (first | exact Below.refl _ _ | assumption | refine Below.drew ?_ | refine Below.trans ?_ (drewN_below' _ _ _) | refine Below.setCell ?_ (by first | (simp; done) | (simp; omega)) _ | refine Below.alloc ?_ (by first | (simp; done) | (simp; omega)) _))
                have R1 := hidR (FR.next hltp HQ.out hcj hbl hown HES.out REP.out t1' t2 hal hown' hgrow hat')
                clear hown' hgrow hat'
                go_roundg g
                case measure => omega
                case rel => exact R1.out
              | ok y1 j1 =>
                have o1 := A5.out
                rw [hq] at o1
                obtain ⟨rfl, _⟩ := HY7.out y1 j1 hq
                have hj1 : j1 = jn + 1 := (name_ok hq).2.2
                have hs := reat_k HG.out o1 kSign [44] rfl (Or.inl rfl) (by simp)
                rw [Rs.st_ok, sees_ok, skip_ok] at hs
                have hr9 := NRR.out
                rw [hq, Rs.bind_ok] at hr9
                clear o1
                by_cases hcm : isT T kSign [44] j1
                · rw [if_pos hcm, show decide (isT T kSign [44] j1) = true by simpa using hcm] at hs
                  rw [if_pos hcm] at hr9
                  have HR9 := hidR hr9
                  clear hr9 hcm
                  refine hs.mono ?_
                  rintro e w9 ⟨rfl, hp9, hb9⟩
                  obtain ⟨f1, f2, f3⟩ := HEE.out w9 w9 hb9 (But.refl _ _)
                  have R1 := hidR (show NR T w1.heap.size w3.heap.size ⟨x.toArray⟩ w4 r4 h w9 from ⟨ln ++ [y], j1 + 1, _, hp9, f1, f2, by rw [List.length_append, textsC_snoc]; exact f3, by simp; omega, HR9.out⟩)
                  clear f1 f2 f3 hp9 hs
                  go_wp2
                  go_roundg h
                  case measure => omega
                  case rel => exact ⟨R1.out, by omega⟩
                · rw [if_neg hcm, show decide (isT T kSign [44] j1) = false by simpa using hcm] at hs
                  rw [if_neg hcm] at hr9
                  have HR9 := hidR hr9
                  clear hr9 hcm
                  refine hs.mono ?_
                  rintro e w9 ⟨rfl, hp9, hb9⟩
                  go_wp2_with fail
                  refine (rmust_any HG.out hp9 kSign [41] rfl (Or.inl rfl) (by simp)).mono ?_
                  rintro e w10 ⟨rfl, hp10, hb10⟩
                  obtain ⟨f1, f2, f3⟩ := HEE.out w9 w10 hb9 hb10
                  have HPA := hidR (show PaR T w1.heap.size w3.heap.size ⟨x.toArray⟩ w4 r4 w10 from ⟨_, _, _, _, by rw [← HR9.out]; have := hp10; rw [show needS T kSign [41] (.ok () j1) = (needT T kSign [41] j1) from rfl] at this; cases hn : needT T kSign [41] j1 <;> rw [hn] at this <;> exact this, f1, f2, f3, fun l j hl => by
                    rw [← HR9.out] at hl
                    cases hn : needT T kSign [41] j1 with
                    | out => rw [hn] at hl; cases hl
                    | bad c k => rw [hn] at hl; cases hl
                    | ok u j2 => rw [hn] at hl; cases hl; exact ⟨by simp, (textsC_snoc _ _).symm⟩⟩)
                  clear f1 f2 f3 hp9 hp10 hs
                  obtain ⟨adp, cntp, cp, xsp, pp, pb, ph, po, pl⟩ := HPA.out
                  have hzp := pb.size
                  have HPH := hidR ph
                  have HPO := hidR po
                  have HPL := hidR pl
                  have HPB := hidR pb
                  have HPP := hidR pp
                  clear ph po pl pb pp
                  go_wp2_with fail
                  refine (HBK.out 0 _ w10 HPP.out (by rw [E5.out]; exact E9.out.2)).mono ?_
                  rw [E5.out]
                  rintro e w20 hx20
                  obtain ⟨ad2, l2, c2, rfl, k1, k2, k3⟩ := hx20.rep (rb := w3.heap.size) (by have := heap_lt HPH.out; omega)
                  have hz20 := k3.size
                  have hf20 := heap_keep k3 HPH.out (by omega)
                  have lf20 := heap_lt hf20
                  have f200 := cell_of_blk hf20 0
                  have f201 := cell_of_blk hf20 1
                  have f202 := cell_of_blk hf20 2
                  have g202 := free_of_blk hf20 2
                  have HF20 := hidR hf20
                  have K1 := hidR k1
                  have K2 := hidR k2
                  have b20 : But w1.heap.size wo w20 := But.trans (Bb.base b4 HPB.out (by omega)) k3
                  have hown20 := own_but' hown b20 (Nat.lt_succ_self _)
                  have t1 := K2.out.setCell (r := w3.heap.size) (by omega) 2 (.slice ad2 l2 c2)
                  have t2 : But w1.heap.size wo (w20.setCell ⟨w3.heap.size, 2, none⟩ (.slice ad2 l2 c2)) := b20.setNew _ 2 (by omega) _
                  have t3 : ∀ b, b ≠ w3.heap.size → (w20.setCell ⟨w3.heap.size, 2, none⟩ (.slice ad2 l2 c2)).heap[b]? = w20.heap[b]? := fun b hb => heap_far hb
                  have t4 : (w20.setCell ⟨w3.heap.size, 2, none⟩ (.slice ad2 l2 c2)).heap.size = w20.heap.size := by simp [World.setCell]
                  have hown21 := own_but' hown t2 (Nat.lt_succ_self _)
                  have rep : ∀ f j2, funT T g j = .ok f j2 → RepF (InB wo.heap.size (w20.setCell ⟨w3.heap.size, 2, none⟩ (.slice ad2 l2 c2))) (w20.setCell ⟨w3.heap.size, 2, none⟩ (.slice ad2 l2 c2)) f [.string ⟨x.toArray⟩, .slice adp cntp cp, .slice ad2 l2 c2] := fun f j2 hf => by
                    obtain ⟨x', jj, ps, j4, b, q1, q2, q3, rfl⟩ := E8.out f j2 hf
                    obtain ⟨rfl, _⟩ := HXX.out x' jj q1
                    obtain ⟨hl0, hxs⟩ := HPL.out ps j4 q2
                    obtain ⟨bs, v1, v2⟩ := K1.out b j2 q3
                    have ki : ∀ b, InB (w3.heap.size + 1) w20 b → InB wo.heap.size (w20.setCell ⟨w3.heap.size, 2, none⟩ (.slice ad2 l2 c2)) b := fun b hb => ⟨by have := hb.1; omega, by have := hb.2; omega⟩
                    have kk : KeepA (InB (w3.heap.size + 1) w20) w20 (w20.setCell ⟨w3.heap.size, 2, none⟩ (.slice ad2 l2 c2)) := fun b hb => t3 b (by have := hb.1; omega)
                    have hrw : Row (fun b => w3.heap.size < b ∧ b < w10.heap.size) w10 (.slice adp cntp cp) ps.length (textsC ps) := by rw [hl0, ← hxs]; exact own_row HPO.out (fun g h1 h2 => ⟨by omega, h2⟩)
                    exact ⟨_, _, bs, rfl, hrw.imp (fun b hb => ⟨by have := hb.1; omega, by have := hb.2; omega⟩) (fun b hb => (t3 b (by have := hb.1; omega)).trans (k3.block b hb.2 (by have := hb.1; omega))), v1.imp ki kk, RepSs.imp ki kk _ _ v2⟩
                  have t1' : RAt T w1.heap.size 0 (funT T g j).st (w20.setCell ⟨w3.heap.size, 2, none⟩ (.slice ad2 l2 c2)) := by rw [E6.out]; exact t1
                  have REP := hidR rep
                  clear k1 k2 hx20 hf20 rep t1
                  have nc : ∀ i u, ([.string ⟨x.toArray⟩, .slice adp cntp cp, .slice ad2 l2 c2] : List Value)[i]? = some u → ((w20.setCell ⟨w3.heap.size, 2, none⟩ (.slice ad2 l2 c2)).alloc (.cells #[.string ⟨x.toArray⟩, .slice adp cntp cp, .slice ad2 l2 c2] 70)).cell? ((⟨w20.heap.size, 0, none⟩ : Addr).add i) = some u := fun i u hu => by rw [← t4]; exact new_cells _ #[.string ⟨x.toArray⟩, .slice adp cntp cp, .slice ad2 l2 c2] _ i u hu
                  have NC := hidR nc
                  have T3 := hidR t3
                  clear nc t3
                  go_wp2_with (at_builtin; refine wpList_append_own_at _ rfl _ _ 35 rfl (w1.heap.size + 1) 70 i0 _ 3 64 Tryz.underlying35 hi hz0 hz1 hz2 rfl (by decide) _ cnt xs rfl (hown21.alloc _) ⟨w20.heap.size, 0, none⟩ 1 1 [.string ⟨x.toArray⟩, .slice adp cntp cp, .slice ad2 l2 c2] rfl rfl NC.out (rf_one ⟨x.toArray⟩ adp cntp cp ad2 l2 c2) (by unfold maxLen; omega) (by omega) (by simp; omega) ?_; intro v' w30 hown' hgrow _ hat')
                  have hal : Below (w20.setCell ⟨w3.heap.size, 2, none⟩ (.slice ad2 l2 c2)).heap.size (w20.setCell ⟨w3.heap.size, 2, none⟩ (.slice ad2 l2 c2)) ((w20.setCell ⟨w3.heap.size, 2, none⟩ (.slice ad2 l2 c2)).alloc (.cells #[.string ⟨x.toArray⟩, .slice adp cntp cp, .slice ad2 l2 c2] 70)) := by (repeat (first | exact Below.refl _ _ | assumption | refine Below.drew ?_ | refine Below.trans ?_ (drewN_below' _ _ _) | refine Below.setCell ?_ (by first | (simp; done) | (simp; omega)) _ | refine Below.alloc ?_ (by first | (simp; done) | (simp; omega)) _))
                  have R1 := hidR (FR.next hltp HQ.out hcj hbl hown HES.out REP.out t1' t2 hal hown' hgrow hat')
                  clear hown' hgrow hat'
                  go_roundg g
                  case measure => omega
                  case rel => exact R1.out
      · rw [if_neg hjl] at hrr
        have hjl2 : ¬ (j : Int) < T.length := by omega
        have HQ := hidR hrr
        have HES := hidR hes
        have HOW := hidR hown
        have HZ := hidR hzbr
        clear hcr hrr hes hown hzbr hx hpr
        go_wp2_with fail
        refine (fineR wo).mono ?_
        rintro e w2 ⟨rfl, hb2⟩
        have hz2' := hb2.size
        have hzb2 := (hb2.block _ (heap_lt HZ.out)).trans HZ.out
        have z0 := cell_of_blk hzb2 0
        have z1 := cell_of_blk hzb2 1
        have zf0 := free_of_blk hzb2 0
        have zf1 := free_of_blk hzb2 1
        have lz := heap_lt hzb2
        have HZ2 := hidR hzb2
        clear hzb2
        go_wp2
        have y0 := blk_setCell (blk_setCell HZ2.out 0 (.int .i64 0)) 1 (.int .i64 (-1))
        have b2 := bl_trans bwr bwr.size hb2
        refine ret_po rfl rfl (zb := w.heap.size) (c := 0) (k := -1) (cell_of_blk y0 0) (cell_of_blk y0 1) ⟨(b2.setCell (Nat.le_refl _) _).setCell (Nat.le_refl _) _, ?_⟩
        rw [← HQ.out]
        obtain ⟨hl0, hr0⟩ := HES.out l rfl
        have ki : ∀ b, (w1.heap.size < b ∧ b < wo.heap.size) → InB w.heap.size ((w2.setCell ⟨w.heap.size, 0, none⟩ (.int .i64 0)).setCell ⟨w.heap.size, 1, none⟩ (.int .i64 (-1))) b := fun b hb => ⟨by omega, by simp [World.setCell]; omega⟩
        have kk : ∀ b, (w1.heap.size < b ∧ b < wo.heap.size) → ((w2.setCell ⟨w.heap.size, 0, none⟩ (.int .i64 0)).setCell ⟨w.heap.size, 1, none⟩ (.int .i64 (-1))).heap[b]? = wo.heap[b]? := fun b hb => by rw [heap_far (by omega), heap_far (by omega)]; exact hb2.block b hb.2
        refine ⟨adv, cnt, capv, xs, rfl, ?_, RepFs.imp (fun b hb => ki b ⟨hb.1, hb.2.1⟩) (fun b hb => kk b ⟨hb.1, hb.2.1⟩) _ _ hr0⟩
        rw [hl0]
        exact (own_row HOW.out (A := fun b => w1.heap.size < b ∧ b < wo.heap.size) (fun g h1 h2 => ⟨by omega, h2⟩)).imp ki kk
end Go.Proofs.YtdleiajkihijhabGreatDoor
