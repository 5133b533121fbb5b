/- Our own: texts joined: GrAsked2, GrAskAll. -/
import Derived.Test.YtlgejjmdanmglaaGreatDoorVFlowA
import Derived.Test.YtlgejjmdanmglaaGreatDoorVBase
import Derived.OwnWalk
import Derived.Deep.AppendLies
import Derived.Test.YtlgejjmdanmglaaGreatDoorVFlowM
namespace Go.Proofs.YtlgejjmdanmglaaGreatDoor
open Go.RowKit
structure Lsi (w X : World) (lv : Value) (l : List Int) : Prop where
 low : Below w.heap.size w X
 own : X.ownsRow (w.heap.size + 1) 3 1 lv l.length (intsG l)
set_option maxRecDepth 100000 in
set_option maxHeartbeats 1000000 in
theorem asked_phi {A : Nat → Prop} {w : World} {p : Nat} {nm : List UInt8} {P : Int} {nv tv yv ov pv : Value} {L : List Nd} {tk : List (Nat × Nat)} {ys ns : List Nat} {ph : List (List Nat)} (hF : Fl A w p nm P nv tv yv ov pv L tk ys ns ph) (hA : ∀ b, A b → b < w.heap.size) (hL : L.length ≤ 1000) (i : Nat) (hi : i < L.length) (hk : (L[i]).kind = gRegion) (qs : List Nat) (hqs : ph[i]? = some qs) (hql : qs.length ≤ 1000) (k : Nat) (hk1 : k ≤ 1000) (hin : ∀ q ∈ qs, q < L.length ∧ 1 + k < (ndAt L q).ins.length) :
  Calls Tryz.prog 69 #[.pointer (some ⟨p, 0, none⟩), .agg #[.int .i64 (i : Int), .int .i64 (k : Int)]] w fun e w' => ∃ v, e = .returned v ∧ Below w.heap.size w w' ∧ w'.ownsRow w.heap.size 3 1 v qs.length (intsG (qs.map fun (q : Nat) => (ndAt L (q : Int)).ins.getD (1 + k) 0)) := by
 obtain ⟨ad, cap, rfl⟩ := hF.gr.is
 obtain ⟨adp, capp, rfl⟩ : ∃ a c, pv = .slice a ph.length c := by obtain ⟨xs, h1, _⟩ := hF.phs; exact h1.is
 obtain ⟨g, off, ad1, cap1, e1, hg, hcp, hr, k0, k1, k2, k3⟩ := hF.gr.node hi
 subst e1
 obtain ⟨gp, offp, adq, capq, e1, hgp, kq, hrq⟩ := hF.phi (i := i) (by have := hF.lp; omega)
 subst e1
 have hqe : ph[i]'(by have := hF.lp; omega) = qs := by
  have := List.getElem?_eq_getElem (l := ph) (i := i) (by have := hF.lp; omega)
  rw [this] at hqs; injection hqs
 rw [hqe] at kq hrq
 have b2 : w.cell? ⟨p, 2, none⟩ = _ := cell_of_blk hF.blk 2
 have b6 : w.cell? ⟨p, 6, none⟩ = _ := cell_of_blk hF.blk 6
 simp only [List.getElem?_toArray, List.getElem?_cons_zero, List.getElem?_cons_succ] at b2 b6
 have hi' : (i : Int) < (L.length : Int) := by omega
 have hip : (i : Int) < (ph.length : Int) := by have := hF.lp; omega
 have hL' : (L.length : Int) ≤ 1000 := by omega
 have hql' : (qs.length : Int) ≤ 1000 := by omega
 have hgl : g < w.heap.size := cell_lt k0
 have hpl : p < w.heap.size := cell_lt b2
 have hgpl : gp < w.heap.size := cell_lt kq
 have HFL := hidX hF
 have HA := hidX hA
 have HRQ := hidX hrq
 have HIN := hidX hin
 generalize L[i] = n at *
 have t1 : (n.kind == [114, 101, 103, 105, 111, 110]) = true := by rw [hk]; decide
 obtain ⟨W0, hW0⟩ : ∃ W0, W0 = w.alloc (.cells #[.int .i64 (i : Int), .int .i64 (k : Int)] 99) := ⟨_, rfl⟩
 have hb0 : Below w.heap.size w W0 := by rw [hW0]; (repeat (first | exact Below.refl _ _ | assumption | refine Below.drew ?_ | refine bT ?_ _ | refine bS ?_ _ | refine bA ?_ _))
 have hx0 : W0.heap[w.heap.size]? = some (.cells #[.int .i64 (i : Int), .int .i64 (k : Int)] 99 (0, 0)) := by rw [hW0]; exact heap_alloc_new _ _
 have hS : ∀ W : World, Below W0.heap.size W0 W → W.cell? ⟨p, 2, none⟩ = some (.slice (some ⟨g, off, none⟩) L.length cap) ∧ W.cell? ⟨w.heap.size, 0, none⟩ = some (.int .i64 (i : Int)) ∧ W.cell? ⟨g, off + i * 4, none⟩ = some (.string ⟨n.kind.toArray⟩) ∧ W.cell? ⟨g, off + i * 4 + 1, none⟩ = some (.slice ad1 n.ins.length cap1) ∧ W.cell? ⟨g, off + i * 4 + 2, none⟩ = some (.int .i64 n.num) ∧ W.cell? ⟨g, off + i * 4 + 3, none⟩ = some (.string ⟨n.name.toArray⟩) := fun W h => by
  have h' := bl_trans hb0 hb0.size h
  exact ⟨(h'.cell (p := ⟨p, 2, none⟩) hpl).trans b2, cell_of_blk ((h.block _ (heap_lt hx0)).trans hx0) 0, (h'.cell (p := ⟨g, _, none⟩) hgl).trans k0, (h'.cell (p := ⟨g, _, none⟩) hgl).trans k1, (h'.cell (p := ⟨g, _, none⟩) hgl).trans k2, (h'.cell (p := ⟨g, _, none⟩) hgl).trans k3⟩
 have HS := hidX hS
 have HB0 := hidX hb0
 have HX0 := hidX hx0
 clear hF hr hk hA hS hx0 hb0 k0 k1 k2 k3 hrq hin hqe hqs
 go_enter Tryz.func69, Tryz.ntmps69
 go_wp2_with fail
 rw [← hW0]
 have hz0 : w.heap.size + 1 = W0.heap.size := by rw [hW0]; simp
 clear hW0
 go_region_held3 (fun W => W.cell? ⟨p, 2, none⟩ = some (.slice (some ⟨g, off, none⟩) L.length cap) ∧ W.cell? ⟨w.heap.size, 0, none⟩ = some (.int .i64 (i : Int)) ∧ W.cell? ⟨g, off + i * 4, none⟩ = some (.string ⟨n.kind.toArray⟩) ∧ W.cell? ⟨g, off + i * 4 + 1, none⟩ = some (.slice ad1 n.ins.length cap1) ∧ W.cell? ⟨g, off + i * 4 + 2, none⟩ = some (.int .i64 n.num) ∧ W.cell? ⟨g, off + i * 4 + 3, none⟩ = some (.string ⟨n.name.toArray⟩)) (exact HS.out _ (by (repeat (first | exact Below.refl _ _ | assumption | refine Below.drew ?_ | refine bT ?_ _ | refine bS ?_ _ | refine bA ?_ _)))) (fail)
 go_wp2_with fail
 generalize hX1 : World.drew _ = X1
 have hb1 : Below W0.heap.size W0 X1 := by rw [← hX1]; (repeat (first | exact Below.refl _ _ | assumption | refine Below.drew ?_ | refine bT ?_ _ | refine bS ?_ _ | refine bA ?_ _))
 have hbw1 : Below w.heap.size w X1 := bl_trans HB0.out HB0.out.size hb1
 have hbox : X1.heap[w.heap.size]? = _ := (hb1.block _ (heap_lt HX0.out)).trans HX0.out
 have x0 : X1.cell? ⟨w.heap.size, 0, none⟩ = some (.int .i64 (i : Int)) := cell_of_blk hbox 0
 have x6 := (hbw1.cell (p := ⟨p, 6, none⟩) hpl).trans b6
 have xq := (hbw1.cell (p := ⟨gp, _, none⟩) hgpl).trans kq
 have HB1 := hidX hbw1
 have HBX := hidX hbox
 have s1 : X1.drew.cell? ⟨p, 6, none⟩ = some (.slice (some ⟨gp, offp, none⟩) ph.length capp) ∧ X1.drew.cell? ⟨w.heap.size, 0, none⟩ = some (.int .i64 (i : Int)) ∧ X1.drew.cell? ⟨gp, offp + i, none⟩ = some (.slice adq qs.length capq) := ⟨(hbw1.drew.cell (p := ⟨p, 6, none⟩) hpl).trans b6, cell_of_blk (show X1.drew.heap[w.heap.size]? = _ from hbox) 0, (hbw1.drew.cell (p := ⟨gp, _, none⟩) hgpl).trans kq⟩
 clear hX1 hb1 hbw1 hbox b2 b6 kq
 go_region_held3 (fun W => W.cell? ⟨p, 6, none⟩ = some (.slice (some ⟨gp, offp, none⟩) ph.length capp) ∧ W.cell? ⟨w.heap.size, 0, none⟩ = some (.int .i64 (i : Int)) ∧ W.cell? ⟨gp, offp + i, none⟩ = some (.slice adq qs.length capq)) (with_reducible exact s1) (fail)
 have hL1 : Lsi w X1.drew (.slice none 0 0) [] := ⟨HB1.out.drew, World.ownsRow_nil _ _ _ _⟩
 have HL1 := hidX hL1
 have HBD := hidX (show X1.drew.heap[w.heap.size]? = _ from HBX.out)
 clear s1 hL1 x0 x6 xq HB1 HBX HS HB0 HX0
 generalize X1.drew = X2 at *
 go_wp2_with fail
 go_loopw [6, 33] (fun vl vi wr => ∃ (q : Nat) (lv : Value), q ≤ qs.length ∧ vl = lv ∧ vi = .int .i64 q ∧ Hid (Lsi w wr lv ((qs.take q).map fun (q : Nat) => (ndAt L (q : Int)).ins.getD (1 + k) 0)) ∧ Hid (wr.heap[w.heap.size]? = some (.cells #[.int .i64 (i : Int), .int .i64 (k : Int)] 99 (0, 0)))) (fun _ vi _ => qs.length - (intOf vi).toNat)
 case atStart => exact ⟨0, _, Nat.zero_le _, rfl, rfl, HL1.out, HBD.out⟩
 case round =>
  obtain ⟨q, lv, hq, hlv, rfl, HLQ, HBQ⟩ := hrel
  subst hlv
  by_cases hlt : q < qs.length
  ·have hlt' : (q : Int) < (qs.length : Int) := by omega
   have hlow := HLQ.out.low
   obtain ⟨g3, off3, e3, hg3, kc⟩ := HRQ.out.nat hlt
   subst e3
   have hm := HIN.out _ (List.getElem_mem hlt)
   have hgd : qs.getD q 0 = qs[q] := by simp [hlt]
   rw [hgd] at kc
   have htk : qs.take (q + 1) = qs.take q ++ [qs[q]] := List.take_succ_eq_append_getElem hlt
   generalize qs[q] = m at *
   obtain ⟨hm1, hm2⟩ := hm
   obtain ⟨g4, off4, ad4, cap4, e4, hg4, _, hr4, _, j1, _, _⟩ := HFL.out.gr.node hm1
   injection e4 with e4
   injection e4 with e4 e5
   subst e4 e5
   have hnd : ndAt L (m : Int) = L[m] := by simp [ndAt, hm1]
   rw [hnd] at hm2
   obtain ⟨g5, off5, e5, hg5, j2⟩ := hr4.int hm2
   subst e5
   have hxx : (ndAt L (m : Int)).ins.getD (1 + k) 0 = (L[m]).ins[1 + k] := by rw [hnd]; simp [hm2]
   have hm1' : (m : Int) < (L.length : Int) := by omega
   have hm2' : 1 + (k : Int) < ((L[m]).ins.length : Int) := by omega
   generalize (L[m]).ins[1 + k] = x at *
   have kc' := (hlow.cell (p := ⟨g3, _, none⟩) (HA.out _ hg3)).trans kc
   generalize (L[m]).ins.length = NL at *
   obtain ⟨lad, lcap, rfl⟩ := own_is HLQ.out.own
   have hbb2 : w.cell? ⟨p, 2, none⟩ = some (.slice (some ⟨g, off, none⟩) L.length cap) := cell_of_blk HFL.out.blk 2
   have hS : ∀ W : World, (∀ b, b ≤ w.heap.size → W.heap[b]? = wr.heap[b]?) → W.cell? ⟨p, 2, none⟩ = some (.slice (some ⟨g, off, none⟩) L.length cap) ∧ W.cell? ⟨w.heap.size, 1, none⟩ = some (.int .i64 (k : Int)) ∧ W.cell? ⟨g, off + m * 4 + 1, none⟩ = some (.slice (some ⟨g5, off5, none⟩) NL cap4) ∧ W.cell? ⟨g5, off5 + (1 + k), none⟩ = some (.int .i64 x) := fun W h => by
    have h' : ∀ b, b < w.heap.size → W.heap[b]? = w.heap[b]? := fun b hb => (h b (by omega)).trans (hlow.block b hb)
    exact ⟨(World.cell?_of_block (a := ⟨p, 2, none⟩) (h' _ hpl)).trans hbb2, cell_of_blk ((h _ (Nat.le_refl _)).trans HBQ.out) 1, (World.cell?_of_block (a := ⟨g, _, none⟩) (h' _ (HA.out _ hg4))).trans j1, (World.cell?_of_block (a := ⟨g5, _, none⟩) (h' _ (HA.out _ hg5))).trans j2⟩
   have hwl : w.heap.size < wr.heap.size := heap_lt HBQ.out
   have s0 := hS wr.drew (fun _ _ => rfl)
   have s1 := hS (wr.alloc (.cells #[.int .i64 x] 3)).drew (fun b hb => Below.heap_alloc _ _ _ (by omega))
   have S0 := hidX s0
   have S1 := hidX s1
   have HS := hidX hS
   have hO := owns_below HLQ.out.own (show Below wr.heap.size wr (wr.alloc (.cells #[.int .i64 x] 3)).drew from (box_blk _ _ _).drew)
   have HO := hidX hO
   have hlen : (List.map (fun (q : Nat) => (ndAt L (q : Int)).ins.getD (1 + k) 0) (qs.take q)).length = q := by rw [List.length_map, List.length_take]; omega
   rw [hlen] at HO ⊢
   have hfin : ∀ (W7 : World) (v7 : Value), (wr.alloc (.cells #[.int .i64 x] 3)).drew.grownBy W7 (Value.slice lad q lcap).ownBlock → W7.ownsRow (w.heap.size + 1) 3 1 v7 (q + 1) (intsG (List.map (fun (q : Nat) => (ndAt L (q : Int)).ins.getD (1 + k) 0) (qs.take q)) ++ [.int .i64 x]) → Lsi w W7 v7 (List.map (fun (q : Nat) => (ndAt L (q : Int)).ins.getD (1 + k) 0) (qs.take (q + 1))) ∧ ∀ b, b ≤ w.heap.size → W7.heap[b]? = wr.heap[b]? := fun W7 v7 hg ho => by
    have key : ∀ b, b ≤ w.heap.size → W7.heap[b]? = wr.heap[b]? := fun b hb => by
     rw [hg.block b (by show b < (wr.alloc _).heap.size; rw [World.size_alloc]; omega) (fun e => by have := (HO.out.lt b e.symm).1; omega)]
     exact Below.heap_alloc _ _ _ (by omega)
    have hz : (wr.alloc (.cells #[.int .i64 x] 3)).heap.size ≤ W7.heap.size := hg.size
    rw [World.size_alloc] at hz
    refine ⟨⟨⟨hg.os.trans hlow.os, hg.tape.trans hlow.tape, hg.output.trans hlow.output, by omega, fun b hb => (key b (by omega)).trans (hlow.block b hb)⟩, ?_⟩, key⟩
    rw [htk, List.map_append, List.length_append, hlen, List.map_cons, List.map_nil, hxx, intsG_snoc]
    exact ho
   have HFIN := hidX hfin
   obtain ⟨i0, hi0, iz0, iz1, iz2⟩ := info_parts int_info
   generalize (List.map (fun (q : Nat) => (ndAt L (q : Int)).ins.getD (1 + k) 0) (qs.take q)) = base at *
   clear hr4 hS s0 s1 hO hfin hlen htk hxx j1 j2 hnd kc
   have hk1' : (k : Int) ≤ 1000 := by omega
   have hkw : IntKind.i64.wrap (1 + (k : Int)) = 1 + (k : Int) := IntWalk.i64_in _ (by omega)
   have hk0 : (0 : Int) ≤ 1 + (k : Int) := by omega
   have htn : (1 + (k : Int)).toNat = 1 + k := by omega
   go_wp2_with fail
   clear kc'
   go_region_held3 (fun W => W.cell? ⟨p, 2, none⟩ = some (.slice (some ⟨g, off, none⟩) L.length cap) ∧ W.cell? ⟨w.heap.size, 1, none⟩ = some (.int .i64 (k : Int)) ∧ W.cell? ⟨g, off + m * 4 + 1, none⟩ = some (.slice (some ⟨g5, off5, none⟩) NL cap4) ∧ W.cell? ⟨g5, off5 + (1 + k), none⟩ = some (.int .i64 x)) (first | with_reducible exact S0.out | with_reducible exact S1.out | with_reducible exact s7)
    (first
     | (refine step_append_lies _ rfl (.tmp 37) (.tmp 52) 40 rfl (w.heap.size + 1) 3 i0 _ 1 8 Tryz.underlying40 hi0 iz0 iz1 iz2 rfl (by decide) (.slice lad q lcap) q (intsG base) (by first | (simp [Act.eval]; done) | (simp [Act.eval]; rfl) | (simp [Act.eval, Act.put]; done) | (simp [Act.eval, Act.put]; rfl)) HO.out ⟨wr.heap.size, 0, none⟩ 1 1 [.int .i64 x] (by first | (simp [Act.eval]; done) | (simp [Act.eval]; rfl) | (simp [Act.eval, Act.put]; done) | (simp [Act.eval, Act.put]; rfl)) rfl (World.news_of_block (show (wr.alloc (.cells #[.int .i64 x] 3)).drew.heap[wr.heap.size]? = _ from heap_alloc_new _ _)) (int_one x) (by decide) (by unfold maxLen; omega) (by omega) (by show w.heap.size + 1 ≤ (wr.alloc _).heap.size; rw [World.size_alloc]; omega) _ rfl ?_; intro g7 cap7 W7 ho7 hg7 _ _; have hf7 := HFIN.out W7 _ hg7 ho7; have s7 := HS.out W7 hf7.2; have HF7 := hidX hf7; clear hf7 ho7 hg7)
     | fail)
   all_goals (
    have hbq := (HF7.out.2 _ (Nat.le_refl _)).trans HBQ.out
    have HB7 := hidX hbq
    clear hbq
    go_wp2
    go_roundw
    case rel => exact ⟨q + 1, _, by omega, rfl, by go_num, HF7.out.1, HB7.out⟩
    case measure => simp [intOf]; omega)
  ·have hqn : q = qs.length := by omega
   subst hqn
   have hl := HLQ.out
   rw [List.take_length] at hl
   have HLL := hidX hl
   clear hl HLQ
   go_wp2
   go_ret
   exact ⟨_, rfl, HLL.out.low, own_base (by have := HLL.out.own; rwa [List.length_map] at this) (by omega)⟩
end Go.Proofs.YtlgejjmdanmglaaGreatDoor
namespace Go.Proofs.YtlgejjmdanmglaaGreatDoor
open Go.RowKit
theorem spot_low {L : List Nd} {a j k : Nat} (hs : Spot L a j k) (hLow : ∀ n ∈ L, LowN n) : j < L.length ∧ k ≤ 1000 ∧ k < (ndAt L j).ins.length := by
 obtain ⟨n, h1, h2, h3⟩ := hs
 have hk := lt_of_at h3
 have := (hLow n (List.mem_of_getElem? h1)).ins
 exact ⟨lt_of_at h1, by omega, by rw [ndAt_of h1]; exact hk⟩
theorem askL_few {L : List Nd} (hLow : ∀ n ∈ L, LowN n) (hL : L.length ≤ 1000) (j k : Nat) : (askL L j k).length ≤ 1000 := by
 unfold askL
 split
 ·rw [List.length_map]
  refine Nat.le_trans (List.length_filter_le _ _) ?_
  simpa using hL
 ·rw [List.length_drop]
  rcases Nat.lt_or_ge j L.length with hj | hj
  ·have := (hLow _ (List.mem_of_getElem? (ndAt_ex hj))).ins; omega
  ·have : ndAt L (j : Int) = ⟨[], [], 0, []⟩ := by simp [ndAt, hj]
   rw [this]; simp
theorem asked_any {A : Nat → Prop} {w : World} {p : Nat} {nm : List UInt8} {P : Int} {nv tv yv ov pv : Value} {L : List Nd} {tk : List (Nat × Nat)} {ys ns : List Nat} {ones twos : List (List UInt8)} {Q : Int} (hF : Fl A w p nm P nv tv yv ov pv L tk ys ns (phI L L.length)) (hA : ∀ b, A b → b < w.heap.size) (hW : WellG ones twos Q L) (hLow : ∀ n ∈ L, LowN n) {a j k : Nat} (hs : Spot L a j k) :
  Calls Tryz.prog 69 #[.pointer (some ⟨p, 0, none⟩), .agg #[.int .i64 (j : Int), .int .i64 (k : Int)]] w fun e w' => ∃ v, e = .returned v ∧ Below w.heap.size w w' ∧ XRow (fun b => A b ∨ (w.heap.size ≤ b ∧ b < w'.heap.size)) w' v (askL L j k).length (intsG (askL L j k)) := by
 obtain ⟨hj, hk, hk2⟩ := spot_low hs hLow
 have hL := hW.len.2
 have hnd : ndAt L (j : Int) = L[j] := by simp [ndAt, hj]
 by_cases hr : (ndAt L j).kind = gRegion
 ·have hq := ph_is hW hj
  refine (asked_phi hF hA hL j hj (by rw [← hnd]; exact hr) _ hq ?_ k hk (fun q hq => ?_)).mono ?_
  ·refine Nat.le_trans (List.length_filter_le _ _) ?_
   simpa using hL
  ·exact phis_len hW hs hq
  ·rintro e w' ⟨v, h1, h2, h3⟩
   refine ⟨v, h1, h2, ?_⟩
   unfold askL
   rw [if_pos hr, List.length_map]
   exact (xrow_own h3).imp (fun b hb => Or.inr hb) (fun _ _ => rfl)
 ·have hins : ∃ x l, L[j].ins = x :: l := by
   rw [hnd] at hk2
   cases e : L[j].ins with
   | nil => rw [e] at hk2; simp at hk2
   | cons x l => exact ⟨x, l, rfl⟩
  obtain ⟨x, l, hl⟩ := hins
  have hlen := (hLow _ (List.getElem_mem hj)).ins
  rw [hl] at hlen
  refine (asked_one hF hA hL j hj (by rw [← hnd]; exact hr) x l hl (by simp at hlen; omega) k).mono ?_
  rintro e w' ⟨v, h1, h2, h3⟩
  refine ⟨v, h1, h2, ?_⟩
  have : askL L j k = l := by unfold askL; rw [if_neg hr, hnd, hl]; rfl
  rw [this]
  exact h3.imp (fun b hb => Or.inl hb) (fun _ _ => rfl)
end Go.Proofs.YtlgejjmdanmglaaGreatDoor
