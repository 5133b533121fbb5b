/- Our own: texts joined: WalkBnd, GraphWalks. -/
import Derived.Test.YtlgejjmdanmglaaGreatDoorWRwMs
import Derived.Test.YtlgejjmdanmglaaGreatDoorWBadG
import Derived.Test.YtlgejjmdanmglaaGreatDoorWGrFault
import Derived.Test.YtlgejjmdanmglaaGreatDoorWGrLarge
import Derived.Test.YtlgejjmdanmglaaGreatDoorWAsAll
import Derived.Test.YtlgejjmdanmglaaGreatDoorWTold
import Derived.Test.YtlgejjmdanmglaaGreatDoorWDoneAll
import Derived.Test.YtlgejjmdanmglaaGreatDoorWRwWalk
namespace Go.Proofs.YtlgejjmdanmglaaGreatDoor
open Go.RowKit
structure BndR (ans : List Int) (s : Rst) : Prop where
 out : s.out.length ≤ 1000
 calls : s.calls.length ≤ ans.length
 args : ∀ c ∈ s.calls, c.2.length ≤ 1000
section
variable {L : List Nd} {args ans : List Int} {most : Int}
theorem BndR.how {s : Rst} (h : BndR ans s) (x : List UInt8) : BndR ans { s with how := x } := ⟨h.out, h.calls, h.args⟩
theorem tickR_bnd {s : Rst} (h : BndR ans s) : BndR ans (tickR most s) := by
 unfold tickR; split
 ·exact h.how _
 ·exact ⟨h.out, h.calls, h.args⟩
theorem printR_bnd {s : Rst} (h : BndR ans s) (v : Int) : BndR ans (printR v s) := by
 unfold printR; split
 ·exact h.how _
 ·next hc => exact ⟨by have := h.out; simp; omega, h.calls, h.args⟩
theorem callR_bnd {s : Rst} (h : BndR ans s) (nm : List UInt8) {vs : List Int} (hv : vs.length ≤ 1000) : BndR ans (callR ans nm vs s) := by
 unfold callR; split
 ·exact h.how _
 ·next hc => exact ⟨h.out, by simp; omega, fun c hc' => by
   rw [List.mem_append, List.mem_singleton] at hc'
   rcases hc' with e | e
   ·exact h.args c e
   ·rw [e]; exact hv⟩
theorem retR_bnd {s : Rst} (h : BndR ans s) (v : Int) : BndR ans (retR v s) := ⟨h.out, h.calls, h.args⟩
theorem ndAt_low (hLow : ∀ n ∈ L, LowN n) (i : Int) : (ndAt L i).ins.length ≤ 1000 := by
 unfold ndAt
 cases e : L[i.toNat]? with
 | none => simp
 | some n => exact (hLow n (List.mem_of_getElem? e)).ins
theorem stepW_bnd (hLow : ∀ n ∈ L, LowN n) {j k : Nat} {s : Rst} {got : Nat → Option Int} (h : BndR ans s) : BndR ans (stepW L args ans most j k s got).1 := by
 unfold stepW
 split
 ·exact h.how _
 ·next vs hv =>
  unfold stepAt
  split
  ·exact h
  ·next hr =>
   split
   ·exact h
   ·split
    ·exact tickR_bnd h
    ·split
     ·exact printR_bnd h _
     ·split
      ·refine callR_bnd h _ ?_
       have h1 := (askX_at hv).1
       rw [natL_len] at h1
       unfold askL at h1
       rw [if_neg hr, List.length_drop] at h1
       have := ndAt_low hLow (j : Int)
       omega
      ·exact retR_bnd h _
theorem walkL_bnd (hLow : ∀ n ∈ L, LowN n) : ∀ (n way : Nat) (s : Rst) (got : Nat → Option Int), BndR ans s → BndR ans (walkL L args ans most n way s got)
 | 0, _, s, _, h => h.how _
 | n + 1, way, s, got, h => by
  unfold walkL
  dsimp only
  have h1 := stepW_bnd (args := args) (most := most) (j := (tkAt L way).1) (k := (tkAt L way).2) (got := got) hLow h
  split
  ·exact h1
  ·exact walkL_bnd hLow n _ _ _ h1
theorem st0_bnd : BndR ans st0 := ⟨by simp [st0], by simp [st0], fun c hc => by simp [st0] at hc⟩
end
end Go.Proofs.YtlgejjmdanmglaaGreatDoor
namespace Go.Proofs.YtlgejjmdanmglaaGreatDoor
open Go.RowKit
theorem fld_code (c : Int) (x : Int) (w : World) : (Instr.field 32 (.agg #[.int .i64 c, .int .i64 x]) 0).run Tryz.prog w = .ok (.int .i64 c) w := by kernel_rfl
def stS : Rst := { st0 with how := hStuck }
theorem stS_bnd {ans : List Int} : BndR ans stS := st0_bnd.how _
theorem doneV_stuck {w : World} : DoneV w (.agg #[.string ⟨([115, 116, 117, 99, 107] : List UInt8).toArray⟩, .int .i64 0, .int .i64 0, .slice none 0 0, .slice none 0 0]) stS := ⟨_, _, [], rfl, xrow_nil _ _, xrow_nil _ _, rfl⟩
theorem doneR_stuck {w : World} : DoneR w (.agg (dnV hStuck 0 0 (.slice none 0 0) (.slice none 0 0)).toArray) stS := ⟨_, _, [], rfl, xrow_nil _ _, xrow_nil _ _, rfl⟩
theorem DoneR.below {w w' : World} {v : Value} {st : Rst} (h : DoneR w v st) (hb : Below w.heap.size w w') : DoneR w' v st := by
 obtain ⟨o, c, xs, e, h1, h2, h3⟩ := h
 exact ⟨o, c, xs, e, h1.imp (inH_up hb) (keepH hb), h2.imp (inH_up hb) (keepH hb), h3.imp (inH_up hb) (keepH hb)⟩
set_option maxRecDepth 100000 in
set_option maxHeartbeats 8000000 in
theorem graphWalks_any {w : World} {a : Nat → Addr} (hS : Sents w a) (hT : TabG w) (nm : List UInt8) (P : Int) (nv : Value) (L : List Nd) (hL : L.length ≤ 9223372036854775807) (hO : ∀ n ∈ L, OkN n) (hI : ∀ n ∈ L, IntN n) (hG : XG false (InH w) w nv L) (args : List Int) (argv ansv : Value) (hargs : XRow (InH w) w argv args.length (intsG args)) (hal : args.length ≤ 9223372036854775807) (hag : ∀ v ∈ args, In64 v) (ans : List Int) (hans : XRow (InH w) w ansv ans.length (intsG ans)) (hanl : ans.length ≤ 9223372036854775807) (han : ∀ v ∈ ans, In64 v) (ticks : Int) :
  Calls Tryz.prog 4 #[.agg #[.string ⟨nm.toArray⟩, .int .i64 P, nv], argv, ansv, .int .i64 ticks] w fun e w' => e = .returned (.bool true) ∧ Below w.heap.size w w' := by
 obtain ⟨ad, cap, rfl⟩ := hG.is
 obtain ⟨aad, acap, rfl⟩ := hargs.is
 obtain ⟨nad, ncap, rfl⟩ := hans.is
 obtain ⟨W0, hW0⟩ : ∃ W0, W0 = w.alloc (.cells #[.string ⟨nm.toArray⟩, .int .i64 P, .slice ad L.length cap] 24) := ⟨_, rfl⟩
 have hb0 : Below w.heap.size w W0 := by rw [hW0]; (repeat (first | exact Below.refl _ _ | assumption | refine Below.drew ?_ | refine bT ?_ _ | refine bS ?_ _ | refine bA ?_ _))
 have hx0 : W0.heap[w.heap.size]? = some (.cells #[.string ⟨nm.toArray⟩, .int .i64 P, .slice ad L.length cap] 24 (0, 0)) := by rw [hW0]; exact heap_alloc_new _ _
 have HGD := hidX (graphed_any (hS.below hb0) (hT.below hb0))
 have HS := hidX (fun (Y : World) (hY : Below w.heap.size w Y) => hS.below hY)
 have HT := hidX (fun (Y : World) (hY : Below w.heap.size w Y) => hT.below hY)
 have HG := hidX (fun (Y : World) (hY : Below w.heap.size w Y) => hG.imp (inH_up hY) (keepH hY))
 have HAR := hidX (fun (Y : World) (hY : Below w.heap.size w Y) => hargs.imp (inH_up hY) (keepH hY))
 have HAN := hidX (fun (Y : World) (hY : Below w.heap.size w Y) => hans.imp (inH_up hY) (keepH hY))
 have HX := hidX (fun (Y : World) (hY : Below W0.heap.size W0 Y) => (show (Y.cell? ⟨w.heap.size, 0, none⟩ = some (.string ⟨nm.toArray⟩)) ∧ (Y.cell? ⟨w.heap.size, 1, none⟩ = some (.int .i64 P)) ∧ (Y.cell? ⟨w.heap.size, 2, none⟩ = some (.slice ad L.length cap)) from by
  have h := (hY.block _ (heap_lt hx0)).trans hx0
  exact ⟨cell_of_blk h 0, cell_of_blk h 1, cell_of_blk h 2⟩))
 have HB0 := hidX hb0
 have HO := hidX hO
 have HI := hidX hI
 have HAG := hidX hag
 have HN64 := hidX han
 have hz0 := heap_lt hx0
 clear hS hT hO hI hG hargs hans hag han hb0 hx0
 go_enter Tryz.func4, Tryz.ntmps4
 go_wp2_with fail
 rw [← hW0]
 clear hW0
 refine HGD.out.mono ?_
 rintro e W1 ⟨rfl, hb1⟩
 have hw1 : Below w.heap.size w W1 := bl_trans HB0.out HB0.out.size hb1
 obtain ⟨d0, d1, d2⟩ := HX.out W1 hb1
 have HLG := hidX (largeG_any nm P (.slice ad L.length cap) L 60 (by decide) hL HO.out (HG.out W1 hw1))
 have HB1 := hidX hb1
 clear hb1 hw1
 go_wp2_with fail
 refine HLG.out.mono ?_
 rintro e W2 ⟨r, rfl, hr, hb2⟩
 have hb2' : Below W0.heap.size W0 W2 := bl_trans HB1.out HB1.out.size hb2
 have hw2 : Below w.heap.size w W2 := bl_trans HB0.out HB0.out.size hb2'
 have HB2 := hidX hb2'
 have HW2 := hidX hw2
 rcases hr with hr | ⟨hr, hlen, hfew⟩
 ·subst hr
  clear hb2 hb2' hw2 d0 d1 d2
  go_wp2
  go_ret
  exact ⟨rfl, HW2.out⟩
 ·subst hr
  have hL1 : L.length ≤ 1001 := by omega
  have HLOW := hidX (fun n (hn : n ∈ L) => low_of (hfew n hn) (HI.out n hn))
  have HFEW := hidX hfew
  have HMN := hidX (many_any W2 aad nad args.length ans.length acap ncap ticks hal hanl)
  obtain ⟨d0, d1, d2⟩ := HX.out W2 hb2'
  clear hb2 hb2' hw2 hlen hfew
  go_wp2_with fail
  refine HMN.out.mono ?_
  rintro e W2' ⟨rfl, hm⟩
  rcases hm with rfl | ⟨rfl, hm1, hm2, hm3, hm4⟩
  ·clear d0 d1 d2
   go_wp2
   go_ret
   exact ⟨rfl, HW2.out⟩
  ·rename World => W2
   have hzw2 : w.heap.size < W2.heap.size := cell_lt d0
   obtain ⟨W3, hW3⟩ : ∃ W3, W3 = W2.alloc (.cells #[.string ⟨#[115, 116, 117, 99, 107]⟩, .int .i64 0, .slice none 0 0, .int .i64 0, .slice none 0 0] 44) := ⟨_, rfl⟩
   have hb3 : Below W2.heap.size W2 W3 := by rw [hW3]; (repeat (first | exact Below.refl _ _ | assumption | refine Below.drew ?_ | refine bT ?_ _ | refine bS ?_ _ | refine bA ?_ _))
   have hx3 : W3.heap[W2.heap.size]? = some (.cells #[.string ⟨#[115, 116, 117, 99, 107]⟩, .int .i64 0, .slice none 0 0, .int .i64 0, .slice none 0 0] 44 (0, 0)) := by rw [hW3]; exact heap_alloc_new _ _
   have hb03 : Below W0.heap.size W0 W3 := bl_trans HB2.out HB2.out.size hb3
   have hw3 : Below w.heap.size w W3 := bl_trans HB0.out HB0.out.size hb03
   have HRF := hidX (rFault_any nm P (.slice ad L.length cap) L (by omega) HLOW.out (HG.out W3 hw3))
   have HB03 := hidX hb03
   have HW3 := hidX hw3
   have HX3 := hidX hx3
   clear hb3 hb03 hw3 hx3
   go_wp2_with fail
   rw [← hW3]
   clear hW3
   refine HRF.out.mono ?_
   rintro e W5 ⟨rfl, hb5⟩
   have HWG := hidX (show (faultG onesE twosE P L).1 = 0 → WellG onesE twosE P L from fun h => wellG h)
   obtain ⟨fc, hfc⟩ : ∃ fc, fc = (faultG onesE twosE P L).1 := ⟨_, rfl⟩
   obtain ⟨fat, hfat⟩ : ∃ fat, fat = (faultG onesE twosE P L).2 := ⟨_, rfl⟩
   rw [← hfc, ← hfat]
   rw [← hfc] at HWG
   have HFR := hidX hfc
   clear hfc hfat
   have hfd := fld_code (fc : Int) fat
   have HB35 := hidX hb5
   obtain ⟨e0, e1, e2⟩ := HX.out W5 (bl_trans HB03.out HB03.out.size hb5)
   clear d0 d1 d2
   by_cases hc : fc = 0 ∧ (args.length : Int) = P
   ·skip
    have hW := HWG.out hc.1
    have HWO := hidX (walkOf_any nm P (.slice ad L.length cap) L HLOW.out (HG.out W5 (bl_trans HW3.out HW3.out.size hb5)) hW args _ _ hc.2 HAG.out (HAR.out W5 (bl_trans HW3.out HW3.out.size hb5)) ans (HAN.out W5 (bl_trans HW3.out HW3.out.size hb5)) (by omega) HN64.out ticks 3000 (by decide))
    have HSM := hidX (walk_same L args ans ticks 3000 100000 0 st0 (fun _ => none) (by decide))
    have HBND := hidX (walkL_bnd (args := args) (most := ticks) HLOW.out 3000 0 st0 (fun _ => none) (st0_bnd (ans := ans)))
    have HFA := hidX (show (faultG onesE twosE P L).1 = 0 from by rw [← HFR.out]; exact hc.1)
    have HC2 := hidX hc.2
    have t1 : ((fc : Int) == 0) = true := by simp [hc.1]
    have t2 : ((args.length : Int) == P) = true := by simp [hc.2]
    have HB05 := hidX (bl_trans HB03.out HB03.out.size hb5)
    have HX5 := hidX ((hb5.block _ (heap_lt HX3.out)).trans HX3.out)
    generalize walkL L args ans ticks 3000 0 st0 (fun _ => none) = st at *
    clear hc hb5
    go_wp2_with fail
    refine HWO.out.mono ?_
    rintro e W6 ⟨hb6, v6, rfl, hd6⟩
    obtain ⟨outv, callv, xs, e6, hd61, hd62, hd63⟩ := hd6
    have e6' : v6 = .agg #[.string ⟨st.how.toArray⟩, .int .i64 st.val, outv, .int .i64 st.tks, callv] := e6
    subst e6'
    obtain ⟨oa, oc, rfl⟩ := hd61.is
    obtain ⟨ca, cc, rfl⟩ := hd62.is
    have hx6 := (hb6.block _ (heap_lt HX5.out)).trans HX5.out
    obtain ⟨f0, f1, f2, f3, f4⟩ := free5 hx6
    obtain ⟨y0, y1, y2, y3, y4⟩ := cells5 hx6
    obtain ⟨WT, hWT⟩ : ∃ WT, WT = (((((W6.setCell ⟨W2.heap.size, 0, none⟩ (.string ⟨st.how.toArray⟩)).setCell ⟨W2.heap.size, 1, none⟩ (.int .i64 st.val)).setCell ⟨W2.heap.size, 2, none⟩ ((.slice oa st.out.length oc))).setCell ⟨W2.heap.size, 3, none⟩ (.int .i64 st.tks)).setCell ⟨W2.heap.size, 4, none⟩ ((.slice ca st.calls.length cc))) := ⟨_, rfl⟩
    have hb06 := bl_trans HB05.out HB05.out.size hb6
    have hlt62 : W2.heap.size < W6.heap.size := heap_lt hx6
    have hlt52 : W2.heap.size < W5.heap.size := heap_lt HX5.out
    have hBT : But W2.heap.size W6 WT := by rw [hWT]; (repeat (first | exact But.refl _ _ | assumption | refine But.drew ?_ | refine But.drewN ?_ _ | refine But.set ?_ _ _ | refine But.setNew ?_ _ _ (by first | (simp; done) | (simp; omega)) _ | refine But.alloc ?_ _))
    have HXT := hidX (show WT.heap[W2.heap.size]? = some (.cells #[.string ⟨st.how.toArray⟩, .int .i64 st.val, (.slice oa st.out.length oc), .int .i64 st.tks, (.slice ca st.calls.length cc)] 44 (0, 0)) from by rw [hWT]; exact set5_blk hx6 _ _ _ _ _)
    have HZT := hidX (show WT.heap.size = W6.heap.size from by rw [hWT]; simp [World.setCell])
    have HB0T := hidX (show Below W0.heap.size W0 WT from ⟨hBT.os.trans hb06.os, hBT.tape.trans hb06.tape, hBT.output.trans hb06.output, by have := hb06.size; have := HZT.out; omega, fun k hk => (hBT.block k (by have := hb06.size; omega) (by have := HB2.out.size; omega)).trans (hb06.block k hk)⟩)
    have HDR := hidX (show DoneR WT (.agg #[.string ⟨st.how.toArray⟩, .int .i64 st.val, (.slice oa st.out.length oc), .int .i64 st.tks, (.slice ca st.calls.length cc)]) st from ⟨_, _, xs, rfl, hd61.imp (fun b hb => by have := hb.2; have := HZT.out; show b < WT.heap.size; omega) (fun b hb => hBT.block b hb.2 (by have := hb.1; omega)), hd62.imp (fun b hb => by have := hb.2; have := HZT.out; show b < WT.heap.size; omega) (fun b hb => hBT.block b hb.2 (by have := hb.1; omega)), hd63.imp (fun b hb => by have := hb.2; have := HZT.out; show b < WT.heap.size; omega) (fun b hb => hBT.block b hb.2 (by have := hb.1; omega))⟩)
    have c0 : WT.cell? ⟨W2.heap.size, 0, none⟩ = some (.string ⟨st.how.toArray⟩) := cell_of_blk HXT.out 0
    clear e6 hx6 hb06 hBT
    by_cases hlong : st.how = hLong
    ·have tl : (st.how == [108, 111, 110, 103]) = true := by rw [hlong]; decide
     have HWT := hidX (bl_trans HB0.out HB0.out.size HB0T.out)
     clear hlong
     go_wp2_with (rw [← hWT]; clear hWT f0 f1 f2 f3 f4 y0 y1 y2 y3 y4)
     go_ret
     exact ⟨rfl, HWT.out⟩
    ·have tl : (st.how == [108, 111, 110, 103]) = false := ne_lit hlong
     have HWLK := hidX (show ∀ (Y : World), Below WT.heap.size WT Y → ∀ xv a1 a2 c1 c2, XG true (InH Y) Y xv L → XRow (InH Y) Y (.slice a1 args.length c1) args.length (intsG args) → XRow (InH Y) Y (.slice a2 ans.length c2) ans.length (intsG ans) → Calls Tryz.prog 18 #[.agg #[.string ⟨nm.toArray⟩, .int .i64 P, xv], .slice a1 args.length c1, .slice a2 ans.length c2, .int .i64 ticks] Y fun e w' => Below Y.heap.size Y w' ∧ ∃ v, e = .returned v ∧ DoneV w' v st from fun Y hY xv a1 a2 c1 c2 hxg h1 h2 => by
      have hwY := bl_trans HB0.out HB0.out.size (bl_trans HB0T.out HB0T.out.size hY)
      have h := walk_any (HS.out Y hwY) (HT.out Y hwY) nm P xv L HLOW.out hxg HFA.out args _ _ HC2.out h1 ans h2 (by omega) ticks
      rw [HSM.out hlong] at h
      exact h)
     clear hlong
     go_wp2_with (rw [← hWT]; clear hWT f0 f1 f2 f3 f4 y0 y1 y2 y3 y4)
     have HK := hidX (fun (W : World) (hW : Below WT.heap.size WT W) => (show W.cell? ⟨w.heap.size, 0, none⟩ = some (.string ⟨nm.toArray⟩) ∧ W.cell? ⟨w.heap.size, 1, none⟩ = some (.int .i64 P) ∧ W.cell? ⟨w.heap.size, 2, none⟩ = some (.slice ad L.length cap) ∧ W.cell? ⟨W2.heap.size, 0, none⟩ = some (.string ⟨st.how.toArray⟩) ∧ W.cell? ⟨W2.heap.size, 1, none⟩ = some (.int .i64 st.val) ∧ W.cell? ⟨W2.heap.size, 2, none⟩ = some (.slice oa st.out.length oc) ∧ W.cell? ⟨W2.heap.size, 3, none⟩ = some (.int .i64 st.tks) ∧ W.cell? ⟨W2.heap.size, 4, none⟩ = some (.slice ca st.calls.length cc) from by
      obtain ⟨g0, g1, g2⟩ := HX.out W (bl_trans HB0T.out HB0T.out.size hW)
      have h2 := (hW.block _ (heap_lt HXT.out)).trans HXT.out
      exact ⟨g0, g1, g2, cell_of_blk h2 0, cell_of_blk h2 1, cell_of_blk h2 2, cell_of_blk h2 3, cell_of_blk h2 4⟩))
     obtain ⟨k0, k1, k2, k3, k4, k5, k6, k7⟩ := HK.out WT (Below.refl _ _)
     have HWT := hidX (bl_trans HB0.out HB0.out.size HB0T.out)
     have HAS := hidX (fun (Y : World) (hY : Below WT.heap.size WT Y) => asGraph_any nm P (.slice ad L.length cap) L hL1 HFEW.out (HG.out Y (bl_trans HWT.out HWT.out.size hY)))
     have hm1' : args.length ≤ 5000 := by omega
     have hm2' : ans.length ≤ 5000 := by omega
     go_wp2_with fail
     go_region_held3 (fun W => W.cell? ⟨w.heap.size, 0, none⟩ = some (.string ⟨nm.toArray⟩) ∧ W.cell? ⟨w.heap.size, 1, none⟩ = some (.int .i64 P) ∧ W.cell? ⟨w.heap.size, 2, none⟩ = some (.slice ad L.length cap) ∧ W.cell? ⟨W2.heap.size, 0, none⟩ = some (.string ⟨st.how.toArray⟩) ∧ W.cell? ⟨W2.heap.size, 1, none⟩ = some (.int .i64 st.val) ∧ W.cell? ⟨W2.heap.size, 2, none⟩ = some (.slice oa st.out.length oc) ∧ W.cell? ⟨W2.heap.size, 3, none⟩ = some (.int .i64 st.tks) ∧ W.cell? ⟨W2.heap.size, 4, none⟩ = some (.slice ca st.calls.length cc))
      (first | with_reducible exact s9 | with_reducible exact s8 | with_reducible exact s7 | with_reducible exact s6 | with_reducible exact s5 | with_reducible exact s4 | exact HK.out _ (by (repeat (first | exact Below.refl _ _ | assumption | refine Below.drew ?_ | refine bT ?_ _ | refine bS ?_ _ | refine bA ?_ _))))
      (first
       | (go_at_call 8; refine (HAS.out WT.drew (Below.drew (Below.refl _ _))).mono ?_; rintro e X4 ⟨xv, rfl, hxg, hb4⟩; have hb4' : Below WT.heap.size WT X4 := Below.trans (Below.drew (Below.refl _ _)) (show Below WT.heap.size WT.drew X4 from hb4); have s4 := HK.out _ hb4'; have HB4 := hidX hb4'; have HXG := hidX hxg; clear hb4 hb4' hxg)
       | (refine step_append_intsG rfl (.tmp 51) (.tmp 52) rfl (by simp [Act.eval]) (.slice aad args.length acap) (by simp [Act.eval]) args hm1' (HAR.out X4 (bl_trans HWT.out HWT.out.size HB4.out)) ?_; intro ad5 cap5 X5 ho5 hb5; have hb5' := bl_trans HB4.out HB4.out.size hb5; have s5 := HK.out _ hb5'; have HB5 := hidX hb5'; have HB45 := hidX hb5; have HO5 := hidX ho5; clear ho5 hb5 hb5')
       | (refine step_append_intsG rfl (.tmp 54) (.tmp 55) rfl (by simp [Act.eval]) (.slice nad ans.length ncap) (by simp [Act.eval]) ans hm2' (HAN.out X5 (bl_trans HWT.out HWT.out.size HB5.out)) ?_; intro ad6 cap6 X6 ho6 hb6; have hb6' := bl_trans HB5.out HB5.out.size hb6; have s6 := HK.out _ hb6'; have HB6 := hidX hb6'; have HB56 := hidX hb6; have HO6 := hidX ho6; clear ho6 hb6 hb6')
       | (go_at_call 18; refine (HWLK.out X6 HB6.out xv ad5 ad6 cap5 cap6 (HXG.out.imp (inH_up (bl_trans HB45.out HB45.out.size HB56.out)) (keepH (bl_trans HB45.out HB45.out.size HB56.out))) ((xrow_own HO5.out).imp (fun b hb => (inH_up HB56.out) b hb.2) (fun b hb => HB56.out.block b hb.2)) ((xrow_own HO6.out).imp (fun b hb => hb.2) (fun _ _ => rfl))).mono ?_; rintro e X7 ⟨hb7, v7, rfl, hd7⟩; have hb7' := bl_trans HB6.out HB6.out.size hb7; have s7 := HK.out _ hb7'; have HB7 := hidX hb7'; have HD7 := hidX hd7; clear hb7 hb7' hd7)
       | (go_at_call 17; refine (ofDone_any HD7.out (by have := HBND.out.calls; omega)).mono ?_; rintro e X8 ⟨hb8, v8, rfl, hd8⟩; have hb8' := bl_trans HB7.out HB7.out.size hb8; have s8 := HK.out _ hb8'; have HB8 := hidX hb8'; have HD8 := hidX hd8; clear hb8 hb8' hd8)
       | (go_at_call 16; refine (sameDone_any HD8.out (HDR.out.below HB8.out) (by have := HBND.out.out; omega) (by have := HBND.out.calls; omega) (fun c hc => by have := HBND.out.args c hc; omega)).mono ?_; rintro e X9 ⟨rfl, hb9⟩; have hb9' := bl_trans HB8.out HB8.out.size hb9; have s9 := HK.out _ hb9'; have HB9 := hidX hb9'; clear hb9 hb9'))
     have HF9 := hidX (bl_trans HWT.out HWT.out.size HB9.out)
     clear k0 k1 k2 k3 k4 k5 k6 k7 s4 s5 s6 s7 s8 s9
     go_wp2
     go_ret
     exact ⟨rfl, HF9.out⟩
   ·have HBAD := hidX (show (faultG onesE twosE P L).1 ≠ 0 ∨ (args.length : Int) ≠ P from by
     rw [← HFR.out]
     by_cases h1 : fc = 0
     ·exact Or.inr (fun h2 => hc ⟨h1, h2⟩)
     ·exact Or.inl h1)
    by_cases hf0 : fc = 0
    ·have t1 : ((fc : Int) == 0) = true := by simp [hf0]
     have t2 : ((args.length : Int) == P) = false := by
      rw [beq_eq_false_iff_ne]
      exact fun h => hc ⟨hf0, h⟩
     clear hc hf0
     have HB0T := hidX (bl_trans HB03.out HB03.out.size hb5)
     have HXT := hidX ((hb5.block _ (heap_lt HX3.out)).trans HX3.out)
     obtain ⟨WT, hWT⟩ : ∃ WT, WT = W5 := ⟨_, rfl⟩
     subst hWT
     obtain ⟨st, hst⟩ : ∃ st, st = stS := ⟨_, rfl⟩
     have HDR := hidX (show DoneR WT (.agg #[.string ⟨st.how.toArray⟩, .int .i64 st.val, .slice none 0 0, .int .i64 st.tks, .slice none 0 0]) st from by rw [hst]; exact doneR_stuck)
     have HBND := hidX (show BndR ans st from by rw [hst]; exact stS_bnd)
     have HWLK := hidX (show ∀ (Y : World), Below WT.heap.size WT Y → ∀ xv a1 a2 c1 c2, XG true (InH Y) Y xv L → XRow (InH Y) Y (.slice a1 args.length c1) args.length (intsG args) → XRow (InH Y) Y (.slice a2 ans.length c2) ans.length (intsG ans) → Calls Tryz.prog 18 #[.agg #[.string ⟨nm.toArray⟩, .int .i64 P, xv], .slice a1 args.length c1, .slice a2 ans.length c2, .int .i64 ticks] Y fun e w' => Below Y.heap.size Y w' ∧ ∃ v, e = .returned v ∧ DoneV w' v st from fun Y hY xv a1 a2 c1 c2 hxg _ _ => (walk_bad (HS.out Y (bl_trans HW3.out HW3.out.size (bl_trans HB35.out HB35.out.size hY))) (HT.out Y (bl_trans HW3.out HW3.out.size (bl_trans HB35.out HB35.out.size hY))) nm P xv L (by omega) HLOW.out hxg args.length _ _ ⟨_, _, rfl⟩ ticks HBAD.out).mono (fun e w' h => ⟨h.1, _, h.2, by rw [hst]; exact doneV_stuck⟩))
     have HXT2 := hidX (show WT.heap[W2.heap.size]? = some (.cells #[.string ⟨st.how.toArray⟩, .int .i64 st.val, .slice none 0 0, .int .i64 st.tks, .slice none 0 0] 44 (0, 0)) from by rw [hst]; exact HXT.out)
     clear HXT
     obtain ⟨outv, hov⟩ : ∃ v : Value, v = .slice none 0 0 := ⟨_, rfl⟩
     obtain ⟨callv, hcv⟩ : ∃ v : Value, v = .slice none 0 0 := ⟨_, rfl⟩
     have HXT := hidX (show WT.heap[W2.heap.size]? = some (.cells #[.string ⟨st.how.toArray⟩, .int .i64 st.val, outv, .int .i64 st.tks, callv] 44 (0, 0)) from by rw [hov, hcv]; exact HXT2.out)
     have HDR2 := hidX (show DoneR WT (.agg #[.string ⟨st.how.toArray⟩, .int .i64 st.val, outv, .int .i64 st.tks, callv]) st from by rw [hov, hcv]; exact HDR.out)
     clear HXT2 HDR
     have HDR := HDR2
     have tl : (st.how == [108, 111, 110, 103]) = false := by rw [hst]; decide
     clear HDR2 hst hov hcv hb5
     have HK := hidX (fun (W : World) (hW : Below WT.heap.size WT W) => (show W.cell? ⟨w.heap.size, 0, none⟩ = some (.string ⟨nm.toArray⟩) ∧ W.cell? ⟨w.heap.size, 1, none⟩ = some (.int .i64 P) ∧ W.cell? ⟨w.heap.size, 2, none⟩ = some (.slice ad L.length cap) ∧ W.cell? ⟨W2.heap.size, 0, none⟩ = some (.string ⟨st.how.toArray⟩) ∧ W.cell? ⟨W2.heap.size, 1, none⟩ = some (.int .i64 st.val) ∧ W.cell? ⟨W2.heap.size, 2, none⟩ = some outv ∧ W.cell? ⟨W2.heap.size, 3, none⟩ = some (.int .i64 st.tks) ∧ W.cell? ⟨W2.heap.size, 4, none⟩ = some callv from by
      obtain ⟨g0, g1, g2⟩ := HX.out W (bl_trans HB0T.out HB0T.out.size hW)
      have h2 := (hW.block _ (heap_lt HXT.out)).trans HXT.out
      exact ⟨g0, g1, g2, cell_of_blk h2 0, cell_of_blk h2 1, cell_of_blk h2 2, cell_of_blk h2 3, cell_of_blk h2 4⟩))
     obtain ⟨k0, k1, k2, k3, k4, k5, k6, k7⟩ := HK.out WT (Below.refl _ _)
     have HWT := hidX (bl_trans HB0.out HB0.out.size HB0T.out)
     have HAS := hidX (fun (Y : World) (hY : Below WT.heap.size WT Y) => asGraph_any nm P (.slice ad L.length cap) L hL1 HFEW.out (HG.out Y (bl_trans HWT.out HWT.out.size hY)))
     have hm1' : args.length ≤ 5000 := by omega
     have hm2' : ans.length ≤ 5000 := by omega
     go_wp2_with fail
     go_region_held3 (fun W => W.cell? ⟨w.heap.size, 0, none⟩ = some (.string ⟨nm.toArray⟩) ∧ W.cell? ⟨w.heap.size, 1, none⟩ = some (.int .i64 P) ∧ W.cell? ⟨w.heap.size, 2, none⟩ = some (.slice ad L.length cap) ∧ W.cell? ⟨W2.heap.size, 0, none⟩ = some (.string ⟨st.how.toArray⟩) ∧ W.cell? ⟨W2.heap.size, 1, none⟩ = some (.int .i64 st.val) ∧ W.cell? ⟨W2.heap.size, 2, none⟩ = some outv ∧ W.cell? ⟨W2.heap.size, 3, none⟩ = some (.int .i64 st.tks) ∧ W.cell? ⟨W2.heap.size, 4, none⟩ = some callv)
      (first | with_reducible exact s9 | with_reducible exact s8 | with_reducible exact s7 | with_reducible exact s6 | with_reducible exact s5 | with_reducible exact s4 | exact HK.out _ (by (repeat (first | exact Below.refl _ _ | assumption | refine Below.drew ?_ | refine bT ?_ _ | refine bS ?_ _ | refine bA ?_ _))))
      (first
       | (go_at_call 8; refine (HAS.out WT.drew (Below.drew (Below.refl _ _))).mono ?_; rintro e X4 ⟨xv, rfl, hxg, hb4⟩; have hb4' : Below WT.heap.size WT X4 := Below.trans (Below.drew (Below.refl _ _)) (show Below WT.heap.size WT.drew X4 from hb4); have s4 := HK.out _ hb4'; have HB4 := hidX hb4'; have HXG := hidX hxg; clear hb4 hb4' hxg)
       | (refine step_append_intsG rfl (.tmp 51) (.tmp 52) rfl (by simp [Act.eval]) (.slice aad args.length acap) (by simp [Act.eval]) args hm1' (HAR.out X4 (bl_trans HWT.out HWT.out.size HB4.out)) ?_; intro ad5 cap5 X5 ho5 hb5; have hb5' := bl_trans HB4.out HB4.out.size hb5; have s5 := HK.out _ hb5'; have HB5 := hidX hb5'; have HB45 := hidX hb5; have HO5 := hidX ho5; clear ho5 hb5 hb5')
       | (refine step_append_intsG rfl (.tmp 54) (.tmp 55) rfl (by simp [Act.eval]) (.slice nad ans.length ncap) (by simp [Act.eval]) ans hm2' (HAN.out X5 (bl_trans HWT.out HWT.out.size HB5.out)) ?_; intro ad6 cap6 X6 ho6 hb6; have hb6' := bl_trans HB5.out HB5.out.size hb6; have s6 := HK.out _ hb6'; have HB6 := hidX hb6'; have HB56 := hidX hb6; have HO6 := hidX ho6; clear ho6 hb6 hb6')
       | (go_at_call 18; refine (HWLK.out X6 HB6.out xv ad5 ad6 cap5 cap6 (HXG.out.imp (inH_up (bl_trans HB45.out HB45.out.size HB56.out)) (keepH (bl_trans HB45.out HB45.out.size HB56.out))) ((xrow_own HO5.out).imp (fun b hb => (inH_up HB56.out) b hb.2) (fun b hb => HB56.out.block b hb.2)) ((xrow_own HO6.out).imp (fun b hb => hb.2) (fun _ _ => rfl))).mono ?_; rintro e X7 ⟨hb7, v7, rfl, hd7⟩; have hb7' := bl_trans HB6.out HB6.out.size hb7; have s7 := HK.out _ hb7'; have HB7 := hidX hb7'; have HD7 := hidX hd7; clear hb7 hb7' hd7)
       | (go_at_call 17; refine (ofDone_any HD7.out (by have := HBND.out.calls; omega)).mono ?_; rintro e X8 ⟨hb8, v8, rfl, hd8⟩; have hb8' := bl_trans HB7.out HB7.out.size hb8; have s8 := HK.out _ hb8'; have HB8 := hidX hb8'; have HD8 := hidX hd8; clear hb8 hb8' hd8)
       | (go_at_call 16; refine (sameDone_any HD8.out (HDR.out.below HB8.out) (by have := HBND.out.out; omega) (by have := HBND.out.calls; omega) (fun c hc => by have := HBND.out.args c hc; omega)).mono ?_; rintro e X9 ⟨rfl, hb9⟩; have hb9' := bl_trans HB8.out HB8.out.size hb9; have s9 := HK.out _ hb9'; have HB9 := hidX hb9'; clear hb9 hb9'))
     have HF9 := hidX (bl_trans HWT.out HWT.out.size HB9.out)
     clear k0 k1 k2 k3 k4 k5 k6 k7 s4 s5 s6 s7 s8 s9
     go_wp2
     go_ret
     exact ⟨rfl, HF9.out⟩
    ·have t1 : ((fc : Int) == 0) = false := by rw [beq_eq_false_iff_ne]; omega
     clear hc hf0
     have HB0T := hidX (bl_trans HB03.out HB03.out.size hb5)
     have HXT := hidX ((hb5.block _ (heap_lt HX3.out)).trans HX3.out)
     obtain ⟨WT, hWT⟩ : ∃ WT, WT = W5 := ⟨_, rfl⟩
     subst hWT
     obtain ⟨st, hst⟩ : ∃ st, st = stS := ⟨_, rfl⟩
     have HDR := hidX (show DoneR WT (.agg #[.string ⟨st.how.toArray⟩, .int .i64 st.val, .slice none 0 0, .int .i64 st.tks, .slice none 0 0]) st from by rw [hst]; exact doneR_stuck)
     have HBND := hidX (show BndR ans st from by rw [hst]; exact stS_bnd)
     have HWLK := hidX (show ∀ (Y : World), Below WT.heap.size WT Y → ∀ xv a1 a2 c1 c2, XG true (InH Y) Y xv L → XRow (InH Y) Y (.slice a1 args.length c1) args.length (intsG args) → XRow (InH Y) Y (.slice a2 ans.length c2) ans.length (intsG ans) → Calls Tryz.prog 18 #[.agg #[.string ⟨nm.toArray⟩, .int .i64 P, xv], .slice a1 args.length c1, .slice a2 ans.length c2, .int .i64 ticks] Y fun e w' => Below Y.heap.size Y w' ∧ ∃ v, e = .returned v ∧ DoneV w' v st from fun Y hY xv a1 a2 c1 c2 hxg _ _ => (walk_bad (HS.out Y (bl_trans HW3.out HW3.out.size (bl_trans HB35.out HB35.out.size hY))) (HT.out Y (bl_trans HW3.out HW3.out.size (bl_trans HB35.out HB35.out.size hY))) nm P xv L (by omega) HLOW.out hxg args.length _ _ ⟨_, _, rfl⟩ ticks HBAD.out).mono (fun e w' h => ⟨h.1, _, h.2, by rw [hst]; exact doneV_stuck⟩))
     have HXT2 := hidX (show WT.heap[W2.heap.size]? = some (.cells #[.string ⟨st.how.toArray⟩, .int .i64 st.val, .slice none 0 0, .int .i64 st.tks, .slice none 0 0] 44 (0, 0)) from by rw [hst]; exact HXT.out)
     clear HXT
     obtain ⟨outv, hov⟩ : ∃ v : Value, v = .slice none 0 0 := ⟨_, rfl⟩
     obtain ⟨callv, hcv⟩ : ∃ v : Value, v = .slice none 0 0 := ⟨_, rfl⟩
     have HXT := hidX (show WT.heap[W2.heap.size]? = some (.cells #[.string ⟨st.how.toArray⟩, .int .i64 st.val, outv, .int .i64 st.tks, callv] 44 (0, 0)) from by rw [hov, hcv]; exact HXT2.out)
     have HDR2 := hidX (show DoneR WT (.agg #[.string ⟨st.how.toArray⟩, .int .i64 st.val, outv, .int .i64 st.tks, callv]) st from by rw [hov, hcv]; exact HDR.out)
     clear HXT2 HDR
     have HDR := HDR2
     have tl : (st.how == [108, 111, 110, 103]) = false := by rw [hst]; decide
     clear HDR2 hst hov hcv hb5
     have HK := hidX (fun (W : World) (hW : Below WT.heap.size WT W) => (show W.cell? ⟨w.heap.size, 0, none⟩ = some (.string ⟨nm.toArray⟩) ∧ W.cell? ⟨w.heap.size, 1, none⟩ = some (.int .i64 P) ∧ W.cell? ⟨w.heap.size, 2, none⟩ = some (.slice ad L.length cap) ∧ W.cell? ⟨W2.heap.size, 0, none⟩ = some (.string ⟨st.how.toArray⟩) ∧ W.cell? ⟨W2.heap.size, 1, none⟩ = some (.int .i64 st.val) ∧ W.cell? ⟨W2.heap.size, 2, none⟩ = some outv ∧ W.cell? ⟨W2.heap.size, 3, none⟩ = some (.int .i64 st.tks) ∧ W.cell? ⟨W2.heap.size, 4, none⟩ = some callv from by
      obtain ⟨g0, g1, g2⟩ := HX.out W (bl_trans HB0T.out HB0T.out.size hW)
      have h2 := (hW.block _ (heap_lt HXT.out)).trans HXT.out
      exact ⟨g0, g1, g2, cell_of_blk h2 0, cell_of_blk h2 1, cell_of_blk h2 2, cell_of_blk h2 3, cell_of_blk h2 4⟩))
     obtain ⟨k0, k1, k2, k3, k4, k5, k6, k7⟩ := HK.out WT (Below.refl _ _)
     have HWT := hidX (bl_trans HB0.out HB0.out.size HB0T.out)
     have HAS := hidX (fun (Y : World) (hY : Below WT.heap.size WT Y) => asGraph_any nm P (.slice ad L.length cap) L hL1 HFEW.out (HG.out Y (bl_trans HWT.out HWT.out.size hY)))
     have hm1' : args.length ≤ 5000 := by omega
     have hm2' : ans.length ≤ 5000 := by omega
     go_wp2_with fail
     go_region_held3 (fun W => W.cell? ⟨w.heap.size, 0, none⟩ = some (.string ⟨nm.toArray⟩) ∧ W.cell? ⟨w.heap.size, 1, none⟩ = some (.int .i64 P) ∧ W.cell? ⟨w.heap.size, 2, none⟩ = some (.slice ad L.length cap) ∧ W.cell? ⟨W2.heap.size, 0, none⟩ = some (.string ⟨st.how.toArray⟩) ∧ W.cell? ⟨W2.heap.size, 1, none⟩ = some (.int .i64 st.val) ∧ W.cell? ⟨W2.heap.size, 2, none⟩ = some outv ∧ W.cell? ⟨W2.heap.size, 3, none⟩ = some (.int .i64 st.tks) ∧ W.cell? ⟨W2.heap.size, 4, none⟩ = some callv)
      (first | with_reducible exact s9 | with_reducible exact s8 | with_reducible exact s7 | with_reducible exact s6 | with_reducible exact s5 | with_reducible exact s4 | exact HK.out _ (by (repeat (first | exact Below.refl _ _ | assumption | refine Below.drew ?_ | refine bT ?_ _ | refine bS ?_ _ | refine bA ?_ _))))
      (first
       | (go_at_call 8; refine (HAS.out WT.drew (Below.drew (Below.refl _ _))).mono ?_; rintro e X4 ⟨xv, rfl, hxg, hb4⟩; have hb4' : Below WT.heap.size WT X4 := Below.trans (Below.drew (Below.refl _ _)) (show Below WT.heap.size WT.drew X4 from hb4); have s4 := HK.out _ hb4'; have HB4 := hidX hb4'; have HXG := hidX hxg; clear hb4 hb4' hxg)
       | (refine step_append_intsG rfl (.tmp 51) (.tmp 52) rfl (by simp [Act.eval]) (.slice aad args.length acap) (by simp [Act.eval]) args hm1' (HAR.out X4 (bl_trans HWT.out HWT.out.size HB4.out)) ?_; intro ad5 cap5 X5 ho5 hb5; have hb5' := bl_trans HB4.out HB4.out.size hb5; have s5 := HK.out _ hb5'; have HB5 := hidX hb5'; have HB45 := hidX hb5; have HO5 := hidX ho5; clear ho5 hb5 hb5')
       | (refine step_append_intsG rfl (.tmp 54) (.tmp 55) rfl (by simp [Act.eval]) (.slice nad ans.length ncap) (by simp [Act.eval]) ans hm2' (HAN.out X5 (bl_trans HWT.out HWT.out.size HB5.out)) ?_; intro ad6 cap6 X6 ho6 hb6; have hb6' := bl_trans HB5.out HB5.out.size hb6; have s6 := HK.out _ hb6'; have HB6 := hidX hb6'; have HB56 := hidX hb6; have HO6 := hidX ho6; clear ho6 hb6 hb6')
       | (go_at_call 18; refine (HWLK.out X6 HB6.out xv ad5 ad6 cap5 cap6 (HXG.out.imp (inH_up (bl_trans HB45.out HB45.out.size HB56.out)) (keepH (bl_trans HB45.out HB45.out.size HB56.out))) ((xrow_own HO5.out).imp (fun b hb => (inH_up HB56.out) b hb.2) (fun b hb => HB56.out.block b hb.2)) ((xrow_own HO6.out).imp (fun b hb => hb.2) (fun _ _ => rfl))).mono ?_; rintro e X7 ⟨hb7, v7, rfl, hd7⟩; have hb7' := bl_trans HB6.out HB6.out.size hb7; have s7 := HK.out _ hb7'; have HB7 := hidX hb7'; have HD7 := hidX hd7; clear hb7 hb7' hd7)
       | (go_at_call 17; refine (ofDone_any HD7.out (by have := HBND.out.calls; omega)).mono ?_; rintro e X8 ⟨hb8, v8, rfl, hd8⟩; have hb8' := bl_trans HB7.out HB7.out.size hb8; have s8 := HK.out _ hb8'; have HB8 := hidX hb8'; have HD8 := hidX hd8; clear hb8 hb8' hd8)
       | (go_at_call 16; refine (sameDone_any HD8.out (HDR.out.below HB8.out) (by have := HBND.out.out; omega) (by have := HBND.out.calls; omega) (fun c hc => by have := HBND.out.args c hc; omega)).mono ?_; rintro e X9 ⟨rfl, hb9⟩; have hb9' := bl_trans HB8.out HB8.out.size hb9; have s9 := HK.out _ hb9'; have HB9 := hidX hb9'; clear hb9 hb9'))
     have HF9 := hidX (bl_trans HWT.out HWT.out.size HB9.out)
     clear k0 k1 k2 k3 k4 k5 k6 k7 s4 s5 s6 s7 s8 s9
     go_wp2
     go_ret
     exact ⟨rfl, HF9.out⟩
end Go.Proofs.YtlgejjmdanmglaaGreatDoor
