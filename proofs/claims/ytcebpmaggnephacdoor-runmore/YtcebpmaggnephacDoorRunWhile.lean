/-
  Our own: package run: a while; all statements.
-/
import Derived.Test.YtcebpmaggnephacDoorRunStmt
namespace Go.Proofs.YtcebpmaggnephacDoor
open Go.RowKit Go.Maps

def ticksOf (w : World) (mb : Nat) : Nat := ((w.cell? ⟨mb, 3, none⟩).map fun v => (intOf v).toNat).getD 0
theorem Mach.ticksOf {w : World} {B mb nb : Nat} {fv ov : Value} {F : List Fu} {how : List UInt8} {s : Ms} {most d : Nat} (h : Mach w B mb nb fv ov F how s most d) : ticksOf w mb = s.ticks := by
  have : w.cell? ⟨mb, 3, none⟩ = some (.int .i64 (s.ticks : Int)) := cell_of_blk h.blk 3
  unfold Go.Proofs.YtcebpmaggnephacDoor.ticksOf
  rw [this]
  simp [intOf]
set_option maxRecDepth 100000 in
set_option maxHeartbeats 8000000 in
theorem wh_mk {F : List Fu} {most N : Nat} (hP : WfP F) (k m : List UInt8) (ee : Ex) (t o : List Sm) (hex : ExT F most N ee) (hbt : BlT F most N t) : WhT F most N (.mk k m ee t o) := by
  intro w B mb nb fb vb d fv ov s env V cs m' e' t' o' hxe hA hX hL hW
  injection hxe with hk q1 q2 q3 q4
  clear q1 q2 q3 q4
  obtain ⟨es, tv, ts, ov0, os, rfl, r1, r2, r3, r4, r5⟩ := hX
  obtain ⟨l1, l2, l3, l4, l5, l6, l7⟩ := hL
  obtain ⟨w1, w2, w3, w4⟩ := hW
  obtain ⟨adt, ct, rfl⟩ := r2.is
  obtain ⟨ado, co, rfl⟩ := r4.is
  have hBf := hA.fram.hf
  have hBv := hA.fram.hv
  have hBm := hA.mach.hp
  have hml := hA.mach.mlt
  have hfl := hA.fram.flt
  have hvlt := hA.fram.vars.lt
  have HA := hidX hA
  generalize hres : stmtX runOps most (callX runOps most F N d) N (.mk k m ee t o) env s = res
  have hlp : res = loopX most (fun env s => exprX runOps (callX runOps most F N d) env ee s) (fun env s => blockX runOps most (callX runOps most F N d) N t env s) N env s := by rw [← hres, stmtX, if_pos hk]
  generalize hev : (fun env s => exprX runOps (callX runOps most F N d) env ee s) = ev at hlp
  generalize hbl : (fun env s => blockX runOps most (callX runOps most F N d) N t env s) = bl at hlp
  have hxc : ∀ X ov1 env1 s1, At X B mb nb fb vb d fv ov1 F s1 most N env1 V → Below B w X → Calls Tryd.prog 67 #[.pointer (some ⟨fb, 0, none⟩), .agg es.toArray] X (VTo X B mb nb fv ov1 F most d (ev env1 s1)) := fun X ov1 env1 s1 hX hB => by
    rw [← hev]
    exact hex X B mb nb fb vb d fv ov1 s1 env1 V 0 es hX.mach hX.fram hX.of hX.fit (XE.imp (fun _ h => h) (fun b hb => hB.block b hb) _ _ r1) l3 w1 hX.room
  have htc : ∀ X ov1 env1 s1, At X B mb nb fb vb d fv ov1 F s1 most N env1 V → Below B w X → Calls Tryd.prog 46 #[.pointer (some ⟨fb, 0, none⟩), .slice adt t.length ct] X (BTo X B mb nb fb vb fv ov1 F most d V (bl env1 s1)) := fun X ov1 env1 s1 hX hB => by
    rw [← hbl]
    exact hbt X B mb nb fb vb d fv ov1 s1 env1 V _ hX (XLS.imp ⟨ts, r2, r3⟩ (fun _ h => h) (fun b hb => hB.block b hb)) l4 l5 w3
  have hevo : ∀ env s, On most s (ev env s).st := fun env s => by rw [← hev]; exact exprX_on (O := runOps) (callX_on runOps most F N d) env ee s
  have hblo : ∀ env s, On most s (bl env s).st := fun env s => by rw [← hbl]; exact blockX_on (O := runOps) (callX_on runOps most F N d) N t env s
  have hblf : ∀ env s, Env64 env → FitB (bl env s) := fun env s he => by rw [← hbl]; exact blockX_fit (most := most) runOps_fit (callX_fit runOps_fit most hP.funs N d) N t env s he w3
  obtain ⟨ek, en, em, eks⟩ := ee
  obtain ⟨ya, za, rfl, ra, _⟩ := r1
  obtain ⟨ad1, cap1, rfl⟩ := ra.is
  obtain ⟨Wb, hWb⟩ : ∃ Wb, Wb = w.alloc (.cells #[.string ⟨k.toArray⟩, .string ⟨m.toArray⟩, .string ⟨ek.toArray⟩, .int .i64 en, .string ⟨em.toArray⟩, .slice ad1 eks.length cap1, .slice adt t.length ct, .slice ado o.length co] 54) := ⟨_, rfl⟩
  have hbW : Below w.heap.size w Wb := by rw [hWb]; exact box_blk _ _ _
  have hzW : Wb.heap.size = w.heap.size + 1 := by rw [hWb]; simp
  have hkW : Wb.heap[w.heap.size]? = some (.cells #[.string ⟨k.toArray⟩, .string ⟨m.toArray⟩, .string ⟨ek.toArray⟩, .int .i64 en, .string ⟨em.toArray⟩, .slice ad1 eks.length cap1, .slice adt t.length ct, .slice ado o.length co] 54 (0, 0)) := by rw [hWb]; exact heap_alloc_new w _
  have hroW : ov.ownBlock ≠ some w.heap.size := fun e => by have := (hA.mach.own.lt _ e).2; omega
  have hroom := hA.room
  have HXC := hidX hxc
  have HTC := hidX htc
  have HEVO := hidX hevo
  have HBLO := hidX hblo
  have HBLF := hidX hblf
  have HBW := hidX hbW
  have HKW := hidX hkW
  have HRW := hidX hroW
  have HLP := hidX hlp
  clear hA r2 r3 r4 r5 l3 l5 l7 w1 w2 w3 w4 hex hbt hxc htc hevo hblo hblf hbW hkW hroW hlp hev hbl hres ra hk
  go_enter Tryd.func66, Tryd.ntmps66
  go_wp2_with fail
  rw [← hWb]
  clear hWb
  go_loopw [5] (fun _ wr => ∃ (n : Nat) (envq : Env) (sq : Ms) (ovq : Value), Hid (At wr B mb nb fb vb d fv ovq F sq most N envq V) ∧ most - sq.ticks < n ∧ Hid (Fr (Ss mb fb vb ov.ownBlock) w wr) ∧ Hid (RowB Wb ov.ownBlock ovq.ownBlock) ∧ w.heap.size + 1 ≤ wr.heap.size ∧ Hid (wr.heap[w.heap.size]? = some (.cells #[.string ⟨k.toArray⟩, .string ⟨m.toArray⟩, .string ⟨ek.toArray⟩, .int .i64 en, .string ⟨em.toArray⟩, .slice ad1 eks.length cap1, .slice adt t.length ct, .slice ado o.length co] 54 (0, 0))) ∧ Hid (res = loopX most ev bl n envq sq)) (fun _ wr => most - ticksOf wr mb)
  case atStart => exact ⟨N, env, s, ov, HA.out.below HBW.out, hroom, Fr.of HBW.out, RowB.refl _ _, by omega, HKW.out, HLP.out⟩
  case round =>
    obtain ⟨n, envq, sq, ovq, HAQ, hnq, HFQ, HRQ, hzq, HBQ, HLQ⟩ := hrel
    have hlowq : Below B w wr := HFQ.out.lowS HA.out.mach hBf hBv
    have hobq : ovq.ownBlock ≠ some w.heap.size := HRQ.out.ne (by omega) HRW.out
    have f0 : wr.cell? ⟨fb, 0, none⟩ = some (.pointer (some ⟨mb, 0, none⟩)) := cell_of_blk HAQ.out.fram.blk 0
    have HRQw := hidX (HRQ.out.mono (a := w) (by omega))
    have HOBQ := hidX hobq
    have htk := HAQ.out.mach.ticksOf
    have htl := HAQ.out.mach.tl
    obtain ⟨n, rfl⟩ : ∃ n', n = n' + 1 := ⟨n - 1, by omega⟩
    clear hobq
    go_wp2_with fail
    refine (tick_any HAQ.out.mach).mono ?_
    rintro e X1 ⟨hf1, h1⟩
    have hz1 := hf1.size
    have hfm1 := HAQ.out.fram.stay HAQ.out.mach HAQ.out.of hf1
    have HFS1 := hidX (show Fr (Ss mb fb vb ov.ownBlock) w X1 from HFQ.out.trans hf1 (fun i hi hs => Ss.next HRQw.out hi hs.toSs))
    have hbk1 := (hf1.block w.heap.size (by omega) (by rintro (e | e); omega; exact HOBQ.out e)).trans HBQ.out
    have hlow1 : Below B w X1 := HFS1.out.lowS HA.out.mach hBf hBv
    have HFM1 := hidX hfm1
    have HBK1 := hidX hbk1
    have HLW1 := hidX hlow1
    clear hf1 hfm1 hbk1 f0 hlowq hlow1
    by_cases ht : sq.ticks = most
    · rw [if_pos ht] at h1
      obtain ⟨he, hm1⟩ := h1
      subst he
      have HM1 := hidX hm1
      have HE2 : Hid (res = .stop .tired sq) := by unfold Hid; rw [HLQ.out, loopX, if_pos ht]
      clear hm1 HLQ ht
      go_wp2
      go_ret
      exact bto_stop HE2.out HFS1.out HRQw.out HM1.out HFM1.out
    · rw [if_neg ht] at h1
      obtain ⟨he, hm1⟩ := h1
      subst he
      have hroomq := HAQ.out.room
      have HA1 := hidX (show At X1 B mb nb fb vb d fv ovq F ⟨sq.ticks + 1, sq.out⟩ most N envq V from ⟨hm1, HFM1.out, HAQ.out.of, HAQ.out.fit, by show most - (sq.ticks + 1) < N; omega, HAQ.out.vl, HAQ.out.vn⟩)
      have hst := HLQ.out
      rw [loopX, if_neg ht] at hst
      have hox := HEVO.out envq ⟨sq.ticks + 1, sq.out⟩
      have hxc := HXC.out X1 ovq envq ⟨sq.ticks + 1, sq.out⟩ HA1.out HLW1.out
      generalize ev envq ⟨sq.ticks + 1, sq.out⟩ = rx at hst hox hxc
      have HST := hidX hst
      have HOX := hidX hox
      have HXC1 := hidX hxc
      have b2 : X1.cell? ⟨w.heap.size, 2, none⟩ = some (.string ⟨ek.toArray⟩) := cell_of_blk HBK1.out 2
      have b3 : X1.cell? ⟨w.heap.size, 3, none⟩ = some (.int .i64 en) := cell_of_blk HBK1.out 3
      have b4 : X1.cell? ⟨w.heap.size, 4, none⟩ = some (.string ⟨em.toArray⟩) := cell_of_blk HBK1.out 4
      have b5 : X1.cell? ⟨w.heap.size, 5, none⟩ = some (.slice ad1 eks.length cap1) := cell_of_blk HBK1.out 5
      clear hm1 hst hox hxc
      go_wp2_with fail
      refine HXC1.out.mono ?_
      rintro e X2 ⟨hf2, ov2, hr2, h2⟩
      have hz2 := hf2.size
      have hfm2 := HFM1.out.stay HA1.out.mach HAQ.out.of hf2
      have HFS2 := hidX (show Fr (Ss mb fb vb ov.ownBlock) w X2 from HFS1.out.trans hf2 (fun i hi hs => Ss.next HRQw.out hi hs.toSs))
      have hrW2 : RowB Wb ov.ownBlock ov2.ownBlock := HRQ.out.trans hr2 (by omega)
      have hob2 : ov2.ownBlock ≠ some w.heap.size := hrW2.ne (by omega) HRW.out
      have hof2 : ov2.ownBlock ≠ some fb := hr2.ne HFM1.out.flt HAQ.out.of
      have hbk2 := (hf2.block w.heap.size (by omega) (by rintro (e | e); omega; exact HOBQ.out e)).trans HBK1.out
      have HLW2 := hidX (show Below B w X2 from HFS2.out.lowS HA.out.mach hBf hBv)
      have HFM2 := hidX hfm2
      have HBK2 := hidX hbk2
      have HRW2 := hidX hrW2
      have HRw2 := hidX (hrW2.mono (a := w) (by omega))
      have HOB2 := hidX hob2
      have HOF2 := hidX hof2
      clear hf2 hfm2 hrW2 hob2 hof2 hbk2 b2 b3 b4 b5 hr2
      cases rx with
      | stop c s1 =>
        simp only at h2
        obtain ⟨he, hm2⟩ := h2
        subst he
        have HM2 := hidX hm2
        have HE2 : Hid (res = .stop c s1) := HST.out
        clear hm2 HST HLQ ht
        go_wp2
        go_ret
        exact bto_stop HE2.out HFS2.out HRw2.out HM2.out HFM2.out
      | val v s1 =>
        simp only at h2
        obtain ⟨he, hm2⟩ := h2
        subst he
        have hti : sq.ticks + 1 ≤ s1.ticks := HOX.out.ticks
        have HM2 := hidX hm2
        by_cases hv0 : v = 0
        · have hv0' : (v == 0) = true := by simpa using hv0
          have HE2 : Hid (res = .next envq s1) := by unfold Hid; rw [HST.out]; simp only; rw [if_pos hv0]
          clear hm2 HST HLQ ht
          subst hv0
          go_wp2
          go_ret
          exact bto_next HE2.out HFS2.out HRw2.out HM2.out HFM2.out
        · have hv0' : (v == 0) = false := by simpa using hv0
          have hst2 := HST.out
          simp only at hst2
          rw [if_neg hv0] at hst2
          have HA2 := hidX (show At X2 B mb nb fb vb d fv ov2 F s1 most N envq V from ⟨hm2, HFM2.out, HOF2.out, HAQ.out.fit, by omega, HAQ.out.vl, HAQ.out.vn⟩)
          have htc := HTC.out X2 ov2 envq s1 HA2.out HLW2.out
          have hob := HBLO.out envq s1
          have hfb := HBLF.out envq s1 HAQ.out.fit
          generalize bl envq s1 = rb at hst2 htc hob hfb
          have HST2 := hidX hst2
          have HTC1 := hidX htc
          have HOB := hidX hob
          have HFBB := hidX hfb
          have b6 : X2.cell? ⟨w.heap.size, 6, none⟩ = some (.slice adt t.length ct) := cell_of_blk HBK2.out 6
          clear hm2 HST HLQ ht hst2 htc hob hfb hv0
          go_wp2_with fail
          refine HTC1.out.mono ?_
          rintro e X3 ⟨hf3, ov3, hr3, h3⟩
          have hz3 := hf3.size
          have HFS3 := hidX (show Fr (Ss mb fb vb ov.ownBlock) w X3 from HFS2.out.trans hf3 (fun i hi hs => Ss.next HRw2.out hi hs))
          have HRW3 := hidX (show RowB Wb ov.ownBlock ov3.ownBlock from HRW2.out.trans hr3 (by omega))
          have hof3 : ov3.ownBlock ≠ some fb := hr3.ne HFM2.out.flt HOF2.out
          have hbk3 := (hf3.block w.heap.size (by omega) (by rintro (e | e | e | e); omega; omega; omega; exact HOB2.out e)).trans HBK2.out
          have HBK3 := hidX hbk3
          have HOF3 := hidX hof3
          clear hf3 hr3 hof3 hbk3 b6
          cases rb with
          | stop c s2 =>
            simp only at h3
            obtain ⟨he, hm3, env3, hF3⟩ := h3
            subst he
            have HM3 := hidX hm3
            have HF3 := hidX hF3
            have HE3 : Hid (res = .stop c s2) := HST2.out
            clear hm3 hF3 HST2
            go_wp2
            go_ret
            exact bto_stop HE3.out HFS3.out (HRW3.out.mono (by omega)) HM3.out HF3.out
          | ret v2 s2 =>
            simp only at h3
            obtain ⟨he, hm3, env3, hF3⟩ := h3
            subst he
            have HM3 := hidX hm3
            have HF3 := hidX hF3
            have HE3 : Hid (res = .ret v2 s2) := HST2.out
            clear hm3 hF3 HST2
            go_wp2
            go_ret
            exact bto_ret HE3.out HFS3.out (HRW3.out.mono (by omega)) HM3.out HF3.out
          | next env3 s2 =>
            simp only at h3
            obtain ⟨he, hm3, hF3⟩ := h3
            subst he
            have hti2 : s1.ticks ≤ s2.ticks := HOB.out.ticks
            have htk3 := hm3.ticksOf
            have htl3 := hm3.tl
            have HA3 := hidX (show At X3 B mb nb fb vb d fv ov3 F s2 most N env3 V from ⟨hm3, hF3, HOF3.out, HFBB.out, by omega, HAQ.out.vl, HAQ.out.vn⟩)
            have HE3 : Hid (res = loopX most ev bl n env3 s2) := HST2.out
            clear hm3 hF3 HST2
            go_wp2
            go_roundw
            case rel => exact ⟨n, env3, s2, ov3, HA3.out, by omega, HFS3.out, HRW3.out, by omega, HBK3.out, HE3.out⟩
            case measure => rw [htk3, htk]; omega
mutual
theorem st_any {F : List Fu} {most N : Nat} (hP : WfP F) (hC : CallT F most N) : ∀ x : Sm, StT F most N x
  | .mk k m e t o => st_mk hP k m e t o (ex_any hP hC e) (bl_list hP t (sts_any hP hC t)) (bl_list hP o (sts_any hP hC o)) (wh_mk hP k m e t o (ex_any hP hC e) (bl_list hP t (sts_any hP hC t)))
theorem sts_any {F : List Fu} {most N : Nat} (hP : WfP F) (hC : CallT F most N) : ∀ l : List Sm, ∀ x ∈ l, StT F most N x
  | [], _, h => absurd h (by simp)
  | e :: r, x, h => by
    rcases List.mem_cons.1 h with h | h
    · rw [h]; exact st_any hP hC e
    · exact sts_any hP hC r x h
end
theorem bl_any {F : List Fu} {most N : Nat} (hP : WfP F) (hC : CallT F most N) (l : List Sm) : BlT F most N l := bl_list hP l (sts_any hP hC l)
end Go.Proofs.YtcebpmaggnephacDoor
