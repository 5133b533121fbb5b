/-
  Our own: the document's own model of a run: a list of statements.
-/
import Derived.Test.YtcebpmaggnephacGreatDoorRRBlock
namespace Go.Proofs.YtcebpmaggnephacGreatDoor
open Go.RowKit Go.Maps

set_option maxRecDepth 100000 in
set_option maxHeartbeats 16000000 in
theorem rbl_list {F : List Fu} {most N : Nat} {K : CallF} {d : Nat} (_hP : WfP F) (hON : OnK most K) (hFK : FitK K) (hEX : ∀ e : Ex, RExT F most N K d e) (l : List Sm) (ih : ∀ k m e t o, Sm.mk k m e t o ∈ l → RBlT F most N K d t ∧ RBlT F most N K d o) : RBlT F most N K d l := by
  intro w B mb vb fv ov nv vv s env V ns vs v hA hX hl hL hW hKi
  obtain ⟨xs, hr, hk⟩ := hX
  obtain ⟨ad, cap, rfl⟩ := hr.is
  have hl' : (l.length : Int) ≤ 30 := by omega
  have hBm := hA.mach.hp
  have hBv := hA.vars.hv
  have hml := hA.mach.mlt
  have hvl := hA.vars.vlt
  obtain ⟨i0, hi, iz0, iz1, iz2⟩ := info_parts int_info
  have R := hidX hr
  have KK := hidX hk
  have LL := hidX hL
  have HW := hidX hW
  have HKI := hidX hKi
  have IH := hidX ih
  have HA := hidX hA
  have HEX := hidX hEX
  have HON := hidX hON
  have HFK := hidX hFK
  generalize hres : blockX runOps most K N l env s = res
  have HRES := hidX hres
  clear hr hk hL hW hKi ih hA hEX hON hFK hres
  go_enter Tryz.func107, Tryz.ntmps107
  go_wp2_with fail
  go_loopw [8] (fun vi wr => ∃ q : Nat, q ≤ l.length ∧ vi = .int .i64 q ∧ Hid (RLp w wr B mb vb d fv ov nv vv F most N V (fun e s => res = blockX runOps most K N (l.drop q) e s) (fun c s => res = .stop c s))) (fun vi _ => l.length - (intOf vi).toNat)
  case atStart => exact ⟨0, Nat.zero_le _, rfl, rlp_run (Fr.refl _ _) Rows3.refl HA.out (by rw [List.drop_zero]; exact HRES.out.symm)⟩
  case round =>
    obtain ⟨q, hq, rfl, HLP⟩ := hrel
    rename World => wo
    obtain ⟨ovq, nvq, vvq, nsq, vsq, hfq, ro, rn, rv, hgo⟩ := HLP.out
    have HFQ := hidX hfq
    have HRQ : Hid (Rows3 w ov nv vv ovq nvq vvq) := ⟨ro, rn, rv⟩
    have hzq := hfq.size
    have HLQ := hidX (hfq.low5 HA.out)
    clear HLP hfq ro rn rv
    rcases hgo with ⟨envq, sq, hAq, hst⟩ | ⟨c, s', env', hM', hV', hs', hst⟩
    · have HAQ := hidX hAq
      have HST0 := hidX hst
      have c4 := hAq.mach.howC
      clear hAq hst
      by_cases hlt : q < l.length
      · have hlt' : (q : Int) < (l.length : Int) := by omega
        obtain ⟨ka, e1, e2⟩ := KK.out.at hlt
        have hmem := List.getElem_mem hlt
        have hlx := LL.out.mem _ hmem
        have hwx := WfSs.mem HW.out _ hmem
        have hkx := HKI.out.mem _ hmem
        have hstep := HST0.out.trans (blockX_at hlt envq sq)
        have hfit := stmtX_fit (most := most) runOps_fit HFK.out N l[q] envq sq HAQ.out.fit hwx
        have hon := stmtX_on (O := runOps) HON.out N l[q] envq sq
        have hih : ∀ k m e t o, l[q] = Sm.mk k m e t o → RBlT F most N K d t ∧ RBlT F most N K d o := fun k m e t o he => IH.out k m e t o (he ▸ hmem)
        generalize l[q] = x at e1 hlx hwx hkx hstep hfit hon hih
        obtain ⟨xk, xm, xe, xt, xo⟩ := x
        obtain ⟨hbt, hbo⟩ := hih _ _ _ _ _ rfl
        obtain ⟨ea, ta, tsa, oa, osa, rfl, r1, r2, r3, r4, r5⟩ := e1
        obtain ⟨ga, off, rfl, hga, g1⟩ := x8_at R.out hlt r1.len e2
        obtain ⟨adt, ct, rfl⟩ := r2.is
        obtain ⟨ado, co, rfl⟩ := r4.is
        have hxe := HEX.out xe
        have HXE := hidX r1
        have HXT : Hid (XLS (fun b => b < B) w (.slice adt xt.length ct) xt) := ⟨tsa, r2, r3⟩
        have HXO : Hid (XLS (fun b => b < B) w (.slice ado xo.length co) xo) := ⟨osa, r4, r5⟩
        obtain ⟨l1, l2, l3, l4, l5, l6, l7⟩ := hlx
        obtain ⟨w1, w2, w3, w4⟩ := hwx
        obtain ⟨kk1, kk2, kk3, kk4⟩ := hkx
        obtain ⟨xek, xen, xem, xes⟩ := xe
        obtain ⟨ya, za, rfl, ra, _⟩ := r1
        obtain ⟨ad1, cap1, rfl⟩ := ra.is
        obtain ⟨Wb, hWb⟩ : ∃ Wb, Wb = wo.alloc (.cells #[.string ⟨xk.toArray⟩, .string ⟨xm.toArray⟩, .string ⟨xek.toArray⟩, .int .i64 xen, .string ⟨xem.toArray⟩, .slice ad1 xes.length cap1, .slice adt xt.length ct, .slice ado xo.length co] 118) := ⟨_, rfl⟩
        have hbW : Below wo.heap.size wo Wb := by rw [hWb]; exact box_blk _ _ _
        have hzW : Wb.heap.size = wo.heap.size + 1 := by rw [hWb]; simp
        have hkW : Wb.heap[wo.heap.size]? = some (.cells #[.string ⟨xk.toArray⟩, .string ⟨xm.toArray⟩, .string ⟨xek.toArray⟩, .int .i64 xen, .string ⟨xem.toArray⟩, .slice ad1 xes.length cap1, .slice adt xt.length ct, .slice ado xo.length co] 118 (0, 0)) := by rw [hWb]; exact heap_alloc_new _ _
        have k1 := g1.keep (HLQ.out.block ga hga)
        have a0 := k1.c0
        have a1 := k1.c1
        have a2 := k1.c2 0 _ (by decide) rfl
        have a3 := k1.c2 1 _ (by decide) rfl
        have a4 := k1.c2 2 _ (by decide) rfl
        have a5 := k1.c2 3 _ (by decide) rfl
        have a6 := k1.c6
        have a7 := k1.c7
        simp only [Nat.add_zero, Nat.reduceAdd] at a2 a3 a4 a5
        have b0 : Wb.cell? ⟨wo.heap.size, 0, none⟩ = some (.string ⟨xk.toArray⟩) := cell_of_blk hkW 0
        have HBW := hidX hbW
        have HZW := hidX hzW
        have HKW := hidX hkW
        have HAW := hidX (HAQ.out.below hbW)
        have HST := hidX hstep
        have HFT := hidX hfit
        have HONX := hidX hon
        have HBT := hidX hbt
        have HBO := hidX hbo
        have HXC := hidX hxe
        have HW1 := hidX w1
        have HW2 := hidX w2
        have HW3 := hidX w3
        have HW4 := hidX w4
        have HK2 := hidX kk2
        have HK3 := hidX kk3
        have HK4 := hidX kk4
        have HL3 := hidX l3
        have HL5 := hidX l5
        have HL7 := hidX l7
        have HKK := hidX kk1
        have hwrl := HAQ.out.mach.mlt
        have hvrl := HAQ.out.vars.vlt
        have HRO : Hid (ovq.ownBlock ≠ some wo.heap.size ∧ nvq.ownBlock ≠ some wo.heap.size ∧ vvq.ownBlock ≠ some wo.heap.size) := ⟨fun e => by have := (HAQ.out.mach.own.lt _ e).2; omega, fun e => by have := (HAQ.out.vars.on.lt _ e).2; omega, fun e => by have := (HAQ.out.vars.ow.lt _ e).2; omega⟩
        clear hstep hfit hon g1 k1 e2 r2 r3 r4 r5 ra hxe w1 w2 w3 w4 kk1 kk2 kk3 kk4 l3 l5 l7 hbt hbo hih hmem hbW hzW hkW HST0
        by_cases kw : xk = kWhile
        · subst kw
          have HLX : Hid (stmtX runOps most K N (.mk kWhile xm (.mk xek xen xem xes) xt xo) envq sq = loopX most (fun env s => exprX runOps K env (.mk xek xen xem xes) s) (fun env s => blockX runOps most K N xt env s) N envq sq) := by unfold Hid; rw [stmtX, if_pos rfl]
          have hlowo : Below B w Wb := ⟨HBW.out.os.trans HLQ.out.os, HBW.out.tape.trans HLQ.out.tape, HBW.out.output.trans HLQ.out.output, Nat.le_trans HLQ.out.size HBW.out.size, fun b hb => (HBW.out.block b (by omega)).trans (HLQ.out.block b hb)⟩
          generalize hev : (fun env s => exprX runOps K env (.mk xek xen xem xes) s) = ev at HLX
          generalize hbl : (fun env s => blockX runOps most K N xt env s) = bl at HLX
          have hxc : ∀ X ov1 nv1 vv1 ns1 vs1 env1 s1, RAt X B mb vb d fv ov1 nv1 vv1 F s1 most N env1 V ns1 vs1 → Below B w X → Calls Tryz.prog 126 #[.pointer (some ⟨mb, 0, none⟩), .pointer (some ⟨vb, 0, none⟩), .agg #[.string ⟨xek.toArray⟩, .int .i64 xen, .string ⟨xem.toArray⟩, .slice ad1 xes.length cap1]] X (RVTo X B mb fv ov1 F most d (ev env1 s1)) := fun X ov1 nv1 vv1 ns1 vs1 env1 s1 hX hB => by
            rw [← hev]
            exact HXC.out X B mb vb fv ov1 nv1 vv1 s1 env1 V ns1 vs1 _ hX (XE.imp (fun _ h => h) (fun b hb => hB.block b hb) _ _ HXE.out) HL3.out HW1.out HK2.out
          have htc : ∀ X ov1 nv1 vv1 ns1 vs1 env1 s1, RAt X B mb vb d fv ov1 nv1 vv1 F s1 most N env1 V ns1 vs1 → Below B w X → Calls Tryz.prog 107 #[.pointer (some ⟨mb, 0, none⟩), .pointer (some ⟨vb, 0, none⟩), .slice adt xt.length ct] X (RBTo X B mb vb fv ov1 nv1 vv1 F most d V (bl env1 s1)) := fun X ov1 nv1 vv1 ns1 vs1 env1 s1 hX hB => by
            rw [← hbl]
            exact HBT.out X B mb vb fv ov1 nv1 vv1 s1 env1 V ns1 vs1 _ hX (HXT.out.imp (fun _ h => h) (fun b hb => hB.block b hb)) l4 HL5.out HW3.out HK3.out
          have hevo : ∀ env s, On most s (ev env s).st := fun env s => by rw [← hev]; exact exprX_on (O := runOps) HON.out env _ s
          have hevf : ∀ env s, Env64 env → FitV (ev env s) := fun env s he => by rw [← hev]; exact exprX_fit runOps_fit HFK.out he (F := F) _ s HW1.out
          have hblo : ∀ env s, On most s (bl env s).st := fun env s => by rw [← hbl]; exact blockX_on (O := runOps) HON.out N xt env s
          have hblf : ∀ env s, Env64 env → FitB (bl env s) := fun env s he => by rw [← hbl]; exact blockX_fit (most := most) runOps_fit HFK.out N xt env s he HW3.out
          have HXC2 := hidX hxc
          have HTC2 := hidX htc
          have HEVO := hidX hevo
          have HBLO := hidX hblo
          have HBLF := hidX hblf
          have hroom := HAQ.out.room
          generalize stmtX runOps most K N (.mk kWhile xm (.mk xek xen xem xes) xt xo) envq sq = rs at HLX HST HFT HONX
          have HLO := hidX hlowo
          clear hev hbl hxc htc hevo hevf hblo hblf hlowo HFT HONX
          have n0 : (kWhile == [119, 104, 105, 108, 101]) = true := by decide
          rw [hWb] at b0
          go_wp2_with fail
          rw [← hWb]
          clear hWb a0 a1 a2 a3 a4 a5 a6 a7 b0 c4
          go_loopw [10] (fun _ wr => ∃ z : Nat, z = 0 ∧ Hid (RLp Wb wr B mb vb d fv ovq nvq vvq F most N V (fun e s => ∃ n, most - s.ticks < n ∧ rs = loopX most ev bl n e s) (fun c s => rs = .stop c s)) ∧ wo.heap.size + 1 ≤ wr.heap.size ∧ Hid (wr.heap[wo.heap.size]? = some (.cells #[.string ⟨kWhile.toArray⟩, .string ⟨xm.toArray⟩, .string ⟨xek.toArray⟩, .int .i64 xen, .string ⟨xem.toArray⟩, .slice ad1 xes.length cap1, .slice adt xt.length ct, .slice ado xo.length co] 118 (0, 0)))) (fun _ wr => most - ticksR wr mb)
          case atStart => exact ⟨0, rfl, rlp_run (Fr.refl _ _) Rows3.refl HAW.out ⟨N, hroom, HLX.out⟩, by have := HZW.out; omega, HKW.out⟩
          case round =>
            obtain ⟨z, _, HLP, hzp, HKP⟩ := hrel
            obtain ⟨ovp, nvp, vvp, nsp, vsp, hfp, ro, rn, rv, hgo⟩ := HLP.out
            have hRp : Rows3 Wb ovq nvq vvq ovp nvp vvp := ⟨ro, rn, rv⟩
            have HFP := hidX (HRQ.out.fr HFQ.out ((Fr.of HBW.out).trans hfp (fun _ _ h => h)))
            have HFW := hidX hfp
            have HRP := hidX hRp
            have HRW := hidX (HRQ.out.trans (hRp.mono (w := wo) HBW.out.size) hzq)
            have hzw := HZW.out
            have HROP : Hid (ovp.ownBlock ≠ some wo.heap.size ∧ nvp.ownBlock ≠ some wo.heap.size ∧ vvp.ownBlock ≠ some wo.heap.size) := ⟨ro.ne (by omega) HRO.out.1, rn.ne (by omega) HRO.out.2.1, rv.ne (by omega) HRO.out.2.2⟩
            have hzWp := hfp.size
            clear HLP hfp ro rn rv hRp hzw
            rcases hgo with ⟨envp, sp, hAp, n, hn, hlx⟩ | ⟨c, s', env', hM', hV', hs', hlx⟩
            · have HAP := hidX hAp
              have htk := hAp.mach.ticksR
              have htl := hAp.mach.tl
              have p4 := hAp.mach.howC
              obtain ⟨n, rfl⟩ : ∃ n', n = n' + 1 := ⟨n - 1, by omega⟩
              have HLP2 := hidX hlx
              clear hAp hlx
              go_wp2_with fail
              refine (rtick_any HAP.out.mach).mono ?_
              rintro e X1 ⟨hf1, h1⟩
              have hz1 := hf1.size
              have HF1X := hidX hf1
              clear p4
              by_cases ht : sp.ticks = most
              · rw [if_pos ht] at h1
                obtain ⟨he, hM1⟩ := h1
                subst he
                obtain ⟨hV1, hs1, hF1, hR1⟩ := HAP.out.behind hf1 (RowB.refl _ _) hM1
                have HM1 := hidX hM1
                have HV1 := hidX hV1
                have HS1 := hidX hs1
                have HF1 := hidX (HRW.out.fr HFP.out hF1)
                have HR1 := hidX (HRW.out.trans hR1 (by omega))
                have HE1 : Hid (res = .stop .tired sp) := by unfold Hid; rw [HST.out, HLP2.out, loopX, if_pos ht]
                clear hM1 hV1 hs1 hF1 hR1 hf1 ht
                go_wp2
                go_roundw
                case rel => exact ⟨q + 1, by omega, by go_num, rlp_stop HF1.out HR1.out HM1.out HV1.out HS1.out HE1.out⟩
                case measure => simp [intOf]; omega
              · rw [if_neg ht] at h1
                obtain ⟨he, hM1⟩ := h1
                subst he
                obtain ⟨hV1, hs1, hF1, hR1⟩ := HAP.out.behind hf1 (RowB.refl _ _) hM1
                have hroomp := HAP.out.room
                have HA1 := hidX (show RAt X1 B mb vb d fv ovp nvp vvp F ⟨sp.ticks + 1, sp.out⟩ most N envp V nsp vsp from ⟨hM1, hV1, hs1, HAP.out.fit, by show most - (sp.ticks + 1) < N; omega, HAP.out.vl⟩)
                have HF1 := hidX (HRW.out.fr HFP.out hF1)
                have hlow1 : Below B w X1 := HF1.out.low5 HA.out
                have hkb1 := (hF1.box (b := wo.heap.size) (by omega) (by omega) (by omega) HROP.out.1 HROP.out.2.1 HROP.out.2.2).trans HKP.out
                have HK1 := hidX hkb1
                have hst := HLP2.out
                rw [loopX, if_neg ht] at hst
                have hox := HEVO.out envp ⟨sp.ticks + 1, sp.out⟩
                have hxc := HXC2.out X1 ovp nvp vvp nsp vsp envp ⟨sp.ticks + 1, sp.out⟩ HA1.out hlow1
                generalize ev envp ⟨sp.ticks + 1, sp.out⟩ = rx at hst hox hxc
                have HSTX := hidX hst
                have HOX := hidX hox
                have HXC1 := hidX hxc
                have b2 : X1.cell? ⟨wo.heap.size, 2, none⟩ = some (.string ⟨xek.toArray⟩) := cell_of_blk hkb1 2
                have b3 : X1.cell? ⟨wo.heap.size, 3, none⟩ = some (.int .i64 xen) := cell_of_blk hkb1 3
                have b4 : X1.cell? ⟨wo.heap.size, 4, none⟩ = some (.string ⟨xem.toArray⟩) := cell_of_blk hkb1 4
                have b5 : X1.cell? ⟨wo.heap.size, 5, none⟩ = some (.slice ad1 xes.length cap1) := cell_of_blk hkb1 5
                clear hM1 hV1 hs1 hF1 hR1 hf1 hst hox hxc hkb1 hlow1
                go_wp2_with fail
                refine HXC1.out.mono ?_
                intro e X2 h2
                obtain ⟨vx, rfl, hf2, ov2, hr2, h2⟩ := rvto_int h2
                have hz2 := hf2.size
                clear b2 b3 b4 b5
                cases rx with
                | stop c s1 =>
                  obtain ⟨hvx, hM2⟩ := h2
                  have hvx : vx = 0 := by injection hvx with this; injection this
                  subst hvx
                  obtain ⟨hV2, hs2, hF2, hR2⟩ := HA1.out.behind hf2 hr2 hM2
                  have HM2 := hidX hM2
                  have HV2 := hidX hV2
                  have HS2 := hidX hs2
                  have HF2 := hidX (HRW.out.fr HF1.out hF2)
                  have HR2 := hidX (HRW.out.trans hR2 (by omega))
                  have HE1 : Hid (res = .stop c s1) := by unfold Hid; rw [HST.out, HSTX.out]
                  clear hM2 hV2 hs2 hF2 hR2 hf2 hr2 ht
                  go_wp2
                  go_roundw
                  case rel => exact ⟨q + 1, by omega, by go_num, rlp_stop HF2.out HR2.out HM2.out HV2.out HS2.out HE1.out⟩
                  case measure => simp [intOf]; omega
                | val v1 s1 =>
                  obtain ⟨hvx, hM2⟩ := h2
                  have hvx : vx = v1 := by injection hvx with this; injection this
                  subst hvx
                  obtain ⟨hV2, hs2, hF2, hR2⟩ := HA1.out.behind hf2 hr2 hM2
                  have hti : sp.ticks + 1 ≤ s1.ticks := HOX.out.ticks
                  have HA2 := hidX (show RAt X2 B mb vb d fv ov2 nvp vvp F s1 most N envp V nsp vsp from ⟨hM2, hV2, hs2, HAP.out.fit, by omega, HAP.out.vl⟩)
                  have HF2 := hidX (HRW.out.fr HF1.out hF2)
                  have HR2 := hidX (HRW.out.trans hR2 (by omega))
                  have hrX : Rows3 X1 ovp nvp vvp ov2 nvp vvp := hR2
                  have HRX := hidX hrX
                  have hkb2 := (hF2.box (b := wo.heap.size) (by omega) (by omega) (by omega) HROP.out.1 HROP.out.2.1 HROP.out.2.2).trans HK1.out
                  have HK2' := hidX hkb2
                  have HFW2 := hidX (HRP.out.fr HFW.out ((HAP.out.behind HF1X.out (RowB.refl _ _) HA1.out.mach).2.2.1.trans hF2 (fun _ _ h => h)))
                  have d4 := hM2.howC
                  have b6 : X2.cell? ⟨wo.heap.size, 6, none⟩ = some (.slice adt xt.length ct) := cell_of_blk hkb2 6
                  by_cases hv0 : vx = 0
                  · have HE1 : Hid (res = blockX runOps most K N (l.drop (q + 1)) envp s1) := by unfold Hid; rw [HST.out, HSTX.out]; simp only; rw [if_pos hv0]
                    subst hv0
                    clear hM2 hV2 hs2 hF2 hR2 hf2 hr2 ht hkb2 hrX
                    go_wp2
                    go_roundw
                    case rel => exact ⟨q + 1, by omega, by go_num, rlp_run HF2.out HR2.out HA2.out HE1.out⟩
                    case measure => simp [intOf]; omega
                  · have hv0' : (vx == 0) = false := by simpa using hv0
                    have hst2 := HSTX.out
                    simp only at hst2
                    rw [if_neg hv0] at hst2
                    have hlow2 : Below B w X2 := HF2.out.low5 HA.out
                    have htc := HTC2.out X2 ov2 nvp vvp nsp vsp envp s1 HA2.out hlow2
                    have hob := HBLO.out envp s1
                    have hfb := HBLF.out envp s1 HAP.out.fit
                    generalize bl envp s1 = rb at hst2 htc hob hfb
                    have HST2 := hidX hst2
                    have HTC1 := hidX htc
                    have HOB := hidX hob
                    have HFBB := hidX hfb
                    have HRO2 : Hid (ov2.ownBlock ≠ some wo.heap.size) := hrX.o.ne (by omega) HROP.out.1
                    clear hM2 hV2 hs2 hF2 hR2 hf2 hr2 ht hkb2 hrX hst2 htc hob hfb hv0 hlow2
                    go_wp2_with fail
                    refine HTC1.out.mono ?_
                    intro e X3 h3
                    obtain ⟨av, bv, rfl, hf3, ov3, nv3, vv3, ns3, vs3, ro3, rn3, rv3, hs3, h3⟩ := rbto_tuple h3
                    have hz3 := hf3.size
                    have HF3 := hidX (HR2.out.fr HF2.out hf3)
                    have HR3 := hidX (HR2.out.trans ⟨ro3, rn3, rv3⟩ (by omega))
                    have HFW3 := hidX ((HRP.out.trans (HRX.out.mono (w := wr) (by omega)) (by omega)).fr HFW2.out hf3)
                    have HRW3 := hidX ((HRP.out.trans (HRX.out.mono (w := wr) (by omega)) (by omega)).trans (wr := X2) ⟨ro3, rn3, rv3⟩ (by omega))
                    have hkb3 := (hf3.box (b := wo.heap.size) (by omega) (by omega) (by omega) HRO2.out HROP.out.2.1 HROP.out.2.2).trans HK2'.out
                    have HK3' := hidX hkb3
                    have HS3 := hidX hs3
                    clear hf3 ro3 rn3 rv3 hs3 hkb3 b6 d4
                    cases rb with
                    | stop c s2 =>
                      obtain ⟨he, hM3, env3, hV3⟩ := h3
                      injection he with he
                      injection he with he
                      have he1 : av = 0 ∧ bv = false := by simpa using he
                      obtain ⟨rfl, rfl⟩ := he1
                      have hti2 : s1.ticks ≤ s2.ticks := HOB.out.ticks
                      have htk3 := hM3.ticksR
                      have htl3 := hM3.tl
                      have HM3 := hidX hM3
                      have HV3 := hidX hV3
                      have HE3 : Hid (rs = .stop c s2) := HST2.out
                      clear hM3 hV3 he
                      go_wp2
                      go_roundw
                      case rel => exact ⟨0, rfl, rlp_stop HFW3.out HRW3.out HM3.out HV3.out HS3.out HE3.out, by omega, HK3'.out⟩
                      case measure => rw [htk3, htk]; omega
                    | ret v2 s2 =>
                      obtain ⟨he, hM3, env3, hV3⟩ := h3
                      injection he with he
                      injection he with he
                      have he1 : av = v2 ∧ bv = true := by simpa using he
                      obtain ⟨rfl, rfl⟩ := he1
                      have HM3 := hidX hM3
                      have HV3 := hidX hV3
                      have HE3 : Hid (res = .ret av s2) := by unfold Hid; rw [HST.out, HST2.out]
                      clear hM3 hV3 he
                      go_wp2
                      exact bodyPost_ret (v := .tuple #[.int .i64 av, .bool true]) (by simp [results, Tryz.results107, go_sem]) rfl (rbto_ret HE3.out HF3.out HR3.out HM3.out HV3.out HS3.out)
                    | next env2 s2 =>
                      obtain ⟨he, hM3, hV3⟩ := h3
                      injection he with he
                      injection he with he
                      have he1 : av = 0 ∧ bv = false := by simpa using he
                      obtain ⟨rfl, rfl⟩ := he1
                      have hti2 : s1.ticks ≤ s2.ticks := HOB.out.ticks
                      have htk3 := hM3.ticksR
                      have htl3 := hM3.tl
                      have HA3 := hidX (show RAt X3 B mb vb d fv ov3 nv3 vv3 F s2 most N env2 V ns3 vs3 from ⟨hM3, hV3, HS3.out, HFBB.out, by omega, HAP.out.vl⟩)
                      have HE3 : Hid (rs = loopX most ev bl n env2 s2) := HST2.out
                      clear hM3 hV3 he
                      go_wp2
                      go_roundw
                      case rel => exact ⟨0, rfl, rlp_run HFW3.out HRW3.out HA3.out ⟨n, by omega, HE3.out⟩, by omega, HK3'.out⟩
                      case measure => rw [htk3, htk]; omega
            · have p4 := hM'.howC
              have HM := hidX hM'
              have HV := hidX hV'
              have HS := hidX hs'
              have HE2 : Hid (res = .stop c s') := by unfold Hid; rw [HST.out, hlx]
              have hne : (howS c).isEmpty = false := by cases c <;> rfl
              clear hM' hV' hs' hlx
              go_wp2
              go_roundw
              case rel => exact ⟨q + 1, by omega, by go_num, rlp_stop HFP.out HRW.out HM.out HV.out HS.out HE2.out⟩
              case measure => simp [intOf]; omega
        · have nw : (xk == [119, 104, 105, 108, 101]) = false := ne_lit kw
          have hxc := HXC.out Wb B mb vb fv ovq nvq vvq sq envq V nsq vsq _ HAW.out (XE.imp (fun _ h => h) (fun b hb => (HBW.out.block b (by have := hvrl; omega)).trans (HLQ.out.block b hb)) _ _ HXE.out) HL3.out HW1.out HK2.out
          have HXC1 := hidX hxc
          have hsx : stmtX runOps most K N (.mk xk xm (.mk xek xen xem xes) xt xo) envq sq = match exprX runOps K envq (.mk xek xen xem xes) sq with
            | .stop c s => .stop c s
            | .val v s =>
              if xk = kVar ∨ xk = kSet then .next (setE envq xm v) s
              else if xk = kIf then (if v = 0 then blockX runOps most K N xo envq s else blockX runOps most K N xt envq s)
              else if xk = kPrint then (if s.out.length = 1000 then .stop .loud s else .next envq ⟨s.ticks, s.out ++ [v]⟩)
              else if xk = kReturn then .ret v s
              else .next envq s := by
            rw [stmtX, if_neg kw]
            cases exprX runOps K envq (.mk xek xen xem xes) sq <;> rfl
          have hfe := exprX_fit runOps_fit HFK.out HAQ.out.fit (F := F) (.mk xek xen xem xes) sq HW1.out
          have hoe := exprX_on (O := runOps) HON.out envq (.mk xek xen xem xes) sq
          have HSX := hidX hsx
          have b2 : Wb.cell? ⟨wo.heap.size, 2, none⟩ = some (.string ⟨xek.toArray⟩) := cell_of_blk HKW.out 2
          have b3 : Wb.cell? ⟨wo.heap.size, 3, none⟩ = some (.int .i64 xen) := cell_of_blk HKW.out 3
          have b4 : Wb.cell? ⟨wo.heap.size, 4, none⟩ = some (.string ⟨xem.toArray⟩) := cell_of_blk HKW.out 4
          have b5 : Wb.cell? ⟨wo.heap.size, 5, none⟩ = some (.slice ad1 xes.length cap1) := cell_of_blk HKW.out 5
          generalize exprX runOps K envq (.mk xek xen xem xes) sq = rx at HXC1 HSX hfe hoe
          have HFE := hidX hfe
          have HOE := hidX hoe
          clear hxc hsx hfe hoe
          rw [hWb] at b0 b2 b3 b4 b5
          go_wp2_with fail
          rw [← hWb]
          clear hWb a0 a1 a2 a3 a4 a5 a6 a7 b0 b2 b3 b4 b5
          refine HXC1.out.mono ?_
          intro e X2 h2
          obtain ⟨vx, rfl, hf2, ov2, hr2, h2⟩ := rvto_int h2
          have hz2 := hf2.size
          have hzW := HZW.out
          have HZ2 : Hid (wo.heap.size + 1 ≤ X2.heap.size) := by unfold Hid; omega
          cases rx with
          | stop c s1 =>
            obtain ⟨_, hM2⟩ := h2
            obtain ⟨hV2, hs2, hF2, hR2⟩ := HAW.out.behind hf2 hr2 hM2
            have HM2 := hidX hM2
            have HV2 := hidX hV2
            have HS2 := hidX hs2
            have HF2 := hidX (HRQ.out.fr HFQ.out ((Fr.of HBW.out).trans hF2 (fun _ _ h => h)))
            have HR2 := hidX (HRQ.out.trans (hR2.mono (w := wo) HBW.out.size) hzq)
            have HE2 : Hid (res = .stop c s1) := by unfold Hid; rw [HST.out, HSX.out]
            have hne : (howS c).isEmpty = false := by cases c <;> rfl
            have d4 := hM2.howC
            clear hM2 hV2 hs2 hF2 hR2 hf2 hr2 HST HSX HFT HONX HFE HOE hzW c4
            go_wp2
            exact bodyPost_ret (v := .tuple #[.int .i64 0, .bool false]) (by simp [results, Tryz.results107, go_sem]) rfl (rbto_stop HE2.out HF2.out HR2.out HM2.out HV2.out HS2.out)
          | val v1 s1 =>
            obtain ⟨hvx, hM2⟩ := h2
            have hvx : vx = v1 := by injection hvx with this; injection this
            subst hvx
            obtain ⟨hV2, hs2, hF2, hR2⟩ := HAW.out.behind hf2 hr2 hM2
            have hti : sq.ticks ≤ s1.ticks := HOE.out.ticks
            have h64 : In64 vx := HFE.out
            have hroom := HAQ.out.room
            have hA2 : RAt X2 B mb vb d fv ov2 nvq vvq F s1 most N envq V nsq vsq := ⟨hM2, hV2, hs2, HAQ.out.fit, by omega, HAQ.out.vl⟩
            have HA2 := hidX hA2
            have hkb := (hF2.box (b := wo.heap.size) (by omega) (by omega) (by omega) HRO.out.1 HRO.out.2.1 HRO.out.2.2).trans HKW.out
            have HKB := hidX hkb
            have HF2 := hidX (HRQ.out.fr HFQ.out ((Fr.of HBW.out).trans hF2 (fun _ _ h => h)))
            have HR2 := hidX (HRQ.out.trans (hR2.mono (w := wo) HBW.out.size) hzq)
            have d4 := hM2.howC
            have e0 : X2.cell? ⟨wo.heap.size, 0, none⟩ = some (.string ⟨xk.toArray⟩) := cell_of_blk hkb 0
            have e1 : X2.cell? ⟨wo.heap.size, 1, none⟩ = some (.string ⟨xm.toArray⟩) := cell_of_blk hkb 1
            have e6 : X2.cell? ⟨wo.heap.size, 6, none⟩ = some (.slice adt xt.length ct) := cell_of_blk hkb 6
            have e7 : X2.cell? ⟨wo.heap.size, 7, none⟩ = some (.slice ado xo.length co) := cell_of_blk hkb 7
            have hst := HSX.out
            simp only at hst
            have HS1 : Hid (res = match (if xk = kVar ∨ xk = kSet then Br.next (setE envq xm vx) s1
              else if xk = kIf then (if vx = 0 then blockX runOps most K N xo envq s1 else blockX runOps most K N xt envq s1)
              else if xk = kPrint then (if s1.out.length = 1000 then .stop .loud s1 else .next envq ⟨s1.ticks, s1.out ++ [vx]⟩)
              else if xk = kReturn then .ret vx s1
              else .next envq s1) with
                | .next env s => blockX runOps most K N (l.drop (q + 1)) env s
                | .stop c s => .stop c s
                | .ret v s => .ret v s) := by unfold Hid; rw [HST.out, hst]; rfl
            clear hM2 hV2 hs2 hF2 hR2 hf2 hr2 HST HSX HFT HONX HFE HOE hzW c4 hA2 hkb hst
            by_cases kv : xk = kVar ∨ xk = kSet
            · have hset := rset_any HA2.out.vars HA2.out.vl xm (HW2.out kv) vx
              have HSET := hidX hset
              have HE2 : Hid (res = blockX runOps most K N (l.drop (q + 1)) (setE envq xm vx) s1) := by unfold Hid; rw [HS1.out, if_pos kv]
              clear hset HS1
              rcases kv with kv | kv
              all_goals (
                subst kv
                first | unfold kVar at e0 nw | unfold kSet at e0 nw
                go_wp2_with fail
                refine HSET.out.mono ?_
                intro e X3 h3
                obtain ⟨nv3, vv3, ns3, vs3, hA3, hF3, hR3⟩ := HA2.out.set h64 h3
                obtain ⟨he, _⟩ := h3
                subst he
                have HA3 := hidX hA3
                have HF3 := hidX (HR2.out.fr HF2.out hF3)
                have HR3 := hidX (HR2.out.trans hR3 (by have := HZ2.out; omega))
                clear hA3 hF3 hR3
                go_wp2
                go_roundw
                case rel => exact ⟨q + 1, by omega, by go_num, rlp_run HF3.out HR3.out HA3.out HE2.out⟩
                case measure => simp [intOf]; omega)
            · have nv1 : (xk == [118, 97, 114]) = false := ne_lit (fun e => kv (Or.inl e))
              have nv2 : (xk == [115, 101, 116]) = false := ne_lit (fun e => kv (Or.inr e))
              by_cases k3 : xk = kPrint
              · subst k3
                obtain ⟨ado2, co2, hov2⟩ := own_is HA2.out.mach.own
                subst hov2
                have hol := HA2.out.mach.ol
                have c5 : X2.cell? ⟨mb, 5, none⟩ = some (.slice ado2 s1.out.length co2) := cell_of_blk HA2.out.mach.blk 5
                have f4 := free_of_blk HA2.out.mach.blk 4
                unfold kPrint at e0 nw nv1 nv2
                by_cases hfull : s1.out.length = 1000
                · have hfull' : (1000 : Int) ≤ (s1.out.length : Int) := by omega
                  have HE2 : Hid (res = .stop .loud s1) := by unfold Hid; rw [HS1.out, if_neg kv, if_neg (by decide), if_pos rfl, if_pos hfull]
                  obtain ⟨hM3, hf3⟩ := HA2.out.mach.put (j := 4) (u := .string ⟨(howS .loud).toArray⟩) (how' := howS .loud) (s' := s1) (d' := d) rfl HA2.out.mach.tl HA2.out.mach.dl (by simp)
                  obtain ⟨hV3, hs3, hF3, hR3⟩ := HA2.out.behind hf3 (RowB.refl _ _) hM3
                  have HM3 := hidX hM3
                  have HV3 := hidX hV3
                  have HS3 := hidX hs3
                  have HF3 := hidX (HR2.out.fr HF2.out hF3)
                  have HR3 := hidX (HR2.out.trans hR3 (by have := HZ2.out; omega))
                  clear HS1 hfull hM3 hf3 hV3 hs3 hF3 hR3
                  go_wp2
                  go_roundw
                  case rel => exact ⟨q + 1, by omega, by go_num, rlp_stop HF3.out HR3.out HM3.out HV3.out HS3.out HE2.out⟩
                  case measure => simp [intOf]; omega
                · have hfull' : ¬ (1000 : Int) ≤ (s1.out.length : Int) := by omega
                  have HE2 : Hid (res = blockX runOps most K N (l.drop (q + 1)) envq ⟨s1.ticks, s1.out ++ [vx]⟩) := by unfold Hid; rw [HS1.out, if_neg kv, if_neg (by decide), if_pos rfl, if_neg hfull]
                  have HAX := hidX (HA2.out.below (box_blk X2 #[.int .i64 vx] 3))
                  have hmX2 := HA2.out.mach.mlt
                  have HFL := hidX hfull
                  clear HS1 hfull
                  go_wp2_with (first | (at_builtin; refine wpList_append_own_at _ rfl _ _ 23 rfl B 3 i0 _ 1 8 Tryz.underlying23 hi iz0 iz1 iz2 rfl (by decide) (.slice ado2 s1.out.length co2) s1.out.length (intsC s1.out) rfl HAX.out.mach.own ⟨X2.heap.size, 0, none⟩ 1 1 [.int .i64 vx] rfl rfl (World.news_of_block (heap_alloc_new _ _)) (int_one vx) (by unfold maxLen; omega) (by omega) (by simp; omega) ?_; intro lv3 W3 ho3 hg3 _ hl3; obtain ⟨ad3, cc3, rfl⟩ := own_is ho3; have HO3 := hidX ho3; have HL3' := hidX hl3; have HG3 := hidX hg3; have hk3 : W3.heap[mb]? = _ := (hg3.block mb (by simp; omega) (fun e => HAX.out.mach.n1 e.symm)).trans HAX.out.mach.blk; have g5 := free_of_blk hk3 5; have g5c := cell_of_blk hk3 5; clear ho3 hg3 hl3 hk3) | fail)
                  have hlen4 : (s1.out ++ [vx]).length = s1.out.length + 1 := by simp
                  obtain ⟨hM3, hf3, hr3⟩ := HAX.out.mach.push (s' := ⟨s1.ticks, s1.out ++ [vx]⟩) (v' := .slice ad3 (s1.out.length + 1) cc3) rfl (by show (s1.out ++ [vx]).length ≤ 1000; have := HFL.out; omega) (by show W3.ownsRow B _ 1 _ (s1.out ++ [vx]).length (intsC (s1.out ++ [vx])); rw [intsC_snoc, hlen4]; exact HO3.out) HG3.out HL3'.out
                  obtain ⟨hV3, hs3, hF3, hR3⟩ := HAX.out.behind hf3 hr3 hM3
                  have HA3 := hidX (show RAt (W3.setCell ⟨mb, 5, none⟩ (.slice ad3 (s1.out.length + 1) cc3)) B mb vb d fv (.slice ad3 (s1.out.length + 1) cc3) nvq vvq F ⟨s1.ticks, s1.out ++ [vx]⟩ most N envq V nsq vsq from ⟨hM3, hV3, hs3, HAQ.out.fit, by show most - s1.ticks < N; omega, HAQ.out.vl⟩)
                  have hbx := box_blk X2 #[.int .i64 vx] 3
                  have HF3 := hidX (HR2.out.fr HF2.out ((Fr.of hbx).trans hF3 (fun _ _ h => h)))
                  have HR3 := hidX (HR2.out.trans (hR3.mono (w := X2) hbx.size) (by have := HZ2.out; omega))
                  clear hM3 hf3 hr3 hV3 hs3 hF3 hR3 hbx hlen4
                  go_roundw
                  case rel => exact ⟨q + 1, by omega, by go_num, rlp_run HF3.out HR3.out HA3.out HE2.out⟩
                  case measure => simp [intOf]; omega
              · have n3 : (xk == [112, 114, 105, 110, 116]) = false := ne_lit k3
                by_cases k4 : xk = kReturn
                · subst k4
                  have HE2 : Hid (res = .ret vx s1) := by unfold Hid; rw [HS1.out]; rfl
                  clear HS1
                  unfold kReturn at e0 nw nv1 nv2 n3
                  go_wp2
                  exact bodyPost_ret (v := .tuple #[.int .i64 vx, .bool true]) (by simp [results, Tryz.results107, go_sem]) rfl (rbto_ret HE2.out HF2.out HR2.out HA2.out.mach HA2.out.vars HA2.out.sep)
                · have n4 : (xk == [114, 101, 116, 117, 114, 110]) = false := ne_lit k4
                  have k5 : xk = kIf := by
                    rcases HKK.out with h | h | h | h | h | h
                    · exact absurd (Or.inl h) kv
                    · exact absurd (Or.inr h) kv
                    · exact h
                    · exact absurd h kw
                    · exact absurd h k4
                    · exact absurd h k3
                  subst k5
                  have hlow2 : Below B w X2 := HF2.out.low5 HA.out
                  have hbc : ∀ t ad c, XLS (fun b => b < B) w (.slice ad t.length c) t → RBlT F most N K d t → t.length ≤ 30 → LowSs t → WfSs F V t → KindSs t → Calls Tryz.prog 107 #[.pointer (some ⟨mb, 0, none⟩), .pointer (some ⟨vb, 0, none⟩), .slice ad t.length c] X2 (RBTo X2 B mb vb fv ov2 nvq vvq F most d V (blockX runOps most K N t envq s1)) := fun t ad c h1 h2 h3 h4 h5 h6 => h2 X2 B mb vb fv ov2 nvq vvq s1 envq V nsq vsq _ HA2.out (h1.imp (fun _ h => h) (fun b hb => hlow2.block b hb)) h3 h4 h5 h6
                  unfold kIf at e0 nw nv1 nv2 n3 n4
                  by_cases hv0 : vx = 0
                  · have hv0' : (vx == 0) = true := by simpa using hv0
                    have HE2 : Hid (res = match blockX runOps most K N xo envq s1 with
                      | .next env s => blockX runOps most K N (l.drop (q + 1)) env s
                      | .stop c s => .stop c s
                      | .ret v s => .ret v s) := by unfold Hid; rw [HS1.out, if_neg kv, if_pos rfl, if_pos hv0]
                    have HBC := hidX (hbc xo ado co HXO.out HBO.out l6 HL7.out HW4.out HK4.out)
                    have hob := blockX_on (O := runOps) HON.out N xo envq s1
                    have hfb := blockX_fit (most := most) runOps_fit HFK.out N xo envq s1 HAQ.out.fit HW4.out
                    generalize blockX runOps most K N xo envq s1 = rb at HE2 HBC hob hfb
                    have HOB := hidX hob
                    have HFB := hidX hfb
                    clear HS1 hbc hob hfb hlow2
                    subst hv0
                    go_wp2_with fail
                    refine HBC.out.mono ?_
                    intro e X3 h3
                    obtain ⟨av, bv, rfl, hf3, ov3, nv3, vv3, ns3, vs3, ro3, rn3, rv3, hs3, h3⟩ := rbto_tuple h3
                    have HF3 := hidX (HR2.out.fr HF2.out hf3)
                    have HR3 := hidX (HR2.out.trans ⟨ro3, rn3, rv3⟩ (by have := HZ2.out; omega))
                    have HS3 := hidX hs3
                    clear hf3 ro3 rn3 rv3 hs3
                    cases rb with
                    | stop c s2 =>
                      obtain ⟨he, hM3, env3, hV3⟩ := h3
                      injection he with he
                      injection he with he
                      have he1 : av = 0 ∧ bv = false := by simpa using he
                      obtain ⟨rfl, rfl⟩ := he1
                      have HM3 := hidX hM3
                      have HV3 := hidX hV3
                      have HE3 : Hid (res = .stop c s2) := HE2.out
                      clear hM3 hV3 HE2 he
                      go_wp2
                      go_roundw
                      case rel => exact ⟨q + 1, by omega, by go_num, rlp_stop HF3.out HR3.out HM3.out HV3.out HS3.out HE3.out⟩
                      case measure => simp [intOf]; omega
                    | ret v2 s2 =>
                      obtain ⟨he, hM3, env3, hV3⟩ := h3
                      injection he with he
                      injection he with he
                      have he1 : av = v2 ∧ bv = true := by simpa using he
                      obtain ⟨rfl, rfl⟩ := he1
                      have HM3 := hidX hM3
                      have HV3 := hidX hV3
                      have HE3 : Hid (res = .ret av s2) := HE2.out
                      clear hM3 hV3 HE2 he
                      go_wp2
                      exact bodyPost_ret (v := .tuple #[.int .i64 av, .bool true]) (by simp [results, Tryz.results107, go_sem]) rfl (rbto_ret HE3.out HF3.out HR3.out HM3.out HV3.out HS3.out)
                    | next env2 s2 =>
                      obtain ⟨he, hM3, hV3⟩ := h3
                      injection he with he
                      injection he with he
                      have he1 : av = 0 ∧ bv = false := by simpa using he
                      obtain ⟨rfl, rfl⟩ := he1
                      have ht2 : s1.ticks ≤ s2.ticks := HOB.out.ticks
                      have HA3 := hidX (show RAt X3 B mb vb d fv ov3 nv3 vv3 F s2 most N env2 V ns3 vs3 from ⟨hM3, hV3, HS3.out, HFB.out, by omega, HAQ.out.vl⟩)
                      have HE3 : Hid (res = blockX runOps most K N (l.drop (q + 1)) env2 s2) := HE2.out
                      clear hM3 hV3 HE2 he
                      go_wp2
                      go_roundw
                      case rel => exact ⟨q + 1, by omega, by go_num, rlp_run HF3.out HR3.out HA3.out HE3.out⟩
                      case measure => simp [intOf]; omega
                  · have hv0' : (vx == 0) = false := by simpa using hv0
                    have HE2 : Hid (res = match blockX runOps most K N xt envq s1 with
                      | .next env s => blockX runOps most K N (l.drop (q + 1)) env s
                      | .stop c s => .stop c s
                      | .ret v s => .ret v s) := by unfold Hid; rw [HS1.out, if_neg kv, if_pos rfl, if_neg hv0]
                    have HBC := hidX (hbc xt adt ct HXT.out HBT.out l4 HL5.out HW3.out HK3.out)
                    have hob := blockX_on (O := runOps) HON.out N xt envq s1
                    have hfb := blockX_fit (most := most) runOps_fit HFK.out N xt envq s1 HAQ.out.fit HW3.out
                    generalize blockX runOps most K N xt envq s1 = rb at HE2 HBC hob hfb
                    have HOB := hidX hob
                    have HFB := hidX hfb
                    clear HS1 hbc hob hfb hlow2
                    go_wp2_with fail
                    refine HBC.out.mono ?_
                    intro e X3 h3
                    obtain ⟨av, bv, rfl, hf3, ov3, nv3, vv3, ns3, vs3, ro3, rn3, rv3, hs3, h3⟩ := rbto_tuple h3
                    have HF3 := hidX (HR2.out.fr HF2.out hf3)
                    have HR3 := hidX (HR2.out.trans ⟨ro3, rn3, rv3⟩ (by have := HZ2.out; omega))
                    have HS3 := hidX hs3
                    clear hf3 ro3 rn3 rv3 hs3
                    cases rb with
                    | stop c s2 =>
                      obtain ⟨he, hM3, env3, hV3⟩ := h3
                      injection he with he
                      injection he with he
                      have he1 : av = 0 ∧ bv = false := by simpa using he
                      obtain ⟨rfl, rfl⟩ := he1
                      have HM3 := hidX hM3
                      have HV3 := hidX hV3
                      have HE3 : Hid (res = .stop c s2) := HE2.out
                      clear hM3 hV3 HE2 he
                      go_wp2
                      go_roundw
                      case rel => exact ⟨q + 1, by omega, by go_num, rlp_stop HF3.out HR3.out HM3.out HV3.out HS3.out HE3.out⟩
                      case measure => simp [intOf]; omega
                    | ret v2 s2 =>
                      obtain ⟨he, hM3, env3, hV3⟩ := h3
                      injection he with he
                      injection he with he
                      have he1 : av = v2 ∧ bv = true := by simpa using he
                      obtain ⟨rfl, rfl⟩ := he1
                      have HM3 := hidX hM3
                      have HV3 := hidX hV3
                      have HE3 : Hid (res = .ret av s2) := HE2.out
                      clear hM3 hV3 HE2 he
                      go_wp2
                      exact bodyPost_ret (v := .tuple #[.int .i64 av, .bool true]) (by simp [results, Tryz.results107, go_sem]) rfl (rbto_ret HE3.out HF3.out HR3.out HM3.out HV3.out HS3.out)
                    | next env2 s2 =>
                      obtain ⟨he, hM3, hV3⟩ := h3
                      injection he with he
                      injection he with he
                      have he1 : av = 0 ∧ bv = false := by simpa using he
                      obtain ⟨rfl, rfl⟩ := he1
                      have ht2 : s1.ticks ≤ s2.ticks := HOB.out.ticks
                      have HA3 := hidX (show RAt X3 B mb vb d fv ov3 nv3 vv3 F s2 most N env2 V ns3 vs3 from ⟨hM3, hV3, HS3.out, HFB.out, by omega, HAQ.out.vl⟩)
                      have HE3 : Hid (res = blockX runOps most K N (l.drop (q + 1)) env2 s2) := HE2.out
                      clear hM3 hV3 HE2 he
                      go_wp2
                      go_roundw
                      case rel => exact ⟨q + 1, by omega, by go_num, rlp_run HF3.out HR3.out HA3.out HE3.out⟩
                      case measure => simp [intOf]; omega
      · have hqn : q = l.length := by omega
        subst hqn
        have HE2 : Hid (res = .next envq sq) := by unfold Hid; rw [HST0.out, List.drop_length, blockX]
        clear HST0 HRES
        go_wp2
        exact bodyPost_ret (v := .tuple #[.int .i64 0, .bool false]) (by simp [results, Tryz.results107, go_sem]) rfl (rbto_next HE2.out HFQ.out HRQ.out HAQ.out.mach HAQ.out.vars HAQ.out.sep)
    · have c4 := hM'.howC
      have HM := hidX hM'
      have HV := hidX hV'
      have HS := hidX hs'
      have HE2 := hidX hst
      have hne : (howS c).isEmpty = false := by cases c <;> rfl
      clear hM' hV' hs' hst HRES
      by_cases hlt : q < l.length
      · have hlt' : (q : Int) < (l.length : Int) := by omega
        go_wp2
        exact bodyPost_ret (v := .tuple #[.int .i64 0, .bool false]) (by simp [results, Tryz.results107, go_sem]) rfl (rbto_stop HE2.out HFQ.out HRQ.out HM.out HV.out HS.out)
      · have hqn : q = l.length := by omega
        subst hqn
        go_wp2
        exact bodyPost_ret (v := .tuple #[.int .i64 0, .bool false]) (by simp [results, Tryz.results107, go_sem]) rfl (rbto_stop HE2.out HFQ.out HRQ.out HM.out HV.out HS.out)
end Go.Proofs.YtcebpmaggnephacGreatDoor
