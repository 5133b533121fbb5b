/-
  Our own: texts joined: RunWhile, RunCall, RunNum.
-/
import Derived.Test.YtcebpmaggnephacGreatDoorRunStmt

/-
  Our own: package run: a while; all statements.
-/
namespace Go.Proofs.YtcebpmaggnephacGreatDoor
open Go.RowKit Go.Maps

def ticksOf (w : World) (mb : Nat) : Nat := ((w.cell? ⟨mb, 3, none⟩).map fun v => (intOf v).toNat).getD 0
theorem Mach.ticksOf {w : World} {B mb nb : Nat} {fv ov : Value} {F : List Fu} {how : List UInt8} {s : Ms} {most d : Nat} (h : Mach w B mb nb fv ov F how s most d) : ticksOf w mb = s.ticks := by
  have : w.cell? ⟨mb, 3, none⟩ = some (.int .i64 (s.ticks : Int)) := cell_of_blk h.blk 3
  unfold Go.Proofs.YtcebpmaggnephacGreatDoor.ticksOf
  rw [this]
  simp [intOf]
set_option maxRecDepth 100000 in
set_option maxHeartbeats 8000000 in
theorem wh_mk {F : List Fu} {most N : Nat} (hP : WfP F) (k m : List UInt8) (ee : Ex) (t o : List Sm) (hex : ExT F most N ee) (hbt : BlT F most N t) : WhT F most N (.mk k m ee t o) := by
  intro w B mb nb fb vb d fv ov s env V cs m' e' t' o' hxe hA hX hL hW
  injection hxe with hk q1 q2 q3 q4
  clear q1 q2 q3 q4
  obtain ⟨es, tv, ts, ov0, os, rfl, r1, r2, r3, r4, r5⟩ := hX
  obtain ⟨l1, l2, l3, l4, l5, l6, l7⟩ := hL
  obtain ⟨w1, w2, w3, w4⟩ := hW
  obtain ⟨adt, ct, rfl⟩ := r2.is
  obtain ⟨ado, co, rfl⟩ := r4.is
  have hBf := hA.fram.hf
  have hBv := hA.fram.hv
  have hBm := hA.mach.hp
  have hml := hA.mach.mlt
  have hfl := hA.fram.flt
  have hvlt := hA.fram.vars.lt
  have HA := hidX hA
  generalize hres : stmtX runOps most (callX runOps most F N d) N (.mk k m ee t o) env s = res
  have hlp : res = loopX most (fun env s => exprX runOps (callX runOps most F N d) env ee s) (fun env s => blockX runOps most (callX runOps most F N d) N t env s) N env s := by rw [← hres, stmtX, if_pos hk]
  generalize hev : (fun env s => exprX runOps (callX runOps most F N d) env ee s) = ev at hlp
  generalize hbl : (fun env s => blockX runOps most (callX runOps most F N d) N t env s) = bl at hlp
  have hxc : ∀ X ov1 env1 s1, At X B mb nb fb vb d fv ov1 F s1 most N env1 V → Below B w X → Calls Tryz.prog 122 #[.pointer (some ⟨fb, 0, none⟩), .agg es.toArray] X (VTo X B mb nb fv ov1 F most d (ev env1 s1)) := fun X ov1 env1 s1 hX hB => by
    rw [← hev]
    exact hex X B mb nb fb vb d fv ov1 s1 env1 V 0 es hX.mach hX.fram hX.of hX.fit (XE.imp (fun _ h => h) (fun b hb => hB.block b hb) _ _ r1) l3 w1 hX.room
  have htc : ∀ X ov1 env1 s1, At X B mb nb fb vb d fv ov1 F s1 most N env1 V → Below B w X → Calls Tryz.prog 55 #[.pointer (some ⟨fb, 0, none⟩), .slice adt t.length ct] X (BTo X B mb nb fb vb fv ov1 F most d V (bl env1 s1)) := fun X ov1 env1 s1 hX hB => by
    rw [← hbl]
    exact hbt X B mb nb fb vb d fv ov1 s1 env1 V _ hX (XLS.imp ⟨ts, r2, r3⟩ (fun _ h => h) (fun b hb => hB.block b hb)) l4 l5 w3
  have hevo : ∀ env s, On most s (ev env s).st := fun env s => by rw [← hev]; exact exprX_on (O := runOps) (callX_on runOps most F N d) env ee s
  have hblo : ∀ env s, On most s (bl env s).st := fun env s => by rw [← hbl]; exact blockX_on (O := runOps) (callX_on runOps most F N d) N t env s
  have hblf : ∀ env s, Env64 env → FitB (bl env s) := fun env s he => by rw [← hbl]; exact blockX_fit (most := most) runOps_fit (callX_fit runOps_fit most hP.funs N d) N t env s he w3
  obtain ⟨ek, en, em, eks⟩ := ee
  obtain ⟨ya, za, rfl, ra, _⟩ := r1
  obtain ⟨ad1, cap1, rfl⟩ := ra.is
  obtain ⟨Wb, hWb⟩ : ∃ Wb, Wb = w.alloc (.cells #[.string ⟨k.toArray⟩, .string ⟨m.toArray⟩, .string ⟨ek.toArray⟩, .int .i64 en, .string ⟨em.toArray⟩, .slice ad1 eks.length cap1, .slice adt t.length ct, .slice ado o.length co] 63) := ⟨_, rfl⟩
  have hbW : Below w.heap.size w Wb := by rw [hWb]; exact box_blk _ _ _
  have hzW : Wb.heap.size = w.heap.size + 1 := by rw [hWb]; simp
  have hkW : Wb.heap[w.heap.size]? = some (.cells #[.string ⟨k.toArray⟩, .string ⟨m.toArray⟩, .string ⟨ek.toArray⟩, .int .i64 en, .string ⟨em.toArray⟩, .slice ad1 eks.length cap1, .slice adt t.length ct, .slice ado o.length co] 63 (0, 0)) := by rw [hWb]; exact heap_alloc_new w _
  have hroW : ov.ownBlock ≠ some w.heap.size := fun e => by have := (hA.mach.own.lt _ e).2; omega
  have hroom := hA.room
  have HXC := hidX hxc
  have HTC := hidX htc
  have HEVO := hidX hevo
  have HBLO := hidX hblo
  have HBLF := hidX hblf
  have HBW := hidX hbW
  have HKW := hidX hkW
  have HRW := hidX hroW
  have HLP := hidX hlp
  clear hA r2 r3 r4 r5 l3 l5 l7 w1 w2 w3 w4 hex hbt hxc htc hevo hblo hblf hbW hkW hroW hlp hev hbl hres ra hk
  go_enter Tryz.func121, Tryz.ntmps121
  go_wp2_with fail
  rw [← hWb]
  clear hWb
  go_loopw [5] (fun _ wr => ∃ (n : Nat) (envq : Env) (sq : Ms) (ovq : Value), Hid (At wr B mb nb fb vb d fv ovq F sq most N envq V) ∧ most - sq.ticks < n ∧ Hid (Fr (Ss mb fb vb ov.ownBlock) w wr) ∧ Hid (RowB Wb ov.ownBlock ovq.ownBlock) ∧ w.heap.size + 1 ≤ wr.heap.size ∧ Hid (wr.heap[w.heap.size]? = some (.cells #[.string ⟨k.toArray⟩, .string ⟨m.toArray⟩, .string ⟨ek.toArray⟩, .int .i64 en, .string ⟨em.toArray⟩, .slice ad1 eks.length cap1, .slice adt t.length ct, .slice ado o.length co] 63 (0, 0))) ∧ Hid (res = loopX most ev bl n envq sq)) (fun _ wr => most - ticksOf wr mb)
  case atStart => exact ⟨N, env, s, ov, HA.out.below HBW.out, hroom, Fr.of HBW.out, RowB.refl _ _, by omega, HKW.out, HLP.out⟩
  case round =>
    obtain ⟨n, envq, sq, ovq, HAQ, hnq, HFQ, HRQ, hzq, HBQ, HLQ⟩ := hrel
    have hlowq : Below B w wr := HFQ.out.lowS HA.out.mach hBf hBv
    have hobq : ovq.ownBlock ≠ some w.heap.size := HRQ.out.ne (by omega) HRW.out
    have f0 : wr.cell? ⟨fb, 0, none⟩ = some (.pointer (some ⟨mb, 0, none⟩)) := cell_of_blk HAQ.out.fram.blk 0
    have HRQw := hidX (HRQ.out.mono (a := w) (by omega))
    have HOBQ := hidX hobq
    have htk := HAQ.out.mach.ticksOf
    have htl := HAQ.out.mach.tl
    obtain ⟨n, rfl⟩ : ∃ n', n = n' + 1 := ⟨n - 1, by omega⟩
    clear hobq
    go_wp2_with fail
    refine (tick_any HAQ.out.mach).mono ?_
    rintro e X1 ⟨hf1, h1⟩
    have hz1 := hf1.size
    have hfm1 := HAQ.out.fram.stay HAQ.out.mach HAQ.out.of hf1
    have HFS1 := hidX (show Fr (Ss mb fb vb ov.ownBlock) w X1 from HFQ.out.trans hf1 (fun i hi hs => Ss.next HRQw.out hi hs.toSs))
    have hbk1 := (hf1.block w.heap.size (by omega) (by rintro (e | e); omega; exact HOBQ.out e)).trans HBQ.out
    have hlow1 : Below B w X1 := HFS1.out.lowS HA.out.mach hBf hBv
    have HFM1 := hidX hfm1
    have HBK1 := hidX hbk1
    have HLW1 := hidX hlow1
    clear hf1 hfm1 hbk1 f0 hlowq hlow1
    by_cases ht : sq.ticks = most
    · rw [if_pos ht] at h1
      obtain ⟨he, hm1⟩ := h1
      subst he
      have HM1 := hidX hm1
      have HE2 : Hid (res = .stop .tired sq) := by unfold Hid; rw [HLQ.out, loopX, if_pos ht]
      clear hm1 HLQ ht
      go_wp2
      go_ret
      exact bto_stop HE2.out HFS1.out HRQw.out HM1.out HFM1.out
    · rw [if_neg ht] at h1
      obtain ⟨he, hm1⟩ := h1
      subst he
      have hroomq := HAQ.out.room
      have HA1 := hidX (show At X1 B mb nb fb vb d fv ovq F ⟨sq.ticks + 1, sq.out⟩ most N envq V from ⟨hm1, HFM1.out, HAQ.out.of, HAQ.out.fit, by show most - (sq.ticks + 1) < N; omega, HAQ.out.vl, HAQ.out.vn⟩)
      have hst := HLQ.out
      rw [loopX, if_neg ht] at hst
      have hox := HEVO.out envq ⟨sq.ticks + 1, sq.out⟩
      have hxc := HXC.out X1 ovq envq ⟨sq.ticks + 1, sq.out⟩ HA1.out HLW1.out
      generalize ev envq ⟨sq.ticks + 1, sq.out⟩ = rx at hst hox hxc
      have HST := hidX hst
      have HOX := hidX hox
      have HXC1 := hidX hxc
      have b2 : X1.cell? ⟨w.heap.size, 2, none⟩ = some (.string ⟨ek.toArray⟩) := cell_of_blk HBK1.out 2
      have b3 : X1.cell? ⟨w.heap.size, 3, none⟩ = some (.int .i64 en) := cell_of_blk HBK1.out 3
      have b4 : X1.cell? ⟨w.heap.size, 4, none⟩ = some (.string ⟨em.toArray⟩) := cell_of_blk HBK1.out 4
      have b5 : X1.cell? ⟨w.heap.size, 5, none⟩ = some (.slice ad1 eks.length cap1) := cell_of_blk HBK1.out 5
      clear hm1 hst hox hxc
      go_wp2_with fail
      refine HXC1.out.mono ?_
      rintro e X2 ⟨hf2, ov2, hr2, h2⟩
      have hz2 := hf2.size
      have hfm2 := HFM1.out.stay HA1.out.mach HAQ.out.of hf2
      have HFS2 := hidX (show Fr (Ss mb fb vb ov.ownBlock) w X2 from HFS1.out.trans hf2 (fun i hi hs => Ss.next HRQw.out hi hs.toSs))
      have hrW2 : RowB Wb ov.ownBlock ov2.ownBlock := HRQ.out.trans hr2 (by omega)
      have hob2 : ov2.ownBlock ≠ some w.heap.size := hrW2.ne (by omega) HRW.out
      have hof2 : ov2.ownBlock ≠ some fb := hr2.ne HFM1.out.flt HAQ.out.of
      have hbk2 := (hf2.block w.heap.size (by omega) (by rintro (e | e); omega; exact HOBQ.out e)).trans HBK1.out
      have HLW2 := hidX (show Below B w X2 from HFS2.out.lowS HA.out.mach hBf hBv)
      have HFM2 := hidX hfm2
      have HBK2 := hidX hbk2
      have HRW2 := hidX hrW2
      have HRw2 := hidX (hrW2.mono (a := w) (by omega))
      have HOB2 := hidX hob2
      have HOF2 := hidX hof2
      clear hf2 hfm2 hrW2 hob2 hof2 hbk2 b2 b3 b4 b5 hr2
      cases rx with
      | stop c s1 =>
        simp only at h2
        obtain ⟨he, hm2⟩ := h2
        subst he
        have HM2 := hidX hm2
        have HE2 : Hid (res = .stop c s1) := HST.out
        clear hm2 HST HLQ ht
        go_wp2
        go_ret
        exact bto_stop HE2.out HFS2.out HRw2.out HM2.out HFM2.out
      | val v s1 =>
        simp only at h2
        obtain ⟨he, hm2⟩ := h2
        subst he
        have hti : sq.ticks + 1 ≤ s1.ticks := HOX.out.ticks
        have HM2 := hidX hm2
        by_cases hv0 : v = 0
        · have hv0' : (v == 0) = true := by simpa using hv0
          have HE2 : Hid (res = .next envq s1) := by unfold Hid; rw [HST.out]; simp only; rw [if_pos hv0]
          clear hm2 HST HLQ ht
          subst hv0
          go_wp2
          go_ret
          exact bto_next HE2.out HFS2.out HRw2.out HM2.out HFM2.out
        · have hv0' : (v == 0) = false := by simpa using hv0
          have hst2 := HST.out
          simp only at hst2
          rw [if_neg hv0] at hst2
          have HA2 := hidX (show At X2 B mb nb fb vb d fv ov2 F s1 most N envq V from ⟨hm2, HFM2.out, HOF2.out, HAQ.out.fit, by omega, HAQ.out.vl, HAQ.out.vn⟩)
          have htc := HTC.out X2 ov2 envq s1 HA2.out HLW2.out
          have hob := HBLO.out envq s1
          have hfb := HBLF.out envq s1 HAQ.out.fit
          generalize bl envq s1 = rb at hst2 htc hob hfb
          have HST2 := hidX hst2
          have HTC1 := hidX htc
          have HOB := hidX hob
          have HFBB := hidX hfb
          have b6 : X2.cell? ⟨w.heap.size, 6, none⟩ = some (.slice adt t.length ct) := cell_of_blk HBK2.out 6
          clear hm2 HST HLQ ht hst2 htc hob hfb hv0
          go_wp2_with fail
          refine HTC1.out.mono ?_
          rintro e X3 ⟨hf3, ov3, hr3, h3⟩
          have hz3 := hf3.size
          have HFS3 := hidX (show Fr (Ss mb fb vb ov.ownBlock) w X3 from HFS2.out.trans hf3 (fun i hi hs => Ss.next HRw2.out hi hs))
          have HRW3 := hidX (show RowB Wb ov.ownBlock ov3.ownBlock from HRW2.out.trans hr3 (by omega))
          have hof3 : ov3.ownBlock ≠ some fb := hr3.ne HFM2.out.flt HOF2.out
          have hbk3 := (hf3.block w.heap.size (by omega) (by rintro (e | e | e | e); omega; omega; omega; exact HOB2.out e)).trans HBK2.out
          have HBK3 := hidX hbk3
          have HOF3 := hidX hof3
          clear hf3 hr3 hof3 hbk3 b6
          cases rb with
          | stop c s2 =>
            simp only at h3
            obtain ⟨he, hm3, env3, hF3⟩ := h3
            subst he
            have HM3 := hidX hm3
            have HF3 := hidX hF3
            have HE3 : Hid (res = .stop c s2) := HST2.out
            clear hm3 hF3 HST2
            go_wp2
            go_ret
            exact bto_stop HE3.out HFS3.out (HRW3.out.mono (by omega)) HM3.out HF3.out
          | ret v2 s2 =>
            simp only at h3
            obtain ⟨he, hm3, env3, hF3⟩ := h3
            subst he
            have HM3 := hidX hm3
            have HF3 := hidX hF3
            have HE3 : Hid (res = .ret v2 s2) := HST2.out
            clear hm3 hF3 HST2
            go_wp2
            go_ret
            exact bto_ret HE3.out HFS3.out (HRW3.out.mono (by omega)) HM3.out HF3.out
          | next env3 s2 =>
            simp only at h3
            obtain ⟨he, hm3, hF3⟩ := h3
            subst he
            have hti2 : s1.ticks ≤ s2.ticks := HOB.out.ticks
            have htk3 := hm3.ticksOf
            have htl3 := hm3.tl
            have HA3 := hidX (show At X3 B mb nb fb vb d fv ov3 F s2 most N env3 V from ⟨hm3, hF3, HOF3.out, HFBB.out, by omega, HAQ.out.vl, HAQ.out.vn⟩)
            have HE3 : Hid (res = loopX most ev bl n env3 s2) := HST2.out
            clear hm3 hF3 HST2
            go_wp2
            go_roundw
            case rel => exact ⟨n, env3, s2, ov3, HA3.out, by omega, HFS3.out, HRW3.out, by omega, HBK3.out, HE3.out⟩
            case measure => rw [htk3, htk]; omega
mutual
theorem st_any {F : List Fu} {most N : Nat} (hP : WfP F) (hC : CallT F most N) : ∀ x : Sm, StT F most N x
  | .mk k m e t o => st_mk hP k m e t o (ex_any hP hC e) (bl_list hP t (sts_any hP hC t)) (bl_list hP o (sts_any hP hC o)) (wh_mk hP k m e t o (ex_any hP hC e) (bl_list hP t (sts_any hP hC t)))
theorem sts_any {F : List Fu} {most N : Nat} (hP : WfP F) (hC : CallT F most N) : ∀ l : List Sm, ∀ x ∈ l, StT F most N x
  | [], _, h => absurd h (by simp)
  | e :: r, x, h => by
    rcases List.mem_cons.1 h with h | h
    · rw [h]; exact st_any hP hC e
    · exact sts_any hP hC r x h
end
theorem bl_any {F : List Fu} {most N : Nat} (hP : WfP F) (hC : CallT F most N) (l : List Sm) : BlT F most N l := bl_list hP l (sts_any hP hC l)
end Go.Proofs.YtcebpmaggnephacGreatDoor

/-
  Our own: package run: a call.
-/
namespace Go.Proofs.YtcebpmaggnephacGreatDoor
open Go.RowKit Go.Maps

theorem setE_comm {env : Env} {p q : List UInt8} (h : p ≠ q) (a b : Int) : setE (setE env p a) q b = setE (setE env q b) p a := by
  funext x
  unfold setE
  by_cases h1 : x = q
  · rw [if_pos h1, if_neg (fun e => h (e.symm.trans h1)), if_pos h1]
  · rw [if_neg h1]
    split
    · rfl
    · rfl
theorem bind_snoc : ∀ (ps : List (List UInt8)) (l : List Int) (p : List UInt8) (a : Int), ps.length = l.length → p ∉ ps → bindE (ps ++ [p]) (l ++ [a]) = setE (bindE ps l) p a
  | [], [], p, a, _, _ => rfl
  | [], _ :: _, _, _, h, _ => by simp at h
  | _ :: _, [], _, _, h, _ => by simp at h
  | q :: r, b :: l, p, a, h, hn => by
    have e1 := bind_snoc r l p a (by simpa using h) (fun hx => hn (by simp [hx]))
    show setE (bindE (r ++ [p]) (l ++ [a])) q b = setE (setE (bindE r l) q b) p a
    rw [e1, setE_comm (fun e => hn (by simp [e]))]
theorem three_cellsR {w : World} {b : Nat} {x0 x1 x2 : Value} {t : TypeId} (h : w.heap[b]? = some (.cells #[x0, x1, x2] t (0, 0))) (u0 u1 u2 : Value) : (((w.setCell ⟨b, 0, none⟩ u0).setCell ⟨b, 1, none⟩ u1).setCell ⟨b, 2, none⟩ u2).heap[b]? = some (.cells #[u0, u1, u2] t (0, 0)) := by
  have h2 := blk_setCell (blk_setCell (blk_setCell h 0 u0) 1 u1) 2 u2
  simpa using h2
set_option maxRecDepth 100000 in
set_option maxHeartbeats 8000000 in
theorem call_step {F : List Fu} {most N : Nat} (hP : WfP F) (hL : ∀ f ∈ F, LowF f) (hF : F.length ≤ 10) (hC : CallT F most N) : CallT F most (N + 1) := by
  intro w B mb nb d fv ov argv s m args hM hfn h64 hml20 hN hX
  obtain ⟨ad, cap, rfl⟩ := hX.is
  obtain ⟨f, hfm, hnm, hpl⟩ := hfn
  obtain ⟨j, hj, rfl⟩ := List.mem_iff_getElem.1 hfm
  have hfo : funOf F m = F[j] := by rw [← hnm]; exact funOf_at hP hj
  have hwf := hP.funs _ hfm
  have hlf := hL _ hfm
  have hbl := bl_any hP hC F[j].body
  have hbody := hwf.body
  have hmlt := hM.mlt
  have hnlt := hM.nums.lt
  have hBm := hM.hp
  have hBn := hM.hn
  have hml := hM.ml
  have htl := hM.tl
  have hdl := hM.dl
  have hdl' : (d : Int) ≤ 40 := by omega
  have hjF : (j : Int) < (F.length : Int) := by omega
  have hF' : (F.length : Int) ≤ 10 := by omega
  obtain ⟨fx, hfr, hfk⟩ := hM.fs
  obtain ⟨adf, cf, rfl⟩ := hfr.is
  generalize hres : callX runOps most F (N + 1) d m args s = res
  have HRES := hidX hres
  have HM := hidX hM
  have HX := hidX hX
  have FR := hidX hfr
  have FK := hidX hfk
  have HBL := hidX hbl
  have H64 := hidX h64
  have HFO := hidX hfo
  have HWF := hidX hwf
  have HLF := hidX hlf
  have HNM := hidX hnm
  have HPL := hidX hpl
  clear hM hX hfr hfk hbl h64 hfo hwf hlf hres hL hfm hC hbody hnm hpl
  go_enter Tryz.func25, Tryz.ntmps25
  go_wp2_with fail
  refine (tick_any HM.out).mono ?_
  rintro e X1 ⟨hf1, h1⟩
  have hz1 := hf1.size
  have HF1 := hidX hf1
  clear hf1
  by_cases ht : s.ticks = most
  · rw [if_pos ht] at h1
    obtain ⟨he, hm1⟩ := h1
    subst he
    have HM1 := hidX hm1
    have HE2 : Hid (res = .stop .tired s) := by unfold Hid; rw [← HRES.out, callX, if_pos ht]
    clear hm1 ht
    go_wp2
    exact bodyPost_ret (v := .tuple #[.int .i64 0, .bool false]) (by simp [results, Tryz.results25, go_sem]) rfl (vto_stop HE2.out HF1.out (RowB.refl _ _) HM1.out)
  · rw [if_neg ht] at h1
    obtain ⟨he, hm1⟩ := h1
    subst he
    have HM1 := hidX hm1
    have c7 : X1.cell? ⟨mb, 7, none⟩ = some (.int .i64 (d : Int)) := cell_of_blk hm1.blk 7
    by_cases hd : d = 40
    · have hd' : ((d : Int) == 40) = true := by simp; omega
      have HE2 : Hid (res = .stop .deep ⟨s.ticks + 1, s.out⟩) := by unfold Hid; rw [← HRES.out, callX, if_neg ht, if_pos hd]
      clear hm1 ht
      subst hd
      go_wp2_with fail
      refine (stop_any HM1.out (howS .deep)).mono ?_
      rintro e X2 ⟨rfl, hm2, hf2⟩
      have HM2 := hidX hm2
      have HF2 := hidX (show Fr (Sx mb ov.ownBlock) w X2 from HF1.out.trans hf2 (fun _ _ h => h))
      clear hm2 hf2
      go_wp2
      exact bodyPost_ret (v := .tuple #[.int .i64 0, .bool false]) (by simp [results, Tryz.results25, go_sem]) rfl (vto_stop HE2.out HF2.out (RowB.refl _ _) HM2.out)
    · have hd' : ((d : Int) == 40) = false := by simp; omega
      have HDN : Hid (d + 1 ≤ 40) := by unfold Hid; omega
      have HTN := hidX ht
      have HE1 : Hid (res = match blockX runOps most (callX runOps most F N (d + 1)) N F[j].body (bindE F[j].params args) ⟨s.ticks + 1, s.out⟩ with | .stop c s => .stop c s | .ret v s => .val v s | .next _ s => .val 0 s) := by
        unfold Hid
        rw [← HRES.out, callX, if_neg ht, if_neg hd, HFO.out]
        cases blockX runOps most (callX runOps most F N (d + 1)) N F[j].body (bindE F[j].params args) ⟨s.ticks + 1, s.out⟩ <;> rfl
      have hlow1 : Below B w X1 := HF1.out.lowX HM.out
      have c4 : X1.cell? ⟨mb, 4, none⟩ = some (.slice adf F.length cf) := cell_of_blk hm1.blk 4
      have c5 : X1.cell? ⟨mb, 5, none⟩ = some (.map (some nb)) := cell_of_blk hm1.blk 5
      have hlk : ∀ n, (Instr.lookup 69 (.map (some nb)) (.string ⟨m.toArray⟩) false).run Tryz.prog (X1.drewN n) = .ok (.int .i64 (j : Int)) (X1.drewN n) := fun n => by
        have := look_num hm1.nums hP hj (by rw [HNM.out]; omega) (X1.drewN n) rfl
        rw [HNM.out] at this
        exact this
      have hlk0 : (Instr.lookup 69 (.map (some nb)) (.string ⟨m.toArray⟩) false).run Tryz.prog X1.drew = .ok (.int .i64 (j : Int)) X1.drew := hlk 1
      obtain ⟨fa, q1, q2⟩ := FK.out.at hj
      obtain ⟨gf, off, rfl, hgf, g1⟩ := FR.out.el 3 hj q2
      obtain ⟨pv, bv, bs, rfl, r2, r3, r4⟩ := q1
      obtain ⟨adp, cp, rfl⟩ := r2.is
      obtain ⟨adb, cb, rfl⟩ := r3.is
      have a0 := (hlow1.cell (p := ⟨gf, _, none⟩) hgf).trans (g1 0 _ (by decide) rfl)
      have a1 := (hlow1.cell (p := ⟨gf, _, none⟩) hgf).trans (g1 1 _ (by decide) rfl)
      have a2 := (hlow1.cell (p := ⟨gf, _, none⟩) hgf).trans (g1 2 _ (by decide) rfl)
      rw [Nat.add_zero] at a0
      simp only [← Nat.add_assoc] at a0 a1 a2
      have hbz : Below X1.heap.size X1 (X1.alloc (.cells #[.string ⟨#[]⟩, .slice none 0 0, .slice none 0 0] 65)) := box_blk _ _ _
      have hgf1 : gf < X1.heap.size := by have := hm1.mlt; omega
      have z4 := (hbz.cell (p := ⟨mb, 4, none⟩) hm1.mlt).trans c4
      have z5 := (hbz.cell (p := ⟨mb, 5, none⟩) hm1.mlt).trans c5
      have y0 := (hbz.cell (p := ⟨gf, _, none⟩) hgf1).trans a0
      have y1 := (hbz.cell (p := ⟨gf, _, none⟩) hgf1).trans a1
      have y2 := (hbz.cell (p := ⟨gf, _, none⟩) hgf1).trans a2
      have hlkz : (Instr.lookup 69 (.map (some nb)) (.string ⟨m.toArray⟩) false).run Tryz.prog (X1.alloc (.cells #[.string ⟨#[]⟩, .slice none 0 0, .slice none 0 0] 65)).drew = .ok (.int .i64 (j : Int)) (X1.alloc (.cells #[.string ⟨#[]⟩, .slice none 0 0, .slice none 0 0] 65)).drew := by
        have := look_num hm1.nums hP hj (by rw [HNM.out]; omega) (X1.alloc (.cells #[.string ⟨#[]⟩, .slice none 0 0, .slice none 0 0] 65)).drew (hbz.block nb hm1.nums.lt)
        rw [HNM.out] at this
        exact this
      have hmm := @run_makeMap Tryz.prog
      clear hm1 ht hd g1 q2 hbz
      go_wp2_with fail
      apply reg_cut (R := fun W => Below X1.heap.size X1 W ∧ W.heap.size = X1.heap.size + 1 ∧ W.heap[X1.heap.size]? = some (.cells #[.string ⟨F[j].name.toArray⟩, .slice adp F[j].params.length cp, .slice adb F[j].body.length cb] 65 (0, 0)))
      · go_region
        all_goals exact ⟨rfl, by (repeat (first | exact Below.refl _ _ | assumption | refine Below.drew ?_ | refine Below.trans ?_ (drewN_below' _ _ _) | refine Below.setCell ?_ (by first | (simp; done) | (simp; omega)) _ | refine Below.alloc ?_ (by first | (simp; done) | (simp; omega)) _)), by first | (simp; done) | (simp [World.setCell]; done), by first | exact heap_alloc_new _ _ | exact three_cellsR (heap_alloc_new _ _) _ _ _⟩
      · rintro W ⟨hbW, hzW, hkW⟩
        clear z4 z5 y0 y1 y2 hlk hlk0 hlkz a0 a1 a2 c4 c5 c7
        have hm1W := HM1.out.below hbW
        have HM1W := hidX hm1W
        have HKW := hidX hkW
        obtain ⟨Wf, hWf⟩ : ∃ Wf, Wf = (W.alloc (.map #[] 0)).alloc (.cells #[.pointer (some ⟨mb, 0, none⟩), .map (some W.heap.size), .int .i64 0] 130) := ⟨_, rfl⟩
        have hbF : Below W.heap.size W Wf := by rw [hWf]; (repeat (first | exact Below.refl _ _ | assumption | refine Below.drew ?_ | refine Below.trans ?_ (drewN_below' _ _ _) | refine Below.setCell ?_ (by first | (simp; done) | (simp; omega)) _ | refine Below.alloc ?_ (by first | (simp; done) | (simp; omega)) _))
        have hzF : Wf.heap.size = W.heap.size + 2 := by rw [hWf]; simp
        have hmF : EnvAt Wf W.heap.size (fun _ => 0) (varsF F[j]) := by
          rw [hWf]
          exact (envAt_made W _).keep (Below.heap_alloc _ _ _ (by simp))
        have hfF : Wf.heap[W.heap.size + 1]? = some (.cells #[.pointer (some ⟨mb, 0, none⟩), .map (some W.heap.size), .int .i64 0] 130 (0, 0)) := by
          rw [hWf]
          have := heap_alloc_new (W.alloc (.map #[] 0)) (.cells #[.pointer (some ⟨mb, 0, none⟩), .map (some W.heap.size), .int .i64 0] 130)
          simpa using this
        have HBF := hidX hbF
        have HMF := hidX hmF
        have HFF := hidX hfF
        have d1 : Wf.cell? ⟨X1.heap.size, 1, none⟩ = some (.slice adp F[j].params.length cp) := cell_of_blk ((hbF.block X1.heap.size (by omega)).trans hkW) 1
        have hkF := (hbF.block X1.heap.size (by omega)).trans hkW
        have HKF := hidX hkF
        rw [hWf] at d1
        have hpl5 : F[j].params.length ≤ 8 := HLF.out.2.1
        have hpl5' : (F[j].params.length : Int) ≤ 8 := by omega
        have HZW := hidX hzW
        have HZF := hidX hzF
        have hlowW : Below B w Wf := hlow1.trans ((bl_trans hbW hbW.size hbF).mono (by have := HM1.out.mlt; omega))
        have hargs : XRow (fun b => b < W.heap.size) Wf (.slice ad args.length cap) args.length (intsC args) := HX.out.imp (fun b hb => by have := hb.1; omega) (fun b hb => by
          rw [hbF.block b (by have := hb.1; omega), hbW.block b (by have := hb.1; omega), HF1.out.block b hb.1 (by
            rintro (e | e)
            · exact hb.2.1 e
            · exact hb.2.2 e)])
        have HAR := hidX hargs
        have HLW := hidX hlowW
        have HPP := hidX (r2.imp (fun _ h => h) (fun b hb => hlowW.block b hb))
        have HBX : Hid (XLS (fun b => b < B) Wf (.slice adb F[j].body.length cb) F[j].body) := ⟨bs, r3.imp (fun _ h => h) (fun b hb => hlowW.block b hb), XSs.imp (fun _ h => h) (fun b hb => hlowW.block b hb) _ _ r4⟩
        have HNB := hidX (show nb < X1.heap.size from HM1.out.nums.lt)
        have HMB := hidX (show mb < X1.heap.size from HM1.out.mlt)
        clear hm1W hkW hbF hmF hfF hzW hzF hkF hlowW hargs r2 r3 r4 hlow1
        go_wp2_with fail
        rw [← hWf]
        clear hWf d1
        go_loopw [41] (fun vi wr => ∃ q : Nat, q ≤ F[j].params.length ∧ vi = .int .i64 q ∧ Hid (Fr (fun b => b = W.heap.size) Wf wr) ∧ Hid (EnvAt wr W.heap.size (bindE (F[j].params.take q) (args.take q)) (varsF F[j]))) (fun vi _ => F[j].params.length - (intOf vi).toNat)
        case atStart => exact ⟨0, Nat.zero_le _, rfl, Fr.refl _ _, by unfold Hid; rw [List.take_zero, List.take_zero]; exact HMF.out⟩
        case round =>
          obtain ⟨q, hq, rfl, HFQ, HEQ⟩ := hrel
          have hzF : W.heap.size + 2 ≤ Wf.heap.size := by have := HZF.out; omega
          have hzW : X1.heap.size < W.heap.size := by have := HZW.out; omega
          have hmb := HMB.out
          have hnb := HNB.out
          have hzq := HFQ.out.size
          have f1 : wr.cell? ⟨W.heap.size + 1, 1, none⟩ = some (.map (some W.heap.size)) := cell_of_blk ((HFQ.out.block (W.heap.size + 1) (by omega) (by omega)).trans HFF.out) 1
          by_cases hlt : q < F[j].params.length
          · have hlt' : (q : Int) < (F[j].params.length : Int) := by omega
            have hqa : q < args.length := by rw [← HPL.out]; exact hlt
            have hqa' : (q : Int) < (args.length : Int) := by omega
            obtain ⟨gp, offp, rfl, hgp, htp0⟩ := HPP.out.text hlt
            have htp : wr.cell? ⟨gp, offp + q, none⟩ = some (.string ⟨F[j].params[q].toArray⟩) := (World.cell?_of_block (w := Wf) (a := ⟨gp, _, none⟩) (HFQ.out.block gp (by omega) (by omega))).trans htp0
            obtain ⟨ga, offa, rfl, _, hga, hca⟩ := HAR.out.get (by omega)
            have hta : wr.cell? ⟨ga, offa + q, none⟩ = some (.int .i64 args[q]) := (World.cell?_of_block (w := Wf) (a := ⟨ga, _, none⟩) (HFQ.out.block ga (by omega) (by omega))).trans (hca q _ (by simp [intsC, hqa]))
            have hmV : F[j].params[q] ∈ varsF F[j] := List.mem_append_left _ (List.getElem_mem hlt)
            have hlp := HLF.out.2.2.1 _ (List.getElem_mem hlt)
            have hav := H64.out _ (List.getElem_mem hqa)
            obtain ⟨up, hup⟩ := Classical.axiomOfChoice (fun n => env_put HEQ.out HWF.out.fit.2 hmV (by omega) hav (wr.drewN n) rfl)
            have hnd : F[j].params[q] ∉ F[j].params.take q := by
              have h1 : F[j].params.Nodup := (List.nodup_append.1 HWF.out.fit.1).1
              intro hm
              obtain ⟨i, hi, e⟩ := List.mem_take_iff_getElem.1 hm
              exact List.pairwise_iff_getElem.1 h1 i q (by omega) hlt (by omega) e
            have hbs : bindE (F[j].params.take (q + 1)) (args.take (q + 1)) = setE (bindE (F[j].params.take q) (args.take q)) F[j].params[q] args[q] := by
              rw [List.take_succ_eq_append_getElem hlt, List.take_succ_eq_append_getElem hqa]
              exact bind_snoc _ _ _ _ (by rw [List.length_take, List.length_take]; omega) hnd
            generalize F[j].params[q] = pq at htp hup hbs hlp
            generalize args[q] = aq at hta hup hbs hav
            have hu1 : ∀ n, (Instr.mapUpdate 69 (.map (some W.heap.size)) (.string ⟨pq.toArray⟩) (.int .i64 aq)).run Tryz.prog (wr.drewN n) = .ok () (up n) := fun n => (hup n).1
            have hu0 : (Instr.mapUpdate 69 (.map (some W.heap.size)) (.string ⟨pq.toArray⟩) (.int .i64 aq)).run Tryz.prog wr.drew = .ok () (up 1) := hu1 1
            have hfin : ∀ n, Fr (fun b => b = W.heap.size) Wf (up n) ∧ EnvAt (up n) W.heap.size (bindE (F[j].params.take (q + 1)) (args.take (q + 1))) (varsF F[j]) := fun n => by
              obtain ⟨_, hev, hg⟩ := hup n
              have hd : ∀ b : Nat, (wr.drewN n).heap[b]? = wr.heap[b]? := fun b => rfl
              have hds : (wr.drewN n).heap.size = wr.heap.size := rfl
              refine ⟨HFQ.out.trans (T := fun b => b = W.heap.size) ⟨hg.os, hg.tape, hg.output, by rw [← hds]; exact hg.size, fun b hb hs => (hg.block b (by rw [hds]; exact hb) (fun e => hs (by injection e))).trans (hd b)⟩ (fun _ _ h => h), by rw [hbs]; exact hev⟩
            have HFIN := hidX hfin
            clear hup hbs hnd hmV hfin htp0 hca hgp hga
            go_wp2_with fail
            apply reg_cut (R := fun W' => ∃ n, W' = up n)
            · go_region
              all_goals exact ⟨rfl, _, rfl⟩
            · rintro W' ⟨n, rfl⟩
              obtain ⟨hfn, hen⟩ := HFIN.out n
              have HFN := hidX hfn
              have HEN := hidX hen
              clear hfn hen hu1 hu0 htp hta f1
              go_wp2
              go_roundw
              case rel => exact ⟨q + 1, by omega, by go_num, HFN.out, HEN.out⟩
              case measure => simp [intOf]; omega
          · have hqn : q = F[j].params.length := by omega
            subst hqn
            have hev := HEQ.out
            rw [List.take_length, show args.take F[j].params.length = args by rw [HPL.out, List.take_length]] at hev
            have HEV := hidX hev
            have hkb : wr.heap[W.heap.size + 1]? = some (.cells #[.pointer (some ⟨mb, 0, none⟩), .map (some W.heap.size), .int .i64 0] 130 (0, 0)) := (HFQ.out.block (W.heap.size + 1) (by omega) (by omega)).trans HFF.out
            have hkx : wr.heap[X1.heap.size]? = _ := (HFQ.out.block X1.heap.size (by omega) (by omega)).trans HKF.out
            have hm3 : Mach wr B mb nb (.slice (some ⟨gf, off, none⟩) F.length cf) ov F [] ⟨s.ticks + 1, s.out⟩ most d := (HM1W.out.below HBF.out).far (b := W.heap.size) (fun c hc hne => HFQ.out.block c hc hne) (by omega) (by omega) (by omega) (fun e => by have := (HM1W.out.own.lt _ e).2; omega)
            have c7 : wr.cell? ⟨mb, 7, none⟩ = some (.int .i64 (d : Int)) := cell_of_blk hm3.blk 7
            have f7 := free_of_blk hm3.blk 7
            have hdd : d + 1 ≤ 40 := HDN.out
            obtain ⟨hm4, hf4⟩ := hm3.put (j := 7) (u := .int .i64 ((d : Int) + 1)) (how' := []) (s' := ⟨s.ticks + 1, s.out⟩) (d' := d + 1) rfl hm3.tl hdd (by simp)
            have HM4 := hidX hm4
            have HF4 := hidX hf4
            have HKB := hidX hkb
            have HKX := hidX hkx
            clear hev HEQ hkb hkx hm3 hm4 hf4 f1
            have HT0 := HTN.out
            have hoth4 : ∀ c, c ≠ mb → (wr.setCell ⟨mb, 7, none⟩ (.int .i64 ((d : Int) + 1))).heap[c]? = wr.heap[c]? := fun c hc => Below.heap_setCell _ _ _ _ (show c ≠ mb from hc)
            have hz4 : (wr.setCell ⟨mb, 7, none⟩ (.int .i64 ((d : Int) + 1))).heap.size = wr.heap.size := by simp only [World.setCell, Array.size_modify]
            have hfr4 : Fram (wr.setCell ⟨mb, 7, none⟩ (.int .i64 ((d : Int) + 1))) B mb (W.heap.size + 1) W.heap.size (bindE F[j].params args) (varsF F[j]) 0 := ⟨by omega, by omega, by omega, (hoth4 _ (by omega)).trans HKB.out, HEV.out.keep (hoth4 _ (by omega))⟩
            have hrow : ∀ b, X1.heap.size ≤ b → ov.ownBlock ≠ some b := fun b hb e => by have := (HM1.out.own.lt b e).2; omega
            have hAt : At (wr.setCell ⟨mb, 7, none⟩ (.int .i64 ((d : Int) + 1))) B mb nb (W.heap.size + 1) W.heap.size (d + 1) (.slice (some ⟨gf, off, none⟩) F.length cf) ov F ⟨s.ticks + 1, s.out⟩ most N (bindE F[j].params args) (varsF F[j]) := ⟨HM4.out, hfr4, hrow _ (by omega), fits_bind _ _ H64.out, by show most - (s.ticks + 1) < N; omega, HWF.out.fit.2, by omega⟩
            have hB4 : ∀ b, b < B → (wr.setCell ⟨mb, 7, none⟩ (.int .i64 ((d : Int) + 1))).heap[b]? = Wf.heap[b]? := fun b hb => (hoth4 b (by omega)).trans (HFQ.out.block b (by omega) (by omega))
            have hblc := HBL.out _ B mb nb (W.heap.size + 1) W.heap.size (d + 1) _ ov _ _ _ _ hAt (XLS.imp HBX.out (fun _ h => h) (fun b hb => hB4 b hb)) HLF.out.2.2.2.1 HLF.out.2.2.2.2 HWF.out.body
            have hfrA : Fr (Sx mb ov.ownBlock) w (wr.setCell ⟨mb, 7, none⟩ (.int .i64 ((d : Int) + 1))) := by
              refine HF1.out.trans (T := Sx mb ov.ownBlock) ?_ (fun _ _ h => h)
              refine ⟨HFQ.out.os.trans (HBF.out.os.trans hbW.os), HFQ.out.tape.trans (HBF.out.tape.trans hbW.tape), HFQ.out.output.trans (HBF.out.output.trans hbW.output), by rw [hz4]; omega, fun b hb hs => ?_⟩
              rw [hoth4 b (fun e => hs (Or.inl e)), HFQ.out.block b (by omega) (by omega), HBF.out.block b (by omega), hbW.block b hb]
            have b2 : (wr.setCell ⟨mb, 7, none⟩ (.int .i64 ((d : Int) + 1))).cell? ⟨X1.heap.size, 2, none⟩ = some (.slice adb F[j].body.length cb) := cell_of_blk ((hoth4 _ (by omega)).trans HKX.out) 2
            have HBC := hidX hblc
            have HFA := hidX hfrA
            have hz4' : wr.heap.size ≤ (wr.setCell ⟨mb, 7, none⟩ (.int .i64 ((d : Int) + 1))).heap.size := by omega
            have HZ4 := hidX hz4'
            have HRO := hidX hrow
            clear hoth4 hz4 hfr4 hAt hB4 hblc hfrA hrow hz4'
            go_wp2_with fail
            refine HBC.out.mono ?_
            rintro e X5 ⟨hf5, ov5, hr5, h5⟩
            have hz45 := HZ4.out
            have hz5 := hf5.size
            have HF5 := hidX (show Fr (Sx mb ov.ownBlock) w X5 from HFA.out.trans hf5 (fun i hi hs => by
              rcases hs with h | h | h | h
              · exact Or.inl h
              · omega
              · omega
              · exact Or.inr h))
            have HR5 := hidX (hr5.mono (a := w) (by omega))
            clear hf5 hr5 b2
            generalize hbx : blockX runOps most (callX runOps most F N (d + 1)) N F[j].body (bindE F[j].params args) ⟨s.ticks + 1, s.out⟩ = rb at h5 HE1
            clear hbx HBC
            cases rb with
            | stop c s5 =>
              simp only at h5
              obtain ⟨he, hm5, env5, hF5⟩ := h5
              have hne : (howS c).isEmpty = false := by cases c <;> rfl
              subst he
              have HE5 : Hid (res = .stop c s5) := HE1.out
              have c7 : X5.cell? ⟨mb, 7, none⟩ = some (.int .i64 ((d + 1 : Nat) : Int)) := cell_of_blk hm5.blk 7
              have f7 := free_of_blk hm5.blk 7
              obtain ⟨hm6, hf6⟩ := hm5.put (j := 7) (u := .int .i64 (d : Int)) (how' := howS c) (s' := s5) (d' := d) rfl hm5.tl (by omega) (by simp)
              have c0 : (X5.setCell ⟨mb, 7, none⟩ (.int .i64 (d : Int))).cell? ⟨mb, 0, none⟩ = some (.string ⟨(howS c : List UInt8).toArray⟩) := cell_of_blk hm6.blk 0
              have c2 : (X5.setCell ⟨mb, 7, none⟩ (.int .i64 (d : Int))).cell? ⟨W.heap.size + 1, 2, none⟩ = some (.int .i64 0) := cell_of_blk ((Below.heap_setCell _ _ _ _ (show W.heap.size + 1 ≠ mb by omega)).trans hF5.blk) 2
              have HM6 := hidX hm6
              have HF6 := hidX (show Fr (Sx mb ov.ownBlock) w (X5.setCell ⟨mb, 7, none⟩ (.int .i64 (d : Int))) from HF5.out.trans hf6 (fun i hi hs => Sx.next HR5.out hi hs))
              clear hm5 hF5 hm6 hf6 HE1
              go_wp2_with fail
              go_quiet (fail)
              go_wp2
              exact bodyPost_ret (v := .tuple #[.int .i64 0, .bool false]) (by simp [results, Tryz.results25, go_sem]) rfl (vto_stop HE5.out (HF6.out.trans (T := Sx mb ov.ownBlock) (Fr.of (by (repeat (first | exact Below.refl _ _ | assumption | refine Below.drew ?_ | refine Below.trans ?_ (drewN_below' _ _ _) | refine Below.setCell ?_ (by first | (simp; done) | (simp; omega)) _ | refine Below.alloc ?_ (by first | (simp; done) | (simp; omega)) _)))) (fun _ _ h => h)) HR5.out (HM6.out.below (by (repeat (first | exact Below.refl _ _ | assumption | refine Below.drew ?_ | refine Below.trans ?_ (drewN_below' _ _ _) | refine Below.setCell ?_ (by first | (simp; done) | (simp; omega)) _ | refine Below.alloc ?_ (by first | (simp; done) | (simp; omega)) _)))))
            | ret v s5 =>
              simp only at h5
              obtain ⟨he, hm5, env5, hF5⟩ := h5
              subst he
              have HE5 : Hid (res = .val v s5) := HE1.out
              have c7 : X5.cell? ⟨mb, 7, none⟩ = some (.int .i64 ((d + 1 : Nat) : Int)) := cell_of_blk hm5.blk 7
              have f7 := free_of_blk hm5.blk 7
              obtain ⟨hm6, hf6⟩ := hm5.put (j := 7) (u := .int .i64 (d : Int)) (how' := []) (s' := s5) (d' := d) rfl hm5.tl (by omega) (by simp)
              have c0 : (X5.setCell ⟨mb, 7, none⟩ (.int .i64 (d : Int))).cell? ⟨mb, 0, none⟩ = some (.string ⟨([] : List UInt8).toArray⟩) := cell_of_blk hm6.blk 0
              have c2 : (X5.setCell ⟨mb, 7, none⟩ (.int .i64 (d : Int))).cell? ⟨W.heap.size + 1, 2, none⟩ = some (.int .i64 v) := cell_of_blk ((Below.heap_setCell _ _ _ _ (show W.heap.size + 1 ≠ mb by omega)).trans hF5.blk) 2
              have HM6 := hidX hm6
              have HF6 := hidX (show Fr (Sx mb ov.ownBlock) w (X5.setCell ⟨mb, 7, none⟩ (.int .i64 (d : Int))) from HF5.out.trans hf6 (fun i hi hs => Sx.next HR5.out hi hs))
              clear hm5 hF5 hm6 hf6 HE1
              go_wp2_with fail
              go_quiet (fail)
              go_wp2
              exact bodyPost_ret (v := .tuple #[.int .i64 v, .bool true]) (by simp [results, Tryz.results25, go_sem]) rfl (vto_val HE5.out (HF6.out.trans (T := Sx mb ov.ownBlock) (Fr.of (by (repeat (first | exact Below.refl _ _ | assumption | refine Below.drew ?_ | refine Below.trans ?_ (drewN_below' _ _ _) | refine Below.setCell ?_ (by first | (simp; done) | (simp; omega)) _ | refine Below.alloc ?_ (by first | (simp; done) | (simp; omega)) _)))) (fun _ _ h => h)) HR5.out (HM6.out.below (by (repeat (first | exact Below.refl _ _ | assumption | refine Below.drew ?_ | refine Below.trans ?_ (drewN_below' _ _ _) | refine Below.setCell ?_ (by first | (simp; done) | (simp; omega)) _ | refine Below.alloc ?_ (by first | (simp; done) | (simp; omega)) _)))))
            | next env5 s5 =>
              simp only at h5
              obtain ⟨he, hm5, hF5⟩ := h5
              subst he
              have HE5 : Hid (res = .val 0 s5) := HE1.out
              have c7 : X5.cell? ⟨mb, 7, none⟩ = some (.int .i64 ((d + 1 : Nat) : Int)) := cell_of_blk hm5.blk 7
              have f7 := free_of_blk hm5.blk 7
              obtain ⟨hm6, hf6⟩ := hm5.put (j := 7) (u := .int .i64 (d : Int)) (how' := []) (s' := s5) (d' := d) rfl hm5.tl (by omega) (by simp)
              have c0 : (X5.setCell ⟨mb, 7, none⟩ (.int .i64 (d : Int))).cell? ⟨mb, 0, none⟩ = some (.string ⟨([] : List UInt8).toArray⟩) := cell_of_blk hm6.blk 0
              have c2 : (X5.setCell ⟨mb, 7, none⟩ (.int .i64 (d : Int))).cell? ⟨W.heap.size + 1, 2, none⟩ = some (.int .i64 0) := cell_of_blk ((Below.heap_setCell _ _ _ _ (show W.heap.size + 1 ≠ mb by omega)).trans hF5.blk) 2
              have HM6 := hidX hm6
              have HF6 := hidX (show Fr (Sx mb ov.ownBlock) w (X5.setCell ⟨mb, 7, none⟩ (.int .i64 (d : Int))) from HF5.out.trans hf6 (fun i hi hs => Sx.next HR5.out hi hs))
              clear hm5 hF5 hm6 hf6 HE1
              go_wp2_with fail
              go_quiet (fail)
              go_wp2
              exact bodyPost_ret (v := .tuple #[.int .i64 0, .bool true]) (by simp [results, Tryz.results25, go_sem]) rfl (vto_val HE5.out (HF6.out.trans (T := Sx mb ov.ownBlock) (Fr.of (by (repeat (first | exact Below.refl _ _ | assumption | refine Below.drew ?_ | refine Below.trans ?_ (drewN_below' _ _ _) | refine Below.setCell ?_ (by first | (simp; done) | (simp; omega)) _ | refine Below.alloc ?_ (by first | (simp; done) | (simp; omega)) _)))) (fun _ _ h => h)) HR5.out (HM6.out.below (by (repeat (first | exact Below.refl _ _ | assumption | refine Below.drew ?_ | refine Below.trans ?_ (drewN_below' _ _ _) | refine Below.setCell ?_ (by first | (simp; done) | (simp; omega)) _ | refine Below.alloc ?_ (by first | (simp; done) | (simp; omega)) _)))))
theorem callT_any {F : List Fu} {most : Nat} (hP : WfP F) (hL : ∀ f ∈ F, LowF f) (hF : F.length ≤ 10) : ∀ N, CallT F most N
  | 0 => fun _ _ _ _ _ _ _ _ _ _ _ _ _ _ _ h => absurd h (by omega)
  | N + 1 => call_step hP hL hF (callT_any hP hL hF N)
end Go.Proofs.YtcebpmaggnephacGreatDoor

/-
  Our own: package run: the numbers of functions by their names.
-/
namespace Go.Proofs.YtcebpmaggnephacGreatDoor
open Go.RowKit Go.Maps

set_option maxRecDepth 100000 in
set_option maxHeartbeats 2000000 in
theorem numbers_any (F : List Fu) (hP : WfP F) (hF : F.length ≤ 10) (hL : ∀ g ∈ F, LowF g) (w : World) (v : Value) (hX : XLF (InH w) w v F) :
    Calls Tryz.prog 24 #[v] w fun e w' => e = .returned (.map (some w.heap.size)) ∧ FirstAt w' w.heap.size F ∧ Below w.heap.size w w' ∧ w.heap.size < w'.heap.size := by
  obtain ⟨xs, hr, hk⟩ := hX
  obtain ⟨ad, cap, rfl⟩ := hr.is
  have hF' : (F.length : Int) ≤ 10 := by omega
  have R := hidX hr
  have KK := hidX hk
  have LL := hidX hL
  clear hr hk hL
  have hmm := @run_makeMap Tryz.prog
  go_enter Tryz.func24, Tryz.ntmps24
  go_wp2_with fail
  go_loopw [9] (fun vi wr => ∃ q : Nat, q ≤ F.length ∧ vi = .int .i64 q ∧ Below w.heap.size w wr ∧ w.heap.size < wr.heap.size ∧ FirstAt wr w.heap.size (F.take q)) (fun vi _ => F.length - (intOf vi).toNat)
  case atStart => exact ⟨0, Nat.zero_le _, rfl, by (repeat (first | exact Below.refl _ _ | assumption | refine Below.drew ?_ | refine Below.trans ?_ (drewN_below' _ _ _) | refine Below.setCell ?_ (by first | (simp; done) | (simp; omega)) _ | refine Below.alloc ?_ (by first | (simp; done) | (simp; omega)) _)), by simp, firstAt_made w⟩
  case round =>
    obtain ⟨q, hq, rfl, hbl, hz, hfr⟩ := hrel
    by_cases hlt : q < F.length
    · have hlt' : (q : Int) < (F.length : Int) := by omega
      obtain ⟨ka, e1, e2⟩ := KK.out.at hlt
      have hlow := LL.out _ (List.getElem_mem hlt)
      have htk : F.take (q + 1) = F.take q ++ [F[q]] := List.take_succ_eq_append_getElem hlt
      have hany' : ((F.take q).any fun f => f.name == F[q].name) = false := by
        rw [List.any_eq_false]
        intro f hf
        obtain ⟨i, hi, rfl⟩ := List.mem_take_iff_getElem.1 hf
        intro e
        have := hP.names q hlt i (by omega) (by simpa using e)
        omega
      generalize F[q] = x at e1 hlow htk hany'
      obtain ⟨xm, xp, xb⟩ := x
      obtain ⟨pv, bv, bs, rfl, r2, r3, r4⟩ := e1
      obtain ⟨l1, _⟩ := hlow
      simp only at r2 r3 r4 l1 e2 hany'
      obtain ⟨g, off, rfl, hg, hx⟩ := x3_at R.out hlt e2
      obtain ⟨adp, cp, rfl⟩ := r2.is
      obtain ⟨adb, cb, rfl⟩ := r3.is
      have k1 := hx.keep (hbl.block g hg)
      have a0 := k1.c0
      have a1 := k1.c1
      have a2 := k1.c2
      have HTK := hidX htk
      have hblk : (wr.alloc (.cells #[.string ⟨xm.toArray⟩, .slice adp xp.length cp, .slice adb xb.length cb] 65)).heap[w.heap.size]? = wr.heap[w.heap.size]? := Below.heap_alloc _ _ _ hz
      have HFR := hidX hfr
      have HBK := hidX hblk
      have hql : (F.take q).length = q := by rw [List.length_take]; omega
      obtain ⟨D, d1, d2, d3⟩ := hfr
      rw [hql] at d1
      have D1 := hidX d1
      have D2 := hidX d2
      have D3 := hidX d3
      have HA := hidX hany'
      have HQL := hidX hql
      have hkey := key_text xm (by omega)
      clear hx k1 r2 r3 r4 e2 htk hblk hany' d1 d2 d3 hql
      go_wp2_with (first | (at_mapUpdate; refine wpList_mapUpdate_own _ rfl _ _ _ 69 rfl 9 3 law_string Tryz.underlying69 (plainElem Tryz.prog 3) w.heap.size q D rfl (owns_block D1.out HBK.out) (by unfold maxLen; omega) _ _ (.string xm) rfl rfl hkey (.lit (.int .i64 q)) [] (plainElem_int Tryz.underlying3 (WalkArith.wf_i64 (by omega))) ?_; intro w1 hown1 hgrow1) | go_in)
      have hf2 : FirstAt w1 w.heap.size (F.take q ++ [⟨xm, xp, xb⟩]) := FirstAt.put (x := ⟨xm, xp, xb⟩) D1.out D2.out D3.out HA.out (by rw [HQL.out]; exact hown1)
      rw [← HTK.out] at hf2
      have HF2 := hidX hf2
      have hb1 : Below w.heap.size w w1 := (hbl.alloc (by omega) _).grown hgrow1 (by simp; omega) (fun j hj => by cases hj; exact Nat.le_refl _)
      have hz1 : w.heap.size < w1.heap.size := by have := hgrow1.size; simp at this; omega
      clear hown1 hgrow1 hf2 a0 a1 a2
      go_roundw
      case rel => exact ⟨q + 1, by omega, by go_num, hb1, hz1, HF2.out⟩
      case measure => simp [intOf]; omega
    · have hqn : q = F.length := by omega
      subst hqn
      rw [List.take_length] at hfr
      have HFR := hidX hfr
      clear hfr
      go_wp2
      go_ret
      exact ⟨rfl, HFR.out, hbl, hz⟩
/-- An outcome's cells. -/
def outC (how : List UInt8) (v : Int) (ov : Value) (t : Nat) : Array Value := #[.string ⟨how.toArray⟩, .int .i64 v, ov, .int .i64 (t : Int)]
def kDone : List UInt8 := [100, 111, 110, 101]
/-- What a run that is well asked comes to. -/
def RunTo (w : World) (r : Vr) (e : Ending) (w' : World) : Prop :=
  Below w.heap.size w w' ∧ ∃ ov, w'.ownsRow w.heap.size 3 1 ov r.st.out.length (intsC r.st.out) ∧ match r with
    | .stop c s => e = .returned (.tuple #[.agg (outC (howS c) 0 ov s.ticks), .nilIface])
    | .val v s => e = .returned (.tuple #[.agg (outC kDone v ov s.ticks), .nilIface])
/-- Is it well asked? -/
def AskOk (F : List Fu) (m : List UInt8) (n : Nat) : Prop := ∃ f ∈ F, f.name = m ∧ f.params.length = n
end Go.Proofs.YtcebpmaggnephacGreatDoor
