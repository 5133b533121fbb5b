/-
  Our own: package run: a call.
-/
import Derived.Test.YtcebpmaggnephacDoorRunWhile
namespace Go.Proofs.YtcebpmaggnephacDoor
open Go.RowKit Go.Maps

theorem setE_comm {env : Env} {p q : List UInt8} (h : p ≠ q) (a b : Int) : setE (setE env p a) q b = setE (setE env q b) p a := by
  funext x
  unfold setE
  by_cases h1 : x = q
  · rw [if_pos h1, if_neg (fun e => h (e.symm.trans h1)), if_pos h1]
  · rw [if_neg h1]
    split
    · rfl
    · rfl
theorem bind_snoc : ∀ (ps : List (List UInt8)) (l : List Int) (p : List UInt8) (a : Int), ps.length = l.length → p ∉ ps → bindE (ps ++ [p]) (l ++ [a]) = setE (bindE ps l) p a
  | [], [], p, a, _, _ => rfl
  | [], _ :: _, _, _, h, _ => by simp at h
  | _ :: _, [], _, _, h, _ => by simp at h
  | q :: r, b :: l, p, a, h, hn => by
    have e1 := bind_snoc r l p a (by simpa using h) (fun hx => hn (by simp [hx]))
    show setE (bindE (r ++ [p]) (l ++ [a])) q b = setE (setE (bindE r l) q b) p a
    rw [e1, setE_comm (fun e => hn (by simp [e]))]
theorem three_cellsR {w : World} {b : Nat} {x0 x1 x2 : Value} {t : TypeId} (h : w.heap[b]? = some (.cells #[x0, x1, x2] t (0, 0))) (u0 u1 u2 : Value) : (((w.setCell ⟨b, 0, none⟩ u0).setCell ⟨b, 1, none⟩ u1).setCell ⟨b, 2, none⟩ u2).heap[b]? = some (.cells #[u0, u1, u2] t (0, 0)) := by
  have h2 := blk_setCell (blk_setCell (blk_setCell h 0 u0) 1 u1) 2 u2
  simpa using h2
set_option maxRecDepth 100000 in
set_option maxHeartbeats 8000000 in
theorem call_step {F : List Fu} {most N : Nat} (hP : WfP F) (hL : ∀ f ∈ F, LowF f) (hF : F.length ≤ 10) (hC : CallT F most N) : CallT F most (N + 1) := by
  intro w B mb nb d fv ov argv s m args hM hfn h64 hml20 hN hX
  obtain ⟨ad, cap, rfl⟩ := hX.is
  obtain ⟨f, hfm, hnm, hpl⟩ := hfn
  obtain ⟨j, hj, rfl⟩ := List.mem_iff_getElem.1 hfm
  have hfo : funOf F m = F[j] := by rw [← hnm]; exact funOf_at hP hj
  have hwf := hP.funs _ hfm
  have hlf := hL _ hfm
  have hbl := bl_any hP hC F[j].body
  have hbody := hwf.body
  have hmlt := hM.mlt
  have hnlt := hM.nums.lt
  have hBm := hM.hp
  have hBn := hM.hn
  have hml := hM.ml
  have htl := hM.tl
  have hdl := hM.dl
  have hdl' : (d : Int) ≤ 40 := by omega
  have hjF : (j : Int) < (F.length : Int) := by omega
  have hF' : (F.length : Int) ≤ 10 := by omega
  obtain ⟨fx, hfr, hfk⟩ := hM.fs
  obtain ⟨adf, cf, rfl⟩ := hfr.is
  generalize hres : callX runOps most F (N + 1) d m args s = res
  have HRES := hidX hres
  have HM := hidX hM
  have HX := hidX hX
  have FR := hidX hfr
  have FK := hidX hfk
  have HBL := hidX hbl
  have H64 := hidX h64
  have HFO := hidX hfo
  have HWF := hidX hwf
  have HLF := hidX hlf
  have HNM := hidX hnm
  have HPL := hidX hpl
  clear hM hX hfr hfk hbl h64 hfo hwf hlf hres hL hfm hC hbody hnm hpl
  go_enter Tryd.func35, Tryd.ntmps35
  go_wp2_with fail
  refine (tick_any HM.out).mono ?_
  rintro e X1 ⟨hf1, h1⟩
  have hz1 := hf1.size
  have HF1 := hidX hf1
  clear hf1
  by_cases ht : s.ticks = most
  · rw [if_pos ht] at h1
    obtain ⟨he, hm1⟩ := h1
    subst he
    have HM1 := hidX hm1
    have HE2 : Hid (res = .stop .tired s) := by unfold Hid; rw [← HRES.out, callX, if_pos ht]
    clear hm1 ht
    go_wp2
    exact bodyPost_ret (v := .tuple #[.int .i64 0, .bool false]) (by simp [results, Tryd.results35, go_sem]) rfl (vto_stop HE2.out HF1.out (RowB.refl _ _) HM1.out)
  · rw [if_neg ht] at h1
    obtain ⟨he, hm1⟩ := h1
    subst he
    have HM1 := hidX hm1
    have c7 : X1.cell? ⟨mb, 7, none⟩ = some (.int .i64 (d : Int)) := cell_of_blk hm1.blk 7
    by_cases hd : d = 40
    · have hd' : ((d : Int) == 40) = true := by simp; omega
      have HE2 : Hid (res = .stop .deep ⟨s.ticks + 1, s.out⟩) := by unfold Hid; rw [← HRES.out, callX, if_neg ht, if_pos hd]
      clear hm1 ht
      subst hd
      go_wp2_with fail
      refine (stop_any HM1.out (howS .deep)).mono ?_
      rintro e X2 ⟨rfl, hm2, hf2⟩
      have HM2 := hidX hm2
      have HF2 := hidX (show Fr (Sx mb ov.ownBlock) w X2 from HF1.out.trans hf2 (fun _ _ h => h))
      clear hm2 hf2
      go_wp2
      exact bodyPost_ret (v := .tuple #[.int .i64 0, .bool false]) (by simp [results, Tryd.results35, go_sem]) rfl (vto_stop HE2.out HF2.out (RowB.refl _ _) HM2.out)
    · have hd' : ((d : Int) == 40) = false := by simp; omega
      have HDN : Hid (d + 1 ≤ 40) := by unfold Hid; omega
      have HTN := hidX ht
      have HE1 : Hid (res = match blockX runOps most (callX runOps most F N (d + 1)) N F[j].body (bindE F[j].params args) ⟨s.ticks + 1, s.out⟩ with | .stop c s => .stop c s | .ret v s => .val v s | .next _ s => .val 0 s) := by
        unfold Hid
        rw [← HRES.out, callX, if_neg ht, if_neg hd, HFO.out]
        cases blockX runOps most (callX runOps most F N (d + 1)) N F[j].body (bindE F[j].params args) ⟨s.ticks + 1, s.out⟩ <;> rfl
      have hlow1 : Below B w X1 := HF1.out.lowX HM.out
      have c4 : X1.cell? ⟨mb, 4, none⟩ = some (.slice adf F.length cf) := cell_of_blk hm1.blk 4
      have c5 : X1.cell? ⟨mb, 5, none⟩ = some (.map (some nb)) := cell_of_blk hm1.blk 5
      have hlk : ∀ n, (Instr.lookup 63 (.map (some nb)) (.string ⟨m.toArray⟩) false).run Tryd.prog (X1.drewN n) = .ok (.int .i64 (j : Int)) (X1.drewN n) := fun n => by
        have := look_num hm1.nums hP hj (by rw [HNM.out]; omega) (X1.drewN n) rfl
        rw [HNM.out] at this
        exact this
      have hlk0 : (Instr.lookup 63 (.map (some nb)) (.string ⟨m.toArray⟩) false).run Tryd.prog X1.drew = .ok (.int .i64 (j : Int)) X1.drew := hlk 1
      obtain ⟨fa, q1, q2⟩ := FK.out.at hj
      obtain ⟨gf, off, rfl, hgf, g1⟩ := FR.out.el 3 hj q2
      obtain ⟨pv, bv, bs, rfl, r2, r3, r4⟩ := q1
      obtain ⟨adp, cp, rfl⟩ := r2.is
      obtain ⟨adb, cb, rfl⟩ := r3.is
      have a0 := (hlow1.cell (p := ⟨gf, _, none⟩) hgf).trans (g1 0 _ (by decide) rfl)
      have a1 := (hlow1.cell (p := ⟨gf, _, none⟩) hgf).trans (g1 1 _ (by decide) rfl)
      have a2 := (hlow1.cell (p := ⟨gf, _, none⟩) hgf).trans (g1 2 _ (by decide) rfl)
      rw [Nat.add_zero] at a0
      simp only [← Nat.add_assoc] at a0 a1 a2
      have hbz : Below X1.heap.size X1 (X1.alloc (.cells #[.string ⟨#[]⟩, .slice none 0 0, .slice none 0 0] 37)) := box_blk _ _ _
      have hgf1 : gf < X1.heap.size := by have := hm1.mlt; omega
      have z4 := (hbz.cell (p := ⟨mb, 4, none⟩) hm1.mlt).trans c4
      have z5 := (hbz.cell (p := ⟨mb, 5, none⟩) hm1.mlt).trans c5
      have y0 := (hbz.cell (p := ⟨gf, _, none⟩) hgf1).trans a0
      have y1 := (hbz.cell (p := ⟨gf, _, none⟩) hgf1).trans a1
      have y2 := (hbz.cell (p := ⟨gf, _, none⟩) hgf1).trans a2
      have hlkz : (Instr.lookup 63 (.map (some nb)) (.string ⟨m.toArray⟩) false).run Tryd.prog (X1.alloc (.cells #[.string ⟨#[]⟩, .slice none 0 0, .slice none 0 0] 37)).drew = .ok (.int .i64 (j : Int)) (X1.alloc (.cells #[.string ⟨#[]⟩, .slice none 0 0, .slice none 0 0] 37)).drew := by
        have := look_num hm1.nums hP hj (by rw [HNM.out]; omega) (X1.alloc (.cells #[.string ⟨#[]⟩, .slice none 0 0, .slice none 0 0] 37)).drew (hbz.block nb hm1.nums.lt)
        rw [HNM.out] at this
        exact this
      have hmm := @run_makeMap Tryd.prog
      clear hm1 ht hd g1 q2 hbz
      go_wp2_with fail
      apply reg_cut (R := fun W => Below X1.heap.size X1 W ∧ W.heap.size = X1.heap.size + 1 ∧ W.heap[X1.heap.size]? = some (.cells #[.string ⟨F[j].name.toArray⟩, .slice adp F[j].params.length cp, .slice adb F[j].body.length cb] 37 (0, 0)))
      · go_region
        all_goals exact ⟨rfl, by (repeat (first | exact Below.refl _ _ | assumption | refine Below.drew ?_ | refine Below.trans ?_ (drewN_below' _ _ _) | refine Below.setCell ?_ (by first | (simp; done) | (simp; omega)) _ | refine Below.alloc ?_ (by first | (simp; done) | (simp; omega)) _)), by first | (simp; done) | (simp [World.setCell]; done), by first | exact heap_alloc_new _ _ | exact three_cellsR (heap_alloc_new _ _) _ _ _⟩
      · rintro W ⟨hbW, hzW, hkW⟩
        clear z4 z5 y0 y1 y2 hlk hlk0 hlkz a0 a1 a2 c4 c5 c7
        have hm1W := HM1.out.below hbW
        have HM1W := hidX hm1W
        have HKW := hidX hkW
        obtain ⟨Wf, hWf⟩ : ∃ Wf, Wf = (W.alloc (.map #[] 0)).alloc (.cells #[.pointer (some ⟨mb, 0, none⟩), .map (some W.heap.size), .int .i64 0] 97) := ⟨_, rfl⟩
        have hbF : Below W.heap.size W Wf := by rw [hWf]; (repeat (first | exact Below.refl _ _ | assumption | refine Below.drew ?_ | refine Below.trans ?_ (drewN_below' _ _ _) | refine Below.setCell ?_ (by first | (simp; done) | (simp; omega)) _ | refine Below.alloc ?_ (by first | (simp; done) | (simp; omega)) _))
        have hzF : Wf.heap.size = W.heap.size + 2 := by rw [hWf]; simp
        have hmF : EnvAt Wf W.heap.size (fun _ => 0) (varsF F[j]) := by
          rw [hWf]
          exact (envAt_made W _).keep (Below.heap_alloc _ _ _ (by simp))
        have hfF : Wf.heap[W.heap.size + 1]? = some (.cells #[.pointer (some ⟨mb, 0, none⟩), .map (some W.heap.size), .int .i64 0] 97 (0, 0)) := by
          rw [hWf]
          have := heap_alloc_new (W.alloc (.map #[] 0)) (.cells #[.pointer (some ⟨mb, 0, none⟩), .map (some W.heap.size), .int .i64 0] 97)
          simpa using this
        have HBF := hidX hbF
        have HMF := hidX hmF
        have HFF := hidX hfF
        have d1 : Wf.cell? ⟨X1.heap.size, 1, none⟩ = some (.slice adp F[j].params.length cp) := cell_of_blk ((hbF.block X1.heap.size (by omega)).trans hkW) 1
        have hkF := (hbF.block X1.heap.size (by omega)).trans hkW
        have HKF := hidX hkF
        rw [hWf] at d1
        have hpl5 : F[j].params.length ≤ 8 := HLF.out.2.1
        have hpl5' : (F[j].params.length : Int) ≤ 8 := by omega
        have HZW := hidX hzW
        have HZF := hidX hzF
        have hlowW : Below B w Wf := hlow1.trans ((bl_trans hbW hbW.size hbF).mono (by have := HM1.out.mlt; omega))
        have hargs : XRow (fun b => b < W.heap.size) Wf (.slice ad args.length cap) args.length (intsC args) := HX.out.imp (fun b hb => by have := hb.1; omega) (fun b hb => by
          rw [hbF.block b (by have := hb.1; omega), hbW.block b (by have := hb.1; omega), HF1.out.block b hb.1 (by
            rintro (e | e)
            · exact hb.2.1 e
            · exact hb.2.2 e)])
        have HAR := hidX hargs
        have HLW := hidX hlowW
        have HPP := hidX (r2.imp (fun _ h => h) (fun b hb => hlowW.block b hb))
        have HBX : Hid (XLS (fun b => b < B) Wf (.slice adb F[j].body.length cb) F[j].body) := ⟨bs, r3.imp (fun _ h => h) (fun b hb => hlowW.block b hb), XSs.imp (fun _ h => h) (fun b hb => hlowW.block b hb) _ _ r4⟩
        have HNB := hidX (show nb < X1.heap.size from HM1.out.nums.lt)
        have HMB := hidX (show mb < X1.heap.size from HM1.out.mlt)
        clear hm1W hkW hbF hmF hfF hzW hzF hkF hlowW hargs r2 r3 r4 hlow1
        go_wp2_with fail
        rw [← hWf]
        clear hWf d1
        go_loopw [41] (fun vi wr => ∃ q : Nat, q ≤ F[j].params.length ∧ vi = .int .i64 q ∧ Hid (Fr (fun b => b = W.heap.size) Wf wr) ∧ Hid (EnvAt wr W.heap.size (bindE (F[j].params.take q) (args.take q)) (varsF F[j]))) (fun vi _ => F[j].params.length - (intOf vi).toNat)
        case atStart => exact ⟨0, Nat.zero_le _, rfl, Fr.refl _ _, by unfold Hid; rw [List.take_zero, List.take_zero]; exact HMF.out⟩
        case round =>
          obtain ⟨q, hq, rfl, HFQ, HEQ⟩ := hrel
          have hzF : W.heap.size + 2 ≤ Wf.heap.size := by have := HZF.out; omega
          have hzW : X1.heap.size < W.heap.size := by have := HZW.out; omega
          have hmb := HMB.out
          have hnb := HNB.out
          have hzq := HFQ.out.size
          have f1 : wr.cell? ⟨W.heap.size + 1, 1, none⟩ = some (.map (some W.heap.size)) := cell_of_blk ((HFQ.out.block (W.heap.size + 1) (by omega) (by omega)).trans HFF.out) 1
          by_cases hlt : q < F[j].params.length
          · have hlt' : (q : Int) < (F[j].params.length : Int) := by omega
            have hqa : q < args.length := by rw [← HPL.out]; exact hlt
            have hqa' : (q : Int) < (args.length : Int) := by omega
            obtain ⟨gp, offp, rfl, hgp, htp0⟩ := HPP.out.text hlt
            have htp : wr.cell? ⟨gp, offp + q, none⟩ = some (.string ⟨F[j].params[q].toArray⟩) := (World.cell?_of_block (w := Wf) (a := ⟨gp, _, none⟩) (HFQ.out.block gp (by omega) (by omega))).trans htp0
            obtain ⟨ga, offa, rfl, _, hga, hca⟩ := HAR.out.get (by omega)
            have hta : wr.cell? ⟨ga, offa + q, none⟩ = some (.int .i64 args[q]) := (World.cell?_of_block (w := Wf) (a := ⟨ga, _, none⟩) (HFQ.out.block ga (by omega) (by omega))).trans (hca q _ (by simp [intsC, hqa]))
            have hmV : F[j].params[q] ∈ varsF F[j] := List.mem_append_left _ (List.getElem_mem hlt)
            have hlp := HLF.out.2.2.1 _ (List.getElem_mem hlt)
            have hav := H64.out _ (List.getElem_mem hqa)
            obtain ⟨up, hup⟩ := Classical.axiomOfChoice (fun n => env_put HEQ.out HWF.out.fit.2 hmV (by omega) hav (wr.drewN n) rfl)
            have hnd : F[j].params[q] ∉ F[j].params.take q := by
              have h1 : F[j].params.Nodup := (List.nodup_append.1 HWF.out.fit.1).1
              intro hm
              obtain ⟨i, hi, e⟩ := List.mem_take_iff_getElem.1 hm
              exact List.pairwise_iff_getElem.1 h1 i q (by omega) hlt (by omega) e
            have hbs : bindE (F[j].params.take (q + 1)) (args.take (q + 1)) = setE (bindE (F[j].params.take q) (args.take q)) F[j].params[q] args[q] := by
              rw [List.take_succ_eq_append_getElem hlt, List.take_succ_eq_append_getElem hqa]
              exact bind_snoc _ _ _ _ (by rw [List.length_take, List.length_take]; omega) hnd
            generalize F[j].params[q] = pq at htp hup hbs hlp
            generalize args[q] = aq at hta hup hbs hav
            have hu1 : ∀ n, (Instr.mapUpdate 63 (.map (some W.heap.size)) (.string ⟨pq.toArray⟩) (.int .i64 aq)).run Tryd.prog (wr.drewN n) = .ok () (up n) := fun n => (hup n).1
            have hu0 : (Instr.mapUpdate 63 (.map (some W.heap.size)) (.string ⟨pq.toArray⟩) (.int .i64 aq)).run Tryd.prog wr.drew = .ok () (up 1) := hu1 1
            have hfin : ∀ n, Fr (fun b => b = W.heap.size) Wf (up n) ∧ EnvAt (up n) W.heap.size (bindE (F[j].params.take (q + 1)) (args.take (q + 1))) (varsF F[j]) := fun n => by
              obtain ⟨_, hev, hg⟩ := hup n
              have hd : ∀ b : Nat, (wr.drewN n).heap[b]? = wr.heap[b]? := fun b => rfl
              have hds : (wr.drewN n).heap.size = wr.heap.size := rfl
              refine ⟨HFQ.out.trans (T := fun b => b = W.heap.size) ⟨hg.os, hg.tape, hg.output, by rw [← hds]; exact hg.size, fun b hb hs => (hg.block b (by rw [hds]; exact hb) (fun e => hs (by injection e))).trans (hd b)⟩ (fun _ _ h => h), by rw [hbs]; exact hev⟩
            have HFIN := hidX hfin
            clear hup hbs hnd hmV hfin htp0 hca hgp hga
            go_wp2_with fail
            apply reg_cut (R := fun W' => ∃ n, W' = up n)
            · go_region
              all_goals exact ⟨rfl, _, rfl⟩
            · rintro W' ⟨n, rfl⟩
              obtain ⟨hfn, hen⟩ := HFIN.out n
              have HFN := hidX hfn
              have HEN := hidX hen
              clear hfn hen hu1 hu0 htp hta f1
              go_wp2
              go_roundw
              case rel => exact ⟨q + 1, by omega, by go_num, HFN.out, HEN.out⟩
              case measure => simp [intOf]; omega
          · have hqn : q = F[j].params.length := by omega
            subst hqn
            have hev := HEQ.out
            rw [List.take_length, show args.take F[j].params.length = args by rw [HPL.out, List.take_length]] at hev
            have HEV := hidX hev
            have hkb : wr.heap[W.heap.size + 1]? = some (.cells #[.pointer (some ⟨mb, 0, none⟩), .map (some W.heap.size), .int .i64 0] 97 (0, 0)) := (HFQ.out.block (W.heap.size + 1) (by omega) (by omega)).trans HFF.out
            have hkx : wr.heap[X1.heap.size]? = _ := (HFQ.out.block X1.heap.size (by omega) (by omega)).trans HKF.out
            have hm3 : Mach wr B mb nb (.slice (some ⟨gf, off, none⟩) F.length cf) ov F [] ⟨s.ticks + 1, s.out⟩ most d := (HM1W.out.below HBF.out).far (b := W.heap.size) (fun c hc hne => HFQ.out.block c hc hne) (by omega) (by omega) (by omega) (fun e => by have := (HM1W.out.own.lt _ e).2; omega)
            have c7 : wr.cell? ⟨mb, 7, none⟩ = some (.int .i64 (d : Int)) := cell_of_blk hm3.blk 7
            have f7 := free_of_blk hm3.blk 7
            have hdd : d + 1 ≤ 40 := HDN.out
            obtain ⟨hm4, hf4⟩ := hm3.put (j := 7) (u := .int .i64 ((d : Int) + 1)) (how' := []) (s' := ⟨s.ticks + 1, s.out⟩) (d' := d + 1) rfl hm3.tl hdd (by simp)
            have HM4 := hidX hm4
            have HF4 := hidX hf4
            have HKB := hidX hkb
            have HKX := hidX hkx
            clear hev HEQ hkb hkx hm3 hm4 hf4 f1
            have HT0 := HTN.out
            have hoth4 : ∀ c, c ≠ mb → (wr.setCell ⟨mb, 7, none⟩ (.int .i64 ((d : Int) + 1))).heap[c]? = wr.heap[c]? := fun c hc => Below.heap_setCell _ _ _ _ (show c ≠ mb from hc)
            have hz4 : (wr.setCell ⟨mb, 7, none⟩ (.int .i64 ((d : Int) + 1))).heap.size = wr.heap.size := by simp only [World.setCell, Array.size_modify]
            have hfr4 : Fram (wr.setCell ⟨mb, 7, none⟩ (.int .i64 ((d : Int) + 1))) B mb (W.heap.size + 1) W.heap.size (bindE F[j].params args) (varsF F[j]) 0 := ⟨by omega, by omega, by omega, (hoth4 _ (by omega)).trans HKB.out, HEV.out.keep (hoth4 _ (by omega))⟩
            have hrow : ∀ b, X1.heap.size ≤ b → ov.ownBlock ≠ some b := fun b hb e => by have := (HM1.out.own.lt b e).2; omega
            have hAt : At (wr.setCell ⟨mb, 7, none⟩ (.int .i64 ((d : Int) + 1))) B mb nb (W.heap.size + 1) W.heap.size (d + 1) (.slice (some ⟨gf, off, none⟩) F.length cf) ov F ⟨s.ticks + 1, s.out⟩ most N (bindE F[j].params args) (varsF F[j]) := ⟨HM4.out, hfr4, hrow _ (by omega), fits_bind _ _ H64.out, by show most - (s.ticks + 1) < N; omega, HWF.out.fit.2, by omega⟩
            have hB4 : ∀ b, b < B → (wr.setCell ⟨mb, 7, none⟩ (.int .i64 ((d : Int) + 1))).heap[b]? = Wf.heap[b]? := fun b hb => (hoth4 b (by omega)).trans (HFQ.out.block b (by omega) (by omega))
            have hblc := HBL.out _ B mb nb (W.heap.size + 1) W.heap.size (d + 1) _ ov _ _ _ _ hAt (XLS.imp HBX.out (fun _ h => h) (fun b hb => hB4 b hb)) HLF.out.2.2.2.1 HLF.out.2.2.2.2 HWF.out.body
            have hfrA : Fr (Sx mb ov.ownBlock) w (wr.setCell ⟨mb, 7, none⟩ (.int .i64 ((d : Int) + 1))) := by
              refine HF1.out.trans (T := Sx mb ov.ownBlock) ?_ (fun _ _ h => h)
              refine ⟨HFQ.out.os.trans (HBF.out.os.trans hbW.os), HFQ.out.tape.trans (HBF.out.tape.trans hbW.tape), HFQ.out.output.trans (HBF.out.output.trans hbW.output), by rw [hz4]; omega, fun b hb hs => ?_⟩
              rw [hoth4 b (fun e => hs (Or.inl e)), HFQ.out.block b (by omega) (by omega), HBF.out.block b (by omega), hbW.block b hb]
            have b2 : (wr.setCell ⟨mb, 7, none⟩ (.int .i64 ((d : Int) + 1))).cell? ⟨X1.heap.size, 2, none⟩ = some (.slice adb F[j].body.length cb) := cell_of_blk ((hoth4 _ (by omega)).trans HKX.out) 2
            have HBC := hidX hblc
            have HFA := hidX hfrA
            have hz4' : wr.heap.size ≤ (wr.setCell ⟨mb, 7, none⟩ (.int .i64 ((d : Int) + 1))).heap.size := by omega
            have HZ4 := hidX hz4'
            have HRO := hidX hrow
            clear hoth4 hz4 hfr4 hAt hB4 hblc hfrA hrow hz4'
            go_wp2_with fail
            refine HBC.out.mono ?_
            rintro e X5 ⟨hf5, ov5, hr5, h5⟩
            have hz45 := HZ4.out
            have hz5 := hf5.size
            have HF5 := hidX (show Fr (Sx mb ov.ownBlock) w X5 from HFA.out.trans hf5 (fun i hi hs => by
              rcases hs with h | h | h | h
              · exact Or.inl h
              · omega
              · omega
              · exact Or.inr h))
            have HR5 := hidX (hr5.mono (a := w) (by omega))
            clear hf5 hr5 b2
            generalize hbx : blockX runOps most (callX runOps most F N (d + 1)) N F[j].body (bindE F[j].params args) ⟨s.ticks + 1, s.out⟩ = rb at h5 HE1
            clear hbx HBC
            cases rb with
            | stop c s5 =>
              simp only at h5
              obtain ⟨he, hm5, env5, hF5⟩ := h5
              have hne : (howS c).isEmpty = false := by cases c <;> rfl
              subst he
              have HE5 : Hid (res = .stop c s5) := HE1.out
              have c7 : X5.cell? ⟨mb, 7, none⟩ = some (.int .i64 ((d + 1 : Nat) : Int)) := cell_of_blk hm5.blk 7
              have f7 := free_of_blk hm5.blk 7
              obtain ⟨hm6, hf6⟩ := hm5.put (j := 7) (u := .int .i64 (d : Int)) (how' := howS c) (s' := s5) (d' := d) rfl hm5.tl (by omega) (by simp)
              have c0 : (X5.setCell ⟨mb, 7, none⟩ (.int .i64 (d : Int))).cell? ⟨mb, 0, none⟩ = some (.string ⟨(howS c : List UInt8).toArray⟩) := cell_of_blk hm6.blk 0
              have c2 : (X5.setCell ⟨mb, 7, none⟩ (.int .i64 (d : Int))).cell? ⟨W.heap.size + 1, 2, none⟩ = some (.int .i64 0) := cell_of_blk ((Below.heap_setCell _ _ _ _ (show W.heap.size + 1 ≠ mb by omega)).trans hF5.blk) 2
              have HM6 := hidX hm6
              have HF6 := hidX (show Fr (Sx mb ov.ownBlock) w (X5.setCell ⟨mb, 7, none⟩ (.int .i64 (d : Int))) from HF5.out.trans hf6 (fun i hi hs => Sx.next HR5.out hi hs))
              clear hm5 hF5 hm6 hf6 HE1
              go_wp2_with fail
              go_quiet (fail)
              go_wp2
              exact bodyPost_ret (v := .tuple #[.int .i64 0, .bool false]) (by simp [results, Tryd.results35, go_sem]) rfl (vto_stop HE5.out (HF6.out.trans (T := Sx mb ov.ownBlock) (Fr.of (by (repeat (first | exact Below.refl _ _ | assumption | refine Below.drew ?_ | refine Below.trans ?_ (drewN_below' _ _ _) | refine Below.setCell ?_ (by first | (simp; done) | (simp; omega)) _ | refine Below.alloc ?_ (by first | (simp; done) | (simp; omega)) _)))) (fun _ _ h => h)) HR5.out (HM6.out.below (by (repeat (first | exact Below.refl _ _ | assumption | refine Below.drew ?_ | refine Below.trans ?_ (drewN_below' _ _ _) | refine Below.setCell ?_ (by first | (simp; done) | (simp; omega)) _ | refine Below.alloc ?_ (by first | (simp; done) | (simp; omega)) _)))))
            | ret v s5 =>
              simp only at h5
              obtain ⟨he, hm5, env5, hF5⟩ := h5
              subst he
              have HE5 : Hid (res = .val v s5) := HE1.out
              have c7 : X5.cell? ⟨mb, 7, none⟩ = some (.int .i64 ((d + 1 : Nat) : Int)) := cell_of_blk hm5.blk 7
              have f7 := free_of_blk hm5.blk 7
              obtain ⟨hm6, hf6⟩ := hm5.put (j := 7) (u := .int .i64 (d : Int)) (how' := []) (s' := s5) (d' := d) rfl hm5.tl (by omega) (by simp)
              have c0 : (X5.setCell ⟨mb, 7, none⟩ (.int .i64 (d : Int))).cell? ⟨mb, 0, none⟩ = some (.string ⟨([] : List UInt8).toArray⟩) := cell_of_blk hm6.blk 0
              have c2 : (X5.setCell ⟨mb, 7, none⟩ (.int .i64 (d : Int))).cell? ⟨W.heap.size + 1, 2, none⟩ = some (.int .i64 v) := cell_of_blk ((Below.heap_setCell _ _ _ _ (show W.heap.size + 1 ≠ mb by omega)).trans hF5.blk) 2
              have HM6 := hidX hm6
              have HF6 := hidX (show Fr (Sx mb ov.ownBlock) w (X5.setCell ⟨mb, 7, none⟩ (.int .i64 (d : Int))) from HF5.out.trans hf6 (fun i hi hs => Sx.next HR5.out hi hs))
              clear hm5 hF5 hm6 hf6 HE1
              go_wp2_with fail
              go_quiet (fail)
              go_wp2
              exact bodyPost_ret (v := .tuple #[.int .i64 v, .bool true]) (by simp [results, Tryd.results35, go_sem]) rfl (vto_val HE5.out (HF6.out.trans (T := Sx mb ov.ownBlock) (Fr.of (by (repeat (first | exact Below.refl _ _ | assumption | refine Below.drew ?_ | refine Below.trans ?_ (drewN_below' _ _ _) | refine Below.setCell ?_ (by first | (simp; done) | (simp; omega)) _ | refine Below.alloc ?_ (by first | (simp; done) | (simp; omega)) _)))) (fun _ _ h => h)) HR5.out (HM6.out.below (by (repeat (first | exact Below.refl _ _ | assumption | refine Below.drew ?_ | refine Below.trans ?_ (drewN_below' _ _ _) | refine Below.setCell ?_ (by first | (simp; done) | (simp; omega)) _ | refine Below.alloc ?_ (by first | (simp; done) | (simp; omega)) _)))))
            | next env5 s5 =>
              simp only at h5
              obtain ⟨he, hm5, hF5⟩ := h5
              subst he
              have HE5 : Hid (res = .val 0 s5) := HE1.out
              have c7 : X5.cell? ⟨mb, 7, none⟩ = some (.int .i64 ((d + 1 : Nat) : Int)) := cell_of_blk hm5.blk 7
              have f7 := free_of_blk hm5.blk 7
              obtain ⟨hm6, hf6⟩ := hm5.put (j := 7) (u := .int .i64 (d : Int)) (how' := []) (s' := s5) (d' := d) rfl hm5.tl (by omega) (by simp)
              have c0 : (X5.setCell ⟨mb, 7, none⟩ (.int .i64 (d : Int))).cell? ⟨mb, 0, none⟩ = some (.string ⟨([] : List UInt8).toArray⟩) := cell_of_blk hm6.blk 0
              have c2 : (X5.setCell ⟨mb, 7, none⟩ (.int .i64 (d : Int))).cell? ⟨W.heap.size + 1, 2, none⟩ = some (.int .i64 0) := cell_of_blk ((Below.heap_setCell _ _ _ _ (show W.heap.size + 1 ≠ mb by omega)).trans hF5.blk) 2
              have HM6 := hidX hm6
              have HF6 := hidX (show Fr (Sx mb ov.ownBlock) w (X5.setCell ⟨mb, 7, none⟩ (.int .i64 (d : Int))) from HF5.out.trans hf6 (fun i hi hs => Sx.next HR5.out hi hs))
              clear hm5 hF5 hm6 hf6 HE1
              go_wp2_with fail
              go_quiet (fail)
              go_wp2
              exact bodyPost_ret (v := .tuple #[.int .i64 0, .bool true]) (by simp [results, Tryd.results35, go_sem]) rfl (vto_val HE5.out (HF6.out.trans (T := Sx mb ov.ownBlock) (Fr.of (by (repeat (first | exact Below.refl _ _ | assumption | refine Below.drew ?_ | refine Below.trans ?_ (drewN_below' _ _ _) | refine Below.setCell ?_ (by first | (simp; done) | (simp; omega)) _ | refine Below.alloc ?_ (by first | (simp; done) | (simp; omega)) _)))) (fun _ _ h => h)) HR5.out (HM6.out.below (by (repeat (first | exact Below.refl _ _ | assumption | refine Below.drew ?_ | refine Below.trans ?_ (drewN_below' _ _ _) | refine Below.setCell ?_ (by first | (simp; done) | (simp; omega)) _ | refine Below.alloc ?_ (by first | (simp; done) | (simp; omega)) _)))))
theorem callT_any {F : List Fu} {most : Nat} (hP : WfP F) (hL : ∀ f ∈ F, LowF f) (hF : F.length ≤ 10) : ∀ N, CallT F most N
  | 0 => fun _ _ _ _ _ _ _ _ _ _ _ _ _ _ _ h => absurd h (by omega)
  | N + 1 => call_step hP hL hF (callT_any hP hL hF N)
end Go.Proofs.YtcebpmaggnephacDoor
