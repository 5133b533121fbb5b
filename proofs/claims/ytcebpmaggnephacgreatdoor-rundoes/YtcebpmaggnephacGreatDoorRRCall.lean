/-
  Our own: the document's own model of a run: a body, a call, a run.
-/
import Derived.Test.YtcebpmaggnephacGreatDoorRRList
import Derived.Test.YtcebpmaggnephacGreatDoorRunEnd
import Derived.Deep.RegionHeld3
namespace Go.Proofs.YtcebpmaggnephacGreatDoor
open Go.RowKit Go.Maps

theorem nodesS_memR {l : List Sm} {s : Sm} (h : s ∈ l) : nodesM s ≤ nodesS l := by
  induction l with
  | nil => cases h
  | cons x r ih =>
    rw [nodesS]
    rcases List.mem_cons.1 h with rfl | h
    · omega
    · have := ih h; omega
theorem rbl_n {F : List Fu} {most N : Nat} {K : CallF} {d : Nat} (hP : WfP F) (hON : OnK most K) (hFK : FitK K) (hCT : RCallT F most N K d) : ∀ (n : Nat) (l : List Sm), nodesS l ≤ n → RBlT F most N K d l
  | 0, l, h => rbl_list hP hON hFK (rex_any hP hON hFK hCT) l fun k m e t o hm => by
    have := nodesS_memR hm
    rw [nodesM] at this
    omega
  | n + 1, l, h => rbl_list hP hON hFK (rex_any hP hON hFK hCT) l fun k m e t o hm => by
    have := nodesS_memR hm
    rw [nodesM] at this
    exact ⟨rbl_n hP hON hFK hCT n t (by omega), rbl_n hP hON hFK hCT n o (by omega)⟩
theorem rbl_any {F : List Fu} {most N : Nat} {K : CallF} {d : Nat} (hP : WfP F) (hON : OnK most K) (hFK : FitK K) (hCT : RCallT F most N K d) (l : List Sm) : RBlT F most N K d l := rbl_n hP hON hFK hCT _ l (Nat.le_refl _)
/-- What a body answers. -/
def bodyV : Br → Vr
  | .stop c s => .stop c s
  | .ret v s => .val v s
  | .next _ s => .val 0 s
theorem second_newB (w : World) (a b : Obj) : ((w.alloc a).alloc b).heap[w.heap.size + 1]? = some b := by
  have := heap_alloc_new (w.alloc a) b
  simpa using this
theorem row_none {w : World} {o : Option Nat} (h : RowB w none o) {b : Nat} (hb : b < w.heap.size) : o ≠ some b := h.ne hb (by simp)
set_option maxRecDepth 100000 in
set_option maxHeartbeats 8000000 in
theorem rbody_any {F : List Fu} {most N : Nat} {K : CallF} {d : Nat} (hP : WfP F) (hON : OnK most K) (hFK : FitK K) (hCT : RCallT F most N K d) (x : Fu) (hxF : WfF F x) (hL : LowF x) (hKi : KindSs x.body) (w : World) (B mb : Nat) (fv ov argv : Value) (s : Ms) (args : List Int) (cs : List Value) (hM : RM w B mb fv ov F [] s most d) (hX : XF (fun b => b < B) w x cs) (h64 : ∀ v ∈ args, In64 v) (hpl : x.params.length = args.length) (hroom : most - s.ticks < N) (hA : XRow (fun b => b < w.heap.size ∧ b ≠ mb ∧ ov.ownBlock ≠ some b) w argv args.length (intsC args)) :
    Calls Tryz.prog 63 #[.pointer (some ⟨mb, 0, none⟩), .agg cs.toArray, argv] w (RVTo w B mb fv ov F most d (bodyV (blockX runOps most K N x.body (bindE x.params args) s))) := by
  obtain ⟨xn, xp, xb⟩ := x
  obtain ⟨pv, bv, bs, rfl, r2, r3, r4⟩ := hX
  obtain ⟨l1, l2, l3, l4, l5⟩ := hL
  simp only at r2 r3 r4 l1 l2 l3 l4 l5 hKi hpl
  have hfit := hxF.fit
  have hbw := hxF.body
  simp only at hbw
  obtain ⟨adp, cp, rfl⟩ := r2.is
  obtain ⟨adb, cb, rfl⟩ := r3.is
  obtain ⟨ada, ca, rfl⟩ := hA.is
  have hpl' : (xp.length : Int) = (args.length : Int) := by omega
  have l2' : (xp.length : Int) ≤ 8 := by omega
  obtain ⟨W0, hW0⟩ : ∃ W0, W0 = (w.alloc (.cells #[.string ⟨xn.toArray⟩, .slice adp xp.length cp, .slice adb xb.length cb] 40)).alloc (.cells #[.slice none 0 0, .slice none 0 0] 197) := ⟨_, rfl⟩
  have hb0 : Below w.heap.size w W0 := by rw [hW0]; (repeat (first | exact Below.refl _ _ | assumption | refine Below.drew ?_ | refine Below.trans ?_ (drewN_below' _ _ _) | refine Below.setCell ?_ (by first | (simp; done) | (simp; omega)) _ | refine Below.alloc ?_ (by first | (simp; done) | (simp; omega)) _))
  have hs0 : W0.heap.size = w.heap.size + 2 := by rw [hW0]; simp
  have hkf : W0.heap[w.heap.size]? = some (.cells #[.string ⟨xn.toArray⟩, .slice adp xp.length cp, .slice adb xb.length cb] 40 (0, 0)) := by rw [hW0]; exact two_newR w _ _
  have hkv : W0.heap[w.heap.size + 1]? = some (.cells #[.slice none 0 0, .slice none 0 0] 197 (0, 0)) := by rw [hW0]; exact second_newB w _ _
  have hml := hM.mlt
  have hBm := hM.hp
  have hV0 : RV W0 B mb (w.heap.size + 1) (.slice none 0 0) (.slice none 0 0) (bindE (xp.take 0) (args.take 0)) (varsF ⟨xn, xp, xb⟩) [] [] := ⟨by omega, by omega, hkv, World.ownsRow_nil _ _ _ _, World.ownsRow_nil _ _ _ _, rfl, by simp, List.nodup_nil, fun m => by simp [bindE, lookE]⟩
  have HM := hidX hM
  have HA := hidX hA
  have R2 := hidX r2
  have HXB : Hid (XLS (fun b => b < B) w (.slice adb xb.length cb) xb) := ⟨bs, r3, r4⟩
  have H64 := hidX h64
  have HFIT := hidX hfit
  have HBW := hidX hbw
  have HL5 := hidX l5
  have HKI := hidX hKi
  have HB0 := hidX hb0
  have HS0 := hidX hs0
  have HKF := hidX hkf
  have HV0 := hidX hV0
  have HBL := hidX (rbl_any hP hON hFK hCT xb)
  have HPL := hidX hpl
  generalize hres : bodyV (blockX runOps most K N xb (bindE xp args) s) = res
  have HRES := hidX hres
  clear hM hA r2 r3 r4 h64 hfit hbw l5 hKi hb0 hs0 hkf hkv hV0 hxF hON hFK hCT hP hres hpl
  go_enter Tryz.func63, Tryz.ntmps63
  go_wp2_with fail
  rw [← hW0]
  clear hW0
  go_loopw [8] (fun vi wr => ∃ (q : Nat) (nvq vvq : Value) (nsq : List (List UInt8)) (vsq : List Int), q ≤ xp.length ∧ vi = .int .i64 q ∧ Hid (Below w.heap.size w wr) ∧ w.heap.size + 2 ≤ wr.heap.size ∧ Hid (wr.heap[w.heap.size]? = some (.cells #[.string ⟨xn.toArray⟩, .slice adp xp.length cp, .slice adb xb.length cb] 40 (0, 0))) ∧ Hid (RowB W0 none nvq.ownBlock) ∧ Hid (RowB W0 none vvq.ownBlock) ∧ Hid (RV wr B mb (w.heap.size + 1) nvq vvq (bindE (xp.take q) (args.take q)) (varsF ⟨xn, xp, xb⟩) nsq vsq)) (fun vi _ => xp.length - (intOf vi).toNat)
  case atStart => exact ⟨0, _, _, [], [], Nat.zero_le _, rfl, HB0.out, by rw [HS0.out]; exact Nat.le_refl _, HKF.out, Or.inl rfl, Or.inl rfl, HV0.out⟩
  case round =>
    obtain ⟨q, nvq, vvq, nsq, vsq, hq, rfl, HBQ, hzq, HKQ, HNQ, HVQ, HRV⟩ := hrel
    have x1 : wr.cell? ⟨w.heap.size, 1, none⟩ = some (.slice adp xp.length cp) := cell_of_blk HKQ.out 1
    have x2 : wr.cell? ⟨w.heap.size, 2, none⟩ = some (.slice adb xb.length cb) := cell_of_blk HKQ.out 2
    by_cases hlt : q < xp.length
    · have hlt' : (q : Int) < (xp.length : Int) := by omega
      have hqa : q < args.length := by rw [← HPL.out]; exact hlt
      have hqa' : (q : Int) < (args.length : Int) := by omega
      obtain ⟨gp, offp, rfl, hgp, htp0⟩ := R2.out.text hlt
      have htp : wr.cell? ⟨gp, offp + q, none⟩ = some (.string ⟨xp[q].toArray⟩) := (HBQ.out.cell (p := ⟨gp, _, none⟩) (show gp < w.heap.size by have : gp < B := hgp; omega)).trans htp0
      obtain ⟨ga, offa, rfl, _, hga, hca⟩ := HA.out.get (by omega)
      have hta : wr.cell? ⟨ga, offa + q, none⟩ = some (.int .i64 args[q]) := (HBQ.out.cell (p := ⟨ga, _, none⟩) hga.1).trans (hca q _ (by simp [intsC, hqa]))
      have hmV : xp[q] ∈ varsF ⟨xn, xp, xb⟩ := List.mem_append_left _ (List.getElem_mem hlt)
      have hnd : xp[q] ∉ xp.take q := by
        have h1 : xp.Nodup := (List.nodup_append.1 HFIT.out.1).1
        intro hm
        obtain ⟨i, hi, e⟩ := List.mem_take_iff_getElem.1 hm
        exact List.pairwise_iff_getElem.1 h1 i q (by omega) hlt (by omega) e
      have hbs : bindE (xp.take (q + 1)) (args.take (q + 1)) = setE (bindE (xp.take q) (args.take q)) xp[q] args[q] := by
        rw [List.take_succ_eq_append_getElem hlt, List.take_succ_eq_append_getElem hqa]
        exact bind_snoc _ _ _ _ (by rw [List.length_take, List.length_take]; omega) hnd
      have hset : ∀ X, Below wr.heap.size wr X → Calls Tryz.prog 106 #[.pointer (some ⟨w.heap.size + 1, 0, none⟩), .string ⟨xp[q].toArray⟩, .int .i64 args[q]] X fun e X2 => e = .returned (.tuple #[]) ∧ Below w.heap.size w X2 ∧ (∀ b, b < w.heap.size + 1 → X2.heap[b]? = wr.heap[b]?) ∧ w.heap.size + 2 ≤ X2.heap.size ∧ ∃ nv2 vv2 ns2 vs2, RowB W0 none nv2.ownBlock ∧ RowB W0 none vv2.ownBlock ∧ RV X2 B mb (w.heap.size + 1) nv2 vv2 (bindE (xp.take (q + 1)) (args.take (q + 1))) (varsF ⟨xn, xp, xb⟩) ns2 vs2 := fun X hX => by
        refine (rset_any (HRV.out.below hX) HFIT.out.2 _ hmV _).mono ?_
        rintro e X2 ⟨he, hf2, nv2, vv2, ns2, vs2, r1, r2, hV2⟩
        have hzX := hX.size
        have hz0 := HS0.out
        have hz2 := hf2.size
        have hkeep : ∀ b, b < w.heap.size + 1 → X2.heap[b]? = wr.heap[b]? := fun b hb => (hf2.block b (by omega) (by
          rintro (e | e | e)
          · omega
          · exact row_none HNQ.out (by omega) e
          · exact row_none HVQ.out (by omega) e)).trans (hX.block b (by omega))
        refine ⟨he, ⟨hf2.os.trans (hX.os.trans HBQ.out.os), hf2.tape.trans (hX.tape.trans HBQ.out.tape), hf2.output.trans (hX.output.trans HBQ.out.output), by omega, fun b hb => (hkeep b (by omega)).trans (HBQ.out.block b hb)⟩, hkeep, by omega, nv2, vv2, ns2, vs2, HNQ.out.trans r1 (by omega), HVQ.out.trans r2 (by omega), by rw [hbs]; exact hV2⟩
      clear hbs hnd hmV
      generalize xp[q] = pq at htp hset
      generalize args[q] = aq at hta hset
      have HSET := hidX hset
      have HS1 : Hid (wr.cell? ⟨w.heap.size, 1, none⟩ = some (.slice (some ⟨gp, offp, none⟩) xp.length cp) ∧ wr.cell? ⟨gp, offp + q, none⟩ = some (.string ⟨pq.toArray⟩) ∧ wr.cell? ⟨ga, offa + q, none⟩ = some (.int .i64 aq)) := ⟨x1, htp, hta⟩
      have HG : Hid (gp < w.heap.size ∧ ga < w.heap.size) := ⟨by have : gp < B := hgp; omega, hga.1⟩
      clear hset htp0 hca hgp hga
      go_wp2_with fail
      go_region_held3 (fun W => W.cell? ⟨w.heap.size, 1, none⟩ = some (.slice (some ⟨gp, offp, none⟩) xp.length cp) ∧ W.cell? ⟨gp, offp + q, none⟩ = some (.string ⟨pq.toArray⟩) ∧ W.cell? ⟨ga, offa + q, none⟩ = some (.int .i64 aq))
        (first | with_reducible exact s1 | exact HS1.out)
        (first | (go_at_call 106; refine (HSET.out _ (by (repeat (first | exact Below.refl _ _ | assumption | refine Below.drew ?_ | refine Below.trans ?_ (drewN_below' _ _ _) | refine Below.setCell ?_ (by first | (simp; done) | (simp; omega)) _ | refine Below.alloc ?_ (by first | (simp; done) | (simp; omega)) _)))).mono ?_; rintro e X2 ⟨rfl, hb2, hk2, hz2, nv2, vv2, ns2, vs2, r1, r2, hV2⟩; have s1 : X2.cell? ⟨w.heap.size, 1, none⟩ = some (.slice (some ⟨gp, offp, none⟩) xp.length cp) ∧ X2.cell? ⟨gp, offp + q, none⟩ = some (.string ⟨pq.toArray⟩) ∧ X2.cell? ⟨ga, offa + q, none⟩ = some (.int .i64 aq) := ⟨(World.cell?_of_block (w := wr) (a := ⟨w.heap.size, 1, none⟩) (hk2 w.heap.size (by omega))).trans HS1.out.1, (World.cell?_of_block (w := wr) (a := ⟨gp, offp + q, none⟩) (hk2 gp (by have := HG.out.1; omega))).trans HS1.out.2.1, (World.cell?_of_block (w := wr) (a := ⟨ga, offa + q, none⟩) (hk2 ga (by have := HG.out.2; omega))).trans HS1.out.2.2⟩; have HB2 := hidX hb2; have HKB2 := hidX ((hk2 w.heap.size (by omega)).trans HKQ.out); have HR1 := hidX r1; have HR2 := hidX r2; have HV2 := hidX hV2; clear hb2 hk2 r1 r2 hV2))
      all_goals (
        clear s1
        go_wp2
        go_roundw
        case rel => exact ⟨q + 1, nv2, vv2, ns2, vs2, by omega, by go_num, HB2.out, hz2, HKB2.out, HR1.out, HR2.out, HV2.out⟩
        case measure => simp [intOf]; omega)
    · have hqn : q = xp.length := by omega
      subst hqn
      have hV := HRV.out
      rw [List.take_length, show args.take xp.length = args by rw [HPL.out, List.take_length]] at hV
      have hz0 := HS0.out
      have hAt : RAt wr B mb (w.heap.size + 1) d fv ov nvq vvq F s most N (bindE xp args) (varsF ⟨xn, xp, xb⟩) nsq vsq := ⟨HM.out.below HBQ.out, hV, fun b e => row_none HVQ.out (by have := (HM.out.own.lt b e).2; omega), fits_bind _ _ H64.out, hroom, HFIT.out.2⟩
      have hblc := HBL.out wr B mb (w.heap.size + 1) fv ov nvq vvq s (bindE xp args) (varsF ⟨xn, xp, xb⟩) nsq vsq _ hAt (HXB.out.imp (fun _ h => h) (fun b hb => HBQ.out.block b (by omega))) l4 HL5.out HBW.out HKI.out
      have HBC := hidX hblc
      have hno : ∀ b, b < w.heap.size → S5 mb (w.heap.size + 1) ov.ownBlock nvq.ownBlock vvq.ownBlock b → Sx mb ov.ownBlock b := fun b hb hs => by
        rcases hs with h | h | h | h | h
        · exact Or.inl h
        · omega
        · exact Or.inr h
        · exact absurd h (row_none HNQ.out (by omega))
        · exact absurd h (row_none HVQ.out (by omega))
      have HNO := hidX hno
      clear hV hAt hblc hz0 hno
      generalize blockX runOps most K N xb (bindE xp args) s = rb at HBC HRES
      go_wp2_with fail
      refine HBC.out.mono ?_
      intro e X3 h3
      obtain ⟨av, bv, rfl, hf3, ov3, nv3, vv3, ns3, vs3, ro3, rn3, rv3, hs3, h3⟩ := rbto_tuple h3
      have HF3 := hidX (show Fr (Sx mb ov.ownBlock) w X3 from (Fr.of HBQ.out).trans hf3 (fun i hi hs => HNO.out i hi hs))
      have HR3 := hidX (ro3.mono (a := w) (by omega))
      clear hf3 ro3 rn3 rv3 hs3 x1 x2
      cases rb with
      | stop c s2 =>
        obtain ⟨he, hM3, _⟩ := h3
        injection he with he
        injection he with he
        have he1 : av = 0 ∧ bv = false := by simpa using he
        obtain ⟨rfl, rfl⟩ := he1
        have HM3 := hidX hM3
        have HE3 : Hid (res = .stop c s2) := HRES.out.symm
        clear hM3 he
        go_wp2
        go_ret
        exact rvto_stop HE3.out HF3.out HR3.out HM3.out
      | ret v2 s2 =>
        obtain ⟨he, hM3, _⟩ := h3
        injection he with he
        injection he with he
        have he1 : av = v2 ∧ bv = true := by simpa using he
        obtain ⟨rfl, rfl⟩ := he1
        have HM3 := hidX hM3
        have HE3 : Hid (res = .val av s2) := HRES.out.symm
        clear hM3 he
        go_wp2
        go_ret
        exact rvto_val HE3.out HF3.out HR3.out HM3.out
      | next env2 s2 =>
        obtain ⟨he, hM3, _⟩ := h3
        injection he with he
        injection he with he
        have he1 : av = 0 ∧ bv = false := by simpa using he
        obtain ⟨rfl, rfl⟩ := he1
        have HM3 := hidX hM3
        have HE3 : Hid (res = .val 0 s2) := HRES.out.symm
        clear hM3 he
        go_wp2
        go_ret
        exact rvto_val HE3.out HF3.out HR3.out HM3.out
theorem rcallX (O : Ops) (most : Nat) (F : List Fu) (N d : Nat) (m : List UInt8) (args : List Int) (s : Ms) (h1 : ¬ s.ticks = most) (h2 : ¬ d = 40) : callX O most F (N + 1) d m args s = bodyV (blockX O most (callX O most F N (d + 1)) N (funOf F m).body (bindE (funOf F m).params args) ⟨s.ticks + 1, s.out⟩) := by
  rw [callX, if_neg h1, if_neg h2]
  cases blockX O most (callX O most F N (d + 1)) N (funOf F m).body (bindE (funOf F m).params args) ⟨s.ticks + 1, s.out⟩ <;> rfl
set_option maxRecDepth 100000 in
set_option maxHeartbeats 2000000 in
theorem rcall_any {F : List Fu} {most : Nat} (hP : WfP F) (hL : ∀ f ∈ F, LowF f) (hKi : ∀ f ∈ F, KindSs f.body) (hF : F.length ≤ 10) : ∀ (N d : Nat), RCallT F most N (callX runOps most F N d) d
  | 0, d => fun w B mb fv ov argv s m args hM hask h64 hm hroom hA => absurd hroom (by omega)
  | N + 1, d => by
    intro w B mb fv ov argv s m args hM hask h64 hm hroom hA
    have hF' : (F.length : Int) ≤ 10 := by omega
    have hml := hM.mlt
    have hBm := hM.hp
    have hdl := hM.dl
    have htl := hM.tl
    obtain ⟨fs, hfr, hfk⟩ := hM.fs
    obtain ⟨adf, cf, rfl⟩ := hfr.is
    obtain ⟨ada, ca, rfl⟩ := hA.is
    have c3 : w.cell? ⟨mb, 3, none⟩ = some (.bool true) := cell_of_blk hM.blk 3
    have hbody := fun (x : Fu) (hx : x ∈ F) => rbody_any (F := F) (most := most) (N := N) (K := callX runOps most F N (d + 1)) (d := d + 1) hP (callX_on runOps most F N (d + 1)) (callX_fit runOps_fit most hP.funs N (d + 1)) (rcall_any hP hL hKi hF N (d + 1)) x (hP.funs x hx) (hL x hx) (hKi x hx)
    have HBO := hidX hbody
    have HP := hidX hP
    have HM := hidX hM
    have HA := hidX hA
    have H64 := hidX h64
    have HAS := hidX hask
    have R := hidX hfr
    have KK := hidX hfk
    generalize hres : callX runOps most F (N + 1) d m args s = res
    have HRES := hidX hres
    clear hbody hM hA h64 hask hfr hfk hres hP hL hKi
    go_enter Tryz.func31, Tryz.ntmps31
    go_wp2_with fail
    refine (rtick_any HM.out).mono ?_
    rintro e X1 ⟨hf1, h1⟩
    have hz1 := hf1.size
    have HF1 := hidX hf1
    have HLW := hidX (hf1.lowR HM.out)
    clear hf1 c3
    by_cases ht : s.ticks = most
    · rw [if_pos ht] at h1
      obtain ⟨he, hM1⟩ := h1
      subst he
      have HM1 := hidX hM1
      have HE : Hid (res = .stop .tired s) := by unfold Hid; rw [← HRES.out, callX, if_pos ht]
      clear hM1 ht
      go_wp2
      go_ret
      exact rvto_stop HE.out HF1.out (RowB.refl _ _) HM1.out
    · rw [if_neg ht] at h1
      obtain ⟨he, hM1⟩ := h1
      subst he
      have HM1 := hidX hM1
      have d2 : X1.cell? ⟨mb, 2, none⟩ = some (.int .i64 (d : Int)) := cell_of_blk hM1.blk 2
      have d0 : X1.cell? ⟨mb, 0, none⟩ = some (.slice adf F.length cf) := cell_of_blk hM1.blk 0
      have f2 := free_of_blk hM1.blk 2
      have f4 := free_of_blk hM1.blk 4
      have d4 : X1.cell? ⟨mb, 4, none⟩ = some (.string ⟨([] : List UInt8).toArray⟩) := hM1.howC
      have hdl' : (d : Int) ≤ 40 := by omega
      clear hM1
      by_cases hd : d = 40
      · have hd' : (40 : Int) ≤ (d : Int) := by omega
        obtain ⟨hM2, hf2⟩ := HM1.out.put (j := 4) (u := .string ⟨(howS .deep).toArray⟩) (how' := howS .deep) (s' := ⟨s.ticks + 1, s.out⟩) (d' := d) rfl HM1.out.tl HM1.out.dl (by simp)
        have HM2 := hidX hM2
        have HF2 := hidX (HF1.out.trans hf2 (fun _ _ h => h))
        have HE : Hid (res = .stop .deep ⟨s.ticks + 1, s.out⟩) := by unfold Hid; rw [← HRES.out, callX, if_neg ht, if_pos hd]
        clear hM2 hf2 ht hd
        go_wp2
        go_ret
        exact rvto_stop HE.out HF2.out (RowB.refl _ _) HM2.out
      · have hd' : ¬ (40 : Int) ≤ (d : Int) := by omega
        have HE : Hid (res = bodyV (blockX runOps most (callX runOps most F N (d + 1)) N (funOf F m).body (bindE (funOf F m).params args) ⟨s.ticks + 1, s.out⟩)) := by unfold Hid; rw [← HRES.out, rcallX _ _ _ _ _ _ _ _ ht hd]
        have hdn : d + 1 ≤ 40 := by omega
        have htn : s.ticks + 1 ≤ most := by omega
        clear ht hd HRES
        go_wp2_with fail
        go_loopw [9] (fun vi wr => ∃ q : Nat, q ≤ F.length ∧ vi = .int .i64 q ∧ wr = X1 ∧ Hid (∀ j (hj : j < F.length), j < q → F[j].name ≠ m)) (fun vi _ => F.length - (intOf vi).toNat)
        case atStart => exact ⟨0, Nat.zero_le _, rfl, rfl, fun j hj h => absurd h (by omega)⟩
        case round =>
          obtain ⟨q, hq, rfl, hwr, HQ⟩ := hrel
          subst hwr
          by_cases hlt : q < F.length
          · have hlt' : (q : Int) < (F.length : Int) := by omega
            obtain ⟨ka, e1, e2⟩ := KK.out.at hlt
            have hmem := List.getElem_mem hlt
            have hbo := HBO.out F[q] hmem
            have hfo := funOf_at HP.out hlt
            have hq2 : F[q].name ≠ m → ∀ j (hj : j < F.length), j < q + 1 → F[j].name ≠ m := fun hne j hj h => by
              by_cases e : j = q
              · subst e; exact hne
              · exact HQ.out j hj (by omega)
            have hpar : F[q].name = m → F[q].params.length = args.length := fun e => by
              obtain ⟨f, hf, h1, h2⟩ := HAS.out
              obtain ⟨i, hi, rfl⟩ := List.mem_iff_getElem.1 hf
              have := HP.out.names q hlt i hi (h1.trans e.symm)
              subst this
              exact h2
            generalize F[q] = x at e1 hbo hfo hq2 hpar hmem
            have e1' := e1
            obtain ⟨xm, xp, xb⟩ := x
            obtain ⟨pv, bv, bs, rfl, r2, r3, r4⟩ := e1
            simp only at e2 hfo hq2 hpar
            obtain ⟨g, off, rfl, hg, hx3⟩ := x3_at R.out hlt e2
            obtain ⟨adp, cp, rfl⟩ := r2.is
            obtain ⟨adb, cb, rfl⟩ := r3.is
            have k1 := hx3.keep (HLW.out.block g hg)
            have a0 := k1.c0
            have a1 := k1.c1
            have a2 := k1.c2
            by_cases hx : xm = m
            · subst hx
              have hx' : (xm == xm) = true := by simp
              obtain ⟨hM2, hf2⟩ := HM1.out.put (j := 2) (u := .int .i64 ((d : Int) + 1)) (how' := []) (s' := ⟨s.ticks + 1, s.out⟩) (d' := d + 1) rfl HM1.out.tl hdn (by simp)
              have hbc := hbo (wr.setCell ⟨mb, 2, none⟩ (.int .i64 ((d : Int) + 1))) B mb _ ov (.slice ada args.length ca) ⟨s.ticks + 1, s.out⟩ args _ hM2 (XF.imp (fun _ h => h) (fun b hb => (show _ = _ from (hf2.lowR HM1.out).block b hb).trans (HLW.out.block b hb)) _ _ e1') H64.out (hpar rfl) (by show most - (s.ticks + 1) < N; omega) (HA.out.imp (fun b hb => ⟨by have := hf2.size; omega, hb.2⟩) (fun b hb => (hf2.block b (by omega) (by rintro (e | e); exact hb.2.1 e; exact hb.2.2 e)).trans (HF1.out.block b hb.1 (by rintro (e | e); exact hb.2.1 e; exact hb.2.2 e))))
              have hE2 := HE.out
              rw [hfo] at hE2
              have HE2 := hidX hE2
              have HBC := hidX hbc
              have HF2 := hidX (HF1.out.trans hf2 (fun _ _ h => h))
              have m0 : (wr.setCell ⟨mb, 2, none⟩ (.int .i64 ((d : Int) + 1))).cell? ⟨mb, 0, none⟩ = some (.slice (some ⟨g, off, none⟩) F.length cf) := cell_of_blk hM2.blk 0
              have hgm : g < mb := by have : g < B := hg; omega
              clear hbo hfo hq2 hpar hM2 hf2 hbc hE2 k1 hx3 r2 r3 r4 e2 e1' HQ
              go_wp2_with fail
              refine HBC.out.mono ?_
              intro e X3 h3
              obtain ⟨v3, rfl, hf3, ov3, hr3, h3⟩ := rvto_int h3
              have hz3 := hf3.size
              generalize bodyV (blockX runOps most (callX runOps most F N (d + 1)) N xb (bindE xp args) ⟨s.ticks + 1, s.out⟩) = rb at h3 HE2
              have HF3 := hidX (HF2.out.trans hf3 (fun _ _ h => h))
              have HR3 := hidX (hr3.mono (a := w) (by simp only [World.setCell, Array.size_modify]; omega))
              clear hf3 hr3
              cases rb with
              | stop c s2 =>
                obtain ⟨he, hM3⟩ := h3
                have he1 : v3 = 0 := by injection he with this; injection this
                subst he1
                have g2 : X3.cell? ⟨mb, 2, none⟩ = some (.int .i64 ((d + 1 : Nat) : Int)) := cell_of_blk hM3.blk 2
                have f2' := free_of_blk hM3.blk 2
                obtain ⟨hM4, hf4⟩ := hM3.put (j := 2) (u := .int .i64 (d : Int)) (how' := howS c) (s' := s2) (d' := d) rfl hM3.tl (by omega) (by simp)
                have HM4 := hidX hM4
                have HF4 := hidX (HF3.out.trans hf4 (fun i hi hs => Sx.next HR3.out hi hs))
                clear hM3 hM4 hf4 he
                go_wp2
                go_ret
                exact rvto_stop HE2.out HF4.out HR3.out HM4.out
              | val v2 s2 =>
                obtain ⟨he, hM3⟩ := h3
                have he1 : v3 = v2 := by injection he with this; injection this
                subst he1
                have g2 : X3.cell? ⟨mb, 2, none⟩ = some (.int .i64 ((d + 1 : Nat) : Int)) := cell_of_blk hM3.blk 2
                have f2' := free_of_blk hM3.blk 2
                obtain ⟨hM4, hf4⟩ := hM3.put (j := 2) (u := .int .i64 (d : Int)) (how' := []) (s' := s2) (d' := d) rfl hM3.tl (by omega) (by simp)
                have HM4 := hidX hM4
                have HF4 := hidX (HF3.out.trans hf4 (fun i hi hs => Sx.next HR3.out hi hs))
                clear hM3 hM4 hf4 he
                go_wp2
                go_ret
                exact rvto_val HE2.out HF4.out HR3.out HM4.out
            · have hx' : (xm == m) = false := by simpa using hx
              have HQ2 := hidX (hq2 hx)
              clear hbo hfo hq2 hpar k1 hx3 r2 r3 r4 e2 e1' hx
              go_wp2
              go_roundw
              case rel => exact ⟨q + 1, by omega, by go_num, by first | rfl | trivial, HQ2.out⟩
              case measure => simp [intOf]; omega
          · exact absurd HAS.out (by
              rintro ⟨f, hf, h1, _⟩
              obtain ⟨i, hi, rfl⟩ := List.mem_iff_getElem.1 hf
              exact HQ.out i hi (by omega) h1)
end Go.Proofs.YtcebpmaggnephacGreatDoor
