/- Our own: texts joined: MaGo. -/
import Derived.Test.YtbcpomdcmilpjaaDoorXMaOther
import Derived.Test.YtbcpomdcmilpjaaDoorXDoBC
import Derived.Test.YtbcpomdcmilpjaaDoorXMaDoD
import Derived.Test.YtbcpomdcmilpjaaDoorXMaDoE
import Derived.Deep.LoopGhost
import Derived.Deep.Cut
namespace Go.Proofs.YtbcpomdcmilpjaaDoor
open Go.RowKit
section
variable {w : World} {B mb fb sb wb wo : Nat} {fv wv ov : Value} {I : Im} {g : Gm} {most t : Nat} {f : Fm} {i : Ci} {fs : List Fm}
set_option maxRecDepth 100000 in
set_option maxHeartbeats 4000000 in
theorem do_call (hC : CallC I most ({ f with next := zeros 4 } :: fs)) (h : MM w B mb fv wv ov I [] g most (fs.length + 1) t) (hf : FM w B mb fb sb f) (hof : ov.ownBlock ≠ some fb) (hos : ov.ownBlock ≠ some sb) (hw : WordAt w wb wo i) (hwB : wb < B) (hi : OkI i) (hk : i.op = mCall) (hm : 0 ≤ i.imm ∧ i.imm < (I.funs.length : Int)) (hfl : I.funs.length ≤ 8) :
  Calls Tryd.prog 51 #[.pointer (some ⟨fb, 0, none⟩), .pointer (some ⟨wb, wo, none⟩)] w (DoTo w B mb fb sb fv wv ov I most (fs.length + 1) t f fs (doM I most g f fs i)) := by
 have q0 : w.cell? ⟨wb, wo, none⟩ = some (.string ⟨([99, 97, 108, 108] : List UInt8).toArray⟩) := by have := hw.op; rw [hk] at this; exact this
 have HC := hidX (other_any hC h hf hof hos hw hwB hi hk hm hfl)
 generalize doM I most g f fs i = S at HC
 clear h hf hof hos hw hi hm hk hC hwB hfl
 go_enter Tryd.func51, Tryd.ntmps51
 go_wp2_with fail
 refine HC.out.mono ?_
 intro e X hX
 have hv : ∃ v, e = .returned v := by
  obtain ⟨_, _, _, _, _, h | h⟩ := hX
  ·obtain ⟨_, _, _, h, _⟩ := h; exact ⟨_, h⟩
  ·obtain ⟨_, h, _⟩ := h; exact ⟨_, h⟩
 obtain ⟨v, rfl⟩ := hv
 have HX := hidX hX
 clear hX HC
 go_wp2
 go_ret
 exact HX.out
theorem do_anyM {v : Nat} (hC : CallC I most ({ f with next := zeros 4 } :: fs)) (h : MM w B mb fv wv ov I [] g most (fs.length + 1) t) (hf : FM w B mb fb sb f) (hof : ov.ownBlock ≠ some fb) (hos : ov.ownBlock ≠ some sb) (hw : WordAt w wb wo (decR v)) (hwB : wb < B) (hfl : I.funs.length ≤ 8) (hv : OkW I v) (n12 : (decR v).op ≠ mJump) (n13 : (decR v).op ≠ mIf) (n14 : (decR v).op ≠ mRet) :
  Calls Tryd.prog 51 #[.pointer (some ⟨fb, 0, none⟩), .pointer (some ⟨wb, wo, none⟩)] w (DoTo w B mb fb sb fv wv ov I most (fs.length + 1) t f fs (doM I most g f fs (decR v))) := by
 by_cases n0 : (decR v).op = mConst
 ·exact do_const h hf hof hw hv.ok n0 fs
 by_cases n1 : (decR v).op = mHigh
 ·exact do_high h hf hof hos hw hv.ok n1 fs
 by_cases n2 : (decR v).op = mMove
 ·exact do_move h hf hof hos hw hv.ok n2 fs
 by_cases n3 : (decR v).op = mLoad
 ·exact do_load h hf hof hos hw hv.ok n3 (hv.slot (Or.inl n3)) fs
 by_cases n4 : (decR v).op = mStore
 ·exact do_store h hf hof hos hw hv.ok n4 (hv.slot (Or.inr n4)) fs
 by_cases n5 : (decR v).op = mParam
 ·exact do_param h hf hof hos hw hv.ok n5 (hv.par (Or.inl n5)) fs
 by_cases n6 : (decR v).op = mArg
 ·exact do_arg h hf hof hos hw hv.ok n6 (hv.par (Or.inr n6)) fs
 by_cases n7 : (decR v).op = mCall
 ·exact do_call hC h hf hof hos hw hwB hv.ok n7 (hv.call n7) hfl
 by_cases n8 : (decR v).op = mTick
 ·exact do_tick h hf hof hos hw hv.ok n8 fs
 by_cases n9 : (decR v).op = mPrint
 ·exact do_print h hf hof hos hw hv.ok n9 fs
 by_cases n10 : (decR v).op = mNeg
 ·exact do_neg h hf hof hos hw hv.ok n10 fs
 by_cases n11 : (decR v).op = mNot
 ·exact do_not h hf hof hos hw hv.ok n11 fs
 exact do_two h hf hof hos hw hv.ok (hv.two n0 n1 n2 n3 n4 n5 n6 n7 n8 n9 n10 n11 n12 n13 n14) n0 n1 n2 n3 n4 n5 n6 n7 n8 n9 n10 n11 n12 n13 n14 fs
end
def takenOf (w : World) (mb : Nat) : Nat := ((w.cell? ⟨mb, 8, none⟩).map fun v => (intOf v).toNat).getD 0
theorem MM.taken {w : World} {B mb : Nat} {fv wv ov : Value} {I : Im} {how : List UInt8} {g : Gm} {most d t : Nat} (h : MM w B mb fv wv ov I how g most d t) : takenOf w mb = t := by
 have : w.cell? ⟨mb, 8, none⟩ = some (.int .i64 (t : Int)) := cell_of_blk h.blk 8
 unfold takenOf
 rw [this]
 simp [intOf]
theorem FM.go {w : World} {B mb fb sb : Nat} {f : Fm} (h : FM w B mb fb sb f) (n : Nat) : FM w B mb fb sb (f.go n) :=
 ⟨h.hp, h.hs, h.nm, h.ns, h.nf, h.blk, h.sl, h.rl, h.al, h.nl, h.zl⟩
theorem step_at {I : Im} {most : Nat} {g : Gm} {f : Fm} {fs : List Fm} {p : Nat} (hp : f.pc = p) (h : p < I.words.length) : stepM I most (.run g f fs) = doM I most g (f.go (p + 1)) fs (decR I.words[p]) := by
 show (match I.words[f.pc]? with | none => _ | some v => _) = _
 rw [hp, List.getElem?_eq_getElem h]
theorem step_end {I : Im} {most : Nat} {g : Gm} {f : Fm} {fs : List Fm} {p : Nat} (hp : f.pc = p) (h : I.words.length ≤ p) : stepM I most (.run g f fs) = .halt hStuck 0 g := by
 show (match I.words[f.pc]? with | none => _ | some v => _) = _
 rw [hp, List.getElem?_eq_none h]
set_option maxRecDepth 100000 in
set_option maxHeartbeats 8000000 in
theorem go_of {I : Im} {most : Nat} {fs : List Fm} (hW : WellI I) (hC : ∀ f, CallC I most (f :: fs)) : GoC I most fs := by
 intro w B mb fb sb fv wv ov g t f hM hF hof hos hpc
 obtain ⟨adw, cw, rfl⟩ := hM.ws.is
 have hwl := hW.wl
 have hwl' : (I.words.length : Int) ≤ 8000 := by omega
 have hfl := hW.fl
 obtain ⟨p0, hp0⟩ : ∃ p0, p0 = f.pc := ⟨_, rfl⟩
 rw [← hp0] at hpc ⊢
 have HM := hidX hM
 have HF := hidX hF
 have HO := hidX hof
 have HOS := hidX hos
 have HP0 := hidX hp0.symm
 have HC := hidX hC
 have HW := hidX hW
 have HX := hidX hM.ws
 generalize hS0 : Sm.run g f fs = S0
 have HS0 := hidX hS0
 generalize hnw : I.words.length = nw at *
 have HNW := hidX hnw
 clear hM hF hof hos hp0 hC hW hS0 hnw
 go_enter Tryd.func38, Tryd.ntmps38
 go_wp2_with fail
 go_loopw [1] (fun i wr => ∃ (p j q : Nat) (f' : Fm) (g' : Gm) (ov' : Value), i = .int .i64 (p : Int) ∧ p ≤ nw ∧ Hid (q = t + j) ∧ Hid (f'.pc = p ∧ f'.d = f.d) ∧ Hid (MM wr B mb fv (.slice adw nw cw) ov' I [] g' most (fs.length + 1) q) ∧ Hid (FM wr B mb fb sb f') ∧ Hid (itM I most j S0 = .run g' f' fs) ∧ Hid (Fr (Sw mb fb sb ov.ownBlock) w wr) ∧ Hid (RowB w ov.ownBlock ov'.ownBlock)) (fun _ wr => 100000000 - takenOf wr mb)
 case atStart => exact ⟨p0, 0, t, f, g, ov, rfl, hpc, rfl, ⟨HP0.out, rfl⟩, HM.out, HF.out, HS0.out.symm, Fr.refl _ _, RowB.refl _ _⟩
 case round =>
  obtain ⟨p, j, q, f', g', ov', rfl, hp, HQ, HPC, HMQ, HFQ, HIT, HFR, HRQ⟩ := hrel
  have b0 := HFQ.out.ptr
  have c5 : wr.cell? ⟨mb, 5, none⟩ = some (.slice adw nw cw) := cell_of_blk HMQ.out.blk 5
  have c8 : wr.cell? ⟨mb, 8, none⟩ = some (.int .i64 (q : Int)) := cell_of_blk HMQ.out.blk 8
  have hqk := HMQ.out.kl
  have hqk' : (q : Int) ≤ 100000000 := by omega
  have hml := HMQ.out.mlt
  have hofq : ov'.ownBlock ≠ some fb := HRQ.out.ne HF.out.flt HO.out
  have hosq : ov'.ownBlock ≠ some sb := HRQ.out.ne HF.out.slt HOS.out
  have HOQ := hidX hofq
  have HOSQ := hidX hosq
  clear hofq hosq
  by_cases hlt : p < nw
  ·have hlt' : (p : Int) < (nw : Int) := by omega
   by_cases hqe : q = 100000000
   ·have hqe' : ¬ (q : Int) < 100000000 := by omega
    have HQE := hidX hqe
    clear hqe
    go_wp2_with fail
    refine (mstop_any HMQ.out hStuck).mono ?_
    rintro e X ⟨rfl, h1, h2⟩
    have H1 := hidX h1
    have H2 := hidX (show Fr (Sw mb fb sb ov.ownBlock) w X from HFR.out.trans h2 (fun i hi hs => Sw.next HRQ.out hi hs.toSw))
    clear h1 h2
    go_wp2
    have hq := HQ.out
    subst hq
    exact bodyPost_ret (v := .tuple #[.int .i64 0, .bool false]) (by simp [results, Tryd.results38, go_sem]) rfl ⟨H2.out, j, ov', g', HRQ.out, Or.inr ⟨hStuck, rfl, H1.out, Or.inr ⟨rfl, HQE.out, _, _, _, HIT.out⟩⟩⟩
   ·have hqe' : (q : Int) < 100000000 := by omega
    have hltw : p < I.words.length := by have := HNW.out; omega
    obtain ⟨gw, offw, eadw, hgw, hcw⟩ := HX.out.at hltw
    subst eadw
    have HOK := hidX (HW.out.words _ (List.getElem_mem hltw))
    have HST := hidX (show itM I most (j + 1) S0 = doM I most g' (f'.go (p + 1)) fs (decR I.words[p]) from by rw [itM_one, HIT.out]; exact step_at HPC.out.1 hltw)
    generalize I.words[p] = u at *
    obtain ⟨hm1, hf1⟩ := HMQ.out.put (j := 8) (u := .int .i64 ((q : Int) + 1)) (how' := []) (g' := g') (d' := fs.length + 1) (t' := q + 1) rfl HMQ.out.tl HMQ.out.dl (by omega) (by simp)
    obtain ⟨W1, hW1⟩ : ∃ W1, W1 = wr.setCell ⟨mb, 8, none⟩ (.int .i64 ((q : Int) + 1)) := ⟨_, rfl⟩
    rw [← hW1] at hm1 hf1
    have hb8 := free_of_blk HMQ.out.blk 8
    have hmB := HMQ.out.hp
    have hoth : ∀ c, c ≠ mb → W1.heap[c]? = wr.heap[c]? := fun c hc => by rw [hW1]; exact Below.heap_setCell _ _ _ _ (show c ≠ mb from hc)
    have hf1 := (HFQ.out.keep (hoth fb HFQ.out.nm) (hoth sb HFQ.out.ns)).go (p + 1)
    have hlow : Below B w W1 := (HFR.out.trans (T := Sx mb ov'.ownBlock) (b := wr) (c := W1) (by assumption) (fun i hi hs => Sw.next HRQ.out hi hs.toSw)).lowS HM.out HF.out.hp HF.out.hs
    have hwd : WordAt W1 gw (offw + p * 6) (decR u) := by
     have key : ∀ j v, j < 6 → (wdC u)[j]? = some v → W1.cell? ⟨gw, offw + p * 6 + j, none⟩ = some v := fun j v hj hv => (hlow.cell (p := ⟨gw, _, none⟩) hgw).trans (hcw j v hj hv)
     exact ⟨by have := hm1.mlt; omega, key 0 _ (by decide) rfl, key 1 _ (by decide) rfl, key 2 _ (by decide) rfl, key 3 _ (by decide) rfl, key 4 _ (by decide) rfl, key 5 _ (by decide) rfl⟩
    have HM1 := hidX hm1
    have HF1 := hidX hf1
    have HWD := hidX hwd
    have HFR1 := hidX (show Fr (Sw mb fb sb ov.ownBlock) w W1 from HFR.out.trans (T := Sx mb ov'.ownBlock) (b := wr) (c := W1) (by assumption) (fun i hi hs => Sw.next HRQ.out hi hs.toSw))
    have hp8 : (p : Int) + 1 ≤ 8001 := by omega
    clear hm1 hf1 hwd hlow hcw hltw hqe
    go_upto_region 4 with fail
    rw [← hW1]
    clear hW1 b0 c5 c8
    have HT0 := hidX HMQ.out.taken
    have HT1 := hidX HM1.out.taken
    have HTL := hidX (show q + 1 ≤ 100000000 from HM1.out.kl)
    clear hqk hqk' hqe'
    have q0 := HWD.out.op
    have ha := HOK.out.ok.a
    have q2 := HWD.out.a
    have q4 := HWD.out.imm
    by_cases e1 : (decR u).op = mJump
    ·obtain ⟨m, hm⟩ : ∃ m : Nat, (decR u).imm = (m : Int) := ⟨(decR u).imm.toNat, by have := HOK.out.jump (Or.inl e1); omega⟩
     have hmw : m < nw := by have := HOK.out.jump (Or.inl e1); have := HNW.out; omega
     have HN := hidX (show itM I most (j + 1) S0 = .run g' ((f'.go (p + 1)).go m) fs from by rw [HST.out]; unfold doM; rw [if_pos e1, hm]; rfl)
     rw [e1] at q0
     rw [hm] at q4
     have q0 : W1.cell? ⟨gw, offw + p * 6, none⟩ = some (.string ⟨([106, 117, 109, 112] : List UInt8).toArray⟩) := q0
     clear e1 hm HST ha q2
     go_wp2
     go_roundw
     case rel => exact ⟨m, j + 1, q + 1, (f'.go (p + 1)).go m, g', ov', by go_num, by omega, by (unfold Hid; have := HQ.out; omega), ⟨rfl, HPC.out.2⟩, HM1.out, HF1.out.go m, HN.out, HFR1.out, HRQ.out⟩
     case measure => (have h1 := HT1.out; have h0 := HT0.out; show 100000000 - takenOf W1 mb < 100000000 - takenOf wr mb; rw [h0, h1]; have := HTL.out; omega)
    by_cases e2 : (decR u).op = mIf
    ·obtain ⟨m, hm⟩ : ∃ m : Nat, (decR u).imm = (m : Int) := ⟨(decR u).imm.toNat, by have := HOK.out.jump (Or.inr e2); omega⟩
     obtain ⟨a, hae⟩ : ∃ a : Nat, (decR u).a = (a : Int) := ⟨(decR u).a.toNat, by omega⟩
     have ha8 : a < 8 := by omega
     have ha8' : (a : Int) < 8 := by omega
     have hmw : m < nw := by have := HOK.out.jump (Or.inr e2); have := HNW.out; omega
     have HN := hidX (show itM I most (j + 1) S0 = .run g' (if (f'.go (p + 1)).regs.getD a 0 = 0 then f'.go (p + 1) else (f'.go (p + 1)).go m) fs from by rw [HST.out]; unfold doM; rw [if_neg e1, if_pos e2, hm, hae]; rfl)
     have b0 := HF1.out.ptr
     have ra := HF1.out.reg ha8
     generalize (f'.go (p + 1)).regs.getD a 0 = va at ra HN
     rw [e2] at q0
     rw [hm] at q4
     rw [hae] at q2
     have q0 : W1.cell? ⟨gw, offw + p * 6, none⟩ = some (.string ⟨([105, 102] : List UInt8).toArray⟩) := q0
     clear e1 e2 hm hae HST ha
     by_cases hv : va = 0
     ·have HN2 := hidX (show itM I most (j + 1) S0 = .run g' (f'.go (p + 1)) fs from by rw [HN.out, if_pos hv])
      subst hv
      clear HN
      go_wp2_with fail
      go_quiet (fail)
      go_wp2
      go_roundw
      case rel => exact ⟨p + 1, j + 1, q + 1, f'.go (p + 1), g', ov', by go_num, by omega, by (unfold Hid; have := HQ.out; omega), ⟨rfl, HPC.out.2⟩, HM1.out.below (by (repeat (first | exact Below.refl _ _ | assumption | refine Below.drew ?_ | refine bT ?_ _ | refine bS ?_ _ | refine bA ?_ _))), HF1.out.below (by (repeat (first | exact Below.refl _ _ | assumption | refine Below.drew ?_ | refine bT ?_ _ | refine bS ?_ _ | refine bA ?_ _))), HN2.out, HFR1.out.trans (Fr.of (S := Sw mb fb sb ov.ownBlock) (by (repeat (first | exact Below.refl _ _ | assumption | refine Below.drew ?_ | refine bT ?_ _ | refine bS ?_ _ | refine bA ?_ _)))) (fun _ _ h => h), HRQ.out⟩
      case measure => (have h1 := HT1.out; have h0 := HT0.out; show 100000000 - takenOf W1 mb < 100000000 - takenOf wr mb; rw [h0, h1]; have := HTL.out; omega)
     ·have HN2 := hidX (show itM I most (j + 1) S0 = .run g' ((f'.go (p + 1)).go m) fs from by rw [HN.out, if_neg hv])
      have hv' : (va != 0) = true := by simpa using hv
      clear HN hv
      go_wp2_with fail
      go_quiet (fail)
      go_wp2
      go_roundw
      case rel => exact ⟨m, j + 1, q + 1, (f'.go (p + 1)).go m, g', ov', by go_num, by omega, by (unfold Hid; have := HQ.out; omega), ⟨rfl, HPC.out.2⟩, HM1.out.below (by (repeat (first | exact Below.refl _ _ | assumption | refine Below.drew ?_ | refine bT ?_ _ | refine bS ?_ _ | refine bA ?_ _))), (HF1.out.go m).below (by (repeat (first | exact Below.refl _ _ | assumption | refine Below.drew ?_ | refine bT ?_ _ | refine bS ?_ _ | refine bA ?_ _))), HN2.out, HFR1.out.trans (Fr.of (S := Sw mb fb sb ov.ownBlock) (by (repeat (first | exact Below.refl _ _ | assumption | refine Below.drew ?_ | refine bT ?_ _ | refine bS ?_ _ | refine bA ?_ _)))) (fun _ _ h => h), HRQ.out⟩
      case measure => (have h1 := HT1.out; have h0 := HT0.out; show 100000000 - takenOf W1 mb < 100000000 - takenOf wr mb; rw [h0, h1]; have := HTL.out; omega)
    by_cases e3 : (decR u).op = mRet
    ·obtain ⟨a, hae⟩ : ∃ a : Nat, (decR u).a = (a : Int) := ⟨(decR u).a.toNat, by omega⟩
     have ha8 : a < 8 := by omega
     have ha8' : (a : Int) < 8 := by omega
     have HN := hidX (show itM I most (j + 1) S0 = retM g' fs f.d ((f'.go (p + 1)).regs.getD a 0) from by rw [HST.out]; unfold doM; rw [if_neg e1, if_neg e2, if_pos e3, hae, ← HPC.out.2]; rfl)
     have b0 := HF1.out.ptr
     have ra := HF1.out.reg ha8
     generalize (f'.go (p + 1)).regs.getD a 0 = va at ra HN
     rw [e3] at q0
     rw [hae] at q2
     have q0 : W1.cell? ⟨gw, offw + p * 6, none⟩ = some (.string ⟨([114, 101, 116, 117, 114, 110] : List UInt8).toArray⟩) := q0
     clear e1 e2 e3 hae HST ha q4
     go_wp2_with fail
     go_quiet (fail)
     go_wp2
     have hq := HQ.out
     subst hq
     exact bodyPost_ret (v := .tuple #[.int .i64 va, .bool true]) (by simp [results, Tryd.results38, go_sem]) rfl ⟨HFR1.out.trans (Fr.of (S := Sw mb fb sb ov.ownBlock) (by (repeat (first | exact Below.refl _ _ | assumption | refine Below.drew ?_ | refine bT ?_ _ | refine bS ?_ _ | refine bA ?_ _)))) (fun _ _ h => h), j + 1, ov', g', HRQ.out, Or.inl ⟨va, HN.out, rfl, HM1.out.below (by (repeat (first | exact Below.refl _ _ | assumption | refine Below.drew ?_ | refine bT ?_ _ | refine bS ?_ _ | refine bA ?_ _)))⟩⟩
    have HDO := hidX (do_anyM (HC.out _) HM1.out HF1.out HOQ.out HOSQ.out HWD.out hgw hfl HOK.out e1 e2 e3)
    have t1 : ((decR u).op == [106, 117, 109, 112]) = false := ne_lit e1
    have t2 : ((decR u).op == [105, 102]) = false := ne_lit e2
    have t3 : ((decR u).op == [114, 101, 116, 117, 114, 110]) = false := ne_lit e3
    generalize doM I most g' (f'.go (p + 1)) fs (decR u) = S1 at HST HDO
    generalize (decR u).op = op at *
    clear e1 e2 e3 ha q2 q4
    go_wp2_with fail
    refine HDO.out.mono ?_
    rintro e X ⟨hfX, k, ov2, g2, hr2, hX⟩
    have HFX := hidX (show Fr (Sw mb fb sb ov.ownBlock) w X from HFR1.out.trans hfX (fun i hi hs => Sw.next HRQ.out hi hs))
    have HRX := hidX (show RowB w ov.ownBlock ov2.ownBlock from HRQ.out.trans (hr2.mono HFR1.out.size) (Nat.le_refl _))
    rcases hX with ⟨f2, hpd, z1, z2, z3, z4⟩ | ⟨how, z1, z2, z3⟩
    ·subst z2
     have HZ3 := hidX z3
     have HZ4 := hidX z4
     have HPD := hidX hpd
     have HN := hidX (show itM I most (j + 1 + k) S0 = .run g2 f2 fs from by rw [itM_add, HST.out]; exact z1)
     clear z1 z3 z4 hpd hfX hr2 HDO
     go_wp2
     go_roundw
     case rel => exact ⟨p + 1, j + 1 + k, q + 1 + k, f2, g2, ov2, by go_num, by omega, by (unfold Hid; have := HQ.out; omega), ⟨HPD.out.1, HPD.out.2.trans HPC.out.2⟩, HZ3.out, HZ4.out, HN.out, HFX.out, HRX.out⟩
     case measure => (have h1 := HZ3.out.taken; have h0 := HT0.out; show 100000000 - takenOf X mb < 100000000 - takenOf wr mb; rw [h0, h1]; have := HTL.out; omega)
    ·subst z1
     have HZ2 := hidX z2
     have HN := hidX (show StopM I most (j + 1 + k) t S0 how g2 from by
      rcases z3 with ⟨n, z3⟩ | ⟨z5, z6, g5, f5, fs5, z7⟩
      ·exact Or.inl ⟨j + 1 + n, by rw [itM_add, HST.out]; exact z3⟩
      ·exact Or.inr ⟨z5, by have := HQ.out; omega, g5, f5, fs5, by rw [itM_add, HST.out]; exact z7⟩)
     clear z2 z3 hfX hr2 HDO
     go_wp2
     have hq := HQ.out
     subst hq
     exact bodyPost_ret (v := .tuple #[.int .i64 0, .bool false]) (by simp [results, Tryd.results38, go_sem]) rfl ⟨HFX.out, j + 1 + k, ov2, g2, HRX.out, Or.inr ⟨how, rfl, by rw [show t + (j + 1 + k) = t + j + 1 + k from by omega]; exact HZ2.out, HN.out⟩⟩
  ·have hlt' : ¬ (p : Int) < (nw : Int) := by omega
   have HE := hidX (show itM I most (j + 1) S0 = .halt hStuck 0 g' from by rw [itM_one, HIT.out]; exact step_end HPC.out.1 (by have := HNW.out; omega))
   clear hlt
   go_wp2_with fail
   refine (mstop_any HMQ.out hStuck).mono ?_
   rintro e X ⟨rfl, h1, h2⟩
   have H1 := hidX h1
   have H2 := hidX (show Fr (Sw mb fb sb ov.ownBlock) w X from HFR.out.trans h2 (fun i hi hs => Sw.next HRQ.out hi hs.toSw))
   clear h1 h2
   go_wp2
   have hq := HQ.out
   subst hq
   exact bodyPost_ret (v := .tuple #[.int .i64 0, .bool false]) (by simp [results, Tryd.results38, go_sem]) rfl ⟨H2.out, j, ov', g', HRQ.out, Or.inr ⟨hStuck, rfl, H1.out, Or.inl ⟨j + 1, HE.out⟩⟩⟩
theorem call_any {I : Im} (most : Nat) (hW : WellI I) : ∀ (n : Nat) (fs : List Fm), 40 ≤ fs.length + n → CallC I most fs
 | 0, _, h => mcall_of hW (fun hl => absurd hl (by omega))
 | n + 1, fs, h => mcall_of hW (fun _ => go_of hW (fun f => call_any most hW n (f :: fs) (by simp; omega)))
end Go.Proofs.YtbcpomdcmilpjaaDoor
