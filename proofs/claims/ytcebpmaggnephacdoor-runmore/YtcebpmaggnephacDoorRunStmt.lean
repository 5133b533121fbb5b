/-
  Our own: package run: statements.
-/
import Derived.Test.YtcebpmaggnephacDoorRunExpr
import Derived.Test.YtcebpmaggnephacDoorCheckSize
namespace Go.Proofs.YtcebpmaggnephacDoor
open Go.RowKit Go.Maps

/-- What statements come to. -/
def BTo (w : World) (B mb nb fb vb : Nat) (fv ov : Value) (F : List Fu) (most d : Nat) (V : List (List UInt8)) (r : Br) (e : Ending) (w' : World) : Prop :=
  Fr (Ss mb fb vb ov.ownBlock) w w' ∧ ∃ ov', RowB w ov.ownBlock ov'.ownBlock ∧ match r with
    | .stop c s => e = .returned (.bool false) ∧ Mach w' B mb nb fv ov' F (howS c) s most d ∧ ∃ env, Fram w' B mb fb vb env V 0
    | .ret v s => e = .returned (.bool false) ∧ Mach w' B mb nb fv ov' F [] s most d ∧ ∃ env, Fram w' B mb fb vb env V v
    | .next env s => e = .returned (.bool true) ∧ Mach w' B mb nb fv ov' F [] s most d ∧ Fram w' B mb fb vb env V 0
section
variable {w w' X : World} {B mb nb fb vb : Nat} {fv ov ov' : Value} {F : List Fu} {most d : Nat} {V : List (List UInt8)} {r : Br} {e : Ending} {c : Stop} {s : Ms} {env : Env} {v : Int}
theorem bto_stop (hr : r = .stop c s) (hf : Fr (Ss mb fb vb ov.ownBlock) w w') (ho : RowB w ov.ownBlock ov'.ownBlock) (hm : Mach w' B mb nb fv ov' F (howS c) s most d) (hF : Fram w' B mb fb vb env V 0) : BTo w B mb nb fb vb fv ov F most d V r (.returned (.bool false)) w' := by
  subst hr; exact ⟨hf, ov', ho, rfl, hm, env, hF⟩
theorem bto_ret (hr : r = .ret v s) (hf : Fr (Ss mb fb vb ov.ownBlock) w w') (ho : RowB w ov.ownBlock ov'.ownBlock) (hm : Mach w' B mb nb fv ov' F [] s most d) (hF : Fram w' B mb fb vb env V v) : BTo w B mb nb fb vb fv ov F most d V r (.returned (.bool false)) w' := by
  subst hr; exact ⟨hf, ov', ho, rfl, hm, env, hF⟩
theorem bto_next (hr : r = .next env s) (hf : Fr (Ss mb fb vb ov.ownBlock) w w') (ho : RowB w ov.ownBlock ov'.ownBlock) (hm : Mach w' B mb nb fv ov' F [] s most d) (hF : Fram w' B mb fb vb env V 0) : BTo w B mb nb fb vb fv ov F most d V r (.returned (.bool true)) w' := by
  subst hr; exact ⟨hf, ov', ho, rfl, hm, hF⟩
theorem bto_from {ovq : Value} (h : BTo X B mb nb fb vb fv ovq F most d V r e w') (hf : Fr (Ss mb fb vb ov.ownBlock) w X) (hr : RowB w ov.ownBlock ovq.ownBlock) : BTo w B mb nb fb vb fv ov F most d V r e w' := by
  obtain ⟨h1, ov', h2, h3⟩ := h
  exact ⟨hf.trans h1 (fun i hi hs => Ss.next hr hi hs), ov', hr.trans h2 hf.size, h3⟩
end
/-- What a statement, a block asks for. -/
structure At (w : World) (B mb nb fb vb d : Nat) (fv ov : Value) (F : List Fu) (s : Ms) (most N : Nat) (env : Env) (V : List (List UInt8)) : Prop where
  mach : Mach w B mb nb fv ov F [] s most d
  fram : Fram w B mb fb vb env V 0
  of : ov.ownBlock ≠ some fb
  fit : Env64 env
  room : most - s.ticks < N
  vl : V.length ≤ 12
  vn : vb ≠ nb
def StT (F : List Fu) (most N : Nat) (x : Sm) : Prop := ∀ (w : World) (B mb nb fb vb d : Nat) (fv ov : Value) (s : Ms) (env : Env) (V : List (List UInt8)) (cs : List Value), At w B mb nb fb vb d fv ov F s most N env V → XS (fun b => b < B) w x cs → LowS x → WfS F V x →
  Calls Tryd.prog 53 #[.pointer (some ⟨fb, 0, none⟩), .agg cs.toArray] w (BTo w B mb nb fb vb fv ov F most d V (stmtX runOps most (callX runOps most F N d) N x env s))
def WhT (F : List Fu) (most N : Nat) (x : Sm) : Prop := ∀ (w : World) (B mb nb fb vb d : Nat) (fv ov : Value) (s : Ms) (env : Env) (V : List (List UInt8)) (cs : List Value) (m : List UInt8) (e : Ex) (t o : List Sm), x = .mk kWhile m e t o → At w B mb nb fb vb d fv ov F s most N env V → XS (fun b => b < B) w x cs → LowS x → WfS F V x →
  Calls Tryd.prog 66 #[.pointer (some ⟨fb, 0, none⟩), .agg cs.toArray] w (BTo w B mb nb fb vb fv ov F most d V (stmtX runOps most (callX runOps most F N d) N x env s))
def BlT (F : List Fu) (most N : Nat) (l : List Sm) : Prop := ∀ (w : World) (B mb nb fb vb d : Nat) (fv ov : Value) (s : Ms) (env : Env) (V : List (List UInt8)) (v : Value), At w B mb nb fb vb d fv ov F s most N env V → XLS (fun b => b < B) w v l → l.length ≤ 30 → LowSs l → WfSs F V l →
  Calls Tryd.prog 46 #[.pointer (some ⟨fb, 0, none⟩), v] w (BTo w B mb nb fb vb fv ov F most d V (blockX runOps most (callX runOps most F N d) N l env s))
theorem blockX_at {O : Ops} {most : Nat} {K : CallF} {N : Nat} {l : List Sm} {q : Nat} (h : q < l.length) (env : Env) (s : Ms) : blockX O most K N (l.drop q) env s = match stmtX O most K N l[q] env s with
    | .next env s => blockX O most K N (l.drop (q + 1)) env s
    | .stop c s => .stop c s
    | .ret v s => .ret v s := by
  rw [← List.getElem_cons_drop h, blockX]
  cases stmtX O most K N l[q] env s <;> rfl
set_option maxRecDepth 100000 in
set_option maxHeartbeats 4000000 in
theorem bl_list {F : List Fu} {most N : Nat} (hP : WfP F) (l : List Sm) (ih : ∀ x ∈ l, StT F most N x) : BlT F most N l := by
  intro w B mb nb fb vb d fv ov s env V v hA hX hl hL hW
  obtain ⟨xs, hr, hk⟩ := hX
  obtain ⟨ad, cap, rfl⟩ := hr.is
  have hl' : (l.length : Int) ≤ 30 := by omega
  have hBf := hA.fram.hf
  have hBv := hA.fram.hv
  have hBm := hA.mach.hp
  have hml := hA.mach.mlt
  have hfl := hA.fram.flt
  have hvl := hA.fram.vars.lt
  have R := hidX hr
  have KK := hidX hk
  have LL := hidX hL
  have HW := hidX hW
  have IH := hidX ih
  have HA := hidX hA
  generalize hres : blockX runOps most (callX runOps most F N d) N l env s = res
  have HRES := hidX hres
  clear hr hk hL hW ih hA hres
  go_enter Tryd.func46, Tryd.ntmps46
  go_wp2_with fail
  go_loopw [9] (fun vi wr => ∃ (q : Nat) (envq : Env) (sq : Ms) (ovq : Value), q ≤ l.length ∧ vi = .int .i64 q ∧ Hid (At wr B mb nb fb vb d fv ovq F sq most N envq V) ∧ Hid (Fr (Ss mb fb vb ov.ownBlock) w wr) ∧ Hid (RowB w ov.ownBlock ovq.ownBlock) ∧ Hid (res = blockX runOps most (callX runOps most F N d) N (l.drop q) envq sq)) (fun vi _ => l.length - (intOf vi).toNat)
  case atStart => exact ⟨0, env, s, ov, Nat.zero_le _, rfl, HA.out, Fr.refl _ _, RowB.refl _ _, by unfold Hid; rw [List.drop_zero]; exact HRES.out.symm⟩
  case round =>
    obtain ⟨q, envq, sq, ovq, hq, rfl, HAQ, HFQ, HRQ, HXQ⟩ := hrel
    have hzq := HFQ.out.size
    have hlowq : Below B w wr := HFQ.out.lowS HA.out.mach hBf hBv
    by_cases hlt : q < l.length
    · have hlt' : (q : Int) < (l.length : Int) := by omega
      obtain ⟨ka, e1, e2⟩ := KK.out.at hlt
      have hmem := List.getElem_mem hlt
      have hx := IH.out _ hmem
      have hlx := LL.out.mem _ hmem
      have hwx := WfSs.mem HW.out _ hmem
      have hstep := HXQ.out.trans (blockX_at hlt envq sq)
      have hfit := stmtX_fit (most := most) runOps_fit (callX_fit runOps_fit most hP.funs N d) N l[q] envq sq HAQ.out.fit hwx
      have hon := stmtX_on (O := runOps) (callX_on runOps most F N d) N l[q] envq sq
      generalize l[q] = x at e1 hx hlx hwx hstep hfit hon
      have hcall : ∀ X, Below wr.heap.size wr X → Calls Tryd.prog 53 #[.pointer (some ⟨fb, 0, none⟩), .agg ka.toArray] X (BTo wr B mb nb fb vb fv ovq F most d V (stmtX runOps most (callX runOps most F N d) N x envq sq)) := fun X hX =>
        (hx X B mb nb fb vb d fv ovq sq envq V ka ⟨HAQ.out.mach.below hX, HAQ.out.fram.keep (hX.block fb HAQ.out.fram.flt) (hX.block vb HAQ.out.fram.vars.lt), HAQ.out.of, HAQ.out.fit, HAQ.out.room, HAQ.out.vl, HAQ.out.vn⟩ (XS.imp (fun _ h => h) (fun b hb => (hX.block b (by omega)).trans (hlowq.block b hb)) _ _ e1) hlx hwx).mono fun _ _ h => bto_from h (Fr.of hX) (RowB.refl _ _)
      obtain ⟨xk, xm, xe, xt, xo⟩ := x
      obtain ⟨ea, ta, tsa, oa, osa, rfl, r1, r2, r3, r4, r5⟩ := e1
      obtain ⟨ga, off, rfl, hga, g1⟩ := x8_at R.out hlt r1.len e2
      obtain ⟨adt, ct, rfl⟩ := r2.is
      obtain ⟨ado, co, rfl⟩ := r4.is
      obtain ⟨xek, xen, xem, xes⟩ := xe
      obtain ⟨ya, za, rfl, ra, _⟩ := r1
      obtain ⟨ad1, cap1, rfl⟩ := ra.is
      have k1 := g1.keep (hlowq.block ga hga)
      have a0 := k1.c0
      have a1 := k1.c1
      have a2 := k1.c2 0 _ (by decide) rfl
      have a3 := k1.c2 1 _ (by decide) rfl
      have a4 := k1.c2 2 _ (by decide) rfl
      have a5 := k1.c2 3 _ (by decide) rfl
      have a6 := k1.c6
      have a7 := k1.c7
      simp only [Nat.add_zero, Nat.reduceAdd] at a2 a3 a4 a5
      have HCL := hidX hcall
      have HST := hidX hstep
      have HFT := hidX hfit
      have HON := hidX hon
      clear hcall hstep hfit hon g1 k1 e2 r2 r3 r4 r5 ra hx hlx hwx
      go_wp2_with fail
      refine (HCL.out _ (box_blk _ _ _)).mono ?_
      rintro e X2 ⟨hf2, ov2, hr2, h2⟩
      have HFW2 := hidX (show Fr (Ss mb fb vb ov.ownBlock) w X2 from HFQ.out.trans hf2 (fun i hi hs => Ss.next HRQ.out hi hs))
      have HRW2 := hidX (HRQ.out.trans hr2 hzq)
      have hof2 : ov2.ownBlock ≠ some fb := hr2.ne HAQ.out.fram.flt HAQ.out.of
      have HOF2 := hidX hof2
      clear a0 a1 a2 a3 a4 a5 a6 a7 hf2 hr2 hof2
      cases hxx : stmtX runOps most (callX runOps most F N d) N (.mk xk xm (.mk xek xen xem xes) xt xo) envq sq with
      | stop c s' =>
        rw [hxx] at h2
        simp only at h2
        obtain ⟨he2, hm2, env2, hF2⟩ := h2
        subst he2
        have HM2 := hidX hm2
        have HF2 := hidX hF2
        have HE2 : Hid (res = .stop c s') := by unfold Hid; rw [HST.out, hxx]
        clear hm2 hF2 hxx HST HFT HON HRES HXQ
        go_wp2
        go_ret
        exact bto_stop HE2.out HFW2.out HRW2.out HM2.out HF2.out
      | ret v s' =>
        rw [hxx] at h2
        simp only at h2
        obtain ⟨he2, hm2, env2, hF2⟩ := h2
        subst he2
        have HM2 := hidX hm2
        have HF2 := hidX hF2
        have HE2 : Hid (res = .ret v s') := by unfold Hid; rw [HST.out, hxx]
        clear hm2 hF2 hxx HST HFT HON HRES HXQ
        go_wp2
        go_ret
        exact bto_ret HE2.out HFW2.out HRW2.out HM2.out HF2.out
      | next env2 s' =>
        rw [hxx] at h2
        simp only at h2
        obtain ⟨he2, hm2, hF2⟩ := h2
        subst he2
        have hfit := HFT.out
        have hon := HON.out
        rw [hxx] at hfit hon
        have ht2 : sq.ticks ≤ s'.ticks := hon.ticks
        have hroom := HAQ.out.room
        have HA2 := hidX (show At X2 B mb nb fb vb d fv ov2 F s' most N env2 V from ⟨hm2, hF2, HOF2.out, hfit, by omega, HAQ.out.vl, HAQ.out.vn⟩)
        have HE2 : Hid (res = blockX runOps most (callX runOps most F N d) N (l.drop (q + 1)) env2 s') := by unfold Hid; rw [HST.out, hxx]
        clear hm2 hF2 hxx HST HFT HON hfit hon
        go_wp2
        go_roundw
        case rel => exact ⟨q + 1, env2, s', ov2, by omega, by go_num, HA2.out, HFW2.out, HRW2.out, HE2.out⟩
        case measure => simp [intOf]; omega
    · have hqn : q = l.length := by omega
      subst hqn
      have HE2 : Hid (res = .next envq sq) := by unfold Hid; rw [HXQ.out, List.drop_length, blockX]
      clear HXQ HRES
      go_wp2
      go_ret
      exact bto_next HE2.out HFQ.out HRQ.out HAQ.out.mach HAQ.out.fram
/-- A variable is set: whatever draws there were. -/
theorem env_put {w : World} {vb : Nat} {env : Env} {V : List (List UInt8)} (h : EnvAt w vb env V) (hV : V.length ≤ 12) {m : List UInt8} (hm : m ∈ V) (hl : m.length ≤ 4000) {v : Int} (hv : In64 v) (X : World) (hX : X.heap[vb]? = w.heap[vb]?) :
    ∃ w', (Instr.mapUpdate 63 (.map (some vb)) (.string ⟨m.toArray⟩) (.int .i64 v)).run Tryd.prog X = .ok () w' ∧ EnvAt w' vb (setE env m v) V ∧ X.grownBy w' (some vb) := by
  obtain ⟨ks, D, h1, h2, h3, h4, h5, h6⟩ := h
  have hn := nodup_le ks V h1 h2
  obtain ⟨w', hrun, r1, r2⟩ := (owns_block h3 hX).update law_string Tryd.underlying63 (by unfold maxLen; omega) (key_text m hl) (plainElem_int (H := Unit) Tryd.underlying3 (q := .i64) (a := v) (WalkArith.wf_i64 (by unfold In64 at hv; omega)))
  exact ⟨w', hrun, EnvAt.put h1 h2 h3 h4 h5 h6 hm r1, r2⟩
theorem bto_bool {w w' : World} {B mb nb fb vb : Nat} {fv ov : Value} {F : List Fu} {most d : Nat} {V : List (List UInt8)} {r : Br} {e : Ending} (h : BTo w B mb nb fb vb fv ov F most d V r e w') : ∃ b, e = .returned (.bool b) ∧ BTo w B mb nb fb vb fv ov F most d V r (.returned (.bool b)) w' := by
  obtain ⟨h1, ov', h2, h3⟩ := h
  cases r with
  | stop c s => exact ⟨false, h3.1, h1, ov', h2, rfl, h3.2⟩
  | ret v s => exact ⟨false, h3.1, h1, ov', h2, rfl, h3.2⟩
  | next env s => exact ⟨true, h3.1, h1, ov', h2, rfl, h3.2⟩
theorem At.below {w X : World} {B mb nb fb vb d : Nat} {fv ov : Value} {F : List Fu} {s : Ms} {most N : Nat} {env : Env} {V : List (List UInt8)} (h : At w B mb nb fb vb d fv ov F s most N env V) (hb : Below w.heap.size w X) : At X B mb nb fb vb d fv ov F s most N env V :=
  ⟨h.mach.below hb, h.fram.keep (hb.block fb h.fram.flt) (hb.block vb h.fram.vars.lt), h.of, h.fit, h.room, h.vl, h.vn⟩
/-- A frame's answer is written. -/
theorem Fram.answer {w : World} {B mb fb vb : Nat} {env : Env} {V : List (List UInt8)} {ans v : Int} (h : Fram w B mb fb vb env V ans) : Fram (w.setCell ⟨fb, 2, none⟩ (.int .i64 v)) B mb fb vb env V v := by
  have hset := blk_setCell h.blk 2 (.int .i64 v)
  exact ⟨h.hf, h.hv, h.fm, by simpa using hset, h.vars.keep (Below.heap_setCell _ _ _ _ (show vb ≠ fb from h.vf))⟩
set_option maxRecDepth 100000 in
set_option maxHeartbeats 8000000 in
theorem st_mk {F : List Fu} {most N : Nat} (hP : WfP F) (k m : List UInt8) (ee : Ex) (t o : List Sm) (hex : ExT F most N ee) (hbt : BlT F most N t) (hbo : BlT F most N o) (hwh : WhT F most N (.mk k m ee t o)) : StT F most N (.mk k m ee t o) := by
  intro w B mb nb fb vb d fv ov s env V cs hA hX hL hW
  have hX0 := hX
  have hL0 := hL
  have hW0 := hW
  obtain ⟨es, tv, ts, ov0, os, rfl, r1, r2, r3, r4, r5⟩ := hX
  obtain ⟨l1, l2, l3, l4, l5, l6, l7⟩ := hL
  obtain ⟨w1, w2, w3, w4⟩ := hW
  obtain ⟨adt, ct, rfl⟩ := r2.is
  obtain ⟨ado, co, rfl⟩ := r4.is
  have hBf := hA.fram.hf
  have hBv := hA.fram.hv
  have hBm := hA.mach.hp
  have hml := hA.mach.mlt
  have hfl := hA.fram.flt
  have hvlt := hA.fram.vars.lt
  have hnl := hA.mach.nums.lt
  have HA := hidX hA
  generalize hres : stmtX runOps most (callX runOps most F N d) N (.mk k m ee t o) env s = res
  have HRES := hidX hres
  have hwc : ∀ X m' e' t' o', Below w.heap.size w X → Sm.mk k m ee t o = .mk kWhile m' e' t' o' → Calls Tryd.prog 66 #[.pointer (some ⟨fb, 0, none⟩), .agg (.string ⟨k.toArray⟩ :: .string ⟨m.toArray⟩ :: (es ++ [.slice adt t.length ct, .slice ado o.length co])).toArray] X (BTo w B mb nb fb vb fv ov F most d V res) := fun X m' e' t' o' hX he => by
    rw [← hres]
    exact (hwh X B mb nb fb vb d fv ov s env V _ m' e' t' o' he (hA.below hX) (XS.imp (fun _ h => h) (fun b hb => hX.block b (by omega)) _ _ hX0) hL0 hW0).mono fun _ _ h => bto_from h (Fr.of hX) (RowB.refl _ _)
  have hxc : ∀ X, Below w.heap.size w X → Calls Tryd.prog 67 #[.pointer (some ⟨fb, 0, none⟩), .agg es.toArray] X (VTo X B mb nb fv ov F most d (exprX runOps (callX runOps most F N d) env ee s)) := fun X hX =>
    hex X B mb nb fb vb d fv ov s env V 0 es (hA.mach.below hX) (hA.below hX).fram hA.of hA.fit (XE.imp (fun _ h => h) (fun b hb => hX.block b (by omega)) _ _ r1) l3 w1 hA.room
  have htc : ∀ X ov1 s1, At X B mb nb fb vb d fv ov1 F s1 most N env V → Below B w X → Calls Tryd.prog 46 #[.pointer (some ⟨fb, 0, none⟩), .slice adt t.length ct] X (BTo X B mb nb fb vb fv ov1 F most d V (blockX runOps most (callX runOps most F N d) N t env s1)) := fun X ov1 s1 hX hB => hbt X B mb nb fb vb d fv ov1 s1 env V _ hX (XLS.imp ⟨ts, r2, r3⟩ (fun _ h => h) (fun b hb => hB.block b hb)) l4 l5 w3
  have hoc : ∀ X ov1 s1, At X B mb nb fb vb d fv ov1 F s1 most N env V → Below B w X → Calls Tryd.prog 46 #[.pointer (some ⟨fb, 0, none⟩), .slice ado o.length co] X (BTo X B mb nb fb vb fv ov1 F most d V (blockX runOps most (callX runOps most F N d) N o env s1)) := fun X ov1 s1 hX hB => hbo X B mb nb fb vb d fv ov1 s1 env V _ hX (XLS.imp ⟨os, r4, r5⟩ (fun _ h => h) (fun b hb => hB.block b hb)) l6 l7 w4
  have hfx := exprX_fit runOps_fit (callX_fit runOps_fit most hP.funs N d) hA.fit ee s w1
  have hox := exprX_on (O := runOps) (callX_on runOps most F N d) env ee s
  generalize hrx : exprX runOps (callX runOps most F N d) env ee s = rx at hxc hfx hox
  have HRX := hidX hrx
  obtain ⟨ek, en, em, eks⟩ := ee
  obtain ⟨ya, za, rfl, ra, _⟩ := r1
  obtain ⟨ad1, cap1, rfl⟩ := ra.is
  have HWC := hidX hwc
  have HXC := hidX hxc
  have HTC := hidX htc
  have HOC := hidX hoc
  have HFX := hidX hfx
  have HOX := hidX hox
  have HW2 := hidX w2
  have hbb := box_blk w #[.string ⟨k.toArray⟩, .string ⟨m.toArray⟩, .string ⟨ek.toArray⟩, .int .i64 en, .string ⟨em.toArray⟩, .slice ad1 eks.length cap1, .slice adt t.length ct, .slice ado o.length co] 54
  have HBB := hidX hbb
  clear hA hX0 hL0 hW0 r2 r3 r4 r5 l3 l5 l7 w1 w2 w3 w4 hex hbt hbo hwh hwc hxc htc hoc hfx hox hrx hres ra hbb
  by_cases kw : k = kWhile
  · subst kw
    have g0 : (kWhile == [119, 104, 105, 108, 101]) = true := by decide
    go_enter Tryd.func53, Tryd.ntmps53
    go_wp2_with fail
    refine (HWC.out _ _ _ _ _ HBB.out rfl).mono ?_
    intro e X2 h2
    obtain ⟨b, he, h3⟩ := bto_bool h2
    subst he
    have H3 := hidX h3
    clear h2 h3
    go_wp2
    go_ret
    exact H3.out
  · have n0 : (k == [119, 104, 105, 108, 101]) = false := ne_lit kw
    obtain ⟨Wb, hWb⟩ : ∃ Wb, Wb = w.alloc (.cells #[.string ⟨k.toArray⟩, .string ⟨m.toArray⟩, .string ⟨ek.toArray⟩, .int .i64 en, .string ⟨em.toArray⟩, .slice ad1 eks.length cap1, .slice adt t.length ct, .slice ado o.length co] 54) := ⟨_, rfl⟩
    have hbW : Below w.heap.size w Wb := by rw [hWb]; exact HBB.out
    have hzW : Wb.heap.size = w.heap.size + 1 := by rw [hWb]; simp
    have hkW : Wb.heap[w.heap.size]? = some (.cells #[.string ⟨k.toArray⟩, .string ⟨m.toArray⟩, .string ⟨ek.toArray⟩, .int .i64 en, .string ⟨em.toArray⟩, .slice ad1 eks.length cap1, .slice adt t.length ct, .slice ado o.length co] 54 (0, 0)) := by rw [hWb]; exact heap_alloc_new w _
    have HBW := hidX hbW
    have HKW := hidX hkW
    have HZW := hidX hzW
    clear hbW hkW hzW
    go_enter Tryd.func53, Tryd.ntmps53
    go_wp2_with fail
    rw [← hWb]
    clear hWb
    refine (HXC.out _ HBW.out).mono ?_
    rintro e X2 ⟨hf2, ov2, hr2, h2⟩
    have hzW := HZW.out
    have hz2 := hf2.size
    have hroW : ov.ownBlock ≠ some w.heap.size := fun e => by have := (HA.out.mach.own.lt _ e).2; omega
    have hAW := HA.out.below HBW.out
    have hof2 : ov2.ownBlock ≠ some fb := hr2.ne (by omega) HA.out.of
    have hob2 : ov2.ownBlock ≠ some w.heap.size := hr2.ne (by omega) hroW
    have hfm2 := hAW.fram.stay hAW.mach HA.out.of hf2
    have hfw2 : Fr (Sx mb ov.ownBlock) w X2 := (Fr.of HBW.out).trans hf2 (fun _ _ h => h)
    have hlow2 : Below B w X2 := hfw2.lowX HA.out.mach
    have hbk2 := (hf2.block w.heap.size (by omega) (by rintro (e | e); omega; exact hroW e)).trans HKW.out
    have HFS2 := hidX (show Fr (Ss mb fb vb ov.ownBlock) w X2 from hfw2.mono (fun i h => h.toSs))
    have HR2 := hidX (hr2.mono (a := w) (by omega))
    have HOF2 := hidX hof2
    have HFM2 := hidX hfm2
    have HBK2 := hidX hbk2
    have HLW2 := hidX hlow2
    clear hf2 hr2 hof2 hfm2 hfw2 hlow2 hbk2 hAW hroW hob2
    cases rx with
    | stop c s1 =>
      simp only at h2
      obtain ⟨he, hm2⟩ := h2
      subst he
      have HM2 := hidX hm2
      have HE2 : Hid (res = .stop c s1) := by unfold Hid; rw [← HRES.out, stmtX, if_neg kw, HRX.out]
      clear hm2 HRES HRX kw
      go_wp2
      go_ret
      exact bto_stop HE2.out HFS2.out HR2.out HM2.out HFM2.out
    | val v s1 =>
      simp only at h2
      obtain ⟨he, hm2⟩ := h2
      subst he
      have hv64 : In64 v := HFX.out
      have hti : s.ticks ≤ s1.ticks := HOX.out.ticks
      have hroom := HA.out.room
      have HAt := hidX (show At X2 B mb nb fb vb d fv ov2 F s1 most N env V from ⟨hm2, HFM2.out, HOF2.out, HA.out.fit, by omega, HA.out.vl, HA.out.vn⟩)
      have HE1 : Hid (res = if k = kVar ∨ k = kSet then .next (setE env m v) s1 else if k = kIf then (if v = 0 then blockX runOps most (callX runOps most F N d) N o env s1 else blockX runOps most (callX runOps most F N d) N t env s1) else if k = kPrint then (if s1.out.length = 1000 then .stop .loud s1 else .next env ⟨s1.ticks, s1.out ++ [v]⟩) else if k = kReturn then .ret v s1 else .next env s1) := by unfold Hid; rw [← HRES.out, stmtX, if_neg kw, HRX.out]
      have b0 : X2.cell? ⟨w.heap.size, 0, none⟩ = some (.string ⟨k.toArray⟩) := cell_of_blk HBK2.out 0
      have b1 : X2.cell? ⟨w.heap.size, 1, none⟩ = some (.string ⟨m.toArray⟩) := cell_of_blk HBK2.out 1
      have b6 : X2.cell? ⟨w.heap.size, 6, none⟩ = some (.slice adt t.length ct) := cell_of_blk HBK2.out 6
      have b7 : X2.cell? ⟨w.heap.size, 7, none⟩ = some (.slice ado o.length co) := cell_of_blk HBK2.out 7
      have f1 : X2.cell? ⟨fb, 1, none⟩ = some (.map (some vb)) := cell_of_blk HFM2.out.blk 1
      have HM2 := hidX hm2
      clear hm2 HRES HRX
      by_cases kv : k = kVar ∨ k = kSet
      · have HE2 : Hid (res = .next (setE env m v) s1) := by unfold Hid; rw [HE1.out, if_pos kv]
        have hmV := HW2.out kv
        obtain ⟨up, hup⟩ := Classical.axiomOfChoice (fun n => env_put HFM2.out.vars HA.out.vl hmV (by omega) hv64 (X2.drewN n) rfl)
        have hu1 : ∀ n, (Instr.mapUpdate 63 (.map (some vb)) (.string ⟨m.toArray⟩) (.int .i64 v)).run Tryd.prog (X2.drewN n) = .ok () (up n) := fun n => (hup n).1
        have hu0 : (Instr.mapUpdate 63 (.map (some vb)) (.string ⟨m.toArray⟩) (.int .i64 v)).run Tryd.prog X2.drew = .ok () (up 1) := hu1 1
        have hfin : ∀ n, BTo w B mb nb fb vb fv ov F most d V res (.returned (.bool true)) (up n) := fun n => by
          obtain ⟨_, hev, hg⟩ := hup n
          have hbd : Below X2.heap.size X2 (X2.drewN n) := by (repeat (first | exact Below.refl _ _ | assumption | refine Below.drew ?_ | refine Below.trans ?_ (drewN_below' _ _ _) | refine Below.setCell ?_ (by first | (simp; done) | (simp; omega)) _ | refine Below.alloc ?_ (by first | (simp; done) | (simp; omega)) _))
          have hvm := HFM2.out.vm HM2.out
          have hvf := HFM2.out.vf
          have hvo := HFM2.out.vo HM2.out
          have hmp := HFM2.out.vars.isMap
          have hd : ∀ b : Nat, (X2.drewN n).heap[b]? = X2.heap[b]? := fun b => rfl
          have hds : (X2.drewN n).heap.size = X2.heap.size := rfl
          have hm3 : Mach (up n) B mb nb fv ov2 F [] s1 most d := (HM2.out.below hbd).far (b := vb) (fun c hcl hc => hg.block c hcl (fun e => hc (by injection e))) hBv hvm HA.out.vn hvo
          have hf3 : Fram (up n) B mb fb vb (setE env m v) V 0 := ⟨hBf, hBv, HFM2.out.fm, (hg.block fb (by rw [hds]; exact HFM2.out.flt) (fun e => hvf (by injection e with e; exact e.symm))).trans ((hd fb).trans HFM2.out.blk), hev⟩
          exact bto_next HE2.out (HFS2.out.trans (T := Ss mb fb vb ov.ownBlock) ⟨hg.os, hg.tape, hg.output, by rw [← hds]; exact hg.size, fun b hb hs => (hg.block b (by rw [hds]; exact hb) (fun e => hs (Or.inr (Or.inr (Or.inl (by injection e with e)))))).trans (hd b)⟩ (fun _ _ h => h)) HR2.out hm3 hf3
        have HFIN := hidX hfin
        clear hup hmV HE1 hfin
        rcases kv with rfl | rfl
        · have g1 : (kVar == [118, 97, 114]) = true := by decide
          go_wp2_with fail
          go_region
          all_goals (
            go_wp2
            go_ret
            exact HFIN.out _)
        · have g1 : (kSet == [118, 97, 114]) = false := by decide
          have g2 : (kSet == [115, 101, 116]) = true := by decide
          go_wp2_with fail
          go_region
          all_goals (
            go_wp2
            go_ret
            exact HFIN.out _)
      · obtain ⟨kv1, kv2⟩ := not_or.1 kv
        have n1 : (k == [118, 97, 114]) = false := ne_lit kv1
        have n2 : (k == [115, 101, 116]) = false := ne_lit kv2
        by_cases k3 : k = kIf
        · subst k3
          have g3 : (kIf == [105, 102]) = true := by decide
          by_cases hv0 : v = 0
          · subst hv0
            have HE2 : Hid (res = blockX runOps most (callX runOps most F N d) N o env s1) := by unfold Hid; rw [HE1.out, if_neg kv, if_pos rfl, if_pos rfl]
            clear HE1
            go_wp2_with fail
            refine (HOC.out X2 ov2 s1 HAt.out HLW2.out).mono ?_
            intro e X3 h3
            obtain ⟨b, he, h4⟩ := bto_bool h3
            subst he
            have H4 := hidX h4
            clear h3 h4
            go_wp2
            go_ret
            rw [HE2.out]
            exact bto_from H4.out HFS2.out HR2.out
          · have hv0' : (v == 0) = false := by simpa using hv0
            have HE2 : Hid (res = blockX runOps most (callX runOps most F N d) N t env s1) := by unfold Hid; rw [HE1.out, if_neg kv, if_pos rfl, if_neg hv0]
            clear HE1 hv0
            go_wp2_with fail
            refine (HTC.out X2 ov2 s1 HAt.out HLW2.out).mono ?_
            intro e X3 h3
            obtain ⟨b, he, h4⟩ := bto_bool h3
            subst he
            have H4 := hidX h4
            clear h3 h4
            go_wp2
            go_ret
            rw [HE2.out]
            exact bto_from H4.out HFS2.out HR2.out
        · have n3 : (k == [105, 102]) = false := ne_lit k3
          by_cases k4 : k = kPrint
          · subst k4
            have g4 : (kPrint == [112, 114, 105, 110, 116]) = true := by decide
            have HE2 : Hid (res = if s1.out.length = 1000 then .stop .loud s1 else .next env ⟨s1.ticks, s1.out ++ [v]⟩) := by unfold Hid; rw [HE1.out, if_neg kv, if_neg k3, if_pos rfl]
            have hpr := print_any HM2.out HFM2.out.blk HOF2.out v
            have HPR := hidX hpr
            clear HE1 hpr
            go_wp2_with fail
            refine HPR.out.mono ?_
            rintro e X3 ⟨hf3, h3⟩
            have hfm3 := HFM2.out.stay HM2.out HOF2.out hf3
            have HFS3 := hidX (show Fr (Ss mb fb vb ov.ownBlock) w X3 from HFS2.out.trans hf3 (fun i hi hs => Ss.next HR2.out hi hs.toSs))
            have HFM3 := hidX hfm3
            clear hf3 hfm3
            by_cases hlo : s1.out.length = 1000
            · rw [if_pos hlo] at h3
              obtain ⟨he, hm3⟩ := h3
              subst he
              have HM3 := hidX hm3
              have HE3 : Hid (res = .stop .loud s1) := by unfold Hid; rw [HE2.out, if_pos hlo]
              clear hm3 hlo HE2
              go_wp2
              go_ret
              exact bto_stop HE3.out HFS3.out HR2.out HM3.out HFM3.out
            · rw [if_neg hlo] at h3
              obtain ⟨he, ov3, hm3, hr3⟩ := h3
              subst he
              have HM3 := hidX hm3
              have HR3 := hidX (HR2.out.trans hr3 HFS2.out.size)
              have HE3 : Hid (res = .next env ⟨s1.ticks, s1.out ++ [v]⟩) := by unfold Hid; rw [HE2.out, if_neg hlo]
              clear hm3 hr3 hlo HE2
              go_wp2
              go_ret
              exact bto_next HE3.out HFS3.out HR3.out HM3.out HFM3.out
          · have n4 : (k == [112, 114, 105, 110, 116]) = false := ne_lit k4
            by_cases k5 : k = kReturn
            · subst k5
              have g5 : (kReturn == [114, 101, 116, 117, 114, 110]) = true := by decide
              have HE2 : Hid (res = .ret v s1) := by unfold Hid; rw [HE1.out, if_neg kv, if_neg k3, if_neg k4, if_pos rfl]
              have c2 : X2.cell? ⟨fb, 2, none⟩ = some (.int .i64 0) := cell_of_blk HFM2.out.blk 2
              have fr2 := free_of_blk HFM2.out.blk 2
              have hoth : ∀ c, c ≠ fb → (X2.setCell ⟨fb, 2, none⟩ (.int .i64 v)).heap[c]? = X2.heap[c]? := fun c hc => Below.heap_setCell _ _ _ _ (show c ≠ fb from hc)
              have hnf : fb ≠ nb := fun e => by
                have h1 := HFM2.out.blk
                obtain ⟨D, ⟨es, clock, h2, _⟩, _⟩ := HM2.out.nums
                rw [e, h2] at h1; cases h1
              have HM3 := hidX (HM2.out.far (b := fb) (fun c _ hc => hoth c hc) hBf HFM2.out.fm hnf HOF2.out)
              have HF3 := hidX (HFM2.out.answer (v := v))
              have HS3 := hidX (show Fr (Ss mb fb vb ov.ownBlock) w (X2.setCell ⟨fb, 2, none⟩ (.int .i64 v)) from HFS2.out.trans (T := Ss mb fb vb ov.ownBlock) ⟨rfl, rfl, rfl, by simp only [World.setCell, Array.size_modify]; exact Nat.le_refl _, fun b _ hs => hoth b (fun e => hs (Or.inr (Or.inl e)))⟩ (fun _ _ h => h))
              clear HE1 hoth hnf
              go_wp2
              go_ret
              exact bto_ret HE2.out HS3.out HR2.out HM3.out HF3.out
            · have n5 : (k == [114, 101, 116, 117, 114, 110]) = false := ne_lit k5
              have HE2 : Hid (res = .next env s1) := by unfold Hid; rw [HE1.out, if_neg kv, if_neg k3, if_neg k4, if_neg k5]
              clear HE1 kv kv1 kv2 k3 k4 k5 kw
              go_wp2
              go_ret
              exact bto_next HE2.out HFS2.out HR2.out HM2.out HFM2.out
end Go.Proofs.YtcebpmaggnephacDoor
