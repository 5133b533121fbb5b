/-
  Our own: package check: closures that come to every statement; Vars, Calls.
-/
import Derived.Test.YtcebpmaggnephabGreatDoorCheckEach
namespace Go.Proofs.YtcebpmaggnephabGreatDoor
open Go.RowKit Go.Maps

/-- The list of a function's variables, and a bound on its length. -/
def VSt (w : World) (lb : Nat) (acc : List (List UInt8)) (N : Nat) : Prop := ListAt w lb acc ∧ acc.length ≤ N
theorem VSt.below {w w' : World} {lb N : Nat} {acc : List (List UInt8)} (h : VSt w lb acc N) (hb : Below w.heap.size w w') {N' : Nat} (hN : N ≤ N') : VSt w' lb acc N' := ⟨h.1.below hb, Nat.le_trans h.2 hN⟩
theorem VSt.list {w : World} {lb N : Nat} {acc : List (List UInt8)} (h : VSt w lb acc N) : ListAt w lb acc := h.1
theorem varsM_mk (k m : List UInt8) (e : Ex) (t o : List Sm) (acc : List (List UInt8)) : acc ++ varsM (.mk k m e t o) = acc ++ (if k = kVar then [m] else []) ++ varsS t ++ varsS o := by rw [varsM]; simp
theorem callsM_mk (k m : List UInt8) (e : Ex) (t o : List Sm) (acc : List (List UInt8)) : onceL acc (callsM (.mk k m e t o)) = onceL (onceL (onceL acc (callsE e)) (callsS t)) (callsS o) := by rw [callsM, onceL_app, onceL_app]
abbrev cloV (lb : Nat) : Value := .func (.func 43) #[] #[.pointer (some ⟨lb, 0, none⟩)]
abbrev cloS (tb lb : Nat) : Value := .func (.func 45) #[] #[.pointer (some ⟨tb, 0, none⟩), .pointer (some ⟨lb, 0, none⟩)]
theorem cloV_any (k m : List UInt8) (ek : List UInt8) (en : Int) (em : List UInt8) (ev tv ov : Value) (w : World) (lb : Nat) (acc : List (List UInt8)) (N : Nat) (h : VSt w lb acc N) (hN : N + 1 ≤ 4000) (e : Ex) :
    Calls Tryz.prog 43 #[.agg #[.string ⟨k.toArray⟩, .string ⟨m.toArray⟩, .string ⟨ek.toArray⟩, .int .i64 en, .string ⟨em.toArray⟩, ev, tv, ov], .pointer (some ⟨lb, 0, none⟩)] w fun e' w' => e' = .returned (.tuple #[]) ∧ LFr lb lb w w' ∧ VSt w' lb (acc ++ if k = kVar then [m] else []) (N + 1 + nodesE e) := by
  refine (varsClo_any k m _ _ _ _ _ _ w lb acc h.1 (by have := h.2; omega)).mono ?_
  rintro e' w' ⟨h1, h2, h3⟩
  refine ⟨h1, h2, h3, ?_⟩
  have := h.2
  split <;> simp <;> omega
set_option maxRecDepth 100000 in
set_option maxHeartbeats 2000000 in
theorem cloS_any (k m : List UInt8) (ek : List UInt8) (en : Int) (em : List UInt8) (eks : List Ex) (ade : Option Addr) (cae : Nat) (tv ov : Value) (w : World) (lb tb mb : Nat) (acc : List (List UInt8)) (N : Nat) (h : CSt w lb tb mb acc N) (hX : XE (fun b => b < lb) w (.mk ek en em eks) [.string ⟨ek.toArray⟩, .int .i64 en, .string ⟨em.toArray⟩, .slice ade eks.length cae]) (hL : LowE (.mk ek en em eks)) (hN : N + 1 + nodesE (.mk ek en em eks) ≤ 4000) :
    Calls Tryz.prog 45 #[.agg #[.string ⟨k.toArray⟩, .string ⟨m.toArray⟩, .string ⟨ek.toArray⟩, .int .i64 en, .string ⟨em.toArray⟩, .slice ade eks.length cae, tv, ov], .pointer (some ⟨tb, 0, none⟩), .pointer (some ⟨lb, 0, none⟩)] w fun e' w' => e' = .returned (.tuple #[]) ∧ LFr mb lb w w' ∧ CSt w' lb tb mb (onceL acc (callsE (.mk ek en em eks))) (N + 1 + nodesE (.mk ek en em eks)) := by
  have hbb := box_blk w #[.string ⟨k.toArray⟩, .string ⟨m.toArray⟩, .string ⟨ek.toArray⟩, .int .i64 en, .string ⟨em.toArray⟩, .slice ade eks.length cae, tv, ov] 62
  have hlt := h.list.lt
  have hc := each_ex (.mk ek en em eks) _ _ lb tb mb acc N (h.below hbb (Nat.le_refl _)) (XE.imp (fun _ h => h) (fun b (hb : b < lb) => hbb.block b (by omega)) _ _ hX) hL (by omega)
  have HC := hidX hc
  clear hc hX
  go_enter Tryz.func45, Tryz.ntmps45
  go_wp2_with fail
  refine HC.out.mono ?_
  rintro e w2 ⟨rfl, hf2, hc2⟩
  have HC2 := hidX hc2
  clear hc2
  go_wp2
  go_end0
  exact ⟨rfl, (LFr.of hbb hlt).trans hf2, HC2.out.below (Below.refl _ _) (by omega)⟩
def EachV (l : List Sm) : Prop := ∀ (w : World) (v : Value) (lb : Nat) (acc : List (List UInt8)) (N : Nat), VSt w lb acc N → XLS (fun b => b < lb) w v l → l.length ≤ 30 → LowSs l → N + nodesS l ≤ 4000 →
  Calls Tryz.prog 42 #[v, cloV lb] w fun ev w' => ev = .returned (.tuple #[]) ∧ LFr lb lb w w' ∧ VSt w' lb (acc ++ varsS l) (N + nodesS l)
def EachMV : Sm → Prop
  | .mk _ _ _ t o => EachV t ∧ EachV o
set_option maxRecDepth 100000 in
set_option maxHeartbeats 4000000 in
theorem each_listV (l : List Sm) (ih : ∀ s ∈ l, EachMV s) : EachV l := by
  intro w v lb acc N hC hX hl hL hN
  obtain ⟨xs, hr, hk⟩ := hX
  obtain ⟨ad, cap, rfl⟩ := hr.is
  have hl' : (l.length : Int) ≤ 30 := by omega
  have hlt := hC.list.lt
  have IH := hidX ih
  have R := hidX hr
  have KK := hidX hk
  have LL := hidX hL
  have HC := hidX hC
  clear ih hr hk hL hC
  go_enter Tryz.func42, Tryz.ntmps42
  go_wp2_with fail
  go_loopw [8] (fun vi wr => ∃ q : Nat, q ≤ l.length ∧ vi = .int .i64 q ∧ LFr lb lb w wr ∧ Hid (VSt wr lb (acc ++ varsS (l.take q)) (N + nodesS (l.take q)))) (fun vi _ => l.length - (intOf vi).toNat)
  case atStart => exact ⟨0, Nat.zero_le _, rfl, LFr.refl _ _ _, by unfold Hid; rw [List.take_zero, varsS, nodesS]; simp only [List.append_nil, Nat.add_zero]; exact HC.out⟩
  case round =>
    obtain ⟨q, hq, rfl, hbl, HCS⟩ := hrel
    have hzr := hbl.size
    by_cases hltq : q < l.length
    · have hltq' : (q : Int) < (l.length : Int) := by omega
      obtain ⟨ka, e1, e2⟩ := KK.out.at hltq
      have hx := IH.out _ (List.getElem_mem hltq)
      have hlx := LL.out.mem _ (List.getElem_mem hltq)
      have htk : l.take (q + 1) = l.take q ++ [l[q]] := List.take_succ_eq_append_getElem hltq
      have hnt := nodesS_take l (q + 1)
      rw [htk, nodesS_snoc] at hnt
      have hkw : KeepA (fun b => b < lb) w wr := hbl.keep HC.out.list (by omega)
      generalize l[q] = x at e1 hx hlx htk hnt
      obtain ⟨xk, xm, xe, xt, xo⟩ := x
      rw [nodesM] at hnt
      obtain ⟨hxt, hxo⟩ := hx
      obtain ⟨l1, l2, l3, l4, l5, l6, l7⟩ := hlx
      obtain ⟨ea, ta, tsa, oa, osa, rfl, r1, r2, r3, r4, r5⟩ := e1
      obtain ⟨ga, off, rfl, hga, g1⟩ := x8_at R.out hltq r1.len e2
      generalize hA0 : acc ++ varsS (l.take q) = A0 at HCS
      generalize hN0 : N + nodesS (l.take q) = N0 at HCS
      have hlr : lb < wr.heap.size := by omega
      have hT : ∀ X a n, LFr lb lb wr X → VSt X lb a n → n + nodesS xt ≤ 4000 → Calls Tryz.prog 42 #[ta, cloV lb] X fun ev w' => ev = .returned (.tuple #[]) ∧ LFr lb lb X w' ∧ VSt w' lb (a ++ varsS xt) (n + nodesS xt) := fun X a n hX hS hn =>
        hxt X ta lb a n hS ⟨tsa, r2.imp (fun _ h => h) (fun b (hb : b < lb) => ((hbl.trans hX).keep HC.out.list (by omega)) b hb), XSs.imp (fun _ h => h) (fun b (hb : b < lb) => ((hbl.trans hX).keep HC.out.list (by omega)) b hb) _ _ r3⟩ l4 l5 hn
      have hO : ∀ X a n, LFr lb lb wr X → VSt X lb a n → n + nodesS xo ≤ 4000 → Calls Tryz.prog 42 #[oa, cloV lb] X fun ev w' => ev = .returned (.tuple #[]) ∧ LFr lb lb X w' ∧ VSt w' lb (a ++ varsS xo) (n + nodesS xo) := fun X a n hX hS hn =>
        hxo X oa lb a n hS ⟨osa, r4.imp (fun _ h => h) (fun b (hb : b < lb) => ((hbl.trans hX).keep HC.out.list (by omega)) b hb), XSs.imp (fun _ h => h) (fun b (hb : b < lb) => ((hbl.trans hX).keep HC.out.list (by omega)) b hb) _ _ r5⟩ l6 l7 hn
      obtain ⟨adt, ct, rfl⟩ := r2.is
      obtain ⟨ado, co, rfl⟩ := r4.is
      obtain ⟨xek, xen, xem, xes⟩ := xe
      have hr1 := r1
      obtain ⟨ya, za, rfl, ra, _⟩ := r1
      obtain ⟨ad1, cap1, rfl⟩ := ra.is
      have k1 := g1.keep (hkw ga hga)
      have a0 := k1.c0
      have a1 := k1.c1
      have a2 := k1.c2 0 _ (by decide) rfl
      have a3 := k1.c2 1 _ (by decide) rfl
      have a4 := k1.c2 2 _ (by decide) rfl
      have a5 := k1.c2 3 _ (by decide) rfl
      have a6 := k1.c6
      have a7 := k1.c7
      simp only [Nat.add_zero, Nat.reduceAdd] at a2 a3 a4 a5
      have hbx := box_blk wr #[.string ⟨xk.toArray⟩, .string ⟨xm.toArray⟩, .string ⟨xek.toArray⟩, .int .i64 xen, .string ⟨xem.toArray⟩, .slice ad1 xes.length cap1, .slice adt xt.length ct, .slice ado xo.length co] 62
      have hcl := cloV_any xk xm xek xen xem (.slice ad1 xes.length cap1) (.slice adt xt.length ct) (.slice ado xo.length co) _ lb A0 N0 (HCS.out.below hbx (Nat.le_refl _)) (by omega) (.mk xek xen xem xes)
      have hno := box_noOwn HCS.out.list (.cells #[.string ⟨xk.toArray⟩, .string ⟨xm.toArray⟩, .string ⟨xek.toArray⟩, .int .i64 xen, .string ⟨xem.toArray⟩, .slice ad1 xes.length cap1, .slice adt xt.length ct, .slice ado xo.length co] 62)
      have HCL := hidX hcl
      have HT := hidX hT
      have HO := hidX hO
      have HTK := hidX htk
      have HNO := hidX hno
      have HA0 := hidX hA0
      have HN0 := hidX hN0
      clear hcl hT hO hno r2 r3 r4 r5 e2 g1 k1 hxt hxo ra htk l3 l5 l7 hkw hA0 hr1
      go_wp2_with fail
      refine HCL.out.mono ?_
      rintro e w2 ⟨rfl, hf2, hc2⟩
      have hfX : LFr lb lb wr w2 := (LFr.of hbx hlr).trans hf2
      obtain ⟨t1, t2⟩ := hf2.block wr.heap.size (by simp) (by omega) (by omega) HNO.out
      have bk2 : w2.heap[wr.heap.size]? = _ := t1.trans (heap_alloc_new _ _)
      have b6 : w2.cell? ⟨wr.heap.size, 6, none⟩ = some (.slice adt xt.length ct) := cell_of_blk bk2 6
      have hTT := HT.out w2 _ _ hfX hc2 (by omega)
      have HTT := hidX hTT
      have BK2 := hidX bk2
      have T2 := hidX t2
      clear a0 a1 a2 a3 a4 a5 a6 a7 hTT t1 t2 bk2 hc2
      go_wp2_with fail
      refine HTT.out.mono ?_
      rintro e w3 ⟨rfl, hf3, hc3⟩
      obtain ⟨t1, t2⟩ := hf3.block wr.heap.size (heap_lt BK2.out) (by omega) (by omega) T2.out
      have bk3 : w3.heap[wr.heap.size]? = _ := t1.trans BK2.out
      have b7 : w3.cell? ⟨wr.heap.size, 7, none⟩ = some (.slice ado xo.length co) := cell_of_blk bk3 7
      have hOO := HO.out w3 _ _ (hfX.trans hf3) hc3 (by omega)
      have HOO := hidX hOO
      clear hOO t1 t2 bk3 hc3 b6
      go_wp2_with fail
      refine HOO.out.mono ?_
      rintro e w4 ⟨rfl, hf4, hc4⟩
      have HC4 := hidX hc4
      have hz4 := ((hfX.trans hf3).trans hf4).size
      clear hc4 b7
      go_wp2
      go_roundw
      case rel =>
        refine ⟨q + 1, by omega, by go_num, hbl.trans ((hfX.trans hf3).trans hf4), ?_⟩
        unfold Hid
        rw [HTK.out, varsS_snoc, nodesS_snoc, nodesM, ← List.append_assoc, HA0.out, varsM_mk]
        have := HC4.out
        rwa [show N0 + 1 + nodesE (.mk xek xen xem xes) + nodesS xt + nodesS xo = N + (nodesS (l.take q) + (1 + nodesE (.mk xek xen xem xes) + nodesS xt + nodesS xo)) by rw [← HN0.out]; omega] at this
      case measure => simp [intOf]; omega
    · have hqn : q = l.length := by omega
      subst hqn
      have hcs := HCS.out
      rw [List.take_length] at hcs
      have HCS2 := hidX hcs
      clear hcs
      go_wp2
      go_end0
      exact ⟨rfl, hbl, HCS2.out⟩
mutual
theorem each_smV : ∀ e : Sm, EachMV e
  | .mk _ _ _ t o => ⟨each_listV t (each_smsV t), each_listV o (each_smsV o)⟩
theorem each_smsV : ∀ l : List Sm, ∀ e ∈ l, EachMV e
  | [], _, h => absurd h (by simp)
  | e :: r, x, h => by
    rcases List.mem_cons.1 h with h | h
    · rw [h]; exact each_smV e
    · exact each_smsV r x h
end
theorem each_anyV (l : List Sm) : EachV l := each_listV l (each_smsV l)
def EachC (l : List Sm) : Prop := ∀ (w : World) (v : Value) (lb tb mb : Nat) (acc : List (List UInt8)) (N : Nat), CSt w lb tb mb acc N → XLS (fun b => b < lb) w v l → l.length ≤ 30 → LowSs l → N + nodesS l ≤ 4000 →
  Calls Tryz.prog 42 #[v, cloS tb lb] w fun ev w' => ev = .returned (.tuple #[]) ∧ LFr mb lb w w' ∧ CSt w' lb tb mb (onceL acc (callsS l)) (N + nodesS l)
def EachMC : Sm → Prop
  | .mk _ _ _ t o => EachC t ∧ EachC o
set_option maxRecDepth 100000 in
set_option maxHeartbeats 4000000 in
theorem each_listC (l : List Sm) (ih : ∀ s ∈ l, EachMC s) : EachC l := by
  intro w v lb tb mb acc N hC hX hl hL hN
  obtain ⟨xs, hr, hk⟩ := hX
  obtain ⟨ad, cap, rfl⟩ := hr.is
  have hl' : (l.length : Int) ≤ 30 := by omega
  have hlt := hC.list.lt
  obtain ⟨es, clock, hmb⟩ := hC.mlt
  have hml := heap_lt hmb
  have hlm := hC.ord.1
  have IH := hidX ih
  have R := hidX hr
  have KK := hidX hk
  have LL := hidX hL
  have HC := hidX hC
  clear ih hr hk hL hC
  go_enter Tryz.func42, Tryz.ntmps42
  go_wp2_with fail
  go_loopw [8] (fun vi wr => ∃ q : Nat, q ≤ l.length ∧ vi = .int .i64 q ∧ LFr mb lb w wr ∧ Hid (CSt wr lb tb mb (onceL acc (callsS (l.take q))) (N + nodesS (l.take q)))) (fun vi _ => l.length - (intOf vi).toNat)
  case atStart => exact ⟨0, Nat.zero_le _, rfl, LFr.refl _ _ _, by unfold Hid; rw [List.take_zero, callsS, nodesS]; simp only [onceL, Nat.add_zero]; exact HC.out⟩
  case round =>
    obtain ⟨q, hq, rfl, hbl, HCS⟩ := hrel
    have hzr := hbl.size
    by_cases hltq : q < l.length
    · have hltq' : (q : Int) < (l.length : Int) := by omega
      obtain ⟨ka, e1, e2⟩ := KK.out.at hltq
      have hx := IH.out _ (List.getElem_mem hltq)
      have hlx := LL.out.mem _ (List.getElem_mem hltq)
      have htk : l.take (q + 1) = l.take q ++ [l[q]] := List.take_succ_eq_append_getElem hltq
      have hnt := nodesS_take l (q + 1)
      rw [htk, nodesS_snoc] at hnt
      have hkw : KeepA (fun b => b < lb) w wr := hbl.keep HC.out.list (by omega)
      generalize l[q] = x at e1 hx hlx htk hnt
      obtain ⟨xk, xm, xe, xt, xo⟩ := x
      rw [nodesM] at hnt
      obtain ⟨hxt, hxo⟩ := hx
      obtain ⟨l1, l2, l3, l4, l5, l6, l7⟩ := hlx
      obtain ⟨ea, ta, tsa, oa, osa, rfl, r1, r2, r3, r4, r5⟩ := e1
      obtain ⟨ga, off, rfl, hga, g1⟩ := x8_at R.out hltq r1.len e2
      generalize hA0 : onceL acc (callsS (l.take q)) = A0 at HCS
      generalize hN0 : N + nodesS (l.take q) = N0 at HCS
      have hlr : lb < wr.heap.size := by omega
      have hT : ∀ X a n, LFr mb lb wr X → CSt X lb tb mb a n → n + nodesS xt ≤ 4000 → Calls Tryz.prog 42 #[ta, cloS tb lb] X fun ev w' => ev = .returned (.tuple #[]) ∧ LFr mb lb X w' ∧ CSt w' lb tb mb (onceL a (callsS xt)) (n + nodesS xt) := fun X a n hX hS hn =>
        hxt X ta lb tb mb a n hS ⟨tsa, r2.imp (fun _ h => h) (fun b (hb : b < lb) => ((hbl.trans hX).keep HC.out.list (by omega)) b hb), XSs.imp (fun _ h => h) (fun b (hb : b < lb) => ((hbl.trans hX).keep HC.out.list (by omega)) b hb) _ _ r3⟩ l4 l5 hn
      have hO : ∀ X a n, LFr mb lb wr X → CSt X lb tb mb a n → n + nodesS xo ≤ 4000 → Calls Tryz.prog 42 #[oa, cloS tb lb] X fun ev w' => ev = .returned (.tuple #[]) ∧ LFr mb lb X w' ∧ CSt w' lb tb mb (onceL a (callsS xo)) (n + nodesS xo) := fun X a n hX hS hn =>
        hxo X oa lb tb mb a n hS ⟨osa, r4.imp (fun _ h => h) (fun b (hb : b < lb) => ((hbl.trans hX).keep HC.out.list (by omega)) b hb), XSs.imp (fun _ h => h) (fun b (hb : b < lb) => ((hbl.trans hX).keep HC.out.list (by omega)) b hb) _ _ r5⟩ l6 l7 hn
      obtain ⟨adt, ct, rfl⟩ := r2.is
      obtain ⟨ado, co, rfl⟩ := r4.is
      obtain ⟨xek, xen, xem, xes⟩ := xe
      have hr1 := r1
      obtain ⟨ya, za, rfl, ra, _⟩ := r1
      obtain ⟨ad1, cap1, rfl⟩ := ra.is
      have k1 := g1.keep (hkw ga hga)
      have a0 := k1.c0
      have a1 := k1.c1
      have a2 := k1.c2 0 _ (by decide) rfl
      have a3 := k1.c2 1 _ (by decide) rfl
      have a4 := k1.c2 2 _ (by decide) rfl
      have a5 := k1.c2 3 _ (by decide) rfl
      have a6 := k1.c6
      have a7 := k1.c7
      simp only [Nat.add_zero, Nat.reduceAdd] at a2 a3 a4 a5
      have hbx := box_blk wr #[.string ⟨xk.toArray⟩, .string ⟨xm.toArray⟩, .string ⟨xek.toArray⟩, .int .i64 xen, .string ⟨xem.toArray⟩, .slice ad1 xes.length cap1, .slice adt xt.length ct, .slice ado xo.length co] 62
      have hcl := cloS_any xk xm xek xen xem xes ad1 cap1 (.slice adt xt.length ct) (.slice ado xo.length co) _ lb tb mb A0 N0 (HCS.out.below hbx (Nat.le_refl _)) (XE.imp (fun _ h => h) (fun b (hb : b < lb) => (hbx.block b (by omega)).trans (hkw b hb)) _ _ hr1) l3 (by omega)
      have hno := box_noOwn HCS.out.list (.cells #[.string ⟨xk.toArray⟩, .string ⟨xm.toArray⟩, .string ⟨xek.toArray⟩, .int .i64 xen, .string ⟨xem.toArray⟩, .slice ad1 xes.length cap1, .slice adt xt.length ct, .slice ado xo.length co] 62)
      have HCL := hidX hcl
      have HT := hidX hT
      have HO := hidX hO
      have HTK := hidX htk
      have HNO := hidX hno
      have HA0 := hidX hA0
      have HN0 := hidX hN0
      clear hcl hT hO hno r2 r3 r4 r5 e2 g1 k1 hxt hxo ra htk l3 l5 l7 hkw hA0 hr1
      go_wp2_with fail
      refine HCL.out.mono ?_
      rintro e w2 ⟨rfl, hf2, hc2⟩
      have hfX : LFr mb lb wr w2 := (LFr.of hbx hlr).trans hf2
      obtain ⟨t1, t2⟩ := hf2.block wr.heap.size (by simp) (by omega) (by omega) HNO.out
      have bk2 : w2.heap[wr.heap.size]? = _ := t1.trans (heap_alloc_new _ _)
      have b6 : w2.cell? ⟨wr.heap.size, 6, none⟩ = some (.slice adt xt.length ct) := cell_of_blk bk2 6
      have hTT := HT.out w2 _ _ hfX hc2 (by omega)
      have HTT := hidX hTT
      have BK2 := hidX bk2
      have T2 := hidX t2
      clear a0 a1 a2 a3 a4 a5 a6 a7 hTT t1 t2 bk2 hc2
      go_wp2_with fail
      refine HTT.out.mono ?_
      rintro e w3 ⟨rfl, hf3, hc3⟩
      obtain ⟨t1, t2⟩ := hf3.block wr.heap.size (heap_lt BK2.out) (by omega) (by omega) T2.out
      have bk3 : w3.heap[wr.heap.size]? = _ := t1.trans BK2.out
      have b7 : w3.cell? ⟨wr.heap.size, 7, none⟩ = some (.slice ado xo.length co) := cell_of_blk bk3 7
      have hOO := HO.out w3 _ _ (hfX.trans hf3) hc3 (by omega)
      have HOO := hidX hOO
      clear hOO t1 t2 bk3 hc3 b6
      go_wp2_with fail
      refine HOO.out.mono ?_
      rintro e w4 ⟨rfl, hf4, hc4⟩
      have HC4 := hidX hc4
      have hz4 := ((hfX.trans hf3).trans hf4).size
      clear hc4 b7
      go_wp2
      go_roundw
      case rel =>
        refine ⟨q + 1, by omega, by go_num, hbl.trans ((hfX.trans hf3).trans hf4), ?_⟩
        unfold Hid
        rw [HTK.out, callsS_snoc, nodesS_snoc, nodesM, onceL_app, HA0.out, callsM_mk]
        have := HC4.out
        rwa [show N0 + 1 + nodesE (.mk xek xen xem xes) + nodesS xt + nodesS xo = N + (nodesS (l.take q) + (1 + nodesE (.mk xek xen xem xes) + nodesS xt + nodesS xo)) by rw [← HN0.out]; omega] at this
      case measure => simp [intOf]; omega
    · have hqn : q = l.length := by omega
      subst hqn
      have hcs := HCS.out
      rw [List.take_length] at hcs
      have HCS2 := hidX hcs
      clear hcs
      go_wp2
      go_end0
      exact ⟨rfl, hbl, HCS2.out⟩
mutual
theorem each_smC : ∀ e : Sm, EachMC e
  | .mk _ _ _ t o => ⟨each_listC t (each_smsC t), each_listC o (each_smsC o)⟩
theorem each_smsC : ∀ l : List Sm, ∀ e ∈ l, EachMC e
  | [], _, h => absurd h (by simp)
  | e :: r, x, h => by
    rcases List.mem_cons.1 h with h | h
    · rw [h]; exact each_smC e
    · exact each_smsC r x h
end
theorem each_anyC (l : List Sm) : EachC l := each_listC l (each_smsC l)
end Go.Proofs.YtcebpmaggnephabGreatDoor
