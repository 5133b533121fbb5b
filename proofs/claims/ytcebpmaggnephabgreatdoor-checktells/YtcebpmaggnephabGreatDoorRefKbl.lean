/-
  Our own: statements, as the document's own model reads them.
-/
import Derived.Test.YtcebpmaggnephabGreatDoorRefKex
import Derived.Deep.AppendLies
import Derived.Deep.RegionLaw
namespace Go.Proofs.YtcebpmaggnephabGreatDoor
open Go.RowKit Go.Maps

/-- What a block comes to. -/
def KTo (w : World) (B p : Nat) (fv av vv : Value) (F : List Fu) (vis : List (List UInt8)) (r : Cs) (e : Ending) (w' : World) : Prop :=
  KFr p av.ownBlock vv.ownBlock w w' ∧ match r with
    | .bad c => e = .returned (.int .i64 ((c : Nat) : Int))
    | .ok all' => e = .returned (.int .i64 0) ∧ ∃ av' vv', Know w' B p fv av' vv' F all' vis ∧ RowB w av.ownBlock av'.ownBlock ∧ RowB w vv.ownBlock vv'.ownBlock
theorem kto_bad {w w' : World} {B p : Nat} {fv av vv : Value} {F : List Fu} {vis : List (List UInt8)} {r : Cs} {c : Nat} {n : Int} (hr : r = .bad c) (hf : KFr p av.ownBlock vv.ownBlock w w') (hn : n = (c : Int)) : KTo w B p fv av vv F vis r (.returned (.int .i64 n)) w' := by
  subst hr hn; exact ⟨hf, rfl⟩
theorem kto_ok {w w' : World} {B p : Nat} {fv av vv av' vv' : Value} {F : List Fu} {vis all' : List (List UInt8)} {r : Cs} (hr : r = .ok all') (hf : KFr p av.ownBlock vv.ownBlock w w') (hk : Know w' B p fv av' vv' F all' vis) (h1 : RowB w av.ownBlock av'.ownBlock) (h2 : RowB w vv.ownBlock vv'.ownBlock) : KTo w B p fv av vv F vis r (.returned (.int .i64 0)) w' := by
  subst hr; exact ⟨hf, rfl, av', vv', hk, h1, h2⟩
theorem kto_base {X X' w' : World} {B p : Nat} {fv av vv : Value} {F : List Fu} {vis : List (List UInt8)} {r : Cs} {e : Ending} (h : KTo X' B p fv av vv F vis r e w') (hb : Below X.heap.size X X') : KTo X B p fv av vv F vis r e w' := by
  obtain ⟨h1, h2⟩ := h
  refine ⟨(KFr.of hb).trans h1 (RowB.refl _ _) (RowB.refl _ _), ?_⟩
  cases r with
  | bad c => exact h2
  | ok all' =>
    obtain ⟨h3, av', vv', h4, h5, h6⟩ := h2
    exact ⟨h3, av', vv', h4, h5.mono hb.size, h6.mono hb.size⟩
theorem own_cap2 {w : World} {B size n m c : Nat} {t : TypeId} {ad : Option Addr} {xs : List Value} (h : w.ownsRow B t size (.slice ad m c) n xs) : n ≤ c ∧ (c : Int) ≤ 9223372036854775807 := by
  obtain ⟨_, ⟨_, h1⟩ | ⟨g, cap, cur, h1, _, _, h2, h3, _⟩⟩ := h
  · next h0 => injection h0 with _ _ h0; subst h0 h1; simp
  · injection h1 with _ _ h1; subst h1; unfold maxLen at h3; omega
theorem own_two {g n cap : Nat} : (Value.slice (some ⟨g, 0, none⟩) n cap).ownBlock = some g := rfl
def KBo (l : List Sm) : Prop := ∀ (w : World) (B p : Nat) (fv av vv : Value) (F : List Fu) (all vis : List (List UInt8)) (v : Value), Know w B p fv av vv F all vis → XLS (fun b => b < B) w v l → l.length ≤ 30 → LowSs l → F.length ≤ 10 → (∀ f ∈ F, LowF f) → all.length ≤ 12 → vis.length ≤ all.length →
  Calls Tryz.prog 72 #[.pointer (some ⟨p, 0, none⟩), v] w (KTo w B p fv av vv F vis (blockC F all vis l))
theorem blockC_ge {F : List Fu} {all vis b : List (List UInt8)} {l : List Sm} (h : blockC F all vis l = .ok b) : all.length ≤ b.length := by
  rw [(block_vars F l all vis b h).1, List.length_append]; omega
theorem blk_bad3 {F : List Fu} {all vis : List (List UInt8)} {l : List Sm} {q : Nat} {k m : List UInt8} {e : Ex} {t o : List Sm} {r : Cs} (hr : r = (stmtC F all vis (.mk k m e t o)).bind fun all => blockC F all (visC vis (.mk k m e t o)) (l.drop (q + 1))) (h : shapeS k m t.length o.length = false) : r = .bad 3 := by
  rw [hr, stmtC, if_pos h]; rfl
set_option maxRecDepth 100000 in
set_option maxHeartbeats 32000000 in
theorem kbl_step (l : List Sm) (ih : ∀ k m e t o, Sm.mk k m e t o ∈ l → KBo t ∧ KBo o) : KBo l := by
  intro w B p fv av vv F all vis v hC hX hl hL hF hFl hall hvis
  obtain ⟨xs, hr, hk⟩ := hX
  obtain ⟨ad, cap, rfl⟩ := hr.is
  have hl' : (l.length : Int) ≤ 30 := by omega
  have hvis' : (vis.length : Int) ≤ 12 := by omega
  have hpB := hC.hp
  have R := hidX hr
  have KK := hidX hk
  have LL := hidX hL
  have IH := hidX ih
  have HC := hidX hC
  have HFL := hidX hFl
  generalize hres : blockC F all vis l = res
  have HRES := hidX hres
  obtain ⟨adw, cw, hvv⟩ := own_sl hC.vi
  have k3 : w.cell? ⟨p, 3, none⟩ = some vv := cell_of_blk hC.blk 3
  rw [hvv] at k3
  have HVV := hidX hvv
  clear hr hk hL ih hC hFl hres hvv
  go_enter Tryz.func72, Tryz.ntmps72
  go_wp2_with fail
  go_loopw [6] (fun vi wr => ∃ (q : Nat) (allq visq : List (List UInt8)) (avq vvq : Value), q ≤ l.length ∧ vi = .int .i64 q ∧ Hid (Know wr B p fv avq vvq F allq visq) ∧ KFr p av.ownBlock vv.ownBlock w wr ∧ RowB w av.ownBlock avq.ownBlock ∧ RowB w vv.ownBlock vvq.ownBlock ∧ allq.length ≤ 12 ∧ visq.length ≤ allq.length ∧ vis.length ≤ visq.length ∧ Hid (visq.take vis.length = vis) ∧ Hid (res = blockC F allq visq (l.drop q))) (fun vi _ => l.length - (intOf vi).toNat)
  case atStart => exact ⟨0, all, vis, av, vv, Nat.zero_le _, rfl, HC.out, KFr.refl _ _ _ _, RowB.refl _ _, RowB.refl _ _, hall, hvis, Nat.le_refl _, List.take_length, by unfold Hid; rw [← HRES.out, List.drop_zero]⟩
  case round =>
    clear k3
    obtain ⟨q, allq, visq, avq, vvq, hq, rfl, HKQ, hfr, hna, hnv, hal, hvl, hvp, HPRE, HB⟩ := hrel
    obtain ⟨ada, ca, rfl⟩ := own_sl HKQ.out.al
    obtain ⟨adv, cv, rfl⟩ := own_sl HKQ.out.vi
    have hplr := HKQ.out.plt
    have hlowr : Below B w wr := hfr.low HC.out
    have HFR := hidX hfr
    have HNA := hidX hna
    have HNV := hidX hnv
    clear hfr hna hnv
    by_cases hlt : q < l.length
    · have hlt' : (q : Int) < (l.length : Int) := by omega
      obtain ⟨ka, e1, e2⟩ := KK.out.at hlt
      have hmem := List.getElem_mem hlt
      have hlx := LL.out.mem _ hmem
      have hstep := HB.out.trans (blockC_at hlt)
      generalize l[q] = x at e1 hlx hmem hstep
      obtain ⟨k, m, e, t, o⟩ := x
      obtain ⟨ih1, ih2⟩ := IH.out k m e t o hmem
      obtain ⟨l1, l2, l3, l4, l5, l6, l7⟩ := hlx
      obtain ⟨es, tv, ts, ov, os, rfl, r1, r2, r3, r4, r5⟩ := e1
      obtain ⟨g, off, rfl, hg, k1⟩ := x8_at R.out hlt r1.len e2
      obtain ⟨adt0, ct0, rfl⟩ := r2.is
      obtain ⟨ado0, co0, rfl⟩ := r4.is
      have hex : ∀ X aX vX, Know X B p fv aX vX F allq visq → Below B w X → Calls Tryz.prog 95 #[.pointer (some ⟨p, 0, none⟩), .agg es.toArray] X fun ev w' => ev = .returned (.int .i64 ((exprC F visq e : Nat) : Int)) ∧ Below X.heap.size X w' := fun X aX vX hX hB => kex_any e X B p fv aX vX F allq visq es hX (XE.imp (fun _ h => h) (fun b hb => hB.block b hb) _ _ r1) l3 hF HFL.out (by omega)
      have ht' : ∀ X aX vX A V, Know X B p fv aX vX F A V → Below B w X → A.length ≤ 12 → V.length ≤ A.length → Calls Tryz.prog 72 #[.pointer (some ⟨p, 0, none⟩), .slice adt0 t.length ct0] X (KTo X B p fv aX vX F V (blockC F A V t)) := fun X aX vX A V hX hB h1 h2 => ih1 X B p fv aX vX F A V _ hX (XLS.imp ⟨ts, r2, r3⟩ (fun _ h => h) (fun b hb => hB.block b hb)) l4 l5 hF HFL.out h1 h2
      have ho' : ∀ X aX vX A V, Know X B p fv aX vX F A V → Below B w X → A.length ≤ 12 → V.length ≤ A.length → Calls Tryz.prog 72 #[.pointer (some ⟨p, 0, none⟩), .slice ado0 o.length co0] X (KTo X B p fv aX vX F V (blockC F A V o)) := fun X aX vX A V hX hB h1 h2 => ih2 X B p fv aX vX F A V _ hX (XLS.imp ⟨os, r4, r5⟩ (fun _ h => h) (fun b hb => hB.block b hb)) l6 l7 hF HFL.out h1 h2
      obtain ⟨ek, en, em, eks⟩ := e
      obtain ⟨ya, za, rfl, ra, _⟩ := r1
      obtain ⟨ad1, cap1, rfl⟩ := ra.is
      have y1 := k1.keep (hlowr.block g hg)
      have a0 := y1.c0
      have a1 := y1.c1
      have a2 := y1.c2 0 _ (by decide) rfl
      have a3 := y1.c2 1 _ (by decide) rfl
      have a4 := y1.c2 2 _ (by decide) rfl
      have a5 := y1.c2 3 _ (by decide) rfl
      have a6 := y1.c6
      have a7 := y1.c7
      simp only [Nat.add_zero, Nat.reduceAdd] at a2 a3 a4 a5
      have l4' : (t.length : Int) ≤ 30 := by omega
      have l6' : (o.length : Int) ≤ 30 := by omega
      have HEX := hidX hex
      have HT := hidX ht'
      have HO := hidX ho'
      have HST := hidX hstep
      clear r2 r3 r4 r5 e2 ht' ho' y1 hmem ih1 ih2 l3 l5 l7 ra hex k1 hstep HB hlowr
      go_wp2_with fail
      refine (rName_at m (by omega) _).mono ?_
      rintro e X1 ⟨rfl, hb1⟩
      have hbx := box_blk wr #[.string ⟨k.toArray⟩, .string ⟨m.toArray⟩, .string ⟨ek.toArray⟩, .int .i64 en, .string ⟨em.toArray⟩, .slice ad1 eks.length cap1, .slice adt0 t.length ct0, .slice ado0 o.length co0] 114
      have z1 : wr.heap.size < X1.heap.size := by have := hb1.size; simp at this; omega
      have hb01 : Below wr.heap.size wr X1 := bl_trans hbx hbx.size hb1
      have bk : X1.heap[wr.heap.size]? = some (.cells #[.string ⟨k.toArray⟩, .string ⟨m.toArray⟩, .string ⟨ek.toArray⟩, .int .i64 en, .string ⟨em.toArray⟩, .slice ad1 eks.length cap1, .slice adt0 t.length ct0, .slice ado0 o.length co0] 114 (0, 0)) := (hb1.block _ (by simp)).trans (heap_alloc_new _ _)
      have BK := hidX bk
      have d0 : X1.cell? ⟨wr.heap.size, 0, none⟩ = some (.string ⟨k.toArray⟩) := cell_of_blk bk 0
      have d1 : X1.cell? ⟨wr.heap.size, 1, none⟩ = some (.string ⟨m.toArray⟩) := cell_of_blk bk 1
      have d2 : X1.cell? ⟨wr.heap.size, 2, none⟩ = some (.string ⟨ek.toArray⟩) := cell_of_blk bk 2
      have d3 : X1.cell? ⟨wr.heap.size, 3, none⟩ = some (.int .i64 en) := cell_of_blk bk 3
      have d4 : X1.cell? ⟨wr.heap.size, 4, none⟩ = some (.string ⟨em.toArray⟩) := cell_of_blk bk 4
      have d5 : X1.cell? ⟨wr.heap.size, 5, none⟩ = some (.slice ad1 eks.length cap1) := cell_of_blk bk 5
      have d6 : X1.cell? ⟨wr.heap.size, 6, none⟩ = some (.slice adt0 t.length ct0) := cell_of_blk bk 6
      have d7 : X1.cell? ⟨wr.heap.size, 7, none⟩ = some (.slice ado0 o.length co0) := cell_of_blk bk 7
      have HK1 := hidX (HKQ.out.below hb01)
      have hfr1 : KFr p av.ownBlock vv.ownBlock w X1 := HFR.out.trans (KFr.of hb01) HNA.out HNV.out
      have HFR1 := hidX hfr1
      have hlow1 : Below B w X1 := hfr1.low HC.out
      have hex1 := HEX.out X1 _ _ HK1.out hlow1
      generalize hce : exprC F visq (.mk ek en em eks) = ce at hex1
      have HCE := hidX hce
      have HX1 := hidX hex1
      have hnb : ∀ b, (Value.slice ada allq.length ca).ownBlock = some b → b ≠ wr.heap.size := fun b e => by have := (HKQ.out.al.lt b e).2; omega
      have hnb2 : ∀ b, (Value.slice adv visq.length cv).ownBlock = some b → b ≠ wr.heap.size := fun b e => by have := (HKQ.out.vi.lt b e).2; omega
      have HNB := hidX hnb
      have HNB2 := hidX hnb2
      clear bk hb1 a0 a1 a2 a3 a4 a5 a6 a7 hex1 hfr1 hce HEX hbx hnb hnb2
      by_cases K0 : k = kVar
      · subst K0
        have g21 : (kVar == [118, 97, 114]) = true := by decide
        have g22 : (kVar == [115, 101, 116]) = false := by decide
        have g23 : (kVar == [114, 101, 116, 117, 114, 110]) = false := by decide
        have g24 : (kVar == [112, 114, 105, 110, 116]) = false := by decide
        have g25 : (kVar == [119, 104, 105, 108, 101]) = false := by decide
        have g26 : (kVar == [105, 102]) = false := by decide
        have sh : shapeS kVar m t.length o.length = decide (nameB m = true ∧ t.length = 0 ∧ o.length = 0) := rfl
        cases hnm : nameB m with
        | false =>
          have HE : Hid (res = .bad 3) := blk_bad3 HST.out (by rw [sh]; simp [hnm])
          clear HST HX1 HCE sh hnm
          go_wp2
          go_ret
          exact kto_bad HE.out HFR1.out rfl
        | true =>
          by_cases c2 : t.length = 0
          · by_cases c3 : o.length = 0
            · have SHT : Hid (shapeS kVar m t.length o.length = true) := by unfold Hid; rw [sh]; simp [hnm, c2, c3]
              have c2' : (t.length : Int) = 0 := by omega
              have c3' : (o.length : Int) = 0 := by omega
              have HT0 : Hid (t = []) := List.length_eq_zero_iff.1 c2
              have HO0 : Hid (o = []) := List.length_eq_zero_iff.1 c3
              clear sh hnm c2 c3
              go_wp2_with fail
              refine HX1.out.mono ?_
              rintro e X2 ⟨rfl, hb2⟩
              have z2 : wr.heap.size < X2.heap.size := by have := hb2.size; omega
              have hfr2 : KFr p av.ownBlock vv.ownBlock w X2 := HFR1.out.trans (KFr.of hb2) HNA.out HNV.out
              have HFR2 := hidX hfr2
              have HK2 := hidX (HK1.out.below hb2)
              have bk2 := (hb2.block _ z1).trans BK.out
              have BK2 := hidX bk2
              clear hfr2 bk2 d0 d1 d2 d3 d4 d5 d6 d7 HX1
              by_cases hc : ce = 0
              · have hc' : ¬ (0 : Int) < (ce : Int) := by omega
                have hce0 : exprC F visq (.mk ek en em eks) = 0 := HCE.out.trans hc
                have HC0 := hidX hce0
                clear hc hce0 HCE
                have k2 : X2.cell? ⟨p, 2, none⟩ = some (.slice ada allq.length ca) := cell_of_blk HK2.out.blk 2
                have k3 : X2.cell? ⟨p, 3, none⟩ = some (.slice adv visq.length cv) := cell_of_blk HK2.out.blk 3
                have e0 : X2.cell? ⟨wr.heap.size, 0, none⟩ = some (.string ⟨kVar.toArray⟩) := cell_of_blk BK2.out 0
                have e1 : X2.cell? ⟨wr.heap.size, 1, none⟩ = some (.string ⟨m.toArray⟩) := cell_of_blk BK2.out 1
                have hin : ∀ X, Below X2.heap.size X2 X → Calls Tryz.prog 27 #[.string ⟨m.toArray⟩, .slice ada allq.length ca] X fun e w' => e = .returned (.bool (decide (m ∈ allq))) ∧ w' = X := fun X hX => isIn_allR allq m (by omega) X ada ca ((xrow_own (owns_below HK2.out.al hX)).imp (fun _ hb => hb.2) (fun _ _ => rfl))
                have hst1 : stmtC F allq visq (.mk kVar m (.mk ek en em eks) t o) = declC allq m := by
                  rw [stmtC, if_neg (by rw [SHT.out]; simp), HC0.out, if_neg (by simp), if_pos rfl]
                unfold declC at hst1
                by_cases hm : m ∈ allq
                · rw [show decide (m ∈ allq) = true by simpa using hm] at hin
                  rw [if_pos hm] at hst1
                  have HIN := hidX hin
                  have HE : Hid (res = .bad 7) := by unfold Hid; rw [HST.out, hst1]; rfl
                  clear hin hm hst1 HST
                  go_wp2_with fail
                  go_quiet ((go_at_call 27; exact Calls.quiet_of_same (HIN.out _ (by (repeat (first | exact Below.refl _ _ | assumption | refine Below.drew ?_ | refine Below.trans ?_ (drewN_below' _ _ _) | refine Below.setCell ?_ (by first | (simp; done) | (simp; omega)) _ | refine Below.alloc ?_ (by first | (simp; done) | (simp; omega)) _))))))
                  go_wp2
                  go_ret
                  exact kto_bad HE.out (HFR2.out.trans (KFr.of (by (repeat (first | exact Below.refl _ _ | assumption | refine Below.drew ?_ | refine Below.trans ?_ (drewN_below' _ _ _) | refine Below.setCell ?_ (by first | (simp; done) | (simp; omega)) _ | refine Below.alloc ?_ (by first | (simp; done) | (simp; omega)) _)))) HNA.out HNV.out) rfl
                · rw [show decide (m ∈ allq) = false by simpa using hm] at hin
                  rw [if_neg hm] at hst1
                  have HIN := hidX hin
                  by_cases h12 : allq.length = 12
                  · rw [if_pos h12] at hst1
                    have h12' : (12 : Int) ≤ (allq.length : Int) := by omega
                    have HE : Hid (res = .bad 8) := by unfold Hid; rw [HST.out, hst1]; rfl
                    clear hin hm hst1 HST h12
                    go_wp2_with fail
                    go_quiet ((go_at_call 27; exact Calls.quiet_of_same (HIN.out _ (by (repeat (first | exact Below.refl _ _ | assumption | refine Below.drew ?_ | refine Below.trans ?_ (drewN_below' _ _ _) | refine Below.setCell ?_ (by first | (simp; done) | (simp; omega)) _ | refine Below.alloc ?_ (by first | (simp; done) | (simp; omega)) _))))))
                    go_wp2
                    go_ret
                    exact kto_bad HE.out (HFR2.out.trans (KFr.of (by (repeat (first | exact Below.refl _ _ | assumption | refine Below.drew ?_ | refine Below.trans ?_ (drewN_below' _ _ _) | refine Below.setCell ?_ (by first | (simp; done) | (simp; omega)) _ | refine Below.alloc ?_ (by first | (simp; done) | (simp; omega)) _)))) HNA.out HNV.out) rfl
                  · rw [if_neg h12] at hst1
                    have h12' : ¬ (12 : Int) ≤ (allq.length : Int) := by omega
                    have HST1 := hidX hst1
                    obtain ⟨i0, hi, hz0, hz1, hz2⟩ := info_parts text_info
                    have hBSZ : ∀ X, Below X2.heap.size X2 X → B ≤ X.heap.size := fun X hX => by have := HK2.out.plt; have := hX.size; omega
                    have hBX : B ≤ X2.heap.size := by have := HK2.out.plt; omega
                    have hp2 : p < X2.heap.size := HK2.out.plt
                    have hk2a : ∀ n, ((X2.drewN n).alloc (.cells #[.string ⟨m.toArray⟩] 9)).cell? ⟨p, 2, none⟩ = some (.slice ada allq.length ca) := fun n => ((show Below X2.heap.size X2 ((X2.drewN n).alloc (.cells #[.string ⟨m.toArray⟩] 9)) by (repeat (first | exact Below.refl _ _ | assumption | refine Below.drew ?_ | refine Below.trans ?_ (drewN_below' _ _ _) | refine Below.setCell ?_ (by first | (simp; done) | (simp; omega)) _ | refine Below.alloc ?_ (by first | (simp; done) | (simp; omega)) _))).cell (p := ⟨p, 2, none⟩) hp2).trans k2
                    clear hin hm hst1 h12
                    go_wp2_with fail
                    go_quiet ((go_at_call 27; exact Calls.quiet_of_same (HIN.out _ (by (repeat (first | exact Below.refl _ _ | assumption | refine Below.drew ?_ | refine Below.trans ?_ (drewN_below' _ _ _) | refine Below.setCell ?_ (by first | (simp; done) | (simp; omega)) _ | refine Below.alloc ?_ (by first | (simp; done) | (simp; omega)) _))))))
                    go_wp2_with fail
                    apply reg_cut2 (R := fun g cap w' => ∃ X, Below X2.heap.size X2 X ∧ X.grownBy w' (Value.slice ada allq.length ca).ownBlock ∧ w'.ownsRow B 9 1 (.slice (some ⟨g, 0, none⟩) (allq.length + 1) cap) (allq.length + 1) (textsC allq ++ [.string ⟨m.toArray⟩]) ∧ ((Value.slice ada allq.length ca).ownBlock = some g ∨ g = X.heap.size))
                    · go_region_law (refine step_append_lies _ rfl (.tmp 112) (.tmp 115) 46 rfl B 9 i0 _ 1 16 Tryz.underlying46 hi hz0 hz1 hz2 rfl (by decide) _ allq.length (textsC allq) (by first | (simp [Act.eval]; done) | (simp [Act.eval]; rfl) | (simp [Act.eval, Act.put]; done) | (simp [Act.eval, Act.put]; rfl)) (owns_below HK2.out.al (by (repeat (first | exact Below.refl _ _ | assumption | refine Below.drew ?_ | refine Below.trans ?_ (drewN_below' _ _ _) | refine Below.setCell ?_ (by first | (simp; done) | (simp; omega)) _ | refine Below.alloc ?_ (by first | (simp; done) | (simp; omega)) _)))) ⟨_, 0, none⟩ 1 1 [.string ⟨m.toArray⟩] (by first | (simp [Act.eval]; done) | (simp [Act.eval]; rfl) | (simp [Act.eval, Act.put]; done) | (simp [Act.eval, Act.put]; rfl)) rfl (World.news_of_block (heap_alloc_new _ _)) (text_one m) (by decide) (by show allq.length + 1 ≤ 9223372036854775807; omega) (by omega) (hBSZ _ (by (repeat (first | exact Below.refl _ _ | assumption | refine Below.drew ?_ | refine Below.trans ?_ (drewN_below' _ _ _) | refine Below.setCell ?_ (by first | (simp; done) | (simp; omega)) _ | refine Below.alloc ?_ (by first | (simp; done) | (simp; omega)) _)))) _ rfl ?_; intro g4 cap4 w4 hown4 hgrow hloc _)
                      all_goals exact ⟨_, _, rfl, _, by (repeat (first | exact Below.refl _ _ | assumption | refine Below.drew ?_ | refine Below.trans ?_ (drewN_below' _ _ _) | refine Below.setCell ?_ (by first | (simp; done) | (simp; omega)) _ | refine Below.alloc ?_ (by first | (simp; done) | (simp; omega)) _)), hgrow, hown4, hloc⟩
                    · rintro ga2 ca2 W3 ⟨X, hbX, hgX, hoX, hlX⟩
                      have hKX := HK2.out.below hbX
                      have hzX := hbX.size
                      have hown' : W3.ownsRow B 9 1 (.slice (some ⟨ga2, 0, none⟩) (allq.length + 1) ca2) (allq ++ [m]).length (textsC (allq ++ [m])) := by rw [textsC_snoc, List.length_append]; exact hoX
                      obtain ⟨hK4, hF4, hN4⟩ := hKX.pushAll hown' hgX (hlX.elim (fun e => Or.inl (by rw [own_two, e])) (fun e => Or.inr (by rw [own_two, e])))
                      have bp : W3.heap[p]? = _ := (hgX.block p hKX.plt (fun e => hKX.n1 e.symm)).trans hKX.blk
                      have f2 := free_of_blk bp 2
                      have s2 : W3.cell? ⟨p, 2, none⟩ = some (.slice ada allq.length ca) := cell_of_blk bp 2
                      have hfr4 : KFr p av.ownBlock vv.ownBlock w (W3.setCell ⟨p, 2, none⟩ (.slice (some ⟨ga2, 0, none⟩) (allq.length + 1) ca2)) := (HFR2.out.trans (KFr.of hbX) HNA.out HNV.out).trans hF4 HNA.out HNV.out
                      have hna4 := HNA.out.trans hN4 (Nat.le_trans HFR2.out.size hzX)
                      have bk4 : (W3.setCell ⟨p, 2, none⟩ (.slice (some ⟨ga2, 0, none⟩) (allq.length + 1) ca2)).heap[wr.heap.size]? = _ := (hF4.block wr.heap.size (by omega) (by omega) (fun e => HNB.out _ e rfl) (fun e => HNB2.out _ e rfl)).trans ((hbX.block _ z2).trans BK2.out)
                      have hnb4 : ∀ b, (Value.slice (some ⟨ga2, 0, none⟩) (allq.length + 1) ca2).ownBlock = some b → b ≠ wr.heap.size := fun b e e' => hN4.ne (by omega) (fun e2 => HNB.out _ e2 rfl) (e' ▸ e)
                      have HK4 := hidX hK4
                      have HFR4 := hidX hfr4
                      have HNA4 := hidX hna4
                      have BK4 := hidX bk4
                      have HNB4 := hidX hnb4
                      clear hK4 hF4 hN4 hfr4 hna4 bk4 hnb4 bp hKX hown' hoX hlX hgX k2 k3 e0 e1 hk2a
                      go_wp2_with fail
                      generalize W3.setCell ⟨p, 2, none⟩ (.slice (some ⟨ga2, 0, none⟩) (allq.length + 1) ca2) = X4 at HK4 HFR4 BK4 ⊢
                      clear f2 s2 hbX
                      have k3 : X4.cell? ⟨p, 3, none⟩ = some (.slice adv visq.length cv) := cell_of_blk HK4.out.blk 3
                      have e1 : X4.cell? ⟨wr.heap.size, 1, none⟩ = some (.string ⟨m.toArray⟩) := cell_of_blk BK4.out 1
                      have hBX4 : B ≤ X4.heap.size := by have := HK4.out.plt; omega
                      clear hBSZ
                      have hBSZ : ∀ X, Below X4.heap.size X4 X → B ≤ X.heap.size := fun X hX => by have := HK4.out.plt; have := hX.size; omega
                      have z4 : wr.heap.size < X4.heap.size := heap_lt BK4.out
                      have hp4 : p < X4.heap.size := HK4.out.plt
                      have hk3a : ∀ n, ((X4.drewN n).alloc (.cells #[.string ⟨m.toArray⟩] 9)).cell? ⟨p, 3, none⟩ = some (.slice adv visq.length cv) := fun n => ((show Below X4.heap.size X4 ((X4.drewN n).alloc (.cells #[.string ⟨m.toArray⟩] 9)) by (repeat (first | exact Below.refl _ _ | assumption | refine Below.drew ?_ | refine Below.trans ?_ (drewN_below' _ _ _) | refine Below.setCell ?_ (by first | (simp; done) | (simp; omega)) _ | refine Below.alloc ?_ (by first | (simp; done) | (simp; omega)) _))).cell (p := ⟨p, 3, none⟩) hp4).trans k3
                      have hk3b : (X4.drew.alloc (.cells #[.string ⟨m.toArray⟩] 9)).cell? ⟨p, 3, none⟩ = some (.slice adv visq.length cv) := ((show Below X4.heap.size X4 (X4.drew.alloc (.cells #[.string ⟨m.toArray⟩] 9)) by (repeat (first | exact Below.refl _ _ | assumption | refine Below.drew ?_ | refine Below.trans ?_ (drewN_below' _ _ _) | refine Below.setCell ?_ (by first | (simp; done) | (simp; omega)) _ | refine Below.alloc ?_ (by first | (simp; done) | (simp; omega)) _))).cell (p := ⟨p, 3, none⟩) hp4).trans k3
                      go_wp2_with fail
                      apply reg_cut2 (R := fun g cap w' => ∃ X, Below X4.heap.size X4 X ∧ X.grownBy w' (Value.slice adv visq.length cv).ownBlock ∧ w'.ownsRow B 9 1 (.slice (some ⟨g, 0, none⟩) (visq.length + 1) cap) (visq.length + 1) (textsC visq ++ [.string ⟨m.toArray⟩]) ∧ ((Value.slice adv visq.length cv).ownBlock = some g ∨ g = X.heap.size))
                      · go_region_law (refine step_append_lies _ rfl (.tmp 124) (.tmp 127) 46 rfl B 9 i0 _ 1 16 Tryz.underlying46 hi hz0 hz1 hz2 rfl (by decide) _ visq.length (textsC visq) (by first | (simp [Act.eval]; done) | (simp [Act.eval]; rfl) | (simp [Act.eval, Act.put]; done) | (simp [Act.eval, Act.put]; rfl)) (owns_below HK4.out.vi (by (repeat (first | exact Below.refl _ _ | assumption | refine Below.drew ?_ | refine Below.trans ?_ (drewN_below' _ _ _) | refine Below.setCell ?_ (by first | (simp; done) | (simp; omega)) _ | refine Below.alloc ?_ (by first | (simp; done) | (simp; omega)) _)))) ⟨_, 0, none⟩ 1 1 [.string ⟨m.toArray⟩] (by first | (simp [Act.eval]; done) | (simp [Act.eval]; rfl) | (simp [Act.eval, Act.put]; done) | (simp [Act.eval, Act.put]; rfl)) rfl (World.news_of_block (heap_alloc_new _ _)) (text_one m) (by decide) (by show visq.length + 1 ≤ 9223372036854775807; omega) (by omega) (hBSZ _ (by (repeat (first | exact Below.refl _ _ | assumption | refine Below.drew ?_ | refine Below.trans ?_ (drewN_below' _ _ _) | refine Below.setCell ?_ (by first | (simp; done) | (simp; omega)) _ | refine Below.alloc ?_ (by first | (simp; done) | (simp; omega)) _)))) _ rfl ?_; intro g4 cap4 w4 hown4 hgrow hloc _)
                        all_goals exact ⟨_, _, rfl, _, by (repeat (first | exact Below.refl _ _ | assumption | refine Below.drew ?_ | refine Below.trans ?_ (drewN_below' _ _ _) | refine Below.setCell ?_ (by first | (simp; done) | (simp; omega)) _ | refine Below.alloc ?_ (by first | (simp; done) | (simp; omega)) _)), hgrow, hown4, hloc⟩
                      · rintro gv2 cv2 W5 ⟨X, hbX, hgX, hoX, hlX⟩
                        have hKX := HK4.out.below hbX
                        have hzX := hbX.size
                        have hown' : W5.ownsRow B 9 1 (.slice (some ⟨gv2, 0, none⟩) (visq.length + 1) cv2) (visq ++ [m]).length (textsC (visq ++ [m])) := by rw [textsC_snoc, List.length_append]; exact hoX
                        obtain ⟨hK6, hF6, hN6⟩ := hKX.pushVis hown' hgX (hlX.elim (fun e => Or.inl (by rw [own_two, e])) (fun e => Or.inr (by rw [own_two, e])))
                        have bp : W5.heap[p]? = _ := (hgX.block p hKX.plt (fun e => hKX.n2 e.symm)).trans hKX.blk
                        have f3 := free_of_blk bp 3
                        have s3 : W5.cell? ⟨p, 3, none⟩ = some (.slice adv visq.length cv) := cell_of_blk bp 3
                        have hfr6 : KFr p av.ownBlock vv.ownBlock w (W5.setCell ⟨p, 3, none⟩ (.slice (some ⟨gv2, 0, none⟩) (visq.length + 1) cv2)) := (HFR4.out.trans (KFr.of hbX) HNA4.out HNV.out).trans hF6 HNA4.out HNV.out
                        have hnv6 := HNV.out.trans hN6 (Nat.le_trans HFR4.out.size hzX)
                        have bk6 : (W5.setCell ⟨p, 3, none⟩ (.slice (some ⟨gv2, 0, none⟩) (visq.length + 1) cv2)).heap[wr.heap.size]? = _ := (hF6.block wr.heap.size (by omega) (by omega) (fun e => HNB4.out _ e rfl) (fun e => HNB2.out _ e rfl)).trans ((hbX.block _ z4).trans BK4.out)
                        have hnb6 : ∀ b, (Value.slice (some ⟨gv2, 0, none⟩) (visq.length + 1) cv2).ownBlock = some b → b ≠ wr.heap.size := fun b e e' => hN6.ne (by omega) (fun e2 => HNB2.out _ e2 rfl) (e' ▸ e)
                        have HK3 := hidX hK6
                        have HFR3 := hidX hfr6
                        have HNA3 := HNA4
                        have HNV3 := hidX hnv6
                        have BK3 := hidX bk6
                        have HNB3 := HNB4
                        have HNV3B := hidX hnb6
                        clear hK6 hF6 hN6 hfr6 hnv6 bk6 hnb6 bp hKX hown' hoX hlX hgX k3 e1 hk3a hk3b
                        go_wp2_with fail
                        generalize W5.setCell ⟨p, 3, none⟩ (.slice (some ⟨gv2, 0, none⟩) (visq.length + 1) cv2) = X3 at HK3 HFR3 BK3 ⊢
                        clear f3 s3 hbX
                        have hA12 : (allq ++ [m]).length ≤ 12 := by simp; omega
                        have hVA : (visq ++ [m]).length ≤ (allq ++ [m]).length := by simp; omega
                        have hVP : vis.length ≤ (visq ++ [m]).length := by simp; omega
                        have HPV : Hid ((visq ++ [m]).take vis.length = vis) := by unfold Hid; rw [List.take_append_of_le_length hvp]; exact HPRE.out
                        have HSB : Hid (stmtC F allq visq (.mk kVar m (.mk ek en em eks) t o) = (blockC F (allq ++ [m]) (visq ++ [m]) t).bind fun a => blockC F a (visq ++ [m]) o) := by
                          unfold Hid; rw [HST1.out, HT0.out, HO0.out]; rfl
                        have HVC : Hid (visC visq (.mk kVar m (.mk ek en em eks) t o) = visq ++ [m]) := by unfold Hid; show (if kVar = kVar then visq ++ [m] else visq) = _; rw [if_pos rfl]
                        have hpl3 := HK3.out.plt
                        have hlow3 : Below B w X3 := HFR3.out.low HC.out
                        have hct : ∀ X, Below X3.heap.size X3 X → Calls Tryz.prog 72 #[.pointer (some ⟨p, 0, none⟩), .slice adt0 t.length ct0] X (KTo X3 B p fv (.slice (some ⟨ga2, 0, none⟩) (allq.length + 1) ca2) (.slice (some ⟨gv2, 0, none⟩) (visq.length + 1) cv2) F (visq ++ [m]) (blockC F (allq ++ [m]) (visq ++ [m]) t)) := fun X hX => (HT.out X _ _ (allq ++ [m]) (visq ++ [m]) (HK3.out.below hX) (bl_trans hlow3 (by have := HK3.out.hp; omega) hX) hA12 hVA).mono fun _ _ h => kto_base h hX
                        have HCT := hidX hct
                        have c6 : X3.cell? ⟨wr.heap.size, 6, none⟩ = some (.slice adt0 t.length ct0) := cell_of_blk BK3.out 6
                        have c0 : X3.cell? ⟨wr.heap.size, 0, none⟩ = some (.string ⟨kVar.toArray⟩) := cell_of_blk BK3.out 0
                        clear hct hlow3 HT
                        go_wp2_with fail
                        go_quiet (fail)
                        go_wp2_with fail
                        refine (HCT.out _ (by (repeat (first | exact Below.refl _ _ | assumption | refine Below.drew ?_ | refine Below.trans ?_ (drewN_below' _ _ _) | refine Below.setCell ?_ (by first | (simp; done) | (simp; omega)) _ | refine Below.alloc ?_ (by first | (simp; done) | (simp; omega)) _)))).mono ?_
                        rintro ev X4 ⟨hf4, h4⟩
                        have bk4 : X4.heap[wr.heap.size]? = _ := (hf4.block wr.heap.size (heap_lt BK3.out) (by omega) (fun e => HNB3.out _ e rfl) (fun e => HNV3B.out _ e rfl)).trans BK3.out
                        have hz4 := hf4.size
                        have hfr4 : KFr p av.ownBlock vv.ownBlock w X4 := HFR3.out.trans hf4 HNA3.out HNV3.out
                        have HFR4 := hidX hfr4
                        have HF4 := hidX hf4
                        have BK4 := hidX bk4
                        clear hfr4 hf4 bk4 c6 c0
                        cases hb4 : blockC F (allq ++ [m]) (visq ++ [m]) t with
                        | bad c =>
                          rw [hb4] at h4
                          simp only at h4
                          subst h4
                          have hc0 : c ≠ 0 := fun e => funC_ok.blockC_ne0 F _ _ _ (by rw [hb4, e])
                          have hc1 : ((c : Int) == 0) = false := by simpa using hc0
                          have hc2 : (0 : Int) < (c : Int) := by omega
                          have HE : Hid (res = .bad c) := by unfold Hid; rw [HST.out, HSB.out, hb4]; rfl
                          clear HST HSB hb4 hc0 HO
                          go_wp2
                          go_ret
                          exact kto_bad HE.out HFR4.out rfl
                        | ok all4 =>
                          rw [hb4] at h4
                          simp only at h4
                          obtain ⟨he4, av4, vv4, hk4, hna4, hnv4⟩ := h4
                          subst he4
                          have HK4 := hidX hk4
                          have ha4 : all4.length ≤ 12 := blockC_len F _ _ _ _ hb4 hA12
                          have hg4 := blockC_ge hb4
                          have HNA4 := hidX (HNA3.out.trans hna4 (HFR3.out.size))
                          have HNV4 := hidX (HNV3.out.trans hnv4 (HFR3.out.size))
                          have hp4 := hk4.plt
                          have hlow4 : Below B w X4 := HFR4.out.low HC.out
                          have hco : Calls Tryz.prog 72 #[.pointer (some ⟨p, 0, none⟩), .slice ado0 o.length co0] X4 (KTo X4 B p fv av4 vv4 F (visq ++ [m]) (blockC F all4 (visq ++ [m]) o)) := HO.out X4 _ _ all4 (visq ++ [m]) hk4 hlow4 ha4 (by omega)
                          have HCO := hidX hco
                          have c7 : X4.cell? ⟨wr.heap.size, 7, none⟩ = some (.slice ado0 o.length co0) := cell_of_blk BK4.out 7
                          have HNB4 : Hid (∀ b, av4.ownBlock = some b → b ≠ wr.heap.size) := fun b e e' => hna4.ne (heap_lt BK3.out) (fun e2 => HNB3.out _ e2 rfl) (e' ▸ e)
                          have HNV4B : Hid (∀ b, vv4.ownBlock = some b → b ≠ wr.heap.size) := fun b e e' => hnv4.ne (heap_lt BK3.out) (fun e2 => HNV3B.out _ e2 rfl) (e' ▸ e)
                          have HB4 := hidX hb4
                          clear hco hlow4 HO hk4 hna4 hnv4 hb4
                          go_wp2_with fail
                          refine HCO.out.mono ?_
                          rintro ev X5 ⟨hf5, h5⟩
                          have hfr5 : KFr p av.ownBlock vv.ownBlock w X5 := HFR4.out.trans hf5 HNA4.out HNV4.out
                          have HFR5 := hidX hfr5
                          clear hfr5 hf5 c7
                          cases hb5 : blockC F all4 (visq ++ [m]) o with
                          | bad c =>
                            rw [hb5] at h5
                            simp only at h5
                            subst h5
                            have hc0 : c ≠ 0 := fun e => funC_ok.blockC_ne0 F _ _ _ (by rw [hb5, e])
                            have hc2 : (0 : Int) < (c : Int) := by omega
                            have HE : Hid (res = .bad c) := by unfold Hid; rw [HST.out, HSB.out, HB4.out]; simp only [Cs.bind_ok]; rw [hb5]; rfl
                            clear HST HSB hb5 hc0 HB4
                            go_wp2
                            go_ret
                            exact kto_bad HE.out HFR5.out rfl
                          | ok all5 =>
                            rw [hb5] at h5
                            simp only at h5
                            obtain ⟨he5, av5, vv5, hk5, hna5, hnv5⟩ := h5
                            subst he5
                            have HK5 := hidX hk5
                            have ha5 : all5.length ≤ 12 := blockC_len F _ _ _ _ hb5 ha4
                            have hg5 := blockC_ge hb5
                            have HNA5 := hidX (HNA4.out.trans hna5 (HFR4.out.size))
                            have HNV5 := hidX (HNV4.out.trans hnv5 (HFR4.out.size))
                            have HB5 : Hid (res = blockC F all5 (visq ++ [m]) (l.drop (q + 1))) := by unfold Hid; rw [HST.out, HSB.out, HB4.out]; simp only [Cs.bind_ok]; rw [hb5, HVC.out]; rfl
                            clear HST HSB hb5 HB4 hk5 hna5 hnv5
                            go_wp2
                            go_roundw
                            case rel => exact ⟨q + 1, all5, (visq ++ [m]), av5, vv5, by omega, by go_num, HK5.out, HFR5.out, HNA5.out, HNV5.out, ha5, by omega, hVP, HPV.out, HB5.out⟩
                            case measure => simp [intOf]; omega
              · have hc' : (0 : Int) < (ce : Int) := by omega
                have HE : Hid (res = .bad ce) := by unfold Hid; rw [HST.out, stmtC, if_neg (by rw [SHT.out]; simp), HCE.out, if_pos hc]; rfl
                clear HST hc HCE
                go_wp2
                go_ret
                exact kto_bad HE.out HFR2.out rfl
            · have c3' : ((o.length : Int) == 0) = false := by simpa using c3
              have c2' : (t.length : Int) = 0 := by omega
              have HE : Hid (res = .bad 3) := blk_bad3 HST.out (by rw [sh]; simp [c3])
              clear HST HX1 HCE sh c2 c3
              go_wp2
              go_ret
              exact kto_bad HE.out HFR1.out rfl
          · have c2' : ((t.length : Int) == 0) = false := by simpa using c2
            have HE : Hid (res = .bad 3) := blk_bad3 HST.out (by rw [sh]; simp [c2])
            clear HST HX1 HCE sh c2
            go_wp2
            go_ret
            exact kto_bad HE.out HFR1.out rfl
      · have n0 : (k == [118, 97, 114]) = false := ne_lit K0
        by_cases K1 : k = kSet
        · subst K1
          have g21 : (kSet == [118, 97, 114]) = false := by decide
          have g22 : (kSet == [115, 101, 116]) = true := by decide
          have g23 : (kSet == [114, 101, 116, 117, 114, 110]) = false := by decide
          have g24 : (kSet == [112, 114, 105, 110, 116]) = false := by decide
          have g25 : (kSet == [119, 104, 105, 108, 101]) = false := by decide
          have g26 : (kSet == [105, 102]) = false := by decide
          have sh : shapeS kSet m t.length o.length = decide (nameB m = true ∧ t.length = 0 ∧ o.length = 0) := rfl
          cases hnm : nameB m with
          | false =>
            have HE : Hid (res = .bad 3) := blk_bad3 HST.out (by rw [sh]; simp [hnm])
            clear HST HX1 HCE sh hnm
            go_wp2
            go_ret
            exact kto_bad HE.out HFR1.out rfl
          | true =>
            by_cases c2 : t.length = 0
            · by_cases c3 : o.length = 0
              · have SHT : Hid (shapeS kSet m t.length o.length = true) := by unfold Hid; rw [sh]; simp [hnm, c2, c3]
                have c2' : (t.length : Int) = 0 := by omega
                have c3' : (o.length : Int) = 0 := by omega
                have HT0 : Hid (t = []) := List.length_eq_zero_iff.1 c2
                have HO0 : Hid (o = []) := List.length_eq_zero_iff.1 c3
                clear sh hnm c2 c3
                go_wp2_with fail
                refine HX1.out.mono ?_
                rintro e X2 ⟨rfl, hb2⟩
                have z2 : wr.heap.size < X2.heap.size := by have := hb2.size; omega
                have hfr2 : KFr p av.ownBlock vv.ownBlock w X2 := HFR1.out.trans (KFr.of hb2) HNA.out HNV.out
                have HFR2 := hidX hfr2
                have HK2 := hidX (HK1.out.below hb2)
                have bk2 := (hb2.block _ z1).trans BK.out
                have BK2 := hidX bk2
                clear hfr2 bk2 d0 d1 d2 d3 d4 d5 d6 d7 HX1
                by_cases hc : ce = 0
                · have hc' : ¬ (0 : Int) < (ce : Int) := by omega
                  have hce0 : exprC F visq (.mk ek en em eks) = 0 := HCE.out.trans hc
                  have HC0 := hidX hce0
                  clear hc hce0 HCE
                  have k3 : X2.cell? ⟨p, 3, none⟩ = some (.slice adv visq.length cv) := cell_of_blk HK2.out.blk 3
                  have e0 : X2.cell? ⟨wr.heap.size, 0, none⟩ = some (.string ⟨kSet.toArray⟩) := cell_of_blk BK2.out 0
                  have e1 : X2.cell? ⟨wr.heap.size, 1, none⟩ = some (.string ⟨m.toArray⟩) := cell_of_blk BK2.out 1
                  have hin : ∀ X, Below X2.heap.size X2 X → Calls Tryz.prog 27 #[.string ⟨m.toArray⟩, .slice adv visq.length cv] X fun e w' => e = .returned (.bool (decide (m ∈ visq))) ∧ w' = X := fun X hX => isIn_allR visq m (by omega) X adv cv ((xrow_own (owns_below HK2.out.vi hX)).imp (fun _ hb => hb.2) (fun _ _ => rfl))
                  have hst1 : stmtC F allq visq (.mk kSet m (.mk ek en em eks) t o) = if m ∈ visq then .ok allq else .bad 6 := by
                    rw [stmtC, if_neg (by rw [SHT.out]; simp), HC0.out, if_neg (by simp), if_neg (by decide), if_pos rfl]
                  by_cases hm : m ∈ visq
                  · rw [show decide (m ∈ visq) = true by simpa using hm] at hin
                    rw [if_pos hm] at hst1
                    have HIN := hidX hin
                    have HST1 := hidX hst1
                    clear hin hm hst1
                    have X3E : ∃ X3, X3 = X2 := ⟨X2, rfl⟩
                    obtain ⟨X3, hX3⟩ := X3E
                    subst hX3
                    have HK3 := HK2
                    have HFR3 := HFR2
                    have HNA3 := HNA
                    have HNV3 := HNV
                    have BK3 := BK2
                    have HNB3 := HNB
                    have HNV3B := HNB2
                    have hA12 := hal
                    have hVA := hvl
                    have hVP := hvp
                    have HPV := HPRE
                    have HSB : Hid (stmtC F allq visq (.mk kSet m (.mk ek en em eks) t o) = (blockC F allq visq t).bind fun a => blockC F a visq o) := by
                      unfold Hid; rw [HST1.out, HT0.out, HO0.out]; rfl
                    have HVC : Hid (visC visq (.mk kSet m (.mk ek en em eks) t o) = visq) := by unfold Hid; show (if kSet = kVar then visq ++ [m] else visq) = _; rw [if_neg (by decide)]
                    have hpl3 := HK3.out.plt
                    have hlow3 : Below B w X3 := HFR3.out.low HC.out
                    have hct : ∀ X, Below X3.heap.size X3 X → Calls Tryz.prog 72 #[.pointer (some ⟨p, 0, none⟩), .slice adt0 t.length ct0] X (KTo X3 B p fv (.slice ada allq.length ca) (.slice adv visq.length cv) F visq (blockC F allq visq t)) := fun X hX => (HT.out X _ _ allq visq (HK3.out.below hX) (bl_trans hlow3 (by have := HK3.out.hp; omega) hX) hA12 hVA).mono fun _ _ h => kto_base h hX
                    have HCT := hidX hct
                    have c6 : X3.cell? ⟨wr.heap.size, 6, none⟩ = some (.slice adt0 t.length ct0) := cell_of_blk BK3.out 6
                    have c0 : X3.cell? ⟨wr.heap.size, 0, none⟩ = some (.string ⟨kSet.toArray⟩) := cell_of_blk BK3.out 0
                    clear hct hlow3 HT
                    go_wp2_with fail
                    go_quiet ((go_at_call 27; exact Calls.quiet_of_same (HIN.out _ (by (repeat (first | exact Below.refl _ _ | assumption | refine Below.drew ?_ | refine Below.trans ?_ (drewN_below' _ _ _) | refine Below.setCell ?_ (by first | (simp; done) | (simp; omega)) _ | refine Below.alloc ?_ (by first | (simp; done) | (simp; omega)) _))))))
                    go_wp2_with fail
                    refine (HCT.out _ (by (repeat (first | exact Below.refl _ _ | assumption | refine Below.drew ?_ | refine Below.trans ?_ (drewN_below' _ _ _) | refine Below.setCell ?_ (by first | (simp; done) | (simp; omega)) _ | refine Below.alloc ?_ (by first | (simp; done) | (simp; omega)) _)))).mono ?_
                    rintro ev X4 ⟨hf4, h4⟩
                    have bk4 : X4.heap[wr.heap.size]? = _ := (hf4.block wr.heap.size (heap_lt BK3.out) (by omega) (fun e => HNB3.out _ e rfl) (fun e => HNV3B.out _ e rfl)).trans BK3.out
                    have hz4 := hf4.size
                    have hfr4 : KFr p av.ownBlock vv.ownBlock w X4 := HFR3.out.trans hf4 HNA3.out HNV3.out
                    have HFR4 := hidX hfr4
                    have HF4 := hidX hf4
                    have BK4 := hidX bk4
                    clear hfr4 hf4 bk4 c6 c0
                    cases hb4 : blockC F allq visq t with
                    | bad c =>
                      rw [hb4] at h4
                      simp only at h4
                      subst h4
                      have hc0 : c ≠ 0 := fun e => funC_ok.blockC_ne0 F _ _ _ (by rw [hb4, e])
                      have hc1 : ((c : Int) == 0) = false := by simpa using hc0
                      have hc2 : (0 : Int) < (c : Int) := by omega
                      have HE : Hid (res = .bad c) := by unfold Hid; rw [HST.out, HSB.out, hb4]; rfl
                      clear HST HSB hb4 hc0 HO
                      go_wp2
                      go_ret
                      exact kto_bad HE.out HFR4.out rfl
                    | ok all4 =>
                      rw [hb4] at h4
                      simp only at h4
                      obtain ⟨he4, av4, vv4, hk4, hna4, hnv4⟩ := h4
                      subst he4
                      have HK4 := hidX hk4
                      have ha4 : all4.length ≤ 12 := blockC_len F _ _ _ _ hb4 hA12
                      have hg4 := blockC_ge hb4
                      have HNA4 := hidX (HNA3.out.trans hna4 (HFR3.out.size))
                      have HNV4 := hidX (HNV3.out.trans hnv4 (HFR3.out.size))
                      have hp4 := hk4.plt
                      have hlow4 : Below B w X4 := HFR4.out.low HC.out
                      have hco : Calls Tryz.prog 72 #[.pointer (some ⟨p, 0, none⟩), .slice ado0 o.length co0] X4 (KTo X4 B p fv av4 vv4 F visq (blockC F all4 visq o)) := HO.out X4 _ _ all4 visq hk4 hlow4 ha4 (by omega)
                      have HCO := hidX hco
                      have c7 : X4.cell? ⟨wr.heap.size, 7, none⟩ = some (.slice ado0 o.length co0) := cell_of_blk BK4.out 7
                      have HNB4 : Hid (∀ b, av4.ownBlock = some b → b ≠ wr.heap.size) := fun b e e' => hna4.ne (heap_lt BK3.out) (fun e2 => HNB3.out _ e2 rfl) (e' ▸ e)
                      have HNV4B : Hid (∀ b, vv4.ownBlock = some b → b ≠ wr.heap.size) := fun b e e' => hnv4.ne (heap_lt BK3.out) (fun e2 => HNV3B.out _ e2 rfl) (e' ▸ e)
                      have HB4 := hidX hb4
                      clear hco hlow4 HO hk4 hna4 hnv4 hb4
                      go_wp2_with fail
                      refine HCO.out.mono ?_
                      rintro ev X5 ⟨hf5, h5⟩
                      have hfr5 : KFr p av.ownBlock vv.ownBlock w X5 := HFR4.out.trans hf5 HNA4.out HNV4.out
                      have HFR5 := hidX hfr5
                      clear hfr5 hf5 c7
                      cases hb5 : blockC F all4 visq o with
                      | bad c =>
                        rw [hb5] at h5
                        simp only at h5
                        subst h5
                        have hc0 : c ≠ 0 := fun e => funC_ok.blockC_ne0 F _ _ _ (by rw [hb5, e])
                        have hc2 : (0 : Int) < (c : Int) := by omega
                        have HE : Hid (res = .bad c) := by unfold Hid; rw [HST.out, HSB.out, HB4.out]; simp only [Cs.bind_ok]; rw [hb5]; rfl
                        clear HST HSB hb5 hc0 HB4
                        go_wp2
                        go_ret
                        exact kto_bad HE.out HFR5.out rfl
                      | ok all5 =>
                        rw [hb5] at h5
                        simp only at h5
                        obtain ⟨he5, av5, vv5, hk5, hna5, hnv5⟩ := h5
                        subst he5
                        have HK5 := hidX hk5
                        have ha5 : all5.length ≤ 12 := blockC_len F _ _ _ _ hb5 ha4
                        have hg5 := blockC_ge hb5
                        have HNA5 := hidX (HNA4.out.trans hna5 (HFR4.out.size))
                        have HNV5 := hidX (HNV4.out.trans hnv5 (HFR4.out.size))
                        have HB5 : Hid (res = blockC F all5 visq (l.drop (q + 1))) := by unfold Hid; rw [HST.out, HSB.out, HB4.out]; simp only [Cs.bind_ok]; rw [hb5, HVC.out]; rfl
                        clear HST HSB hb5 HB4 hk5 hna5 hnv5
                        go_wp2
                        go_roundw
                        case rel => exact ⟨q + 1, all5, visq, av5, vv5, by omega, by go_num, HK5.out, HFR5.out, HNA5.out, HNV5.out, ha5, by omega, hVP, HPV.out, HB5.out⟩
                        case measure => simp [intOf]; omega
                  · rw [show decide (m ∈ visq) = false by simpa using hm] at hin
                    rw [if_neg hm] at hst1
                    have HIN := hidX hin
                    have HE : Hid (res = .bad 6) := by unfold Hid; rw [HST.out, hst1]; rfl
                    clear hin hm hst1 HST
                    go_wp2_with fail
                    go_quiet ((go_at_call 27; exact Calls.quiet_of_same (HIN.out _ (by (repeat (first | exact Below.refl _ _ | assumption | refine Below.drew ?_ | refine Below.trans ?_ (drewN_below' _ _ _) | refine Below.setCell ?_ (by first | (simp; done) | (simp; omega)) _ | refine Below.alloc ?_ (by first | (simp; done) | (simp; omega)) _))))))
                    go_wp2
                    go_ret
                    exact kto_bad HE.out (HFR2.out.trans (KFr.of (by (repeat (first | exact Below.refl _ _ | assumption | refine Below.drew ?_ | refine Below.trans ?_ (drewN_below' _ _ _) | refine Below.setCell ?_ (by first | (simp; done) | (simp; omega)) _ | refine Below.alloc ?_ (by first | (simp; done) | (simp; omega)) _)))) HNA.out HNV.out) rfl
                · have hc' : (0 : Int) < (ce : Int) := by omega
                  have HE : Hid (res = .bad ce) := by unfold Hid; rw [HST.out, stmtC, if_neg (by rw [SHT.out]; simp), HCE.out, if_pos hc]; rfl
                  clear HST hc HCE
                  go_wp2
                  go_ret
                  exact kto_bad HE.out HFR2.out rfl
              · have c3' : ((o.length : Int) == 0) = false := by simpa using c3
                have c2' : (t.length : Int) = 0 := by omega
                have HE : Hid (res = .bad 3) := blk_bad3 HST.out (by rw [sh]; simp [c3])
                clear HST HX1 HCE sh c2 c3
                go_wp2
                go_ret
                exact kto_bad HE.out HFR1.out rfl
            · have c2' : ((t.length : Int) == 0) = false := by simpa using c2
              have HE : Hid (res = .bad 3) := blk_bad3 HST.out (by rw [sh]; simp [c2])
              clear HST HX1 HCE sh c2
              go_wp2
              go_ret
              exact kto_bad HE.out HFR1.out rfl
        · have n1 : (k == [115, 101, 116]) = false := ne_lit K1
          by_cases K2 : k = kIf
          · subst K2
            have g21 : (kIf == [118, 97, 114]) = false := by decide
            have g22 : (kIf == [115, 101, 116]) = false := by decide
            have g23 : (kIf == [114, 101, 116, 117, 114, 110]) = false := by decide
            have g24 : (kIf == [112, 114, 105, 110, 116]) = false := by decide
            have g25 : (kIf == [119, 104, 105, 108, 101]) = false := by decide
            have g26 : (kIf == [105, 102]) = true := by decide
            have sh : shapeS kIf m t.length o.length = decide (m = []) := rfl
            by_cases c1 : m = []
            · subst c1
              have SHT : Hid (shapeS kIf [] t.length o.length = true) := by unfold Hid; rw [sh]; simp
              clear sh
              go_wp2_with fail
              refine HX1.out.mono ?_
              rintro e X2 ⟨rfl, hb2⟩
              have z2 : wr.heap.size < X2.heap.size := by have := hb2.size; omega
              have hfr2 : KFr p av.ownBlock vv.ownBlock w X2 := HFR1.out.trans (KFr.of hb2) HNA.out HNV.out
              have HFR2 := hidX hfr2
              have HK2 := hidX (HK1.out.below hb2)
              have bk2 := (hb2.block _ z1).trans BK.out
              have BK2 := hidX bk2
              clear hfr2 bk2 d0 d1 d2 d3 d4 d5 d6 d7 HX1
              by_cases hc : ce = 0
              · have hc' : ¬ (0 : Int) < (ce : Int) := by omega
                have hce0 : exprC F visq (.mk ek en em eks) = 0 := HCE.out.trans hc
                have HC0 := hidX hce0
                clear hc hce0 HCE
                have X3E : ∃ X3, X3 = X2 := ⟨X2, rfl⟩
                obtain ⟨X3, hX3⟩ := X3E
                subst hX3
                have HK3 := HK2
                have HFR3 := HFR2
                have HNA3 := HNA
                have HNV3 := HNV
                have BK3 := BK2
                have HNB3 := HNB
                have HNV3B := HNB2
                have hA12 := hal
                have hVA := hvl
                have hVP := hvp
                have HPV := HPRE
                have HSB : Hid (stmtC F allq visq (.mk kIf [] (.mk ek en em eks) t o) = (blockC F allq visq t).bind fun a => blockC F a visq o) := by
                  unfold Hid; rw [stmtC, if_neg (by rw [SHT.out]; simp), HC0.out, if_neg (by simp), if_neg (by decide), if_neg (by decide)]
                have HVC : Hid (visC visq (.mk kIf [] (.mk ek en em eks) t o) = visq) := by unfold Hid; show (if kIf = kVar then visq ++ [[]] else visq) = _; rw [if_neg (by decide)]
                have hpl3 := HK3.out.plt
                have hlow3 : Below B w X3 := HFR3.out.low HC.out
                have hct : ∀ X, Below X3.heap.size X3 X → Calls Tryz.prog 72 #[.pointer (some ⟨p, 0, none⟩), .slice adt0 t.length ct0] X (KTo X3 B p fv (.slice ada allq.length ca) (.slice adv visq.length cv) F visq (blockC F allq visq t)) := fun X hX => (HT.out X _ _ allq visq (HK3.out.below hX) (bl_trans hlow3 (by have := HK3.out.hp; omega) hX) hA12 hVA).mono fun _ _ h => kto_base h hX
                have HCT := hidX hct
                have c6 : X3.cell? ⟨wr.heap.size, 6, none⟩ = some (.slice adt0 t.length ct0) := cell_of_blk BK3.out 6
                have c0 : X3.cell? ⟨wr.heap.size, 0, none⟩ = some (.string ⟨kIf.toArray⟩) := cell_of_blk BK3.out 0
                clear hct hlow3 HT
                go_wp2_with fail
                go_quiet (fail)
                go_wp2_with fail
                refine (HCT.out _ (by (repeat (first | exact Below.refl _ _ | assumption | refine Below.drew ?_ | refine Below.trans ?_ (drewN_below' _ _ _) | refine Below.setCell ?_ (by first | (simp; done) | (simp; omega)) _ | refine Below.alloc ?_ (by first | (simp; done) | (simp; omega)) _)))).mono ?_
                rintro ev X4 ⟨hf4, h4⟩
                have bk4 : X4.heap[wr.heap.size]? = _ := (hf4.block wr.heap.size (heap_lt BK3.out) (by omega) (fun e => HNB3.out _ e rfl) (fun e => HNV3B.out _ e rfl)).trans BK3.out
                have hz4 := hf4.size
                have hfr4 : KFr p av.ownBlock vv.ownBlock w X4 := HFR3.out.trans hf4 HNA3.out HNV3.out
                have HFR4 := hidX hfr4
                have HF4 := hidX hf4
                have BK4 := hidX bk4
                clear hfr4 hf4 bk4 c6 c0
                cases hb4 : blockC F allq visq t with
                | bad c =>
                  rw [hb4] at h4
                  simp only at h4
                  subst h4
                  have hc0 : c ≠ 0 := fun e => funC_ok.blockC_ne0 F _ _ _ (by rw [hb4, e])
                  have hc1 : ((c : Int) == 0) = false := by simpa using hc0
                  have hc2 : (0 : Int) < (c : Int) := by omega
                  have HE : Hid (res = .bad c) := by unfold Hid; rw [HST.out, HSB.out, hb4]; rfl
                  clear HST HSB hb4 hc0 HO
                  go_wp2
                  go_ret
                  exact kto_bad HE.out HFR4.out rfl
                | ok all4 =>
                  rw [hb4] at h4
                  simp only at h4
                  obtain ⟨he4, av4, vv4, hk4, hna4, hnv4⟩ := h4
                  subst he4
                  have HK4 := hidX hk4
                  have ha4 : all4.length ≤ 12 := blockC_len F _ _ _ _ hb4 hA12
                  have hg4 := blockC_ge hb4
                  have HNA4 := hidX (HNA3.out.trans hna4 (HFR3.out.size))
                  have HNV4 := hidX (HNV3.out.trans hnv4 (HFR3.out.size))
                  have hp4 := hk4.plt
                  have hlow4 : Below B w X4 := HFR4.out.low HC.out
                  have hco : Calls Tryz.prog 72 #[.pointer (some ⟨p, 0, none⟩), .slice ado0 o.length co0] X4 (KTo X4 B p fv av4 vv4 F visq (blockC F all4 visq o)) := HO.out X4 _ _ all4 visq hk4 hlow4 ha4 (by omega)
                  have HCO := hidX hco
                  have c7 : X4.cell? ⟨wr.heap.size, 7, none⟩ = some (.slice ado0 o.length co0) := cell_of_blk BK4.out 7
                  have HNB4 : Hid (∀ b, av4.ownBlock = some b → b ≠ wr.heap.size) := fun b e e' => hna4.ne (heap_lt BK3.out) (fun e2 => HNB3.out _ e2 rfl) (e' ▸ e)
                  have HNV4B : Hid (∀ b, vv4.ownBlock = some b → b ≠ wr.heap.size) := fun b e e' => hnv4.ne (heap_lt BK3.out) (fun e2 => HNV3B.out _ e2 rfl) (e' ▸ e)
                  have HB4 := hidX hb4
                  clear hco hlow4 HO hk4 hna4 hnv4 hb4
                  go_wp2_with fail
                  refine HCO.out.mono ?_
                  rintro ev X5 ⟨hf5, h5⟩
                  have hfr5 : KFr p av.ownBlock vv.ownBlock w X5 := HFR4.out.trans hf5 HNA4.out HNV4.out
                  have HFR5 := hidX hfr5
                  clear hfr5 hf5 c7
                  cases hb5 : blockC F all4 visq o with
                  | bad c =>
                    rw [hb5] at h5
                    simp only at h5
                    subst h5
                    have hc0 : c ≠ 0 := fun e => funC_ok.blockC_ne0 F _ _ _ (by rw [hb5, e])
                    have hc2 : (0 : Int) < (c : Int) := by omega
                    have HE : Hid (res = .bad c) := by unfold Hid; rw [HST.out, HSB.out, HB4.out]; simp only [Cs.bind_ok]; rw [hb5]; rfl
                    clear HST HSB hb5 hc0 HB4
                    go_wp2
                    go_ret
                    exact kto_bad HE.out HFR5.out rfl
                  | ok all5 =>
                    rw [hb5] at h5
                    simp only at h5
                    obtain ⟨he5, av5, vv5, hk5, hna5, hnv5⟩ := h5
                    subst he5
                    have HK5 := hidX hk5
                    have ha5 : all5.length ≤ 12 := blockC_len F _ _ _ _ hb5 ha4
                    have hg5 := blockC_ge hb5
                    have HNA5 := hidX (HNA4.out.trans hna5 (HFR4.out.size))
                    have HNV5 := hidX (HNV4.out.trans hnv5 (HFR4.out.size))
                    have HB5 : Hid (res = blockC F all5 visq (l.drop (q + 1))) := by unfold Hid; rw [HST.out, HSB.out, HB4.out]; simp only [Cs.bind_ok]; rw [hb5, HVC.out]; rfl
                    clear HST HSB hb5 HB4 hk5 hna5 hnv5
                    go_wp2
                    go_roundw
                    case rel => exact ⟨q + 1, all5, visq, av5, vv5, by omega, by go_num, HK5.out, HFR5.out, HNA5.out, HNV5.out, ha5, by omega, hVP, HPV.out, HB5.out⟩
                    case measure => simp [intOf]; omega
              · have hc' : (0 : Int) < (ce : Int) := by omega
                have HE : Hid (res = .bad ce) := by unfold Hid; rw [HST.out, stmtC, if_neg (by rw [SHT.out]; simp), HCE.out, if_pos hc]; rfl
                clear HST hc HCE
                go_wp2
                go_ret
                exact kto_bad HE.out HFR2.out rfl
            · have c1' := nil_lit c1
              have HE : Hid (res = .bad 3) := blk_bad3 HST.out (by rw [sh]; simp [c1])
              clear HST HX1 HCE sh c1
              go_wp2
              go_ret
              exact kto_bad HE.out HFR1.out rfl
          · have n2 : (k == [105, 102]) = false := ne_lit K2
            by_cases K3 : k = kWhile
            · subst K3
              have g21 : (kWhile == [118, 97, 114]) = false := by decide
              have g22 : (kWhile == [115, 101, 116]) = false := by decide
              have g23 : (kWhile == [114, 101, 116, 117, 114, 110]) = false := by decide
              have g24 : (kWhile == [112, 114, 105, 110, 116]) = false := by decide
              have g25 : (kWhile == [119, 104, 105, 108, 101]) = true := by decide
              have g26 : (kWhile == [105, 102]) = false := by decide
              have sh : shapeS kWhile m t.length o.length = decide (m = [] ∧ o.length = 0) := rfl
              by_cases c1 : m = []
              · subst c1
                by_cases c3 : o.length = 0
                · have SHT : Hid (shapeS kWhile [] t.length o.length = true) := by unfold Hid; rw [sh]; simp [c3]
                  have c3' : (o.length : Int) = 0 := by omega
                  clear sh c3
                  go_wp2_with fail
                  refine HX1.out.mono ?_
                  rintro e X2 ⟨rfl, hb2⟩
                  have z2 : wr.heap.size < X2.heap.size := by have := hb2.size; omega
                  have hfr2 : KFr p av.ownBlock vv.ownBlock w X2 := HFR1.out.trans (KFr.of hb2) HNA.out HNV.out
                  have HFR2 := hidX hfr2
                  have HK2 := hidX (HK1.out.below hb2)
                  have bk2 := (hb2.block _ z1).trans BK.out
                  have BK2 := hidX bk2
                  clear hfr2 bk2 d0 d1 d2 d3 d4 d5 d6 d7 HX1
                  by_cases hc : ce = 0
                  · have hc' : ¬ (0 : Int) < (ce : Int) := by omega
                    have hce0 : exprC F visq (.mk ek en em eks) = 0 := HCE.out.trans hc
                    have HC0 := hidX hce0
                    clear hc hce0 HCE
                    have X3E : ∃ X3, X3 = X2 := ⟨X2, rfl⟩
                    obtain ⟨X3, hX3⟩ := X3E
                    subst hX3
                    have HK3 := HK2
                    have HFR3 := HFR2
                    have HNA3 := HNA
                    have HNV3 := HNV
                    have BK3 := BK2
                    have HNB3 := HNB
                    have HNV3B := HNB2
                    have hA12 := hal
                    have hVA := hvl
                    have hVP := hvp
                    have HPV := HPRE
                    have HSB : Hid (stmtC F allq visq (.mk kWhile [] (.mk ek en em eks) t o) = (blockC F allq visq t).bind fun a => blockC F a visq o) := by
                      unfold Hid; rw [stmtC, if_neg (by rw [SHT.out]; simp), HC0.out, if_neg (by simp), if_neg (by decide), if_neg (by decide)]
                    have HVC : Hid (visC visq (.mk kWhile [] (.mk ek en em eks) t o) = visq) := by unfold Hid; show (if kWhile = kVar then visq ++ [[]] else visq) = _; rw [if_neg (by decide)]
                    have hpl3 := HK3.out.plt
                    have hlow3 : Below B w X3 := HFR3.out.low HC.out
                    have hct : ∀ X, Below X3.heap.size X3 X → Calls Tryz.prog 72 #[.pointer (some ⟨p, 0, none⟩), .slice adt0 t.length ct0] X (KTo X3 B p fv (.slice ada allq.length ca) (.slice adv visq.length cv) F visq (blockC F allq visq t)) := fun X hX => (HT.out X _ _ allq visq (HK3.out.below hX) (bl_trans hlow3 (by have := HK3.out.hp; omega) hX) hA12 hVA).mono fun _ _ h => kto_base h hX
                    have HCT := hidX hct
                    have c6 : X3.cell? ⟨wr.heap.size, 6, none⟩ = some (.slice adt0 t.length ct0) := cell_of_blk BK3.out 6
                    have c0 : X3.cell? ⟨wr.heap.size, 0, none⟩ = some (.string ⟨kWhile.toArray⟩) := cell_of_blk BK3.out 0
                    clear hct hlow3 HT
                    go_wp2_with fail
                    go_quiet (fail)
                    go_wp2_with fail
                    refine (HCT.out _ (by (repeat (first | exact Below.refl _ _ | assumption | refine Below.drew ?_ | refine Below.trans ?_ (drewN_below' _ _ _) | refine Below.setCell ?_ (by first | (simp; done) | (simp; omega)) _ | refine Below.alloc ?_ (by first | (simp; done) | (simp; omega)) _)))).mono ?_
                    rintro ev X4 ⟨hf4, h4⟩
                    have bk4 : X4.heap[wr.heap.size]? = _ := (hf4.block wr.heap.size (heap_lt BK3.out) (by omega) (fun e => HNB3.out _ e rfl) (fun e => HNV3B.out _ e rfl)).trans BK3.out
                    have hz4 := hf4.size
                    have hfr4 : KFr p av.ownBlock vv.ownBlock w X4 := HFR3.out.trans hf4 HNA3.out HNV3.out
                    have HFR4 := hidX hfr4
                    have HF4 := hidX hf4
                    have BK4 := hidX bk4
                    clear hfr4 hf4 bk4 c6 c0
                    cases hb4 : blockC F allq visq t with
                    | bad c =>
                      rw [hb4] at h4
                      simp only at h4
                      subst h4
                      have hc0 : c ≠ 0 := fun e => funC_ok.blockC_ne0 F _ _ _ (by rw [hb4, e])
                      have hc1 : ((c : Int) == 0) = false := by simpa using hc0
                      have hc2 : (0 : Int) < (c : Int) := by omega
                      have HE : Hid (res = .bad c) := by unfold Hid; rw [HST.out, HSB.out, hb4]; rfl
                      clear HST HSB hb4 hc0 HO
                      go_wp2
                      go_ret
                      exact kto_bad HE.out HFR4.out rfl
                    | ok all4 =>
                      rw [hb4] at h4
                      simp only at h4
                      obtain ⟨he4, av4, vv4, hk4, hna4, hnv4⟩ := h4
                      subst he4
                      have HK4 := hidX hk4
                      have ha4 : all4.length ≤ 12 := blockC_len F _ _ _ _ hb4 hA12
                      have hg4 := blockC_ge hb4
                      have HNA4 := hidX (HNA3.out.trans hna4 (HFR3.out.size))
                      have HNV4 := hidX (HNV3.out.trans hnv4 (HFR3.out.size))
                      have hp4 := hk4.plt
                      have hlow4 : Below B w X4 := HFR4.out.low HC.out
                      have hco : Calls Tryz.prog 72 #[.pointer (some ⟨p, 0, none⟩), .slice ado0 o.length co0] X4 (KTo X4 B p fv av4 vv4 F visq (blockC F all4 visq o)) := HO.out X4 _ _ all4 visq hk4 hlow4 ha4 (by omega)
                      have HCO := hidX hco
                      have c7 : X4.cell? ⟨wr.heap.size, 7, none⟩ = some (.slice ado0 o.length co0) := cell_of_blk BK4.out 7
                      have HNB4 : Hid (∀ b, av4.ownBlock = some b → b ≠ wr.heap.size) := fun b e e' => hna4.ne (heap_lt BK3.out) (fun e2 => HNB3.out _ e2 rfl) (e' ▸ e)
                      have HNV4B : Hid (∀ b, vv4.ownBlock = some b → b ≠ wr.heap.size) := fun b e e' => hnv4.ne (heap_lt BK3.out) (fun e2 => HNV3B.out _ e2 rfl) (e' ▸ e)
                      have HB4 := hidX hb4
                      clear hco hlow4 HO hk4 hna4 hnv4 hb4
                      go_wp2_with fail
                      refine HCO.out.mono ?_
                      rintro ev X5 ⟨hf5, h5⟩
                      have hfr5 : KFr p av.ownBlock vv.ownBlock w X5 := HFR4.out.trans hf5 HNA4.out HNV4.out
                      have HFR5 := hidX hfr5
                      clear hfr5 hf5 c7
                      cases hb5 : blockC F all4 visq o with
                      | bad c =>
                        rw [hb5] at h5
                        simp only at h5
                        subst h5
                        have hc0 : c ≠ 0 := fun e => funC_ok.blockC_ne0 F _ _ _ (by rw [hb5, e])
                        have hc2 : (0 : Int) < (c : Int) := by omega
                        have HE : Hid (res = .bad c) := by unfold Hid; rw [HST.out, HSB.out, HB4.out]; simp only [Cs.bind_ok]; rw [hb5]; rfl
                        clear HST HSB hb5 hc0 HB4
                        go_wp2
                        go_ret
                        exact kto_bad HE.out HFR5.out rfl
                      | ok all5 =>
                        rw [hb5] at h5
                        simp only at h5
                        obtain ⟨he5, av5, vv5, hk5, hna5, hnv5⟩ := h5
                        subst he5
                        have HK5 := hidX hk5
                        have ha5 : all5.length ≤ 12 := blockC_len F _ _ _ _ hb5 ha4
                        have hg5 := blockC_ge hb5
                        have HNA5 := hidX (HNA4.out.trans hna5 (HFR4.out.size))
                        have HNV5 := hidX (HNV4.out.trans hnv5 (HFR4.out.size))
                        have HB5 : Hid (res = blockC F all5 visq (l.drop (q + 1))) := by unfold Hid; rw [HST.out, HSB.out, HB4.out]; simp only [Cs.bind_ok]; rw [hb5, HVC.out]; rfl
                        clear HST HSB hb5 HB4 hk5 hna5 hnv5
                        go_wp2
                        go_roundw
                        case rel => exact ⟨q + 1, all5, visq, av5, vv5, by omega, by go_num, HK5.out, HFR5.out, HNA5.out, HNV5.out, ha5, by omega, hVP, HPV.out, HB5.out⟩
                        case measure => simp [intOf]; omega
                  · have hc' : (0 : Int) < (ce : Int) := by omega
                    have HE : Hid (res = .bad ce) := by unfold Hid; rw [HST.out, stmtC, if_neg (by rw [SHT.out]; simp), HCE.out, if_pos hc]; rfl
                    clear HST hc HCE
                    go_wp2
                    go_ret
                    exact kto_bad HE.out HFR2.out rfl
                · have c3' : ((o.length : Int) == 0) = false := by simpa using c3
                  have HE : Hid (res = .bad 3) := blk_bad3 HST.out (by rw [sh]; simp [c3])
                  clear HST HX1 HCE sh c3
                  go_wp2
                  go_ret
                  exact kto_bad HE.out HFR1.out rfl
              · have c1' := nil_lit c1
                have HE : Hid (res = .bad 3) := blk_bad3 HST.out (by rw [sh]; simp [c1])
                clear HST HX1 HCE sh c1
                go_wp2
                go_ret
                exact kto_bad HE.out HFR1.out rfl
            · have n3 : (k == [119, 104, 105, 108, 101]) = false := ne_lit K3
              by_cases K4 : k = kReturn
              · subst K4
                have g21 : (kReturn == [118, 97, 114]) = false := by decide
                have g22 : (kReturn == [115, 101, 116]) = false := by decide
                have g23 : (kReturn == [114, 101, 116, 117, 114, 110]) = true := by decide
                have g24 : (kReturn == [112, 114, 105, 110, 116]) = false := by decide
                have g25 : (kReturn == [119, 104, 105, 108, 101]) = false := by decide
                have g26 : (kReturn == [105, 102]) = false := by decide
                have sh : shapeS kReturn m t.length o.length = decide (m = [] ∧ t.length = 0 ∧ o.length = 0) := rfl
                by_cases c1 : m = []
                · subst c1
                  by_cases c2 : t.length = 0
                  · by_cases c3 : o.length = 0
                    · have SHT : Hid (shapeS kReturn [] t.length o.length = true) := by unfold Hid; rw [sh]; simp [c2, c3]
                      have c2' : (t.length : Int) = 0 := by omega
                      have c3' : (o.length : Int) = 0 := by omega
                      clear sh c2 c3
                      go_wp2_with fail
                      refine HX1.out.mono ?_
                      rintro e X2 ⟨rfl, hb2⟩
                      have z2 : wr.heap.size < X2.heap.size := by have := hb2.size; omega
                      have hfr2 : KFr p av.ownBlock vv.ownBlock w X2 := HFR1.out.trans (KFr.of hb2) HNA.out HNV.out
                      have HFR2 := hidX hfr2
                      have HK2 := hidX (HK1.out.below hb2)
                      have bk2 := (hb2.block _ z1).trans BK.out
                      have BK2 := hidX bk2
                      clear hfr2 bk2 d0 d1 d2 d3 d4 d5 d6 d7 HX1
                      by_cases hc : ce = 0
                      · have hc' : ¬ (0 : Int) < (ce : Int) := by omega
                        have hce0 : exprC F visq (.mk ek en em eks) = 0 := HCE.out.trans hc
                        have HC0 := hidX hce0
                        clear hc hce0 HCE
                        have X3E : ∃ X3, X3 = X2 := ⟨X2, rfl⟩
                        obtain ⟨X3, hX3⟩ := X3E
                        subst hX3
                        have HK3 := HK2
                        have HFR3 := HFR2
                        have HNA3 := HNA
                        have HNV3 := HNV
                        have BK3 := BK2
                        have HNB3 := HNB
                        have HNV3B := HNB2
                        have hA12 := hal
                        have hVA := hvl
                        have hVP := hvp
                        have HPV := HPRE
                        have HSB : Hid (stmtC F allq visq (.mk kReturn [] (.mk ek en em eks) t o) = (blockC F allq visq t).bind fun a => blockC F a visq o) := by
                          unfold Hid; rw [stmtC, if_neg (by rw [SHT.out]; simp), HC0.out, if_neg (by simp), if_neg (by decide), if_neg (by decide)]
                        have HVC : Hid (visC visq (.mk kReturn [] (.mk ek en em eks) t o) = visq) := by unfold Hid; show (if kReturn = kVar then visq ++ [[]] else visq) = _; rw [if_neg (by decide)]
                        have hpl3 := HK3.out.plt
                        have hlow3 : Below B w X3 := HFR3.out.low HC.out
                        have hct : ∀ X, Below X3.heap.size X3 X → Calls Tryz.prog 72 #[.pointer (some ⟨p, 0, none⟩), .slice adt0 t.length ct0] X (KTo X3 B p fv (.slice ada allq.length ca) (.slice adv visq.length cv) F visq (blockC F allq visq t)) := fun X hX => (HT.out X _ _ allq visq (HK3.out.below hX) (bl_trans hlow3 (by have := HK3.out.hp; omega) hX) hA12 hVA).mono fun _ _ h => kto_base h hX
                        have HCT := hidX hct
                        have c6 : X3.cell? ⟨wr.heap.size, 6, none⟩ = some (.slice adt0 t.length ct0) := cell_of_blk BK3.out 6
                        have c0 : X3.cell? ⟨wr.heap.size, 0, none⟩ = some (.string ⟨kReturn.toArray⟩) := cell_of_blk BK3.out 0
                        clear hct hlow3 HT
                        go_wp2_with fail
                        go_quiet (fail)
                        go_wp2_with fail
                        refine (HCT.out _ (by (repeat (first | exact Below.refl _ _ | assumption | refine Below.drew ?_ | refine Below.trans ?_ (drewN_below' _ _ _) | refine Below.setCell ?_ (by first | (simp; done) | (simp; omega)) _ | refine Below.alloc ?_ (by first | (simp; done) | (simp; omega)) _)))).mono ?_
                        rintro ev X4 ⟨hf4, h4⟩
                        have bk4 : X4.heap[wr.heap.size]? = _ := (hf4.block wr.heap.size (heap_lt BK3.out) (by omega) (fun e => HNB3.out _ e rfl) (fun e => HNV3B.out _ e rfl)).trans BK3.out
                        have hz4 := hf4.size
                        have hfr4 : KFr p av.ownBlock vv.ownBlock w X4 := HFR3.out.trans hf4 HNA3.out HNV3.out
                        have HFR4 := hidX hfr4
                        have HF4 := hidX hf4
                        have BK4 := hidX bk4
                        clear hfr4 hf4 bk4 c6 c0
                        cases hb4 : blockC F allq visq t with
                        | bad c =>
                          rw [hb4] at h4
                          simp only at h4
                          subst h4
                          have hc0 : c ≠ 0 := fun e => funC_ok.blockC_ne0 F _ _ _ (by rw [hb4, e])
                          have hc1 : ((c : Int) == 0) = false := by simpa using hc0
                          have hc2 : (0 : Int) < (c : Int) := by omega
                          have HE : Hid (res = .bad c) := by unfold Hid; rw [HST.out, HSB.out, hb4]; rfl
                          clear HST HSB hb4 hc0 HO
                          go_wp2
                          go_ret
                          exact kto_bad HE.out HFR4.out rfl
                        | ok all4 =>
                          rw [hb4] at h4
                          simp only at h4
                          obtain ⟨he4, av4, vv4, hk4, hna4, hnv4⟩ := h4
                          subst he4
                          have HK4 := hidX hk4
                          have ha4 : all4.length ≤ 12 := blockC_len F _ _ _ _ hb4 hA12
                          have hg4 := blockC_ge hb4
                          have HNA4 := hidX (HNA3.out.trans hna4 (HFR3.out.size))
                          have HNV4 := hidX (HNV3.out.trans hnv4 (HFR3.out.size))
                          have hp4 := hk4.plt
                          have hlow4 : Below B w X4 := HFR4.out.low HC.out
                          have hco : Calls Tryz.prog 72 #[.pointer (some ⟨p, 0, none⟩), .slice ado0 o.length co0] X4 (KTo X4 B p fv av4 vv4 F visq (blockC F all4 visq o)) := HO.out X4 _ _ all4 visq hk4 hlow4 ha4 (by omega)
                          have HCO := hidX hco
                          have c7 : X4.cell? ⟨wr.heap.size, 7, none⟩ = some (.slice ado0 o.length co0) := cell_of_blk BK4.out 7
                          have HNB4 : Hid (∀ b, av4.ownBlock = some b → b ≠ wr.heap.size) := fun b e e' => hna4.ne (heap_lt BK3.out) (fun e2 => HNB3.out _ e2 rfl) (e' ▸ e)
                          have HNV4B : Hid (∀ b, vv4.ownBlock = some b → b ≠ wr.heap.size) := fun b e e' => hnv4.ne (heap_lt BK3.out) (fun e2 => HNV3B.out _ e2 rfl) (e' ▸ e)
                          have HB4 := hidX hb4
                          clear hco hlow4 HO hk4 hna4 hnv4 hb4
                          go_wp2_with fail
                          refine HCO.out.mono ?_
                          rintro ev X5 ⟨hf5, h5⟩
                          have hfr5 : KFr p av.ownBlock vv.ownBlock w X5 := HFR4.out.trans hf5 HNA4.out HNV4.out
                          have HFR5 := hidX hfr5
                          clear hfr5 hf5 c7
                          cases hb5 : blockC F all4 visq o with
                          | bad c =>
                            rw [hb5] at h5
                            simp only at h5
                            subst h5
                            have hc0 : c ≠ 0 := fun e => funC_ok.blockC_ne0 F _ _ _ (by rw [hb5, e])
                            have hc2 : (0 : Int) < (c : Int) := by omega
                            have HE : Hid (res = .bad c) := by unfold Hid; rw [HST.out, HSB.out, HB4.out]; simp only [Cs.bind_ok]; rw [hb5]; rfl
                            clear HST HSB hb5 hc0 HB4
                            go_wp2
                            go_ret
                            exact kto_bad HE.out HFR5.out rfl
                          | ok all5 =>
                            rw [hb5] at h5
                            simp only at h5
                            obtain ⟨he5, av5, vv5, hk5, hna5, hnv5⟩ := h5
                            subst he5
                            have HK5 := hidX hk5
                            have ha5 : all5.length ≤ 12 := blockC_len F _ _ _ _ hb5 ha4
                            have hg5 := blockC_ge hb5
                            have HNA5 := hidX (HNA4.out.trans hna5 (HFR4.out.size))
                            have HNV5 := hidX (HNV4.out.trans hnv5 (HFR4.out.size))
                            have HB5 : Hid (res = blockC F all5 visq (l.drop (q + 1))) := by unfold Hid; rw [HST.out, HSB.out, HB4.out]; simp only [Cs.bind_ok]; rw [hb5, HVC.out]; rfl
                            clear HST HSB hb5 HB4 hk5 hna5 hnv5
                            go_wp2
                            go_roundw
                            case rel => exact ⟨q + 1, all5, visq, av5, vv5, by omega, by go_num, HK5.out, HFR5.out, HNA5.out, HNV5.out, ha5, by omega, hVP, HPV.out, HB5.out⟩
                            case measure => simp [intOf]; omega
                      · have hc' : (0 : Int) < (ce : Int) := by omega
                        have HE : Hid (res = .bad ce) := by unfold Hid; rw [HST.out, stmtC, if_neg (by rw [SHT.out]; simp), HCE.out, if_pos hc]; rfl
                        clear HST hc HCE
                        go_wp2
                        go_ret
                        exact kto_bad HE.out HFR2.out rfl
                    · have c3' : ((o.length : Int) == 0) = false := by simpa using c3
                      have c2' : (t.length : Int) = 0 := by omega
                      have HE : Hid (res = .bad 3) := blk_bad3 HST.out (by rw [sh]; simp [c3])
                      clear HST HX1 HCE sh c2 c3
                      go_wp2
                      go_ret
                      exact kto_bad HE.out HFR1.out rfl
                  · have c2' : ((t.length : Int) == 0) = false := by simpa using c2
                    have HE : Hid (res = .bad 3) := blk_bad3 HST.out (by rw [sh]; simp [c2])
                    clear HST HX1 HCE sh c2
                    go_wp2
                    go_ret
                    exact kto_bad HE.out HFR1.out rfl
                · have c1' := nil_lit c1
                  have HE : Hid (res = .bad 3) := blk_bad3 HST.out (by rw [sh]; simp [c1])
                  clear HST HX1 HCE sh c1
                  go_wp2
                  go_ret
                  exact kto_bad HE.out HFR1.out rfl
              · have n4 : (k == [114, 101, 116, 117, 114, 110]) = false := ne_lit K4
                by_cases K5 : k = kPrint
                · subst K5
                  have g21 : (kPrint == [118, 97, 114]) = false := by decide
                  have g22 : (kPrint == [115, 101, 116]) = false := by decide
                  have g23 : (kPrint == [114, 101, 116, 117, 114, 110]) = false := by decide
                  have g24 : (kPrint == [112, 114, 105, 110, 116]) = true := by decide
                  have g25 : (kPrint == [119, 104, 105, 108, 101]) = false := by decide
                  have g26 : (kPrint == [105, 102]) = false := by decide
                  have sh : shapeS kPrint m t.length o.length = decide (m = [] ∧ t.length = 0 ∧ o.length = 0) := rfl
                  by_cases c1 : m = []
                  · subst c1
                    by_cases c2 : t.length = 0
                    · by_cases c3 : o.length = 0
                      · have SHT : Hid (shapeS kPrint [] t.length o.length = true) := by unfold Hid; rw [sh]; simp [c2, c3]
                        have c2' : (t.length : Int) = 0 := by omega
                        have c3' : (o.length : Int) = 0 := by omega
                        clear sh c2 c3
                        go_wp2_with fail
                        refine HX1.out.mono ?_
                        rintro e X2 ⟨rfl, hb2⟩
                        have z2 : wr.heap.size < X2.heap.size := by have := hb2.size; omega
                        have hfr2 : KFr p av.ownBlock vv.ownBlock w X2 := HFR1.out.trans (KFr.of hb2) HNA.out HNV.out
                        have HFR2 := hidX hfr2
                        have HK2 := hidX (HK1.out.below hb2)
                        have bk2 := (hb2.block _ z1).trans BK.out
                        have BK2 := hidX bk2
                        clear hfr2 bk2 d0 d1 d2 d3 d4 d5 d6 d7 HX1
                        by_cases hc : ce = 0
                        · have hc' : ¬ (0 : Int) < (ce : Int) := by omega
                          have hce0 : exprC F visq (.mk ek en em eks) = 0 := HCE.out.trans hc
                          have HC0 := hidX hce0
                          clear hc hce0 HCE
                          have X3E : ∃ X3, X3 = X2 := ⟨X2, rfl⟩
                          obtain ⟨X3, hX3⟩ := X3E
                          subst hX3
                          have HK3 := HK2
                          have HFR3 := HFR2
                          have HNA3 := HNA
                          have HNV3 := HNV
                          have BK3 := BK2
                          have HNB3 := HNB
                          have HNV3B := HNB2
                          have hA12 := hal
                          have hVA := hvl
                          have hVP := hvp
                          have HPV := HPRE
                          have HSB : Hid (stmtC F allq visq (.mk kPrint [] (.mk ek en em eks) t o) = (blockC F allq visq t).bind fun a => blockC F a visq o) := by
                            unfold Hid; rw [stmtC, if_neg (by rw [SHT.out]; simp), HC0.out, if_neg (by simp), if_neg (by decide), if_neg (by decide)]
                          have HVC : Hid (visC visq (.mk kPrint [] (.mk ek en em eks) t o) = visq) := by unfold Hid; show (if kPrint = kVar then visq ++ [[]] else visq) = _; rw [if_neg (by decide)]
                          have hpl3 := HK3.out.plt
                          have hlow3 : Below B w X3 := HFR3.out.low HC.out
                          have hct : ∀ X, Below X3.heap.size X3 X → Calls Tryz.prog 72 #[.pointer (some ⟨p, 0, none⟩), .slice adt0 t.length ct0] X (KTo X3 B p fv (.slice ada allq.length ca) (.slice adv visq.length cv) F visq (blockC F allq visq t)) := fun X hX => (HT.out X _ _ allq visq (HK3.out.below hX) (bl_trans hlow3 (by have := HK3.out.hp; omega) hX) hA12 hVA).mono fun _ _ h => kto_base h hX
                          have HCT := hidX hct
                          have c6 : X3.cell? ⟨wr.heap.size, 6, none⟩ = some (.slice adt0 t.length ct0) := cell_of_blk BK3.out 6
                          have c0 : X3.cell? ⟨wr.heap.size, 0, none⟩ = some (.string ⟨kPrint.toArray⟩) := cell_of_blk BK3.out 0
                          clear hct hlow3 HT
                          go_wp2_with fail
                          go_quiet (fail)
                          go_wp2_with fail
                          refine (HCT.out _ (by (repeat (first | exact Below.refl _ _ | assumption | refine Below.drew ?_ | refine Below.trans ?_ (drewN_below' _ _ _) | refine Below.setCell ?_ (by first | (simp; done) | (simp; omega)) _ | refine Below.alloc ?_ (by first | (simp; done) | (simp; omega)) _)))).mono ?_
                          rintro ev X4 ⟨hf4, h4⟩
                          have bk4 : X4.heap[wr.heap.size]? = _ := (hf4.block wr.heap.size (heap_lt BK3.out) (by omega) (fun e => HNB3.out _ e rfl) (fun e => HNV3B.out _ e rfl)).trans BK3.out
                          have hz4 := hf4.size
                          have hfr4 : KFr p av.ownBlock vv.ownBlock w X4 := HFR3.out.trans hf4 HNA3.out HNV3.out
                          have HFR4 := hidX hfr4
                          have HF4 := hidX hf4
                          have BK4 := hidX bk4
                          clear hfr4 hf4 bk4 c6 c0
                          cases hb4 : blockC F allq visq t with
                          | bad c =>
                            rw [hb4] at h4
                            simp only at h4
                            subst h4
                            have hc0 : c ≠ 0 := fun e => funC_ok.blockC_ne0 F _ _ _ (by rw [hb4, e])
                            have hc1 : ((c : Int) == 0) = false := by simpa using hc0
                            have hc2 : (0 : Int) < (c : Int) := by omega
                            have HE : Hid (res = .bad c) := by unfold Hid; rw [HST.out, HSB.out, hb4]; rfl
                            clear HST HSB hb4 hc0 HO
                            go_wp2
                            go_ret
                            exact kto_bad HE.out HFR4.out rfl
                          | ok all4 =>
                            rw [hb4] at h4
                            simp only at h4
                            obtain ⟨he4, av4, vv4, hk4, hna4, hnv4⟩ := h4
                            subst he4
                            have HK4 := hidX hk4
                            have ha4 : all4.length ≤ 12 := blockC_len F _ _ _ _ hb4 hA12
                            have hg4 := blockC_ge hb4
                            have HNA4 := hidX (HNA3.out.trans hna4 (HFR3.out.size))
                            have HNV4 := hidX (HNV3.out.trans hnv4 (HFR3.out.size))
                            have hp4 := hk4.plt
                            have hlow4 : Below B w X4 := HFR4.out.low HC.out
                            have hco : Calls Tryz.prog 72 #[.pointer (some ⟨p, 0, none⟩), .slice ado0 o.length co0] X4 (KTo X4 B p fv av4 vv4 F visq (blockC F all4 visq o)) := HO.out X4 _ _ all4 visq hk4 hlow4 ha4 (by omega)
                            have HCO := hidX hco
                            have c7 : X4.cell? ⟨wr.heap.size, 7, none⟩ = some (.slice ado0 o.length co0) := cell_of_blk BK4.out 7
                            have HNB4 : Hid (∀ b, av4.ownBlock = some b → b ≠ wr.heap.size) := fun b e e' => hna4.ne (heap_lt BK3.out) (fun e2 => HNB3.out _ e2 rfl) (e' ▸ e)
                            have HNV4B : Hid (∀ b, vv4.ownBlock = some b → b ≠ wr.heap.size) := fun b e e' => hnv4.ne (heap_lt BK3.out) (fun e2 => HNV3B.out _ e2 rfl) (e' ▸ e)
                            have HB4 := hidX hb4
                            clear hco hlow4 HO hk4 hna4 hnv4 hb4
                            go_wp2_with fail
                            refine HCO.out.mono ?_
                            rintro ev X5 ⟨hf5, h5⟩
                            have hfr5 : KFr p av.ownBlock vv.ownBlock w X5 := HFR4.out.trans hf5 HNA4.out HNV4.out
                            have HFR5 := hidX hfr5
                            clear hfr5 hf5 c7
                            cases hb5 : blockC F all4 visq o with
                            | bad c =>
                              rw [hb5] at h5
                              simp only at h5
                              subst h5
                              have hc0 : c ≠ 0 := fun e => funC_ok.blockC_ne0 F _ _ _ (by rw [hb5, e])
                              have hc2 : (0 : Int) < (c : Int) := by omega
                              have HE : Hid (res = .bad c) := by unfold Hid; rw [HST.out, HSB.out, HB4.out]; simp only [Cs.bind_ok]; rw [hb5]; rfl
                              clear HST HSB hb5 hc0 HB4
                              go_wp2
                              go_ret
                              exact kto_bad HE.out HFR5.out rfl
                            | ok all5 =>
                              rw [hb5] at h5
                              simp only at h5
                              obtain ⟨he5, av5, vv5, hk5, hna5, hnv5⟩ := h5
                              subst he5
                              have HK5 := hidX hk5
                              have ha5 : all5.length ≤ 12 := blockC_len F _ _ _ _ hb5 ha4
                              have hg5 := blockC_ge hb5
                              have HNA5 := hidX (HNA4.out.trans hna5 (HFR4.out.size))
                              have HNV5 := hidX (HNV4.out.trans hnv5 (HFR4.out.size))
                              have HB5 : Hid (res = blockC F all5 visq (l.drop (q + 1))) := by unfold Hid; rw [HST.out, HSB.out, HB4.out]; simp only [Cs.bind_ok]; rw [hb5, HVC.out]; rfl
                              clear HST HSB hb5 HB4 hk5 hna5 hnv5
                              go_wp2
                              go_roundw
                              case rel => exact ⟨q + 1, all5, visq, av5, vv5, by omega, by go_num, HK5.out, HFR5.out, HNA5.out, HNV5.out, ha5, by omega, hVP, HPV.out, HB5.out⟩
                              case measure => simp [intOf]; omega
                        · have hc' : (0 : Int) < (ce : Int) := by omega
                          have HE : Hid (res = .bad ce) := by unfold Hid; rw [HST.out, stmtC, if_neg (by rw [SHT.out]; simp), HCE.out, if_pos hc]; rfl
                          clear HST hc HCE
                          go_wp2
                          go_ret
                          exact kto_bad HE.out HFR2.out rfl
                      · have c3' : ((o.length : Int) == 0) = false := by simpa using c3
                        have c2' : (t.length : Int) = 0 := by omega
                        have HE : Hid (res = .bad 3) := blk_bad3 HST.out (by rw [sh]; simp [c3])
                        clear HST HX1 HCE sh c2 c3
                        go_wp2
                        go_ret
                        exact kto_bad HE.out HFR1.out rfl
                    · have c2' : ((t.length : Int) == 0) = false := by simpa using c2
                      have HE : Hid (res = .bad 3) := blk_bad3 HST.out (by rw [sh]; simp [c2])
                      clear HST HX1 HCE sh c2
                      go_wp2
                      go_ret
                      exact kto_bad HE.out HFR1.out rfl
                  · have c1' := nil_lit c1
                    have HE : Hid (res = .bad 3) := blk_bad3 HST.out (by rw [sh]; simp [c1])
                    clear HST HX1 HCE sh c1
                    go_wp2
                    go_ret
                    exact kto_bad HE.out HFR1.out rfl
                · have n5 : (k == [112, 114, 105, 110, 116]) = false := ne_lit K5
                  have HE : Hid (res = .bad 3) := blk_bad3 HST.out (by unfold shapeS; rw [if_neg (not_or.2 ⟨K0, K1⟩), if_neg K2, if_neg K3, if_neg (not_or.2 ⟨K4, K5⟩)])
                  clear HST HX1 HCE K0 K1 K2 K3 K4 K5
                  cases hmn : m.isEmpty with
                  | true =>
                    go_wp2
                    go_ret
                    exact kto_bad HE.out HFR1.out rfl
                  | false =>
                    go_wp2
                    go_ret
                    exact kto_bad HE.out HFR1.out rfl
    · have hqn : q = l.length := by omega
      subst hqn
      have HE : Hid (res = .ok allq) := by unfold Hid; rw [HB.out, List.drop_length, blockC]
      have k3 : wr.cell? ⟨p, 3, none⟩ = some (.slice adv visq.length cv) := cell_of_blk HKQ.out.blk 3
      have f3 := free_of_blk HKQ.out.blk 3
      obtain ⟨hcp, hcp'⟩ := own_cap2 HKQ.out.vi
      have hvp' : (vis.length : Int) ≤ (visq.length : Int) := by omega
      have hcq : (visq.length : Int) ≤ (cv : Int) := by omega
      obtain ⟨hK4, hF4, hN4⟩ := HKQ.out.cut (m := vis.length) hvp
      rw [HPRE.out] at hK4
      have HK4 := hidX hK4
      have HF4 := hidX hF4
      have HN4 := hidX hN4
      clear HB hK4 hF4 hN4
      go_wp2
      go_ret
      exact kto_ok HE.out (HFR.out.trans HF4.out HNA.out HNV.out) HK4.out HNA.out (HNV.out.trans HN4.out HFR.out.size)
theorem kbl_n : ∀ (n : Nat) (l : List Sm), nodesS l ≤ n → KBo l
  | 0, l, h => kbl_step l fun k m e t o hm => by
    have := nodesS_mem hm
    rw [nodesM] at this
    omega
  | n + 1, l, h => kbl_step l fun k m e t o hm => by
    have := nodesS_mem hm
    rw [nodesM] at this
    exact ⟨kbl_n n t (by omega), kbl_n n o (by omega)⟩
theorem kbl_any (l : List Sm) : KBo l := kbl_n _ l (Nat.le_refl _)
end Go.Proofs.YtcebpmaggnephabGreatDoor
