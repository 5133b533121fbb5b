/- Our own: texts joined: GrStepW, GrWalk. -/
import Derived.Test.YtlgejjmdanmglaaGreatDoorVFolAll
import Derived.Test.YtlgejjmdanmglaaGreatDoorVNewFl
import Derived.OwnWalk
namespace Go.Proofs.YtlgejjmdanmglaaGreatDoor
open Go.RowKit
section
variable {ones twos : List (List UInt8)} {Q : Int} {L : List Nd}
theorem spot_six (hW : WellG ones twos Q L) {a j k : Nat} (hw : isWay (ndAt L a).kind) (hs : Spot L a j k) : wayK (ndAt L j).kind := by
 have hsk := spot_kind hW hs
 obtain ⟨n, h1, h2, h3⟩ := hs
 rw [ndAt_of h1] at hsk ⊢
 have W := hW.node.at h1
 have hl := lt_of_at h3
 have hyn : ¬ (n.kind = gYes ∨ n.kind = gNo) := fun e => by
  rw [if_pos e] at hsk
  rw [hsk] at hw
  exact if_noway hw
 have hd := (due_way W hl).2 ⟨h2, fun e => hyn (Or.inl e), fun e => hyn (Or.inr e)⟩
 obtain ⟨f1, f2, f3, f4, f5, f6, f7, f8, f9, f10, f11, f12, f13, f14⟩ := fits_len W.fits
 rcases kind_cases n.kind with e | e | e | e | e | e | e | e | e | e | e | e | e | e | ⟨e, _⟩
 ·rw [f1 e] at hl; simp at hl
 ·rw [f2 e] at hl; simp at hl
 ·rw [f3 e] at hl; simp at hl
 ·have : k = 0 := by have := f4 e; omega
  rw [e, this] at hd; exact absurd hd (by decide)
 ·have : k = 0 ∨ k = 1 := by have := f5 e; omega
  rw [e] at hd
  rcases this with rfl | rfl <;> exact absurd hd (by decide)
 ·rw [e] at hd
  cases k with
  | zero => exact absurd hd (by decide)
  | succ k => unfold dueS at hd; rw [if_neg (by simp [shp, shpIn, shapesL, gPhi, gStart, gParam, gConst, gOne, gTwo])] at hd; exact absurd hd (by decide)
 ·exact Or.inl e
 ·exact Or.inr (Or.inl e)
 ·exact absurd (Or.inl e) hyn
 ·exact absurd (Or.inr e) hyn
 ·exact Or.inr (Or.inr (Or.inl e))
 ·exact Or.inr (Or.inr (Or.inr (Or.inl e)))
 ·exact Or.inr (Or.inr (Or.inr (Or.inr (Or.inl e))))
 ·exact Or.inr (Or.inr (Or.inr (Or.inr (Or.inr e))))
 ·have := W.kind
  rw [e] at this
  exact absurd this.symm W.nonempty
theorem nextIf_way (hW : WellG ones twos Q L) {j : Nat} (hj : j < L.length) (hk : (ndAt L j).kind = gIf) (x : Int) : nextIf (ysI gYes L L.length) (ysI gNo L L.length) j x < L.length ∧ isWay (ndAt L (nextIf (ysI gYes L L.length) (ysI gNo L L.length) j x)).kind := by
 unfold nextIf
 have h1 := (ys_is hW (Or.inl rfl) hj hk _).2 rfl
 have h2 := (ys_is hW (Or.inr rfl) hj hk _).2 rfl
 split
 ·exact ⟨tk_lt h1.1, yes_way (Or.inl h1.2)⟩
 ·exact ⟨tk_lt h2.1, yes_way (Or.inr h2.2)⟩
theorem stepW_next (hW : WellG ones twos Q L) (hLow : ∀ n ∈ L, LowN n) {args ans : List Int} {most : Int} {a : Nat} (ha : a < L.length) (hw : isWay (ndAt L a).kind) {st st' : Rst} {got got' : Nat → Option Int} {a' : Nat} (h : stepW L args ans most (tkAt L a).1 (tkAt L a).2 st got = (st', got', a')) (ho : st.out.length ≤ 1000) :
  st.tks ≤ st'.tks ∧ st'.tks ≤ st.tks + 1 ∧ st'.out.length ≤ 1000 ∧ (st'.how = [] → a' < L.length ∧ isWay (ndAt L a').kind) := by
 have hs := tkAt_spot hW ha hw
 have h6 := spot_six hW hw hs
 have hj := (spot_low hs hLow).1
 unfold stepW at h
 generalize tkAt L a = sp at *
 obtain ⟨j, k⟩ := sp
 dsimp only at *
 split at h
 ·simp only [Prod.mk.injEq] at h
  obtain ⟨rfl, rfl, rfl⟩ := h
  exact ⟨Int.le_refl _, by simp; omega, ho, fun hh => absurd (show hStuck = [] from hh) (by decide)⟩
 ·next vs _ =>
  unfold stepAt at h
  by_cases c1 : (ndAt L j).kind = gRegion
  ·rw [if_pos c1] at h
   simp only [Prod.mk.injEq] at h
   obtain ⟨rfl, rfl, rfl⟩ := h
   exact ⟨by simp, by omega, ho, fun _ => ⟨hj, rest_way (Or.inl c1)⟩⟩
  rw [if_neg c1] at h
  by_cases c2 : (ndAt L j).kind = gIf
  ·rw [if_pos c2] at h
   simp only [Prod.mk.injEq] at h
   obtain ⟨rfl, rfl, rfl⟩ := h
   have := nextIf_way hW hj c2 (vs.getD 0 0)
   exact ⟨by simp, by omega, ho, fun _ => ⟨this.1, this.2⟩⟩
  rw [if_neg c2] at h
  by_cases c3 : (ndAt L j).kind = gTick
  ·rw [if_pos c3] at h
   simp only [Prod.mk.injEq] at h
   obtain ⟨rfl, rfl, rfl⟩ := h
   unfold tickR
   split
   ·exact ⟨Int.le_refl _, by simp; omega, ho, fun hh => absurd (show hOver = [] from hh) (by decide)⟩
   ·exact ⟨by simp; omega, by simp, ho, fun _ => ⟨hj, rest_way (Or.inr (Or.inr (Or.inr c3)))⟩⟩
  rw [if_neg c3] at h
  by_cases c4 : (ndAt L j).kind = gPrint
  ·rw [if_pos c4] at h
   simp only [Prod.mk.injEq] at h
   obtain ⟨rfl, rfl, rfl⟩ := h
   unfold printR
   split
   ·exact ⟨Int.le_refl _, by simp; omega, ho, fun hh => absurd (show hOver = [] from hh) (by decide)⟩
   ·exact ⟨by simp, by simp; omega, by simp; omega, fun _ => ⟨hj, rest_way (Or.inr (Or.inl c4))⟩⟩
  rw [if_neg c4] at h
  by_cases c5 : (ndAt L j).kind = gCall
  ·rw [if_pos c5] at h
   simp only [Prod.mk.injEq] at h
   obtain ⟨rfl, rfl, rfl⟩ := h
   unfold callR
   split
   ·exact ⟨Int.le_refl _, by simp; omega, ho, fun hh => absurd (show hOver = [] from hh) (by decide)⟩
   ·exact ⟨by simp, by simp; omega, ho, fun _ => ⟨hj, rest_way (Or.inr (Or.inr (Or.inl c5)))⟩⟩
  rw [if_neg c5] at h
  simp only [Prod.mk.injEq] at h
  obtain ⟨rfl, rfl, rfl⟩ := h
  exact ⟨by simp [retR], by simp [retR]; omega, ho, fun hh => absurd (show hDone = [] from hh) (by decide)⟩
end
noncomputable def walkW (L : List Nd) (args ans : List Int) (most : Int) : Nat → Nat → Rst → (Nat → Option Int) → Rst
 | 0, _, st, _ => { st with how := hStuck }
 | n + 1, way, st, got => let r := stepW L args ans most (tkAt L way).1 (tkAt L way).2 st got; if r.1.how ≠ [] then r.1 else walkW L args ans most n r.2.2 r.1 r.2.1
end Go.Proofs.YtlgejjmdanmglaaGreatDoor
namespace Go.Proofs.YtlgejjmdanmglaaGreatDoor
open Go.RowKit
theorem set5_blk {w : World} {r : Nat} {x0 x1 x2 x3 x4 : Value} {t : TypeId} (h : w.heap[r]? = some (.cells #[x0, x1, x2, x3, x4] t (0, 0))) (u0 u1 u2 u3 u4 : Value) :
  (((((w.setCell ⟨r, 0, none⟩ u0).setCell ⟨r, 1, none⟩ u1).setCell ⟨r, 2, none⟩ u2).setCell ⟨r, 3, none⟩ u3).setCell ⟨r, 4, none⟩ u4).heap[r]? = some (.cells #[u0, u1, u2, u3, u4] t (0, 0)) := by
 have h0 := blk_setCell h 0 u0
 have h1 := blk_setCell h0 1 u1
 have h2 := blk_setCell h1 2 u2
 have h3 := blk_setCell h2 3 u3
 have h4 := blk_setCell h3 4 u4
 simpa using h4
def DoneV (w : World) (v : Value) (st : Rst) : Prop := ∃ outv callv xs, v = .agg #[.string ⟨st.how.toArray⟩, .int .i64 st.val, .int .i64 st.tks, outv, callv] ∧ XRow (InH w) w outv st.out.length (intsG st.out) ∧ XRow (InH w) w callv st.calls.length xs ∧ XCs (InH w) w st.calls xs
theorem done_of {S : Nat → Prop} {X Y : World} {rb : Nat} {s : Rst} {ansv : Value} {most steps : Int} {outv callv : Value} {xs : List Value} (h : RecJ S X rb s ansv most steps outv callv xs) (hf : ∀ k, S k → Y.heap[k]? = X.heap[k]?) (hz : Y.heap.size = X.heap.size) : DoneV Y (.agg #[.string ⟨s.how.toArray⟩, .int .i64 s.val, .int .i64 s.tks, outv, callv]) s := by
 have hrow : ∀ {t : TypeId} {size n : Nat} {v : Value} {ys : List Value}, X.ownsRow 0 t size v n ys → (∀ b, v.ownBlock = some b → S b) → XRow (InH Y) Y v n ys := fun {t size n v ys} ho hs => by
  have h1 := xrow_own (own_same ho (fun b e => hf b (hs b e)))
  exact h1.imp (fun b hb => hb.2) (fun _ _ => rfl)
 exact ⟨outv, callv, xs, rfl, hrow h.out h.outS, hrow h.call h.callS, h.tel.imp (fun b hb => by show b < Y.heap.size; rw [hz]; exact (h.sl b hb.1).1) (fun b hb => hf b hb.1)⟩
set_option maxRecDepth 100000 in
set_option maxHeartbeats 8000000 in
theorem walk_any {w : World} {a : Nat → Addr} (hS : Sents w a) (hT : TabG w) (nm : List UInt8) (P : Int) (nv : Value) (L : List Nd) (hlow : ∀ n ∈ L, LowN n) (hG : XG true (InH w) w nv L) (hfa : (faultG onesE twosE P L).1 = 0) (args : List Int) (argv ansv : Value) (hal : (args.length : Int) = P) (hargs : XRow (InH w) w argv args.length (intsG args)) (ans : List Int) (hans : XRow (InH w) w ansv ans.length (intsG ans)) (hal2 : ans.length ≤ 100000) (ticks : Int) :
  Calls Tryz.prog 18 #[.agg #[.string ⟨nm.toArray⟩, .int .i64 P, nv], argv, ansv, .int .i64 ticks] w fun e w' => Below w.heap.size w w' ∧ ∃ v, e = .returned v ∧ DoneV w' v (walkW L args ans ticks 100000 0 st0 (fun _ => none)) := by
 have hW := wellG hfa
 have hL := hW.len.2
 have hL0 := hW.len.1
 obtain ⟨ad, cap, rfl⟩ := hG.is
 obtain ⟨aad, acap, rfl⟩ := hargs.is
 obtain ⟨aa, ac, rfl⟩ := hans.is
 have hPb := hW.par
 have hal1 : args.length ≤ 1000 := by omega
 obtain ⟨W0, hW0⟩ : ∃ W0, W0 = (w.alloc (.cells #[.string ⟨nm.toArray⟩, .int .i64 P, .slice ad L.length cap] 29)).alloc (.cells #[.string ⟨#[]⟩, .int .i64 0, .int .i64 0, .slice none 0 0, .slice none 0 0] 50) := ⟨_, rfl⟩
 have hb0 : Below w.heap.size w W0 := by rw [hW0]; (repeat (first | exact Below.refl _ _ | assumption | refine Below.drew ?_ | refine bT ?_ _ | refine bS ?_ _ | refine bA ?_ _))
 have hx0 : W0.heap[w.heap.size]? = some (.cells #[.string ⟨nm.toArray⟩, .int .i64 P, .slice ad L.length cap] 29 (0, 0)) := by rw [hW0]; exact twoG w _ _
 have hx1 : W0.heap[w.heap.size + 1]? = some (.cells #[.string ⟨#[]⟩, .int .i64 0, .int .i64 0, .slice none 0 0, .slice none 0 0] 50 (0, 0)) := by rw [hW0]; exact heap_alloc2_new w _ _
 have HNF := hidX (newFlow_any (hS.below hb0) (hT.below hb0) nm P (.slice ad L.length cap) L hfa (by omega) hlow (hG.imp (inH_up hb0) (keepH hb0)))
 have HLW := hidX hlow
 have HB0 := hidX hb0
 have HX0 := hidX hx0
 have HX1 := hidX hx1
 have HW := hidX hW
 have HAR := hidX hargs
 have HAN := hidX hans
 have hte : ((args.length : Int) == P) = true := by simp [hal]
 have hne : ((args.length : Int) != P) = false := by simp [hal]
 have HAL := hidX hal
 generalize hgoal : walkW L args ans ticks 100000 0 st0 (fun _ => none) = goal
 have HGO := hidX hgoal
 clear hS hT hlow hG hfa hargs hb0 hx0 hx1 hW hal hans hgoal
 go_enter Tryz.func18, Tryz.ntmps18
 go_wp2_with fail
 rw [← hW0]
 clear hW0
 refine HNF.out.mono ?_
 rintro e W2 ⟨hb2, fp, tv, yv, ov, pv, rfl, hF⟩
 obtain ⟨adt, capt, rfl⟩ := hF.tks.is
 have htl := tkI_len L L.length
 have hx0 := (hb2.block _ (heap_lt HX0.out)).trans HX0.out
 have hx1 := (hb2.block _ (heap_lt HX1.out)).trans HX1.out
 have d1 : W2.cell? ⟨w.heap.size, 1, none⟩ = some (.int .i64 P) := cell_of_blk hx0 1
 have hw2 : Below w.heap.size w W2 := bl_trans HB0.out HB0.out.size hb2
 have HNR := hidX (new_r W2 (.slice aa ans.length ac) ticks ⟨_, _, _, rfl⟩)
 have hdz : w.heap.size + 1 < W2.heap.size := heap_lt hx1
 have HXD := hidX hx1
 have HW2 := hidX hw2
 have HF := hidX hF
 have hmm := @run_makeMap Tryz.prog
 clear hb2 hx0 hx1 hw2 hF HNF
 go_wp2_with fail
 refine HNR.out.mono ?_
 rintro e W3 ⟨rfl, hrc, hb3, hz3⟩
 obtain ⟨W4, hW4⟩ : ∃ W4, W4 = (W3.alloc (.map #[] 0)).alloc (.cells #[.pointer (some ⟨fp, 0, none⟩), .pointer (some ⟨W2.heap.size, 0, none⟩), .slice aad args.length acap, .map (some W3.heap.size)] 96) := ⟨_, rfl⟩
 have hb4 : Below W3.heap.size W3 W4 := by rw [hW4]; (repeat (first | exact Below.refl _ _ | assumption | refine Below.drew ?_ | refine bT ?_ _ | refine bS ?_ _ | refine bA ?_ _))
 have hm4 : W4.heap[W3.heap.size]? = some (.map #[] 0) := by rw [hW4]; exact twoG W3 _ _
 have hx4 : W4.heap[W3.heap.size + 1]? = some (.cells #[.pointer (some ⟨fp, 0, none⟩), .pointer (some ⟨W2.heap.size, 0, none⟩), .slice aad args.length acap, .map (some W3.heap.size)] 96 (0, 0)) := by rw [hW4]; exact heap_alloc2_new W3 _ _
 have hz4 : W4.heap.size = W3.heap.size + 2 := by rw [hW4]; simp
 have hb24 : Below W2.heap.size W2 W4 := bl_trans hb3 hb3.size hb4
 have hw4 : Below w.heap.size w W4 := bl_trans HW2.out HW2.out.size hb24
 have hfl := heap_lt HF.out.blk
 have hF4 := HF.out.imp (hb24.block fp hfl) (fun _ h => h) (keepH hb24)
 have hR4 : WkR (InH W2) (fun _ => False) W4.heap.size W4 (W3.heap.size + 1) W2.heap.size fp W3.heap.size st0 (.slice aad args.length acap) (.slice aa ans.length ac) ticks 0 nm P (.slice ad L.length cap) (.slice adt (tkI L L.length).length capt) yv ov pv L (tkI L L.length) (ysI gYes L L.length) (ysI gNo L L.length) (phI L L.length) args (fun _ => none) := by
  refine ⟨⟨hx4, hrc.keep hb4.size (fun k hk => hb4.block k (hk.elim (fun e => by omega) (fun e => e.elim))), hF4, HAR.out.imp (inH_up HW2.out) (keepH hw4), fun b hb => ?_, fun b hb => hb.elim, ?_⟩, ⟨fun _ => none, (vmap_made W3 L.length).keep (by rw [hm4]; exact (heap_alloc_new W3 _).symm), fun _ _ _ => rfl, fun _ _ _ _ h => by cases h⟩⟩
  ·have : b < W2.heap.size := hb
   exact ⟨by omega, by omega, by omega, by omega, fun h => h⟩
  ·omega
 have hA4 : XRow (InH W2) W4 (.slice aa ans.length ac) ans.length (intsG ans) := HAN.out.imp (inH_up HW2.out) (keepH hw4)
 have HXD4 := hidX ((hb24.block _ hdz).trans HXD.out)
 have HW4 := hidX hw4
 have HR4 := hidX hR4
 have HA4 := hidX hA4
 have hz34 : W2.heap.size < W3.heap.size := by omega
 have HZ := hidX (show W3.heap.size = W2.heap.size + 1 ∧ W4.heap.size = W3.heap.size + 2 from ⟨hz3, hz4⟩)
 have hfl2 : fp < W2.heap.size := hfl
 clear hrc hb3 hb4 hm4 hx4 hb24 hw4 hF4 hR4 hA4 d1 HNR hz3 hz4 hfl
 go_wp2_with fail
 rw [← hW4]
 clear hmm hW4
 go_loopg [12] 100001 (fun k v12 wr => ∃ (q x : Nat) (st : Rst) (got : Nat → Option Int) (S : Nat → Prop), v12 = .int .i64 (x : Int) ∧ q ≤ 100000 ∧ 100000 - q < k ∧ (0 ≤ st.tks ∧ st.tks ≤ (q : Int)) ∧ st.out.length ≤ 1000 ∧ Hid ((st.how = [] ∧ x < L.length ∧ isWay (ndAt L x).kind ∧ walkW L args ans ticks (100000 - q) x st got = goal) ∨ (st.how ≠ [] ∧ st = goal)) ∧ Hid (WkR (InH W2) S wr.heap.size wr (W3.heap.size + 1) W2.heap.size fp W3.heap.size st (.slice aad args.length acap) (.slice aa ans.length ac) ticks (q : Int) nm P (.slice ad L.length cap) (.slice adt (tkI L L.length).length capt) yv ov pv L (tkI L L.length) (ysI gYes L L.length) (ysI gNo L L.length) (phI L L.length) args got) ∧ Hid (ButP (fun k => W2.heap.size ≤ k) W4 wr) ∧ Hid (∀ b, S b → W2.heap.size ≤ b))
 case atStart => exact ⟨0, 0, st0, fun _ => none, fun _ => False, rfl, by omega, by omega, ⟨Int.le_refl _, Int.le_refl _⟩, by simp [st0], Or.inl ⟨rfl, hL0, (show isWay (ndAt L ((0 : Nat) : Int)).kind by rw [show ((0 : Nat) : Int) = 0 from rfl, HW.out.start]; exact start_way), HGO.out⟩, HR4.out, ⟨rfl, rfl, rfl, Nat.le_refl _, fun _ _ _ => rfl⟩, fun _ h => h.elim⟩
 case round =>
  obtain ⟨q, x, st, got, S, rfl, hq, hqk, htk, hol, HCA, HR, HBE, HSB⟩ := hrel
  have hzr := HBE.out.size
  have hlo := HR.out.lo
  have v1 : wr.cell? ⟨W3.heap.size + 1, 1, none⟩ = some (.pointer (some ⟨W2.heap.size, 0, none⟩)) := cell_of_blk HR.out.blk 1
  have HSTP := hidX (step_r HR.out.rcd (by omega))
  by_cases hgo : st.how = [] ∧ q < 100000
  ·have hb : decide (st.how = [] ∧ (q : Int) ≠ 100000) = true := decide_eq_true ⟨hgo.1, by omega⟩
   have hst : (if st.how = [] ∧ (q : Int) = 100000 then { st with how := hStuck } else st) = st := if_neg (fun h => by have := h.2; omega)
   rw [hb, hst] at HSTP
   have hca : x < L.length ∧ isWay (ndAt L x).kind ∧ walkW L args ans ticks (100000 - q) x st got = goal := by
    rcases HCA.out with h | h
    ·exact h.2
    ·exact absurd hgo.1 h.1
   obtain ⟨hx, hway, hwk⟩ := hca
   have HWAY := hidX hway
   have HWK := hidX hwk
   have HQL := hidX hgo
   clear hb hst hgo hway hwk
   go_wp2_with fail
   refine HSTP.out.mono ?_
   rintro e W5 ⟨rfl, hr5⟩
   obtain ⟨S5, hS5, hJ5⟩ := HR.out.start (Nat.le_refl _) hr5 (valOf L args got)
   have hbe5 : ButP (fun k => W2.heap.size ≤ k) W4 W5 := HBE.out.trans hr5.2 (fun b hb => Or.inl (hb.elim (fun e => by omega) (fun e => HSB.out b e)))
   have hA5 : XRow (InH W2) W5 (.slice aa ans.length ac) ans.length (intsG ans) := HA4.out.imp (fun _ h => h) (fun b hb => hbe5.block b (by have : b < W2.heap.size := hb; have := HZ.out; omega) (by have : b < W2.heap.size := hb; omega))
   have hs := tkAt_spot HW.out hx HWAY.out
   have HFO := hidX (follow_any hJ5 (Nat.le_refl _) HW.out HLW.out HAL.out (by have := HQL.out; omega) hs (spot_six HW.out HWAY.out hs) hA5 hal2 (by omega) hol)
   have h0t : x < (tkI L L.length).length := by omega
   obtain ⟨gt, offt, e1, hgt, kt0, kt1⟩ := hJ5.fl.tak h0t
   subst e1
   have hte0 : (tkI L L.length)[x] = tkAt L x := by unfold tkAt; simp [h0t]
   rw [hte0] at kt0 kt1
   have w0 : W5.cell? ⟨W3.heap.size + 1, 0, none⟩ = some (.pointer (some ⟨fp, 0, none⟩)) := cell_of_blk hJ5.blk 0
   have p3 : W5.cell? ⟨fp, 3, none⟩ = some (.slice (some ⟨gt, offt, none⟩) (tkI L L.length).length capt) := cell_of_blk hJ5.fl.blk 3
   have htl' : (x : Int) < ((tkI L L.length).length : Int) := by omega
   have htl2 : ((tkI L L.length).length : Int) ≤ 1000 := by omega
   have HBE5 := hidX hbe5
   have HSB5 := hidX (show ∀ b, S5 b → W2.heap.size ≤ b from fun b hb => (hS5 b hb).elim (HSB.out b) (fun e => by omega))
   clear hr5 hJ5 hS5 hbe5 hA5 hs hte0 HR HSTP v1
   go_wp2_with fail
   clear w0 p3 kt0 kt1
   refine HFO.out.mono ?_
   rintro e W6 ⟨rfl, hb6, S6, hS6, hR6⟩
   generalize hsw : stepW L args ans ticks (tkAt L x).1 (tkAt L x).2 st got = r at hR6 ⊢
   obtain ⟨st', got', x'⟩ := r
   dsimp only at hR6 ⊢
   have hnx := stepW_next HW.out HLW.out hx HWAY.out hsw hol
   have hwk6 : walkW L args ans ticks (100000 - q) x st got = if st'.how ≠ [] then st' else walkW L args ans ticks (100000 - (q + 1)) x' st' got' := by
    rw [show 100000 - q = (100000 - (q + 1)) + 1 by have := HQL.out; omega]
    show (let r := stepW L args ans ticks (tkAt L x).1 (tkAt L x).2 st got; if r.1.how ≠ [] then r.1 else walkW L args ans ticks (100000 - (q + 1)) r.2.2 r.1 r.2.1) = _
    rw [hsw]
   have HCA6 := hidX (show (st'.how = [] ∧ x' < L.length ∧ isWay (ndAt L x').kind ∧ walkW L args ans ticks (100000 - (q + 1)) x' st' got' = goal) ∨ (st'.how ≠ [] ∧ st' = goal) from by
    by_cases hh : st'.how = []
    ·left
     refine ⟨hh, (hnx.2.2.2 hh).1, (hnx.2.2.2 hh).2, ?_⟩
     rw [← HWK.out, hwk6, if_neg (by simp [hh])]
    ·right
     refine ⟨hh, ?_⟩
     rw [← HWK.out, hwk6, if_pos hh])
   have HR6 := hidX hR6
   have HBE6 := hidX (show ButP (fun k => W2.heap.size ≤ k) W4 W6 from HBE5.out.trans hb6 (fun b hb => Or.inl (by
    rcases hb with e | e | e
    ·omega
    ·omega
    ·exact HSB5.out b e)))
   have HSB6 := hidX (show ∀ b, S6 b → W2.heap.size ≤ b from fun b hb => (hS6 b hb).elim (HSB5.out b) (fun e => by have := HBE5.out.size; have := HZ.out; omega))
   have hq6 : q + 1 ≤ 100000 := by have := HQL.out; omega
   have hnx' : (0 ≤ st'.tks ∧ st'.tks ≤ ((q + 1 : Nat) : Int)) ∧ st'.out.length ≤ 1000 := ⟨by omega, hnx.2.2.1⟩
   clear hnx hwk6 hsw hb6 hR6 hS6 HFO
   go_wp2
   go_roundg (100000 - (q + 1) + 1)
   case rel => exact ⟨q + 1, x', st', got', S6, rfl, by omega, by omega, hnx'.1, hnx'.2, HCA6.out, HR6.out, HBE6.out, HSB6.out⟩
   all_goals omega
  ·have hb : decide (st.how = [] ∧ (q : Int) ≠ 100000) = false := decide_eq_false (fun h => hgo ⟨h.1, by have := h.2; omega⟩)
   rw [hb] at HSTP
   generalize hst : (if st.how = [] ∧ (q : Int) = 100000 then { st with how := hStuck } else st) = st' at HSTP
   have hend : st' = goal := by
    rw [← hst]
    rcases HCA.out with h | h
    ·have hq3 : q = 100000 := by
      rcases Nat.lt_or_ge q 100000 with h' | h'
      ·exact absurd ⟨h.1, h'⟩ hgo
      ·omega
     rw [if_pos ⟨h.1, by omega⟩]
     have := h.2.2.2
     rw [hq3] at this
     exact this
    ·rw [if_neg (fun e => h.1 e.1)]; exact h.2
   subst hend
   clear hb hst hgo HCA
   go_wp2_with fail
   refine HSTP.out.mono ?_
   rintro e W5 ⟨rfl, hr5⟩
   have hbe5 : ButP (fun k => W2.heap.size ≤ k) W4 W5 := HBE.out.trans hr5.2 (fun b hb => Or.inl (hb.elim (fun e => by omega) (fun e => HSB.out b e)))
   have hblk := (hr5.2.block (W3.heap.size + 1) (by omega) (fun e => e.elim (by omega) (fun e => (HR.out.sb _ e).2.1 rfl))).trans HR.out.blk
   obtain ⟨⟨S5, hS5, outv, callv, xs, hrc⟩, _⟩ := hr5
   obtain ⟨oo, co, rfl⟩ := own_is hrc.out
   obtain ⟨oc, cc, rfl⟩ := own_is hrc.call
   have hd5 := (hbe5.block _ (by have := HZ.out; omega) (by omega)).trans HXD4.out
   have e1 : W5.cell? ⟨W3.heap.size + 1, 1, none⟩ = some (.pointer (some ⟨W2.heap.size, 0, none⟩)) := cell_of_blk hblk 1
   have i0 := cell_of_blk hd5 0
   have i1 := cell_of_blk hd5 1
   have i2 := cell_of_blk hd5 2
   have i3 := cell_of_blk hd5 3
   have i4 := cell_of_blk hd5 4
   have f0 := free_of_blk hd5 0
   have f1 := free_of_blk hd5 1
   have f2 := free_of_blk hd5 2
   have f3 := free_of_blk hd5 3
   have f4 := free_of_blk hd5 4
   have j0 := cell_of_blk hrc.blk 0
   have j1 := cell_of_blk hrc.blk 1
   have j2 := cell_of_blk hrc.blk 2
   have j3 := cell_of_blk hrc.blk 3
   have j4 := cell_of_blk hrc.blk 4
   simp only [List.getElem?_toArray, List.getElem?_cons_zero, List.getElem?_cons_succ] at i0 i1 i2 i3 i4 j0 j1 j2 j3 j4
   have hw5 : Below w.heap.size w W5 := ⟨hbe5.os.trans HW4.out.os, hbe5.tape.trans HW4.out.tape, hbe5.output.trans HW4.out.output, Nat.le_trans HW4.out.size hbe5.size, fun k hk => (hbe5.block k (by have := HW4.out.size; omega) (by omega)).trans (HW4.out.block k hk)⟩
   have hnd : ∀ b, S5 b → b ≠ w.heap.size + 1 := fun b hb => by
    rcases hS5 b hb with e | e
    ·have := HSB.out b e; omega
    ·omega
   have HRC := hidX hrc
   have HD5 := hidX hd5
   have HW5 := hidX hw5
   have HND := hidX hnd
   generalize st'.out.length = no at *
   generalize st'.calls.length = nc at *
   clear hrc hd5 hw5 hnd hS5 hbe5 hblk HR HSTP v1 HGO
   go_wp2
   have hx := set5_blk HD5.out (.string ⟨st'.how.toArray⟩) (.int .i64 st'.val) (.int .i64 st'.tks) (.slice oo no co) (.slice oc nc cc)
   have hlew : w.heap.size ≤ w.heap.size + 1 := by omega
   have hbf := ((((HW5.out.setCell (p := ⟨w.heap.size + 1, 0, none⟩) (by exact hlew) (.string ⟨st'.how.toArray⟩)).setCell (p := ⟨w.heap.size + 1, 1, none⟩) (by exact hlew) (.int .i64 st'.val)).setCell (p := ⟨w.heap.size + 1, 2, none⟩) (by exact hlew) (.int .i64 st'.tks)).setCell (p := ⟨w.heap.size + 1, 3, none⟩) (by exact hlew) (.slice oo no co)).setCell (p := ⟨w.heap.size + 1, 4, none⟩) (by exact hlew) (.slice oc nc cc)
   refine ret_row (w.heap.size + 1) 8 _ 50 rfl rfl hx Tryz.underlying50 (by kernel_rfl) ⟨hbf, _, rfl, ?_⟩
   have hfar : ∀ k, S5 k → (((((W5.setCell ⟨w.heap.size + 1, 0, none⟩ (.string ⟨st'.how.toArray⟩)).setCell ⟨w.heap.size + 1, 1, none⟩ (.int .i64 st'.val)).setCell ⟨w.heap.size + 1, 2, none⟩ (.int .i64 st'.tks)).setCell ⟨w.heap.size + 1, 3, none⟩ (.slice oo no co)).setCell ⟨w.heap.size + 1, 4, none⟩ (.slice oc nc cc)).heap[k]? = W5.heap[k]? := fun k hk => by
    have h := HND.out k hk
    rw [Below.heap_setCell _ _ _ _ h, Below.heap_setCell _ _ _ _ h, Below.heap_setCell _ _ _ _ h, Below.heap_setCell _ _ _ _ h, Below.heap_setCell _ _ _ _ h]
   have hszz : (((((W5.setCell ⟨w.heap.size + 1, 0, none⟩ (.string ⟨st'.how.toArray⟩)).setCell ⟨w.heap.size + 1, 1, none⟩ (.int .i64 st'.val)).setCell ⟨w.heap.size + 1, 2, none⟩ (.int .i64 st'.tks)).setCell ⟨w.heap.size + 1, 3, none⟩ (.slice oo no co)).setCell ⟨w.heap.size + 1, 4, none⟩ (.slice oc nc cc)).heap.size = W5.heap.size := by simp [World.setCell]
   have hR := HRC.out
   exact done_of hR hfar hszz
end Go.Proofs.YtlgejjmdanmglaaGreatDoor
