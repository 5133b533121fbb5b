/-
  Our own: the law CheckVars: of what is well variables are unlike, and not too many; whom it calls is there.
-/
import Derived.Test.YtcebpmaggnephacDoorCheckGood
import Derived.Test.YtcebpmaggnephacDoorCheckAs3
namespace Go.Proofs.YtcebpmaggnephacDoor
open Go.RowKit Go.Maps

mutual
theorem callsE_len : ∀ e : Ex, (callsE e).length ≤ nodesE e
  | .mk k n m ks => by
    have := callsEs_len ks
    rw [callsE, nodesE, List.length_append]
    split <;> simp <;> omega
theorem callsEs_len : ∀ l : List Ex, (callsEs l).length ≤ nodesEs l
  | [] => by simp [callsEs]
  | e :: r => by
    have h1 := callsE_len e
    have h2 := callsEs_len r
    rw [callsEs, nodesEs, List.length_append]; omega
end
mutual
theorem callsM_len : ∀ e : Sm, (callsM e).length ≤ nodesM e
  | .mk k m e t o => by
    have h1 := callsE_len e
    have h2 := callsS_len t
    have h3 := callsS_len o
    rw [callsM, nodesM, List.length_append, List.length_append]; omega
theorem callsS_len : ∀ l : List Sm, (callsS l).length ≤ nodesS l
  | [] => by simp [callsS]
  | e :: r => by
    have h1 := callsM_len e
    have h2 := callsS_len r
    rw [callsS, nodesS, List.length_append]; omega
end
theorem onceL_len : ∀ (l acc : List (List UInt8)), (onceL acc l).length ≤ acc.length + l.length
  | [], acc => by simp [onceL]
  | x :: r, acc => by
    rw [onceL]
    split
    · have := onceL_len r acc; simp; omega
    · have := onceL_len r (acc ++ [x]); simp at this ⊢; omega
theorem callsF_len (f : Fu) : (callsF f).length ≤ nodesS f.body := by
  have h1 := onceL_len (callsS f.body) []
  have h2 := callsS_len f.body
  simp at h1
  unfold callsF; omega
theorem own_xlf {w : World} {B size : Nat} {t : TypeId} {v : Value} {l : List Fu} {ys : List Value} (h : w.ownsRow B t size v l.length ys) (hx : XFs (KA B w v) w l ys) : XLF (InH w) w v l :=
  ⟨ys, (xrow_own h).imp (fun _ hb => hb.2) (fun _ _ => rfl), XFs.imp (fun _ hb => hb.2.1) (fun _ _ => rfl) _ _ hx⟩
theorem own_cap {w : World} {B size n m c : Nat} {t : TypeId} {ad : Option Addr} {xs : List Value} (h : w.ownsRow B t size (.slice ad m c) n xs) : n ≤ c ∧ (c : Int) ≤ 9223372036854775807 := by
  obtain ⟨_, ⟨_, h1⟩ | ⟨g, cap, cur, h1, _, _, h2, h3, _⟩⟩ := h
  · next h0 => injection h0 with _ _ h0; subst h0 h1; simp
  · injection h1 with _ _ h1; subst h1; unfold maxLen at h3; omega
theorem nodup_at {l : List (List UInt8)} (h : l.Nodup) {p : Nat} (hp : p < l.length) : l[p] ∉ l.take p := by
  intro hm
  obtain ⟨j, hj, e⟩ := List.mem_take_iff_getElem.1 hm
  exact List.pairwise_iff_getElem.1 h j p (by omega) hp (by omega) e
theorem isIn_pre (l : List (List UInt8)) (p : Nat) (hp : p ≤ l.length) (s : List UInt8) (hs : s ∉ l.take p) (hn : l.length ≤ 5000) (w : World) (ad : Option Addr) (c d : Nat) (hX : XRow (InH w) w (.slice ad l.length c) l.length (textsC l)) :
    Calls Tryd.prog 12 #[.string ⟨s.toArray⟩, .slice ad p d] w fun e w' => e = .returned (.bool false) ∧ w' = w := by
  have e : (l.take p).length = p := by rw [List.length_take]; omega
  have h := isIn_out (l.take p) s hs (by omega) w ad d (by
    refine ⟨ad, d, rfl, fun h0 => ?_⟩
    obtain ⟨g, off, h1, _, h2, h3⟩ := hX.get (by omega)
    refine ⟨g, off, h1, h2, fun j u hj => h3 j u ?_⟩
    simp only [textsC, List.map_take, List.getElem?_take] at hj ⊢
    split at hj
    · exact hj
    · cases hj)
  rw [e] at h
  exact h
set_option maxRecDepth 100000 in
set_option maxHeartbeats 4000000 in
theorem checkVars_any (a : Nat → Addr) (l : List Fu) (v : Value) (w : World) (hS : Sents w a) (hX : XLF (InH w) w v l) (hl : l.length ≤ 9223372036854775807) (hO : ∀ f ∈ l, OkF f) :
    Calls Tryd.prog 4 #[v] w fun e w' => e = .returned (.bool true) ∧ Below w.heap.size w w' := by
  have HSS := hidX hS
  have HX := hidX hX
  have HO := hidX hO
  clear hS hX hO
  go_enter Tryd.func4, Tryd.ntmps4
  go_wp2_with fail
  refine (checked_any a w HSS.out).mono ?_
  rintro e W1 ⟨rfl, hb1⟩
  go_wp2_with fail
  refine (large_any l 300 (by omega) W1 v (HX.out.imp (inH_up hb1) (keepH hb1)) hl HO.out).mono ?_
  rintro e W2 ⟨r, rfl, hr, hb2⟩
  have hbw2 : Below w.heap.size w W2 := hb1.trans (hb2.mono hb1.size)
  rcases hr with rfl | ⟨rfl, hl10, hlow, hnod⟩
  · go_wp2
    go_ret
    exact ⟨rfl, hbw2⟩
  · have HLW := hidX hlow
    have HND := hidX hnod
    clear hlow hnod
    go_wp2_with fail
    refine (asFuns_any l hl10 HLW.out W2 v (HX.out.imp (inH_up hbw2) (keepH hbw2))).mono ?_
    rintro e W3 ⟨hb3, vp, ys, rfl, hown, hxs⟩
    have hX3 := own_xlf hown hxs
    have hbw3 : Below w.heap.size w W3 := hbw2.trans (hb3.mono hbw2.size)
    have HX3 := hidX hX3
    clear hown hxs hX3
    go_wp2_with fail
    refine (program_any a l hl10 HLW.out W3 (HSS.out.below hbw3) vp HX3.out).mono ?_
    rintro e W4 ⟨hb4, hp⟩
    have hbw4 : Below w.heap.size w W4 := hbw3.trans (hb4.mono hbw3.size)
    by_cases h8 : 8 < l.length
    · rw [if_pos h8] at hp
      subst hp
      go_wp2
      go_ret
      exact ⟨rfl, hbw4⟩
    · rw [if_neg h8] at hp
      cases hfc : funsC l [] l with
      | some ci =>
        rw [hfc] at hp
        obtain ⟨c, i⟩ := ci
        obtain ⟨_, b, he, _, _⟩ := hp
        subst he
        clear hfc
        go_wp2
        go_ret
        exact ⟨rfl, hbw4⟩
      | none =>
        rw [hfc] at hp
        simp only at hp
        subst hp
        have HWV := hidX (well_vars hfc)
        have hX4 := HX3.out.imp (inH_up hb4) (keepH hb4)
        obtain ⟨zs, hr4, hk4⟩ := hX4
        obtain ⟨ad, cap, rfl⟩ := hr4.is
        have R := hidX hr4
        have KK := hidX hk4
        have hl' : (l.length : Int) ≤ 10 := by omega
        clear hfc hr4 hk4 HX3 HX HO hl
        go_wp2_with fail
        go_loopw [5] (fun vi wr => ∃ q : Nat, q ≤ l.length ∧ vi = .int .i64 q ∧ Below W4.heap.size W4 wr) (fun vi _ => l.length - (intOf vi).toNat)
        case atStart => exact ⟨0, Nat.zero_le _, rfl, Below.refl _ _⟩
        case round =>
          obtain ⟨q, hq, rfl, hbl⟩ := hrel
          rename World => wo
          by_cases hlt : q < l.length
          · have hlt' : (q : Int) < (l.length : Int) := by omega
            obtain ⟨ka, e1, e2⟩ := KK.out.at hlt
            have hlx := HLW.out _ (List.getElem_mem hlt)
            have hnx := nodesF_mem (List.getElem_mem hlt)
            have hwx := HWV.out q hlt
            generalize l[q] = x at e1 hlx hnx hwx e2
            have hnd := HND.out
            have hvc := vars_any x wo ka (XF.imp (inH_up hbl) (keepH hbl) _ _ e1) hlx (by omega)
            have hcc : ∀ X, Below wo.heap.size wo X → Calls Tryd.prog 13 #[.agg ka.toArray] X (TextsTo X (callsF x)) := fun X hX => calls_any x X ka (XF.imp (inH_up (hbl.trans (hX.mono hbl.size))) (keepH (hbl.trans (hX.mono hbl.size))) _ _ e1) hlx (by omega)
            have hcl := callsF_len x
            have hcn := callsF_nodup x
            obtain ⟨⟨hvn, hv12⟩, hct⟩ := hwx
            have hvp : x.params.length ≤ (varsF x).length := by simp [varsF]
            generalize varsF x = vs at hvc hvn hv12 hvp
            generalize callsF x = cs at hcc hcl hcn hct
            have hcs : cs.length ≤ 300 := by omega
            clear hcl hnx hnd hlx
            obtain ⟨xm, xp, xb⟩ := x
            obtain ⟨pv, bv, bs, rfl, r2, r3, r4⟩ := e1
            simp only at r2 r3 r4 hvc hcc e2 hvp
            obtain ⟨ga, off, rfl, hga, g1⟩ := x3_at R.out hlt e2
            obtain ⟨adp, cp, rfl⟩ := r2.is
            obtain ⟨adb, cb, rfl⟩ := r3.is
            have k1 := g1.keep (hbl.block ga hga)
            have a0 := k1.c0
            have a1 := k1.c1
            have a2 := k1.c2
            have HVC := hidX hvc
            have HCC := hidX hcc
            have HCT := hidX hct
            have HCN := hidX hcn
            have HVN := hidX hvn
            clear hvc hcc hct hcn hvn r2 r3 r4 e2 g1
            go_wp2_with fail
            refine HVC.out.mono ?_
            rintro e w5 ⟨hb5, adv, cv, rfl, hov⟩
            have k5 := k1.keep (hb5.block ga (Nat.lt_of_lt_of_le hga hbl.size))
            have b0 := k5.c0
            have b1 := k5.c1
            have b2 := k5.c2
            have hv12' : (vs.length : Int) ≤ 12 := by omega
            have hvp' : (xp.length : Int) ≤ vs.length := by omega
            have hxv := (xrow_own hov).imp (B := InH w5) (fun _ hb => hb.2) (fun _ _ => rfl)
            have HXV := hidX hxv
            obtain ⟨hcv, hcv'⟩ := own_cap hov
            have hvd : ¬ (12 : Int) < vs.length := by omega
            have hvd2 : ¬ (vs.length : Int) < xp.length := by omega
            have HB5 := hidX (hbl.trans (hb5.mono hbl.size))
            clear hov hxv a0 a1 a2 k1
            go_wp2_with fail
            go_loopw [7] (fun vk wr => ∃ p : Nat, p ≤ vs.length ∧ vk = .int .i64 p ∧ Below w5.heap.size w5 wr) (fun vk _ => vs.length - (intOf vk).toNat)
            case atStart => exact ⟨0, Nat.zero_le _, rfl, Below.refl _ _⟩
            case round =>
              obtain ⟨p, hp, rfl, hbi⟩ := hrel
              rename World => wi
              by_cases hpl : p < vs.length
              · have hpl' : (p : Int) < vs.length := by omega
                have hne := nodup_at HVN.out hpl
                obtain ⟨g2, o2, rfl, hg2, ht0⟩ := HXV.out.text hpl
                have ht := (hbi.cell (p := ⟨g2, _, none⟩) hg2).trans ht0
                generalize vs[p] = t at ht ht0 hne
                have his := fun X (hX : Below w5.heap.size w5 X) d => isIn_pre vs p hp t hne (by omega) X _ cv d (HXV.out.imp (inH_up hX) (keepH hX))
                have HIS := hidX his
                have hpc : (p : Int) ≤ cv := by omega
                clear his hne ht0 k5 b0 b1 b2
                go_wp2_with fail
                go_quiet ((go_at_call 12; exact Calls.quiet_of_same (HIS.out _ (by (repeat (first | exact Below.refl _ _ | assumption | refine Below.drew ?_ | refine Below.trans ?_ (drewN_below' _ _ _) | refine Below.setCell ?_ (by first | (simp; done) | (simp; omega)) _ | refine Below.alloc ?_ (by first | (simp; done) | (simp; omega)) _))) _)))
                go_wp2
                go_roundw
                case rel => exact ⟨p + 1, by omega, by go_num, by (repeat (first | exact Below.refl _ _ | assumption | refine Below.drew ?_ | refine Below.trans ?_ (drewN_below' _ _ _) | refine Below.setCell ?_ (by first | (simp; done) | (simp; omega)) _ | refine Below.alloc ?_ (by first | (simp; done) | (simp; omega)) _))⟩
                case measure => simp [intOf]; omega
              · have hpe : p = vs.length := by omega
                subst hpe
                have k6 := k5.keep (hbi.block ga (Nat.lt_of_lt_of_le hga HB5.out.size))
                have c0 := k6.c0
                have c1 := k6.c1
                have c2 := k6.c2
                clear HXV HVN k5 b0 b1 b2
                go_wp2_with fail
                have hbo : Below wo.heap.size wo wi := hb5.trans (hbi.mono hb5.size)
                refine (HCC.out wi hbo).mono ?_
                rintro e w7 ⟨hb7, adc, cc, rfl, hoc⟩
                have hb47 : Below W4.heap.size W4 w7 := HB5.out.trans ((hbi.trans (hb7.mono hbi.size)).mono HB5.out.size)
                have hxc := (xrow_own hoc).imp (B := InH w7) (fun _ hb => hb.2) (fun _ _ => rfl)
                obtain ⟨hccc, hccc'⟩ := own_cap hoc
                have HXC := hidX hxc
                have hcs' : (cs.length : Int) ≤ 300 := by omega
                clear hoc hxc c0 c1 c2 k6 HCC HVC
                go_wp2_with fail
                go_loopw [9] (fun vk wr => ∃ p : Nat, p ≤ cs.length ∧ vk = .int .i64 p ∧ Below w7.heap.size w7 wr) (fun vk _ => cs.length - (intOf vk).toNat)
                case atStart => exact ⟨0, Nat.zero_le _, rfl, Below.refl _ _⟩
                case round =>
                  obtain ⟨p, hp, rfl, hbj⟩ := hrel
                  rename World => wj
                  by_cases hpl : p < cs.length
                  · have hpl' : (p : Int) < cs.length := by omega
                    have hne := nodup_at HCN.out hpl
                    have hthere := HCT.out _ (List.getElem_mem hpl)
                    obtain ⟨g2, o2, rfl, hg2, ht0⟩ := HXC.out.text hpl
                    have ht := (hbj.cell (p := ⟨g2, _, none⟩) hg2).trans ht0
                    generalize cs[p] = t at ht ht0 hne hthere
                    have his := fun X (hX : Below w7.heap.size w7 X) d => isIn_pre cs p hp t hne (by omega) X _ cc d (HXC.out.imp (inH_up hX) (keepH hX))
                    have hany : (l.any fun f => f.name == t) = true := by
                      obtain ⟨f, hf, e⟩ := hthere
                      exact List.any_eq_true.2 ⟨f, hf, by simpa using e⟩
                    have HIS := hidX his
                    have HAN := hidX hany
                    have hb4j : Below W4.heap.size W4 wj := hb47.trans (hbj.mono hb47.size)
                    have hpc : (p : Int) ≤ cc := by omega
                    clear his hne ht0 hany hthere
                    go_wp2_with fail
                    go_loopw [10, 11] (fun vt vj wr => ∃ j : Nat, j ≤ l.length ∧ vj = .int .i64 j ∧ vt = .bool ((l.take j).any fun f => f.name == t) ∧ Below wj.heap.size wj wr) (fun _ vj _ => l.length - (intOf vj).toNat)
                    case atStart => exact ⟨0, Nat.zero_le _, rfl, rfl, Below.refl _ _⟩
                    case round =>
                      obtain ⟨j, hj, rfl, rfl, hbk⟩ := hrel
                      rename World => wk
                      have ht2 := (hbk.cell (p := ⟨g2, _, none⟩) (Nat.lt_of_lt_of_le hg2 hbj.size)).trans ht
                      have hb7k : Below w7.heap.size w7 wk := hbj.trans (hbk.mono hbj.size)
                      clear ht
                      by_cases hjl : j < l.length
                      · have hjl' : (j : Int) < l.length := by omega
                        obtain ⟨kj, f1, f2⟩ := KK.out.at hjl
                        have htk : l.take (j + 1) = l.take j ++ [l[j]] := List.take_succ_eq_append_getElem hjl
                        generalize l[j] = y at f1 f2 htk
                        obtain ⟨ym, yp, yb⟩ := y
                        obtain ⟨pvj, bvj, bsj, rfl, _, _, _⟩ := f1
                        simp only at f2
                        obtain ⟨gj, oj, ej, hgj, xj⟩ := x3_at R.out hjl f2
                        injection ej with ej
                        injection ej with ej1 ej2
                        subst ej1 ej2
                        have d0 := (xj.keep ((hb4j.trans (hbk.mono hb4j.size)).block _ hgj)).c0
                        have HTK := hidX htk
                        clear xj f2 htk
                        generalize hbt : ((l.take j).any fun f => f.name == t) = bt
                        have HBT := hidX hbt
                        clear hbt
                        by_cases hye : ym = t
                        · subst hye
                          go_wp2_with fail
                          go_quiet (fail)
                          go_wp2
                          go_roundw
                          case rel => exact ⟨j + 1, by omega, by go_num, by rw [HTK.out, List.any_append]; simp, by (repeat (first | exact Below.refl _ _ | assumption | refine Below.drew ?_ | refine Below.trans ?_ (drewN_below' _ _ _) | refine Below.setCell ?_ (by first | (simp; done) | (simp; omega)) _ | refine Below.alloc ?_ (by first | (simp; done) | (simp; omega)) _))⟩
                          case measure => simp [intOf]; omega
                        · have hye' := txt_ne hye
                          clear hye
                          go_wp2_with fail
                          go_quiet (fail)
                          go_wp2
                          go_roundw
                          case rel => exact ⟨j + 1, by omega, by go_num, by rw [HTK.out, List.any_append, HBT.out]; simp [hye'], by (repeat (first | exact Below.refl _ _ | assumption | refine Below.drew ?_ | refine Below.trans ?_ (drewN_below' _ _ _) | refine Below.setCell ?_ (by first | (simp; done) | (simp; omega)) _ | refine Below.alloc ?_ (by first | (simp; done) | (simp; omega)) _))⟩
                          case measure => simp [intOf]; omega
                      · have hje : j = l.length := by omega
                        subst hje
                        rw [List.take_length, HAN.out]
                        go_wp2_with fail
                        go_quiet ((go_at_call 12; exact Calls.quiet_of_same (HIS.out _ (by (repeat (first | exact Below.refl _ _ | assumption | refine Below.drew ?_ | refine Below.trans ?_ (drewN_below' _ _ _) | refine Below.setCell ?_ (by first | (simp; done) | (simp; omega)) _ | refine Below.alloc ?_ (by first | (simp; done) | (simp; omega)) _))) _)))
                        go_wp2
                        go_roundw
                        case rel => exact ⟨p + 1, by omega, by go_num, by (repeat (first | exact Below.refl _ _ | assumption | refine Below.drew ?_ | refine Below.trans ?_ (drewN_below' _ _ _) | refine Below.setCell ?_ (by first | (simp; done) | (simp; omega)) _ | refine Below.alloc ?_ (by first | (simp; done) | (simp; omega)) _))⟩
                        case measure => simp [intOf]; omega
                  · have hpe : p = cs.length := by omega
                    subst hpe
                    go_wp2
                    go_roundw
                    case rel => exact ⟨q + 1, by omega, by go_num, hb47.trans (hbj.mono hb47.size)⟩
                    case measure => simp [intOf]; omega
          · have hqn : q = l.length := by omega
            subst hqn
            go_wp2
            go_ret
            exact ⟨rfl, hbw4.trans (hbl.mono hbw4.size)⟩
end Go.Proofs.YtcebpmaggnephacDoor
