/-
  Our own: the law CheckMore: a well program with one more function, or without its last, is well.
-/
import Derived.Test.YtcebpmaggnephacDoorCheckVars
import Derived.Test.YtcebpmaggnephacDoorRefName
namespace Go.Proofs.YtcebpmaggnephacDoor
open Go.RowKit Go.Maps

set_option maxRecDepth 100000 in
set_option maxHeartbeats 2000000 in
/-- IsIn at a list of texts. -/
theorem isIn_all (l : List (List UInt8)) (s : List UInt8) (hn : l.length ≤ 5000) (w : World) (ad : Option Addr) (c : Nat) (hX : XRow (InH w) w (.slice ad l.length c) l.length (textsC l)) :
    Calls Tryd.prog 12 #[.string ⟨s.toArray⟩, .slice ad l.length c] w fun e w' => e = .returned (.bool (decide (s ∈ l))) ∧ w' = w := by
  by_cases hs : s ∈ l
  · have R := hidX hX
    have hd : decide (s ∈ l) = true := by simpa using hs
    rw [hd]
    have HS := hidX hs
    have hn' : (l.length : Int) ≤ 5000 := by omega
    clear hX hs hd
    go_enter Tryd.func12, Tryd.ntmps12
    go_wp2
    go_loop [5] (fun i => ∃ q : Nat, q ≤ l.length ∧ i = .int .i64 q ∧ Hid (s ∉ l.take q)) (fun i => l.length - (intOf i).toNat)
    case atStart => exact ⟨0, by omega, rfl, by simp [Hid]⟩
    case round =>
      obtain ⟨q, hq, rfl, HQ⟩ := hrel
      by_cases hlt : q < l.length
      · have hlt' : (q : Int) < (l.length : Int) := by omega
        obtain ⟨g, off, rfl, hg, ht⟩ := R.out.text hlt
        have htk : l.take (q + 1) = l.take q ++ [l[q]] := List.take_succ_eq_append_getElem hlt
        generalize l[q] = x at ht htk
        have HTK := hidX htk
        clear htk
        by_cases hne : x = s
        · subst hne
          go_wp2
          go_ret
          exact ⟨rfl, rfl⟩
        · have hne' := txt_ne hne
          have HQ2 : Hid (s ∉ l.take (q + 1)) := by
            unfold Hid
            rw [HTK.out, List.mem_append]
            rintro (h | h)
            · exact HQ.out h
            · exact hne (List.mem_singleton.1 h).symm
          clear hne
          go_wp2
          go_round
          case rel => exact ⟨q + 1, by omega, by go_num, HQ2⟩
          case measure => simp [intOf]; omega
      · have hqn : q = l.length := by omega
        subst hqn
        exact absurd HS.out (by have := HQ.out; rwa [List.take_length] at this)
  · have hd : decide (s ∈ l) = false := by simpa using hs
    rw [hd]
    exact isIn_out l s hs hn w ad c hX
theorem xfs_take {A : Nat → Prop} {w : World} : ∀ (m : Nat) (l : List Fu) (ys : List Value), XFs A w l ys → XFs A w (l.take m) (ys.take (m * 3))
  | 0, l, ys, _ => by rw [List.take_zero, Nat.zero_mul, List.take_zero]; rfl
  | m + 1, [], ys, h => by
    have : ys = [] := h
    subst this
    rw [List.take_nil, List.take_nil]; rfl
  | m + 1, f :: r, ys, h => by
    obtain ⟨cs, zs, rfl, h1, h2⟩ := h
    have hl := h1.len
    rw [List.take_succ_cons]
    refine ⟨cs, zs.take (m * 3), ?_, h1, xfs_take m r zs h2⟩
    rw [List.take_append, List.take_of_length_le (by omega), hl, show (m + 1) * 3 - 3 = m * 3 by omega]
theorem xlf_take {A : Nat → Prop} {w : World} {l : List Fu} {ad : Option Addr} {n c : Nat} (h : XLF A w (.slice ad n c) l) (m d : Nat) (hm : m ≤ l.length) : XLF A w (.slice ad m d) (l.take m) := by
  obtain ⟨ys, h1, h2⟩ := h
  have e : (l.take m).length = m := by rw [List.length_take]; omega
  refine ⟨ys.take (m * 3), ?_, xfs_take m l ys h2⟩
  rw [e]
  refine ⟨ad, d, rfl, fun h0 => ?_⟩
  obtain ⟨g, off, k1, _, k2, k3⟩ := h1.get (by omega)
  refine ⟨g, off, k1, k2, fun j u hj => k3 j u ?_⟩
  rw [List.getElem?_take] at hj
  split at hj
  · exact hj
  · cases hj
theorem less_of {l : List Fu} (h : funsC l [] l = none) {m : Nat} (hm : l.length = m + 1) (hl : m < l.length) (hn : ∀ i (h : i < l.length), i < m → (l[m]'hl).name ∉ callsF l[i]) : funsC (l.take m) [] (l.take m) = none := by
  have e : l = l.take m ++ [l[m]'hl] := by
    rw [← List.take_succ_eq_append_getElem (by omega), ← hm, List.take_length]
  refine well_less (F := l.take m) (g := l[m]'hl) (by rw [← e]; exact h) fun i hi => ?_
  have hi' : i < m := by rw [List.length_take] at hi; omega
  rw [List.getElem_take]
  exact hn i (by omega) hi'
set_option maxRecDepth 100000 in
set_option maxHeartbeats 4000000 in
theorem checkMore_any (a : Nat → Addr) (l : List Fu) (v : Value) (nm : ByteArray) (w : World) (hS : Sents w a) (hX : XLF (InH w) w v l) (hl : l.length ≤ 9223372036854775807) (hO : ∀ f ∈ l, OkF f) (hnm : nm.size ≤ 9223372036854775807) :
    Calls Tryd.prog 3 #[v, .string nm] w fun e w' => e = .returned (.bool true) ∧ Below w.heap.size w w' := by
  have HSS := hidX hS
  have HX := hidX hX
  have HO := hidX hO
  have hnm' : (nm.size : Int) ≤ 9223372036854775807 := by omega
  clear hS hX hO
  go_enter Tryd.func3, Tryd.ntmps3
  go_wp2_with fail
  refine (checked_any a w HSS.out).mono ?_
  rintro e W1 ⟨rfl, hb1⟩
  go_wp2_with fail
  refine (large_any l 300 (by omega) W1 v (HX.out.imp (inH_up hb1) (keepH hb1)) hl HO.out).mono ?_
  rintro e W2 ⟨r, rfl, hr, hb2⟩
  have hbw2 : Below w.heap.size w W2 := hb1.trans (hb2.mono hb1.size)
  rcases hr with rfl | ⟨rfl, hl10, hlow, hnod⟩
  · go_wp2
    go_ret
    exact ⟨rfl, hbw2⟩
  · have HLW := hidX hlow
    have HND := hidX hnod
    clear hlow hnod
    by_cases h20 : 20 < nm.size
    · have h20' : (20 : Int) < nm.size := by omega
      go_wp2
      go_ret
      exact ⟨rfl, hbw2⟩
    · have h20' : ¬ (20 : Int) < nm.size := by omega
      go_wp2_with fail
      refine (asFuns_any l hl10 HLW.out W2 v (HX.out.imp (inH_up hbw2) (keepH hbw2))).mono ?_
      rintro e W3 ⟨hb3, vp, ys, rfl, hown, hxs⟩
      have hX3 := own_xlf hown hxs
      have hbw3 : Below w.heap.size w W3 := hbw2.trans (hb3.mono hbw2.size)
      obtain ⟨adp, capp, rfl⟩ := own_sl hown
      obtain ⟨hcp, hcp'⟩ := own_cap hown
      have HX3 := hidX hX3
      have hl' : (l.length : Int) ≤ 10 := by omega
      clear hown hxs hX3
      go_wp2_with fail
      refine (program_any a l hl10 HLW.out W3 (HSS.out.below hbw3) _ HX3.out).mono ?_
      rintro e W4 ⟨hb4, hp⟩
      have hbw4 : Below w.heap.size w W4 := hbw3.trans (hb4.mono hbw3.size)
      by_cases h8 : 8 < l.length
      · rw [if_pos h8] at hp
        subst hp
        go_wp2
        go_ret
        exact ⟨rfl, hbw4⟩
      · rw [if_neg h8] at hp
        cases hfc : funsC l [] l with
        | some ci =>
          rw [hfc] at hp
          obtain ⟨c, i⟩ := ci
          obtain ⟨_, b, he, _, _⟩ := hp
          subst he
          clear hfc
          go_wp2
          go_ret
          exact ⟨rfl, hbw4⟩
        | none =>
          rw [hfc] at hp
          simp only at hp
          subst hp
          have HFC := hidX hfc
          clear hfc
          by_cases hz : l.length = 0
          · have hz' : (l.length : Int) = 0 := by omega
            go_wp2
            go_ret
            exact ⟨rfl, hbw4⟩
          · have hz' : ¬ (l.length : Int) = 0 := by omega
            by_cases h7 : 8 ≤ l.length
            · have h7' : (8 : Int) ≤ l.length := by omega
              go_wp2
              go_ret
              exact ⟨rfl, hbw4⟩
            · have h7' : ¬ (8 : Int) ≤ l.length := by omega
              go_wp2_with fail
              · go_ret
                exact ⟨rfl, hbw4⟩
              refine (rIsName_any nm hnm W4).mono ?_
              rintro e W5 ⟨rfl, hb5⟩
              have hbw5 : Below w.heap.size w W5 := hbw4.trans (hb5.mono hbw4.size)
              have hX5 := HX.out.imp (inH_up hbw5) (keepH hbw5)
              obtain ⟨zs, hr5, hk5⟩ := hX5
              obtain ⟨ad, cap, rfl⟩ := hr5.is
              have R := hidX hr5
              have KK := hidX hk5
              clear hr5 hk5
              have hmore : nameB nm.data.toList = true → (l.any fun f => f.name == nm.data.toList) = false → funsC (l ++ [⟨nm.data.toList, [], []⟩]) [] (l ++ [⟨nm.data.toList, [], []⟩]) = none := fun h1 h2 => well_more HFC.out h1 (fun f hf e => by
                rw [List.any_eq_false] at h2
                exact h2 f hf (by simpa using e))
              have hnmt : nm = ⟨nm.data.toList.toArray⟩ := str_eta nm
              have hnml : nm.data.toList.length ≤ 20 := by rw [data_len]; omega
              generalize nm.data.toList = nl at hmore hnmt hnml
              subst hnmt
              generalize hnb : nameB nl = nb at hmore
              have HMO := hidX hmore
              clear hmore hnb
              obtain ⟨m, hm⟩ : ∃ m, l.length = m + 1 := ⟨l.length - 1, by omega⟩
              have hme : (l.length : Int) - 1 = (m : Int) := by omega
              have hml : m < l.length := by omega
              have hml' : (m : Int) < l.length := by omega
              have hless := fun hn => less_of HFC.out hm hml hn
              have HM := hidX hm
              obtain ⟨kz, z1, z2⟩ := KK.out.at hml
              generalize l[m] = lg at hless z1 z2
              obtain ⟨lm, lp, lb⟩ := lg
              obtain ⟨pvz, bvz, bsz, rfl, _, _, _⟩ := z1
              simp only at z2 hless
              obtain ⟨gz, oz, rfl, hgz, xz⟩ := x3_at R.out hml z2
              have HLE := hidX hless
              clear hless z2 hm
              go_wp2_with fail
              go_loop [7, 8] (fun vf vi => ∃ q : Nat, q ≤ l.length ∧ vi = .int .i64 q ∧ vf = .bool (nb && !((l.take q).any fun f => f.name == nl))) (fun _ vi => l.length - (intOf vi).toNat)
              case atStart => exact ⟨0, Nat.zero_le _, rfl, by simp⟩
              case round =>
                obtain ⟨q, hq, rfl, rfl⟩ := hrel
                by_cases hlt : q < l.length
                · have hlt' : (q : Int) < (l.length : Int) := by omega
                  obtain ⟨kj, f1, f2⟩ := KK.out.at hlt
                  have htk : l.take (q + 1) = l.take q ++ [l[q]] := List.take_succ_eq_append_getElem hlt
                  generalize l[q] = y at f1 f2 htk
                  obtain ⟨ym, yp, yb⟩ := y
                  obtain ⟨pvj, bvj, bsj, rfl, _, _, _⟩ := f1
                  simp only at f2
                  obtain ⟨gj, oj, ej, hgj, xj⟩ := x3_at R.out hlt f2
                  injection ej with ej
                  injection ej with ej1 ej2
                  subst ej1 ej2
                  have d0 := xj.c0
                  have HTK := hidX htk
                  clear xj f2 htk
                  generalize hbt : (nb && !((l.take q).any fun f => f.name == nl)) = bt
                  have HBT := hidX hbt
                  clear hbt
                  by_cases hye : ym = nl
                  · subst hye
                    go_wp2
                    refine ⟨⟨q + 1, by omega, by go_num, ?_⟩, by simp [intOf]; omega⟩
                    rw [HTK.out, List.any_append]; simp
                  · have hye' := txt_ne hye
                    clear hye
                    go_wp2
                    refine ⟨⟨q + 1, by omega, by go_num, ?_⟩, by simp [intOf]; omega⟩
                    rw [HTK.out, List.any_append, ← HBT.out]; simp [hye']
                · have hqn : q = l.length := by omega
                  subst hqn
                  rw [List.take_length]
                  by_cases hfresh : (nb && !(l.any fun f => f.name == nl)) = true
                  · have hmo : funsC (l ++ [⟨nl, [], []⟩]) [] (l ++ [⟨nl, [], []⟩]) = none := by
                      simp only [Bool.and_eq_true, Bool.not_eq_true'] at hfresh
                      exact HMO.out hfresh.1 hfresh.2
                    rw [hfresh]
                    have HMO2 := hidX hmo
                    clear hmo hfresh HMO
                    go_wp2_with fail
                    refine (asFuns_any l hl10 HLW.out W5 _ (HX.out.imp (inH_up hbw5) (keepH hbw5))).mono ?_
                    rintro e W6 ⟨hb6, vq, ys2, rfl, hown2, hxs2⟩
                    obtain ⟨adq, capq, rfl⟩ := own_sl hown2
                    obtain ⟨i0, hi, hy0, hy1, hy2⟩ := info_parts fun_info
                    have hnc := new_cells W6 #[.string ⟨nl.toArray⟩, .slice none 0 0, .slice none 0 0] 37
                    have hbb := box_blk W6 #[.string ⟨nl.toArray⟩, .slice none 0 0, .slice none 0 0] 37
                    have hzq := hb6.size
                    have HNC := hidX hnc
                    have HBB := hidX hbb
                    have HOW := hidX hown2
                    have HXS := hidX hxs2
                    clear hnc hbb hown2 hxs2
                    go_wp2_with (at_builtin; refine wpList_append_own_at _ rfl _ _ 25 rfl W5.heap.size 37 i0 _ 3 64 Tryd.underlying25 hi hy0 hy1 hy2 rfl (by decide) (.slice adq l.length capq) l.length ys2 rfl (owns_below HOW.out HBB.out) ⟨W6.heap.size, 0, none⟩ 1 1 [.string ⟨nl.toArray⟩, .slice none 0 0, .slice none 0 0] rfl rfl HNC.out (fun_one nl none none 0 0 0 0) (by unfold maxLen; omega) (by omega) (by simp; omega) ?_; intro v' w7 hown' hgrow _ hloc)
                    have hxs := app_keep (Rep := XF) (Reps := XFs) XFs.imp XF.imp XFs.snoc HOW.out HXS.out (Below.refl _ _) (x := ⟨nl, [], []⟩) (cs := [.string ⟨nl.toArray⟩, .slice none 0 0, .slice none 0 0]) ⟨_, _, [], rfl, xrow_nil _ _, xrow_nil _ _, rfl⟩ HBB.out hzq hgrow (by simpa using hloc)
                    have hb57 : Below W5.heap.size W5 w7 := grown_below (bl_trans hb6 hb6.size HBB.out) (Nat.le_refl _) HOW.out hgrow
                    have hbw7 : Below w.heap.size w w7 := hbw5.trans (hb57.mono hbw5.size)
                    have hX7 := own_xlf (l := l ++ [⟨nl, [], []⟩]) (by rw [List.length_append]; exact hown') hxs
                    have HX7 := hidX hX7
                    clear hxs hown' hgrow hloc hX7
                    have hlow2 : ∀ f ∈ l ++ [(⟨nl, [], []⟩ : Fu)], LowF f := fun f hf => by
                      rcases List.mem_append.1 hf with hf | hf
                      · exact HLW.out f hf
                      · rw [List.mem_singleton.1 hf]
                        refine ⟨hnml, ?_, ?_, ?_, ?_⟩ <;> simp [LowSs]
                    have hpm := program_any a _ (by rw [List.length_append]; simp; omega) hlow2 w7 (HSS.out.below hbw7) _ HX7.out
                    have HPM := hidX hpm
                    clear hpm hlow2
                    refine HPM.out.mono ?_
                    rintro e w8 ⟨hb8, hp8⟩
                    rw [if_neg (by rw [List.length_append]; simp; omega), HMO2.out] at hp8
                    simp only at hp8
                    subst hp8
                    have hb5t : Below W5.heap.size W5 w8 := hb57.trans (hb8.mono hb57.size)
                    have hbwt : Below w.heap.size w w8 := hbw5.trans (hb5t.mono hbw5.size)
                    clear HX7 HPM HMO2 HXS HOW HNC HBB
                    have b0 := (xz.keep (hb5t.block _ hgz)).c0
                    go_wp2_with fail
                    try rw [hme]
                    go_wp2_with fail
                    go_loopw [11] (fun vi wr => ∃ q : Nat, q ≤ m ∧ vi = .int .i64 q ∧ Below w8.heap.size w8 wr ∧ Hid (∀ i (h : i < l.length), i < q → lm ∉ callsF l[i])) (fun vi _ => m - (intOf vi).toNat)
                    case atStart => exact ⟨0, Nat.zero_le _, rfl, Below.refl _ _, fun i _ h => absurd h (by omega)⟩
                    case round =>
                      obtain ⟨q, hq, rfl, hbl, HQ⟩ := hrel
                      rename World => wv
                      have hbwv : Below w.heap.size w wv := hbwt.trans (hbl.mono hbwt.size)
                      have hb3v : Below W3.heap.size W3 wv := hb4.trans ((hb5.trans ((hb5t.trans (hbl.mono hb5t.size)).mono hb5.size)).mono hb4.size)
                      have hXp := HX3.out.imp (inH_up hb3v) (keepH hb3v)
                      clear b0
                      by_cases hlt : q < m
                      · have hlt' : (q : Int) < m := by omega
                        have hql : q < l.length := by omega
                        have hql' : (q : Int) < l.length := by omega
                        obtain ⟨zs2, hr6, hk6⟩ := hXp
                        obtain ⟨ka, e1, e2⟩ := hk6.at hql
                        have hlx := HLW.out _ (List.getElem_mem hql)
                        have hnx := nodesF_mem (List.getElem_mem hql)
                        have hnd := HND.out
                        have hcc := calls_any _ wv ka e1 hlx (by omega)
                        have hcl := callsF_len l[q]
                        have hstep : lm ∉ callsF l[q] → ∀ i (h : i < l.length), i < q + 1 → lm ∉ callsF l[i] := fun h1 i h h2 => by
                          rcases Nat.lt_or_ge i q with h3 | h3
                          · exact HQ.out i h h3
                          · have : i = q := by omega
                            subst this
                            exact h1
                        generalize callsF l[q] = cs at hcc hcl hstep
                        have hcs : cs.length ≤ 300 := by omega
                        clear hcl hnx hnd hlx
                        generalize l[q] = x at e1 e2
                        obtain ⟨xm, xp, xb⟩ := x
                        obtain ⟨pv, bv, bs, rfl, r2, r3, r4⟩ := e1
                        simp only at r2 r3 r4 hcc e2
                        obtain ⟨ga, off, rfl, hga, g1⟩ := x3_at hr6 hql e2
                        obtain ⟨ad3, cp3, rfl⟩ := r2.is
                        obtain ⟨adb, cb, rfl⟩ := r3.is
                        have a0 := g1.c0
                        have a1 := g1.c1
                        have a2 := g1.c2
                        have HCC := hidX hcc
                        have HST := hidX hstep
                        clear hcc hstep r2 r3 r4 e2 g1 hr6 hk6
                        go_wp2_with fail
                        refine HCC.out.mono ?_
                        rintro e w9 ⟨hb9, adc, cc, rfl, hoc⟩
                        have hxc := (xrow_own hoc).imp (B := InH w9) (fun _ hb => hb.2) (fun _ _ => rfl)
                        have his := isIn_all cs lm (by omega) w9 adc cc hxc
                        have hb9w : Below w.heap.size w w9 := hbwv.trans (hb9.mono hbwv.size)
                        have HIS := hidX his
                        clear hoc hxc his a0 a1 a2 HCC
                        go_wp2_with fail
                        refine HIS.out.mono ?_
                        rintro e w' ⟨rfl, hh⟩
                        replace hh := hh.symm
                        subst hh
                        by_cases hin : lm ∈ cs
                        · have hd : decide (lm ∈ cs) = true := by simpa using hin
                          rw [hd]
                          clear hd hin HST HQ
                          go_wp2
                          go_ret
                          exact ⟨rfl, hb9w⟩
                        · have hd : decide (lm ∈ cs) = false := by simpa using hin
                          have HQ2 : Hid (∀ i (h : i < l.length), i < q + 1 → lm ∉ callsF l[i]) := HST.out hin
                          rw [hd]
                          clear hd hin HST HQ
                          go_wp2
                          go_roundw
                          case rel => exact ⟨q + 1, by omega, by go_num, hbl.trans (hb9.mono hbl.size), HQ2⟩
                          case measure => simp [intOf]; omega
                      · have hqn : q = m := by omega
                        subst hqn
                        have hwl := HLE.out HQ.out
                        have htl : (l.take q).length = q := by rw [List.length_take]; omega
                        have hpr := fun d => program_any a (l.take q) (by omega) (fun g hg => HLW.out g (List.mem_of_mem_take hg)) wv (HSS.out.below hbwv) _ (xlf_take hXp q d (by omega))
                        have hpr2 : ∀ d, Calls Tryd.prog 10 #[.slice adp q d] wv fun e w' => e = .returned .nilIface ∧ Below wv.heap.size wv w' := fun d => (hpr d).mono fun e w' h => by
                          obtain ⟨h1, h2⟩ := h
                          rw [if_neg (by omega), hwl] at h2
                          exact ⟨h2, h1⟩
                        have HPR := hidX hpr2
                        have hqc : (q : Int) ≤ capp := by omega
                        clear hpr hpr2 hwl htl hXp
                        go_wp2_with fail
                        refine (HPR.out _).mono ?_
                        rintro e w10 ⟨rfl, hb10⟩
                        go_wp2
                        go_ret
                        exact ⟨rfl, hbwv.trans (hb10.mono hbwv.size)⟩
                  · have hfr : (nb && !(l.any fun f => f.name == nl)) = false := by simpa using hfresh
                    rw [hfr]
                    clear hfr hfresh HMO
                    have hb5t : Below W5.heap.size W5 W5 := Below.refl _ _
                    have hbwt := hbw5
                    have b0 := (xz.keep (hb5t.block _ hgz)).c0
                    go_wp2_with fail
                    try rw [hme]
                    go_wp2_with fail
                    go_loopw [11] (fun vi wr => ∃ q : Nat, q ≤ m ∧ vi = .int .i64 q ∧ Below W5.heap.size W5 wr ∧ Hid (∀ i (h : i < l.length), i < q → lm ∉ callsF l[i])) (fun vi _ => m - (intOf vi).toNat)
                    case atStart => exact ⟨0, Nat.zero_le _, rfl, Below.refl _ _, fun i _ h => absurd h (by omega)⟩
                    case round =>
                      obtain ⟨q, hq, rfl, hbl, HQ⟩ := hrel
                      rename World => wv
                      have hbwv : Below w.heap.size w wv := hbwt.trans (hbl.mono hbwt.size)
                      have hb3v : Below W3.heap.size W3 wv := hb4.trans ((hb5.trans ((hb5t.trans (hbl.mono hb5t.size)).mono hb5.size)).mono hb4.size)
                      have hXp := HX3.out.imp (inH_up hb3v) (keepH hb3v)
                      clear b0
                      by_cases hlt : q < m
                      · have hlt' : (q : Int) < m := by omega
                        have hql : q < l.length := by omega
                        have hql' : (q : Int) < l.length := by omega
                        obtain ⟨zs2, hr6, hk6⟩ := hXp
                        obtain ⟨ka, e1, e2⟩ := hk6.at hql
                        have hlx := HLW.out _ (List.getElem_mem hql)
                        have hnx := nodesF_mem (List.getElem_mem hql)
                        have hnd := HND.out
                        have hcc := calls_any _ wv ka e1 hlx (by omega)
                        have hcl := callsF_len l[q]
                        have hstep : lm ∉ callsF l[q] → ∀ i (h : i < l.length), i < q + 1 → lm ∉ callsF l[i] := fun h1 i h h2 => by
                          rcases Nat.lt_or_ge i q with h3 | h3
                          · exact HQ.out i h h3
                          · have : i = q := by omega
                            subst this
                            exact h1
                        generalize callsF l[q] = cs at hcc hcl hstep
                        have hcs : cs.length ≤ 300 := by omega
                        clear hcl hnx hnd hlx
                        generalize l[q] = x at e1 e2
                        obtain ⟨xm, xp, xb⟩ := x
                        obtain ⟨pv, bv, bs, rfl, r2, r3, r4⟩ := e1
                        simp only at r2 r3 r4 hcc e2
                        obtain ⟨ga, off, rfl, hga, g1⟩ := x3_at hr6 hql e2
                        obtain ⟨ad3, cp3, rfl⟩ := r2.is
                        obtain ⟨adb, cb, rfl⟩ := r3.is
                        have a0 := g1.c0
                        have a1 := g1.c1
                        have a2 := g1.c2
                        have HCC := hidX hcc
                        have HST := hidX hstep
                        clear hcc hstep r2 r3 r4 e2 g1 hr6 hk6
                        go_wp2_with fail
                        refine HCC.out.mono ?_
                        rintro e w9 ⟨hb9, adc, cc, rfl, hoc⟩
                        have hxc := (xrow_own hoc).imp (B := InH w9) (fun _ hb => hb.2) (fun _ _ => rfl)
                        have his := isIn_all cs lm (by omega) w9 adc cc hxc
                        have hb9w : Below w.heap.size w w9 := hbwv.trans (hb9.mono hbwv.size)
                        have HIS := hidX his
                        clear hoc hxc his a0 a1 a2 HCC
                        go_wp2_with fail
                        refine HIS.out.mono ?_
                        rintro e w' ⟨rfl, hh⟩
                        replace hh := hh.symm
                        subst hh
                        by_cases hin : lm ∈ cs
                        · have hd : decide (lm ∈ cs) = true := by simpa using hin
                          rw [hd]
                          clear hd hin HST HQ
                          go_wp2
                          go_ret
                          exact ⟨rfl, hb9w⟩
                        · have hd : decide (lm ∈ cs) = false := by simpa using hin
                          have HQ2 : Hid (∀ i (h : i < l.length), i < q + 1 → lm ∉ callsF l[i]) := HST.out hin
                          rw [hd]
                          clear hd hin HST HQ
                          go_wp2
                          go_roundw
                          case rel => exact ⟨q + 1, by omega, by go_num, hbl.trans (hb9.mono hbl.size), HQ2⟩
                          case measure => simp [intOf]; omega
                      · have hqn : q = m := by omega
                        subst hqn
                        have hwl := HLE.out HQ.out
                        have htl : (l.take q).length = q := by rw [List.length_take]; omega
                        have hpr := fun d => program_any a (l.take q) (by omega) (fun g hg => HLW.out g (List.mem_of_mem_take hg)) wv (HSS.out.below hbwv) _ (xlf_take hXp q d (by omega))
                        have hpr2 : ∀ d, Calls Tryd.prog 10 #[.slice adp q d] wv fun e w' => e = .returned .nilIface ∧ Below wv.heap.size wv w' := fun d => (hpr d).mono fun e w' h => by
                          obtain ⟨h1, h2⟩ := h
                          rw [if_neg (by omega), hwl] at h2
                          exact ⟨h2, h1⟩
                        have HPR := hidX hpr2
                        have hqc : (q : Int) ≤ capp := by omega
                        clear hpr hpr2 hwl htl hXp
                        go_wp2_with fail
                        refine (HPR.out _).mono ?_
                        rintro e w10 ⟨rfl, hb10⟩
                        go_wp2
                        go_ret
                        exact ⟨rfl, hbwv.trans (hb10.mono hbwv.size)⟩
end Go.Proofs.YtcebpmaggnephacDoor
