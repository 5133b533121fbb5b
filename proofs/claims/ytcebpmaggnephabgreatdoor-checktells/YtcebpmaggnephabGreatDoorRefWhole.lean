/-
  Our own: texts joined: RefFun, RefProg.
-/
import Derived.Test.YtcebpmaggnephabGreatDoorRefKbl
import Derived.Deep.RegionWith

/-
  Our own: a function, as the document's own model reads it.
-/
namespace Go.Proofs.YtcebpmaggnephabGreatDoor
open Go.RowKit Go.Maps

theorem parsC_step {acc : List (List UInt8)} {x : List UInt8} {r : List (List UInt8)} (h : acc.length < 12) : parsC acc (x :: r) = if x ∈ acc then .bad 7 else parsC (acc ++ [x]) r := by
  rw [parsC, declC]
  split
  · rfl
  · rw [if_neg (by omega)]; rfl
theorem parsC_atR {l : List (List UInt8)} {q : Nat} (h : q < l.length) (h4 : l.length ≤ 4) : parsC (l.take q) (l.drop q) = if l[q] ∈ l.take q then .bad 7 else parsC (l.take (q + 1)) (l.drop (q + 1)) := by
  rw [← List.getElem_cons_drop h, parsC_step (by rw [List.length_take]; omega), List.take_succ_eq_append_getElem h]
theorem funC_name {F : List Fu} {tw : Bool} {f : Fu} (h : nameB f.name = false) : funC F tw f = 5 := by unfold funC; rw [if_pos (Or.inl h)]
theorem funC_par {F : List Fu} {tw : Bool} {f : Fu} {p : List UInt8} (hp : p ∈ f.params) (h : nameB p = false) : funC F tw f = 5 := by unfold funC; rw [if_pos (Or.inr ⟨p, hp, h⟩)]
def csC : Cs → Nat
  | .bad c => c
  | .ok _ => 0
theorem funC_rest {F : List Fu} {tw : Bool} {f : Fu} (h1 : nameB f.name = true) (h2 : ∀ p ∈ f.params, nameB p = true) : funC F tw f = if tw = true then 7 else if 4 < f.params.length then 9 else csC ((parsC [] f.params).bind fun all => blockC F all all f.body) := by
  have hno : ¬ (nameB f.name = false ∨ ∃ p ∈ f.params, nameB p = false) := by
    rintro (h | ⟨p, hp, h⟩)
    · rw [h1] at h; cases h
    · rw [h2 p hp] at h; cases h
  unfold funC
  rw [if_neg hno]
  cases (parsC [] f.params).bind fun all => blockC F all all f.body <;> rfl
set_option maxRecDepth 100000 in
set_option maxHeartbeats 8000000 in
theorem rFun_any (x : Fu) (F : List Fu) (i : Nat) (hi : i ≤ F.length) (w : World) (cs : List Value) (adF : Option Addr) (cF cA : Nat) (hX : XF (InH w) w x cs) (hL : LowF x) (hFx : XLF (InH w) w (.slice adF F.length cF) F) (hF : F.length ≤ 10) (hFL : ∀ f ∈ F, LowF f) :
    Calls Tryz.prog 41 #[.agg cs.toArray, .slice adF i cA, .slice adF F.length cF, .bool true] w fun e w' => e = .returned (.int .i64 ((funC F ((F.take i).any fun g => g.name == x.name) x : Nat) : Int)) ∧ Below w.heap.size w w' := by
  obtain ⟨xn, xp, xb⟩ := x
  obtain ⟨pv, bv, bs, rfl, r2, r3, r4⟩ := hX
  obtain ⟨l1, l2, l3, l4, l5⟩ := hL
  simp only at r2 r3 r4 l1 l2 l3 l4 l5
  obtain ⟨adp, cp, rfl⟩ := r2.is
  obtain ⟨adb, cb, rfl⟩ := r3.is
  obtain ⟨fx, hfr, hfk⟩ := id hFx
  have hb0 := box_blk w #[.string ⟨xn.toArray⟩, .slice adp xp.length cp, .slice adb xb.length cb] 54
  have hi' : (i : Int) ≤ 10 := by omega
  have l2' : (xp.length : Int) ≤ 8 := by omega
  have HP := hidX r2
  have HBX : Hid (XLS (InH w) w (.slice adb xb.length cb) xb) := ⟨bs, r3, r4⟩
  have HFX := hidX hFx
  have FR := hidX hfr
  have FK := hidX hfk
  have HFL := hidX hFL
  have HB0 := hidX hb0
  have HL3 := hidX l3
  have HL5 := hidX l5
  generalize htw : ((F.take i).any fun g => g.name == xn) = tw
  have HTW := hidX htw
  generalize hres : funC F tw ⟨xn, xp, xb⟩ = res
  have HRES := hidX hres
  clear r2 r3 r4 hFx hfr hfk hFL hb0 l3 l5 htw hres
  go_enter Tryz.func41, Tryz.ntmps41
  go_wp2_with fail
  refine (rName_at xn (by omega) _).mono ?_
  rintro e w1 ⟨rfl, hb1⟩
  have z1 : w.heap.size < w1.heap.size := by have := hb1.size; simp at this; omega
  have hb01 : Below w.heap.size w w1 := bl_trans HB0.out HB0.out.size hb1
  have bk : w1.heap[w.heap.size]? = some (.cells #[.string ⟨xn.toArray⟩, .slice adp xp.length cp, .slice adb xb.length cb] 54 (0, 0)) := (hb1.block _ (by simp)).trans (heap_alloc_new _ _)
  have BK := hidX bk
  clear bk hb1
  cases hn : nameB xn with
  | false =>
    have HE : Hid (res = 5) := by unfold Hid; rw [← HRES.out]; exact funC_name hn
    clear HRES hn
    go_wp2
    go_ret
    exact ⟨by rw [HE.out]; rfl, hb01⟩
  | true =>
    have HN := hidX hn
    clear hn
    go_wp2_with fail
    go_loopw [10] (fun vi wr => ∃ q : Nat, q ≤ xp.length ∧ vi = .int .i64 q ∧ Below w.heap.size w wr ∧ w.heap.size < wr.heap.size ∧ wr.heap[w.heap.size]? = some (.cells #[.string ⟨xn.toArray⟩, .slice adp xp.length cp, .slice adb xb.length cb] 54 (0, 0)) ∧ Hid (∀ p ∈ xp.take q, nameB p = true)) (fun vi _ => xp.length - (intOf vi).toNat)
    case atStart => exact ⟨0, Nat.zero_le _, rfl, hb01, z1, BK.out, fun p hp => absurd hp (by simp)⟩
    case round =>
      obtain ⟨q, hq, rfl, hbl, hz, hbk, HQ⟩ := hrel
      have d0 : wr.cell? ⟨w.heap.size, 0, none⟩ = some (.string ⟨xn.toArray⟩) := cell_of_blk hbk 0
      have d1 : wr.cell? ⟨w.heap.size, 1, none⟩ = some (.slice adp xp.length cp) := cell_of_blk hbk 1
      have d2 : wr.cell? ⟨w.heap.size, 2, none⟩ = some (.slice adb xb.length cb) := cell_of_blk hbk 2
      have HBK := hidX hbk
      clear hbk
      by_cases hlt : q < xp.length
      · have hlt' : (q : Int) < (xp.length : Int) := by omega
        obtain ⟨g, off, rfl, hg, ht0⟩ := HP.out.text hlt
        have ht := (hbl.cell (p := ⟨g, _, none⟩) hg).trans ht0
        have hmem := List.getElem_mem hlt
        have htk : xp.take (q + 1) = xp.take q ++ [xp[q]] := List.take_succ_eq_append_getElem hlt
        have hlx := HL3.out _ hmem
        generalize xp[q] = y at ht htk hlx hmem
        have HTK := hidX htk
        have HM := hidX hmem
        clear ht0 htk hmem
        go_wp2_with fail
        refine (rName_at y (by omega) _).mono ?_
        rintro e w2 ⟨rfl, hb2⟩
        have hz3 := hb2.size
        have hb4 := bl_trans hbl hbl.size hb2
        clear d0 d1 d2 ht
        cases hy : nameB y with
        | false =>
          have HE : Hid (res = 5) := by unfold Hid; rw [← HRES.out]; exact funC_par HM.out hy
          clear HRES hy
          go_wp2
          go_ret
          exact ⟨by rw [HE.out]; rfl, hb4⟩
        | true =>
          have HQ2 : Hid (∀ p ∈ xp.take (q + 1), nameB p = true) := by
            intro p hp
            rw [HTK.out] at hp
            rcases List.mem_append.1 hp with hp | hp
            · exact HQ.out p hp
            · rw [List.mem_singleton.1 hp]; exact hy
          clear hy
          go_wp2
          go_roundw
          case rel => exact ⟨q + 1, by omega, by go_num, hb4, by omega, (hb2.block _ hz).trans HBK.out, HQ2⟩
          case measure => simp [intOf]; omega
      · have hqn : q = xp.length := by omega
        subst hqn
        have HE : Hid (res = if tw = true then 7 else if 4 < xp.length then 9 else csC ((parsC [] xp).bind fun all => blockC F all all xb)) := by
          unfold Hid
          rw [← HRES.out]
          have := HQ.out
          rw [List.take_length] at this
          exact funC_rest HN.out this
        clear HRES HQ
        rename World => wo
        go_wp2_with fail
        go_loopw [12] (fun vi wr => ∃ j : Nat, j ≤ i ∧ vi = .int .i64 j ∧ Below wo.heap.size wo wr ∧ Hid (((F.take j).any fun g => g.name == xn) = false)) (fun vi _ => i - (intOf vi).toNat)
        case atStart => exact ⟨0, Nat.zero_le _, rfl, Below.refl _ _, rfl⟩
        case round =>
          obtain ⟨j, hj, rfl, hbj, HJ⟩ := hrel
          have hblj : Below w.heap.size w wr := bl_trans hbl hbl.size hbj
          have e0 : wr.cell? ⟨w.heap.size, 0, none⟩ = some (.string ⟨xn.toArray⟩) := (hbj.cell (p := ⟨w.heap.size, 0, none⟩) hz).trans d0
          have e1 : wr.cell? ⟨w.heap.size, 1, none⟩ = some (.slice adp xp.length cp) := (hbj.cell (p := ⟨w.heap.size, 1, none⟩) hz).trans d1
          by_cases hlj : j < i
          · have hlj' : (j : Int) < (i : Int) := by omega
            have hjF : j < F.length := by omega
            obtain ⟨fa, f1, f2⟩ := FK.out.at hjF
            obtain ⟨gf, off, rfl, hgf, g1⟩ := FR.out.el 3 hjF f2
            have htk : F.take (j + 1) = F.take j ++ [F[j]] := List.take_succ_eq_append_getElem hjF
            have hin : F[j] ∈ F.take i := List.mem_take_iff_getElem.2 ⟨j, by omega, rfl⟩
            generalize F[j] = y at f1 htk hin
            obtain ⟨yn, yp, yb⟩ := y
            obtain ⟨pv, bv, ys, rfl, q2, q3, q4⟩ := f1
            have a0 := (hblj.cell (p := ⟨gf, _, none⟩) hgf).trans (g1 0 _ (by decide) rfl)
            rw [Nat.add_zero] at a0
            simp only at a0
            by_cases hyn : yn = xn
            · subst hyn
              have HE7 : Hid (res = 7) := by
                unfold Hid
                have : tw = true := by rw [← HTW.out, List.any_eq_true]; exact ⟨_, hin, by simp⟩
                rw [HE.out, if_pos this]
              clear HE hin htk g1 f2 q2 q3 q4
              go_wp2_with fail
              go_quiet (fail)
              go_wp2
              go_ret
              exact ⟨by rw [HE7.out]; rfl, by (repeat (first | exact Below.refl _ _ | assumption | refine Below.drew ?_ | refine Below.trans ?_ (drewN_below' _ _ _) | refine Below.setCell ?_ (by first | (simp; done) | (simp; omega)) _ | refine Below.alloc ?_ (by first | (simp; done) | (simp; omega)) _))⟩
            · have hyn' := txt_ne hyn
              have HJ2 : Hid (((F.take (j + 1)).any fun g => g.name == xn) = false) := by
                unfold Hid
                rw [htk, List.any_append, HJ.out]
                simp [hyn]
              clear hin htk g1 f2 q2 q3 q4 hyn
              go_wp2_with fail
              go_quiet (fail)
              go_wp2
              go_roundw
              case rel => exact ⟨j + 1, by omega, by go_num, by (repeat (first | exact Below.refl _ _ | assumption | refine Below.drew ?_ | refine Below.trans ?_ (drewN_below' _ _ _) | refine Below.setCell ?_ (by first | (simp; done) | (simp; omega)) _ | refine Below.alloc ?_ (by first | (simp; done) | (simp; omega)) _)), HJ2⟩
              case measure => simp [intOf]; omega
          · have hjn : j = i := by omega
            subst hjn
            have HE2 : Hid (res = if 4 < xp.length then 9 else csC ((parsC [] xp).bind fun all => blockC F all all xb)) := by
              unfold Hid
              rw [HE.out, if_neg (by rw [← HTW.out, HJ.out]; simp)]
            clear HE HJ
            by_cases h4 : 4 < xp.length
            · have h4' : (4 : Int) < (xp.length : Int) := by omega
              have HE9 : Hid (res = 9) := by unfold Hid; rw [HE2.out, if_pos h4]
              clear HE2 h4
              go_wp2
              go_ret
              exact ⟨by rw [HE9.out]; rfl, hblj⟩
            · have h4' : (xp.length : Int) ≤ 4 := by omega
              have HE3 : Hid (res = csC ((parsC [] xp).bind fun all => blockC F all all xb)) := by unfold Hid; rw [HE2.out, if_neg h4]
              have hz5 : w.heap.size < wr.heap.size := by have := hbj.size; omega
              have HB5 := hidX ((hbj.block _ hz).trans HBK.out)
              have HBL5 := hidX hblj
              clear HE2 hbl hbj hblj d0 d1 d2 HBK
              rename World => wp
              go_wp2_with fail
              go_loopw [13, 14] (fun vo vi wr => ∃ q : Nat, q ≤ xp.length ∧ vi = .int .i64 q ∧ Below w.heap.size w wr ∧ w.heap.size < wr.heap.size ∧ wr.heap[w.heap.size]? = some (.cells #[.string ⟨xn.toArray⟩, .slice adp xp.length cp, .slice adb xb.length cb] 54 (0, 0)) ∧ wr.ownsRow (w.heap.size + 1) 9 1 vo (xp.take q).length (textsC (xp.take q)) ∧ Hid (parsC [] xp = parsC (xp.take q) (xp.drop q))) (fun _ vi _ => xp.length - (intOf vi).toNat)
              case atStart => exact ⟨0, Nat.zero_le _, rfl, HBL5.out, hz5, HB5.out, World.ownsRow_nil _ _ _ _, by unfold Hid; rw [List.take_zero, List.drop_zero]⟩
              case round =>
                clear e0 e1
                obtain ⟨q, hq, rfl, hbl, hz, hbk, hown, HQ⟩ := hrel
                obtain ⟨ado, co, rfl⟩ := own_sl hown
                have d1 : wr.cell? ⟨w.heap.size, 1, none⟩ = some (.slice adp xp.length cp) := cell_of_blk hbk 1
                have d2 : wr.cell? ⟨w.heap.size, 2, none⟩ = some (.slice adb xb.length cb) := cell_of_blk hbk 2
                have HBK := hidX hbk
                have HOW := hidX hown
                have htl : (xp.take q).length ≤ 8 := by rw [List.length_take]; omega
                clear hbk hown
                by_cases hlt : q < xp.length
                · have hlt' : (q : Int) < (xp.length : Int) := by omega
                  obtain ⟨g, off, rfl, hg, ht0⟩ := HP.out.text hlt
                  have ht := (hbl.cell (p := ⟨g, _, none⟩) hg).trans ht0
                  have hat := HQ.out.trans (parsC_atR hlt (by omega))
                  have htk : xp.take (q + 1) = xp.take q ++ [xp[q]] := List.take_succ_eq_append_getElem hlt
                  generalize xp[q] = y at ht hat htk
                  generalize hacc : xp.take q = acc at HOW hat htk htl
                  have hin := isIn_allR acc y (by omega) wr ado co ((xrow_own HOW.out).imp (fun _ hb => hb.2) (fun _ _ => rfl))
                  clear ht0 hacc HQ
                  by_cases hm : y ∈ acc
                  · rw [show decide (y ∈ acc) = true by simpa using hm] at hin
                    rw [if_pos hm] at hat
                    have HIN := hidX hin
                    have HE7 : Hid (res = 7) := by unfold Hid; rw [HE3.out, hat]; rfl
                    clear hin hm hat HE3 htk
                    go_wp2_with fail
                    refine HIN.out.mono ?_
                    rintro e w' ⟨rfl, hh⟩
                    replace hh := hh.symm
                    subst hh
                    go_wp2
                    go_ret
                    exact ⟨by rw [HE7.out]; rfl, hbl⟩
                  · rw [show decide (y ∈ acc) = false by simpa using hm] at hin
                    rw [if_neg hm] at hat
                    have HIN := hidX hin
                    have HAT := hidX hat
                    have HTK := hidX htk
                    have hbx := box_blk wr #[.string ⟨y.toArray⟩] 9
                    have HONE := hidX (one_text wr y)
                    have HO1 := hidX (owns_below HOW.out hbx)
                    have hg1 : Below w.heap.size w (wr.alloc (.cells #[.string ⟨y.toArray⟩] 9)) := bl_trans hbl hbl.size hbx
                    have hz1 : w.heap.size + 1 ≤ (wr.alloc (.cells #[.string ⟨y.toArray⟩] 9)).heap.size := by simp; omega
                    have hk1 : (wr.alloc (.cells #[.string ⟨y.toArray⟩] 9)).heap[w.heap.size]? = _ := (hbx.block _ hz).trans HBK.out
                    have HK1 := hidX hk1
                    clear hin hm hat htk hbx hk1
                    go_wp2_with fail
                    refine HIN.out.mono ?_
                    rintro e w' ⟨rfl, hh⟩
                    replace hh := hh.symm
                    subst hh
                    go_wp2_with (first | (at_builtin; refine wpList_append_on rfl _ _ rfl _ rfl _ rfl (w.heap.size + 1) acc [y] hz1 (by first | omega | (simp; omega)) HO1.out HONE.out ?_; intro v2 W2 hown2 hg2; have hb2 : Below w.heap.size w W2 := grown_below hg1 (Nat.le_refl _) (own_base HO1.out (Nat.le_succ _)) hg2; have k2 := grown_blk hg2 HK1.out (fun e => (by have := (HO1.out.lt _ e.symm).1; omega)); have zz2 := hg2.size; have HW2 := hidX hown2; have HK2 := hidX k2; clear hown2 k2) | fail)
                    have ho7 := HW2.out
                    rw [← HTK.out] at ho7
                    have HO7 := hidX ho7
                    clear ho7 HW2
                    go_roundw
                    case rel => exact ⟨q + 1, by omega, by go_num, hb2, heap_lt HK2.out, HK2.out, HO7.out, HAT.out⟩
                    case measure => simp [intOf]; omega
                · have hqn : q = xp.length := by omega
                  subst hqn
                  have hpar : parsC [] xp = .ok xp := by rw [HQ.out, List.take_length, List.drop_length, parsC]
                  have HE8 : Hid (res = csC (blockC F xp xp xb)) := by unfold Hid; rw [HE3.out, hpar]; rfl
                  have ho := HOW.out
                  rw [List.take_length] at ho
                  rw [List.take_length]
                  have HO := hidX ho
                  have hxr := (xrow_own ho).imp (B := InH wr) (fun _ hb => hb.2) (fun _ _ => rfl)
                  have HXR := hidX hxr
                  clear hpar HE3 HQ ho HOW hxr htl
                  rename World => w6
                  go_wp2_with (first | (at_builtin; refine wpList_append_texts rfl _ _ rfl rfl (.slice ado xp.length co) rfl xp (by omega) HXR.out ?_; intro ad7 c7 w7 ho7 hb7; have HO7 := hidX ho7; have HB7 := hidX hb7; have hz7 := hb7.size; have e7 : (w7.alloc (.cells #[.slice adF F.length cF, .bool true, .slice ado xp.length co, .slice ad7 xp.length c7] 129)).cell? ⟨w.heap.size, 2, none⟩ = some (.slice adb xb.length cb) := cell_of_blk (((box_blk w7 _ _).block _ (by omega)).trans ((hb7.block _ hz).trans HBK.out)) 2; clear ho7 hb7) | fail)
                  have hbX : Below w6.heap.size w6 (w7.alloc (.cells #[.slice adF F.length cF, .bool true, .slice ado xp.length co, .slice ad7 xp.length c7] 129)) := bl_trans HB7.out (by omega) (box_blk w7 _ _)
                  have hbw : Below w.heap.size w (w7.alloc (.cells #[.slice adF F.length cF, .bool true, .slice ado xp.length co, .slice ad7 xp.length c7] 129)) := bl_trans hbl hbl.size hbX
                  have hal : w6.ownsRow w.heap.size 9 1 (.slice ado xp.length co) xp.length (textsC xp) := own_base HO.out (Nat.le_succ _)
                  have hvi : w7.ownsRow w.heap.size 9 1 (.slice ad7 xp.length c7) xp.length (textsC xp) := own_base HO7.out (by omega)
                  have hK : Know (w7.alloc (.cells #[.slice adF F.length cF, .bool true, .slice ado xp.length co, .slice ad7 xp.length c7] 129)) w.heap.size w7.heap.size (.slice adF F.length cF) (.slice ado xp.length co) (.slice ad7 xp.length c7) F xp xp :=
                    ⟨by omega, heap_alloc_new _ _, HFX.out.imp (fun _ h => h) (fun b hb => hbw.block b hb), owns_below hal hbX, owns_below hvi (box_blk w7 _ _), fun e => by have := (hal.lt _ e).2; omega, fun e => by have := (hvi.lt _ e).2; omega, fun b e e' => by have h1 := (hal.lt b e).2; have h2 := (HO7.out.lt b e').1; omega⟩
                  refine (kbl_any xb _ w.heap.size w7.heap.size _ _ _ F xp xp _ hK (HBX.out.imp (fun _ h => h) (fun b hb => hbw.block b hb)) l4 HL5.out hF HFL.out (by omega) (Nat.le_refl _)).mono ?_
                  rintro ev w8 ⟨hf8, h8⟩
                  have hb8 : Below w.heap.size w w8 := hbw.trans (hf8.low hK)
                  clear hK hal hvi hbX e7
                  cases hbc : blockC F xp xp xb with
                  | bad c =>
                    rw [hbc] at h8
                    simp only at h8
                    subst h8
                    have HEF : Hid (res = c) := by unfold Hid; rw [HE8.out, hbc]; rfl
                    clear hbc HE8
                    go_wp2
                    go_ret
                    exact ⟨by rw [HEF.out]; rfl, hb8⟩
                  | ok a =>
                    rw [hbc] at h8
                    simp only at h8
                    obtain ⟨he8, _⟩ := h8
                    subst he8
                    have HEF : Hid (res = 0) := by unfold Hid; rw [HE8.out, hbc]; rfl
                    clear hbc HE8
                    go_wp2
                    go_ret
                    exact ⟨by rw [HEF.out]; rfl, hb8⟩
end Go.Proofs.YtcebpmaggnephabGreatDoor

/-
  Our own: a program, as the document's own model reads it.
-/
namespace Go.Proofs.YtcebpmaggnephabGreatDoor
open Go.RowKit Go.Maps

/-- A program's fault: an error's number, and which function's. -/
def progC (l : List Fu) : Int × Int := if 8 < l.length then (8, -1) else match funsC l [] l with
  | none => (0, -1)
  | some (c, i) => ((c : Int), (i : Int))
theorem two_cellsR {w : World} {b : Nat} {x0 x1 : Value} {t : TypeId} (h : w.heap[b]? = some (.cells #[x0, x1] t (0, 0))) (u0 u1 : Value) : ((w.setCell ⟨b, 0, none⟩ u0).setCell ⟨b, 1, none⟩ u1).heap[b]? = some (.cells #[u0, u1] t (0, 0)) := by
  have h2 := blk_setCell (blk_setCell h 0 u0) 1 u1
  simpa using h2
theorem two_cells_newR {w : World} {b : Nat} {x0 x1 : Value} {t : TypeId} (h : w.heap[b]? = some (.cells #[x0, x1] t (0, 0))) (u0 u1 : Value) (o : Obj) : (((w.setCell ⟨b, 0, none⟩ u0).setCell ⟨b, 1, none⟩ u1).alloc o).heap[b]? = some (.cells #[u0, u1] t (0, 0)) := by
  have h2 := two_cellsR h u0 u1
  rw [Below.heap_alloc _ _ _ (heap_lt h2)]
  exact h2
theorem set_belowR {w wr : World} (h : Below w.heap.size w wr) (u0 u1 : Value) : Below w.heap.size w ((wr.setCell ⟨w.heap.size, 0, none⟩ u0).setCell ⟨w.heap.size, 1, none⟩ u1) :=
  (h.setCell (Nat.le_refl _) _).setCell (Nat.le_refl _) _
theorem ret_agg {a b c d : Int} (h : (a, b) = (c, d)) : Ending.returned (.agg #[.int .i64 c, .int .i64 d]) = .returned (.agg #[.int .i64 a, .int .i64 b]) := by
  injection h with h1 h2; rw [h1, h2]
theorem progC_full {l : List Fu} (h : 8 < l.length) : progC l = (8, -1) := by unfold progC; rw [if_pos h]
theorem progC_some {l : List Fu} {c i : Nat} (h : ¬ 8 < l.length) (hf : funsC l [] l = some (c, i)) : progC l = ((c : Int), (i : Int)) := by unfold progC; rw [if_neg h, hf]
theorem progC_none {l : List Fu} (h : ¬ 8 < l.length) (hf : funsC l [] l = none) : progC l = (0, -1) := by unfold progC; rw [if_neg h, hf]
set_option maxRecDepth 100000 in
set_option maxHeartbeats 4000000 in
theorem rProg_any (l : List Fu) (hl : l.length ≤ 10) (hL : ∀ f ∈ l, LowF f) (w : World) (ad : Option Addr) (c : Nat) (hX : XLF (InH w) w (.slice ad l.length c) l) (hc : l.length ≤ c) (hc' : (c : Int) ≤ 9223372036854775807) :
    Calls Tryz.prog 16 #[.slice ad l.length c] w fun e w' => e = .returned (.agg #[.int .i64 (progC l).1, .int .i64 (progC l).2]) ∧ Below w.heap.size w w' := by
  obtain ⟨xs, hr, hk⟩ := id hX
  have hl' : (l.length : Int) ≤ 10 := by omega
  have hcq : (l.length : Int) ≤ (c : Int) := by omega
  have R := hidX hr
  have KK := hidX hk
  have HL := hidX hL
  have HX := hidX hX
  generalize hres : progC l = res
  obtain ⟨r1, r2⟩ := res
  have HRES := hidX hres
  clear hr hk hL hX hres
  have hb0 := box_blk w #[.int .i64 0, .int .i64 0] 25
  have h0 := heap_alloc_new w (.cells #[.int .i64 0, .int .i64 0] 25)
  have HB0 := hidX hb0
  have H0 := hidX h0
  clear hb0 h0
  go_enter Tryz.func16, Tryz.ntmps16
  by_cases h8 : 8 < l.length
  · have h8' : (8 : Int) < (l.length : Int) := by omega
    have HE := hidX (HRES.out.symm.trans (progC_full h8))
    clear HRES h8
    go_wp2_with (go_at_call 23; refine (bare_any _ _).mono ?_; rintro e w' ⟨rfl, hh⟩; subst hh)
    exact bodyPost_ret (v := .agg #[.int .i64 8, .int .i64 (-1)]) (by simp [results, Tryz.results16, go_sem]) rfl ⟨ret_agg HE.out, by (repeat (first | exact Below.refl _ _ | assumption | refine Below.drew ?_ | refine Below.trans ?_ (drewN_below' _ _ _) | refine Below.setCell ?_ (by first | (simp; done) | (simp; omega)) _ | refine Below.alloc ?_ (by first | (simp; done) | (simp; omega)) _))⟩
  · have h8' : ¬ (8 : Int) < (l.length : Int) := by omega
    have HE : Hid (∀ c i, funsC l [] l = some (c, i) → (r1, r2) = ((c : Int), (i : Int))) := fun c i h => HRES.out.symm.trans (progC_some h8 h)
    have HE2 : Hid (funsC l [] l = none → (r1, r2) = ((0 : Int), (-1 : Int))) := fun h => HRES.out.symm.trans (progC_none h8 h)
    clear HRES h8
    go_wp2_with fail
    go_loopw [3] (fun vi wr => ∃ q : Nat, q ≤ l.length ∧ vi = .int .i64 q ∧ Below w.heap.size w wr ∧ w.heap.size < wr.heap.size ∧ wr.heap[w.heap.size]? = some (.cells #[.int .i64 0, .int .i64 0] 25 (0, 0)) ∧ Hid (funsC l [] l = funsC l (l.take q) (l.drop q))) (fun vi _ => l.length - (intOf vi).toNat)
    case atStart => exact ⟨0, Nat.zero_le _, rfl, HB0.out, by simp, H0.out, by unfold Hid; rw [List.take_zero, List.drop_zero]⟩
    case round =>
      obtain ⟨q, hq, rfl, hbl, hz, hbk, HQ⟩ := hrel
      have HBK := hidX hbk
      have c0 : wr.cell? ⟨w.heap.size, 0, none⟩ = some (.int .i64 0) := cell_of_blk hbk 0
      have c1 : wr.cell? ⟨w.heap.size, 1, none⟩ = some (.int .i64 0) := cell_of_blk hbk 1
      clear hbk
      by_cases hlt : q < l.length
      · have hlt' : (q : Int) < (l.length : Int) := by omega
        obtain ⟨fa, f1, f2⟩ := KK.out.at hlt
        have hfc : ∀ X, Below w.heap.size w X → Calls Tryz.prog 41 #[.agg fa.toArray, .slice ad q c, .slice ad l.length c, .bool true] X fun e w' => e = .returned (.int .i64 ((funC l ((l.take q).any fun g => g.name == l[q].name) l[q] : Nat) : Int)) ∧ Below X.heap.size X w' := fun X hX =>
          rFun_any l[q] l q hq X fa ad c c (f1.imp (inH_up hX) (keepH hX)) (HL.out _ (List.getElem_mem hlt)) (HX.out.imp (inH_up hX) (keepH hX)) hl HL.out
        have hat := HQ.out.trans (funsC_at hlt)
        obtain ⟨gf, off, rfl, hgf, g1⟩ := R.out.el 3 hlt f2
        generalize funC l ((l.take q).any fun g => g.name == l[q].name) l[q] = cf at hfc hat
        generalize l[q] = y at f1
        obtain ⟨yn, yp, yb⟩ := y
        obtain ⟨pv, bv, ys, rfl, q2, q3, q4⟩ := f1
        obtain ⟨adp, cp, rfl⟩ := q2.is
        obtain ⟨adb, cb, rfl⟩ := q3.is
        have a0 := (hbl.cell (p := ⟨gf, _, none⟩) hgf).trans (g1 0 _ (by decide) rfl)
        have a1 := (hbl.cell (p := ⟨gf, _, none⟩) hgf).trans (g1 1 _ (by decide) rfl)
        have a2 := (hbl.cell (p := ⟨gf, _, none⟩) hgf).trans (g1 2 _ (by decide) rfl)
        rw [Nat.add_zero] at a0
        simp only [← Nat.add_assoc] at a0 a1 a2
        have HFC := hidX hfc
        have HAT := hidX hat
        clear hfc hat g1 f2 q2 q3 q4 HQ
        go_wp2_with fail
        go_region_with (go_at_call 41; refine (HFC.out _ (by (repeat (first | exact Below.refl _ _ | assumption | refine Below.drew ?_ | refine Below.trans ?_ (drewN_below' _ _ _) | refine Below.setCell ?_ (by first | (simp; done) | (simp; omega)) _ | refine Below.alloc ?_ (by first | (simp; done) | (simp; omega)) _)))).mono ?_; rintro e w2 ⟨rfl, hb2⟩)
        all_goals (
          have hb3 : Below wr.heap.size wr w2 := bl_trans (show Below wr.heap.size wr _ by (repeat (first | exact Below.refl _ _ | assumption | refine Below.drew ?_ | refine Below.trans ?_ (drewN_below' _ _ _) | refine Below.setCell ?_ (by first | (simp; done) | (simp; omega)) _ | refine Below.alloc ?_ (by first | (simp; done) | (simp; omega)) _))) (by first | exact Nat.le_refl _ | (simp; done) | (simp; omega)) hb2
          have hb4 : Below w.heap.size w w2 := bl_trans hbl hbl.size hb3
          have hz4 := hb3.size
          have hblk := (hb3.block _ hz).trans HBK.out
          clear hb2 a0 a1 a2 c0 c1
          by_cases h0 : cf = 0
          · have hat := HAT.out
            rw [if_neg (by simpa using h0)] at hat
            have HA2 := hidX hat
            have h0' : ¬ (0 : Int) < (cf : Int) := by omega
            have HB2 := hidX hblk
            clear h0 hat HAT hblk
            go_wp2
            go_roundw
            case rel => exact ⟨q + 1, by omega, by go_num, hb4, by omega, HB2.out, HA2.out⟩
            case measure => simp [intOf]; omega
          · have hat := HAT.out
            rw [if_pos h0] at hat
            have HF := hidX (HE.out _ _ hat)
            have h0' : (0 : Int) < (cf : Int) := by omega
            have f0 := free_of_blk hblk 0
            have f1 := free_of_blk hblk 1
            have e0 : w2.cell? ⟨w.heap.size, 0, none⟩ = some (.int .i64 0) := cell_of_blk hblk 0
            have e1 : w2.cell? ⟨w.heap.size, 1, none⟩ = some (.int .i64 0) := cell_of_blk hblk 1
            have HB2 := hidX hblk
            clear h0 hat HAT hblk HE HE2
            go_wp2
            have hx := two_cellsR HB2.out (.int .i64 (cf : Int)) (.int .i64 (q : Int))
            have hx0 := cell_of_blk hx 0
            have hx1 := cell_of_blk hx 1
            have hsb := set_belowR hb4 (.int .i64 (cf : Int)) (.int .i64 (q : Int))
            clear hx
            exact bodyPost_ret (v := .agg #[.int .i64 (cf : Int), .int .i64 (q : Int)]) (by simp [results, Tryz.results16, go_sem, hx0, hx1]) rfl ⟨ret_agg HF.out, hsb⟩)
      · have hqn : q = l.length := by omega
        subst hqn
        have hno : funsC l [] l = none := by rw [HQ.out, List.drop_length, funsC]
        have HF := hidX (HE2.out hno)
        clear hno HQ HE HE2
        have hblk := HBK.out
        have f0 := free_of_blk hblk 0
        have f1 := free_of_blk hblk 1
        go_wp2_with (go_at_call 28; refine (fine_any _).mono ?_; rintro e w' ⟨rfl, hh⟩; subst hh)
        have hx := two_cells_newR HBK.out (.int .i64 0) (.int .i64 (-1)) (.cells #[.int .i64 0, .int .i64 (-1)] 25)
        have hx0 := cell_of_blk hx 0
        have hx1 := cell_of_blk hx 1
        have hsb := set_belowR hbl (.int .i64 0) (.int .i64 (-1))
        clear hblk hx
        exact bodyPost_ret (v := .agg #[.int .i64 0, .int .i64 (-1)]) (by simp [results, Tryz.results16, go_sem, hx0, hx1]) rfl ⟨ret_agg HF.out, hsb.alloc hsb.size _⟩
end Go.Proofs.YtcebpmaggnephabGreatDoor
