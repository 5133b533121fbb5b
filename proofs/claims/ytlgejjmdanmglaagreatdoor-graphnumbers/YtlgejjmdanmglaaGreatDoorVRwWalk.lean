/- Our own: texts joined: RwWalk. -/
import Derived.Test.YtlgejjmdanmglaaGreatDoorVRwMs
import Derived.Test.YtlgejjmdanmglaaGreatDoorVDoneAll
import Derived.Test.YtlgejjmdanmglaaGreatDoorVStepAll
namespace Go.Proofs.YtlgejjmdanmglaaGreatDoor
open Go.RowKit
def DoneN (n0 : Nat) (w : World) (v : Value) (st : Rst) : Prop := ∃ outv callv xs, v = .agg (dnV st.how st.val st.tks outv callv).toArray ∧ XRow (fun b => n0 ≤ b ∧ b < w.heap.size) w outv st.out.length (intsG st.out) ∧ XRow (fun b => n0 ≤ b ∧ b < w.heap.size) w callv st.calls.length xs ∧ XCs (fun b => n0 ≤ b ∧ b < w.heap.size) w st.calls xs
theorem doneR_of {S : Nat → Prop} {X Y : World} {rb n0 : Nat} {s : Rst} {outv callv : Value} {xs : List Value} (h : DnJ S X rb s outv callv xs) (hf : ∀ k, S k → Y.heap[k]? = X.heap[k]?) (hz : Y.heap.size = X.heap.size) (hn : ∀ k, S k → n0 ≤ k) : DoneN n0 Y (.agg (dnV s.how s.val s.tks outv callv).toArray) s := by
 have hsz : ∀ b, S b → n0 ≤ b ∧ b < Y.heap.size := fun b hb => ⟨hn b hb, by rw [hz]; exact (h.sl b hb).1⟩
 have hrow : ∀ {t : TypeId} {size n : Nat} {v : Value} {ys : List Value}, X.ownsRow 0 t size v n ys → (∀ b, v.ownBlock = some b → S b) → XRow (fun b => n0 ≤ b ∧ b < Y.heap.size) Y v n ys := fun {t size n v ys} ho hs => by
  obtain ⟨ad, cap, rfl⟩ := own_is ho
  have h1 := xrow_own (own_same (w' := Y) ho (fun b e => hf b (hs b e)))
  refine ⟨ad, cap, rfl, fun hn0 => ?_⟩
  obtain ⟨g, off, e, _, _, hc⟩ := h1.get hn0
  subst e
  exact ⟨g, off, rfl, hsz g (hs g rfl), hc⟩
 exact ⟨outv, callv, xs, rfl, hrow h.out h.outS, hrow h.call h.callS, h.tel.imp (fun b hb => hsz b hb.1) (fun b hb => hf b hb.1)⟩
theorem bool_info : (Tryz.prog.info? 4).map (fun i => (i.zero, i.size, i.bytes)) = some (some (.bool false), 1, 1) := by kernel_rfl
theorem made_boolsR (n : Nat) : madeCells #[.bool false] n = (boolsG (List.replicate n false)).toArray := by
 apply Array.ext'
 apply List.ext_getElem?
 intro i
 simp [madeCells, boolsG, List.getElem?_replicate]
 by_cases h : i < n <;> simp [h, Nat.mod_one]
set_option maxRecDepth 100000 in
set_option maxHeartbeats 16000000 in
theorem walkOf_any {w : World} (nm : List UInt8) (P : Int) (nv : Value) (L : List Nd) (hlow : ∀ n ∈ L, LowN n) (hG : XG false (InH w) w nv L) (hW : WellG onesE twosE P L) (args : List Int) (argv ansv : Value) (hal : (args.length : Int) = P) (hag : ∀ v ∈ args, In64 v) (hargs : XRow (InH w) w argv args.length (intsG args)) (ans : List Int) (hans : XRow (InH w) w ansv ans.length (intsG ans)) (hal2 : ans.length ≤ 100000) (han : ∀ v ∈ ans, In64 v) (ticks : Int) (most : Nat) (hmo : most ≤ 100000) :
  Calls Tryz.prog 15 #[.agg #[.string ⟨nm.toArray⟩, .int .i64 P, nv], argv, ansv, .int .i64 ticks, .int .i64 (most : Int)] w fun e w' => Below w.heap.size w w' ∧ ∃ v, e = .returned v ∧ DoneN w.heap.size w' v (walkL L args ans ticks most 0 st0 (fun _ => none)) := by
 have hL := hW.len.2
 have hL0 := hW.len.1
 obtain ⟨ad, cap, rfl⟩ := hG.is
 obtain ⟨aad, acap, rfl⟩ := hargs.is
 obtain ⟨nad, ncap, rfl⟩ := hans.is
 have hmi := run_make_row' (P := Tryz.prog) 40 3 (.int .i64 0) 8 Tryz.underlying40 int_info rfl .i64 .i64 L.length (by omega) (by omega)
 rw [made_intsI] at hmi
 obtain ⟨is0, his0⟩ : ∃ is0, is0 = intsG (List.replicate L.length 0) := ⟨_, rfl⟩
 rw [← his0] at hmi
 have hmb := run_make_row' (P := Tryz.prog) 68 4 (.bool false) 1 Tryz.underlying68 bool_info rfl .i64 .i64 L.length (by omega) (by omega)
 rw [made_boolsR] at hmb
 obtain ⟨bs0, hbs0⟩ : ∃ bs0, bs0 = boolsG (List.replicate L.length false) := ⟨_, rfl⟩
 rw [← hbs0] at hmb
 have HI0 := hidX his0
 have HS0 := hidX hbs0
 clear his0 hbs0
 have hL' : (L.length : Int) ≤ 1000 := by omega
 have HG := hidX hG
 have HW := hidX hW
 have HLW := hidX hlow
 have HAR := hidX hargs
 have HAN := hidX hans
 have HAL := hidX hal
 have HAG := hidX hag
 have HN64 := hidX han
 generalize hgoal : walkL L args ans ticks most 0 st0 (fun _ => none) = goal
 have HGO := hidX hgoal
 obtain ⟨W0, hW0⟩ : ∃ W0, W0 = (w.alloc (.cells #[.string ⟨nm.toArray⟩, .int .i64 P, .slice ad L.length cap] 24)).alloc (.cells #[.string ⟨#[]⟩, .int .i64 0, .slice none 0 0, .int .i64 0, .slice none 0 0] 44) := ⟨_, rfl⟩
 have hb0 : Below w.heap.size w W0 := by rw [hW0]; (repeat (first | exact Below.refl _ _ | assumption | refine Below.drew ?_ | refine bT ?_ _ | refine bS ?_ _ | refine bA ?_ _))
 have hx0 : W0.heap[w.heap.size]? = some (.cells #[.string ⟨nm.toArray⟩, .int .i64 P, .slice ad L.length cap] 24 (0, 0)) := by rw [hW0]; exact twoG w _ _
 have hx1 : W0.heap[w.heap.size + 1]? = some (.cells #[.string ⟨#[]⟩, .int .i64 0, .slice none 0 0, .int .i64 0, .slice none 0 0] 44 (0, 0)) := by rw [hW0]; exact heap_alloc2_new w _ _
 have hz0 : W0.heap.size = w.heap.size + 2 := by rw [hW0]; simp
 have d0 : W0.cell? ⟨w.heap.size, 0, none⟩ = some (.string ⟨nm.toArray⟩) := cell_of_blk hx0 0
 have d1 : W0.cell? ⟨w.heap.size, 1, none⟩ = some (.int .i64 P) := cell_of_blk hx0 1
 have d2 : W0.cell? ⟨w.heap.size, 2, none⟩ = some (.slice ad L.length cap) := cell_of_blk hx0 2
 have hgbl := heap_lt hx0
 have hgbl1 : w.heap.size < W0.heap.size + 1 := by omega
 have hgbl2 : w.heap.size < W0.heap.size + 1 + 1 := by omega
 have hgbl3 : w.heap.size < W0.heap.size + 1 + 1 + 1 := by omega
 have hgbl4 : w.heap.size < W0.heap.size + 1 + 1 + 1 + 1 := by omega
 have HX0 := hidX hx0
 have HX1 := hidX hx1
 have HZ0 := hidX hz0
 have HB0 := hidX hb0
 clear hlow hG hW hal hag hargs hans han hgoal hx0 hx1 hz0 hb0
 go_enter Tryz.func15, Tryz.ntmps15
 go_wp2_with fail
 rw [← hW0]
 clear hW0
 apply reg_cut4 (F := fun t y o p => { tmps := #[.agg #[.string ⟨nm.toArray⟩, .int .i64 P, .slice ad L.length cap], .slice aad args.length acap, .slice nad ans.length ncap, .int .i64 ticks, .int .i64 (most : Int), .pointer (some ⟨w.heap.size, 0, none⟩), undef, undef, undef, undef, .pointer (some ⟨w.heap.size + 1, 0, none⟩), .int .i64 L.length, .pointer (some ⟨W0.heap.size + 1 + 1 + 1 + 1, 0, none⟩), undef, undef, undef, undef, undef, undef, undef, undef, undef, undef, undef, undef, undef, undef, undef, undef, undef, undef, undef, undef, .pointer (some ⟨w.heap.size, 2, none⟩), .slice ad L.length cap, .int .i64 L.length, .agg #[.string ⟨nm.toArray⟩, .int .i64 P, .slice ad L.length cap], .slice aad args.length acap, .int .i64 L.length, rowV t L.length, .int .i64 L.length, rowV y L.length, .int .i64 L.length, rowV o L.length, .int .i64 L.length, rowV p L.length, .agg (rwV nm P (.slice ad L.length cap) (.slice aad args.length acap) (rowV t L.length) (rowV y L.length) (rowV o L.length) (rowV p L.length)).toArray, .pointer (some ⟨W0.heap.size + 1 + 1 + 1 + 1, 0, none⟩), undef, undef, undef, undef, undef, undef, undef, undef, undef, undef, undef, undef, undef, undef, undef, undef, undef, undef, undef, undef, undef, undef, undef, undef, undef, undef, undef, undef, undef, undef, undef, undef, undef, undef, undef, undef, undef, undef, undef, undef, undef, undef, undef, undef, undef, undef, undef, undef, undef, undef, undef, undef, undef, undef, undef, undef, undef, undef, undef, undef, undef, undef, undef, undef, undef, undef, undef, undef, undef, undef, undef, undef, undef, undef, undef, undef, undef, undef, undef, undef, undef, undef, undef, undef, undef, undef, undef, undef, undef, undef, undef, undef, undef, undef, undef, undef, undef, undef, undef, undef, undef, undef, undef, undef, undef, undef, undef, undef, undef, undef, undef, undef, undef, undef, undef, undef, undef, undef, undef, undef, undef, undef, undef, undef, undef, undef, undef, undef, undef, undef, undef, undef, undef, undef, undef, undef, undef, undef, undef, undef, undef, undef, undef, undef, undef, undef, undef, undef, undef, undef, undef, undef, undef, undef, undef, undef, undef, undef, undef, undef, undef, undef, undef, undef, undef, undef, undef, undef, undef, undef, undef, undef, undef, undef, undef, undef, undef, undef, undef, undef, undef, undef, undef, undef, undef, undef, undef, undef, undef, undef, undef, undef, undef, undef, undef, undef, undef, undef, undef, undef, undef, undef, undef, undef, undef, undef, undef, undef, undef, undef, undef, undef, undef, undef, undef, undef, undef, undef, undef, undef, undef, undef, undef, undef, undef, undef, undef, undef, undef, undef, undef, undef, undef, undef, undef, undef, undef, undef], defers := [] }) (R := fun t y o p W => RwJ (InH w) (W0.heap.size + 5) W (W0.heap.size + 1 + 1 + 1 + 1) t y o p nm P (.slice ad L.length cap) (.slice aad args.length acap) L args (fun _ => none) ∧ Below W0.heap.size W0 W ∧ W.heap.size = W0.heap.size + 5 ∧ (W0.heap.size ≤ t ∧ W0.heap.size ≤ y ∧ W0.heap.size ≤ o ∧ W0.heap.size ≤ p ∧ W0.heap.size ≤ W0.heap.size + 1 + 1 + 1 + 1))
 ·go_region
  all_goals exact ⟨_, _, _, _, rfl, rw_new HB0.out HG.out HAR.out HI0.out HS0.out rfl (by first | exact Or.inl ⟨rfl, rfl⟩ | exact Or.inr (Or.inl ⟨rfl, rfl⟩) | exact Or.inr (Or.inr (Or.inl ⟨rfl, rfl⟩)) | exact Or.inr (Or.inr (Or.inr ⟨rfl, rfl⟩))) (by first | exact Or.inl ⟨rfl, rfl⟩ | exact Or.inr (Or.inl ⟨rfl, rfl⟩) | exact Or.inr (Or.inr (Or.inl ⟨rfl, rfl⟩)) | exact Or.inr (Or.inr (Or.inr ⟨rfl, rfl⟩))) (by first | exact Or.inl ⟨rfl, rfl⟩ | exact Or.inr (Or.inl ⟨rfl, rfl⟩) | exact Or.inr (Or.inr (Or.inl ⟨rfl, rfl⟩)) | exact Or.inr (Or.inr (Or.inr ⟨rfl, rfl⟩))) (by first | exact Or.inl ⟨rfl, rfl⟩ | exact Or.inr (Or.inl ⟨rfl, rfl⟩) | exact Or.inr (Or.inr (Or.inl ⟨rfl, rfl⟩)) | exact Or.inr (Or.inr (Or.inr ⟨rfl, rfl⟩))) (by omega)⟩
 ·rintro ga ha sa ka W ⟨hJ0, hbW, hzW, hor⟩
  clear hmi hmb d0 d1 d2 hgbl1 hgbl2 hgbl3 hgbl4
  rw [← hzW] at hJ0
  generalize hwb : W0.heap.size + 1 + 1 + 1 + 1 = wb at *
  have hlo := hJ0.lo
  obtain ⟨WD, hWD⟩ : ∃ WD, WD = W.alloc (.cells #[.string ⟨#[]⟩, .int .i64 0, .slice none 0 0, .int .i64 0, .slice none 0 0] 44) := ⟨_, rfl⟩
  have hbD : Below W.heap.size W WD := by rw [hWD]; (repeat (first | exact Below.refl _ _ | assumption | refine Below.drew ?_ | refine bT ?_ _ | refine bS ?_ _ | refine bA ?_ _))
  have hxD : WD.heap[W.heap.size]? = some (.cells #[.string ⟨#[]⟩, .int .i64 0, .slice none 0 0, .int .i64 0, .slice none 0 0] 44 (0, 0)) := by rw [hWD]; exact heap_alloc_new _ _
  have HJD := hidX (hJ0.below hbD)
  have HDD := hidX (show DnJ (fun _ => False) WD W.heap.size st0 (.slice none 0 0) (.slice none 0 0) [] from ⟨hxD, World.ownsRow_nil _ _ _ _, fun b h => by simp [Value.ownBlock] at h, World.ownsRow_nil _ _ _ _, fun b h => by simp [Value.ownBlock] at h, rfl, fun b h => by simp [Value.ownBlock] at h, fun b h => h.elim⟩)
  have HFD := hidX (bl_trans hbW hbW.size hbD)
  have hzD : W.heap.size < WD.heap.size := heap_lt hxD
  have HZW := hidX hzW
  have HWB := hidX hwb
  clear hJ0 hbW hzW hwb hbD hxD
  go_wp2_with fail
  rw [← hWD]
  clear hWD
  go_loopg [14, 15] (most + 1) (fun k v14 v15 wr => ∃ (q x : Nat) (st : Rst) (got : Nat → Option Int) (S : Nat → Prop) (outv callv : Value) (xs : List Value), v14 = .int .i64 (x : Int) ∧ v15 = .int .i64 (q : Int) ∧ q ≤ most ∧ most - q < k ∧ x < L.length ∧ (0 ≤ st.tks ∧ st.tks ≤ (q : Int)) ∧ st.out.length ≤ 1000 ∧ W.heap.size < wr.heap.size ∧ Hid (isWay (ndAt L x).kind ∧ st.how = [] ∧ Got64 got ∧ walkL L args ans ticks (most - q) x st got = goal) ∧ Hid (RwJ (InH w) W.heap.size wr wb ga ha sa ka nm P (.slice ad L.length cap) (.slice aad args.length acap) L args got) ∧ Hid (DnJ S wr W.heap.size st outv callv xs ∧ ∀ b, S b → W.heap.size < b) ∧ Hid (Below W0.heap.size W0 wr))
  case atStart => exact ⟨0, 0, st0, fun _ => none, fun _ => False, _, _, _, rfl, rfl, by omega, by omega, hL0, ⟨Int.le_refl _, Int.le_refl _⟩, by simp [st0], hzD, ⟨(show isWay (ndAt L ((0 : Nat) : Int)).kind by rw [show ((0 : Nat) : Int) = 0 from rfl, HW.out.start]; exact start_way), rfl, (fun i v h => by cases h), HGO.out⟩, HJD.out, ⟨HDD.out, fun b h => h.elim⟩, HFD.out⟩
  case round =>
   obtain ⟨q, x, st, got, S, outv, callv, xs, rfl, rfl, hq, hqk, hx, htk, hol, hzr, HM, HJ, HD, HF⟩ := hrel
   obtain ⟨wo, hwo⟩ : ∃ wo, wo = wr := ⟨_, rfl⟩
   subst hwo
   clear HJD HDD HFD HGO
   obtain ⟨oad, ocap, rfl⟩ := own_is HD.out.1.out
   obtain ⟨cad, ccap, rfl⟩ := own_is HD.out.1.call
   by_cases hq2 : q < most
   ·have hq2' : (q : Int) < (most : Int) := by omega
    have hgx := (HF.out.block _ hgbl).trans HX0.out
    have c0 : wo.cell? ⟨w.heap.size, 0, none⟩ = some (.string ⟨nm.toArray⟩) := cell_of_blk hgx 0
    have c1 : wo.cell? ⟨w.heap.size, 1, none⟩ = some (.int .i64 P) := cell_of_blk hgx 1
    have c2 : wo.cell? ⟨w.heap.size, 2, none⟩ = some (.slice ad L.length cap) := cell_of_blk hgx 2
    have hzw : w.heap.size < W.heap.size := by have := HZ0.out; have := HZW.out; omega
    have htk1 := takers_any (w := wo) nm P (.slice ad L.length cap) L hL HLW.out (HJ.out.gr.imp (fun b hb => (by have : b < w.heap.size := hb; show b < wo.heap.size; omega)) (fun _ _ => rfl)) (ways_ins HW.out) (x : Int)
    rw [tak_is HW.out hx HM.out.1] at htk1
    have hs := tkAt_spot HW.out hx HM.out.1
    have h6 := spot_six HW.out HM.out.1 hs
    have hwk : (let r := stepW L args ans ticks (tkAt L x).1 (tkAt L x).2 st got; if r.1.how ≠ [] then r.1 else walkL L args ans ticks (most - (q + 1)) r.2.2 r.1 r.2.1) = goal := by
     have h := HM.out.2.2.2
     rw [show most - q = (most - (q + 1)) + 1 by omega] at h
     exact h
    have hfst := fun (m : Nat) (hm : m < (tkAt L x).2) => way_first HW.out hx HM.out.1 hs hm
    generalize tkAt L x = sp at *
    obtain ⟨j, k⟩ := sp
    dsimp only at htk1 hs h6 hwk hfst
    obtain ⟨hj, _, hkl⟩ := spot_low hs HLW.out
    have hnd : ndAt L (j : Int) = L[j] := by simp [ndAt, hj]
    have HTK := hidX htk1
    have HS := hidX hs
    have H6 := hidX h6
    have HWK := hidX hwk
    have HFST := hidX hfst
    have HND := hidX hnd
    have hj' : (j : Int) < (L.length : Int) := by omega
    clear htk1 hs h6 hwk hfst hgx
    go_wp2_with fail
    refine HTK.out.mono ?_
    rintro e W1 ⟨v1, rfl, hl1⟩
    obtain ⟨lad, lcap, rfl⟩ := own_is hl1.own
    obtain ⟨g1, off1, e1, hg1, kc⟩ := (xrow_own hl1.own).nat (l := [j]) (k := 0) (by simp)
    subst e1
    have kc' : W1.cell? ⟨g1, off1, none⟩ = some (.int .i64 (j : Int)) := by simpa using kc
    have hb1 := hl1.low
    have hJ1 := HJ.out.below (hb1.mono (Nat.le_of_lt hzr))
    have hz1 := hb1.size
    have hD1 := HD.out.1.keep hb1.size (fun k hk => hb1.block k (hk.elim (fun e => by omega) (fun e => (HD.out.1.sl k e).1)))
    have hF1 := bl_trans HF.out HF.out.size hb1
    have hgx1 := (hF1.block _ hgbl).trans HX0.out
    have m2 : W1.cell? ⟨w.heap.size, 2, none⟩ = some (.slice ad L.length cap) := cell_of_blk hgx1 2
    obtain ⟨g, off, ad1, cap1, e2, hg, _, hr, k0, k1, k2, k3⟩ := hJ1.gr.node hj
    subst e2
    have hgl : g < W1.heap.size := by have : g < w.heap.size := hg; omega
    obtain ⟨X2, hX2⟩ : ∃ X2, X2 = W1.alloc (.cells #[.string ⟨L[j].kind.toArray⟩, .slice ad1 L[j].ins.length cap1, .int .i64 L[j].num, .string ⟨L[j].name.toArray⟩] 54) := ⟨_, rfl⟩
    have hb2 : Below W1.heap.size W1 X2 := by rw [hX2]; (repeat (first | exact Below.refl _ _ | assumption | refine Below.drew ?_ | refine bT ?_ _ | refine bS ?_ _ | refine bA ?_ _))
    have hx2 : X2.heap[W1.heap.size]? = some (.cells #[.string ⟨L[j].kind.toArray⟩, .slice ad1 L[j].ins.length cap1, .int .i64 L[j].num, .string ⟨L[j].name.toArray⟩] 54 (0, 0)) := by rw [hX2]; exact heap_alloc_new _ _
    have hz2 : W1.heap.size < X2.heap.size := heap_lt hx2
    have HJ2 := hidX (hJ1.below (hb2.mono (by omega)))
    have HD2 := hidX (And.intro (hD1.keep hb2.size (fun k hk => hb2.block k (hk.elim (fun e => by omega) (fun e => (hD1.sl k e).1)))) HD.out.2)
    have HF2 := hidX (bl_trans hF1 hF1.size hb2)
    have HX2 := hidX hx2
    have HROW := hidX (show XRow (InH w) X2 (.slice ad1 L[j].ins.length cap1) L[j].ins.length (intsG L[j].ins) from hr.imp (fun _ h => h) (fun b hb => hb2.block b (by have : b < w.heap.size := hb; omega)))
    have hlj : L[j].ins.length ≤ 1000 := (HLW.out _ (List.getElem_mem hj)).ins
    rw [hnd] at hkl
    have hlj' : (L[j].ins.length : Int) ≤ 1000 := by omega
    have HASKV := hidX (askL_val HW.out HS.out)
    have HASKB := hidX (fun v hv => askL_bnd HW.out HS.out v hv)
    have HONE := hidX (show (L[j].kind = gIf ∨ L[j].kind = gPrint ∨ L[j].kind = gReturn) → L[j].ins.length = 2 from fun hk => by
     have fl := fits_len (HW.out.node.at (ndAt_ex hj)).fits
     rw [hnd] at fl
     rcases hk with hk | hk | hk
     ·exact fl.2.2.2.2.2.2.2.1 hk
     ·exact fl.2.2.2.2.2.2.2.2.2.2.2.1 hk
     ·exact fl.2.2.2.2.2.2.2.2.2.2.2.2.2 hk)
    have hor2 : wb < X2.heap.size ∧ ga < X2.heap.size ∧ ha < X2.heap.size ∧ sa < X2.heap.size ∧ ka < X2.heap.size := by omega
    clear hl1 hb1 hJ1 hD1 hF1 hgx1 hb2 hx2 hr kc HJ HD HF HTK
    by_cases hreg : L[j].kind = gRegion
    ·as_aux_lemma =>
      have t0 : (L[j].kind == [114, 101, 103, 105, 111, 110]) = true := by rw [hreg]; decide
      have hask : askL L j k = ((List.range L.length).filter (phiOf L j)).map (fun (q : Nat) => (ndAt L (q : Int)).ins.getD (1 + k) 0) := by unfold askL; rw [HND.out, if_pos hreg]
      rw [hask] at HASKV HASKB
      have HWK2 := hidX (show (let r := (match askX (valOf L args got) (natL (((List.range L.length).filter (phiOf L j)).map (fun (q : Nat) => (ndAt L (q : Int)).ins.getD (1 + k) 0))) with | none => ({ st with how := hStuck }, got, 0) | some vs => stepAt L ans ticks j vs st got : Rst × (Nat → Option Int) × Nat); if r.1.how ≠ [] then r.1 else walkL L args ans ticks (most - (q + 1)) r.2.2 r.1 r.2.1) = goal from by
       have h := HWK.out
       unfold stepW at h
       rw [hask] at h
       exact h)
      have HSB := hidX HD2.out.2
      obtain ⟨ii0, hii, iz0, iz1, iz2⟩ := info_parts int_info
      have HREG := hidX hreg
      obtain ⟨nj, hsp1, hsp2, hsp3⟩ := HS.out
      have hnj : nj = L[j] := by rw [List.getElem?_eq_getElem hj] at hsp1; injection hsp1 with h; exact h.symm
      subst hnj
      have HKV := hidX (show L[j].ins[k]? = some (x : Int) from hsp3)
      have hxl : (x : Int) < (L.length : Int) := by omega
      generalize hnn : L[j] = n at *
      clear hreg hask HWK hnd hsp1 hsp2 hsp3 hnn
      go_wp2_with fail
      rw [← hX2]
      clear hX2 k0 k1 k2 k3 m2 kc' c0 c1 c2
      go_loopw [19] (fun v19 wr => ∃ (m : Nat), v19 = .int .i64 (m : Int) ∧ m ≤ k ∧ Hid (wr = X2)) (fun v19 _ => k - (intOf v19).toNat)
      case atStart => exact ⟨0, rfl, Nat.zero_le _, rfl⟩
      case round =>
       obtain ⟨m, rfl, hmk, HWR⟩ := hrel
       have hwr := HWR.out
       subst hwr
       have n1 : wr.cell? ⟨W1.heap.size, 1, none⟩ = some (.slice ad1 n.ins.length cap1) := cell_of_blk HX2.out 1
       have hmi : m < n.ins.length := by omega
       have hmi' : (m : Int) < (n.ins.length : Int) := by omega
       obtain ⟨gi, offi, e3, hgi, kx⟩ := HROW.out.int hmi
       subst e3
       by_cases hmk2 : m < k
       ·have hne : ¬ n.ins[m] = (x : Int) := fun e => by
         have h := HFST.out m hmk2
         rw [HND.out, List.getElem?_eq_getElem hmi, e] at h
         exact h rfl
        have hne' : (n.ins[m] == (x : Int)) = false := by simpa using hne
        generalize n.ins[m] = y at *
        clear hne
        go_wp2
        go_roundw
        case rel => exact ⟨m + 1, by go_num, by omega, by first | rfl | trivial⟩
        case measure => simp [intOf]; omega
       ·have hmk3 : m = k := by omega
        subst hmk3
        have hxe : n.ins[m] = (x : Int) := by have h := HKV.out; rw [List.getElem?_eq_getElem hmi] at h; injection h
        rw [hxe] at kx
        clear hxe hmk2
        go_wp2_with fail
        obtain ⟨X2, hX2e⟩ : ∃ Y, Y = wr := ⟨_, rfl⟩
        subst hX2e
        have HWK5 := hidX (show (let r := (match askX (valOf L args got) (asP L m (phL L j L.length)) with | none => ({ st with how := hStuck }, got, 0) | some vs => stepAt L ans ticks j vs st got : Rst × (Nat → Option Int) × Nat); if r.1.how ≠ [] then r.1 else walkL L args ans ticks (most - (q + 1)) r.2.2 r.1 r.2.1) = goal from HWK2.out)
        have HASV := hidX (show ∀ v ∈ asP L m (phL L j L.length), v < L.length ∧ valueK (ndAt L v).kind from HASKV.out)
        have HASB := hidX (show ∀ p, p ∈ phL L j L.length → 1 + m < (ndAt L (p : Int)).ins.length ∧ 0 ≤ (ndAt L (p : Int)).ins.getD (1 + m) 0 from fun p hp => ⟨(phis_len HW.out HS.out hp).2, (HASKB.out _ (List.mem_map.2 ⟨p, hp, rfl⟩)).1⟩)
        clear HWK2 HASKV HASKB HWR hmk hkl HKV HFST kx n1 hmi hmi' HROW HX2 hgi HONE
        go_loopw [20, 21, 22] (fun v20 v21 v22 wr => ∃ (i : Nat) (vs : List Int) (pv vv : Value), v20 = pv ∧ v21 = vv ∧ v22 = .int .i64 (i : Int) ∧ i ≤ L.length ∧ Hid (askX (valOf L args got) (asP L m (phL L j i)) = some vs) ∧ Hid (wr.ownsRow X2.heap.size 3 1 pv (phL L j i).length (intsG (intP (phL L j i)))) ∧ Hid (wr.ownsRow X2.heap.size 3 1 vv vs.length (intsG vs)) ∧ Hid (∀ b, pv.ownBlock = some b → vv.ownBlock ≠ some b) ∧ Hid (RwJ (InH w) W.heap.size wr wb ga ha sa ka nm P (.slice (some ⟨g, off, none⟩) L.length cap) (.slice aad args.length acap) L args got) ∧ Hid (ButP (fun k => k = sa ∨ k = ka) X2 wr)) (fun _ _ v22 _ => L.length - (intOf v22).toNat)
        case atStart => exact ⟨0, [], _, _, rfl, rfl, rfl, Nat.zero_le _, rfl, World.ownsRow_nil _ _ _ _, World.ownsRow_nil _ _ _ _, (fun b h => by cases h), HJ2.out, ⟨rfl, rfl, rfl, Nat.le_refl _, fun _ _ _ => rfl⟩⟩
        case round =>
         obtain ⟨i, vs, pv, vv, hpv, hvv, rfl, hil, HAX, HOP, HOW, HNE, HJR, HBR⟩ := hrel
         subst hpv hvv
         obtain ⟨pad, pcap, rfl⟩ := own_is HOP.out
         obtain ⟨vad, vcap, rfl⟩ := own_is HOW.out
         have hzb := HBR.out.size
         by_cases hlt : i < L.length
         ·have hlt' : (i : Int) < (L.length : Int) := by omega
          have hgx := (HBR.out.block _ (by have := HF2.out.size; omega) (by have := HZ0.out; omega)).trans ((HF2.out.block _ hgbl).trans HX0.out)
          have c2 : wr.cell? ⟨w.heap.size, 2, none⟩ = some (.slice (some ⟨g, off, none⟩) L.length cap) := cell_of_blk hgx 2
          obtain ⟨g', off', ad3, cap3, e3, _, _, hr, k0, k1, _, _⟩ := HJR.out.gr.node hlt
          injection e3 with e3
          injection e3 with e4 e5
          subst e4 e5
          have hnd : ndAt L (i : Int) = L[i] := by simp [ndAt, hlt]
          have HNI := hidX hnd
          by_cases hph : L[i].kind = gPhi
          ·skip
           have t1 : (L[i].kind == [112, 104, 105]) = true := by rw [hph]; decide
           have hl1 : 0 < L[i].ins.length := by
            have fl := (fits_len (HW.out.node.at (ndAt_ex hlt)).fits).2.2.2.2.2.1
            rw [hnd] at fl
            exact fl hph
           have hl1' : (0 : Int) < (L[i].ins.length : Int) := by omega
           obtain ⟨gq, offq, e6, hgq, kq0⟩ := hr.int hl1
           have kq : wr.cell? ⟨gq, offq, none⟩ = some (.int .i64 L[i].ins[0]) := kq0
           clear kq0
           by_cases h0 : L[i].ins[0] = (j : Int)
           ·have hpt : phiOf L j i = true := by unfold phiOf; rw [hnd]; simp [hph, h0, List.getElem?_eq_getElem hl1]
            have hmem := phL_mem hlt hpt
            have hb := HASB.out i hmem
            have hav := HASV.out _ (asP_mem hmem)
            have HSN := hidX (fun v (h : valOf L args got ((ndAt L (i : Int)).ins.getD (1 + m) 0).toNat = some v) => (show askX (valOf L args got) (asP L m (phL L j (i + 1))) = some (vs ++ [v]) from by rw [phL_yes hpt, asP_snoc]; exact askX_snoc HAX.out h))
            have HNO := hidX (fun (h : valOf L args got ((ndAt L (i : Int)).ins.getD (1 + m) 0).toNat = none) => askX_mem_none (res := valOf L args got) (asP_mem (L := L) (m := m) hmem) h)
            have HPY := hidX (phL_yes hpt)
            rw [hnd] at hb hav HSN HNO
            have hb1 := hb.1
            have hb1' : 1 + (m : Int) < (L[i].ins.length : Int) := by omega
            obtain ⟨gq2, offq2, e7, _, kq2⟩ := hr.int hb1
            have hgt : L[i].ins[1 + m] = ((L[i].ins.getD (1 + m) 0).toNat : Int) := by
             rw [Int.toNat_of_nonneg hb.2]; simp [hb1]
            rw [hgt] at kq2
            rw [e6] at e7
            injection e7 with e7
            injection e7 with e8 e9
            subst e8 e9
            subst e6
            rw [h0] at kq
            have hvl : vs.length ≤ 1000 := by have h1 := askX_len HAX.out; rw [asP_len] at h1; have h2 := phL_le (L := L) (j := j) (i := i); omega
            have hpl : (phL L j i).length ≤ 1000 := by have h2 := phL_le (L := L) (j := j) (i := i); omega
            generalize (L[i].ins.getD (1 + m) 0).toNat = i0 at *
            have HVAL := hidX (value_any HW.out HLW.out HAL.out HAG.out HM.out.2.2.1 (rkM L i0 + 1) i0 (by omega) hav.1 hav.2 wr HJR.out (by omega))
            generalize L[i] = y at *
            clear hgt hb hmem hpt hnd hgx hph h0 hav hr
            go_wp2_with fail
            refine HVAL.out.mono ?_
            rintro e W5 ⟨hJ5, hb5, v5, rfl, hv5⟩
            have HB5 := hidX (HBR.out.trans hb5 (fun _ h => Or.inl h))
            have hz5 := hb5.size
            cases hr5 : valOf L args got i0 with
            | none =>
             have HNN := hidX (HNO.out hr5)
             simp only [hr5, Option.isSome_none] at hv5 ⊢
             clear hJ5 hb5 hv5 hr5 HNO HSN HVAL kq kq2 k0 k1 c2
             have hzw : w.heap.size + 1 < W.heap.size := by have := HZ0.out; have := HZW.out; omega
             have hDy : DnJ S W5 W.heap.size st (.slice oad st.out.length ocap) (.slice cad st.calls.length ccap) xs := HD2.out.1.keep HB5.out.size (fun k hk => HB5.out.block k (hk.elim (fun e => by omega) (fun e => (HD2.out.1.sl k e).1)) (hk.elim (fun e => by omega) (fun e => by have := HD2.out.2 k e; omega)))
             have hFy : Below W0.heap.size W0 W5 := ⟨HB5.out.os.trans HF2.out.os, HB5.out.tape.trans HF2.out.tape, HB5.out.output.trans HF2.out.output, Nat.le_trans HF2.out.size HB5.out.size, fun k hk => (HB5.out.block k (by have := HF2.out.size; omega) (by omega)).trans (HF2.out.block k hk)⟩
             have HDY := hidX hDy
             have HFY := hidX hFy
             clear hDy hFy
             have HEND := hidX (show ({ st with how := hStuck } : Rst) = goal from by
              have h := HWK5.out
              rw [HNN.out] at h
              dsimp only at h
              rw [if_pos (show hStuck ≠ [] by decide)] at h
              exact h)
             have hrx := (HFY.out.block _ (by have := HZ0.out; omega)).trans HX1.out
             have y0 := cell_of_blk HDY.out.blk 0
             have y1 := cell_of_blk HDY.out.blk 1
             have g0 := free_of_blk HDY.out.blk 0
             have g1 := free_of_blk HDY.out.blk 1
             have hne1 : w.heap.size + 1 ≠ W.heap.size := by omega
             have hne2 : W.heap.size ≠ w.heap.size + 1 := by omega
             have hDe := HDY.out.set (s' := { st with how := hStuck }) rfl rfl 0 (.string ⟨#[115, 116, 117, 99, 107]⟩) rfl
             have hbe : Below W0.heap.size W0 (W5.setCell ⟨W.heap.size, 0, none⟩ (.string ⟨#[115, 116, 117, 99, 107]⟩)) := (HFY.out.setCell (p := ⟨W.heap.size, 0, none⟩) (by show W0.heap.size ≤ W.heap.size; have := HZW.out; omega) (.string ⟨#[115, 116, 117, 99, 107]⟩))
             have hrx2 : (W5.setCell ⟨W.heap.size, 0, none⟩ (.string ⟨#[115, 116, 117, 99, 107]⟩)).heap[w.heap.size + 1]? = _ := ((Below.heap_setCell _ _ _ _ hne1).trans hrx)
             obtain ⟨YE, hYE⟩ : ∃ YE, YE = (W5.setCell ⟨W.heap.size, 0, none⟩ (.string ⟨#[115, 116, 117, 99, 107]⟩)) := ⟨_, rfl⟩
             rw [← hYE] at hDe hbe hrx2
             obtain ⟨i0, i1, i2, i3, i4⟩ := cells5 hrx2
             obtain ⟨f0, f1, f2, f3, f4⟩ := free5 hrx2
             have j0 : YE.cell? ⟨W.heap.size, 0, none⟩ = some (.string ⟨#[115, 116, 117, 99, 107]⟩) := cell_of_blk hDe.blk 0
             have j1 : YE.cell? ⟨W.heap.size, 1, none⟩ = some (.int .i64 st.val) := cell_of_blk hDe.blk 1
             have j2 : YE.cell? ⟨W.heap.size, 2, none⟩ = some (.slice oad st.out.length ocap) := cell_of_blk hDe.blk 2
             have j3 : YE.cell? ⟨W.heap.size, 3, none⟩ = some (.int .i64 st.tks) := cell_of_blk hDe.blk 3
             have j4 : YE.cell? ⟨W.heap.size, 4, none⟩ = some (.slice cad st.calls.length ccap) := cell_of_blk hDe.blk 4
             have HDE := hidX hDe
             have HBE := hidX hbe
             have HRX := hidX hrx2
             have HSE := hidX (fun b hb => (show b ≠ w.heap.size + 1 from by have := HSB.out b hb; omega))
             have HNW := hidX (fun b hb => (show w.heap.size ≤ b from by have := HSB.out b hb; omega))
             clear hDe hbe hrx hrx2
             go_wp2_with (rw [← hYE]; clear hYE y0 y1 g0 g1)
             have hx := set5_blk HRX.out (.string ⟨#[115, 116, 117, 99, 107]⟩) (.int .i64 st.val) (.slice oad st.out.length ocap) (.int .i64 st.tks) (.slice cad st.calls.length ccap)
             have hlew : w.heap.size ≤ w.heap.size + 1 := by omega
             have hbw : Below w.heap.size w YE := bl_trans HB0.out HB0.out.size HBE.out
             have hbf := ((((hbw.setCell (p := ⟨w.heap.size + 1, 0, none⟩) (by exact hlew) (.string ⟨#[115, 116, 117, 99, 107]⟩)).setCell (p := ⟨w.heap.size + 1, 1, none⟩) (by exact hlew) (.int .i64 st.val)).setCell (p := ⟨w.heap.size + 1, 2, none⟩) (by exact hlew) (.slice oad st.out.length ocap)).setCell (p := ⟨w.heap.size + 1, 3, none⟩) (by exact hlew) (.int .i64 st.tks)).setCell (p := ⟨w.heap.size + 1, 4, none⟩) (by exact hlew) (.slice cad st.calls.length ccap)
             refine ret_row (w.heap.size + 1) 10 _ 44 rfl rfl hx Tryz.underlying44 (by kernel_rfl) ⟨hbf, _, rfl, ?_⟩
             rw [← HEND.out]
             exact doneR_of HDE.out (fun k hk => by
              have h := HSE.out k hk
              rw [Below.heap_setCell _ _ _ _ h, Below.heap_setCell _ _ _ _ h, Below.heap_setCell _ _ _ _ h, Below.heap_setCell _ _ _ _ h, Below.heap_setCell _ _ _ _ h]) (by simp [World.setCell]) (fun k hk => HNW.out k hk)
            | some v =>
             have hvv5 := hv5 v hr5
             subst hvv5
             have HSNV := hidX (HSN.out _ hr5)
             have HV5 := hidX (own_same HOW.out (fun b e => hb5.block b (HOW.out.lt b e).2 (by have := (HOW.out.lt b e).1; omega)))
             have HP5 := hidX (own_same HOP.out (fun b e => hb5.block b (HOP.out.lt b e).2 (by have := (HOP.out.lt b e).1; omega)))
             have HJ5 := hidX hJ5
             simp only [Option.isSome_some]
             clear hJ5 hb5 hv5 hr5 HNO HSN HVAL kq kq2 k0 k1 c2
             go_wp2_with (first | (at_builtin; refine wpList_append_lies _ rfl _ _ 40 rfl X2.heap.size 3 ii0 _ 1 8 Tryz.underlying40 hii iz0 iz1 iz2 rfl (by decide) (.slice pad (phL L j i).length pcap) (phL L j i).length ((fun z => intsG (intP z)) (phL L j i)) rfl (owns_below HP5.out (box_blk _ _ _)) ⟨W5.heap.size, 0, none⟩ 1 1 [.int .i64 (i : Int)] rfl rfl (World.news_of_block (heap_alloc_new W5 _)) (int_one _) (by decide) (by unfold maxLen; omega) (by omega) (by simp; omega) _ rfl ?_; intro g6 cap6 W6 ho6 hg6 hl6 _; have hz6 : W5.heap.size < W6.heap.size := (by have h := hg6.size; simp at h; omega); have HV6 := hidX (own_same HV5.out (fun b e => (hg6.block b (by have := (HV5.out.lt b e).2; simp; omega) (fun e9 => HNE.out b e9.symm e)).trans (Below.heap_alloc _ _ _ (HV5.out.lt b e).2))); have HO6 := hidX ho6; have HG6 := hidX hg6; have HL6 := hidX hl6; clear ho6 hg6 hl6) | (at_builtin; refine wpList_append_lies _ rfl _ _ 40 rfl X2.heap.size 3 ii0 _ 1 8 Tryz.underlying40 hii iz0 iz1 iz2 rfl (by decide) (.slice vad vs.length vcap) vs.length (intsG vs) rfl (owns_below HV6.out (box_blk _ _ _)) ⟨W6.heap.size, 0, none⟩ 1 1 [.int .i64 v5] rfl rfl (World.news_of_block (heap_alloc_new W6 _)) (int_one _) (by decide) (by unfold maxLen; omega) (by omega) (by simp; omega) _ rfl ?_; intro g7 cap7 W7 ho7 hg7 hl7 _; have HO7 := hidX ho7; have HG7 := hidX hg7; have HL7 := hidX hl7; clear ho7 hg7 hl7))
             have hs6 : (W5.alloc (.cells #[.int .i64 (i : Int)] 3)).heap.size = W5.heap.size + 1 := by simp
             have hs7 : (W6.alloc (.cells #[.int .i64 v5] 3)).heap.size = W6.heap.size + 1 := by simp
             have hz7 : W6.heap.size < W7.heap.size := by have h := HG7.out.size; omega
             have hob6 : ∀ b, b < W5.heap.size → (Value.slice pad (phL L j i).length pcap).ownBlock ≠ some b → W6.heap[b]? = W5.heap[b]? := fun b hb hne => (HG6.out.block b (by omega) (fun e => hne e.symm)).trans (Below.heap_alloc _ _ _ hb)
             have hob7 : ∀ b, b < W6.heap.size → (Value.slice vad vs.length vcap).ownBlock ≠ some b → W7.heap[b]? = W6.heap[b]? := fun b hb hne => (HG7.out.block b (by omega) (fun e => hne e.symm)).trans (Below.heap_alloc _ _ _ hb)
             have hlp : ∀ b, (Value.slice pad (phL L j i).length pcap).ownBlock = some b → X2.heap.size ≤ b ∧ b < W5.heap.size := fun b e => HP5.out.lt b e
             have hlv : ∀ b, (Value.slice vad vs.length vcap).ownBlock = some b → X2.heap.size ≤ b ∧ b < W5.heap.size := fun b e => HV5.out.lt b e
             have h67 : (Value.slice vad vs.length vcap).ownBlock ≠ some g6 := fun e => by
              rcases HL6.out with h | h
              ·exact HNE.out g6 h e
              ·have := (hlv g6 e).2; omega
             have hg6 : g6 < W6.heap.size := (HO6.out.lt g6 rfl).2
             have HNE7 := hidX (show ∀ b, (Value.slice (some ⟨g6, 0, none⟩) ((phL L j i).length + 1) cap6).ownBlock = some b → (Value.slice (some ⟨g7, 0, none⟩) (vs.length + 1) cap7).ownBlock ≠ some b from fun b e1 e2 => by
              simp only [Value.ownBlock, Option.some.injEq] at e1 e2
              have e3 : g7 = g6 := e2.trans e1.symm
              rcases HL7.out with h | h
              ·rw [e3] at h; exact h67 h
              ·omega)
             have HP7 := hidX (show W7.ownsRow X2.heap.size 3 1 (.slice (some ⟨g6, 0, none⟩) ((phL L j i).length + 1) cap6) (phL L j (i + 1)).length (intsG (intP (phL L j (i + 1)))) from by
              rw [HPY.out, intP_snoc, List.length_append]
              exact own_same HO6.out (fun b e => hob7 b (HO6.out.lt b e).2 (fun e2 => by
               simp only [Value.ownBlock, Option.some.injEq] at e
               rw [← e] at e2
               exact h67 e2)))
             have HV7 := hidX (show W7.ownsRow X2.heap.size 3 1 (.slice (some ⟨g7, 0, none⟩) (vs.length + 1) cap7) (vs ++ [v5]).length (intsG (vs ++ [v5])) from by
              rw [List.length_append, show intsG (vs ++ [v5]) = intsG vs ++ [.int .i64 v5] by simp [intsG]]
              exact HO7.out)
             have hob : ∀ b, b < X2.heap.size → W7.heap[b]? = W5.heap[b]? := fun b hb => (hob7 b (by omega) (fun e => by have := (hlv b e).1; omega)).trans (hob6 b (by omega) (fun e => by have := (hlp b e).1; omega))
             have HJ7 := hidX (HJ5.out.keep (fun b hb => hob b (by omega)))
             have HB7 := hidX (show ButP (fun k => k = sa ∨ k = ka) X2 W7 from ⟨HG7.out.os.trans (HG6.out.os.trans HB5.out.os), HG7.out.tape.trans (HG6.out.tape.trans HB5.out.tape), HG7.out.output.trans (HG6.out.output.trans HB5.out.output), by omega, fun b hb hS => (hob b hb).trans (HB5.out.block b hb hS)⟩)
             clear hob hob6 hob7 hlp hlv h67 HG6 HG7 HL6 HL7
             go_roundw
             case rel => exact ⟨i + 1, vs ++ [v5], _, _, rfl, rfl, by go_num, by omega, HSNV.out, HP7.out, HV7.out, HNE7.out, HJ7.out, HB7.out⟩
             case measure => simp [intOf]; omega
           ·have hpf : phiOf L j i = false := by unfold phiOf; rw [hnd]; simp [h0, List.getElem?_eq_getElem hl1]
            have t2 : (L[i].ins[0] == (j : Int)) = false := by simpa using h0
            have HAX2 := hidX (show askX (valOf L args got) (asP L m (phL L j (i + 1))) = some vs from by rw [phL_no hpf]; exact HAX.out)
            have HOP2 := hidX (show wr.ownsRow X2.heap.size 3 1 (.slice pad (phL L j i).length pcap) (phL L j (i + 1)).length (intsG (intP (phL L j (i + 1)))) from by rw [phL_no hpf]; exact HOP.out)
            subst e6
            generalize L[i].ins[0] = y0 at *
            generalize L[i] = y at *
            clear hpf hnd hgx hph h0
            go_wp2_with fail
            go_roundw
            case rel => exact ⟨i + 1, vs, _, _, rfl, rfl, by go_num, by omega, HAX2.out, HOP2.out, HOW.out, HNE.out, HJR.out, HBR.out⟩
            case measure => simp [intOf]; omega
          ·have hpf : phiOf L j i = false := by unfold phiOf; rw [hnd]; simp [hph]
           have t1 : (L[i].kind == [112, 104, 105]) = false := ne_lit hph
           have HAX2 := hidX (show askX (valOf L args got) (asP L m (phL L j (i + 1))) = some vs from by rw [phL_no hpf]; exact HAX.out)
           have HOP2 := hidX (show wr.ownsRow X2.heap.size 3 1 (.slice pad (phL L j i).length pcap) (phL L j (i + 1)).length (intsG (intP (phL L j (i + 1)))) from by rw [phL_no hpf]; exact HOP.out)
           generalize L[i] = y at *
           clear hpf hnd hgx hph
           go_wp2_with fail
           go_roundw
           case rel => exact ⟨i + 1, vs, _, _, rfl, rfl, by go_num, by omega, HAX2.out, HOP2.out, HOW.out, HNE.out, HJR.out, HBR.out⟩
           case measure => simp [intOf]; omega
         ·have hin : i = L.length := by omega
          subst hin
          have HEQ := hidX (show phisOf L j = phL L j L.length from rfl)
          have HSUB := hidX (fun p (hp : p ∈ phL L j L.length) => phL_lt hp)
          have hvl : vs.length = (phL L j L.length).length := by have h1 := askX_len HAX.out; rw [asP_len] at h1; exact h1
          have H64 := hidX (show Got64 (setVs got ((phL L j L.length).zip vs)) from setVs64 HM.out.2.2.1 (zip64 (ask64 (fun i v h => valOf64 HLW.out HAG.out HM.out.2.2.1 h) HAX.out)))
          have HNX := hidX (show walkL L args ans ticks (most - (q + 1)) j st (setVs got ((phL L j L.length).zip vs)) = goal from by
           have h := HWK5.out
           rw [HAX.out] at h
           dsimp only at h
           have hat : stepAt L ans ticks j vs st got = (st, setVs got ((phL L j L.length).zip vs), j) := by
            unfold stepAt
            rw [HND.out, if_pos HREG.out, HEQ.out]
           rw [hat] at h
           dsimp only at h
           rw [if_neg (by rw [HM.out.2.1]; simp)] at h
           exact h)
          have HWAY := hidX (show isWay (ndAt L (j : Int)).kind from by rw [HND.out, HREG.out]; exact rest_way (Or.inl rfl))
          have hpl : (phL L j L.length).length ≤ 1000 := by have h2 := phL_le (L := L) (j := j) (i := L.length); omega
          have hpl' : ((phL L j L.length).length : Int) ≤ 1000 := by omega
          have HVL := hidX hvl
          have HH0 := hidX HM.out.2.1
          generalize phL L j L.length = ps at *
          clear hvl HAX HWK5 HASV HASB HEQ hlt
          obtain ⟨X5, hX5⟩ : ∃ Y, Y = wr := ⟨_, rfl⟩
          subst hX5
          have HK0 := hidX HJR.out.toK
          clear HJR HJ2
          go_wp2_with fail
          go_loopw [25] (fun v25 wr => ∃ (t : Nat), v25 = .int .i64 (t : Int) ∧ t ≤ ps.length ∧ Hid (RwK (InH w) W.heap.size wr wb ga ha sa ka nm P (.slice (some ⟨g, off, none⟩) L.length cap) (.slice aad args.length acap) L args (setVs got ((ps.zip vs).take t))) ∧ Hid (ButP (fun k => k = ga ∨ k = ha) X5 wr)) (fun v25 _ => ps.length - (intOf v25).toNat)
          case atStart => exact ⟨0, rfl, Nat.zero_le _, by rw [List.take_zero]; exact HK0.out, ⟨rfl, rfl, rfl, Nat.le_refl _, fun _ _ _ => rfl⟩⟩
          case round =>
           obtain ⟨t, rfl, htl, HKR, HB6⟩ := hrel
           have hlo2 := HKR.out.lo
           have hz6 := HB6.out.size
           by_cases htl2 : t < ps.length
           ·have htl2' : (t : Int) < (ps.length : Int) := by omega
            have htv : t < vs.length := by have := HVL.out; omega
            have htv' : (t : Int) < (vs.length : Int) := by omega
            have hOPr := own_same HOP.out (w' := wr) (fun b e => HB6.out.block b (HOP.out.lt b e).2 (by have := (HOP.out.lt b e).1; omega))
            have hOWr := own_same HOW.out (w' := wr) (fun b e => HB6.out.block b (HOW.out.lt b e).2 (by have := (HOW.out.lt b e).1; omega))
            obtain ⟨gp, offp, e1, _, hgp, h3⟩ := (xrow_own hOPr).get (by omega)
            have kp := h3 t _ (intP_at htl2)
            obtain ⟨gv, offv, e2, hgv, kv⟩ := (xrow_own hOWr).int (k := t) htv
            subst e1 e2
            have HSN := hidX (setVs_snoc (g := got) (ps := ps) (vs := vs) htl2 htv)
            have hpL : ps[t] < L.length := HSUB.out _ (List.getElem_mem htl2)
            have hpL' : ((ps[t] : Nat) : Int) < (L.length : Int) := by omega
            have hK := HKR.out
            obtain ⟨gs, hs, z1, z2, z3, z4, _⟩ := hK.gots
            have w4 : wr.cell? ⟨wb, 4, none⟩ = some (rowV ga L.length) := cell_of_blk hK.blk 4
            have w5 : wr.cell? ⟨wb, 5, none⟩ = some (rowV ha L.length) := cell_of_blk hK.blk 5
            generalize ps[t] = p at *
            generalize vs[t] = v at *
            obtain ⟨y0, w6⟩ : ∃ y, wr.cell? ⟨ga, p, none⟩ = some y := ⟨_, by rw [cell_of_blk z1, List.getElem?_toArray, ints_at (by omega)]⟩
            have w6f := free_of_blk z1 p
            obtain ⟨y1, w7⟩ : ∃ y, wr.cell? ⟨ha, p, none⟩ = some y := ⟨_, by rw [cell_of_blk z2, List.getElem?_toArray, bools_at (by omega)]⟩
            have w7f := free_of_blk z2 p
            have HPUT := hidX (hK.put p v)
            have hneg : ga ≠ ha ∧ ha ≠ ga ∧ wb ≠ ga ∧ ga ≠ wb ∧ wb ≠ ha := by omega
            obtain ⟨hn1, hn2, hn3, hn4, hn5⟩ := hneg
            have hnp : gp ≠ ga ∧ ga ≠ gp ∧ gv ≠ ga ∧ ga ≠ gv := by have := hgp.1; have := hgv.1; omega
            obtain ⟨hn6, hn7, hn8, hn9⟩ := hnp
            clear hK z1 z2 z3 z4 hOPr hOWr h3 HKR
            go_wp2_with fail
            go_region
            all_goals (
             go_wp2_with fail
             go_region
             all_goals (
              go_wp2_with fail
              go_roundw
              case rel => exact ⟨t + 1, by go_num, by omega, by unfold Hid; rw [HSN.out]; exact HPUT.out.1.keep (fun _ _ => rfl), ⟨HPUT.out.2.os.trans HB6.out.os, HPUT.out.2.tape.trans HB6.out.tape, HPUT.out.2.output.trans HB6.out.output, Nat.le_trans HB6.out.size HPUT.out.2.size, fun k hk hS => (HPUT.out.2.block k (by omega) hS).trans (HB6.out.block k hk hS)⟩⟩
              case measure => simp [intOf]; omega))
           ·have hte : t = ps.length := by omega
            subst hte
            have hkz := HKR.out
            rw [setVs_all HVL.out] at hkz
            have HKZ := hidX hkz
            clear HKR hkz
            go_wp2_with fail
            refine (forget_rw (X := wr) HKZ.out (by omega) hL).mono ?_
            rintro e W9 ⟨rfl, hJ9, hb9⟩
            have HJ9 := hidX hJ9
            have hz9 : wr.heap.size ≤ W9.heap.size := hb9.size
            have hfr : ∀ k, k < X2.heap.size → k ≠ ga → k ≠ ha → k ≠ sa → k ≠ ka → W9.heap[k]? = X2.heap[k]? := fun k h1 h2 h3 h4 h5 => (hb9.block k (by omega) h5).trans ((HB6.out.block k (by omega) (fun e => e.elim h2 h3)).trans (HBR.out.block k h1 (fun e => e.elim h4 h5)))
            have HD9 := hidX (And.intro (HD2.out.1.keep (by omega) (fun k hk => hfr k (hk.elim (fun e => by omega) (fun e => (HD2.out.1.sl k e).1)) (hk.elim (fun e => by omega) (fun e => by have := HD2.out.2 k e; omega)) (hk.elim (fun e => by omega) (fun e => by have := HD2.out.2 k e; omega)) (hk.elim (fun e => by omega) (fun e => by have := HD2.out.2 k e; omega)) (hk.elim (fun e => by omega) (fun e => by have := HD2.out.2 k e; omega)))) HD2.out.2)
            have HF9 := hidX (show Below W0.heap.size W0 W9 from ⟨hb9.os.trans (HB6.out.os.trans (HBR.out.os.trans HF2.out.os)), hb9.tape.trans (HB6.out.tape.trans (HBR.out.tape.trans HF2.out.tape)), hb9.output.trans (HB6.out.output.trans (HBR.out.output.trans HF2.out.output)), by have := HF2.out.size; omega, fun k hk => (hfr k (by have := HF2.out.size; omega) (by omega) (by omega) (by omega) (by omega)).trans (HF2.out.block k hk)⟩)
            have hzw9 : W.heap.size < W9.heap.size := by omega
            have htk9 : 0 ≤ st.tks ∧ st.tks ≤ ((q + 1 : Nat) : Int) := by omega
            clear hJ9 hb9 hfr
            go_wp2
            go_roundg (most - (q + 1) + 1)
            case rel => exact ⟨q + 1, j, st, (setVs got (ps.zip vs)), S, _, _, xs, rfl, by go_num, by omega, by omega, hj, htk9, hol, hzw9, ⟨HWAY.out, HH0.out, H64.out, HNX.out⟩, HJ9.out, HD9.out, HF9.out⟩
            all_goals omega
    ·skip
     have t0 : (L[j].kind == [114, 101, 103, 105, 111, 110]) = false := ne_lit hreg
     have hask : askL L j k = L[j].ins.drop 1 := by unfold askL; rw [HND.out, if_neg hreg]
     rw [hask] at HASKV HASKB
     obtain ⟨al, hal⟩ : ∃ al, al = natL (L[j].ins.drop 1) := ⟨_, rfl⟩
     rw [← hal] at HASKV
     have hall : al.length + 1 = L[j].ins.length := by rw [hal, natL_len, List.length_drop]; omega
     have HALG := hidX (show ∀ m (hm : m < al.length), ∃ h : m + 1 < L[j].ins.length, L[j].ins[m + 1] = ((al[m] : Nat) : Int) from fun m hm => ⟨by omega, by
      have hb := HASKB.out (L[j].ins[m + 1]'(by omega)) (by
       rw [List.mem_iff_getElem?]
       exact ⟨m, by rw [List.getElem?_drop, show 1 + m = m + 1 by omega, List.getElem?_eq_getElem]⟩)
      subst hal
      simp only [natL, List.getElem_map, List.getElem_drop]
      have e : L[j].ins[1 + m]'(by omega) = L[j].ins[m + 1]'(by omega) := by congr 1; omega
      rw [e, Int.toNat_of_nonneg hb.1]⟩)
     have HWK2 := hidX (show (let r := (match askX (valOf L args got) al with | none => ({ st with how := hStuck }, got, 0) | some vs => stepAt L ans ticks j vs st got : Rst × (Nat → Option Int) × Nat); if r.1.how ≠ [] then r.1 else walkL L args ans ticks (most - (q + 1)) r.2.2 r.1 r.2.1) = goal from by
      have h := HWK.out
      unfold stepW at h
      rw [hask, ← hal] at h
      exact h)
     have HSB := hidX HD2.out.2
     obtain ⟨ii0, hii, iz0, iz1, iz2⟩ := info_parts int_info
     have HREG := hidX hreg
     have hall' : (al.length : Int) + 1 = (L[j].ins.length : Int) := by omega
     generalize L[j] = n at *
     clear hreg hask hal HWK HFST HASKB hnd
     go_wp2_with fail
     rw [← hX2]
     clear hX2 k0 k1 k2 k3 m2 kc' c0 c1 c2
     go_loopw [26, 27] (fun v26 v27 wr => ∃ (vs : List Int) (vv : Value), v26 = vv ∧ v27 = .int .i64 ((vs.length + 1 : Nat) : Int) ∧ vs.length ≤ al.length ∧ Hid (askX (valOf L args got) (al.take vs.length) = some vs) ∧ Hid (wr.ownsRow X2.heap.size 3 1 vv vs.length (intsG vs)) ∧ Hid (RwJ (InH w) W.heap.size wr wb ga ha sa ka nm P (.slice (some ⟨g, off, none⟩) L.length cap) (.slice aad args.length acap) L args got) ∧ Hid (ButP (fun k => k = sa ∨ k = ka) X2 wr)) (fun _ v27 _ => al.length + 1 - (intOf v27).toNat)
     case atStart => exact ⟨[], _, rfl, rfl, by simp, rfl, World.ownsRow_nil _ _ _ _, HJ2.out, ⟨rfl, rfl, rfl, Nat.le_refl _, fun _ _ _ => rfl⟩⟩
     case round =>
      obtain ⟨vs, vv, hvv, rfl, hml, HAX, HOW, HJR, HBR⟩ := hrel
      subst hvv
      obtain ⟨vad, vcap, rfl⟩ := own_is HOW.out
      have hzb := HBR.out.size
      have hxr := (HBR.out.block _ hz2 (by omega)).trans HX2.out
      have n1 : wr.cell? ⟨W1.heap.size, 1, none⟩ = some (.slice ad1 n.ins.length cap1) := cell_of_blk hxr 1
      by_cases hlt : vs.length < al.length
      ·have hlt' : ((vs.length + 1 : Nat) : Int) < (n.ins.length : Int) := by omega
       obtain ⟨hmi, hmv⟩ := HALG.out vs.length hlt
       obtain ⟨gi, offi, e3, hgi, kx⟩ := HROW.out.int hmi
       subst e3
       have hgiw : gi < w.heap.size := hgi
       have hgx2 : gi < X2.heap.size := by omega
       have kx' : wr.cell? ⟨gi, offi + (vs.length + 1), none⟩ = some (.int .i64 ((al[vs.length] : Nat) : Int)) := by
        rw [← hmv]
        exact (World.cell?_of_block (a := ⟨gi, _, none⟩) (HBR.out.block gi hgx2 (by have := HZ0.out; omega))).trans kx
       have hav := HASKV.out al[vs.length] (List.getElem_mem hlt)
       have HVAL := hidX (value_any HW.out HLW.out HAL.out HAG.out HM.out.2.2.1 (rkM L al[vs.length] + 1) al[vs.length] (by omega) hav.1 hav.2 wr HJR.out (by omega))
       have HSN := hidX (fun v (h : valOf L args got al[vs.length] = some v) => (show askX (valOf L args got) (al.take (vs.length + 1)) = some (vs ++ [v]) from by rw [List.take_succ_eq_append_getElem hlt]; exact askX_snoc HAX.out h))
       have HNO := hidX (fun h => askX_mem_none (res := valOf L args got) (List.getElem_mem hlt) h)
       generalize al[vs.length] = i0 at *
       clear hmv kx hav hxr
       go_wp2_with fail
       refine HVAL.out.mono ?_
       rintro e W5 ⟨hJ5, hb5, v5, rfl, hv5⟩
       have HB5 := hidX (HBR.out.trans hb5 (fun _ h => Or.inl h))
       have hz5 := hb5.size
       cases hr5 : valOf L args got i0 with
       | none =>
        have HNN := hidX (HNO.out hr5)
        simp only [hr5, Option.isSome_none] at hv5 ⊢
        clear hJ5 hb5 hv5 hr5 HNO HSN HVAL kx' n1
        have hzw : w.heap.size + 1 < W.heap.size := by have := HZ0.out; have := HZW.out; omega
        have hDy : DnJ S W5 W.heap.size st (.slice oad st.out.length ocap) (.slice cad st.calls.length ccap) xs := HD2.out.1.keep HB5.out.size (fun k hk => HB5.out.block k (hk.elim (fun e => by omega) (fun e => (HD2.out.1.sl k e).1)) (hk.elim (fun e => by omega) (fun e => by have := HD2.out.2 k e; omega)))
        have hFy : Below W0.heap.size W0 W5 := ⟨HB5.out.os.trans HF2.out.os, HB5.out.tape.trans HF2.out.tape, HB5.out.output.trans HF2.out.output, Nat.le_trans HF2.out.size HB5.out.size, fun k hk => (HB5.out.block k (by have := HF2.out.size; omega) (by omega)).trans (HF2.out.block k hk)⟩
        have HDY := hidX hDy
        have HFY := hidX hFy
        clear hDy hFy
        have HEND := hidX (show ({ st with how := hStuck } : Rst) = goal from by
         have h := HWK2.out
         rw [HNN.out] at h
         dsimp only at h
         rw [if_pos (show hStuck ≠ [] by decide)] at h
         exact h)
        have hrx := (HFY.out.block _ (by have := HZ0.out; omega)).trans HX1.out
        have y0 := cell_of_blk HDY.out.blk 0
        have y1 := cell_of_blk HDY.out.blk 1
        have g0 := free_of_blk HDY.out.blk 0
        have g1 := free_of_blk HDY.out.blk 1
        have hne1 : w.heap.size + 1 ≠ W.heap.size := by omega
        have hne2 : W.heap.size ≠ w.heap.size + 1 := by omega
        have hDe := HDY.out.set (s' := { st with how := hStuck }) rfl rfl 0 (.string ⟨#[115, 116, 117, 99, 107]⟩) rfl
        have hbe : Below W0.heap.size W0 (W5.setCell ⟨W.heap.size, 0, none⟩ (.string ⟨#[115, 116, 117, 99, 107]⟩)) := (HFY.out.setCell (p := ⟨W.heap.size, 0, none⟩) (by show W0.heap.size ≤ W.heap.size; have := HZW.out; omega) (.string ⟨#[115, 116, 117, 99, 107]⟩))
        have hrx2 : (W5.setCell ⟨W.heap.size, 0, none⟩ (.string ⟨#[115, 116, 117, 99, 107]⟩)).heap[w.heap.size + 1]? = _ := ((Below.heap_setCell _ _ _ _ hne1).trans hrx)
        obtain ⟨YE, hYE⟩ : ∃ YE, YE = (W5.setCell ⟨W.heap.size, 0, none⟩ (.string ⟨#[115, 116, 117, 99, 107]⟩)) := ⟨_, rfl⟩
        rw [← hYE] at hDe hbe hrx2
        obtain ⟨i0, i1, i2, i3, i4⟩ := cells5 hrx2
        obtain ⟨f0, f1, f2, f3, f4⟩ := free5 hrx2
        have j0 : YE.cell? ⟨W.heap.size, 0, none⟩ = some (.string ⟨#[115, 116, 117, 99, 107]⟩) := cell_of_blk hDe.blk 0
        have j1 : YE.cell? ⟨W.heap.size, 1, none⟩ = some (.int .i64 st.val) := cell_of_blk hDe.blk 1
        have j2 : YE.cell? ⟨W.heap.size, 2, none⟩ = some (.slice oad st.out.length ocap) := cell_of_blk hDe.blk 2
        have j3 : YE.cell? ⟨W.heap.size, 3, none⟩ = some (.int .i64 st.tks) := cell_of_blk hDe.blk 3
        have j4 : YE.cell? ⟨W.heap.size, 4, none⟩ = some (.slice cad st.calls.length ccap) := cell_of_blk hDe.blk 4
        have HDE := hidX hDe
        have HBE := hidX hbe
        have HRX := hidX hrx2
        have HSE := hidX (fun b hb => (show b ≠ w.heap.size + 1 from by have := HSB.out b hb; omega))
        have HNW := hidX (fun b hb => (show w.heap.size ≤ b from by have := HSB.out b hb; omega))
        clear hDe hbe hrx hrx2
        go_wp2_with (rw [← hYE]; clear hYE y0 y1 g0 g1)
        have hx := set5_blk HRX.out (.string ⟨#[115, 116, 117, 99, 107]⟩) (.int .i64 st.val) (.slice oad st.out.length ocap) (.int .i64 st.tks) (.slice cad st.calls.length ccap)
        have hlew : w.heap.size ≤ w.heap.size + 1 := by omega
        have hbw : Below w.heap.size w YE := bl_trans HB0.out HB0.out.size HBE.out
        have hbf := ((((hbw.setCell (p := ⟨w.heap.size + 1, 0, none⟩) (by exact hlew) (.string ⟨#[115, 116, 117, 99, 107]⟩)).setCell (p := ⟨w.heap.size + 1, 1, none⟩) (by exact hlew) (.int .i64 st.val)).setCell (p := ⟨w.heap.size + 1, 2, none⟩) (by exact hlew) (.slice oad st.out.length ocap)).setCell (p := ⟨w.heap.size + 1, 3, none⟩) (by exact hlew) (.int .i64 st.tks)).setCell (p := ⟨w.heap.size + 1, 4, none⟩) (by exact hlew) (.slice cad st.calls.length ccap)
        refine ret_row (w.heap.size + 1) 10 _ 44 rfl rfl hx Tryz.underlying44 (by kernel_rfl) ⟨hbf, _, rfl, ?_⟩
        rw [← HEND.out]
        exact doneR_of HDE.out (fun k hk => by
         have h := HSE.out k hk
         rw [Below.heap_setCell _ _ _ _ h, Below.heap_setCell _ _ _ _ h, Below.heap_setCell _ _ _ _ h, Below.heap_setCell _ _ _ _ h, Below.heap_setCell _ _ _ _ h]) (by simp [World.setCell]) (fun k hk => HNW.out k hk)
       | some v =>
        have hvv5 := hv5 v hr5
        subst hvv5
        have HSNV := hidX (HSN.out _ hr5)
        have HO5 := hidX (own_same HOW.out (fun b e => hb5.block b (HOW.out.lt b e).2 (by have := (HOW.out.lt b e).1; omega)))
        have HJ5 := hidX hJ5
        simp only [Option.isSome_some]
        clear hJ5 hb5 hv5 hr5 HNO HSN HVAL kx' n1
        go_wp2_with (at_builtin; refine wpList_append_lies _ rfl _ _ 40 rfl X2.heap.size 3 ii0 _ 1 8 Tryz.underlying40 hii iz0 iz1 iz2 rfl (by decide) (.slice vad vs.length vcap) vs.length (intsG vs) rfl (owns_below HO5.out (box_blk _ _ _)) ⟨W5.heap.size, 0, none⟩ 1 1 [.int .i64 v5] rfl rfl (World.news_of_block (heap_alloc_new W5 _)) (int_one _) (by decide) (by unfold maxLen; omega) (by omega) (by simp; omega) _ rfl ?_; intro g6 cap6 W6 ho6 hg6 hl6 _; have HO6 := hidX ho6; have HG6 := hidX hg6; clear ho6 hg6 hl6)
        have hob : ∀ b, b < W5.heap.size → (Value.slice vad vs.length vcap).ownBlock ≠ some b → W6.heap[b]? = W5.heap[b]? := fun b hb hne => (HG6.out.block b (by simp; omega) (fun e => hne e.symm)).trans (Below.heap_alloc _ _ _ hb)
        have hol6 : ∀ b, (Value.slice vad vs.length vcap).ownBlock = some b → X2.heap.size ≤ b := fun b e => (HO5.out.lt b e).1
        have hz6 := HG6.out.size
        have HJ6 := hidX (HJ5.out.keep (fun b hb => hob b (by omega) (fun e => by have := hol6 b e; omega)))
        have HB6 := hidX (show ButP (fun k => k = sa ∨ k = ka) X2 W6 from ⟨HG6.out.os.trans HB5.out.os, HG6.out.tape.trans HB5.out.tape, HG6.out.output.trans HB5.out.output, by simp at hz6; omega, fun b hb hS => (hob b (by omega) (fun e => by have := hol6 b e; omega)).trans (HB5.out.block b hb hS)⟩)
        clear hob hol6 HG6
        go_roundw
        case rel => exact ⟨vs ++ [v5], _, rfl, by simp only [List.length_append, List.length_singleton]; go_num, by simp; omega, by unfold Hid; rw [List.length_append]; exact HSNV.out, by unfold Hid; rw [List.length_append, show intsG (vs ++ [v5]) = intsG vs ++ [.int .i64 v5] by simp [intsG]]; exact HO6.out, HJ6.out, HB6.out⟩
        case measure => simp [intOf]; omega
      ·have hmn : vs.length = al.length := by omega
       have hax : askX (valOf L args got) al = some vs := by have h := HAX.out; rwa [hmn, List.take_length] at h
       have HWK3 := hidX (show (let r := stepAt L ans ticks j vs st got; if r.1.how ≠ [] then r.1 else walkL L args ans ticks (most - (q + 1)) r.2.2 r.1 r.2.1) = goal from by
        have h := HWK2.out
        rw [hax] at h
        exact h)
       have hnlt : ¬ ((vs.length + 1 : Nat) : Int) < (n.ins.length : Int) := by omega
       have n0 : wr.cell? ⟨W1.heap.size, 0, none⟩ = some (.string ⟨n.kind.toArray⟩) := cell_of_blk hxr 0
       have HXR := hidX hxr
       have hh0 := HM.out.2.1
       have HH0 := hidX hh0
       clear hax hmn HAX HWK2 HASKV HALG hxr hh0
       have hDy : DnJ S wr W.heap.size st (.slice oad st.out.length ocap) (.slice cad st.calls.length ccap) xs := HD2.out.1.keep HBR.out.size (fun k hk => HBR.out.block k (hk.elim (fun e => by omega) (fun e => (HD2.out.1.sl k e).1)) (hk.elim (fun e => by omega) (fun e => by have := HD2.out.2 k e; omega)))
       have hFy : Below W0.heap.size W0 wr := ⟨HBR.out.os.trans HF2.out.os, HBR.out.tape.trans HF2.out.tape, HBR.out.output.trans HF2.out.output, Nat.le_trans HF2.out.size HBR.out.size, fun k hk => (HBR.out.block k (by have := HF2.out.size; omega) (by omega)).trans (HF2.out.block k hk)⟩
       have HDY := hidX hDy
       have HFY := hidX hFy
       clear hDy hFy
       rcases H6.out with hk | hk | hk | hk | hk | hk
       ·rw [HND.out] at hk; exact absurd hk HREG.out
       ·as_aux_lemma =>
         rw [HND.out] at hk
         have u0 : (n.kind == [116, 105, 99, 107]) = false := by rw [hk]; decide
         have u1 : (n.kind == [112, 114, 105, 110, 116]) = false := by rw [hk]; decide
         have u2 : (n.kind == [99, 97, 108, 108]) = false := by rw [hk]; decide
         have u3 : (n.kind == [114, 101, 116, 117, 114, 110]) = false := by rw [hk]; decide
         have hat : stepAt L ans ticks j vs st got = (st, got, nextIf (ysI gYes L L.length) (ysI gNo L L.length) j (vs.getD 0 0)) := by
          unfold stepAt
          rw [HND.out, if_neg (by rw [hk]; decide), if_pos hk]
         have HWK4 := HWK3.out
         rw [hat] at HWK4
         dsimp only at HWK4
         clear hat
         have hv1 : vs.length = 1 := by have := HONE.out (by rw [hk]; decide); omega
         obtain ⟨g7, off7, e7, hg7, k7⟩ := (xrow_own HOW.out).int (k := 0) (by omega)
         subst e7
         have k7' : wr.cell? ⟨g7, off7, none⟩ = some (.int .i64 (vs.getD 0 0)) := by rw [Nat.add_zero] at k7; rw [k7]; simp [show 0 < vs.length by omega]
         have hv1' : (vs.length : Int) = 1 := by omega
         have HV1 := hidX hv1
         clear k7 hv1
         generalize vs.getD 0 0 = x0 at *
         have hne3 : g7 ≠ W.heap.size := by have := hg7.1; omega
         have hne4 : W.heap.size ≠ g7 := by have := hg7.1; omega
         rw [if_neg (by rw [HH0.out]; simp)] at HWK4
         have hNX := HWK4
         obtain ⟨ta, tb, htab, hta, htb, hor9⟩ := if_two HW.out hj (by rw [HND.out]; exact hk)
         have hway9 := fun x => nextIf_way HW.out hj (by rw [HND.out]; exact hk) x
         have htk2 := takers_any (w := wr) nm P (.slice (some ⟨g, off, none⟩) L.length cap) L hL HLW.out (HJR.out.gr.imp (fun b hb => (by have : b < w.heap.size := hb; show b < wr.heap.size; omega)) (fun _ _ => rfl)) (ways_ins HW.out) (j : Int)
         rw [htab] at htk2
         have HTK2 := hidX htk2
         have HNX := hidX hNX
         have HWAY9 := hidX (hway9 x0)
         have HOR := hidX hor9
         have hgx9 := (HFY.out.block _ hgbl).trans HX0.out
         have c0 : wr.cell? ⟨w.heap.size, 0, none⟩ = some (.string ⟨nm.toArray⟩) := cell_of_blk hgx9 0
         have c1 : wr.cell? ⟨w.heap.size, 1, none⟩ = some (.int .i64 P) := cell_of_blk hgx9 1
         have c2 : wr.cell? ⟨w.heap.size, 2, none⟩ = some (.slice (some ⟨g, off, none⟩) L.length cap) := cell_of_blk hgx9 2
         have HGX9 := hidX hgx9
         clear HWK4 hNX hk htab htk2 hway9 hor9 hgx9
         by_cases hx0 : x0 = 0
         ·have tx : (x0 == 0) = true := by simp [hx0]
          have HX00 := hidX hx0
          clear hx0
          go_wp2_with fail
          refine HTK2.out.mono ?_
          rintro e W7 ⟨v7, rfl, hl7⟩
          obtain ⟨lad7, lcap7, rfl⟩ := own_is hl7.own
          obtain ⟨g8, off8, e8, hg8', k8⟩ := (xrow_own hl7.own).nat (l := [ta, tb]) (k := 0) (by simp)
          subst e8
          obtain ⟨g9, off9, e9, hg9', k9⟩ := (xrow_own hl7.own).nat (l := [ta, tb]) (k := 1) (by simp)
          injection e9 with e9
          injection e9 with e9 e10
          subst e9 e10
          replace k8 : W7.cell? ⟨g8, off8, none⟩ = some (.int .i64 (ta : Int)) := by simpa using k8
          replace k9 : W7.cell? ⟨g8, off8 + 1, none⟩ = some (.int .i64 (tb : Int)) := by simpa using k9
          have hg8 : g8 < W7.heap.size := hg8'.2
          have hb7 := hl7.low
          have hz7 := hb7.size
          have hta' : (ta : Int) < (L.length : Int) := by omega
          have HJ7 := hidX (HJR.out.below (hb7.mono (by omega)))
          have HD7 := hidX (HDY.out.keep hb7.size (fun k hk => hb7.block k (hk.elim (fun e => by omega) (fun e => (HDY.out.sl k e).1))))
          have HF7 := hidX (bl_trans HFY.out HFY.out.size hb7)
          have m7 : W7.cell? ⟨w.heap.size, 2, none⟩ = some (.slice (some ⟨g, off, none⟩) L.length cap) := cell_of_blk ((hb7.block _ (by omega)).trans HGX9.out) 2
          obtain ⟨ga2, offa2, ad3, cap3, ea, _, _, _, q0, _, _, _⟩ := HJ7.out.gr.node hta
          injection ea with ea
          injection ea with ea ea2
          subst ea ea2
          have hna : ndAt L (ta : Int) = L[ta] := by simp [ndAt, hta]
          clear hl7 hb7 c0 c1 c2 hg9' hg8'
          rcases HOR.out with ⟨ha1, hb1, hka, hkb⟩ | ⟨ha1, hb1, hka, hkb⟩
          ·clear hkb
           have ta0 : W7.cell? ⟨g, off + ta * 4, none⟩ = some (.string ⟨gYes.toArray⟩) := by rw [q0, show L[ta].kind = gYes from by rw [← hna]; exact hka]
           have HFIN := hidX (show nextIf (ysI gYes L L.length) (ysI gNo L L.length) j x0 = tb from by unfold nextIf; rw [if_neg (by simp [HX00.out])]; exact hb1.symm)
           have tt : (gYes == [110, 111]) = false := by decide
           clear q0 hna hka ha1 hb1
           go_wp2_with fail
           go_quiet (fail)
           generalize hX9 : World.drewN _ _ = X9
           have hb9 : Below W7.heap.size W7 X9 := by rw [← hX9]; (repeat (first | exact Below.refl _ _ | assumption | refine Below.drew ?_ | refine bT ?_ _ | refine bS ?_ _ | refine bA ?_ _))
           have HJ9 := hidX (HJ7.out.below (hb9.mono (by omega)))
           have HD9 := hidX (And.intro (HD7.out.keep hb9.size (fun k hk => hb9.block k (hk.elim (fun e => by omega) (fun e => (HD7.out.sl k e).1)))) HSB.out)
           have HF9 := hidX (bl_trans HF7.out HF7.out.size hb9)
           have hz9 := hb9.size
           have m9b := (hb9.cell (p := ⟨g8, _, none⟩) hg8).trans k9
           clear hX9 hb9
           go_wp2
           go_roundg (most - (q + 1) + 1)
           case rel => exact ⟨q + 1, tb, st, got, S, _, _, xs, rfl, by go_num, by omega, by omega, htb, by omega, hol, by omega, ⟨(by have h := HWAY9.out.2; rw [HFIN.out] at h; exact h), HH0.out, HM.out.2.2.1, (by have h := HNX.out; rw [HFIN.out] at h; exact h)⟩, HJ9.out, HD9.out, HF9.out⟩
           all_goals omega
          ·clear hkb
           have ta0 : W7.cell? ⟨g, off + ta * 4, none⟩ = some (.string ⟨gNo.toArray⟩) := by rw [q0, show L[ta].kind = gNo from by rw [← hna]; exact hka]
           have HFIN := hidX (show nextIf (ysI gYes L L.length) (ysI gNo L L.length) j x0 = ta from by unfold nextIf; rw [if_neg (by simp [HX00.out])]; exact ha1.symm)
           have tt : (gNo == [110, 111]) = true := by decide
           clear q0 hna hka ha1 hb1
           go_wp2_with fail
           go_quiet (fail)
           generalize hX9 : World.drewN _ _ = X9
           have hb9 : Below W7.heap.size W7 X9 := by rw [← hX9]; (repeat (first | exact Below.refl _ _ | assumption | refine Below.drew ?_ | refine bT ?_ _ | refine bS ?_ _ | refine bA ?_ _))
           have HJ9 := hidX (HJ7.out.below (hb9.mono (by omega)))
           have HD9 := hidX (And.intro (HD7.out.keep hb9.size (fun k hk => hb9.block k (hk.elim (fun e => by omega) (fun e => (HD7.out.sl k e).1)))) HSB.out)
           have HF9 := hidX (bl_trans HF7.out HF7.out.size hb9)
           have hz9 := hb9.size
           have m9b := (hb9.cell (p := ⟨g8, _, none⟩) hg8).trans k9
           clear hX9 hb9
           go_wp2
           go_roundg (most - (q + 1) + 1)
           case rel => exact ⟨q + 1, ta, st, got, S, _, _, xs, rfl, by go_num, by omega, by omega, hta, by omega, hol, by omega, ⟨(by have h := HWAY9.out.2; rw [HFIN.out] at h; exact h), HH0.out, HM.out.2.2.1, (by have h := HNX.out; rw [HFIN.out] at h; exact h)⟩, HJ9.out, HD9.out, HF9.out⟩
           all_goals omega
         ·have tx : (x0 == 0) = false := by simp [hx0]
          have HX00 := hidX hx0
          clear hx0
          go_wp2_with fail
          refine HTK2.out.mono ?_
          rintro e W7 ⟨v7, rfl, hl7⟩
          obtain ⟨lad7, lcap7, rfl⟩ := own_is hl7.own
          obtain ⟨g8, off8, e8, hg8', k8⟩ := (xrow_own hl7.own).nat (l := [ta, tb]) (k := 0) (by simp)
          subst e8
          obtain ⟨g9, off9, e9, hg9', k9⟩ := (xrow_own hl7.own).nat (l := [ta, tb]) (k := 1) (by simp)
          injection e9 with e9
          injection e9 with e9 e10
          subst e9 e10
          replace k8 : W7.cell? ⟨g8, off8, none⟩ = some (.int .i64 (ta : Int)) := by simpa using k8
          replace k9 : W7.cell? ⟨g8, off8 + 1, none⟩ = some (.int .i64 (tb : Int)) := by simpa using k9
          have hg8 : g8 < W7.heap.size := hg8'.2
          have hb7 := hl7.low
          have hz7 := hb7.size
          have hta' : (ta : Int) < (L.length : Int) := by omega
          have HJ7 := hidX (HJR.out.below (hb7.mono (by omega)))
          have HD7 := hidX (HDY.out.keep hb7.size (fun k hk => hb7.block k (hk.elim (fun e => by omega) (fun e => (HDY.out.sl k e).1))))
          have HF7 := hidX (bl_trans HFY.out HFY.out.size hb7)
          have m7 : W7.cell? ⟨w.heap.size, 2, none⟩ = some (.slice (some ⟨g, off, none⟩) L.length cap) := cell_of_blk ((hb7.block _ (by omega)).trans HGX9.out) 2
          obtain ⟨ga2, offa2, ad3, cap3, ea, _, _, _, q0, _, _, _⟩ := HJ7.out.gr.node hta
          injection ea with ea
          injection ea with ea ea2
          subst ea ea2
          have hna : ndAt L (ta : Int) = L[ta] := by simp [ndAt, hta]
          clear hl7 hb7 c0 c1 c2 hg9' hg8'
          rcases HOR.out with ⟨ha1, hb1, hka, hkb⟩ | ⟨ha1, hb1, hka, hkb⟩
          ·clear hkb
           have ta0 : W7.cell? ⟨g, off + ta * 4, none⟩ = some (.string ⟨gYes.toArray⟩) := by rw [q0, show L[ta].kind = gYes from by rw [← hna]; exact hka]
           have HFIN := hidX (show nextIf (ysI gYes L L.length) (ysI gNo L L.length) j x0 = ta from by unfold nextIf; rw [if_pos HX00.out]; exact ha1.symm)
           have tt : (gYes == [121, 101, 115]) = true := by decide
           clear q0 hna hka ha1 hb1
           go_wp2_with fail
           go_quiet (fail)
           generalize hX9 : World.drewN _ _ = X9
           have hb9 : Below W7.heap.size W7 X9 := by rw [← hX9]; (repeat (first | exact Below.refl _ _ | assumption | refine Below.drew ?_ | refine bT ?_ _ | refine bS ?_ _ | refine bA ?_ _))
           have HJ9 := hidX (HJ7.out.below (hb9.mono (by omega)))
           have HD9 := hidX (And.intro (HD7.out.keep hb9.size (fun k hk => hb9.block k (hk.elim (fun e => by omega) (fun e => (HD7.out.sl k e).1)))) HSB.out)
           have HF9 := hidX (bl_trans HF7.out HF7.out.size hb9)
           have hz9 := hb9.size
           have m9b := (hb9.cell (p := ⟨g8, _, none⟩) hg8).trans k9
           clear hX9 hb9
           go_wp2
           go_roundg (most - (q + 1) + 1)
           case rel => exact ⟨q + 1, ta, st, got, S, _, _, xs, rfl, by go_num, by omega, by omega, hta, by omega, hol, by omega, ⟨(by have h := HWAY9.out.2; rw [HFIN.out] at h; exact h), HH0.out, HM.out.2.2.1, (by have h := HNX.out; rw [HFIN.out] at h; exact h)⟩, HJ9.out, HD9.out, HF9.out⟩
           all_goals omega
          ·clear hkb
           have ta0 : W7.cell? ⟨g, off + ta * 4, none⟩ = some (.string ⟨gNo.toArray⟩) := by rw [q0, show L[ta].kind = gNo from by rw [← hna]; exact hka]
           have HFIN := hidX (show nextIf (ysI gYes L L.length) (ysI gNo L L.length) j x0 = tb from by unfold nextIf; rw [if_pos HX00.out]; exact hb1.symm)
           have tt : (gNo == [121, 101, 115]) = false := by decide
           clear q0 hna hka ha1 hb1
           go_wp2_with fail
           go_quiet (fail)
           generalize hX9 : World.drewN _ _ = X9
           have hb9 : Below W7.heap.size W7 X9 := by rw [← hX9]; (repeat (first | exact Below.refl _ _ | assumption | refine Below.drew ?_ | refine bT ?_ _ | refine bS ?_ _ | refine bA ?_ _))
           have HJ9 := hidX (HJ7.out.below (hb9.mono (by omega)))
           have HD9 := hidX (And.intro (HD7.out.keep hb9.size (fun k hk => hb9.block k (hk.elim (fun e => by omega) (fun e => (HD7.out.sl k e).1)))) HSB.out)
           have HF9 := hidX (bl_trans HF7.out HF7.out.size hb9)
           have hz9 := hb9.size
           have m9b := (hb9.cell (p := ⟨g8, _, none⟩) hg8).trans k9
           clear hX9 hb9
           go_wp2
           go_roundg (most - (q + 1) + 1)
           case rel => exact ⟨q + 1, tb, st, got, S, _, _, xs, rfl, by go_num, by omega, by omega, htb, by omega, hol, by omega, ⟨(by have h := HWAY9.out.2; rw [HFIN.out] at h; exact h), HH0.out, HM.out.2.2.1, (by have h := HNX.out; rw [HFIN.out] at h; exact h)⟩, HJ9.out, HD9.out, HF9.out⟩
           all_goals omega
       ·as_aux_lemma =>
         rw [HND.out] at hk
         have u0 : (n.kind == [116, 105, 99, 107]) = true := by rw [hk]; decide
         have hat : stepAt L ans ticks j vs st got = (tickR ticks st, got, j) := by
          unfold stepAt
          rw [HND.out, if_neg (by rw [hk]; decide), if_neg (by rw [hk]; decide), if_pos hk]
         have HWK4 := HWK3.out
         rw [hat] at HWK4
         dsimp only at HWK4
         clear hat
         have c3 : wr.cell? ⟨W.heap.size, 3, none⟩ = some (.int .i64 st.tks) := cell_of_blk HDY.out.blk 3
         have HWAY := hidX (show isWay (ndAt L (j : Int)).kind from by rw [HND.out]; exact rest_way (Or.inr (Or.inr (Or.inr hk))))
         clear hk
         unfold tickR at HWK4
         by_cases hov : ticks ≤ st.tks
         ·rw [if_pos hov, if_pos (show hOver ≠ [] by decide)] at HWK4
          have HEND := hidX HWK4
          clear HWK4
          have hzw : w.heap.size + 1 < W.heap.size := by have := HZ0.out; have := HZW.out; omega
          have hrx := (HFY.out.block _ (by have := HZ0.out; omega)).trans HX1.out
          have y0 := cell_of_blk HDY.out.blk 0
          have y1 := cell_of_blk HDY.out.blk 1
          have g0 := free_of_blk HDY.out.blk 0
          have g1 := free_of_blk HDY.out.blk 1
          have hne1 : w.heap.size + 1 ≠ W.heap.size := by omega
          have hne2 : W.heap.size ≠ w.heap.size + 1 := by omega
          have hDe := HDY.out.set (s' := { st with how := hOver }) rfl rfl 0 (.string ⟨#[111, 118, 101, 114]⟩) rfl
          have hbe : Below W0.heap.size W0 (wr.setCell ⟨W.heap.size, 0, none⟩ (.string ⟨#[111, 118, 101, 114]⟩)) := (HFY.out.setCell (p := ⟨W.heap.size, 0, none⟩) (by show W0.heap.size ≤ W.heap.size; have := HZW.out; omega) (.string ⟨#[111, 118, 101, 114]⟩))
          have hrx2 : (wr.setCell ⟨W.heap.size, 0, none⟩ (.string ⟨#[111, 118, 101, 114]⟩)).heap[w.heap.size + 1]? = _ := ((Below.heap_setCell _ _ _ _ hne1).trans hrx)
          obtain ⟨YE, hYE⟩ : ∃ YE, YE = (wr.setCell ⟨W.heap.size, 0, none⟩ (.string ⟨#[111, 118, 101, 114]⟩)) := ⟨_, rfl⟩
          rw [← hYE] at hDe hbe hrx2
          obtain ⟨i0, i1, i2, i3, i4⟩ := cells5 hrx2
          obtain ⟨f0, f1, f2, f3, f4⟩ := free5 hrx2
          have j0 : YE.cell? ⟨W.heap.size, 0, none⟩ = some (.string ⟨#[111, 118, 101, 114]⟩) := cell_of_blk hDe.blk 0
          have j1 : YE.cell? ⟨W.heap.size, 1, none⟩ = some (.int .i64 st.val) := cell_of_blk hDe.blk 1
          have j2 : YE.cell? ⟨W.heap.size, 2, none⟩ = some (.slice oad st.out.length ocap) := cell_of_blk hDe.blk 2
          have j3 : YE.cell? ⟨W.heap.size, 3, none⟩ = some (.int .i64 st.tks) := cell_of_blk hDe.blk 3
          have j4 : YE.cell? ⟨W.heap.size, 4, none⟩ = some (.slice cad st.calls.length ccap) := cell_of_blk hDe.blk 4
          have HDE := hidX hDe
          have HBE := hidX hbe
          have HRX := hidX hrx2
          have HSE := hidX (fun b hb => (show b ≠ w.heap.size + 1 from by have := HSB.out b hb; omega))
          have HNW := hidX (fun b hb => (show w.heap.size ≤ b from by have := HSB.out b hb; omega))
          clear hDe hbe hrx hrx2
          go_wp2_with (rw [← hYE]; clear hYE y0 y1 g0 g1)
          have hx := set5_blk HRX.out (.string ⟨#[111, 118, 101, 114]⟩) (.int .i64 st.val) (.slice oad st.out.length ocap) (.int .i64 st.tks) (.slice cad st.calls.length ccap)
          have hlew : w.heap.size ≤ w.heap.size + 1 := by omega
          have hbw : Below w.heap.size w YE := bl_trans HB0.out HB0.out.size HBE.out
          have hbf := ((((hbw.setCell (p := ⟨w.heap.size + 1, 0, none⟩) (by exact hlew) (.string ⟨#[111, 118, 101, 114]⟩)).setCell (p := ⟨w.heap.size + 1, 1, none⟩) (by exact hlew) (.int .i64 st.val)).setCell (p := ⟨w.heap.size + 1, 2, none⟩) (by exact hlew) (.slice oad st.out.length ocap)).setCell (p := ⟨w.heap.size + 1, 3, none⟩) (by exact hlew) (.int .i64 st.tks)).setCell (p := ⟨w.heap.size + 1, 4, none⟩) (by exact hlew) (.slice cad st.calls.length ccap)
          refine ret_row (w.heap.size + 1) 10 _ 44 rfl rfl hx Tryz.underlying44 (by kernel_rfl) ⟨hbf, _, rfl, ?_⟩
          rw [← HEND.out]
          exact doneR_of HDE.out (fun k hk => by
           have h := HSE.out k hk
           rw [Below.heap_setCell _ _ _ _ h, Below.heap_setCell _ _ _ _ h, Below.heap_setCell _ _ _ _ h, Below.heap_setCell _ _ _ _ h, Below.heap_setCell _ _ _ _ h]) (by simp [World.setCell]) (fun k hk => HNW.out k hk)
         ·rw [if_neg hov, if_neg (by rw [HH0.out]; simp)] at HWK4
          have HNX := hidX HWK4
          have f3 := free_of_blk HDY.out.blk 3
          have HD9 := hidX (HDY.out.set (s' := { st with tks := st.tks + 1 }) rfl rfl 3 (.int .i64 (st.tks + 1)) rfl)
          have HJ9 := hidX (HJR.out.keep (Y := wr.setCell ⟨W.heap.size, 3, none⟩ (.int .i64 (st.tks + 1))) (fun b hb => Below.heap_setCell _ _ _ _ (by show b ≠ W.heap.size; omega)))
          have HF9 := hidX (HFY.out.setCell (p := ⟨W.heap.size, 3, none⟩) (by show W0.heap.size ≤ W.heap.size; have := HZW.out; omega) (.int .i64 (st.tks + 1)))
          have hov' : ¬ ticks ≤ st.tks := hov
          have hlt9 : st.tks < ticks := by omega
          have htk9 : (0 ≤ st.tks + 1 ∧ st.tks + 1 ≤ ((q + 1 : Nat) : Int)) := by omega
          clear HWK4 HDY HFY HJR
          go_wp2
          go_roundg (most - (q + 1) + 1)
          case rel => exact ⟨q + 1, j, { st with tks := st.tks + 1 }, got, S, _, _, xs, rfl, by go_num, by omega, by omega, hj, htk9, hol, by simp [World.setCell]; omega, ⟨HWAY.out, HH0.out, HM.out.2.2.1, HNX.out⟩, HJ9.out, ⟨HD9.out, HSB.out⟩, HF9.out⟩
          all_goals omega
       ·as_aux_lemma =>
         rw [HND.out] at hk
         have u0 : (n.kind == [116, 105, 99, 107]) = false := by rw [hk]; decide
         have u1 : (n.kind == [112, 114, 105, 110, 116]) = true := by rw [hk]; decide
         have hat : stepAt L ans ticks j vs st got = (printR (vs.getD 0 0) st, got, j) := by
          unfold stepAt
          rw [HND.out, if_neg (by rw [hk]; decide), if_neg (by rw [hk]; decide), if_neg (by rw [hk]; decide), if_pos hk]
         have HWK4 := HWK3.out
         rw [hat] at HWK4
         dsimp only at HWK4
         clear hat
         have hv1 : vs.length = 1 := by have := HONE.out (by rw [hk]; decide); omega
         obtain ⟨g7, off7, e7, hg7, k7⟩ := (xrow_own HOW.out).int (k := 0) (by omega)
         subst e7
         have k7' : wr.cell? ⟨g7, off7, none⟩ = some (.int .i64 (vs.getD 0 0)) := by rw [Nat.add_zero] at k7; rw [k7]; simp [show 0 < vs.length by omega]
         have hv1' : (vs.length : Int) = 1 := by omega
         have HV1 := hidX hv1
         clear k7 hv1
         generalize vs.getD 0 0 = x0 at *
         have hne3 : g7 ≠ W.heap.size := by have := hg7.1; omega
         have hne4 : W.heap.size ≠ g7 := by have := hg7.1; omega
         have c2 : wr.cell? ⟨W.heap.size, 2, none⟩ = some (.slice oad st.out.length ocap) := cell_of_blk HDY.out.blk 2
         have HWAY := hidX (show isWay (ndAt L (j : Int)).kind from by rw [HND.out]; exact rest_way (Or.inr (Or.inl hk)))
         have hol' : (st.out.length : Int) ≤ 1000 := by omega
         clear hk
         unfold printR at HWK4
         by_cases hov : st.out.length = 1000
         ·rw [if_pos hov, if_pos (show hOver ≠ [] by decide)] at HWK4
          have HEND := hidX HWK4
          have hov' : (1000 : Int) ≤ (st.out.length : Int) := by omega
          clear HWK4 hov
          have hzw : w.heap.size + 1 < W.heap.size := by have := HZ0.out; have := HZW.out; omega
          have hrx := (HFY.out.block _ (by have := HZ0.out; omega)).trans HX1.out
          have y0 := cell_of_blk HDY.out.blk 0
          have y1 := cell_of_blk HDY.out.blk 1
          have g0 := free_of_blk HDY.out.blk 0
          have g1 := free_of_blk HDY.out.blk 1
          have hne1 : w.heap.size + 1 ≠ W.heap.size := by omega
          have hne2 : W.heap.size ≠ w.heap.size + 1 := by omega
          have hDe := HDY.out.set (s' := { st with how := hOver }) rfl rfl 0 (.string ⟨#[111, 118, 101, 114]⟩) rfl
          have hbe : Below W0.heap.size W0 (wr.setCell ⟨W.heap.size, 0, none⟩ (.string ⟨#[111, 118, 101, 114]⟩)) := (HFY.out.setCell (p := ⟨W.heap.size, 0, none⟩) (by show W0.heap.size ≤ W.heap.size; have := HZW.out; omega) (.string ⟨#[111, 118, 101, 114]⟩))
          have hrx2 : (wr.setCell ⟨W.heap.size, 0, none⟩ (.string ⟨#[111, 118, 101, 114]⟩)).heap[w.heap.size + 1]? = _ := ((Below.heap_setCell _ _ _ _ hne1).trans hrx)
          obtain ⟨YE, hYE⟩ : ∃ YE, YE = (wr.setCell ⟨W.heap.size, 0, none⟩ (.string ⟨#[111, 118, 101, 114]⟩)) := ⟨_, rfl⟩
          rw [← hYE] at hDe hbe hrx2
          obtain ⟨i0, i1, i2, i3, i4⟩ := cells5 hrx2
          obtain ⟨f0, f1, f2, f3, f4⟩ := free5 hrx2
          have j0 : YE.cell? ⟨W.heap.size, 0, none⟩ = some (.string ⟨#[111, 118, 101, 114]⟩) := cell_of_blk hDe.blk 0
          have j1 : YE.cell? ⟨W.heap.size, 1, none⟩ = some (.int .i64 st.val) := cell_of_blk hDe.blk 1
          have j2 : YE.cell? ⟨W.heap.size, 2, none⟩ = some (.slice oad st.out.length ocap) := cell_of_blk hDe.blk 2
          have j3 : YE.cell? ⟨W.heap.size, 3, none⟩ = some (.int .i64 st.tks) := cell_of_blk hDe.blk 3
          have j4 : YE.cell? ⟨W.heap.size, 4, none⟩ = some (.slice cad st.calls.length ccap) := cell_of_blk hDe.blk 4
          have HDE := hidX hDe
          have HBE := hidX hbe
          have HRX := hidX hrx2
          have HSE := hidX (fun b hb => (show b ≠ w.heap.size + 1 from by have := HSB.out b hb; omega))
          have HNW := hidX (fun b hb => (show w.heap.size ≤ b from by have := HSB.out b hb; omega))
          clear hDe hbe hrx hrx2
          go_wp2_with (rw [← hYE]; clear hYE y0 y1 g0 g1)
          have hx := set5_blk HRX.out (.string ⟨#[111, 118, 101, 114]⟩) (.int .i64 st.val) (.slice oad st.out.length ocap) (.int .i64 st.tks) (.slice cad st.calls.length ccap)
          have hlew : w.heap.size ≤ w.heap.size + 1 := by omega
          have hbw : Below w.heap.size w YE := bl_trans HB0.out HB0.out.size HBE.out
          have hbf := ((((hbw.setCell (p := ⟨w.heap.size + 1, 0, none⟩) (by exact hlew) (.string ⟨#[111, 118, 101, 114]⟩)).setCell (p := ⟨w.heap.size + 1, 1, none⟩) (by exact hlew) (.int .i64 st.val)).setCell (p := ⟨w.heap.size + 1, 2, none⟩) (by exact hlew) (.slice oad st.out.length ocap)).setCell (p := ⟨w.heap.size + 1, 3, none⟩) (by exact hlew) (.int .i64 st.tks)).setCell (p := ⟨w.heap.size + 1, 4, none⟩) (by exact hlew) (.slice cad st.calls.length ccap)
          refine ret_row (w.heap.size + 1) 10 _ 44 rfl rfl hx Tryz.underlying44 (by kernel_rfl) ⟨hbf, _, rfl, ?_⟩
          rw [← HEND.out]
          exact doneR_of HDE.out (fun k hk => by
           have h := HSE.out k hk
           rw [Below.heap_setCell _ _ _ _ h, Below.heap_setCell _ _ _ _ h, Below.heap_setCell _ _ _ _ h, Below.heap_setCell _ _ _ _ h, Below.heap_setCell _ _ _ _ h]) (by simp [World.setCell]) (fun k hk => HNW.out k hk)
         ·rw [if_neg hov, if_neg (by rw [HH0.out]; simp)] at HWK4
          have HNX := hidX HWK4
          have hov' : (st.out.length : Int) < 1000 := by omega
          have hol9 : st.out.length + 1 ≤ 1000 := by omega
          have htk9 : 0 ≤ st.tks ∧ st.tks ≤ ((q + 1 : Nat) : Int) := by omega
          have hdl : W.heap.size < wr.heap.size := by omega
          have HK := hidX (fun (Y : World) (hY : Below wr.heap.size wr Y) => (show Y.cell? ⟨W.heap.size, 2, none⟩ = some (.slice oad st.out.length ocap) ∧ Y.cell? ⟨g7, off7, none⟩ = some (.int .i64 x0) from ⟨(hY.cell (p := ⟨W.heap.size, 2, none⟩) hdl).trans c2, (hY.cell (p := ⟨g7, _, none⟩) hg7.2).trans k7'⟩))
          have HG7 := hidX hg7
          clear HWK4 hov
          go_wp2_with fail
          refine wp_region_until (fun Y => Y.cell? ⟨W.heap.size, 2, none⟩ = some (.slice oad st.out.length ocap) ∧ Y.cell? ⟨g7, off7, none⟩ = some (.int .i64 x0)) 8 (by kernel_rfl) (HK.out _ (by (repeat (first | exact Below.refl _ _ | assumption | refine Below.drew ?_ | refine bT ?_ _ | refine bS ?_ _ | refine bA ?_ _)))) (fun hHeld => ?_)
          refine wpAnyU_put 0 (some 230) (v := ?v0) rfl rfl (by kernel_rfl) (by kernel_rfl) (by kernel_rfl) (by kernel_rfl) (fun _ _ _ h => h) (Or.inl ⟨by rfl, ?hy0⟩) hHeld ?rest0
          case hy0 => (intro w2 hSw; (try dsimp only at hSw); first | (go_simp; done) | (go_simp; with_reducible rfl))
          simp only [Act.put, List.setIfInBounds_toArray, List.set_cons_zero, List.set_cons_succ]
          refine wpAnyU_put 1 (some 231) (v := ?v1) rfl rfl (by kernel_rfl) (by kernel_rfl) (by kernel_rfl) (by kernel_rfl) (fun _ _ _ h => h) (Or.inl ⟨by rfl, ?hy1⟩) hHeld ?rest1
          case hy1 => (intro w2 hSw; (try dsimp only at hSw); first | (go_simp; done) | (go_simp; with_reducible rfl))
          simp only [Act.put, List.setIfInBounds_toArray, List.set_cons_zero, List.set_cons_succ]
          refine wpAnyU_put 2 (some 232) (v := ?v2) rfl rfl (by kernel_rfl) (by kernel_rfl) (by kernel_rfl) (by kernel_rfl) (fun _ _ _ h => h) (Or.inl ⟨by rfl, ?hy2⟩) hHeld ?rest2
          case hy2 => (intro w2 hSw; (try dsimp only at hSw); first | (go_simp; done) | (go_simp; with_reducible rfl))
          simp only [Act.put, List.setIfInBounds_toArray, List.set_cons_zero, List.set_cons_succ]
          refine wpAnyU_put 3 (some 233) (v := ?v3) rfl rfl (by kernel_rfl) (by kernel_rfl) (by kernel_rfl) (by kernel_rfl) (fun _ _ _ h => h) (Or.inl ⟨by rfl, ?hy3⟩) hHeld ?rest3
          case hy3 => (intro w2 hSw; (try dsimp only at hSw); first | (go_simp; done) | (go_simp; with_reducible rfl))
          simp only [Act.put, List.setIfInBounds_toArray, List.set_cons_zero, List.set_cons_succ]
          refine wpAnyU_put 4 (some 234) (v := ?v4) rfl rfl (by kernel_rfl) (by kernel_rfl) (by kernel_rfl) (by kernel_rfl) (fun _ _ _ h => h) (Or.inl ⟨by rfl, ?hy4⟩) hHeld ?rest4
          case hy4 => (intro w2 hSw; (try dsimp only at hSw); first | (go_simp; done) | (go_simp; with_reducible rfl))
          simp only [Act.put, List.setIfInBounds_toArray, List.set_cons_zero, List.set_cons_succ]
          have hbb : Below wr.heap.size wr (wr.drew.alloc (.cells #[.int .i64 x0] 3)) := by (repeat (first | exact Below.refl _ _ | assumption | refine Below.drew ?_ | refine bT ?_ _ | refine bS ?_ _ | refine bA ?_ _))
          have s9' := HK.out _ hbb
          refine wpAnyU_one (i := 5) (by kernel_rfl) rfl (fun K5 hK5 => ?_)
          go_simp
          refine hK5.out _ _ (fun _ => s9') (fun _ => ?_)
          clear hK5 hHeld K5
          refine wpAnyU_one (i := 6) (by kernel_rfl) rfl (fun K6 hK6 => ?_)
          refine step_append_lies _ rfl (.tmp 231) (.tmp 235) 40 rfl 0 3 ii0 _ 1 8 Tryz.underlying40 hii iz0 iz1 iz2 rfl (by decide) (.slice oad st.out.length ocap) st.out.length (intsG st.out) rfl (owns_below HDY.out.out hbb) ⟨wr.heap.size, 0, none⟩ 1 1 [.int .i64 x0] rfl rfl (World.news_of_block (heap_alloc_new wr.drew _)) (int_one x0) (by decide) (by unfold maxLen; omega) (by omega) (Nat.zero_le _) _ rfl ?_
          intro g4 cap4 W4 ho4 hg4 hl4 _
          have hpr := HDY.out.print (x := x0) hbb hg4 ho4 (by
           rcases hl4 with e | e
           ·exact Or.inl e.symm
           ·right; exact ⟨g4, by simp only [Value.ownBlock], by rw [e]; simp⟩)
          have hdb4 := (hpr.1 W.heap.size hdl (fun e => by have := HSB.out _ e; omega)).trans HDY.out.blk
          have hg74 := hpr.1 g7 hg7.2 (fun e => by have := (HD2.out.1.sl _ e).1; have := hg7.1; omega)
          have HH4 := hidX (show W4.cell? ⟨W.heap.size, 2, none⟩ = some (.slice oad st.out.length ocap) ∧ W4.cell? ⟨g7, off7, none⟩ = some (.int .i64 x0) from ⟨cell_of_blk hdb4 2, (World.cell?_of_block (a := ⟨g7, off7, none⟩) hg74).trans k7'⟩)
          have s4 : W4.cell? ⟨W.heap.size, 2, none⟩ = some (.slice oad st.out.length ocap) := cell_of_blk hdb4 2
          have fr4 := free_of_blk hdb4 2
          obtain ⟨S', hS', o', c', x', hD'⟩ := hpr.2
          have HD9 := hidX (And.intro hD' (show ∀ b, S' b → W.heap.size < b from fun b hb => (hS' b hb).elim (HSB.out b) (fun e => by omega)))
          have hzz4 : wr.heap.size ≤ W4.heap.size := Nat.le_trans hbb.size hg4.size
          have far4 : ∀ b, b < W.heap.size → (W4.setCell ⟨W.heap.size, 2, none⟩ (.slice (some ⟨g4, 0, none⟩) (st.out.length + 1) cap4)).heap[b]? = wr.heap[b]? := fun b hb => (Below.heap_setCell _ _ _ _ (by show b ≠ W.heap.size; omega)).trans (hpr.1 b (by omega) (fun e => by have := HSB.out b e; omega))
          have HJ9 := hidX (HJR.out.keep far4)
          have HF9 := hidX (show Below W0.heap.size W0 (W4.setCell ⟨W.heap.size, 2, none⟩ (.slice (some ⟨g4, 0, none⟩) (st.out.length + 1) cap4)) from ⟨hg4.os.trans (hbb.os.trans HFY.out.os), hg4.tape.trans (hbb.tape.trans HFY.out.tape), hg4.output.trans (hbb.output.trans HFY.out.output), by have := HFY.out.size; simp [World.setCell]; omega, fun b hb => (far4 b (by have := HZW.out; omega)).trans (HFY.out.block b hb)⟩)
          change K6 (Act.put _ (some 236) _) W4
          refine hK6.out _ _ (fun _ => HH4.out) (fun _ => ?_)
          clear hK6 K6 hpr hdb4 hg74 hD' hS' far4
          simp only [Act.put, List.setIfInBounds_toArray, List.set_cons_zero, List.set_cons_succ]
          refine wpAnyU_one (i := 7) (by kernel_rfl) rfl (fun K7 hK7 => ?_)
          go_simp
          refine hK7.out _ _ (fun _ => HH4.out) (fun _ => ?_)
          clear hK7 K7 ho4 hg4 hl4 hbb s9'
          refine wpAnyU_one (i := 8) (by kernel_rfl) rfl (fun K8 hK8 => ?_)
          go_simp
          refine hK8.out _ _ (fun h => absurd rfl h) (fun _ => ?_)
          clear hK8 K8
          refine wpAnyU_done (by kernel_rfl) ?_ _
          go_wp2
          go_roundg (most - (q + 1) + 1)
          case rel => exact ⟨q + 1, j, { st with out := st.out ++ [x0] }, got, S', o', c', x', rfl, by go_num, by omega, by omega, hj, htk9, by simp; omega, by simp [World.setCell]; omega, ⟨HWAY.out, HH0.out, HM.out.2.2.1, HNX.out⟩, HJ9.out, HD9.out, HF9.out⟩
          all_goals omega
       ·as_aux_lemma =>
         rw [HND.out] at hk
         have u0 : (n.kind == [116, 105, 99, 107]) = false := by rw [hk]; decide
         have u1 : (n.kind == [112, 114, 105, 110, 116]) = false := by rw [hk]; decide
         have u2 : (n.kind == [99, 97, 108, 108]) = true := by rw [hk]; decide
         have hat : stepAt L ans ticks j vs st got = (callR ans n.name vs st, setV got (j, ansOf ans st), j) := by
          unfold stepAt
          rw [HND.out, if_neg (by rw [hk]; decide), if_neg (by rw [hk]; decide), if_neg (by rw [hk]; decide), if_neg (by rw [hk]; decide), if_pos hk]
         have HWK4 := HWK3.out
         rw [hat] at HWK4
         dsimp only at HWK4
         clear hat
         have c4 : wr.cell? ⟨W.heap.size, 4, none⟩ = some (.slice cad st.calls.length ccap) := cell_of_blk HDY.out.blk 4
         have n3 : wr.cell? ⟨W1.heap.size, 3, none⟩ = some (.string ⟨n.name.toArray⟩) := cell_of_blk HXR.out 3
         have HWAY := hidX (show isWay (ndAt L (j : Int)).kind from by rw [HND.out]; exact rest_way (Or.inr (Or.inr (Or.inl hk))))
         have HKP := hidX (show keeps L j from Or.inr (by rw [HND.out]; exact hk))
         have hal2' : (ans.length : Int) ≤ 100000 := by omega
         clear hk
         unfold callR ansOf at HWK4
         by_cases hov : ans.length ≤ st.calls.length
         ·rw [if_pos hov, if_pos (show hOver ≠ [] by decide)] at HWK4
          have HEND := hidX HWK4
          have hov' : (ans.length : Int) ≤ (st.calls.length : Int) := by omega
          clear HWK4 hov
          have hzw : w.heap.size + 1 < W.heap.size := by have := HZ0.out; have := HZW.out; omega
          have hrx := (HFY.out.block _ (by have := HZ0.out; omega)).trans HX1.out
          have y0 := cell_of_blk HDY.out.blk 0
          have y1 := cell_of_blk HDY.out.blk 1
          have g0 := free_of_blk HDY.out.blk 0
          have g1 := free_of_blk HDY.out.blk 1
          have hne1 : w.heap.size + 1 ≠ W.heap.size := by omega
          have hne2 : W.heap.size ≠ w.heap.size + 1 := by omega
          have hDe := HDY.out.set (s' := { st with how := hOver }) rfl rfl 0 (.string ⟨#[111, 118, 101, 114]⟩) rfl
          have hbe : Below W0.heap.size W0 (wr.setCell ⟨W.heap.size, 0, none⟩ (.string ⟨#[111, 118, 101, 114]⟩)) := (HFY.out.setCell (p := ⟨W.heap.size, 0, none⟩) (by show W0.heap.size ≤ W.heap.size; have := HZW.out; omega) (.string ⟨#[111, 118, 101, 114]⟩))
          have hrx2 : (wr.setCell ⟨W.heap.size, 0, none⟩ (.string ⟨#[111, 118, 101, 114]⟩)).heap[w.heap.size + 1]? = _ := ((Below.heap_setCell _ _ _ _ hne1).trans hrx)
          obtain ⟨YE, hYE⟩ : ∃ YE, YE = (wr.setCell ⟨W.heap.size, 0, none⟩ (.string ⟨#[111, 118, 101, 114]⟩)) := ⟨_, rfl⟩
          rw [← hYE] at hDe hbe hrx2
          obtain ⟨i0, i1, i2, i3, i4⟩ := cells5 hrx2
          obtain ⟨f0, f1, f2, f3, f4⟩ := free5 hrx2
          have j0 : YE.cell? ⟨W.heap.size, 0, none⟩ = some (.string ⟨#[111, 118, 101, 114]⟩) := cell_of_blk hDe.blk 0
          have j1 : YE.cell? ⟨W.heap.size, 1, none⟩ = some (.int .i64 st.val) := cell_of_blk hDe.blk 1
          have j2 : YE.cell? ⟨W.heap.size, 2, none⟩ = some (.slice oad st.out.length ocap) := cell_of_blk hDe.blk 2
          have j3 : YE.cell? ⟨W.heap.size, 3, none⟩ = some (.int .i64 st.tks) := cell_of_blk hDe.blk 3
          have j4 : YE.cell? ⟨W.heap.size, 4, none⟩ = some (.slice cad st.calls.length ccap) := cell_of_blk hDe.blk 4
          have HDE := hidX hDe
          have HBE := hidX hbe
          have HRX := hidX hrx2
          have HSE := hidX (fun b hb => (show b ≠ w.heap.size + 1 from by have := HSB.out b hb; omega))
          have HNW := hidX (fun b hb => (show w.heap.size ≤ b from by have := HSB.out b hb; omega))
          clear hDe hbe hrx hrx2
          go_wp2_with (rw [← hYE]; clear hYE y0 y1 g0 g1)
          have hx := set5_blk HRX.out (.string ⟨#[111, 118, 101, 114]⟩) (.int .i64 st.val) (.slice oad st.out.length ocap) (.int .i64 st.tks) (.slice cad st.calls.length ccap)
          have hlew : w.heap.size ≤ w.heap.size + 1 := by omega
          have hbw : Below w.heap.size w YE := bl_trans HB0.out HB0.out.size HBE.out
          have hbf := ((((hbw.setCell (p := ⟨w.heap.size + 1, 0, none⟩) (by exact hlew) (.string ⟨#[111, 118, 101, 114]⟩)).setCell (p := ⟨w.heap.size + 1, 1, none⟩) (by exact hlew) (.int .i64 st.val)).setCell (p := ⟨w.heap.size + 1, 2, none⟩) (by exact hlew) (.slice oad st.out.length ocap)).setCell (p := ⟨w.heap.size + 1, 3, none⟩) (by exact hlew) (.int .i64 st.tks)).setCell (p := ⟨w.heap.size + 1, 4, none⟩) (by exact hlew) (.slice cad st.calls.length ccap)
          refine ret_row (w.heap.size + 1) 10 _ 44 rfl rfl hx Tryz.underlying44 (by kernel_rfl) ⟨hbf, _, rfl, ?_⟩
          rw [← HEND.out]
          exact doneR_of HDE.out (fun k hk => by
           have h := HSE.out k hk
           rw [Below.heap_setCell _ _ _ _ h, Below.heap_setCell _ _ _ _ h, Below.heap_setCell _ _ _ _ h, Below.heap_setCell _ _ _ _ h, Below.heap_setCell _ _ _ _ h]) (by simp [World.setCell]) (fun k hk => HNW.out k hk)
         ·rw [if_neg hov, if_neg hov, if_neg (by rw [HH0.out]; simp)] at HWK4
          have hov' : (st.calls.length : Int) < (ans.length : Int) := by omega
          obtain ⟨gn, offn, en, hgn, kn⟩ := HAN.out.int (k := st.calls.length) (by omega)
          subst en
          have hgnw : gn < w.heap.size := hgn
          have hga9 : ans.getD st.calls.length 0 = ans[st.calls.length]'(by omega) := by simp [show st.calls.length < ans.length by omega]
          have hx64 : In64 (ans[st.calls.length]'(by omega)) := HN64.out _ (List.getElem_mem _)
          rw [hga9] at HWK4
          generalize ans[st.calls.length]'(by omega) = x0 at *
          have HNX := hidX HWK4
          have H64 := hidX (show Got64 (setV got (j, x0)) from fun i v h => by
           have h' : (if i = j then some x0 else got i) = some v := h
           split at h'
           ·injection h' with h'; rw [← h']; exact hx64
           ·exact HM.out.2.2.1 i v h')
          have hdl : W.heap.size < wr.heap.size := by omega
          obtain ⟨ic0, hic, ic1, ic2, ic3⟩ := info_parts told_info
          have HKN := hidX kn
          clear HWK4 hov hga9 hx64 kn
          go_wp2_with (at_builtin; refine wpList_append_lies _ rfl _ _ 42 rfl 0 88 ic0 _ 2 40 Tryz.underlying42 hic ic1 ic2 ic3 rfl (by decide) (.slice cad st.calls.length ccap) st.calls.length xs rfl (owns_below HDY.out.call (box_blk _ _ _)) ⟨wr.heap.size, 0, none⟩ 1 1 [.string ⟨n.name.toArray⟩, .slice vad vs.length vcap] rfl rfl (World.news_of_block (heap_alloc_new wr _)) (cl_one n.name ⟨_, _, _, rfl⟩) (by decide) (by unfold maxLen; omega) (by omega) (Nat.zero_le _) _ rfl ?_; intro g4 cap4 W4 ho4 hg4 hl4 _; have HO4 := hidX ho4; have HG4 := hidX hg4; have HL4 := hidX hl4; have hdb4 : W4.heap[W.heap.size]? = _ := (hg4.block _ (by simp; omega) (fun e => by have := HSB.out _ (HDY.out.callS _ e.symm); omega)).trans ((Below.heap_alloc _ _ _ hdl).trans HDY.out.blk); have s4 : W4.cell? ⟨W.heap.size, 4, none⟩ = some (.slice cad st.calls.length ccap) := cell_of_blk hdb4 4; have fr4 := free_of_blk hdb4 4; clear hdb4 ho4 hg4 hl4)
          have hbb : Below wr.heap.size wr (wr.alloc (.cells #[.string ⟨n.name.toArray⟩, .slice vad vs.length vcap] 88)) := by (repeat (first | exact Below.refl _ _ | assumption | refine Below.drew ?_ | refine bT ?_ _ | refine bS ?_ _ | refine bA ?_ _))
          have hav : XRow (fun b => X2.heap.size ≤ b ∧ b < wr.heap.size) (wr.alloc (.cells #[.string ⟨n.name.toArray⟩, .slice vad vs.length vcap] 88)) (.slice vad vs.length vcap) vs.length (intsG vs) := (xrow_own HOW.out).imp (fun _ h => h) (fun b hb => Below.heap_alloc _ _ _ hb.2)
          have hpr := HDY.out.called (nm := n.name) (vs := vs) (n0 := X2.heap.size) (V := fun b => X2.heap.size ≤ b ∧ b < wr.heap.size) hbb HG4.out HO4.out (by omega) (fun b hb => ⟨by have := hb.2; simp; omega, by have := hb.1; omega, fun e => by have := (HD2.out.1.sl _ e).1; have := hb.1; omega, hb.1⟩) hav (by
           rcases HL4.out with e | e
           ·exact Or.inl e.symm
           ·right; exact ⟨g4, by simp only [Value.ownBlock], by rw [e]; simp⟩)
          generalize hZ : W4.setCell ⟨W.heap.size, 4, none⟩ (.slice (some ⟨g4, 0, none⟩) (st.calls.length + 1) cap4) = Z at hpr ⊢
          obtain ⟨S', hS', o', c', x', hD'⟩ := hpr.2
          have hzz4 : wr.heap.size ≤ W4.heap.size := Nat.le_trans hbb.size HG4.out.size
          have hzz : W4.heap.size = Z.heap.size := by rw [← hZ]; simp [World.setCell]
          have far4 : ∀ b, b < W.heap.size → Z.heap[b]? = wr.heap[b]? := fun b hb => by
           rw [← hZ]
           exact (Below.heap_setCell _ _ _ _ (by show b ≠ W.heap.size; omega)).trans (hpr.1 b (by omega) (fun e => by have := HSB.out b e; omega))
          have hK := HJR.out.toK.keep far4
          have HFZ := hidX (show Below W0.heap.size W0 Z from by
           refine ⟨?_, ?_, ?_, by have := HFY.out.size; omega, fun b hb => (far4 b (by have := HZW.out; omega)).trans (HFY.out.block b hb)⟩
           ·rw [← hZ]; exact HG4.out.os.trans (hbb.os.trans HFY.out.os)
           ·rw [← hZ]; exact HG4.out.tape.trans (hbb.tape.trans HFY.out.tape)
           ·rw [← hZ]; exact HG4.out.output.trans (hbb.output.trans HFY.out.output))
          have HDZ := hidX (And.intro hD' (show ∀ b, S' b → W.heap.size < b from fun b hb => (hS' b hb).elim (HSB.out b) (fun e => by omega)))
          obtain ⟨gs, hs, z1, z2, z3, z4, _⟩ := hK.gots
          have w4 : Z.cell? ⟨wb, 4, none⟩ = some (rowV ga L.length) := cell_of_blk hK.blk 4
          have w5 : Z.cell? ⟨wb, 5, none⟩ = some (rowV ha L.length) := cell_of_blk hK.blk 5
          obtain ⟨y0, w6⟩ : ∃ y, Z.cell? ⟨ga, j, none⟩ = some y := ⟨_, by rw [cell_of_blk z1, List.getElem?_toArray, ints_at (by omega)]⟩
          have w6f := free_of_blk z1 j
          obtain ⟨y1, w7⟩ : ∃ y, Z.cell? ⟨ha, j, none⟩ = some y := ⟨_, by rw [cell_of_blk z2, List.getElem?_toArray, bools_at (by omega)]⟩
          have w7f := free_of_blk z2 j
          have w8 : Z.cell? ⟨gn, offn + st.calls.length, none⟩ = some (.int .i64 x0) := (World.cell?_of_block (a := ⟨gn, _, none⟩) ((far4 gn (by omega)).trans ((HFY.out.block gn (by have := HZ0.out; omega)).trans (HB0.out.block gn hgnw)))).trans HKN.out
          have HPUT := hidX (hK.put j x0)
          have hneg : ga ≠ ha ∧ ha ≠ ga ∧ wb ≠ ga ∧ ga ≠ wb ∧ wb ≠ ha := by omega
          obtain ⟨hn1, hn2, hn3, hn4, hn5⟩ := hneg
          have HZZ := hidX (And.intro hzz hzz4)
          clear hZ hpr hD' hS' hK z1 z2 z3 z4 far4 hav hbb HO4 HG4 HL4 s4 fr4 hzz
          go_region
          all_goals (
           go_wp2_with fail
           refine (forget_rw (X := ((Z.setCell ⟨ga, j, none⟩ (.int .i64 x0)).setCell ⟨ha, j, none⟩ (.bool true)).drew) (HPUT.out.1.keep (fun _ _ => rfl)) ?hbz hL).mono ?_
           case hbz => (have := HZZ.out; simp [World.setCell]; omega)
           rintro e W9 ⟨rfl, hJ9, hb9⟩
           have HJ9 := hidX hJ9
           have hfr : ∀ k, k < Z.heap.size → k ≠ ga → k ≠ ha → k ≠ ka → W9.heap[k]? = Z.heap[k]? := fun k h1 h2 h3 h4 => (hb9.block k (by simpa [World.setCell] using h1) h4).trans (HPUT.out.2.block k h1 (fun e => e.elim h2 h3))
           have hz9 : Z.heap.size ≤ W9.heap.size := by have := hb9.size; simpa [World.setCell] using this
           have HD9 := hidX (And.intro (HDZ.out.1.keep hz9 (fun k hk => hfr k (hk.elim (fun e => by have := HZZ.out; omega) (fun e => (HDZ.out.1.sl k e).1)) (hk.elim (fun e => by omega) (fun e => by have := HDZ.out.2 k e; omega)) (hk.elim (fun e => by omega) (fun e => by have := HDZ.out.2 k e; omega)) (hk.elim (fun e => by omega) (fun e => by have := HDZ.out.2 k e; omega)))) HDZ.out.2)
           have HF9 := hidX (show Below W0.heap.size W0 W9 from ⟨hb9.os.trans HFZ.out.os, hb9.tape.trans HFZ.out.tape, hb9.output.trans HFZ.out.output, Nat.le_trans HFZ.out.size hz9, fun k hk => (hfr k (by have := HFZ.out.size; omega) (by omega) (by omega) (by omega)).trans (HFZ.out.block k hk)⟩)
           have hzw9 : W.heap.size < W9.heap.size := by have := HZZ.out; omega
           have htk9 : 0 ≤ st.tks ∧ st.tks ≤ ((q + 1 : Nat) : Int) := by omega
           clear hJ9 hb9 hfr
           go_wp2
           go_roundg (most - (q + 1) + 1)
           case rel => exact ⟨q + 1, j, { st with calls := st.calls ++ [(n.name, vs)] }, (setV got (j, x0)), S', o', c', x', rfl, by go_num, by omega, by omega, hj, htk9, hol, hzw9, ⟨HWAY.out, HH0.out, H64.out, HNX.out⟩, HJ9.out, HD9.out, HF9.out⟩
           all_goals omega
          )
       ·as_aux_lemma =>
         rw [HND.out] at hk
         have u0 : (n.kind == [116, 105, 99, 107]) = false := by rw [hk]; decide
         have u1 : (n.kind == [112, 114, 105, 110, 116]) = false := by rw [hk]; decide
         have u2 : (n.kind == [99, 97, 108, 108]) = false := by rw [hk]; decide
         have u3 : (n.kind == [114, 101, 116, 117, 114, 110]) = true := by rw [hk]; decide
         have hat : stepAt L ans ticks j vs st got = (retR (vs.getD 0 0) st, got, j) := by
          unfold stepAt
          rw [HND.out, if_neg (by rw [hk]; decide), if_neg (by rw [hk]; decide), if_neg (by rw [hk]; decide), if_neg (by rw [hk]; decide), if_neg (by rw [hk]; decide)]
         have HWK4 := HWK3.out
         rw [hat] at HWK4
         dsimp only at HWK4
         clear hat
         have hv1 : vs.length = 1 := by have := HONE.out (by rw [hk]; decide); omega
         obtain ⟨g7, off7, e7, hg7, k7⟩ := (xrow_own HOW.out).int (k := 0) (by omega)
         subst e7
         have k7' : wr.cell? ⟨g7, off7, none⟩ = some (.int .i64 (vs.getD 0 0)) := by rw [Nat.add_zero] at k7; rw [k7]; simp [show 0 < vs.length by omega]
         have hv1' : (vs.length : Int) = 1 := by omega
         have HV1 := hidX hv1
         clear k7 hv1
         generalize vs.getD 0 0 = x0 at *
         have hne3 : g7 ≠ W.heap.size := by have := hg7.1; omega
         have hne4 : W.heap.size ≠ g7 := by have := hg7.1; omega
         rw [if_pos (show (retR x0 st).how ≠ [] from (by decide : hDone ≠ []))] at HWK4
         have HEND := hidX HWK4
         clear HWK4 hk
         have hzw : w.heap.size + 1 < W.heap.size := by have := HZ0.out; have := HZW.out; omega
         have hrx := (HFY.out.block _ (by have := HZ0.out; omega)).trans HX1.out
         have y0 := cell_of_blk HDY.out.blk 0
         have y1 := cell_of_blk HDY.out.blk 1
         have g0 := free_of_blk HDY.out.blk 0
         have g1 := free_of_blk HDY.out.blk 1
         have hne1 : w.heap.size + 1 ≠ W.heap.size := by omega
         have hne2 : W.heap.size ≠ w.heap.size + 1 := by omega
         have hDe := (HDY.out.set (s' := { st with how := hDone }) rfl rfl 0 (.string ⟨#[100, 111, 110, 101]⟩) rfl).set (s' := retR x0 st) rfl rfl 1 (.int .i64 x0) rfl
         have hbe : Below W0.heap.size W0 ((wr.setCell ⟨W.heap.size, 0, none⟩ (.string ⟨#[100, 111, 110, 101]⟩)).setCell ⟨W.heap.size, 1, none⟩ (.int .i64 x0)) := ((HFY.out.setCell (p := ⟨W.heap.size, 0, none⟩) (by show W0.heap.size ≤ W.heap.size; have := HZW.out; omega) (.string ⟨#[100, 111, 110, 101]⟩)).setCell (p := ⟨W.heap.size, 1, none⟩) (by show W0.heap.size ≤ W.heap.size; have := HZW.out; omega) (.int .i64 x0))
         have hrx2 : ((wr.setCell ⟨W.heap.size, 0, none⟩ (.string ⟨#[100, 111, 110, 101]⟩)).setCell ⟨W.heap.size, 1, none⟩ (.int .i64 x0)).heap[w.heap.size + 1]? = _ := ((Below.heap_setCell _ _ _ _ hne1).trans ((Below.heap_setCell _ _ _ _ hne1).trans hrx))
         obtain ⟨YE, hYE⟩ : ∃ YE, YE = ((wr.setCell ⟨W.heap.size, 0, none⟩ (.string ⟨#[100, 111, 110, 101]⟩)).setCell ⟨W.heap.size, 1, none⟩ (.int .i64 x0)) := ⟨_, rfl⟩
         rw [← hYE] at hDe hbe hrx2
         obtain ⟨i0, i1, i2, i3, i4⟩ := cells5 hrx2
         obtain ⟨f0, f1, f2, f3, f4⟩ := free5 hrx2
         have j0 : YE.cell? ⟨W.heap.size, 0, none⟩ = some (.string ⟨#[100, 111, 110, 101]⟩) := cell_of_blk hDe.blk 0
         have j1 : YE.cell? ⟨W.heap.size, 1, none⟩ = some (.int .i64 x0) := cell_of_blk hDe.blk 1
         have j2 : YE.cell? ⟨W.heap.size, 2, none⟩ = some (.slice oad st.out.length ocap) := cell_of_blk hDe.blk 2
         have j3 : YE.cell? ⟨W.heap.size, 3, none⟩ = some (.int .i64 st.tks) := cell_of_blk hDe.blk 3
         have j4 : YE.cell? ⟨W.heap.size, 4, none⟩ = some (.slice cad st.calls.length ccap) := cell_of_blk hDe.blk 4
         have HDE := hidX hDe
         have HBE := hidX hbe
         have HRX := hidX hrx2
         have HSE := hidX (fun b hb => (show b ≠ w.heap.size + 1 from by have := HSB.out b hb; omega))
         have HNW := hidX (fun b hb => (show w.heap.size ≤ b from by have := HSB.out b hb; omega))
         clear hDe hbe hrx hrx2
         go_wp2_with (rw [← hYE]; clear hYE y0 y1 g0 g1)
         have hx := set5_blk HRX.out (.string ⟨#[100, 111, 110, 101]⟩) (.int .i64 x0) (.slice oad st.out.length ocap) (.int .i64 st.tks) (.slice cad st.calls.length ccap)
         have hlew : w.heap.size ≤ w.heap.size + 1 := by omega
         have hbw : Below w.heap.size w YE := bl_trans HB0.out HB0.out.size HBE.out
         have hbf := ((((hbw.setCell (p := ⟨w.heap.size + 1, 0, none⟩) (by exact hlew) (.string ⟨#[100, 111, 110, 101]⟩)).setCell (p := ⟨w.heap.size + 1, 1, none⟩) (by exact hlew) (.int .i64 x0)).setCell (p := ⟨w.heap.size + 1, 2, none⟩) (by exact hlew) (.slice oad st.out.length ocap)).setCell (p := ⟨w.heap.size + 1, 3, none⟩) (by exact hlew) (.int .i64 st.tks)).setCell (p := ⟨w.heap.size + 1, 4, none⟩) (by exact hlew) (.slice cad st.calls.length ccap)
         refine ret_row (w.heap.size + 1) 10 _ 44 rfl rfl hx Tryz.underlying44 (by kernel_rfl) ⟨hbf, _, rfl, ?_⟩
         rw [← HEND.out]
         exact doneR_of HDE.out (fun k hk => by
          have h := HSE.out k hk
          rw [Below.heap_setCell _ _ _ _ h, Below.heap_setCell _ _ _ _ h, Below.heap_setCell _ _ _ _ h, Below.heap_setCell _ _ _ _ h, Below.heap_setCell _ _ _ _ h]) (by simp [World.setCell]) (fun k hk => HNW.out k hk)
   ·as_aux_lemma =>
     have hqn : q = most := by omega
     subst hqn
     have HSB := hidX HD.out.2
     have HEND := hidX (show ({ st with how := hLong } : Rst) = goal from by have h := HM.out.2.2.2; rw [Nat.sub_self] at h; exact h)
     have hzw : w.heap.size + 1 < W.heap.size := by have := HZ0.out; have := HZW.out; omega
     have hrx := (HF.out.block _ (by have := HZ0.out; omega)).trans HX1.out
     have y0 := cell_of_blk HD.out.1.blk 0
     have y1 := cell_of_blk HD.out.1.blk 1
     have g0 := free_of_blk HD.out.1.blk 0
     have g1 := free_of_blk HD.out.1.blk 1
     have hne1 : w.heap.size + 1 ≠ W.heap.size := by omega
     have hne2 : W.heap.size ≠ w.heap.size + 1 := by omega
     have hDe := HD.out.1.set (s' := { st with how := hLong }) rfl rfl 0 (.string ⟨#[108, 111, 110, 103]⟩) rfl
     have hbe : Below W0.heap.size W0 (wo.setCell ⟨W.heap.size, 0, none⟩ (.string ⟨#[108, 111, 110, 103]⟩)) := (HF.out.setCell (p := ⟨W.heap.size, 0, none⟩) (by show W0.heap.size ≤ W.heap.size; have := HZW.out; omega) (.string ⟨#[108, 111, 110, 103]⟩))
     have hrx2 : (wo.setCell ⟨W.heap.size, 0, none⟩ (.string ⟨#[108, 111, 110, 103]⟩)).heap[w.heap.size + 1]? = _ := ((Below.heap_setCell _ _ _ _ hne1).trans hrx)
     obtain ⟨YE, hYE⟩ : ∃ YE, YE = (wo.setCell ⟨W.heap.size, 0, none⟩ (.string ⟨#[108, 111, 110, 103]⟩)) := ⟨_, rfl⟩
     rw [← hYE] at hDe hbe hrx2
     obtain ⟨i0, i1, i2, i3, i4⟩ := cells5 hrx2
     obtain ⟨f0, f1, f2, f3, f4⟩ := free5 hrx2
     have j0 : YE.cell? ⟨W.heap.size, 0, none⟩ = some (.string ⟨#[108, 111, 110, 103]⟩) := cell_of_blk hDe.blk 0
     have j1 : YE.cell? ⟨W.heap.size, 1, none⟩ = some (.int .i64 st.val) := cell_of_blk hDe.blk 1
     have j2 : YE.cell? ⟨W.heap.size, 2, none⟩ = some (.slice oad st.out.length ocap) := cell_of_blk hDe.blk 2
     have j3 : YE.cell? ⟨W.heap.size, 3, none⟩ = some (.int .i64 st.tks) := cell_of_blk hDe.blk 3
     have j4 : YE.cell? ⟨W.heap.size, 4, none⟩ = some (.slice cad st.calls.length ccap) := cell_of_blk hDe.blk 4
     have HDE := hidX hDe
     have HBE := hidX hbe
     have HRX := hidX hrx2
     have HSE := hidX (fun b hb => (show b ≠ w.heap.size + 1 from by have := HSB.out b hb; omega))
     have HNW := hidX (fun b hb => (show w.heap.size ≤ b from by have := HSB.out b hb; omega))
     clear hDe hbe hrx hrx2
     go_wp2_with (rw [← hYE]; clear hYE y0 y1 g0 g1)
     have hx := set5_blk HRX.out (.string ⟨#[108, 111, 110, 103]⟩) (.int .i64 st.val) (.slice oad st.out.length ocap) (.int .i64 st.tks) (.slice cad st.calls.length ccap)
     have hlew : w.heap.size ≤ w.heap.size + 1 := by omega
     have hbw : Below w.heap.size w YE := bl_trans HB0.out HB0.out.size HBE.out
     have hbf := ((((hbw.setCell (p := ⟨w.heap.size + 1, 0, none⟩) (by exact hlew) (.string ⟨#[108, 111, 110, 103]⟩)).setCell (p := ⟨w.heap.size + 1, 1, none⟩) (by exact hlew) (.int .i64 st.val)).setCell (p := ⟨w.heap.size + 1, 2, none⟩) (by exact hlew) (.slice oad st.out.length ocap)).setCell (p := ⟨w.heap.size + 1, 3, none⟩) (by exact hlew) (.int .i64 st.tks)).setCell (p := ⟨w.heap.size + 1, 4, none⟩) (by exact hlew) (.slice cad st.calls.length ccap)
     refine ret_row (w.heap.size + 1) 10 _ 44 rfl rfl hx Tryz.underlying44 (by kernel_rfl) ⟨hbf, _, rfl, ?_⟩
     rw [← HEND.out]
     exact doneR_of HDE.out (fun k hk => by
      have h := HSE.out k hk
      rw [Below.heap_setCell _ _ _ _ h, Below.heap_setCell _ _ _ _ h, Below.heap_setCell _ _ _ _ h, Below.heap_setCell _ _ _ _ h, Below.heap_setCell _ _ _ _ h]) (by simp [World.setCell]) (fun k hk => HNW.out k hk)
end Go.Proofs.YtlgejjmdanmglaaGreatDoor
