/- Our own: texts joined: IntCnt, PlNew, PlNew2, Three, PlNew3. -/
import Derived.Test.YtmckajgacfjnhaaGreatDoorQBase
import Derived.Maps.OwnSet
import Derived.Maps.OwnOps
import Derived.Test.YtmckajgacfjnhaaGreatDoorQCkB
import Derived.Test.YtmckajgacfjnhaaGreatDoorQPlCode
import Derived.Test.YtmckajgacfjnhaaGreatDoorQAskX
namespace Go.Proofs.YtmckajgacfjnhaaGreatDoor
open Go.RowKit Go.Maps
theorem law_intK : Keyed Tryz.prog 3 := int_keyed Tryz.underlying3
theorem zero_intK (w : World) : (zeroValue 3).run Tryz.prog w = .ok (.int .i64 0) w := by kernel_rfl
theorem key_intK (x : Nat) (h : x ≤ 1000000) : keyOf Tryz.prog 3 (.int .i64 (x : Int)) = some (.int .i64 (x : Int)) :=
 keyOf_int_mk Tryz.underlying3 (WalkArith.wf_i64 (by omega))
def HangAt (w : World) (mb : Nat) (ks : List Nat) : Prop :=
 ∃ D : DataW Unit, w.ownsMap Tryz.prog 3 (plainElem Tryz.prog 3) mb ks.length D ∧ ∀ x : Nat, x ≤ 1000000 → D.atKey (.int .i64 (x : Int)) (.lit (.int .i64 0)) = .lit (.int .i64 (ks.count x : Nat))
theorem HangAt.isMap {w : World} {mb : Nat} {ks : List Nat} (h : HangAt w mb ks) : ∃ es clock, w.heap[mb]? = some (.map es clock) := by
 obtain ⟨D, ⟨es, clock, h1, _⟩, _⟩ := h
 exact ⟨es, clock, h1⟩
theorem HangAt.lt {w : World} {mb : Nat} {ks : List Nat} (h : HangAt w mb ks) : mb < w.heap.size := by
 obtain ⟨es, clock, h1⟩ := h.isMap; exact heap_lt h1
theorem HangAt.keep {w w' : World} {mb : Nat} {ks : List Nat} (h : HangAt w mb ks) (hb : w'.heap[mb]? = w.heap[mb]?) : HangAt w' mb ks := by
 obtain ⟨D, ⟨es, clock, h1, r⟩, h2⟩ := h
 exact ⟨D, ⟨es, clock, hb.trans h1, r⟩, h2⟩
theorem hang_made (w : World) : HangAt (w.alloc (.map #[] 0)) w.heap.size [] :=
 ⟨.map [], World.ownsMap_made _ _ _ _, fun x _ => by simp [DataW.atKey]⟩
theorem HangAt.look {w : World} {mb : Nat} {ks : List Nat} (h : HangAt w mb ks) (x : Nat) (hx : x ≤ 1000000) (X : World) (hX : X.heap[mb]? = w.heap[mb]?) :
  (Instr.lookup 70 (.map (some mb)) (.int .i64 (x : Int)) false).run Tryz.prog X = .ok (.int .i64 (ks.count x : Nat)) X := by
 obtain ⟨D, h1, h2⟩ := h.keep hX
 obtain ⟨d, hrun, hat, _⟩ := h1.lookup_int law_intK Tryz.underlying70 Tryz.underlying3 (zero_intK X) (key_intK x hx)
 rw [h2 x hx] at hat
 simp only [DataW.lit.injEq, Lit.int.injEq, true_and] at hat
 rw [hrun, hat]
theorem keyLitK (x : Nat) (h : x ≤ 1000000) : WideAt.IsKeyLit (.int .i64 (x : Int)) := law_intK.key (key_intK x h)
theorem HangAt.add {w : World} {mb : Nat} {ks : List Nat} (h : HangAt w mb ks) (hl : ks.length ≤ 1000000) (x : Nat) (hx : x ≤ 1000000) :
  ∃ W1, (Instr.mapUpdate 70 (.map (some mb)) (.int .i64 (x : Int)) (.int .i64 ((ks.count x : Nat) + 1))).run Tryz.prog w = .ok () W1 ∧ w.grownBy W1 (some mb) ∧ HangAt W1 mb (x :: ks) := by
 obtain ⟨D, h1, h2⟩ := h
 have hc : ks.count x ≤ ks.length := List.count_le_length
 obtain ⟨w', u1, u2, u3⟩ := h1.update law_intK Tryz.underlying70 (by unfold maxLen; omega) (key_intK x hx) (plainElem_int Tryz.underlying3 (WalkArith.wf_i64 (n := ((ks.count x : Nat) : Int) + 1) (by omega)))
 refine ⟨w', u1, u3, _, by simpa using u2, fun y hy => ?_⟩
 by_cases e : y = x
 ·subst e
  rw [Maps.atKey_put_same h1.isMap (keyLitK _ hx)]; simp
 ·rw [Maps.atKey_put_other (fun e' => e (by simp only [Lit.int.injEq, true_and] at e'; omega)), h2 y hy, List.count_cons_of_ne (Ne.symm e)]
end Go.Proofs.YtmckajgacfjnhaaGreatDoor
namespace Go.Proofs.YtmckajgacfjnhaaGreatDoor
open Go.RowKit Go.Maps
theorem newB_range (l : List Int) : ∀ prev : List Int, newB prev l = (List.range l.length).all fun q => !(prev ++ l.take q).contains (l.getD q 0) := by
 induction l with
 | nil => intro prev; rfl
 | cons x r ih =>
  intro prev
  rw [newB, ih (prev ++ [x]), List.length_cons, List.range_succ_eq_map, List.all_cons]
  simp [List.all_map, Function.comp_def, List.append_assoc]
theorem insD_nil : insD [] = [] := rfl
theorem newB_insD (l : List Pi) : ∀ prev : List Int, newB prev (insD l) = (List.range l.length).all fun q => !(psh (l.getD q piD).kind).d || !(prev ++ insD (l.take q)).contains (l.getD q piD).d := by
 induction l with
 | nil => intro prev; rfl
 | cons x r ih =>
  intro prev
  rw [insD_cons, List.length_cons, List.range_succ_eq_map, List.all_cons]
  cases hd : (psh x.kind).d
  ·rw [if_neg (by simp), ih prev]
   simp [List.all_map, Function.comp_def, hd, insD_cons]
  ·rw [if_pos rfl, newB, ih (prev ++ [x.d])]
   simp [List.all_map, Function.comp_def, hd, insD_cons, insD_nil, List.append_assoc]
set_option maxRecDepth 100000 in
set_option maxHeartbeats 4000000 in
theorem isNew_any {X : World} {cp kb mb : Nat} {nm : List UInt8} {P V : Int} {bv : Value} (hk : X.heap[cp]? = some (.cells (ckV nm P V bv (.map (some mb))) 72 (0, 0))) (hb : X.heap[kb]? = some (.cells #[.pointer (some ⟨cp, 0, none⟩)] 69 (0, 0))) {ks : List Nat} (hM : HangAt X mb ks) (hl : ks.length ≤ 1000000) (hcm : cp ≠ mb) (hkm : kb ≠ mb) (x : Nat) (hx : x ≤ 1000000) :
  Calls Tryz.prog 65 #[.int .i64 (x : Int), .pointer (some ⟨kb, 0, none⟩)] X fun e w' => e = .returned (.bool (!ks.contains x)) ∧ ButP (fun k => k = mb) X w' ∧ HangAt w' mb (x :: ks) := by
 have k4 : X.cell? ⟨cp, 4, none⟩ = some (.map (some mb)) := cell_of_blk hk 4
 have kb0 : X.cell? ⟨kb, 0, none⟩ = some (.pointer (some ⟨cp, 0, none⟩)) := cell_of_blk hb 0
 obtain ⟨W1, hrun, hg, hM1⟩ := hM.add hl x hx
 have hlk := hM.look x hx X rfl
 have hb1 : ButP (fun k => k = mb) X W1 := ⟨hg.os, hg.tape, hg.output, hg.size, fun k hk hne => hg.block k hk (fun e => hne (by injection e with e))⟩
 have j4 : W1.cell? ⟨cp, 4, none⟩ = some (.map (some mb)) := (World.cell?_of_block (w := X) (a := ⟨cp, _, none⟩) (hb1.block cp (heap_lt hk) hcm)).trans k4
 have jb0 : W1.cell? ⟨kb, 0, none⟩ = some (.pointer (some ⟨cp, 0, none⟩)) := (World.cell?_of_block (w := X) (a := ⟨kb, _, none⟩) (hb1.block kb (heap_lt hb) hkm)).trans kb0
 have hlk1 := hM1.look x hx W1 rfl
 rw [List.count_cons_self] at hlk1
 have hcb : ks.count x ≤ 1000000 := Nat.le_trans List.count_le_length hl
 have HR := hidX (show (((ks.count x + 1 : Nat) : Int) == 1) = !ks.contains x from by
  rw [Bool.eq_iff_iff]
  simp
  rw [← List.count_eq_zero]
  omega)
 have HB1 := hidX hb1
 have HM1 := hidX hM1
 generalize ks.count x = n at *
 have hcb' : (n : Int) ≤ 1000000 := by omega
 clear hk hb hM hl hcm hkm hg hM1 hb1 hcb
 go_enter Tryz.func65, Tryz.ntmps65
 go_wp2
 go_ret
 exact ⟨by rw [← HR.out]; simp, HB1.out, HM1.out⟩
theorem natL_has {l : List Int} (h : ∀ y ∈ l, 0 ≤ y) (x : Nat) : (natL l).reverse.contains x = l.contains (x : Int) := by
 rw [Bool.eq_iff_iff]
 simp only [List.contains_iff_mem, List.mem_reverse]
 exact mem_natL h x
theorem natL_snoc (l : List Int) (x : Nat) : (natL (l ++ [(x : Int)])).reverse = x :: (natL l).reverse := by simp [natL]
theorem natL_lenR (l : List Int) : (natL l).reverse.length = l.length := by simp [natL]
theorem allNewI {w : World} {cp kb mb : Nat} {nm : List UInt8} {P V : Int} {bv : Value} (hk : w.heap[cp]? = some (.cells (ckV nm P V bv (.map (some mb))) 72 (0, 0))) (hb : w.heap[kb]? = some (.cells #[.pointer (some ⟨cp, 0, none⟩)] 69 (0, 0))) (hcm : cp ≠ mb) (hkm : kb ≠ mb) (prev : List Int) (hp0 : ∀ y ∈ prev, 0 ≤ y) (hpl : prev.length ≤ 500000) (hM : HangAt w mb (natL prev).reverse) {A : Nat → Prop} {ad : Option Addr} {cap : Nat} (l : List Int) (hl : l.length ≤ 1000) (hl0 : ∀ y ∈ l, 0 ≤ y ∧ y ≤ 1000000) (hrow : XRow A w (.slice ad l.length cap) l.length (intsG l)) (hA : ∀ b, A b → b < w.heap.size ∧ b ≠ mb) :
  Calls Tryz.prog 60 #[.slice ad l.length cap, .func (.func 65) #[] #[.pointer (some ⟨kb, 0, none⟩)]] w fun e w' => e = .returned (.bool (newB prev l)) ∧ ButP (fun k => k = mb) w w' ∧ (newB prev l = true → HangAt w' mb (natL (prev ++ l)).reverse) := by
 have hso : SoC w l.length (fun k => k = mb) 65 #[] #[.pointer (some ⟨kb, 0, none⟩)] (fun q => .int .i64 (l.getD q 0)) (fun q => !(prev ++ l.take q).contains (l.getD q 0)) (fun q X => HangAt X mb (natL (prev ++ l.take q)).reverse ∧ ButP (fun k => k = mb) w X) (fun X => ButP (fun k => k = mb) w X) := by
  refine ⟨enters_of Tryz.func65 (by kernel_rfl) rfl, fun k h => by rw [h]; exact hM.lt, fun q X Y h k => ⟨h.1.keep (k.block _ h.1.lt), h.2.trans (ButP.of (S := fun k => k = mb) k) (fun x hx => Or.inl hx)⟩, fun q X hq hJ _ => ?_⟩
  have hxq := hl0 _ (List.getElem_mem hq)
  obtain ⟨xn, hxn⟩ : ∃ xn : Nat, l[q] = (xn : Int) := ⟨l[q].toNat, by omega⟩
  have hg : l.getD q 0 = (xn : Int) := by simp [List.getD, hq, hxn]
  have htk : l.take (q + 1) = l.take q ++ [(xn : Int)] := by rw [← hxn]; exact List.take_succ_eq_append_getElem hq
  have hall : ∀ y ∈ prev ++ l.take q, 0 ≤ y := fun y hy => by
   rcases List.mem_append.1 hy with h | h
   ·exact hp0 y h
   ·exact (hl0 y (List.mem_of_mem_take h)).1
  have h := isNew_any ((hJ.2.block _ (heap_lt hk) hcm).trans hk) ((hJ.2.block _ (heap_lt hb) hkm).trans hb) hJ.1 (by rw [natL_lenR, List.length_append, List.length_take]; omega) hcm hkm xn (by omega)
  rw [natL_has hall] at h
  have h2 := h.mono (fun e w' h => (show e = .returned (.bool (!(prev ++ l.take q).contains (l.getD q 0))) ∧ ButP (fun k => k = mb) X w' ∧ ((!(prev ++ l.take q).contains (l.getD q 0)) = true → HangAt w' mb (natL (prev ++ l.take (q + 1))).reverse ∧ ButP (fun k => k = mb) w w') ∧ ((!(prev ++ l.take q).contains (l.getD q 0)) = false → ButP (fun k => k = mb) w w') from by
   have hbw := hJ.2.trans h.2.1 (fun x hx => Or.inl hx)
   exact ⟨by rw [hg]; exact h.1, h.2.1, fun _ => ⟨by rw [htk, ← List.append_assoc, natL_snoc]; exact h.2.2, hbw⟩, fun _ => hbw⟩))
  rw [← hg] at h2
  simpa using h2
 refine (allI_any (ad := ad) (cap := cap) hso (by omega) ⟨by simpa using hM, ButP.refl' _ _⟩ hrow hA ⟨rfl, fun q hq => by simp [List.getD, hq]⟩).mono ?_
 rintro e W' ⟨r, rfl, h1, h2, h3, h4⟩
 rw [← newB_range] at h1
 subst h1
 refine ⟨rfl, h2, fun h => ?_⟩
 have := (h3 h).1
 rwa [List.take_length] at this
end Go.Proofs.YtmckajgacfjnhaaGreatDoor
namespace Go.Proofs.YtmckajgacfjnhaaGreatDoor
open Go.RowKit Go.Maps
theorem TabP.but {w w' : World} {mb : Nat} (h : TabP w) (hb : ButP (fun k => k = mb) w w') (hg : 12 ≠ mb) : TabP w' := by
 obtain ⟨t, ht⟩ := h.tab
 exact ⟨t, (hb.block _ (heap_lt ht) hg).trans ht⟩
set_option maxRecDepth 100000 in
set_option maxHeartbeats 4000000 in
theorem new2_any {X : World} {cp kb nb mb : Nat} {nm : List UInt8} {P V : Int} {bv : Value} (hT : TabP X) (hk : X.heap[cp]? = some (.cells (ckV nm P V bv (.map (some mb))) 72 (0, 0))) (hb : X.heap[kb]? = some (.cells #[.pointer (some ⟨cp, 0, none⟩)] 69 (0, 0))) (hnb : X.heap[nb]? = some (.cells #[.func (.func 65) #[] #[.pointer (some ⟨kb, 0, none⟩)]] 129 (0, 0))) {ks : List Nat} (hM : HangAt X mb ks) (hl : ks.length ≤ 1000000) (hcm : cp ≠ mb) (hkm : kb ≠ mb) (x : Pi) (hx : (psh x.kind).d = true → 0 ≤ x.d ∧ x.d ≤ 1000000) (ad : Option Addr) (cap : Nat) :
  Calls Tryz.prog 66 #[.agg #[.string ⟨x.kind.toArray⟩, .int .i64 x.d, .slice ad x.args.length cap, .int .i64 x.num, .string ⟨x.name.toArray⟩], .pointer (some ⟨nb, 0, none⟩)] X fun e w' => e = .returned (.bool (!(psh x.kind).d || !ks.contains x.d.toNat)) ∧ ButP (fun k => k = mb) X w' ∧ HangAt w' mb (if (psh x.kind).d then x.d.toNat :: ks else ks) := by
 obtain ⟨k, d, args, num, name⟩ := x
 simp only at hx ⊢
 obtain ⟨W1, hW1⟩ : ∃ W1, W1 = X.alloc (.cells #[.string ⟨k.toArray⟩, .int .i64 d, .slice ad args.length cap, .int .i64 num, .string ⟨name.toArray⟩] 52) := ⟨_, rfl⟩
 have hb1 : Below X.heap.size X W1 := by rw [hW1]; (repeat (first | exact Below.refl _ _ | assumption | refine Below.drew ?_ | refine bT ?_ _ | refine bS ?_ _ | refine bA ?_ _))
 have hx1 : W1.heap[X.heap.size]? = some (.cells #[.string ⟨k.toArray⟩, .int .i64 d, .slice ad args.length cap, .int .i64 num, .string ⟨name.toArray⟩] 52 (0, 0)) := by rw [hW1]; exact heap_alloc_new _ _
 have HSH := hidX (shapeOf_val k W1 (hT.below hb1))
 have hf := fsh2 (psh k).kind (psh k).args (psh k).d (psh k).num (psh k).name
 have c0 : W1.cell? ⟨X.heap.size, 0, none⟩ = some (.string ⟨k.toArray⟩) := cell_of_blk hx1 0
 have HX := hidX (fun (Y : World) (hY : Below W1.heap.size W1 Y) => (show Y.cell? ⟨X.heap.size, 1, none⟩ = some (.int .i64 d) ∧ Y.cell? ⟨nb, 0, none⟩ = some (.func (.func 65) #[] #[.pointer (some ⟨kb, 0, none⟩)]) from by
  have h := (hY.block _ (heap_lt hx1)).trans hx1
  have h2 := ((bl_trans hb1 hb1.size hY).block _ (heap_lt hnb)).trans hnb
  exact ⟨cell_of_blk h 1, cell_of_blk h2 0⟩))
 have HUP := hidX (fun (Y : World) (hY : Below W1.heap.size W1 Y) => bl_trans hb1 hb1.size hY)
 have HNW := hidX (fun (Y : World) (hY : Below W1.heap.size W1 Y) (xn : Nat) (hx : xn ≤ 1000000) => isNew_any ((((HUP.out Y hY)).block _ (heap_lt hk)).trans hk) (((HUP.out Y hY).block _ (heap_lt hb)).trans hb) (hM.keep ((HUP.out Y hY).block _ hM.lt)) hl hcm hkm xn hx)
 have HM := hidX hM
 generalize (psh k).kind = sk at *
 generalize (psh k).args = sa at *
 generalize (psh k).d = sd at *
 generalize (psh k).num = sn at *
 generalize (psh k).name = sm at *
 clear hb1 hx1 hT hk hb hnb hM hl hcm hkm
 cases sd
 ·go_enter Tryz.func66, Tryz.ntmps66
  go_wp2_with fail
  rw [← hW1]
  clear hW1
  refine HSH.out.mono ?_
  rintro e W2 ⟨rfl, hb2⟩
  have HF := hidX (HUP.out W2 hb2)
  clear hb2 c0 hx
  go_wp2
  go_ret
  exact ⟨by first | rfl | (simp; done), ButP.of HF.out, by simpa using HM.out.keep (HF.out.block _ HM.out.lt)⟩
 ·obtain ⟨h0, h1⟩ := hx rfl
  obtain ⟨xn, rfl⟩ : ∃ xn : Nat, d = (xn : Int) := ⟨d.toNat, by omega⟩
  rw [Int.toNat_natCast]
  have hxl : xn ≤ 1000000 := by omega
  go_enter Tryz.func66, Tryz.ntmps66
  go_wp2_with fail
  rw [← hW1]
  clear hW1
  refine HSH.out.mono ?_
  rintro e W2 ⟨rfl, hb2⟩
  obtain ⟨d1, n0⟩ := HX.out W2 hb2
  have HN2 := hidX (HNW.out W2 hb2 xn hxl)
  have HF := hidX (HUP.out W2 hb2)
  clear hb2 c0 hx
  go_wp2_with fail
  refine HN2.out.mono ?_
  rintro e W3 ⟨rfl, hb3, hm3⟩
  have HB3 := hidX ((ButP.of (S := fun k => k = mb) HF.out).trans hb3 (fun x hx => Or.inl hx))
  have HM3 := hidX hm3
  clear hb3 hm3
  go_wp2
  go_ret
  exact ⟨by first | rfl | (simp; done), HB3.out, by simpa using HM3.out⟩
theorem newB_append (a : List Int) : ∀ (prev r : List Int), newB prev (a ++ r) = (newB prev a && newB (prev ++ a) r) := by
 induction a with
 | nil => intro prev r; simp [newB]
 | cons x t ih =>
  intro prev r
  rw [List.cons_append, newB, newB, ih (prev ++ [x]) r, Bool.and_assoc, List.append_assoc]
  rfl
theorem insD_mem {l : List Pi} {y : Int} (h : y ∈ insD l) : ∃ x ∈ l, (psh x.kind).d = true ∧ x.d = y := by
 unfold insD at h
 obtain ⟨x, hx, rfl⟩ := List.mem_map.1 h
 exact ⟨x, (List.mem_filter.1 hx).1, (List.mem_filter.1 hx).2, rfl⟩
theorem insD_len (l : List Pi) : (insD l).length ≤ l.length := by
 unfold insD; rw [List.length_map]; exact List.length_filter_le _ _
theorem allNewN {w : World} {cp kb nb mb : Nat} {nm : List UInt8} {P V : Int} {bv : Value} (hT : TabP w) (hgm : 12 ≠ mb) (hk : w.heap[cp]? = some (.cells (ckV nm P V bv (.map (some mb))) 72 (0, 0))) (hb : w.heap[kb]? = some (.cells #[.pointer (some ⟨cp, 0, none⟩)] 69 (0, 0))) (hnb : w.heap[nb]? = some (.cells #[.func (.func 65) #[] #[.pointer (some ⟨kb, 0, none⟩)]] 129 (0, 0))) (hcm : cp ≠ mb) (hkm : kb ≠ mb) (hnm : nb ≠ mb) (prev : List Int) (hp0 : ∀ y ∈ prev, 0 ≤ y) (hpl : prev.length ≤ 500000) (hM : HangAt w mb (natL prev).reverse) {A : Nat → Prop} {ad : Option Addr} {cap : Nat} (l : List Pi) (hl : l.length ≤ 1000) (hl0 : ∀ x ∈ l, (psh x.kind).d = true → 0 ≤ x.d ∧ x.d ≤ 1000000) (hrow : XIs A w (.slice ad l.length cap) l) (hA : ∀ b, A b → b < w.heap.size ∧ b ≠ mb) :
  Calls Tryz.prog 53 #[.slice ad l.length cap, .func (.func 66) #[] #[.pointer (some ⟨nb, 0, none⟩)]] w fun e w' => e = .returned (.bool (newB prev (insD l))) ∧ ButP (fun k => k = mb) w w' ∧ (newB prev (insD l) = true → HangAt w' mb (natL (prev ++ insD l)).reverse) := by
 obtain ⟨el, hel⟩ := hrow.els
 have hso : SoC w l.length (fun k => k = mb) 66 #[] #[.pointer (some ⟨nb, 0, none⟩)] el (fun q => !(psh (l.getD q piD).kind).d || !(prev ++ insD (l.take q)).contains (l.getD q piD).d) (fun q X => HangAt X mb (natL (prev ++ insD (l.take q))).reverse ∧ ButP (fun k => k = mb) w X) (fun X => ButP (fun k => k = mb) w X) := by
  refine ⟨enters_of Tryz.func66 (by kernel_rfl) rfl, fun k h => by rw [h]; exact hM.lt, fun q X Y h k => ⟨h.1.keep (k.block _ h.1.lt), h.2.trans (ButP.of (S := fun k => k = mb) k) (fun x hx => Or.inl hx)⟩, fun q X hq hJ _ => ?_⟩
  obtain ⟨g, off, ad1, cap1, _, _, _, _, _, _, _, _, hv⟩ := hel q hq
  have hxq := hl0 _ (List.getElem_mem hq)
  have hg : l.getD q piD = l[q] := by simp [List.getD, hq]
  have hll := insD_len (l.take q)
  have his : insD (l.take (q + 1)) = if (psh l[q].kind).d then insD (l.take q) ++ [l[q].d] else insD (l.take q) := by
   rw [List.take_succ_eq_append_getElem hq]; exact insD_snoc _ _
  have hall : ∀ y ∈ prev ++ insD (l.take q), 0 ≤ y := fun y hy => by
   rcases List.mem_append.1 hy with h | h
   ·exact hp0 y h
   ·obtain ⟨x, hx, hd, rfl⟩ := insD_mem h
    exact (hl0 x (List.mem_of_mem_take hx) hd).1
  have h := new2_any (hT.but hJ.2 hgm) ((hJ.2.block _ (heap_lt hk) hcm).trans hk) ((hJ.2.block _ (heap_lt hb) hkm).trans hb) ((hJ.2.block _ (heap_lt hnb) hnm).trans hnb) hJ.1 (by rw [natL_lenR, List.length_append]; rw [List.length_take] at hll; omega) hcm hkm l[q] hxq ad1 cap1
  rw [natL_has hall] at h
  rw [hv, hg]
  generalize l[q] = x at *
  have h2 := h.mono (fun e w' h => (show e = .returned (.bool (!(psh x.kind).d || !(prev ++ insD (l.take q)).contains x.d)) ∧ ButP (fun k => k = mb) X w' ∧ ((!(psh x.kind).d || !(prev ++ insD (l.take q)).contains x.d) = true → HangAt w' mb (natL (prev ++ insD (l.take (q + 1)))).reverse ∧ ButP (fun k => k = mb) w w') ∧ ((!(psh x.kind).d || !(prev ++ insD (l.take q)).contains x.d) = false → ButP (fun k => k = mb) w w') from by
   have hbw := hJ.2.trans h.2.1 (fun x hx => Or.inl hx)
   obtain ⟨h1, h2, h3⟩ := h
   cases hd : (psh x.kind).d
   ·rw [hd] at h1 h3 his
    rw [if_neg (by simp)] at h3 his
    exact ⟨by simpa using h1, h2, fun _ => ⟨by rw [his]; exact h3, hbw⟩, fun _ => hbw⟩
   ·have hx0 := hxq hd
    have hxt : ((x.d.toNat : Nat) : Int) = x.d := by omega
    rw [hd] at h1 h3 his
    rw [if_pos rfl] at h3 his
    rw [hxt] at h1
    exact ⟨by simpa using h1, h2, fun _ => ⟨by rw [his, ← List.append_assoc, ← hxt, natL_snoc]; exact h3, hbw⟩, fun _ => hbw⟩))
  simpa using h2
 refine (allN_any (ad := ad) (cap := cap) hso (by omega) ⟨by simpa [insD_nil] using hM, ButP.refl' _ _⟩ (l := l) rfl (A := A) hA (fun q hq => by
  obtain ⟨g, off, ad1, cap1, e, hg, _, k0, k1, k2, k3, k4, hv⟩ := hel q hq
  exact ⟨g, off, ad1, cap1, e, hg, k0, k1, k2, k3, k4, hv⟩)).mono ?_
 rintro e W' ⟨r, rfl, h1, h2, h3, h4⟩
 rw [← newB_insD] at h1
 subst h1
 refine ⟨rfl, h2, fun h => ?_⟩
 have := (h3 h).1
 rwa [List.take_length] at this
end Go.Proofs.YtmckajgacfjnhaaGreatDoor
namespace Go.Proofs.YtmckajgacfjnhaaGreatDoor
open Go.RowKit
theorem threeG (w : World) (x y z : Obj) : (((w.alloc x).alloc y).alloc z).heap[w.heap.size]? = some x ∧ (((w.alloc x).alloc y).alloc z).heap[w.heap.size + 1]? = some y ∧ (((w.alloc x).alloc y).alloc z).heap[w.heap.size + 2]? = some z := by
 refine ⟨?_, ?_, ?_⟩
 ·rw [Below.heap_alloc _ _ _ (by simp; omega), Below.heap_alloc _ _ _ (by simp), heap_alloc_new]
 ·rw [Below.heap_alloc _ _ _ (by simp)]
  have := heap_alloc_new (w.alloc x) y
  rwa [show (w.alloc x).heap.size = w.heap.size + 1 by simp] at this
 ·have := heap_alloc_new ((w.alloc x).alloc y) z
  rwa [show ((w.alloc x).alloc y).heap.size = w.heap.size + 2 by simp] at this
end Go.Proofs.YtmckajgacfjnhaaGreatDoor
namespace Go.Proofs.YtmckajgacfjnhaaGreatDoor
open Go.RowKit Go.Maps
set_option maxRecDepth 100000 in
set_option maxHeartbeats 4000000 in
theorem makesNew_any {w : World} {cp mb : Nat} {nm : List UInt8} {P V : Int} {bv : Value} (hT : TabP w) (hgm : 12 ≠ mb) (hk : w.heap[cp]? = some (.cells (ckV nm P V bv (.map (some mb))) 72 (0, 0))) (hcm : cp ≠ mb) (prev : List Int) (hp0 : ∀ y ∈ prev, 0 ≤ y) (hpl : prev.length ≤ 400000) (hM : HangAt w mb (natL prev).reverse) (b : Pb) (hlow : LowB b) (hbp : ∀ x ∈ b.params, 0 ≤ x ∧ x ≤ 1000000) (hbi : ∀ x ∈ b.ins, (psh x.kind).d = true → 0 ≤ x.d ∧ x.d ≤ 1000000) (pa ia ta wa : Option Addr) (pc ic tc wq : Nat) {A : Nat → Prop} (hA : ∀ b, A b → b < w.heap.size ∧ b ≠ mb)
  (hP : XRow A w (.slice pa b.params.length pc) b.params.length (intsG b.params)) (hI : XIs A w (.slice ia b.ins.length ic) b.ins) :
  Calls Tryz.prog 37 #[.pointer (some ⟨cp, 0, none⟩), .agg #[.slice pa b.params.length pc, .slice ia b.ins.length ic, .string ⟨b.fin.toArray⟩, .int .i64 b.v, .slice ta b.tos.length tc, .slice wa b.wi.length wq]] w fun e w' => e = .returned (.bool (newB prev (defsB b))) ∧ ButP (fun k => k = mb) w w' ∧ (newB prev (defsB b) = true → HangAt w' mb (natL (prev ++ defsB b)).reverse) := by
 obtain ⟨W1, hW1⟩ : ∃ W1, W1 = ((w.alloc (.cells #[.pointer (some ⟨cp, 0, none⟩)] 69)).alloc (.cells #[.slice pa b.params.length pc, .slice ia b.ins.length ic, .string ⟨b.fin.toArray⟩, .int .i64 b.v, .slice ta b.tos.length tc, .slice wa b.wi.length wq] 56)).alloc (.cells #[.func (.func 65) #[] #[.pointer (some ⟨w.heap.size, 0, none⟩)]] 129) := ⟨_, rfl⟩
 obtain ⟨x0, x1, x2⟩ := threeG w (.cells #[.pointer (some ⟨cp, 0, none⟩)] 69) (.cells #[.slice pa b.params.length pc, .slice ia b.ins.length ic, .string ⟨b.fin.toArray⟩, .int .i64 b.v, .slice ta b.tos.length tc, .slice wa b.wi.length wq] 56) (.cells #[.func (.func 65) #[] #[.pointer (some ⟨w.heap.size, 0, none⟩)]] 129)
 rw [← hW1] at x0 x1 x2
 have hst : ∀ Y, (store ⟨w.heap.size + 1 + 1, 0, none⟩ (.func (.func 65) #[] #[.pointer (some ⟨w.heap.size, 0, none⟩)])).run Tryz.prog Y = _ := fun Y => run_store Tryz.prog Y ⟨w.heap.size + 1 + 1, 0, none⟩ (.func (.func 65) #[] #[.pointer (some ⟨w.heap.size, 0, none⟩)]) _ rfl
 have hb1 : Below w.heap.size w W1 := by rw [hW1]; (repeat (first | exact Below.refl _ _ | assumption | refine Below.drew ?_ | refine bT ?_ _ | refine bS ?_ _ | refine bA ?_ _))
 have hml := hM.lt
 have hk1 := (hb1.block _ (heap_lt hk)).trans hk
 have hM1 : HangAt W1 mb (natL prev).reverse := hM.keep (hb1.block _ hml)
 have hkeep : KeepA A w W1 := fun b hb => hb1.block b (hA b hb).1
 have hA1 : ∀ b, A b → b < W1.heap.size ∧ b ≠ mb := fun b hb => ⟨by have := (hA b hb).1; have := hb1.size; omega, (hA b hb).2⟩
 have HN1 := hidX (allNewI hk1 x0 hcm (by omega) prev hp0 (by omega) hM1 b.params (by have := hlow.params; omega) hbp (hP.imp (fun _ h => h) hkeep) hA1)
 have hpp : ∀ y ∈ prev ++ b.params, 0 ≤ y := fun y hy => by
  rcases List.mem_append.1 hy with h | h
  ·exact hp0 y h
  ·exact (hbp y h).1
 have HN2 := hidX (fun (Y : World) (hY : ButP (fun k => k = mb) W1 Y) (hMY : HangAt Y mb (natL (prev ++ b.params)).reverse) => allNewN ((hT.below hb1).but hY hgm) hgm ((hY.block _ (heap_lt hk1) hcm).trans hk1) ((hY.block _ (heap_lt x0) (by omega)).trans x0) ((hY.block _ (heap_lt x2) (by omega)).trans x2) hcm (by omega) (by omega) (prev ++ b.params) hpp (by have := hlow.params; rw [List.length_append]; omega) hMY b.ins (by have := hlow.ins; omega) hbi (hI.imp (fun _ h => h) (fun b hb => (hY.block b (hA1 b hb).1 (hA1 b hb).2).trans (hkeep b hb))) (fun b hb => ⟨by have := (hA1 b hb).1; have := hY.size; omega, (hA1 b hb).2⟩))
 have HNB := hidX (show newB prev (defsB b) = (newB prev b.params && newB (prev ++ b.params) (insD b.ins)) from by rw [defs_is, newB_append])
 have HDF := hidX (show prev ++ defsB b = prev ++ b.params ++ insD b.ins from by rw [defs_is, List.append_assoc])
 have f0 : W1.cell? ⟨w.heap.size + 1, 0, none⟩ = some (.slice pa b.params.length pc) := cell_of_blk x1 0
 have f9 : W1.cell? ⟨w.heap.size + 2, 0, none⟩ = some (.func (.func 65) #[] #[.pointer (some ⟨w.heap.size, 0, none⟩)]) := cell_of_blk x2 0
 have HX1 := hidX x1
 have hl1 := heap_lt x1
 have HMB := hidX (show w.heap.size + 1 ≠ mb from by omega)
 have HB1 := hidX (ButP.of (S := fun k => k = mb) hb1)
 rw [HNB.out, HDF.out]
 clear hT hk hM hA hP hI hlow hbp hbi hb1 hk1 hM1 hkeep hA1 x0 x1 x2 hpp hml HNB HDF
 generalize newB prev b.params = n1 at *
 generalize newB (prev ++ b.params) (insD b.ins) = n2 at *
 go_enter Tryz.func37, Tryz.ntmps37
 go_wp2_with fail
 rw [← hW1]
 clear hW1 hst
 refine HN1.out.mono ?_
 rintro e Y1 ⟨rfl, hy1, hm1⟩
 have f1 : Y1.cell? ⟨w.heap.size + 1, 1, none⟩ = some (.slice ia b.ins.length ic) := cell_of_blk ((hy1.block _ hl1 HMB.out).trans HX1.out) 1
 have HY1 := hidX (HB1.out.trans hy1 (fun x hx => Or.inl hx))
 cases n1
 ·clear hy1 hm1 f0 f9
  go_wp2
  go_ret
  exact ⟨by first | rfl | (simp; done), HY1.out, fun h => absurd h (by simp)⟩
 ·have HN3 := hidX (HN2.out Y1 hy1 (hm1 rfl))
  clear hy1 hm1 f0 f9
  go_wp2_with fail
  refine HN3.out.mono ?_
  rintro e Y2 ⟨rfl, hy2, hm2⟩
  have HY2 := hidX (HY1.out.trans hy2 (fun x hx => Or.inl hx))
  have HM2 := hidX hm2
  clear hy2 hm2
  go_wp2
  go_ret
  exact ⟨by first | rfl | (simp; done), HY2.out, fun h => HM2.out (by simpa using h)⟩
end Go.Proofs.YtmckajgacfjnhaaGreatDoor
