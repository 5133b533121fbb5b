/- Our own: texts joined: PlLeave. -/
import Derived.Test.YtmckajgacfjnhaaGreatDoorQAskAll
import Derived.Deep.RegionHeld3
namespace Go.Proofs.YtmckajgacfjnhaaGreatDoor
open Go.RowKit
structure LeaveB (V : Nat) (L : List Pb) (b : Pb) : Prop where
 fin : b.fin = gJump ∨ b.fin = gIf ∨ b.fin = gReturn
 ways : b.tos.length = if b.fin = gJump then 1 else if b.fin = gIf then 2 else 0
 wil : b.wi.length = b.tos.length
 v : b.fin ≠ gJump → 0 ≤ b.v ∧ b.v < (V : Int)
 tos : ∀ x ∈ b.tos, 0 ≤ x ∧ x < (L.length : Int)
 wi : ∀ l ∈ b.wi, l.length ≤ 1000 ∧ ∀ x ∈ l, 0 ≤ x ∧ x < (V : Int)
 fit : ∀ i, i < b.tos.length → (b.wi.getD i []).length = (blkAt L (b.tos.getD i 0)).params.length
 par : ∀ c ∈ L, ∀ x ∈ c.params, 0 ≤ x ∧ x < (V : Int)
theorem ask_none {g : Nat → Option Int} {v : Int} (h : g v.toNat = none) : askX g (natL [v]) = none := by simp [askX, natL, h]
theorem ask_some {g : Nat → Option Int} {v y : Int} (h : g v.toNat = some y) : askX g (natL [v]) = some [y] := by simp [askX, natL, h]
def Now (D : Nat → Prop) (X : World) : Nat → Prop := fun b => D b ∧ b < X.heap.size
section
variable {D D' : Nat → Prop} {S : Nat → Prop} {X Y : World} {wb rb vb : Nat} {argv ansv askv : Value} {ba : Option Addr} {bc : Nat} {s : Rst} {most steps : Int} {vl : List (Int × Bool)} {ac : List Int} {L : List Pb} {A : Nat → Prop} {bv : Value}
theorem PkJ.now (h : PkJ D S X wb rb vb bv argv ansv askv s most steps vl ac) : PkJ (Now D X) S X wb rb vb bv argv ansv askv s most steps vl ac :=
 ⟨h.blk, h.vals, h.recd, h.asks, h.ne1, h.ne2, h.ne3, h.in_ _ (Or.inl rfl), h.in_ _ (Or.inr (Or.inl rfl)), h.in_ _ (Or.inr (Or.inr (Or.inl rfl))), fun b e => ⟨h.in_ b (Or.inr (Or.inr (Or.inr (Or.inl e)))), (h.ls b e).2⟩, fun b e => ⟨h.in_ b (Or.inr (Or.inr (Or.inr (Or.inr e)))), (h.own b e).2⟩⟩
theorem WayTo.back {n : Nat} {r : Rst × (Nat → Option Int) × Nat} {e : Ending} {w' : World} (hb : ButP D X Y) (hD : ∀ b, D' b → D b ∨ X.heap.size ≤ b) (h : WayTo D' Y wb rb vb bv argv ansv most steps n r e w') : WayTo D X wb rb vb bv argv ansv most steps n r e w' := by
 obtain ⟨h1, h2, vl', h3, h4, h5⟩ := h
 exact ⟨hb.trans h1 hD, h2, vl', h3, h4, h5.mono (fun b e => e.elim (fun e => hD b e) (fun e => Or.inr (Nat.le_trans hb.size e)))⟩
theorem ask_one (h : PkJ D S X wb rb vb bv argv ansv askv s most steps vl ac) (hvl : vl.length ≤ 1000) (v : Int) (hv : 0 ≤ v ∧ v < (vl.length : Int)) {Y : World} (hY : Below X.heap.size X Y) :
  Calls Tryz.prog 67 #[.pointer (some ⟨wb, 0, none⟩), .slice (some ⟨Y.heap.size, 0, none⟩) 1 1] (Y.alloc (.cells #[.int .i64 v] 3)) fun e w' => AskTo (Now D X) (Y.alloc (.cells #[.int .i64 v] 3)) wb rb vb bv argv ansv s most steps vl (askX (valsV vl) (natL [v])) e w' := by
 have hz := hY.size
 have hb : Below X.heap.size X (Y.alloc (.cells #[.int .i64 v] 3)) := bl_trans hY hz (box_blk _ _ _)
 have h2 := h.now.below hb
 have hzz : (Y.alloc (.cells #[.int .i64 v] 3)).heap.size = Y.heap.size + 1 := by simp
 refine (ask_any h2 hvl [v] (by simp) (A := fun k => k = Y.heap.size) (some ⟨Y.heap.size, 0, none⟩) 1 ⟨_, _, rfl, fun _ => ⟨Y.heap.size, 0, rfl, rfl, fun j u hu => ?_⟩⟩ (fun k hk => ⟨by omega, fun e => by have := e.2; omega⟩) (by simpa using hv)).mono (fun _ _ h => h)
 rw [cell_of_blk (heap_alloc_new _ _), Nat.zero_add, ← hu]
 simp [intsG]
theorem enter_way (hvl : vl.length ≤ 1000) (hco : XCo A X (.slice ba L.length bc) L) (hL : L.length ≤ 1000) {b : Pb} (hlv : LeaveB vl.length L b) {ta wa : Option Addr} {tc wc : Nat} (hto : XRow A X (.slice ta b.tos.length tc) b.tos.length (intsG b.tos)) (hwi : XWs A X (.slice wa b.wi.length wc) b.wi) (hA : ∀ b, A b → b < X.heap.size) (i : Nat) (hi : i < b.tos.length) :
  ∃ (t : Nat) (wi : List Int) (gt ot gw ow : Nat) (ad : Option Addr) (cap : Nat), ta = some ⟨gt, ot, none⟩ ∧ wa = some ⟨gw, ow, none⟩ ∧ A gt ∧ A gw ∧ X.cell? ⟨gt, ot + i, none⟩ = some (.int .i64 (t : Int)) ∧ X.cell? ⟨gw, ow + i, none⟩ = some (.slice ad wi.length cap) ∧
   ∀ Y D' S' av' s' ac', KeepA A X Y → X.heap.size ≤ Y.heap.size → (∀ b, A b → ¬ D' b) → PkJ D' S' Y wb rb vb (.slice ba L.length bc) argv ansv av' s' most steps vl ac' → Calls Tryz.prog 74 #[.pointer (some ⟨wb, 0, none⟩), .int .i64 (t : Int), .slice ad wi.length cap] Y fun e w' => WayTo D' Y wb rb vb (.slice ba L.length bc) argv ansv most steps vl.length (enterP L (b.tos.getD i 0) (b.wi.getD i []) s' (valsV vl)) e w' := by
 obtain ⟨gt, ot, e1, hgt, kt⟩ := hto.int hi
 have hi2 : i < b.wi.length := by rw [hlv.wil]; exact hi
 obtain ⟨gw, ow, ad, cap, e2, hgw, hr, kw⟩ := hwi.row hi2
 have ht := hlv.tos _ (List.getElem_mem hi)
 obtain ⟨t, htn⟩ : ∃ t : Nat, b.tos[i] = (t : Int) := ⟨b.tos[i].toNat, by omega⟩
 have htd : b.tos.getD i 0 = (t : Int) := by simp [List.getD, hi, htn]
 have hwd : b.wi.getD i [] = b.wi[i] := by simp [List.getD, hi2]
 have htl : t < L.length := by omega
 have hbt : blkAt L (t : Int) = L[t] := by unfold blkAt; simp [htl]
 have hfit := hlv.fit i hi
 rw [htd, hwd, hbt] at hfit
 refine ⟨t, b.wi[i], gt, ot, gw, ow, ad, cap, e1, e2, hgt, hgw, by rw [← htn]; exact kt, kw, fun Y D' S' av' s' ac' hkA hz hAD hp => ?_⟩
 have hw := hlv.wi _ (List.getElem_mem hi2)
 rw [htd, hwd]
 exact enter_any hp hvl (fun b hb => ⟨Nat.lt_of_lt_of_le (hA b hb) hz, hAD b hb⟩) (hco.imp (fun _ h => h) hkA) hL t htl b.wi[i] ad cap (hr.imp (fun _ h => h) hkA) hw.1 hw.2 hfit (hlv.par _ (List.getElem_mem htl))
set_option maxRecDepth 100000 in
set_option maxHeartbeats 4000000 in
theorem leave_jump (h : PkJ D S X wb rb vb (.slice ba L.length bc) argv ansv askv s most steps vl ac) (hvl : vl.length ≤ 1000) (hA : ∀ b, A b → b < X.heap.size ∧ ¬ D b) (hco : XCo A X (.slice ba L.length bc) L) (hL : L.length ≤ 1000) {b : Pb} (hlv : LeaveB vl.length L b) {pa ia ta wa : Option Addr} {pc ic tc wc : Nat} (hto : XRow A X (.slice ta b.tos.length tc) b.tos.length (intsG b.tos)) (hwi : XWs A X (.slice wa b.wi.length wc) b.wi) (hf : b.fin = gJump) :
  Calls Tryz.prog 43 #[.pointer (some ⟨wb, 0, none⟩), .agg #[.slice pa b.params.length pc, .slice ia b.ins.length ic, .string ⟨b.fin.toArray⟩, .int .i64 b.v, .slice ta b.tos.length tc, .slice wa b.wi.length wc]] X fun e w' => WayTo D X wb rb vb (.slice ba L.length bc) argv ansv most steps vl.length (leaveP L b s (valsV vl)) e w' := by
 have hr : leaveP L b s (valsV vl) = enterP L (b.tos.getD 0 0) (b.wi.getD 0 []) s (valsV vl) := by unfold leaveP; rw [if_pos hf]
 rw [hr]
 have hways := hlv.ways
 rw [if_pos hf] at hways
 obtain ⟨t, wi, gt, ot, gw, ow, ad, cap, e1, e2, hgt, hgw, kt, kw, hen⟩ := enter_way (wb := wb) (rb := rb) (vb := vb) (argv := argv) (ansv := ansv) (most := most) (steps := steps) hvl hco hL hlv hto hwi (fun b hb => (hA b hb).1) 0 (by omega)
 subst e1 e2
 have hwil := hlv.wil
 obtain ⟨X1, hX1⟩ : ∃ X1, X1 = X.alloc (.cells #[.slice pa b.params.length pc, .slice ia b.ins.length ic, .string ⟨b.fin.toArray⟩, .int .i64 b.v, .slice (some ⟨gt, ot, none⟩) b.tos.length tc, .slice (some ⟨gw, ow, none⟩) b.wi.length wc] 56) := ⟨_, rfl⟩
 have hbx : Below X.heap.size X X1 := by rw [hX1]; exact box_blk X #[.slice pa b.params.length pc, .slice ia b.ins.length ic, .string ⟨b.fin.toArray⟩, .int .i64 b.v, .slice (some ⟨gt, ot, none⟩) b.tos.length tc, .slice (some ⟨gw, ow, none⟩) b.wi.length wc] 56
 have hN : X1.heap[X.heap.size]? = some (.cells #[.slice pa b.params.length pc, .slice ia b.ins.length ic, .string ⟨b.fin.toArray⟩, .int .i64 b.v, .slice (some ⟨gt, ot, none⟩) b.tos.length tc, .slice (some ⟨gw, ow, none⟩) b.wi.length wc] 56 (0, 0)) := by rw [hX1]; exact heap_alloc_new _ _
 have n2 : X1.cell? ⟨X.heap.size, 2, none⟩ = some (.string ⟨b.fin.toArray⟩) := cell_of_blk hN 2
 have n3 : X1.cell? ⟨X.heap.size, 3, none⟩ = some (.int .i64 b.v) := cell_of_blk hN 3
 rw [Nat.add_zero] at kt kw
 have c0 : (fun W => W.cell? ⟨X.heap.size, 4, none⟩ = some (.slice (some ⟨gt, ot, none⟩) b.tos.length tc) ∧ W.cell? ⟨X.heap.size, 5, none⟩ = some (.slice (some ⟨gw, ow, none⟩) b.wi.length wc) ∧ W.cell? ⟨gt, ot, none⟩ = some (.int .i64 (t : Int)) ∧ W.cell? ⟨gw, ow, none⟩ = some (.slice ad wi.length cap)) X1 := ⟨cell_of_blk hN 4, cell_of_blk hN 5, (hbx.cell (p := ⟨gt, _, none⟩) (hA gt hgt).1).trans kt, (hbx.cell (p := ⟨gw, _, none⟩) (hA gw hgw).1).trans kw⟩
 have C0 := hidX c0
 have hxl : X.heap.size < X1.heap.size := heap_lt hN
 have HEN := hidX fun Y (hY : Below X1.heap.size X1 Y) => (hen Y (Now D X) S askv s ac (fun k hk => (bl_trans hbx hbx.size hY).block k (hA k hk).1) (Nat.le_trans hbx.size hY.size) (fun b hb e => (hA b hb).2 e.1) (h.now.below (bl_trans hbx hbx.size hY)))
 have HS := hidX (show ∀ Y Z : World, Below X1.heap.size X1 Y → ButP (Now D X) Y Z → (fun W => W.cell? ⟨X.heap.size, 4, none⟩ = some (.slice (some ⟨gt, ot, none⟩) b.tos.length tc) ∧ W.cell? ⟨X.heap.size, 5, none⟩ = some (.slice (some ⟨gw, ow, none⟩) b.wi.length wc) ∧ W.cell? ⟨gt, ot, none⟩ = some (.int .i64 (t : Int)) ∧ W.cell? ⟨gw, ow, none⟩ = some (.slice ad wi.length cap)) Z from fun Y Z hY hZ => by
  obtain ⟨d1, d2, d3, d4⟩ := C0.out
  have hzy := hY.size
  have kk : ∀ k o v, k < X1.heap.size → ¬ Now D X k → X1.cell? ⟨k, o, none⟩ = some v → Z.cell? ⟨k, o, none⟩ = some v := fun k o v hk hn hv => ((World.cell?_of_block (w := Y) (w' := Z) (a := ⟨k, o, none⟩) (hZ.block k (by omega) hn)).trans (hY.cell (p := ⟨k, o, none⟩) hk)).trans hv
  exact ⟨kk _ _ _ hxl (fun e => by have := e.2; omega) d1, kk _ _ _ hxl (fun e => by have := e.2; omega) d2, kk _ _ _ (by have := (hA gt hgt).1; omega) (fun e => (hA gt hgt).2 e.1) d3, kk _ _ _ (by have := (hA gw hgw).1; omega) (fun e => (hA gw hgw).2 e.1) d4⟩)
 generalize enterP L (b.tos.getD 0 0) (b.wi.getD 0 []) s (valsV vl) = R at HEN ⊢
 have htn : 0 < b.tos.length := by omega
 have hwn : 0 < b.wi.length := by omega
 have HBX := hidX hbx
 have t0 : (b.fin == [114, 101, 116, 117, 114, 110]) = false := by rw [hf]; rfl
 have t1 : (b.fin == [105, 102]) = false := by rw [hf]; rfl
 have t2 : (b.fin == [106, 117, 109, 112]) = true := by rw [hf]; rfl
 clear hen hlv hto hwi hco h hA hN hbx hr hf hways hwil hgt hgw kt kw c0
 go_enter Tryz.func43, Tryz.ntmps43
 go_wp2_with fail
 rw [← hX1]
 clear hX1
 go_region_held3 (fun W => W.cell? ⟨X.heap.size, 4, none⟩ = some (.slice (some ⟨gt, ot, none⟩) b.tos.length tc) ∧ W.cell? ⟨X.heap.size, 5, none⟩ = some (.slice (some ⟨gw, ow, none⟩) b.wi.length wc) ∧ W.cell? ⟨gt, ot, none⟩ = some (.int .i64 (t : Int)) ∧ W.cell? ⟨gw, ow, none⟩ = some (.slice ad wi.length cap))
  (first | with_reducible exact s1 | exact C0.out)
  (first
   | (go_at_call 74; refine (HEN.out _ (by (repeat (first | exact Below.refl _ _ | assumption | refine Below.drew ?_ | refine bT ?_ _ | refine bS ?_ _ | refine bA ?_ _)))).mono ?_; rintro e w3 hway; obtain ⟨hb3, rfl, vl', hv3⟩ := hway; have s1 := HS.out _ _ (by (repeat (first | exact Below.refl _ _ | assumption | refine Below.drew ?_ | refine bT ?_ _ | refine bS ?_ _ | refine bA ?_ _))) hb3; have HW := hidX (show WayTo D X wb rb vb (.slice ba L.length bc) argv ansv most steps vl.length R (.returned (.int .i64 (R.2.2 : Int))) w3 from WayTo.back (ButP.of (bl_trans HBX.out HBX.out.size (show Below X1.heap.size X1 _ by (repeat (first | exact Below.refl _ _ | assumption | refine Below.drew ?_ | refine bT ?_ _ | refine bS ?_ _ | refine bA ?_ _))))) (fun b e => Or.inl e.1) ⟨hb3, rfl, vl', hv3⟩); clear hb3 hv3))
 all_goals (go_wp2; (try simp only [Exit.inBlock, Exit.then]); go_ret; exact HW.out)
theorem way_stuck {w' : World} {n : Nat} (hn : vl.length = n) (hb : ButP (Now D X) Y w') (hX : Below X.heap.size X Y) {s' : Rst} (h : PkE (Up (Now D X) Y) w' wb rb vb bv argv ansv s' most steps vl) : WayTo D X wb rb vb bv argv ansv most steps n (s', valsV vl, 0) (.returned (.int .i64 0)) w' :=
 WayTo.back (Y := Y) (ButP.of hX) (fun _ e => Or.inl e.1) ⟨hb, rfl, vl, hn, rfl, h⟩
theorem ret_held {w3 : World} {ga oa acap : Nat} {y : Int} {s' : Rst} (h : ∃ S', PkJ D S' w3 wb rb vb bv argv ansv (.slice (some ⟨ga, oa, none⟩) [y].length acap) s' most steps vl [y]) : w3.cell? ⟨wb, 0, none⟩ = some (.pointer (some ⟨rb, 0, none⟩)) ∧ w3.cell? ⟨ga, oa, none⟩ = some (.int .i64 y) := by
 obtain ⟨S', h⟩ := h
 refine ⟨cell_of_blk h.blk 0, ?_⟩
 obtain ⟨g, o, e1, _, ka⟩ := (xrow_own h.asks).int (k := 0) (by simp)
 injection e1 with e1
 injection e1 with e1 e2
 subst e1 e2
 simpa using ka
theorem way_done {w2 Z w3 : World} {y : Int} {av : Value} {ac' : List Int} (hb : ButP (Now D X) Y w2) (hX : Below X.heap.size X Y) (hZ : Below w2.heap.size w2 Z) (h : ButP (Up (Now D X) Y) Z w3 ∧ ∃ S', PkJ (Up (Up (Now D X) Y) Z) S' w3 wb rb vb bv argv ansv av (retR y s) most steps vl ac') : WayTo D X wb rb vb bv argv ansv most steps vl.length (retR y s, valsV vl, 0) (.returned (.int .i64 0)) w3 := by
 obtain ⟨h1, S', h2⟩ := h
 have k1 : ButP D X Z := ((ButP.of hX).trans hb (fun _ e => Or.inl e.1)).trans (ButP.of (S := fun _ => False) hZ) (fun _ e => e.elim)
 refine ⟨k1.trans h1 (fun b e => e.elim (fun e => Or.inl e.1) (fun e => Or.inr (Nat.le_trans hX.size e))), rfl, vl, rfl, rfl, h2.e.mono (fun b e => ?_)⟩
 rcases e with (e | e) | e
 ·exact Or.inl e.1
 ·exact Or.inr (Nat.le_trans hX.size e)
 ·exact Or.inr (Nat.le_trans k1.size e)
set_option maxRecDepth 100000 in
set_option maxHeartbeats 4000000 in
theorem leave_return (h : PkJ D S X wb rb vb (.slice ba L.length bc) argv ansv askv s most steps vl ac) (hvl : vl.length ≤ 1000) {b : Pb} (hlv : LeaveB vl.length L b) {pa ia ta wa : Option Addr} {pc ic tc wc : Nat} (hf : b.fin = gReturn) :
  Calls Tryz.prog 43 #[.pointer (some ⟨wb, 0, none⟩), .agg #[.slice pa b.params.length pc, .slice ia b.ins.length ic, .string ⟨b.fin.toArray⟩, .int .i64 b.v, .slice ta b.tos.length tc, .slice wa b.wi.length wc]] X fun e w' => WayTo D X wb rb vb (.slice ba L.length bc) argv ansv most steps vl.length (leaveP L b s (valsV vl)) e w' := by
 have hr : leaveP L b s (valsV vl) = match valsV vl b.v.toNat with
  | none => ({ s with how := hStuck }, valsV vl, 0)
  | some y => (retR y s, valsV vl, 0) := by unfold leaveP; rw [if_neg (by rw [hf]; decide)]; cases valsV vl b.v.toNat with
  | none => rfl
  | some y => show (if b.fin = gReturn then _ else _) = _; rw [if_pos hf]
 generalize leaveP L b s (valsV vl) = R at hr ⊢
 have HR := hidX hr
 clear hr
 have hvr := hlv.v (by rw [hf]; decide)
 obtain ⟨X1, hX1⟩ : ∃ X1, X1 = X.alloc (.cells #[.slice pa b.params.length pc, .slice ia b.ins.length ic, .string ⟨b.fin.toArray⟩, .int .i64 b.v, .slice ta b.tos.length tc, .slice wa b.wi.length wc] 56) := ⟨_, rfl⟩
 have hbx : Below X.heap.size X X1 := by rw [hX1]; exact box_blk X #[.slice pa b.params.length pc, .slice ia b.ins.length ic, .string ⟨b.fin.toArray⟩, .int .i64 b.v, .slice ta b.tos.length tc, .slice wa b.wi.length wc] 56
 have hN : X1.heap[X.heap.size]? = some (.cells #[.slice pa b.params.length pc, .slice ia b.ins.length ic, .string ⟨b.fin.toArray⟩, .int .i64 b.v, .slice ta b.tos.length tc, .slice wa b.wi.length wc] 56 (0, 0)) := by rw [hX1]; exact heap_alloc_new _ _
 have n2 : X1.cell? ⟨X.heap.size, 2, none⟩ = some (.string ⟨b.fin.toArray⟩) := cell_of_blk hN 2
 have n3 : X1.cell? ⟨X.heap.size, 3, none⟩ = some (.int .i64 b.v) := cell_of_blk hN 3
 have hxl : X.heap.size < X1.heap.size := heap_lt hN
 have HASK := hidX (ask_one h hvl b.v hvr hbx)
 have HBX := hidX hbx
 obtain ⟨X2, hX2⟩ : ∃ X2, X2 = X1.alloc (.cells #[.int .i64 b.v] 3) := ⟨_, rfl⟩
 have hbx2 : Below X.heap.size X X2 := by rw [hX2]; exact bl_trans hbx hbx.size (box_blk _ _ _)
 have HBX2 := hidX hbx2
 have hzx2 := hbx2.size
 rw [← hX2] at HASK
 have HXX := hidX (show X.heap.size + 1 = X1.heap.size by rw [hX1]; simp)
 have HX1 := hidX hX1
 have HX2 := hidX hX2
 clear hX1 hX2 n2 n3
 have t0 : (b.fin == [114, 101, 116, 117, 114, 110]) = true := by rw [hf]; rfl
 have t1 : (b.fin == [105, 102]) = false := by rw [hf]; rfl
 have t2 : (b.fin == [106, 117, 109, 112]) = false := by rw [hf]; rfl
 clear hlv h hN hbx hf hvr hbx2
 go_enter Tryz.func43, Tryz.ntmps43
 go_wp2_with fail
 rw [← HX1.out, HXX.out, ← HX2.out]
 clear HX1 HX2 HXX
 refine HASK.out.mono ?_
 rintro e w2 ⟨hb2, ⟨hn, rfl, hpe⟩ | ⟨vs, S2, av, hn, rfl, hpj⟩⟩
 ·have hr : R = ({ s with how := hStuck }, valsV vl, 0) := by
   rw [HR.out]
   cases hv : valsV vl b.v.toNat with
   | none => rfl
   | some y => rw [ask_some hv] at hn; cases hn
  subst hr
  have HW := hidX (way_stuck (n := vl.length) rfl hb2 HBX2.out hpe)
  clear hpe hb2 HR
  go_wp2
  (try simp only [Exit.inBlock, Exit.then])
  go_ret
  exact HW.out
 ·obtain ⟨y, hvy, rfl⟩ : ∃ y, valsV vl b.v.toNat = some y ∧ vs = [y] := by
   cases hv : valsV vl b.v.toNat with
   | none => rw [ask_none hv] at hn; cases hn
   | some y => rw [ask_some hv] at hn; exact ⟨y, rfl, (Option.some.inj hn).symm⟩
  have hr : R = (retR y s, valsV vl, 0) := by rw [HR.out, hvy]
  subst hr
  obtain ⟨aad, acap, rfl⟩ := own_is hpj.asks
  obtain ⟨ga, oa, e1, _, ka⟩ := (xrow_own hpj.asks).int (k := 0) (by simp)
  subst e1
  rw [Nat.add_zero] at ka
  have m0 : w2.cell? ⟨wb, 0, none⟩ = some (.pointer (some ⟨rb, 0, none⟩)) := cell_of_blk hpj.blk 0
  have C0 := hidX (show w2.cell? ⟨wb, 0, none⟩ = some (.pointer (some ⟨rb, 0, none⟩)) ∧ w2.cell? ⟨ga, oa, none⟩ = some (.int .i64 y) from ⟨m0, ka⟩)
  have HPJ := hidX hpj
  have HB2 := hidX hb2
  have HRET := hidX fun Y (hY : Below w2.heap.size w2 Y) => return_r (hpj.below hY).recd y
  clear hpj hb2 HR hn hvy m0 ka
  go_wp2_with fail
  go_region_held3 (fun W => W.cell? ⟨wb, 0, none⟩ = some (.pointer (some ⟨rb, 0, none⟩)) ∧ W.cell? ⟨ga, oa, none⟩ = some (.int .i64 y))
   (first | with_reducible exact s1 | exact C0.out)
   (first
    | (go_at_call 73; refine (HRET.out _ (by (repeat (first | exact Below.refl _ _ | assumption | refine Below.drew ?_ | refine bT ?_ _ | refine bS ?_ _ | refine bA ?_ _)))).mono ?_; rintro e w3 ⟨rfl, hr3⟩; have hq3 := (HPJ.out.below (by (repeat (first | exact Below.refl _ _ | assumption | refine Below.drew ?_ | refine bT ?_ _ | refine bS ?_ _ | refine bA ?_ _)))).recTo hr3; have s1 : w3.cell? ⟨wb, 0, none⟩ = some (.pointer (some ⟨rb, 0, none⟩)) ∧ w3.cell? ⟨ga, oa, none⟩ = some (.int .i64 y) := ret_held hq3.2; have HW := hidX (show WayTo D X wb rb vb (.slice ba L.length bc) argv ansv most steps vl.length (retR y s, valsV vl, 0) (.returned (.int .i64 0)) w3 from way_done HB2.out HBX2.out (by (repeat (first | exact Below.refl _ _ | assumption | refine Below.drew ?_ | refine bT ?_ _ | refine bS ?_ _ | refine bA ?_ _))) hq3); clear hr3 hq3))
  all_goals (go_wp2; (try simp only [Exit.inBlock, Exit.then]); go_ret; exact HW.out)
set_option maxRecDepth 100000 in
set_option maxHeartbeats 4000000 in
theorem leave_if (h : PkJ D S X wb rb vb (.slice ba L.length bc) argv ansv askv s most steps vl ac) (hvl : vl.length ≤ 1000) (hA : ∀ b, A b → b < X.heap.size ∧ ¬ D b) (hco : XCo A X (.slice ba L.length bc) L) (hL : L.length ≤ 1000) {b : Pb} (hlv : LeaveB vl.length L b) {pa ia ta wa : Option Addr} {pc ic tc wc : Nat} (hto : XRow A X (.slice ta b.tos.length tc) b.tos.length (intsG b.tos)) (hwi : XWs A X (.slice wa b.wi.length wc) b.wi) (hf : b.fin = gIf) :
  Calls Tryz.prog 43 #[.pointer (some ⟨wb, 0, none⟩), .agg #[.slice pa b.params.length pc, .slice ia b.ins.length ic, .string ⟨b.fin.toArray⟩, .int .i64 b.v, .slice ta b.tos.length tc, .slice wa b.wi.length wc]] X fun e w' => WayTo D X wb rb vb (.slice ba L.length bc) argv ansv most steps vl.length (leaveP L b s (valsV vl)) e w' := by
 have hr : leaveP L b s (valsV vl) = match valsV vl b.v.toNat with
  | none => ({ s with how := hStuck }, valsV vl, 0)
  | some y => if y = 0 then enterP L (b.tos.getD 1 0) (b.wi.getD 1 []) s (valsV vl) else enterP L (b.tos.getD 0 0) (b.wi.getD 0 []) s (valsV vl) := by unfold leaveP; rw [if_neg (by rw [hf]; decide)]; cases valsV vl b.v.toNat with
  | none => rfl
  | some y => show (if b.fin = gReturn then _ else _) = _; rw [if_neg (by rw [hf]; decide)]
 have hwt := hlv.ways
 rw [if_neg (by rw [hf]; decide), if_pos hf] at hwt
 have hwil := hlv.wil
 have HR := hidX hr
 clear hr
 have hvr := hlv.v (by rw [hf]; decide)
 obtain ⟨X1, hX1⟩ : ∃ X1, X1 = X.alloc (.cells #[.slice pa b.params.length pc, .slice ia b.ins.length ic, .string ⟨b.fin.toArray⟩, .int .i64 b.v, .slice ta b.tos.length tc, .slice wa b.wi.length wc] 56) := ⟨_, rfl⟩
 have hbx : Below X.heap.size X X1 := by rw [hX1]; exact box_blk X #[.slice pa b.params.length pc, .slice ia b.ins.length ic, .string ⟨b.fin.toArray⟩, .int .i64 b.v, .slice ta b.tos.length tc, .slice wa b.wi.length wc] 56
 have hN : X1.heap[X.heap.size]? = some (.cells #[.slice pa b.params.length pc, .slice ia b.ins.length ic, .string ⟨b.fin.toArray⟩, .int .i64 b.v, .slice ta b.tos.length tc, .slice wa b.wi.length wc] 56 (0, 0)) := by rw [hX1]; exact heap_alloc_new _ _
 have n2 : X1.cell? ⟨X.heap.size, 2, none⟩ = some (.string ⟨b.fin.toArray⟩) := cell_of_blk hN 2
 have n3 : X1.cell? ⟨X.heap.size, 3, none⟩ = some (.int .i64 b.v) := cell_of_blk hN 3
 have hxl : X.heap.size < X1.heap.size := heap_lt hN
 have HASK := hidX (ask_one h hvl b.v hvr hbx)
 have HBX := hidX hbx
 obtain ⟨X2, hX2⟩ : ∃ X2, X2 = X1.alloc (.cells #[.int .i64 b.v] 3) := ⟨_, rfl⟩
 have hbx2 : Below X.heap.size X X2 := by rw [hX2]; exact bl_trans hbx hbx.size (box_blk _ _ _)
 have HBX2 := hidX hbx2
 have hzx2 := hbx2.size
 rw [← hX2] at HASK
 have HXX := hidX (show X.heap.size + 1 = X1.heap.size by rw [hX1]; simp)
 have HX1 := hidX hX1
 have HX2 := hidX hX2
 clear hX1 hX2 n2 n3
 have t0 : (b.fin == [114, 101, 116, 117, 114, 110]) = false := by rw [hf]; rfl
 have t1 : (b.fin == [105, 102]) = true := by rw [hf]; rfl
 have t2 : (b.fin == [106, 117, 109, 112]) = false := by rw [hf]; rfl
 have HN := hidX hN
 have HAX := hidX hA
 have HCO := hidX hco
 have HTO := hidX hto
 have HWI := hidX hwi
 have HLV := hidX hlv
 have HWT := hidX (And.intro hwt hwil)
 clear hlv hto hwi hco h hA hN hbx hf hvr hbx2 hwt hwil
 generalize leaveP L b s (valsV vl) = RR at HR ⊢
 go_enter Tryz.func43, Tryz.ntmps43
 go_wp2_with fail
 rw [← HX1.out, HXX.out, ← HX2.out]
 have hzx4 : X.heap.size < X2.heap.size := by rw [HX2.out]; simp; omega
 have HN2 : Hid (X2.heap[X.heap.size]? = some (.cells #[.slice pa b.params.length pc, .slice ia b.ins.length ic, .string ⟨b.fin.toArray⟩, .int .i64 b.v, .slice ta b.tos.length tc, .slice wa b.wi.length wc] 56 (0, 0))) := by rw [HX2.out]; exact (Below.heap_alloc _ _ _ hxl).trans HN.out
 clear HX1 HX2 HXX HN
 refine HASK.out.mono ?_
 rintro e w2 ⟨hb2, ⟨hn, rfl, hpe⟩ | ⟨vs, S2, av, hn, rfl, hpj⟩⟩
 ·have hr : RR = ({ s with how := hStuck }, valsV vl, 0) := by
   rw [HR.out]
   cases hv : valsV vl b.v.toNat with
   | none => rfl
   | some y => rw [ask_some hv] at hn; cases hn
  subst hr
  have HW := hidX (way_stuck (n := vl.length) rfl hb2 HBX2.out hpe)
  clear hpe hb2 HR
  go_wp2
  (try simp only [Exit.inBlock, Exit.then])
  go_ret
  exact HW.out
 ·obtain ⟨y, hvy, rfl⟩ : ∃ y, valsV vl b.v.toNat = some y ∧ vs = [y] := by
   cases hv : valsV vl b.v.toNat with
   | none => rw [ask_none hv] at hn; cases hn
   | some y => rw [ask_some hv] at hn; exact ⟨y, rfl, (Option.some.inj hn).symm⟩
  have hr2 : RR = if y = 0 then enterP L (b.tos.getD 1 0) (b.wi.getD 1 []) s (valsV vl) else enterP L (b.tos.getD 0 0) (b.wi.getD 0 []) s (valsV vl) := by rw [HR.out, hvy]
  obtain ⟨aad, acap, rfl⟩ := own_is hpj.asks
  obtain ⟨ga, oa, e1, _, ka⟩ := (xrow_own hpj.asks).int (k := 0) (by simp)
  subst e1
  rw [Nat.add_zero] at ka
  have ka' : w2.cell? ⟨ga, oa, none⟩ = some (.int .i64 y) := ka
  have HPJ := hidX hpj
  have hzx3 : X.heap.size ≤ w2.heap.size := Nat.le_trans hzx2 hb2.size
  have hzx5 : X2.heap.size ≤ w2.heap.size := hb2.size
  have HBW := hidX (show ButP D X w2 from (ButP.of HBX2.out).trans hb2 (fun _ e => Or.inl e.1))
  have HKA := hidX (show KeepA A X w2 from fun k hk => HBW.out.block k (HAX.out k hk).1 (HAX.out k hk).2)
  have hN2 := (hb2.block X.heap.size hzx4 (fun e => by have := e.2; omega)).trans HN2.out
  have hco := HCO.out
  have hto := HTO.out
  have hwi := HWI.out
  have hlv := HLV.out
  have hA := HAX.out
  obtain ⟨hwt, hwil⟩ := HWT.out
  clear hpj ka hb2 HR hn hvy HCO HTO HWI HLV HWT HN2 HASK
  by_cases hy0 : y = 0
  ·rw [if_pos hy0] at hr2
   have hyb : (y == 0) = true := by simpa using hy0
   clear hy0
   obtain ⟨t, wi, gt, ot, gw, ow, ad, cap, e1, e2, hgt, hgw, kt, kw, hen⟩ := enter_way (wb := wb) (rb := rb) (vb := vb) (argv := argv) (ansv := ansv) (most := most) (steps := steps) hvl hco hL hlv hto hwi (fun b hb => (hA b hb).1) 1 (by omega)
   subst e1 e2
   have HS0 := hidX (show (fun W => W.cell? ⟨X.heap.size, 4, none⟩ = some (.slice (some ⟨gt, ot, none⟩) b.tos.length tc) ∧ W.cell? ⟨X.heap.size, 5, none⟩ = some (.slice (some ⟨gw, ow, none⟩) b.wi.length wc) ∧ W.cell? ⟨gt, ot + 1, none⟩ = some (.int .i64 (t : Int)) ∧ W.cell? ⟨gw, ow + 1, none⟩ = some (.slice ad wi.length cap)) w2 from ⟨(cell_of_blk hN2 4), (cell_of_blk hN2 5), (World.cell?_of_block (w := X) (w' := w2) (a := ⟨gt, _, none⟩) (HKA.out gt hgt)).trans kt, (World.cell?_of_block (w := X) (w' := w2) (a := ⟨gw, _, none⟩) (HKA.out gw hgw)).trans kw⟩)
   have htn : 1 < b.tos.length := by omega
   have hwn : 1 < b.wi.length := by omega
   have htn' : (1 : Int) < (b.tos.length : Int) := by omega
   have hwn' : (1 : Int) < (b.wi.length : Int) := by omega
   have HTW := hidX hwt
   have HWL := hidX hwil
   clear kt kw hN2 hwt hwil
   clear hco hto hwi hlv hA
   have C0 := hidX (show (fun W => W.cell? ⟨X.heap.size, 4, none⟩ = some (.slice (some ⟨gt, ot, none⟩) b.tos.length tc) ∧ W.cell? ⟨X.heap.size, 5, none⟩ = some (.slice (some ⟨gw, ow, none⟩) b.wi.length wc) ∧ W.cell? ⟨gt, ot + 1, none⟩ = some (.int .i64 (t : Int)) ∧ W.cell? ⟨gw, ow + 1, none⟩ = some (.slice ad wi.length cap)) w2 from HS0.out)
   have HEN := hidX fun Y (hY : Below w2.heap.size w2 Y) => hen Y (Up (Now D X) X2) S2 (.slice (some ⟨ga, oa, none⟩) 1 acap) s [y] (fun k hk => (hY.block k (Nat.lt_of_lt_of_le (HAX.out k hk).1 hzx3)).trans (HKA.out k hk)) (Nat.le_trans hzx3 hY.size) (fun k hk e => e.elim (fun e => (HAX.out k hk).2 e.1) (fun e => by have := (HAX.out k hk).1; omega)) (HPJ.out.below hY)
   have HS := hidX (show ∀ Y Z : World, Below w2.heap.size w2 Y → ButP (Up (Now D X) X2) Y Z → (fun W => W.cell? ⟨X.heap.size, 4, none⟩ = some (.slice (some ⟨gt, ot, none⟩) b.tos.length tc) ∧ W.cell? ⟨X.heap.size, 5, none⟩ = some (.slice (some ⟨gw, ow, none⟩) b.wi.length wc) ∧ W.cell? ⟨gt, ot + 1, none⟩ = some (.int .i64 (t : Int)) ∧ W.cell? ⟨gw, ow + 1, none⟩ = some (.slice ad wi.length cap)) Z from fun Y Z hY hZ => by
    obtain ⟨d1, d2, d3, d4⟩ := C0.out
    have hzy := hY.size
    have kk : ∀ k o v, k < w2.heap.size → ¬ Up (Now D X) X2 k → w2.cell? ⟨k, o, none⟩ = some v → Z.cell? ⟨k, o, none⟩ = some v := fun k o v hk hn hv => ((World.cell?_of_block (w := Y) (w' := Z) (a := ⟨k, o, none⟩) (hZ.block k (by omega) hn)).trans (hY.cell (p := ⟨k, o, none⟩) hk)).trans hv
    have nb : ¬ Up (Now D X) X2 X.heap.size := fun e => e.elim (fun e => by have := e.2; omega) (fun e => by omega)
    have na : ∀ k, A k → ¬ Up (Now D X) X2 k := fun k hk e => e.elim (fun e => (HAX.out k hk).2 e.1) (fun e => by have := (HAX.out k hk).1; omega)
    exact ⟨kk _ _ _ (by omega) nb d1, kk _ _ _ (by omega) nb d2, kk _ _ _ (by have := (HAX.out gt hgt).1; omega) (na gt hgt) d3, kk _ _ _ (by have := (HAX.out gw hgw).1; omega) (na gw hgw) d4⟩)
   rw [← hr2] at HEN
   clear hr2
   have HBK := hidX (show ∀ Y, Below w2.heap.size w2 Y → ButP D X Y from fun Y hY => HBW.out.trans (ButP.of (S := fun _ => False) hY) (fun _ e => e.elim))
   clear hen HPJ HS0 hgt hgw
   go_wp2_with fail
   go_region_held3 (fun W => W.cell? ⟨X.heap.size, 4, none⟩ = some (.slice (some ⟨gt, ot, none⟩) b.tos.length tc) ∧ W.cell? ⟨X.heap.size, 5, none⟩ = some (.slice (some ⟨gw, ow, none⟩) b.wi.length wc) ∧ W.cell? ⟨gt, ot + 1, none⟩ = some (.int .i64 (t : Int)) ∧ W.cell? ⟨gw, ow + 1, none⟩ = some (.slice ad wi.length cap))
    (first | with_reducible exact s1 | exact C0.out)
    (first
     | (go_at_call 74; refine (HEN.out _ (by (repeat (first | exact Below.refl _ _ | assumption | refine Below.drew ?_ | refine bT ?_ _ | refine bS ?_ _ | refine bA ?_ _)))).mono ?_; rintro e w3 hway; obtain ⟨hb3, rfl, vl', hv3⟩ := hway; have s1 := HS.out _ _ (by (repeat (first | exact Below.refl _ _ | assumption | refine Below.drew ?_ | refine bT ?_ _ | refine bS ?_ _ | refine bA ?_ _))) hb3; have HW := hidX (show WayTo D X wb rb vb (.slice ba L.length bc) argv ansv most steps vl.length RR (.returned (.int .i64 (RR.2.2 : Int))) w3 from WayTo.back (HBK.out _ (by (repeat (first | exact Below.refl _ _ | assumption | refine Below.drew ?_ | refine bT ?_ _ | refine bS ?_ _ | refine bA ?_ _)))) (fun b e => e.elim (fun e => Or.inl e.1) (fun e => Or.inr (Nat.le_trans hzx2 e))) ⟨hb3, rfl, vl', hv3⟩); clear hb3 hv3))
   all_goals (go_wp2; (try simp only [Exit.inBlock, Exit.then]); go_ret; exact HW.out)
  ·rw [if_neg hy0] at hr2
   have hyb : (y == 0) = false := by simpa using hy0
   clear hy0
   obtain ⟨t, wi, gt, ot, gw, ow, ad, cap, e1, e2, hgt, hgw, kt, kw, hen⟩ := enter_way (wb := wb) (rb := rb) (vb := vb) (argv := argv) (ansv := ansv) (most := most) (steps := steps) hvl hco hL hlv hto hwi (fun b hb => (hA b hb).1) 0 (by omega)
   subst e1 e2
   rw [Nat.add_zero] at kt kw
   have HS0 := hidX (show (fun W => W.cell? ⟨X.heap.size, 4, none⟩ = some (.slice (some ⟨gt, ot, none⟩) b.tos.length tc) ∧ W.cell? ⟨X.heap.size, 5, none⟩ = some (.slice (some ⟨gw, ow, none⟩) b.wi.length wc) ∧ W.cell? ⟨gt, ot, none⟩ = some (.int .i64 (t : Int)) ∧ W.cell? ⟨gw, ow, none⟩ = some (.slice ad wi.length cap)) w2 from ⟨(cell_of_blk hN2 4), (cell_of_blk hN2 5), (World.cell?_of_block (w := X) (w' := w2) (a := ⟨gt, _, none⟩) (HKA.out gt hgt)).trans kt, (World.cell?_of_block (w := X) (w' := w2) (a := ⟨gw, _, none⟩) (HKA.out gw hgw)).trans kw⟩)
   have htn : 0 < b.tos.length := by omega
   have hwn : 0 < b.wi.length := by omega
   have htn' : (0 : Int) < (b.tos.length : Int) := by omega
   have hwn' : (0 : Int) < (b.wi.length : Int) := by omega
   have HTW := hidX hwt
   have HWL := hidX hwil
   clear kt kw hN2 hwt hwil
   clear hco hto hwi hlv hA
   have C0 := hidX (show (fun W => W.cell? ⟨X.heap.size, 4, none⟩ = some (.slice (some ⟨gt, ot, none⟩) b.tos.length tc) ∧ W.cell? ⟨X.heap.size, 5, none⟩ = some (.slice (some ⟨gw, ow, none⟩) b.wi.length wc) ∧ W.cell? ⟨gt, ot, none⟩ = some (.int .i64 (t : Int)) ∧ W.cell? ⟨gw, ow, none⟩ = some (.slice ad wi.length cap)) w2 from HS0.out)
   have HEN := hidX fun Y (hY : Below w2.heap.size w2 Y) => hen Y (Up (Now D X) X2) S2 (.slice (some ⟨ga, oa, none⟩) 1 acap) s [y] (fun k hk => (hY.block k (Nat.lt_of_lt_of_le (HAX.out k hk).1 hzx3)).trans (HKA.out k hk)) (Nat.le_trans hzx3 hY.size) (fun k hk e => e.elim (fun e => (HAX.out k hk).2 e.1) (fun e => by have := (HAX.out k hk).1; omega)) (HPJ.out.below hY)
   have HS := hidX (show ∀ Y Z : World, Below w2.heap.size w2 Y → ButP (Up (Now D X) X2) Y Z → (fun W => W.cell? ⟨X.heap.size, 4, none⟩ = some (.slice (some ⟨gt, ot, none⟩) b.tos.length tc) ∧ W.cell? ⟨X.heap.size, 5, none⟩ = some (.slice (some ⟨gw, ow, none⟩) b.wi.length wc) ∧ W.cell? ⟨gt, ot, none⟩ = some (.int .i64 (t : Int)) ∧ W.cell? ⟨gw, ow, none⟩ = some (.slice ad wi.length cap)) Z from fun Y Z hY hZ => by
    obtain ⟨d1, d2, d3, d4⟩ := C0.out
    have hzy := hY.size
    have kk : ∀ k o v, k < w2.heap.size → ¬ Up (Now D X) X2 k → w2.cell? ⟨k, o, none⟩ = some v → Z.cell? ⟨k, o, none⟩ = some v := fun k o v hk hn hv => ((World.cell?_of_block (w := Y) (w' := Z) (a := ⟨k, o, none⟩) (hZ.block k (by omega) hn)).trans (hY.cell (p := ⟨k, o, none⟩) hk)).trans hv
    have nb : ¬ Up (Now D X) X2 X.heap.size := fun e => e.elim (fun e => by have := e.2; omega) (fun e => by omega)
    have na : ∀ k, A k → ¬ Up (Now D X) X2 k := fun k hk e => e.elim (fun e => (HAX.out k hk).2 e.1) (fun e => by have := (HAX.out k hk).1; omega)
    exact ⟨kk _ _ _ (by omega) nb d1, kk _ _ _ (by omega) nb d2, kk _ _ _ (by have := (HAX.out gt hgt).1; omega) (na gt hgt) d3, kk _ _ _ (by have := (HAX.out gw hgw).1; omega) (na gw hgw) d4⟩)
   rw [← hr2] at HEN
   clear hr2
   have HBK := hidX (show ∀ Y, Below w2.heap.size w2 Y → ButP D X Y from fun Y hY => HBW.out.trans (ButP.of (S := fun _ => False) hY) (fun _ e => e.elim))
   clear hen HPJ HS0 hgt hgw
   go_wp2_with fail
   go_region_held3 (fun W => W.cell? ⟨X.heap.size, 4, none⟩ = some (.slice (some ⟨gt, ot, none⟩) b.tos.length tc) ∧ W.cell? ⟨X.heap.size, 5, none⟩ = some (.slice (some ⟨gw, ow, none⟩) b.wi.length wc) ∧ W.cell? ⟨gt, ot, none⟩ = some (.int .i64 (t : Int)) ∧ W.cell? ⟨gw, ow, none⟩ = some (.slice ad wi.length cap))
    (first | with_reducible exact s1 | exact C0.out)
    (first
     | (go_at_call 74; refine (HEN.out _ (by (repeat (first | exact Below.refl _ _ | assumption | refine Below.drew ?_ | refine bT ?_ _ | refine bS ?_ _ | refine bA ?_ _)))).mono ?_; rintro e w3 hway; obtain ⟨hb3, rfl, vl', hv3⟩ := hway; have s1 := HS.out _ _ (by (repeat (first | exact Below.refl _ _ | assumption | refine Below.drew ?_ | refine bT ?_ _ | refine bS ?_ _ | refine bA ?_ _))) hb3; have HW := hidX (show WayTo D X wb rb vb (.slice ba L.length bc) argv ansv most steps vl.length RR (.returned (.int .i64 (RR.2.2 : Int))) w3 from WayTo.back (HBK.out _ (by (repeat (first | exact Below.refl _ _ | assumption | refine Below.drew ?_ | refine bT ?_ _ | refine bS ?_ _ | refine bA ?_ _)))) (fun b e => e.elim (fun e => Or.inl e.1) (fun e => Or.inr (Nat.le_trans hzx2 e))) ⟨hb3, rfl, vl', hv3⟩); clear hb3 hv3))
   all_goals (go_wp2; (try simp only [Exit.inBlock, Exit.then]); go_ret; exact HW.out)
end
end Go.Proofs.YtmckajgacfjnhaaGreatDoor
