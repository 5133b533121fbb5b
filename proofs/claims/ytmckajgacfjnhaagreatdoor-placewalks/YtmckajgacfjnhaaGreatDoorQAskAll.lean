/- Our own: texts joined: PlPick, PlAsk, PlEnter. -/
import Derived.Test.YtmckajgacfjnhaaGreatDoorQPlMR
import Derived.Test.YtmckajgacfjnhaaGreatDoorQAskX
import Derived.Test.YtmckajgacfjnhaaGreatDoorQRets
import Derived.Test.YtmckajgacfjnhaaGreatDoorQBase
import Derived.OwnWalk
import Derived.Deep.AppendLies
import Derived.Test.YtmckajgacfjnhaaGreatDoorQPlWkJ
import Derived.Test.YtmckajgacfjnhaaGreatDoorQTools
namespace Go.Proofs.YtmckajgacfjnhaaGreatDoor
open Go.RowKit
def valsG (gl : List Int) (hl : List Bool) (i : Nat) : Option Int := if hl.getD i false then some (gl.getD i 0) else none
theorem natL_take (l : List Int) {q : Nat} (hq : q < l.length) : natL (l.take (q + 1)) = natL (l.take q) ++ [l[q].toNat] := by
 unfold natL; rw [List.take_succ_eq_append_getElem hq, List.map_append]; rfl
def PickTo (w w' : World) (ans : Option (List Int)) (e : Ending) : Prop := Below w.heap.size w w' ∧ ((ans = none ∧ e = .returned (.tuple #[.slice none 0 0, .bool false])) ∨ ∃ vs v, ans = some vs ∧ e = .returned (.tuple #[v, .bool true]) ∧ w'.ownsRow w.heap.size 3 1 v vs.length (intsG vs))
set_option maxRecDepth 100000 in
set_option maxHeartbeats 4000000 in
theorem pick_any {w : World} {A : Nat → Prop} (l : List Int) (hn : l.length ≤ 1000) (la ga ha : Option Addr) (lc gc hc gb hb : Nat) (gl : List Int) (hl : List Bool) (hlen : gl.length = hl.length) (_hvl : hl.length ≤ 1000) (hA : ∀ b, A b → b < w.heap.size)
  (hrow : XRow A w (.slice la l.length lc) l.length (intsG l)) (hga : ga = some ⟨gb, 0, none⟩) (hha : ha = some ⟨hb, 0, none⟩) (hg : w.heap[gb]? = some (.cells (intsG gl).toArray 3 (0, 0))) (hh : w.heap[hb]? = some (.cells (boolsG hl).toArray 4 (0, 0))) (hin : ∀ x ∈ l, 0 ≤ x ∧ x < (hl.length : Int)) :
  Calls Tryz.prog 22 #[.slice la l.length lc, .slice ga gl.length gc, .slice ha hl.length hc] w fun e w' => PickTo w w' (askX (valsG gl hl) (natL l)) e := by
 subst hga hha
 obtain ⟨ii0, hii, iz0, iz1, iz2⟩ := info_parts int_info
 have HR := hidX hrow
 have HGB := hidX hg
 have HHB := hidX hh
 have HIN := hidX hin
 have HAA := hidX hA
 have HLEN := hidX hlen
 have hn' : (l.length : Int) ≤ 1000 := by omega
 have hgl := heap_lt hg
 have hhl := heap_lt hh
 obtain ⟨ans, hans⟩ : ∃ ans, ans = askX (valsG gl hl) (natL l) := ⟨_, rfl⟩
 rw [← hans]
 have HANS := hidX hans
 clear hrow hg hh hin hA hans hlen
 go_enter Tryz.func22, Tryz.ntmps22
 go_wp2_with fail
 go_loopw [8, 9] (fun v8 i wr => ∃ (q : Nat) (vs : List Int) (iv : Value), q ≤ l.length ∧ i = .int .i64 (q : Int) ∧ v8 = iv ∧ vs.length = q ∧ w.heap.size ≤ wr.heap.size ∧ Hid (askX (valsG gl hl) (natL (l.take q)) = some vs) ∧ Hid (wr.ownsRow w.heap.size 3 1 iv q (intsG vs)) ∧ Hid (Below w.heap.size w wr)) (fun _ i _ => l.length - (intOf i).toNat)
 case atStart => exact ⟨0, [], _, by omega, rfl, rfl, rfl, Nat.le_refl _, rfl, World.ownsRow_nil _ _ _ _, Below.refl _ _⟩
 case round =>
  obtain ⟨q, vs, iv, hq, rfl, hiv, hvq, hzr, HASK, HOI, HBW⟩ := hrel
  subst hiv
  obtain ⟨iad, icap, rfl⟩ := own_is HOI.out
  have HVQ := hidX hvq
  clear hvq
  by_cases hlt : q < l.length
  ·have hlt' : (q : Int) < (l.length : Int) := by omega
   obtain ⟨g, off, e1, hg, k0⟩ := HR.out.int hlt
   subst e1
   have hgs := HAA.out g hg
   replace k0 := (HBW.out.cell (p := ⟨g, _, none⟩) hgs).trans k0
   have hxb := HIN.out _ (List.getElem_mem hlt)
   obtain ⟨xn, hxn⟩ : ∃ xn : Nat, l[q] = (xn : Int) := ⟨l[q].toNat, by omega⟩
   have hx1 : xn < hl.length := by omega
   have hx2 : xn < gl.length := by have := HLEN.out; omega
   have hx1' : (xn : Int) < (hl.length : Int) := by omega
   have hx2' : (xn : Int) < (gl.length : Int) := by omega
   have hbg := (HBW.out.block _ hgl).trans HGB.out
   have hbh := (HBW.out.block _ hhl).trans HHB.out
   have k1 : wr.cell? ⟨hb, xn, none⟩ = some (.bool hl[xn]) := by rw [cell_of_blk hbh xn]; simp [boolsG, hx1]
   have k2 : wr.cell? ⟨gb, xn, none⟩ = some (.int .i64 gl[xn]) := by rw [cell_of_blk hbg xn]; simp [intsG, hx2]
   have HNT := hidX (show natL (l.take (q + 1)) = natL (l.take q) ++ [xn] from by rw [natL_take l hlt, hxn]; simp)
   have HVX := hidX (show valsG gl hl xn = if hl[xn] then some gl[xn] else none from by simp [valsG, List.getD, hx1, hx2])
   have HMEM := hidX (show xn ∈ natL l from by unfold natL; exact List.mem_map.2 ⟨_, List.getElem_mem hlt, by rw [hxn]; simp⟩)
   rw [hxn] at k0
   generalize hl[xn] = was at *
   generalize gl[xn] = y at *
   clear hxn hxb hbg hbh
   cases was
   ·have hno : ans = none := by rw [HANS.out]; exact askX_mem_none HMEM.out HVX.out
    subst hno
    go_wp2
    go_ret2
    exact ⟨HBW.out, Or.inl ⟨rfl, rfl⟩⟩
   ·have HAS2 := hidX (show askX (valsG gl hl) (natL (l.take (q + 1))) = some (vs ++ [y]) from by rw [HNT.out]; exact askX_snoc HASK.out HVX.out)
    go_wp2_with (at_builtin; refine wpList_append_lies _ rfl _ _ 25 rfl w.heap.size 3 ii0 _ 1 8 Tryz.underlying25 hii iz0 iz1 iz2 rfl (by decide) (.slice iad q icap) q (intsG vs) rfl (owns_below HOI.out (box_blk _ _ _)) ⟨wr.heap.size, 0, none⟩ 1 1 [.int .i64 y] rfl rfl (World.news_of_block (heap_alloc_new wr _)) (int_one _) (by decide) (by unfold maxLen; omega) (by omega) (by simp; omega) _ rfl ?_; intro g9 cap9 W9 ho9 hg9 hl9 _; have HO9 := hidX ho9; have HG9 := hidX hg9; clear ho9 hg9 hl9)
    have HB9 := hidX (show Below w.heap.size w W9 from ⟨HG9.out.os.trans HBW.out.os, HG9.out.tape.trans HBW.out.tape, HG9.out.output.trans HBW.out.output, by have := HG9.out.size; simp at this; omega, fun b hb => ((HG9.out.block b (by simp; omega) (fun e => by have := (HOI.out.lt b e.symm).1; omega)).trans (Below.heap_alloc _ _ _ (by omega))).trans (HBW.out.block b hb)⟩)
    have hz9 : w.heap.size ≤ W9.heap.size := HB9.out.size
    have HO10 := hidX (show W9.ownsRow w.heap.size 3 1 (.slice (some ⟨g9, 0, none⟩) (q + 1) cap9) (q + 1) (intsG (vs ++ [y])) from by rw [intsG_snoc]; exact HO9.out)
    clear HO9 HG9
    go_roundw
    case rel => exact ⟨q + 1, vs ++ [y], _, by omega, by go_num, rfl, by rw [List.length_append, HVQ.out]; rfl, hz9, HAS2.out, HO10.out, HB9.out⟩
    case measure => simp [intOf]; omega
  ·have hqn : q = l.length := by omega
   subst hqn
   have HF := hidX (show ans = some vs from by rw [HANS.out]; have := HASK.out; rwa [List.take_length] at this)
   have HOF := hidX (show wr.ownsRow w.heap.size 3 1 (.slice iad l.length icap) vs.length (intsG vs) from by rw [HVQ.out]; exact HOI.out)
   go_wp2
   go_ret2
   exact ⟨HBW.out, Or.inr ⟨vs, _, HF.out, rfl, HOF.out⟩⟩
end Go.Proofs.YtmckajgacfjnhaaGreatDoor
namespace Go.Proofs.YtmckajgacfjnhaaGreatDoor
open Go.RowKit
def AskTo (D : Nat → Prop) (X : World) (wb rb vb : Nat) (bv argv ansv : Value) (s : Rst) (most steps : Int) (vl : List (Int × Bool)) (ans : Option (List Int)) (e : Ending) (w' : World) : Prop :=
 ButP D X w' ∧ ((ans = none ∧ e = .returned (.tuple #[.slice none 0 0, .bool false]) ∧ PkE (Up D X) w' wb rb vb bv argv ansv { s with how := hStuck } most steps vl) ∨
  ∃ vs S askv, ans = some vs ∧ e = .returned (.tuple #[askv, .bool true]) ∧ PkJ (Up D X) S w' wb rb vb bv argv ansv askv s most steps vl vs)
theorem up_up {D : Nat → Prop} {X Y : World} (h : X.heap.size ≤ Y.heap.size) : ∀ b, Up (Up D X) Y b → Up D X b := fun _ e => e.elim id (fun e => Or.inr (Nat.le_trans h e))
theorem ButP.up {D : Nat → Prop} {X Y Z : World} (h : ButP D X Y) (k : ButP (Up D X) Y Z) : ButP D X Z := h.trans k (fun _ e => e)
theorem own_blk0 {aad : Option Addr} {n cap : Nat} {b : Nat} (e : (Value.slice aad 0 cap).ownBlock = some b) : (Value.slice aad n cap).ownBlock = some b := by cases aad <;> exact e
theorem valsV_at {vl : List (Int × Bool)} {i : Nat} (hi : i < vl.length) : valsV vl i = if vl[i].2 then some vl[i].1 else none := by simp [valsV, List.getD, hi]
set_option maxRecDepth 100000 in
set_option maxHeartbeats 4000000 in
theorem ask_any {D : Nat → Prop} {S : Nat → Prop} {X : World} {wb rb vb : Nat} {bv argv ansv askv : Value} {s : Rst} {most steps : Int} {vl : List (Int × Bool)} {ac : List Int} (h : PkJ D S X wb rb vb bv argv ansv askv s most steps vl ac) (hvl : vl.length ≤ 1000)
  (l : List Int) (hn : l.length ≤ 1000) {A : Nat → Prop} (la : Option Addr) (lc : Nat) (hrow : XRow A X (.slice la l.length lc) l.length (intsG l)) (hA : ∀ b, A b → b < X.heap.size ∧ ¬ D b) (hin : ∀ x ∈ l, 0 ≤ x ∧ x < (vl.length : Int)) :
  Calls Tryz.prog 67 #[.pointer (some ⟨wb, 0, none⟩), .slice la l.length lc] X fun e w' => AskTo D X wb rb vb bv argv ansv s most steps vl (askX (valsV vl) (natL l)) e w' := by
 obtain ⟨ii0, hii, iz0, iz1, iz2⟩ := info_parts int_info
 obtain ⟨aad, acap, rfl⟩ := own_is h.asks
 have k4 : X.cell? ⟨wb, 4, none⟩ = some (.slice aad ac.length acap) := cell_of_blk h.blk 4
 have f4 := free_of_blk h.blk 4
 have hn' : (l.length : Int) ≤ 1000 := by omega
 have hvl' : (vl.length : Int) ≤ 1000 := by omega
 have hwl := heap_lt h.blk
 obtain ⟨ans, hans⟩ : ∃ ans, ans = askX (valsV vl) (natL l) := ⟨_, rfl⟩
 rw [← hans]
 obtain ⟨X0, hX0⟩ : ∃ X0, X0 = X.setCell ⟨wb, 4, none⟩ (.slice aad 0 acap) := ⟨_, rfl⟩
 have h0 : PkJ D S X0 wb rb vb bv argv ansv (.slice aad 0 acap) s most steps vl [] := by
  rw [hX0]
  refine h.reask ((But.refl _ _).set 4 _) ?_ (own_zero h.asks) (fun b e => h.own b (own_blk0 e))
  have := blk_setCell h.blk 4 (.slice aad 0 acap)
  simpa using this
 have hf0 : ButP (fun k => k = wb ∨ (Value.slice aad ac.length acap).ownBlock = some k) X X0 := by rw [hX0]; exact ButP.but ((But.refl _ _).set 4 _) (Or.inl rfl)
 have hob0 : ∀ b, (Value.slice aad 0 acap).ownBlock = some b → (Value.slice aad ac.length acap).ownBlock = some b ∨ X.heap.size ≤ b := fun b e => Or.inl (own_blk0 e)
 have H0 := hidX h0
 have HF0 := hidX hf0
 have HOB0 := hidX hob0
 have HR := hidX hrow
 have HA := hidX (show ∀ b, A b → b < X.heap.size ∧ b ≠ wb ∧ (Value.slice aad ac.length acap).ownBlock ≠ some b from fun b hb => ⟨(hA b hb).1, fun e => (hA b hb).2 (e ▸ h.lw), fun e => (hA b hb).2 (h.own b e).1⟩)
 have HIN := hidX hin
 have HANS := hidX hans
 have HH := hidX h
 have hacap : (0 : Int) ≤ (acap : Int) := by omega
 clear h h0 hf0 hob0 hrow hA hin hans
 go_enter Tryz.func67, Tryz.ntmps67
 go_wp2_with fail
 rw [← hX0]
 clear hX0 k4 f4
 go_loopw [18] (fun vi wr => ∃ (q : Nat) (vs : List Int) (qv : Value), q ≤ l.length ∧ vi = .int .i64 (q : Int) ∧ vs.length = q ∧ Hid (askX (valsV vl) (natL (l.take q)) = some vs) ∧ Hid (PkJ (Up D X) S wr wb rb vb bv argv ansv qv s most steps vl vs) ∧ Hid (ButP (fun k => k = wb ∨ (Value.slice aad ac.length acap).ownBlock = some k) X wr) ∧ Hid (∀ b, qv.ownBlock = some b → (Value.slice aad ac.length acap).ownBlock = some b ∨ X.heap.size ≤ b)) (fun vi _ => l.length - (intOf vi).toNat)
 case atStart => exact ⟨0, [], _, by omega, rfl, rfl, rfl, H0.out.mono (fun _ e => Or.inl e), HF0.out, HOB0.out⟩
 case round =>
  obtain ⟨q, vs, qv, hq, rfl, hvq, HASK, HP, HF, HOB⟩ := hrel
  subst hvq
  have hzr : X.heap.size ≤ wr.heap.size := HF.out.size
  have HBL := hidX (show ButP D X wr from HF.out.imp (fun k e => e.elim (fun e => e ▸ HH.out.lw) (fun e => (HH.out.own k e).1)))
  obtain ⟨qad, qcap, rfl⟩ := own_is HP.out.asks
  have m0 : wr.cell? ⟨wb, 0, none⟩ = some (.pointer (some ⟨rb, 0, none⟩)) := cell_of_blk HP.out.blk 0
  have m3 : wr.cell? ⟨wb, 3, none⟩ = some (.slice (some ⟨vb, 0, none⟩) vl.length vl.length) := cell_of_blk HP.out.blk 3
  have m4 : wr.cell? ⟨wb, 4, none⟩ = some (.slice qad vs.length qcap) := cell_of_blk HP.out.blk 4
  have hwr := heap_lt HP.out.blk
  have hvr := heap_lt HP.out.vals
  by_cases hlt : vs.length < l.length
  ·have hlt' : (vs.length : Int) < (l.length : Int) := by omega
   obtain ⟨g, off, e1, hg, k0⟩ := HR.out.int hlt
   subst e1
   have hga := HA.out g hg
   replace k0 := (World.cell?_of_block (w := X) (w' := wr) (a := ⟨g, _, none⟩) (HF.out.block g hga.1 (fun e => e.elim hga.2.1 hga.2.2))).trans k0
   have hxb := HIN.out _ (List.getElem_mem hlt)
   obtain ⟨xn, hxn⟩ : ∃ xn : Nat, l[vs.length] = (xn : Int) := ⟨l[vs.length].toNat, by omega⟩
   have hx1 : xn < vl.length := by omega
   have hx1' : (xn : Int) < (vl.length : Int) := by omega
   have c0 : wr.cell? ⟨vb, xn * 2, none⟩ = some (.int .i64 vl[xn].1) := by rw [cell_of_blk HP.out.vals (xn * 2), List.getElem?_toArray]; exact (valC_at hx1).1
   have c1 : wr.cell? ⟨vb, xn * 2 + 1, none⟩ = some (.bool vl[xn].2) := by rw [cell_of_blk HP.out.vals (xn * 2 + 1), List.getElem?_toArray]; exact (valC_at hx1).2
   have HNT := hidX (show natL (l.take (vs.length + 1)) = natL (l.take vs.length) ++ [xn] from by rw [natL_take l hlt, hxn]; simp)
   have HVX := hidX (valsV_at hx1)
   have HMEM := hidX (show xn ∈ natL l from by unfold natL; exact List.mem_map.2 ⟨_, List.getElem_mem hlt, by rw [hxn]; simp⟩)
   rw [hxn] at k0
   generalize vl[xn] = pr at *
   obtain ⟨y, was⟩ := pr
   simp only at c0 c1
   clear hxn hxb
   cases was
   ·have hno : ans = none := by rw [HANS.out]; exact askX_mem_none HMEM.out HVX.out
    subst hno
    clear c0
    go_wp2_with fail
    refine (stop_r HP.out.recd hStuck).mono ?_
    rintro e w3 ⟨rfl, hr3⟩
    obtain ⟨hb3, S3, hp3⟩ := HP.out.recTo hr3
    have HFIN := hidX (show ButP D X w3 from HBL.out.up hb3)
    have HP3 := hidX (hp3.e.mono (up_up hzr))
    clear hr3 hb3 hp3
    go_wp2
    go_ret2
    exact ⟨HFIN.out, Or.inl ⟨rfl, rfl, HP3.out⟩⟩
   ·have HAS2 := hidX (show askX (valsV vl) (natL (l.take (vs.length + 1))) = some (vs ++ [y]) from by rw [HNT.out]; exact askX_snoc HASK.out HVX.out)
    generalize hqq : vs.length = q at *
    have HQQ := hidX hqq
    clear hqq
    have HC := hidX (show ∀ W : World, Below wr.heap.size wr W → (fun W => W.cell? ⟨wb, 4, none⟩ = some (.slice qad q qcap) ∧ W.cell? ⟨wb, 3, none⟩ = some (.slice (some ⟨vb, 0, none⟩) vl.length vl.length) ∧ W.cell? ⟨vb, xn * 2, none⟩ = some (.int .i64 y)) W from fun W hW => ⟨(hW.cell hwr).trans m4, (hW.cell hwr).trans m3, (hW.cell hvr).trans c0⟩)
    go_wp2_with fail
    clear m0 m3 m4 c0 c1 k0
    refine wp_region_until (fun W => W.cell? ⟨wb, 4, none⟩ = some (.slice qad q qcap) ∧ W.cell? ⟨wb, 3, none⟩ = some (.slice (some ⟨vb, 0, none⟩) vl.length vl.length) ∧ W.cell? ⟨vb, xn * 2, none⟩ = some (.int .i64 y)) 17 (by kernel_rfl) (HC.out _ (by (repeat (first | exact Below.refl _ _ | assumption | refine Below.drew ?_ | refine bT ?_ _ | refine bS ?_ _ | refine bA ?_ _)))) (fun hHeld => ?_)
    refine wpAnyU_put 0 (some 36) (v := ?v0) rfl rfl (by kernel_rfl) (by kernel_rfl) (by kernel_rfl) (by kernel_rfl) (fun _ _ _ h => h) (Or.inl ⟨by rfl, ?hy0⟩) hHeld ?rest0
    case hy0 => (intro w2 hSw; (try dsimp only at hSw); first | (go_simp; done) | (go_simp; with_reducible rfl))
    simp only [Act.put, List.setIfInBounds_toArray, List.set_cons_zero, List.set_cons_succ]
    refine wpAnyU_put 1 (some 37) (v := ?v1) rfl rfl (by kernel_rfl) (by kernel_rfl) (by kernel_rfl) (by kernel_rfl) (fun _ _ _ h => h) (Or.inl ⟨by rfl, ?hy1⟩) hHeld ?rest1
    case hy1 => (intro w2 hSw; (try dsimp only at hSw); first | (go_simp; done) | (go_simp; with_reducible rfl))
    simp only [Act.put, List.setIfInBounds_toArray, List.set_cons_zero, List.set_cons_succ]
    refine wpAnyU_put 2 (some 38) (v := ?v2) rfl rfl (by kernel_rfl) (by kernel_rfl) (by kernel_rfl) (by kernel_rfl) (fun _ _ _ h => h) (Or.inl ⟨by rfl, ?hy2⟩) hHeld ?rest2
    case hy2 => (intro w2 hSw; (try dsimp only at hSw); first | (go_simp; done) | (go_simp; with_reducible rfl))
    simp only [Act.put, List.setIfInBounds_toArray, List.set_cons_zero, List.set_cons_succ]
    refine wpAnyU_put 3 (some 39) (v := ?v3) rfl rfl (by kernel_rfl) (by kernel_rfl) (by kernel_rfl) (by kernel_rfl) (fun _ _ _ h => h) (Or.inl ⟨by rfl, ?hy3⟩) hHeld ?rest3
    case hy3 => (intro w2 hSw; (try dsimp only at hSw); first | (go_simp; done) | (go_simp; with_reducible rfl))
    simp only [Act.put, List.setIfInBounds_toArray, List.set_cons_zero, List.set_cons_succ]
    refine wpAnyU_put 4 (some 40) (v := ?v4) rfl rfl (by kernel_rfl) (by kernel_rfl) (by kernel_rfl) (by kernel_rfl) (fun _ _ _ h => h) (Or.inl ⟨by rfl, ?hy4⟩) hHeld ?rest4
    case hy4 => (intro w2 hSw; (try dsimp only at hSw); first | (go_simp; done) | (go_simp; with_reducible rfl))
    simp only [Act.put, List.setIfInBounds_toArray, List.set_cons_zero, List.set_cons_succ]
    refine wpAnyU_put 5 (some 41) (v := ?v5) rfl rfl (by kernel_rfl) (by kernel_rfl) (by kernel_rfl) (by kernel_rfl) (fun _ _ _ h => h) (Or.inl ⟨by rfl, ?hy5⟩) hHeld ?rest5
    case hy5 => (intro w2 hSw; (try dsimp only at hSw); first | (go_simp; done) | (go_simp; with_reducible rfl))
    simp only [Act.put, List.setIfInBounds_toArray, List.set_cons_zero, List.set_cons_succ]
    refine wpAnyU_put 6 (some 42) (v := ?v6) rfl rfl (by kernel_rfl) (by kernel_rfl) (by kernel_rfl) (by kernel_rfl) (fun _ _ _ h => h) (Or.inl ⟨by rfl, ?hy6⟩) hHeld ?rest6
    case hy6 => (intro w2 hSw; (try dsimp only at hSw); first | (go_simp; done) | (go_simp; with_reducible rfl))
    simp only [Act.put, List.setIfInBounds_toArray, List.set_cons_zero, List.set_cons_succ]
    refine wpAnyU_put 7 (some 43) (v := ?v7) rfl rfl (by kernel_rfl) (by kernel_rfl) (by kernel_rfl) (by kernel_rfl) (fun _ _ _ h => h) (Or.inl ⟨by rfl, ?hy7⟩) hHeld ?rest7
    case hy7 => (intro w2 hSw; (try dsimp only at hSw); first | (go_simp; done) | (go_simp; with_reducible rfl))
    simp only [Act.put, List.setIfInBounds_toArray, List.set_cons_zero, List.set_cons_succ]
    refine wpAnyU_put 8 (some 44) (v := ?v8) rfl rfl (by kernel_rfl) (by kernel_rfl) (by kernel_rfl) (by kernel_rfl) (fun _ _ _ h => h) (Or.inl ⟨by rfl, ?hy8⟩) hHeld ?rest8
    case hy8 => (intro w2 hSw; (try dsimp only at hSw); first | (go_simp; done) | (go_simp; with_reducible rfl))
    simp only [Act.put, List.setIfInBounds_toArray, List.set_cons_zero, List.set_cons_succ]
    refine wpAnyU_put 9 (some 45) (v := ?v9) rfl rfl (by kernel_rfl) (by kernel_rfl) (by kernel_rfl) (by kernel_rfl) (fun _ _ _ h => h) (Or.inl ⟨by rfl, ?hy9⟩) hHeld ?rest9
    case hy9 => (intro w2 hSw; (try dsimp only at hSw); first | (go_simp; done) | (go_simp; with_reducible rfl))
    simp only [Act.put, List.setIfInBounds_toArray, List.set_cons_zero, List.set_cons_succ]
    refine wpAnyU_put 10 (some 46) (v := ?v10) rfl rfl (by kernel_rfl) (by kernel_rfl) (by kernel_rfl) (by kernel_rfl) (fun _ _ _ h => h) (Or.inl ⟨by rfl, ?hy10⟩) hHeld ?rest10
    case hy10 => (intro w2 hSw; (try dsimp only at hSw); first | (go_simp; done) | (go_simp; with_reducible rfl))
    simp only [Act.put, List.setIfInBounds_toArray, List.set_cons_zero, List.set_cons_succ]
    refine wpAnyU_put 11 (some 47) (v := ?v11) rfl rfl (by kernel_rfl) (by kernel_rfl) (by kernel_rfl) (by kernel_rfl) (fun _ _ _ h => h) (Or.inl ⟨by rfl, ?hy11⟩) hHeld ?rest11
    case hy11 => (intro w2 hSw; (try dsimp only at hSw); first | (go_simp; done) | (go_simp; with_reducible rfl))
    simp only [Act.put, List.setIfInBounds_toArray, List.set_cons_zero, List.set_cons_succ]
    refine wpAnyU_put 12 (some 48) (v := ?v12) rfl rfl (by kernel_rfl) (by kernel_rfl) (by kernel_rfl) (by kernel_rfl) (fun _ _ _ h => h) (Or.inl ⟨by rfl, ?hy12⟩) hHeld ?rest12
    case hy12 => (intro w2 hSw; (try dsimp only at hSw); first | (go_simp; done) | (go_simp; with_reducible rfl))
    simp only [Act.put, List.setIfInBounds_toArray, List.set_cons_zero, List.set_cons_succ]
    have hbb : Below wr.heap.size wr (wr.alloc (.cells #[.int .i64 y] 3)).drew := ((Below.refl _ wr).alloc (Nat.le_refl _) _).drew
    have hzb := hbb.size
    have s13 := HC.out _ hbb
    refine wpAnyU_one (i := 13) (by kernel_rfl) rfl (fun K13 hK13 => ?_)
    go_simp
    refine hK13.out _ _ (fun _ => s13) (fun _ => ?_)
    clear hK13 hHeld K13
    have hoq : wr.ownsRow 0 3 1 (.slice qad q qcap) q (intsG vs) := by have := HP.out.asks; rwa [HQQ.out] at this
    refine wpAnyU_one (i := 14) (by kernel_rfl) rfl (fun K14 hK14 => ?_)
    refine step_append_lies _ rfl (.tmp 40) (.tmp 49) 25 rfl 0 3 ii0 _ 1 8 Tryz.underlying25 hii iz0 iz1 iz2 rfl (by decide) (.slice qad q qcap) q (intsG vs) rfl (owns_below hoq hbb) ⟨wr.heap.size, 0, none⟩ 1 1 [.int .i64 y] rfl rfl (World.news_of_block (heap_alloc_new wr _)) (int_one _) (by decide) (by unfold maxLen; omega) (by omega) (by omega) _ rfl ?_
    intro g4 cap4 W4 ho4 hg4 hl4 _
    have hpz := (HP.out.below hbb).grown hg4
    have hw4 : W4.heap[wb]? = _ := (hpz wb (Or.inl rfl)).trans (HP.out.below hbb).blk
    have hv4 : W4.heap[vb]? = _ := (hpz vb (Or.inr (Or.inr (Or.inl rfl)))).trans (HP.out.below hbb).vals
    have f3 := free_of_blk hw4 4
    have s3 : W4.cell? ⟨wb, 4, none⟩ = some (.slice qad q qcap) := cell_of_blk hw4 4
    have s4 : W4.cell? ⟨wb, 3, none⟩ = some (.slice (some ⟨vb, 0, none⟩) vl.length vl.length) := cell_of_blk hw4 3
    have s5 : W4.cell? ⟨vb, xn * 2, none⟩ = some (.int .i64 y) := (cell_of_blk hv4 (xn * 2)).trans ((cell_of_blk (HP.out.below hbb).vals (xn * 2)).symm.trans s13.2.2)
    change K14 (Act.put _ (some 50) _) W4
    refine hK14.out _ _ (fun _ => ⟨s3, s4, s5⟩) (fun hHeld => ?_)
    clear hK14 K14
    simp only [Act.put, List.setIfInBounds_toArray, List.set_cons_zero, List.set_cons_succ]
    refine wpAnyU_one (i := 15) (by kernel_rfl) rfl (fun K15 hK15 => ?_)
    go_simp
    refine hK15.out _ _ (fun _ => ⟨s3, s4, s5⟩) (fun hHeld => ?_)
    clear hK15 K15
    refine wpAnyU_one (i := 16) (by kernel_rfl) rfl (fun K16 hK16 => ?_)
    go_simp
    refine hK16.out _ _ (fun _ => ⟨s3, s4, s5⟩) (fun hHeld => ?_)
    clear hK16 K16
    have hvq2 : vs.length = q := HQQ.out
    have hfin := HP.out.push (y := y) (g := g4) (cap := cap4) (W := W4) hbb hg4 (by rw [hvq2]; exact ho4) (hl4.imp id id)
    rw [hvq2] at hfin
    obtain ⟨hf1, hf2⟩ := hfin
    have hf3 := HF.out.trans hf2 (fun k hk => by
     rcases hk with e | e
     ·exact Or.inl (Or.inl e)
     ·rcases HOB.out k e with e' | e'
      ·exact Or.inl (Or.inr e')
      ·exact Or.inr e')
    have hf4 : ∀ b, (Value.slice (some ⟨g4, 0, none⟩) (q + 1) cap4).ownBlock = some b → (Value.slice aad ac.length acap).ownBlock = some b ∨ X.heap.size ≤ b := fun b e => by
     have eb : g4 = b := by simpa [Value.ownBlock] using e
     subst eb
     rcases hl4 with e2 | e2
     ·exact HOB.out g4 e2
     ·right; rw [e2]; omega
    have HF1 := hidX (hf1.mono (up_up hzr))
    have HF3 := hidX hf3
    have HF4 := hidX hf4
    clear hf1 hf2 hf3 hf4 hHeld hbb s13 ho4 hg4 hl4 hw4 hv4 hpz s4 s5 hvq2 hoq hzb
    refine wpAnyU_one (i := 17) (by kernel_rfl) rfl (fun K17 hK17 => ?_)
    go_simp
    refine hK17.out _ _ (fun h => absurd rfl h) (fun _ => ?_)
    clear hK17 K17
    refine wpAnyU_done (by kernel_rfl) ?_ _
    go_wp2
    go_roundw
    case rel => exact ⟨q + 1, vs ++ [y], _, by omega, by go_num, by rw [List.length_append, HQQ.out]; rfl, HAS2.out, HF1.out, HF3.out, HF4.out⟩
    case measure => simp [intOf]; omega
  ·have hqn : vs.length = l.length := by omega
   have HFA := hidX (show ans = some vs from by rw [HANS.out]; have := HASK.out; rwa [hqn, List.take_length] at this)
   have hnl : ¬ (vs.length : Int) < (l.length : Int) := by omega
   clear hqn
   go_wp2
   go_ret2
   exact ⟨HBL.out, Or.inr ⟨vs, S, _, HFA.out, rfl, HP.out⟩⟩
end Go.Proofs.YtmckajgacfjnhaaGreatDoor
namespace Go.Proofs.YtmckajgacfjnhaaGreatDoor
open Go.RowKit
def WayTo (D : Nat → Prop) (X : World) (wb rb vb : Nat) (bv argv ansv : Value) (most steps : Int) (n : Nat) (r : Rst × (Nat → Option Int) × Nat) (e : Ending) (w' : World) : Prop :=
 ButP D X w' ∧ e = .returned (.int .i64 (r.2.2 : Int)) ∧ ∃ vl', vl'.length = n ∧ valsV vl' = r.2.1 ∧ PkE (Up D X) w' wb rb vb bv argv ansv r.1 most steps vl'
theorem setPs_snoc (g : Nat → Option Int) (l : List (Nat × Int)) (p : Nat × Int) : setPs g (l ++ [p]) = setP (setPs g l) p := by unfold setPs; rw [List.foldl_append]; rfl
set_option maxRecDepth 100000 in
set_option maxHeartbeats 4000000 in
theorem enter_any {D : Nat → Prop} {S : Nat → Prop} {X : World} {wb rb vb : Nat} {argv ansv askv : Value} {ba : Option Addr} {bc : Nat} {s : Rst} {most steps : Int} {vl : List (Int × Bool)} {ac : List Int} {L : List Pb} (h : PkJ D S X wb rb vb (.slice ba L.length bc) argv ansv askv s most steps vl ac) (hvl : vl.length ≤ 1000)
  {A : Nat → Prop} (hA : ∀ b, A b → b < X.heap.size ∧ ¬ D b) (hco : XCo A X (.slice ba L.length bc) L) (hL : L.length ≤ 1000) (t : Nat) (ht : t < L.length) (wi : List Int) (wa : Option Addr) (wc : Nat) (hw : XRow A X (.slice wa wi.length wc) wi.length (intsG wi)) (hwl : wi.length ≤ 1000) (hwin : ∀ x ∈ wi, 0 ≤ x ∧ x < (vl.length : Int))
  (hfit : wi.length = L[t].params.length) (hp : ∀ x ∈ L[t].params, 0 ≤ x ∧ x < (vl.length : Int)) :
  Calls Tryz.prog 74 #[.pointer (some ⟨wb, 0, none⟩), .int .i64 (t : Int), .slice wa wi.length wc] X fun e w' => WayTo D X wb rb vb (.slice ba L.length bc) argv ansv most steps vl.length (enterP L t wi s (valsV vl)) e w' := by
 have hask := ask_any h hvl wi hwl wa wc hw hA hwin
 have hr : enterP L t wi s (valsV vl) = match askX (valsV vl) (natL wi) with
  | none => ({ s with how := hStuck }, valsV vl, 0)
  | some vs => (s, setPs (valsV vl) ((natL L[t].params).zip vs), t) := by
  unfold enterP
  have : blkAt L (t : Int) = L[t] := by unfold blkAt; simp [ht]
  rw [this]
  rfl
 generalize hans : askX (valsV vl) (natL wi) = ans at hask hr
 generalize enterP L t wi s (valsV vl) = R at hr ⊢
 obtain ⟨g, off, pa, pc, ia, ic, ta, tc, wa2, wc2, e1, hg, q1, u1, u2, u3, k0, u4⟩ := hco.blk ht
 clear u1 u2 u3 u4
 subst e1
 have hgB := hA g hg
 generalize L[t] = b at *
 have HASK := hidX hask
 have HR := hidX hr
 have HROW := hidX q1
 have HK0 := hidX k0
 have HANS := hidX hans
 have HP := hidX hp
 have HAA := hidX hA
 have HFIT := hidX hfit
 have hL' : (L.length : Int) ≤ 1000 := by omega
 have ht' : (t : Int) < (L.length : Int) := by omega
 have hpl : (b.params.length : Int) ≤ 1000 := by omega
 clear hask hr q1 k0 hans hp hA hco hw hwin h hfit
 go_enter Tryz.func74, Tryz.ntmps74
 go_wp2_with fail
 refine HASK.out.mono ?_
 rintro e w2 ⟨hb2, ⟨hn, rfl, hpe⟩ | ⟨vs, S2, av, hn, rfl, hpj⟩⟩
 ·have hr : R = ({ s with how := hStuck }, valsV vl, 0) := by rw [HR.out, hn]
  subst hr
  have HPE := hidX hpe
  clear hpe HR
  go_wp2
  go_ret
  exact ⟨hb2, rfl, vl, rfl, rfl, HPE.out⟩
 ·have hr : R = (s, setPs (valsV vl) ((natL b.params).zip vs), t) := by rw [HR.out, hn]
  subst hr
  have hvs : vs.length = b.params.length := by
   have e2 := HANS.out
   rw [hn] at e2
   have := askX_len' e2
   simp only [natL, List.length_map] at this
   rw [this, HFIT.out]
  obtain ⟨aad, acap, rfl⟩ := own_is hpj.asks
  have m1 : w2.cell? ⟨wb, 1, none⟩ = some (.slice (some ⟨g, off, none⟩) L.length bc) := cell_of_blk hpj.blk 1
  have k0 := (World.cell?_of_block (w := X) (w' := w2) (a := ⟨g, _, none⟩) (hb2.block g hgB.1 hgB.2)).trans HK0.out
  have HPJ := hidX hpj
  have HB2 := hidX hb2
  have HVS := hidX hvs
  clear hpj hvs HR hn
  go_wp2_with fail
  go_loopw [28] (fun vi wr => ∃ (q : Nat) (vl' : List (Int × Bool)), q ≤ b.params.length ∧ vi = .int .i64 (q : Int) ∧ vl'.length ≤ 1000 ∧ Hid (vl'.length = vl.length) ∧ Hid (valsV vl' = setPs (valsV vl) (((natL b.params).zip vs).take q)) ∧ Hid (PkJ (Up D X) S2 wr wb rb vb (.slice (some ⟨g, off, none⟩) L.length bc) argv ansv (.slice aad vs.length acap) s most steps vl' vs) ∧ Hid (ButP D X wr)) (fun vi _ => b.params.length - (intOf vi).toNat)
  case atStart => exact ⟨0, vl, by omega, rfl, hvl, rfl, show valsV vl = setPs (valsV vl) (((natL b.params).zip vs).take 0) from by simp [setPs], HPJ.out, HB2.out⟩
  case round =>
   obtain ⟨q, vl', hq, rfl, hvl2, HLV, HVV, HPQ, HBQ⟩ := hrel
   by_cases hlt : q < b.params.length
   ·have hlt' : (q : Int) < (b.params.length : Int) := by omega
    obtain ⟨gp, offp, e1, hgp, kp⟩ := HROW.out.int hlt
    subst e1
    replace kp := (World.cell?_of_block (w := X) (w' := wr) (a := ⟨gp, _, none⟩) (HBQ.out.block gp (HAA.out gp hgp).1 (HAA.out gp hgp).2)).trans kp
    have hqv : q < vs.length := by rw [HVS.out]; exact hlt
    have hqv' : (q : Int) < (vs.length : Int) := by omega
    obtain ⟨ga, offa, e2, _, ka⟩ := (xrow_own HPQ.out.asks).int hqv
    subst e2
    have hxb := HP.out _ (List.getElem_mem hlt)
    obtain ⟨xn, hxn⟩ : ∃ xn : Nat, b.params[q] = (xn : Int) := ⟨b.params[q].toNat, by omega⟩
    have hx1 : xn < vl'.length := by rw [HLV.out]; omega
    have hz : ((natL b.params).zip vs).take (q + 1) = ((natL b.params).zip vs).take q ++ [(xn, vs[q])] := by
     have hzl : q < ((natL b.params).zip vs).length := by simp [natL]; omega
     rw [List.take_succ_eq_append_getElem hzl]
     simp [natL, hxn]
    have hbec := become_any hvl2 HPQ.out.blk HPQ.out.vals xn hx1 vs[q]
    have HNV := hidX (show valsV (vl'.set xn (vs[q], true)) = setPs (valsV vl) (((natL b.params).zip vs).take (q + 1)) from by rw [hz, setPs_snoc, ← HVV.out, valsV_set vl' xn vs[q] hx1])
    rw [hxn] at kp
    generalize vs[q] = y at *
    have HBEC := hidX hbec
    have hvl3 : (vl'.set xn (y, true)).length ≤ 1000 := by simpa using hvl2
    have HLV2 := hidX (show (vl'.set xn (y, true)).length = vl.length from by rw [List.length_set]; exact HLV.out)
    clear hbec hxn hxb hz
    go_wp2_with fail
    refine HBEC.out.mono ?_
    rintro e w3 ⟨rfl, hbu, hvb⟩
    obtain ⟨hb3, hp3⟩ := HPQ.out.become (vl' := vl'.set xn (y, true)) (by simp) hbu hvb
    have HP3 := hidX hp3
    have HB3 := hidX (HBQ.out.up hb3)
    clear hbu hvb hb3 hp3 HBEC HPQ HVV
    go_wp2
    go_roundw
    case rel => exact ⟨q + 1, _, by omega, by go_num, hvl3, HLV2.out, HNV.out, HP3.out, HB3.out⟩
    case measure => simp [intOf]; omega
   ·have hqn : q = b.params.length := by omega
    subst hqn
    have HFV := hidX (show valsV vl' = setPs (valsV vl) ((natL b.params).zip vs) from by
     have := HVV.out
     rwa [List.take_of_length_le (by simp [natL]; omega)] at this)
    go_wp2
    go_ret
    exact ⟨HBQ.out, rfl, vl', HLV.out, HFV.out, HPQ.out.e⟩
end Go.Proofs.YtmckajgacfjnhaaGreatDoor
