/- Our own: texts joined: MaTick, MaDoA. -/
import Derived.Test.YtbcpomdcmilpjaaDoorXMaSt
import Derived.Deep.AppendLies
import Derived.Deep.RegionLaw
namespace Go.Proofs.YtbcpomdcmilpjaaDoor
open Go.RowKit
section
variable {w : World} {B mb : Nat} {fv wv ov : Value} {I : Im} {g : Gm} {most d t : Nat}
set_option maxRecDepth 100000 in
set_option maxHeartbeats 2000000 in
theorem mstop_any (h : MM w B mb fv wv ov I [] g most d t) (how : List UInt8) :
  Calls Tryd.prog 37 #[.pointer (some ⟨mb, 0, none⟩), .string ⟨how.toArray⟩] w fun e w' => e = .returned (.bool false) ∧ MM w' B mb fv wv ov I how g most d t ∧ Fr (Sx mb ov.ownBlock) w w' := by
 have c0 : w.cell? ⟨mb, 0, none⟩ = some (.string ⟨([] : List UInt8).toArray⟩) := cell_of_blk h.blk 0
 have f0 := free_of_blk h.blk 0
 have HP := hidX (h.put (j := 0) (u := .string ⟨how.toArray⟩) (how' := how) (g' := g) (d' := d) (t' := t) rfl h.tl h.dl h.kl (by simp))
 clear h
 go_enter Tryd.func37, Tryd.ntmps37
 go_wp2
 go_ret
 exact ⟨rfl, HP.out.1, HP.out.2⟩
def MTick (w : World) (B mb : Nat) (fv wv ov : Value) (I : Im) (g : Gm) (most d t : Nat) (e : Ending) (w' : World) : Prop :=
 Fr (Sx mb ov.ownBlock) w w' ∧ if most ≤ g.ticks then e = .returned (.bool false) ∧ MM w' B mb fv wv ov I hTired g most d t else e = .returned (.bool true) ∧ MM w' B mb fv wv ov I [] ⟨g.out, g.ticks + 1⟩ most d t
set_option maxRecDepth 100000 in
set_option maxHeartbeats 2000000 in
theorem mtick_any (h : MM w B mb fv wv ov I [] g most d t) :
  Calls Tryd.prog 36 #[.pointer (some ⟨mb, 0, none⟩)] w (MTick w B mb fv wv ov I g most d t) := by
 have c3 : w.cell? ⟨mb, 3, none⟩ = some (.int .i64 (g.ticks : Int)) := cell_of_blk h.blk 3
 have c6 : w.cell? ⟨mb, 6, none⟩ = some (.int .i64 (most : Int)) := cell_of_blk h.blk 6
 have f3 := free_of_blk h.blk 3
 have hs' : (g.ticks : Int) ≤ 5000 := by have := h.tl; have := h.ml; omega
 have htl := h.tl
 have HM := hidX h
 clear h
 by_cases ht : most ≤ g.ticks
 ·have ht' : (g.ticks : Int) = (most : Int) := by omega
  have HT := hidX ht
  clear ht htl
  go_enter Tryd.func36, Tryd.ntmps36
  go_wp2_with fail
  go_quiet (fail)
  go_wp2_with fail
  refine (mstop_any (HM.out.below (by (repeat (first | exact Below.refl _ _ | assumption | refine Below.drew ?_ | refine bT ?_ _ | refine bS ?_ _ | refine bA ?_ _)))) hTired).mono ?_
  rintro e w' ⟨rfl, h1, h2⟩
  have H1 := hidX h1
  have H2 := hidX (show Fr (Sx mb ov.ownBlock) w w' from (Fr.of (by (repeat (first | exact Below.refl _ _ | assumption | refine Below.drew ?_ | refine bT ?_ _ | refine bS ?_ _ | refine bA ?_ _)))).trans h2 (fun _ _ h => h))
  clear h1 h2
  go_wp2
  go_ret
  exact ⟨H2.out, by rw [if_pos HT.out]; exact ⟨rfl, H1.out⟩⟩
 ·have ht' : ¬ (g.ticks : Int) = (most : Int) := by omega
  have HT := hidX ht
  clear ht htl
  go_enter Tryd.func36, Tryd.ntmps36
  go_wp2_with fail
  go_quiet (fail)
  go_wp2
  go_ret
  have hbq : Below w.heap.size w (w.drewN nq) := by (repeat (first | exact Below.refl _ _ | assumption | refine Below.drew ?_ | refine bT ?_ _ | refine bS ?_ _ | refine bA ?_ _))
  obtain ⟨h1, h2⟩ := (HM.out.below hbq).put (j := 3) (u := .int .i64 ((g.ticks : Int) + 1)) (how' := []) (g' := ⟨g.out, g.ticks + 1⟩) (d' := d) (t' := t) rfl (by show g.ticks + 1 ≤ most; have := HT.out; omega) HM.out.dl HM.out.kl (by simp)
  exact ⟨(Fr.of hbq).trans h2 (fun _ _ h => h), by rw [if_neg HT.out]; exact ⟨rfl, h1⟩⟩
def MPrint (w : World) (B mb : Nat) (fv wv ov : Value) (I : Im) (g : Gm) (most d t : Nat) (v : Int) (e : Ending) (w' : World) : Prop :=
 Fr (Sx mb ov.ownBlock) w w' ∧ if 1000 ≤ g.out.length then e = .returned (.bool false) ∧ MM w' B mb fv wv ov I hLoud g most d t else e = .returned (.bool true) ∧ ∃ ov', MM w' B mb fv wv ov' I [] ⟨g.out ++ [v], g.ticks⟩ most d t ∧ RowB w ov.ownBlock ov'.ownBlock
theorem mprint_fin {X w4 : World} {p cap : Nat} {v : Int} (h : MM w B mb fv wv ov I [] g most d t) (hg : X.grownBy w4 ov.ownBlock) (hb : Below w.heap.size w X) (hown : w4.ownsRow B 3 1 (.slice (some ⟨p, 0, none⟩) (g.out.length + 1) cap) (g.out.length + 1) (intsG g.out ++ [.int .i64 v])) (hl : ov.ownBlock = some p ∨ p = X.heap.size) (hne : ¬ 1000 ≤ g.out.length) :
  MPrint w B mb fv wv ov I g most d t v (.returned (.bool true)) (w4.setCell ⟨mb, 2, none⟩ (.slice (some ⟨p, 0, none⟩) (g.out.length + 1) cap)) := by
 obtain ⟨m1, m2, m3⟩ := (h.below hb).push (g' := ⟨g.out ++ [v], g.ticks⟩) (v' := .slice (some ⟨p, 0, none⟩) (g.out.length + 1) cap) rfl (by show (g.out ++ [v]).length ≤ 1000; rw [List.length_append]; simp; omega) (by show w4.ownsRow B _ 1 _ (g.out ++ [v]).length (intsG (g.out ++ [v])); rw [intsG_snoc, List.length_append]; exact hown) hg (hl.elim (fun e => Or.inl (by rw [e]; rfl)) (fun e => Or.inr (by rw [e]; rfl)))
 exact ⟨(Fr.of hb).trans m2 (fun _ _ h => h), by rw [if_neg hne]; exact ⟨rfl, _, m1, m3.mono hb.size⟩⟩
set_option maxRecDepth 100000 in
set_option maxHeartbeats 2000000 in
theorem mprint_any (h : MM w B mb fv wv ov I [] g most d t) (v : Int) :
  Calls Tryd.prog 63 #[.pointer (some ⟨mb, 0, none⟩), .int .i64 v] w (MPrint w B mb fv wv ov I g most d t v) := by
 have c2 : w.cell? ⟨mb, 2, none⟩ = some ov := cell_of_blk h.blk 2
 have hml := h.mlt
 obtain ⟨ado, co, rfl⟩ := own_is h.own
 have ho := h.ol
 have ho' : (g.out.length : Int) ≤ 1000 := by omega
 have hB : B ≤ w.heap.size := by have := h.hp; omega
 have HM := hidX h
 clear h
 by_cases hl : 1000 ≤ g.out.length
 ·have hl' : (g.out.length : Int) = 1000 := by omega
  have HL := hidX hl
  clear hl
  go_enter Tryd.func63, Tryd.ntmps63
  go_wp2_with fail
  refine (mstop_any HM.out hLoud).mono ?_
  rintro e w' ⟨rfl, h1, h2⟩
  have H1 := hidX h1
  have H2 := hidX h2
  clear h1 h2
  go_wp2
  go_ret
  exact ⟨H2.out, by rw [if_pos HL.out]; exact ⟨rfl, H1.out⟩⟩
 ·have hl' : ¬ (g.out.length : Int) = 1000 := by omega
  have HL := hidX hl
  obtain ⟨i0, hi, hz0, hz1, hz2⟩ := info_parts int_info
  clear hl
  go_enter Tryd.func63, Tryd.ntmps63
  go_wp2_with (at_builtin; refine wpList_append_lies _ rfl _ _ 26 rfl B 3 i0 _ 1 8 Tryd.underlying26 hi hz0 hz1 hz2 rfl (by decide) (.slice ado g.out.length co) g.out.length (intsG g.out) rfl (owns_below HM.out.own (by (repeat (first | exact Below.refl _ _ | assumption | refine Below.drew ?_ | refine bT ?_ _ | refine bS ?_ _ | refine bA ?_ _)))) ⟨w.heap.size, 0, none⟩ 1 1 [.int .i64 v] rfl rfl (World.news_of_block (heap_alloc_new w _)) (int_one v) (by decide) (by unfold maxLen; omega) (by omega) (by simp; omega) _ rfl ?_; intro g4 cap4 w4 hown4 hgrow hloc _; have hp4 : w4.heap[mb]? = _ := (hgrow.block mb (by first | exact hml | (simp; omega)) (fun e => HM.out.n1 e.symm)).trans ((show Below w.heap.size w _ by (repeat (first | exact Below.refl _ _ | assumption | refine Below.drew ?_ | refine bT ?_ _ | refine bS ?_ _ | refine bA ?_ _))).block mb hml |>.trans HM.out.blk); have f2 := free_of_blk hp4 2; have s2 : w4.cell? ⟨mb, 2, none⟩ = some (.slice ado g.out.length co) := cell_of_blk hp4 2; clear hp4)
  go_ret
  exact mprint_fin HM.out hgrow (by (repeat (first | exact Below.refl _ _ | assumption | refine Below.drew ?_ | refine bT ?_ _ | refine bS ?_ _ | refine bA ?_ _))) hown4 hloc HL.out
end
end Go.Proofs.YtbcpomdcmilpjaaDoor
namespace Go.Proofs.YtbcpomdcmilpjaaDoor
open Go.RowKit
def StopM (I : Im) (most k t : Nat) (S : Sm) (how : List UInt8) (g : Gm) : Prop :=
 (∃ n, itM I most n S = .halt how 0 g) ∨ (how = hStuck ∧ t + k = 100000000 ∧ ∃ g1 f1 fs1, itM I most k S = .run g1 f1 fs1)
def DoTo (w : World) (B mb fb sb : Nat) (fv wv ov : Value) (I : Im) (most d t : Nat) (f : Fm) (fs : List Fm) (S : Sm) (e : Ending) (w' : World) : Prop :=
 Fr (Sw mb fb sb ov.ownBlock) w w' ∧ ∃ k ov' g', RowB w ov.ownBlock ov'.ownBlock ∧
  ((∃ f', (f'.pc = f.pc ∧ f'.d = f.d) ∧ itM I most k S = .run g' f' fs ∧ e = .returned (.bool true) ∧ MM w' B mb fv wv ov' I [] g' most d (t + k) ∧ FM w' B mb fb sb f')
   ∨ (∃ how, e = .returned (.bool false) ∧ MM w' B mb fv wv ov' I how g' most d (t + k) ∧ StopM I most k t S how g'))
structure WordAt (w : World) (wb wo : Nat) (i : Ci) : Prop where
 lt : wb < w.heap.size
 op : w.cell? ⟨wb, wo, none⟩ = some (.string ⟨i.op.toArray⟩)
 d : w.cell? ⟨wb, wo + 1, none⟩ = some (.int .i64 i.d)
 a : w.cell? ⟨wb, wo + 2, none⟩ = some (.int .i64 i.a)
 b : w.cell? ⟨wb, wo + 3, none⟩ = some (.int .i64 i.b)
 imm : w.cell? ⟨wb, wo + 4, none⟩ = some (.int .i64 i.imm)
 sg : w.cell? ⟨wb, wo + 5, none⟩ = some (.string ⟨(coNamed i.op).2.sg.toArray⟩)
theorem WordAt.below {w w' : World} {wb wo : Nat} {i : Ci} (h : WordAt w wb wo i) (hb : w'.heap[wb]? = w.heap[wb]?) : WordAt w' wb wo i := by
 have key : ∀ j v, w.cell? ⟨wb, j, none⟩ = some v → w'.cell? ⟨wb, j, none⟩ = some v := fun j v e => (World.cell?_of_block (w := w) (a := ⟨wb, j, none⟩) hb).trans e
 have hlt : wb < w'.heap.size := by
  rcases Nat.lt_or_ge wb w'.heap.size with h' | h'
  ·exact h'
  ·rw [Array.getElem?_eq_none h'] at hb
   have := h.lt
   rw [Array.getElem?_eq_getElem this] at hb
   cases hb
 exact ⟨hlt, key _ _ h.op, key _ _ h.d, key _ _ h.a, key _ _ h.b, key _ _ h.imm, key _ _ h.sg⟩
structure OkI (i : Ci) : Prop where
 d : 0 ≤ i.d ∧ i.d < 8
 a : 0 ≤ i.a ∧ i.a < 8
 b : 0 ≤ i.b ∧ i.b < 8
 imm : -2147483648 ≤ i.imm ∧ i.imm < 2147483648
theorem FM.reg {w : World} {B mb fb sb : Nat} {f : Fm} (h : FM w B mb fb sb f) {k : Nat} (hk : k < 8) : w.cell? ⟨fb, 1 + k, none⟩ = some (.int .i64 (f.regs.getD k 0)) := by
 rw [cell_of_blk h.blk, List.getElem?_toArray, fmL_reg h.rl hk]
theorem FM.ptr {w : World} {B mb fb sb : Nat} {f : Fm} (h : FM w B mb fb sb f) : w.cell? ⟨fb, 0, none⟩ = some (.pointer (some ⟨mb, 0, none⟩)) := by
 rw [cell_of_blk h.blk]; rfl
theorem fr_set {w X : World} {mb fb sb : Nat} {o : Option Nat} (hX : Below w.heap.size w X) (b i : Nat) (u : Value) (hb : Sw mb fb sb o b) : Fr (Sw mb fb sb o) w (X.setCell ⟨b, i, none⟩ u) :=
 ⟨hX.os, hX.tape, hX.output, by simpa [World.setCell] using hX.size, fun c hc hS => (Below.heap_setCell _ _ _ _ (show c ≠ b from fun e => hS (e ▸ hb))).trans (hX.block c hc)⟩
theorem DoTo.drewN {w w' : World} {B mb fb sb : Nat} {fv wv ov : Value} {I : Im} {most d t : Nat} {f : Fm} {fs : List Fm} {S : Sm} {e : Ending} (h : DoTo w B mb fb sb fv wv ov I most d t f fs S e w') (n : Nat) : DoTo w B mb fb sb fv wv ov I most d t f fs S e (w'.drewN n) := by
 have hb : Below w'.heap.size w' (w'.drewN n) := by (repeat (first | exact Below.refl _ _ | assumption | refine Below.drew ?_ | refine bT ?_ _ | refine bS ?_ _ | refine bA ?_ _))
 obtain ⟨h1, k, ov', g', h2, h3⟩ := h
 refine ⟨h1.trans (Fr.of (S := Sw mb fb sb ov.ownBlock) hb) (fun _ _ h => h), k, ov', g', h2, ?_⟩
 rcases h3 with ⟨f', p, a, b, c, d⟩ | ⟨how, a, b, c⟩
 ·exact Or.inl ⟨f', p, a, b, c.below hb, d.below hb⟩
 ·exact Or.inr ⟨how, a, b.below hb, c⟩
theorem DoTo.drew {w w' : World} {B mb fb sb : Nat} {fv wv ov : Value} {I : Im} {most d t : Nat} {f : Fm} {fs : List Fm} {S : Sm} {e : Ending} (h : DoTo w B mb fb sb fv wv ov I most d t f fs S e w') : DoTo w B mb fb sb fv wv ov I most d t f fs S e w'.drew := h.drewN 1
section
variable {w : World} {B mb fb sb wb wo : Nat} {fv wv ov : Value} {I : Im} {g : Gm} {most d t : Nat} {f : Fm} {i : Ci}
theorem do_put (h : MM w B mb fv wv ov I [] g most d t) (hf : FM w B mb fb sb f) (hof : ov.ownBlock ≠ some fb) {X : World} (hX : Below w.heap.size w X) {k : Nat} (hk : k < 8) (v : Int) (fs : List Fm) {S : Sm} (hS : S = .run g (f.put k v) fs) :
  DoTo w B mb fb sb fv wv ov I most d t f fs S (.returned (.bool true)) (X.setCell ⟨fb, 1 + k, none⟩ (.int .i64 v)) := by
 have hfl := hf.flt
 have hml := h.mlt
 refine ⟨fr_set hX fb _ _ (Or.inr (Or.inl rfl)), 0, ov, g, RowB.refl _ _, Or.inl ⟨f.put k v, ⟨rfl, rfl⟩, hS, rfl, ?_, (hf.below hX).put hk v⟩⟩
 have hoth : ∀ b, b ≠ fb → (X.setCell ⟨fb, 1 + k, none⟩ (.int .i64 v)).heap[b]? = X.heap[b]? := fun b hb => Below.heap_setCell _ _ _ _ (show b ≠ fb from hb)
 have hp := hf.hp
 exact (h.below hX).stay ⟨rfl, rfl, rfl, by simp [World.setCell], fun b hb => hoth b (by omega)⟩ (hoth mb hf.nm.symm) (fun b e => hoth b (fun e' => hof (e' ▸ e)))
set_option maxRecDepth 100000 in
set_option maxHeartbeats 2000000 in
theorem do_const (h : MM w B mb fv wv ov I [] g most d t) (hf : FM w B mb fb sb f) (hof : ov.ownBlock ≠ some fb) (hw : WordAt w wb wo i) (hi : OkI i) (hk : i.op = mConst) (fs : List Fm) :
  Calls Tryd.prog 51 #[.pointer (some ⟨fb, 0, none⟩), .pointer (some ⟨wb, wo, none⟩)] w (DoTo w B mb fb sb fv wv ov I most d t f fs (doM I most g f fs i)) := by
 obtain ⟨op, D, a, b, imm⟩ := i
 have hk : op = _ := hk
 subst hk
 obtain ⟨D, rfl⟩ : ∃ n : Nat, D = (n : Int) := ⟨D.toNat, by have := hi.d; simp only at this; omega⟩
 have hD : D < 8 := by have := hi.d; simp only at this; omega
 have hD' : (D : Int) < 8 := by omega
 have q0 : w.cell? ⟨wb, wo, none⟩ = some (.string ⟨([99, 111, 110, 115, 116] : List UInt8).toArray⟩) := hw.op
 have q1 : w.cell? ⟨wb, wo + 1, none⟩ = some (.int .i64 (D : Int)) := hw.d
 have q4 : w.cell? ⟨wb, wo + 4, none⟩ = some (.int .i64 imm) := hw.imm
 have hS := hidX (show doM I most g f fs ⟨mConst, (D : Int), a, b, imm⟩ = .run g (f.put D imm) fs from rfl)
 have HM := hidX h
 have HF := hidX hf
 have HO := hidX hof
 have r0 := hf.reg hD
 have fr := free_of_blk hf.blk (1 + D)
 clear h hf hof hw hi
 go_enter Tryd.func51, Tryd.ntmps51
 go_wp2_with fail
 go_region
 go_wp2
 go_ret
 exact (do_put HM.out HF.out HO.out (by (repeat (first | exact Below.refl _ _ | assumption | refine Below.drew ?_ | refine bT ?_ _ | refine bS ?_ _ | refine bA ?_ _))) hD imm fs hS.out).drew
end
end Go.Proofs.YtbcpomdcmilpjaaDoor
