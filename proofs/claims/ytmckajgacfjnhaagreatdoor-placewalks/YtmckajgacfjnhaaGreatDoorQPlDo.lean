/- Our own: texts joined: PlDo. -/
import Derived.Test.YtmckajgacfjnhaaGreatDoorQPlLeave
namespace Go.Proofs.YtmckajgacfjnhaaGreatDoor
open Go.RowKit
structure DoI (V P : Nat) (x : Pi) : Prop where
 kind : x.kind = gParam ∨ x.kind = gConst ∨ x.kind = gOne ∨ x.kind = gTwo ∨ x.kind = gTick ∨ x.kind = gPrint ∨ x.kind = gCall
 args : ∀ a ∈ x.args, 0 ≤ a ∧ a < (V : Int)
 argl : x.args.length ≤ 1000
 d : x.kind ≠ gTick → x.kind ≠ gPrint → 0 ≤ x.d ∧ x.d < (V : Int)
 num : x.kind = gParam → 0 ≤ x.num ∧ x.num < (P : Int)
 one : x.kind = gOne → x.args.length = 1 ∧ x.name ∈ onesE
 two : x.kind = gTwo → x.args.length = 2 ∧ x.name ∈ twosE
 prt : x.kind = gPrint → x.args.length = 1
def DoTo (D : Nat → Prop) (X : World) (wb rb vb : Nat) (bv argv ansv : Value) (most steps : Int) (n : Nat) (r : Rst × (Nat → Option Int)) (e : Ending) (w' : World) : Prop :=
 ButP D X w' ∧ e = .returned (.tuple #[]) ∧ ∃ vl', vl'.length = n ∧ (r.1.how = [] → valsV vl' = r.2) ∧ PkE (Up D X) w' wb rb vb bv argv ansv r.1 most steps vl'
section
variable {D D' : Nat → Prop} {S : Nat → Prop} {X Y : World} {wb rb vb : Nat} {argv ansv askv : Value} {s : Rst} {most steps : Int} {vl : List (Int × Bool)} {ac : List Int} {A : Nat → Prop} {bv : Value}
theorem DoTo.back {n : Nat} {r : Rst × (Nat → Option Int)} {e : Ending} {w' : World} (hb : ButP D X Y) (hD : ∀ b, D' b → D b ∨ X.heap.size ≤ b) (h : DoTo D' Y wb rb vb bv argv ansv most steps n r e w') : DoTo D X wb rb vb bv argv ansv most steps n r e w' := by
 obtain ⟨h1, h2, vl', h3, h4, h5⟩ := h
 exact ⟨hb.trans h1 hD, h2, vl', h3, h4, h5.mono (fun b e => e.elim (fun e => hD b e) (fun e => Or.inr (Nat.le_trans hb.size e)))⟩
theorem do_become {av : Value} {vs : List Int} (h : PkJ D S X wb rb vb bv argv ansv av s most steps vl vs) (hvl : vl.length ≤ 1000) (d : Nat) (hd : d < vl.length) (y : Int) :
  Calls Tryz.prog 68 #[.pointer (some ⟨wb, 0, none⟩), .int .i64 (d : Int), .int .i64 y] X fun e w' => DoTo D X wb rb vb bv argv ansv most steps vl.length (s, setP (valsV vl) (d, y)) e w' := by
 refine (become_any hvl h.blk h.vals d hd y).mono ?_
 rintro e w' ⟨rfl, h1, h2⟩
 obtain ⟨h3, h4⟩ := h.become (vl' := vl.set d (y, true)) (by simp) h1 h2
 exact ⟨h3, rfl, _, by simp, fun _ => valsV_set vl d y hd, (h4.mono (fun _ e => Or.inl e)).e⟩
theorem do_rec {av : Value} {vs : List Int} {Z : World} {s' : Rst} (h : PkJ D S X wb rb vb bv argv ansv av s most steps vl vs) (hr : RecTo S X rb s' ansv most steps Z) : DoTo D X wb rb vb bv argv ansv most steps vl.length (s', valsV vl) (.returned (.tuple #[])) Z := by
 obtain ⟨h1, S', h2⟩ := h.recTo hr
 exact ⟨h1, rfl, vl, rfl, fun _ => rfl, h2.e⟩
theorem do_called {n : Nat} {ans : List Int} {nm : List UInt8} {vs : List Int} {dn : Nat} {y : Int} {e : Ending} {w' : World} (hy : (if ans.length ≤ s.calls.length then (0 : Int) else ans.getD s.calls.length 0) = y) (hb : ButP D X Y) (hD : ∀ b, D' b → D b ∨ X.heap.size ≤ b) (h : DoTo D' Y wb rb vb bv argv ansv most steps n (callR ans nm vs s, setP (valsV vl) (dn, y)) e w') :
  DoTo D X wb rb vb bv argv ansv most steps n (callR ans nm vs s, if ans.length ≤ s.calls.length then valsV vl else setP (valsV vl) (dn, ans.getD s.calls.length 0)) e w' := by
 obtain ⟨h1, h2, vl', h3, h4, h5⟩ := h
 refine ⟨hb.trans h1 hD, h2, vl', h3, fun hh => ?_, h5.mono (fun b e => e.elim (fun e => hD b e) (fun e => Or.inr (Nat.le_trans hb.size e)))⟩
 by_cases hc : ans.length ≤ s.calls.length
 ·exfalso
  unfold callR at hh
  rw [if_pos hc] at hh
  exact absurd hh (by simp only; decide)
 ·rw [if_neg hc] at hy ⊢
  rw [hy]; exact h4 hh
theorem do_held {n : Nat} {r : Rst × (Nat → Option Int)} {e : Ending} {w3 w5 : World} {bx : Nat} {v1 v4 v0 : Value} (h : DoTo D Y wb rb vb bv argv ansv most steps n r e w5) (hY : Below w3.heap.size w3 Y) (hD : ¬ D bx) (hl : bx < w3.heap.size) (hs : w3.cell? ⟨bx, 1, none⟩ = some v1 ∧ w3.cell? ⟨wb, 0, none⟩ = some v0 ∧ w3.cell? ⟨bx, 4, none⟩ = some v4) :
  w5.cell? ⟨bx, 1, none⟩ = some v1 ∧ w5.cell? ⟨wb, 0, none⟩ = some (.pointer (some ⟨rb, 0, none⟩)) ∧ w5.cell? ⟨bx, 4, none⟩ = some v4 := by
 obtain ⟨h1, _, vl', _, _, S', av, ac', h5⟩ := h
 have kk : ∀ o v, w3.cell? ⟨bx, o, none⟩ = some v → w5.cell? ⟨bx, o, none⟩ = some v := fun o v hv => ((World.cell?_of_block (w := Y) (w' := w5) (a := ⟨bx, o, none⟩) (h1.block bx (Nat.lt_of_lt_of_le hl hY.size) hD)).trans (hY.cell (p := ⟨bx, o, none⟩) hl)).trans hv
 exact ⟨kk _ _ hs.1, cell_of_blk h5.blk 0, kk _ _ hs.2.2⟩
set_option maxRecDepth 100000 in
set_option maxHeartbeats 4000000 in
theorem do_param (h : PkJ D S X wb rb vb bv argv ansv askv s most steps vl ac) (hvl : vl.length ≤ 1000) (hA : ∀ b, A b → b < X.heap.size ∧ ¬ D b) {args ans : List Int} (hag : XRow A X argv args.length (intsG args)) (han : XRow A X ansv ans.length (intsG ans)) (_hal : ans.length ≤ 100000) (hgl : args.length ≤ 1000) (_hts : 0 ≤ s.tks ∧ s.tks ≤ 1000000000) (_hol : s.out.length ≤ 1000) {x : Pi} (hx : DoI vl.length args.length x) {xa : Option Addr} {xc : Nat} (hxr : XRow A X (.slice xa x.args.length xc) x.args.length (intsG x.args)) (hf : x.kind = gParam) :
  Calls Tryz.prog 42 #[.pointer (some ⟨wb, 0, none⟩), .agg #[.string ⟨x.kind.toArray⟩, .int .i64 x.d, .slice xa x.args.length xc, .int .i64 x.num, .string ⟨x.name.toArray⟩]] X fun e w' => DoTo D X wb rb vb bv argv ansv most steps vl.length (insP args ans most x s (valsV vl)) e w' := by
 have hr : insP args ans most x s (valsV vl) = match askX (valsV vl) (natL x.args) with
  | none => ({ s with how := hStuck }, valsV vl)
  | some vs => (s, setP (valsV vl) (x.d.toNat, args.getD x.num.toNat 0)) := by unfold insP; cases askX (valsV vl) (natL x.args) with
  | none => rfl
  | some vs => show (if x.kind = gTick then _ else _) = _; rw [if_neg (by rw [hf]; decide)]; rw [if_neg (by rw [hf]; decide)]; rw [if_neg (by rw [hf]; decide)]; unfold valP; rw [if_pos hf]
 obtain ⟨X1, hX1⟩ : ∃ X1, X1 = X.alloc (.cells #[.string ⟨x.kind.toArray⟩, .int .i64 x.d, .slice xa x.args.length xc, .int .i64 x.num, .string ⟨x.name.toArray⟩] 52) := ⟨_, rfl⟩
 have hbx : Below X.heap.size X X1 := by rw [hX1]; exact box_blk X #[.string ⟨x.kind.toArray⟩, .int .i64 x.d, .slice xa x.args.length xc, .int .i64 x.num, .string ⟨x.name.toArray⟩] 52
 have hN : X1.heap[X.heap.size]? = some (.cells #[.string ⟨x.kind.toArray⟩, .int .i64 x.d, .slice xa x.args.length xc, .int .i64 x.num, .string ⟨x.name.toArray⟩] 52 (0, 0)) := by rw [hX1]; exact heap_alloc_new _ _
 have hxl : X.heap.size < X1.heap.size := heap_lt hN
 have HASK := hidX (ask_any (h.now.below hbx) hvl x.args hx.argl xa xc (hxr.imp (fun _ h => h) (fun k hk => hbx.block k (hA k hk).1)) (fun b hb => ⟨Nat.lt_trans (hA b hb).1 hxl, fun e => (hA b hb).2 e.1⟩) hx.args)
 have hlx := fun vs (e : askX (valsV vl) (natL x.args) = some vs) => (askX_len' e).trans (by simp [natL] : (natL x.args).length = x.args.length)
 have HLX := hidX hlx
 generalize askX (valsV vl) (natL x.args) = an at HASK hr HLX
 generalize insP args ans most x s (valsV vl) = RR at hr ⊢
 have HR := hidX hr
 have HX1 := hidX hX1
 have HN := hidX hN
 have HBX := hidX hbx
 have HAX := hidX hA
 have HAG := hidX hag
 have HAN := hidX han
 have HX := hidX hx
 have HF := hidX hf
 have t0 : (x.kind == [112, 97, 114, 97, 109]) = true := by rw [hf]; rfl
 have t1 : (x.kind == [99, 111, 110, 115, 116]) = false := by rw [hf]; rfl
 have t2 : (x.kind == [111, 110, 101]) = false := by rw [hf]; rfl
 have t3 : (x.kind == [116, 119, 111]) = false := by rw [hf]; rfl
 have t4 : (x.kind == [116, 105, 99, 107]) = false := by rw [hf]; rfl
 have t5 : (x.kind == [112, 114, 105, 110, 116]) = false := by rw [hf]; rfl
 have t6 : (x.kind == [99, 97, 108, 108]) = false := by rw [hf]; rfl
 clear hr hX1 hN hbx hA hag han hx hxr h hf hlx
 go_enter Tryz.func42, Tryz.ntmps42
 go_wp2_with fail
 rw [← HX1.out]
 clear HX1
 refine HASK.out.mono ?_
 rintro e w2 ⟨hb2, ⟨hn, rfl, hpe⟩ | ⟨vs, S2, av, hn, rfl, hpj⟩⟩
 ·have hr : RR = ({ s with how := hStuck }, valsV vl) := by rw [HR.out, hn]
  subst hr
  have HW := hidX (show DoTo D X wb rb vb bv argv ansv most steps vl.length ({ s with how := hStuck }, valsV vl) (.returned (.tuple #[])) w2 from DoTo.back (Y := X1) (D' := Now D X) (ButP.of HBX.out) (fun _ e => Or.inl e.1) ⟨hb2, rfl, vl, rfl, fun _ => rfl, hpe⟩)
  clear hpe hb2 HR
  go_wp2
  (try simp only [Exit.inBlock, Exit.then])
  refine bodyPost_ret (results_none rfl _ _ _) rfl ?_
  exact HW.out
 ·have HRR := hidX (show RR = (s, setP (valsV vl) (x.d.toNat, args.getD x.num.toNat 0)) by rw [HR.out, hn])
  have hvsl := HLX.out vs hn
  obtain ⟨aad, acap, rfl⟩ := own_is hpj.asks
  have hzx : X1.heap.size ≤ w2.heap.size := hb2.size
  have HPJ := hidX hpj
  have HBK := hidX (show ∀ Y, Below w2.heap.size w2 Y → ButP D X Y from fun Y hY => ((ButP.of HBX.out).trans hb2 (fun _ e => Or.inl e.1)).trans (ButP.of (S := fun _ => False) hY) (fun _ e => e.elim))
  have HDD := hidX (show ∀ b, Up (Now D X) X1 b → D b ∨ X.heap.size ≤ b from fun b e => e.elim (fun e => Or.inl e.1) (fun e => Or.inr (by omega)))
  have hN2 : w2.heap[X.heap.size]? = some (.cells #[.string ⟨x.kind.toArray⟩, .int .i64 x.d, .slice xa x.args.length xc, .int .i64 x.num, .string ⟨x.name.toArray⟩] 52 (0, 0)) := (hb2.block _ hxl (fun e => by have := e.2; omega)).trans HN.out
  have n0 : w2.cell? ⟨X.heap.size, 0, none⟩ = some (.string ⟨x.kind.toArray⟩) := cell_of_blk hN2 0
  have n1 : w2.cell? ⟨X.heap.size, 1, none⟩ = some (.int .i64 x.d) := cell_of_blk hN2 1
  have n3 : w2.cell? ⟨X.heap.size, 3, none⟩ = some (.int .i64 x.num) := cell_of_blk hN2 3
  have n4 : w2.cell? ⟨X.heap.size, 4, none⟩ = some (.string ⟨x.name.toArray⟩) := cell_of_blk hN2 4
  have m0 : w2.cell? ⟨wb, 0, none⟩ = some (.pointer (some ⟨rb, 0, none⟩)) := cell_of_blk hpj.blk 0
  have m2 : w2.cell? ⟨wb, 2, none⟩ = some argv := cell_of_blk hpj.blk 2
  have HKA := hidX (show ∀ k, A k → k < w2.heap.size ∧ w2.heap[k]? = X.heap[k]? ∧ ¬ Up (Now D X) X1 k from fun k hk => ⟨by have := (HAX.out k hk).1; omega, (hb2.block k (by have := (HAX.out k hk).1; omega) (fun e => (HAX.out k hk).2 e.1)).trans (HBX.out.block k (HAX.out k hk).1), fun e => e.elim (fun e => (HAX.out k hk).2 e.1) (fun e => by have := (HAX.out k hk).1; omega)⟩)
  have hxw : X.heap.size < w2.heap.size := by omega
  clear hpj hb2 HR hn hN2 HASK HLX HN
  have hdr := HX.out.d (by intro e; rw [e] at t4; cases t4) (by intro e; rw [e] at t5; cases t5)
  obtain ⟨dn, hdn⟩ : ∃ dn : Nat, x.d = (dn : Int) := ⟨x.d.toNat, by omega⟩
  have hdl : dn < vl.length := by omega
  rw [hdn] at n1
  have HDN := hidX (show x.d.toNat = dn by omega)
  clear hdr
  have hnr := HX.out.num HF.out
  obtain ⟨pn, hpn⟩ : ∃ pn : Nat, x.num = (pn : Int) := ⟨x.num.toNat, by omega⟩
  have hpl : pn < args.length := by omega
  have hpl' : (pn : Int) < (args.length : Int) := by omega
  rw [hpn] at n3
  have HPN := hidX (show args.getD x.num.toNat 0 = args[pn] by rw [show x.num.toNat = pn by omega]; simp [List.getD, hpl])
  obtain ⟨gad, gcap, hgs⟩ := HAG.out.is
  subst hgs
  obtain ⟨g, off, e1, hg, ka⟩ := HAG.out.int hpl
  subst e1
  replace ka := (World.cell?_of_block (w := X) (w' := w2) (a := ⟨g, _, none⟩) (HKA.out g hg).2.1).trans ka
  generalize args[pn] = y at ka HPN
  have hgl' : (args.length : Int) ≤ 1000 := by omega
  have HBE := hidX fun Y (hY : Below w2.heap.size w2 Y) => do_become (HPJ.out.below hY) hvl dn hdl y
  have C0 := hidX (show (fun W : World => W.cell? ⟨X.heap.size, 1, none⟩ = some (.int .i64 (dn : Int)) ∧ W.cell? ⟨wb, 2, none⟩ = some (.slice (some ⟨g, off, none⟩) args.length gcap) ∧ W.cell? ⟨X.heap.size, 3, none⟩ = some (.int .i64 (pn : Int)) ∧ W.cell? ⟨g, off + pn, none⟩ = some (.int .i64 y)) w2 from ⟨n1, m2, n3, ka⟩)
  have HS := hidX (show ∀ Y Z e, Below w2.heap.size w2 Y → DoTo (Up (Now D X) X1) Y wb rb vb bv (.slice (some ⟨g, off, none⟩) args.length gcap) ansv most steps vl.length (s, setP (valsV vl) (dn, y)) e Z → (fun W : World => W.cell? ⟨X.heap.size, 1, none⟩ = some (.int .i64 (dn : Int)) ∧ W.cell? ⟨wb, 2, none⟩ = some (.slice (some ⟨g, off, none⟩) args.length gcap) ∧ W.cell? ⟨X.heap.size, 3, none⟩ = some (.int .i64 (pn : Int)) ∧ W.cell? ⟨g, off + pn, none⟩ = some (.int .i64 y)) Z from fun Y Z e hY hZ => by
   obtain ⟨hz1, _, vl', _, _, S3, av3, ac3, hz2⟩ := hZ
   have hzy := hY.size
   have kk : ∀ k o v, k < w2.heap.size → ¬ Up (Now D X) X1 k → w2.cell? ⟨k, o, none⟩ = some v → Z.cell? ⟨k, o, none⟩ = some v := fun k o v hk hn hv => ((World.cell?_of_block (w := Y) (w' := Z) (a := ⟨k, o, none⟩) (hz1.block k (by omega) hn)).trans (hY.cell (p := ⟨k, o, none⟩) hk)).trans hv
   have nb : ¬ Up (Now D X) X1 X.heap.size := fun e => e.elim (fun e => by have := e.2; omega) (fun e => by omega)
   exact ⟨kk _ _ _ hxw nb n1, cell_of_blk hz2.blk 2, kk _ _ _ hxw nb n3, kk _ _ _ (HKA.out g hg).1 (HKA.out g hg).2.2 ka⟩)
  clear hdn HPJ hnr hpn
  go_wp2_with fail
  clear n1 m2 n3 ka
  go_region_held3 (fun W => W.cell? ⟨X.heap.size, 1, none⟩ = some (.int .i64 (dn : Int)) ∧ W.cell? ⟨wb, 2, none⟩ = some (.slice (some ⟨g, off, none⟩) args.length gcap) ∧ W.cell? ⟨X.heap.size, 3, none⟩ = some (.int .i64 (pn : Int)) ∧ W.cell? ⟨g, off + pn, none⟩ = some (.int .i64 y))
   (first | with_reducible exact s1 | exact C0.out)
   (first
    | (go_at_call 68; refine (HBE.out _ (by (repeat (first | exact Below.refl _ _ | assumption | refine Below.drew ?_ | refine bT ?_ _ | refine bS ?_ _ | refine bA ?_ _)))).mono ?_; rintro e w3 hd3; have he := hd3.2.1; subst he; have s1 := HS.out _ _ _ (by (repeat (first | exact Below.refl _ _ | assumption | refine Below.drew ?_ | refine bT ?_ _ | refine bS ?_ _ | refine bA ?_ _))) hd3; have HW := hidX (show DoTo D X wb rb vb bv (.slice (some ⟨g, off, none⟩) args.length gcap) ansv most steps vl.length RR (.returned (.tuple #[])) w3 from (by rw [HRR.out, HDN.out, HPN.out]; exact DoTo.back (HBK.out _ (by (repeat (first | exact Below.refl _ _ | assumption | refine Below.drew ?_ | refine bT ?_ _ | refine bS ?_ _ | refine bA ?_ _)))) HDD.out hd3)); clear hd3))
  all_goals go_wp2
  all_goals (
   (try simp only [Exit.inBlock, Exit.then])
   refine bodyPost_ret (results_none rfl _ _ _) rfl ?_
   exact HW.out)
set_option maxRecDepth 100000 in
set_option maxHeartbeats 4000000 in
theorem do_const (h : PkJ D S X wb rb vb bv argv ansv askv s most steps vl ac) (hvl : vl.length ≤ 1000) (hA : ∀ b, A b → b < X.heap.size ∧ ¬ D b) {args ans : List Int} (hag : XRow A X argv args.length (intsG args)) (han : XRow A X ansv ans.length (intsG ans)) (_hal : ans.length ≤ 100000) (_hgl : args.length ≤ 1000) (_hts : 0 ≤ s.tks ∧ s.tks ≤ 1000000000) (_hol : s.out.length ≤ 1000) {x : Pi} (hx : DoI vl.length args.length x) {xa : Option Addr} {xc : Nat} (hxr : XRow A X (.slice xa x.args.length xc) x.args.length (intsG x.args)) (hf : x.kind = gConst) :
  Calls Tryz.prog 42 #[.pointer (some ⟨wb, 0, none⟩), .agg #[.string ⟨x.kind.toArray⟩, .int .i64 x.d, .slice xa x.args.length xc, .int .i64 x.num, .string ⟨x.name.toArray⟩]] X fun e w' => DoTo D X wb rb vb bv argv ansv most steps vl.length (insP args ans most x s (valsV vl)) e w' := by
 have hr : insP args ans most x s (valsV vl) = match askX (valsV vl) (natL x.args) with
  | none => ({ s with how := hStuck }, valsV vl)
  | some vs => (s, setP (valsV vl) (x.d.toNat, x.num)) := by unfold insP; cases askX (valsV vl) (natL x.args) with
  | none => rfl
  | some vs => show (if x.kind = gTick then _ else _) = _; rw [if_neg (by rw [hf]; decide)]; rw [if_neg (by rw [hf]; decide)]; rw [if_neg (by rw [hf]; decide)]; unfold valP; rw [if_neg (by rw [hf]; decide)]; rw [if_pos hf]
 obtain ⟨X1, hX1⟩ : ∃ X1, X1 = X.alloc (.cells #[.string ⟨x.kind.toArray⟩, .int .i64 x.d, .slice xa x.args.length xc, .int .i64 x.num, .string ⟨x.name.toArray⟩] 52) := ⟨_, rfl⟩
 have hbx : Below X.heap.size X X1 := by rw [hX1]; exact box_blk X #[.string ⟨x.kind.toArray⟩, .int .i64 x.d, .slice xa x.args.length xc, .int .i64 x.num, .string ⟨x.name.toArray⟩] 52
 have hN : X1.heap[X.heap.size]? = some (.cells #[.string ⟨x.kind.toArray⟩, .int .i64 x.d, .slice xa x.args.length xc, .int .i64 x.num, .string ⟨x.name.toArray⟩] 52 (0, 0)) := by rw [hX1]; exact heap_alloc_new _ _
 have hxl : X.heap.size < X1.heap.size := heap_lt hN
 have HASK := hidX (ask_any (h.now.below hbx) hvl x.args hx.argl xa xc (hxr.imp (fun _ h => h) (fun k hk => hbx.block k (hA k hk).1)) (fun b hb => ⟨Nat.lt_trans (hA b hb).1 hxl, fun e => (hA b hb).2 e.1⟩) hx.args)
 have hlx := fun vs (e : askX (valsV vl) (natL x.args) = some vs) => (askX_len' e).trans (by simp [natL] : (natL x.args).length = x.args.length)
 have HLX := hidX hlx
 generalize askX (valsV vl) (natL x.args) = an at HASK hr HLX
 generalize insP args ans most x s (valsV vl) = RR at hr ⊢
 have HR := hidX hr
 have HX1 := hidX hX1
 have HN := hidX hN
 have HBX := hidX hbx
 have HAX := hidX hA
 have HAG := hidX hag
 have HAN := hidX han
 have HX := hidX hx
 have HF := hidX hf
 have t0 : (x.kind == [112, 97, 114, 97, 109]) = false := by rw [hf]; rfl
 have t1 : (x.kind == [99, 111, 110, 115, 116]) = true := by rw [hf]; rfl
 have t2 : (x.kind == [111, 110, 101]) = false := by rw [hf]; rfl
 have t3 : (x.kind == [116, 119, 111]) = false := by rw [hf]; rfl
 have t4 : (x.kind == [116, 105, 99, 107]) = false := by rw [hf]; rfl
 have t5 : (x.kind == [112, 114, 105, 110, 116]) = false := by rw [hf]; rfl
 have t6 : (x.kind == [99, 97, 108, 108]) = false := by rw [hf]; rfl
 clear hr hX1 hN hbx hA hag han hx hxr h hf hlx
 go_enter Tryz.func42, Tryz.ntmps42
 go_wp2_with fail
 rw [← HX1.out]
 clear HX1
 refine HASK.out.mono ?_
 rintro e w2 ⟨hb2, ⟨hn, rfl, hpe⟩ | ⟨vs, S2, av, hn, rfl, hpj⟩⟩
 ·have hr : RR = ({ s with how := hStuck }, valsV vl) := by rw [HR.out, hn]
  subst hr
  have HW := hidX (show DoTo D X wb rb vb bv argv ansv most steps vl.length ({ s with how := hStuck }, valsV vl) (.returned (.tuple #[])) w2 from DoTo.back (Y := X1) (D' := Now D X) (ButP.of HBX.out) (fun _ e => Or.inl e.1) ⟨hb2, rfl, vl, rfl, fun _ => rfl, hpe⟩)
  clear hpe hb2 HR
  go_wp2
  (try simp only [Exit.inBlock, Exit.then])
  refine bodyPost_ret (results_none rfl _ _ _) rfl ?_
  exact HW.out
 ·have HRR := hidX (show RR = (s, setP (valsV vl) (x.d.toNat, x.num)) by rw [HR.out, hn])
  have hvsl := HLX.out vs hn
  obtain ⟨aad, acap, rfl⟩ := own_is hpj.asks
  have hzx : X1.heap.size ≤ w2.heap.size := hb2.size
  have HPJ := hidX hpj
  have HBK := hidX (show ∀ Y, Below w2.heap.size w2 Y → ButP D X Y from fun Y hY => ((ButP.of HBX.out).trans hb2 (fun _ e => Or.inl e.1)).trans (ButP.of (S := fun _ => False) hY) (fun _ e => e.elim))
  have HDD := hidX (show ∀ b, Up (Now D X) X1 b → D b ∨ X.heap.size ≤ b from fun b e => e.elim (fun e => Or.inl e.1) (fun e => Or.inr (by omega)))
  have hN2 : w2.heap[X.heap.size]? = some (.cells #[.string ⟨x.kind.toArray⟩, .int .i64 x.d, .slice xa x.args.length xc, .int .i64 x.num, .string ⟨x.name.toArray⟩] 52 (0, 0)) := (hb2.block _ hxl (fun e => by have := e.2; omega)).trans HN.out
  have n0 : w2.cell? ⟨X.heap.size, 0, none⟩ = some (.string ⟨x.kind.toArray⟩) := cell_of_blk hN2 0
  have n1 : w2.cell? ⟨X.heap.size, 1, none⟩ = some (.int .i64 x.d) := cell_of_blk hN2 1
  have n3 : w2.cell? ⟨X.heap.size, 3, none⟩ = some (.int .i64 x.num) := cell_of_blk hN2 3
  have n4 : w2.cell? ⟨X.heap.size, 4, none⟩ = some (.string ⟨x.name.toArray⟩) := cell_of_blk hN2 4
  have m0 : w2.cell? ⟨wb, 0, none⟩ = some (.pointer (some ⟨rb, 0, none⟩)) := cell_of_blk hpj.blk 0
  have m2 : w2.cell? ⟨wb, 2, none⟩ = some argv := cell_of_blk hpj.blk 2
  have HKA := hidX (show ∀ k, A k → k < w2.heap.size ∧ w2.heap[k]? = X.heap[k]? ∧ ¬ Up (Now D X) X1 k from fun k hk => ⟨by have := (HAX.out k hk).1; omega, (hb2.block k (by have := (HAX.out k hk).1; omega) (fun e => (HAX.out k hk).2 e.1)).trans (HBX.out.block k (HAX.out k hk).1), fun e => e.elim (fun e => (HAX.out k hk).2 e.1) (fun e => by have := (HAX.out k hk).1; omega)⟩)
  have hxw : X.heap.size < w2.heap.size := by omega
  clear hpj hb2 HR hn hN2 HASK HLX HN
  have hdr := HX.out.d (by intro e; rw [e] at t4; cases t4) (by intro e; rw [e] at t5; cases t5)
  obtain ⟨dn, hdn⟩ : ∃ dn : Nat, x.d = (dn : Int) := ⟨x.d.toNat, by omega⟩
  have hdl : dn < vl.length := by omega
  rw [hdn] at n1
  have HDN := hidX (show x.d.toNat = dn by omega)
  clear hdr
  have HBE := hidX fun Y (hY : Below w2.heap.size w2 Y) => do_become (HPJ.out.below hY) hvl dn hdl x.num
  clear hdn HPJ
  go_wp2_with fail
  refine (HBE.out _ (by (repeat (first | exact Below.refl _ _ | assumption | refine Below.drew ?_ | refine bT ?_ _ | refine bS ?_ _ | refine bA ?_ _)))).mono ?_
  rintro e w3 hd3
  have he := hd3.2.1
  subst he
  have HW := hidX (show DoTo D X wb rb vb bv argv ansv most steps vl.length RR (.returned (.tuple #[])) w3 from by
   rw [HRR.out, HDN.out]; exact DoTo.back (HBK.out _ (by (repeat (first | exact Below.refl _ _ | assumption | refine Below.drew ?_ | refine bT ?_ _ | refine bS ?_ _ | refine bA ?_ _)))) HDD.out hd3)
  clear hd3
  go_wp2
  (try simp only [Exit.inBlock, Exit.then])
  refine bodyPost_ret (results_none rfl _ _ _) rfl ?_
  exact HW.out
set_option maxRecDepth 100000 in
set_option maxHeartbeats 4000000 in
theorem do_one (h : PkJ D S X wb rb vb bv argv ansv askv s most steps vl ac) (hvl : vl.length ≤ 1000) (hA : ∀ b, A b → b < X.heap.size ∧ ¬ D b) {args ans : List Int} (hag : XRow A X argv args.length (intsG args)) (han : XRow A X ansv ans.length (intsG ans)) (_hal : ans.length ≤ 100000) (_hgl : args.length ≤ 1000) (_hts : 0 ≤ s.tks ∧ s.tks ≤ 1000000000) (_hol : s.out.length ≤ 1000) {x : Pi} (hx : DoI vl.length args.length x) {xa : Option Addr} {xc : Nat} (hxr : XRow A X (.slice xa x.args.length xc) x.args.length (intsG x.args)) (hf : x.kind = gOne) :
  Calls Tryz.prog 42 #[.pointer (some ⟨wb, 0, none⟩), .agg #[.string ⟨x.kind.toArray⟩, .int .i64 x.d, .slice xa x.args.length xc, .int .i64 x.num, .string ⟨x.name.toArray⟩]] X fun e w' => DoTo D X wb rb vb bv argv ansv most steps vl.length (insP args ans most x s (valsV vl)) e w' := by
 have hr : insP args ans most x s (valsV vl) = match askX (valsV vl) (natL x.args) with
  | none => ({ s with how := hStuck }, valsV vl)
  | some vs => (s, setP (valsV vl) (x.d.toNat, sumV x.kind x.name vs)) := by unfold insP; cases askX (valsV vl) (natL x.args) with
  | none => rfl
  | some vs => show (if x.kind = gTick then _ else _) = _; rw [if_neg (by rw [hf]; decide)]; rw [if_neg (by rw [hf]; decide)]; rw [if_neg (by rw [hf]; decide)]; unfold valP; rw [if_neg (by rw [hf]; decide)]; rw [if_neg (by rw [hf]; decide)]
 obtain ⟨X1, hX1⟩ : ∃ X1, X1 = X.alloc (.cells #[.string ⟨x.kind.toArray⟩, .int .i64 x.d, .slice xa x.args.length xc, .int .i64 x.num, .string ⟨x.name.toArray⟩] 52) := ⟨_, rfl⟩
 have hbx : Below X.heap.size X X1 := by rw [hX1]; exact box_blk X #[.string ⟨x.kind.toArray⟩, .int .i64 x.d, .slice xa x.args.length xc, .int .i64 x.num, .string ⟨x.name.toArray⟩] 52
 have hN : X1.heap[X.heap.size]? = some (.cells #[.string ⟨x.kind.toArray⟩, .int .i64 x.d, .slice xa x.args.length xc, .int .i64 x.num, .string ⟨x.name.toArray⟩] 52 (0, 0)) := by rw [hX1]; exact heap_alloc_new _ _
 have hxl : X.heap.size < X1.heap.size := heap_lt hN
 have HASK := hidX (ask_any (h.now.below hbx) hvl x.args hx.argl xa xc (hxr.imp (fun _ h => h) (fun k hk => hbx.block k (hA k hk).1)) (fun b hb => ⟨Nat.lt_trans (hA b hb).1 hxl, fun e => (hA b hb).2 e.1⟩) hx.args)
 have hlx := fun vs (e : askX (valsV vl) (natL x.args) = some vs) => (askX_len' e).trans (by simp [natL] : (natL x.args).length = x.args.length)
 have HLX := hidX hlx
 generalize askX (valsV vl) (natL x.args) = an at HASK hr HLX
 generalize insP args ans most x s (valsV vl) = RR at hr ⊢
 have HR := hidX hr
 have HX1 := hidX hX1
 have HN := hidX hN
 have HBX := hidX hbx
 have HAX := hidX hA
 have HAG := hidX hag
 have HAN := hidX han
 have HX := hidX hx
 have HF := hidX hf
 have t0 : (x.kind == [112, 97, 114, 97, 109]) = false := by rw [hf]; rfl
 have t1 : (x.kind == [99, 111, 110, 115, 116]) = false := by rw [hf]; rfl
 have t2 : (x.kind == [111, 110, 101]) = true := by rw [hf]; rfl
 have t3 : (x.kind == [116, 119, 111]) = false := by rw [hf]; rfl
 have t4 : (x.kind == [116, 105, 99, 107]) = false := by rw [hf]; rfl
 have t5 : (x.kind == [112, 114, 105, 110, 116]) = false := by rw [hf]; rfl
 have t6 : (x.kind == [99, 97, 108, 108]) = false := by rw [hf]; rfl
 clear hr hX1 hN hbx hA hag han hx hxr h hf hlx
 go_enter Tryz.func42, Tryz.ntmps42
 go_wp2_with fail
 rw [← HX1.out]
 clear HX1
 refine HASK.out.mono ?_
 rintro e w2 ⟨hb2, ⟨hn, rfl, hpe⟩ | ⟨vs, S2, av, hn, rfl, hpj⟩⟩
 ·have hr : RR = ({ s with how := hStuck }, valsV vl) := by rw [HR.out, hn]
  subst hr
  have HW := hidX (show DoTo D X wb rb vb bv argv ansv most steps vl.length ({ s with how := hStuck }, valsV vl) (.returned (.tuple #[])) w2 from DoTo.back (Y := X1) (D' := Now D X) (ButP.of HBX.out) (fun _ e => Or.inl e.1) ⟨hb2, rfl, vl, rfl, fun _ => rfl, hpe⟩)
  clear hpe hb2 HR
  go_wp2
  (try simp only [Exit.inBlock, Exit.then])
  refine bodyPost_ret (results_none rfl _ _ _) rfl ?_
  exact HW.out
 ·have HRR := hidX (show RR = (s, setP (valsV vl) (x.d.toNat, sumV x.kind x.name vs)) by rw [HR.out, hn])
  have hvsl := HLX.out vs hn
  obtain ⟨aad, acap, rfl⟩ := own_is hpj.asks
  have hzx : X1.heap.size ≤ w2.heap.size := hb2.size
  have HPJ := hidX hpj
  have HBK := hidX (show ∀ Y, Below w2.heap.size w2 Y → ButP D X Y from fun Y hY => ((ButP.of HBX.out).trans hb2 (fun _ e => Or.inl e.1)).trans (ButP.of (S := fun _ => False) hY) (fun _ e => e.elim))
  have HDD := hidX (show ∀ b, Up (Now D X) X1 b → D b ∨ X.heap.size ≤ b from fun b e => e.elim (fun e => Or.inl e.1) (fun e => Or.inr (by omega)))
  have hN2 : w2.heap[X.heap.size]? = some (.cells #[.string ⟨x.kind.toArray⟩, .int .i64 x.d, .slice xa x.args.length xc, .int .i64 x.num, .string ⟨x.name.toArray⟩] 52 (0, 0)) := (hb2.block _ hxl (fun e => by have := e.2; omega)).trans HN.out
  have n0 : w2.cell? ⟨X.heap.size, 0, none⟩ = some (.string ⟨x.kind.toArray⟩) := cell_of_blk hN2 0
  have n1 : w2.cell? ⟨X.heap.size, 1, none⟩ = some (.int .i64 x.d) := cell_of_blk hN2 1
  have n3 : w2.cell? ⟨X.heap.size, 3, none⟩ = some (.int .i64 x.num) := cell_of_blk hN2 3
  have n4 : w2.cell? ⟨X.heap.size, 4, none⟩ = some (.string ⟨x.name.toArray⟩) := cell_of_blk hN2 4
  have m0 : w2.cell? ⟨wb, 0, none⟩ = some (.pointer (some ⟨rb, 0, none⟩)) := cell_of_blk hpj.blk 0
  have m2 : w2.cell? ⟨wb, 2, none⟩ = some argv := cell_of_blk hpj.blk 2
  have HKA := hidX (show ∀ k, A k → k < w2.heap.size ∧ w2.heap[k]? = X.heap[k]? ∧ ¬ Up (Now D X) X1 k from fun k hk => ⟨by have := (HAX.out k hk).1; omega, (hb2.block k (by have := (HAX.out k hk).1; omega) (fun e => (HAX.out k hk).2 e.1)).trans (HBX.out.block k (HAX.out k hk).1), fun e => e.elim (fun e => (HAX.out k hk).2 e.1) (fun e => by have := (HAX.out k hk).1; omega)⟩)
  have hxw : X.heap.size < w2.heap.size := by omega
  clear hpj hb2 HR hn hN2 HASK HLX HN
  have hdr := HX.out.d (by intro e; rw [e] at t4; cases t4) (by intro e; rw [e] at t5; cases t5)
  obtain ⟨dn, hdn⟩ : ∃ dn : Nat, x.d = (dn : Int) := ⟨x.d.toNat, by omega⟩
  have hdl : dn < vl.length := by omega
  rw [hdn] at n1
  have HDN := hidX (show x.d.toNat = dn by omega)
  clear hdr
  have hkk := HX.out.one HF.out
  have HRE := hidX fun Y (hY : Below w2.heap.size w2 Y) => reckonF_any x.kind x.name vs ((xrow_own HPJ.out.asks).imp (A := _) (B := fun b => b < w2.heap.size) (fun _ h => h.2) (fun b hb => hY.block b hb.2)) (by left; exact ⟨HF.out, by rw [hvsl]; exact hkk.1, hkk.2⟩)
  generalize hsv : sumV x.kind x.name vs = sv at HRE HRR
  have HBE := hidX fun Y (hY : Below w2.heap.size w2 Y) => do_become (HPJ.out.below hY) hvl dn hdl sv
  clear hdn HPJ hsv hkk hvsl
  go_wp2_with fail
  refine (HRE.out _ (by (repeat (first | exact Below.refl _ _ | assumption | refine Below.drew ?_ | refine bT ?_ _ | refine bS ?_ _ | refine bA ?_ _)))).mono ?_
  rintro e w4 ⟨rfl, nn, hw4⟩
  have hb4 : Below w2.heap.size w2 w4 := by rw [hw4]; exact drewN_below' _ _ _
  have n1' := (hb4.cell (p := ⟨X.heap.size, 1, none⟩) hxw).trans n1
  clear hw4
  go_wp2_with fail
  refine (HBE.out _ (by (repeat (first | exact Below.refl _ _ | assumption | refine Below.drew ?_ | refine bT ?_ _ | refine bS ?_ _ | refine bA ?_ _)))).mono ?_
  rintro e w3 hd3
  have he := hd3.2.1
  subst he
  have HW := hidX (show DoTo D X wb rb vb bv argv ansv most steps vl.length RR (.returned (.tuple #[])) w3 from by
   rw [HRR.out, HDN.out]; exact DoTo.back (HBK.out _ (by (repeat (first | exact Below.refl _ _ | assumption | refine Below.drew ?_ | refine bT ?_ _ | refine bS ?_ _ | refine bA ?_ _)))) HDD.out hd3)
  clear hd3
  go_wp2
  (try simp only [Exit.inBlock, Exit.then])
  refine bodyPost_ret (results_none rfl _ _ _) rfl ?_
  exact HW.out
set_option maxRecDepth 100000 in
set_option maxHeartbeats 4000000 in
theorem do_two (h : PkJ D S X wb rb vb bv argv ansv askv s most steps vl ac) (hvl : vl.length ≤ 1000) (hA : ∀ b, A b → b < X.heap.size ∧ ¬ D b) {args ans : List Int} (hag : XRow A X argv args.length (intsG args)) (han : XRow A X ansv ans.length (intsG ans)) (_hal : ans.length ≤ 100000) (_hgl : args.length ≤ 1000) (_hts : 0 ≤ s.tks ∧ s.tks ≤ 1000000000) (_hol : s.out.length ≤ 1000) {x : Pi} (hx : DoI vl.length args.length x) {xa : Option Addr} {xc : Nat} (hxr : XRow A X (.slice xa x.args.length xc) x.args.length (intsG x.args)) (hf : x.kind = gTwo) :
  Calls Tryz.prog 42 #[.pointer (some ⟨wb, 0, none⟩), .agg #[.string ⟨x.kind.toArray⟩, .int .i64 x.d, .slice xa x.args.length xc, .int .i64 x.num, .string ⟨x.name.toArray⟩]] X fun e w' => DoTo D X wb rb vb bv argv ansv most steps vl.length (insP args ans most x s (valsV vl)) e w' := by
 have hr : insP args ans most x s (valsV vl) = match askX (valsV vl) (natL x.args) with
  | none => ({ s with how := hStuck }, valsV vl)
  | some vs => (s, setP (valsV vl) (x.d.toNat, sumV x.kind x.name vs)) := by unfold insP; cases askX (valsV vl) (natL x.args) with
  | none => rfl
  | some vs => show (if x.kind = gTick then _ else _) = _; rw [if_neg (by rw [hf]; decide)]; rw [if_neg (by rw [hf]; decide)]; rw [if_neg (by rw [hf]; decide)]; unfold valP; rw [if_neg (by rw [hf]; decide)]; rw [if_neg (by rw [hf]; decide)]
 obtain ⟨X1, hX1⟩ : ∃ X1, X1 = X.alloc (.cells #[.string ⟨x.kind.toArray⟩, .int .i64 x.d, .slice xa x.args.length xc, .int .i64 x.num, .string ⟨x.name.toArray⟩] 52) := ⟨_, rfl⟩
 have hbx : Below X.heap.size X X1 := by rw [hX1]; exact box_blk X #[.string ⟨x.kind.toArray⟩, .int .i64 x.d, .slice xa x.args.length xc, .int .i64 x.num, .string ⟨x.name.toArray⟩] 52
 have hN : X1.heap[X.heap.size]? = some (.cells #[.string ⟨x.kind.toArray⟩, .int .i64 x.d, .slice xa x.args.length xc, .int .i64 x.num, .string ⟨x.name.toArray⟩] 52 (0, 0)) := by rw [hX1]; exact heap_alloc_new _ _
 have hxl : X.heap.size < X1.heap.size := heap_lt hN
 have HASK := hidX (ask_any (h.now.below hbx) hvl x.args hx.argl xa xc (hxr.imp (fun _ h => h) (fun k hk => hbx.block k (hA k hk).1)) (fun b hb => ⟨Nat.lt_trans (hA b hb).1 hxl, fun e => (hA b hb).2 e.1⟩) hx.args)
 have hlx := fun vs (e : askX (valsV vl) (natL x.args) = some vs) => (askX_len' e).trans (by simp [natL] : (natL x.args).length = x.args.length)
 have HLX := hidX hlx
 generalize askX (valsV vl) (natL x.args) = an at HASK hr HLX
 generalize insP args ans most x s (valsV vl) = RR at hr ⊢
 have HR := hidX hr
 have HX1 := hidX hX1
 have HN := hidX hN
 have HBX := hidX hbx
 have HAX := hidX hA
 have HAG := hidX hag
 have HAN := hidX han
 have HX := hidX hx
 have HF := hidX hf
 have t0 : (x.kind == [112, 97, 114, 97, 109]) = false := by rw [hf]; rfl
 have t1 : (x.kind == [99, 111, 110, 115, 116]) = false := by rw [hf]; rfl
 have t2 : (x.kind == [111, 110, 101]) = false := by rw [hf]; rfl
 have t3 : (x.kind == [116, 119, 111]) = true := by rw [hf]; rfl
 have t4 : (x.kind == [116, 105, 99, 107]) = false := by rw [hf]; rfl
 have t5 : (x.kind == [112, 114, 105, 110, 116]) = false := by rw [hf]; rfl
 have t6 : (x.kind == [99, 97, 108, 108]) = false := by rw [hf]; rfl
 clear hr hX1 hN hbx hA hag han hx hxr h hf hlx
 go_enter Tryz.func42, Tryz.ntmps42
 go_wp2_with fail
 rw [← HX1.out]
 clear HX1
 refine HASK.out.mono ?_
 rintro e w2 ⟨hb2, ⟨hn, rfl, hpe⟩ | ⟨vs, S2, av, hn, rfl, hpj⟩⟩
 ·have hr : RR = ({ s with how := hStuck }, valsV vl) := by rw [HR.out, hn]
  subst hr
  have HW := hidX (show DoTo D X wb rb vb bv argv ansv most steps vl.length ({ s with how := hStuck }, valsV vl) (.returned (.tuple #[])) w2 from DoTo.back (Y := X1) (D' := Now D X) (ButP.of HBX.out) (fun _ e => Or.inl e.1) ⟨hb2, rfl, vl, rfl, fun _ => rfl, hpe⟩)
  clear hpe hb2 HR
  go_wp2
  (try simp only [Exit.inBlock, Exit.then])
  refine bodyPost_ret (results_none rfl _ _ _) rfl ?_
  exact HW.out
 ·have HRR := hidX (show RR = (s, setP (valsV vl) (x.d.toNat, sumV x.kind x.name vs)) by rw [HR.out, hn])
  have hvsl := HLX.out vs hn
  obtain ⟨aad, acap, rfl⟩ := own_is hpj.asks
  have hzx : X1.heap.size ≤ w2.heap.size := hb2.size
  have HPJ := hidX hpj
  have HBK := hidX (show ∀ Y, Below w2.heap.size w2 Y → ButP D X Y from fun Y hY => ((ButP.of HBX.out).trans hb2 (fun _ e => Or.inl e.1)).trans (ButP.of (S := fun _ => False) hY) (fun _ e => e.elim))
  have HDD := hidX (show ∀ b, Up (Now D X) X1 b → D b ∨ X.heap.size ≤ b from fun b e => e.elim (fun e => Or.inl e.1) (fun e => Or.inr (by omega)))
  have hN2 : w2.heap[X.heap.size]? = some (.cells #[.string ⟨x.kind.toArray⟩, .int .i64 x.d, .slice xa x.args.length xc, .int .i64 x.num, .string ⟨x.name.toArray⟩] 52 (0, 0)) := (hb2.block _ hxl (fun e => by have := e.2; omega)).trans HN.out
  have n0 : w2.cell? ⟨X.heap.size, 0, none⟩ = some (.string ⟨x.kind.toArray⟩) := cell_of_blk hN2 0
  have n1 : w2.cell? ⟨X.heap.size, 1, none⟩ = some (.int .i64 x.d) := cell_of_blk hN2 1
  have n3 : w2.cell? ⟨X.heap.size, 3, none⟩ = some (.int .i64 x.num) := cell_of_blk hN2 3
  have n4 : w2.cell? ⟨X.heap.size, 4, none⟩ = some (.string ⟨x.name.toArray⟩) := cell_of_blk hN2 4
  have m0 : w2.cell? ⟨wb, 0, none⟩ = some (.pointer (some ⟨rb, 0, none⟩)) := cell_of_blk hpj.blk 0
  have m2 : w2.cell? ⟨wb, 2, none⟩ = some argv := cell_of_blk hpj.blk 2
  have HKA := hidX (show ∀ k, A k → k < w2.heap.size ∧ w2.heap[k]? = X.heap[k]? ∧ ¬ Up (Now D X) X1 k from fun k hk => ⟨by have := (HAX.out k hk).1; omega, (hb2.block k (by have := (HAX.out k hk).1; omega) (fun e => (HAX.out k hk).2 e.1)).trans (HBX.out.block k (HAX.out k hk).1), fun e => e.elim (fun e => (HAX.out k hk).2 e.1) (fun e => by have := (HAX.out k hk).1; omega)⟩)
  have hxw : X.heap.size < w2.heap.size := by omega
  clear hpj hb2 HR hn hN2 HASK HLX HN
  have hdr := HX.out.d (by intro e; rw [e] at t4; cases t4) (by intro e; rw [e] at t5; cases t5)
  obtain ⟨dn, hdn⟩ : ∃ dn : Nat, x.d = (dn : Int) := ⟨x.d.toNat, by omega⟩
  have hdl : dn < vl.length := by omega
  rw [hdn] at n1
  have HDN := hidX (show x.d.toNat = dn by omega)
  clear hdr
  have hkk := HX.out.two HF.out
  have HRE := hidX fun Y (hY : Below w2.heap.size w2 Y) => reckonF_any x.kind x.name vs ((xrow_own HPJ.out.asks).imp (A := _) (B := fun b => b < w2.heap.size) (fun _ h => h.2) (fun b hb => hY.block b hb.2)) (by right; exact ⟨HF.out, by rw [hvsl]; exact hkk.1, hkk.2⟩)
  generalize hsv : sumV x.kind x.name vs = sv at HRE HRR
  have HBE := hidX fun Y (hY : Below w2.heap.size w2 Y) => do_become (HPJ.out.below hY) hvl dn hdl sv
  clear hdn HPJ hsv hkk hvsl
  go_wp2_with fail
  refine (HRE.out _ (by (repeat (first | exact Below.refl _ _ | assumption | refine Below.drew ?_ | refine bT ?_ _ | refine bS ?_ _ | refine bA ?_ _)))).mono ?_
  rintro e w4 ⟨rfl, nn, hw4⟩
  have hb4 : Below w2.heap.size w2 w4 := by rw [hw4]; exact drewN_below' _ _ _
  have n1' := (hb4.cell (p := ⟨X.heap.size, 1, none⟩) hxw).trans n1
  clear hw4
  go_wp2_with fail
  refine (HBE.out _ (by (repeat (first | exact Below.refl _ _ | assumption | refine Below.drew ?_ | refine bT ?_ _ | refine bS ?_ _ | refine bA ?_ _)))).mono ?_
  rintro e w3 hd3
  have he := hd3.2.1
  subst he
  have HW := hidX (show DoTo D X wb rb vb bv argv ansv most steps vl.length RR (.returned (.tuple #[])) w3 from by
   rw [HRR.out, HDN.out]; exact DoTo.back (HBK.out _ (by (repeat (first | exact Below.refl _ _ | assumption | refine Below.drew ?_ | refine bT ?_ _ | refine bS ?_ _ | refine bA ?_ _)))) HDD.out hd3)
  clear hd3
  go_wp2
  (try simp only [Exit.inBlock, Exit.then])
  refine bodyPost_ret (results_none rfl _ _ _) rfl ?_
  exact HW.out
set_option maxRecDepth 100000 in
set_option maxHeartbeats 4000000 in
theorem do_tick (h : PkJ D S X wb rb vb bv argv ansv askv s most steps vl ac) (hvl : vl.length ≤ 1000) (hA : ∀ b, A b → b < X.heap.size ∧ ¬ D b) {args ans : List Int} (hag : XRow A X argv args.length (intsG args)) (han : XRow A X ansv ans.length (intsG ans)) (_hal : ans.length ≤ 100000) (_hgl : args.length ≤ 1000) (hts : 0 ≤ s.tks ∧ s.tks ≤ 1000000000) (_hol : s.out.length ≤ 1000) {x : Pi} (hx : DoI vl.length args.length x) {xa : Option Addr} {xc : Nat} (hxr : XRow A X (.slice xa x.args.length xc) x.args.length (intsG x.args)) (hf : x.kind = gTick) :
  Calls Tryz.prog 42 #[.pointer (some ⟨wb, 0, none⟩), .agg #[.string ⟨x.kind.toArray⟩, .int .i64 x.d, .slice xa x.args.length xc, .int .i64 x.num, .string ⟨x.name.toArray⟩]] X fun e w' => DoTo D X wb rb vb bv argv ansv most steps vl.length (insP args ans most x s (valsV vl)) e w' := by
 have hr : insP args ans most x s (valsV vl) = match askX (valsV vl) (natL x.args) with
  | none => ({ s with how := hStuck }, valsV vl)
  | some vs => (tickR most s, valsV vl) := by unfold insP; cases askX (valsV vl) (natL x.args) with
  | none => rfl
  | some vs => show (if x.kind = gTick then _ else _) = _; rw [if_pos hf]
 obtain ⟨X1, hX1⟩ : ∃ X1, X1 = X.alloc (.cells #[.string ⟨x.kind.toArray⟩, .int .i64 x.d, .slice xa x.args.length xc, .int .i64 x.num, .string ⟨x.name.toArray⟩] 52) := ⟨_, rfl⟩
 have hbx : Below X.heap.size X X1 := by rw [hX1]; exact box_blk X #[.string ⟨x.kind.toArray⟩, .int .i64 x.d, .slice xa x.args.length xc, .int .i64 x.num, .string ⟨x.name.toArray⟩] 52
 have hN : X1.heap[X.heap.size]? = some (.cells #[.string ⟨x.kind.toArray⟩, .int .i64 x.d, .slice xa x.args.length xc, .int .i64 x.num, .string ⟨x.name.toArray⟩] 52 (0, 0)) := by rw [hX1]; exact heap_alloc_new _ _
 have hxl : X.heap.size < X1.heap.size := heap_lt hN
 have HASK := hidX (ask_any (h.now.below hbx) hvl x.args hx.argl xa xc (hxr.imp (fun _ h => h) (fun k hk => hbx.block k (hA k hk).1)) (fun b hb => ⟨Nat.lt_trans (hA b hb).1 hxl, fun e => (hA b hb).2 e.1⟩) hx.args)
 have hlx := fun vs (e : askX (valsV vl) (natL x.args) = some vs) => (askX_len' e).trans (by simp [natL] : (natL x.args).length = x.args.length)
 have HLX := hidX hlx
 generalize askX (valsV vl) (natL x.args) = an at HASK hr HLX
 generalize insP args ans most x s (valsV vl) = RR at hr ⊢
 have HR := hidX hr
 have HX1 := hidX hX1
 have HN := hidX hN
 have HBX := hidX hbx
 have HAX := hidX hA
 have HAG := hidX hag
 have HAN := hidX han
 have HX := hidX hx
 have HF := hidX hf
 have t0 : (x.kind == [112, 97, 114, 97, 109]) = false := by rw [hf]; rfl
 have t1 : (x.kind == [99, 111, 110, 115, 116]) = false := by rw [hf]; rfl
 have t2 : (x.kind == [111, 110, 101]) = false := by rw [hf]; rfl
 have t3 : (x.kind == [116, 119, 111]) = false := by rw [hf]; rfl
 have t4 : (x.kind == [116, 105, 99, 107]) = true := by rw [hf]; rfl
 have t5 : (x.kind == [112, 114, 105, 110, 116]) = false := by rw [hf]; rfl
 have t6 : (x.kind == [99, 97, 108, 108]) = false := by rw [hf]; rfl
 clear hr hX1 hN hbx hA hag han hx hxr h hf hlx
 go_enter Tryz.func42, Tryz.ntmps42
 go_wp2_with fail
 rw [← HX1.out]
 clear HX1
 refine HASK.out.mono ?_
 rintro e w2 ⟨hb2, ⟨hn, rfl, hpe⟩ | ⟨vs, S2, av, hn, rfl, hpj⟩⟩
 ·have hr : RR = ({ s with how := hStuck }, valsV vl) := by rw [HR.out, hn]
  subst hr
  have HW := hidX (show DoTo D X wb rb vb bv argv ansv most steps vl.length ({ s with how := hStuck }, valsV vl) (.returned (.tuple #[])) w2 from DoTo.back (Y := X1) (D' := Now D X) (ButP.of HBX.out) (fun _ e => Or.inl e.1) ⟨hb2, rfl, vl, rfl, fun _ => rfl, hpe⟩)
  clear hpe hb2 HR
  go_wp2
  (try simp only [Exit.inBlock, Exit.then])
  refine bodyPost_ret (results_none rfl _ _ _) rfl ?_
  exact HW.out
 ·have HRR := hidX (show RR = (tickR most s, valsV vl) by rw [HR.out, hn])
  have hvsl := HLX.out vs hn
  obtain ⟨aad, acap, rfl⟩ := own_is hpj.asks
  have hzx : X1.heap.size ≤ w2.heap.size := hb2.size
  have HPJ := hidX hpj
  have HBK := hidX (show ∀ Y, Below w2.heap.size w2 Y → ButP D X Y from fun Y hY => ((ButP.of HBX.out).trans hb2 (fun _ e => Or.inl e.1)).trans (ButP.of (S := fun _ => False) hY) (fun _ e => e.elim))
  have HDD := hidX (show ∀ b, Up (Now D X) X1 b → D b ∨ X.heap.size ≤ b from fun b e => e.elim (fun e => Or.inl e.1) (fun e => Or.inr (by omega)))
  have hN2 : w2.heap[X.heap.size]? = some (.cells #[.string ⟨x.kind.toArray⟩, .int .i64 x.d, .slice xa x.args.length xc, .int .i64 x.num, .string ⟨x.name.toArray⟩] 52 (0, 0)) := (hb2.block _ hxl (fun e => by have := e.2; omega)).trans HN.out
  have n0 : w2.cell? ⟨X.heap.size, 0, none⟩ = some (.string ⟨x.kind.toArray⟩) := cell_of_blk hN2 0
  have n1 : w2.cell? ⟨X.heap.size, 1, none⟩ = some (.int .i64 x.d) := cell_of_blk hN2 1
  have n3 : w2.cell? ⟨X.heap.size, 3, none⟩ = some (.int .i64 x.num) := cell_of_blk hN2 3
  have n4 : w2.cell? ⟨X.heap.size, 4, none⟩ = some (.string ⟨x.name.toArray⟩) := cell_of_blk hN2 4
  have m0 : w2.cell? ⟨wb, 0, none⟩ = some (.pointer (some ⟨rb, 0, none⟩)) := cell_of_blk hpj.blk 0
  have m2 : w2.cell? ⟨wb, 2, none⟩ = some argv := cell_of_blk hpj.blk 2
  have HKA := hidX (show ∀ k, A k → k < w2.heap.size ∧ w2.heap[k]? = X.heap[k]? ∧ ¬ Up (Now D X) X1 k from fun k hk => ⟨by have := (HAX.out k hk).1; omega, (hb2.block k (by have := (HAX.out k hk).1; omega) (fun e => (HAX.out k hk).2 e.1)).trans (HBX.out.block k (HAX.out k hk).1), fun e => e.elim (fun e => (HAX.out k hk).2 e.1) (fun e => by have := (HAX.out k hk).1; omega)⟩)
  have hxw : X.heap.size < w2.heap.size := by omega
  clear hpj hb2 HR hn hN2 HASK HLX HN
  have HTI := hidX fun Y (hY : Below w2.heap.size w2 Y) => tick_r (HPJ.out.below hY).recd hts
  go_wp2_with fail
  refine (HTI.out _ (by (repeat (first | exact Below.refl _ _ | assumption | refine Below.drew ?_ | refine bT ?_ _ | refine bS ?_ _ | refine bA ?_ _)))).mono ?_
  rintro e w3 ⟨rfl, hr3⟩
  have HW := hidX (show DoTo D X wb rb vb bv argv ansv most steps vl.length RR (.returned (.tuple #[])) w3 from by
   rw [HRR.out]; exact DoTo.back (HBK.out _ (by (repeat (first | exact Below.refl _ _ | assumption | refine Below.drew ?_ | refine bT ?_ _ | refine bS ?_ _ | refine bA ?_ _)))) HDD.out (do_rec (HPJ.out.below (by (repeat (first | exact Below.refl _ _ | assumption | refine Below.drew ?_ | refine bT ?_ _ | refine bS ?_ _ | refine bA ?_ _)))) hr3))
  clear hr3
  go_wp2
  (try simp only [Exit.inBlock, Exit.then])
  refine bodyPost_ret (results_none rfl _ _ _) rfl ?_
  exact HW.out
set_option maxRecDepth 100000 in
set_option maxHeartbeats 4000000 in
theorem do_print (h : PkJ D S X wb rb vb bv argv ansv askv s most steps vl ac) (hvl : vl.length ≤ 1000) (hA : ∀ b, A b → b < X.heap.size ∧ ¬ D b) {args ans : List Int} (hag : XRow A X argv args.length (intsG args)) (han : XRow A X ansv ans.length (intsG ans)) (_hal : ans.length ≤ 100000) (_hgl : args.length ≤ 1000) (_hts : 0 ≤ s.tks ∧ s.tks ≤ 1000000000) (hol : s.out.length ≤ 1000) {x : Pi} (hx : DoI vl.length args.length x) {xa : Option Addr} {xc : Nat} (hxr : XRow A X (.slice xa x.args.length xc) x.args.length (intsG x.args)) (hf : x.kind = gPrint) :
  Calls Tryz.prog 42 #[.pointer (some ⟨wb, 0, none⟩), .agg #[.string ⟨x.kind.toArray⟩, .int .i64 x.d, .slice xa x.args.length xc, .int .i64 x.num, .string ⟨x.name.toArray⟩]] X fun e w' => DoTo D X wb rb vb bv argv ansv most steps vl.length (insP args ans most x s (valsV vl)) e w' := by
 have hr : insP args ans most x s (valsV vl) = match askX (valsV vl) (natL x.args) with
  | none => ({ s with how := hStuck }, valsV vl)
  | some vs => (printR (vs.getD 0 0) s, valsV vl) := by unfold insP; cases askX (valsV vl) (natL x.args) with
  | none => rfl
  | some vs => show (if x.kind = gTick then _ else _) = _; rw [if_neg (by rw [hf]; decide)]; rw [if_pos hf]
 obtain ⟨X1, hX1⟩ : ∃ X1, X1 = X.alloc (.cells #[.string ⟨x.kind.toArray⟩, .int .i64 x.d, .slice xa x.args.length xc, .int .i64 x.num, .string ⟨x.name.toArray⟩] 52) := ⟨_, rfl⟩
 have hbx : Below X.heap.size X X1 := by rw [hX1]; exact box_blk X #[.string ⟨x.kind.toArray⟩, .int .i64 x.d, .slice xa x.args.length xc, .int .i64 x.num, .string ⟨x.name.toArray⟩] 52
 have hN : X1.heap[X.heap.size]? = some (.cells #[.string ⟨x.kind.toArray⟩, .int .i64 x.d, .slice xa x.args.length xc, .int .i64 x.num, .string ⟨x.name.toArray⟩] 52 (0, 0)) := by rw [hX1]; exact heap_alloc_new _ _
 have hxl : X.heap.size < X1.heap.size := heap_lt hN
 have HASK := hidX (ask_any (h.now.below hbx) hvl x.args hx.argl xa xc (hxr.imp (fun _ h => h) (fun k hk => hbx.block k (hA k hk).1)) (fun b hb => ⟨Nat.lt_trans (hA b hb).1 hxl, fun e => (hA b hb).2 e.1⟩) hx.args)
 have hlx := fun vs (e : askX (valsV vl) (natL x.args) = some vs) => (askX_len' e).trans (by simp [natL] : (natL x.args).length = x.args.length)
 have HLX := hidX hlx
 generalize askX (valsV vl) (natL x.args) = an at HASK hr HLX
 generalize insP args ans most x s (valsV vl) = RR at hr ⊢
 have HR := hidX hr
 have HX1 := hidX hX1
 have HN := hidX hN
 have HBX := hidX hbx
 have HAX := hidX hA
 have HAG := hidX hag
 have HAN := hidX han
 have HX := hidX hx
 have HF := hidX hf
 have t0 : (x.kind == [112, 97, 114, 97, 109]) = false := by rw [hf]; rfl
 have t1 : (x.kind == [99, 111, 110, 115, 116]) = false := by rw [hf]; rfl
 have t2 : (x.kind == [111, 110, 101]) = false := by rw [hf]; rfl
 have t3 : (x.kind == [116, 119, 111]) = false := by rw [hf]; rfl
 have t4 : (x.kind == [116, 105, 99, 107]) = false := by rw [hf]; rfl
 have t5 : (x.kind == [112, 114, 105, 110, 116]) = true := by rw [hf]; rfl
 have t6 : (x.kind == [99, 97, 108, 108]) = false := by rw [hf]; rfl
 clear hr hX1 hN hbx hA hag han hx hxr h hf hlx
 go_enter Tryz.func42, Tryz.ntmps42
 go_wp2_with fail
 rw [← HX1.out]
 clear HX1
 refine HASK.out.mono ?_
 rintro e w2 ⟨hb2, ⟨hn, rfl, hpe⟩ | ⟨vs, S2, av, hn, rfl, hpj⟩⟩
 ·have hr : RR = ({ s with how := hStuck }, valsV vl) := by rw [HR.out, hn]
  subst hr
  have HW := hidX (show DoTo D X wb rb vb bv argv ansv most steps vl.length ({ s with how := hStuck }, valsV vl) (.returned (.tuple #[])) w2 from DoTo.back (Y := X1) (D' := Now D X) (ButP.of HBX.out) (fun _ e => Or.inl e.1) ⟨hb2, rfl, vl, rfl, fun _ => rfl, hpe⟩)
  clear hpe hb2 HR
  go_wp2
  (try simp only [Exit.inBlock, Exit.then])
  refine bodyPost_ret (results_none rfl _ _ _) rfl ?_
  exact HW.out
 ·have HRR := hidX (show RR = (printR (vs.getD 0 0) s, valsV vl) by rw [HR.out, hn])
  have hvsl := HLX.out vs hn
  obtain ⟨aad, acap, rfl⟩ := own_is hpj.asks
  have hzx : X1.heap.size ≤ w2.heap.size := hb2.size
  have HPJ := hidX hpj
  have HBK := hidX (show ∀ Y, Below w2.heap.size w2 Y → ButP D X Y from fun Y hY => ((ButP.of HBX.out).trans hb2 (fun _ e => Or.inl e.1)).trans (ButP.of (S := fun _ => False) hY) (fun _ e => e.elim))
  have HDD := hidX (show ∀ b, Up (Now D X) X1 b → D b ∨ X.heap.size ≤ b from fun b e => e.elim (fun e => Or.inl e.1) (fun e => Or.inr (by omega)))
  have hN2 : w2.heap[X.heap.size]? = some (.cells #[.string ⟨x.kind.toArray⟩, .int .i64 x.d, .slice xa x.args.length xc, .int .i64 x.num, .string ⟨x.name.toArray⟩] 52 (0, 0)) := (hb2.block _ hxl (fun e => by have := e.2; omega)).trans HN.out
  have n0 : w2.cell? ⟨X.heap.size, 0, none⟩ = some (.string ⟨x.kind.toArray⟩) := cell_of_blk hN2 0
  have n1 : w2.cell? ⟨X.heap.size, 1, none⟩ = some (.int .i64 x.d) := cell_of_blk hN2 1
  have n3 : w2.cell? ⟨X.heap.size, 3, none⟩ = some (.int .i64 x.num) := cell_of_blk hN2 3
  have n4 : w2.cell? ⟨X.heap.size, 4, none⟩ = some (.string ⟨x.name.toArray⟩) := cell_of_blk hN2 4
  have m0 : w2.cell? ⟨wb, 0, none⟩ = some (.pointer (some ⟨rb, 0, none⟩)) := cell_of_blk hpj.blk 0
  have m2 : w2.cell? ⟨wb, 2, none⟩ = some argv := cell_of_blk hpj.blk 2
  have HKA := hidX (show ∀ k, A k → k < w2.heap.size ∧ w2.heap[k]? = X.heap[k]? ∧ ¬ Up (Now D X) X1 k from fun k hk => ⟨by have := (HAX.out k hk).1; omega, (hb2.block k (by have := (HAX.out k hk).1; omega) (fun e => (HAX.out k hk).2 e.1)).trans (HBX.out.block k (HAX.out k hk).1), fun e => e.elim (fun e => (HAX.out k hk).2 e.1) (fun e => by have := (HAX.out k hk).1; omega)⟩)
  have hxw : X.heap.size < w2.heap.size := by omega
  clear hpj hb2 HR hn hN2 HASK HLX HN
  have hv1 : vs.length = 1 := hvsl.trans (HX.out.prt HF.out)
  obtain ⟨y, rfl⟩ : ∃ y, vs = [y] := by
   match vs, hv1 with
   | [y], _ => exact ⟨y, rfl⟩
  have HP := hidX (show RR = (printR y s, valsV vl) from HRR.out)
  obtain ⟨ga, oa, e1, _, ka⟩ := (xrow_own HPJ.out.asks).int (k := 0) (by simp)
  subst e1
  rw [Nat.add_zero] at ka
  have ka' : w2.cell? ⟨ga, oa, none⟩ = some (.int .i64 y) := ka
  have HPR := hidX fun Y (hY : Below w2.heap.size w2 Y) => print_r (HPJ.out.below hY).recd hol y
  have C0 := hidX (show w2.cell? ⟨wb, 0, none⟩ = some (.pointer (some ⟨rb, 0, none⟩)) ∧ w2.cell? ⟨ga, oa, none⟩ = some (.int .i64 y) from ⟨m0, ka'⟩)
  clear ka ka' m0 HRR hv1 hvsl
  go_wp2_with fail
  go_region_held3 (fun W => W.cell? ⟨wb, 0, none⟩ = some (.pointer (some ⟨rb, 0, none⟩)) ∧ W.cell? ⟨ga, oa, none⟩ = some (.int .i64 y))
   (first | with_reducible exact s1 | exact C0.out)
   (first
    | (go_at_call 71; refine (HPR.out _ (by (repeat (first | exact Below.refl _ _ | assumption | refine Below.drew ?_ | refine bT ?_ _ | refine bS ?_ _ | refine bA ?_ _)))).mono ?_; rintro e w3 ⟨rfl, hr3⟩; have hq3 := (HPJ.out.below (by (repeat (first | exact Below.refl _ _ | assumption | refine Below.drew ?_ | refine bT ?_ _ | refine bS ?_ _ | refine bA ?_ _)))).recTo hr3; have s1 : w3.cell? ⟨wb, 0, none⟩ = some (.pointer (some ⟨rb, 0, none⟩)) ∧ w3.cell? ⟨ga, oa, none⟩ = some (.int .i64 y) := ret_held hq3.2; have HW := hidX (show DoTo D X wb rb vb bv argv ansv most steps vl.length RR (.returned (.tuple #[])) w3 from (by rw [HP.out]; exact DoTo.back (HBK.out _ (by (repeat (first | exact Below.refl _ _ | assumption | refine Below.drew ?_ | refine bT ?_ _ | refine bS ?_ _ | refine bA ?_ _)))) HDD.out (do_rec (HPJ.out.below (by (repeat (first | exact Below.refl _ _ | assumption | refine Below.drew ?_ | refine bT ?_ _ | refine bS ?_ _ | refine bA ?_ _)))) hr3))); clear hr3 hq3))
  all_goals go_wp2
  all_goals (
   (try simp only [Exit.inBlock, Exit.then])
   refine bodyPost_ret (results_none rfl _ _ _) rfl ?_
   exact HW.out)
set_option maxRecDepth 100000 in
set_option maxHeartbeats 4000000 in
theorem do_call (h : PkJ D S X wb rb vb bv argv ansv askv s most steps vl ac) (hvl : vl.length ≤ 1000) (hA : ∀ b, A b → b < X.heap.size ∧ ¬ D b) {args ans : List Int} (hag : XRow A X argv args.length (intsG args)) (han : XRow A X ansv ans.length (intsG ans)) (hal : ans.length ≤ 100000) (_hgl : args.length ≤ 1000) (_hts : 0 ≤ s.tks ∧ s.tks ≤ 1000000000) (_hol : s.out.length ≤ 1000) {x : Pi} (hx : DoI vl.length args.length x) {xa : Option Addr} {xc : Nat} (hxr : XRow A X (.slice xa x.args.length xc) x.args.length (intsG x.args)) (hf : x.kind = gCall) :
  Calls Tryz.prog 42 #[.pointer (some ⟨wb, 0, none⟩), .agg #[.string ⟨x.kind.toArray⟩, .int .i64 x.d, .slice xa x.args.length xc, .int .i64 x.num, .string ⟨x.name.toArray⟩]] X fun e w' => DoTo D X wb rb vb bv argv ansv most steps vl.length (insP args ans most x s (valsV vl)) e w' := by
 have hr : insP args ans most x s (valsV vl) = match askX (valsV vl) (natL x.args) with
  | none => ({ s with how := hStuck }, valsV vl)
  | some vs => (callR ans x.name vs s, if ans.length ≤ s.calls.length then valsV vl else setP (valsV vl) (x.d.toNat, ans.getD s.calls.length 0)) := by unfold insP; cases askX (valsV vl) (natL x.args) with
  | none => rfl
  | some vs => show (if x.kind = gTick then _ else _) = _; rw [if_neg (by rw [hf]; decide)]; rw [if_neg (by rw [hf]; decide)]; rw [if_pos hf]
 obtain ⟨X1, hX1⟩ : ∃ X1, X1 = X.alloc (.cells #[.string ⟨x.kind.toArray⟩, .int .i64 x.d, .slice xa x.args.length xc, .int .i64 x.num, .string ⟨x.name.toArray⟩] 52) := ⟨_, rfl⟩
 have hbx : Below X.heap.size X X1 := by rw [hX1]; exact box_blk X #[.string ⟨x.kind.toArray⟩, .int .i64 x.d, .slice xa x.args.length xc, .int .i64 x.num, .string ⟨x.name.toArray⟩] 52
 have hN : X1.heap[X.heap.size]? = some (.cells #[.string ⟨x.kind.toArray⟩, .int .i64 x.d, .slice xa x.args.length xc, .int .i64 x.num, .string ⟨x.name.toArray⟩] 52 (0, 0)) := by rw [hX1]; exact heap_alloc_new _ _
 have hxl : X.heap.size < X1.heap.size := heap_lt hN
 have HASK := hidX (ask_any (h.now.below hbx) hvl x.args hx.argl xa xc (hxr.imp (fun _ h => h) (fun k hk => hbx.block k (hA k hk).1)) (fun b hb => ⟨Nat.lt_trans (hA b hb).1 hxl, fun e => (hA b hb).2 e.1⟩) hx.args)
 have hlx := fun vs (e : askX (valsV vl) (natL x.args) = some vs) => (askX_len' e).trans (by simp [natL] : (natL x.args).length = x.args.length)
 have HLX := hidX hlx
 generalize askX (valsV vl) (natL x.args) = an at HASK hr HLX
 generalize insP args ans most x s (valsV vl) = RR at hr ⊢
 have HR := hidX hr
 have HX1 := hidX hX1
 have HN := hidX hN
 have HBX := hidX hbx
 have HAX := hidX hA
 have HAG := hidX hag
 have HAN := hidX han
 have HX := hidX hx
 have HF := hidX hf
 have t0 : (x.kind == [112, 97, 114, 97, 109]) = false := by rw [hf]; rfl
 have t1 : (x.kind == [99, 111, 110, 115, 116]) = false := by rw [hf]; rfl
 have t2 : (x.kind == [111, 110, 101]) = false := by rw [hf]; rfl
 have t3 : (x.kind == [116, 119, 111]) = false := by rw [hf]; rfl
 have t4 : (x.kind == [116, 105, 99, 107]) = false := by rw [hf]; rfl
 have t5 : (x.kind == [112, 114, 105, 110, 116]) = false := by rw [hf]; rfl
 have t6 : (x.kind == [99, 97, 108, 108]) = true := by rw [hf]; rfl
 clear hr hX1 hN hbx hA hag han hx hxr h hf hlx
 go_enter Tryz.func42, Tryz.ntmps42
 go_wp2_with fail
 rw [← HX1.out]
 clear HX1
 refine HASK.out.mono ?_
 rintro e w2 ⟨hb2, ⟨hn, rfl, hpe⟩ | ⟨vs, S2, av, hn, rfl, hpj⟩⟩
 ·have hr : RR = ({ s with how := hStuck }, valsV vl) := by rw [HR.out, hn]
  subst hr
  have HW := hidX (show DoTo D X wb rb vb bv argv ansv most steps vl.length ({ s with how := hStuck }, valsV vl) (.returned (.tuple #[])) w2 from DoTo.back (Y := X1) (D' := Now D X) (ButP.of HBX.out) (fun _ e => Or.inl e.1) ⟨hb2, rfl, vl, rfl, fun _ => rfl, hpe⟩)
  clear hpe hb2 HR
  go_wp2
  (try simp only [Exit.inBlock, Exit.then])
  refine bodyPost_ret (results_none rfl _ _ _) rfl ?_
  exact HW.out
 ·have HRR := hidX (show RR = (callR ans x.name vs s, if ans.length ≤ s.calls.length then valsV vl else setP (valsV vl) (x.d.toNat, ans.getD s.calls.length 0)) by rw [HR.out, hn])
  have hvsl := HLX.out vs hn
  obtain ⟨aad, acap, rfl⟩ := own_is hpj.asks
  have hzx : X1.heap.size ≤ w2.heap.size := hb2.size
  have HPJ := hidX hpj
  have HBK := hidX (show ∀ Y, Below w2.heap.size w2 Y → ButP D X Y from fun Y hY => ((ButP.of HBX.out).trans hb2 (fun _ e => Or.inl e.1)).trans (ButP.of (S := fun _ => False) hY) (fun _ e => e.elim))
  have HDD := hidX (show ∀ b, Up (Now D X) X1 b → D b ∨ X.heap.size ≤ b from fun b e => e.elim (fun e => Or.inl e.1) (fun e => Or.inr (by omega)))
  have hN2 : w2.heap[X.heap.size]? = some (.cells #[.string ⟨x.kind.toArray⟩, .int .i64 x.d, .slice xa x.args.length xc, .int .i64 x.num, .string ⟨x.name.toArray⟩] 52 (0, 0)) := (hb2.block _ hxl (fun e => by have := e.2; omega)).trans HN.out
  have n0 : w2.cell? ⟨X.heap.size, 0, none⟩ = some (.string ⟨x.kind.toArray⟩) := cell_of_blk hN2 0
  have n1 : w2.cell? ⟨X.heap.size, 1, none⟩ = some (.int .i64 x.d) := cell_of_blk hN2 1
  have n3 : w2.cell? ⟨X.heap.size, 3, none⟩ = some (.int .i64 x.num) := cell_of_blk hN2 3
  have n4 : w2.cell? ⟨X.heap.size, 4, none⟩ = some (.string ⟨x.name.toArray⟩) := cell_of_blk hN2 4
  have m0 : w2.cell? ⟨wb, 0, none⟩ = some (.pointer (some ⟨rb, 0, none⟩)) := cell_of_blk hpj.blk 0
  have m2 : w2.cell? ⟨wb, 2, none⟩ = some argv := cell_of_blk hpj.blk 2
  have HKA := hidX (show ∀ k, A k → k < w2.heap.size ∧ w2.heap[k]? = X.heap[k]? ∧ ¬ Up (Now D X) X1 k from fun k hk => ⟨by have := (HAX.out k hk).1; omega, (hb2.block k (by have := (HAX.out k hk).1; omega) (fun e => (HAX.out k hk).2 e.1)).trans (HBX.out.block k (HAX.out k hk).1), fun e => e.elim (fun e => (HAX.out k hk).2 e.1) (fun e => by have := (HAX.out k hk).1; omega)⟩)
  have hxw : X.heap.size < w2.heap.size := by omega
  clear hpj hb2 HR hn hN2 HASK HLX HN
  have hdr := HX.out.d (by intro e; rw [e] at t4; cases t4) (by intro e; rw [e] at t5; cases t5)
  obtain ⟨dn, hdn⟩ : ∃ dn : Nat, x.d = (dn : Int) := ⟨x.d.toNat, by omega⟩
  have hdl : dn < vl.length := by omega
  rw [hdn] at n1
  have HDN := hidX (show x.d.toNat = dn by omega)
  clear hdr
  have HCA := hidX fun Y (hY : Below w2.heap.size w2 Y) => call_r (HPJ.out.below hY).recd x.name ((xrow_own HPJ.out.asks).imp (B := InH Y) (fun b hb => Nat.lt_of_lt_of_le hb.2 hY.size) (fun b hb => hY.block b hb.2)) (by have := HX.out.argl; omega) (A := A) (ans := ans) (HAN.out.imp (fun _ h => h) (fun k hk => (hY.block k (HKA.out k hk).1).trans (HKA.out k hk).2.1)) (fun b hb => ⟨Nat.lt_of_lt_of_le (HKA.out b hb).1 hY.size, fun e => (HKA.out b hb).2.2 (e ▸ HPJ.out.lr), fun e => (HKA.out b hb).2.2 (HPJ.out.ls b e).1⟩) hal
  generalize hyy : (if ans.length ≤ s.calls.length then (0 : Int) else ans.getD s.calls.length 0) = y at HCA
  have HYY := hidX hyy
  have nb : ¬ Up (Now D X) X1 X.heap.size := fun e => e.elim (fun e => by have := e.2; omega) (fun e => by omega)
  have HKK := hidX (show ∀ Y Z k o v, Below w2.heap.size w2 Y → ButP (Up (Now D X) X1) Y Z → k < w2.heap.size → ¬ Up (Now D X) X1 k → w2.cell? ⟨k, o, none⟩ = some v → Z.cell? ⟨k, o, none⟩ = some v from fun Y Z k o v hY hz1 hk hn hv => ((World.cell?_of_block (w := Y) (w' := Z) (a := ⟨k, o, none⟩) (hz1.block k (by have := hY.size; omega) hn)).trans (hY.cell (p := ⟨k, o, none⟩) hk)).trans hv)
  have HNB := hidX nb
  have C0 := hidX (show w2.cell? ⟨X.heap.size, 1, none⟩ = some (.int .i64 (dn : Int)) ∧ w2.cell? ⟨wb, 0, none⟩ = some (.pointer (some ⟨rb, 0, none⟩)) ∧ w2.cell? ⟨X.heap.size, 4, none⟩ = some (.string ⟨x.name.toArray⟩) from ⟨n1, m0, n4⟩)
  have HNW := hidX (show ∀ Z : World, w2.heap.size ≤ Z.heap.size → ¬ Up (Up (Now D X) X1) Z X.heap.size from fun Z hz e => e.elim (fun e => nb e) (fun e => by omega))
  clear hdn hyy nb hvsl
  go_wp2_with fail
  clear n1 m0 n4
  go_region_held3 (fun W => W.cell? ⟨X.heap.size, 1, none⟩ = some (.int .i64 (dn : Int)) ∧ W.cell? ⟨wb, 0, none⟩ = some (.pointer (some ⟨rb, 0, none⟩)) ∧ W.cell? ⟨X.heap.size, 4, none⟩ = some (.string ⟨x.name.toArray⟩))
   (first | with_reducible exact s2 | with_reducible exact s1 | exact C0.out)
   (first
    | (go_at_call 72; refine (HCA.out _ (by (repeat (first | exact Below.refl _ _ | assumption | refine Below.drew ?_ | refine bT ?_ _ | refine bS ?_ _ | refine bA ?_ _)))).mono ?_; rintro e w3 ⟨rfl, hr3⟩; obtain ⟨hq3, S3, hp3⟩ := (HPJ.out.below (by (repeat (first | exact Below.refl _ _ | assumption | refine Below.drew ?_ | refine bT ?_ _ | refine bS ?_ _ | refine bA ?_ _)))).recTo hr3; have HQ3 := hidX hq3; have HP3 := hidX hp3; have HB3 := hidX (show ButP D X w3 from (HBK.out _ (by (repeat (first | exact Below.refl _ _ | assumption | refine Below.drew ?_ | refine bT ?_ _ | refine bS ?_ _ | refine bA ?_ _)))).trans hq3 (fun b e => HDD.out b e)); have s1 : w3.cell? ⟨X.heap.size, 1, none⟩ = some (.int .i64 (dn : Int)) ∧ w3.cell? ⟨wb, 0, none⟩ = some (.pointer (some ⟨rb, 0, none⟩)) ∧ w3.cell? ⟨X.heap.size, 4, none⟩ = some (.string ⟨x.name.toArray⟩) := ⟨HKK.out _ _ _ _ _ (by (repeat (first | exact Below.refl _ _ | assumption | refine Below.drew ?_ | refine bT ?_ _ | refine bS ?_ _ | refine bA ?_ _))) hq3 hxw HNB.out C0.out.1, cell_of_blk hp3.blk 0, HKK.out _ _ _ _ _ (by (repeat (first | exact Below.refl _ _ | assumption | refine Below.drew ?_ | refine bT ?_ _ | refine bS ?_ _ | refine bA ?_ _))) hq3 hxw HNB.out C0.out.2.2⟩; clear hr3 hq3 hp3)
    | (go_at_call 68; refine (do_become (HP3.out.below (by (repeat (first | exact Below.refl _ _ | assumption | refine Below.drew ?_ | refine bT ?_ _ | refine bS ?_ _ | refine bA ?_ _)))) hvl dn hdl y).mono ?_; rintro e w5 hd5; have he := hd5.2.1; subst he; have HW := hidX (show DoTo D X wb rb vb bv argv ansv most steps vl.length RR (.returned (.tuple #[])) w5 from (by rw [HRR.out, HDN.out]; exact do_called HYY.out (HB3.out.trans (ButP.of (S := fun _ => False) (show Below w3.heap.size w3 _ by (repeat (first | exact Below.refl _ _ | assumption | refine Below.drew ?_ | refine bT ?_ _ | refine bS ?_ _ | refine bA ?_ _)))) (fun _ e => e.elim)) (fun b e => e.elim (fun e => HDD.out b e) (fun e => Or.inr (Nat.le_trans (Nat.le_of_lt hxw) e))) hd5)); have s2 : w5.cell? ⟨X.heap.size, 1, none⟩ = some (.int .i64 (dn : Int)) ∧ w5.cell? ⟨wb, 0, none⟩ = some (.pointer (some ⟨rb, 0, none⟩)) ∧ w5.cell? ⟨X.heap.size, 4, none⟩ = some (.string ⟨x.name.toArray⟩) := do_held hd5 (by (repeat (first | exact Below.refl _ _ | assumption | refine Below.drew ?_ | refine bT ?_ _ | refine bS ?_ _ | refine bA ?_ _))) (HNW.out _ (by first | exact Nat.le_refl _ | (simp; done))) (Nat.lt_of_lt_of_le hxw HQ3.out.size) s1; clear hd5))
  all_goals go_wp2
  all_goals (
   (try simp only [Exit.inBlock, Exit.then])
   refine bodyPost_ret (results_none rfl _ _ _) rfl ?_
   exact HW.out)
theorem doIns_any (h : PkJ D S X wb rb vb bv argv ansv askv s most steps vl ac) (hvl : vl.length ≤ 1000) (hA : ∀ b, A b → b < X.heap.size ∧ ¬ D b) {args ans : List Int} (hag : XRow A X argv args.length (intsG args)) (han : XRow A X ansv ans.length (intsG ans)) (hal : ans.length ≤ 100000) (hgl : args.length ≤ 1000) (hts : 0 ≤ s.tks ∧ s.tks ≤ 1000000000) (hol : s.out.length ≤ 1000) {x : Pi} (hx : DoI vl.length args.length x) {xa : Option Addr} {xc : Nat} (hxr : XRow A X (.slice xa x.args.length xc) x.args.length (intsG x.args)) :
  Calls Tryz.prog 42 #[.pointer (some ⟨wb, 0, none⟩), .agg #[.string ⟨x.kind.toArray⟩, .int .i64 x.d, .slice xa x.args.length xc, .int .i64 x.num, .string ⟨x.name.toArray⟩]] X fun e w' => DoTo D X wb rb vb bv argv ansv most steps vl.length (insP args ans most x s (valsV vl)) e w' := by
 rcases hx.kind with hf | hf | hf | hf | hf | hf | hf
 ·exact do_param h hvl hA hag han hal hgl hts hol hx hxr hf
 ·exact do_const h hvl hA hag han hal hgl hts hol hx hxr hf
 ·exact do_one h hvl hA hag han hal hgl hts hol hx hxr hf
 ·exact do_two h hvl hA hag han hal hgl hts hol hx hxr hf
 ·exact do_tick h hvl hA hag han hal hgl hts hol hx hxr hf
 ·exact do_print h hvl hA hag han hal hgl hts hol hx hxr hf
 ·exact do_call h hvl hA hag han hal hgl hts hol hx hxr hf
end
end Go.Proofs.YtmckajgacfjnhaaGreatDoor
