/- Our own: texts joined: GrCnt. -/
import Derived.Test.YtlgejjmdanmglaaGreatDoorVGrRep
import Derived.Maps.OwnSet
import Derived.Maps.OwnOps
import Derived.WideKeyEntry
import Derived.DeepKeys4
import Derived.MapViews
namespace Go.Proofs.YtlgejjmdanmglaaGreatDoor
open Go.RowKit Go.Maps Go.WideElems Go.ChangeMaps Go.WideMaps Go.ChangeShapes
theorem laidOutG : laidOutB Tryz.prog = true := by kernel_rfl
theorem tkType_row : (126 : TypeId) < Tryz.prog.types.size := of_decide_eq_true (by kernel_rfl)
theorem tkType_deep : Tryz.prog.keyTypeAt (Tryz.prog.types.size + 1) 126 = true := by kernel_rfl
theorem tkType_wide : (match Tryz.prog.underlying 126 with | some (.array _ _) | some (.struct _) => true | _ => false) = true := by kernel_rfl
theorem tkType_cells : Tryz.prog.cellsOf 126 = 2 := by kernel_rfl
theorem tkType_at : Tryz.prog.keyTypeAt 3 126 = true := by kernel_rfl
set_option maxRecDepth 100000 in
theorem lawTk0 : KeyLaw Tryz.prog 126 := deep_law_laid laidOutG (m := 3) (by omega) tkType_row tkType_at tkType_wide
theorem cells_int : Tryz.prog.cellsOf 3 = 1 := by kernel_rfl
theorem cells_str : Tryz.prog.cellsOf 9 = 1 := by kernel_rfl
theorem lawTk : Keyed Tryz.prog 126 := Keyed.of_law lawTk0
abbrev keyV (x : Int × List UInt8) : Value := .agg #[.int .i64 x.1, .string ⟨x.2.toArray⟩]
def keyD (x : Int × List UInt8) : DataW Unit := .agg [.lit (.int .i64 x.1), .lit (.string x.2)]
def keyL (x : Int × List UInt8) : Lit := (keyD x).asKey
structure FitKey (x : Int × List UInt8) : Prop where
 num : -9223372036854775808 ≤ x.1 ∧ x.1 ≤ 9223372036854775807
 len : x.2.length ≤ 4000
set_option maxRecDepth 100000 in
theorem key_tk (x : Int × List UInt8) (hx : FitKey x) : keyOf Tryz.prog 126 (keyV x) = some (keyL x) := by
 have hu := Tryz.underlying126
 have hf : (keyV x).formed Tryz.prog 126 = true := by simp [Value.formed, hu, tkType_cells]
 have hd : DataW.Trod (H := Unit) (fun _ => ()) Tryz.prog (default : World) 0 (fun _ => true) true 126 (keyV x) (keyD x) [] := by
  have h0 : DataW.trod (H := Unit) (fun _ => ()) Tryz.prog (default : World) 0 (fun _ => true) true 2 3 (([Value.int .i64 x.1, .string ⟨x.2.toArray⟩].drop 0).take (Tryz.prog.cellsOf 3)) = some (.lit (.int .i64 x.1), []) := by
   rw [cells_int]; exact trod_int_mk 1 Tryz.underlying3 (WalkArith.wf_i64 hx.num)
  have h1 : DataW.trod (H := Unit) (fun _ => ()) Tryz.prog (default : World) 0 (fun _ => true) true 2 9 (([Value.int .i64 x.1, .string ⟨x.2.toArray⟩].drop 1).take (Tryz.prog.cellsOf 9)) = some (.lit (.string x.2), []) := by
   rw [cells_str]
   have hl := hx.len
   simp [DataW.trod, Tryz.underlying9]
   show x.2.toArray.size ≤ maxLen
   unfold maxLen
   simp
   omega
  have hl2 : [Value.int .i64 x.1, .string ⟨x.2.toArray⟩].length = Tryz.prog.cellsOf 126 := by rw [tkType_cells]; rfl
  exact ⟨3, trod_struct2_mk hu hl2 h0 h1⟩
 exact (keyOf_asKey tkType_deep tkType_wide hf hd).1
set_option maxRecDepth 100000 in
theorem keyL_inj {x y : Int × List UInt8} (hx : FitKey x) (hy : FitKey y) (h : keyL x = keyL y) : x = y := by
 have h1 := key_tk x hx
 have h2 := key_tk y hy
 rw [← h] at h2
 have := lawTk.inj h1 h2
 injection this with this
 have e : [Value.int .i64 x.1, .string ⟨x.2.toArray⟩] = [Value.int .i64 y.1, .string ⟨y.2.toArray⟩] := by simpa using this
 injection e with e1 e2
 injection e1 with _ e1
 injection e2 with e2 _
 injection e2 with e2
 injection e2 with e2
 exact Prod.ext e1 (by simpa using congrArg Array.toList e2)
theorem zero_intG (w : World) : (zeroValue 3).run Tryz.prog w = .ok (.int .i64 0) w := by kernel_rfl
theorem keyLitG (x : Int × List UInt8) (hx : FitKey x) : WideAt.IsKeyLit (keyL x) := lawTk.key (key_tk x hx)
def CntAt (w : World) (mb : Nat) (ks : List (Int × List UInt8)) : Prop :=
 ∃ D : DataW Unit, w.ownsMap Tryz.prog 126 (plainElem Tryz.prog 3) mb ks.length D ∧ ∀ x, FitKey x → D.atKey (keyL x) (.lit (.int .i64 0)) = .lit (.int .i64 (ks.count x : Nat))
theorem CntAt.isMap {w : World} {mb : Nat} {ks : List (Int × List UInt8)} (h : CntAt w mb ks) : ∃ es clock, w.heap[mb]? = some (.map es clock) := by
 obtain ⟨D, ⟨es, clock, h1, _⟩, _⟩ := h
 exact ⟨es, clock, h1⟩
theorem CntAt.lt {w : World} {mb : Nat} {ks : List (Int × List UInt8)} (h : CntAt w mb ks) : mb < w.heap.size := by
 obtain ⟨es, clock, h1⟩ := h.isMap; exact heap_lt h1
theorem CntAt.keep {w w' : World} {mb : Nat} {ks : List (Int × List UInt8)} (h : CntAt w mb ks) (hb : w'.heap[mb]? = w.heap[mb]?) : CntAt w' mb ks := by
 obtain ⟨D, ⟨es, clock, h1, r⟩, h2⟩ := h
 exact ⟨D, ⟨es, clock, hb.trans h1, r⟩, h2⟩
theorem cnt_made (w : World) : CntAt (w.alloc (.map #[] 0)) w.heap.size [] :=
 ⟨.map [], World.ownsMap_made _ _ _ _, fun x _ => by simp [DataW.atKey]⟩
theorem CntAt.look {w : World} {mb : Nat} {ks : List (Int × List UInt8)} (h : CntAt w mb ks) (x : Int × List UInt8) (hx : FitKey x) (X : World) (hX : X.heap[mb]? = w.heap[mb]?) :
  (Instr.lookup 113 (.map (some mb)) (keyV x) false).run Tryz.prog X = .ok (.int .i64 (ks.count x : Nat)) X := by
 obtain ⟨D, h1, h2⟩ := h.keep hX
 obtain ⟨d, hrun, hat, _⟩ := h1.lookup_int lawTk Tryz.underlying113 Tryz.underlying3 (zero_intG X) (key_tk x hx)
 rw [h2 x hx] at hat
 simp only [DataW.lit.injEq, Lit.int.injEq, true_and] at hat
 rw [hrun, hat]
theorem setBlock_two (w : World) (b : Nat) (o o' : Obj) : setBlock (setBlock w b o) b o' = setBlock w b o' := by
 unfold setBlock
 simp
theorem int0_wf : (Lit.int .i64 0).wf = true := by decide
theorem entry_zero {P : Program} {w : World} {t k e : TypeId} {b n : Nat} {D : DataW Unit} (K : Keyed P k) (ht : P.underlying t = some (.map k e)) (he : P.underlying e = some (.int .i64)) (hz : ∀ u : World, (zeroValue e).run P u = .ok (.int .i64 0) u) (h : w.ownsMap P k (plainElem P e) b n D) (hn : n < maxLen)
  {key : Value} {kl : Lit} (hkey : keyOf P k key = some kl) {v0 : Value} {W1 : World} (hrun : (Instr.mapEntry t (.map (some b)) key).run P w = .ok v0 W1) : ∃ D', W1.ownsMap P k (plainElem P e) b (n + 1) D' ∧ ∀ kl', D'.atKey kl' (.lit (.int .i64 0)) = D.atKey kl' (.lit (.int .i64 0)) := by
 have h' := h
 obtain ⟨es, clock, hb, F, hs, hD⟩ := h
 rcases K.find w hkey es.toList F.keys with ⟨h1, h2⟩ | ⟨j, e0, h1, h2, h3⟩
 ·have hmu : (Instr.mapUpdate t (.map (some b)) key (.int .i64 0)).run P w = .ok () (setBlock w b (.map (es.push ⟨key, .int .i64 0, clock⟩) (clock + 1))) := by
   simp [Instr.mapUpdate, run_underlying ht, MapKept.run_getObj_map hb, K.check w false hkey, h1, MapKept.run_setObj_map _ hb, Result.andThen, setBlock]
  have hlk : (Instr.lookup t (.map (some b)) key false).run P w = .ok (.int .i64 0) w := by
   simp [Instr.lookup, run_underlying ht, MapKept.run_getObj_map hb, K.check w es.isEmpty hkey, h1, hz, Result.andThen]
  have hW : W1 = setBlock w b (.map (es.push ⟨key, .int .i64 0, clock⟩) (clock + 1)) := by
   simp [Instr.mapEntry, run_underlying ht, MapKept.run_getObj_map hb, K.check w false hkey, h1, hz, MapKept.run_setObj_map _ hb, Result.andThen] at hrun
   exact hrun.2.symm
  obtain ⟨w', u1, u2, _⟩ := h'.update K ht hn hkey (plainElem_int he int0_wf)
  rw [hmu] at u1
  injection u1 with _ u1
  rw [hW, u1]
  refine ⟨_, u2, fun kl' => ?_⟩
  by_cases e1 : kl' = kl
  ·subst e1
   rw [Maps.atKey_put_same h'.isMap (K.key hkey)]
   obtain ⟨c, c1, c2, _⟩ := h'.lookup_int K ht he (hz w) hkey
   rw [hlk] at c1
   injection c1 with c1
   injection c1 with _ c1
   rw [c2, c1]
  ·rw [Maps.atKey_put_other e1]
 ·have hj : es[j]? = some e0 := by simpa using h2
  have hsame : es.modify j (fun e => { e with key := key }) = es := by
   apply Array.ext'
   rw [Array.toList_modify, modify_eq_set _ _ _ _ h2, show ({ e0 with key := key } : MapEntry) = e0 by rw [← h3]]
   exact set_self _ _ _ h2
  have hW : W1 = setBlock w b (.map es clock) := by
   simp [Instr.mapEntry, run_underlying ht, MapKept.run_getObj_map hb, K.check w false hkey, h1, hj, h3, K.stays w hkey, hsame, MapKept.run_setObj_map _ hb, Result.andThen] at hrun
   exact hrun.2.symm
  rw [hW]
  exact ⟨D, ⟨es, clock, heap_setBlock_same hb _, F, by omega, hD⟩, fun _ => rfl⟩
theorem CntAt.bump {w : World} {mb : Nat} {ks : List (Int × List UInt8)} (h : CntAt w mb ks) (hl : ks.length ≤ 1000000) (x : Int × List UInt8) (hx : FitKey x) (X : World) (hX : X.heap[mb]? = w.heap[mb]?) :
  ∃ v0 st W1 W2, (Instr.mapEntry 113 (.map (some mb)) (keyV x)).run Tryz.prog X = .ok (.tuple #[v0, goInt st]) W1 ∧ (Instr.lookup 113 (.map (some mb)) (keyV x) false).run Tryz.prog W1 = .ok (.int .i64 (ks.count x : Nat)) W1 ∧ (Instr.entryStore 113 (.map (some mb)) (goInt st) (.int .i64 ((ks.count x : Nat) + 1))).run Tryz.prog W1 = .ok () W2 ∧ X.grownBy W2 (some mb) ∧ CntAt W2 mb (ks ++ [x]) ∧ ∀ b, b ≠ mb → W1.heap[b]? = X.heap[b]? := by
 obtain ⟨D, h1, h2⟩ := h.keep hX
 have hc : ks.count x ≤ ks.length := List.count_le_length
 obtain ⟨w', u1, u2, u3⟩ := h1.update lawTk Tryz.underlying113 (by unfold maxLen; omega) (key_tk x hx) (plainElem_int Tryz.underlying3 (WalkArith.wf_i64 (n := ((ks.count x : Nat) : Int) + 1) (by omega)))
 have h1' := h1
 obtain ⟨es, clock, hb, F, _, _⟩ := h1
 obtain ⟨v0, st, es1, clock1, e1, _, e2⟩ := entry_then_store lawTk0 Tryz.underlying113 (fun u => zero_intG u) hb F (key_tk x hx)
 obtain ⟨es', clock', e3, e4⟩ := e2 (setBlock X mb (.map es1 clock1)) (.int .i64 ((ks.count x : Nat) + 1)) (heap_setBlock_same hb _)
 obtain ⟨D', z1, z2⟩ := entry_zero lawTk Tryz.underlying113 Tryz.underlying3 (fun u => zero_intG u) h1' (by unfold maxLen; omega) (key_tk x hx) e1
 obtain ⟨d, hrun, hat, _⟩ := z1.lookup_int lawTk Tryz.underlying113 Tryz.underlying3 (zero_intG _) (key_tk x hx)
 rw [z2, h2 x hx] at hat
 simp only [DataW.lit.injEq, Lit.int.injEq, true_and] at hat
 rw [u1] at e4
 injection e4 with _ e4
 rw [setBlock_two, ← e4] at e3
 refine ⟨v0, st, _, w', e1, by rw [hrun, hat], e3, u3, ⟨_, by simpa using u2, fun y hy => ?_⟩, fun b hne => heap_setBlock_other hb _ hne⟩
 by_cases e : y = x
 ·subst e
  rw [Maps.atKey_put_same h1'.isMap (keyLitG _ hx)]; simp
 ·rw [Maps.atKey_put_other (fun e' => e (keyL_inj hy hx e')), h2 y hy, List.count_append]
  have : [x].count y = 0 := by simp [List.count_singleton]; exact fun h => e h.symm
  rw [this]; rfl
end Go.Proofs.YtlgejjmdanmglaaGreatDoor
