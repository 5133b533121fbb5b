/- Our own: texts joined: BndR, PlWalkM, PlWk. -/
import Derived.Test.YtmckajgacfjnhaaGreatDoorQGrRec
import Derived.Test.YtmckajgacfjnhaaGreatDoorQPlCode
import Derived.Test.YtmckajgacfjnhaaGreatDoorQAskX
import Derived.Test.YtmckajgacfjnhaaGreatDoorQGrOps
namespace Go.Proofs.YtmckajgacfjnhaaGreatDoor
open Go.RowKit
structure BndR (ans : List Int) (s : Rst) : Prop where
 out : s.out.length ≤ 1000
 calls : s.calls.length ≤ ans.length
 args : ∀ c ∈ s.calls, c.2.length ≤ 1000
section
variable {ans : List Int} {most : Int}
theorem BndR.how {s : Rst} (h : BndR ans s) (x : List UInt8) : BndR ans { s with how := x } := ⟨h.out, h.calls, h.args⟩
theorem tickR_bnd {s : Rst} (h : BndR ans s) : BndR ans (tickR most s) := by
 unfold tickR; split
 ·exact h.how _
 ·exact ⟨h.out, h.calls, h.args⟩
theorem printR_bnd {s : Rst} (h : BndR ans s) (v : Int) : BndR ans (printR v s) := by
 unfold printR; split
 ·exact h.how _
 ·next hc => exact ⟨by have := h.out; simp; omega, h.calls, h.args⟩
theorem callR_bnd {s : Rst} (h : BndR ans s) (nm : List UInt8) {vs : List Int} (hv : vs.length ≤ 1000) : BndR ans (callR ans nm vs s) := by
 unfold callR; split
 ·exact h.how _
 ·next hc => exact ⟨h.out, by simp; omega, fun c hc' => by
   rw [List.mem_append, List.mem_singleton] at hc'
   rcases hc' with e | e
   ·exact h.args c e
   ·rw [e]; exact hv⟩
theorem retR_bnd {s : Rst} (h : BndR ans s) (v : Int) : BndR ans (retR v s) := ⟨h.out, h.calls, h.args⟩
theorem st0_bnd : BndR ans st0 := ⟨by simp [st0], by simp [st0], fun c hc => by simp [st0] at hc⟩
end
end Go.Proofs.YtmckajgacfjnhaaGreatDoor
namespace Go.Proofs.YtmckajgacfjnhaaGreatDoor
open Go.RowKit
def setP (g : Nat → Option Int) (p : Nat × Int) : Nat → Option Int := fun i => if i = p.1 then some p.2 else g i
def setPs (g : Nat → Option Int) (l : List (Nat × Int)) : Nat → Option Int := l.foldl setP g
def valP (args : List Int) (x : Pi) (vs : List Int) : Int := if x.kind = gParam then args.getD x.num.toNat 0 else if x.kind = gConst then x.num else sumV x.kind x.name vs
def insP (args ans : List Int) (most : Int) (x : Pi) (s : Rst) (g : Nat → Option Int) : Rst × (Nat → Option Int) :=
 match askX g (natL x.args) with
 | none => ({ s with how := hStuck }, g)
 | some vs => if x.kind = gTick then (tickR most s, g) else if x.kind = gPrint then (printR (vs.getD 0 0) s, g) else
   if x.kind = gCall then (callR ans x.name vs s, if ans.length ≤ s.calls.length then g else setP g (x.d.toNat, ans.getD s.calls.length 0)) else (s, setP g (x.d.toNat, valP args x vs))
def insPs (args ans : List Int) (most : Int) : List Pi → Rst → (Nat → Option Int) → Rst × (Nat → Option Int)
 | [], s, g => (s, g)
 | x :: r, s, g => if (insP args ans most x s g).1.how = [] then insPs args ans most r (insP args ans most x s g).1 (insP args ans most x s g).2 else insP args ans most x s g
def enterP (L : List Pb) (t : Int) (wi : List Int) (s : Rst) (g : Nat → Option Int) : Rst × (Nat → Option Int) × Nat :=
 match askX g (natL wi) with
 | none => ({ s with how := hStuck }, g, 0)
 | some vs => (s, setPs g ((natL (blkAt L t).params).zip vs), t.toNat)
def leaveP (L : List Pb) (b : Pb) (s : Rst) (g : Nat → Option Int) : Rst × (Nat → Option Int) × Nat :=
 if b.fin = gJump then enterP L (b.tos.getD 0 0) (b.wi.getD 0 []) s g else
  match g b.v.toNat with
  | none => ({ s with how := hStuck }, g, 0)
  | some y => if b.fin = gReturn then (retR y s, g, 0) else if y = 0 then enterP L (b.tos.getD 1 0) (b.wi.getD 1 []) s g else enterP L (b.tos.getD 0 0) (b.wi.getD 0 []) s g
def blockP (L : List Pb) (args ans : List Int) (most : Int) (b : Pb) (s : Rst) (g : Nat → Option Int) : Rst × (Nat → Option Int) × Nat :=
 if (insPs args ans most b.ins s g).1.how = [] then leaveP L b (insPs args ans most b.ins s g).1 (insPs args ans most b.ins s g).2 else ((insPs args ans most b.ins s g).1, (insPs args ans most b.ins s g).2, 0)
def walkP (L : List Pb) (args ans : List Int) (most : Int) : Nat → Nat → Rst → (Nat → Option Int) → Rst
 | 0, _, s, _ => { s with how := hStuck }
 | n + 1, i, s, g => if (blockP L args ans most (blkAt L i) s g).1.how ≠ [] then (blockP L args ans most (blkAt L i) s g).1 else walkP L args ans most n (blockP L args ans most (blkAt L i) s g).2.2 (blockP L args ans most (blkAt L i) s g).1 (blockP L args ans most (blkAt L i) s g).2.1
def hLongP : List UInt8 := [108, 111, 110, 103]
def walkPL (L : List Pb) (args ans : List Int) (most : Int) : Nat → Nat → Rst → (Nat → Option Int) → Rst
 | 0, _, s, _ => { s with how := hLongP }
 | n + 1, i, s, g => if (blockP L args ans most (blkAt L i) s g).1.how ≠ [] then (blockP L args ans most (blkAt L i) s g).1 else walkPL L args ans most n (blockP L args ans most (blkAt L i) s g).2.2 (blockP L args ans most (blkAt L i) s g).1 (blockP L args ans most (blkAt L i) s g).2.1
theorem walkP_same (L : List Pb) (args ans : List Int) (most : Int) : ∀ (m n i : Nat) (s : Rst) (g : Nat → Option Int), m ≤ n → (walkPL L args ans most m i s g).how ≠ hLongP → walkP L args ans most n i s g = walkPL L args ans most m i s g
 | 0, _, _, _, _, _, h => absurd rfl h
 | m + 1, 0, _, _, _, hn, _ => absurd hn (by omega)
 | m + 1, n + 1, i, s, g, hn, h => by
  unfold walkPL at h ⊢
  unfold walkP
  split
  ·rfl
  ·next hc =>
   rw [if_neg hc] at h
   exact walkP_same L args ans most m n _ _ _ (by omega) h
section
variable {L : List Pb} {args ans : List Int} {most : Int}
theorem askX_len' {res : Nat → Option Int} {l : List Nat} {vs : List Int} (h : askX res l = some vs) : vs.length = l.length := (askX_at h).1
theorem insP_bnd {x : Pi} {s : Rst} {g : Nat → Option Int} (hx : x.args.length ≤ 1000) (h : BndR ans s) : BndR ans (insP args ans most x s g).1 := by
 unfold insP
 split
 ·exact h.how _
 ·next vs hv =>
  have hvl : vs.length ≤ 1000 := by rw [askX_len' hv]; simpa [natL] using hx
  split
  ·exact tickR_bnd h
  ·split
   ·exact printR_bnd h _
   ·split
    ·exact callR_bnd h _ hvl
    ·exact h
theorem insPs_bnd : ∀ {l : List Pi} {s : Rst} {g : Nat → Option Int}, (∀ x ∈ l, x.args.length ≤ 1000) → BndR ans s → BndR ans (insPs args ans most l s g).1
 | [], _, _, _, h => h
 | x :: r, s, g, hx, h => by
  unfold insPs
  have h1 := insP_bnd (args := args) (ans := ans) (most := most) (x := x) (s := s) (g := g) (hx x (by simp)) h
  split
  ·exact insPs_bnd (fun y hy => hx y (by simp [hy])) h1
  ·exact h1
theorem enterP_bnd {t : Int} {wi : List Int} {s : Rst} {g : Nat → Option Int} (h : BndR ans s) : BndR ans (enterP L t wi s g).1 := by
 unfold enterP
 split
 ·exact h.how _
 ·exact h
theorem leaveP_bnd {b : Pb} {s : Rst} {g : Nat → Option Int} (h : BndR ans s) : BndR ans (leaveP L b s g).1 := by
 unfold leaveP
 split
 ·exact enterP_bnd h
 ·split
  ·exact h.how _
  ·split
   ·exact retR_bnd h _
   ·split
    ·exact enterP_bnd h
    ·exact enterP_bnd h
theorem blkAt_args (hlow : ∀ b ∈ L, LowB b) (i : Int) : ∀ x ∈ (blkAt L i).ins, x.args.length ≤ 1000 := by
 unfold blkAt
 cases e : L[i.toNat]? with
 | none => intro x hx; simp at hx
 | some b => exact (hlow b (List.mem_of_getElem? e)).args
theorem walkPL_bnd (hlow : ∀ b ∈ L, LowB b) : ∀ (n i : Nat) (s : Rst) (g : Nat → Option Int), BndR ans s → BndR ans (walkPL L args ans most n i s g)
 | 0, _, s, _, h => h.how _
 | n + 1, i, s, g, h => by
  unfold walkPL
  have h1 : BndR ans (blockP L args ans most (blkAt L i) s g).1 := by
   unfold blockP
   have h2 := insPs_bnd (args := args) (ans := ans) (most := most) (s := s) (g := g) (blkAt_args hlow (i : Int)) h
   split
   ·exact leaveP_bnd h2
   ·exact h2
  split
  ·exact h1
  ·exact walkPL_bnd hlow n _ _ _ h1
end
end Go.Proofs.YtmckajgacfjnhaaGreatDoor
namespace Go.Proofs.YtmckajgacfjnhaaGreatDoor
open Go.RowKit
def valC (vl : List (Int × Bool)) : List Value := vl.flatMap fun p => [.int .i64 p.1, .bool p.2]
def valsV (vl : List (Int × Bool)) (i : Nat) : Option Int := if (vl.getD i (0, false)).2 then some (vl.getD i (0, false)).1 else none
theorem valC_len : ∀ vl : List (Int × Bool), (valC vl).length = vl.length * 2
 | [] => rfl
 | p :: r => by
  have := valC_len r
  simp [valC] at this ⊢
  omega
theorem valC_at : ∀ {vl : List (Int × Bool)} {i : Nat} (hi : i < vl.length), (valC vl)[i * 2]? = some (.int .i64 vl[i].1) ∧ (valC vl)[i * 2 + 1]? = some (.bool vl[i].2)
 | p :: r, 0, _ => by simp [valC]
 | p :: r, i + 1, hi => by
  have hi' : i < r.length := by simpa using hi
  obtain ⟨h1, h2⟩ := valC_at (vl := r) hi'
  have e : valC (p :: r) = [.int .i64 p.1, .bool p.2] ++ valC r := by simp [valC]
  rw [e]
  constructor
  ·rw [List.getElem?_append_right (by simp; omega), show (i + 1) * 2 - [Value.int .i64 p.1, Value.bool p.2].length = i * 2 by simp; omega]
   simpa using h1
  ·rw [List.getElem?_append_right (by simp; omega), show (i + 1) * 2 + 1 - [Value.int .i64 p.1, Value.bool p.2].length = i * 2 + 1 by simp; omega]
   simpa using h2
theorem valC_set : ∀ (vl : List (Int × Bool)) (i : Nat) (y : Int), i < vl.length → ((valC vl).set (i * 2) (.int .i64 y)).set (i * 2 + 1) (.bool true) = valC (vl.set i (y, true))
 | [], _, _, h => absurd h (by simp)
 | p :: r, 0, y, _ => by simp [valC]
 | p :: r, i + 1, y, hi => by
  have hi' : i < r.length := by simpa using hi
  have h := valC_set r i y hi'
  have e : ∀ (q : Int × Bool) (l : List (Int × Bool)), valC (q :: l) = .int .i64 q.1 :: .bool q.2 :: valC l := fun q l => by simp [valC]
  rw [List.set_cons_succ, e, e, show (i + 1) * 2 = i * 2 + 1 + 1 by omega, List.set_cons_succ, List.set_cons_succ, List.set_cons_succ, List.set_cons_succ, h]
theorem valsV_set (vl : List (Int × Bool)) (i : Nat) (y : Int) (hi : i < vl.length) : valsV (vl.set i (y, true)) = setP (valsV vl) (i, y) := by
 funext j
 unfold valsV setP
 by_cases e : j = i
 ·subst e; simp [List.getD, hi]
 ·rw [if_neg e, show (vl.set i (y, true)).getD j (0, false) = vl.getD j (0, false) from by simp [List.getD, List.getElem?_set_ne (Ne.symm e)]]
theorem val_blk {X : World} {vb : Nat} {t : TypeId} {vl : List (Int × Bool)} (h : X.heap[vb]? = some (.cells (valC vl).toArray t (0, 0))) {i : Nat} (hi : i < vl.length) (y : Int) : ((X.setCell ⟨vb, i * 2, none⟩ (.int .i64 y)).setCell ⟨vb, i * 2 + 1, none⟩ (.bool true)).heap[vb]? = some (.cells (valC (vl.set i (y, true))).toArray t (0, 0)) := by
 have h1 := blk_setCell (blk_setCell h (i * 2) (.int .i64 y)) (i * 2 + 1) (.bool true)
 rw [List.setIfInBounds_toArray, List.setIfInBounds_toArray, valC_set vl i y hi] at h1
 exact h1
set_option maxRecDepth 100000 in
set_option maxHeartbeats 2000000 in
theorem become_any {X : World} {wb vb : Nat} {rp bv argv askv : Value} {vl : List (Int × Bool)} (hvl : vl.length ≤ 1000) (hb : X.heap[wb]? = some (.cells #[rp, bv, argv, .slice (some ⟨vb, 0, none⟩) vl.length vl.length, askv] 90 (0, 0))) (hv : X.heap[vb]? = some (.cells (valC vl).toArray 162 (0, 0))) (i : Nat) (hi : i < vl.length) (y : Int) :
  Calls Tryz.prog 68 #[.pointer (some ⟨wb, 0, none⟩), .int .i64 (i : Int), .int .i64 y] X fun e w' => e = .returned (.tuple #[]) ∧ But vb X w' ∧ w'.heap[vb]? = some (.cells (valC (vl.set i (y, true))).toArray 162 (0, 0)) := by
 have k3 : X.cell? ⟨wb, 3, none⟩ = some (.slice (some ⟨vb, 0, none⟩) vl.length vl.length) := cell_of_blk hb 3
 have c0 : X.cell? ⟨vb, i * 2, none⟩ = some (.int .i64 vl[i].1) := by rw [cell_of_blk hv (i * 2), List.getElem?_toArray]; exact (valC_at hi).1
 have c1 : X.cell? ⟨vb, i * 2 + 1, none⟩ = some (.bool vl[i].2) := by rw [cell_of_blk hv (i * 2 + 1), List.getElem?_toArray]; exact (valC_at hi).2
 have f0 := free_of_blk hv (i * 2)
 have f1 := free_of_blk hv (i * 2 + 1)
 have hi' : (i : Int) < (vl.length : Int) := by omega
 have hvl' : (vl.length : Int) ≤ 1000 := by omega
 have HF := hidX (val_blk hv hi y)
 have HBU := hidX (show But vb X ((X.setCell ⟨vb, i * 2, none⟩ (.int .i64 y)).setCell ⟨vb, i * 2 + 1, none⟩ (.bool true)) from by (repeat (first | exact But.refl _ _ | assumption | refine But.drew ?_ | refine But.drewN ?_ _ | refine But.set ?_ _ _ | refine But.setNew ?_ _ _ (by first | (simp; done) | (simp; omega)) _ | refine But.alloc ?_ _)))
 generalize vl[i] = p at *
 clear hb hv
 go_enter Tryz.func68, Tryz.ntmps68
 go_wp2
 go_end0
 exact ⟨rfl, HBU.out, HF.out⟩
end Go.Proofs.YtmckajgacfjnhaaGreatDoor
