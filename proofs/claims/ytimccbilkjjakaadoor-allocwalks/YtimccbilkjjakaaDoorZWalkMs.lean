/- Our own: texts joined: BndR, AlWalkM. -/
import Derived.Test.YtimccbilkjjakaaDoorZGRec
import Derived.Test.YtimccbilkjjakaaDoorZAlMR
import Derived.Test.YtimccbilkjjakaaDoorZValAll
namespace Go.Proofs.YtimccbilkjjakaaDoor
open Go.RowKit
structure BndR (ans : List Int) (s : Rst) : Prop where
 out : s.out.length ≤ 1000
 calls : s.calls.length ≤ ans.length
 args : ∀ c ∈ s.calls, c.2.length ≤ 1000
section
variable {ans : List Int} {most : Int}
theorem BndR.how {s : Rst} (h : BndR ans s) (x : List UInt8) : BndR ans { s with how := x } := ⟨h.out, h.calls, h.args⟩
theorem tickR_bnd {s : Rst} (h : BndR ans s) : BndR ans (tickR most s) := by
 unfold tickR; split
 ·exact h.how _
 ·exact ⟨h.out, h.calls, h.args⟩
theorem printR_bnd {s : Rst} (h : BndR ans s) (v : Int) : BndR ans (printR v s) := by
 unfold printR; split
 ·exact h.how _
 ·next hc => exact ⟨by have := h.out; simp; omega, h.calls, h.args⟩
theorem callR_bnd {s : Rst} (h : BndR ans s) (nm : List UInt8) {vs : List Int} (hv : vs.length ≤ 1000) : BndR ans (callR ans nm vs s) := by
 unfold callR; split
 ·exact h.how _
 ·next hc => exact ⟨h.out, by simp; omega, fun c hc' => by
   rw [List.mem_append, List.mem_singleton] at hc'
   rcases hc' with e | e
   ·exact h.args c e
   ·rw [e]; exact hv⟩
theorem retR_bnd {s : Rst} (h : BndR ans s) (v : Int) : BndR ans (retR v s) := ⟨h.out, h.calls, h.args⟩
theorem st0_bnd : BndR ans st0 := ⟨by simp [st0], by simp [st0], fun c hc => by simp [st0] at hc⟩
end
end Go.Proofs.YtimccbilkjjakaaDoor
namespace Go.Proofs.YtimccbilkjjakaaDoor
open Go.RowKit
structure Ra where
 regs : List Int
 slots : List Int
 next : List Int
def Ra.put (r : Ra) (k : Nat) (v : Int) : Ra := { r with regs := r.regs.set k v }
def Ra.get (r : Ra) (k : Int) : Int := r.regs.getD k.toNat 0
def raZ (S : Nat) : Ra := ⟨List.replicate 8 0, List.replicate S 0, List.replicate 4 0⟩
def insL (args ans : List Int) (most : Int) (x : Li) (s : Rst) (r : Ra) : Rst × Ra :=
 if x.kind = gParam then (s, r.put x.d.toNat (args.getD x.num.toNat 0)) else
 if x.kind = gConst then (s, r.put x.d.toNat x.num) else
 if x.kind = gOne then (s, r.put x.d.toNat (sumV x.kind x.name [r.get x.a])) else
 if x.kind = gTwo then (s, r.put x.d.toNat (sumV x.kind x.name [r.get x.a, r.get x.b])) else
 if x.kind = lMove then (s, r.put x.d.toNat (r.get x.a)) else
 if x.kind = lLoad then (s, r.put x.d.toNat (r.slots.getD x.num.toNat 0)) else
 if x.kind = lStore then (s, { r with slots := r.slots.set x.num.toNat (r.get x.a) }) else
 if x.kind = lArg then (s, { r with next := r.next.set x.num.toNat (r.get x.a) }) else
 if x.kind = gCall then (callR ans x.name (r.next.take x.num.toNat) s, if ans.length ≤ s.calls.length then r else { r with regs := r.regs.set x.d.toNat (ans.getD s.calls.length 0), next := List.replicate 4 0 }) else
 if x.kind = gTick then (tickR most s, r) else
 if x.kind = gPrint then (printR (r.get x.a) s, r) else (s, r)
def insLs (args ans : List Int) (most : Int) : List Li → Rst → Ra → Rst × Ra
 | [], s, r => (s, r)
 | x :: l, s, r => if (insL args ans most x s r).1.how = [] then insLs args ans most l (insL args ans most x s r).1 (insL args ans most x s r).2 else insL args ans most x s r
def leaveL (b : Lb) (s : Rst) (r : Ra) : Rst × Ra × Nat :=
 if b.fin = gReturn then (retR (r.get b.a) s, r, 0) else if b.fin = gIf ∧ r.get b.a = 0 then (s, r, (b.tos.getD 1 0).toNat) else (s, r, (b.tos.getD 0 0).toNat)
def blockL (args ans : List Int) (most : Int) (b : Lb) (s : Rst) (r : Ra) : Rst × Ra × Nat :=
 if (insLs args ans most b.ins s r).1.how = [] then leaveL b (insLs args ans most b.ins s r).1 (insLs args ans most b.ins s r).2 else ((insLs args ans most b.ins s r).1, (insLs args ans most b.ins s r).2, 0)
def walkL2 (last : List UInt8) (L : List Lb) (args ans : List Int) (most : Int) : Nat → Nat → Rst → Ra → Rst
 | 0, _, s, _ => { s with how := last }
 | n + 1, i, s, r => if (blockL args ans most (lbAt L i) s r).1.how ≠ [] then (blockL args ans most (lbAt L i) s r).1 else walkL2 last L args ans most n (blockL args ans most (lbAt L i) s r).2.2 (blockL args ans most (lbAt L i) s r).1 (blockL args ans most (lbAt L i) s r).2.1
def hLongL : List UInt8 := [108, 111, 110, 103]
theorem walkL2_same (L : List Lb) (args ans : List Int) (most : Int) : ∀ (m n i : Nat) (s : Rst) (r : Ra), m ≤ n → (walkL2 hLongL L args ans most m i s r).how ≠ hLongL → walkL2 hStuck L args ans most n i s r = walkL2 hLongL L args ans most m i s r
 | 0, _, _, _, _, _, h => absurd rfl h
 | m + 1, 0, _, _, _, hn, _ => absurd hn (by omega)
 | m + 1, n + 1, i, s, r, hn, h => by
  unfold walkL2 at h ⊢
  split
  ·rfl
  ·next hc =>
   rw [if_neg hc] at h
   exact walkL2_same L args ans most m n _ _ _ (by omega) h
section
variable {L : List Lb} {args ans : List Int} {most : Int}
theorem ite_bnd {p : Prop} [Decidable p] {u v : Rst × Ra} (hu : BndR ans u.1) (hv : BndR ans v.1) : BndR ans (if p then u else v).1 := by split <;> assumption
theorem ite_nx {p : Prop} [Decidable p] {u v : Rst × Ra} (hu : u.2.next.length = 4) (hv : v.2.next.length = 4) : (if p then u else v).2.next.length = 4 := by split <;> assumption
theorem insL_bnd {x : Li} {s : Rst} {r : Ra} (hr : r.next.length ≤ 1000) (h : BndR ans s) : BndR ans (insL args ans most x s r).1 := by
 unfold insL
 repeat' (first | refine ite_bnd ?_ ?_ | exact h | exact tickR_bnd h | exact printR_bnd h _ | exact callR_bnd h _ (by rw [List.length_take]; omega))
theorem insL_next {x : Li} {s : Rst} {r : Ra} (hr : r.next.length = 4) : (insL args ans most x s r).2.next.length = 4 := by
 unfold insL
 repeat' (first | refine ite_nx ?_ ?_ | exact hr | (split <;> simp [hr]; done) | (show (Ra.put _ _ _).next.length = 4; exact hr) | (simp [hr]; done))
theorem insLs_bnd : ∀ {l : List Li} {s : Rst} {r : Ra}, r.next.length = 4 → BndR ans s → BndR ans (insLs args ans most l s r).1 ∧ (insLs args ans most l s r).2.next.length = 4
 | [], _, _, hr, h => ⟨h, hr⟩
 | x :: l, s, r, hr, h => by
  unfold insLs
  have h1 := insL_bnd (args := args) (ans := ans) (most := most) (x := x) (s := s) (r := r) (by omega) h
  have h2 := insL_next (args := args) (ans := ans) (most := most) (x := x) (s := s) hr
  split
  ·exact insLs_bnd h2 h1
  ·exact ⟨h1, h2⟩
theorem leaveL_bnd {b : Lb} {s : Rst} {r : Ra} (h : BndR ans s) : BndR ans (leaveL b s r).1 ∧ (leaveL b s r).2.1 = r := by
 unfold leaveL
 split
 ·exact ⟨retR_bnd h _, rfl⟩
 ·split <;> exact ⟨h, rfl⟩
theorem walkL2_bnd (last : List UInt8) : ∀ (n i : Nat) (s : Rst) (r : Ra), r.next.length = 4 → BndR ans s → BndR ans (walkL2 last L args ans most n i s r)
 | 0, _, s, _, _, h => h.how _
 | n + 1, i, s, r, hr, h => by
  unfold walkL2
  have h1 : BndR ans (blockL args ans most (lbAt L i) s r).1 ∧ (blockL args ans most (lbAt L i) s r).2.1.next.length = 4 := by
   unfold blockL
   have h2 := insLs_bnd (args := args) (ans := ans) (most := most) (l := (lbAt L i).ins) (s := s) hr h
   split
   ·have h3 := leaveL_bnd (b := lbAt L i) (r := (insLs args ans most (lbAt L i).ins s r).2) h2.1
    exact ⟨h3.1, by rw [h3.2]; exact h2.2⟩
   ·exact h2
  split
  ·exact h1.1
  ·exact walkL2_bnd last n _ _ _ h1.2 h1.1
end
end Go.Proofs.YtimccbilkjjakaaDoor
