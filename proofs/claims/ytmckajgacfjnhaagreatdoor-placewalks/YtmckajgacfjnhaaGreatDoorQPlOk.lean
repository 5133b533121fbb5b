/- Our own: texts joined: PlOk. -/
import Derived.Test.YtmckajgacfjnhaaGreatDoorQPlBlock
namespace Go.Proofs.YtmckajgacfjnhaaGreatDoor
open Go.RowKit
theorem codeFrom_zero {ones twos : List (List UInt8)} {V P : Int} {L : List Pb} : ∀ {l : List Pb} {i : Nat} {prev : List Int}, (codeFrom ones twos V P L i prev l).1 = 0 → ∀ b ∈ l, blockR ones twos V P L b = 0
 | [], _, _, _, b, hb => by cases hb
 | c :: r, i, prev, h, b, hb => by
  rw [codeFrom] at h
  by_cases hc : blockC ones twos V P L prev c = 0
  ·rw [if_pos hc] at h
   rcases List.mem_cons.1 hb with e | e
   ·rw [e]
    rw [blockC_is] at hc
    by_cases h2 : blockR ones twos V P L c = 0
    ·exact h2
    ·rw [if_neg h2] at hc; exact hc
   ·exact codeFrom_zero h b e
  ·rw [if_neg hc] at h
   exact absurd h hc
structure WellC (V P : Int) (L : List Pb) : Prop where
 v0 : 0 ≤ V
 v1 : V ≤ 1000
 l0 : 0 < L.length
 l1 : L.length ≤ 1000
 p0 : 0 ≤ P
 p1 : P ≤ 4
 blk : ∀ b ∈ L, bKind onesE twosE b = true ∧ bBound V P L.length b = true ∧ bShape L b = true
theorem code_well {V P : Int} {L : List Pb} (h : (codeF onesE twosE V P L).1 = 0) : WellC V P L := by
 unfold codeF at h
 by_cases h1 : 1000 < L.length ∨ 1000 < V
 ·rw [if_pos h1] at h; cases h
 ·rw [if_neg h1] at h
  by_cases h2 : L.length = 0 ∨ (blkAt L 0).params ≠ [] ∨ V < 0
  ·rw [if_pos h2] at h; cases h
  ·rw [if_neg h2] at h
   by_cases h3 : P < 0 ∨ 4 < P
   ·rw [if_pos h3] at h; cases h
   ·rw [if_neg h3] at h
    have h2a : ¬ L.length = 0 := fun e => h2 (Or.inl e)
    have h2b : ¬ V < 0 := fun e => h2 (Or.inr (Or.inr e))
    exact ⟨by omega, by omega, by omega, by omega, by omega, by omega, fun b hb => blockR_zero (codeFrom_zero h b hb)⟩
section
variable {V P : Int} {L : List Pb}
theorem inV_iff {V x : Int} : inV V x = true ↔ 0 ≤ x ∧ x < V := by simp [inV]
theorem pen_cases {k : List UInt8} (h : (pen k).kind ≠ []) : k = gJump ∨ k = gIf ∨ k = gReturn := by
 by_cases h1 : k = gJump
 ·exact Or.inl h1
 ·by_cases h2 : k = gIf
  ·exact Or.inr (Or.inl h2)
  ·by_cases h3 : k = gReturn
   ·exact Or.inr (Or.inr h3)
   ·rw [pen_none h1 h2 h3] at h; exact absurd rfl h
theorem WellC.leave (h : WellC V P L) (hlow : ∀ b ∈ L, LowB b) {n : Nat} (hn : (n : Int) = V) : ∀ b ∈ L, LeaveB n L b := by
 intro b hb
 obtain ⟨h1, h2, h3⟩ := h.blk b hb
 unfold bKind at h1
 have hb2 := h2
 unfold bBound at h2
 unfold bShape at h3
 simp only [Bool.and_eq_true] at h1 h2 h3
 obtain ⟨k1, _⟩ := h1
 obtain ⟨⟨⟨⟨_, _⟩, b3⟩, b4⟩, b5⟩ := h2
 obtain ⟨⟨⟨_, s2⟩, _⟩, s4⟩ := h3
 have hk := pen_cases (k := b.fin) (by simpa using k1)
 have s2' : b.tos.length = (pen b.fin).ways := by simpa using s2
 unfold bFit at s4
 simp only [Bool.and_eq_true, decide_eq_true_eq] at s4
 refine ⟨hk, ?_, s4.1, fun hj => ?_, fun x hx => ?_, fun l hl => ⟨(hlow b hb).each l hl, fun x hx => ?_⟩, fun i hi => ?_, fun c hc x hx => ?_⟩
 ·rcases hk with e | e | e
  ·rw [s2', e, pen_jump, if_pos rfl]
  ·rw [s2', e, pen_if, if_neg (by decide), if_pos rfl]
  ·rw [s2', e, pen_ret, if_neg (by decide), if_neg (by decide)]
 ·have hv : (pen b.fin).v = true := by
   rcases hk with e | e | e
   ·exact absurd e hj
   ·rw [e]; rfl
   ·rw [e]; rfl
  rw [hv] at b3
  have := inV_iff.1 (by simpa using b3)
  omega
 ·have := inV_iff.1 (List.all_eq_true.1 b4 x hx)
  exact this
 ·have := inV_iff.1 (List.all_eq_true.1 (List.all_eq_true.1 b5 l hl) x hx)
  omega
 ·have := List.all_eq_true.1 s4.2 i (List.mem_range.2 hi)
  simpa using this
 ·have := bound_params (h.blk c hc).2.1 x hx
  omega
theorem WellC.ins (h : WellC V P L) (hlow : ∀ b ∈ L, LowB b) {n p : Nat} (hn : (n : Int) = V) (hp : (p : Int) = P) : ∀ b ∈ L, ∀ x ∈ b.ins, DoI n p x := by
 intro b hb x hx
 obtain ⟨h1, h2, h3⟩ := h.blk b hb
 have hkn := kind_known h1 x hx
 have hd := bound_d h2 x hx
 unfold bKind at h1
 unfold bBound at h2
 unfold bShape at h3
 simp only [Bool.and_eq_true] at h1 h2 h3
 have p1 := List.all_eq_true.1 h1.2 x hx
 have p2 := List.all_eq_true.1 h2.1.1.1.2 x hx
 have p3 := List.all_eq_true.1 h3.1.1.1 x hx
 unfold pKind at p1
 unfold pBound at p2
 unfold pShape at p3
 simp only [Bool.and_eq_true] at p1 p2 p3
 have hc := psh_cases hkn
 have hlen : ∀ m : Nat, (psh x.kind).args = (m : Int) → x.args.length = m := fun m e => by
  have := p3.1.1.1
  rw [e] at this
  simp at this
  omega
 refine ⟨?_, fun y hy => ?_, (hlow b hb).args x hx, fun n1 n2 => ?_, fun e => ?_, fun e => ?_, fun e => ?_, fun e => ?_⟩
 ·rcases hc with e | e | e | e | e | e | e
  ·exact Or.inl e
  ·exact Or.inr (Or.inl e)
  ·exact Or.inr (Or.inr (Or.inl e))
  ·exact Or.inr (Or.inr (Or.inr (Or.inl e)))
  ·exact Or.inr (Or.inr (Or.inr (Or.inr (Or.inr (Or.inr e)))))
  ·exact Or.inr (Or.inr (Or.inr (Or.inr (Or.inl e))))
  ·exact Or.inr (Or.inr (Or.inr (Or.inr (Or.inr (Or.inl e)))))
 ·have := inV_iff.1 (List.all_eq_true.1 p2.2 y hy)
  omega
 ·have hdd : (psh x.kind).d = true := by
   rcases hc with e | e | e | e | e | e | e
   ·rw [e]; rfl
   ·rw [e]; rfl
   ·rw [e]; rfl
   ·rw [e]; rfl
   ·rw [e]; rfl
   ·exact absurd e n1
   ·exact absurd e n2
  have := hd hdd
  omega
 ·have := p2.1.2
  rw [e] at this
  have := inV_iff.1 (by simpa using this)
  omega
 ·refine ⟨hlen 1 (by rw [e]; rfl), ?_⟩
  have := p1.2
  unfold pOp at this
  rw [if_pos e] at this
  simpa using this
 ·refine ⟨hlen 2 (by rw [e]; rfl), ?_⟩
  have := p1.2
  unfold pOp at this
  rw [if_neg (by rw [e]; decide), if_pos e] at this
  simpa using this
 ·exact hlen 1 (by rw [e]; rfl)
theorem leave_lt {n : Nat} {b : Pb} (hl : LeaveB n L b) (h0 : 0 < L.length) (s : Rst) (g : Nat → Option Int) : (leaveP L b s g).2.2 < L.length := by
 have he : ∀ i wi s g, (enterP L (b.tos.getD i 0) wi s g).2.2 < L.length := by
  intro i wi s g
  unfold enterP
  split
  ·exact h0
  ·show (b.tos.getD i 0).toNat < L.length
   rcases Nat.lt_or_ge i b.tos.length with h | h
   ·have := hl.tos _ (List.getElem_mem h)
    simp only [List.getD, List.getElem?_eq_getElem h, Option.getD_some]
    omega
   ·simp only [List.getD, List.getElem?_eq_none h, Option.getD_none]
    exact h0
 unfold leaveP
 split
 ·exact he _ _ _ _
 ·split
  ·exact h0
  ·split
   ·exact h0
   ·split
    ·exact he _ _ _ _
    ·exact he _ _ _ _
theorem block_lt {n : Nat} {b : Pb} (hl : LeaveB n L b) (h0 : 0 < L.length) {args ans : List Int} {most : Int} (s : Rst) (g : Nat → Option Int) : (blockP L args ans most b s g).2.2 < L.length := by
 unfold blockP
 split
 ·exact leave_lt hl h0 _ _
 ·exact h0
theorem insPs_bd {args ans : List Int} {most : Int} : ∀ {l : List Pi} {s : Rst} {g : Nat → Option Int}, BdT most s → BdT most (insPs args ans most l s g).1
 | [], _, _, h => h
 | x :: r, s, g, h => by
  rw [insPs]
  split
  ·exact insPs_bd (insP_bd h)
  ·exact insP_bd h
theorem enter_bd {most : Int} {t : Int} {wi : List Int} {s : Rst} {g : Nat → Option Int} (h : BdT most s) : BdT most (enterP L t wi s g).1 := by
 unfold enterP
 split
 ·exact ⟨h.lo, h.hi, h.out⟩
 ·exact h
theorem block_bd {b : Pb} {args ans : List Int} {most : Int} {s : Rst} {g : Nat → Option Int} (h : BdT most s) : BdT most (blockP L args ans most b s g).1 := by
 unfold blockP
 split
 ·have h2 := insPs_bd (args := args) (ans := ans) (l := b.ins) (g := g) h
  unfold leaveP
  split
  ·exact enter_bd h2
  ·split
   ·exact ⟨h2.lo, h2.hi, h2.out⟩
   ·split
    ·exact ⟨h2.lo, h2.hi, h2.out⟩
    ·split
     ·exact enter_bd h2
     ·exact enter_bd h2
 ·exact insPs_bd h
end
end Go.Proofs.YtmckajgacfjnhaaGreatDoor
