/- Our own: texts joined: AlWkJ, AlDoS. -/
import Derived.Test.YtimccbilkjjakaaDoorZWalkMs
import Derived.Test.YtimccbilkjjakaaDoorZAlMR
import Derived.Test.YtimccbilkjjakaaDoorZGRec
import Derived.Test.YtimccbilkjjakaaDoorZTools
import Derived.Test.YtimccbilkjjakaaDoorZValAll
import Derived.Test.YtimccbilkjjakaaDoorZRets
import Derived.OwnWalk
namespace Go.Proofs.YtimccbilkjjakaaDoor
open Go.RowKit
def akL (rb : Nat) (argv : Value) (r : Ra) (sv : Value) : List Value := .pointer (some ⟨rb, 0, none⟩) :: argv :: (intsG r.regs ++ (sv :: intsG r.next))
theorem intsG_gd {l : List Int} {k : Nat} (h : k < l.length) : (intsG l)[k]? = some (.int .i64 (l.getD k 0)) := by
 rw [intsG_at h]; simp [h]
theorem intsG_put (l : List Int) (k : Nat) (v : Int) : intsG (l.set k v) = (intsG l).set k (.int .i64 v) := by
 simp [intsG, List.map_set]
theorem akL_reg {rb : Nat} {argv sv : Value} {r : Ra} (h : r.regs.length = 8) {k : Nat} (hk : k < 8) : (akL rb argv r sv)[2 + k]? = some (.int .i64 (r.regs.getD k 0)) := by
 unfold akL
 rw [show 2 + k = (k + 1) + 1 by omega, List.getElem?_cons_succ, List.getElem?_cons_succ, List.getElem?_append_left (by rw [intsG_len]; omega)]
 exact intsG_gd (by omega)
theorem akL_slots {rb : Nat} {argv sv : Value} {r : Ra} (h : r.regs.length = 8) : (akL rb argv r sv)[10]? = some sv := by
 unfold akL
 rw [List.getElem?_cons_succ, List.getElem?_cons_succ, List.getElem?_append_right (by rw [intsG_len]; omega), intsG_len, h]
 rfl
theorem akL_next {rb : Nat} {argv sv : Value} {r : Ra} (h : r.regs.length = 8) (hn : r.next.length = 4) {k : Nat} (hk : k < 4) : (akL rb argv r sv)[11 + k]? = some (.int .i64 (r.next.getD k 0)) := by
 unfold akL
 rw [show 11 + k = (9 + k) + 1 + 1 by omega, List.getElem?_cons_succ, List.getElem?_cons_succ, List.getElem?_append_right (by rw [intsG_len]; omega), intsG_len, h, show 9 + k - 8 = k + 1 by omega, List.getElem?_cons_succ]
 exact intsG_gd (by omega)
theorem akL_put {rb : Nat} {argv sv : Value} {r : Ra} (h : r.regs.length = 8) {k : Nat} (hk : k < 8) (v : Int) : (akL rb argv r sv).set (2 + k) (.int .i64 v) = akL rb argv (r.put k v) sv := by
 unfold akL Ra.put
 rw [show 2 + k = (k + 1) + 1 by omega, List.set_cons_succ, List.set_cons_succ, List.set_append_left _ _ (by rw [intsG_len]; omega), intsG_put]
theorem akL_told {rb : Nat} {argv sv : Value} {r : Ra} (h : r.regs.length = 8) (k : Nat) (v : Int) : (akL rb argv r sv).set (11 + k) (.int .i64 v) = akL rb argv { r with next := r.next.set k v } sv := by
 unfold akL
 rw [show 11 + k = (9 + k) + 1 + 1 by omega, List.set_cons_succ, List.set_cons_succ, List.set_append_right _ _ (by rw [intsG_len]; omega), intsG_len, h, show 9 + k - 8 = k + 1 by omega, List.set_cons_succ, intsG_put]
structure AkJ (D : Nat → Prop) (S : Nat → Prop) (X : World) (wb rb sb : Nat) (argv ansv : Value) (s : Rst) (most steps : Int) (r : Ra) : Prop where
 blk : X.heap[wb]? = some (.cells (akL rb argv r (.slice (some ⟨sb, 0, none⟩) r.slots.length r.slots.length)).toArray 83 (0, 0))
 slt : X.heap[sb]? = some (.cells (intsG r.slots).toArray 3 (0, 0))
 recd : RecE S X rb s ansv most steps
 ne1 : wb ≠ rb
 ne2 : wb ≠ sb
 ne3 : rb ≠ sb
 lw : D wb
 lr : D rb
 lz : D sb
 ls : ∀ b, S b → D b ∧ b ≠ wb ∧ b ≠ sb
 rl : r.regs.length = 8
 nl : r.next.length = 4
 zl : r.slots.length ≤ 1000
def Up (D : Nat → Prop) (X : World) : Nat → Prop := fun b => D b ∨ X.heap.size ≤ b
def AkE (D : Nat → Prop) (X : World) (wb rb sb : Nat) (argv ansv : Value) (s : Rst) (most steps : Int) (r : Ra) : Prop := ∃ S, AkJ D S X wb rb sb argv ansv s most steps r
section
variable {D : Nat → Prop} {S : Nat → Prop} {X Y : World} {wb rb sb : Nat} {argv ansv : Value} {s : Rst} {most steps : Int} {r : Ra}
theorem AkJ.e (h : AkJ D S X wb rb sb argv ansv s most steps r) : AkE D X wb rb sb argv ansv s most steps r := ⟨S, h⟩
theorem AkJ.wl (h : AkJ D S X wb rb sb argv ansv s most steps r) : wb < X.heap.size := heap_lt h.blk
theorem AkJ.sl (h : AkJ D S X wb rb sb argv ansv s most steps r) : sb < X.heap.size := heap_lt h.slt
theorem AkJ.keep (h : AkJ D S X wb rb sb argv ansv s most steps r) (hz : X.heap.size ≤ Y.heap.size) (hb : ∀ k, (k = wb ∨ k = rb ∨ k = sb ∨ S k) → Y.heap[k]? = X.heap[k]?) : AkJ D S Y wb rb sb argv ansv s most steps r :=
 ⟨(hb wb (Or.inl rfl)).trans h.blk, (hb sb (Or.inr (Or.inr (Or.inl rfl)))).trans h.slt, h.recd.keep hz (fun k hk => hb k (hk.elim (fun e => Or.inr (Or.inl e)) (fun e => Or.inr (Or.inr (Or.inr e))))), h.ne1, h.ne2, h.ne3, h.lw, h.lr, h.lz, h.ls, h.rl, h.nl, h.zl⟩
theorem AkJ.in_ (h : AkJ D S X wb rb sb argv ansv s most steps r) : ∀ k, (k = wb ∨ k = rb ∨ k = sb ∨ S k) → D k ∧ k < X.heap.size := by
 rintro k (rfl | rfl | rfl | e)
 ·exact ⟨h.lw, h.wl⟩
 ·exact ⟨h.lr, h.recd.rl⟩
 ·exact ⟨h.lz, h.sl⟩
 ·exact ⟨(h.ls k e).1, (h.recd.sl k e).1⟩
theorem AkJ.below (h : AkJ D S X wb rb sb argv ansv s most steps r) (hb : Below X.heap.size X Y) : AkJ D S Y wb rb sb argv ansv s most steps r :=
 h.keep hb.size (fun k hk => hb.block k (h.in_ k hk).2)
theorem AkJ.mono {D' : Nat → Prop} (h : AkJ D S X wb rb sb argv ansv s most steps r) (hD : ∀ b, D b → D' b) : AkJ D' S X wb rb sb argv ansv s most steps r :=
 ⟨h.blk, h.slt, h.recd, h.ne1, h.ne2, h.ne3, hD _ h.lw, hD _ h.lr, hD _ h.lz, fun b e => ⟨hD b (h.ls b e).1, (h.ls b e).2⟩, h.rl, h.nl, h.zl⟩
theorem AkE.mono {D' : Nat → Prop} (h : AkE D X wb rb sb argv ansv s most steps r) (hD : ∀ b, D b → D' b) : AkE D' X wb rb sb argv ansv s most steps r := by
 obtain ⟨S, h⟩ := h
 exact ⟨S, h.mono hD⟩
theorem AkE.below (h : AkE D X wb rb sb argv ansv s most steps r) (hb : Below X.heap.size X Y) : AkE D Y wb rb sb argv ansv s most steps r := by
 obtain ⟨S, h⟩ := h
 exact ⟨S, h.below hb⟩
theorem AkJ.reg (h : AkJ D S X wb rb sb argv ansv s most steps r) {k : Nat} (hk : k < 8) : X.cell? ⟨wb, 2 + k, none⟩ = some (.int .i64 (r.regs.getD k 0)) := by
 rw [cell_of_blk h.blk, List.getElem?_toArray, akL_reg h.rl hk]
theorem AkJ.nxt (h : AkJ D S X wb rb sb argv ansv s most steps r) {k : Nat} (hk : k < 4) : X.cell? ⟨wb, 11 + k, none⟩ = some (.int .i64 (r.next.getD k 0)) := by
 rw [cell_of_blk h.blk, List.getElem?_toArray, akL_next h.rl h.nl hk]
theorem AkJ.ptr (h : AkJ D S X wb rb sb argv ansv s most steps r) : X.cell? ⟨wb, 0, none⟩ = some (.pointer (some ⟨rb, 0, none⟩)) := by
 rw [cell_of_blk h.blk]; rfl
theorem AkJ.arg (h : AkJ D S X wb rb sb argv ansv s most steps r) : X.cell? ⟨wb, 1, none⟩ = some argv := by
 rw [cell_of_blk h.blk]; rfl
theorem AkJ.slots (h : AkJ D S X wb rb sb argv ansv s most steps r) : X.cell? ⟨wb, 10, none⟩ = some (.slice (some ⟨sb, 0, none⟩) r.slots.length r.slots.length) := by
 rw [cell_of_blk h.blk, List.getElem?_toArray, akL_slots h.rl]
theorem AkJ.slot (h : AkJ D S X wb rb sb argv ansv s most steps r) {k : Nat} (hk : k < r.slots.length) : X.cell? ⟨sb, k, none⟩ = some (.int .i64 (r.slots.getD k 0)) := by
 rw [cell_of_blk h.slt, List.getElem?_toArray, intsG_gd hk]
theorem AkJ.recTo (h : AkJ D S X wb rb sb argv ansv s most steps r) {s' : Rst} {steps' : Int} (ht : RecTo S X rb s' ansv most steps' Y) : ButP D X Y ∧ ∃ S', AkJ (Up D X) S' Y wb rb sb argv ansv s' most steps' r := by
 obtain ⟨⟨S', h1, h2⟩, h3⟩ := ht
 have hk : ∀ k, k < X.heap.size → k ≠ rb → ¬ S k → Y.heap[k]? = X.heap[k]? := fun k hk hr hs => h3.block k hk (fun e => e.elim hr hs)
 have hw := h.wl
 have hv := h.sl
 refine ⟨h3.imp (fun k e => e.elim (fun e => e ▸ h.lr) (fun e => (h.ls k e).1)), S', ?_⟩
 refine ⟨(hk wb hw h.ne1 (fun e => (h.ls wb e).2.1 rfl)).trans h.blk, (hk sb hv h.ne3.symm (fun e => (h.ls sb e).2.2 rfl)).trans h.slt, h2, h.ne1, h.ne2, h.ne3, Or.inl h.lw, Or.inl h.lr, Or.inl h.lz, fun b e => ?_, h.rl, h.nl, h.zl⟩
 rcases h1 b e with e' | e'
 ·exact ⟨Or.inl (h.ls b e').1, (h.ls b e').2⟩
 ·exact ⟨Or.inr e', by omega, by omega⟩
theorem AkJ.turn (h : AkJ D S X wb rb sb argv ansv s most steps r) {r' : Ra} (hb : But wb X Y) (hz : r'.slots = r.slots) (hr : r'.regs.length = 8) (hn : r'.next.length = 4) (hk : Y.heap[wb]? = some (.cells (akL rb argv r' (.slice (some ⟨sb, 0, none⟩) r.slots.length r.slots.length)).toArray 83 (0, 0))) : ButP D X Y ∧ AkJ D S Y wb rb sb argv ansv s most steps r' := by
 have hkk : ∀ k, k < X.heap.size → k ≠ wb → Y.heap[k]? = X.heap[k]? := fun k hk hr => hb.block k hk hr
 refine ⟨ButP.but hb h.lw, ⟨by rw [hz]; exact hk, by rw [hz]; exact (hkk sb h.sl h.ne2.symm).trans h.slt, h.recd.keep hb.size (fun k e => hkk k (e.elim (fun e => e ▸ h.recd.rl) (fun e => (h.recd.sl k e).1)) (e.elim (fun e => e ▸ h.ne1.symm) (fun e => (h.ls k e).2.1))), h.ne1, h.ne2, h.ne3, h.lw, h.lr, h.lz, h.ls, hr, hn, by rw [hz]; exact h.zl⟩⟩
theorem AkJ.put (h : AkJ D S X wb rb sb argv ansv s most steps r) {k : Nat} (hk : k < 8) (v : Int) : ButP D X (X.setCell ⟨wb, 2 + k, none⟩ (.int .i64 v)) ∧ AkJ D S (X.setCell ⟨wb, 2 + k, none⟩ (.int .i64 v)) wb rb sb argv ansv s most steps (r.put k v) := by
 refine h.turn ((But.refl _ _).set _ _) rfl (by unfold Ra.put; simp [h.rl]) h.nl ?_
 rw [blk_setCell h.blk, List.setIfInBounds_toArray, akL_put h.rl hk]
theorem AkJ.told (h : AkJ D S X wb rb sb argv ansv s most steps r) (k : Nat) (v : Int) : ButP D X (X.setCell ⟨wb, 11 + k, none⟩ (.int .i64 v)) ∧ AkJ D S (X.setCell ⟨wb, 11 + k, none⟩ (.int .i64 v)) wb rb sb argv ansv s most steps { r with next := r.next.set k v } := by
 refine h.turn ((But.refl _ _).set _ _) rfl h.rl (by simp [h.nl]) ?_
 rw [blk_setCell h.blk, List.setIfInBounds_toArray, akL_told h.rl]
theorem AkJ.keepS (h : AkJ D S X wb rb sb argv ansv s most steps r) (k : Nat) (v : Int) : ButP D X (X.setCell ⟨sb, k, none⟩ (.int .i64 v)) ∧ AkJ D S (X.setCell ⟨sb, k, none⟩ (.int .i64 v)) wb rb sb argv ansv s most steps { r with slots := r.slots.set k v } := by
 have hb : But sb X (X.setCell ⟨sb, k, none⟩ (.int .i64 v)) := (But.refl _ _).set _ _
 have hkk : ∀ c, c < X.heap.size → c ≠ sb → (X.setCell ⟨sb, k, none⟩ (.int .i64 v)).heap[c]? = X.heap[c]? := fun c hc hr => hb.block c hc hr
 refine ⟨ButP.but hb h.lz, ⟨?_, ?_, h.recd.keep hb.size (fun k e => hkk k (e.elim (fun e => e ▸ h.recd.rl) (fun e => (h.recd.sl k e).1)) (e.elim (fun e => e ▸ h.ne3) (fun e => (h.ls k e).2.2))), h.ne1, h.ne2, h.ne3, h.lw, h.lr, h.lz, h.ls, h.rl, h.nl, by simpa using h.zl⟩⟩
 ·rw [List.length_set]; exact (hkk wb h.wl h.ne2).trans h.blk
 ·rw [blk_setCell h.slt, List.setIfInBounds_toArray, intsG_put]
end
end Go.Proofs.YtimccbilkjjakaaDoor
namespace Go.Proofs.YtimccbilkjjakaaDoor
open Go.RowKit
def r8 (n : Int) : Prop := 0 ≤ n ∧ n < 8
structure DoL (P Z : Nat) (x : Li) : Prop where
 kind : x.kind = gParam ∨ x.kind = gConst ∨ x.kind = gOne ∨ x.kind = gTwo ∨ x.kind = lMove ∨ x.kind = lLoad ∨ x.kind = lStore ∨ x.kind = lArg ∨ x.kind = gCall ∨ x.kind = gTick ∨ x.kind = gPrint
 param : x.kind = gParam → r8 x.d ∧ 0 ≤ x.num ∧ x.num < (P : Int)
 const : x.kind = gConst → r8 x.d
 one : x.kind = gOne → r8 x.d ∧ r8 x.a ∧ x.name ∈ onesE
 two : x.kind = gTwo → r8 x.d ∧ r8 x.a ∧ r8 x.b ∧ x.name ∈ twosE
 move : x.kind = lMove → r8 x.d ∧ r8 x.a
 load : x.kind = lLoad → r8 x.d ∧ 0 ≤ x.num ∧ x.num < (Z : Int)
 store : x.kind = lStore → r8 x.a ∧ 0 ≤ x.num ∧ x.num < (Z : Int)
 arg : x.kind = lArg → r8 x.a ∧ 0 ≤ x.num ∧ x.num < 4
 call : x.kind = gCall → r8 x.d ∧ 0 ≤ x.num ∧ x.num < 5
 print : x.kind = gPrint → r8 x.a
def ADo (D : Nat → Prop) (X : World) (wb rb sb : Nat) (argv ansv : Value) (most steps : Int) (q : Rst × Ra) (e : Ending) (w' : World) : Prop :=
 ButP D X w' ∧ e = .returned (.tuple #[]) ∧ ∃ r', (q.1.how = [] → r' = q.2) ∧ AkE (Up D X) w' wb rb sb argv ansv q.1 most steps r'
section
variable {D D' : Nat → Prop} {S : Nat → Prop} {X Y Z : World} {wb rb sb : Nat} {argv ansv : Value} {s s' : Rst} {most steps : Int} {r r' : Ra} {q : Rst × Ra} {e : Ending} {w' : World}
theorem ADo.back (hb : ButP D X Y) (hD : ∀ b, D' b → D b ∨ X.heap.size ≤ b) (h : ADo D' Y wb rb sb argv ansv most steps q e w') : ADo D X wb rb sb argv ansv most steps q e w' := by
 obtain ⟨h1, h2, r', h4, h5⟩ := h
 exact ⟨hb.trans h1 hD, h2, r', h4, h5.mono (fun b e => e.elim (fun e => hD b e) (fun e => Or.inr (Nat.le_trans hb.size e)))⟩
theorem ADo.drewN (h : ADo D X wb rb sb argv ansv most steps q e w') (n : Nat) : ADo D X wb rb sb argv ansv most steps q e (w'.drewN n) := by
 obtain ⟨h1, h2, r', h4, h5⟩ := h
 exact ⟨h1.trans (ButP.of (S := fun _ => False) (by (repeat (first | exact Below.refl _ _ | assumption | refine Below.drew ?_ | refine bT ?_ _ | refine bS ?_ _ | refine bA ?_ _)))) (fun _ e => e.elim), h2, r', h4, h5.below (by (repeat (first | exact Below.refl _ _ | assumption | refine Below.drew ?_ | refine bT ?_ _ | refine bS ?_ _ | refine bA ?_ _)))⟩
theorem ADo.drew (h : ADo D X wb rb sb argv ansv most steps q e w') : ADo D X wb rb sb argv ansv most steps q e w'.drew := h.drewN 1
theorem ado_of (hX : Below X.heap.size X Y) (ht : ButP D Y Z ∧ AkJ D S Z wb rb sb argv ansv s most steps r') (hq : q = (s, r')) : ADo D X wb rb sb argv ansv most steps q (.returned (.tuple #[])) Z := by
 subst hq
 exact ⟨(ButP.of (S := fun _ => False) hX |>.imp (fun _ h => h.elim)).trans ht.1 (fun _ e => Or.inl e), rfl, r', fun _ => rfl, (ht.2.mono (fun _ e => Or.inl e)).e⟩
theorem ado_rec (hX : Below X.heap.size X Y) (h : AkJ D S Y wb rb sb argv ansv s most steps r) (ht : RecTo S Y rb s' ansv most steps Z) (hq : q = (s', r)) : ADo D X wb rb sb argv ansv most steps q (.returned (.tuple #[])) Z := by
 subst hq
 obtain ⟨h1, S', h2⟩ := h.recTo ht
 exact ADo.back (D' := D) (ButP.of hX) (fun _ e => Or.inl e) ⟨h1, rfl, r, fun _ => rfl, h2.e⟩
end
theorem arr4 (wb n : Nat) (hn : n ≤ 4) : ∀ W : World, (Instr.sliceAt 81 (.pointer (some ⟨wb, 11, none⟩)) none (some (.int .i64 (n : Int))) none).run Tryd.prog W = .ok (.slice (some ⟨wb, 11, none⟩) n 4) W := fun W => by
 have hal : Tryd.prog.arrayLen 81 = 4 := by kernel_rfl
 have hel : Tryd.prog.elem 81 = 3 := by kernel_rfl
 have hsz : ∀ W : World, (sizeOf 3).run Tryd.prog W = .ok 1 W := fun W => by kernel_rfl
 rw [run_sliceAt_array_h W 81 ⟨wb, 11, none⟩ (by kernel_rfl) .i64 (n : Int) (by omega) (by rw [hal]; omega), hal, hel, hsz]
 simp [Result.andThen, slicedAt, Addr.add]
theorem AkJ.zero {D S : Nat → Prop} {X : World} {wb rb sb : Nat} {argv ansv : Value} {s : Rst} {most steps : Int} {r : Ra} (h : AkJ D S X wb rb sb argv ansv s most steps r) :
  ButP D X ((((X.setCell ⟨wb, 11, none⟩ (.int .i64 0)).setCell ⟨wb, 12, none⟩ (.int .i64 0)).setCell ⟨wb, 13, none⟩ (.int .i64 0)).setCell ⟨wb, 14, none⟩ (.int .i64 0)) ∧ AkJ D S ((((X.setCell ⟨wb, 11, none⟩ (.int .i64 0)).setCell ⟨wb, 12, none⟩ (.int .i64 0)).setCell ⟨wb, 13, none⟩ (.int .i64 0)).setCell ⟨wb, 14, none⟩ (.int .i64 0)) wb rb sb argv ansv s most steps { r with next := List.replicate 4 0 } := by
 have t0 := h.told 0 0
 have t1 := t0.2.told 1 0
 have t2 := t1.2.told 2 0
 have t3 := t2.2.told 3 0
 have hn : List.set (List.set (List.set (List.set r.next 0 0) 1 0) 2 0) 3 0 = List.replicate 4 0 := by
  have := h.nl
  match r.next, this with
  | [_, _, _, _], _ => rfl
 refine ⟨((t0.1.trans t1.1 (fun _ e => Or.inl e)).trans t2.1 (fun _ e => Or.inl e)).trans t3.1 (fun _ e => Or.inl e), ?_⟩
 have := t3.2
 simp only at this
 rw [hn] at this
 exact this
theorem akj_next {D S : Nat → Prop} {X : World} {wb rb sb : Nat} {argv ansv : Value} {s : Rst} {most steps : Int} {r : Ra} (h : AkJ D S X wb rb sb argv ansv s most steps r) {n : Nat} (hn : n ≤ 4) : XRow (InH X) X (.slice (some ⟨wb, 11, none⟩) (r.next.take n).length 4) (r.next.take n).length (intsG (r.next.take n)) := by
 refine ⟨_, _, rfl, fun _ => ⟨wb, 11, rfl, h.wl, fun j u hu => ?_⟩⟩
 have hl : (intsG (r.next.take n)).length = (r.next.take n).length := intsG_len _
 have hj : j < (r.next.take n).length := by
  rcases Nat.lt_or_ge j (r.next.take n).length with h' | h'
  ·exact h'
  ·rw [List.getElem?_eq_none (by omega)] at hu; cases hu
 have hj4 : j < 4 := by rw [List.length_take, h.nl] at hj; omega
 rw [intsG_gd hj] at hu
 rw [h.nxt hj4, ← hu]
 have : (r.next.take n).getD j 0 = r.next.getD j 0 := by
  rw [List.length_take] at hj
  simp [show j < n by omega]
 rw [this]
theorem arow_new1 (w : World) (x : Int) : XRow (fun b => w.heap.size ≤ b ∧ b < (w.alloc (.cells #[.int .i64 x] 3)).heap.size) (w.alloc (.cells #[.int .i64 x] 3)) (.slice (some ⟨w.heap.size, 0, none⟩) 1 1) 1 [.int .i64 x] :=
 (xrow_own (World.ownsRow_lit (base := w.heap.size) (e := 3) (size := 1) w #[.int .i64 x] 1 (Nat.le_refl _) (by decide) rfl)).imp (fun _ h => h) (fun _ _ => rfl)
theorem arow_new2 (w : World) (x y : Int) : XRow (fun b => w.heap.size ≤ b ∧ b < (w.alloc (.cells #[.int .i64 x, .int .i64 y] 3)).heap.size) (w.alloc (.cells #[.int .i64 x, .int .i64 y] 3)) (.slice (some ⟨w.heap.size, 0, none⟩) 2 2) 2 [.int .i64 x, .int .i64 y] :=
 (xrow_own (World.ownsRow_lit (base := w.heap.size) (e := 3) (size := 1) w #[.int .i64 x, .int .i64 y] 2 (Nat.le_refl _) (by decide) rfl)).imp (fun _ h => h) (fun _ _ => rfl)
end Go.Proofs.YtimccbilkjjakaaDoor
