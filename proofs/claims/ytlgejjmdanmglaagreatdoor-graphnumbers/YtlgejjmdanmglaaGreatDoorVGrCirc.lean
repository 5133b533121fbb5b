/- Our own: texts joined: GrCirc. -/
import Derived.Test.YtlgejjmdanmglaaGreatDoorVNoteV
import Derived.Test.YtlgejjmdanmglaaGreatDoorVCkAll
import Derived.Test.YtlgejjmdanmglaaGreatDoorVGrNode
import Derived.Deep.RegionHeld3
import Derived.Shelf.Abstract
namespace Go.Proofs.YtlgejjmdanmglaaGreatDoor
open Go.RowKit
def natL (l : List Int) : List Nat := l.map Int.toNat
theorem natL_len (l : List Int) : (natL l).length = l.length := by simp [natL]
theorem nats_ints {l : List Int} (h : ∀ x ∈ l, 0 ≤ x) : natsG (natL l) = intsG l := by
 unfold natsG natL intsG
 rw [List.map_map]
 apply List.map_congr_left
 intro x hx
 have := h x hx
 show Value.int .i64 (x.toNat : Int) = .int .i64 x
 rw [Int.toNat_of_nonneg this]
theorem mem_natL {l : List Int} (h : ∀ x ∈ l, 0 ≤ x) (y : Nat) : y ∈ natL l ↔ (y : Int) ∈ l := by
 unfold natL
 rw [List.mem_map]
 constructor
 ·rintro ⟨x, hx, rfl⟩
  rw [Int.toNat_of_nonneg (h x hx)]; exact hx
 ·intro hy; exact ⟨_, hy, by simp⟩
theorem star_same {R S : Nat → Nat → Prop} (h : ∀ a b, R a b ↔ S a b) (a b : Nat) : Star R a b ↔ Star S a b := ⟨Star.imp fun a b => (h a b).1, Star.imp fun a b => (h a b).2⟩
def foundB (L : List Nd) (i : Nat) (vis : List Nat) : Bool := vis.any fun v => decide ((i : Int) ∈ reck L v)
structure CI (w X : World) (p b0 b1 b2 i : Nat) (L : List Nd) (vis : List Nat) : Prop where
 low : Below w.heap.size w X
 k0 : X.heap[b0]? = some (.cells #[.pointer (some ⟨p, 0, none⟩)] 64 (0, 0))
 k1 : X.heap[b1]? = some (.cells #[.int .i64 i] 3 (0, 0))
 k2 : X.heap[b2]? = some (.cells #[.bool (foundB L i vis)] 4 (0, 0))
 vis : ∀ v ∈ vis, v < L.length
theorem reck_low {L : List Nd} (hL : ∀ n ∈ L, LowN n) (i : Nat) : (reck L i).length ≤ 1000 := by
 unfold reck ndAt
 rw [Int.toNat_natCast]
 cases e : L[i]? with
 | none => simp
 | some n =>
  have := (hL n (List.mem_of_getElem? e)).ins
  simp only [Option.getD_some]
  split
  ·exact this
  ·simp
set_option maxRecDepth 100000 in
set_option maxHeartbeats 1000000 in
theorem circ1_any {w X : World} {a : Nat → Addr} {p m : Nat} {nm : List UInt8} {P : Int} {nv sv : Value} {L : List Nd} (h : Ck w a p m nm P nv sv L) (hR : ∀ x, ∀ y ∈ reck L x, 0 ≤ y ∧ y < (L.length : Int)) (b0 b1 b2 i : Nat) (hb : w.heap.size ≤ b0 ∧ b0 ≠ b2 ∧ b1 ≠ b2 ∧ w.heap.size ≤ b2) (vis : List Nat) (hI : CI w X p b0 b1 b2 i L vis) (x : Nat) (hx : x < L.length) :
  Calls Tryz.prog 64 #[.int .i64 (x : Int), .pointer (some ⟨b0, 0, none⟩), .pointer (some ⟨b2, 0, none⟩), .pointer (some ⟨b1, 0, none⟩)] X fun e w' => But b2 X w' ∧ CI w w' p b0 b1 b2 i L (x :: vis) ∧ ∃ v, e = .returned v ∧ XRow (InH w) w' v (natL (reck L x)).length (natsG (natL (reck L x))) := by
 have d0 : X.cell? ⟨b0, 0, none⟩ = some (.pointer (some ⟨p, 0, none⟩)) := cell_of_blk hI.k0 0
 have d1 : X.cell? ⟨b1, 0, none⟩ = some (.int .i64 (i : Int)) := cell_of_blk hI.k1 0
 have d2 : X.cell? ⟨b2, 0, none⟩ = some (.bool (foundB L i vis)) := cell_of_blk hI.k2 0
 have d3 := free_of_blk hI.k2 0
 have hrl := reck_low h.low x
 have HRK := hidX (reckoned_any h hI.low x hx)
 have hfin : ∀ v, XRow (InH w) X v (reck L x).length (intsG (reck L x)) → But b2 X (X.setCell ⟨b2, 0, none⟩ (.bool (foundB L i (x :: vis)))) ∧ CI w (X.setCell ⟨b2, 0, none⟩ (.bool (foundB L i (x :: vis)))) p b0 b1 b2 i L (x :: vis) ∧ XRow (InH w) (X.setCell ⟨b2, 0, none⟩ (.bool (foundB L i (x :: vis)))) v (natL (reck L x)).length (natsG (natL (reck L x))) := fun v hv => by
  refine ⟨(But.refl _ _).set 0 _, ⟨hI.low.setCell hb.2.2.2 _, (Below.heap_setCell _ _ _ _ hb.2.1).trans hI.k0, (Below.heap_setCell _ _ _ _ hb.2.2.1).trans hI.k1, ?_, ?_⟩, ?_⟩
  ·have := blk_setCell hI.k2 0 (.bool (foundB L i (x :: vis))); simpa using this
  ·intro y hy
   rcases List.mem_cons.1 hy with rfl | hy
   ·exact hx
   ·exact hI.vis y hy
  ·rw [natL_len, nats_ints (fun y hy => (hR x y hy).1)]
   exact hv.imp (fun _ h => h) (fun b (hb' : b < w.heap.size) => Below.heap_setCell _ _ _ _ (by show b ≠ b2; omega))
 have hcons : foundB L i (x :: vis) = (decide ((i : Int) ∈ reck L x) || foundB L i vis) := by simp [foundB]
 rw [hcons] at hfin
 have HCT := fun v => contains_any (InH w) (reck L x) (by omega) (i : Int) v X
 have HCO := hidX HCT
 have HF := hidX hfin
 clear h hR hI hcons hfin HCT hb
 generalize reck L x = l at *
 generalize foundB L i vis = fb at *
 generalize hdd : decide ((i : Int) ∈ l) = cb at HCO HF
 clear hdd
 cases fb with
 | true =>
  go_enter Tryz.func64, Tryz.ntmps64
  go_wp2_with fail
  refine HRK.out.mono ?_
  rintro e w' ⟨hh, v, rfl, hv⟩
  replace hh := hh.symm
  subst hh
  have hq := HF.out v hv
  rw [Bool.or_true] at hq
  have HQ := hidX hq
  clear hq
  go_wp2
  go_ret
  exact ⟨HQ.out.1, HQ.out.2.1, v, rfl, HQ.out.2.2⟩
 | false =>
  go_enter Tryz.func64, Tryz.ntmps64
  go_wp2_with fail
  refine HRK.out.mono ?_
  rintro e w' ⟨hh, v, rfl, hv⟩
  replace hh := hh.symm
  subst hh
  have hq := HF.out v hv
  rw [Bool.or_false] at hq
  have HQ := hidX hq
  have HC2 := hidX (HCO.out v hv)
  clear hq
  go_wp2_with fail
  refine HC2.out.mono ?_
  rintro e w' ⟨rfl, hh⟩
  replace hh := hh.symm
  subst hh
  go_wp2
  go_ret
  exact ⟨HQ.out.1, HQ.out.2.1, v, rfl, HQ.out.2.2⟩
noncomputable def maxI (l : List Int) : Int := @Classical.epsilon Int ⟨0⟩ fun r => r ∈ l ∧ ∀ x ∈ l, x ≤ r
theorem max_at (A : Nat → Prop) (l : List Int) (h1 : 1 ≤ l.length) (hl : l.length ≤ 100000) (v : Value) (w : World) (hr : XRow A w v l.length (intsG l)) :
  Calls Tryz.prog 62 #[v] w fun e w' => e = .returned (.int .i64 (maxI l)) ∧ w' = w := by
 refine (max_any A l h1 hl v w hr).mono ?_
 rintro e w' ⟨rfl, r, rfl, h2, h3⟩
 have := @Classical.epsilon_spec Int (fun r => r ∈ l ∧ ∀ x ∈ l, x ≤ r) ⟨r, h2, h3⟩
 have e : maxI l = r := by
  have h4 := this.2 r h2
  have h5 := h3 _ this.1
  exact Int.le_antisymm h5 h4
 rw [e]
 exact ⟨rfl, rfl⟩
theorem maxI_spec {l : List Int} (h1 : l ≠ []) : maxI l ∈ l ∧ ∀ x ∈ l, x ≤ maxI l := by
 refine @Classical.epsilon_spec Int (fun r => r ∈ l ∧ ∀ x ∈ l, x ≤ r) ?_
 induction l with
 | nil => exact absurd rfl h1
 | cons y r ih =>
  by_cases hr : r = []
  ·subst hr; exact ⟨y, by simp, by simp⟩
  ·obtain ⟨q, h2, h3⟩ := ih hr
   by_cases hq : q ≤ y
   ·exact ⟨y, by simp, fun x hx => by
     rcases List.mem_cons.1 hx with rfl | hx
     ·exact Int.le_refl _
     ·have := h3 x hx; omega⟩
   ·exact ⟨q, by simp [h2], fun x hx => by
     rcases List.mem_cons.1 hx with rfl | hx
     ·omega
     ·exact h3 x hx⟩
theorem hang_iff (L : List Nd) (i : Nat) : Hang L i ↔ ∃ v, Star (Rk L) i v ∧ Rk L v i := by
 constructor
 ·rintro ⟨b, h1, h2⟩
  cases h2 with
  | refl => exact ⟨i, .refl _, h1⟩
  | tail h r => exact ⟨_, Star.head h1 h, r⟩
 ·rintro ⟨v, h1, h2⟩
  rcases h1.cases_head with rfl | ⟨b, h3, h4⟩
  ·exact ⟨i, h2, .refl _⟩
  ·exact ⟨b, h3, h4.tail h2⟩
theorem found_iff {L : List Nd} {i : Nat} {vis : List Nat} (hR : ∀ x, ∀ y ∈ reck L x, 0 ≤ y ∧ y < (L.length : Int)) (hv : ∀ x, x ∈ vis ↔ ∃ s, s ∈ [i] ∧ Star (fun a b => b ∈ natL (reck L a)) s x) : foundB L i vis = true ↔ Hang L i := by
 have hs := star_same (R := fun a b => b ∈ natL (reck L a)) (S := Rk L) (fun a b => mem_natL (fun y hy => (hR a y hy).1) b)
 rw [hang_iff]
 unfold foundB
 rw [List.any_eq_true]
 constructor
 ·rintro ⟨v, h1, h2⟩
  obtain ⟨s, h3, h4⟩ := (hv v).1 h1
  rw [List.mem_singleton] at h3
  subst h3
  exact ⟨v, (hs s v).1 h4, by unfold Rk; simpa using h2⟩
 ·rintro ⟨v, h1, h2⟩
  exact ⟨v, (hv v).2 ⟨i, by simp, (hs i v).2 h1⟩, by unfold Rk at h2; simpa using h2⟩
set_option maxRecDepth 100000 in
set_option maxHeartbeats 2000000 in
theorem circled_any {w : World} {a : Nat → Addr} {p m : Nat} {nm : List UInt8} {P : Int} {nv sv : Value} {L : List Nd} (h : Ck w a p m nm P nv sv L) (hR : ∀ x, ∀ y ∈ reck L x, 0 ≤ y ∧ y < (L.length : Int)) (i : Nat) (hi : i < L.length) :
  Calls Tryz.prog 32 #[.pointer (some ⟨p, 0, none⟩), .int .i64 i] w fun e w' => e = .returned (errG a (circC L i)) ∧ Below w.heap.size w w' := by
 obtain ⟨W0, hW0⟩ : ∃ W0, W0 = (w.alloc (.cells #[.pointer (some ⟨p, 0, none⟩)] 64)).alloc (.cells #[.int .i64 (i : Int)] 3) := ⟨_, rfl⟩
 have hb0 : Below w.heap.size w W0 := by rw [hW0]; (repeat (first | exact Below.refl _ _ | assumption | refine Below.drew ?_ | refine bT ?_ _ | refine bS ?_ _ | refine bA ?_ _))
 have hz0 : W0.heap.size = w.heap.size + 2 := by rw [hW0]; simp
 have k0 : W0.heap[w.heap.size]? = some (.cells #[.pointer (some ⟨p, 0, none⟩)] 64 (0, 0)) := by rw [hW0]; exact twoG w _ _
 have k1 : W0.heap[w.heap.size + 1]? = some (.cells #[.int .i64 (i : Int)] 3 (0, 0)) := by rw [hW0]; exact heap_alloc2_new w _ _
 have HRK := hidX (reckoned_any h hb0 i hi)
 have hrl := reck_low h.low i
 generalize hres : circC L i = res
 have HRS := hidX hres
 have HCK := hidX h
 have HR := hidX hR
 have hpl := heap_lt h.blk
 obtain ⟨ad, cap, rfl⟩ := h.nodes.is
 have c2 : w.cell? ⟨p, 2, none⟩ = some (.slice ad L.length cap) := cell_of_blk h.blk 2
 have hfew : (L.length : Int) ≤ 1000 := by have := h.few; omega
 clear hres h hR
 go_enter Tryz.func32, Tryz.ntmps32
 go_wp2_with fail
 rw [← hW0]
 refine HRK.out.mono ?_
 rintro e w' ⟨hh, v, rfl, hv⟩
 replace hh := hh.symm
 subst hh
 clear hW0
 obtain ⟨va, vc, rfl⟩ := hv.is
 have d0 : W0.cell? ⟨w.heap.size, 0, none⟩ = some (.pointer (some ⟨p, 0, none⟩)) := cell_of_blk k0 0
 have d1 : W0.cell? ⟨w.heap.size + 1, 0, none⟩ = some (.int .i64 (i : Int)) := cell_of_blk k1 0
 have HK0 := hidX k0
 have HK1 := hidX k1
 have HV := hidX hv
 clear k0 k1 hv
 by_cases hl0 : reck L i = []
 ·have hr : res = 0 := by rw [← HRS.out]; unfold circC; rw [if_neg (by rintro ⟨⟨b, hb, _⟩, _⟩; rw [hl0] at hb; simp at hb)]
  subst hr
  simp only [hl0, List.length_nil]
  go_wp2_with fail
  go_quiet (fail)
  go_wp2
  go_ret
  exact ⟨rfl, by (repeat (first | exact Below.refl _ _ | assumption | refine Below.drew ?_ | refine bT ?_ _ | refine bS ?_ _ | refine bA ?_ _))⟩
 ·have hl1 : 1 ≤ (reck L i).length := by
   cases e : reck L i with
   | nil => exact absurd e hl0
   | cons => simp
  have hl2 : ((reck L i).length : Int) ≤ 1000 := by omega
  have hl3 : (((reck L i).length : Int) == 0) = false := by simp; omega
  have hmx := maxI_spec hl0
  have HMX := hidX hmx
  have HMC := hidX (fun n => max_at (InH w) (reck L i) hl1 (by omega) (.slice va (reck L i).length vc) (W0.drewN n) (HV.out.imp (fun _ h => h) (fun _ _ => rfl)))
  clear hl0 hmx
  by_cases hlt : maxI (reck L i) < (i : Int)
  ·have hr : res = 0 := by
    rw [← HRS.out]; unfold circC
    rw [if_neg]
    rintro ⟨⟨b, hb, hb2⟩, _⟩
    have := HMX.out.2 b hb
    omega
   subst hr
   go_wp2_with fail
   go_quiet ((go_at_call 62; exact Calls.quiet_of_same (HMC.out _)))
   go_wp2
   go_ret
   exact ⟨rfl, by (repeat (first | exact Below.refl _ _ | assumption | refine Below.drew ?_ | refine bT ?_ _ | refine bS ?_ _ | refine bA ?_ _))⟩
  ·have hlt' : ¬ maxI (reck L i) < (i : Int) := hlt
   have hcirc : Circ L i ↔ Hang L i := ⟨fun h => h.2, fun h => ⟨⟨maxI (reck L i), HMX.out.1, by omega⟩, h⟩⟩
   have HCI := hidX hcirc
   clear hcirc
   go_wp2_with fail
   go_quiet ((go_at_call 62; exact Calls.quiet_of_same (HMC.out _)))
   go_wp2_with fail
   obtain ⟨W1, hW1⟩ : ∃ W1, W1 = (W0.drewN nq).alloc (.cells #[.bool false] 4) := ⟨_, rfl⟩
   rw [← hW1]
   have hb1 : Below w.heap.size w W1 := by rw [hW1]; (repeat (first | exact Below.refl _ _ | assumption | refine Below.drew ?_ | refine bT ?_ _ | refine bS ?_ _ | refine bA ?_ _))
   have hz1 : W1.heap.size = w.heap.size + 3 := by rw [hW1]; simp [hz0]
   have hb01 : Below W0.heap.size W0 W1 := by rw [hW1]; (repeat (first | exact Below.refl _ _ | assumption | refine Below.drew ?_ | refine bT ?_ _ | refine bS ?_ _ | refine bA ?_ _))
   have q0 := (hb01.block _ (heap_lt HK0.out)).trans HK0.out
   have q1 := (hb01.block _ (heap_lt HK1.out)).trans HK1.out
   have q2 : W1.heap[w.heap.size + 2]? = some (.cells #[.bool false] 4 (0, 0)) := by
    rw [hW1]
    have := heap_alloc_new (W0.drewN nq) (.cells #[.bool false] 4)
    rwa [show (W0.drewN nq).heap.size = w.heap.size + 2 from hz0] at this
   have f0 : W1.cell? ⟨w.heap.size, 0, none⟩ = some (.pointer (some ⟨p, 0, none⟩)) := cell_of_blk q0 0
   have f1 : W1.cell? ⟨w.heap.size + 1, 0, none⟩ = some (.int .i64 (i : Int)) := cell_of_blk q1 0
   have f2 : W1.cell? ⟨p, 2, none⟩ = some (.slice ad L.length cap) := (hb1.cell (p := ⟨p, 2, none⟩) hpl).trans c2
   have hvis : ∀ Y, Below W1.heap.size W1 Y → Y.heap[w.heap.size + 3]? = some (.cells #[.int .i64 (i : Int)] 3 (0, 0)) → Calls Tryz.prog 63 #[.int .i64 (L.length : Int), .slice (some ⟨w.heap.size + 3, 0, none⟩) 1 1, .func (.func 64) #[] #[.pointer (some ⟨w.heap.size, 0, none⟩), .pointer (some ⟨w.heap.size + 2, 0, none⟩), .pointer (some ⟨w.heap.size + 1, 0, none⟩)]] Y fun e w' => e = .returned (.tuple #[]) ∧ Below w.heap.size w w' ∧ ∃ fb : Bool, w'.heap[w.heap.size + 2]? = some (.cells #[.bool fb] 4 (0, 0)) ∧ (fb = true ↔ Hang L i) ∧ (w'.cell? ⟨w.heap.size, 0, none⟩ = some (.pointer (some ⟨p, 0, none⟩)) ∧ w'.cell? ⟨w.heap.size + 1, 0, none⟩ = some (.int .i64 (i : Int)) ∧ w'.cell? ⟨p, 2, none⟩ = some (.slice ad L.length cap)) := fun Y hY hrow => by
    have hYs := hY.size
    rw [hz1] at hYs
    have hYw : Below w.heap.size w Y := bl_trans hb1 hb1.size hY
    have hI0 : CI w Y p w.heap.size (w.heap.size + 1) (w.heap.size + 2) i L [] := ⟨hYw, (hY.block _ (heap_lt q0)).trans q0, (hY.block _ (heap_lt q1)).trans q1, (hY.block _ (heap_lt q2)).trans q2, by simp⟩
    have hA : Asks Y L.length (w.heap.size + 2) 64 #[.pointer (some ⟨w.heap.size, 0, none⟩), .pointer (some ⟨w.heap.size + 2, 0, none⟩), .pointer (some ⟨w.heap.size + 1, 0, none⟩)] (fun _ => True) (fun x => natL (reck L x)) (fun X vis => CI w X p w.heap.size (w.heap.size + 1) (w.heap.size + 2) i L vis) := by
     refine ⟨enters_of Tryz.func64 (by kernel_rfl) rfl, fun x hx _ y hy => ?_, fun _ _ _ _ _ => trivial, fun x => ?_, by omega, fun X X' vis hI hb => ?_, fun X vis x hI hz hx _ _ => ?_⟩
     ·have := (mem_natL (fun y hy => (HR.out x y hy).1) y).1 hy
      have := (HR.out x _ this).2
      omega
     ·rw [natL_len]; exact Nat.le_trans (reck_low HCK.out.low x) (by decide)
     ·exact ⟨hI.low.trans (hb.mono (by omega)), (hb.block _ (by omega)).trans hI.k0, (hb.block _ (by omega)).trans hI.k1, (hb.block _ (by omega)).trans hI.k2, hI.vis⟩
     ·refine (circ1_any HCK.out HR.out _ _ _ i ⟨Nat.le_refl _, by omega, by omega, by omega⟩ vis hI x hx).mono ?_
      rintro e w' ⟨g1, g2, v, g3, g4⟩
      exact ⟨g1, g2, v, g3, g4.imp (fun b (hb : b < w.heap.size) => Or.inl (by omega)) (fun _ _ => rfl)⟩
    have hrw : XRow (InH Y) Y (.slice (some ⟨w.heap.size + 3, 0, none⟩) 1 1) ([i] : List Nat).length (natsG [i]) := ⟨_, _, rfl, fun _ => ⟨w.heap.size + 3, 0, rfl, heap_lt hrow, fun j u hj => by
     have hj0 : j = 0 := by
      cases j with
      | zero => rfl
      | succ j => simp [natsG] at hj
     subst hj0
     rw [Nat.zero_add, cell_of_blk hrow 0]
     simpa [natsG] using hj⟩⟩
    refine (visit_any Y L.length (by omega) _ [i] (by simpa using hi) (by simp) hrw (w.heap.size + 2) _ _ _ (fun _ _ => trivial) _ _ hA hI0).mono ?_
    rintro e w' ⟨g1, g2, vis, g3, g4⟩
    exact ⟨g1, g3.low, _, g3.k2, found_iff HR.out g4, cell_of_blk g3.k0 0, cell_of_blk g3.k1 0, (g3.low.cell (p := ⟨p, 2, none⟩) hpl).trans c2⟩
   have HVI := hidX hvis
   have hst : W1.cell? ⟨w.heap.size, 0, none⟩ = some (.pointer (some ⟨p, 0, none⟩)) ∧ W1.cell? ⟨w.heap.size + 1, 0, none⟩ = some (.int .i64 (i : Int)) ∧ W1.cell? ⟨p, 2, none⟩ = some (.slice ad L.length cap) := ⟨f0, f1, f2⟩
   have HS0 := hidX hst
   clear hvis hW1 hb01 q0 q1 q2 hst HMC HK0 HK1
   go_region_held3 (fun W => W.cell? ⟨w.heap.size, 0, none⟩ = some (.pointer (some ⟨p, 0, none⟩)) ∧ W.cell? ⟨w.heap.size + 1, 0, none⟩ = some (.int .i64 (i : Int)) ∧ W.cell? ⟨p, 2, none⟩ = some (.slice ad L.length cap))
    (first | with_reducible exact s9 | exact HS0.out | go_keep)
    (first
     | (go_at_call 63; refine (HVI.out _ (by (repeat (first | exact Below.refl _ _ | assumption | refine Below.drew ?_ | refine bT ?_ _ | refine bS ?_ _ | refine bA ?_ _))) (by first | (rw [← hz1]; exact heap_alloc_new _ _) | exact heap_alloc_new _ _)).mono ?_; rintro e X9 ⟨rfl, hb9, fb, h9, hfb, s9⟩; have HFB := hidX hfb; have H9 := hidX h9; clear hfb h9))
   all_goals (
    have f9 : X9.cell? ⟨w.heap.size + 2, 0, none⟩ = some (.bool fb) := cell_of_blk H9.out 0
    have g9 : X9.cell? ⟨9, 0, none⟩ = some (sentV (a 9)) := (HCK.out.s.below hb9).glob 9 (by omega)
    cases fb with
    | true =>
     have hr : res = 10 := by rw [← HRS.out]; unfold circC; rw [if_pos (HCI.out.2 (HFB.out.1 rfl))]
     subst hr
     go_wp2
     go_ret
     exact ⟨rfl, by (repeat (first | exact Below.refl _ _ | assumption | refine Below.drew ?_ | refine bT ?_ _ | refine bS ?_ _ | refine bA ?_ _))⟩
    | false =>
     have hr : res = 0 := by rw [← HRS.out]; unfold circC; rw [if_neg (fun h => by have := HFB.out.2 h.2; cases this)]
     subst hr
     go_wp2
     go_ret
     exact ⟨rfl, by (repeat (first | exact Below.refl _ _ | assumption | refine Below.drew ?_ | refine bT ?_ _ | refine bS ?_ _ | refine bA ?_ _))⟩)
end Go.Proofs.YtlgejjmdanmglaaGreatDoor
