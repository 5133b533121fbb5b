/- Our own: texts joined: PlAll. -/
import Derived.Test.YtmckajgacfjnhaaGreatDoorQPlMR
import Derived.Test.YtmckajgacfjnhaaGreatDoorQGrRec
import Derived.Test.YtmckajgacfjnhaaGreatDoorQBase
namespace Go.Proofs.YtmckajgacfjnhaaGreatDoor
open Go.RowKit
structure SoC (w : World) (n : Nat) (S : Nat → Prop) (f0 : FuncId) (bnd caps : Array Value) (el : Nat → Value) (p : Nat → Bool) (J : Nat → World → Prop) (F : World → Prop) : Prop where
 ent : ∀ args X, (callFunc f0 args).run Tryz.prog X = .ok (.enter f0 args) X
 old : ∀ k, S k → k < w.heap.size
 up : ∀ q X Y, J q X → Below X.heap.size X Y → J q Y
 call : ∀ q X, q < n → J q X → ButP S w X → Calls Tryz.prog f0 (bnd.push (el q) ++ caps) X fun e w' => e = .returned (.bool (p q)) ∧ ButP S X w' ∧ (p q = true → J (q + 1) w') ∧ (p q = false → F w')
theorem ButP.keepA {S A : Nat → Prop} {w X : World} (h : ButP S w X) (hA : ∀ b, A b → b < w.heap.size ∧ ¬ S b) : KeepA A w X := fun b hb => h.block b (hA b hb).1 (hA b hb).2
theorem ButP.refl' (S : Nat → Prop) (w : World) : ButP S w w := ⟨rfl, rfl, rfl, Nat.le_refl _, fun _ _ _ => rfl⟩
def AllTo (w : World) (n : Nat) (S : Nat → Prop) (p : Nat → Bool) (J : Nat → World → Prop) (F : World → Prop) (r : Bool) (w' : World) : Prop := r = (List.range n).all p ∧ ButP S w w' ∧ (r = true → J n w') ∧ (r = false → F w')
set_option maxRecDepth 100000 in
set_option maxHeartbeats 2000000 in
theorem oneI_any {w : World} {n : Nat} {S : Nat → Prop} {f0 : FuncId} {bnd caps : Array Value} {el : Nat → Value} {p : Nat → Bool} {J : Nat → World → Prop} {F : World → Prop} (h : SoC w n S f0 bnd caps el p J F) {X : World} {q bx : Nat} (hq : q < n) (hJ : J q X) (hw : ButP S w X) (hbx : X.heap[bx]? = some (.cells #[.func (.func f0) bnd caps] 129 (0, 0))) (v : Value) (hv : el q = v) :
  Calls Tryz.prog 84 #[v, .pointer (some ⟨bx, 0, none⟩)] X fun e w' => e = .returned (.bool (!p q)) ∧ ButP S X w' ∧ (p q = true → J (q + 1) w') ∧ (p q = false → F w') := by
 have c0 : X.cell? ⟨bx, 0, none⟩ = some (.func (.func f0) bnd caps) := cell_of_blk hbx 0
 have hent := h.ent
 have HC := hidX (h.call q X hq hJ hw)
 rw [hv] at HC
 clear h hJ hw hbx hv
 go_enter Tryz.func84, Tryz.ntmps84
 go_wp2_with fail
 refine HC.out.mono ?_
 rintro e W' ⟨rfl, hb⟩
 have HB := hidX hb
 clear hb
 go_wp2
 go_ret
 exact ⟨rfl, HB.out⟩
set_option maxRecDepth 100000 in
set_option maxHeartbeats 4000000 in
theorem idxI_any {w : World} {n : Nat} {S : Nat → Prop} {f0 : FuncId} {bnd caps : Array Value} {el : Nat → Value} {p : Nat → Bool} {J : Nat → World → Prop} {F : World → Prop} (h : SoC w n S f0 bnd caps el p J F) {X0 : World} {bx : Nat} (hn : n ≤ 100000) (hbw : w.heap.size ≤ bx) (hw0 : ButP S w X0) (hJ0 : J 0 X0) (hbx : X0.heap[bx]? = some (.cells #[.func (.func f0) bnd caps] 129 (0, 0))) {A : Nat → Prop} {ad : Option Addr} {cap : Nat} {l : List Int} (hrow : XRow A w (.slice ad n cap) l.length (intsG l)) (hA : ∀ b, A b → b < w.heap.size ∧ ¬ S b) (hel : l.length = n ∧ ∀ q (hq : q < l.length), el q = .int .i64 l[q]) :
  Calls Tryz.prog 92 #[.slice ad n cap, .func (.func 84) #[] #[.pointer (some ⟨bx, 0, none⟩)]] X0 fun e w' => ∃ r : Int, e = .returned (.int .i64 r) ∧ AllTo X0 n S p J F (decide (r < 0)) w' := by
 have hn' : (n : Int) ≤ 100000 := by omega
 have hbl := heap_lt hbx
 have HH := hidX h
 have HW0 := hidX hw0
 have HJ0 := hidX hJ0
 have HBX := hidX hbx
 have HROW := hidX hrow
 have HA := hidX hA
 have HEL := hidX hel
 clear h hw0 hJ0 hbx hrow hA hel
 go_enter Tryz.func92, Tryz.ntmps92
 go_wp2_with fail
 go_loopw [5, 8] (fun _ i wr => ∃ q : Nat, q ≤ n ∧ i = .int .i64 (q : Int) ∧ Hid (J q wr) ∧ Hid (ButP S X0 wr) ∧ Hid (∀ j, j < q → p j = true)) (fun _ i _ => n - (intOf i).toNat)
 case atStart => exact ⟨0, by omega, rfl, HJ0.out, ButP.refl' _ _, fun j hj => absurd hj (by omega)⟩
 case round =>
  obtain ⟨q, hq, rfl, HJ, HB, HP⟩ := hrel
  by_cases hlt : q < n
  ·have hlt' : (q : Int) < (n : Int) := by omega
   have hww : ButP S w wr := HW0.out.trans HB.out (fun x hx => Or.inl hx)
   have hbx2 : wr.heap[bx]? = _ := (HB.out.block bx hbl (fun hs => by have := HH.out.old bx hs; omega)).trans HBX.out
   have hql : q < l.length := by rw [HEL.out.1]; exact hlt
   obtain ⟨g, off, ea, hg, k0⟩ := ((HROW.out.imp (B := A) (fun _ h => h) (hww.keepA HA.out))).int hql
   subst ea
   have hev : el q = .int .i64 l[q] := HEL.out.2 q hql
   generalize l[q] = x at *
   have HC := hidX (oneI_any HH.out hlt HJ.out hww hbx2 _ hev)
   have HST := hidX (show p q = true → ∀ j, j < q + 1 → p j = true from fun h j hj => by
    by_cases e : j = q
    ·rw [e]; exact h
    ·exact HP.out j (by omega))
   have HNO := hidX (show p q = false → (List.range n).all p = false from fun h => List.all_eq_false.2 ⟨q, List.mem_range.2 hlt, by simp [h]⟩)
   generalize p q = pq at *
   clear hww hbx2 hev
   go_wp2_with fail
   refine HC.out.mono ?_
   rintro e X2 ⟨rfl, hb2, hj2, hf2⟩
   have HB2 := hidX (HB.out.trans hb2 (fun x hx => Or.inl hx))
   cases pq
   ·have HF2 := hidX (hf2 rfl)
    have HR := hidX (HNO.out rfl)
    clear hb2 hj2 hf2 k0
    go_wp2
    go_ret
    exact ⟨_, rfl, by rw [HR.out]; simp, HB2.out, fun h => absurd h (by simp), fun _ => HF2.out⟩
   ·have HJ2 := hidX (hj2 rfl)
    have HS2 := hidX (HST.out rfl)
    clear hb2 hj2 hf2 k0
    go_wp2
    go_roundw
    case rel => exact ⟨q + 1, by omega, by go_num, HJ2.out, HB2.out, HS2.out⟩
    case measure => simp [intOf]; omega
  ·have hqn : q = n := by omega
   subst hqn
   have HR := hidX (show (List.range q).all p = true from List.all_eq_true.2 fun j hj => HP.out j (List.mem_range.1 hj))
   go_wp2
   go_ret
   exact ⟨_, rfl, by rw [HR.out]; rfl, HB.out, fun _ => HJ.out, fun h => absurd h (by simp)⟩
set_option maxRecDepth 100000 in
set_option maxHeartbeats 4000000 in
theorem allI_any {w : World} {n : Nat} {S : Nat → Prop} {f0 : FuncId} {bnd caps : Array Value} {el : Nat → Value} {p : Nat → Bool} {J : Nat → World → Prop} {F : World → Prop} (h : SoC w n S f0 bnd caps el p J F) (hn : n ≤ 100000) (hJ0 : J 0 w) {A : Nat → Prop} {ad : Option Addr} {cap : Nat} {l : List Int} (hrow : XRow A w (.slice ad n cap) l.length (intsG l)) (hA : ∀ b, A b → b < w.heap.size ∧ ¬ S b) (hel : l.length = n ∧ ∀ q (hq : q < l.length), el q = .int .i64 l[q]) :
  Calls Tryz.prog 60 #[.slice ad n cap, .func (.func f0) bnd caps] w fun e w' => ∃ r : Bool, e = .returned (.bool r) ∧ AllTo w n S p J F r w' := by
 obtain ⟨X0, hX0⟩ : ∃ X0, X0 = w.alloc (.cells #[.func (.func f0) bnd caps] 129) := ⟨_, rfl⟩
 have hb0 : Below w.heap.size w X0 := by rw [hX0]; (repeat (first | exact Below.refl _ _ | assumption | refine Below.drew ?_ | refine bT ?_ _ | refine bS ?_ _ | refine bA ?_ _))
 have hx0 : X0.heap[w.heap.size]? = some (.cells #[.func (.func f0) bnd caps] 129 (0, 0)) := by rw [hX0]; exact heap_alloc_new _ _
 have HI := hidX (idxI_any (ad := ad) (cap := cap) h hn (Nat.le_refl _) (ButP.of hb0) (h.up 0 _ _ hJ0 hb0) hx0 hrow hA hel)
 have HB0 := hidX (show ButP S w X0 from ButP.of hb0)
 have hz := hb0.size
 have HCON := hidX (show Calls Tryz.prog 83 #[.slice ad n cap, .func (.func 84) #[] #[.pointer (some ⟨w.heap.size, 0, none⟩)]] X0 fun e w' => ∃ r : Bool, e = .returned (.bool r) ∧ AllTo X0 n S p J F (!r) w' from by
  clear hX0 hb0 hx0 hz HB0
  go_enter Tryz.func83, Tryz.ntmps83
  go_wp2_with fail
  refine HI.out.mono ?_
  rintro e W' ⟨r, rfl, hr⟩
  have HR := hidX hr
  clear hr
  go_wp2
  go_ret
  exact ⟨decide (0 ≤ r), rfl, by
   have e : (!decide (0 ≤ r)) = decide (r < 0) := by rw [Bool.eq_iff_iff]; simp
   rw [e]; exact HR.out⟩)
 clear h hJ0 hrow hA hel hb0 hx0 HI hz
 go_enter Tryz.func60, Tryz.ntmps60
 go_wp2_with fail
 rw [← hX0]
 clear hX0
 refine HCON.out.mono ?_
 rintro e W' ⟨r, rfl, hr⟩
 have HR := hidX hr
 clear hr
 go_wp2
 go_ret
 exact ⟨!r, rfl, HR.out.1, HB0.out.trans HR.out.2.1 (fun x hx => Or.inl hx), HR.out.2.2.1, HR.out.2.2.2⟩
set_option maxRecDepth 100000 in
set_option maxHeartbeats 2000000 in
theorem oneW_any {w : World} {n : Nat} {S : Nat → Prop} {f0 : FuncId} {bnd caps : Array Value} {el : Nat → Value} {p : Nat → Bool} {J : Nat → World → Prop} {F : World → Prop} (h : SoC w n S f0 bnd caps el p J F) {X : World} {q bx : Nat} (hq : q < n) (hJ : J q X) (hw : ButP S w X) (hbx : X.heap[bx]? = some (.cells #[.func (.func f0) bnd caps] 128 (0, 0))) (v : Value) (hv : el q = v) :
  Calls Tryz.prog 86 #[v, .pointer (some ⟨bx, 0, none⟩)] X fun e w' => e = .returned (.bool (!p q)) ∧ ButP S X w' ∧ (p q = true → J (q + 1) w') ∧ (p q = false → F w') := by
 have c0 : X.cell? ⟨bx, 0, none⟩ = some (.func (.func f0) bnd caps) := cell_of_blk hbx 0
 have hent := h.ent
 have HC := hidX (h.call q X hq hJ hw)
 rw [hv] at HC
 clear h hJ hw hbx hv
 go_enter Tryz.func86, Tryz.ntmps86
 go_wp2_with fail
 refine HC.out.mono ?_
 rintro e W' ⟨rfl, hb⟩
 have HB := hidX hb
 clear hb
 go_wp2
 go_ret
 exact ⟨rfl, HB.out⟩
set_option maxRecDepth 100000 in
set_option maxHeartbeats 4000000 in
theorem idxW_any {w : World} {n : Nat} {S : Nat → Prop} {f0 : FuncId} {bnd caps : Array Value} {el : Nat → Value} {p : Nat → Bool} {J : Nat → World → Prop} {F : World → Prop} (h : SoC w n S f0 bnd caps el p J F) {X0 : World} {bx : Nat} (hn : n ≤ 100000) (hbw : w.heap.size ≤ bx) (hw0 : ButP S w X0) (hJ0 : J 0 X0) (hbx : X0.heap[bx]? = some (.cells #[.func (.func f0) bnd caps] 128 (0, 0))) {A : Nat → Prop} {ad : Option Addr} {cap : Nat} {l : List (List Int)} (hrow : l.length = n) (hA : ∀ b, A b → b < w.heap.size ∧ ¬ S b) (hel : ∀ q (hq : q < l.length), ∃ g off ad1 cap1, ad = some ⟨g, off, none⟩ ∧ A g ∧ w.cell? ⟨g, off + q, none⟩ = some (.slice ad1 l[q].length cap1) ∧ el q = .slice ad1 l[q].length cap1) :
  Calls Tryz.prog 93 #[.slice ad n cap, .func (.func 86) #[] #[.pointer (some ⟨bx, 0, none⟩)]] X0 fun e w' => ∃ r : Int, e = .returned (.int .i64 r) ∧ AllTo X0 n S p J F (decide (r < 0)) w' := by
 have hn' : (n : Int) ≤ 100000 := by omega
 have hbl := heap_lt hbx
 have HH := hidX h
 have HW0 := hidX hw0
 have HJ0 := hidX hJ0
 have HBX := hidX hbx
 have HROW := hidX hrow
 have HA := hidX hA
 have HEL := hidX hel
 clear h hw0 hJ0 hbx hrow hA hel
 go_enter Tryz.func93, Tryz.ntmps93
 go_wp2_with fail
 go_loopw [5, 8] (fun _ i wr => ∃ q : Nat, q ≤ n ∧ i = .int .i64 (q : Int) ∧ Hid (J q wr) ∧ Hid (ButP S X0 wr) ∧ Hid (∀ j, j < q → p j = true)) (fun _ i _ => n - (intOf i).toNat)
 case atStart => exact ⟨0, by omega, rfl, HJ0.out, ButP.refl' _ _, fun j hj => absurd hj (by omega)⟩
 case round =>
  obtain ⟨q, hq, rfl, HJ, HB, HP⟩ := hrel
  by_cases hlt : q < n
  ·have hlt' : (q : Int) < (n : Int) := by omega
   have hww : ButP S w wr := HW0.out.trans HB.out (fun x hx => Or.inl hx)
   have hbx2 : wr.heap[bx]? = _ := (HB.out.block bx hbl (fun hs => by have := HH.out.old bx hs; omega)).trans HBX.out
   have hql : q < l.length := by rw [HROW.out]; exact hlt
   obtain ⟨g, off, ad1, cap1, ea, hg, k0, hev⟩ := HEL.out q hql
   subst ea
   replace k0 := (World.cell?_of_block (w := w) (a := ⟨g, _, none⟩) (hww.keepA HA.out g hg)).trans k0
   generalize l[q] = x at *
   have HC := hidX (oneW_any HH.out hlt HJ.out hww hbx2 _ hev)
   have HST := hidX (show p q = true → ∀ j, j < q + 1 → p j = true from fun h j hj => by
    by_cases e : j = q
    ·rw [e]; exact h
    ·exact HP.out j (by omega))
   have HNO := hidX (show p q = false → (List.range n).all p = false from fun h => List.all_eq_false.2 ⟨q, List.mem_range.2 hlt, by simp [h]⟩)
   generalize p q = pq at *
   clear hww hbx2 hev
   go_wp2_with fail
   refine HC.out.mono ?_
   rintro e X2 ⟨rfl, hb2, hj2, hf2⟩
   have HB2 := hidX (HB.out.trans hb2 (fun x hx => Or.inl hx))
   cases pq
   ·have HF2 := hidX (hf2 rfl)
    have HR := hidX (HNO.out rfl)
    clear hb2 hj2 hf2 k0
    go_wp2
    go_ret
    exact ⟨_, rfl, by rw [HR.out]; simp, HB2.out, fun h => absurd h (by simp), fun _ => HF2.out⟩
   ·have HJ2 := hidX (hj2 rfl)
    have HS2 := hidX (HST.out rfl)
    clear hb2 hj2 hf2 k0
    go_wp2
    go_roundw
    case rel => exact ⟨q + 1, by omega, by go_num, HJ2.out, HB2.out, HS2.out⟩
    case measure => simp [intOf]; omega
  ·have hqn : q = n := by omega
   subst hqn
   have HR := hidX (show (List.range q).all p = true from List.all_eq_true.2 fun j hj => HP.out j (List.mem_range.1 hj))
   go_wp2
   go_ret
   exact ⟨_, rfl, by rw [HR.out]; rfl, HB.out, fun _ => HJ.out, fun h => absurd h (by simp)⟩
set_option maxRecDepth 100000 in
set_option maxHeartbeats 4000000 in
theorem allW_any {w : World} {n : Nat} {S : Nat → Prop} {f0 : FuncId} {bnd caps : Array Value} {el : Nat → Value} {p : Nat → Bool} {J : Nat → World → Prop} {F : World → Prop} (h : SoC w n S f0 bnd caps el p J F) (hn : n ≤ 100000) (hJ0 : J 0 w) {A : Nat → Prop} {ad : Option Addr} {cap : Nat} {l : List (List Int)} (hrow : l.length = n) (hA : ∀ b, A b → b < w.heap.size ∧ ¬ S b) (hel : ∀ q (hq : q < l.length), ∃ g off ad1 cap1, ad = some ⟨g, off, none⟩ ∧ A g ∧ w.cell? ⟨g, off + q, none⟩ = some (.slice ad1 l[q].length cap1) ∧ el q = .slice ad1 l[q].length cap1) :
  Calls Tryz.prog 62 #[.slice ad n cap, .func (.func f0) bnd caps] w fun e w' => ∃ r : Bool, e = .returned (.bool r) ∧ AllTo w n S p J F r w' := by
 obtain ⟨X0, hX0⟩ : ∃ X0, X0 = w.alloc (.cells #[.func (.func f0) bnd caps] 128) := ⟨_, rfl⟩
 have hb0 : Below w.heap.size w X0 := by rw [hX0]; (repeat (first | exact Below.refl _ _ | assumption | refine Below.drew ?_ | refine bT ?_ _ | refine bS ?_ _ | refine bA ?_ _))
 have hx0 : X0.heap[w.heap.size]? = some (.cells #[.func (.func f0) bnd caps] 128 (0, 0)) := by rw [hX0]; exact heap_alloc_new _ _
 have HI := hidX (idxW_any (ad := ad) (cap := cap) h hn (Nat.le_refl _) (ButP.of hb0) (h.up 0 _ _ hJ0 hb0) hx0 hrow hA hel)
 have HB0 := hidX (show ButP S w X0 from ButP.of hb0)
 have hz := hb0.size
 have HCON := hidX (show Calls Tryz.prog 85 #[.slice ad n cap, .func (.func 86) #[] #[.pointer (some ⟨w.heap.size, 0, none⟩)]] X0 fun e w' => ∃ r : Bool, e = .returned (.bool r) ∧ AllTo X0 n S p J F (!r) w' from by
  clear hX0 hb0 hx0 hz HB0
  go_enter Tryz.func85, Tryz.ntmps85
  go_wp2_with fail
  refine HI.out.mono ?_
  rintro e W' ⟨r, rfl, hr⟩
  have HR := hidX hr
  clear hr
  go_wp2
  go_ret
  exact ⟨decide (0 ≤ r), rfl, by
   have e : (!decide (0 ≤ r)) = decide (r < 0) := by rw [Bool.eq_iff_iff]; simp
   rw [e]; exact HR.out⟩)
 clear h hJ0 hrow hA hel hb0 hx0 HI hz
 go_enter Tryz.func62, Tryz.ntmps62
 go_wp2_with fail
 rw [← hX0]
 clear hX0
 refine HCON.out.mono ?_
 rintro e W' ⟨r, rfl, hr⟩
 have HR := hidX hr
 clear hr
 go_wp2
 go_ret
 exact ⟨!r, rfl, HR.out.1, HB0.out.trans HR.out.2.1 (fun x hx => Or.inl hx), HR.out.2.2.1, HR.out.2.2.2⟩
set_option maxRecDepth 100000 in
set_option maxHeartbeats 2000000 in
theorem oneN_any {w : World} {n : Nat} {S : Nat → Prop} {f0 : FuncId} {bnd caps : Array Value} {el : Nat → Value} {p : Nat → Bool} {J : Nat → World → Prop} {F : World → Prop} (h : SoC w n S f0 bnd caps el p J F) {X : World} {q bx : Nat} (hq : q < n) (hJ : J q X) (hw : ButP S w X) (hbx : X.heap[bx]? = some (.cells #[.func (.func f0) bnd caps] 127 (0, 0))) {k nm : List UInt8} {d num : Int} {ad1 : Option Addr} {n1 cap1 : Nat} (hv : el q = .agg #[.string ⟨k.toArray⟩, .int .i64 d, .slice ad1 n1 cap1, .int .i64 num, .string ⟨nm.toArray⟩]) :
  Calls Tryz.prog 80 #[.agg #[.string ⟨k.toArray⟩, .int .i64 d, .slice ad1 n1 cap1, .int .i64 num, .string ⟨nm.toArray⟩], .pointer (some ⟨bx, 0, none⟩)] X fun e w' => e = .returned (.bool (!p q)) ∧ ButP S X w' ∧ (p q = true → J (q + 1) w') ∧ (p q = false → F w') := by
 obtain ⟨XA, hXA⟩ : ∃ XA, XA = X.alloc (.cells #[.string ⟨k.toArray⟩, .int .i64 d, .slice ad1 n1 cap1, .int .i64 num, .string ⟨nm.toArray⟩] 52) := ⟨_, rfl⟩
 have hba : Below X.heap.size X XA := by rw [hXA]; (repeat (first | exact Below.refl _ _ | assumption | refine Below.drew ?_ | refine bT ?_ _ | refine bS ?_ _ | refine bA ?_ _))
 have hbl := heap_lt hbx
 have c0 : X.cell? ⟨bx, 0, none⟩ = some (.func (.func f0) bnd caps) := cell_of_blk hbx 0
 have hent := h.ent
 have HC := hidX (h.call q XA hq (h.up q _ _ hJ hba) (hw.trans (ButP.of (S := S) hba) (fun x hx => Or.inl hx)))
 have HBA := hidX (show ButP S X XA from ButP.of hba)
 rw [hv] at HC
 clear h hJ hw hbx hv hba
 go_enter Tryz.func80, Tryz.ntmps80
 go_wp2_with fail
 rw [← hXA]
 clear hXA
 refine HC.out.mono ?_
 rintro e W' ⟨rfl, hb⟩
 have HB := hidX hb
 clear hb
 go_wp2
 go_ret
 exact ⟨rfl, HBA.out.trans HB.out.1 (fun x hx => Or.inl hx), HB.out.2⟩
set_option maxRecDepth 100000 in
set_option maxHeartbeats 4000000 in
theorem idxN_any {w : World} {n : Nat} {S : Nat → Prop} {f0 : FuncId} {bnd caps : Array Value} {el : Nat → Value} {p : Nat → Bool} {J : Nat → World → Prop} {F : World → Prop} (h : SoC w n S f0 bnd caps el p J F) {X0 : World} {bx : Nat} (hn : n ≤ 100000) (hbw : w.heap.size ≤ bx) (hw0 : ButP S w X0) (hJ0 : J 0 X0) (hbx : X0.heap[bx]? = some (.cells #[.func (.func f0) bnd caps] 127 (0, 0))) {A : Nat → Prop} {ad : Option Addr} {cap : Nat} {l : List Pi} (hrow : l.length = n) (hA : ∀ b, A b → b < w.heap.size ∧ ¬ S b) (hel : ∀ q (hq : q < l.length), ∃ g off ad1 cap1, ad = some ⟨g, off, none⟩ ∧ A g ∧ w.cell? ⟨g, off + q * 5, none⟩ = some (.string ⟨l[q].kind.toArray⟩) ∧ w.cell? ⟨g, off + q * 5 + 1, none⟩ = some (.int .i64 l[q].d) ∧ w.cell? ⟨g, off + q * 5 + 2, none⟩ = some (.slice ad1 l[q].args.length cap1) ∧ w.cell? ⟨g, off + q * 5 + 3, none⟩ = some (.int .i64 l[q].num) ∧ w.cell? ⟨g, off + q * 5 + 4, none⟩ = some (.string ⟨l[q].name.toArray⟩) ∧ el q = .agg #[.string ⟨l[q].kind.toArray⟩, .int .i64 l[q].d, .slice ad1 l[q].args.length cap1, .int .i64 l[q].num, .string ⟨l[q].name.toArray⟩]) :
  Calls Tryz.prog 87 #[.slice ad n cap, .func (.func 80) #[] #[.pointer (some ⟨bx, 0, none⟩)]] X0 fun e w' => ∃ r : Int, e = .returned (.int .i64 r) ∧ AllTo X0 n S p J F (decide (r < 0)) w' := by
 have hn' : (n : Int) ≤ 100000 := by omega
 have hbl := heap_lt hbx
 have HH := hidX h
 have HW0 := hidX hw0
 have HJ0 := hidX hJ0
 have HBX := hidX hbx
 have HROW := hidX hrow
 have HA := hidX hA
 have HEL := hidX hel
 clear h hw0 hJ0 hbx hrow hA hel
 go_enter Tryz.func87, Tryz.ntmps87
 go_wp2_with fail
 go_loopw [5, 8] (fun _ i wr => ∃ q : Nat, q ≤ n ∧ i = .int .i64 (q : Int) ∧ Hid (J q wr) ∧ Hid (ButP S X0 wr) ∧ Hid (∀ j, j < q → p j = true)) (fun _ i _ => n - (intOf i).toNat)
 case atStart => exact ⟨0, by omega, rfl, HJ0.out, ButP.refl' _ _, fun j hj => absurd hj (by omega)⟩
 case round =>
  obtain ⟨q, hq, rfl, HJ, HB, HP⟩ := hrel
  by_cases hlt : q < n
  ·have hlt' : (q : Int) < (n : Int) := by omega
   have hww : ButP S w wr := HW0.out.trans HB.out (fun x hx => Or.inl hx)
   have hbx2 : wr.heap[bx]? = _ := (HB.out.block bx hbl (fun hs => by have := HH.out.old bx hs; omega)).trans HBX.out
   have hql : q < l.length := by rw [HROW.out]; exact hlt
   obtain ⟨g, off, ad1, cap1, ea, hg, k0, k1, k2, k3, k4, hev⟩ := HEL.out q hql
   subst ea
   replace k0 := (World.cell?_of_block (w := w) (a := ⟨g, _, none⟩) (hww.keepA HA.out g hg)).trans k0
   replace k1 := (World.cell?_of_block (w := w) (a := ⟨g, _, none⟩) (hww.keepA HA.out g hg)).trans k1
   replace k2 := (World.cell?_of_block (w := w) (a := ⟨g, _, none⟩) (hww.keepA HA.out g hg)).trans k2
   replace k3 := (World.cell?_of_block (w := w) (a := ⟨g, _, none⟩) (hww.keepA HA.out g hg)).trans k3
   replace k4 := (World.cell?_of_block (w := w) (a := ⟨g, _, none⟩) (hww.keepA HA.out g hg)).trans k4
   generalize l[q] = x at *
   have HC := hidX (oneN_any HH.out hlt HJ.out hww hbx2 hev)
   have HST := hidX (show p q = true → ∀ j, j < q + 1 → p j = true from fun h j hj => by
    by_cases e : j = q
    ·rw [e]; exact h
    ·exact HP.out j (by omega))
   have HNO := hidX (show p q = false → (List.range n).all p = false from fun h => List.all_eq_false.2 ⟨q, List.mem_range.2 hlt, by simp [h]⟩)
   generalize p q = pq at *
   clear hww hbx2 hev
   go_wp2_with fail
   refine HC.out.mono ?_
   rintro e X2 ⟨rfl, hb2, hj2, hf2⟩
   have HB2 := hidX (HB.out.trans hb2 (fun x hx => Or.inl hx))
   cases pq
   ·have HF2 := hidX (hf2 rfl)
    have HR := hidX (HNO.out rfl)
    clear hb2 hj2 hf2 k0 k1 k2 k3 k4
    go_wp2
    go_ret
    exact ⟨_, rfl, by rw [HR.out]; simp, HB2.out, fun h => absurd h (by simp), fun _ => HF2.out⟩
   ·have HJ2 := hidX (hj2 rfl)
    have HS2 := hidX (HST.out rfl)
    clear hb2 hj2 hf2 k0 k1 k2 k3 k4
    go_wp2
    go_roundw
    case rel => exact ⟨q + 1, by omega, by go_num, HJ2.out, HB2.out, HS2.out⟩
    case measure => simp [intOf]; omega
  ·have hqn : q = n := by omega
   subst hqn
   have HR := hidX (show (List.range q).all p = true from List.all_eq_true.2 fun j hj => HP.out j (List.mem_range.1 hj))
   go_wp2
   go_ret
   exact ⟨_, rfl, by rw [HR.out]; rfl, HB.out, fun _ => HJ.out, fun h => absurd h (by simp)⟩
set_option maxRecDepth 100000 in
set_option maxHeartbeats 4000000 in
theorem allN_any {w : World} {n : Nat} {S : Nat → Prop} {f0 : FuncId} {bnd caps : Array Value} {el : Nat → Value} {p : Nat → Bool} {J : Nat → World → Prop} {F : World → Prop} (h : SoC w n S f0 bnd caps el p J F) (hn : n ≤ 100000) (hJ0 : J 0 w) {A : Nat → Prop} {ad : Option Addr} {cap : Nat} {l : List Pi} (hrow : l.length = n) (hA : ∀ b, A b → b < w.heap.size ∧ ¬ S b) (hel : ∀ q (hq : q < l.length), ∃ g off ad1 cap1, ad = some ⟨g, off, none⟩ ∧ A g ∧ w.cell? ⟨g, off + q * 5, none⟩ = some (.string ⟨l[q].kind.toArray⟩) ∧ w.cell? ⟨g, off + q * 5 + 1, none⟩ = some (.int .i64 l[q].d) ∧ w.cell? ⟨g, off + q * 5 + 2, none⟩ = some (.slice ad1 l[q].args.length cap1) ∧ w.cell? ⟨g, off + q * 5 + 3, none⟩ = some (.int .i64 l[q].num) ∧ w.cell? ⟨g, off + q * 5 + 4, none⟩ = some (.string ⟨l[q].name.toArray⟩) ∧ el q = .agg #[.string ⟨l[q].kind.toArray⟩, .int .i64 l[q].d, .slice ad1 l[q].args.length cap1, .int .i64 l[q].num, .string ⟨l[q].name.toArray⟩]) :
  Calls Tryz.prog 53 #[.slice ad n cap, .func (.func f0) bnd caps] w fun e w' => ∃ r : Bool, e = .returned (.bool r) ∧ AllTo w n S p J F r w' := by
 obtain ⟨X0, hX0⟩ : ∃ X0, X0 = w.alloc (.cells #[.func (.func f0) bnd caps] 127) := ⟨_, rfl⟩
 have hb0 : Below w.heap.size w X0 := by rw [hX0]; (repeat (first | exact Below.refl _ _ | assumption | refine Below.drew ?_ | refine bT ?_ _ | refine bS ?_ _ | refine bA ?_ _))
 have hx0 : X0.heap[w.heap.size]? = some (.cells #[.func (.func f0) bnd caps] 127 (0, 0)) := by rw [hX0]; exact heap_alloc_new _ _
 have HI := hidX (idxN_any (ad := ad) (cap := cap) h hn (Nat.le_refl _) (ButP.of hb0) (h.up 0 _ _ hJ0 hb0) hx0 hrow hA hel)
 have HB0 := hidX (show ButP S w X0 from ButP.of hb0)
 have hz := hb0.size
 have HCON := hidX (show Calls Tryz.prog 79 #[.slice ad n cap, .func (.func 80) #[] #[.pointer (some ⟨w.heap.size, 0, none⟩)]] X0 fun e w' => ∃ r : Bool, e = .returned (.bool r) ∧ AllTo X0 n S p J F (!r) w' from by
  clear hX0 hb0 hx0 hz HB0
  go_enter Tryz.func79, Tryz.ntmps79
  go_wp2_with fail
  refine HI.out.mono ?_
  rintro e W' ⟨r, rfl, hr⟩
  have HR := hidX hr
  clear hr
  go_wp2
  go_ret
  exact ⟨decide (0 ≤ r), rfl, by
   have e : (!decide (0 ≤ r)) = decide (r < 0) := by rw [Bool.eq_iff_iff]; simp
   rw [e]; exact HR.out⟩)
 clear h hJ0 hrow hA hel hb0 hx0 HI hz
 go_enter Tryz.func53, Tryz.ntmps53
 go_wp2_with fail
 rw [← hX0]
 clear hX0
 refine HCON.out.mono ?_
 rintro e W' ⟨r, rfl, hr⟩
 have HR := hidX hr
 clear hr
 go_wp2
 go_ret
 exact ⟨!r, rfl, HR.out.1, HB0.out.trans HR.out.2.1 (fun x hx => Or.inl hx), HR.out.2.2.1, HR.out.2.2.2⟩
end Go.Proofs.YtmckajgacfjnhaaGreatDoor
