/-
  Our own: how large a tree is that came in.
-/
import Derived.Test.YtcebpmaggnephabGreatDoorTreeRead
import Derived.Test.YtcebpmaggnephabGreatDoorCheckLow
import Derived.Test.YtcebpmaggnephabGreatDoorSteps
namespace Go.Proofs.YtcebpmaggnephabGreatDoor
open Go.RowKit

def SizeE (e : Ex) : Prop := ∀ (d : Nat) (w : World) (cs : List Value), d ≤ 16 → XE (InH w) w e cs → OkE e →
  Calls Tryz.prog 64 #[.agg cs.toArray, .int .i64 d] w fun ev w' => ∃ r : Nat, ev = .returned (.int .i64 r) ∧ r ≤ 1000 * (17 - d) ∧ (r < 1000 → LowE e ∧ nodesE e ≤ r) ∧ Below w.heap.size w w'
set_option maxRecDepth 100000 in
set_option maxHeartbeats 2000000 in
theorem size_mk (k : List UInt8) (n : Int) (m : List UInt8) (ks : List Ex) (ih : ∀ e ∈ ks, SizeE e) : SizeE (.mk k n m ks) := by
  intro d w cs hd hX hO
  obtain ⟨v, xs, rfl, hr, hk⟩ := hX
  obtain ⟨ad, cap, rfl⟩ := hr.is
  obtain ⟨_, _, hm, hkl, hok⟩ := hO
  have hm' : (m.length : Int) ≤ 9223372036854775807 := by omega
  have hkl' : (ks.length : Int) ≤ 9223372036854775807 := by omega
  have hd' : (d : Int) ≤ 16 := by omega
  have IH := hidX ih
  have R := hidX hr
  have KK := hidX hk
  have OK := hidX hok
  clear ih hr hk hok
  by_cases c1 : 15 < d
  · have c1' : (15 : Int) < d := by omega
    go_enter Tryz.func64, Tryz.ntmps64
    go_wp2
    go_ret
    exact ⟨1000, rfl, by omega, by omega, by (repeat (first | exact Below.refl _ _ | assumption | refine Below.drew ?_ | refine Below.trans ?_ (drewN_below' _ _ _) | refine Below.setCell ?_ (by first | (simp; done) | (simp; omega)) _ | refine Below.alloc ?_ (by first | (simp; done) | (simp; omega)) _))⟩
  · have c1' : ¬ (15 : Int) < d := by omega
    by_cases c2 : 8 < ks.length
    · have c2' : (8 : Int) < ks.length := by omega
      go_enter Tryz.func64, Tryz.ntmps64
      go_wp2
      go_ret
      exact ⟨1000, rfl, by omega, by omega, by (repeat (first | exact Below.refl _ _ | assumption | refine Below.drew ?_ | refine Below.trans ?_ (drewN_below' _ _ _) | refine Below.setCell ?_ (by first | (simp; done) | (simp; omega)) _ | refine Below.alloc ?_ (by first | (simp; done) | (simp; omega)) _))⟩
    · have c2' : ¬ (8 : Int) < ks.length := by omega
      by_cases c3 : 20 < m.length
      · have c3' : (20 : Int) < m.length := by omega
        go_enter Tryz.func64, Tryz.ntmps64
        go_wp2
        go_ret
        exact ⟨1000, rfl, by omega, by omega, by (repeat (first | exact Below.refl _ _ | assumption | refine Below.drew ?_ | refine Below.trans ?_ (drewN_below' _ _ _) | refine Below.setCell ?_ (by first | (simp; done) | (simp; omega)) _ | refine Below.alloc ?_ (by first | (simp; done) | (simp; omega)) _))⟩
      · have c3' : ¬ (20 : Int) < m.length := by omega
        go_enter Tryz.func64, Tryz.ntmps64
        go_wp2_with fail
        go_loopw [5, 6] (fun vn vi wr => ∃ q r : Nat, q ≤ ks.length ∧ vi = .int .i64 q ∧ vn = .int .i64 r ∧ Below w.heap.size w wr ∧ w.heap.size < wr.heap.size ∧ wr.cell? ⟨w.heap.size, 3, none⟩ = some (.slice ad ks.length cap) ∧ r ≤ 1000 * (17 - d) ∧ Hid (r < 1000 → LowEs (ks.take q) ∧ 1 + nodesEs (ks.take q) ≤ r)) (fun _ vi _ => ks.length - (intOf vi).toNat)
        case atStart => exact ⟨0, 1, Nat.zero_le _, rfl, rfl, by (repeat (first | exact Below.refl _ _ | assumption | refine Below.drew ?_ | refine Below.trans ?_ (drewN_below' _ _ _) | refine Below.setCell ?_ (by first | (simp; done) | (simp; omega)) _ | refine Below.alloc ?_ (by first | (simp; done) | (simp; omega)) _)), by simp, by simp, by omega, fun _ => ⟨trivial, Nat.le_refl _⟩⟩
        case round =>
          obtain ⟨q, r, hq, rfl, rfl, hbl, hsz, c4, hrb, HL⟩ := hrel
          by_cases hlt : q < ks.length
          · have hlt' : (q : Int) < (ks.length : Int) := by omega
            by_cases hr : r < 1000
            · have hr' : (r : Int) < 1000 := by omega
              obtain ⟨ka, e1, e2⟩ := KK.out.at hlt
              obtain ⟨ga, off, rfl, hga, g1⟩ := R.out.el 4 hlt e2
              have hx := IH.out _ (List.getElem_mem hlt)
              have hox := OK.out.mem _ (List.getElem_mem hlt)
              have htk : ks.take (q + 1) = ks.take q ++ [ks[q]] := List.take_succ_eq_append_getElem hlt
              generalize ks[q] = x at e1 hx hox htk
              have hcall : ∀ X, Below w.heap.size w X → Calls Tryz.prog 64 #[.agg ka.toArray, .int .i64 ((d : Int) + 1)] X fun e w' => ∃ r2 : Nat, e = .returned (.int .i64 r2) ∧ r2 ≤ 1000 * (17 - (d + 1)) ∧ (r2 < 1000 → LowE x ∧ nodesE x ≤ r2) ∧ Below X.heap.size X w' := fun X hX =>
                hx (d + 1) X ka (by omega) (XE.imp (inH_up hX) (keepH hX) _ _ e1) hox
              obtain ⟨xk, xn, xm, xks⟩ := x
              obtain ⟨ya, za, rfl, ra, _⟩ := e1
              obtain ⟨ad1, cap1, rfl⟩ := ra.is
              have a0 := (hbl.cell (p := ⟨ga, _, none⟩) hga).trans (g1 0 _ (by decide) rfl)
              have a1 := (hbl.cell (p := ⟨ga, _, none⟩) hga).trans (g1 1 _ (by decide) rfl)
              have a2 := (hbl.cell (p := ⟨ga, _, none⟩) hga).trans (g1 2 _ (by decide) rfl)
              have a3 := (hbl.cell (p := ⟨ga, _, none⟩) hga).trans (g1 3 _ (by decide) rfl)
              rw [Nat.add_zero] at a0
              simp only [← Nat.add_assoc] at a1 a2 a3
              have HC := hidX hcall
              have HTK := hidX htk
              clear g1 e2 ra hcall hx hox htk
              go_wp2_with fail
              refine (HC.out _ hbl).mono ?_
              rintro e w2 ⟨r2, rfl, hr2, hL2, hb2⟩
              have HL2 := hidX hL2
              have hr2' : (r2 : Int) ≤ 17000 := by omega
              have hz := hb2.size
              have c4' := (hb2.cell (p := ⟨w.heap.size, 3, none⟩) (by show w.heap.size < _; omega)).trans c4
              clear c4 hL2 a0 a1 a2 a3
              go_wp2
              go_roundw
              case rel => 
                refine ⟨q + 1, r + r2, by omega, by go_num, by go_num, bl_trans hbl hbl.size hb2, by omega, c4', by omega, fun h => ?_⟩
                obtain ⟨l1, l2⟩ := HL.out (by omega)
                obtain ⟨l3, l4⟩ := HL2.out (by omega)
                rw [HTK.out, nodesEs_snoc]
                exact ⟨l1.snoc l3, by omega⟩
              case measure => simp [intOf]; omega
            · have hr' : ¬ (r : Int) < 1000 := by omega
              go_wp2
              go_ret
              exact ⟨r, rfl, hrb, fun h => absurd h hr, hbl⟩
          · have hqn : q = ks.length := by omega
            subst hqn
            have hrB : (r : Int) ≤ 17000 := by omega
            go_wp2
            go_ret
            refine ⟨r, rfl, hrb, fun h => ?_, hbl⟩
            have := HL.out h
            rw [List.take_length] at this
            exact ⟨⟨by omega, by omega, this.1⟩, by rw [nodesE]; exact this.2⟩
mutual
theorem size_ex : ∀ e : Ex, SizeE e
  | .mk k n m ks => size_mk k n m ks (size_exs ks)
theorem size_exs : ∀ l : List Ex, ∀ e ∈ l, SizeE e
  | [], _, h => absurd h (by simp)
  | e :: r, x, h => by
    rcases List.mem_cons.1 h with h | h
    · rw [h]; exact size_ex e
    · exact size_exs r x h
end
/-- What lies at a statement of a row. -/
structure X8 (w : World) (g off i : Nat) (k m : List UInt8) (es : List Value) (t o : Value) : Prop where
  c0 : w.cell? ⟨g, off + i * 8, none⟩ = some (.string ⟨k.toArray⟩)
  c1 : w.cell? ⟨g, off + i * 8 + 1, none⟩ = some (.string ⟨m.toArray⟩)
  c2 : ∀ j u, j < 4 → es[j]? = some u → w.cell? ⟨g, off + i * 8 + (2 + j), none⟩ = some u
  c6 : w.cell? ⟨g, off + i * 8 + 6, none⟩ = some t
  c7 : w.cell? ⟨g, off + i * 8 + 7, none⟩ = some o
theorem X8.keep {w w' : World} {g off i : Nat} {k m : List UInt8} {es : List Value} {t o : Value} (h : X8 w g off i k m es t o) (hk : w'.heap[g]? = w.heap[g]?) : X8 w' g off i k m es t o := by
  have e : ∀ j, w'.cell? ⟨g, j, none⟩ = w.cell? ⟨g, j, none⟩ := fun j => World.cell?_of_block (w := w) (a := ⟨g, j, none⟩) hk
  exact ⟨(e _).trans h.c0, (e _).trans h.c1, fun j u hj hu => (e _).trans (h.c2 j u hj hu), (e _).trans h.c6, (e _).trans h.c7⟩
theorem x8_at {A : Nat → Prop} {w : World} {ad : Option Addr} {l c n i : Nat} {xs : List Value} {k m : List UInt8} {es : List Value} {t o : Value} (h : XRow A w (.slice ad l c) n xs) (hi : i < n) (he : es.length = 4) (hx : ∀ j, j < 8 → xs[i * 8 + j]? = (.string ⟨k.toArray⟩ :: .string ⟨m.toArray⟩ :: (es ++ [t, o]))[j]?) :
    ∃ g off, ad = some ⟨g, off, none⟩ ∧ A g ∧ X8 w g off i k m es t o := by
  obtain ⟨g, off, rfl, hA, h3⟩ := h.el 8 hi hx
  simp only [← Nat.add_assoc] at h3
  refine ⟨g, off, rfl, hA, h3 0 _ (by decide) rfl, h3 1 _ (by decide) rfl, fun j u hj hu => ?_, h3 6 _ (by decide) ?_, h3 7 _ (by decide) ?_⟩
  · refine h3 (2 + j) u (by omega) ?_
    rw [Nat.add_comm 2 j]
    show (es ++ [t, o])[j]? = some u
    rw [List.getElem?_append_left (by omega)]; exact hu
  · show (es ++ [t, o])[4]? = some t
    rw [List.getElem?_append_right (by omega), he]; rfl
  · show (es ++ [t, o])[5]? = some o
    rw [List.getElem?_append_right (by omega), he]; rfl
def SizeL (l : List Sm) : Prop := ∀ (d : Nat) (w : World) (v : Value), d ≤ 16 → XLS (InH w) w v l → l.length ≤ 9223372036854775807 → OkSs l →
  Calls Tryz.prog 37 #[v, .int .i64 d] w fun ev w' => ∃ r : Nat, ev = .returned (.int .i64 r) ∧ r ≤ 20000 * (2 ^ (17 - d) - 1) ∧ (r < 1000 → l.length ≤ 30 ∧ LowSs l ∧ nodesS l ≤ r) ∧ Below w.heap.size w w'
def SizeSm : Sm → Prop
  | .mk _ _ _ t o => SizeL t ∧ SizeL o
theorem pow_step (d : Nat) (h : d ≤ 15) : 20000 * (2 ^ (17 - d) - 1) = 2 * (20000 * (2 ^ (17 - (d + 1)) - 1)) + 20000 ∧ 20000 ≤ 20000 * (2 ^ (17 - (d + 1)) - 1) ∧ 20000 * (2 ^ (17 - d) - 1) ≤ 2621440000 := by
  have : ∀ d, d ≤ 15 → 20000 * (2 ^ (17 - d) - 1) = 2 * (20000 * (2 ^ (17 - (d + 1)) - 1)) + 20000 ∧ 20000 ≤ 20000 * (2 ^ (17 - (d + 1)) - 1) ∧ 20000 * (2 ^ (17 - d) - 1) ≤ 2621440000 := by decide
  exact this d h
set_option maxRecDepth 100000 in
set_option maxHeartbeats 2000000 in
theorem size_list (l : List Sm) (ih : ∀ e ∈ l, SizeSm e) : SizeL l := by
  intro d w v hd hX hl hO
  obtain ⟨xs, hr, hk⟩ := hX
  obtain ⟨ad, cap, rfl⟩ := hr.is
  have hl' : (l.length : Int) ≤ 9223372036854775807 := by omega
  have hd' : (d : Int) ≤ 16 := by omega
  have IH := hidX ih
  have R := hidX hr
  have KK := hidX hk
  have OK := hidX hO
  clear ih hr hk hO
  by_cases c1 : 15 < d
  · have c1' : (15 : Int) < d := by omega
    go_enter Tryz.func37, Tryz.ntmps37
    go_wp2
    go_ret
    refine ⟨1000, rfl, ?_, by omega, by (repeat (first | exact Below.refl _ _ | assumption | refine Below.drew ?_ | refine Below.trans ?_ (drewN_below' _ _ _) | refine Below.setCell ?_ (by first | (simp; done) | (simp; omega)) _ | refine Below.alloc ?_ (by first | (simp; done) | (simp; omega)) _))⟩
    have : d = 16 := by omega
    subst this; decide
  · have c1' : ¬ (15 : Int) < d := by omega
    obtain ⟨p1, p2, p3⟩ := pow_step d (by omega)
    rw [p1] at p3
    have P1 := hidX p1
    rw [p1]
    clear p1
    generalize hM1 : 20000 * (2 ^ (17 - (d + 1)) - 1) = M at p2 p3 P1
    have HM1 := hidX hM1
    clear hM1
    have p3' : (M : Int) ≤ 1310720000 := by omega
    by_cases c2 : 30 < l.length
    · have c2' : (30 : Int) < l.length := by omega
      go_enter Tryz.func37, Tryz.ntmps37
      go_wp2
      go_ret
      exact ⟨1000, rfl, by omega, by omega, by (repeat (first | exact Below.refl _ _ | assumption | refine Below.drew ?_ | refine Below.trans ?_ (drewN_below' _ _ _) | refine Below.setCell ?_ (by first | (simp; done) | (simp; omega)) _ | refine Below.alloc ?_ (by first | (simp; done) | (simp; omega)) _))⟩
    · have c2' : ¬ (30 : Int) < l.length := by omega
      go_enter Tryz.func37, Tryz.ntmps37
      go_wp2_with fail
      go_loopw [5, 6] (fun vn vi wr => ∃ q r : Nat, q ≤ l.length ∧ vi = .int .i64 q ∧ vn = .int .i64 r ∧ Below w.heap.size w wr ∧ r ≤ 2 * M + 20000 ∧ Hid (r < 1000 → LowSs (l.take q) ∧ nodesS (l.take q) ≤ r)) (fun _ vi _ => l.length - (intOf vi).toNat)
      case atStart => exact ⟨0, 0, Nat.zero_le _, rfl, rfl, by (repeat (first | exact Below.refl _ _ | assumption | refine Below.drew ?_ | refine Below.trans ?_ (drewN_below' _ _ _) | refine Below.setCell ?_ (by first | (simp; done) | (simp; omega)) _ | refine Below.alloc ?_ (by first | (simp; done) | (simp; omega)) _)), by omega, fun _ => ⟨trivial, Nat.le_refl _⟩⟩
      case round =>
        obtain ⟨q, r, hq, rfl, rfl, hbl, hrb, HL⟩ := hrel
        have hrI : (r : Int) ≤ 2621440000 := by omega
        by_cases hlt : q < l.length
        · have hlt' : (q : Int) < (l.length : Int) := by omega
          by_cases hr : r < 1000
          · have hr' : (r : Int) < 1000 := by omega
            obtain ⟨ka, e1, e2⟩ := KK.out.at hlt
            have hx := IH.out _ (List.getElem_mem hlt)
            have hox := OK.out.mem _ (List.getElem_mem hlt)
            have htk : l.take (q + 1) = l.take q ++ [l[q]] := List.take_succ_eq_append_getElem hlt
            generalize l[q] = x at e1 hx hox htk
            obtain ⟨xk, xm, xe, xt, xo⟩ := x
            obtain ⟨ht, ho⟩ := hx
            obtain ⟨ea, ta, tsa, oa, osa, rfl, r1, r2, r3, r4, r5⟩ := e1
            obtain ⟨o1, o2, o3, o4, o5, o6, o7⟩ := hox
            obtain ⟨ga, off, rfl, hga, g1⟩ := x8_at R.out hlt r1.len e2
            have G1 := hidX g1
            have o1' : (xk.length : Int) ≤ 9223372036854775807 := by omega
            have o2' : (xm.length : Int) ≤ 9223372036854775807 := by omega
            have hE : ∀ X, Below w.heap.size w X → Calls Tryz.prog 64 #[.agg ea.toArray, .int .i64 0] X fun e w' => ∃ v, e = .returned v ∧ ∃ r2 : Nat, v = .int .i64 r2 ∧ r2 ≤ 17000 ∧ (r2 < 1000 → LowE xe ∧ nodesE xe ≤ r2) ∧ Below w.heap.size w w' := fun X hX => by
              refine (size_ex xe 0 X ea (by omega) (XE.imp (inH_up hX) (keepH hX) _ _ r1) o3).mono ?_
              rintro e w2 ⟨r2, rfl, h1, h2, hb⟩
              exact ⟨_, rfl, r2, rfl, by omega, h2, bl_trans hX hX.size hb⟩
            have hT : ∀ X, Below w.heap.size w X → Calls Tryz.prog 37 #[ta, .int .i64 ((d : Int) + 1)] X fun e w' => ∃ v, e = .returned v ∧ ∃ r2 : Nat, v = .int .i64 r2 ∧ r2 ≤ M ∧ (r2 < 1000 → xt.length ≤ 30 ∧ LowSs xt ∧ nodesS xt ≤ r2) ∧ Below w.heap.size w w' := fun X hX => by
              refine (ht (d + 1) X ta (by omega) ⟨tsa, r2.imp (inH_up hX) (keepH hX), XSs.imp (inH_up hX) (keepH hX) _ _ r3⟩ o4 o5).mono ?_
              rintro e w2 ⟨r2, rfl, h1, h2, hb⟩
              exact ⟨_, rfl, r2, rfl, by rw [HM1.out] at h1; exact h1, h2, bl_trans hX hX.size hb⟩
            have hOO : ∀ X, Below w.heap.size w X → Calls Tryz.prog 37 #[oa, .int .i64 ((d : Int) + 1)] X fun e w' => ∃ v, e = .returned v ∧ ∃ r2 : Nat, v = .int .i64 r2 ∧ r2 ≤ M ∧ (r2 < 1000 → xo.length ≤ 30 ∧ LowSs xo ∧ nodesS xo ≤ r2) ∧ Below w.heap.size w w' := fun X hX => by
              refine (ho (d + 1) X oa (by omega) ⟨osa, r4.imp (inH_up hX) (keepH hX), XSs.imp (inH_up hX) (keepH hX) _ _ r5⟩ o6 o7).mono ?_
              rintro e w2 ⟨r2, rfl, h1, h2, hb⟩
              exact ⟨_, rfl, r2, rfl, by rw [HM1.out] at h1; exact h1, h2, bl_trans hX hX.size hb⟩
            obtain ⟨adt, ct, rfl⟩ := r2.is
            obtain ⟨ado, co, rfl⟩ := r4.is
            obtain ⟨xek, xen, xem, xes⟩ := xe
            obtain ⟨ya, za, rfl, ra, _⟩ := r1
            obtain ⟨ad1, cap1, rfl⟩ := ra.is
            have HE := hidX hE
            have HT := hidX hT
            have HO := hidX hOO
            have HTK := hidX htk
            clear hE hT hOO r2 r3 r4 r5 e2 g1 ht ho ra htk o3 o5 o7
            have k1 := G1.out.keep (hbl.block ga hga)
            have a0 := k1.c0
            have a1 := k1.c1
            have a2 := k1.c2 0 _ (by decide) rfl
            have a3 := k1.c2 1 _ (by decide) rfl
            have a4 := k1.c2 2 _ (by decide) rfl
            have a5 := k1.c2 3 _ (by decide) rfl
            have a6 := k1.c6
            have a7 := k1.c7
            simp only [Nat.add_zero, Nat.reduceAdd] at a2 a3 a4 a5
            clear k1
            by_cases d1 : 20 < xm.length
            · have d1' : (20 : Int) < xm.length := by omega
              go_wp2
              go_ret
              exact ⟨1000, rfl, by omega, by omega, hbl⟩
            · have d1' : ¬ (20 : Int) < xm.length := by omega
              by_cases d2 : 20 < xk.length
              · have d2' : (20 : Int) < xk.length := by omega
                go_wp2
                go_ret
                exact ⟨1000, rfl, by omega, by omega, hbl⟩
              · have d2' : ¬ (20 : Int) < xk.length := by omega
                have fE : ∀ args w, (callFunc 64 args).run Tryz.prog w = .ok (.enter 64 args) w := enters_of Tryz.func64 (by kernel_rfl) rfl
                have fS : ∀ args w, (callFunc 37 args).run Tryz.prog w = .ok (.enter 37 args) w := enters_of Tryz.func37 (by kernel_rfl) rfl
                have hw1 : IntKind.i64.wrap ((d : Int) + 1) = (d : Int) + 1 := IntWalk.i64_in _ (by omega)
                go_wp2_with fail
                apply reg_cut3 (R := fun x y z w' => Below w.heap.size w w' ∧ x ≤ 17000 ∧ y ≤ M ∧ z ≤ M ∧ (x < 1000 → LowE (.mk xek xen xem xes) ∧ nodesE (.mk xek xen xem xes) ≤ x) ∧ (y < 1000 → xt.length ≤ 30 ∧ LowSs xt ∧ nodesS xt ≤ y) ∧ (z < 1000 → xo.length ≤ 30 ∧ LowSs xo ∧ nodesS xo ≤ z))
                · go_region_law (first
                    | (refine step_call rfl 64 #[.tmp 46, .const (.int .i64 0)] #[112, 3] rfl #[.agg #[.string ⟨xek.toArray⟩, .int .i64 xen, .string ⟨xem.toArray⟩, .slice ad1 xes.length cap1], .int .i64 0] (by first | (simp [Act.eval]; done) | (simp [Act.eval, Act.put]; done)) fE _ (HE.out _ (by (repeat (first | exact Below.refl _ _ | assumption | refine Below.drew ?_ | refine Below.trans ?_ (drewN_below' _ _ _) | refine Below.setCell ?_ (by first | (simp; done) | (simp; omega)) _ | refine Below.alloc ?_ (by first | (simp; done) | (simp; omega)) _)))) ?_; rintro v2 w2 ⟨n1, rfl, hn1, hL1, hb2⟩; have HL1 := hidX hL1; clear hL1; have k2 := G1.out.keep (hb2.block ga hga); have b6 := k2.c6; have b7 := k2.c7; clear k2)
                    | (refine step_call rfl 37 #[.tmp 53, .tmp 55] #[52, 3] rfl #[.slice adt xt.length ct, .int .i64 ((d : Int) + 1)] (by first | (simp [Act.eval]; done) | (simp [Act.eval, Act.put]; done) | (simp [Act.eval]; exact hw1) | (simp [Act.eval, Act.put]; exact hw1)) fS _ (HT.out _ (by (repeat (first | exact Below.refl _ _ | assumption | refine Below.drew ?_ | refine Below.trans ?_ (drewN_below' _ _ _) | refine Below.setCell ?_ (by first | (simp; done) | (simp; omega)) _ | refine Below.alloc ?_ (by first | (simp; done) | (simp; omega)) _)))) ?_; rintro v3 w3 ⟨n2, rfl, hn2, hL2, hb3⟩; have HL2 := hidX hL2; clear hL2; have k3 := G1.out.keep (hb3.block ga hga); have e7 := k3.c7; clear k3)
                    | (refine step_call rfl 37 #[.tmp 62, .tmp 64] #[52, 3] rfl #[.slice ado xo.length co, .int .i64 ((d : Int) + 1)] (by first | (simp [Act.eval]; done) | (simp [Act.eval, Act.put]; done) | (simp [Act.eval]; exact hw1) | (simp [Act.eval, Act.put]; exact hw1)) fS _ (HO.out _ (by (repeat (first | exact Below.refl _ _ | assumption | refine Below.drew ?_ | refine Below.trans ?_ (drewN_below' _ _ _) | refine Below.setCell ?_ (by first | (simp; done) | (simp; omega)) _ | refine Below.alloc ?_ (by first | (simp; done) | (simp; omega)) _)))) ?_; rintro v4 w4 ⟨n3, rfl, hn3, hL3, hb4⟩; have HL3 := hidX hL3; clear hL3))
                  all_goals exact ⟨n1, n2, n3, rfl, hb4, hn1, hn2, hn3, HL1.out, HL2.out, HL3.out⟩
                · rintro n1 n2 n3 w4 ⟨hb4, hn1, hn2, hn3, hL1, hL2, hL3⟩
                  have hn1' : (n1 : Int) ≤ 17000 := by omega
                  have hn2' : (n2 : Int) ≤ 1310720000 := by omega
                  have hn3' : (n3 : Int) ≤ 1310720000 := by omega
                  have HL1 := hidX hL1
                  have HL2 := hidX hL2
                  have HL3 := hidX hL3
                  clear hL1 hL2 hL3 a0 a1 a2 a3 a4 a5 a6 a7
                  go_wp2
                  go_roundw
                  case rel =>
                    refine ⟨q + 1, r + 1 + n1 + n2 + n3, by omega, by go_num, by go_num, hb4, by omega, fun h => ?_⟩
                    obtain ⟨l1, l2⟩ := HL.out (by omega)
                    obtain ⟨l3, l4⟩ := HL1.out (by omega)
                    obtain ⟨l5, l6, l7⟩ := HL2.out (by omega)
                    obtain ⟨l8, l9, l10⟩ := HL3.out (by omega)
                    rw [HTK.out, nodesS_snoc]
                    refine ⟨l1.snoc ⟨by omega, by omega, l3, l5, l6, l8, l9⟩, ?_⟩
                    rw [nodesM]
                    omega
                  case measure => simp [intOf]; omega
          · have hr' : ¬ (r : Int) < 1000 := by omega
            go_wp2
            go_ret
            exact ⟨r, rfl, hrb, fun h => absurd h hr, hbl⟩
        · have hqn : q = l.length := by omega
          subst hqn
          go_wp2
          go_ret
          refine ⟨r, rfl, hrb, fun h => ?_, hbl⟩
          have := HL.out h
          rw [List.take_length] at this
          exact ⟨by omega, this.1, this.2⟩
mutual
theorem size_sm : ∀ e : Sm, SizeSm e
  | .mk _ _ _ t o => ⟨size_list t (size_sms t), size_list o (size_sms o)⟩
theorem size_sms : ∀ l : List Sm, ∀ e ∈ l, SizeSm e
  | [], _, h => absurd h (by simp)
  | e :: r, x, h => by
    rcases List.mem_cons.1 h with h | h
    · rw [h]; exact size_sm e
    · exact size_sms r x h
end
theorem sizes_any (l : List Sm) : SizeL l := size_list l (size_sms l)
end Go.Proofs.YtcebpmaggnephabGreatDoor
