/-
  Our own: two trees of one program held against each other.
-/
import Derived.Test.YtdleiajkihijhabGreatDoorTreeProg
import Derived.Test.YtdleiajkihijhabGreatDoorRefParse
import Derived.Test.YtdleiajkihijhabGreatDoorTreeSmall
namespace Go.Proofs.YtdleiajkihijhabGreatDoor
open Go.RowKit

theorem RepEs.at {A : Nat → Prop} {w : World} : ∀ {ks : List Ex} {xs : List Value} {i : Nat} (_ : RepEs A w ks xs) (hi : i < ks.length), ∃ cs, RepE A w ks[i] cs ∧ ∀ j, j < 4 → xs[i * 4 + j]? = cs[j]?
  | [], _, _, _, hi => absurd hi (by simp)
  | e :: r, _, 0, ⟨cs, ys, rfl, he, _⟩, _ => ⟨cs, he, fun j hj => by rw [Nat.zero_mul, Nat.zero_add, List.getElem?_append_left (by rw [he.len]; exact hj)]⟩
  | e :: r, _, i + 1, ⟨cs, ys, rfl, he, hr⟩, hi => by
    obtain ⟨c2, h1, h2⟩ := RepEs.at (i := i) hr (by simpa using hi)
    refine ⟨c2, h1, fun j hj => ?_⟩
    rw [List.getElem?_append_right (by rw [he.len]; omega), he.len, show (i + 1) * 4 + j - 4 = i * 4 + j by omega]
    exact h2 j hj
theorem RepSs.at {A : Nat → Prop} {w : World} : ∀ {ks : List Sm} {xs : List Value} {i : Nat} (_ : RepSs A w ks xs) (hi : i < ks.length), ∃ cs, RepS A w ks[i] cs ∧ ∀ j, j < 8 → xs[i * 8 + j]? = cs[j]?
  | [], _, _, _, hi => absurd hi (by simp)
  | e :: r, _, 0, ⟨cs, ys, rfl, he, _⟩, _ => ⟨cs, he, fun j hj => by rw [Nat.zero_mul, Nat.zero_add, List.getElem?_append_left (by rw [he.len]; exact hj)]⟩
  | e :: r, _, i + 1, ⟨cs, ys, rfl, he, hr⟩, hi => by
    obtain ⟨c2, h1, h2⟩ := RepSs.at (i := i) hr (by simpa using hi)
    refine ⟨c2, h1, fun j hj => ?_⟩
    rw [List.getElem?_append_right (by rw [he.len]; omega), he.len, show (i + 1) * 8 + j - 8 = i * 8 + j by omega]
    exact h2 j hj
theorem RepFs.at {A : Nat → Prop} {w : World} : ∀ {ks : List Fu} {xs : List Value} {i : Nat} (_ : RepFs A w ks xs) (hi : i < ks.length), ∃ cs, RepF A w ks[i] cs ∧ ∀ j, j < 3 → xs[i * 3 + j]? = cs[j]?
  | [], _, _, _, hi => absurd hi (by simp)
  | e :: r, _, 0, ⟨cs, ys, rfl, he, _⟩, _ => ⟨cs, he, fun j hj => by rw [Nat.zero_mul, Nat.zero_add, List.getElem?_append_left (by rw [he.len]; exact hj)]⟩
  | e :: r, _, i + 1, ⟨cs, ys, rfl, he, hr⟩, hi => by
    obtain ⟨c2, h1, h2⟩ := RepFs.at (i := i) hr (by simpa using hi)
    refine ⟨c2, h1, fun j hj => ?_⟩
    rw [List.getElem?_append_right (by rw [he.len]; omega), he.len, show (i + 1) * 3 + j - 3 = i * 3 + j by omega]
    exact h2 j hj
/-- The blocks of a world. -/
abbrev InW (w : World) (b : Nat) : Prop := b < w.heap.size
theorem inW_up {w w' : World} (h : Below w.heap.size w w') : ∀ b, InW w b → InW w' b := fun _ hb => Nat.lt_of_lt_of_le hb h.size
theorem keepW {w w' : World} (h : Below w.heap.size w w') : KeepA (InW w) w w' := fun b hb => h.block b hb
def SameE (e : Ex) : Prop := ∀ (w : World) (ca cb : List Value), RepE (InW w) w e ca → RepE (InW w) w e cb →
  Calls Tryz.prog 40 #[.agg ca.toArray, .agg cb.toArray] w fun e w' => e = .returned (.bool true) ∧ Below w.heap.size w w'
theorem row_four {A : Nat → Prop} {w : World} {ad : Option Addr} {l c n i : Nat} {xs : List Value} {cs : List Value} (h : Row A w (.slice ad l c) n xs) (hi : i < n) (hx : ∀ j, j < 4 → xs[i * 4 + j]? = cs[j]?) : ∃ g, ad = some ⟨g, 0, none⟩ ∧ ∀ j u, j < 4 → cs[j]? = some u → w.cell? ⟨g, i * 4 + j, none⟩ = some u := by
  obtain ⟨g, h1, _, h3⟩ := h.get (by omega)
  exact ⟨g, h1, fun j u hj hu => h3 _ _ ((hx j hj).trans hu)⟩
set_option maxRecDepth 100000 in
theorem same_mk (k : List UInt8) (n : Int) (m : List UInt8) (ks : List Ex) (hl : ks.length ≤ 5000) (ih : ∀ e ∈ ks, SameE e) : SameE (.mk k n m ks) := by
  intro w ca cb ha hb
  obtain ⟨va, xa, rfl, hra, hka⟩ := ha
  obtain ⟨vb, xb, rfl, hrb, hkb⟩ := hb
  obtain ⟨ada, capa, rfl⟩ := hra.is
  obtain ⟨adb, capb, rfl⟩ := hrb.is
  have hl' : (ks.length : Int) ≤ 5000 := by omega
  have IH := hidR ih
  have RA := hidR hra
  have RB := hidR hrb
  have KA := hidR hka
  have KB := hidR hkb
  clear ih hra hrb hka hkb
  have b0 : Below w.heap.size w ((w.alloc (.cells #[.string ⟨k.toArray⟩, .int .i64 n, .string ⟨m.toArray⟩, .slice ada ks.length capa] 49)).alloc (.cells #[.string ⟨k.toArray⟩, .int .i64 n, .string ⟨m.toArray⟩, .slice adb ks.length capb] 89)) := by (repeat (first | exact Below.refl _ _ | assumption | refine Below.drew ?_ | refine Below.trans ?_ (drewN_below' _ _ _) | refine Below.setCell ?_ (by first | (simp; done) | (simp; omega)) _ | refine Below.alloc ?_ (by first | (simp; done) | (simp; omega)) _))
  go_enter Tryz.func40, Tryz.ntmps40
  go_wp2_with fail
  go_loopw [5] (fun i wr => ∃ q : Nat, q ≤ ks.length ∧ i = .int .i64 q ∧ Below w.heap.size w wr ∧ w.heap.size + 1 < wr.heap.size ∧ wr.cell? ⟨w.heap.size, 3, none⟩ = some (.slice ada ks.length capa) ∧ wr.cell? ⟨w.heap.size + 1, 3, none⟩ = some (.slice adb ks.length capb)) (fun i _ => ks.length - (intOf i).toNat)
  case atStart => exact ⟨0, Nat.zero_le _, rfl, by (repeat (first | exact Below.refl _ _ | assumption | refine Below.drew ?_ | refine Below.trans ?_ (drewN_below' _ _ _) | refine Below.setCell ?_ (by first | (simp; done) | (simp; omega)) _ | refine Below.alloc ?_ (by first | (simp; done) | (simp; omega)) _)), by simp, by simp, by simp⟩
  case round =>
    obtain ⟨q, hq, rfl, hbl, hsz, c1, c2⟩ := hrel
    by_cases hlt : q < ks.length
    · have hlt' : (q : Int) < (ks.length : Int) := by omega
      obtain ⟨ka, e1, e2⟩ := KA.out.at hlt
      obtain ⟨kb, f1, f2⟩ := KB.out.at hlt
      obtain ⟨ga, rfl, g1⟩ := row_four (RA.out.imp (inW_up hbl) (keepW hbl)) hlt e2
      obtain ⟨gb, rfl, g2⟩ := row_four (RB.out.imp (inW_up hbl) (keepW hbl)) hlt f2
      have hcall : ∀ X, Below wr.heap.size wr X → Calls Tryz.prog 40 #[.agg ka.toArray, .agg kb.toArray] X fun e w' => ∃ v, e = .returned v ∧ v = .bool true ∧ ∃ q' : Nat, q + 1 = q' ∧ q' ≤ ks.length ∧ Below w.heap.size w w' ∧ w.heap.size + 1 < w'.heap.size ∧ w'.cell? ⟨w.heap.size, 3, none⟩ = some (.slice (some ⟨ga, 0, none⟩) ks.length capa) ∧ w'.cell? ⟨w.heap.size + 1, 3, none⟩ = some (.slice (some ⟨gb, 0, none⟩) ks.length capb) := fun X hX => by
        have hbX := bl_trans hbl hbl.size hX
        refine (IH.out _ (List.getElem_mem hlt) X ka kb (RepE.imp (inW_up hbX) (keepW hbX) _ _ e1) (RepE.imp (inW_up hbX) (keepW hbX) _ _ f1)).mono ?_
        rintro e w2 ⟨rfl, hb2⟩
        have hb3 := bl_trans hX hX.size hb2
        have := hb3.size
        exact ⟨_, rfl, rfl, _, rfl, hlt, bl_trans hbl hbl.size hb3, by omega, (hb3.cell (p := ⟨w.heap.size, 3, none⟩) (by show w.heap.size < _; omega)).trans c1, (hb3.cell (p := ⟨w.heap.size + 1, 3, none⟩) (by show w.heap.size + 1 < _; omega)).trans c2⟩
      generalize ks[q] = x at e1 f1
      obtain ⟨xk, xn, xm, xks⟩ := x
      obtain ⟨ya, za, rfl, ra, _⟩ := e1
      obtain ⟨yb, zb, rfl, rb, _⟩ := f1
      obtain ⟨ad1, cap1, rfl⟩ := ra.is
      obtain ⟨ad2, cap2, rfl⟩ := rb.is
      have a0 := g1 0 _ (by decide) rfl
      have a1 := g1 1 _ (by decide) rfl
      have a2 := g1 2 _ (by decide) rfl
      have a3 := g1 3 _ (by decide) rfl
      have b0 := g2 0 _ (by decide) rfl
      have b1 := g2 1 _ (by decide) rfl
      have b2 := g2 2 _ (by decide) rfl
      have b3 := g2 3 _ (by decide) rfl
      rw [Nat.add_zero] at a0 b0
      have HC := hidR hcall
      have hf : ∀ args w, (callFunc 40 args).run Tryz.prog w = .ok (.enter 40 args) w := enters_of Tryz.func40 (by kernel_rfl) rfl
      clear g1 g2 e2 f2 ra rb hcall
      go_wp2
      go_region_law (refine step_call rfl 40 #[.tmp 46, .tmp 51] #[49, 89] rfl #[.agg #[.string ⟨xk.toArray⟩, .int .i64 xn, .string ⟨xm.toArray⟩, .slice ad1 xks.length cap1], .agg #[.string ⟨xk.toArray⟩, .int .i64 xn, .string ⟨xm.toArray⟩, .slice ad2 xks.length cap2]] (by first | (simp [Act.eval]; done) | (simp [Act.eval, Act.put]; done)) hf _ (HC.out _ (by (repeat (first | exact Below.refl _ _ | assumption | refine Below.drew ?_ | refine Below.trans ?_ (drewN_below' _ _ _) | refine Below.setCell ?_ (by first | (simp; done) | (simp; omega)) _ | refine Below.alloc ?_ (by first | (simp; done) | (simp; omega)) _)))) ?_; rintro v2 w2 ⟨rfl, q', hq', hr2⟩; have HR := hidR hr2; clear hr2)
      all_goals
        go_wp2
        go_roundw
        case rel => exact ⟨q', HR.out.1, by rw [← hq']; go_num, HR.out.2⟩
        case measure => have := HR.out.1; simp [intOf]; omega
    · have hqn : q = ks.length := by omega
      subst hqn
      go_wp2
      go_ret
      exact ⟨rfl, hbl⟩
mutual
theorem same_ex : ∀ e : Ex, SmE e → SameE e
  | .mk k n m ks, h => same_mk k n m ks h.1 (same_exs ks h.2)
theorem same_exs : ∀ l : List Ex, SmEs l → ∀ e ∈ l, SameE e
  | [], _, _, h => absurd h (by simp)
  | e :: r, hs, x, h => by
    rcases List.mem_cons.1 h with h | h
    · rw [h]; exact same_ex e hs.1
    · exact same_exs r hs.2 x h
end


/-- A region whose orders all end in one frame. -/
theorem reg_cut {P : Program} {c : Code} {Q : Exit → Act → World → Prop} {a : Act} {w : World} (F : Act) (R : World → Prop) (h : c.wp P (Exit.then (fun a' w' => a' = F ∧ R w') (fun _ _ _ => False)) a w) (k : ∀ w', R w' → Q .normal F w') : c.wp P Q a w :=
  Code.wp_mono (fun e a w g => by
    cases e with
    | normal => obtain ⟨rfl, g⟩ := g; exact k _ g
    | _ => exact g.elim) h
def SameS (l : List Sm) : Prop := ∀ (w : World) (va vb : Value) (xa xb : List Value), Row (InW w) w va l.length xa → RepSs (InW w) w l xa → Row (InW w) w vb l.length xb → RepSs (InW w) w l xb →
  Calls Tryz.prog 24 #[va, vb] w fun e w' => e = .returned (.bool true) ∧ Below w.heap.size w w'
def SameSm : Sm → Prop
  | .mk _ _ e t o => SameE e ∧ SameS t ∧ SameS o
theorem row_eight {A : Nat → Prop} {w : World} {ad : Option Addr} {l c n i : Nat} {xs : List Value} {cs : List Value} (h : Row A w (.slice ad l c) n xs) (hi : i < n) (hx : ∀ j, j < 8 → xs[i * 8 + j]? = cs[j]?) : ∃ g, ad = some ⟨g, 0, none⟩ ∧ g < g + 1 ∧ ∀ j u, j < 8 → cs[j]? = some u → w.cell? ⟨g, i * 8 + j, none⟩ = some u := by
  obtain ⟨g, h1, _, h3⟩ := h.get (by omega)
  exact ⟨g, h1, by omega, fun j u hj hu => h3 _ _ ((hx j hj).trans hu)⟩
/-- What lies at a statement, in both trees. -/
structure At8 (w : World) (g q : Nat) (k m : List UInt8) (es : List Value) (t o : Value) : Prop where
  c0 : w.cell? ⟨g, q * 8, none⟩ = some (.string ⟨k.toArray⟩)
  c1 : w.cell? ⟨g, q * 8 + 1, none⟩ = some (.string ⟨m.toArray⟩)
  c2 : ∀ j u, j < 4 → es[j]? = some u → w.cell? ⟨g, q * 8 + (2 + j), none⟩ = some u
  c6 : w.cell? ⟨g, q * 8 + 6, none⟩ = some t
  c7 : w.cell? ⟨g, q * 8 + 7, none⟩ = some o
  lt : g < w.heap.size
theorem At8.keep {w w' : World} {g q : Nat} {k m : List UInt8} {es : List Value} {t o : Value} (h : At8 w g q k m es t o) (hb : Below w.heap.size w w') : At8 w' g q k m es t o :=
  ⟨by rw [hb.cell h.lt]; exact h.c0, by rw [hb.cell h.lt]; exact h.c1, fun j u hj hu => by rw [hb.cell h.lt]; exact h.c2 j u hj hu, by rw [hb.cell h.lt]; exact h.c6, by rw [hb.cell h.lt]; exact h.c7, Nat.lt_of_lt_of_le h.lt hb.size⟩
theorem at8 {w : World} {ad : Option Addr} {l c n i : Nat} {xs : List Value} {k m : List UInt8} {es : List Value} {t o : Value} (h : Row (InW w) w (.slice ad l c) n xs) (hi : i < n) (he : es.length = 4) (hx : ∀ j, j < 8 → xs[i * 8 + j]? = (.string ⟨k.toArray⟩ :: .string ⟨m.toArray⟩ :: (es ++ [t, o]))[j]?) : ∃ g, ad = some ⟨g, 0, none⟩ ∧ At8 w g i k m es t o := by
  obtain ⟨g, rfl, _, h3⟩ := row_eight h hi hx
  have h0 := h3 0 _ (by decide) rfl
  refine ⟨g, rfl, h0, h3 1 _ (by decide) rfl, fun j u hj hu => h3 (2 + j) u (by omega) ?_, h3 6 _ (by decide) ?_, h3 7 _ (by decide) ?_, cell_lt h0⟩
  · rw [Nat.add_comm 2 j]
    show (es ++ [t, o])[j]? = some u
    rw [List.getElem?_append_left (by omega)]; exact hu
  · show (es ++ [t, o])[4]? = some t
    rw [List.getElem?_append_right (by omega), he]; rfl
  · show (es ++ [t, o])[5]? = some o
    rw [List.getElem?_append_right (by omega), he]; rfl
set_option maxRecDepth 100000 in
set_option maxHeartbeats 4000000 in
theorem same_list (l : List Sm) (hl : l.length ≤ 5000) (ih : ∀ s ∈ l, SameSm s) : SameS l := by
  intro w va vb xa xb hra hka hrb hkb
  obtain ⟨ada, capa, rfl⟩ := hra.is
  obtain ⟨adb, capb, rfl⟩ := hrb.is
  have hl' : (l.length : Int) ≤ 5000 := by omega
  have IH := hidR ih
  have RA := hidR hra
  have RB := hidR hrb
  have KA := hidR hka
  have KB := hidR hkb
  clear ih hra hrb hka hkb
  go_enter Tryz.func24, Tryz.ntmps24
  go_wp2_with fail
  go_loopw [5] (fun i wr => ∃ q : Nat, q ≤ l.length ∧ i = .int .i64 q ∧ Below w.heap.size w wr) (fun i _ => l.length - (intOf i).toNat)
  case atStart => exact ⟨0, Nat.zero_le _, rfl, by (repeat (first | exact Below.refl _ _ | assumption | refine Below.drew ?_ | refine Below.trans ?_ (drewN_below' _ _ _) | refine Below.setCell ?_ (by first | (simp; done) | (simp; omega)) _ | refine Below.alloc ?_ (by first | (simp; done) | (simp; omega)) _))⟩
  case round =>
    obtain ⟨q, hq, rfl, hbl⟩ := hrel
    by_cases hlt : q < l.length
    · have hlt' : (q : Int) < (l.length : Int) := by omega
      obtain ⟨ka, e1, e2⟩ := KA.out.at hlt
      obtain ⟨kb, f1, f2⟩ := KB.out.at hlt
      have hs := IH.out _ (List.getElem_mem hlt)
      generalize l[q] = x at e1 f1 hs
      obtain ⟨xk, xm, xe, xt, xo⟩ := x
      obtain ⟨hse, hst, hso⟩ := hs
      obtain ⟨ea, ta, tsa, oa, osa, rfl, r1, r2, r3, r4, r5⟩ := e1
      obtain ⟨eb, tb, tsb, ob, osb, rfl, s1, s2, s3, s4, s5⟩ := f1
      obtain ⟨ga, rfl, g1⟩ := at8 RA.out hlt r1.len e2
      obtain ⟨gb, rfl, g2⟩ := at8 RB.out hlt s1.len f2
      have G1 := hidR g1
      have G2 := hidR g2
      have hE : ∀ X, Below w.heap.size w X → Calls Tryz.prog 40 #[.agg ea.toArray, .agg eb.toArray] X fun e w' => ∃ v, e = .returned v ∧ v = .bool true ∧ Below w.heap.size w w' := fun X hX => by
        refine (hse X ea eb (RepE.imp (inW_up hX) (keepW hX) _ _ r1) (RepE.imp (inW_up hX) (keepW hX) _ _ s1)).mono ?_
        rintro e w2 ⟨rfl, hb2⟩
        exact ⟨_, rfl, rfl, bl_trans hX hX.size hb2⟩
      have hT : ∀ X, Below w.heap.size w X → Calls Tryz.prog 24 #[ta, tb] X fun e w' => ∃ v, e = .returned v ∧ v = .bool true ∧ Below w.heap.size w w' := fun X hX => by
        refine (hst X ta tb _ _ (r2.imp (inW_up hX) (keepW hX)) (RepSs.imp (inW_up hX) (keepW hX) _ _ r3) (s2.imp (inW_up hX) (keepW hX)) (RepSs.imp (inW_up hX) (keepW hX) _ _ s3)).mono ?_
        rintro e w2 ⟨rfl, hb2⟩
        exact ⟨_, rfl, rfl, bl_trans hX hX.size hb2⟩
      have hO : ∀ X, Below w.heap.size w X → Calls Tryz.prog 24 #[oa, ob] X fun e w' => ∃ v, e = .returned v ∧ v = .bool true ∧ Below w.heap.size w w' := fun X hX => by
        refine (hso X oa ob _ _ (r4.imp (inW_up hX) (keepW hX)) (RepSs.imp (inW_up hX) (keepW hX) _ _ r5) (s4.imp (inW_up hX) (keepW hX)) (RepSs.imp (inW_up hX) (keepW hX) _ _ s5)).mono ?_
        rintro e w2 ⟨rfl, hb2⟩
        exact ⟨_, rfl, rfl, bl_trans hX hX.size hb2⟩
      obtain ⟨adt1, ct1, rfl⟩ := r2.is
      obtain ⟨adt2, ct2, rfl⟩ := s2.is
      obtain ⟨ado1, co1, rfl⟩ := r4.is
      obtain ⟨ado2, co2, rfl⟩ := s4.is
      obtain ⟨xek, xen, xem, xes⟩ := xe
      obtain ⟨ya, za, rfl, ra, _⟩ := r1
      obtain ⟨yb, zb, rfl, rb, _⟩ := s1
      obtain ⟨ad1, cap1, rfl⟩ := ra.is
      obtain ⟨ad2, cap2, rfl⟩ := rb.is
      have HE := hidR hE
      have HT := hidR hT
      have HO := hidR hO
      have fE : ∀ args w, (callFunc 40 args).run Tryz.prog w = .ok (.enter 40 args) w := enters_of Tryz.func40 (by kernel_rfl) rfl
      have fS : ∀ args w, (callFunc 24 args).run Tryz.prog w = .ok (.enter 24 args) w := enters_of Tryz.func24 (by kernel_rfl) rfl
      clear hE hT hO r2 r3 r4 r5 s2 s3 s4 s5 e2 f2 g1 g2 hse hst hso ra rb
      have k1 := G1.out.keep hbl
      have k2 := G2.out.keep hbl
      have a0 := k1.c0
      have a1 := k1.c1
      have b0 := k2.c0
      have b1 := k2.c1
      have a2 := k1.c2 0 _ (by decide) rfl
      have a3 := k1.c2 1 _ (by decide) rfl
      have a4 := k1.c2 2 _ (by decide) rfl
      have a5 := k1.c2 3 _ (by decide) rfl
      have b2 := k2.c2 0 _ (by decide) rfl
      have b3 := k2.c2 1 _ (by decide) rfl
      have b4 := k2.c2 2 _ (by decide) rfl
      have b5 := k2.c2 3 _ (by decide) rfl
      simp only [Nat.reduceAdd] at a2 a3 a4 a5 b2 b3 b4 b5
      clear k1 k2
      go_wp2
      go_quiet (fail)
      go_wp2
      apply reg_cut (R := fun w' => Below w.heap.size w w')
      · go_region_law (refine step_call rfl 40 #[.tmp 48, .tmp 53] #[49, 89] rfl #[.agg #[.string ⟨xek.toArray⟩, .int .i64 xen, .string ⟨xem.toArray⟩, .slice ad1 xes.length cap1], .agg #[.string ⟨xek.toArray⟩, .int .i64 xen, .string ⟨xem.toArray⟩, .slice ad2 xes.length cap2]] (by first | (simp [Act.eval]; done) | (simp [Act.eval, Act.put]; done)) fE _ (HE.out _ (by (repeat (first | exact Below.refl _ _ | assumption | refine Below.drew ?_ | refine Below.trans ?_ (drewN_below' _ _ _) | refine Below.setCell ?_ (by first | (simp; done) | (simp; omega)) _ | refine Below.alloc ?_ (by first | (simp; done) | (simp; omega)) _)))) ?_; rintro v2 w2 ⟨rfl, hb2⟩)
        all_goals exact ⟨rfl, hb2⟩
      · intro w2 hb2
        have k1 := G1.out.keep hb2
        have k2 := G2.out.keep hb2
        have a6 := k1.c6
        have b6 := k2.c6
        clear k1 k2 a0 a1 a2 a3 a4 a5 b0 b1 b2 b3 b4 b5
        go_wp2
        apply reg_cut (R := fun w' => Below w.heap.size w w')
        · go_region_law (refine step_call rfl 24 #[.tmp 59, .tmp 64] #[44, 68] rfl #[.slice adt1 xt.length ct1, .slice adt2 xt.length ct2] (by first | (simp [Act.eval]; done) | (simp [Act.eval, Act.put]; done)) fS _ (HT.out _ (by (repeat (first | exact Below.refl _ _ | assumption | refine Below.drew ?_ | refine Below.trans ?_ (drewN_below' _ _ _) | refine Below.setCell ?_ (by first | (simp; done) | (simp; omega)) _ | refine Below.alloc ?_ (by first | (simp; done) | (simp; omega)) _)))) ?_; rintro v2 w3 ⟨rfl, hb3⟩)
          all_goals exact ⟨rfl, hb3⟩
        · intro w3 hb3
          have k1 := G1.out.keep hb3
          have k2 := G2.out.keep hb3
          have a7 := k1.c7
          have b7 := k2.c7
          clear k1 k2 a6 b6
          go_wp2
          apply reg_cut (R := fun w' => Below w.heap.size w w')
          · go_region_law (refine step_call rfl 24 #[.tmp 70, .tmp 75] #[44, 68] rfl #[.slice ado1 xo.length co1, .slice ado2 xo.length co2] (by first | (simp [Act.eval]; done) | (simp [Act.eval, Act.put]; done)) fS _ (HO.out _ (by (repeat (first | exact Below.refl _ _ | assumption | refine Below.drew ?_ | refine Below.trans ?_ (drewN_below' _ _ _) | refine Below.setCell ?_ (by first | (simp; done) | (simp; omega)) _ | refine Below.alloc ?_ (by first | (simp; done) | (simp; omega)) _)))) ?_; rintro v2 w4 ⟨rfl, hb4⟩)
            all_goals exact ⟨rfl, hb4⟩
          · intro w4 hb4
            clear a7 b7
            go_wp2
            go_roundw
            case rel => exact ⟨q + 1, by omega, by go_num, hb4⟩
            case measure => simp [intOf]; omega
    · have hqn : q = l.length := by omega
      subst hqn
      go_wp2
      go_ret
      exact ⟨rfl, hbl⟩
mutual
theorem same_sm : ∀ s : Sm, SmS s → SameSm s
  | .mk _ _ e t o, h => ⟨same_ex e h.1, same_list t h.2.1 (same_sms t h.2.2.1), same_list o h.2.2.2.1 (same_sms o h.2.2.2.2)⟩
theorem same_sms : ∀ l : List Sm, SmSs l → ∀ e ∈ l, SameSm e
  | [], _, _, h => absurd h (by simp)
  | e :: r, hs, x, h => by
    rcases List.mem_cons.1 h with h | h
    · rw [h]; exact same_sm e hs.1
    · exact same_sms r hs.2 x h
end
theorem same_body (l : List Sm) (h : SmL l) : SameS l := same_list l h.1 (same_sms l h.2)


theorem texts_at {l : List (List UInt8)} {i : Nat} (hi : i < l.length) : (textsC l)[i]? = some (.string ⟨l[i].toArray⟩) := by
  simp [textsC, hi]
set_option maxRecDepth 100000 in
theorem sameTexts_any (l : List (List UInt8)) (hl : l.length ≤ 5000) (w : World) (va vb : Value) (ha : Row (InW w) w va l.length (textsC l)) (hb : Row (InW w) w vb l.length (textsC l)) :
    Calls Tryz.prog 25 #[va, vb] w fun e w' => e = .returned (.bool true) ∧ ∃ m, w' = w.drewN m := by
  obtain ⟨ada, capa, rfl⟩ := ha.is
  obtain ⟨adb, capb, rfl⟩ := hb.is
  have hl' : (l.length : Int) ≤ 5000 := by omega
  have RA := hidR ha
  have RB := hidR hb
  clear ha hb
  go_enter Tryz.func25, Tryz.ntmps25
  go_wp2_with fail
  go_loopw [5] (fun i wr => ∃ q m : Nat, q ≤ l.length ∧ i = .int .i64 q ∧ wr = w.drewN m) (fun i _ => l.length - (intOf i).toNat)
  case atStart => exact ⟨0, 0, Nat.zero_le _, rfl, rfl⟩
  case round =>
    obtain ⟨q, m, hq, rfl, rfl⟩ := hrel
    by_cases hlt : q < l.length
    · have hlt' : (q : Int) < (l.length : Int) := by omega
      obtain ⟨ga, rfl, _, g1⟩ := RA.out.get (by omega)
      obtain ⟨gb, rfl, _, g2⟩ := RB.out.get (by omega)
      have a0 := g1 q _ (texts_at hlt)
      have b0 := g2 q _ (texts_at hlt)
      have a0' : (w.drewN m).cell? ⟨ga, q, none⟩ = some (.string ⟨l[q].toArray⟩) := a0
      have b0' : (w.drewN m).cell? ⟨gb, q, none⟩ = some (.string ⟨l[q].toArray⟩) := b0
      clear g1 g2 a0 b0
      generalize hW : w.drewN m = W at a0' b0'
      go_wp2
      go_quiet (fail)
      go_wp2
      go_roundw
      case rel => exact ⟨q + 1, m + nq, by omega, by go_num, by rw [← hW, World.drewN_drewN]⟩
      case measure => simp [intOf]; omega
    · have hqn : q = l.length := by omega
      subst hqn
      go_wp2
      go_ret
      exact ⟨rfl, m, rfl⟩
/-- What lies at a function. -/
theorem at3 {w : World} {ad : Option Addr} {l c n i : Nat} {xs : List Value} {cs : List Value} (h : Row (InW w) w (.slice ad l c) n xs) (hi : i < n) (hx : ∀ j, j < 3 → xs[i * 3 + j]? = cs[j]?) : ∃ g, ad = some ⟨g, 0, none⟩ ∧ ∀ j u, j < 3 → cs[j]? = some u → w.cell? ⟨g, i * 3 + j, none⟩ = some u := by
  obtain ⟨g, h1, _, h3⟩ := h.get (by omega)
  exact ⟨g, h1, fun j u hj hu => h3 _ _ ((hx j hj).trans hu)⟩
set_option maxRecDepth 100000 in
set_option maxHeartbeats 4000000 in
theorem alike_any (l : List Fu) (hl : l.length ≤ 5000) (hs : ∀ f ∈ l, SmF f) (w : World) (va vb : Value) (xa xb : List Value) (hra : Row (InW w) w va l.length xa) (hka : RepFs (InW w) w l xa) (hrb : Row (InW w) w vb l.length xb) (hkb : RepFs (InW w) w l xb) :
    Calls Tryz.prog 10 #[va, vb] w fun e w' => e = .returned (.int .i64 1) ∧ Below w.heap.size w w' := by
  obtain ⟨ada, capa, rfl⟩ := hra.is
  obtain ⟨adb, capb, rfl⟩ := hrb.is
  have hl' : (l.length : Int) ≤ 5000 := by omega
  have IH := hidR hs
  have RA := hidR hra
  have RB := hidR hrb
  have KA := hidR hka
  have KB := hidR hkb
  clear hs hra hrb hka hkb
  go_enter Tryz.func10, Tryz.ntmps10
  go_wp2_with fail
  go_loopw [5] (fun i wr => ∃ q : Nat, q ≤ l.length ∧ i = .int .i64 q ∧ Below w.heap.size w wr) (fun i _ => l.length - (intOf i).toNat)
  case atStart => exact ⟨0, Nat.zero_le _, rfl, by (repeat (first | exact Below.refl _ _ | assumption | refine Below.drew ?_ | refine Below.trans ?_ (drewN_below' _ _ _) | refine Below.setCell ?_ (by first | (simp; done) | (simp; omega)) _ | refine Below.alloc ?_ (by first | (simp; done) | (simp; omega)) _))⟩
  case round =>
    obtain ⟨q, hq, rfl, hbl⟩ := hrel
    by_cases hlt : q < l.length
    · have hlt' : (q : Int) < (l.length : Int) := by omega
      obtain ⟨ka, e1, e2⟩ := KA.out.at hlt
      obtain ⟨kb, f1, f2⟩ := KB.out.at hlt
      have hs := IH.out _ (List.getElem_mem hlt)
      generalize l[q] = x at e1 f1 hs
      obtain ⟨hsp, hsb⟩ := hs
      obtain ⟨pa, ba, bsa, rfl, r2, r3, r4⟩ := e1
      obtain ⟨pb, bb, bsb, rfl, s2, s3, s4⟩ := f1
      obtain ⟨ga, rfl, g1⟩ := at3 RA.out hlt e2
      obtain ⟨gb, rfl, g2⟩ := at3 RB.out hlt f2
      have hga : ga < w.heap.size := cell_lt (g1 0 _ (by decide) rfl)
      have hgb : gb < w.heap.size := cell_lt (g2 0 _ (by decide) rfl)
      have hT : ∀ X, Below w.heap.size w X → Calls Tryz.prog 25 #[pa, pb] X fun e w' => e = .returned (.bool true) ∧ ∃ m, w' = X.drewN m := fun X hX => sameTexts_any _ hsp X pa pb (r2.imp (inW_up hX) (keepW hX)) (s2.imp (inW_up hX) (keepW hX))
      have hO : ∀ X, Below w.heap.size w X → Calls Tryz.prog 24 #[ba, bb] X fun e w' => ∃ v, e = .returned v ∧ v = .bool true ∧ Below w.heap.size w w' := fun X hX => by
        refine (same_body _ hsb X ba bb _ _ (r3.imp (inW_up hX) (keepW hX)) (RepSs.imp (inW_up hX) (keepW hX) _ _ r4) (s3.imp (inW_up hX) (keepW hX)) (RepSs.imp (inW_up hX) (keepW hX) _ _ s4)).mono ?_
        rintro e w2 ⟨rfl, hb2⟩
        exact ⟨_, rfl, rfl, bl_trans hX hX.size hb2⟩
      obtain ⟨adt1, ct1, rfl⟩ := r2.is
      obtain ⟨adt2, ct2, rfl⟩ := s2.is
      obtain ⟨ado1, co1, rfl⟩ := r3.is
      obtain ⟨ado2, co2, rfl⟩ := s3.is
      have G1 := hidR g1
      have G2 := hidR g2
      have HT := hidR hT
      have HO := hidR hO
      have fS : ∀ args w, (callFunc 24 args).run Tryz.prog w = .ok (.enter 24 args) w := enters_of Tryz.func24 (by kernel_rfl) rfl
      clear hT hO r2 r3 r4 s2 s3 s4 e2 f2 g1 g2 hsp hsb
      have a2 := (hbl.cell (p := ⟨ga, q * 3 + 2, none⟩) hga).trans (G1.out 2 _ (by decide) rfl)
      have b2 := (hbl.cell (p := ⟨gb, q * 3 + 2, none⟩) hgb).trans (G2.out 2 _ (by decide) rfl)
      go_wp2
      apply reg_cut (R := fun w' => Below w.heap.size w w')
      · go_region_law (refine step_call rfl 24 #[.tmp 22, .tmp 27] #[44, 68] rfl #[.slice ado1 x.body.length co1, .slice ado2 x.body.length co2] (by first | (simp [Act.eval]; done) | (simp [Act.eval, Act.put]; done)) fS _ (HO.out _ (by (repeat (first | exact Below.refl _ _ | assumption | refine Below.drew ?_ | refine Below.trans ?_ (drewN_below' _ _ _) | refine Below.setCell ?_ (by first | (simp; done) | (simp; omega)) _ | refine Below.alloc ?_ (by first | (simp; done) | (simp; omega)) _)))) ?_; rintro v2 w4 ⟨rfl, hb4⟩)
        all_goals exact ⟨rfl, hb4⟩
      · intro w2 hb2
        clear a2 b2
        have a0 := (hb2.cell (p := ⟨ga, q * 3 + 0, none⟩) hga).trans (G1.out 0 _ (by decide) rfl)
        have b0 := (hb2.cell (p := ⟨gb, q * 3 + 0, none⟩) hgb).trans (G2.out 0 _ (by decide) rfl)
        have a1 := (hb2.cell (p := ⟨ga, q * 3 + 1, none⟩) hga).trans (G1.out 1 _ (by decide) rfl)
        have b1 := (hb2.cell (p := ⟨gb, q * 3 + 1, none⟩) hgb).trans (G2.out 1 _ (by decide) rfl)
        rw [Nat.add_zero] at a0 b0
        go_wp2
        go_quiet ((go_at_call 25; exact Calls.quiet_of (HT.out _ (by (repeat (first | exact Below.refl _ _ | assumption | refine Below.drew ?_ | refine Below.trans ?_ (drewN_below' _ _ _) | refine Below.setCell ?_ (by first | (simp; done) | (simp; omega)) _ | refine Below.alloc ?_ (by first | (simp; done) | (simp; omega)) _))))))
        clear a0 a1 b0 b1
        go_wp2
        go_roundw
        case rel => exact ⟨q + 1, by omega, by go_num, by (repeat (first | exact Below.refl _ _ | assumption | refine Below.drew ?_ | refine Below.trans ?_ (drewN_below' _ _ _) | refine Below.setCell ?_ (by first | (simp; done) | (simp; omega)) _ | refine Below.alloc ?_ (by first | (simp; done) | (simp; omega)) _))⟩
        case measure => simp [intOf]; omega
    · have hqn : q = l.length := by omega
      subst hqn
      go_wp2
      go_ret
      exact ⟨rfl, hbl⟩
end Go.Proofs.YtdleiajkihijhabGreatDoor
