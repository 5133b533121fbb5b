/-
  Our own: package tree's parser: a variable or a call.
-/
import Derived.Test.YtcebpmaggnephabDoorTreeCom
namespace Go.Proofs.YtcebpmaggnephabDoor
open Go.RowKit

/-- The closure of a call. -/
theorem call_any {T : List Tok} {a : Nat → Addr} {p n d i : Nat} {w : World} (hE : ∀ m, m < n → EOk T a p m) (h : PAt T a p d (.ok () i) w) (hout : argsT T n d i ≠ .out) (xb eb : Nat) (nm : ByteArray)
    (hxb : w.heap[xb]? = some (.cells #[ptrV p] 58 (0, 0))) (ha : Args eb nm 0 (some []) w) (h2 : p < xb) (h3 : p < eb) (h4 : xb < eb) :
    Calls Tryd.prog 93 #[ptrV xb, ptrV eb] w (ComTo T a p d eb nm w (argsT T n d i)) := by
  have c2 : w.cell? ⟨xb, 0, none⟩ = some (ptrV p) := cell_of_blk hxb 0
  have HE := hid hE
  have HA := hid ha
  have HX := hid hxb
  clear hE ha hxb
  go_enter Tryd.func93, Tryd.ntmps93
  go_wp2_with fail
  refine (commas_args HE.out h hout xb eb nm HX.out HA.out h2 h3 h4).mono ?_
  rintro e w2 ⟨rfl, hp2, hb2, ha2⟩
  have H := hid (And.intro hp2 (And.intro hb2 ha2))
  clear hp2 hb2 ha2
  go_wp2
  go_end0
  exact ⟨rfl, H.out⟩
/-- The tree of a call whose arguments are read. -/
theorem Args.rep {eb rb cnt : Nat} {nm : ByteArray} {es : Option (List Ex)} {w : World} (h : Args eb nm cnt es w) (hr : rb ≤ eb) :
    ∃ ad n c, w.heap[eb]? = some (.cells #[.string ⟨kCall.toArray⟩, .int .i64 0, .string nm, .slice ad n c] 55 (0, 0)) ∧
      ∀ l (m : List UInt8), es = some l → nm = ⟨m.toArray⟩ → RepE (InB (rb + 1) w) w (.mk kCall 0 m l) [.string ⟨kCall.toArray⟩, .int .i64 0, .string nm, .slice ad n c] := by
  obtain ⟨v, xs, h1, h2, h3⟩ := h
  obtain ⟨ad, c, rfl⟩ := tokEmpty' h2
  refine ⟨ad, cnt, c, h1, fun l m hl hm => ?_⟩
  subst hm
  obtain ⟨h4, h5⟩ := h3 l hl
  refine ⟨_, xs, rfl, ⟨ad, c, by rw [h4], fun hn => ?_⟩, RepEs.imp (fun b hb => ⟨by have := hb.1; omega, hb.2.1⟩) (fun _ _ => rfl) _ _ h5⟩
  have hx : xs.length = cnt * 4 := h2.1
  rcases id h2 with ⟨_, ⟨e, _⟩ | ⟨g, cap, cur, e, _, _, hnc, _⟩⟩
  · injection e with _ e
    omega
  · injection e with e1 e2 e3
    subst e1
    have := h2.lt g rfl
    refine ⟨g, rfl, ⟨⟨by omega, this.2⟩, by omega⟩, fun j u hu => ?_⟩
    have hj : j < xs.length := by
      rcases Nat.lt_or_ge j xs.length with hj | hj
      · exact hj
      · rw [List.getElem?_eq_none hj] at hu; cases hu
    rw [h2.cellAt j (by omega)]; exact hu
theorem args_new {eb : Nat} {nm : ByteArray} {w : World} (h : w.heap[eb]? = some (.cells #[.string ⟨kCall.toArray⟩, .int .i64 0, .string nm, .slice none 0 0] 55 (0, 0))) : Args eb nm 0 (some []) w :=
  ⟨_, [], h, ⟨rfl, Or.inl ⟨rfl, rfl⟩⟩, fun l hl => by cases hl; exact ⟨rfl, rfl⟩⟩
set_option maxRecDepth 100000 in
theorem named_any {T : List Tok} {a : Nat → Addr} {p n d i : Nat} {w : World} (hE : ∀ m, m < n → EOk T a p m) (h : PAt T a p d (.ok () i) w) (hk : (tk T i).kind = kName) (hout : singleT T (n + 1) d i ≠ .out) :
    Calls Tryd.prog 88 #[ptrV p] w (ExTo T a p d w (singleT T (n + 1) d i)) := by
  have hnr : nameR T (.ok () i) = .ok (tk T i).text (i + 1) := by simp only [nameR, Rs.bind_ok, nameT, hk, if_true]
  have hns : (tk T i).kind ≠ kNum := by rw [hk]; decide
  have hlt := h.lt
  obtain ⟨r, hr⟩ : ∃ r, r = singleT T (n + 1) d i := ⟨_, rfl⟩
  rw [← hr] at hout ⊢
  rw [singleT, if_neg hns, if_pos hk] at hr
  obtain ⟨tx, htx⟩ : ∃ tx, tx = (tk T i).text := ⟨_, rfl⟩
  rw [← htx] at hr hnr
  have hs0 : seesB T kSign [40] (.ok () (i + 1)) = decide (isT T kSign [40] (i + 1)) := rfl
  have HE := hid hE
  have HO := hid hout
  have HR := hid hr
  have HN := hid hnr
  have HS := hid hs0
  clear hE hout hr hk hns htx hnr hs0
  go_enter Tryd.func88, Tryd.ntmps88
  go_wp2_with fail
  have hb0 : Below w.heap.size w ((w.alloc (.cells #[ptrV p] 58)).alloc (.cells #[.string ⟨#[]⟩, .int .i64 0, .string ⟨#[]⟩, .slice none 0 0] 55)) := by (repeat (first | exact Below.refl _ _ | assumption | refine Below.drew ?_ | refine Below.trans ?_ (drewN_below' _ _ _) | refine Below.setCell ?_ (by first | (simp; done) | (simp; omega)) _ | refine Below.alloc ?_ (by first | (simp; done) | (simp; omega)) _))
  have hx0 : ((w.alloc (.cells #[ptrV p] 58)).alloc (.cells #[.string ⟨#[]⟩, .int .i64 0, .string ⟨#[]⟩, .slice none 0 0] 55)).heap[w.heap.size]? = some (.cells #[ptrV p] 58 (0, 0)) := by
    rw [Below.heap_alloc _ _ _ (by simp)]; exact heap_alloc_new _ _
  have hr0 : ((w.alloc (.cells #[ptrV p] 58)).alloc (.cells #[.string ⟨#[]⟩, .int .i64 0, .string ⟨#[]⟩, .slice none 0 0] 55)).heap[w.heap.size + 1]? = some (.cells #[.string ⟨#[]⟩, .int .i64 0, .string ⟨#[]⟩, .slice none 0 0] 55 (0, 0)) := by
    have := heap_alloc_new (w.alloc (.cells #[ptrV p] 58)) (.cells #[.string ⟨#[]⟩, .int .i64 0, .string ⟨#[]⟩, .slice none 0 0] 55)
    rwa [size_alloc] at this
  have hz0 : ((w.alloc (.cells #[ptrV p] 58)).alloc (.cells #[.string ⟨#[]⟩, .int .i64 0, .string ⟨#[]⟩, .slice none 0 0] 55)).heap.size = w.heap.size + 2 := by rw [size_alloc, size_alloc]
  generalize (w.alloc (.cells #[ptrV p] 58)).alloc (.cells #[.string ⟨#[]⟩, .int .i64 0, .string ⟨#[]⟩, .slice none 0 0] 55) = w0 at hb0 hx0 hr0 hz0 ⊢
  refine (tname_any (h.keep hb0)).mono ?_
  rintro e w1 ⟨y, rfl, hy, hp1, hb1⟩
  obtain rfl : y = tx := hy tx _ HN.out
  rw [HN.out, Rs.st_ok] at hp1
  have hz1 := hb1.size
  have hx1 := heap_keep hb1 hx0 (by omega)
  have hr1 := heap_keep hb1 hr0 (by omega)
  have b1 : But p w w1 := (But.of hb0).trans hb1
  clear hy hx0 hr0
  have x1 : w1.cell? ⟨w.heap.size, 0, none⟩ = some (ptrV p) := cell_of_blk hx1 0
  have l1 := heap_lt hx1
  have l2 := heap_lt hr1
  have HX1 := hid hx1
  have HR1 := hid hr1
  clear hx1 hr1
  go_wp2_with fail
  have hb2 : Below w1.heap.size w1 (w1.alloc (.cells #[.string ⟨#[110, 97, 109, 101]⟩, .int .i64 0, .string ⟨y.toArray⟩, .slice none 0 0] 55)) := by (repeat (first | exact Below.refl _ _ | assumption | refine Below.drew ?_ | refine Below.trans ?_ (drewN_below' _ _ _) | refine Below.setCell ?_ (by first | (simp; done) | (simp; omega)) _ | refine Below.alloc ?_ (by first | (simp; done) | (simp; omega)) _))
  have he2 := heap_alloc_new w1 (.cells #[.string ⟨#[110, 97, 109, 101]⟩, .int .i64 0, .string ⟨y.toArray⟩, .slice none 0 0] 55)
  have hz2 := size_alloc w1 (.cells #[.string ⟨#[110, 97, 109, 101]⟩, .int .i64 0, .string ⟨y.toArray⟩, .slice none 0 0] 55)
  generalize w1.alloc (.cells #[.string ⟨#[110, 97, 109, 101]⟩, .int .i64 0, .string ⟨y.toArray⟩, .slice none 0 0] 55) = w2 at hb2 he2 hz2 ⊢
  refine (sees_any (hp1.keep hb2) [40]).mono ?_
  rintro e w3 ⟨rfl, hb3⟩
  have hb4 := bl_trans hb2 hb2.size hb3
  have hz3 := hb3.size
  have hp3 := hp1.keep hb4
  have hx3 := (hb4.block _ l1).trans HX1.out
  have hr3 := (hb4.block _ l2).trans HR1.out
  have he3 := (hb3.block _ (by omega)).trans he2
  have b3 : But p w w3 := b1.trans (But.of hb4)
  have lz := hb1.size
  clear hb2 he2 hb3 hb4 hp1
  have m1 := heap_lt hx3
  have m2 := heap_lt hr3
  have m3 := heap_lt he3
  have x3 : w3.cell? ⟨w.heap.size, 0, none⟩ = some (ptrV p) := cell_of_blk hx3 0
  have e30 : w3.cell? ⟨w1.heap.size, 0, none⟩ = some (.string ⟨#[110, 97, 109, 101]⟩) := cell_of_blk he3 0
  have f30 := free_of_blk he3 0
  have r0 := cell_of_blk hr3 0
  have r1 := cell_of_blk hr3 1
  have r2 := cell_of_blk hr3 2
  have r3 := cell_of_blk hr3 3
  have q0 := free_of_blk hr3 0
  have q1 := free_of_blk hr3 1
  have q2 := free_of_blk hr3 2
  have q3 := free_of_blk hr3 3
  have HX3 := hid hx3
  have HR3 := hid hr3
  have HE3 := hid he3
  have HP3 := hid hp3
  by_cases hs : isT T kSign [40] (i + 1)
  · have e := HS.out
    rw [show decide (isT T kSign [40] (i + 1)) = true from by simpa using hs] at e
    rw [e]
    have hr := HR.out
    rw [if_pos hs] at hr
    have HR' := hid hr
    have HS' := hid hs
    clear hr hs e HR HS hx3 hr3 he3 hp3
    go_wp2_with fail
    have he4 := blk_setCell HE3.out 0 (.string ⟨#[99, 97, 108, 108]⟩)
    have hp4 : PAt T a p d (.ok () (i + 1)) (w3.setCell ⟨w1.heap.size, 0, none⟩ (.string ⟨#[99, 97, 108, 108]⟩)) := HP3.out.setCell (by omega) ⟨_, _, HE3.out, by decide⟩ 0 _
    have b4 : But p w (w3.setCell ⟨w1.heap.size, 0, none⟩ (.string ⟨#[99, 97, 108, 108]⟩)) := b3.setNew _ 0 (by omega) _
    have hx4 := (heap_far (w := w3) (r := w1.heap.size) (i := 0) (u := .string ⟨#[99, 97, 108, 108]⟩) (by omega : w.heap.size ≠ w1.heap.size)).trans HX3.out
    have hr4 := (heap_far (w := w3) (r := w1.heap.size) (i := 0) (u := .string ⟨#[99, 97, 108, 108]⟩) (by omega : w.heap.size + 1 ≠ w1.heap.size)).trans HR3.out
    generalize w3.setCell ⟨w1.heap.size, 0, none⟩ (.string ⟨#[99, 97, 108, 108]⟩) = w4 at he4 hp4 b4 hx4 hr4 ⊢
    have ha4 : Args w1.heap.size ⟨y.toArray⟩ 0 (some []) w4 := args_new he4
    have m4 := heap_lt he4
    refine (inner_call (B := w1.heap.size) hp4 [40] w.heap.size w1.heap.size (fun i s2 w2 => s2 = (argsT T n (d + 1) (i + 1)).st ∧ ∃ cnt, Args w1.heap.size ⟨y.toArray⟩ cnt (argsT T n (d + 1) (i + 1)).list w2) (by omega) ?_ ?_).mono ?_
    · intro wi i2 hi2 _ hd hpi hbi
      cases hi2
      have ho : argsT T n (d + 1) (i + 1 + 1) ≠ .out := fun e => HO.out (by rw [HR'.out, if_neg (by omega), show i + 2 = i + 1 + 1 from rfl, e]; rfl)
      refine (call_any HE.out hpi ho w.heap.size w1.heap.size _ (heap_keep hbi hx4 (by omega)) (ha4.keep hbi (by omega)) (by omega) (by omega) (by omega)).mono ?_
      rintro e w2 ⟨rfl, g1, g2, g3⟩
      exact ⟨rfl, _, g1, g2, rfl, g3⟩
    · rintro i s2 w2 w3 ⟨rfl, cnt, g⟩ hb
      exact ⟨rfl, cnt, g.keep hb (by omega)⟩
    rintro e w5 ⟨rfl, h5⟩
    have key : ∃ cnt es, Args w1.heap.size ⟨y.toArray⟩ cnt es w5 ∧ PAt T a p d r.st w5 ∧ Bb p w1.heap.size w4 w5 ∧ ∀ x j, r = .ok x j → ∃ l, es = some l ∧ x = .mk kCall 0 y l := by
      rcases h5 with ⟨g1, _⟩ | ⟨_, g2, g3, g4⟩ | ⟨i2, s2, g1, _, g3, g4, g5, g6, cnt, g7⟩
      · exact absurd g1 (by rw [sees_ok]; simpa using HS'.out)
      · have e : r = .bad 10 (i + 1) := by rw [HR'.out, if_pos g2]
        exact ⟨0, _, ha4.keep g4 (by omega), by rw [e]; exact g3, g4.bb (by omega), fun x j hx => by rw [e] at hx; cases hx⟩
      · cases g1
        have e : r = (argsT T n (d + 1) (i + 1 + 1)).bind fun ks j => .ok (.mk kCall 0 y ks) j := by rw [HR'.out, if_neg (by omega)]
        refine ⟨cnt, _, g7, ?_, g5, fun x j hx => ?_⟩
        · rw [e]
          rw [g6] at g4
          cases hz : argsT T n (d + 1) (i + 1 + 1) with
          | out => rw [hz] at g4; exact g4
          | bad c k => rw [hz] at g4; exact g4
          | ok l k => rw [hz] at g4; exact g4
        · rw [e] at hx
          cases hz : argsT T n (d + 1) (i + 1 + 1) with
          | out => rw [hz] at hx; cases hx
          | bad c k => rw [hz] at hx; cases hx
          | ok l k => rw [hz] at hx; cases hx; exact ⟨l, rfl, rfl⟩
    obtain ⟨cnt, es, k1, k2, k3, k4⟩ := key
    obtain ⟨ad, nn, c, k5, k6⟩ := k1.rep (rb := w.heap.size + 1) (by omega)
    have hr5 := k3.heap hr4 (by omega) (by omega)
    have n2 := heap_lt hr5
    have n3 := heap_lt k5
    have e50 : w5.cell? ⟨w1.heap.size, 0, none⟩ = some (.string ⟨kCall.toArray⟩) := cell_of_blk k5 0
    have e51 : w5.cell? ⟨w1.heap.size, 1, none⟩ = some (.int .i64 0) := cell_of_blk k5 1
    have e52 : w5.cell? ⟨w1.heap.size, 2, none⟩ = some (.string ⟨y.toArray⟩) := cell_of_blk k5 2
    have e53 : w5.cell? ⟨w1.heap.size, 3, none⟩ = some (.slice ad nn c) := cell_of_blk k5 3
    have r50 := cell_of_blk hr5 0
    have r51 := cell_of_blk hr5 1
    have r52 := cell_of_blk hr5 2
    have r53 := cell_of_blk hr5 3
    have q50 := free_of_blk hr5 0
    have q51 := free_of_blk hr5 1
    have q52 := free_of_blk hr5 2
    have q53 := free_of_blk hr5 3
    have HR5 := hid hr5
    have K2 := hid k2
    have K4 := hid k4
    have K6 := hid k6
    clear hr5 k2 k4 k5 k6 h5 k1 he4 hx4 hr4
    go_wp2
    refine ret_ex Tryd.results88 rfl (by omega) (by omega) HR5.out K2.out (Bb.base b4 k3 (by omega)) (fun x j hx => ?_)
    obtain ⟨l, hl, rfl⟩ := K4.out x j hx
    exact K6.out l y hl rfl
  · have e := HS.out
    rw [show decide (isT T kSign [40] (i + 1)) = false from by simpa using hs] at e
    rw [e]
    have hr := HR.out
    rw [if_neg hs] at hr
    have HR' := hid hr
    have e31 : w3.cell? ⟨w1.heap.size, 1, none⟩ = some (.int .i64 0) := cell_of_blk he3 1
    have e32 : w3.cell? ⟨w1.heap.size, 2, none⟩ = some (.string ⟨y.toArray⟩) := cell_of_blk he3 2
    have e33 : w3.cell? ⟨w1.heap.size, 3, none⟩ = some (.slice none 0 0) := cell_of_blk he3 3
    clear hr hs e HR HS hx3 hr3 he3 hp3
    go_wp2
    rw [HR'.out]
    refine ret_ex Tryd.results88 rfl (by omega) (by omega) HR3.out HP3.out b3 (fun x j hx => ?_)
    cases hx
    exact ⟨_, [], rfl, ⟨_, _, rfl, fun h => absurd rfl h⟩, rfl⟩
end Go.Proofs.YtcebpmaggnephabDoor
