/-
  Our own: package tree's parser: a list of statements that grows.
-/
import Derived.Test.YtcebpmaggnephabDoorTreeStmt
namespace Go.Proofs.YtcebpmaggnephabDoor
open Go.RowKit

/-- The statements that a block's list has so far: as many; which, if no error was told. -/
def Stms (lb cnt : Nat) (ss : Option (List Sm)) (w : World) : Prop :=
  ∃ v xs, w.heap[lb]? = some (.cells #[v] 50 (0, 0)) ∧ w.ownsRow (lb + 1) 57 8 v cnt xs ∧
    ∀ l, ss = some l → l.length = cnt ∧ RepSs (fun b => lb < b ∧ b < w.heap.size ∧ v.ownBlock ≠ some b) w l xs
theorem Stms.keep {p lb cnt : Nat} {es : Option (List Sm)} {w w' : World} (h : Stms lb cnt es w) (hb : But p w w') (hp : p < lb) : Stms lb cnt es w' := by
  obtain ⟨v, xs, h1, h2, h3⟩ := h
  refine ⟨v, xs, heap_keep hb h1 (by omega), own_but h2 hb (by omega), fun l hl => ⟨(h3 l hl).1, RepSs.imp (fun b hb' => ⟨hb'.1, Nat.lt_of_lt_of_le hb'.2.1 hb.size, hb'.2.2⟩) (fun b hb' => hb.block b hb'.2.1 (by have := hb'.1; omega)) _ _ (h3 l hl).2⟩⟩
theorem Stms.none {lb cnt : Nat} {es : Option (List Sm)} {w : World} (h : Stms lb cnt es w) : Stms lb cnt none w := by
  obtain ⟨v, xs, h1, h2, _⟩ := h
  exact ⟨v, xs, h1, h2, fun l hl => by cases hl⟩
theorem stms_new {lb : Nat} {w : World} (h : w.heap[lb]? = some (.cells #[.slice none 0 0] 50 (0, 0))) : Stms lb 0 (some []) w :=
  ⟨_, [], h, ⟨rfl, Or.inl ⟨rfl, rfl⟩⟩, fun l hl => by cases hl; exact ⟨rfl, rfl⟩⟩
/-- What a row that is owned reads as. -/
theorem own_row {B n size : Nat} {t : TypeId} {w : World} {A : Nat → Prop} {v : Value} {xs : List Value} (h : w.ownsRow B t size v n xs) (hA : ∀ g, B ≤ g → g < w.heap.size → A g) : Row A w v n xs := by
  obtain ⟨ad, c, rfl⟩ := tokEmpty' h
  refine ⟨ad, c, rfl, fun hn => ?_⟩
  have hx : xs.length = n * size := h.1
  rcases id h with ⟨_, ⟨e, _⟩ | ⟨g, cap, cur, e, _, _, hnc, _⟩⟩
  · injection e with _ e
    omega
  · injection e with e1 e2 e3
    subst e1
    have := h.lt g rfl
    refine ⟨g, rfl, ⟨hA g this.1 this.2, by omega⟩, fun j u hu => ?_⟩
    have hj : j < xs.length := by
      rcases Nat.lt_or_ge j xs.length with hj | hj
      · exact hj
      · rw [List.getElem?_eq_none hj] at hu; cases hu
    rw [h.cellAt j (by omega)]; exact hu
theorem Stms.rep {lb rb cnt : Nat} {ss : Option (List Sm)} {w : World} (h : Stms lb cnt ss w) (hr : rb ≤ lb + 1) :
    ∃ ad n c, w.heap[lb]? = some (.cells #[.slice ad n c] 50 (0, 0)) ∧ ∀ l, ss = some l → ∃ xs, Row (InB rb w) w (.slice ad n c) l.length xs ∧ RepSs (InB rb w) w l xs := by
  obtain ⟨v, xs, h1, h2, h3⟩ := h
  obtain ⟨ad, c, rfl⟩ := tokEmpty' h2
  refine ⟨ad, cnt, c, h1, fun l hl => ?_⟩
  obtain ⟨h4, h5⟩ := h3 l hl
  rw [h4]
  exact ⟨xs, own_row h2 (fun g hg hz => ⟨by omega, hz⟩), RepSs.imp (fun b hb => ⟨by have := hb.1; omega, hb.2.1⟩) (fun _ _ => rfl) _ _ h5⟩
theorem stm_room {w : World} {lb g cap cnt : Nat} {t : TypeId} {xs : List Value} {z0 z1 z2 z3 z4 z5 z6 z7 : Value} (h : w.ownsRow (lb + 1) t 8 (.slice (some ⟨g, 0, none⟩) (cnt + 1) cap) (cnt + 1) (xs ++ [z0, z1, z2, z3, z4, z5, z6, z7])) :
    (w.cell? ⟨g, cnt * 8, none⟩ = some z0 ∧ w.cell? ⟨g, cnt * 8 + 1, none⟩ = some z1 ∧ w.cell? ⟨g, cnt * 8 + 2, none⟩ = some z2 ∧ w.cell? ⟨g, cnt * 8 + 3, none⟩ = some z3 ∧ w.cell? ⟨g, cnt * 8 + 4, none⟩ = some z4 ∧ w.cell? ⟨g, cnt * 8 + 5, none⟩ = some z5 ∧ w.cell? ⟨g, cnt * 8 + 6, none⟩ = some z6 ∧ w.cell? ⟨g, cnt * 8 + 7, none⟩ = some z7) ∧
    (w.frozen? ⟨g, cnt * 8, none⟩ = false ∧ w.frozen? ⟨g, cnt * 8 + 1, none⟩ = false ∧ w.frozen? ⟨g, cnt * 8 + 2, none⟩ = false ∧ w.frozen? ⟨g, cnt * 8 + 3, none⟩ = false ∧ w.frozen? ⟨g, cnt * 8 + 4, none⟩ = false ∧ w.frozen? ⟨g, cnt * 8 + 5, none⟩ = false ∧ w.frozen? ⟨g, cnt * 8 + 6, none⟩ = false ∧ w.frozen? ⟨g, cnt * 8 + 7, none⟩ = false) ∧ lb < g := by
  have hl : xs.length = cnt * 8 := by have := h.1; simp at this; omega
  have hx : ∀ j, (xs ++ [z0, z1, z2, z3, z4, z5, z6, z7])[cnt * 8 + j]? = [z0, z1, z2, z3, z4, z5, z6, z7][j]? := fun j => by rw [List.getElem?_append_right (by omega), hl, Nat.add_sub_cancel_left]
  refine ⟨⟨?_, ?_, ?_, ?_, ?_, ?_, ?_, ?_⟩, ⟨h.frozenAt _, h.frozenAt _, h.frozenAt _, h.frozenAt _, h.frozenAt _, h.frozenAt _, h.frozenAt _, h.frozenAt _⟩, (h.lt g rfl).1⟩
  · rw [h.cellAt _ (by omega)]; exact hx 0
  · rw [h.cellAt _ (by omega)]; exact hx 1
  · rw [h.cellAt _ (by omega)]; exact hx 2
  · rw [h.cellAt _ (by omega)]; exact hx 3
  · rw [h.cellAt _ (by omega)]; exact hx 4
  · rw [h.cellAt _ (by omega)]; exact hx 5
  · rw [h.cellAt _ (by omega)]; exact hx 6
  · rw [h.cellAt _ (by omega)]; exact hx 7
theorem own_set8 {w : World} {lb g cap cnt : Nat} {t : TypeId} {xs : List Value} {z0 z1 z2 z3 z4 z5 z6 z7 : Value} (h : w.ownsRow (lb + 1) t 8 (.slice (some ⟨g, 0, none⟩) (cnt + 1) cap) (cnt + 1) (xs ++ [z0, z1, z2, z3, z4, z5, z6, z7])) (u0 u1 u2 u3 u4 u5 u6 u7 : Value) :
    (put8 w g (cnt * 8) u0 u1 u2 u3 u4 u5 u6 u7).ownsRow (lb + 1) t 8 (.slice (some ⟨g, 0, none⟩) (cnt + 1) cap) (cnt + 1) (xs ++ [u0, u1, u2, u3, u4, u5, u6, u7]) := by
  have hl : xs.length = cnt * 8 := by have := h.1; simp at this; omega
  have h8 := ((((((((h.stored (cnt * 8) u0).1.stored (cnt * 8 + 1) u1).1.stored (cnt * 8 + 2) u2).1.stored (cnt * 8 + 3) u3).1.stored (cnt * 8 + 4) u4).1.stored (cnt * 8 + 5) u5).1.stored (cnt * 8 + 6) u6).1.stored (cnt * 8 + 7) u7).1
  have e : (((((((((xs ++ [z0, z1, z2, z3, z4, z5, z6, z7]).set (cnt * 8) u0).set (cnt * 8 + 1) u1).set (cnt * 8 + 2) u2).set (cnt * 8 + 3) u3).set (cnt * 8 + 4) u4).set (cnt * 8 + 5) u5).set (cnt * 8 + 6) u6).set (cnt * 8 + 7) u7) = xs ++ [u0, u1, u2, u3, u4, u5, u6, u7] := by
    rw [← hl]
    simp
  rwa [e] at h8
theorem set_same (w : World) (a : Addr) (v : Value) : (w.setCell a v).os = w.os ∧ (w.setCell a v).tape = w.tape ∧ (w.setCell a v).output = w.output := ⟨rfl, rfl, rfl⟩
theorem same_put8 {w : World} {r o : Nat} {u0 u1 u2 u3 u4 u5 u6 u7 : Value} : (put8 w r o u0 u1 u2 u3 u4 u5 u6 u7).os = w.os ∧ (put8 w r o u0 u1 u2 u3 u4 u5 u6 u7).tape = w.tape ∧ (put8 w r o u0 u1 u2 u3 u4 u5 u6 u7).output = w.output := by
  simp only [put8, set_same, and_self]
/-- The list's block behind one more statement. -/
theorem stm_done {T : List Tok} {a : Nat → Addr} {p d lb g cap cnt : Nat} {s2 : Rs Unit} {w w2 w3 w4 W : World} {r : Rs Sm} {ss : Option (List Sm)} {adv : Option Addr} {capv : Nat} {xs : List Value} {u0 u1 u2 u3 u4 u5 u6 u7 z0 z1 z2 z3 z4 z5 z6 z7 : Value}
    (h3 : p < lb) (hb3 : But p w w2) (hp2 : PAt T a p d s2 w2) (hal : Below w2.heap.size w2 w3) (hgrow : w3.grownBy w4 (Value.slice adv cnt capv).ownBlock) (hat : (Value.slice adv cnt capv).ownBlock = some g ∨ g = w3.heap.size)
    (HE : w.heap[lb]? = some (.cells #[.slice adv cnt capv] 50 (0, 0))) (HO : w.ownsRow (lb + 1) 57 8 (.slice adv cnt capv) cnt xs)
    (HS : ∀ l, ss = some l → l.length = cnt ∧ RepSs (fun b => lb < b ∧ b < w.heap.size ∧ (Value.slice adv cnt capv).ownBlock ≠ some b) w l xs)
    (HR : ∀ x j, r = .ok x j → RepS (InB w.heap.size w2) w2 x [u0, u1, u2, u3, u4, u5, u6, u7])
    (hown4 : w4.ownsRow (lb + 1) 57 8 (.slice (some ⟨g, 0, none⟩) (cnt + 1) cap) (cnt + 1) (xs ++ [z0, z1, z2, z3, z4, z5, z6, z7]))
    (hW : W = (put8 w4 g (cnt * 8) u0 u1 u2 u3 u4 u5 u6 u7).setCell ⟨lb, 0, none⟩ (.slice (some ⟨g, 0, none⟩) (cnt + 1) cap) ∨ W = put8 (w4.setCell ⟨lb, 0, none⟩ (.slice (some ⟨g, 0, none⟩) (cnt + 1) cap)) g (cnt * 8) u0 u1 u2 u3 u4 u5 u6 u7) :
    PAt T a p d s2 W ∧ Bb p lb w W ∧ Stms lb (cnt + 1) (r.add ss) W := by
  have hlt := heap_lt HE
  have hz2 := hb3.size
  have hz3 := hal.size
  have hz4 := hgrow.size
  have hge : lb < g := (hown4.lt g rfl).1
  have hv : ∀ k, (Value.slice adv cnt capv).ownBlock = some k → lb < k ∧ k < w.heap.size := fun k hk => HO.lt k hk
  have hgs : g < w.heap.size ∨ g = w3.heap.size := by
    rcases hat with h | h
    · exact Or.inl (hv g h).2
    · exact Or.inr h
  have n3 : ∀ k, k < w2.heap.size → w3.heap[k]? = w2.heap[k]? := fun k hk => hal.block k hk
  have n4 : ∀ k, k < w2.heap.size → (Value.slice adv cnt capv).ownBlock ≠ some k → w4.heap[k]? = w2.heap[k]? := fun k hk hne => (hgrow.block k (by omega) (fun e => hne e.symm)).trans (n3 k hk)
  have heb4 : w4.heap[lb]? = some (.cells #[.slice adv cnt capv] 50 (0, 0)) :=
    (n4 lb (by omega) (fun e => by have := (hv lb e).1; omega)).trans (heap_keep hb3 HE (by omega))
  have hp4 : PAt T a p d s2 w4 := (hp2.keep hal).grown hgrow (fun k hk => ⟨by have := (hv k hk).1; omega, (own_far HO (by decide) hk).of ((n3 k (by have := (hv k hk).2; omega)).trans (hb3.block k (hv k hk).2 (by have := (hv k hk).1; omega)))⟩)
  have hfg : Far w4 g := own_far hown4 (by decide) rfl
  have hfe : Far w4 lb := ⟨_, _, heb4, by decide⟩
  have key : PAt T a p d s2 W ∧ W.os = w4.os ∧ W.tape = w4.tape ∧ W.output = w4.output ∧ W.heap.size = w4.heap.size ∧ (∀ k, k ≠ lb → k ≠ g → W.heap[k]? = w4.heap[k]?) ∧
      W.heap[lb]? = some (.cells #[.slice (some ⟨g, 0, none⟩) (cnt + 1) cap] 50 (0, 0)) ∧
      W.ownsRow (lb + 1) 57 8 (.slice (some ⟨g, 0, none⟩) (cnt + 1) cap) (cnt + 1) (xs ++ [u0, u1, u2, u3, u4, u5, u6, u7]) := by
    rcases hW with rfl | rfl
    · have o1 := pat_put8 hp4 (by omega) hfg (cnt * 8) u0 u1 u2 u3 u4 u5 u6 u7
      have o2 : (put8 w4 g (cnt * 8) u0 u1 u2 u3 u4 u5 u6 u7).os = w4.os ∧ (put8 w4 g (cnt * 8) u0 u1 u2 u3 u4 u5 u6 u7).tape = w4.tape ∧ (put8 w4 g (cnt * 8) u0 u1 u2 u3 u4 u5 u6 u7).output = w4.output := same_put8
      have o5 : (put8 w4 g (cnt * 8) u0 u1 u2 u3 u4 u5 u6 u7).heap.size = w4.heap.size := size_put8
      have o6 : ∀ k, k ≠ g → (put8 w4 g (cnt * 8) u0 u1 u2 u3 u4 u5 u6 u7).heap[k]? = w4.heap[k]? := fun k hk => heap_put8 hk
      have o7 := own_set8 hown4 u0 u1 u2 u3 u4 u5 u6 u7
      generalize put8 w4 g (cnt * 8) u0 u1 u2 u3 u4 u5 u6 u7 = w5 at o1 o2 o5 o6 o7 ⊢
      have he5 := (o6 lb (by omega)).trans heb4
      refine ⟨o1.setCell h3 ⟨_, _, he5, by decide⟩ 0 _, o2.1, o2.2.1, o2.2.2, by simpa [World.setCell] using o5, fun k h1 h2 => (heap_far h1).trans (o6 k h2), (blk_setCell he5 0 _).trans rfl, ownsRow_setCell_other o7 (by simp [Value.ownBlock]; omega) _⟩
    · have he1 := blk_setCell heb4 0 (.slice (some ⟨g, 0, none⟩) (cnt + 1) cap)
      have ho1 := ownsRow_setCell_other hown4 (a := ⟨lb, 0, none⟩) (by simp [Value.ownBlock]; omega) (.slice (some ⟨g, 0, none⟩) (cnt + 1) cap)
      have q1 := hp4.setCell h3 hfe 0 (.slice (some ⟨g, 0, none⟩) (cnt + 1) cap)
      have f1 : Far (w4.setCell ⟨lb, 0, none⟩ (.slice (some ⟨g, 0, none⟩) (cnt + 1) cap)) g := hfg.of (heap_far (by omega))
      have f2 : ∀ k, k ≠ lb → (w4.setCell ⟨lb, 0, none⟩ (.slice (some ⟨g, 0, none⟩) (cnt + 1) cap)).heap[k]? = w4.heap[k]? := fun k hk => heap_far hk
      have f3 : (w4.setCell ⟨lb, 0, none⟩ (.slice (some ⟨g, 0, none⟩) (cnt + 1) cap)).heap.size = w4.heap.size := by simp [World.setCell]
      have f4 : (w4.setCell ⟨lb, 0, none⟩ (.slice (some ⟨g, 0, none⟩) (cnt + 1) cap)).os = w4.os ∧ (w4.setCell ⟨lb, 0, none⟩ (.slice (some ⟨g, 0, none⟩) (cnt + 1) cap)).tape = w4.tape ∧ (w4.setCell ⟨lb, 0, none⟩ (.slice (some ⟨g, 0, none⟩) (cnt + 1) cap)).output = w4.output := ⟨rfl, rfl, rfl⟩
      generalize w4.setCell ⟨lb, 0, none⟩ (.slice (some ⟨g, 0, none⟩) (cnt + 1) cap) = w5 at he1 ho1 q1 f1 f2 f3 f4 ⊢
      have o1 := pat_put8 q1 (by omega) f1 (cnt * 8) u0 u1 u2 u3 u4 u5 u6 u7
      have o2 : (put8 w5 g (cnt * 8) u0 u1 u2 u3 u4 u5 u6 u7).os = w5.os ∧ (put8 w5 g (cnt * 8) u0 u1 u2 u3 u4 u5 u6 u7).tape = w5.tape ∧ (put8 w5 g (cnt * 8) u0 u1 u2 u3 u4 u5 u6 u7).output = w5.output := same_put8
      have o5 : (put8 w5 g (cnt * 8) u0 u1 u2 u3 u4 u5 u6 u7).heap.size = w5.heap.size := size_put8
      have o6 : ∀ k, k ≠ g → (put8 w5 g (cnt * 8) u0 u1 u2 u3 u4 u5 u6 u7).heap[k]? = w5.heap[k]? := fun k hk => heap_put8 hk
      have o7 := own_set8 ho1 u0 u1 u2 u3 u4 u5 u6 u7
      exact ⟨o1, o2.1.trans f4.1, o2.2.1.trans f4.2.1, o2.2.2.trans f4.2.2, o5.trans f3, fun k h1 h2 => (o6 k h2).trans (f2 k h1), ((o6 lb (by omega)).trans he1).trans rfl, o7⟩
  obtain ⟨k1, k2, k3, k4, k5, k6, k7, k8⟩ := key
  refine ⟨k1, ⟨k2.trans (hgrow.os.trans (hal.os.trans hb3.os)), k3.trans (hgrow.tape.trans (hal.tape.trans hb3.tape)), k4.trans (hgrow.output.trans (hal.output.trans hb3.output)), by omega, fun b hb hp => ?_⟩, _, _, k7, k8, fun l' hl' => ?_⟩
  · rw [k6 b (by omega) (by omega), n4 b (by omega) (fun e => by have := (hv b e).1; omega)]
    exact hb3.block b (by omega) hp
  · obtain ⟨x, j, l0, hr, hes, rfl⟩ := Rs.add_some hl'
    obtain ⟨hl0, hr0⟩ := HS l0 hes
    have hg1 : ∀ b, lb < b → b < w.heap.size → (Value.slice adv cnt capv).ownBlock ≠ some b → b ≠ g := fun b h1 h2 h3 e => by
      rcases hat with h | h
      · exact h3 (e ▸ h)
      · omega
    have hs : ∀ b, b ≠ g → (Value.slice (some ⟨g, 0, none⟩) (cnt + 1) cap).ownBlock ≠ some b := fun b hb e => hb (Option.some.inj e).symm
    have o1 : RepSs (fun b => lb < b ∧ b < W.heap.size ∧ (Value.slice (some ⟨g, 0, none⟩) (cnt + 1) cap).ownBlock ≠ some b) W l0 xs :=
      RepSs.imp (fun b hb => ⟨hb.1, by have := hb.2.1; omega, hs b (hg1 b hb.1 hb.2.1 hb.2.2)⟩) (fun b hb => by
        rw [k6 b (by have := hb.1; omega) (hg1 b hb.1 hb.2.1 hb.2.2), n4 b (by have := hb.2.1; omega) hb.2.2]
        exact hb3.block b hb.2.1 (by have := hb.1; omega)) _ _ hr0
    have o2 : RepS (fun b => lb < b ∧ b < W.heap.size ∧ (Value.slice (some ⟨g, 0, none⟩) (cnt + 1) cap).ownBlock ≠ some b) W x [u0, u1, u2, u3, u4, u5, u6, u7] :=
      RepS.imp (fun b hb => ⟨by have := hb.1; omega, by have := hb.2; omega, hs b (by have := hb.1; have := hb.2; omega)⟩) (fun b hb => by
        have h1 := hb.1
        have h2 := hb.2
        rw [k6 b (by omega) (by omega), n4 b h2 (fun e => by have := (hv b e).2; omega)]) _ _ (HR x j hr)
    exact ⟨by simp [hl0], o1.snoc o2⟩
theorem st_info : (Tryd.prog.info? 57).map (fun i => (i.zero, i.size, i.bytes)) = some (some (.agg #[.string ⟨#[]⟩, .string ⟨#[]⟩, .string ⟨#[]⟩, .int .i64 0, .string ⟨#[]⟩, .slice none 0 0, .slice none 0 0, .slice none 0 0]), 8, 144) := by kernel_rfl
theorem st_one : ∀ u ∈ ([.string ⟨#[]⟩, .string ⟨#[]⟩, .string ⟨#[]⟩, .int .i64 0, .string ⟨#[]⟩, .slice none 0 0, .slice none 0 0, .slice none 0 0] : List Value), u.oneCell' = true := by
  intro u hu
  simp only [List.mem_cons, List.not_mem_nil, or_false] at hu
  rcases hu with rfl | rfl | rfl | rfl | rfl | rfl | rfl | rfl <;> rfl
end Go.Proofs.YtcebpmaggnephabDoor
