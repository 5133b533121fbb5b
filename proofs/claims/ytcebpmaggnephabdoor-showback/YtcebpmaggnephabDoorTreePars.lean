/-
  Our own: package tree's parser: statements and blocks whatever the bound; the parameters of a function.
-/
import Derived.Test.YtcebpmaggnephabDoorTreeBlock
namespace Go.Proofs.YtcebpmaggnephabDoor
open Go.RowKit

/-- The contracts of block and stmt, whatever the bound. -/
theorem bt_ok {T : List Tok} {a : Nat → Addr} {p : Nat} (HT : ∀ t ∈ T, t.Good) : ∀ n m, m ≤ n → BOk T a p m ∧ TOk T a p m := by
  have b1 : BOk T a p 1 := block_ok (fun m hm => absurd hm (by omega))
  have b0 : BOk T a p 0 := fun d s w h hout => by
    cases s with
    | out => exact absurd rfl hout
    | ok u i => exact absurd (by rw [Rs.via_ok, blockT]) hout
    | bad c k => exact b1 d (.bad c k) w h (fun e => by cases e)
  have t1 : TOk T a p 1 := stmt_ok (eok HT 0) b0
  have t0 : TOk T a p 0 := fun d s w h hout => by
    cases s with
    | out => exact absurd rfl hout
    | ok u i => exact absurd (by rw [Rs.via_ok, stmtT]) hout
    | bad c k => exact t1 d (.bad c k) w h (fun e => by cases e)
  intro n
  induction n with
  | zero => intro m hm; obtain rfl : m = 0 := by omega
            exact ⟨b0, t0⟩
  | succ n ih =>
    intro m hm
    rcases Nat.lt_or_ge m (n + 1) with h | h
    · exact ih m (by omega)
    · obtain rfl : m = n + 1 := by omega
      exact ⟨block_ok (fun m hm => (ih m (by omega)).2), stmt_ok (eok HT n) (ih n (Nat.le_refl _)).1⟩
theorem bok {T : List Tok} {a : Nat → Addr} {p : Nat} (HT : ∀ t ∈ T, t.Good) (n : Nat) : BOk T a p n := (bt_ok HT n n (Nat.le_refl _)).1

/-- The parameters that a function's block has so far: as many; which, if no error was told. -/
def Pars (fb : Nat) (nm : ByteArray) (cnt : Nat) (ps : Option (List (List UInt8))) (w : World) : Prop :=
  ∃ v xs, w.heap[fb]? = some (.cells #[.string nm, v, .slice none 0 0] 52 (0, 0)) ∧ w.ownsRow (fb + 1) 9 1 v cnt xs ∧ ∀ l, ps = some l → l.length = cnt ∧ xs = textsC l
theorem Pars.keep {p fb cnt : Nat} {nm : ByteArray} {es : Option (List (List UInt8))} {w w' : World} (h : Pars fb nm cnt es w) (hb : But p w w') (hp : p < fb) : Pars fb nm cnt es w' := by
  obtain ⟨v, xs, h1, h2, h3⟩ := h
  exact ⟨v, xs, heap_keep hb h1 (by omega), own_but h2 hb (by omega), h3⟩
theorem Pars.none {fb cnt : Nat} {nm : ByteArray} {es : Option (List (List UInt8))} {w : World} (h : Pars fb nm cnt es w) : Pars fb nm cnt none w := by
  obtain ⟨v, xs, h1, h2, _⟩ := h
  exact ⟨v, xs, h1, h2, fun l hl => by cases hl⟩
theorem pars_new {fb : Nat} {nm : ByteArray} {w : World} (h : w.heap[fb]? = some (.cells #[.string nm, .slice none 0 0, .slice none 0 0] 52 (0, 0))) : Pars fb nm 0 (some []) w :=
  ⟨_, [], h, ⟨rfl, Or.inl ⟨rfl, rfl⟩⟩, fun l hl => by cases hl; exact ⟨rfl, rfl⟩⟩
theorem textsC_snoc (l : List (List UInt8)) (x : List UInt8) : textsC (l ++ [x]) = textsC l ++ [.string ⟨x.toArray⟩] := by simp [textsC]
/-- The function's block behind one more parameter. -/
theorem pars_done {T : List Tok} {a : Nat → Addr} {p d fb g cap cnt : Nat} {s2 : Rs Unit} {w w2 w3 w4 : World} {r : Rs (List UInt8)} {nm : ByteArray} {ps : Option (List (List UInt8))} {adv : Option Addr} {capv : Nat} {xs : List Value} {x : List UInt8}
    (h3 : p < fb) (hb3 : But p w w2) (hp2 : PAt T a p d s2 w2) (hal : Below w2.heap.size w2 w3) (hgrow : w3.grownBy w4 (Value.slice adv cnt capv).ownBlock) 
    (HE : w.heap[fb]? = some (.cells #[.string nm, .slice adv cnt capv, .slice none 0 0] 52 (0, 0))) (HO : w.ownsRow (fb + 1) 9 1 (.slice adv cnt capv) cnt xs)
    (HS : ∀ l, ps = some l → l.length = cnt ∧ xs = textsC l) (HR : ∀ y j, r = .ok y j → x = y)
    (hown4 : w4.ownsRow (fb + 1) 9 1 (.slice (some ⟨g, 0, none⟩) (cnt + 1) cap) (cnt + 1) (xs ++ [.string ⟨x.toArray⟩])) :
    PAt T a p d s2 (w4.setCell ⟨fb, 1, none⟩ (.slice (some ⟨g, 0, none⟩) (cnt + 1) cap)) ∧ Bb p fb w (w4.setCell ⟨fb, 1, none⟩ (.slice (some ⟨g, 0, none⟩) (cnt + 1) cap)) ∧ Pars fb nm (cnt + 1) (r.add ps) (w4.setCell ⟨fb, 1, none⟩ (.slice (some ⟨g, 0, none⟩) (cnt + 1) cap)) := by
  have hlt := heap_lt HE
  have hz2 := hb3.size
  have hz3 := hal.size
  have hz4 := hgrow.size
  have hge : fb < g := (hown4.lt g rfl).1
  have hv : ∀ k, (Value.slice adv cnt capv).ownBlock = some k → fb < k ∧ k < w.heap.size := fun k hk => HO.lt k hk
  have n3 : ∀ k, k < w2.heap.size → w3.heap[k]? = w2.heap[k]? := fun k hk => hal.block k hk
  have n4 : ∀ k, k < w2.heap.size → (Value.slice adv cnt capv).ownBlock ≠ some k → w4.heap[k]? = w2.heap[k]? := fun k hk hne => (hgrow.block k (by omega) (fun e => hne e.symm)).trans (n3 k hk)
  have heb4 : w4.heap[fb]? = some (.cells #[.string nm, .slice adv cnt capv, .slice none 0 0] 52 (0, 0)) :=
    (n4 fb (by omega) (fun e => by have := (hv fb e).1; omega)).trans (heap_keep hb3 HE (by omega))
  have hp4 : PAt T a p d s2 w4 := (hp2.keep hal).grown hgrow (fun k hk => ⟨by have := (hv k hk).1; omega, (own_far HO (by decide) hk).of ((n3 k (by have := (hv k hk).2; omega)).trans (hb3.block k (hv k hk).2 (by have := (hv k hk).1; omega)))⟩)
  have hfe : Far w4 fb := ⟨_, _, heb4, by decide⟩
  refine ⟨hp4.setCell h3 hfe 1 _, ⟨(hgrow.os.trans (hal.os.trans hb3.os)), (hgrow.tape.trans (hal.tape.trans hb3.tape)), (hgrow.output.trans (hal.output.trans hb3.output)), by simp [World.setCell]; omega, fun b hb hp => ?_⟩, _, _, (blk_setCell heb4 1 _).trans rfl, ownsRow_setCell_other hown4 (by simp [Value.ownBlock]; omega) _, fun l' hl' => ?_⟩
  · rw [heap_far (by omega), n4 b (by omega) (fun e => by have := (hv b e).1; omega)]
    exact hb3.block b (by omega) hp
  · obtain ⟨y, j, l0, hr, hes, rfl⟩ := Rs.add_some hl'
    obtain ⟨hl0, hr0⟩ := HS l0 hes
    obtain rfl := HR y j hr
    exact ⟨by simp [hl0], by rw [hr0, textsC_snoc]⟩
theorem str_info : (Tryd.prog.info? 9).map (fun i => (i.zero, i.size, i.bytes)) = some (some (.string ⟨#[]⟩), 1, 16) := by kernel_rfl
theorem str_one (x : List UInt8) : ∀ u ∈ ([.string ⟨x.toArray⟩] : List Value), u.oneCell' = true := by
  intro u hu
  simp only [List.mem_cons, List.not_mem_nil, or_false] at hu
  rcases hu with rfl; rfl
set_option maxHeartbeats 3000000 in
set_option maxRecDepth 100000 in
theorem pars_any {T : List Tok} {a : Nat → Addr} {p d : Nat} {s : Rs Unit} {w : World} (h : PAt T a p d s w) (xb fb cnt : Nat) (nm : ByteArray) (ps : Option (List (List UInt8)))
    (hxb : w.heap[xb]? = some (.cells #[ptrV p] 58 (0, 0))) (ha : Pars fb nm cnt ps w) (hcnt : cnt ≤ 1000) (h2 : p < xb) (h3 : p < fb) :
    Calls Tryd.prog 36 #[ptrV fb, ptrV xb] w fun e w' => e = .returned (.tuple #[]) ∧ PAt T a p d (nameR T s).st w' ∧ Bb p fb w w' ∧ Pars fb nm (cnt + 1) ((nameR T s).add ps) w' := by
  obtain ⟨i0, hi, hz0, hz1, hz2⟩ := info_parts str_info
  obtain ⟨v, xs, heb, hown, hes⟩ := ha
  have c2 : w.cell? ⟨xb, 0, none⟩ = some (ptrV p) := cell_of_blk hxb 0
  have c3 : w.cell? ⟨fb, 1, none⟩ = some v := cell_of_blk heb 1
  have g3 : w.frozen? ⟨fb, 1, none⟩ = false := free_of_blk heb 1
  have hlt := heap_lt heb
  have hl2 := heap_lt hxb
  have HE := hid heb
  have HS := hid hes
  clear hxb heb hes
  obtain ⟨adv, capv, rfl⟩ := tokEmpty' hown
  have HO := hid hown
  have hbase : fb + 1 ≤ w.heap.size := hlt
  clear hown
  have hcall : ∀ X, Below w.heap.size w X → Calls Tryd.prog 34 #[ptrV p] X fun e w' => ∃ v, e = .returned v ∧ ∃ x : List UInt8, v = .string ⟨x.toArray⟩ ∧ (∀ y j, nameR T s = .ok y j → x = y) ∧ PAt T a p d (nameR T s).st w' ∧ But p X w' := fun X hX => by
    refine (tname_any (h.keep hX)).mono ?_
    rintro e w2 ⟨x, rfl, g1, g2, g3⟩
    exact ⟨_, rfl, x, rfl, g1, g2, g3⟩
  have HC := hid hcall
  have hf : ∀ args w, (callFunc 34 args).run Tryd.prog w = .ok (.enter 34 args) w := enters_of Tryd.func34 (by kernel_rfl) rfl
  clear hcall
  have hci : (cnt : Int) < (cnt : Int) + 1 := by omega
  go_enter Tryd.func36, Tryd.ntmps36
  go_region_law (first
      | (refine step_append_lies _ rfl (.tmp 3) (.tmp 6) 49 rfl (fb + 1) 9 i0 _ 1 16 Tryd.underlying49 hi hz0 hz1 hz2 rfl (by decide) _ cnt xs (by first | (simp [Act.eval]; done) | (simp [Act.eval, Act.put]; done)) (own_but HO.out (by first | assumption | exact But.alloc (by assumption) _) (by omega)) ⟨_, 0, none⟩ 1 1 [.string ⟨x.toArray⟩] (by first | (simp [Act.eval]; done) | (simp [Act.eval]; rfl) | (simp [Act.eval, Act.put]; done) | (simp [Act.eval, Act.put]; rfl)) rfl (World.news_of_block (by first | exact heap_alloc_new _ _ | exact heap_keep hb2 (heap_alloc_new _ _) (by omega))) (str_one x) (by decide) (by show cnt + 1 ≤ 9223372036854775807; omega) (by omega) (by first | omega | (simp; omega)) _ rfl ?_; intro g cap w4 hown4 hgrow hat hlt4; have hg1 : fb < g := (hown4.lt g rfl).1; have k4 : w4.cell? ⟨fb, 1, none⟩ = some (.slice adv cnt capv) := arg_far HO.out hgrow (by first | omega | (simp; omega)) (by first | exact k3 | exact cell_keep (But.alloc (But.refl p _) _) k3 (by omega)); have g4 : w4.frozen? ⟨fb, 1, none⟩ = false := arg_free HO.out hgrow (by first | omega | (simp; omega)) (by first | exact heap_keep hb3 HE.out (by omega) | exact heap_keep (But.alloc hb3 _) HE.out (by omega)))
      | (refine step_call rfl 34 #[.tmp 4] #[58] rfl #[ptrV p] (by first | (simp [Act.eval]; done) | (simp [Act.eval, Act.put]; done)) hf _ (HC.out _ (by (repeat (first | exact Below.refl _ _ | assumption | refine Below.drew ?_ | refine Below.trans ?_ (drewN_below' _ _ _) | refine Below.setCell ?_ (by first | (simp; done) | (simp; omega)) _ | refine Below.alloc ?_ (by first | (simp; done) | (simp; omega)) _)))) ?_; rintro v2 w2 ⟨x, rfl, hrep, hp2, hb2⟩; have hb3 : But p w w2 := But.trans (by (repeat (first | exact But.refl _ _ | assumption | refine But.drew ?_ | refine But.drewN ?_ _ | refine But.set ?_ _ _ | refine But.setNew ?_ _ _ (by first | (simp; done) | (simp; omega)) _ | refine But.alloc ?_ _))) hb2; have k2 : w2.cell? ⟨xb, 0, none⟩ = some (ptrV p) := cell_keep hb3 c2 (by omega); have k3 := cell_keep hb3 c3 (by omega); have hz := hb3.size; have le2 : fb < w2.heap.size := (by omega); have lx2 : xb < w2.heap.size := (by omega); have HR := hid hrep; clear hrep))
  all_goals go_end0
  all_goals exact ⟨rfl, pars_done h3 hb3 hp2 (by first | exact Below.refl _ _ | exact (Below.refl _ _).alloc (Nat.le_refl _) _) hgrow HE.out HO.out HS.out HR.out hown4⟩
end Go.Proofs.YtcebpmaggnephabDoor
