/-
  Our own: package check: a function's variables, and whom it calls.
-/
import Derived.Test.YtcebpmaggnephabGreatDoorCheckStmts
namespace Go.Proofs.YtcebpmaggnephabGreatDoor
open Go.RowKit Go.Maps

theorem own_base {B B' n size : Nat} {t : TypeId} {w : World} {v : Value} {xs : List Value} (h : w.ownsRow B t size v n xs) (hB : B' ≤ B) : w.ownsRow B' t size v n xs := by
  rcases h with ⟨h1, h2 | ⟨g, cap, cur, h3, h4, h5⟩⟩
  · exact ⟨h1, Or.inl h2⟩
  · exact ⟨h1, Or.inr ⟨g, cap, cur, h3, by omega, h5⟩⟩
theorem second_new (w : World) (a b : Obj) : ((w.alloc a).alloc b).heap[w.heap.size + 1]? = some b := by
  have := heap_alloc_new (w.alloc a) b
  rwa [show (w.alloc a).heap.size = w.heap.size + 1 by simp] at this
theorem list_first {w : World} {lb : Nat} {acc : List (List UInt8)} {ad : Option Addr} {c : Nat} {v : Value} (h : w.heap[lb]? = some (.cells #[v] 46 (0, 0))) (ho : w.ownsRow (lb + 1) 9 1 (.slice ad acc.length c) acc.length (textsC acc)) : ListAt (w.setCell ⟨lb, 0, none⟩ (.slice ad acc.length c)) lb acc := by
  have := blk_setCell h 0 (.slice ad acc.length c)
  refine ⟨ad, c, by simpa using this, ?_⟩
  rcases ho with ⟨o1, o2 | ⟨gg, cc, cur, o3, o4, o5, o6⟩⟩
  · exact ⟨o1, Or.inl o2⟩
  · exact ⟨o1, Or.inr ⟨gg, cc, cur, o3, o4, (Below.heap_setCell _ _ _ _ (show gg ≠ lb by omega)).trans o5, o6⟩⟩
/-- What a list of texts comes to. -/
def TextsTo (w : World) (l : List (List UInt8)) (e : Ending) (w' : World) : Prop :=
  Below w.heap.size w w' ∧ ∃ ad c, e = .returned (.slice ad l.length c) ∧ w'.ownsRow w.heap.size 9 1 (.slice ad l.length c) l.length (textsC l)
set_option maxRecDepth 100000 in
set_option maxHeartbeats 2000000 in
theorem vars_any (x : Fu) (w : World) (cs : List Value) (hX : XF (InH w) w x cs) (hL : LowF x) (hN : nodesS x.body ≤ 1000) :
    Calls Tryz.prog 18 #[.agg cs.toArray] w (TextsTo w (varsF x)) := by
  obtain ⟨xn, xp, xb⟩ := x
  obtain ⟨pv, bv, bs, rfl, r2, r3, r4⟩ := hX
  obtain ⟨l1, l2, l3, l4, l5⟩ := hL
  simp only at r2 r3 r4 l1 l2 l3 l4 l5 hN
  obtain ⟨adp, cp, rfl⟩ := r2.is
  obtain ⟨adb, cb, rfl⟩ := r3.is
  have hP : ∀ X, Below w.heap.size w X → XRow (InH X) X (.slice adp xp.length cp) xp.length (textsC xp) := fun X hX => r2.imp (inH_up hX) (keepH hX)
  have hE : ∀ X acc, Below w.heap.size w X → VSt X (w.heap.size + 1) acc 8 → Calls Tryz.prog 42 #[.slice adb xb.length cb, cloV (w.heap.size + 1)] X fun ev w' => ev = .returned (.tuple #[]) ∧ LFr (w.heap.size + 1) (w.heap.size + 1) X w' ∧ VSt w' (w.heap.size + 1) (acc ++ varsS xb) (8 + nodesS xb) := fun X acc hX hS =>
    each_anyV xb X _ _ acc 8 hS ⟨bs, r3.imp (fun b (hb : b < w.heap.size) => by omega) (fun b hb => hX.block b hb), XSs.imp (fun b (hb : b < w.heap.size) => by omega) (fun b hb => hX.block b hb) _ _ r4⟩ l4 l5 (by omega)
  have hbb : Below w.heap.size w ((w.alloc (.cells #[.string ⟨xn.toArray⟩, .slice adp xp.length cp, .slice adb xb.length cb] 50)).alloc (.cells #[.slice none 0 0] 46)) := bl_trans (box_blk _ _ _) (by simp) (box_blk _ _ _)
  have hP1 := hP _ hbb
  have HP := hidX hP1
  have HE := hidX hE
  have HBB := hidX hbb
  clear hP hE r2 r3 r4 l5 l3 hP1 hbb
  go_enter Tryz.func18, Tryz.ntmps18
  go_wp2_with (first | (at_builtin; refine wpList_append_texts rfl _ _ rfl rfl (.slice adp xp.length cp) rfl xp (by omega) HP.out ?_; intro ad2 c2 w2 ho2 hb2; have s2 := hb2.size; have e0 : w2.heap[w.heap.size + 1]? = some (.cells #[.slice none 0 0] 46 (0, 0)) := (hb2.block _ (by simp)).trans (second_new w _ _); have e1 : w2.cell? ⟨w.heap.size + 1, 0, none⟩ = some (.slice none 0 0) := cell_of_blk e0 0; have e2 := free_of_blk e0 0; have e3 : w2.heap[w.heap.size]? = _ := (hb2.block _ (by simp; omega)).trans (two_new w _ _); have e4 : w2.cell? ⟨w.heap.size, 2, none⟩ = some (.slice adb xb.length cb) := cell_of_blk e3 2; have E0 := hidX e0; clear e0 e3) | fail)
  have hsz : ((w.alloc (.cells #[.string ⟨xn.toArray⟩, .slice adp xp.length cp, .slice adb xb.length cb] 50)).alloc (.cells #[.slice none 0 0] 46)).heap.size = w.heap.size + 1 + 1 := by simp
  rw [hsz] at ho2 s2
  have hv4 := list_first E0.out ho2
  have hb4 : Below w.heap.size w (w2.setCell ⟨w.heap.size + 1, 0, none⟩ (.slice ad2 xp.length c2)) := (bl_trans HBB.out HBB.out.size hb2).setCell (by show w.heap.size ≤ w.heap.size + 1; omega) _
  have hev := HE.out _ xp hb4 ⟨hv4, by omega⟩
  have HEV := hidX hev
  have HV4 := hidX hv4
  clear hev hv4 ho2 hb2 hsz
  refine HEV.out.mono ?_
  rintro e w5 ⟨rfl, hf5, hl5, _⟩
  have hb5 : Below w.heap.size w w5 := hb4.trans (hf5.below HV4.out (Nat.le_refl _) (Nat.le_succ _))
  obtain ⟨ad5, c5, k5, o5⟩ := hl5
  have g5 : w5.cell? ⟨w.heap.size + 1, 0, none⟩ = some (.slice ad5 (xp ++ varsS xb).length c5) := cell_of_blk k5 0
  have O5 := hidX o5
  clear e1 e2 e4 o5 k5
  go_wp2
  go_ret
  exact ⟨hb5, ad5, c5, by rw [show (varsF ⟨xn, xp, xb⟩).length = xp.length + (varsS xb).length by simp [varsF]]; rfl, own_base O5.out (by omega)⟩
theorem calls_start (w : World) (o : Obj) : Below w.heap.size w ((((w.alloc o).alloc (.cells #[.slice none 0 0] 46)).alloc (.map #[] 0)).alloc (.cells #[.map (some (w.heap.size + 1 + 1))] 86)) ∧
    CSt ((((w.alloc o).alloc (.cells #[.slice none 0 0] 46)).alloc (.map #[] 0)).alloc (.cells #[.map (some (w.heap.size + 1 + 1))] 86)) (w.heap.size + 1) (w.heap.size + 1 + 1 + 1) (w.heap.size + 1 + 1) [] 0 := by
  have hs : ((w.alloc o).alloc (.cells #[.slice none 0 0] 46)).heap.size = w.heap.size + 1 + 1 := by simp
  have hs3 : (((w.alloc o).alloc (.cells #[.slice none 0 0] 46)).alloc (.map #[] 0)).heap.size = w.heap.size + 1 + 1 + 1 := by simp
  have b1 : ((((w.alloc o).alloc (.cells #[.slice none 0 0] 46)).alloc (.map #[] 0)).alloc (.cells #[.map (some (w.heap.size + 1 + 1))] 86)).heap[w.heap.size + 1]? = some (.cells #[.slice none 0 0] 46 (0, 0)) := by
    rw [Below.heap_alloc _ _ _ (by rw [hs3]; omega), Below.heap_alloc _ _ _ (by rw [hs]; omega)]
    exact second_new w _ _
  have hmap : (((w.alloc o).alloc (.cells #[.slice none 0 0] 46)).alloc (.map #[] 0)).ownsMap (H := Unit) Tryz.prog 9 (plainElem Tryz.prog 3) (w.heap.size + 1 + 1) 0 (.map []) := by
    rw [← hs]; exact World.ownsMap_made _ _ _ _
  refine ⟨?_, ⟨none, 0, b1, World.ownsRow_nil _ _ _ _⟩, ?_, ?_, Nat.le_refl _, ⟨by omega, by omega, by omega⟩, .map [], hmap.alloc _, fun s => ⟨0, rfl, Nat.le_refl _, by simp⟩⟩
  · exact ((((Below.refl w.heap.size w).alloc (Nat.le_refl _) _).alloc (by simp) _).alloc (by simp; omega) _).alloc (by simp; omega) _
  · have := heap_alloc_new (((w.alloc o).alloc (.cells #[.slice none 0 0] 46)).alloc (.map #[] 0)) (.cells #[.map (some (w.heap.size + 1 + 1))] 86)
    rwa [hs3] at this
  · rintro ⟨ad, n, c, h1, h2⟩
    rw [b1] at h1
    injection h1 with h1
    injection h1 with h1
    have h5 : Value.slice none 0 0 = .slice ad n c := by simpa using h1
    rw [← h5] at h2
    cases h2
set_option maxRecDepth 100000 in
set_option maxHeartbeats 2000000 in
theorem calls_any (x : Fu) (w : World) (cs : List Value) (hX : XF (InH w) w x cs) (hL : LowF x) (hN : nodesS x.body ≤ 1000) :
    Calls Tryz.prog 20 #[.agg cs.toArray] w (TextsTo w (callsF x)) := by
  obtain ⟨xn, xp, xb⟩ := x
  obtain ⟨pv, bv, bs, rfl, r2, r3, r4⟩ := hX
  obtain ⟨l1, l2, l3, l4, l5⟩ := hL
  simp only at r2 r3 r4 l1 l2 l3 l4 l5 hN
  obtain ⟨adp, cp, rfl⟩ := r2.is
  obtain ⟨adb, cb, rfl⟩ := r3.is
  have hE : ∀ X, Below w.heap.size w X → CSt X (w.heap.size + 1) (w.heap.size + 1 + 1 + 1) (w.heap.size + 1 + 1) [] 0 → Calls Tryz.prog 42 #[.slice adb xb.length cb, cloS (w.heap.size + 1 + 1 + 1) (w.heap.size + 1)] X fun ev w' => ev = .returned (.tuple #[]) ∧ LFr (w.heap.size + 1 + 1) (w.heap.size + 1) X w' ∧ CSt w' (w.heap.size + 1) (w.heap.size + 1 + 1 + 1) (w.heap.size + 1 + 1) (onceL [] (callsS xb)) (0 + nodesS xb) := fun X hX hS =>
    each_anyC xb X _ _ _ _ [] 0 hS ⟨bs, r3.imp (fun b (hb : b < w.heap.size) => by omega) (fun b hb => hX.block b hb), XSs.imp (fun b (hb : b < w.heap.size) => by omega) (fun b hb => hX.block b hb) _ _ r4⟩ l4 l5 (by omega)
  have HE := hidX hE
  have hmm := @run_makeMap Tryz.prog
  clear hE r2 r3 r4 l5 l3
  obtain ⟨hbX, hcX⟩ := calls_start w (.cells #[.string ⟨xn.toArray⟩, .slice adp xp.length cp, .slice adb xb.length cb] 50)
  have hev := HE.out _ hbX hcX
  have HEV := hidX hev
  have HCX := hidX hcX
  clear hev hcX
  go_enter Tryz.func20, Tryz.ntmps20
  go_wp2_with fail
  refine HEV.out.mono ?_
  rintro e w5 ⟨rfl, hf5, hc5⟩
  have hb5 : Below w.heap.size w w5 := hbX.trans (hf5.below HCX.out.list (Nat.le_succ _) (Nat.le_succ _))
  obtain ⟨ad5, c5, k5, o5⟩ := hc5.list
  have hcf : callsF ⟨xn, xp, xb⟩ = onceL [] (callsS xb) := rfl
  have HCF := hidX hcf
  generalize onceL [] (callsS xb) = L at k5 o5 HCF
  have g5 : w5.cell? ⟨w.heap.size + 1, 0, none⟩ = some (.slice ad5 L.length c5) := cell_of_blk k5 0
  have O5 := hidX o5
  clear o5 k5 hcf hc5
  go_wp2
  go_ret
  exact ⟨hb5, ad5, c5, by rw [HCF.out]; rfl, by rw [HCF.out]; exact own_base O5.out (by omega)⟩
end Go.Proofs.YtcebpmaggnephabGreatDoor
