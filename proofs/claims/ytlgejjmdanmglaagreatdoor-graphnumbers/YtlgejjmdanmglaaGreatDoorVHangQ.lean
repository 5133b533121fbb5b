/- Our own: texts joined: Queue, GrHangs. -/
import Derived.Test.YtlgejjmdanmglaaGreatDoorVBase
import Derived.OwnWalk
import Derived.Deep.AppendSrc
import Derived.Deep.AppendLies
import Derived.Laws.AppendOwn
import Derived.Test.YtlgejjmdanmglaaGreatDoorVGrTakers
import Derived.Test.YtlgejjmdanmglaaGreatDoorVNoteV
import Derived.Deep.LoopGhost
namespace Go.Proofs.YtlgejjmdanmglaaGreatDoor
open Go.RowKit
def natsQ (l : List Nat) : List Value := l.map fun (x : Nat) => .int .i64 (x : Int)
structure QAt (w : World) (B : Nat) (ad : Option Addr) (n cap : Nat) (l : List Nat) : Prop where
 len : l.length = n
 room : n ≤ cap
 max : cap ≤ maxLen
 blk : cap ≠ 0 → ∃ g off cur, ad = some ⟨g, off, none⟩ ∧ w.heap[g]? = some (.cells cur 3 (0, 0)) ∧ off + cap ≤ cur.size ∧ ∀ j (hj : j < l.length), cur[off + j]? = some (.int .i64 ((l[j] : Nat) : Int))
 new : ∀ a, ad = some a → B ≤ a.block ∧ a.block < w.heap.size
theorem QAt.keep {w w' : World} {B n cap : Nat} {ad : Option Addr} {l : List Nat} (h : QAt w B ad n cap l) (hz : w.heap.size ≤ w'.heap.size) (hk : ∀ a, ad = some a → w'.heap[a.block]? = w.heap[a.block]?) : QAt w' B ad n cap l := by
 refine ⟨h.len, h.room, h.max, fun hc => ?_, fun a ha => ⟨(h.new a ha).1, by have := (h.new a ha).2; omega⟩⟩
 obtain ⟨g, off, cur, h1, h2, h3, h4⟩ := h.blk hc
 exact ⟨g, off, cur, h1, (hk _ h1).trans h2, h3, h4⟩
theorem QAt.below {w w' : World} {B n cap : Nat} {ad : Option Addr} {l : List Nat} (h : QAt w B ad n cap l) (hb : Below w.heap.size w w') : QAt w' B ad n cap l := h.keep hb.size fun a ha => hb.block _ (h.new a ha).2
theorem QAt.head {w : World} {B n cap : Nat} {ad : Option Addr} {l : List Nat} {x : Nat} (h : QAt w B ad n cap (x :: l)) : ∃ g off, ad = some ⟨g, off, none⟩ ∧ w.cell? ⟨g, off, none⟩ = some (.int .i64 (x : Int)) ∧ n = l.length + 1 ∧ 1 ≤ cap ∧ (cap ≠ 1 → QAt w B (some ⟨g, off + 1, none⟩) l.length (cap - 1) l) ∧ (cap = 1 → ∀ ad', (∀ a, ad' = some a → a.block = g) → QAt w B ad' 0 0 [] ∧ l = []) := by
 have hl := h.len
 have hr := h.room
 rw [List.length_cons] at hl
 obtain ⟨g, off, cur, h1, h2, h3, h4⟩ := h.blk (by omega)
 have hnew := h.new _ h1
 refine ⟨g, off, h1, ?_, by omega, by omega, fun hc => ⟨rfl, by omega, by have := h.max; omega, fun _ => ⟨g, off + 1, cur, rfl, h2, by omega, fun j hj => ?_⟩, fun a ha => by injection ha with ha; subst ha; exact hnew⟩, fun hc ad' had => ⟨⟨rfl, Nat.le_refl _, Nat.zero_le _, fun h => absurd rfl h, fun a ha => by rw [had a ha]; exact hnew⟩, List.length_eq_zero_iff.1 (by omega)⟩⟩
 ·rw [cell_of_blk h2]
  have := h4 0 (by simp)
  simpa using this
 ·have := h4 (j + 1) (by simpa using hj)
  rw [show off + 1 + j = off + (j + 1) by omega]
  simpa using this
theorem QAt.push {w : World} {B n cap : Nat} {ad : Option Addr} {l : List Nat} (h : QAt w B ad n cap l) (hn : n ≤ 1000000) (hB : B ≤ w.heap.size) (x : Nat) (sb : Nat) (hs : w.heap[sb]? = some (.cells #[.int .i64 (x : Int)] 3 (0, 0))) (ty : TypeId) :
  ∃ ad' cap' w', (Builtin.append_ #[40, 40] ty #[.slice ad n cap, .slice (some ⟨sb, 0, none⟩) 1 1]).run Tryz.prog w = .ok (.slice ad' (n + 1) cap') w' ∧ QAt w' B ad' (n + 1) cap' (l ++ [x]) ∧ w.grownBy w' (Value.slice ad n cap).ownBlock ∧ ∀ a, ad' = some a → (∃ a0, ad = some a0 ∧ a.block = a0.block) ∨ a.block = w.heap.size := by
 obtain ⟨i0, hi, iz0, iz1, iz2⟩ := info_parts int_info
 have hsrc : Src Tryz.prog i0.size 40 (.slice (some ⟨sb, 0, none⟩) 1 1) 1 [.int .i64 (x : Int)] w := Src.ofSlice w Tryz.underlying40 ⟨sb, 0, none⟩ 1 1 _ (by rw [iz1]; rfl) (World.news_of_block hs) (int_one _)
 by_cases hr : n + 1 ≤ cap
 ·obtain ⟨g, off, cur, h1, h2, h3, h4⟩ := h.blk (by omega)
  subst h1
  have hc : ∀ j, j < ([.int .i64 (x : Int)] : List Value).length → (w.cell? ⟨g, off + n * i0.size + j, none⟩).isSome = true := fun j hj => by
   rw [cell_of_blk h2, iz1]
   simp at hj
   subst hj
   simp; omega
  have hrun := run_append_room_src w 40 40 ty 3 i0 Tryz.underlying40 hi g off n cap _ 1 _ hsrc hr hc (fun j _ => free_of_blk h2 _)
  rw [iz1, Nat.mul_one] at hrun
  have hset : w.setCells g (off + n) [.int .i64 (x : Int)] = w.setCell ⟨g, off + n, none⟩ (.int .i64 (x : Int)) := rfl
  rw [hset] at hrun
  refine ⟨_, _, _, hrun, ⟨by rw [List.length_append, h.len]; rfl, hr, h.max, fun _ => ⟨g, off, _, rfl, blk_setCell h2 (off + n) (.int .i64 (x : Int)), by simpa using h3, fun j hj => ?_⟩, fun a ha => by have := h.new a ha; simpa [World.setCell] using this⟩, ⟨rfl, rfl, rfl, by simp [World.setCell], fun k _ hk => Below.heap_setCell _ _ _ _ (fun e => hk (by rw [e]; rfl))⟩, fun a ha => Or.inl ⟨a, ha, rfl⟩⟩
  rw [List.length_append, h.len] at hj
  by_cases e : j = n
  ·subst e
   rw [Array.getElem?_setIfInBounds_self_of_lt (by omega)]
   simp [← h.len]
  ·have hjl : j < l.length := by rw [h.len]; simp at hj; omega
   rw [Array.getElem?_setIfInBounds_ne (by omega), h4 j hjl, List.getElem_append_left hjl]
 ·have holds : (Builtin.firstCells i0.size n (.slice ad n cap)).run Tryz.prog w.drew = .ok (natsQ l).toArray w.drew := by
   by_cases hc : cap = 0
   ·have hn0 : n = 0 := by have := h.room; omega
    have hl0 : l = [] := List.length_eq_zero_iff.1 (by rw [h.len]; exact hn0)
    subst hl0
    subst hn0
    cases ad with
    | none => exact run_firstCells_none w.drew i0.size 0 0 cap
    | some b => exact run_firstCells_some w.drew i0.size 0 b 0 cap [] (by simp) (by simp)
   ·obtain ⟨g, off, cur, h1, h2, h3, h4⟩ := h.blk hc
    subst h1
    refine run_firstCells_some w.drew i0.size n ⟨g, off, none⟩ n cap (natsQ l) (by simp [natsQ, h.len, iz1]) (fun j v hv => ?_)
    have hj : j < l.length := by
     rcases Nat.lt_or_ge j l.length with h' | h'
     ·exact h'
     ·rw [List.getElem?_eq_none (by simpa [natsQ] using h')] at hv; cases hv
    have hv' : v = .int .i64 ((l[j] : Nat) : Int) := by simp [natsQ, hj] at hv; exact hv.symm
    subst hv'
    have : ((⟨g, off, none⟩ : Addr).add j) = ⟨g, off + j, none⟩ := Addr.add_lit _ _ _
    rw [this]
    exact (cell_of_blk (w := w.drew) h2 (off + j)).trans (h4 j hj)
  have hrun := run_append_grow_src w 40 40 ty 3 i0 _ Tryz.underlying40 hi iz0 ad n cap (natsQ l) holds _ 1 _ hsrc (by omega) (by omega) (growslice_fits (by omega) (by rw [iz2]; omega))
  have hge := grownCap_ge w (n + 1) cap 3
  have hcm : grownCap w (n + 1) cap 3 ≤ maxLen := grownCap_le_maxLen w (n + 1) cap 3 (by unfold maxLen; omega)
  generalize grownCap w (n + 1) cap 3 = gc at *
  refine ⟨_, _, _, hrun, ⟨by rw [List.length_append, h.len]; rfl, hge, hcm, fun _ => ⟨w.heap.size, 0, _, rfl, heap_alloc_new w.drew _, ?_, fun j hj => ?_⟩, fun a ha => ?_⟩, ⟨rfl, rfl, rfl, by simp, fun k hk _ => Below.heap_alloc w.drew _ k hk⟩, fun a ha => ?_⟩
  ·simp only [Array.size_append, List.size_toArray, size_zeroCells, List.length_append, natsQ, List.length_map, h.len, List.length_singleton]
   show 0 + gc ≤ n + 1 + (gc - (n + 1)) * 1
   omega
  ·rw [Nat.zero_add]
   have hjl : j < (natsQ l ++ [Value.int .i64 (x : Int)]).length := by simpa [natsQ] using hj
   have key : (natsQ l ++ [Value.int .i64 (x : Int)])[j]'hjl = .int .i64 (((l ++ [x])[j]'hj : Nat) : Int) := by
    by_cases e : j < l.length
    ·rw [List.getElem_append_left (by simpa [natsQ] using e), List.getElem_append_left e]; simp [natsQ]
    ·have : j = l.length := by simp at hj; omega
     subst this
     simp [natsQ]
   rw [Array.getElem?_append_left (by simpa using hjl), List.getElem?_toArray, List.getElem?_eq_getElem hjl, key]
  ·injection ha with ha; subst ha; exact ⟨hB, by simp⟩
  ·injection ha with ha; subst ha; exact Or.inr rfl
theorem wpList_append_q {ops : Array Oper} {rest : List Oper} {o : Oper} {a : Act} {w : World} {Q : Exit → Act → World → Prop} (hgd : o.guard = none) (s x : Operand) (ho : o.op = .call { callee := .builtin .append, args := #[s, x], argTypes := #[40, 40] })
  {B n cap : Nat} {ad : Option Addr} {l : List Nat} (hv : a.eval s = .slice ad n cap) (h : QAt w B ad n cap l) (hn : n ≤ 1000000) (hB : B ≤ w.heap.size) (y : Nat) (sb : Nat) (hx : a.eval x = .slice (some ⟨sb, 0, none⟩) 1 1) (hs : w.heap[sb]? = some (.cells #[.int .i64 (y : Int)] 3 (0, 0)))
  (hK : ∀ ad' cap' w', QAt w' B ad' (n + 1) cap' (l ++ [y]) → w.grownBy w' (Value.slice ad n cap).ownBlock → (∀ a, ad' = some a → (∃ a0, ad = some a0 ∧ a.block = a0.block) ∨ a.block = w.heap.size) → wpList Tryz.prog ops Q rest (a.put o.dst (.slice ad' (n + 1) cap')) w') : wpList Tryz.prog ops Q (o :: rest) a w := by
 obtain ⟨ad', cap', w', hr, h2, h3, h4⟩ := h.push hn hB y sb hs o.type
 refine wpList_plain hgd fun K hK' => ?_
 unfold Oper.wp
 simp [execOp, ho, resolve, invoke, builtin, hv, hx, hr, Result.andThen]
 exact hK' _ _ (hK ad' cap' w' h2 h3 h4)
end Go.Proofs.YtlgejjmdanmglaaGreatDoor
namespace Go.Proofs.YtlgejjmdanmglaaGreatDoor
open Go.RowKit
theorem rSum_any (k : List UInt8) (w : World) : Calls Tryz.prog 24 #[.string ⟨k.toArray⟩] w fun e w' => e = .returned (.bool (k == gOne || k == gTwo)) ∧ w' = w := by
 show Calls Tryz.prog _ _ w fun e w' => e = .returned (.bool (k == [111, 110, 101] || k == [116, 119, 111])) ∧ w' = w
 generalize h1 : (k == [111, 110, 101]) = b1
 generalize h2 : (k == [116, 119, 111]) = b2
 cases b1 with
 | true =>
  go_enter Tryz.func24, Tryz.ntmps24
  go_wp2
  go_ret
  exact ⟨by simp, rfl⟩
 | false =>
  go_enter Tryz.func24, Tryz.ntmps24
  go_wp2
  go_ret
  exact ⟨by simp, rfl⟩
def sumB (L : List Nd) (x : Int) : Bool := (ndAt L x).kind == gOne || (ndAt L x).kind == gTwo
theorem rk_iff (L : List Nd) (a b : Nat) : Rk L a b ↔ sumB L a = true ∧ (b : Int) ∈ (ndAt L a).ins := by
 unfold Rk reck sumB
 split
 ·next h => simp [h]
 ·next h => simp; simp [not_or] at h; simp [h]
structure Hs (L : List Nd) (i : Nat) (seen : List Bool) (todo : List Nat) (vis : List Nat) : Prop where
 len : seen.length = L.length
 come : ∀ x, x ∈ todo ∨ x ∈ vis → Star (Rk L) i x ∧ x < L.length ∧ sumB L x = true
 each : ∀ x, seenP seen x → x ∈ todo ∨ x ∈ vis
 first : i ∈ todo ∨ i ∈ vis
 next : ∀ x ∈ vis, ∀ y : Nat, Rk L x y → sumB L y = true → y ≠ i ∧ seenP seen y
theorem Hs.no {L : List Nd} {i : Nat} {seen : List Bool} {vis : List Nat} (h : Hs L i seen [] vis) : ¬ Hang L i := by
 rw [hang_iff]
 rintro ⟨v, h1, h2⟩
 have hi : i ∈ vis := h.first.resolve_left (by simp)
 have hsi := (h.come i (Or.inr hi)).2.2
 have key : v ∈ vis := by
  have : ∀ a b, Star (Rk L) a b → a ∈ vis → (b ∈ vis ∨ sumB L b = false) := by
   intro a b hab ha
   induction hab with
   | refl => exact Or.inl ha
   | @tail b c _ r ih =>
    rcases ih with ih | ih
    ·cases hs : sumB L c with
     | false => exact Or.inr rfl
     | true => exact Or.inl ((h.each c (h.next b ih c r hs).2).resolve_left (by simp))
    ·have := ((rk_iff L b c).1 r).1
     rw [ih] at this; cases this
  rcases this i v h1 hi with h' | h'
  ·exact h'
  ·have := ((rk_iff L v i).1 h2).1
   rw [h'] at this; cases this
 exact (h.next v key i h2 hsi).1 rfl
structure Hp (L : List Nd) (i : Nat) (seen : List Bool) (todo : List Nat) (vis : List Nat) (x q : Nat) : Prop where
 len : seen.length = L.length
 come : ∀ y, y ∈ todo ∨ y ∈ x :: vis → Star (Rk L) i y ∧ y < L.length ∧ sumB L y = true
 each : ∀ y, seenP seen y → y ∈ todo ∨ y ∈ x :: vis
 first : i ∈ todo ∨ i ∈ x :: vis
 next : ∀ y ∈ vis, ∀ z : Nat, Rk L y z → sumB L z = true → z ≠ i ∧ seenP seen z
 part : ∀ j, j < q → ∀ z : Nat, (ndAt L x).ins[j]? = some (z : Int) → sumB L z = true → z ≠ i ∧ seenP seen z
theorem Hp.start {L : List Nd} {i : Nat} {seen : List Bool} {t vis : List Nat} {x : Nat} (h : Hs L i seen (x :: t) vis) : Hp L i seen t vis x 0 := by
 have key : ∀ y, y ∈ x :: t ∨ y ∈ vis ↔ y ∈ t ∨ y ∈ x :: vis := fun y => by simp only [List.mem_cons]; exact ⟨fun h => by rcases h with (h | h) | h; exact Or.inr (Or.inl h); exact Or.inl h; exact Or.inr (Or.inr h), fun h => by rcases h with h | h | h; exact Or.inl (Or.inr h); exact Or.inl (Or.inl h); exact Or.inr h⟩
 exact ⟨h.len, fun y hy => h.come y ((key y).2 hy), fun y hy => (key y).1 (h.each y hy), (key i).1 h.first, h.next, fun j hj => absurd hj (by omega)⟩
theorem Hp.done {L : List Nd} {i : Nat} {seen : List Bool} {t vis : List Nat} {x : Nat} (h : Hp L i seen t vis x (ndAt L x).ins.length) : Hs L i seen t (x :: vis) := by
 refine ⟨h.len, h.come, h.each, h.first, fun y hy z hr hs => ?_⟩
 rcases List.mem_cons.1 hy with rfl | hy
 ·obtain ⟨j, hj, e⟩ := List.getElem_of_mem ((rk_iff L y z).1 hr).2
  exact h.part j hj z (by rw [List.getElem?_eq_getElem hj, e]) hs
 ·exact h.next y hy z hr hs
theorem Hp.skip {L : List Nd} {i : Nat} {seen : List Bool} {t vis : List Nat} {x q y : Nat} (h : Hp L i seen t vis x q) (hq : (ndAt L x).ins[q]? = some (y : Int)) (hy : sumB L y = false ∨ (y ≠ i ∧ seenP seen y)) : Hp L i seen t vis x (q + 1) := by
 refine ⟨h.len, h.come, h.each, h.first, h.next, fun j hj z hz hs => ?_⟩
 by_cases e : j = q
 ·subst e
  rw [hq] at hz
  injection hz with hz
  have : z = y := by omega
  subst this
  rcases hy with hy | hy
  ·rw [hy] at hs; cases hs
  ·exact hy
 ·exact h.part j (by omega) z hz hs
theorem Hp.push {L : List Nd} {i : Nat} {seen : List Bool} {t vis : List Nat} {x q y : Nat} (h : Hp L i seen t vis x q) (hq : (ndAt L x).ins[q]? = some (y : Int)) (hy : sumB L y = true) (hne : y ≠ i) (hyl : y < L.length) : Hp L i (seen.set y true) (t ++ [y]) vis x (q + 1) := by
 have hl : y < seen.length := by rw [h.len]; exact hyl
 have up : ∀ z, seenP seen z → seenP (seen.set y true) z := fun z hz => (seen_set hl).2 (Or.inl hz)
 have hxy : Rk L x y := (rk_iff L x y).2 ⟨(h.come x (Or.inr (by simp))).2.2, List.mem_of_getElem? hq⟩
 have h1 : Hp L i (seen.set y true) (t ++ [y]) vis x q := by
  refine ⟨by simp [h.len], fun z hz => ?_, fun z hz => ?_, ?_, fun z hz v hr hs => ?_, fun j hj z hz hs => ?_⟩
  ·rcases hz with hz | hz
   ·rcases List.mem_append.1 hz with hz | hz
    ·exact h.come z (Or.inl hz)
    ·have : z = y := by simpa using hz
     subst this
     exact ⟨(h.come x (Or.inr (by simp))).1.tail hxy, hyl, hy⟩
   ·exact h.come z (Or.inr hz)
  ·rcases (seen_set hl).1 hz with hz | hz
   ·rcases h.each z hz with h' | h'
    ·exact Or.inl (List.mem_append_left _ h')
    ·exact Or.inr h'
   ·subst hz; exact Or.inl (List.mem_append_right _ (by simp))
  ·rcases h.first with h' | h'
   ·exact Or.inl (List.mem_append_left _ h')
   ·exact Or.inr h'
  ·obtain ⟨a1, a2⟩ := h.next z hz v hr hs; exact ⟨a1, up _ a2⟩
  ·obtain ⟨a1, a2⟩ := h.part j hj z hz hs; exact ⟨a1, up _ a2⟩
 exact h1.skip hq (Or.inr ⟨hne, (seen_set hl).2 (Or.inr rfl)⟩)
theorem Hp.yes {L : List Nd} {i : Nat} {seen : List Bool} {t vis : List Nat} {x q : Nat} (h : Hp L i seen t vis x q) (hq : (ndAt L x).ins[q]? = some (i : Int)) : Hang L i := by
 rw [hang_iff]
 have hx := h.come x (Or.inr (by simp))
 exact ⟨x, hx.1, (rk_iff L x i).2 ⟨hx.2.2, List.mem_of_getElem? hq⟩⟩
theorem Hs.start {L : List Nd} {i : Nat} (hi : i < L.length) (hs : sumB L i = true) : Hs L i (List.replicate L.length false) [i] [] := by
 refine ⟨by simp, fun x hx => ?_, fun x hx => ?_, Or.inl (by simp), by simp⟩
 ·have : x = i := by rcases hx with h | h <;> simp at h; exact h
  subst this; exact ⟨.refl _, hi, hs⟩
 ·unfold seenP at hx
  rw [List.getElem?_replicate] at hx
  split at hx <;> simp at hx
structure HMem (w X : World) (nm0 : List UInt8) (P : Int) (gv : Value) (seen : List Bool) (ad : Option Addr) (n cap : Nat) (td : List Nat) : Prop where
 low : Below w.heap.size w X
 box : X.heap[w.heap.size]? = some (.cells #[.string ⟨nm0.toArray⟩, .int .i64 P, gv] 24 (0, 0))
 sn : X.heap[w.heap.size + 1]? = some (.cells (boolsG seen).toArray 4 (0, 0))
 q : QAt X (w.heap.size + 2) ad n cap td
theorem HMem.pop {w X : World} {nm0 : List UInt8} {P : Int} {gv : Value} {seen : List Bool} {ad ad' : Option Addr} {n cap n' cap' : Nat} {td td' : List Nat} (h : HMem w X nm0 P gv seen ad n cap td) (hq : QAt X (w.heap.size + 2) ad' n' cap' td') : HMem w X nm0 P gv seen ad' n' cap' td' := ⟨h.low, h.box, h.sn, hq⟩
theorem HMem.push {w X Z : World} {nm0 : List UInt8} {P : Int} {gv : Value} {seen : List Bool} {ad ad' : Option Addr} {n cap n' cap' : Nat} {td td' : List Nat} (h : HMem w X nm0 P gv seen ad n cap td) (y : Nat) (hg : ((X.setCell ⟨w.heap.size + 1, y, none⟩ (.bool true)).alloc (.cells #[.int .i64 (y : Int)] 3)).grownBy Z (Value.slice ad n cap).ownBlock) (hq : QAt Z (w.heap.size + 2) ad' n' cap' td') : HMem w Z nm0 P gv (seen.set y true) ad' n' cap' td' := by
 have hz : (X.setCell ⟨w.heap.size + 1, y, none⟩ (.bool true)).heap.size = X.heap.size := by simp [World.setCell]
 have hlz := h.low.size
 have hsz := hg.size
 rw [World.size_alloc, hz] at hsz
 have hne : ∀ k, k < w.heap.size + 2 → some k ≠ (Value.slice ad n cap).ownBlock := fun k hk e => by
  cases ad with
  | none => cases e
  | some a =>
   have := (h.q.new a rfl).1
   have : k = a.block := by simpa [Value.ownBlock] using e
   omega
 have key : ∀ k, k < w.heap.size + 2 → k < X.heap.size → k ≠ w.heap.size + 1 → Z.heap[k]? = X.heap[k]? := fun k hk hkl hk1 => by
  rw [hg.block k (by rw [World.size_alloc, hz]; omega) (hne k hk), Below.heap_alloc _ _ _ (by rw [hz]; exact hkl), Below.heap_setCell _ _ _ _ hk1]
 refine ⟨⟨hg.os.trans h.low.os, hg.tape.trans h.low.tape, hg.output.trans h.low.output, by omega, fun k hk => (key k (by omega) (by omega) (by omega)).trans (h.low.block k hk)⟩, (key _ (by omega) (heap_lt h.box) (by omega)).trans h.box, ?_, hq⟩
 have hs := blk_setCell h.sn y (.bool true)
 rw [boolsG_set] at hs
 have hl := heap_lt h.sn
 rw [hg.block _ (by rw [World.size_alloc, hz]; omega) (hne _ (by omega)), Below.heap_alloc _ _ _ (by rw [hz]; exact hl)]
 exact hs
theorem HMem.ready {w X : World} {nm0 : List UInt8} {P : Int} {gv : Value} {seen : List Bool} {ad : Option Addr} {n cap : Nat} {td : List Nat} (h : HMem w X nm0 P gv seen ad n cap td) (y : Nat) : QAt ((X.setCell ⟨w.heap.size + 1, y, none⟩ (.bool true)).alloc (.cells #[.int .i64 (y : Int)] 3)) (w.heap.size + 2) ad n cap td ∧ ((X.setCell ⟨w.heap.size + 1, y, none⟩ (.bool true)).alloc (.cells #[.int .i64 (y : Int)] 3)).heap[X.heap.size]? = some (.cells #[.int .i64 (y : Int)] 3 (0, 0)) := by
 have hz : (X.setCell ⟨w.heap.size + 1, y, none⟩ (.bool true)).heap.size = X.heap.size := by simp [World.setCell]
 refine ⟨h.q.keep (by rw [World.size_alloc, hz]; omega) fun a ha => ?_, ?_⟩
 ·obtain ⟨h1, h2⟩ := h.q.new a ha
  rw [Below.heap_alloc _ _ _ (by rw [hz]; exact h2), Below.heap_setCell _ _ _ _ (by show a.block ≠ w.heap.size + 1; omega)]
 ·have := heap_alloc_new (X.setCell ⟨w.heap.size + 1, y, none⟩ (.bool true)) (.cells #[.int .i64 (y : Int)] 3)
  rwa [hz] at this
theorem ask_ins {L : List Nd} {x : Nat} (hx : x < L.length) : (ndAt L (x : Int)).ins = L[x].ins := by rw [ndAt_get hx]
open Classical in
set_option maxRecDepth 100000 in
set_option maxHeartbeats 2000000 in
theorem hangs_any {w : World} (nm0 : List UInt8) (P : Int) (nv : Value) (L : List Nd) (hL : L.length ≤ 1000) (hlow : ∀ n ∈ L, LowN n) (hG : XG false (InH w) w nv L) (hW : ∀ n ∈ L, ∀ y ∈ n.ins, 0 ≤ y ∧ y < (L.length : Int)) (i : Nat) (hi : i < L.length) (hs : sumB L i = true) :
  Calls Tryz.prog 25 #[.agg #[.string ⟨nm0.toArray⟩, .int .i64 P, nv], .int .i64 i] w fun e w' => e = .returned (.bool (decide (Hang L i))) ∧ Below w.heap.size w w' := by
 obtain ⟨ad, cap, rfl⟩ := hG.is
 have hmk := run_make_row' (P := Tryz.prog) 68 4 (.bool false) 1 Tryz.underlying68 bool_infoG rfl .i64 .i64 L.length (by omega) (by omega)
 rw [made_bools] at hmk
 obtain ⟨W0, hW0⟩ : ∃ W0, W0 = ((w.alloc (.cells #[.string ⟨nm0.toArray⟩, .int .i64 P, .slice ad L.length cap] 24)).alloc (.cells (boolsG (List.replicate L.length false)).toArray 4)).alloc (.cells #[.int .i64 (i : Int)] 3) := ⟨_, rfl⟩
 obtain ⟨t1, t2, t3⟩ := threeG w (.cells #[.string ⟨nm0.toArray⟩, .int .i64 P, .slice ad L.length cap] 24) (.cells (boolsG (List.replicate L.length false)).toArray 4) (.cells #[.int .i64 (i : Int)] 3)
 rw [← hW0] at t1 t2 t3
 have hM0 : HMem w W0 nm0 P (.slice ad L.length cap) (List.replicate L.length false) (some ⟨w.heap.size + 2, 0, none⟩) 1 1 [i] := by
  refine ⟨by rw [hW0]; (repeat (first | exact Below.refl _ _ | assumption | refine Below.drew ?_ | refine bT ?_ _ | refine bS ?_ _ | refine bA ?_ _)), t1, t2, ⟨rfl, Nat.le_refl _, by unfold maxLen; omega, fun _ => ⟨_, 0, _, rfl, t3, by simp, fun j hj => ?_⟩, fun a ha => ?_⟩⟩
  ·have : j = 0 := by simpa using hj
   subst this; rfl
  ·injection ha with ha; subst ha; exact ⟨Nat.le_refl _, heap_lt t3⟩
 have HM0 := hidX hM0
 have HS0 := hidX (Hs.start hi hs)
 have HG := hidX hG
 have HLW := hidX hlow
 have HWY := hidX hW
 have hL' : (L.length : Int) ≤ 1000 := by omega
 have hun := unseen_rep L.length
 generalize hres : decide (Hang L i) = res
 have HRS := hidX hres
 clear hM0 hG hlow hW t1 t2 t3 hres hs
 go_enter Tryz.func25, Tryz.ntmps25
 go_wp2_with fail
 rw [← hW0]
 clear hW0 hmk
 go_loopg [6] (2 * L.length + 2) (fun k v6 wr => ∃ (ad6 : Option Addr) (n6 c6 : Nat) (sn : List Bool) (td vis : List Nat), v6 = .slice ad6 n6 c6 ∧ 2 * unseen sn + td.length < k ∧ unseen sn + td.length ≤ L.length + 1 ∧ Hid (HMem w wr nm0 P (.slice ad L.length cap) sn ad6 n6 c6 td) ∧ Hid (Hs L i sn td vis))
 case atStart => exact ⟨_, _, _, _, [i], [], rfl, by rw [hun]; simp, by rw [hun]; simp, HM0.out, HS0.out⟩
 case round =>
  obtain ⟨ad6, n6, c6, sn, td, vis, rfl, hk, hle, HM, HS⟩ := hrel
  have hln := HM.out.q.len
  cases td with
  | nil =>
   have hn6 : n6 = 0 := by simpa using hln.symm
   subst hn6
   have hr : res = false := by rw [← HRS.out]; exact decide_eq_false HS.out.no
   have HLO := hidX HM.out.low
   subst hr
   go_wp2
   go_ret
   exact ⟨rfl, HLO.out⟩
  | cons x t =>
   obtain ⟨g6, off6, e6, hc6, hn6, h1c, hq1, hq2⟩ := HM.out.q.head
   subst e6
   subst hn6
   have hxx := HS.out.come x (Or.inl (by simp))
   have hxl := hxx.2.1
   obtain ⟨gg, goff, ad1, cap1, eg, hgg, _, hrow, _, k1, _, _⟩ := HG.out.node hxl
   subst eg
   have hxl' : (x : Int) < (L.length : Int) := by omega
   have HIN := hidX (fun (y : Int) (hy : y ∈ L[x].ins) => HWY.out L[x] (List.getElem_mem hxl) y hy)
   have HII := hidX (ask_ins hxl)
   have HIL := hidX (congrArg List.length (ask_ins hxl))
   have hil := (HLW.out L[x] (List.getElem_mem hxl)).ins
   have HHP := hidX (Hp.start HS.out)
   have K1 := hidX k1
   have HROW := hidX hrow
   have HQ1 := hidX hq1
   have HQ2 := hidX hq2
   generalize L[x].ins = ii at *
   have hil' : (ii.length : Int) ≤ 1000 := by omega
   simp only [List.length_cons] at hk hle hln
   have htl : (t.length : Int) + 1 ≤ 2000 := by omega
   have h1c' : (1 : Int) ≤ (c6 : Int) := by omega
   clear k1 hrow hq1 hq2 hxx hln
   by_cases hc1 : c6 = 1
   ·subst hc1
    obtain ⟨_, ht0⟩ := HQ2.out rfl none (by simp)
    subst ht0
    have HQ3 := hidX (HQ2.out rfl)
    simp only [List.length_nil] at hk hle htl
    go_wp2_with fail
    rename World => wo
    go_loopw [6, 8] (fun v6 v8 wr => ∃ (q : Nat) (ad7 : Option Addr) (n7 c7 : Nat) (sn2 : List Bool) (td2 : List Nat), v6 = .slice ad7 n7 c7 ∧ v8 = .int .i64 q ∧ q ≤ ii.length ∧ 2 * unseen sn2 + td2.length ≤ 2 * unseen sn + 0 ∧ unseen sn2 + td2.length ≤ L.length ∧ Hid (HMem w wr nm0 P (.slice (some ⟨gg, goff, none⟩) L.length cap) sn2 ad7 n7 c7 td2) ∧ Hid (Hp L i sn2 td2 vis x q)) (fun _ v8 _ => ii.length - (intOf v8).toNat)
    case atStart => exact ⟨0, _, _, _, sn, [], rfl, rfl, Nat.zero_le _, Nat.le_refl _, by simp; omega, HM.out.pop (HQ3.out _ (fun a ha => by first | (cases ha; rfl) | cases ha)).1, HHP.out⟩
    case round =>
     obtain ⟨q, ad7, n7, c7, sn2, td2, rfl, rfl, hq, hm1, hm2, HMQ, HPQ⟩ := hrel
     have b2 : wr.cell? ⟨w.heap.size, 2, none⟩ = some (.slice (some ⟨gg, goff, none⟩) L.length cap) := cell_of_blk HMQ.out.box 2
     have kx1 : wr.cell? ⟨gg, goff + x * 4 + 1, none⟩ = some (.slice ad1 ii.length cap1) := (HMQ.out.low.cell (p := ⟨gg, _, none⟩) hgg).trans K1.out
     by_cases hlt : q < ii.length
     ·have hlt' : (q : Int) < (ii.length : Int) := by omega
      obtain ⟨g1, off1, e1, hg1, hc⟩ := HROW.out.int hlt
      subst e1
      have hx := (HMQ.out.low.cell (p := ⟨g1, _, none⟩) hg1).trans hc
      obtain ⟨y0, y1⟩ := HIN.out _ (List.getElem_mem hlt)
      obtain ⟨y, hy⟩ : ∃ y : Nat, ii[q] = (y : Int) := ⟨ii[q].toNat, by omega⟩
      have hatq : (ndAt L (x : Int)).ins[q]? = some (y : Int) := by rw [HII.out, List.getElem?_eq_getElem hlt, hy]
      rw [hy] at hx y1
      have hyl : y < L.length := by omega
      obtain ⟨g', off', _, _, q1, _, _, _, q5, _, _, _⟩ := HG.out.node hyl
      injection q1 with q1
      injection q1 with q1 q2
      subst q1 q2
      have hyk := (HMQ.out.low.cell (p := ⟨gg, _, none⟩) hgg).trans q5
      have hsb : sumB L (y : Int) = (L[y].kind == gOne || L[y].kind == gTwo) := by unfold sumB; rw [ndAt_get hyl]
      have HSC := hidX (fun X => rSum_any L[y].kind X)
      rw [← hsb] at HSC
      generalize L[y].kind = ky at hyk HSC
      have HAT := hidX hatq
      have hsl : sn2.length = L.length := HPQ.out.len
      have c1 : wr.cell? ⟨w.heap.size + 1, y, none⟩ = some (.bool (sn2[y]'(by omega))) := by rw [cell_of_blk HMQ.out.sn y]; simp [boolsG, hsl, hyl]
      have c2 := free_of_blk HMQ.out.sn y
      clear hc hatq hsb q5 hy y0
      cases hsum : sumB L (y : Int) with
      | false =>
       rw [hsum] at HSC
       have HSK := hidX (HPQ.out.skip HAT.out (Or.inl hsum))
       clear hsum
       go_wp2_with fail
       refine (HSC.out _).mono ?_
       rintro e w' ⟨rfl, hh⟩
       replace hh := hh.symm
       subst hh
       go_wp2
       go_roundw
       case rel => exact ⟨q + 1, _, _, _, sn2, td2, rfl, by go_num, by omega, hm1, hm2, HMQ.out, HSK.out⟩
       case measure => simp [intOf]; omega
      | true =>
       rw [hsum] at HSC
       by_cases hyi : y = i
       ·have hr : res = true := by rw [← HRS.out]; exact decide_eq_true (HPQ.out.yes (by rw [← hyi]; exact HAT.out))
        have hyi' : (y : Int) = (i : Int) := by omega
        have hyi2 : ((y : Int) == (i : Int)) = true := by simpa using hyi'
        have HLO := hidX HMQ.out.low
        subst hr
        clear hyi hyi' hsum
        go_wp2_with fail
        refine (HSC.out _).mono ?_
        rintro e w' ⟨rfl, hh⟩
        replace hh := hh.symm
        subst hh
        go_wp2
        go_ret
        exact ⟨rfl, HLO.out⟩
       ·have hyi' : ¬ (y : Int) = (i : Int) := by omega
        have hyi2 : ((y : Int) == (i : Int)) = false := by simpa using hyi'
        cases hse : sn2[y]'(by omega) with
        | true =>
         rw [hse] at c1
         have HSK := hidX (HPQ.out.skip HAT.out (Or.inr ⟨hyi, by unfold seenP; rw [List.getElem?_eq_getElem (by omega), hse]⟩))
         clear hsum hyi hyi' hse
         go_wp2_with fail
         refine (HSC.out _).mono ?_
         rintro e w' ⟨rfl, hh⟩
         replace hh := hh.symm
         subst hh
         go_wp2
         go_roundw
         case rel => exact ⟨q + 1, _, _, _, sn2, td2, rfl, by go_num, by omega, hm1, hm2, HMQ.out, HSK.out⟩
         case measure => simp [intOf]; omega
        | false =>
         rw [hse] at c1
         have hus := unseen_set sn2 y (by omega) (by rw [List.getElem?_eq_getElem (by omega), hse]; simp)
         have HSK := hidX (HPQ.out.push HAT.out hsum hyi hyl)
         clear hsum hyi hyi' hse
         obtain ⟨hqr, hsr⟩ := HMQ.out.ready y
         have HQR := hidX hqr
         have HSR := hidX hsr
         have hn7 := HMQ.out.q.len
         have hlz := HMQ.out.low.size
         have hbz : w.heap.size + 2 ≤ wr.heap.size := heap_lt HMQ.out.sn
         have HPS := hidX (fun Z ad' n' cap' td' hg hq => HMQ.out.push (Z := Z) (ad' := ad') (n' := n') (cap' := cap') (td' := td') y hg hq)
         clear hqr hsr
         go_wp2_with fail
         refine (HSC.out _).mono ?_
         rintro e w' ⟨rfl, hh⟩
         replace hh := hh.symm
         subst hh
         go_wp2_with (first | (at_builtin; refine wpList_append_q rfl _ _ rfl rfl HQR.out (by omega) (by simp [World.setCell]; omega) y wr.heap.size rfl HSR.out ?_; intro ad9 c9 W9 hq9 hg9 _; have HN9 := hidX (HPS.out W9 ad9 _ c9 _ hg9 hq9); clear hq9 hg9) | fail)
         go_wp2
         go_roundw
         case rel => exact ⟨q + 1, _, _, _, sn2.set y true, td2 ++ [y], rfl, by go_num, by omega, by rw [List.length_append, List.length_singleton]; omega, by rw [List.length_append, List.length_singleton]; omega, HN9.out, HSK.out⟩
         case measure => simp [intOf]; omega
     ·have hqn : q = ii.length := by omega
      subst hqn
      have hdn := HPQ.out
      rw [← HIL.out] at hdn
      have HDN := hidX hdn.done
      clear hdn
      go_wp2
      go_roundg (2 * unseen sn2 + td2.length + 1)
      case measure => omega
      case rel => exact ⟨_, _, _, sn2, td2, x :: vis, rfl, by omega, by omega, HMQ.out, HDN.out⟩
   ·have hc1' : ¬ (c6 : Int) = 1 := by omega
    have HPOP := hidX (HM.out.pop (HQ1.out hc1))
    go_wp2_with fail
    rename World => wo
    go_loopw [6, 8] (fun v6 v8 wr => ∃ (q : Nat) (ad7 : Option Addr) (n7 c7 : Nat) (sn2 : List Bool) (td2 : List Nat), v6 = .slice ad7 n7 c7 ∧ v8 = .int .i64 q ∧ q ≤ ii.length ∧ 2 * unseen sn2 + td2.length ≤ 2 * unseen sn + t.length ∧ unseen sn2 + td2.length ≤ L.length ∧ Hid (HMem w wr nm0 P (.slice (some ⟨gg, goff, none⟩) L.length cap) sn2 ad7 n7 c7 td2) ∧ Hid (Hp L i sn2 td2 vis x q)) (fun _ v8 _ => ii.length - (intOf v8).toNat)
    case atStart => exact ⟨0, _, _, _, sn, t, rfl, rfl, Nat.zero_le _, Nat.le_refl _, by omega, HPOP.out, HHP.out⟩
    case round =>
     obtain ⟨q, ad7, n7, c7, sn2, td2, rfl, rfl, hq, hm1, hm2, HMQ, HPQ⟩ := hrel
     have b2 : wr.cell? ⟨w.heap.size, 2, none⟩ = some (.slice (some ⟨gg, goff, none⟩) L.length cap) := cell_of_blk HMQ.out.box 2
     have kx1 : wr.cell? ⟨gg, goff + x * 4 + 1, none⟩ = some (.slice ad1 ii.length cap1) := (HMQ.out.low.cell (p := ⟨gg, _, none⟩) hgg).trans K1.out
     by_cases hlt : q < ii.length
     ·have hlt' : (q : Int) < (ii.length : Int) := by omega
      obtain ⟨g1, off1, e1, hg1, hc⟩ := HROW.out.int hlt
      subst e1
      have hx := (HMQ.out.low.cell (p := ⟨g1, _, none⟩) hg1).trans hc
      obtain ⟨y0, y1⟩ := HIN.out _ (List.getElem_mem hlt)
      obtain ⟨y, hy⟩ : ∃ y : Nat, ii[q] = (y : Int) := ⟨ii[q].toNat, by omega⟩
      have hatq : (ndAt L (x : Int)).ins[q]? = some (y : Int) := by rw [HII.out, List.getElem?_eq_getElem hlt, hy]
      rw [hy] at hx y1
      have hyl : y < L.length := by omega
      obtain ⟨g', off', _, _, q1, _, _, _, q5, _, _, _⟩ := HG.out.node hyl
      injection q1 with q1
      injection q1 with q1 q2
      subst q1 q2
      have hyk := (HMQ.out.low.cell (p := ⟨gg, _, none⟩) hgg).trans q5
      have hsb : sumB L (y : Int) = (L[y].kind == gOne || L[y].kind == gTwo) := by unfold sumB; rw [ndAt_get hyl]
      have HSC := hidX (fun X => rSum_any L[y].kind X)
      rw [← hsb] at HSC
      generalize L[y].kind = ky at hyk HSC
      have HAT := hidX hatq
      have hsl : sn2.length = L.length := HPQ.out.len
      have c1 : wr.cell? ⟨w.heap.size + 1, y, none⟩ = some (.bool (sn2[y]'(by omega))) := by rw [cell_of_blk HMQ.out.sn y]; simp [boolsG, hsl, hyl]
      have c2 := free_of_blk HMQ.out.sn y
      clear hc hatq hsb q5 hy y0
      cases hsum : sumB L (y : Int) with
      | false =>
       rw [hsum] at HSC
       have HSK := hidX (HPQ.out.skip HAT.out (Or.inl hsum))
       clear hsum
       go_wp2_with fail
       refine (HSC.out _).mono ?_
       rintro e w' ⟨rfl, hh⟩
       replace hh := hh.symm
       subst hh
       go_wp2
       go_roundw
       case rel => exact ⟨q + 1, _, _, _, sn2, td2, rfl, by go_num, by omega, hm1, hm2, HMQ.out, HSK.out⟩
       case measure => simp [intOf]; omega
      | true =>
       rw [hsum] at HSC
       by_cases hyi : y = i
       ·have hr : res = true := by rw [← HRS.out]; exact decide_eq_true (HPQ.out.yes (by rw [← hyi]; exact HAT.out))
        have hyi' : (y : Int) = (i : Int) := by omega
        have hyi2 : ((y : Int) == (i : Int)) = true := by simpa using hyi'
        have HLO := hidX HMQ.out.low
        subst hr
        clear hyi hyi' hsum
        go_wp2_with fail
        refine (HSC.out _).mono ?_
        rintro e w' ⟨rfl, hh⟩
        replace hh := hh.symm
        subst hh
        go_wp2
        go_ret
        exact ⟨rfl, HLO.out⟩
       ·have hyi' : ¬ (y : Int) = (i : Int) := by omega
        have hyi2 : ((y : Int) == (i : Int)) = false := by simpa using hyi'
        cases hse : sn2[y]'(by omega) with
        | true =>
         rw [hse] at c1
         have HSK := hidX (HPQ.out.skip HAT.out (Or.inr ⟨hyi, by unfold seenP; rw [List.getElem?_eq_getElem (by omega), hse]⟩))
         clear hsum hyi hyi' hse
         go_wp2_with fail
         refine (HSC.out _).mono ?_
         rintro e w' ⟨rfl, hh⟩
         replace hh := hh.symm
         subst hh
         go_wp2
         go_roundw
         case rel => exact ⟨q + 1, _, _, _, sn2, td2, rfl, by go_num, by omega, hm1, hm2, HMQ.out, HSK.out⟩
         case measure => simp [intOf]; omega
        | false =>
         rw [hse] at c1
         have hus := unseen_set sn2 y (by omega) (by rw [List.getElem?_eq_getElem (by omega), hse]; simp)
         have HSK := hidX (HPQ.out.push HAT.out hsum hyi hyl)
         clear hsum hyi hyi' hse
         obtain ⟨hqr, hsr⟩ := HMQ.out.ready y
         have HQR := hidX hqr
         have HSR := hidX hsr
         have hn7 := HMQ.out.q.len
         have hlz := HMQ.out.low.size
         have hbz : w.heap.size + 2 ≤ wr.heap.size := heap_lt HMQ.out.sn
         have HPS := hidX (fun Z ad' n' cap' td' hg hq => HMQ.out.push (Z := Z) (ad' := ad') (n' := n') (cap' := cap') (td' := td') y hg hq)
         clear hqr hsr
         go_wp2_with fail
         refine (HSC.out _).mono ?_
         rintro e w' ⟨rfl, hh⟩
         replace hh := hh.symm
         subst hh
         go_wp2_with (first | (at_builtin; refine wpList_append_q rfl _ _ rfl rfl HQR.out (by omega) (by simp [World.setCell]; omega) y wr.heap.size rfl HSR.out ?_; intro ad9 c9 W9 hq9 hg9 _; have HN9 := hidX (HPS.out W9 ad9 _ c9 _ hg9 hq9); clear hq9 hg9) | fail)
         go_wp2
         go_roundw
         case rel => exact ⟨q + 1, _, _, _, sn2.set y true, td2 ++ [y], rfl, by go_num, by omega, by rw [List.length_append, List.length_singleton]; omega, by rw [List.length_append, List.length_singleton]; omega, HN9.out, HSK.out⟩
         case measure => simp [intOf]; omega
     ·have hqn : q = ii.length := by omega
      subst hqn
      have hdn := HPQ.out
      rw [← HIL.out] at hdn
      have HDN := hidX hdn.done
      clear hdn
      go_wp2
      go_roundg (2 * unseen sn2 + td2.length + 1)
      case measure => omega
      case rel => exact ⟨_, _, _, sn2, td2, x :: vis, rfl, by omega, by omega, HMQ.out, HDN.out⟩
end Go.Proofs.YtlgejjmdanmglaaGreatDoor
