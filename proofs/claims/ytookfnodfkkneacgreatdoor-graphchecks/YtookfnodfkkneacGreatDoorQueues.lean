/-
  Our own: texts joined: Queue, QueueL.
-/
import Derived.Test.YtookfnodfkkneacGreatDoorBase
import Derived.OwnWalk
import Derived.Deep.AppendSrc
import Derived.Deep.AppendLies
import Derived.Laws.AppendOwn
import Derived.Test.YtookfnodfkkneacGreatDoorGrRep
import Derived.Test.YtookfnodfkkneacGreatDoorNoteV

/-
  Our own: a list of numbers that is taken from at its head, and appended to at its end.
-/
namespace Go.Proofs.YtookfnodfkkneacGreatDoor
open Go.RowKit

def natsQ (l : List Nat) : List Value := l.map fun (x : Nat) => .int .i64 (x : Int)
/-- A slice's value that reads as these numbers, in a block that is new since B. -/
structure QAt (w : World) (B : Nat) (ad : Option Addr) (n cap : Nat) (l : List Nat) : Prop where
  len : l.length = n
  room : n ≤ cap
  max : cap ≤ maxLen
  blk : cap ≠ 0 → ∃ g off cur, ad = some ⟨g, off, none⟩ ∧ w.heap[g]? = some (.cells cur 3 (0, 0)) ∧ off + cap ≤ cur.size ∧ ∀ j (hj : j < l.length), cur[off + j]? = some (.int .i64 ((l[j] : Nat) : Int))
  new : ∀ a, ad = some a → B ≤ a.block ∧ a.block < w.heap.size
theorem QAt.keep {w w' : World} {B n cap : Nat} {ad : Option Addr} {l : List Nat} (h : QAt w B ad n cap l) (hz : w.heap.size ≤ w'.heap.size) (hk : ∀ a, ad = some a → w'.heap[a.block]? = w.heap[a.block]?) : QAt w' B ad n cap l := by
  refine ⟨h.len, h.room, h.max, fun hc => ?_, fun a ha => ⟨(h.new a ha).1, by have := (h.new a ha).2; omega⟩⟩
  obtain ⟨g, off, cur, h1, h2, h3, h4⟩ := h.blk hc
  exact ⟨g, off, cur, h1, (hk _ h1).trans h2, h3, h4⟩
theorem QAt.below {w w' : World} {B n cap : Nat} {ad : Option Addr} {l : List Nat} (h : QAt w B ad n cap l) (hb : Below w.heap.size w w') : QAt w' B ad n cap l := h.keep hb.size fun a ha => hb.block _ (h.new a ha).2
/-- The first one, and the others. -/
theorem QAt.head {w : World} {B n cap : Nat} {ad : Option Addr} {l : List Nat} {x : Nat} (h : QAt w B ad n cap (x :: l)) : ∃ g off, ad = some ⟨g, off, none⟩ ∧ w.cell? ⟨g, off, none⟩ = some (.int .i64 (x : Int)) ∧ n = l.length + 1 ∧ 1 ≤ cap ∧ (cap ≠ 1 → QAt w B (some ⟨g, off + 1, none⟩) l.length (cap - 1) l) ∧ (cap = 1 → ∀ ad', (∀ a, ad' = some a → a.block = g) → QAt w B ad' 0 0 [] ∧ l = []) := by
  have hl := h.len
  have hr := h.room
  rw [List.length_cons] at hl
  obtain ⟨g, off, cur, h1, h2, h3, h4⟩ := h.blk (by omega)
  have hnew := h.new _ h1
  refine ⟨g, off, h1, ?_, by omega, by omega, fun hc => ⟨rfl, by omega, by have := h.max; omega, fun _ => ⟨g, off + 1, cur, rfl, h2, by omega, fun j hj => ?_⟩, fun a ha => by injection ha with ha; subst ha; exact hnew⟩, fun hc ad' had => ⟨⟨rfl, Nat.le_refl _, Nat.zero_le _, fun h => absurd rfl h, fun a ha => by rw [had a ha]; exact hnew⟩, List.length_eq_zero_iff.1 (by omega)⟩⟩
  · rw [cell_of_blk h2]
    have := h4 0 (by simp)
    simpa using this
  · have := h4 (j + 1) (by simpa using hj)
    rw [show off + 1 + j = off + (j + 1) by omega]
    simpa using this
/-- One number more at the end. -/
theorem QAt.push {w : World} {B n cap : Nat} {ad : Option Addr} {l : List Nat} (h : QAt w B ad n cap l) (hn : n ≤ 1000000) (hB : B ≤ w.heap.size) (x : Nat) (sb : Nat) (hs : w.heap[sb]? = some (.cells #[.int .i64 (x : Int)] 3 (0, 0))) (ty : TypeId) :
    ∃ ad' cap' w', (Builtin.append_ #[23, 23] ty #[.slice ad n cap, .slice (some ⟨sb, 0, none⟩) 1 1]).run Tryz.prog w = .ok (.slice ad' (n + 1) cap') w' ∧ QAt w' B ad' (n + 1) cap' (l ++ [x]) ∧ w.grownBy w' (Value.slice ad n cap).ownBlock ∧ ∀ a, ad' = some a → (∃ a0, ad = some a0 ∧ a.block = a0.block) ∨ a.block = w.heap.size := by
  obtain ⟨i0, hi, iz0, iz1, iz2⟩ := info_parts int_info
  have hsrc : Src Tryz.prog i0.size 23 (.slice (some ⟨sb, 0, none⟩) 1 1) 1 [.int .i64 (x : Int)] w := Src.ofSlice w Tryz.underlying23 ⟨sb, 0, none⟩ 1 1 _ (by rw [iz1]; rfl) (World.news_of_block hs) (int_one _)
  by_cases hr : n + 1 ≤ cap
  · obtain ⟨g, off, cur, h1, h2, h3, h4⟩ := h.blk (by omega)
    subst h1
    have hc : ∀ j, j < ([.int .i64 (x : Int)] : List Value).length → (w.cell? ⟨g, off + n * i0.size + j, none⟩).isSome = true := fun j hj => by
      rw [cell_of_blk h2, iz1]
      simp at hj
      subst hj
      simp; omega
    have hrun := run_append_room_src w 23 23 ty 3 i0 Tryz.underlying23 hi g off n cap _ 1 _ hsrc hr hc (fun j _ => free_of_blk h2 _)
    rw [iz1, Nat.mul_one] at hrun
    have hset : w.setCells g (off + n) [.int .i64 (x : Int)] = w.setCell ⟨g, off + n, none⟩ (.int .i64 (x : Int)) := rfl
    rw [hset] at hrun
    refine ⟨_, _, _, hrun, ⟨by rw [List.length_append, h.len]; rfl, hr, h.max, fun _ => ⟨g, off, _, rfl, blk_setCell h2 (off + n) (.int .i64 (x : Int)), by simpa using h3, fun j hj => ?_⟩, fun a ha => by have := h.new a ha; simpa [World.setCell] using this⟩, ⟨rfl, rfl, rfl, by simp [World.setCell], fun k _ hk => Below.heap_setCell _ _ _ _ (fun e => hk (by rw [e]; rfl))⟩, fun a ha => Or.inl ⟨a, ha, rfl⟩⟩
    rw [List.length_append, h.len] at hj
    by_cases e : j = n
    · subst e
      rw [Array.getElem?_setIfInBounds_self_of_lt (by omega)]
      simp [← h.len]
    · have hjl : j < l.length := by rw [h.len]; simp at hj; omega
      rw [Array.getElem?_setIfInBounds_ne (by omega), h4 j hjl, List.getElem_append_left hjl]
  · have holds : (Builtin.firstCells i0.size n (.slice ad n cap)).run Tryz.prog w.drew = .ok (natsQ l).toArray w.drew := by
      by_cases hc : cap = 0
      · have hn0 : n = 0 := by have := h.room; omega
        have hl0 : l = [] := List.length_eq_zero_iff.1 (by rw [h.len]; exact hn0)
        subst hl0
        subst hn0
        cases ad with
        | none => exact run_firstCells_none w.drew i0.size 0 0 cap
        | some b => exact run_firstCells_some w.drew i0.size 0 b 0 cap [] (by simp) (by simp)
      · obtain ⟨g, off, cur, h1, h2, h3, h4⟩ := h.blk hc
        subst h1
        refine run_firstCells_some w.drew i0.size n ⟨g, off, none⟩ n cap (natsQ l) (by simp [natsQ, h.len, iz1]) (fun j v hv => ?_)
        have hj : j < l.length := by
          rcases Nat.lt_or_ge j l.length with h' | h'
          · exact h'
          · rw [List.getElem?_eq_none (by simpa [natsQ] using h')] at hv; cases hv
        have hv' : v = .int .i64 ((l[j] : Nat) : Int) := by simp [natsQ, hj] at hv; exact hv.symm
        subst hv'
        have : ((⟨g, off, none⟩ : Addr).add j) = ⟨g, off + j, none⟩ := Addr.add_lit _ _ _
        rw [this]
        exact (cell_of_blk (w := w.drew) h2 (off + j)).trans (h4 j hj)
    have hrun := run_append_grow_src w 23 23 ty 3 i0 _ Tryz.underlying23 hi iz0 ad n cap (natsQ l) holds _ 1 _ hsrc (by omega) (by omega) (growslice_fits (by omega) (by rw [iz2]; omega))
    have hge := grownCap_ge w (n + 1) cap 3
    have hcm : grownCap w (n + 1) cap 3 ≤ maxLen := grownCap_le_maxLen w (n + 1) cap 3 (by unfold maxLen; omega)
    generalize grownCap w (n + 1) cap 3 = gc at *
    refine ⟨_, _, _, hrun, ⟨by rw [List.length_append, h.len]; rfl, hge, hcm, fun _ => ⟨w.heap.size, 0, _, rfl, heap_alloc_new w.drew _, ?_, fun j hj => ?_⟩, fun a ha => ?_⟩, ⟨rfl, rfl, rfl, by simp, fun k hk _ => Below.heap_alloc w.drew _ k hk⟩, fun a ha => ?_⟩
    · simp only [Array.size_append, List.size_toArray, size_zeroCells, List.length_append, natsQ, List.length_map, h.len, List.length_singleton]
      show 0 + gc ≤ n + 1 + (gc - (n + 1)) * 1
      omega
    · rw [Nat.zero_add]
      have hjl : j < (natsQ l ++ [Value.int .i64 (x : Int)]).length := by simpa [natsQ] using hj
      have key : (natsQ l ++ [Value.int .i64 (x : Int)])[j]'hjl = .int .i64 (((l ++ [x])[j]'hj : Nat) : Int) := by
        by_cases e : j < l.length
        · rw [List.getElem_append_left (by simpa [natsQ] using e), List.getElem_append_left e]; simp [natsQ]
        · have : j = l.length := by simp at hj; omega
          subst this
          simp [natsQ]
      rw [Array.getElem?_append_left (by simpa using hjl), List.getElem?_toArray, List.getElem?_eq_getElem hjl, key]
    · injection ha with ha; subst ha; exact ⟨hB, by simp⟩
    · injection ha with ha; subst ha; exact Or.inr rfl
/-- .. as a step of a walk. -/
theorem wpList_append_q {ops : Array Oper} {rest : List Oper} {o : Oper} {a : Act} {w : World} {Q : Exit → Act → World → Prop} (hgd : o.guard = none) (s x : Operand) (ho : o.op = .call { callee := .builtin .append, args := #[s, x], argTypes := #[23, 23] })
    {B n cap : Nat} {ad : Option Addr} {l : List Nat} (hv : a.eval s = .slice ad n cap) (h : QAt w B ad n cap l) (hn : n ≤ 1000000) (hB : B ≤ w.heap.size) (y : Nat) (sb : Nat) (hx : a.eval x = .slice (some ⟨sb, 0, none⟩) 1 1) (hs : w.heap[sb]? = some (.cells #[.int .i64 (y : Int)] 3 (0, 0)))
    (hK : ∀ ad' cap' w', QAt w' B ad' (n + 1) cap' (l ++ [y]) → w.grownBy w' (Value.slice ad n cap).ownBlock → (∀ a, ad' = some a → (∃ a0, ad = some a0 ∧ a.block = a0.block) ∨ a.block = w.heap.size) → wpList Tryz.prog ops Q rest (a.put o.dst (.slice ad' (n + 1) cap')) w') : wpList Tryz.prog ops Q (o :: rest) a w := by
  obtain ⟨ad', cap', w', hr, h2, h3, h4⟩ := h.push hn hB y sb hs o.type
  refine wpList_plain hgd fun K hK' => ?_
  unfold Oper.wp
  simp [execOp, ho, resolve, invoke, builtin, hv, hx, hr, Result.andThen]
  exact hK' _ _ (hK ad' cap' w' h2 h3 h4)
end Go.Proofs.YtookfnodfkkneacGreatDoor

/-
  Our own: a queue of numbers: a list is put behind.
-/
namespace Go.Proofs.YtookfnodfkkneacGreatDoor
open Go.RowKit

theorem natsQ_is (l : List Nat) : natsQ l = natsG l := rfl
theorem natsQ_len (l : List Nat) : (natsQ l).length = l.length := by simp [natsQ]
theorem natsQ_one (l : List Nat) : ∀ u ∈ natsQ l, u.oneCell' = true := by
  intro u hu
  obtain ⟨x, _, rfl⟩ := List.mem_map.1 hu
  rfl
theorem setCells_blk {b : Nat} {t : TypeId} : ∀ (xs : List Value) (w : World) (o : Nat) (cur : Array Value), w.heap[b]? = some (.cells cur t (0, 0)) → o + xs.length ≤ cur.size → ∃ cur', (w.setCells b o xs).heap[b]? = some (.cells cur' t (0, 0)) ∧ cur'.size = cur.size ∧ (∀ j, j < xs.length → cur'[o + j]? = xs[j]?) ∧ ∀ i, i < o → cur'[i]? = cur[i]?
  | [], w, o, cur, h, _ => ⟨cur, h, rfl, fun j hj => absurd hj (by simp), fun _ _ => rfl⟩
  | x :: xs, w, o, cur, h, hl => by
    rw [List.length_cons] at hl
    have h1 := blk_setCell h o x
    obtain ⟨cur', e1, e2, e3, e4⟩ := setCells_blk xs (w.setCell ⟨b, o, none⟩ x) (o + 1) _ h1 (by simp; omega)
    refine ⟨cur', e1, by simpa using e2, fun j hj => ?_, fun i hi => ?_⟩
    · cases j with
      | zero =>
        rw [Nat.add_zero, e4 o (by omega), Array.getElem?_setIfInBounds_self_of_lt (by omega)]; rfl
      | succ j =>
        have := e3 j (by simpa using hj)
        rw [show o + (j + 1) = o + 1 + j by omega, this]; rfl
    · rw [e4 i (by omega), Array.getElem?_setIfInBounds_ne (by omega)]
theorem setCells_far {b k : Nat} (hk : k ≠ b) : ∀ (xs : List Value) (w : World) (o : Nat), (w.setCells b o xs).heap[k]? = w.heap[k]?
  | [], _, _ => rfl
  | x :: xs, w, o => (setCells_far hk xs (w.setCell ⟨b, o, none⟩ x) (o + 1)).trans (Below.heap_setCell _ _ _ _ hk)
theorem setCells_size {b : Nat} : ∀ (xs : List Value) (w : World) (o : Nat), (w.setCells b o xs).heap.size = w.heap.size ∧ (w.setCells b o xs).os = w.os ∧ (w.setCells b o xs).tape = w.tape ∧ (w.setCells b o xs).output = w.output
  | [], _, _ => ⟨rfl, rfl, rfl, rfl⟩
  | x :: xs, w, o => by
    obtain ⟨h1, h2, h3, h4⟩ := setCells_size xs (w.setCell ⟨b, o, none⟩ x) (o + 1)
    exact ⟨h1.trans (by simp [World.setCell]), h2, h3, h4⟩
theorem append_zeroQ (w : World) (ty : TypeId) (ad sa : Option Addr) (n cap c : Nat) (hr : n ≤ cap) : (Builtin.append_ #[23, 23] ty #[.slice ad n cap, .slice sa 0 c]).run Tryz.prog w = .ok (.slice ad n cap) w := by
  obtain ⟨i0, hi, iz0, iz1, iz2⟩ := info_parts int_info
  cases ad <;> cases sa <;> simp [Builtin.append_, run_underlying Tryz.underlying23, sizeOf, typeInfo, hi, Builtin.lenOf, Builtin.firstCells, hr] <;> rfl
/-- A list more at the end. -/
theorem QAt.pushL {w : World} {B n cap : Nat} {ad : Option Addr} {l : List Nat} (h : QAt w B ad n cap l) (hn : n ≤ 1000000) (hB : B ≤ w.heap.size) {A : Nat → Prop} {sv : Value} (m : List Nat) (hm : m.length ≤ 1000000) (hs : XRow A w sv m.length (natsG m)) (ty : TypeId) :
    ∃ ad' cap' w', (Builtin.append_ #[23, 23] ty #[.slice ad n cap, sv]).run Tryz.prog w = .ok (.slice ad' (n + m.length) cap') w' ∧ QAt w' B ad' (n + m.length) cap' (l ++ m) ∧ w.grownBy w' (Value.slice ad n cap).ownBlock ∧ ∀ a, ad' = some a → (∃ a0, ad = some a0 ∧ a.block = a0.block) ∨ a.block = w.heap.size := by
  obtain ⟨i0, hi, iz0, iz1, iz2⟩ := info_parts int_info
  obtain ⟨sa, sc, rfl⟩ := hs.is
  by_cases hm0 : m = []
  · subst hm0
    refine ⟨ad, cap, w, append_zeroQ w ty ad sa n cap sc h.room, by simpa using h, ⟨rfl, rfl, rfl, Nat.le_refl _, fun _ _ _ => rfl⟩, fun a ha => Or.inl ⟨a, ha, rfl⟩⟩
  · have hmp : 0 < m.length := List.length_pos_iff.2 hm0
    obtain ⟨sb, so, e1, _, _, hcs⟩ := hs.get (by omega)
    subst e1
    have hsrc : Src Tryz.prog i0.size 23 (.slice (some ⟨sb, so, none⟩) m.length sc) m.length (natsQ m) w := Src.ofSlice w Tryz.underlying23 ⟨sb, so, none⟩ m.length sc _ (by rw [iz1, natsQ_len, Nat.mul_one]) (fun j u hu => by
      have : ((⟨sb, so, none⟩ : Addr).add j) = ⟨sb, so + j, none⟩ := Addr.add_lit _ _ _
      rw [this]; exact hcs j u hu) (natsQ_one m)
    by_cases hr : n + m.length ≤ cap
    · obtain ⟨g, off, cur, h1, h2, h3, h4⟩ := h.blk (by omega)
      subst h1
      have hc : ∀ j, j < (natsQ m).length → (w.cell? ⟨g, off + n * i0.size + j, none⟩).isSome = true := fun j hj => by
        rw [natsQ_len] at hj
        rw [cell_of_blk h2, iz1]
        simp; omega
      have hrun := run_append_room_src w 23 23 ty 3 i0 Tryz.underlying23 hi g off n cap _ m.length _ hsrc hr hc (fun j _ => free_of_blk h2 _)
      rw [iz1, Nat.mul_one] at hrun
      obtain ⟨cur', b1, b2, b3, b4⟩ := setCells_blk (natsQ m) w (off + n) cur h2 (by rw [natsQ_len]; omega)
      obtain ⟨s1, s2, s3, s4⟩ := setCells_size (b := g) (natsQ m) w (off + n)
      refine ⟨_, _, _, hrun, ⟨by rw [List.length_append, h.len], hr, h.max, fun _ => ⟨g, off, cur', rfl, b1, by omega, fun j hj => ?_⟩, fun a ha => by rw [s1]; exact h.new a ha⟩, ⟨s2, s3, s4, by rw [s1]; exact Nat.le_refl _, fun k _ hk => setCells_far (fun e => hk (by rw [e]; rfl)) _ _ _⟩, fun a ha => Or.inl ⟨a, ha, rfl⟩⟩
      rw [List.length_append, h.len] at hj
      by_cases e : j < n
      · rw [b4 _ (by omega), h4 j (by rw [h.len]; exact e), List.getElem_append_left (by rw [h.len]; exact e)]
      · have := b3 (j - n) (by rw [natsQ_len]; omega)
        rw [show off + n + (j - n) = off + j by omega] at this
        rw [this, List.getElem_append_right (by rw [h.len]; omega)]
        have hjm : j - n < m.length := by omega
        simp [natsQ, h.len, hjm]
    · have holds : (Builtin.firstCells i0.size n (.slice ad n cap)).run Tryz.prog w.drew = .ok (natsQ l).toArray w.drew := by
        by_cases hc : cap = 0
        · have hn0 : n = 0 := by have := h.room; omega
          have hl0 : l = [] := List.length_eq_zero_iff.1 (by rw [h.len]; exact hn0)
          subst hl0
          subst hn0
          cases ad with
          | none => exact run_firstCells_none w.drew i0.size 0 0 cap
          | some b => exact run_firstCells_some w.drew i0.size 0 b 0 cap [] (by simp) (by simp)
        · obtain ⟨g, off, cur, h1, h2, h3, h4⟩ := h.blk hc
          subst h1
          refine run_firstCells_some w.drew i0.size n ⟨g, off, none⟩ n cap (natsQ l) (by simp [natsQ, h.len, iz1]) (fun j v hv => ?_)
          have hj : j < l.length := by
            rcases Nat.lt_or_ge j l.length with h' | h'
            · exact h'
            · rw [List.getElem?_eq_none (by simpa [natsQ] using h')] at hv; cases hv
          have hv' : v = .int .i64 ((l[j] : Nat) : Int) := by simp [natsQ, hj] at hv; exact hv.symm
          subst hv'
          have : ((⟨g, off, none⟩ : Addr).add j) = ⟨g, off + j, none⟩ := Addr.add_lit _ _ _
          rw [this]
          exact (cell_of_blk (w := w.drew) h2 (off + j)).trans (h4 j hj)
      have hcl : cap < n + m.length := by omega
      have hrun := run_append_grow_src w 23 23 ty 3 i0 _ Tryz.underlying23 hi iz0 ad n cap (natsQ l) holds _ m.length _ hsrc (by omega) (by omega) (growslice_fits (by omega) (by rw [iz2]; omega))
      have hge := grownCap_ge w (n + m.length) cap 3
      have hcm : grownCap w (n + m.length) cap 3 ≤ maxLen := grownCap_le_maxLen w (n + m.length) cap 3 (by unfold maxLen; omega)
      generalize grownCap w (n + m.length) cap 3 = gc at *
      refine ⟨_, _, _, hrun, ⟨by rw [List.length_append, h.len], hge, hcm, fun _ => ⟨w.heap.size, 0, _, rfl, heap_alloc_new w.drew _, ?_, fun j hj => ?_⟩, fun a ha => ?_⟩, ⟨rfl, rfl, rfl, by simp, fun k hk _ => Below.heap_alloc w.drew _ k hk⟩, fun a ha => ?_⟩
      · simp only [Array.size_append, List.size_toArray, size_zeroCells, List.length_append, natsQ, List.length_map, h.len]
        show 0 + gc ≤ n + m.length + (gc - (n + m.length)) * 1
        omega
      · rw [Nat.zero_add]
        have hjl : j < (natsQ l ++ natsQ m).length := by simpa [natsQ] using hj
        have key : (natsQ l ++ natsQ m)[j]? = some (.int .i64 (((l ++ m)[j]'hj : Nat) : Int)) := by
          rw [show natsQ l ++ natsQ m = natsQ (l ++ m) by simp [natsQ], natsQ, List.getElem?_map, List.getElem?_eq_getElem hj]; rfl
        rw [Array.getElem?_append_left (by simpa using hjl), List.getElem?_toArray, key]
      · injection ha with ha; subst ha; exact ⟨hB, by simp⟩
      · injection ha with ha; subst ha; exact Or.inr rfl
/-- .. as a step of a walk. -/
theorem wpList_append_ql {ops : Array Oper} {rest : List Oper} {o : Oper} {a : Act} {w : World} {Q : Exit → Act → World → Prop} (hgd : o.guard = none) (s x : Operand) (ho : o.op = .call { callee := .builtin .append, args := #[s, x], argTypes := #[23, 23] })
    {B n cap : Nat} {ad : Option Addr} {l : List Nat} (hv : a.eval s = .slice ad n cap) (h : QAt w B ad n cap l) (hn : n ≤ 1000000) (hB : B ≤ w.heap.size) {A : Nat → Prop} {sv : Value} (m : List Nat) (hm : m.length ≤ 1000000) (hx : a.eval x = sv) (hs : XRow A w sv m.length (natsG m))
    (hK : ∀ ad' cap' w', QAt w' B ad' (n + m.length) cap' (l ++ m) → w.grownBy w' (Value.slice ad n cap).ownBlock → (∀ a, ad' = some a → (∃ a0, ad = some a0 ∧ a.block = a0.block) ∨ a.block = w.heap.size) → wpList Tryz.prog ops Q rest (a.put o.dst (.slice ad' (n + m.length) cap')) w') : wpList Tryz.prog ops Q (o :: rest) a w := by
  obtain ⟨ad', cap', w', hr, h2, h3, h4⟩ := h.pushL hn hB m hm hs o.type
  refine wpList_plain hgd fun K hK' => ?_
  unfold Oper.wp
  simp [execOp, ho, resolve, invoke, builtin, hv, hx, hr, Result.andThen]
  exact hK' _ _ (hK ad' cap' w' h2 h3 h4)
end Go.Proofs.YtookfnodfkkneacGreatDoor
