/-
  Our own: which token the document's own reading finds at a place, in the words of its walk.
-/
import Derived.Test.YtdleiajkihijhabGreatDoorLexRef
namespace Go.Proofs.YtdleiajkihijhabGreatDoor
open Go.RowKit

/-- A text from place p on, its first byte c. -/
structure At (s : ByteArray) (p : Nat) (c : UInt8) (D : List UInt8) : Prop where
  drop : D = s.data.toList.drop p
  cons : D = c :: s.data.toList.drop (p + 1)
theorem at_of (s : ByteArray) (p : Nat) (h : p < s.size) : At s p s[p] (s.data.toList.drop p) :=
  ⟨rfl, List.drop_eq_getElem_cons (by rw [data_len]; exact h)⟩
theorem At.head {s : ByteArray} {p : Nat} {c : UInt8} {D : List UInt8} (h : At s p c D) : D.head? = some c := by rw [h.cons]; rfl
theorem At.span {s : ByteArray} {p : Nat} {c : UInt8} {D : List UInt8} (h : At s p c D) (q : UInt8 → Bool) (hc : q c = true) : spanN q D ≠ 0 := by
  rw [h.cons, spanN_cons, hc]; simp
theorem At.len {s : ByteArray} {p : Nat} {c : UInt8} {D : List UInt8} (h : At s p c D) : D.length = s.size - p := by rw [h.drop, List.length_drop, data_len]
theorem word_len (t : List UInt8) (h : t ∈ wordsL) : t.length ≤ 6 := by
  simp only [wordsL, List.mem_cons, List.not_mem_nil, or_false] at h
  rcases h with rfl | rfl | rfl | rfl | rfl | rfl | rfl <;> decide
theorem At.word {s : ByteArray} {p : Nat} {c : UInt8} {D : List UInt8} (h : At s p c D) (hc : isL c = true) (hw : inL wordsL (D.take (spanN isLD D)) = true) : firstOf D = (kWord, spanN isLD D) ∧ spanN isLD D ≤ 8 := by
  have hm := (inL_iff _ _).1 hw
  have hl := word_len _ hm
  rw [List.length_take] at hl
  have := spanN_le isLD D
  have h8 : ¬ 8 < spanN isLD D := by omega
  refine ⟨?_, by omega⟩
  rw [firstOf_head D c h.head, if_pos hc]
  unfold nameOf
  rw [if_neg h8, if_pos (List.contains_iff_mem.2 hm)]
theorem At.name {s : ByteArray} {p : Nat} {c : UInt8} {D : List UInt8} (h : At s p c D) (hc : isL c = true) (hw : inL wordsL (D.take (spanN isLD D)) = false) (h8 : ¬ 8 < spanN isLD D) : firstOf D = (kName, spanN isLD D) := by
  rw [firstOf_head D c h.head, if_pos hc]
  unfold nameOf
  rw [if_neg h8, if_neg]
  intro hx
  have := (inL_iff _ _).2 (List.contains_iff_mem.1 hx)
  rw [this] at hw
  cases hw
theorem At.long {s : ByteArray} {p : Nat} {c : UInt8} {D : List UInt8} (h : At s p c D) (hc : isL c = true) (h8 : 8 < spanN isLD D) : (firstOf D).2 = 0 := by
  rw [firstOf_head D c h.head, if_pos hc]
  unfold nameOf
  rw [if_pos h8]
theorem At.longw {s : ByteArray} {p : Nat} {c : UInt8} {D : List UInt8} (h : At s p c D) (hc : isL c = true) (h8 : 8 < spanN isLD D) : inL wordsL (D.take (spanN isLD D)) = false := by
  cases hx : inL wordsL (D.take (spanN isLD D)) with
  | false => rfl
  | true => have := (h.word hc hx).2; omega
/-- A letter right behind? -/
def Foll (s : ByteArray) (q : Nat) : Prop := ∃ h : q < s.size, isL s[q] = true
theorem At.foll {s : ByteArray} {p : Nat} {c : UInt8} {D : List UInt8} (h : At s p c D) (n : Nat) : follows (D.drop n) = true ↔ Foll s (p + n) := by
  rw [h.drop, List.drop_drop, follows_iff]
  rfl
theorem At.num {s : ByteArray} {p : Nat} {c : UInt8} {D : List UInt8} (h : At s p c D) (hl : isL c = false) (hd : isD c = true) :
    (((c.toNat : Int) = 48 ∧ 1 < spanN isD D) ∨ Foll s (p + spanN isD D) ∨ 18 < spanN isD D → (firstOf D).2 = 0) ∧ (¬ (((c.toNat : Int) = 48 ∧ 1 < spanN isD D) ∨ Foll s (p + spanN isD D) ∨ 18 < spanN isD D) → firstOf D = (kNum, spanN isD D)) := by
  have e : ((D.head? = some 48 ∧ 1 < spanN isD D) ∨ follows (D.drop (spanN isD D)) = true ∨ 18 < spanN isD D) ↔ (((c.toNat : Int) = 48 ∧ 1 < spanN isD D) ∨ Foll s (p + spanN isD D) ∨ 18 < spanN isD D) := by
    rw [h.foll, h.head]
    have e1 : (some c = some (48 : UInt8)) ↔ (c.toNat : Int) = 48 := by
      rw [Option.some.injEq]
      constructor
      · intro h; rw [h]; rfl
      · intro h
        apply UInt8.toNat_inj.1
        show c.toNat = 48
        omega
    rw [e1]
  rw [firstOf_head D c h.head, if_neg (by simp [hl]), if_pos hd]
  unfold numOf
  constructor
  · intro hx; rw [if_pos (e.2 hx)]
  · intro hx; rw [if_neg (fun y => hx (e.1 y))]
def onesLL : List (List UInt8) := [[43], [45], [42], [47], [37], [38], [124], [94], [60], [33], [61], [40], [41], [123], [125], [44], [59]]
theorem ones_iff (c : UInt8) : inL onesLL [c] = true ↔ c ∈ onesL := by
  rw [inL_iff]; simp [onesLL, onesL]
theorem At.sign {s : ByteArray} {p : Nat} {c : UInt8} {D : List UInt8} (h : At s p c D) (hl : isL c = false) (hd : isD c = false) :
    (inL twosL (D.take 2) = true → firstOf D = (kSign, 2)) ∧ (inL twosL (D.take 2) = false → inL onesLL (D.take 1) = true → firstOf D = (kSign, 1)) ∧ (inL twosL (D.take 2) = false → inL onesLL (D.take 1) = false → (firstOf D).2 = 0) := by
  rw [firstOf_head D c h.head, if_neg (by simp [hl]), if_neg (by simp [hd])]
  have h1 : D.take 1 = [c] := by rw [h.cons]; rfl
  rw [h1]
  refine ⟨fun h2 => ?_, fun h2 h3 => ?_, fun h2 h3 => ?_⟩
  · have h2 := (inL_iff _ _).1 h2
    have hz := two_len _ h2
    match D, h2, hz with
    | a :: b :: r, h2, _ =>
      simp only [List.take_succ_cons, List.take_zero] at h2
      simp [signOf, h2]
    | [a], _, hz => simp at hz
    | [], _, hz => simp at hz
  · have h2 : D.take 2 ∉ twosL := fun x => by rw [(inL_iff _ _).2 x] at h2; cases h2
    rw [signL_less D c h.head h2, if_pos ((ones_iff c).1 h3)]
  · have h2 : D.take 2 ∉ twosL := fun x => by rw [(inL_iff _ _).2 x] at h2; cases h2
    have h3 : c ∉ onesL := fun x => by rw [(ones_iff c).2 x] at h3; cases h3
    show (kSign, signOf D).2 = 0
    rw [signL_less D c h.head h2, if_neg h3]
theorem At.short {s : ByteArray} {p : Nat} {c : UInt8} {D : List UInt8} (h : At s p c D) (hp : s.size ≤ p + 1) : inL twosL (D.take 2) = false := by
  cases hx : inL twosL (D.take 2) with
  | false => rfl
  | true =>
    have := two_len _ ((inL_iff _ _).1 hx)
    rw [List.length_take, h.len] at this
    omega
/-- One byte, one blank, one token on. -/
theorem ref_blank {s : ByteArray} {p : Nat} {c : UInt8} {D : List UInt8} {ts : List Tok} (h : At s p c D) (hb : isB c = true) (hS : ∀ us e, Scan p (s.data.toList.drop p) us e → Scan 0 s.data.toList (ts ++ us) e) :
    Hid (∀ us e, Scan (p + 1) (s.data.toList.drop (p + 1)) us e → Scan 0 s.data.toList (ts ++ us) e) := by
  intro us e hx
  apply hS
  rw [← h.drop, h.cons]
  exact .blank hb hx
theorem ref_tok {s : ByteArray} {p n : Nat} {c : UInt8} {D k : List UInt8} {ts : List Tok} (h : At s p c D) (hb : isB c = false) (hF : firstOf D = (k, n)) (hn : n ≠ 0) (hS : ∀ us e, Scan p (s.data.toList.drop p) us e → Scan 0 s.data.toList (ts ++ us) e) :
    Hid (∀ us e, Scan (p + n) (s.data.toList.drop (p + n)) us e → Scan 0 s.data.toList (ts ++ [⟨k, D.take n, p⟩] ++ us) e) := by
  intro us e hx
  have h2 := Scan.tokAt (k := k) (p := p) (ts := us) (e := e) h.cons hb hF hn (by rw [h.drop, List.drop_drop]; exact hx)
  have := hS _ _ (by rw [← h.drop]; exact h2)
  rwa [List.append_assoc]
theorem ref_bad {s : ByteArray} {p : Nat} {c : UInt8} {D : List UInt8} {ts : List Tok} (h : At s p c D) (hb : isB c = false) (hF : (firstOf D).2 = 0) (hS : ∀ us e, Scan p (s.data.toList.drop p) us e → Scan 0 s.data.toList (ts ++ us) e) :
    Scan 0 s.data.toList (ts ++ []) (some p) := by
  apply hS
  rw [← h.drop]
  exact Scan.badAt h.cons hb hF
/-- A world behind an append onto what the call owns from block B + 1 on. -/
theorem ref_next {w wr w0 w1 : World} {B n : Nat} {v : Value} {xs : List Value} {t : TypeId} {o : Obj} (hbel : Below B w wr) (hB : wr.heap[B]? = some o) (h0 : Below (B + 1) wr w0) (hown : w0.ownsRow (B + 1) t 3 v n xs) (hg : w0.grownBy w1 v.ownBlock) :
    Below B w w1 ∧ w1.heap[B]? = some o := by
  have hlt := heap_lt hB
  have h1 : Below (B + 1) wr w1 := h0.grown hg (Nat.le_trans hlt h0.size) (fun k hk => (hown.lt k hk).1)
  exact ⟨hbel.trans (h1.mono (Nat.le_succ _)), by rw [h1.block B (Nat.lt_succ_self _)]; exact hB⟩
theorem ref_row {w : World} {B : Nat} {t : TypeId} {v : Value} {ts : List Tok} {k tx : List UInt8} {p : Nat} (h : w.ownsRow B t 3 v (ts.length + 1) (toksC ts ++ [.string ⟨k.toArray⟩, .string ⟨tx.toArray⟩, .int .i64 p])) :
    w.ownsRow B t 3 v (ts ++ [(⟨k, tx, p⟩ : Tok)]).length (toksC (ts ++ [⟨k, tx, p⟩])) := by
  rw [toksC_snoc, List.length_append]
  exact h
end Go.Proofs.YtdleiajkihijhabGreatDoor
