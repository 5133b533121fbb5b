/-
  Our own: lex.Read: which tokens, which error.
-/
import Derived.Test.YtcebpmaggnephabDoorLexToks
namespace Go.Proofs.YtcebpmaggnephabDoor
open Go.RowKit

/-- A token's cells. -/
def tokC (t : Tok) : List Value := [.string ⟨t.kind.toArray⟩, .string ⟨t.text.toArray⟩, .int .i64 t.pos]
/-- The cells of tokens. -/
def toksC (ts : List Tok) : List Value := ts.flatMap tokC
/-- The three errors that package lex tells: where their variables say that they lie. -/
structure LexG (w : World) (a : Nat → Addr) : Prop where
  text : w.cell? ⟨1, 0, none⟩ = some (sentV (a 0))
  bound : w.cell? ⟨0, 0, none⟩ = some (sentV (a 1))
  full : w.cell? ⟨2, 0, none⟩ = some (sentV (a 7))
theorem LexG.below {w w' : World} {a : Nat → Addr} (h : LexG w a) (hb : Below w.heap.size w w') : LexG w' a :=
  ⟨by rw [hb.cell (cell_lt h.text)]; exact h.text, by rw [hb.cell (cell_lt h.bound)]; exact h.bound, by rw [hb.cell (cell_lt h.full)]; exact h.full⟩
theorem tok_info : (Tryd.prog.info? 29).map (fun i => (i.zero, i.size, i.bytes)) = some (some (.agg #[.string ⟨#[]⟩, .string ⟨#[]⟩, .int .i64 0]), 3, 40) := by kernel_rfl
theorem toksC_len (ts : List Tok) : (toksC ts).length = ts.length * 3 := by
  induction ts with
  | nil => rfl
  | cons t r ih => simp only [toksC, List.flatMap_cons, List.length_append, List.length_cons] at ih ⊢; rw [ih]; simp [tokC]; omega
theorem toksC_snoc (ts : List Tok) (t : Tok) : toksC (ts ++ [t]) = toksC ts ++ tokC t := by
  simp [toksC, List.flatMap_append]
theorem ext_data (s : ByteArray) (a b : Nat) (_h : b ≤ s.size) : (s.extract a b).data.toList = (s.data.toList.drop a).take (b - a) := by
  simp [ByteArray.data_extract, Array.toList_extract, List.extract_eq_take_drop]
theorem ext_drop (s : ByteArray) (a : Nat) : (s.extract a s.size).data.toList = s.data.toList.drop a := by
  rw [ext_data s a s.size (Nat.le_refl _), List.take_of_length_le]
  rw [List.length_drop, data_len]; exact Nat.le_refl _
theorem ext_eq (s : ByteArray) (a n : Nat) (h : a + n ≤ s.size) : s.extract a (a + n) = ⟨((s.data.toList.drop a).take n).toArray⟩ := by
  apply bytes_eq
  rw [ext_toList s a (a + n) h, Nat.add_sub_cancel_left, byteArray_toList]
theorem ext_size (s : ByteArray) (a : Nat) (h : a ≤ s.size) : (s.extract a s.size).size = s.size - a := by
  rw [ByteArray.size_extract]; omega
theorem new_cells (w : World) (cs : Array Value) (t : TypeId) (j : Nat) (u : Value) (h : cs.toList[j]? = some u) : (w.alloc (.cells cs t)).cell? ((⟨w.heap.size, 0, none⟩ : Addr).add j) = some u := by
  have e : (⟨w.heap.size, 0, none⟩ : Addr).add j = ⟨w.heap.size, j, none⟩ := by
    unfold Addr.add; split
    · next h => rw [h]
    · simp
  rw [e, World.cell?_alloc_at cs t _ j rfl, ← h]
  simp
theorem tok_one (k tx : List UInt8) (p : Nat) : ∀ u ∈ ([.string ⟨k.toArray⟩, .string ⟨tx.toArray⟩, .int .i64 p] : List Value), u.oneCell' = true := by
  intro u hu
  simp only [List.mem_cons, List.not_mem_nil, or_false] at hu
  rcases hu with rfl | rfl | rfl <;> rfl
theorem read_row {w : World} {B : Nat} {v : Value} {ts : List Tok} {k tx : List UInt8} {p : Nat} (h : w.ownsRow B 29 3 v (ts.length + 1) (toksC ts ++ [.string ⟨k.toArray⟩, .string ⟨tx.toArray⟩, .int .i64 p])) :
    w.ownsRow B 29 3 v (ts ++ [(⟨k, tx, p⟩ : Tok)]).length (toksC (ts ++ [⟨k, tx, p⟩])) := by
  rw [toksC_snoc, List.length_append]
  exact h
theorem read_past {s : ByteArray} {p n m : Nat} (hm : m = spanN isB (s.data.toList.drop (p + n))) : Hid (∀ h : p + n + m < s.size, isB s[p + n + m] = false) := by
  intro h
  have hl : spanN isB (s.data.toList.drop (p + n)) < (s.data.toList.drop (p + n)).length := by rw [List.length_drop, data_len, ← hm]; omega
  have := spanN_out isB _ hl
  rw [List.getElem_drop] at this
  simp only [← hm] at this
  exact this
theorem read_scan {s : ByteArray} {p n m : Nat} {k tx : List UInt8} {ts : List Tok} {c : UInt8} (hC : s.data.toList.drop p = c :: s.data.toList.drop (p + 1)) (hB : isB c = false) (hF : firstOf (s.data.toList.drop p) = (k, n)) (hn : ¬ n = 0)
    (hT : tx = (s.data.toList.drop p).take n) (hm : m = spanN isB (s.data.toList.drop (p + n))) (hS : ∀ us e, Scan p (s.data.toList.drop p) us e → Scan 0 s.data.toList (ts ++ us) e) :
    Hid (∀ us e, Scan (p + n + m) (s.data.toList.drop (p + n + m)) us e → Scan 0 s.data.toList (ts ++ [⟨k, tx, p⟩] ++ us) e) := by
  intro us e h
  have h1 : Scan (p + n) (s.data.toList.drop (p + n)) us e := by
    apply Scan.blanks
    rw [← hm, List.drop_drop]
    exact h
  have h2 := Scan.tokAt (k := k) hC hB hF hn (by rw [List.drop_drop]; exact h1)
  rw [← hT] at h2
  have := hS _ _ h2
  rwa [List.append_assoc]
theorem drewN_below' (B : Nat) (w : World) (m : Nat) : Below B w (w.drewN m) := ⟨rfl, rfl, rfl, Nat.le_refl _, fun _ _ => rfl⟩
/-- What Read leaves. -/
def ReadsTo (a : Nat → Addr) (s : ByteArray) (w : World) (e : Ending) (w' : World) : Prop :=
  ∃ ts er, Scan 0 s.data.toList ts er ∧ Below w.heap.size w w' ∧
    ((er = none ∧ ts.length ≤ 1000 ∧ ∃ v, e = .returned (.tuple #[v, .nilIface]) ∧ w'.ownsRow w.heap.size 29 3 v ts.length (toksC ts)) ∨
     (∃ p b : Nat, er = some p ∧ e = .returned (.tuple #[.slice none 0 0, .iface 46 (.pointer (some ⟨b, 0, none⟩))]) ∧ w.heap.size ≤ b ∧ w'.heap[b]? = some (.cells #[.int .i64 p, sentV (a 0)] 48 (0, 0))) ∨
     (er = none ∧ 1000 < ts.length ∧ e = .returned (.tuple #[.slice none 0 0, sentV (a 7)])))
theorem read_long (a : Nat → Addr) (s : ByteArray) (hs : 4000 < s.size) (hm : s.size ≤ 9223372036854775807) (w : World) (hG : LexG w a) :
    Calls Tryd.prog 8 #[.string s] w fun e w' => e = .returned (.tuple #[.slice none 0 0, sentV (a 1)]) ∧ ∃ m, w' = w.drewN m := by
  have hb := hG.bound
  go_enter Tryd.func8, Tryd.ntmps8
  go_wp2
  go_quiet (fail)
  go_wp2
  go_ret2
  exact ⟨rfl, _, rfl⟩
set_option maxRecDepth 100000 in
set_option maxHeartbeats 2000000 in
theorem read_any (a : Nat → Addr) (s : ByteArray) (hs : s.size ≤ 4000) (w : World) (hG : LexG w a) :
    Calls Tryd.prog 8 #[.string s] w (ReadsTo a s w) := by
  obtain ⟨i0, hi, hz0, hz1, hz2⟩ := info_parts tok_info
  have hsp : spanN isB s.data.toList ≤ s.size := spanN_le isB s.data.toList
  have hs5 : s.size ≤ 5000 := by omega
  go_enter Tryd.func8, Tryd.ntmps8
  go_wp2_with (go_at_call 16; refine (span_blank _ hs5 _).mono ?_; rintro e w' ⟨rfl, hh⟩; replace hh := hh.symm; subst hh)
  go_loopw [4, 5] (fun v t wr => ∃ (p : Nat) (ts : List Tok), p ≤ s.size ∧ t = .int .i64 p ∧ wr.ownsRow w.heap.size 29 3 v ts.length (toksC ts) ∧ Below w.heap.size w wr ∧ ts.length ≤ p ∧ Hid (∀ h : p < s.size, isB s[p] = false) ∧ Hid (∀ us e, Scan p (s.data.toList.drop p) us e → Scan 0 s.data.toList (ts ++ us) e))
    (fun _ t _ => s.size - (intOf t).toNat)
  case atStart =>
    refine ⟨_, [], hsp, rfl, World.ownsRow_nil _ _ _ _, Below.refl _ _, by simp, fun h => ?_, fun us e h => ?_⟩
    · exact spanN_out isB s.data.toList h
    · exact Scan.blanks (by simpa using h)
  case round =>
    obtain ⟨p, ts, hp, rfl, hown, hbel, hlen, HB, HS⟩ := hrel
    by_cases hlt : p < s.size
    · obtain ⟨k, n, hF⟩ : ∃ k n, firstOf (s.data.toList.drop p) = (k, n) := ⟨_, _, rfl⟩
      have hle : n ≤ s.size - p := by have := firstOf_le (s.data.toList.drop p); rw [hF, List.length_drop, data_len] at this; exact this
      have hf : ∀ w, Calls Tryd.prog 18 #[.string (s.extract p s.size)] w fun e w' => e = .returned (.tuple #[.string ⟨k.toArray⟩, .int .i64 n]) ∧ w' = w := by
        have hz := ext_size s p hp
        have := first_any (s.extract p s.size) (by omega) (by omega)
        rw [ext_drop, hF] at this
        exact this
      have hcons : s.data.toList.drop p = s[p] :: s.data.toList.drop (p + 1) := List.drop_eq_getElem_cons (by rw [data_len]; exact hlt)
      have HC : Hid (s.data.toList.drop p = s[p] :: s.data.toList.drop (p + 1)) := hcons
      have HF : Hid (firstOf (s.data.toList.drop p) = (k, n)) := hF
      have hTX : wr.cell? ⟨1, 0, none⟩ = some (sentV (a 0)) := (hbel.cell (cell_lt hG.text)).trans hG.text
      clear hcons hF
      by_cases hn : n = 0
      · subst hn
        go_wp2_with (go_at_call 18; refine (hf _).mono ?_; rintro e w' ⟨rfl, hh⟩; replace hh := hh.symm; subst hh)
        go_region
        go_wp2
        go_ret2
        refine ⟨ts ++ [], some p, HS.out _ _ (Scan.badAt HC.out (HB.out hlt) (by rw [HF.out])), (hbel.alloc hbel.size _).drew, Or.inr (Or.inl ⟨p, wr.heap.size, rfl, rfl, hbel.size, ?_⟩)⟩
        exact heap_alloc_new _ _
      · obtain ⟨m, hm⟩ : ∃ m, m = spanN isB (s.data.toList.drop (p + n)) := ⟨_, rfl⟩
        have hml : m ≤ s.size - (p + n) := by have := spanN_le isB (s.data.toList.drop (p + n)); rw [← hm, List.length_drop, data_len] at this; exact this
        have hg : ∀ w, Calls Tryd.prog 16 #[.string (s.extract (p + n) s.size), .func (.func 17) #[] #[]] w fun e w' => e = .returned (.int .i64 m) ∧ w' = w := by
          have hz := ext_size s (p + n) (by omega)
          have := span_blank (s.extract (p + n) s.size) (by omega)
          rw [ext_drop, ← hm] at this
          exact this
        have HM : Hid (m = spanN isB (s.data.toList.drop (p + n))) := hm
        clear hm
        obtain ⟨tx, htx⟩ : ∃ tx, tx = (s.data.toList.drop p).take n := ⟨_, rfl⟩
        have hsl : ∀ w, (Instr.slice 9 (.string s) (some (.int .i64 p)) (some (.int .i64 ((p : Int) + (n : Int)))) none).run Tryd.prog w = .ok (.string ⟨tx.toArray⟩) w := fun w => by
          rw [run_slice_string (P := Tryd.prog) w 9 s .i64 .i64 p ((p : Int) + (n : Int)) Tryd.underlying9 (by omega) (by omega) (by omega), htx, ← ext_eq s p n (by omega)]
          rfl
        have HT : Hid (tx = (s.data.toList.drop p).take n) := htx
        clear htx
        have hbs := hbel.size
        go_wp2_with (first | (go_at_call 18; refine (hf _).mono ?_; rintro e w' ⟨rfl, hh⟩; replace hh := hh.symm; subst hh) | (go_at_call 16; refine (hg _).mono ?_; rintro e w' ⟨rfl, hh⟩; replace hh := hh.symm; subst hh) | (at_builtin; refine wpList_append_own _ rfl _ _ 23 rfl w.heap.size 29 i0 _ 3 40 Tryd.underlying23 hi hz0 hz1 hz2 rfl (by decide) _ _ _ rfl (hown.alloc _) ⟨wr.heap.size, 0, none⟩ 1 1 [.string ⟨k.toArray⟩, .string ⟨tx.toArray⟩, .int .i64 p] rfl rfl (new_cells wr #[.string ⟨k.toArray⟩, .string ⟨tx.toArray⟩, .int .i64 p] 29) (tok_one k tx p) (by unfold maxLen; omega) (by omega) (by simp; omega) ?_; intro v' w1 hown' hgrow _))
        have ho2 := read_row hown'
        have hb2 : Below w.heap.size w w1 := (hbel.alloc hbs _).grown hgrow (by simp; omega) (fun k hk => (hown.lt k hk).1)
        clear hown' hgrow hsl hf hg
        go_roundw
        case rel => exact ⟨p + n + m, ts ++ [⟨k, tx, p⟩], by omega, by go_num, ho2, hb2, by simp; omega, read_past HM.out, read_scan HC.out (HB.out hlt) HF.out hn HT.out HM.out HS.out⟩
        case measure => simp [intOf]; omega
    · have hpe : p = s.size := by omega
      subst hpe
      have hsc : Scan 0 s.data.toList ts none := by
        have := HS.out [] none (by rw [List.drop_of_length_le (by rw [data_len]; exact Nat.le_refl _)]; exact .nil _)
        rwa [List.append_nil] at this
      have hFL : wr.cell? ⟨2, 0, none⟩ = some (sentV (a 7)) := (hbel.cell (cell_lt hG.full)).trans hG.full
      have HX : Hid (Scan 0 s.data.toList ts none) := hsc
      clear hsc
      by_cases h1 : 1000 < ts.length
      · rcases id hown with ⟨_, ⟨rfl, h0⟩ | ⟨g, cap, cur, rfl, _⟩⟩
        · omega
        · go_wp2
          go_quiet (fail)
          go_wp2
          go_ret2
          exact ⟨ts, none, HX.out, hbel.trans (drewN_below' _ _ _), Or.inr (Or.inr ⟨rfl, h1, rfl⟩)⟩
      · have HO : Hid (wr.ownsRow w.heap.size 29 3 u4 ts.length (toksC ts)) := hown
        rcases id hown with ⟨_, ⟨hv, h0⟩ | ⟨g, cap, cur, hv, _⟩⟩
        · subst hv
          rw [h0] at h1
          clear hown
          go_wp2
          go_ret2
          exact ⟨ts, none, HX.out, hbel, Or.inl ⟨rfl, by omega, _, rfl, HO.out⟩⟩
        · subst hv
          clear hown
          go_wp2
          go_ret2
          exact ⟨ts, none, HX.out, hbel, Or.inl ⟨rfl, by omega, _, rfl, HO.out⟩⟩
end Go.Proofs.YtcebpmaggnephabDoor
