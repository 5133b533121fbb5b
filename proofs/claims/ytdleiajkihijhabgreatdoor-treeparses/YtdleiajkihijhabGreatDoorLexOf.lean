/-
  Our own: the document's own reading of a text: LexOf.
-/
import Derived.Test.YtdleiajkihijhabGreatDoorLexRefMath
namespace Go.Proofs.YtdleiajkihijhabGreatDoor
open Go.RowKit

theorem cell_of_blk {w : World} {b : Nat} {cs : Array Value} {t : TypeId} (h : w.heap[b]? = some (.cells cs t (0, 0))) (i : Nat) : w.cell? ⟨b, i, none⟩ = cs[i]? := by simp [World.cell?, h]
theorem free_of_blk {w : World} {b : Nat} {cs : Array Value} {t : TypeId} (h : w.heap[b]? = some (.cells cs t (0, 0))) (i : Nat) : w.frozen? ⟨b, i, none⟩ = false := by simp [World.frozen?, h]
theorem blk_setCell {w : World} {b : Nat} {cs : Array Value} {t : TypeId} (h : w.heap[b]? = some (.cells cs t (0, 0))) (i : Nat) (u : Value) : (w.setCell ⟨b, i, none⟩ u).heap[b]? = some (.cells (cs.setIfInBounds i u) t (0, 0)) := by
  have hlt := heap_lt h
  have h' : w.heap[b] = .cells cs t (0, 0) := by simpa [Array.getElem?_eq_getElem hlt] using h
  show (w.heap.modify b _)[b]? = _
  rw [Array.getElem?_eq_getElem (by simpa using hlt), Array.getElem_modify_self, h']
  rfl
theorem two_cells {w : World} {b : Nat} {x0 x1 : Value} {t : TypeId} (h : w.heap[b]? = some (.cells #[x0, x1] t (0, 0))) (u0 u1 : Value) : ((w.setCell ⟨b, 0, none⟩ u0).setCell ⟨b, 1, none⟩ u1).heap[b]? = some (.cells #[u0, u1] t (0, 0)) := by
  have h2 := blk_setCell (blk_setCell h 0 u0) 1 u1
  simpa using h2
theorem two_cells_new {w : World} {b : Nat} {x0 x1 : Value} {t : TypeId} (h : w.heap[b]? = some (.cells #[x0, x1] t (0, 0))) (u0 u1 : Value) (o : Obj) : (((w.setCell ⟨b, 0, none⟩ u0).setCell ⟨b, 1, none⟩ u1).alloc o).heap[b]? = some (.cells #[u0, u1] t (0, 0)) := by
  have h2 := two_cells h u0 u1
  rw [Below.heap_alloc _ _ _ (heap_lt h2)]
  exact h2
theorem set_below {w wr : World} (h : Below w.heap.size w wr) (u0 u1 : Value) : Below w.heap.size w ((wr.setCell ⟨w.heap.size, 0, none⟩ u0).setCell ⟨w.heap.size, 1, none⟩ u1) :=
  (h.setCell (Nat.le_refl _) _).setCell (Nat.le_refl _) _
theorem letter_no {c : UInt8} (h : isL c = true) : isD c = false := by
  unfold isL at h
  unfold isD
  have := of_decide_eq_true h
  exact decide_eq_false (by omega)
theorem run_all {s : ByteArray} {p n : Nat} {f : UInt8 → Bool} (hn : n = spanN f (s.data.toList.drop p)) : Hid (∀ q (h : q < s.size), p ≤ q → q < p + n → f s[q] = true) := by
  intro q h hp hq
  have hl : q - p < (s.data.toList.drop p).length := by rw [List.length_drop, data_len]; omega
  have := spanN_at f (s.data.toList.drop p) (q - p) hl (by omega)
  rw [List.getElem_drop] at this
  have e : p + (q - p) = q := by omega
  simp only [e] at this
  exact this
theorem run_stop {s : ByteArray} {p n : Nat} {f : UInt8 → Bool} (hn : n = spanN f (s.data.toList.drop p)) (h : p + n < s.size) : f s[p + n] = false := by
  have hl : spanN f (s.data.toList.drop p) < (s.data.toList.drop p).length := by rw [List.length_drop, data_len, ← hn]; omega
  have := spanN_out f _ hl
  rw [List.getElem_drop] at this
  simp only [← hn] at this
  exact this
theorem al1 {B : Nat} {wr : World} (h : B < wr.heap.size) (o1 : Obj) : Below (B + 1) wr (wr.alloc o1) := (Below.refl _ _).alloc h _
theorem al2 {B : Nat} {wr : World} (h : B < wr.heap.size) (o1 o2 : Obj) : Below (B + 1) wr ((wr.alloc o1).alloc o2) := (al1 h o1).alloc (by simp; omega) _
theorem al3 {B : Nat} {wr : World} (h : B < wr.heap.size) (o1 o2 o3 : Obj) : Below (B + 1) wr (((wr.alloc o1).alloc o2).alloc o3) := (al2 h o1 o2).alloc (by simp; omega) _
theorem al4 {B : Nat} {wr : World} (h : B < wr.heap.size) (o1 o2 o3 o4 : Obj) : Below (B + 1) wr ((((wr.alloc o1).alloc o2).alloc o3).alloc o4) := (al3 h o1 o2 o3).alloc (by simp; omega) _
theorem ref_step {s : ByteArray} {p n : Nat} {c : UInt8} {D k tx : List UInt8} {ts : List Tok} (h : At s p c D) (hb : isB c = false) (hF : firstOf D = (k, n)) (hn : n ≠ 0) (ht : tx = D.take n) (hS : ∀ us e, Scan p (s.data.toList.drop p) us e → Scan 0 s.data.toList (ts ++ us) e) :
    Hid (∀ us e, Scan (p + n) (s.data.toList.drop (p + n)) us e → Scan 0 s.data.toList (ts ++ [⟨k, tx, p⟩] ++ us) e) := by
  rw [ht]; exact ref_tok h hb hF hn hS
theorem new_cells_at (w : World) (cs : Array Value) (t : TypeId) (b : Nat) (hb : b = w.heap.size) (j : Nat) (u : Value) (h : cs.toList[j]? = some u) : (w.alloc (.cells cs t)).cell? ((⟨b, 0, none⟩ : Addr).add j) = some u := by
  rw [hb]; exact new_cells w cs t j u h
theorem two_cells_new1 {w : World} {b : Nat} {x0 x1 : Value} {t : TypeId} (h : w.heap[b]? = some (.cells #[x0, x1] t (0, 0))) (u0 u1 : Value) (o1 : Obj) : (((w.setCell ⟨b, 0, none⟩ u0).setCell ⟨b, 1, none⟩ u1).alloc o1).heap[b]? = some (.cells #[u0, u1] t (0, 0)) := two_cells_new h u0 u1 o1
theorem two_cells_new2 {w : World} {b : Nat} {x0 x1 : Value} {t : TypeId} (h : w.heap[b]? = some (.cells #[x0, x1] t (0, 0))) (u0 u1 : Value) (o1 o2 : Obj) : ((((w.setCell ⟨b, 0, none⟩ u0).setCell ⟨b, 1, none⟩ u1).alloc o1).alloc o2).heap[b]? = some (.cells #[u0, u1] t (0, 0)) := by
  have h2 := two_cells_new1 h u0 u1 o1
  rw [Below.heap_alloc _ _ _ (heap_lt h2)]
  exact h2
theorem two_cells_new3 {w : World} {b : Nat} {x0 x1 : Value} {t : TypeId} (h : w.heap[b]? = some (.cells #[x0, x1] t (0, 0))) (u0 u1 : Value) (o1 o2 o3 : Obj) : (((((w.setCell ⟨b, 0, none⟩ u0).setCell ⟨b, 1, none⟩ u1).alloc o1).alloc o2).alloc o3).heap[b]? = some (.cells #[u0, u1] t (0, 0)) := by
  have h2 := two_cells_new2 h u0 u1 o1 o2
  rw [Below.heap_alloc _ _ _ (heap_lt h2)]
  exact h2
theorem set_below1 {w wr : World} (h : Below w.heap.size w wr) (u0 u1 : Value) (o1 : Obj) : Below w.heap.size w (((wr.setCell ⟨w.heap.size, 0, none⟩ u0).setCell ⟨w.heap.size, 1, none⟩ u1).alloc o1) :=
  (set_below h u0 u1).alloc (set_below h u0 u1).size _
theorem set_below2 {w wr : World} (h : Below w.heap.size w wr) (u0 u1 : Value) (o1 o2 : Obj) : Below w.heap.size w ((((wr.setCell ⟨w.heap.size, 0, none⟩ u0).setCell ⟨w.heap.size, 1, none⟩ u1).alloc o1).alloc o2) :=
  (set_below1 h u0 u1 o1).alloc (set_below1 h u0 u1 o1).size _
theorem set_below3 {w wr : World} (h : Below w.heap.size w wr) (u0 u1 : Value) (o1 o2 o3 : Obj) : Below w.heap.size w (((((wr.setCell ⟨w.heap.size, 0, none⟩ u0).setCell ⟨w.heap.size, 1, none⟩ u1).alloc o1).alloc o2).alloc o3) :=
  (set_below2 h u0 u1 o1 o2).alloc (set_below2 h u0 u1 o1 o2).size _
theorem isIn_texts_at (l : List (List UInt8)) (hl : l.length ≤ 1000) (t : List UInt8) (c : Nat) (w : World) (b : Nat) (hb : b = w.heap.size) :
    Calls Tryz.prog 16 #[.string ⟨t.toArray⟩, .slice (some ⟨b, 0, none⟩) l.length c] (textW w l) fun e w' => e = .returned (.bool (inL l t)) ∧ w' = textW w l := by
  rw [hb]; exact isIn_texts l hl t c w
theorem isIn_two (t : List UInt8) (c : Nat) (w : World) (b : Nat) (hb : b = w.heap.size) :
    Calls Tryz.prog 16 #[.string ⟨t.toArray⟩, .slice (some ⟨b, 0, none⟩) 5 c] (w.alloc (.cells #[.string ⟨#[60, 60]⟩, .string ⟨#[62, 62]⟩, .string ⟨#[60, 61]⟩, .string ⟨#[61, 61]⟩, .string ⟨#[33, 61]⟩] 9)) fun e w' => e = .returned (.bool (inL twosL t)) ∧ ∃ O, w' = w.alloc O :=
  (isIn_texts_at twosL (by decide) t c w b hb).mono fun _ _ h => ⟨h.1, _, h.2⟩
theorem isIn_one (t : List UInt8) (c : Nat) (w : World) (b : Nat) (hb : b = w.heap.size) :
    Calls Tryz.prog 16 #[.string ⟨t.toArray⟩, .slice (some ⟨b, 0, none⟩) 17 c] (w.alloc (.cells #[.string ⟨#[43]⟩, .string ⟨#[45]⟩, .string ⟨#[42]⟩, .string ⟨#[47]⟩, .string ⟨#[37]⟩, .string ⟨#[38]⟩, .string ⟨#[124]⟩, .string ⟨#[94]⟩, .string ⟨#[60]⟩, .string ⟨#[33]⟩, .string ⟨#[61]⟩, .string ⟨#[40]⟩, .string ⟨#[41]⟩, .string ⟨#[123]⟩, .string ⟨#[125]⟩, .string ⟨#[44]⟩, .string ⟨#[59]⟩] 9)) fun e w' => e = .returned (.bool (inL onesLL t)) ∧ ∃ O, w' = w.alloc O :=
  (isIn_texts_at onesLL (by decide) t c w b hb).mono fun _ _ h => ⟨h.1, _, h.2⟩
theorem isWord_abs (t : List UInt8) (w : World) : Calls Tryz.prog 15 #[.string ⟨t.toArray⟩] w fun e w' => e = .returned (.bool (inL wordsL t)) ∧ ∃ O, w' = w.alloc O :=
  (isWord_any t w).mono fun _ _ h => ⟨h.1, _, h.2⟩
theorem run_end {s : ByteArray} {p n : Nat} (hn : n = spanN isLD (s.data.toList.drop p)) : Hid ((∃ h : p + n < s.size, isL s[p + n] = false ∧ isD s[p + n] = false) ∨ s.size ≤ p + n) := by
  by_cases h : p + n < s.size
  · left
    have := run_stop hn h
    unfold isLD at this
    rw [Bool.or_eq_false_iff] at this
    exact ⟨h, this⟩
  · right; omega
/-- What LexOf leaves. -/
def LexesTo (s : ByteArray) (w : World) (e : Ending) (w' : World) : Prop :=
  ∃ ts er, Scan 0 s.data.toList ts er ∧ Below w.heap.size w w' ∧
    ((er = none ∧ ts.length ≤ 1000 ∧ ∃ v, e = .returned (.tuple #[v, .agg #[.int .i64 0, .int .i64 (-1)]]) ∧ w'.ownsRow (w.heap.size + 1) 54 3 v ts.length (toksC ts)) ∨
     (∃ p : Nat, er = some p ∧ e = .returned (.tuple #[.slice none 0 0, .agg #[.int .i64 1, .int .i64 p]])) ∨
     (er = none ∧ 1000 < ts.length ∧ e = .returned (.tuple #[.slice none 0 0, .agg #[.int .i64 8, .int .i64 (-1)]])))
theorem rtok_info : (Tryz.prog.info? 54).map (fun i => (i.zero, i.size, i.bytes)) = some (some (.agg #[.string ⟨#[]⟩, .string ⟨#[]⟩, .int .i64 0]), 3, 40) := by kernel_rfl
set_option maxRecDepth 100000 in
theorem lexOf_long (s : ByteArray) (hs : 4000 < s.size) (hm : s.size ≤ 9223372036854775807) (w : World) :
    Calls Tryz.prog 5 #[.string s] w fun e w' => e = .returned (.tuple #[.slice none 0 0, .agg #[.int .i64 2, .int .i64 (-1)]]) ∧ Below w.heap.size w w' := by
  go_enter Tryz.func5, Tryz.ntmps5
  go_wp2_with (go_at_call 12; refine (bare_any _ _).mono ?_; rintro e w' ⟨rfl, rfl⟩)
  refine bodyPost_ret (v := .tuple #[.slice none 0 0, .agg #[.int .i64 2, .int .i64 (-1)]]) (by simp [results, Tryz.results5, go_sem]) rfl ⟨rfl, ?_⟩
  exact ((Below.refl _ _).alloc (Nat.le_refl _) _).alloc (by simp) _
set_option maxRecDepth 100000 in
set_option maxHeartbeats 8000000 in
theorem lexOf_any (s : ByteArray) (hs : s.size ≤ 4000) (w : World) :
    Calls Tryz.prog 5 #[.string s] w (LexesTo s w) := by
  obtain ⟨i0, hi, hz0, hz1, hz2⟩ := info_parts rtok_info
  have h0 : (w.alloc (.cells #[.int .i64 0, .int .i64 0] 25)).heap[w.heap.size]? = some (.cells #[.int .i64 0, .int .i64 0] 25 (0, 0)) := heap_alloc_new _ _
  have h1 : Below w.heap.size w (w.alloc (.cells #[.int .i64 0, .int .i64 0] 25)) := (Below.refl _ _).alloc (Nat.le_refl _) _
  go_enter Tryz.func5, Tryz.ntmps5
  go_wp2
  go_loopw [4, 5] (fun v t wr => ∃ (p : Nat) (ts : List Tok), p ≤ s.size ∧ t = .int .i64 p ∧ wr.ownsRow (w.heap.size + 1) 54 3 v ts.length (toksC ts) ∧ Below w.heap.size w wr ∧ wr.heap[w.heap.size]? = some (.cells #[.int .i64 0, .int .i64 0] 25 (0, 0)) ∧ ts.length ≤ p ∧ Hid (∀ us e, Scan p (s.data.toList.drop p) us e → Scan 0 s.data.toList (ts ++ us) e))
    (fun _ t _ => s.size - (intOf t).toNat)
  case atStart =>
    exact ⟨0, [], Nat.zero_le _, rfl, World.ownsRow_nil _ _ _ _, h1, h0, Nat.le_refl _, fun us e h => by simpa using h⟩
  case round =>
    clear h0 h1
    obtain ⟨p, ts, hp, rfl, hown, hbel, hblk, hlen, HS⟩ := hrel
    by_cases hlt : p < s.size
    · have HAt : Hid (At s p s[p] (s.data.toList.drop p)) := at_of s p hlt
      have hc0 : wr.cell? ⟨w.heap.size, 0, none⟩ = some (.int .i64 0) := cell_of_blk hblk 0
      have hc1 : wr.cell? ⟨w.heap.size, 1, none⟩ = some (.int .i64 0) := cell_of_blk hblk 1
      have hf0 : wr.frozen? ⟨w.heap.size, 0, none⟩ = false := free_of_blk hblk 0
      have hf1 : wr.frozen? ⟨w.heap.size, 1, none⟩ = false := free_of_blk hblk 1
      have hBl := heap_lt hblk
      by_cases hb : isB s[p] = true
      · have HBl : Hid (isB s[p] = true) := hb
        have hb3 : (s[p].toNat : Int) = 32 ∨ (s[p].toNat : Int) = 9 ∨ (s[p].toNat : Int) = 10 := by
          unfold isB at hb; have := of_decide_eq_true hb; omega
        clear hb
        rcases hb3 with hb3 | hb3 | hb3
        all_goals
          go_wp2
          go_roundw
          case rel => exact ⟨p + 1, ts, by omega, by go_num, hown, hbel, hblk, by omega, ref_blank HAt.out HBl.out HS.out⟩
          case measure => simp [intOf]; omega
      · have hb : isB s[p] = false := by simpa using hb
        have HBl : Hid (isB s[p] = false) := hb
        obtain ⟨b32, b9, b10⟩ : ((s[p].toNat : Int) == 32) = false ∧ ((s[p].toNat : Int) == 9) = false ∧ ((s[p].toNat : Int) == 10) = false := by
          unfold isB at hb; have := of_decide_eq_false hb; simp only [beq_eq_false_iff_ne, ne_eq]; omega
        clear hb
        by_cases hL : isL s[p] = true
        · have HL : Hid (isL s[p] = true) := hL
          obtain ⟨n, hn⟩ : ∃ n, n = spanN isLD (s.data.toList.drop p) := ⟨_, rfl⟩
          obtain ⟨tx, htx⟩ : ∃ tx, tx = (s.data.toList.drop p).take n := ⟨_, rfl⟩
          have hle : n ≤ s.size - p := by have := spanN_le isLD (s.data.toList.drop p); rw [← hn, List.length_drop, data_len] at this; exact this
          have hn0 : n ≠ 0 := by rw [hn]; exact HAt.out.span isLD (by unfold isLD; rw [hL]; rfl)
          have hD : isD s[p] = false := letter_no hL
          have hsl : ∀ w, (Instr.slice 9 (.string s) (some (.int .i64 p)) (some (.int .i64 ((p : Int) + (n : Int)))) none).run Tryz.prog w = .ok (.string ⟨tx.toArray⟩) w := fun w => by
            rw [run_slice_string (P := Tryz.prog) w 9 s .i64 .i64 p ((p : Int) + (n : Int)) Tryz.underlying9 (by omega) (by omega) (by omega), htx, ← ext_eq s p n (by omega)]
            rfl
          have htl : tx.length = n := by rw [htx, List.length_take, List.length_drop, data_len]; omega
          have HQ : Hid (∀ q (h : q < s.size), p ≤ q → q < p + n → isLD s[q] = true) := run_all hn
          have HE : Hid ((∃ h : p + n < s.size, isL s[p + n] = false ∧ isD s[p + n] = false) ∨ s.size ≤ p + n) := run_end hn
          have HT : Hid (tx = (s.data.toList.drop p).take n) := htx
          have HWD : Hid (inL wordsL tx = true → firstOf (s.data.toList.drop p) = (kWord, n) ∧ n ≤ 8) := fun h => by rw [htx, hn] at h; rw [hn]; exact HAt.out.word hL h
          have HNM : Hid (inL wordsL tx = false → ¬ 8 < n → firstOf (s.data.toList.drop p) = (kName, n)) := fun h h8 => by rw [htx, hn] at h; rw [hn] at h8 ⊢; exact HAt.out.name hL h h8
          have HLG : Hid (8 < n → (firstOf (s.data.toList.drop p)).2 = 0) := fun h8 => by rw [hn] at h8; exact HAt.out.long hL h8
          clear hn htx
          have hbs := hbel.size
          by_cases hw : inL wordsL tx = true
          · obtain ⟨hF, h8⟩ := HWD.out hw
            have HF : Hid (firstOf (s.data.toList.drop p) = (kWord, n)) := hF
            clear hF
            go_wp2_with (first | (go_at_call 13; refine (rletter_any _ _).mono ?_; rintro e w' ⟨rfl, hh⟩; replace hh := hh.symm; subst hh) | (go_at_call 14; refine (rdigit_any _ _).mono ?_; rintro e w' ⟨rfl, hh⟩; replace hh := hh.symm; subst hh))
            go_loop [8] (fun i => ∃ q : Nat, p ≤ q ∧ q ≤ p + n ∧ i = .int .i64 q) (fun i => s.size - (intOf i).toNat)
            case atStart => exact ⟨p, Nat.le_refl _, by omega, rfl⟩
            case round =>
              obtain ⟨q, hpq, hqn, rfl⟩ := hrel
              by_cases hq : q < p + n
              · have hqs : q < s.size := by omega
                obtain hx := HQ.out q hqs hpq hq
                by_cases hy : isD s[q] = true
                · go_wp2_with (first | (go_at_call 13; refine (rletter_any _ _).mono ?_; rintro e w' ⟨rfl, hh⟩; replace hh := hh.symm; subst hh) | (go_at_call 14; refine (rdigit_any _ _).mono ?_; rintro e w' ⟨rfl, hh⟩; replace hh := hh.symm; subst hh))
                  go_round
                  case rel => exact ⟨q + 1, by omega, by omega, by go_num⟩
                  case measure => simp [intOf]; omega
                · have hy : isD s[q] = false := by simpa using hy
                  have hx2 : isL s[q] = true := by unfold isLD at hx; rw [hy] at hx; simpa using hx
                  clear hx
                  go_wp2_with (first | (go_at_call 13; refine (rletter_any _ _).mono ?_; rintro e w' ⟨rfl, hh⟩; replace hh := hh.symm; subst hh) | (go_at_call 14; refine (rdigit_any _ _).mono ?_; rintro e w' ⟨rfl, hh⟩; replace hh := hh.symm; subst hh))
                  go_round
                  case rel => exact ⟨q + 1, by omega, by omega, by go_num⟩
                  case measure => simp [intOf]; omega
              · have hqe : q = p + n := by omega
                subst hqe
                clear hq hpq hqn
                rcases HE.out with ⟨hl2, hx, hy⟩ | hge
                all_goals
                  go_wp2_with (first | (go_at_call 13; refine (rletter_any _ _).mono ?_; rintro e w' ⟨rfl, hh⟩; replace hh := hh.symm; subst hh) | (go_at_call 14; refine (rdigit_any _ _).mono ?_; rintro e w' ⟨rfl, hh⟩; replace hh := hh.symm; subst hh) | (go_at_call 15; refine (isWord_abs _ _).mono ?_; rintro e w' ⟨rfl, O2, hh⟩; subst hh) | (at_builtin; (refine wpList_append_own _ rfl _ _ 23 rfl (w.heap.size + 1) 54 i0 _ 3 40 Tryz.underlying23 hi hz0 hz1 hz2 rfl (by decide) _ _ _ rfl (((hown.alloc _).alloc _).alloc _) _ 1 1 [.string ⟨#[119, 111, 114, 100]⟩, .string ⟨tx.toArray⟩, .int .i64 p] rfl rfl (new_cells_at _ #[.string ⟨#[119, 111, 114, 100]⟩, .string ⟨tx.toArray⟩, .int .i64 p] 54 _ (by simp)) (tok_one kWord tx p) (by unfold maxLen; omega) (by omega) (by simp; omega) ?_); intro v' w1 hown' hgrow _))
                  have ho2 := ref_row (k := kWord) (tx := tx) (p := p) hown'
                  obtain ⟨hb2, hk2⟩ := ref_next hbel hblk (al3 hBl _ _ _) (((hown.alloc _).alloc _).alloc _) hgrow
                  clear hown' hgrow hsl hown hblk
                  go_roundw
                  case rel => exact ⟨p + n, ts ++ [⟨kWord, tx, p⟩], by omega, by go_num, ho2, hb2, hk2, by simp; omega, ref_step HAt.out HBl.out HF.out hn0 HT.out HS.out⟩
                  case measure => simp [intOf]; omega
          · have hw : inL wordsL tx = false := by simpa using hw
            by_cases h8 : 8 < n
            · have HF : Hid ((firstOf (s.data.toList.drop p)).2 = 0) := HLG.out h8
              clear HWD HNM
              go_wp2_with (first | (go_at_call 13; refine (rletter_any _ _).mono ?_; rintro e w' ⟨rfl, hh⟩; replace hh := hh.symm; subst hh) | (go_at_call 14; refine (rdigit_any _ _).mono ?_; rintro e w' ⟨rfl, hh⟩; replace hh := hh.symm; subst hh))
              go_loop [8] (fun i => ∃ q : Nat, p ≤ q ∧ q ≤ p + n ∧ i = .int .i64 q) (fun i => s.size - (intOf i).toNat)
              case atStart => exact ⟨p, Nat.le_refl _, by omega, rfl⟩
              case round =>
                obtain ⟨q, hpq, hqn, rfl⟩ := hrel
                by_cases hq : q < p + n
                · have hqs : q < s.size := by omega
                  obtain hx := HQ.out q hqs hpq hq
                  by_cases hy : isD s[q] = true
                  · go_wp2_with (first | (go_at_call 13; refine (rletter_any _ _).mono ?_; rintro e w' ⟨rfl, hh⟩; replace hh := hh.symm; subst hh) | (go_at_call 14; refine (rdigit_any _ _).mono ?_; rintro e w' ⟨rfl, hh⟩; replace hh := hh.symm; subst hh))
                    go_round
                    case rel => exact ⟨q + 1, by omega, by omega, by go_num⟩
                    case measure => simp [intOf]; omega
                  · have hy : isD s[q] = false := by simpa using hy
                    have hx2 : isL s[q] = true := by unfold isLD at hx; rw [hy] at hx; simpa using hx
                    clear hx
                    go_wp2_with (first | (go_at_call 13; refine (rletter_any _ _).mono ?_; rintro e w' ⟨rfl, hh⟩; replace hh := hh.symm; subst hh) | (go_at_call 14; refine (rdigit_any _ _).mono ?_; rintro e w' ⟨rfl, hh⟩; replace hh := hh.symm; subst hh))
                    go_round
                    case rel => exact ⟨q + 1, by omega, by omega, by go_num⟩
                    case measure => simp [intOf]; omega
                · have hqe : q = p + n := by omega
                  subst hqe
                  clear hq hpq hqn
                  rcases HE.out with ⟨hl2, hx, hy⟩ | hge
                  all_goals
                    go_wp2_with (first | (go_at_call 13; refine (rletter_any _ _).mono ?_; rintro e w' ⟨rfl, hh⟩; replace hh := hh.symm; subst hh) | (go_at_call 14; refine (rdigit_any _ _).mono ?_; rintro e w' ⟨rfl, hh⟩; replace hh := hh.symm; subst hh) | (go_at_call 15; refine (isWord_abs _ _).mono ?_; rintro e w' ⟨rfl, O2, hh⟩; subst hh))
                    have hx0 := fun o1 o2 => cell_of_blk (two_cells_new2 hblk (.int .i64 1) (.int .i64 p) o1 o2) 0
                    have hx1 := fun o1 o2 => cell_of_blk (two_cells_new2 hblk (.int .i64 1) (.int .i64 p) o1 o2) 1
                    exact bodyPost_ret (v := .tuple #[.slice none 0 0, .agg #[.int .i64 1, .int .i64 p]]) (by simp [results, Tryz.results5, go_sem, hx0, hx1]) rfl ⟨ts ++ [], some p, ref_bad HAt.out HBl.out HF.out HS.out, set_below2 hbel _ _ _ _, Or.inr (Or.inl ⟨p, rfl, rfl⟩)⟩
            · have HF : Hid (firstOf (s.data.toList.drop p) = (kName, n)) := HNM.out hw h8
              go_wp2_with (first | (go_at_call 13; refine (rletter_any _ _).mono ?_; rintro e w' ⟨rfl, hh⟩; replace hh := hh.symm; subst hh) | (go_at_call 14; refine (rdigit_any _ _).mono ?_; rintro e w' ⟨rfl, hh⟩; replace hh := hh.symm; subst hh))
              go_loop [8] (fun i => ∃ q : Nat, p ≤ q ∧ q ≤ p + n ∧ i = .int .i64 q) (fun i => s.size - (intOf i).toNat)
              case atStart => exact ⟨p, Nat.le_refl _, by omega, rfl⟩
              case round =>
                obtain ⟨q, hpq, hqn, rfl⟩ := hrel
                by_cases hq : q < p + n
                · have hqs : q < s.size := by omega
                  obtain hx := HQ.out q hqs hpq hq
                  by_cases hy : isD s[q] = true
                  · go_wp2_with (first | (go_at_call 13; refine (rletter_any _ _).mono ?_; rintro e w' ⟨rfl, hh⟩; replace hh := hh.symm; subst hh) | (go_at_call 14; refine (rdigit_any _ _).mono ?_; rintro e w' ⟨rfl, hh⟩; replace hh := hh.symm; subst hh))
                    go_round
                    case rel => exact ⟨q + 1, by omega, by omega, by go_num⟩
                    case measure => simp [intOf]; omega
                  · have hy : isD s[q] = false := by simpa using hy
                    have hx2 : isL s[q] = true := by unfold isLD at hx; rw [hy] at hx; simpa using hx
                    clear hx
                    go_wp2_with (first | (go_at_call 13; refine (rletter_any _ _).mono ?_; rintro e w' ⟨rfl, hh⟩; replace hh := hh.symm; subst hh) | (go_at_call 14; refine (rdigit_any _ _).mono ?_; rintro e w' ⟨rfl, hh⟩; replace hh := hh.symm; subst hh))
                    go_round
                    case rel => exact ⟨q + 1, by omega, by omega, by go_num⟩
                    case measure => simp [intOf]; omega
                · have hqe : q = p + n := by omega
                  subst hqe
                  clear hq hpq hqn
                  rcases HE.out with ⟨hl2, hx, hy⟩ | hge
                  all_goals
                    go_wp2_with (first | (go_at_call 13; refine (rletter_any _ _).mono ?_; rintro e w' ⟨rfl, hh⟩; replace hh := hh.symm; subst hh) | (go_at_call 14; refine (rdigit_any _ _).mono ?_; rintro e w' ⟨rfl, hh⟩; replace hh := hh.symm; subst hh) | (go_at_call 15; refine (isWord_abs _ _).mono ?_; rintro e w' ⟨rfl, O2, hh⟩; subst hh) | (at_builtin; (refine wpList_append_own _ rfl _ _ 23 rfl (w.heap.size + 1) 54 i0 _ 3 40 Tryz.underlying23 hi hz0 hz1 hz2 rfl (by decide) _ _ _ rfl (((hown.alloc _).alloc _).alloc _) _ 1 1 [.string ⟨#[110, 97, 109, 101]⟩, .string ⟨tx.toArray⟩, .int .i64 p] rfl rfl (new_cells_at _ #[.string ⟨#[110, 97, 109, 101]⟩, .string ⟨tx.toArray⟩, .int .i64 p] 54 _ (by simp)) (tok_one kName tx p) (by unfold maxLen; omega) (by omega) (by simp; omega) ?_); intro v' w1 hown' hgrow _))
                    have ho2 := ref_row (k := kName) (tx := tx) (p := p) hown'
                    obtain ⟨hb2, hk2⟩ := ref_next hbel hblk (al3 hBl _ _ _) (((hown.alloc _).alloc _).alloc _) hgrow
                    clear hown' hgrow hsl hown hblk
                    go_roundw
                    case rel => exact ⟨p + n, ts ++ [⟨kName, tx, p⟩], by omega, by go_num, ho2, hb2, hk2, by simp; omega, ref_step HAt.out HBl.out HF.out hn0 HT.out HS.out⟩
                    case measure => simp [intOf]; omega
        · have hL : isL s[p] = false := by simpa using hL
          by_cases hD : isD s[p] = true
          · obtain ⟨n, hn⟩ : ∃ n, n = spanN isD (s.data.toList.drop p) := ⟨_, rfl⟩
            obtain ⟨tx, htx⟩ : ∃ tx, tx = (s.data.toList.drop p).take n := ⟨_, rfl⟩
            have hle : n ≤ s.size - p := by have := spanN_le isD (s.data.toList.drop p); rw [← hn, List.length_drop, data_len] at this; exact this
            have hn0 : n ≠ 0 := by rw [hn]; exact HAt.out.span isD hD
            have hsl : ∀ w, (Instr.slice 9 (.string s) (some (.int .i64 p)) (some (.int .i64 ((p : Int) + (n : Int)))) none).run Tryz.prog w = .ok (.string ⟨tx.toArray⟩) w := fun w => by
              rw [run_slice_string (P := Tryz.prog) w 9 s .i64 .i64 p ((p : Int) + (n : Int)) Tryz.underlying9 (by omega) (by omega) (by omega), htx, ← ext_eq s p n (by omega)]
              rfl
            have htl : tx.length = n := by rw [htx, List.length_take, List.length_drop, data_len]; omega
            have HQ : Hid (∀ q (h : q < s.size), p ≤ q → q < p + n → isD s[q] = true) := run_all hn
            have HT : Hid (tx = (s.data.toList.drop p).take n) := htx
            obtain ⟨hbad, hgood⟩ := HAt.out.num hL hD
            rw [← hn] at hbad hgood
            have HBD : Hid (((s[p].toNat : Int) = 48 ∧ 1 < n) ∨ Foll s (p + n) ∨ 18 < n → (firstOf (s.data.toList.drop p)).2 = 0) := hbad
            have HGD : Hid (¬ (((s[p].toNat : Int) = 48 ∧ 1 < n) ∨ Foll s (p + n) ∨ 18 < n) → firstOf (s.data.toList.drop p) = (kNum, n)) := hgood
            have HST : Hid (∀ h : p + n < s.size, isD s[p + n] = false) := fun h => run_stop hn h
            clear hn htx hbad hgood
            have hbs := hbel.size
            by_cases hfo : Foll s (p + n)
            · have HF : Hid ((firstOf (s.data.toList.drop p)).2 = 0) := HBD.out (Or.inr (Or.inl hfo))
              obtain ⟨hfl, hfl2⟩ := hfo
              have HE : Hid (∃ h : p + n < s.size, isL s[p + n] = true ∧ isD s[p + n] = false) := ⟨hfl, hfl2, HST.out hfl⟩
              clear hfl hfl2
              go_wp2_with (first | (go_at_call 13; refine (rletter_any _ _).mono ?_; rintro e w' ⟨rfl, hh⟩; replace hh := hh.symm; subst hh) | (go_at_call 14; refine (rdigit_any _ _).mono ?_; rintro e w' ⟨rfl, hh⟩; replace hh := hh.symm; subst hh))
              go_loop [8] (fun i => ∃ q : Nat, p ≤ q ∧ q ≤ p + n ∧ i = .int .i64 q) (fun i => s.size - (intOf i).toNat)
              case atStart => exact ⟨p, Nat.le_refl _, by omega, rfl⟩
              case round =>
                obtain ⟨q, hpq, hqn, rfl⟩ := hrel
                by_cases hq : q < p + n
                · have hqs : q < s.size := by omega
                  obtain hx := HQ.out q hqs hpq hq
                  by_cases hy : isD s[q] = true
                  · go_wp2_with (first | (go_at_call 13; refine (rletter_any _ _).mono ?_; rintro e w' ⟨rfl, hh⟩; replace hh := hh.symm; subst hh) | (go_at_call 14; refine (rdigit_any _ _).mono ?_; rintro e w' ⟨rfl, hh⟩; replace hh := hh.symm; subst hh))
                    go_round
                    case rel => exact ⟨q + 1, by omega, by omega, by go_num⟩
                    case measure => simp [intOf]; omega
                  · have hy : isD s[q] = false := by simpa using hy
                    rw [hy] at hx
                    cases hx
                · have hqe : q = p + n := by omega
                  subst hqe
                  clear hq hpq hqn
                  obtain ⟨hl2, hx, hy⟩ := HE.out
                  all_goals
                    go_wp2_with (first | (go_at_call 13; refine (rletter_any _ _).mono ?_; rintro e w' ⟨rfl, hh⟩; replace hh := hh.symm; subst hh) | (go_at_call 14; refine (rdigit_any _ _).mono ?_; rintro e w' ⟨rfl, hh⟩; replace hh := hh.symm; subst hh))
                    have hx0 := fun o1 => cell_of_blk (two_cells_new1 hblk (.int .i64 1) (.int .i64 p) o1) 0
                    have hx1 := fun o1 => cell_of_blk (two_cells_new1 hblk (.int .i64 1) (.int .i64 p) o1) 1
                    exact bodyPost_ret (v := .tuple #[.slice none 0 0, .agg #[.int .i64 1, .int .i64 p]]) (by simp [results, Tryz.results5, go_sem, hx0, hx1]) rfl ⟨ts ++ [], some p, ref_bad HAt.out HBl.out HF.out HS.out, set_below1 hbel _ _ _, Or.inr (Or.inl ⟨p, rfl, rfl⟩)⟩
            · have HE : Hid ((∃ h : p + n < s.size, isL s[p + n] = false ∧ isD s[p + n] = false) ∨ s.size ≤ p + n) := by
                by_cases h : p + n < s.size
                · left
                  refine ⟨h, ?_, HST.out h⟩
                  cases hx : isL s[p + n] with
                  | false => rfl
                  | true => exact absurd ⟨h, hx⟩ hfo
                · right; omega
              have HNF : Hid (¬ Foll s (p + n)) := hfo
              clear hfo
              by_cases h18 : 18 < n
              · have HF : Hid ((firstOf (s.data.toList.drop p)).2 = 0) := HBD.out (Or.inr (Or.inr h18))
                go_wp2_with (first | (go_at_call 13; refine (rletter_any _ _).mono ?_; rintro e w' ⟨rfl, hh⟩; replace hh := hh.symm; subst hh) | (go_at_call 14; refine (rdigit_any _ _).mono ?_; rintro e w' ⟨rfl, hh⟩; replace hh := hh.symm; subst hh))
                go_loop [8] (fun i => ∃ q : Nat, p ≤ q ∧ q ≤ p + n ∧ i = .int .i64 q) (fun i => s.size - (intOf i).toNat)
                case atStart => exact ⟨p, Nat.le_refl _, by omega, rfl⟩
                case round =>
                  obtain ⟨q, hpq, hqn, rfl⟩ := hrel
                  by_cases hq : q < p + n
                  · have hqs : q < s.size := by omega
                    obtain hx := HQ.out q hqs hpq hq
                    by_cases hy : isD s[q] = true
                    · go_wp2_with (first | (go_at_call 13; refine (rletter_any _ _).mono ?_; rintro e w' ⟨rfl, hh⟩; replace hh := hh.symm; subst hh) | (go_at_call 14; refine (rdigit_any _ _).mono ?_; rintro e w' ⟨rfl, hh⟩; replace hh := hh.symm; subst hh))
                      go_round
                      case rel => exact ⟨q + 1, by omega, by omega, by go_num⟩
                      case measure => simp [intOf]; omega
                    · have hy : isD s[q] = false := by simpa using hy
                      rw [hy] at hx
                      cases hx
                  · have hqe : q = p + n := by omega
                    subst hqe
                    clear hq hpq hqn
                    rcases HE.out with ⟨hl2, hx, hy⟩ | hge
                    all_goals
                      go_wp2_with (first | (go_at_call 13; refine (rletter_any _ _).mono ?_; rintro e w' ⟨rfl, hh⟩; replace hh := hh.symm; subst hh) | (go_at_call 14; refine (rdigit_any _ _).mono ?_; rintro e w' ⟨rfl, hh⟩; replace hh := hh.symm; subst hh))
                      have hx0 := fun o1 => cell_of_blk (two_cells_new1 hblk (.int .i64 1) (.int .i64 p) o1) 0
                      have hx1 := fun o1 => cell_of_blk (two_cells_new1 hblk (.int .i64 1) (.int .i64 p) o1) 1
                      exact bodyPost_ret (v := .tuple #[.slice none 0 0, .agg #[.int .i64 1, .int .i64 p]]) (by simp [results, Tryz.results5, go_sem, hx0, hx1]) rfl ⟨ts ++ [], some p, ref_bad HAt.out HBl.out HF.out HS.out, set_below1 hbel _ _ _, Or.inr (Or.inl ⟨p, rfl, rfl⟩)⟩
              · by_cases h1 : 1 < n
                · by_cases h48e : (s[p].toNat : Int) = 48
                  · have HF : Hid ((firstOf (s.data.toList.drop p)).2 = 0) := HBD.out (Or.inl ⟨h48e, h1⟩)
                    have h48 : ((s[p].toNat : Int) == 48) = true := by simpa using h48e
                    clear h48e
                    go_wp2_with (first | (go_at_call 13; refine (rletter_any _ _).mono ?_; rintro e w' ⟨rfl, hh⟩; replace hh := hh.symm; subst hh) | (go_at_call 14; refine (rdigit_any _ _).mono ?_; rintro e w' ⟨rfl, hh⟩; replace hh := hh.symm; subst hh))
                    go_loop [8] (fun i => ∃ q : Nat, p ≤ q ∧ q ≤ p + n ∧ i = .int .i64 q) (fun i => s.size - (intOf i).toNat)
                    case atStart => exact ⟨p, Nat.le_refl _, by omega, rfl⟩
                    case round =>
                      obtain ⟨q, hpq, hqn, rfl⟩ := hrel
                      by_cases hq : q < p + n
                      · have hqs : q < s.size := by omega
                        obtain hx := HQ.out q hqs hpq hq
                        by_cases hy : isD s[q] = true
                        · go_wp2_with (first | (go_at_call 13; refine (rletter_any _ _).mono ?_; rintro e w' ⟨rfl, hh⟩; replace hh := hh.symm; subst hh) | (go_at_call 14; refine (rdigit_any _ _).mono ?_; rintro e w' ⟨rfl, hh⟩; replace hh := hh.symm; subst hh))
                          go_round
                          case rel => exact ⟨q + 1, by omega, by omega, by go_num⟩
                          case measure => simp [intOf]; omega
                        · have hy : isD s[q] = false := by simpa using hy
                          rw [hy] at hx
                          cases hx
                      · have hqe : q = p + n := by omega
                        subst hqe
                        clear hq hpq hqn
                        rcases HE.out with ⟨hl2, hx, hy⟩ | hge
                        all_goals
                          go_wp2_with (first | (go_at_call 13; refine (rletter_any _ _).mono ?_; rintro e w' ⟨rfl, hh⟩; replace hh := hh.symm; subst hh) | (go_at_call 14; refine (rdigit_any _ _).mono ?_; rintro e w' ⟨rfl, hh⟩; replace hh := hh.symm; subst hh))
                          have hx0 := fun o1 => cell_of_blk (two_cells_new1 hblk (.int .i64 1) (.int .i64 p) o1) 0
                          have hx1 := fun o1 => cell_of_blk (two_cells_new1 hblk (.int .i64 1) (.int .i64 p) o1) 1
                          exact bodyPost_ret (v := .tuple #[.slice none 0 0, .agg #[.int .i64 1, .int .i64 p]]) (by simp [results, Tryz.results5, go_sem, hx0, hx1]) rfl ⟨ts ++ [], some p, ref_bad HAt.out HBl.out HF.out HS.out, set_below1 hbel _ _ _, Or.inr (Or.inl ⟨p, rfl, rfl⟩)⟩
                  · have HF : Hid (firstOf (s.data.toList.drop p) = (kNum, n)) := HGD.out (by rintro (h | h | h) <;> first | omega | exact HNF.out h)
                    have h48 : ((s[p].toNat : Int) == 48) = false := by simpa using h48e
                    clear h48e
                    go_wp2_with (first | (go_at_call 13; refine (rletter_any _ _).mono ?_; rintro e w' ⟨rfl, hh⟩; replace hh := hh.symm; subst hh) | (go_at_call 14; refine (rdigit_any _ _).mono ?_; rintro e w' ⟨rfl, hh⟩; replace hh := hh.symm; subst hh))
                    go_loop [8] (fun i => ∃ q : Nat, p ≤ q ∧ q ≤ p + n ∧ i = .int .i64 q) (fun i => s.size - (intOf i).toNat)
                    case atStart => exact ⟨p, Nat.le_refl _, by omega, rfl⟩
                    case round =>
                      obtain ⟨q, hpq, hqn, rfl⟩ := hrel
                      by_cases hq : q < p + n
                      · have hqs : q < s.size := by omega
                        obtain hx := HQ.out q hqs hpq hq
                        by_cases hy : isD s[q] = true
                        · go_wp2_with (first | (go_at_call 13; refine (rletter_any _ _).mono ?_; rintro e w' ⟨rfl, hh⟩; replace hh := hh.symm; subst hh) | (go_at_call 14; refine (rdigit_any _ _).mono ?_; rintro e w' ⟨rfl, hh⟩; replace hh := hh.symm; subst hh))
                          go_round
                          case rel => exact ⟨q + 1, by omega, by omega, by go_num⟩
                          case measure => simp [intOf]; omega
                        · have hy : isD s[q] = false := by simpa using hy
                          rw [hy] at hx
                          cases hx
                      · have hqe : q = p + n := by omega
                        subst hqe
                        clear hq hpq hqn
                        rcases HE.out with ⟨hl2, hx, hy⟩ | hge
                        all_goals
                          go_wp2_with (first | (go_at_call 13; refine (rletter_any _ _).mono ?_; rintro e w' ⟨rfl, hh⟩; replace hh := hh.symm; subst hh) | (go_at_call 14; refine (rdigit_any _ _).mono ?_; rintro e w' ⟨rfl, hh⟩; replace hh := hh.symm; subst hh) | (at_builtin; (refine wpList_append_own _ rfl _ _ 23 rfl (w.heap.size + 1) 54 i0 _ 3 40 Tryz.underlying23 hi hz0 hz1 hz2 rfl (by decide) _ _ _ rfl ((hown.alloc _).alloc _) _ 1 1 [.string ⟨#[110, 117, 109, 98, 101, 114]⟩, .string ⟨tx.toArray⟩, .int .i64 p] rfl rfl (new_cells_at _ #[.string ⟨#[110, 117, 109, 98, 101, 114]⟩, .string ⟨tx.toArray⟩, .int .i64 p] 54 _ (by simp)) (tok_one kNum tx p) (by unfold maxLen; omega) (by omega) (by simp; omega) ?_); intro v' w1 hown' hgrow _))
                          have ho2 := ref_row (k := kNum) (tx := tx) (p := p) hown'
                          obtain ⟨hb2, hk2⟩ := ref_next hbel hblk (al2 hBl _ _) ((hown.alloc _).alloc _) hgrow
                          clear hown' hgrow hsl hown hblk
                          go_roundw
                          case rel => exact ⟨p + n, ts ++ [⟨kNum, tx, p⟩], by omega, by go_num, ho2, hb2, hk2, by simp; omega, ref_step HAt.out HBl.out HF.out hn0 HT.out HS.out⟩
                          case measure => simp [intOf]; omega
                · have HF : Hid (firstOf (s.data.toList.drop p) = (kNum, n)) := HGD.out (by rintro (h | h | h) <;> first | omega | exact HNF.out h)
                  go_wp2_with (first | (go_at_call 13; refine (rletter_any _ _).mono ?_; rintro e w' ⟨rfl, hh⟩; replace hh := hh.symm; subst hh) | (go_at_call 14; refine (rdigit_any _ _).mono ?_; rintro e w' ⟨rfl, hh⟩; replace hh := hh.symm; subst hh))
                  go_loop [8] (fun i => ∃ q : Nat, p ≤ q ∧ q ≤ p + n ∧ i = .int .i64 q) (fun i => s.size - (intOf i).toNat)
                  case atStart => exact ⟨p, Nat.le_refl _, by omega, rfl⟩
                  case round =>
                    obtain ⟨q, hpq, hqn, rfl⟩ := hrel
                    by_cases hq : q < p + n
                    · have hqs : q < s.size := by omega
                      obtain hx := HQ.out q hqs hpq hq
                      by_cases hy : isD s[q] = true
                      · go_wp2_with (first | (go_at_call 13; refine (rletter_any _ _).mono ?_; rintro e w' ⟨rfl, hh⟩; replace hh := hh.symm; subst hh) | (go_at_call 14; refine (rdigit_any _ _).mono ?_; rintro e w' ⟨rfl, hh⟩; replace hh := hh.symm; subst hh))
                        go_round
                        case rel => exact ⟨q + 1, by omega, by omega, by go_num⟩
                        case measure => simp [intOf]; omega
                      · have hy : isD s[q] = false := by simpa using hy
                        rw [hy] at hx
                        cases hx
                    · have hqe : q = p + n := by omega
                      subst hqe
                      clear hq hpq hqn
                      rcases HE.out with ⟨hl2, hx, hy⟩ | hge
                      all_goals
                        go_wp2_with (first | (go_at_call 13; refine (rletter_any _ _).mono ?_; rintro e w' ⟨rfl, hh⟩; replace hh := hh.symm; subst hh) | (go_at_call 14; refine (rdigit_any _ _).mono ?_; rintro e w' ⟨rfl, hh⟩; replace hh := hh.symm; subst hh) | (at_builtin; (refine wpList_append_own _ rfl _ _ 23 rfl (w.heap.size + 1) 54 i0 _ 3 40 Tryz.underlying23 hi hz0 hz1 hz2 rfl (by decide) _ _ _ rfl ((hown.alloc _).alloc _) _ 1 1 [.string ⟨#[110, 117, 109, 98, 101, 114]⟩, .string ⟨tx.toArray⟩, .int .i64 p] rfl rfl (new_cells_at _ #[.string ⟨#[110, 117, 109, 98, 101, 114]⟩, .string ⟨tx.toArray⟩, .int .i64 p] 54 _ (by simp)) (tok_one kNum tx p) (by unfold maxLen; omega) (by omega) (by simp; omega) ?_); intro v' w1 hown' hgrow _))
                        have ho2 := ref_row (k := kNum) (tx := tx) (p := p) hown'
                        obtain ⟨hb2, hk2⟩ := ref_next hbel hblk (al2 hBl _ _) ((hown.alloc _).alloc _) hgrow
                        clear hown' hgrow hsl hown hblk
                        go_roundw
                        case rel => exact ⟨p + n, ts ++ [⟨kNum, tx, p⟩], by omega, by go_num, ho2, hb2, hk2, by simp; omega, ref_step HAt.out HBl.out HF.out hn0 HT.out HS.out⟩
                        case measure => simp [intOf]; omega
          · have hD : isD s[p] = false := by simpa using hD
            obtain ⟨hs2, hs1, hs0⟩ := HAt.out.sign hL hD
            have h1e : (s.data.toList.drop p).take 1 = [s[p]] := by rw [HAt.out.cons]; rfl
            have HS2 : Hid (inL twosL ((s.data.toList.drop p).take 2) = true → firstOf (s.data.toList.drop p) = (kSign, 2)) := hs2
            have HS1 : Hid (inL twosL ((s.data.toList.drop p).take 2) = false → inL onesLL ((s.data.toList.drop p).take 1) = true → firstOf (s.data.toList.drop p) = (kSign, 1)) := hs1
            have HS0 : Hid (inL twosL ((s.data.toList.drop p).take 2) = false → inL onesLL ((s.data.toList.drop p).take 1) = false → (firstOf (s.data.toList.drop p)).2 = 0) := hs0
            clear hs2 hs1 hs0 h1e
            obtain ⟨t1, ht1⟩ : ∃ t1, t1 = (s.data.toList.drop p).take 1 := ⟨_, rfl⟩
            obtain ⟨t2, ht2⟩ : ∃ t2, t2 = (s.data.toList.drop p).take 2 := ⟨_, rfl⟩
            have hsl1 : ∀ w, (Instr.slice 9 (.string s) (some (.int .i64 p)) (some (.int .i64 ((p : Int) + 1))) none).run Tryz.prog w = .ok (.string ⟨t1.toArray⟩) w := fun w => by
              rw [run_slice_string (P := Tryz.prog) w 9 s .i64 .i64 p ((p : Int) + 1) Tryz.underlying9 (by omega) (by omega) (by omega), ht1, ← ext_eq s p 1 (by omega)]
              rfl
            have hsl2 : p + 1 < s.size → ∀ w, (Instr.slice 9 (.string s) (some (.int .i64 p)) (some (.int .i64 ((p : Int) + 1 + 1))) none).run Tryz.prog w = .ok (.string ⟨t2.toArray⟩) w := fun h w => by
              rw [run_slice_string (P := Tryz.prog) w 9 s .i64 .i64 p ((p : Int) + 1 + 1) Tryz.underlying9 (by omega) (by omega) (by omega), ht2, ← ext_eq s p 2 (by omega)]
              rfl
            rw [← ht1, ← ht2] at HS1 HS0
            rw [← ht2] at HS2
            have HSH : Hid (s.size ≤ p + 1 → inL twosL t2 = false) := fun h => by rw [ht2]; exact HAt.out.short h
            have HT1 : Hid (t1 = (s.data.toList.drop p).take 1) := ht1
            have HT2 : Hid (t2 = (s.data.toList.drop p).take 2) := ht2
            clear ht1 ht2
            have hbs := hbel.size
            have hB1 : w.heap.size < wr.heap.size + 1 := by omega
            have hB2 : w.heap.size < wr.heap.size + 1 + 1 := by omega
            by_cases hlen1 : p + 1 < s.size
            · have hsl3 := hsl2 hlen1
              clear hsl2
              cases ht2 : inL twosL t2 with
              | true =>
                have HF : Hid (firstOf (s.data.toList.drop p) = (kSign, 2)) := HS2.out ht2
                go_wp2_with (first | (go_at_call 13; refine (rletter_any _ _).mono ?_; rintro e w' ⟨rfl, hh⟩; replace hh := hh.symm; subst hh) | (go_at_call 14; refine (rdigit_any _ _).mono ?_; rintro e w' ⟨rfl, hh⟩; replace hh := hh.symm; subst hh))
                refine (isIn_two t2 5 _ _ ?hbtwo).mono ?_
                case hbtwo => simp
                rintro e w' ⟨rfl, O2, hh⟩
                subst hh
                go_wp2_with (first | (at_builtin; (refine wpList_append_own _ rfl _ _ 23 rfl (w.heap.size + 1) 54 i0 _ 3 40 Tryz.underlying23 hi hz0 hz1 hz2 rfl (by decide) _ _ _ rfl (((hown.alloc _).alloc _).alloc _) _ 1 1 [.string ⟨#[115, 105, 103, 110]⟩, .string ⟨t2.toArray⟩, .int .i64 p] rfl rfl (new_cells_at _ #[.string ⟨#[115, 105, 103, 110]⟩, .string ⟨t2.toArray⟩, .int .i64 p] 54 _ (by simp)) (tok_one kSign t2 p) (by unfold maxLen; omega) (by omega) (by simp; omega) ?_); intro v' w1 hown' hgrow _))
                have ho2 := ref_row (k := kSign) (tx := t2) (p := p) hown'
                obtain ⟨hb2, hk2⟩ := ref_next hbel hblk (al3 hBl _ _ _) (((hown.alloc _).alloc _).alloc _) hgrow
                clear hown' hgrow hown hblk
                go_roundw
                case rel => exact ⟨p + 2, ts ++ [⟨kSign, t2, p⟩], by omega, by go_num, ho2, hb2, hk2, by simp; omega, ref_step HAt.out HBl.out HF.out (by decide) HT2.out HS.out⟩
                case measure => simp [intOf]; omega
              | false =>
                cases ht1 : inL onesLL t1 with
                | true =>
                  have HF : Hid (firstOf (s.data.toList.drop p) = (kSign, 1)) := HS1.out ht2 ht1
                  go_wp2_with (first | (go_at_call 13; refine (rletter_any _ _).mono ?_; rintro e w' ⟨rfl, hh⟩; replace hh := hh.symm; subst hh) | (go_at_call 14; refine (rdigit_any _ _).mono ?_; rintro e w' ⟨rfl, hh⟩; replace hh := hh.symm; subst hh))
                  refine (isIn_two t2 5 _ _ ?hbtwo).mono ?_
                  case hbtwo => simp
                  rintro e w' ⟨rfl, O2, hh⟩
                  subst hh
                  go_wp2_with (first | (go_at_call 13; refine (rletter_any _ _).mono ?_; rintro e w' ⟨rfl, hh⟩; replace hh := hh.symm; subst hh) | (go_at_call 14; refine (rdigit_any _ _).mono ?_; rintro e w' ⟨rfl, hh⟩; replace hh := hh.symm; subst hh))
                  refine (isIn_one t1 17 _ _ ?hbone).mono ?_
                  case hbone => simp
                  rintro e w' ⟨rfl, O1, hh⟩
                  subst hh
                  go_wp2_with (first | (at_builtin; (refine wpList_append_own _ rfl _ _ 23 rfl (w.heap.size + 1) 54 i0 _ 3 40 Tryz.underlying23 hi hz0 hz1 hz2 rfl (by decide) _ _ _ rfl ((((hown.alloc _).alloc _).alloc _).alloc _) _ 1 1 [.string ⟨#[115, 105, 103, 110]⟩, .string ⟨t1.toArray⟩, .int .i64 p] rfl rfl (new_cells_at _ #[.string ⟨#[115, 105, 103, 110]⟩, .string ⟨t1.toArray⟩, .int .i64 p] 54 _ (by simp)) (tok_one kSign t1 p) (by unfold maxLen; omega) (by omega) (by simp; omega) ?_); intro v' w1 hown' hgrow _))
                  have ho2 := ref_row (k := kSign) (tx := t1) (p := p) hown'
                  obtain ⟨hb2, hk2⟩ := ref_next hbel hblk (al4 hBl _ _ _ _) ((((hown.alloc _).alloc _).alloc _).alloc _) hgrow
                  clear hown' hgrow hown hblk
                  go_roundw
                  case rel => exact ⟨p + 1, ts ++ [⟨kSign, t1, p⟩], by omega, by go_num, ho2, hb2, hk2, by simp; omega, ref_step HAt.out HBl.out HF.out (by decide) HT1.out HS.out⟩
                  case measure => simp [intOf]; omega
                | false =>
                  have HF : Hid ((firstOf (s.data.toList.drop p)).2 = 0) := HS0.out ht2 ht1
                  go_wp2_with (first | (go_at_call 13; refine (rletter_any _ _).mono ?_; rintro e w' ⟨rfl, hh⟩; replace hh := hh.symm; subst hh) | (go_at_call 14; refine (rdigit_any _ _).mono ?_; rintro e w' ⟨rfl, hh⟩; replace hh := hh.symm; subst hh))
                  refine (isIn_two t2 5 _ _ ?hbtwo).mono ?_
                  case hbtwo => simp
                  rintro e w' ⟨rfl, O2, hh⟩
                  subst hh
                  go_wp2_with (first | (go_at_call 13; refine (rletter_any _ _).mono ?_; rintro e w' ⟨rfl, hh⟩; replace hh := hh.symm; subst hh) | (go_at_call 14; refine (rdigit_any _ _).mono ?_; rintro e w' ⟨rfl, hh⟩; replace hh := hh.symm; subst hh))
                  refine (isIn_one t1 17 _ _ ?hbone).mono ?_
                  case hbone => simp
                  rintro e w' ⟨rfl, O1, hh⟩
                  subst hh
                  go_wp2_with (first | fail)
                  have hx0 := fun o1 o2 o3 => cell_of_blk (two_cells_new3 hblk (.int .i64 1) (.int .i64 p) o1 o2 o3) 0
                  have hx1 := fun o1 o2 o3 => cell_of_blk (two_cells_new3 hblk (.int .i64 1) (.int .i64 p) o1 o2 o3) 1
                  exact bodyPost_ret (v := .tuple #[.slice none 0 0, .agg #[.int .i64 1, .int .i64 p]]) (by simp [results, Tryz.results5, go_sem, hx0, hx1]) rfl ⟨ts ++ [], some p, ref_bad HAt.out HBl.out HF.out HS.out, set_below3 hbel _ _ _ _ _, Or.inr (Or.inl ⟨p, rfl, rfl⟩)⟩
            · have ht2 := HSH.out (by omega)
              clear hsl2
              cases ht1 : inL onesLL t1 with
              | true =>
                have HF : Hid (firstOf (s.data.toList.drop p) = (kSign, 1)) := HS1.out ht2 ht1
                go_wp2_with (first | (go_at_call 13; refine (rletter_any _ _).mono ?_; rintro e w' ⟨rfl, hh⟩; replace hh := hh.symm; subst hh) | (go_at_call 14; refine (rdigit_any _ _).mono ?_; rintro e w' ⟨rfl, hh⟩; replace hh := hh.symm; subst hh))
                refine (isIn_one t1 17 _ _ ?hbone).mono ?_
                case hbone => simp
                rintro e w' ⟨rfl, O1, hh⟩
                subst hh
                go_wp2_with (first | (at_builtin; (refine wpList_append_own _ rfl _ _ 23 rfl (w.heap.size + 1) 54 i0 _ 3 40 Tryz.underlying23 hi hz0 hz1 hz2 rfl (by decide) _ _ _ rfl (((hown.alloc _).alloc _).alloc _) _ 1 1 [.string ⟨#[115, 105, 103, 110]⟩, .string ⟨t1.toArray⟩, .int .i64 p] rfl rfl (new_cells_at _ #[.string ⟨#[115, 105, 103, 110]⟩, .string ⟨t1.toArray⟩, .int .i64 p] 54 _ (by simp)) (tok_one kSign t1 p) (by unfold maxLen; omega) (by omega) (by simp; omega) ?_); intro v' w1 hown' hgrow _))
                have ho2 := ref_row (k := kSign) (tx := t1) (p := p) hown'
                obtain ⟨hb2, hk2⟩ := ref_next hbel hblk (al3 hBl _ _ _) (((hown.alloc _).alloc _).alloc _) hgrow
                clear hown' hgrow hown hblk
                go_roundw
                case rel => exact ⟨p + 1, ts ++ [⟨kSign, t1, p⟩], by omega, by go_num, ho2, hb2, hk2, by simp; omega, ref_step HAt.out HBl.out HF.out (by decide) HT1.out HS.out⟩
                case measure => simp [intOf]; omega
              | false =>
                have HF : Hid ((firstOf (s.data.toList.drop p)).2 = 0) := HS0.out ht2 ht1
                go_wp2_with (first | (go_at_call 13; refine (rletter_any _ _).mono ?_; rintro e w' ⟨rfl, hh⟩; replace hh := hh.symm; subst hh) | (go_at_call 14; refine (rdigit_any _ _).mono ?_; rintro e w' ⟨rfl, hh⟩; replace hh := hh.symm; subst hh))
                refine (isIn_one t1 17 _ _ ?hbone).mono ?_
                case hbone => simp
                rintro e w' ⟨rfl, O1, hh⟩
                subst hh
                go_wp2_with (first | fail)
                have hx0 := fun o1 o2 => cell_of_blk (two_cells_new2 hblk (.int .i64 1) (.int .i64 p) o1 o2) 0
                have hx1 := fun o1 o2 => cell_of_blk (two_cells_new2 hblk (.int .i64 1) (.int .i64 p) o1 o2) 1
                exact bodyPost_ret (v := .tuple #[.slice none 0 0, .agg #[.int .i64 1, .int .i64 p]]) (by simp [results, Tryz.results5, go_sem, hx0, hx1]) rfl ⟨ts ++ [], some p, ref_bad HAt.out HBl.out HF.out HS.out, set_below2 hbel _ _ _ _, Or.inr (Or.inl ⟨p, rfl, rfl⟩)⟩
    · have hpe : p = s.size := by omega
      subst hpe
      have hsc : Scan 0 s.data.toList ts none := by
        have := HS.out [] none (by rw [List.drop_of_length_le (by rw [data_len]; exact Nat.le_refl _)]; exact .nil _)
        rwa [List.append_nil] at this
      have HX : Hid (Scan 0 s.data.toList ts none) := hsc
      have hc0 : wr.cell? ⟨w.heap.size, 0, none⟩ = some (.int .i64 0) := cell_of_blk hblk 0
      have hc1 : wr.cell? ⟨w.heap.size, 1, none⟩ = some (.int .i64 0) := cell_of_blk hblk 1
      have hf0 : wr.frozen? ⟨w.heap.size, 0, none⟩ = false := free_of_blk hblk 0
      have hf1 : wr.frozen? ⟨w.heap.size, 1, none⟩ = false := free_of_blk hblk 1
      have hBl := heap_lt hblk
      clear hsc
      have HO : Hid (wr.ownsRow (w.heap.size + 1) 54 3 u4 ts.length (toksC ts)) := hown
      by_cases h1 : 1000 < ts.length
      · rcases id hown with ⟨_, ⟨rfl, h0⟩ | ⟨g, cap, cur, rfl, _⟩⟩
        · omega
        · clear hown
          go_wp2_with (go_at_call 12; refine (bare_any _ _).mono ?_; rintro e w' ⟨rfl, hh⟩; subst hh)
          have hx := two_cells_new hblk (.int .i64 8) (.int .i64 (-1)) (.cells #[.int .i64 8, .int .i64 (-1)] 25)
          have hx0 := cell_of_blk hx 0
          have hx1 := cell_of_blk hx 1
          have hsb := set_below hbel (.int .i64 8) (.int .i64 (-1))
          clear hblk hx
          exact bodyPost_ret (v := .tuple #[.slice none 0 0, .agg #[.int .i64 8, .int .i64 (-1)]]) (by simp [results, Tryz.results5, go_sem, hx0, hx1]) rfl ⟨ts, none, HX.out, hsb.alloc hsb.size _, Or.inr (Or.inr ⟨rfl, h1, rfl⟩)⟩
      · rcases id hown with ⟨_, ⟨hv, h0⟩ | ⟨g, cap, cur, hv, _⟩⟩
        · subst hv
          rw [h0] at h1
          clear hown
          go_wp2_with (go_at_call 17; refine (fine_any _).mono ?_; rintro e w' ⟨rfl, hh⟩; subst hh)
          have hx := two_cells_new hblk (.int .i64 0) (.int .i64 (-1)) (.cells #[.int .i64 0, .int .i64 (-1)] 25)
          have hx0 := cell_of_blk hx 0
          have hx1 := cell_of_blk hx 1
          have hsb := set_below hbel (.int .i64 0) (.int .i64 (-1))
          have ho2 := (ownsRow_setCell_below (ownsRow_setCell_below HO.out (a := ⟨w.heap.size, 0, none⟩) (Nat.lt_succ_self _) (.int .i64 0)) (a := ⟨w.heap.size, 1, none⟩) (Nat.lt_succ_self _) (.int .i64 (-1))).alloc (.cells #[.int .i64 0, .int .i64 (-1)] 25)
          clear hblk hx
          exact bodyPost_ret (v := .tuple #[.slice none 0 0, .agg #[.int .i64 0, .int .i64 (-1)]]) (by simp [results, Tryz.results5, go_sem, hx0, hx1]) rfl ⟨ts, none, HX.out, hsb.alloc hsb.size _, Or.inl ⟨rfl, by omega, _, rfl, ho2⟩⟩
        · subst hv
          clear hown
          go_wp2_with (go_at_call 17; refine (fine_any _).mono ?_; rintro e w' ⟨rfl, hh⟩; subst hh)
          have hx := two_cells_new hblk (.int .i64 0) (.int .i64 (-1)) (.cells #[.int .i64 0, .int .i64 (-1)] 25)
          have hx0 := cell_of_blk hx 0
          have hx1 := cell_of_blk hx 1
          have hsb := set_below hbel (.int .i64 0) (.int .i64 (-1))
          have ho2 := (ownsRow_setCell_below (ownsRow_setCell_below HO.out (a := ⟨w.heap.size, 0, none⟩) (Nat.lt_succ_self _) (.int .i64 0)) (a := ⟨w.heap.size, 1, none⟩) (Nat.lt_succ_self _) (.int .i64 (-1))).alloc (.cells #[.int .i64 0, .int .i64 (-1)] 25)
          clear hblk hx
          exact bodyPost_ret (v := .tuple #[.slice (some ⟨g, 0, none⟩) ts.length cap, .agg #[.int .i64 0, .int .i64 (-1)]]) (by simp [results, Tryz.results5, go_sem, hx0, hx1]) rfl ⟨ts, none, HX.out, hsb.alloc hsb.size _, Or.inl ⟨rfl, by omega, _, rfl, ho2⟩⟩
end Go.Proofs.YtdleiajkihijhabGreatDoor
