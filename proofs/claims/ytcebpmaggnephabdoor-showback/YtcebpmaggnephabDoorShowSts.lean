/-
  Our own: texts joined: ShowLn, ShowSt.
-/
import Derived.Test.YtcebpmaggnephabDoorShowOps

/-
  Our own: package show: a line; an expression's text alone.
-/
namespace Go.Proofs.YtcebpmaggnephabDoor
open Go.RowKit

set_option maxRecDepth 100000 in
set_option maxHeartbeats 1000000 in
theorem line_any {w : World} {B b : Nat} {d : Nat} {l : List UInt8} (s : ByteArray) (x : List UInt8) (hs : s.data.toList = x) (hx : x ≠ []) (hW : Wr B b d l w) (hB : B ≤ w.heap.size) (hl : l.length + d + x.length + 1 ≤ 1000000) :
    Calls Tryd.prog 22 #[.pointer (some ⟨b, 0, none⟩), .string s] w fun ev w' => ev = .returned (.tuple #[]) ∧ WTo B b d (l ++ (List.replicate d 9 ++ (x ++ [10]))) w w' := by
  obtain ⟨d2, _⟩ := hW.cell2
  have HW := hidS hW
  have hsz : s.size ≤ 1000000 := by
    have : s.size = s.data.toList.length := by show s.data.size = _; rw [Array.length_toList]
    rw [this, hs]; omega
  have HS := hidS hs
  clear hW hs
  go_enter Tryd.func22, Tryd.ntmps22
  go_wp2_with fail
  go_loopw [8] (fun vi wr => ∃ q : Nat, q ≤ d ∧ vi = .int .i64 q ∧ Hid (WTo B b d (l ++ List.replicate q 9) w wr)) (fun vi _ => d - (intOf vi).toNat)
  case atStart => exact ⟨0, Nat.zero_le _, rfl, by unfold Hid; simpa using ⟨HW.out, Below.refl _ _, Lib.OthersKept.refl _ _ _⟩⟩
  case round =>
    obtain ⟨q, hq, rfl, HQ⟩ := hrel
    by_cases hlt : q < d
    · have hlt' : (q : Int) < (d : Int) := by omega
      have hc := wwbyte_any B b d (l ++ List.replicate q 9) 9 _ HQ.out.1 (by simp; omega) (Nat.le_trans hB HQ.out.2.1.size)
      have HC := hidS hc
      clear hc d2
      go_wp2_with fail
      refine HC.out.mono ?_
      rintro e w2 ⟨rfl, hw2⟩
      have HF := hidS (HQ.out.trans hw2)
      clear hw2
      go_wp2
      go_roundw
      case rel => exact ⟨q + 1, by omega, by go_num, by have := HF.out; unfold Hid; simpa [List.replicate_succ'] using this⟩
      case measure => simp [intOf]; omega
    · have hqn : q = d := by omega
      subst hqn
      have hc := wwstr_any B b q (l ++ List.replicate q 9) s _ HQ.out.1 (by simp; omega) hsz (by rw [HS.out]; exact hx) (Nat.le_trans hB HQ.out.2.1.size)
      have HC := hidS hc
      clear hc d2
      go_wp2_with fail
      refine HC.out.mono ?_
      rintro e w2 ⟨rfl, hw2⟩
      rw [HS.out] at hw2
      have HF := hidS (HQ.out.trans hw2)
      clear hw2
      have hc := wwbyte_any B b q _ 10 _ HF.out.1 (by simp; omega) (Nat.le_trans hB HF.out.2.1.size)
      have HC2 := hidS hc
      clear hc
      go_wp2_with fail
      refine HC2.out.mono ?_
      rintro e w3 ⟨rfl, hw3⟩
      have HF3 := hidS (HF.out.trans hw3)
      clear hw3
      go_wp2
      go_end0
      exact ⟨rfl, by simpa using HF3.out⟩
theorem wr_new {w : World} {B : Nat} (hB : B ≤ w.heap.size) : Wr B w.heap.size 0 [] (w.alloc (.cells #[.pointer none, .slice none 0 0, .int .i64 0] 73)) :=
  Or.inl ⟨hB, .slice none 0 0, heap_alloc_new _ _, World.ownsRow_nil _ _ _ _, by simp [Value.ownBlock], fun _ => rfl⟩
set_option maxRecDepth 100000 in
set_option maxHeartbeats 1000000 in
theorem exprS_any {e : Ex} (hp : PE e) {w : World} {a : Nat → Addr} {B : Nat} {cs : List Value} (hG : ShG B w a) (hB : B ≤ w.heap.size) (hr : RepE (fun b => b < B) w e cs) (hl : (textE e).length ≤ 1000000) :
    Calls Tryd.prog 20 #[.agg cs.toArray] w fun ev w' => ev = .returned (.string ⟨(textE e).toArray⟩) ∧ Below w.heap.size w w' := by
  have hx := expr_all e hp
  have hb0 := box_blkS w cs.toArray 55
  have hb1 := box_blkS (w.alloc (.cells cs.toArray 55)) #[.pointer none, .slice none 0 0, .int .i64 0] 73
  have hb2 := bl_trans hb0 hb0.size hb1
  have hc := hx _ a w.heap.size (w.alloc (.cells cs.toArray 55)).heap.size 0 [] cs (wr_new hb0.size) ((hG.up hB).on hb2) hb2.size (RepE.imp (fun _ h => Nat.lt_of_lt_of_le h hB) (fun b hb => hb2.block b (Nat.lt_of_lt_of_le hb hB)) _ _ hr) (by simpa using hl)
  generalize textE e = tx at hc hl ⊢
  obtain ⟨ek, en, em, ks⟩ := e
  obtain ⟨v, xs, rfl, hrow, _⟩ := hr
  obtain ⟨ad, cap, rfl, _⟩ := hrow
  rw [World.size_alloc] at hc
  have HC := hidS hc
  clear hc hx hG hp hb1 hb0
  go_enter Tryd.func20, Tryd.ntmps20
  go_wp2_with fail
  refine HC.out.mono ?_
  rintro e w2 ⟨rfl, hw2⟩
  have hst := wstring_any _ _ _ _ _ hw2.1
  have HS := hidS hst
  have hb3 := hb2.trans hw2.2.1
  clear hst hw2 HC
  go_wp2_with fail
  refine HS.out.mono ?_
  rintro e w3 ⟨rfl, hb4⟩
  go_wp2
  go_ret
  exact ⟨rfl, hb3.trans hb4⟩
end Go.Proofs.YtcebpmaggnephabDoor

/-
  Our own: package show: statements as text.
-/
namespace Go.Proofs.YtcebpmaggnephabDoor
open Go.RowKit

def textS (d : Nat) (s : Sm) : List UInt8 := bytesI (itS d s)
def textSs (d : Nat) (l : List Sm) : List UInt8 := bytesI (itSs d l)
theorem text_tabs : ∀ d, bytesI (tabsI d) = List.replicate d 9
  | 0 => rfl
  | d + 1 => by
    show bytesI (.bl 9 :: tabsI d) = _
    rw [bytesI, text_tabs d]; rfl
def lineT (d : Nat) (x : List UInt8) : List UInt8 := List.replicate d 9 ++ (x ++ [10])
theorem text_line (d : Nat) (x : List It) : bytesI (lineI d x) = lineT d (bytesI x) := by
  rw [lineI, bytesI_append, bytesI_append, text_tabs]; rfl
theorem textS_var (d : Nat) (m : List UInt8) (e : Ex) : textS d (.mk kVar m e [] []) = lineT d ([118, 97, 114, 32] ++ m ++ [32, 61, 32] ++ textE e ++ [59]) := by
  unfold textS textE
  rw [itS, combIS, if_pos rfl, text_line]
  simp [bytesI, It.bytes, bytesI_append, kVar]
theorem textS_set (d : Nat) (m : List UInt8) (e : Ex) : textS d (.mk kSet m e [] []) = lineT d (m ++ [32, 61, 32] ++ textE e ++ [59]) := by
  unfold textS textE
  rw [itS, combIS, if_neg (by decide), if_pos rfl, text_line]
  simp [bytesI, It.bytes, bytesI_append]
theorem textS_give (d : Nat) (k : List UInt8) (e : Ex) (hk : k = kReturn ∨ k = kPrint) : textS d (.mk k [] e [] []) = lineT d (k ++ [32] ++ textE e ++ [59]) := by
  unfold textS textE
  rw [itS, combIS, if_neg (by rcases hk with h | h <;> (rw [h]; decide)), if_neg (by rcases hk with h | h <;> (rw [h]; decide)), if_neg (by rcases hk with h | h <;> (rw [h]; decide)), if_neg (by rcases hk with h | h <;> (rw [h]; decide)), text_line]
  simp [bytesI, It.bytes, bytesI_append]
theorem textS_while (d : Nat) (e : Ex) (t : List Sm) : textS d (.mk kWhile [] e t []) = lineT d (kWhile ++ [32] ++ textE e ++ [32, 123]) ++ (textSs (d + 1) t ++ lineT d [125]) := by
  unfold textS textE textSs
  rw [itS, combIS, if_neg (by decide), if_neg (by decide), if_neg (by decide), if_pos rfl, bytesI_append, bytesI_append, text_line, text_line]
  simp [bytesI, It.bytes, bytesI_append]
theorem textS_if (d : Nat) (e : Ex) (t o : List Sm) : textS d (.mk kIf [] e t o) = lineT d (kIf ++ [32] ++ textE e ++ [32, 123]) ++ (textSs (d + 1) t ++ ((if o.isEmpty then [] else lineT d [125, 32, 101, 108, 115, 101, 32, 123] ++ textSs (d + 1) o) ++ lineT d [125])) := by
  unfold textS textE textSs
  rw [itS, combIS, if_neg (by decide), if_neg (by decide), if_pos rfl, bytesI_append, bytesI_append, bytesI_append, text_line, text_line]
  split
  · simp [bytesI, It.bytes, bytesI_append]
  · rw [bytesI_append, text_line]
    simp [bytesI, It.bytes, bytesI_append, kElse]
theorem textSs_step (d : Nat) (l : List Sm) (q : Nat) (h : q < l.length) : textSs d (l.take (q + 1)) = textSs d (l.take q) ++ textS d l[q] := by
  have happ : ∀ (a b : List Sm), itSs d (a ++ b) = itSs d a ++ itSs d b := by
    intro a b
    induction a with
    | nil => rfl
    | cons x r ih => rw [List.cons_append, itSs, itSs, ih, List.append_assoc]
  unfold textSs textS
  rw [List.take_succ_eq_append_getElem h, happ, bytesI_append]
  simp [itSs]
theorem textSs_le (d : Nat) (l : List Sm) : ∀ (n q : Nat), q + n = l.length → (textSs d (l.take q)).length ≤ (textSs d l).length
  | 0, q, h => by rw [show q = l.length by omega, List.take_length]; exact Nat.le_refl _
  | n + 1, q, h => by
    have := textSs_le d l n (q + 1) (by omega)
    rw [textSs_step d l q (by omega), List.length_append] at this
    omega
/-- What writing a statement, a block comes to. -/
def StW (s : Sm) : Prop := ∀ (w : World) (a : Nat → Addr) (B b d : Nat) (l : List UInt8) (cs : List Value), Wr B b (d : Nat) l w → ShG B w a → B ≤ w.heap.size → RepS (fun b => b < B) w s cs → l.length + (textS d s).length ≤ 1000000 →
  Calls Tryd.prog 43 #[.pointer (some ⟨b, 0, none⟩), .agg cs.toArray] w fun ev w' => ev = .returned (.tuple #[]) ∧ WTo B b (d : Nat) (l ++ textS d s) w w'
def BlW (t : List Sm) : Prop := ∀ (w : World) (a : Nat → Addr) (B b d : Nat) (l : List UInt8) (v : Value) (xs : List Value), Wr B b (d : Nat) l w → ShG B w a → B ≤ w.heap.size → Row (fun b => b < B) w v t.length xs → RepSs (fun b => b < B) w t xs → l.length + (textSs (d + 1) t).length ≤ 1000000 → d ≤ 1000000 →
  Calls Tryd.prog 24 #[.pointer (some ⟨b, 0, none⟩), v] w fun ev w' => ev = .returned (.tuple #[]) ∧ WTo B b (d : Nat) (l ++ textSs (d + 1) t) w w'
theorem repSs_at {A : Nat → Prop} {w : World} : ∀ {ks : List Sm} {xs : List Value} {i : Nat} (_ : RepSs A w ks xs) (hi : i < ks.length), ∃ cs, RepS A w ks[i] cs ∧ ∀ j u, cs[j]? = some u → xs[i * 8 + j]? = some u
  | [], _, _, _, hi => absurd hi (by simp)
  | e :: r, _, 0, ⟨cs, ys, rfl, he, _⟩, _ => ⟨cs, he, fun j u hu => by
      have hlt : j < cs.length := by
        rcases Nat.lt_or_ge j cs.length with h | h
        · exact h
        · rw [List.getElem?_eq_none h] at hu; cases hu
      rw [Nat.zero_mul, Nat.zero_add, List.getElem?_append_left hlt]; exact hu⟩
  | e :: r, _, i + 1, ⟨cs, ys, rfl, he, hr⟩, hi => by
    obtain ⟨c2, h1, h2⟩ := repSs_at (i := i) hr (by simpa using hi)
    refine ⟨c2, h1, fun j u hu => ?_⟩
    rw [List.getElem?_append_right (by rw [he.len]; omega), he.len, show (i + 1) * 8 + j - 8 = i * 8 + j by omega]
    exact h2 j u hu
theorem repS_keep {B : Nat} {w w' : World} {e : Sm} {cs : List Value} (h : RepS (fun b => b < B) w e cs) (hb : Below B w w') : RepS (fun b => b < B) w' e cs := RepS.imp (fun _ h => h) (fun b hb' => hb.block b hb') _ _ h
theorem Wr.store {B b : Nat} {k : Int} {l : List UInt8} {w : World} (h : Wr B b k l w) (j : Int) : WTo B b j l w (w.setCell ⟨b, 2, none⟩ (.int .i64 j)) :=
  ⟨h.count j, (Below.refl _ _).setCell (p := ⟨b, 2, none⟩) h.lt.1 _, (Lib.OthersKept.refl _ _ _).setCell ⟨b, 2, none⟩ rfl _⟩
set_option maxRecDepth 100000 in
set_option maxHeartbeats 1000000 in
theorem block_w {t : List Sm} (ih : ∀ s ∈ t, StW s) (ht8 : t.length ≤ 1000000) : BlW t := by
  intro w a B b d l v xs hW hG hB hrow hes hl hd
  obtain ⟨ad, cap, rfl, hx⟩ := hrow
  obtain ⟨d2, d3⟩ := hW.cell2
  have hst := hW.store ((d : Int) + 1)
  have HST := hidS hst
  have HX := hidS hx
  have HE := hidS hes
  have HW := hidS hW
  have HG := hidS hG
  have IH := hidS ih
  have hdi : (d : Int) + 1 ≤ 9223372036854775807 := by omega
  clear hx hes hW hG ih hst
  go_enter Tryd.func24, Tryd.ntmps24
  go_wp2_with fail
  clear d2 d3
  go_loopw [15] (fun vi wr => ∃ q : Nat, q ≤ t.length ∧ vi = .int .i64 q ∧ w.heap.size ≤ wr.heap.size ∧ Hid (WTo B b (((d + 1 : Nat)) : Int) (l ++ textSs (d + 1) (t.take q)) w wr)) (fun vi _ => t.length - (intOf vi).toNat)
  case atStart => exact ⟨0, Nat.zero_le _, rfl, by simp, by have := HST.out; unfold Hid; simpa [textSs, itSs, bytesI] using this⟩
  case round =>
    obtain ⟨q, hq, rfl, hz, HQ⟩ := hrel
    clear HST
    by_cases hlt : q < t.length
    · have hlt' : (q : Int) < (t.length : Int) := by omega
      obtain ⟨ca, e1, e2⟩ := repSs_at HE.out hlt
      obtain ⟨g, rfl, ⟨hg, _⟩, hc⟩ := HX.out (by omega)
      have hbl := HQ.out.2.1
      have hstp := textSs_step (d + 1) t q hlt
      have hle := textSs_le (d + 1) t (t.length - (q + 1)) (q + 1) (by omega)
      rw [hstp] at hle
      simp only [List.length_append] at hle
      have hex := IH.out _ (List.getElem_mem hlt)
      generalize t[q] = x at e1 hstp hle hex
      have hcall : ∀ X l', Below B w X → Wr B b ((d + 1 : Nat) : Int) l' X → l'.length + (textS (d + 1) x).length ≤ 1000000 → Calls Tryd.prog 43 #[.pointer (some ⟨b, 0, none⟩), .agg ca.toArray] X fun ev w' => ev = .returned (.tuple #[]) ∧ WTo B b ((d + 1 : Nat) : Int) (l' ++ textS (d + 1) x) X w' := fun X l' hX hWX hl' =>
        hex X a B b (d + 1) l' _ hWX (HG.out.on hX) (Nat.le_trans hB hX.size) (repS_keep e1 hX) hl'
      generalize textS (d + 1) x = tx at hstp hle hcall
      obtain ⟨xk, xm, xe, xt, xo⟩ := x
      obtain ⟨ea, ta, tsa, oa, osa, rfl, r1, r2, r3, r4, r5⟩ := e1
      obtain ⟨adt, ct, rfl, _⟩ := r2
      obtain ⟨ado, co, rfl, _⟩ := r4
      obtain ⟨xek, xen, xem, xes⟩ := xe
      obtain ⟨ya, za, rfl, ra, _⟩ := r1
      obtain ⟨ad1, cap1, rfl, _⟩ := ra
      have a0 := (hbl.cell (p := ⟨g, _, none⟩) hg).trans (hc _ _ (e2 0 _ rfl))
      have a1 := (hbl.cell (p := ⟨g, _, none⟩) hg).trans (hc _ _ (e2 1 _ rfl))
      have a2 := (hbl.cell (p := ⟨g, _, none⟩) hg).trans (hc _ _ (e2 2 _ rfl))
      have a3 := (hbl.cell (p := ⟨g, _, none⟩) hg).trans (hc _ _ (e2 3 _ rfl))
      have a4 := (hbl.cell (p := ⟨g, _, none⟩) hg).trans (hc _ _ (e2 4 _ rfl))
      have a5 := (hbl.cell (p := ⟨g, _, none⟩) hg).trans (hc _ _ (e2 5 _ rfl))
      have a6 := (hbl.cell (p := ⟨g, _, none⟩) hg).trans (hc _ _ (e2 6 _ rfl))
      have a7 := (hbl.cell (p := ⟨g, _, none⟩) hg).trans (hc _ _ (e2 7 _ rfl))
      rw [Nat.add_zero] at a0
      have HCL := hidS hcall
      have HSP := hidS hstp
      have hbx := box_blkS wr #[.string ⟨xk.toArray⟩, .string ⟨xm.toArray⟩, .string ⟨xek.toArray⟩, .int .i64 xen, .string ⟨xem.toArray⟩, .slice ad1 xes.length cap1, .slice adt xt.length ct, .slice ado xo.length co] 57
      have HWX := hidS (HQ.out.keep (by omega) hbx)
      clear hcall hstp hex e2 hc hbl hbx r3 r5
      go_wp2_with fail
      refine (HCL.out _ _ HWX.out.2.1 HWX.out.1 (by simp only [List.length_append]; omega)).mono ?_
      rintro e w3 ⟨rfl, hw3⟩
      have HF := hidS (HWX.out.trans hw3)
      have z3 := hw3.2.1.size
      simp at z3
      clear hw3 a0 a1 a2 a3 a4 a5 a6 a7
      go_wp2
      go_roundw
      case rel => exact ⟨q + 1, by omega, by go_num, by omega, by have := HF.out; unfold Hid; rw [HSP.out]; simpa using this⟩
      case measure => simp [intOf]; omega
    · have hqn : q = t.length := by omega
      subst hqn
      rw [List.take_length] at HQ
      obtain ⟨d2, d3⟩ := HQ.out.1.cell2
      have hst := HQ.out.trans (HQ.out.1.store (d : Int))
      have HST := hidS hst
      clear hst
      have hcast : ((d + 1 : Nat) : Int) - 1 = (d : Int) := by omega
      go_wp2
      go_end0
      exact ⟨rfl, by simpa using HST.out⟩
end Go.Proofs.YtcebpmaggnephabDoor
