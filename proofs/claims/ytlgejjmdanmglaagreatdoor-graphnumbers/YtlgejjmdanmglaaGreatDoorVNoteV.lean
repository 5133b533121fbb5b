/- Our own: texts joined: GrNote, GrVisit. -/
import Derived.Test.YtlgejjmdanmglaaGreatDoorVGrRep
import Derived.Test.YtlgejjmdanmglaaGreatDoorVBase
import Derived.OwnWalk
import Derived.Deep.AppendLies
import Derived.Deep.OwnRows
import Derived.Deep.LoopGhost
namespace Go.Proofs.YtlgejjmdanmglaaGreatDoor
open Go.RowKit
def boolsG (l : List Bool) : List Value := l.map fun b => .bool b
def natsG (l : List Nat) : List Value := l.map fun (x : Nat) => .int .i64 (x : Int)
theorem natsG_snoc (l : List Nat) (x : Nat) : natsG (l ++ [x]) = natsG l ++ [.int .i64 (x : Int)] := by simp [natsG]
structure VAt (w : World) (B sb s1 l1 : Nat) (lv : Value) (st : List Bool × List Nat) : Prop where
 seen : w.heap[sb]? = some (.cells (boolsG st.1).toArray 4 (0, 0))
 sbox : w.heap[s1]? = some (.cells #[.slice (some ⟨sb, 0, none⟩) st.1.length st.1.length] 68 (0, 0))
 lbox : w.heap[l1]? = some (.cells #[lv] 40 (0, 0))
 own : w.ownsRow (l1 + 1) 3 1 lv st.2.length (natsG st.2)
 ord : B ≤ sb ∧ sb < s1 ∧ s1 < l1
theorem VAt.keep {w w' : World} {B sb s1 l1 : Nat} {lv : Value} {st : List Bool × List Nat} (h : VAt w B sb s1 l1 lv st) (hk : ∀ b, B ≤ b → b < w.heap.size → w'.heap[b]? = w.heap[b]?) : VAt w' B sb s1 l1 lv st := by
 have h1 := h.ord
 refine ⟨(hk sb (by omega) (heap_lt h.seen)).trans h.seen, (hk s1 (by omega) (heap_lt h.sbox)).trans h.sbox, (hk l1 (by omega) (heap_lt h.lbox)).trans h.lbox, own_same h.own fun b hb => ?_, h.ord⟩
 obtain ⟨q1, q2⟩ := h.own.lt b hb
 exact hk b (by omega) q2
structure VFr (sb l1 : Nat) (lv lv' : Value) (w w' : World) : Prop where
 os : w'.os = w.os
 tape : w'.tape = w.tape
 output : w'.output = w.output
 size : w.heap.size ≤ w'.heap.size
 block : ∀ b, b < w.heap.size → b ≠ sb → b ≠ l1 → lv.ownBlock ≠ some b → w'.heap[b]? = w.heap[b]?
 row : RowB w lv.ownBlock lv'.ownBlock
theorem VFr.refl (sb l1 : Nat) (lv : Value) (w : World) : VFr sb l1 lv lv w w := ⟨rfl, rfl, rfl, Nat.le_refl _, fun _ _ _ _ _ => rfl, RowB.refl _ _⟩
theorem VFr.trans {sb l1 : Nat} {u v x : Value} {a b c : World} (h : VFr sb l1 u v a b) (k : VFr sb l1 v x b c) : VFr sb l1 u x a c :=
 ⟨k.os.trans h.os, k.tape.trans h.tape, k.output.trans h.output, Nat.le_trans h.size k.size, fun i hi h1 h2 h3 => (k.block i (Nat.lt_of_lt_of_le hi h.size) h1 h2 (h.row.ne hi h3)).trans (h.block i hi h1 h2 h3), h.row.trans k.row h.size⟩
theorem boolsG_set (l : List Bool) (i : Nat) : (boolsG l).toArray.setIfInBounds i (.bool true) = (boolsG (l.set i true)).toArray := by
 apply Array.ext'
 simp [boolsG, List.map_set]
set_option maxRecDepth 100000 in
set_option maxHeartbeats 1000000 in
theorem note_any (w : World) (B sb s1 l1 : Nat) (lv : Value) (st : List Bool × List Nat) (hV : VAt w B sb s1 l1 lv st) (hn : st.1.length ≤ 1000) (mv : Value) (more : List Nat) (hm : ∀ i ∈ more, i < st.1.length) (hml : more.length ≤ 100000) (hl : st.2.length ≤ 2000)
  (hrow : XRow (fun b => b < w.heap.size ∧ b ≠ sb ∧ b ≠ s1 ∧ b ≠ l1 ∧ lv.ownBlock ≠ some b) w mv more.length (natsG more)) :
  Calls Tryz.prog 91 #[mv, .pointer (some ⟨s1, 0, none⟩), .pointer (some ⟨l1, 0, none⟩)] w fun e w' => e = .returned (.tuple #[]) ∧ ∃ lv', VAt w' B sb s1 l1 lv' (noteL st more) ∧ VFr sb l1 lv lv' w w' := by
 obtain ⟨ad, cap, rfl⟩ := hrow.is
 have hml' : (more.length : Int) ≤ 100000 := by omega
 have HV := hidX hV
 have HR := hidX hrow
 have HM := hidX hm
 clear hV hrow hm
 go_enter Tryz.func91, Tryz.ntmps91
 go_wp2_with fail
 go_loopw [8] (fun vi wr => ∃ (q : Nat) (lq : Value), q ≤ more.length ∧ vi = .int .i64 q ∧ Hid (VAt wr B sb s1 l1 lq (noteL st (more.take q))) ∧ Hid (VFr sb l1 lv lq w wr)) (fun vi _ => more.length - (intOf vi).toNat)
 case atStart => exact ⟨0, lv, Nat.zero_le _, rfl, HV.out, VFr.refl _ _ _ _⟩
 case round =>
  obtain ⟨q, lq, hq, rfl, HVQ, HFQ⟩ := hrel
  by_cases hlt : q < more.length
  ·have hlt' : (q : Int) < (more.length : Int) := by omega
   obtain ⟨g, off, e1, _, hg, hcs⟩ := HR.out.get (by omega)
   subst e1
   have hv := HVQ.out
   have hord := hv.ord
   have hx0 := hcs q (.int .i64 ((more[q] : Nat) : Int)) (by simp [natsG, hlt])
   have hx : wr.cell? ⟨g, off + q, none⟩ = some (.int .i64 ((more[q] : Nat) : Int)) := (World.cell?_of_block (w := w) (a := ⟨g, _, none⟩) (HFQ.out.block g hg.1 hg.2.1 hg.2.2.2.1 hg.2.2.2.2)).trans hx0
   have hlen : (noteL st (more.take q)).1.length = st.1.length := (noted_all (more.take q) st (fun i hi => HM.out i (List.mem_of_mem_take hi))).len
   have hfew := (noted_all (more.take q) st (fun i hi => HM.out i (List.mem_of_mem_take hi))).few
   have hxl : more[q] < (noteL st (more.take q)).1.length := by rw [hlen]; exact HM.out _ (List.getElem_mem hlt)
   have hun := unseen_le st.1
   have hnx : noteL st (more.take (q + 1)) = note1 (noteL st (more.take q)) more[q] := by rw [List.take_succ_eq_append_getElem hlt, noteL_snoc]
   generalize more[q] = x at hx hxl hnx
   generalize hsq : noteL st (more.take q) = sq at *
   obtain ⟨sn, ls⟩ := sq
   simp only at hv hxl hlen hfew
   have b1 : wr.cell? ⟨s1, 0, none⟩ = some (.slice (some ⟨sb, 0, none⟩) sn.length sn.length) := cell_of_blk hv.sbox 0
   have b2 : wr.cell? ⟨sb, x, none⟩ = some (.bool sn[x]) := by rw [cell_of_blk hv.seen x]; simp [boolsG, hxl]
   have b3 := free_of_blk hv.seen x
   have hxl' : (x : Int) < (sn.length : Int) := by omega
   have hsl : (sn.length : Int) ≤ 1000 := by omega
   have HNX := hidX hnx
   have HVV := hidX hv
   clear hnx hcs hx0 hg hsq hv
   cases hb : sn[x] with
   | true =>
    rw [hb] at b2
    have hn1 : note1 (sn, ls) x = (sn, ls) := by unfold note1; rw [if_pos (by simp [hxl, hb])]
    have HN1 := hidX (HNX.out.trans hn1)
    clear hb hn1
    go_wp2
    go_roundw
    case rel => exact ⟨q + 1, lq, by omega, by go_num, by unfold Hid; rw [HN1.out]; exact HVV.out, HFQ.out⟩
    case measure => simp [intOf]; omega
   | false =>
    rw [hb] at b2
    have hn1 : note1 (sn, ls) x = (sn.set x true, ls ++ [x]) := by unfold note1; rw [if_neg (by simp [hxl, hb])]
    have HN1 := hidX (HNX.out.trans hn1)
    clear hb hn1
    obtain ⟨i0, hi, iz0, iz1, iz2⟩ := info_parts int_info
    obtain ⟨lad, lcap, rfl⟩ := own_is HVV.out.own
    have w1 : (wr.setCell ⟨sb, x, none⟩ (.bool true)).heap[l1]? = some (.cells #[.slice lad ls.length lcap] 40 (0, 0)) := (Below.heap_setCell _ _ _ _ (by show l1 ≠ sb; omega)).trans HVV.out.lbox
    have w2 := cell_of_blk w1 0
    have w3 := free_of_blk w1 0
    have hll := heap_lt HVV.out.lbox
    have hno : (Value.slice lad ls.length lcap).ownBlock ≠ some sb := fun e => by have := (HVV.out.own.lt sb e).1; omega
    have ho1 : ((wr.setCell ⟨sb, x, none⟩ (.bool true)).alloc (.cells #[.int .i64 (x : Int)] 3)).ownsRow (l1 + 1) 3 1 (.slice lad ls.length lcap) ls.length (natsG ls) := own_same HVV.out.own fun b hb => by
     obtain ⟨q1, q2⟩ := HVV.out.own.lt b hb
     rw [Below.heap_alloc _ _ _ (by simpa [World.setCell] using q2), Below.heap_setCell _ _ _ _ (by show b ≠ sb; omega)]
    have hzs : (wr.setCell ⟨sb, x, none⟩ (.bool true)).heap.size = wr.heap.size := by simp [World.setCell]
    have hnews : ∀ j u, ([.int .i64 (x : Int)] : List Value)[j]? = some u → ((wr.setCell ⟨sb, x, none⟩ (.bool true)).alloc (.cells #[.int .i64 (x : Int)] 3)).cell? ((⟨wr.heap.size, 0, none⟩ : Addr).add j) = some u := by
     have := World.news_of_block (heap_alloc_new (wr.setCell ⟨sb, x, none⟩ (.bool true)) (.cells #[.int .i64 (x : Int)] 3))
     rw [hzs] at this
     exact this
    have HNW := hidX hnews
    have hl1b : ((wr.setCell ⟨sb, x, none⟩ (.bool true)).alloc (.cells #[.int .i64 (x : Int)] 3)).heap[l1]? = some (.cells #[.slice lad ls.length lcap] 40 (0, 0)) := (Below.heap_alloc _ _ _ (by rw [hzs]; exact hll)).trans w1
    have HL1B := hidX hl1b
    have hno2 : (Value.slice lad ls.length lcap).ownBlock ≠ some l1 := fun e => by have := (HVV.out.own.lt l1 e).1; omega
    have HNO2 := hidX hno2
    have HZS := hidX hzs
    clear hnews hl1b hno2 hzs
    have HO1 := hidX ho1
    have HNO := hidX hno
    clear ho1 hno w1
    go_wp2_with (first | (at_builtin; refine wpList_append_own_at _ rfl _ _ 40 rfl (l1 + 1) 3 i0 _ 1 8 Tryz.underlying40 hi iz0 iz1 iz2 rfl (by decide) (.slice lad ls.length lcap) ls.length (natsG ls) rfl HO1.out ⟨wr.heap.size, 0, none⟩ 1 1 [.int .i64 (x : Int)] rfl rfl HNW.out (int_one _) (by unfold maxLen; omega) (by omega) (by simp; omega) ?_; intro lv3 W3 ho3 hg3 _ hl3; obtain ⟨ad3, cc3, rfl⟩ := own_is ho3; have hk3 : W3.heap[l1]? = _ := (hg3.block l1 (heap_lt HL1B.out) (fun e => HNO2.out e.symm)).trans HL1B.out; have g5 := free_of_blk hk3 0; have g5c := cell_of_blk hk3 0; have HK3 := hidX hk3; have HO3 := hidX ho3; have HG3 := hidX hg3; have HL3 := hidX hl3; clear ho3 hg3 hl3 hk3) | fail)
    have hfin : VAt (W3.setCell ⟨l1, 0, none⟩ (.slice ad3 (ls.length + 1) cc3)) B sb s1 l1 (.slice ad3 (ls.length + 1) cc3) (sn.set x true, ls ++ [x]) := by
     have hs0 := blk_setCell HVV.out.seen x (.bool true)
     rw [boolsG_set] at hs0
     have hlt1 : sb < wr.heap.size := heap_lt HVV.out.seen
     have hlt2 : s1 < wr.heap.size := heap_lt HVV.out.sbox
     have hm1 := HNO.out
     have hm2 : (Value.slice lad ls.length lcap).ownBlock ≠ some s1 := fun e => by have := (HVV.out.own.lt s1 e).1; omega
     have hzs := HZS.out
     refine ⟨?_, ?_, ?_, ?_, hord⟩
     ·rw [Below.heap_setCell _ _ _ _ (by show sb ≠ l1; omega), HG3.out.block sb (by simp [hzs]; omega) (fun e => hm1 e.symm), Below.heap_alloc _ _ _ (by rw [hzs]; exact hlt1)]
      exact hs0
     ·rw [Below.heap_setCell _ _ _ _ (by show s1 ≠ l1; omega), HG3.out.block s1 (by simp [hzs]; omega) (fun e => hm2 e.symm), Below.heap_alloc _ _ _ (by rw [hzs]; exact hlt2), Below.heap_setCell _ _ _ _ (by show s1 ≠ sb; omega)]
      simpa using HVV.out.sbox
     ·have := blk_setCell HK3.out 0 (.slice ad3 (ls.length + 1) cc3)
      simpa using this
     ·show World.ownsRow _ _ _ _ _ (ls ++ [x]).length (natsG (ls ++ [x]))
      rw [natsG_snoc, List.length_append]
      refine own_same HO3.out fun b hb => Below.heap_setCell _ _ _ _ ?_
      have := (HO3.out.lt b hb).1
      show b ≠ l1; omega
    have hfr : VFr sb l1 (.slice lad ls.length lcap) (.slice ad3 (ls.length + 1) cc3) wr (W3.setCell ⟨l1, 0, none⟩ (.slice ad3 (ls.length + 1) cc3)) := by
     have hzs := HZS.out
     have hsz := HG3.out.size
     simp only [World.size_alloc, hzs] at hsz
     refine ⟨HG3.out.os, HG3.out.tape, HG3.out.output, by simp [World.setCell]; omega, fun b hb h1 h2 h3 => ?_, ?_⟩
     ·rw [Below.heap_setCell _ _ _ _ h2, HG3.out.block b (by simp [hzs]; omega) (fun e => h3 e.symm), Below.heap_alloc _ _ _ (by rw [hzs]; exact hb), Below.heap_setCell _ _ _ _ h1]
     ·rcases HL3.out with e | e
      ·exact Or.inl e
      ·exact Or.inr ⟨_, e, by simp [hzs]⟩
    have HFN := hidX hfin
    have HFR := hidX hfr
    clear hfin hfr
    go_wp2
    go_roundw
    case rel => exact ⟨q + 1, _, by omega, by go_num, by unfold Hid; rw [HN1.out]; exact HFN.out, HFQ.out.trans HFR.out⟩
    case measure => simp [intOf]; omega
  ·have hqn : q = more.length := by omega
   subst hqn
   have hv := HVQ.out
   rw [List.take_length] at hv
   have HVE := hidX hv
   clear hv
   go_wp2
   go_end0
   exact ⟨rfl, lq, HVE.out, HFQ.out⟩
end Go.Proofs.YtlgejjmdanmglaaGreatDoor
namespace Go.Proofs.YtlgejjmdanmglaaGreatDoor
open Go.RowKit
theorem bool_infoG : (Tryz.prog.info? 4).map (fun i => (i.zero, i.size, i.bytes)) = some (some (.bool false), 1, 1) := by kernel_rfl
theorem made_bools (n : Nat) : madeCells #[.bool false] n = (boolsG (List.replicate n false)).toArray := by
 apply Array.ext'
 apply List.ext_getElem?
 intro i
 simp [madeCells, boolsG, List.getElem?_replicate]
 by_cases h : i < n <;> simp [h, Nat.mod_one]
theorem threeG (w : World) (x y z : Obj) : (((w.alloc x).alloc y).alloc z).heap[w.heap.size]? = some x ∧ (((w.alloc x).alloc y).alloc z).heap[w.heap.size + 1]? = some y ∧ (((w.alloc x).alloc y).alloc z).heap[w.heap.size + 2]? = some z := by
 refine ⟨?_, ?_, ?_⟩
 ·rw [Below.heap_alloc _ _ _ (by simp; omega), Below.heap_alloc _ _ _ (by simp), heap_alloc_new]
 ·rw [Below.heap_alloc _ _ _ (by simp)]
  have := heap_alloc_new (w.alloc x) y
  rwa [show (w.alloc x).heap.size = w.heap.size + 1 by simp] at this
 ·have := heap_alloc_new ((w.alloc x).alloc y) z
  rwa [show ((w.alloc x).alloc y).heap.size = w.heap.size + 2 by simp] at this
structure Asks (w : World) (n c : Nat) (f : FuncId) (caps : Array Value) (G : Nat → Prop) (nx : Nat → List Nat) (I : World → List Nat → Prop) : Prop where
 ent : ∀ args X, (callFunc f args).run Tryz.prog X = .ok (.enter f args) X
 lt : ∀ x, x < n → G x → ∀ y ∈ nx x, y < n
 good : ∀ x, x < n → G x → ∀ y ∈ nx x, G y
 few : ∀ x, (nx x).length ≤ 100000
 hc : c < w.heap.size
 stay : ∀ X X' vis, I X vis → Below w.heap.size X X' → I X' vis
 next : ∀ X vis x, I X vis → w.heap.size ≤ X.heap.size → x < n → G x → vis.length < n → Calls Tryz.prog f (#[.int .i64 (x : Int)] ++ caps) X fun e w' => But c X w' ∧ I w' (x :: vis) ∧ ∃ v, e = .returned v ∧ XRow (fun b => b < w.heap.size ∨ (X.heap.size ≤ b ∧ b < w'.heap.size)) w' v (nx x).length (natsG (nx x))
theorem own_pop {w : World} {B : Nat} {ad : Option Addr} {cap : Nat} {l : List Nat} {x : Nat} (h : w.ownsRow B 3 1 (.slice ad (l ++ [x]).length cap) (l ++ [x]).length (natsG (l ++ [x]))) : ∃ g, ad = some ⟨g, 0, none⟩ ∧ (l ++ [x]).length ≤ cap ∧ w.cell? ⟨g, l.length, none⟩ = some (.int .i64 (x : Int)) ∧ w.ownsRow B 3 1 (.slice (some ⟨g, 0, none⟩) l.length cap) l.length (natsG l) := by
 rcases h with ⟨h1, ⟨_, h2⟩ | ⟨g, cp, cur, e, h3, h4, h5, h6, h7, h8⟩⟩
 ·simp at h2
 ·injection e with e1 e2 e3
  subst e1 e3
  rw [Nat.mul_one] at h8 h7
  refine ⟨g, rfl, h5, ?_, ?_⟩
  ·rw [cell_of_blk h4]
   have : cur.toList[l.length]? = some (.int .i64 (x : Int)) := by
    have h9 : (cur.toList.take (l ++ [x]).length)[l.length]? = some (.int .i64 (x : Int)) := by rw [h8]; simp [natsG]
    rwa [List.getElem?_take_of_lt (by simp)] at h9
   simpa using this
  ·refine ⟨by simp [natsG], Or.inr ⟨g, cap, cur, rfl, h3, h4, ?_, h6, by rw [Nat.mul_one]; exact h7, ?_⟩⟩
   ·simp at h5; omega
   ·rw [Nat.mul_one]
    have := congrArg (List.take l.length) h8
    rw [List.take_take, show min l.length (l ++ [x]).length = l.length by simp] at this
    rw [this]
    simp [natsG]
theorem own_eq {g b l c : Nat} (e : (Value.slice (some ⟨g, 0, none⟩) l c).ownBlock = some b) : g = b := by simpa [Value.ownBlock] using e
theorem VFr.below {B sb l1 : Nat} {lv lv' : Value} {w w' : World} (h : VFr sb l1 lv lv' w w') (h1 : B ≤ sb) (h2 : B ≤ l1) (h3 : ∀ b, lv.ownBlock = some b → B ≤ b) (hB : B ≤ w.heap.size) : Below B w w' :=
 ⟨h.os, h.tape, h.output, h.size, fun k hk => h.block k (by omega) (by omega) (by omega) (fun e => by have := h3 _ e; omega)⟩
theorem but_low {c B : Nat} {a b : World} (h : Below B a b) (_hc : c < B) (w : World) (hw : But c w a) (hB : B = w.heap.size) : But c w b :=
 ⟨h.os.trans hw.os, h.tape.trans hw.tape, h.output.trans hw.output, Nat.le_trans hw.size h.size, fun k hk hne => (h.block k (by omega)).trans (hw.block k hk hne)⟩
theorem unseen_rep (n : Nat) : unseen (List.replicate n false) = n := by simp [unseen]
theorem snoc_of {α : Type} (l : List α) (h : l ≠ []) : ∃ t x, l = t ++ [x] := ⟨l.dropLast, l.getLast h, (List.dropLast_concat_getLast h).symm⟩
set_option maxRecDepth 100000 in
set_option maxHeartbeats 1000000 in
theorem visit_any (w : World) (n : Nat) (hn : n ≤ 1000) (fv : Value) (first : List Nat) (hf : ∀ i ∈ first, i < n) (hfl : first.length ≤ 1000) (hrow : XRow (InH w) w fv first.length (natsG first)) (c : Nat) (f : FuncId) (caps : Array Value) (G : Nat → Prop) (hG : ∀ i ∈ first, G i) (nx : Nat → List Nat) (I : World → List Nat → Prop) (hA : Asks w n c f caps G nx I) (h0 : I w []) :
  Calls Tryz.prog 63 #[.int .i64 n, fv, .func (.func f) #[] caps] w fun e w' => e = .returned (.tuple #[]) ∧ But c w w' ∧ ∃ vis, I w' vis ∧ ∀ x, x ∈ vis ↔ ∃ s, s ∈ first ∧ Star (fun a b => b ∈ nx a) s x := by
 have hmk := run_make_row' (P := Tryz.prog) 68 4 (.bool false) 1 Tryz.underlying68 bool_infoG rfl .i64 .i64 n (by omega) (by omega)
 rw [made_bools] at hmk
 obtain ⟨W0, hW0⟩ : ∃ W0, W0 = ((w.alloc (.cells (boolsG (List.replicate n false)).toArray 4)).alloc (.cells #[.slice (some ⟨w.heap.size, 0, none⟩) n n] 68)).alloc (.cells #[.slice none 0 0] 40) := ⟨_, rfl⟩
 obtain ⟨t1, t2, t3⟩ := threeG w (.cells (boolsG (List.replicate n false)).toArray 4) (.cells #[.slice (some ⟨w.heap.size, 0, none⟩) n n] 68) (.cells #[.slice none 0 0] 40)
 rw [← hW0] at t1 t2 t3
 have hb0 : Below w.heap.size w W0 := by rw [hW0]; (repeat (first | exact Below.refl _ _ | assumption | refine Below.drew ?_ | refine bT ?_ _ | refine bS ?_ _ | refine bA ?_ _))
 have hs0 : W0.heap.size = w.heap.size + 3 := by rw [hW0]; simp
 have hV0 : VAt W0 w.heap.size w.heap.size (w.heap.size + 1) (w.heap.size + 2) (.slice none 0 0) (List.replicate n false, []) := ⟨t1, by simpa using t2, t3, World.ownsRow_nil _ _ _ _, by omega, by omega, by omega⟩
 have hcl := note_any W0 w.heap.size w.heap.size (w.heap.size + 1) (w.heap.size + 2) (.slice none 0 0) (List.replicate n false, []) hV0 (by simpa using hn) fv first (by simpa using hf) (by omega) (by simp) (hrow.imp (fun b (hb : b < w.heap.size) => ⟨by omega, by omega, by omega, by omega, by simp [Value.ownBlock]⟩) (keepH hb0))
 have hsr := Srch.start (R := fun a b => b ∈ nx a) (n := n) (l := first) hf
 have hnt := noted_all first (List.replicate n false, []) (by simpa using hf)
 have HCL := hidX hcl
 have HSR := hidX hsr
 have HNT := hidX hnt
 have HA := hidX hA
 have HI0 := hidX (hA.stay _ _ _ h0 hb0)
 have HB0 := hidX hb0
 have hcw := hA.hc
 have hent := hA.ent
 have HFF := hidX hf
 have HGG := hidX hG
 clear hcl hsr hnt hA h0 hb0 hrow hf hG t1 t2 t3 hV0
 go_enter Tryz.func63, Tryz.ntmps63
 go_wp2_with fail
 rw [← hW0]
 clear hW0 hmk
 refine HCL.out.mono ?_
 rintro e W1 ⟨rfl, lv1, hv1, hf1⟩
 have HV1 := hidX hv1
 have HF1 := hidX hf1
 clear hv1 hf1
 go_wp2_with fail
 go_loopg [] (2 * n + 1) (fun k wr => ∃ (st : List Bool × List Nat) (vis : List Nat) (lq : Value), 2 * unseen st.1 + st.2.length < k ∧ st.1.length = n ∧ vis.length + (unseen st.1 + st.2.length) ≤ n ∧ Hid (VAt wr w.heap.size w.heap.size (w.heap.size + 1) (w.heap.size + 2) lq st) ∧ Hid (Srch (fun a b => b ∈ nx a) (fun x => x ∈ first) (seenP st.1) st.2 vis) ∧ Hid (I wr vis) ∧ Hid (But c w wr) ∧ Hid (∀ x ∈ st.2, x < n ∧ G x))
 case atStart =>
  have h1 := HNT.out.many
  have h2 := HNT.out.few
  have h3 := HNT.out.len
  simp only [unseen_rep, List.length_nil, List.length_replicate] at h1 h2 h3
  have hb1 : Below w.heap.size W0 W1 := HF1.out.below (Nat.le_refl _) (by omega) (fun b e => by cases e) (by omega)
  refine ⟨_, [], lv1, by omega, h3, by rw [List.length_nil]; omega, HV1.out, HSR.out, HA.out.stay _ _ _ HI0.out hb1, but_low (bl_trans HB0.out HB0.out.size (Below.refl _ _) |>.trans hb1) hcw w (But.refl _ _) rfl, fun x hx => ?_⟩
  rcases (HNT.out.todo x).1 hx with h | ⟨h, _⟩
  ·simp at h
  ·exact ⟨HFF.out x h, HGG.out x h⟩
 case round =>
  obtain ⟨⟨sn, ls⟩, vis, lq, hk, hsl, hun, HV, HS, HI, HB, HLT⟩ := hrel
  simp only at hk hsl hun HV HS HLT
  obtain ⟨lad, lcap, rfl⟩ := own_is HV.out.own
  have b0 : wr.cell? ⟨w.heap.size + 2, 0, none⟩ = some (.slice lad ls.length lcap) := cell_of_blk HV.out.lbox 0
  have b1 := free_of_blk HV.out.lbox 0
  by_cases hls : ls = []
  ·subst hls
   have hdone := HS.out.done
   have HD := hidX hdone
   clear hdone
   simp only [List.length_nil] at b0
   go_wp2
   go_end0
   exact ⟨rfl, HB.out, vis, HI.out, HD.out⟩
  ·obtain ⟨t, x, rfl⟩ := snoc_of ls hls
   have hown := HV.out.own
   obtain ⟨g, rfl, hcap, hx, hown2⟩ := own_pop hown
   have hgl := (hown.lt g rfl)
   have hlen : (t ++ [x]).length = t.length + 1 := by simp
   rw [hlen] at b0 hcap hk hun
   obtain ⟨hxn, hxg⟩ := HLT.out x (by simp)
   have HXG := hidX hxg
   have htl : (t.length : Int) + 1 ≤ 1000 := by omega
   have hcap' : (t.length : Int) + 1 ≤ (lcap : Int) := by omega
   obtain ⟨wq, hwq⟩ : ∃ wq, wq = wr.setCell ⟨w.heap.size + 2, 0, none⟩ (.slice (some ⟨g, 0, none⟩) t.length lcap) := ⟨_, rfl⟩
   have hzq : wq.heap.size = wr.heap.size := by rw [hwq]; simp [World.setCell]
   have hbq : Below w.heap.size wr wq := by rw [hwq]; exact (Below.refl _ _).setCell (by show w.heap.size ≤ w.heap.size + 2; omega) _
   have hwz := HB.out.size
   have hVq : VAt wq w.heap.size w.heap.size (w.heap.size + 1) (w.heap.size + 2) (.slice (some ⟨g, 0, none⟩) t.length lcap) (sn, t) := by
    rw [hwq]
    refine ⟨(Below.heap_setCell _ _ _ _ (by show w.heap.size ≠ w.heap.size + 2; omega)).trans HV.out.seen, (Below.heap_setCell _ _ _ _ (by show w.heap.size + 1 ≠ w.heap.size + 2; omega)).trans HV.out.sbox, ?_, own_same hown2 fun b hb => Below.heap_setCell _ _ _ _ ?_, HV.out.ord⟩
    ·have := blk_setCell HV.out.lbox 0 (.slice (some ⟨g, 0, none⟩) t.length lcap)
     simpa using this
    ·have hb' : b = g := by simpa [Value.ownBlock] using hb.symm
     subst hb'
     show b ≠ w.heap.size + 2; omega
   have hIq := HA.out.stay _ _ _ HI.out hbq
   have hcall := HA.out.next wq vis x hIq (by omega) hxn hxg (by omega)
   have hnlt := HA.out.lt x hxn hxg
   have hnfew := HA.out.few x
   have hngd := HA.out.good x hxn hxg
   have HNGD := hidX hngd
   have hstep := HS.out.step (nx := nx x) (fun y => Iff.rfl) (by rw [hsl]; exact hnlt)
   have hntd := noted_all (nx x) (sn, t) (by rw [hsl]; exact hnlt)
   have hBq : But c w wq := but_low hbq hcw w HB.out rfl
   have HVQ := hidX hVq
   have HCQ := hidX hcall
   have HST := hidX hstep
   have HTD := hidX hntd
   have HBQ := hidX hBq
   have HLTN := hidX hnlt
   have HWQ := hidX hwq
   have HZQ := hidX hzq
   clear hVq hIq hcall hstep hntd hBq hngd hxg hnlt hown hown2 hwq hls hbq hzq
   go_wp2_with fail
   rw [← HWQ.out]
   refine HCQ.out.mono ?_
   rintro e W2 ⟨hb2, hi2, v, rfl, hr2⟩
   have hV2 : VAt W2 w.heap.size w.heap.size (w.heap.size + 1) (w.heap.size + 2) (.slice (some ⟨g, 0, none⟩) t.length lcap) (sn, t) := HVQ.out.keep fun b h1 h2 => hb2.block b h2 (by omega)
   have hq2 := hb2.size
   have hcl := note_any W2 w.heap.size w.heap.size (w.heap.size + 1) (w.heap.size + 2) _ (sn, t) hV2 (by simp only; omega) v (nx x) (by rw [hsl]; exact HLTN.out) (by omega) (by simp only; omega) (hr2.imp (fun b hb => by
    have hz := HZQ.out
    have hl2 := heap_lt HV.out.lbox
    rcases hb with hb | ⟨hb, hb'⟩
    ·exact ⟨by omega, by omega, by omega, by omega, fun e => absurd (own_eq e) (by omega)⟩
    ·exact ⟨hb', by omega, by omega, by omega, fun e => absurd (own_eq e) (by omega)⟩) (fun b _ => rfl))
   have HCL2 := hidX hcl
   have HI2 := hidX hi2
   have HB2 := hidX (HBQ.out.trans hb2)
   clear hcl hi2 hr2 hV2 hb2
   go_wp2_with fail
   refine HCL2.out.mono ?_
   rintro e W3 ⟨rfl, lv3, hv3, hf3⟩
   have hb3 : Below w.heap.size W2 W3 := hf3.below (Nat.le_refl _) (by omega) (fun b e => by have := own_eq e; omega) (by have := HZQ.out; omega)
   have HV3 := hidX hv3
   have HB3 := hidX hb3
   clear hv3 hf3 hb3
   go_wp2
   have m1 := HTD.out.many
   have m2 := HTD.out.few
   have m3 := HTD.out.len
   simp only at m1 m2 m3
   go_roundg (2 * unseen (noteL (sn, t) (nx x)).1 + (noteL (sn, t) (nx x)).2.length + 1)
   case measure => omega
   case rel => exact ⟨noteL (sn, t) (nx x), x :: vis, lv3, by omega, by omega, by rw [List.length_cons]; omega, HV3.out, HST.out, HA.out.stay _ _ _ HI2.out HB3.out, but_low HB3.out hcw w HB2.out rfl, fun y hy => (by
    rcases (HTD.out.todo y).1 hy with h | ⟨h, _⟩
    ·exact HLT.out y (by simp only [List.mem_append]; exact Or.inl h)
    ·exact ⟨HLTN.out y h, HNGD.out y h⟩)⟩
end Go.Proofs.YtlgejjmdanmglaaGreatDoor
