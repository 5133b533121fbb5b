/- Our own: texts joined: GrGiv, GrTak. -/
import Derived.Test.YtlgejjmdanmglaaGreatDoorVCkAll
import Derived.Test.YtlgejjmdanmglaaGreatDoorVByteIn
import Derived.Deep.RegionHeld3
namespace Go.Proofs.YtlgejjmdanmglaaGreatDoor
open Go.RowKit
theorem giv_bad {L : List Nd} {n : Nd} {q : Nat} (hq : q < n.ins.length) (h : givAt L n q = false) : givB L n = false := by
 unfold givB
 rw [List.all_eq_false]
 exact ⟨q, by simpa using hq, by simp [h]⟩
theorem giv_good {L : List Nd} {n : Nd} (h : ∀ j, j < n.ins.length → givAt L n j = true) : givB L n = true := by
 unfold givB
 rw [List.all_eq_true]
 intro x hx
 exact h x (by simpa using hx)
theorem idx_byte (l : List UInt8) (c : UInt8) : (Lib.indexByte l c < 0) ↔ l.contains c = false := by
 have := index_mem c l
 rw [← List.contains_iff_mem] at this
 constructor
 ·intro h; cases e : l.contains c with
  | false => rfl
  | true => have := this.2 e; omega
 ·intro h; rw [h] at this; simp at this; omega
theorem fits_due {s : Shp} {n : Nd} (h : fitsB s n = true) {k : Nat} (hk : k < n.ins.length) : k < s.ins.length ∨ s.more ≠ [] := by
 unfold fitsB at h
 simp only [Bool.and_eq_true, Bool.or_eq_true, beq_iff_eq, decide_eq_true_eq, bne_iff_ne, ne_eq] at h
 rcases h.1.1 with h | h
 ·exact Or.inl (by omega)
 ·exact Or.inr h.2
theorem shp_low (k : List UInt8) : (shp k).ins.length ≤ 5 := by
 rcases kind_cases k with rfl | rfl | rfl | rfl | rfl | rfl | rfl | rfl | rfl | rfl | rfl | rfl | rfl | rfl | ⟨e, _⟩ <;> first | decide | (rw [e]; decide)
theorem idxb_any (gv : List UInt8) (c : UInt8) (w : World) : Calls Tryz.prog 89 #[.string ⟨gv.toArray⟩, .int .u8 (c.toNat : Nat)] w fun e w' => w' = w ∧ ∃ r : Int, e = .returned (.int .i64 r) ∧ (r < 0 ↔ gv.contains c = false) := by
 refine (index_byte ⟨gv.toArray⟩ (c.toNat : Nat) w).mono ?_
 rintro e w' ⟨rfl, rfl⟩
 refine ⟨rfl, _, rfl, ?_⟩
 have : ((c.toNat : Nat) : Int).toNat.toUInt8 = c := by simp
 rw [this]
 exact idx_byte gv c
set_option maxRecDepth 100000 in
set_option maxHeartbeats 2000000 in
theorem given_any {w : World} {a : Nat → Addr} {p m : Nat} {nm : List UInt8} {P : Int} {nv sv : Value} {L : List Nd} (h : Ck w a p m nm P nv sv L) (n : Nd) (hn : LowN n) (ad1 : Option Addr) (cap1 : Nat) (hr : XRow (InH w) w (.slice ad1 n.ins.length cap1) n.ins.length (intsG n.ins)) (hf : fitsB (shp n.kind) n = true) (hbd : ∀ x ∈ n.ins, 0 ≤ x ∧ x < (L.length : Int)) :
  Calls Tryz.prog 59 #[.pointer (some ⟨p, 0, none⟩), ndV n ad1 cap1, shpV (shp n.kind)] w fun e w' => e = .returned (.bool (givB L n)) ∧ Below w.heap.size w w' := by
 have hb0 : Below w.heap.size w ((w.alloc (.cells #[.string ⟨n.kind.toArray⟩, .slice ad1 n.ins.length cap1, .int .i64 n.num, .string ⟨n.name.toArray⟩] 55)).alloc (.cells #[.string ⟨(shp n.kind).kind.toArray⟩, .string ⟨(shp n.kind).ins.toArray⟩, .string ⟨(shp n.kind).more.toArray⟩, .bool (shp n.kind).num, .bool (shp n.kind).name, .string ⟨(shp n.kind).gives.toArray⟩] 118)) := by (repeat (first | exact Below.refl _ _ | assumption | refine Below.drew ?_ | refine bT ?_ _ | refine bS ?_ _ | refine bA ?_ _))
 obtain ⟨sa, sc, rfl⟩ := h.shapes.is
 have hpl := heap_lt h.blk
 have hni : (n.ins.length : Int) ≤ 1000 := by have := hn.ins; omega
 have hdue : ∀ q, q < n.ins.length → ∀ X, Calls Tryz.prog 67 #[shpV (shp n.kind), .int .i64 q] X fun e w' => e = .returned (.int .u8 ((dueS (shp n.kind) q).toNat : Nat)) ∧ Below X.heap.size X w' := fun q hq X => due_any _ q (fits_due hf hq) (shp_low _) X
 have hbad := fun q (hq : q < n.ins.length) hx => giv_bad (L := L) (n := n) (q := q) hq hx
 have hgood := giv_good (L := L) (n := n)
 have hat : ∀ q (hq : q < n.ins.length), ∃ g off, sa = some ⟨g, off, none⟩ ∧ InH w g ∧ ∃ gv : List UInt8, w.cell? ⟨g, off + n.ins[q].toNat * 6 + 5, none⟩ = some (.string ⟨gv.toArray⟩) ∧ givAt L n q = gv.contains (dueS (shp n.kind) q) ∧ 0 ≤ n.ins[q] ∧ n.ins[q] < (L.length : Int) := fun q hq => by
  obtain ⟨b1, b2⟩ := hbd _ (List.getElem_mem hq)
  have hl : n.ins[q].toNat < L.length := by omega
  obtain ⟨g, off, e1, e2, _, _, _, _, _, e8⟩ := shape_cells h.shapes hl
  refine ⟨g, off, e1, e2, _, e8, ?_, b1, b2⟩
  unfold givAt
  rw [List.getD_eq_getElem?_getD, List.getElem?_eq_getElem hq, Option.getD_some]
  have : ndAt L n.ins[q] = L[n.ins[q].toNat] := by simp [ndAt, hl]
  rw [this]
 have hc3 : w.cell? ⟨p, 3, none⟩ = some (.slice sa L.length sc) := cell_of_blk h.blk 3
 have hfew : (L.length : Int) ≤ 1000 := by have := h.few; omega
 generalize givB L n = res at hbad hgood
 generalize shp n.kind = s at *
 have HB := hidX hbad
 have HG := hidX hgood
 have HR := hidX hr
 have HD := hidX hdue
 have HAT := hidX hat
 have HB0 := hidX hb0
 clear hbad hgood hr h hn hdue hat hf hbd
 go_enter Tryz.func59, Tryz.ntmps59
 go_wp2_with fail
 go_loopw [12] (fun vi wr => ∃ q : Nat, q ≤ n.ins.length ∧ vi = .int .i64 q ∧ Below w.heap.size w wr ∧ w.heap.size + 1 < wr.heap.size ∧ wr.heap[w.heap.size + 1]? = some (.cells #[.string ⟨s.kind.toArray⟩, .string ⟨s.ins.toArray⟩, .string ⟨s.more.toArray⟩, .bool s.num, .bool s.name, .string ⟨s.gives.toArray⟩] 118 (0, 0)) ∧ Hid (∀ j, j < q → givAt L n j = true)) (fun vi _ => n.ins.length - (intOf vi).toNat)
 case atStart => exact ⟨0, Nat.zero_le _, rfl, HB0.out, by simp, heap_alloc2_new _ _ _, fun j hj => absurd hj (by omega)⟩
 case round =>
  obtain ⟨q, hq, rfl, hbl, hz, hbk, HA⟩ := hrel
  have HBK := hidX hbk
  by_cases hlt : q < n.ins.length
  ·have hlt' : (q : Int) < (n.ins.length : Int) := by omega
   obtain ⟨g1, off1, rfl, hg1, hc0⟩ := HR.out.int hlt
   obtain ⟨g, off, rfl, hg, gv, hv0, hga, b1, b2⟩ := HAT.out q hlt
   have hc : wr.cell? ⟨g1, off1 + q, none⟩ = some (.int .i64 n.ins[q]) := (hbl.cell (p := ⟨g1, _, none⟩) hg1).trans hc0
   have hv : wr.cell? ⟨g, off + n.ins[q].toNat * 6 + 5, none⟩ = some (.string ⟨gv.toArray⟩) := (hbl.cell (p := ⟨g, _, none⟩) hg).trans hv0
   have hp3 : wr.cell? ⟨p, 3, none⟩ = some (.slice (some ⟨g, off, none⟩) L.length sc) := (hbl.cell (p := ⟨p, 3, none⟩) hpl).trans hc3
   have hb := HB.out q hlt
   have HDQ := hidX (HD.out q hlt)
   have hstep := fun (hx : givAt L n q = true) (j : Nat) (hj : j < q + 1) => show givAt L n j = true from by
    by_cases e : j = q
    ·subst e; exact hx
    ·exact HA.out j (by omega)
   obtain ⟨x, hx⟩ : ∃ x : Nat, n.ins[q] = (x : Int) := ⟨n.ins[q].toNat, by omega⟩
   rw [hx] at hc hv b2
   rw [Int.toNat_natCast] at hv
   have HGA := hidX hga
   have HST := hidX hstep
   have HBB := hidX hb
   clear hb hstep hga hx hc0 hv0 b1
   generalize n.ins[q] = dummy at *
   have c8 : wr.cell? ⟨p, 3, none⟩ = some (.slice (some ⟨g, off, none⟩) L.length sc) ∧ wr.cell? ⟨g, off + x * 6 + 5, none⟩ = some (.string ⟨gv.toArray⟩) ∧ wr.cell? ⟨w.heap.size + 1, 0, none⟩ = some (.string ⟨s.kind.toArray⟩) ∧ wr.cell? ⟨w.heap.size + 1, 1, none⟩ = some (.string ⟨s.ins.toArray⟩) ∧ wr.cell? ⟨w.heap.size + 1, 2, none⟩ = some (.string ⟨s.more.toArray⟩) ∧ wr.cell? ⟨w.heap.size + 1, 3, none⟩ = some (.bool s.num) ∧ wr.cell? ⟨w.heap.size + 1, 4, none⟩ = some (.bool s.name) ∧ wr.cell? ⟨w.heap.size + 1, 5, none⟩ = some (.string ⟨s.gives.toArray⟩) := ⟨hp3, hv, cell_of_blk hbk 0, cell_of_blk hbk 1, cell_of_blk hbk 2, cell_of_blk hbk 3, cell_of_blk hbk 4, cell_of_blk hbk 5⟩
   have hkeep : ∀ X, Below wr.heap.size wr X → X.cell? ⟨p, 3, none⟩ = some (.slice (some ⟨g, off, none⟩) L.length sc) ∧ X.cell? ⟨g, off + x * 6 + 5, none⟩ = some (.string ⟨gv.toArray⟩) ∧ X.cell? ⟨w.heap.size + 1, 0, none⟩ = some (.string ⟨s.kind.toArray⟩) ∧ X.cell? ⟨w.heap.size + 1, 1, none⟩ = some (.string ⟨s.ins.toArray⟩) ∧ X.cell? ⟨w.heap.size + 1, 2, none⟩ = some (.string ⟨s.more.toArray⟩) ∧ X.cell? ⟨w.heap.size + 1, 3, none⟩ = some (.bool s.num) ∧ X.cell? ⟨w.heap.size + 1, 4, none⟩ = some (.bool s.name) ∧ X.cell? ⟨w.heap.size + 1, 5, none⟩ = some (.string ⟨s.gives.toArray⟩) := fun X hX => by
    obtain ⟨q0, q1, q2, q3, q4, q5, q6, q7⟩ := c8
    have hpw : p < wr.heap.size := by omega
    have hgw : g < wr.heap.size := by have : g < w.heap.size := hg; omega
    exact ⟨(hX.cell (p := ⟨p, 3, none⟩) hpw).trans q0, (hX.cell (p := ⟨g, _, none⟩) hgw).trans q1, (hX.cell (p := ⟨w.heap.size + 1, 0, none⟩) hz).trans q2, (hX.cell (p := ⟨w.heap.size + 1, 1, none⟩) hz).trans q3, (hX.cell (p := ⟨w.heap.size + 1, 2, none⟩) hz).trans q4, (hX.cell (p := ⟨w.heap.size + 1, 3, none⟩) hz).trans q5, (hX.cell (p := ⟨w.heap.size + 1, 4, none⟩) hz).trans q6, (hX.cell (p := ⟨w.heap.size + 1, 5, none⟩) hz).trans q7⟩
   have HK := hidX hkeep
   have C8 := hidX c8
   clear hbk hkeep c8 hv hp3
   go_wp2_with fail
   go_region_held3 (fun W => W.cell? ⟨p, 3, none⟩ = some (.slice (some ⟨g, off, none⟩) L.length sc) ∧ W.cell? ⟨g, off + x * 6 + 5, none⟩ = some (.string ⟨gv.toArray⟩) ∧ W.cell? ⟨w.heap.size + 1, 0, none⟩ = some (.string ⟨s.kind.toArray⟩) ∧ W.cell? ⟨w.heap.size + 1, 1, none⟩ = some (.string ⟨s.ins.toArray⟩) ∧ W.cell? ⟨w.heap.size + 1, 2, none⟩ = some (.string ⟨s.more.toArray⟩) ∧ W.cell? ⟨w.heap.size + 1, 3, none⟩ = some (.bool s.num) ∧ W.cell? ⟨w.heap.size + 1, 4, none⟩ = some (.bool s.name) ∧ W.cell? ⟨w.heap.size + 1, 5, none⟩ = some (.string ⟨s.gives.toArray⟩))
    (first | with_reducible exact s9 | exact C8.out)
    (first
     | (go_at_call 67; refine (HDQ.out _).mono ?_; rintro e X1 ⟨rfl, hx1⟩; have bX1 : Below wr.heap.size wr X1 := bl_trans (show Below wr.heap.size wr _ by (repeat (first | exact Below.refl _ _ | assumption | refine Below.drew ?_ | refine bT ?_ _ | refine bS ?_ _ | refine bA ?_ _))) (by first | exact Nat.le_refl _ | (simp; done) | (simp; omega)) hx1; have s9 := HK.out _ bX1; clear hx1)
     | (go_at_call 89; refine (idxb_any _ _ _).mono ?_; rintro e X2 ⟨hh, r, rfl, hr⟩; replace hh := hh.symm; subst hh; have HRR := hidX hr; clear hr))
   all_goals (
    have hX1 : Below w.heap.size w X1 := bl_trans hbl hbl.size bX1
    have hz1 := bX1.size
    have hk1 := (bX1.block _ hz).trans HBK.out
    by_cases hr : r < 0
    ·have hres : res = false := HBB.out (by rw [HGA.out]; exact HRR.out.1 hr)
     subst hres
     go_wp2
     go_ret
     exact ⟨rfl, by (repeat (first | exact Below.refl _ _ | assumption | refine Below.drew ?_ | refine bT ?_ _ | refine bS ?_ _ | refine bA ?_ _))⟩
    ·have hc : gv.contains (dueS s q) = true := by
      cases e : gv.contains (dueS s q) with
      | true => rfl
      | false => exact absurd (HRR.out.2 e) hr
     have HN := hidX (HST.out (by rw [HGA.out]; exact hc))
     have HK1 := hidX hk1
     clear hk1 hc
     go_wp2
     go_roundw
     case rel => exact ⟨q + 1, by omega, by go_num, by (repeat (first | exact Below.refl _ _ | assumption | refine Below.drew ?_ | refine bT ?_ _ | refine bS ?_ _ | refine bA ?_ _)), by first | omega | (simp; omega), HK1.out, HN.out⟩
     case measure => simp [intOf]; omega)
  ·have hqn : q = n.ins.length := by omega
   subst hqn
   have hres := HG.out (fun j hj => HA.out j hj)
   subst hres
   clear hbk
   go_wp2
   go_ret
   exact ⟨rfl, hbl⟩
end Go.Proofs.YtlgejjmdanmglaaGreatDoor
namespace Go.Proofs.YtlgejjmdanmglaaGreatDoor
open Go.RowKit
set_option maxRecDepth 100000 in
theorem lite_w (s : ByteArray) (w : World) : Calls Tryz.prog 104 #[.string s, .string ⟨#[119]⟩] w fun e w' => e = .returned (.int .i64 (Lib.indexByte s.data.toList 119)) ∧ w' = w := by
 go_enter Tryz.func104, Tryz.ntmps104
 go_wp2_with fail
 ·next h =>
  have h1 : s.toList = [119] := (beq_iff_eq.1 h).symm
  have hs : s = ⟨#[119]⟩ := bytes_eq (h1.trans (byteArray_toList #[119]).symm)
  subst hs
  go_ret
  exact ⟨rfl, rfl⟩
 ·have e1 : (((⟨#[119]⟩ : ByteArray)[0]'(by decide)).toNat : Int) = 119 := rfl
  rw [e1]
  refine (lite_byte s 119 w).mono ?_
  rintro e w' ⟨rfl, hh⟩
  replace hh := hh.symm
  subst hh
  go_wp2
  go_ret
  exact ⟨rfl, rfl⟩
set_option maxRecDepth 100000 in
theorem index_w (s : ByteArray) (w : World) : Calls Tryz.prog 90 #[.string s, .string ⟨#[119]⟩] w fun e w' => e = .returned (.int .i64 (Lib.indexByte s.data.toList 119)) ∧ w' = w := by
 go_enter Tryz.func90, Tryz.ntmps90
 go_wp2_with fail
 refine (lite_w s w).mono ?_
 rintro e w' ⟨rfl, hh⟩
 replace hh := hh.symm
 subst hh
 go_wp2
 go_ret
 exact ⟨rfl, rfl⟩
set_option maxRecDepth 100000 in
theorem contains_w (l : List UInt8) (w : World) : Calls Tryz.prog 60 #[.string ⟨l.toArray⟩, .string ⟨#[119]⟩] w fun e w' => e = .returned (.bool (l.contains 119)) ∧ w' = w := by
 have hm := index_mem 119 l
 go_enter Tryz.func60, Tryz.ntmps60
 go_wp2_with fail
 refine (index_w _ w).mono ?_
 rintro e w' ⟨rfl, hh⟩
 replace hh := hh.symm
 subst hh
 go_wp2
 go_ret
 exact ⟨ret_bool (by rw [Bool.eq_iff_iff]; simp), rfl⟩
theorem keys_low {L : List Nd} (h : ∀ n ∈ L, LowN n) : (keysL L).length ≤ L.length * 1000 := by
 unfold keysL
 induction L with
 | nil => simp
 | cons n r ih =>
  have h1 := ih fun m hm => h m (by simp [hm])
  have h2 : (keysN n).length ≤ 1000 := by
   unfold keysN
   split
   ·have key : ∀ (l : List Int) (k : Nat), (keysFrom n k l).length ≤ l.length := by
     intro l
     induction l with
     | nil => intro k; simp [keysFrom]
     | cons x q ih2 =>
      intro k
      rw [keysFrom, List.length_append, List.length_cons]
      have := ih2 (k + 1)
      have : (keyOf1 n k x).length ≤ 1 := by unfold keyOf1; split <;> (try split) <;> simp
      omega
    have := key n.ins 0
    have := (h n (by simp)).ins
    omega
   ·simp
  rw [List.flatMap_cons, List.length_append, List.length_cons]
  omega
set_option maxRecDepth 100000 in
set_option maxHeartbeats 2000000 in
theorem taken_any {w : World} {a : Nat → Addr} {p m : Nat} {nm : List UInt8} {P : Int} {nv sv : Value} {L : List Nd} (h : Ck w a p m nm P nv sv L) (i : Nat) (hi : i < L.length) :
  Calls Tryz.prog 31 #[.pointer (some ⟨p, 0, none⟩), .int .i64 i] w fun e w' => e = .returned (if tkC L i = 0 then .nilIface else sentV (a 2)) ∧ w' = w := by
 obtain ⟨sa, sc, rfl⟩ := h.shapes.is
 obtain ⟨g, off, rfl, hg, j0, j1, j2, j3, j4, k5⟩ := shape_cells h.shapes hi
 clear j0 j1 j2 j3 j4
 have c3 : w.cell? ⟨p, 3, none⟩ = some (.slice (some ⟨g, off, none⟩) L.length sc) := cell_of_blk h.blk 3
 have c4 : w.cell? ⟨p, 4, none⟩ = some (.map (some m)) := cell_of_blk h.blk 4
 have hi' : (i : Int) < (L.length : Int) := by omega
 have hfew := h.few
 have hfit : ∀ k : List UInt8, k.length ≤ 4000 → FitKey ((i : Int), k) := fun k hk => ⟨by simp only; omega, hk⟩
 have l0 : (Instr.lookup 113 (.map (some m)) (.agg #[.int .i64 (i : Int), .string ⟨#[]⟩]) false).run Tryz.prog w = .ok (.int .i64 ((keysL L).count ((i : Int), []) : Nat)) w := h.cnt.look ((i : Int), []) (hfit _ (by simp)) w rfl
 have l1 : (Instr.lookup 113 (.map (some m)) (.agg #[.int .i64 (i : Int), .string ⟨#[121, 101, 115]⟩]) false).run Tryz.prog w = .ok (.int .i64 ((keysL L).count ((i : Int), gYes) : Nat)) w := h.cnt.look ((i : Int), gYes) (hfit _ (by decide)) w rfl
 have l2 : (Instr.lookup 113 (.map (some m)) (.agg #[.int .i64 (i : Int), .string ⟨#[110, 111]⟩]) false).run Tryz.prog w = .ok (.int .i64 ((keysL L).count ((i : Int), gNo) : Nat)) w := h.cnt.look ((i : Int), gNo) (hfit _ (by decide)) w rfl
 have hs := h.s.glob 2 (by omega)
 simp only [gErr, List.getD_cons_zero, List.getD_cons_succ] at hs
 have hlen := keys_low h.low
 have n0 : (keysL L).count ((i : Int), []) ≤ (keysL L).length := List.count_le_length
 have n1 : (keysL L).count ((i : Int), gYes) ≤ (keysL L).length := List.count_le_length
 have n2 : (keysL L).count ((i : Int), gNo) ≤ (keysL L).length := List.count_le_length
 have htk : tkC L i = if (119 ∈ (shp L[i].kind).gives ∧ (keysL L).count ((i : Int), []) ≠ 1) ∨ ((shp L[i].kind).gives = [105] ∧ ((keysL L).count ((i : Int), gYes) ≠ 1 ∨ (keysL L).count ((i : Int), gNo) ≠ 1)) then 3 else 0 := by unfold tkC; rw [ndAt_get hi]
 rw [htk]
 generalize (shp L[i].kind).gives = gv at k5 ⊢
 generalize (keysL L).count ((i : Int), []) = x0 at *
 generalize (keysL L).count ((i : Int), gYes) = x1 at *
 generalize (keysL L).count ((i : Int), gNo) = x2 at *
 have b0 : (x0 : Int) ≤ 1000000 := by omega
 have b1 : (x1 : Int) ≤ 1000000 := by omega
 have b2 : (x2 : Int) ≤ 1000000 := by omega
 clear htk h hfit hlen n0 n1 n2
 have HCW := hidX (contains_w gv w)
 generalize hres : (if (if (119 ∈ gv ∧ x0 ≠ 1) ∨ (gv = [105] ∧ (x1 ≠ 1 ∨ x2 ≠ 1)) then 3 else 0) = 0 then Value.nilIface else sentV (a 2)) = res
 have HRS := hidX hres
 clear hres
 by_cases cw : gv.contains 119 = true
 ·simp only [cw] at HCW
  have cw' : 119 ∈ gv := by simpa using cw
  have hne : (gv == [105]) = false := by
   cases e : gv == [105] with
   | false => rfl
   | true => rw [beq_iff_eq] at e; subst e; exact absurd cw' (by decide)
  have hne' : gv ≠ [105] := by simpa using hne
  by_cases e0 : x0 = 1
  ·subst e0
   have hr : res = .nilIface := by rw [← HRS.out]; simp [hne']
   subst hr
   clear cw cw' HRS hne'
   go_enter Tryz.func31, Tryz.ntmps31
   go_wp2_with fail
   refine HCW.out.mono ?_
   rintro e w' ⟨rfl, hh⟩
   replace hh := hh.symm
   subst hh
   go_wp2
   go_ret
   exact ⟨rfl, rfl⟩
  ·have f0 : ((x0 : Int) == 1) = false := by simp; omega
   have f0' : (x0 : Int) ≠ 1 := by omega
   have hr : res = sentV (a 2) := by rw [← HRS.out]; simp [cw', e0]
   subst hr
   clear cw cw' HRS hne' e0
   go_enter Tryz.func31, Tryz.ntmps31
   go_wp2_with fail
   refine HCW.out.mono ?_
   rintro e w' ⟨rfl, hh⟩
   replace hh := hh.symm
   subst hh
   go_wp2
   go_ret
   exact ⟨rfl, rfl⟩
 ·have cw1 : gv.contains 119 = false := by simpa using cw
  simp only [cw1] at HCW
  have cw' : 119 ∉ gv := by simpa using cw
  by_cases hg1 : gv = [105]
  ·subst hg1
   have t1 : (([105] : List UInt8) == [105]) = true := by decide
   by_cases e1 : x1 = 1
   ·subst e1
    by_cases e2 : x2 = 1
    ·subst e2
     have hr : res = .nilIface := by rw [← HRS.out]; simp
     subst hr
     clear cw cw' HRS cw1
     go_enter Tryz.func31, Tryz.ntmps31
     go_wp2_with fail
     refine HCW.out.mono ?_
     rintro e w' ⟨rfl, hh⟩
     replace hh := hh.symm
     subst hh
     go_wp2
     go_ret
     exact ⟨rfl, rfl⟩
    ·have f0 : ((x2 : Int) == 1) = false := by simp; omega
     have f0' : (x2 : Int) ≠ 1 := by omega
     have hr : res = sentV (a 2) := by rw [← HRS.out]; simp [e2]
     subst hr
     clear cw cw' HRS e2 cw1
     go_enter Tryz.func31, Tryz.ntmps31
     go_wp2_with fail
     refine HCW.out.mono ?_
     rintro e w' ⟨rfl, hh⟩
     replace hh := hh.symm
     subst hh
     go_wp2
     go_ret
     exact ⟨rfl, rfl⟩
   ·have f0 : ((x1 : Int) == 1) = false := by simp; omega
    have f0' : (x1 : Int) ≠ 1 := by omega
    have hr : res = sentV (a 2) := by rw [← HRS.out]; simp [e1]
    subst hr
    clear cw cw' HRS e1 cw1
    go_enter Tryz.func31, Tryz.ntmps31
    go_wp2_with fail
    refine HCW.out.mono ?_
    rintro e w' ⟨rfl, hh⟩
    replace hh := hh.symm
    subst hh
    go_wp2
    go_ret
    exact ⟨rfl, rfl⟩
  ·have t1 : (gv == [105]) = false := ne_lit hg1
   have hr : res = .nilIface := by rw [← HRS.out]; simp [cw', hg1]
   subst hr
   clear cw cw' HRS hg1 cw1
   go_enter Tryz.func31, Tryz.ntmps31
   go_wp2_with fail
   refine HCW.out.mono ?_
   rintro e w' ⟨rfl, hh⟩
   replace hh := hh.symm
   subst hh
   go_wp2
   go_ret
   exact ⟨rfl, rfl⟩
end Go.Proofs.YtlgejjmdanmglaaGreatDoor
