/- Our own: texts joined: GrTakers. -/
import Derived.Test.YtlgejjmdanmglaaGreatDoorVRefs
import Derived.Test.YtlgejjmdanmglaaGreatDoorVBase
import Derived.OwnWalk
import Derived.Deep.AppendLies
namespace Go.Proofs.YtlgejjmdanmglaaGreatDoor
open Go.RowKit
theorem waysN_is (n : Nd) : waysN n = if n.kind = gYes ∨ n.kind = gNo then 1 else waysR n := by
 unfold waysN waysR
 by_cases h1 : n.kind = gYes ∨ n.kind = gNo
 ·rw [if_pos h1, if_neg (by rcases h1 with h | h <;> rw [h] <;> decide), if_pos (by rcases h1 with h | h <;> simp [h])]
 ·rw [if_neg h1]
  simp only [not_or] at h1
  by_cases h2 : n.kind = gRegion
  ·rw [if_pos h2, if_pos h2]
  ·rw [if_neg h2, if_neg h2]
   simp [h1.1, h1.2]
theorem count_next {l : List Int} {a : Int} {k : Nat} (h : k < l.length) : (l.take (k + 1)).count a = (l.take k).count a + if l[k] = a then 1 else 0 := by
 rw [List.take_succ_eq_append_getElem h, List.count_append, List.count_singleton]
 by_cases e : l[k] = a <;> simp [e]
structure Lst (w X : World) (lv : Value) (l : List Nat) : Prop where
 low : Below w.heap.size w X
 own : X.ownsRow (w.heap.size + 1) 3 1 lv l.length (natsG l)
theorem Lst.push {w X Z : World} {lv lv' : Value} {l : List Nat} {x : Nat} (h : Lst w X lv l) (hg : (X.alloc (.cells #[.int .i64 (x : Int)] 3)).grownBy Z lv.ownBlock) (ho : Z.ownsRow (w.heap.size + 1) 3 1 lv' (l.length + 1) (natsG l ++ [.int .i64 (x : Int)])) : Lst w Z lv' (l ++ [x]) ∧ ∀ b, b < X.heap.size → lv.ownBlock ≠ some b → Z.heap[b]? = X.heap[b]? := by
 have hz := h.low.size
 have hsz := hg.size
 rw [World.size_alloc] at hsz
 have key : ∀ b, b < X.heap.size → lv.ownBlock ≠ some b → Z.heap[b]? = X.heap[b]? := fun b hb hne => by
  rw [hg.block b (by rw [World.size_alloc]; omega) (fun e => hne e.symm), Below.heap_alloc _ _ _ hb]
 refine ⟨⟨⟨hg.os.trans h.low.os, hg.tape.trans h.low.tape, hg.output.trans h.low.output, by omega, fun k hk => ?_⟩, ?_⟩, key⟩
 ·rw [key k (by omega) (fun e => by have := (h.own.lt k e).1; omega)]
  exact h.low.block k hk
 ·rw [List.length_append, natsG_snoc]; exact ho
theorem Lst.below {w X Y : World} {lv : Value} {l : List Nat} (h : Lst w X lv l) (hb : Below X.heap.size X Y) : Lst w Y lv l := ⟨bl_trans h.low h.low.size hb, owns_below h.own hb⟩
theorem rep_snoc (n q : Nat) : List.replicate n q ++ [q] = List.replicate (n + 1) q := by rw [List.replicate_succ']
theorem takFrom_few (a : Int) : ∀ (l : List Nd) (j : Nat), (∀ n ∈ l, LowN n) → (takFrom a j l).length ≤ l.length * 1000
 | [], j, _ => by simp [takFrom]
 | n :: r, j, h => by
  rw [takFrom, List.length_append, List.length_replicate, List.length_cons]
  have h1 := takFrom_few a r (j + 1) fun m hm => h m (by simp [hm])
  have h2 : tkN n a ≤ n.ins.length := by
   unfold tkN
   exact Nat.le_trans List.count_le_length (by rw [List.length_take]; omega)
  have h3 := (h n (by simp)).ins
  omega
set_option maxRecDepth 100000 in
set_option maxHeartbeats 2000000 in
theorem takers_any {w : World} (nm0 : List UInt8) (P : Int) (nv : Value) (L : List Nd) (hL : L.length ≤ 1000) (hlow : ∀ n ∈ L, LowN n) (hG : XG false (InH w) w nv L) (hW : ∀ n ∈ L, waysN n ≤ n.ins.length) (a : Int) :
  Calls Tryz.prog 22 #[.agg #[.string ⟨nm0.toArray⟩, .int .i64 P, nv], .int .i64 a] w fun e w' => ∃ v, e = .returned v ∧ Lst w w' v (takL L a) := by
 obtain ⟨ad, cap, rfl⟩ := hG.is
 obtain ⟨i0, hi, iz0, iz1, iz2⟩ := info_parts int_info
 obtain ⟨W0, hW0⟩ : ∃ W0, W0 = w.alloc (.cells #[.string ⟨nm0.toArray⟩, .int .i64 P, .slice ad L.length cap] 24) := ⟨_, rfl⟩
 have hL0 : Lst w W0 (.slice none 0 0) (takFrom a 0 (L.take 0)) := ⟨by rw [hW0]; (repeat (first | exact Below.refl _ _ | assumption | refine Below.drew ?_ | refine bT ?_ _ | refine bS ?_ _ | refine bA ?_ _)), by simp [takFrom, natsG]; exact World.ownsRow_nil _ _ _ _⟩
 have hbx : W0.heap[w.heap.size]? = some (.cells #[.string ⟨nm0.toArray⟩, .int .i64 P, .slice ad L.length cap] 24 (0, 0)) := by rw [hW0]; exact heap_alloc_new _ _
 have hL' : (L.length : Int) ≤ 1000 := by omega
 have HL0 := hidX hL0
 have HBX := hidX hbx
 have HG := hidX hG
 have HLW := hidX hlow
 have HWY := hidX hW
 clear hL0 hbx hG hlow hW
 go_enter Tryz.func22, Tryz.ntmps22
 go_wp2_with fail
 rw [← hW0]
 clear hW0
 go_loopw [5, 6] (fun vl vi wr => ∃ (q : Nat) (lv : Value), q ≤ L.length ∧ vl = lv ∧ vi = .int .i64 q ∧ Hid (Lst w wr lv (takFrom a 0 (L.take q))) ∧ Hid (wr.heap[w.heap.size]? = some (.cells #[.string ⟨nm0.toArray⟩, .int .i64 P, .slice ad L.length cap] 24 (0, 0)))) (fun _ vi _ => L.length - (intOf vi).toNat)
 case atStart => exact ⟨0, _, Nat.zero_le _, rfl, rfl, HL0.out, HBX.out⟩
 case round =>
  obtain ⟨q, lv, hq, rfl, rfl, HLQ, HBQ⟩ := hrel
  have b2 : wr.cell? ⟨w.heap.size, 2, none⟩ = some (.slice ad L.length cap) := cell_of_blk HBQ.out 2
  by_cases hlt : q < L.length
  ·have hlt' : (q : Int) < (L.length : Int) := by omega
   obtain ⟨g, off, ad1, cap1, e1, hg, _, hr, k0, k1, k2, k3⟩ := HG.out.node hlt
   subst e1
   have hlowq := HLQ.out.low
   replace k0 := (hlowq.cell (p := ⟨g, _, none⟩) hg).trans k0
   replace k1 := (hlowq.cell (p := ⟨g, _, none⟩) hg).trans k1
   replace k2 := (hlowq.cell (p := ⟨g, _, none⟩) hg).trans k2
   replace k3 := (hlowq.cell (p := ⟨g, _, none⟩) hg).trans k3
   obtain ⟨Xq, hXq⟩ : ∃ Xq, Xq = wr.alloc (.cells #[.string ⟨L[q].kind.toArray⟩, .slice ad1 L[q].ins.length cap1, .int .i64 L[q].num, .string ⟨L[q].name.toArray⟩] 54) := ⟨_, rfl⟩
   have hbx : Below wr.heap.size wr Xq := by rw [hXq]; (repeat (first | exact Below.refl _ _ | assumption | refine Below.drew ?_ | refine bT ?_ _ | refine bS ?_ _ | refine bA ?_ _))
   have hnx : Xq.heap[wr.heap.size]? = some (.cells #[.string ⟨L[q].kind.toArray⟩, .slice ad1 L[q].ins.length cap1, .int .i64 L[q].num, .string ⟨L[q].name.toArray⟩] 54 (0, 0)) := by rw [hXq]; exact heap_alloc_new _ _
   have hlown := HLW.out _ (List.getElem_mem hlt)
   have hwl := HWY.out _ (List.getElem_mem hlt)
   have HWC := hidX (rWays_any L[q] (by have := hlown.ins; omega) ad1 cap1 Xq)
   have hsn : takFrom a 0 (L.take (q + 1)) = takFrom a 0 (L.take q) ++ List.replicate (tkN L[q] a) q := by
    rw [List.take_succ_eq_append_getElem hlt, takFrom_snoc, List.length_take, Nat.zero_add, Nat.min_eq_left (by omega)]
   have hfew := takFrom_few a (L.take q) 0 (fun n hn => HLW.out n (List.mem_of_mem_take hn))
   rw [List.length_take, Nat.min_eq_left (by omega)] at hfew
   have hwis := waysN_is L[q]
   have HLX := hidX (HLQ.out.below hbx)
   have HBXX := hidX ((hbx.block _ (heap_lt HBQ.out)).trans HBQ.out)
   have HNO := hidX (show u5.ownBlock ≠ some wr.heap.size from fun e => absurd (HLQ.out.own.lt wr.heap.size e).2 (by omega))
   have HNX := hidX hnx
   have HROW := hidX hr
   have HSN := hidX hsn
   have htk : tkN L[q] a = (L[q].ins.take (waysN L[q])).count a := rfl
   have HTK := hidX htk
   have HIN := hlown.ins
   generalize L[q] = n at *
   generalize takFrom a 0 (L.take q) = base at *
   have hgw : g < w.heap.size := hg
   clear hnx hr hsn htk hlown hbx
   go_wp2_with fail
   rw [← hXq]
   clear hXq k0 k1 k2 k3
   refine HWC.out.mono ?_
   rintro e W2 ⟨rfl, hb2⟩
   have HL2 := hidX (HLX.out.below hb2)
   have HB2 := hidX ((hb2.block _ (heap_lt HBXX.out)).trans HBXX.out)
   have HN2 := hidX ((hb2.block _ (heap_lt HNX.out)).trans HNX.out)
   have d0 : W2.cell? ⟨wr.heap.size, 0, none⟩ = some (.string ⟨n.kind.toArray⟩) := cell_of_blk HN2.out 0
   have hin : ∃ ww : Nat, ww = waysN n := ⟨_, rfl⟩
   obtain ⟨ww, hww⟩ := hin
   have HWW := hidX hww
   rw [← hww] at hwl hwis
   clear hww hb2 b2
   clear HLQ HBQ hlowq HLX HBXX HNX HWC
   generalize wr.heap.size = nb at *
   by_cases c1 : n.kind = gYes
   ·rw [if_pos (Or.inl c1)] at hwis
    have t1 : (n.kind == [121, 101, 115]) = true := by rw [c1]; decide
    clear c1
    subst hwis
    go_wp2_with fail
    go_loopw [5, 9] (fun vl vi wx => ∃ (k : Nat) (lk : Value), k ≤ 1 ∧ vl = lk ∧ vi = .int .i64 k ∧ Hid (Lst w wx lk (base ++ List.replicate ((n.ins.take k).count a) q)) ∧ Hid (wx.heap[w.heap.size]? = some (.cells #[.string ⟨nm0.toArray⟩, .int .i64 P, .slice (some ⟨g, off, none⟩) L.length cap] 24 (0, 0))) ∧ Hid (wx.heap[nb]? = some (.cells #[.string ⟨n.kind.toArray⟩, .slice ad1 n.ins.length cap1, .int .i64 n.num, .string ⟨n.name.toArray⟩] 54 (0, 0))) ∧ Hid (lk.ownBlock ≠ some nb)) (fun _ vi _ => 1 - (intOf vi).toNat)
    case atStart => exact ⟨0, _, Nat.zero_le _, rfl, rfl, by unfold Hid; simpa using HL2.out, HB2.out, HN2.out, HNO.out⟩
    case round =>
     obtain ⟨k, lk, hk, hlk, rfl, HLK, HBK, HNK, HOK⟩ := hrel
     subst hlk
     have d1 := cell_of_blk HNK.out 1
     simp only [List.getElem?_toArray, List.getElem?_cons_zero, List.getElem?_cons_succ] at d1
     by_cases hkl : k < 1
     ·have hkl' : (k : Int) < 1 := by omega
      have hki : k < n.ins.length := by omega
      have hki' : (k : Int) < (n.ins.length : Int) := by omega
      obtain ⟨g1, off1, e1, hg1, hc⟩ := HROW.out.int hki
      subst e1
      have hx := (HLK.out.low.cell (p := ⟨g1, _, none⟩) hg1).trans hc
      have hcn := count_next (a := a) hki
      have hcl : (n.ins.take k).count a ≤ n.ins.length := Nat.le_trans List.count_le_length (by rw [List.length_take]; omega)
      clear hc
      generalize n.ins[k] = x at hx hcn
      by_cases ex : x = a
      ·rw [if_pos ex] at hcn
       have ex' : (x == a) = true := by simpa using ex
       clear ex
       have HCN := hidX hcn
       clear hcn
       obtain ⟨lad, lcap, rfl⟩ := own_is HLK.out.own
       have ho1 := owns_below HLK.out.own (box_blk _ #[.int .i64 (q : Int)] 3)
       have HO1 := hidX ho1
       have hle : (base ++ List.replicate ((n.ins.take k).count a) q).length ≤ 1001000 := by rw [List.length_append, List.length_replicate]; omega
       have hlz := HLK.out.low.size
       have hpush := fun Z lv' hg ho => HLK.out.push (x := q) (Z := Z) (lv' := lv') hg ho
       have HPU := hidX hpush
       have hgl := heap_lt HBK.out
       have hnl := heap_lt HNK.out
       have hob : (Value.slice lad (base ++ List.replicate ((n.ins.take k).count a) q).length lcap).ownBlock ≠ some w.heap.size := fun e => by have := (HLK.out.own.lt _ e).1; omega
       have HOB := hidX hob
       clear ho1 hpush hob
       generalize hbl : base ++ List.replicate ((n.ins.take k).count a) q = bl at *
       have HBL := hidX hbl
       clear hbl
       go_wp2_with (first | (at_builtin; refine wpList_append_own_at _ rfl _ _ 40 rfl (w.heap.size + 1) 3 i0 _ 1 8 Tryz.underlying40 hi iz0 iz1 iz2 rfl (by decide) (.slice lad bl.length lcap) bl.length (natsG bl) rfl HO1.out ⟨_, 0, none⟩ 1 1 [.int .i64 (q : Int)] rfl rfl (World.news_of_block (heap_alloc_new _ _)) (int_one _) (by unfold maxLen; omega) (by omega) (by simp; omega) ?_; intro lv3 W3 ho3 hg3 _ hl3; have hp3 := HPU.out W3 lv3 hg3 ho3; have HP3 := hidX hp3; have HL3 := hidX hl3; clear ho3 hg3 hl3 hp3) | fail)
       go_wp2
       go_roundw
       case rel =>
        refine ⟨k + 1, _, by omega, rfl, by go_num, ?_, (HP3.out.2 _ hgl HOB.out).trans HBK.out, (HP3.out.2 _ hnl HOK.out).trans HNK.out, ?_⟩
        ·unfold Hid
         rw [HCN.out, ← rep_snoc, ← List.append_assoc, HBL.out]
         exact HP3.out.1
        ·unfold Hid
         rcases HL3.out with e | e
         ·rw [e]; exact HOK.out
         ·rw [e]; intro h; injection h with h; simp at h; omega
       case measure => simp [intOf]; omega
      ·have ex' : (x == a) = false := by simpa using ex
       rw [if_neg ex, Nat.add_zero] at hcn
       have HCN := hidX hcn
       clear hcn
       go_wp2
       go_roundw
       case rel => exact ⟨k + 1, _, by omega, rfl, by go_num, by unfold Hid; rw [HCN.out]; exact HLK.out, HBK.out, HNK.out, HOK.out⟩
       case measure => simp [intOf]; omega
     ·have hkn : k = 1 := by omega
      subst hkn
      have hl := HLK.out
      have hfin : takFrom a 0 (L.take (q + 1)) = base ++ List.replicate ((n.ins.take (waysN n)).count a) q := by rw [HSN.out, HTK.out]
      rw [← HWW.out] at hfin
      rw [← hfin] at hl
      have HFN := hidX hl
      clear hl hfin
      go_wp2
      go_roundw
      case rel => exact ⟨q + 1, _, by omega, rfl, by go_num, HFN.out, HBK.out⟩
      case measure => simp [intOf]; omega
   ·by_cases c2 : n.kind = gNo
    ·rw [if_pos (Or.inr c2)] at hwis
     have t1 : (n.kind == [121, 101, 115]) = false := ne_lit c1
     have t2 : (n.kind == [110, 111]) = true := by rw [c2]; decide
     clear c1 c2
     subst hwis
     go_wp2_with fail
     go_loopw [5, 9] (fun vl vi wx => ∃ (k : Nat) (lk : Value), k ≤ 1 ∧ vl = lk ∧ vi = .int .i64 k ∧ Hid (Lst w wx lk (base ++ List.replicate ((n.ins.take k).count a) q)) ∧ Hid (wx.heap[w.heap.size]? = some (.cells #[.string ⟨nm0.toArray⟩, .int .i64 P, .slice (some ⟨g, off, none⟩) L.length cap] 24 (0, 0))) ∧ Hid (wx.heap[nb]? = some (.cells #[.string ⟨n.kind.toArray⟩, .slice ad1 n.ins.length cap1, .int .i64 n.num, .string ⟨n.name.toArray⟩] 54 (0, 0))) ∧ Hid (lk.ownBlock ≠ some nb)) (fun _ vi _ => 1 - (intOf vi).toNat)
     case atStart => exact ⟨0, _, Nat.zero_le _, rfl, rfl, by unfold Hid; simpa using HL2.out, HB2.out, HN2.out, HNO.out⟩
     case round =>
      obtain ⟨k, lk, hk, hlk, rfl, HLK, HBK, HNK, HOK⟩ := hrel
      subst hlk
      have d1 := cell_of_blk HNK.out 1
      simp only [List.getElem?_toArray, List.getElem?_cons_zero, List.getElem?_cons_succ] at d1
      by_cases hkl : k < 1
      ·have hkl' : (k : Int) < 1 := by omega
       have hki : k < n.ins.length := by omega
       have hki' : (k : Int) < (n.ins.length : Int) := by omega
       obtain ⟨g1, off1, e1, hg1, hc⟩ := HROW.out.int hki
       subst e1
       have hx := (HLK.out.low.cell (p := ⟨g1, _, none⟩) hg1).trans hc
       have hcn := count_next (a := a) hki
       have hcl : (n.ins.take k).count a ≤ n.ins.length := Nat.le_trans List.count_le_length (by rw [List.length_take]; omega)
       clear hc
       generalize n.ins[k] = x at hx hcn
       by_cases ex : x = a
       ·rw [if_pos ex] at hcn
        have ex' : (x == a) = true := by simpa using ex
        clear ex
        have HCN := hidX hcn
        clear hcn
        obtain ⟨lad, lcap, rfl⟩ := own_is HLK.out.own
        have ho1 := owns_below HLK.out.own (box_blk _ #[.int .i64 (q : Int)] 3)
        have HO1 := hidX ho1
        have hle : (base ++ List.replicate ((n.ins.take k).count a) q).length ≤ 1001000 := by rw [List.length_append, List.length_replicate]; omega
        have hlz := HLK.out.low.size
        have hpush := fun Z lv' hg ho => HLK.out.push (x := q) (Z := Z) (lv' := lv') hg ho
        have HPU := hidX hpush
        have hgl := heap_lt HBK.out
        have hnl := heap_lt HNK.out
        have hob : (Value.slice lad (base ++ List.replicate ((n.ins.take k).count a) q).length lcap).ownBlock ≠ some w.heap.size := fun e => by have := (HLK.out.own.lt _ e).1; omega
        have HOB := hidX hob
        clear ho1 hpush hob
        generalize hbl : base ++ List.replicate ((n.ins.take k).count a) q = bl at *
        have HBL := hidX hbl
        clear hbl
        go_wp2_with (first | (at_builtin; refine wpList_append_own_at _ rfl _ _ 40 rfl (w.heap.size + 1) 3 i0 _ 1 8 Tryz.underlying40 hi iz0 iz1 iz2 rfl (by decide) (.slice lad bl.length lcap) bl.length (natsG bl) rfl HO1.out ⟨_, 0, none⟩ 1 1 [.int .i64 (q : Int)] rfl rfl (World.news_of_block (heap_alloc_new _ _)) (int_one _) (by unfold maxLen; omega) (by omega) (by simp; omega) ?_; intro lv3 W3 ho3 hg3 _ hl3; have hp3 := HPU.out W3 lv3 hg3 ho3; have HP3 := hidX hp3; have HL3 := hidX hl3; clear ho3 hg3 hl3 hp3) | fail)
        go_wp2
        go_roundw
        case rel =>
         refine ⟨k + 1, _, by omega, rfl, by go_num, ?_, (HP3.out.2 _ hgl HOB.out).trans HBK.out, (HP3.out.2 _ hnl HOK.out).trans HNK.out, ?_⟩
         ·unfold Hid
          rw [HCN.out, ← rep_snoc, ← List.append_assoc, HBL.out]
          exact HP3.out.1
         ·unfold Hid
          rcases HL3.out with e | e
          ·rw [e]; exact HOK.out
          ·rw [e]; intro h; injection h with h; simp at h; omega
        case measure => simp [intOf]; omega
       ·have ex' : (x == a) = false := by simpa using ex
        rw [if_neg ex, Nat.add_zero] at hcn
        have HCN := hidX hcn
        clear hcn
        go_wp2
        go_roundw
        case rel => exact ⟨k + 1, _, by omega, rfl, by go_num, by unfold Hid; rw [HCN.out]; exact HLK.out, HBK.out, HNK.out, HOK.out⟩
        case measure => simp [intOf]; omega
      ·have hkn : k = 1 := by omega
       subst hkn
       have hl := HLK.out
       have hfin : takFrom a 0 (L.take (q + 1)) = base ++ List.replicate ((n.ins.take (waysN n)).count a) q := by rw [HSN.out, HTK.out]
       rw [← HWW.out] at hfin
       rw [← hfin] at hl
       have HFN := hidX hl
       clear hl hfin
       go_wp2
       go_roundw
       case rel => exact ⟨q + 1, _, by omega, rfl, by go_num, HFN.out, HBK.out⟩
       case measure => simp [intOf]; omega
    ·rw [if_neg (fun h => h.elim c1 c2)] at hwis
     have t1 : (n.kind == [121, 101, 115]) = false := ne_lit c1
     have t2 : (n.kind == [110, 111]) = false := ne_lit c2
     clear c1 c2
     rw [← hwis]
     clear hwis
     go_wp2_with fail
     go_loopw [5, 9] (fun vl vi wx => ∃ (k : Nat) (lk : Value), k ≤ ww ∧ vl = lk ∧ vi = .int .i64 k ∧ Hid (Lst w wx lk (base ++ List.replicate ((n.ins.take k).count a) q)) ∧ Hid (wx.heap[w.heap.size]? = some (.cells #[.string ⟨nm0.toArray⟩, .int .i64 P, .slice (some ⟨g, off, none⟩) L.length cap] 24 (0, 0))) ∧ Hid (wx.heap[nb]? = some (.cells #[.string ⟨n.kind.toArray⟩, .slice ad1 n.ins.length cap1, .int .i64 n.num, .string ⟨n.name.toArray⟩] 54 (0, 0))) ∧ Hid (lk.ownBlock ≠ some nb)) (fun _ vi _ => ww - (intOf vi).toNat)
     case atStart => exact ⟨0, _, Nat.zero_le _, rfl, rfl, by unfold Hid; simpa using HL2.out, HB2.out, HN2.out, HNO.out⟩
     case round =>
      obtain ⟨k, lk, hk, hlk, rfl, HLK, HBK, HNK, HOK⟩ := hrel
      subst hlk
      have d1 := cell_of_blk HNK.out 1
      simp only [List.getElem?_toArray, List.getElem?_cons_zero, List.getElem?_cons_succ] at d1
      by_cases hkl : k < ww
      ·have hkl' : (k : Int) < (ww : Int) := by omega
       have hki : k < n.ins.length := by omega
       have hki' : (k : Int) < (n.ins.length : Int) := by omega
       obtain ⟨g1, off1, e1, hg1, hc⟩ := HROW.out.int hki
       subst e1
       have hx := (HLK.out.low.cell (p := ⟨g1, _, none⟩) hg1).trans hc
       have hcn := count_next (a := a) hki
       have hcl : (n.ins.take k).count a ≤ n.ins.length := Nat.le_trans List.count_le_length (by rw [List.length_take]; omega)
       clear hc
       generalize n.ins[k] = x at hx hcn
       by_cases ex : x = a
       ·rw [if_pos ex] at hcn
        have ex' : (x == a) = true := by simpa using ex
        clear ex
        have HCN := hidX hcn
        clear hcn
        obtain ⟨lad, lcap, rfl⟩ := own_is HLK.out.own
        have ho1 := owns_below HLK.out.own (box_blk _ #[.int .i64 (q : Int)] 3)
        have HO1 := hidX ho1
        have hle : (base ++ List.replicate ((n.ins.take k).count a) q).length ≤ 1001000 := by rw [List.length_append, List.length_replicate]; omega
        have hlz := HLK.out.low.size
        have hpush := fun Z lv' hg ho => HLK.out.push (x := q) (Z := Z) (lv' := lv') hg ho
        have HPU := hidX hpush
        have hgl := heap_lt HBK.out
        have hnl := heap_lt HNK.out
        have hob : (Value.slice lad (base ++ List.replicate ((n.ins.take k).count a) q).length lcap).ownBlock ≠ some w.heap.size := fun e => by have := (HLK.out.own.lt _ e).1; omega
        have HOB := hidX hob
        clear ho1 hpush hob
        generalize hbl : base ++ List.replicate ((n.ins.take k).count a) q = bl at *
        have HBL := hidX hbl
        clear hbl
        go_wp2_with (first | (at_builtin; refine wpList_append_own_at _ rfl _ _ 40 rfl (w.heap.size + 1) 3 i0 _ 1 8 Tryz.underlying40 hi iz0 iz1 iz2 rfl (by decide) (.slice lad bl.length lcap) bl.length (natsG bl) rfl HO1.out ⟨_, 0, none⟩ 1 1 [.int .i64 (q : Int)] rfl rfl (World.news_of_block (heap_alloc_new _ _)) (int_one _) (by unfold maxLen; omega) (by omega) (by simp; omega) ?_; intro lv3 W3 ho3 hg3 _ hl3; have hp3 := HPU.out W3 lv3 hg3 ho3; have HP3 := hidX hp3; have HL3 := hidX hl3; clear ho3 hg3 hl3 hp3) | fail)
        go_wp2
        go_roundw
        case rel =>
         refine ⟨k + 1, _, by omega, rfl, by go_num, ?_, (HP3.out.2 _ hgl HOB.out).trans HBK.out, (HP3.out.2 _ hnl HOK.out).trans HNK.out, ?_⟩
         ·unfold Hid
          rw [HCN.out, ← rep_snoc, ← List.append_assoc, HBL.out]
          exact HP3.out.1
         ·unfold Hid
          rcases HL3.out with e | e
          ·rw [e]; exact HOK.out
          ·rw [e]; intro h; injection h with h; simp at h; omega
        case measure => simp [intOf]; omega
       ·have ex' : (x == a) = false := by simpa using ex
        rw [if_neg ex, Nat.add_zero] at hcn
        have HCN := hidX hcn
        clear hcn
        go_wp2
        go_roundw
        case rel => exact ⟨k + 1, _, by omega, rfl, by go_num, by unfold Hid; rw [HCN.out]; exact HLK.out, HBK.out, HNK.out, HOK.out⟩
        case measure => simp [intOf]; omega
      ·have hkn : k = ww := by omega
       subst hkn
       have hl := HLK.out
       have hfin : takFrom a 0 (L.take (q + 1)) = base ++ List.replicate ((n.ins.take (waysN n)).count a) q := by rw [HSN.out, HTK.out]
       rw [← HWW.out] at hfin
       rw [← hfin] at hl
       have HFN := hidX hl
       clear hl hfin
       go_wp2
       go_roundw
       case rel => exact ⟨q + 1, _, by omega, rfl, by go_num, HFN.out, HBK.out⟩
       case measure => simp [intOf]; omega
  ·have hqn : q = L.length := by omega
   subst hqn
   have hl := HLQ.out
   rw [List.take_length] at hl
   have HLE := hidX hl
   clear hl
   go_wp2
   go_ret
   exact ⟨_, rfl, HLE.out⟩
end Go.Proofs.YtlgejjmdanmglaaGreatDoor
