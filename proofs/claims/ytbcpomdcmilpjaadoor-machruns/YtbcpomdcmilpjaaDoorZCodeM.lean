/- Our own: texts joined: Code, GrFt, Three. -/
import Derived.Test.YtbcpomdcmilpjaaDoorZAs
import Derived.Test.YtbcpomdcmilpjaaDoorZBaseM
namespace Go.Proofs.YtbcpomdcmilpjaaDoor
open Go.RowKit
def gErr : List Nat := [4, 2, 5, 6, 7, 0, 8, 3, 1, 9]
structure Sents (w : World) (s : Nat → Addr) : Prop where
 glob : ∀ i, i < 10 → w.cell? ⟨gErr.getD i 0, 0, none⟩ = some (sentV (s i))
 row : ∀ i, i < 10 → ∃ c t, w.heap[(s i).block]? = some (.cells c t (0, 0))
 other : ∀ i j, i < 10 → j < 10 → i ≠ j → s i ≠ s j
 handle : w.cell? ⟨10, 0, none⟩ = some (.iface 140 (.agg #[.pointer (some ⟨12, 42, none⟩)]))
theorem Sents.below {w w' : World} {s : Nat → Addr} (h : Sents w s) (hb : Below w.heap.size w w') : Sents w' s where
 glob i hi := by rw [hb.cell (cell_lt (h.glob i hi))]; exact h.glob i hi
 row i hi := by
  obtain ⟨c, t, e⟩ := h.row i hi
  exact ⟨c, t, by rw [hb.block _ (heap_lt e)]; exact e⟩
 other := h.other
 handle := by rw [hb.cell (cell_lt h.handle)]; exact h.handle
theorem code_nil (w : World) : Calls Tryd.prog 24 #[.nilIface] w fun e w' => e = .returned (.tuple #[.int .i64 0, .int .i64 (-1)]) ∧ w' = w := by
 go_enter Tryd.func24, Tryd.ntmps24
 go_wp2
 go_ret2
 exact ⟨rfl, rfl⟩
abbrev codeW (w : World) : World := asW (w.alloc (.cells #[.pointer none] 86)) ⟨w.heap.size, 0, none⟩
theorem codeW_below (w : World) : Below w.heap.size w (codeW w) :=
 ((((Below.refl _ _).alloc (Nat.le_refl _) _).alloc (by simp) _).alloc (by simp; omega) _).alloc (by simp; omega) _
abbrev listW (w : World) (s : Nat → Addr) : World := w.alloc (.cells #[sentV (s 0), sentV (s 1), sentV (s 2), sentV (s 3), sentV (s 4), sentV (s 5), sentV (s 6), sentV (s 7), sentV (s 8), sentV (s 9)] 42)
theorem list_cell (w : World) (s : Nat → Addr) (k : Nat) (hk : k < 10) : (listW w s).cell? ⟨w.heap.size, k, none⟩ = some (sentV (s k)) := by
 match k, hk with
 | 0, _ => simp
 | 1, _ => simp
 | 2, _ => simp
 | 3, _ => simp
 | 4, _ => simp
 | 5, _ => simp
 | 6, _ => simp
 | 7, _ => simp
 | 8, _ => simp
 | 9, _ => simp
def codeOf (k : Nat) : Int := if k < 10 then (k : Int) + 1 else -1
set_option maxRecDepth 100000 in
set_option maxHeartbeats 4000000 in
theorem code_str (s : Nat → Addr) (a : Addr) (k : Nat) (hk : k ≤ 10) (w : World) (hS : Sents w s) (hrow : ∃ c t, w.heap[a.block]? = some (.cells c t (0, 0))) (hlo : ∀ i, i < k → a ≠ s i) (hat : k < 10 → a = s k) :
  Calls Tryd.prog 24 #[sentV a] w fun e w' => e = .returned (.tuple #[.int .i64 (codeOf k), .int .i64 (-1)]) ∧ Below w.heap.size w w' := by
 have hH := (hS.below ((Below.refl w.heap.size w).alloc (Nat.le_refl _) (.cells #[.pointer none] 86))).handle
 have hS2 := hS.below (codeW_below w)
 have g0 := hS2.glob 0 (by omega)
 have g1 := hS2.glob 1 (by omega)
 have g2 := hS2.glob 2 (by omega)
 have g3 := hS2.glob 3 (by omega)
 have g4 := hS2.glob 4 (by omega)
 have g5 := hS2.glob 5 (by omega)
 have g6 := hS2.glob 6 (by omega)
 have g7 := hS2.glob 7 (by omega)
 have g8 := hS2.glob 8 (by omega)
 have g9 := hS2.glob 9 (by omega)
 simp only [gErr, List.getD_cons_zero, List.getD_cons_succ] at g0 g1 g2 g3 g4 g5 g6 g7 g8 g9
 have hb3 : Below w.heap.size w (listW (codeW w) s) := (codeW_below w).alloc (by simp; omega) _
 have hS3 := hS.below hb3
 have hrow3 : ∃ c t, (listW (codeW w) s).heap[a.block]? = some (.cells c t (0, 0)) := by
  obtain ⟨c, t, e⟩ := hrow
  exact ⟨c, t, by rw [hb3.block _ (heap_lt e)]; exact e⟩
 have hcell := list_cell (codeW w) s
 have hsz : (codeW w).heap.size = w.heap.size + 1 + 1 + 1 + 1 := by simp
 rw [hsz] at hcell
 have HL : Hid (∀ i, i < k → a ≠ s i) := hlo
 have HA : Hid (k < 10 → a = s k) := hat
 have HC : Hid (∀ k, k < 10 → (listW (codeW w) s).cell? ⟨w.heap.size + 1 + 1 + 1 + 1, k, none⟩ = some (sentV (s k))) := hcell
 have HR : Hid (∃ c t, (listW (codeW w) s).heap[a.block]? = some (.cells c t (0, 0))) := hrow3
 clear hlo hat hcell hrow3 hrow hsz
 go_enter Tryd.func24, Tryd.ntmps24
 go_wp2_with (go_at_call 39; refine (as_miss _ _ _ hH).mono ?_; rintro e w' ⟨rfl, hh⟩; replace hh := hh.symm; subst hh)
 go_loop [3, 28] (fun at_ i => ∃ q : Nat, at_ = .int .i64 (-1) ∧ q ≤ k ∧ i = .int .i64 q) (fun _ i => 10 - (intOf i).toNat)
 case atStart => exact ⟨0, rfl, by omega, rfl⟩
 case round =>
  obtain ⟨q, rfl, hq, rfl⟩ := hrel
  clear g0 g1 g2 g3 g4 g5 g6 g7 g8 g9 hH
  by_cases hq10 : q < 10
  ·have hc := HC.out q hq10
   have hq' : (q : Int) < 10 := by omega
   by_cases hqk : q < k
   ·have hne : a ≠ s q := HL.out q hqk
    obtain ⟨ca, ta, ha⟩ := HR.out
    obtain ⟨cb, tb, hb⟩ := hS3.row q hq10
    generalize hW : listW (codeW w) s = W at hc ha hb
    go_wp2_with (go_at_call 40; refine (is_other a (s q) ca cb ta tb _ ?_ ?_ ?_).mono ?_; exact hne; exact ha; exact hb; rintro e w' ⟨rfl, hh⟩; replace hh := hh.symm; subst hh)
    subst hW
    refine ⟨⟨rfl, ?_⟩, ?_⟩
    ·(repeat apply Exists.intro)
     refine ⟨?rel, rfl⟩
     exact ⟨q + 1, rfl, by omega, by go_num⟩
    ·simp [intOf]; omega
   ·have hqe : q = k := by omega
    subst hqe
    have hcode : codeOf q = (q : Int) + 1 := by simp [codeOf, hq10]
    have he : a = s q := HA.out hq10
    subst he
    generalize hW : listW (codeW w) s = W at hc
    go_wp2_with (go_at_call 40; refine (is_same (s q) _).mono ?_; rintro e w' ⟨rfl, hh⟩; replace hh := hh.symm; subst hh)
    go_ret2
    exact ⟨by rw [hcode]; rfl, by rw [← hW]; exact hb3⟩
  ·have hqe : q = 10 := by omega
   subst hqe
   have hke : k = 10 := by omega
   subst hke
   have hcode : codeOf 10 = -1 := rfl
   generalize hW : listW (codeW w) s = W
   go_wp2
   go_ret2
   exact ⟨rfl, by rw [← hW]; exact hb3⟩
theorem as_hit_b (e t : Addr) (old : Value) (B : Nat) (w : World) (hg : w.cell? ⟨10, 0, none⟩ = some (.iface 140 (.agg #[.pointer (some ⟨12, 42, none⟩)]))) (ht0 : w.cell? t = some old) (hf0 : w.frozen? t = false) (hB : B ≤ t.block) :
  Calls Tryd.prog 39 #[.iface 86 (.pointer (some e)), .iface 102 (.pointer (some t))] w fun ev w' => ev = .returned (.bool true) ∧ w'.cell? t = some (.pointer (some e)) ∧ Below B w w' ∧ w.heap.size < w'.heap.size := by
 have htl := cell_lt ht0
 refine (as_hit e t old w hg ht0 hf0).mono ?_
 rintro ev w' ⟨rfl, rfl⟩
 refine ⟨rfl, ?_, ?_, ?_⟩
 ·have hold : ((asW w t).alloc (.cells #[.pointer (some e)] 86)).cell? t = some old := by
   rw [World.cell?_alloc_lt _ _ t (by simp; omega), World.cell?_alloc_lt _ _ t (by simp; omega), World.cell?_alloc_lt _ _ t (by simp; omega), World.cell?_alloc_lt _ _ t htl]; exact ht0
  exact World.cell?_setCell_same _ _ _ hold
 ·exact (((((Below.refl B w).alloc (by omega) _).alloc (by simp; omega) _).alloc (by simp; omega) _).alloc (by simp; omega) _).setCell hB _
 ·simp [World.setCell]; omega
set_option maxRecDepth 100000 in
set_option maxHeartbeats 4000000 in
theorem code_fault (s : Nat → Addr) (pb po : Nat) (n : Int) (a : Addr) (k : Nat) (hk : k ≤ 10) (w : World) (hS : Sents w s) (hn : w.cell? ⟨pb, po, none⟩ = some (.int .i64 n)) (he : w.cell? ⟨pb, po + 1, none⟩ = some (sentV a)) (hrow : ∃ c t, w.heap[a.block]? = some (.cells c t (0, 0))) (hlo : ∀ i, i < k → a ≠ s i) (hat : k < 10 → a = s k) :
  Calls Tryd.prog 24 #[.iface 86 (.pointer (some ⟨pb, po, none⟩))] w fun e w' => e = .returned (.tuple #[.int .i64 (codeOf k), .int .i64 n]) ∧ Below w.heap.size w w' := by
 have hb1 : Below w.heap.size w (w.alloc (.cells #[.pointer none] 86)) := (Below.refl w.heap.size w).alloc (Nat.le_refl _) _
 have hH := (hS.below hb1).handle
 have ht : (w.alloc (.cells #[.pointer none] 86)).cell? ⟨w.heap.size, 0, none⟩ = some (.pointer none) := by simp
 have hf : (w.alloc (.cells #[.pointer none] 86)).frozen? ⟨w.heap.size, 0, none⟩ = false := by simp
 have HL : Hid (∀ i, i < k → a ≠ s i) := hlo
 have HA : Hid (k < 10 → a = s k) := hat
 have HR : Hid (∃ c t, w.heap[a.block]? = some (.cells c t (0, 0))) := hrow
 have HN : Hid (w.cell? ⟨pb, po, none⟩ = some (.int .i64 n)) := hn
 have HE : Hid (w.cell? ⟨pb, po + 1, none⟩ = some (sentV a)) := he
 clear hlo hat hrow hn he
 go_enter Tryd.func24, Tryd.ntmps24
 go_wp2_with fail
 refine (as_hit_b _ _ _ w.heap.size _ hH ht hf (Nat.le_refl _)).mono ?_
 rintro e w1 ⟨rfl, hc1, hb2, hs1⟩
 have hb : Below w.heap.size w w1 := hb1.trans hb2
 clear hH ht hf hb1 hb2
 have hn1 : w1.cell? ⟨pb, po, none⟩ = some (.int .i64 n) := by rw [hb.cell (cell_lt HN.out)]; exact HN.out
 have hS2 := hS.below hb
 have g0 := hS2.glob 0 (by omega)
 have g1 := hS2.glob 1 (by omega)
 have g2 := hS2.glob 2 (by omega)
 have g3 := hS2.glob 3 (by omega)
 have g4 := hS2.glob 4 (by omega)
 have g5 := hS2.glob 5 (by omega)
 have g6 := hS2.glob 6 (by omega)
 have g7 := hS2.glob 7 (by omega)
 have g8 := hS2.glob 8 (by omega)
 have g9 := hS2.glob 9 (by omega)
 simp only [gErr, List.getD_cons_zero, List.getD_cons_succ] at g0 g1 g2 g3 g4 g5 g6 g7 g8 g9
 have hb3 : Below w.heap.size w (listW w1 s) := hb.alloc (by have := hb.size; omega) _
 have hS3 := hS.below hb3
 have HE3 : Hid ((listW w1 s).cell? ⟨pb, po + 1, none⟩ = some (sentV a)) := by unfold Hid; rw [hb3.cell (cell_lt HE.out)]; exact HE.out
 have HR3 : Hid (∃ c t, (listW w1 s).heap[a.block]? = some (.cells c t (0, 0))) := by
  obtain ⟨c, t, e⟩ := HR.out
  exact ⟨c, t, by rw [hb3.block _ (heap_lt e)]; exact e⟩
 have HC : Hid (∀ k, k < 10 → (listW w1 s).cell? ⟨w1.heap.size, k, none⟩ = some (sentV (s k))) := list_cell w1 s
 go_wp2
 go_loop [3, 28] (fun at_ i => ∃ q : Nat, at_ = .int .i64 n ∧ q ≤ k ∧ i = .int .i64 q) (fun _ i => 10 - (intOf i).toNat)
 case atStart => exact ⟨0, rfl, by omega, rfl⟩
 case round =>
  obtain ⟨q, rfl, hq, rfl⟩ := hrel
  clear g0 g1 g2 g3 g4 g5 g6 g7 g8 g9 hc1 hn1
  by_cases hq10 : q < 10
  ·have hc := HC.out q hq10
   have hq' : (q : Int) < 10 := by omega
   have he := HE3.out
   by_cases hqk : q < k
   ·have hne : a ≠ s q := HL.out q hqk
    obtain ⟨ca, ta, ha⟩ := HR3.out
    obtain ⟨cb, tb, hb⟩ := hS3.row q hq10
    generalize hW : listW w1 s = W at hc ha hb he
    go_wp2_with (go_at_call 40; refine (is_fault_other pb po (s q) a ca cb ta tb _ ?_ ?_ ?_ ?_).mono ?_; exact he; exact hne; exact ha; exact hb; rintro e w' ⟨rfl, hh⟩; replace hh := hh.symm; subst hh)
    subst hW
    refine ⟨⟨rfl, ?_⟩, ?_⟩
    ·(repeat apply Exists.intro)
     refine ⟨?rel, rfl⟩
     exact ⟨q + 1, rfl, by omega, by go_num⟩
    ·simp [intOf]; omega
   ·have hqe : q = k := by omega
    subst hqe
    have hcode : codeOf q = (q : Int) + 1 := by simp [codeOf, hq10]
    have hea : a = s q := HA.out hq10
    subst hea
    generalize hW : listW w1 s = W at hc he
    go_wp2_with (go_at_call 40; refine (is_fault_same pb po (s q) _ ?_).mono ?_; exact he; rintro e w' ⟨rfl, hh⟩; replace hh := hh.symm; subst hh)
    go_ret2
    exact ⟨by rw [hcode]; rfl, by rw [← hW]; exact hb3⟩
  ·have hqe : q = 10 := by omega
   subst hqe
   have hke : k = 10 := by omega
   subst hke
   have hcode : codeOf 10 = -1 := rfl
   generalize hW : listW w1 s = W
   go_wp2
   go_ret2
   exact ⟨rfl, by rw [← hW]; exact hb3⟩
end Go.Proofs.YtbcpomdcmilpjaaDoor
namespace Go.Proofs.YtbcpomdcmilpjaaDoor
open Go.RowKit
def FtTo (w : World) (a : Nat → Addr) (r : Nat × Int) (e : Ending) (w' : World) : Prop :=
 Below w.heap.size w w' ∧ if r.1 = 0 then e = .returned .nilIface else if r.2 = -1 then e = .returned (sentV (a (r.1 - 1))) else ∃ b, e = .returned (.iface 86 (.pointer (some ⟨b, 0, none⟩))) ∧ w.heap.size ≤ b ∧ w'.heap[b]? = some (.cells #[.int .i64 r.2, sentV (a (r.1 - 1))] 88 (0, 0))
theorem ft_well {w w' : World} {a : Nat → Addr} {r : Nat × Int} {e : Ending} (h : r.1 = 0) (hb : Below w.heap.size w w') (he : e = .returned .nilIface) : FtTo w a r e w' := ⟨hb, by rw [if_pos h]; exact he⟩
theorem ft_bare {w w' : World} {a : Nat → Addr} {r : Nat × Int} {e : Ending} (h : r.1 ≠ 0) (h2 : r.2 = -1) (hb : Below w.heap.size w w') (he : e = .returned (sentV (a (r.1 - 1)))) : FtTo w a r e w' := ⟨hb, by rw [if_neg h, if_pos h2]; exact he⟩
theorem ft_bad {w w' : World} {a : Nat → Addr} {r : Nat × Int} {e : Ending} {b : Nat} (h : r.1 ≠ 0) (h2 : r.2 ≠ -1) (hb : Below w.heap.size w w') (he : e = .returned (.iface 86 (.pointer (some ⟨b, 0, none⟩)))) (hwb : w.heap.size ≤ b) (hx : w'.heap[b]? = some (.cells #[.int .i64 r.2, sentV (a (r.1 - 1))] 88 (0, 0))) : FtTo w a r e w' :=
 ⟨hb, by rw [if_neg h, if_neg h2]; exact ⟨b, he, hwb, hx⟩⟩
set_option maxRecDepth 100000 in
set_option maxHeartbeats 2000000 in
theorem ft_val {w w' : World} {a : Nat → Addr} {r : Nat × Int} {e : Ending} (h : FtTo w a r e w') : ∃ v, e = .returned v ∧ FtTo w a r (.returned v) w' := by
 obtain ⟨h1, h2⟩ := h
 have : ∃ v, e = .returned v := by
  split at h2
  ·exact ⟨_, h2⟩
  ·split at h2
   ·exact ⟨_, h2⟩
   ·obtain ⟨b, q1, _⟩ := h2; exact ⟨_, q1⟩
 obtain ⟨v, rfl⟩ := this
 exact ⟨v, rfl, h1, h2⟩
end Go.Proofs.YtbcpomdcmilpjaaDoor
namespace Go.Proofs.YtbcpomdcmilpjaaDoor
open Go.RowKit
end Go.Proofs.YtbcpomdcmilpjaaDoor
