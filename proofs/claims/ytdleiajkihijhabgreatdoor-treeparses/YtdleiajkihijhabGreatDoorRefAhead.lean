/-
  Our own: the reference's parser: an op ahead of one, or what binds most.
-/
import Derived.Test.YtdleiajkihijhabGreatDoorRefEx
namespace Go.Proofs.YtdleiajkihijhabGreatDoor
open Go.RowKit

theorem numR_step {l : List UInt8} {k : Nat} (hk : k < l.length) (hd : ∀ c ∈ l, isD c = true) (hl : l.length ≤ 18) : 48 ≤ l[k].toNat ∧ l[k].toNat ≤ 57 ∧ numV (l.take (k + 1)) = 10 * numV (l.take k) + (l[k].toNat - 48) ∧ numV (l.take (k + 1)) ≤ 999999999999999999 := by
  have h1 := of_decide_eq_true (hd l[k] (List.getElem_mem _))
  exact ⟨h1.1, h1.2, by rw [take_next l k hk]; exact numV_snoc _ _, numV_le l hd (k + 1) (by omega) hl⟩
set_option maxHeartbeats 1000000 in
set_option maxRecDepth 100000 in
theorem ahead_num {T : List Tok} {q n d i : Nat} {w : World} (HT : ∀ t ∈ T, t.Good) (h : RAt T q d (.ok () i) w) (hk : (tk T i).kind = kNum) {r : Rs Ex} (hr : r = singleT T (n + 1) d i) :
    Calls Tryz.prog 65 #[ptrV q] w (RxTo T q d w r) := by
  have hi : i < T.length := tk_kind (by rw [hk]; decide)
  have hg := good_num (HT (tk T i) (by rw [tk_at hi]; exact List.getElem_mem _)) hk
  rw [singleT, if_pos hk] at hr
  have n1 : nextR T kSign (.ok () i) = [] := if_neg (by show (tk T i).kind ≠ kSign; rw [hk]; decide)
  have n2 : nextR T kNum (.ok () i) = (tk T i).text := if_pos hk
  obtain ⟨tx, htx⟩ : ∃ tx, tx = (tk T i).text := ⟨_, rfl⟩
  rw [← htx] at hr hg n2
  have N1 := hidR n1
  have N2 := hidR n2
  have HR := hidR hr
  have HG := hidR hg
  have HI := hidR hi
  have hi2 : (i : Int) ≤ 1000 := by have := h.few; omega
  have hne : tx.isEmpty = false := by
    cases tx with
    | nil => exact absurd rfl hg.1
    | cons c r => rfl
  clear hr hk n1 n2 hg htx hi
  have hlt := h.lt
  go_enter Tryz.func65, Tryz.ntmps65
  go_wp2_with fail
  have hb0 : Below w.heap.size w (w.alloc (.cells #[.string ⟨#[]⟩, .int .i64 0, .string ⟨#[]⟩, .slice none 0 0] 89)) := by (repeat (first | exact Below.refl _ _ | assumption | refine Below.drew ?_ | refine Below.trans ?_ (drewN_below' _ _ _) | refine Below.setCell ?_ (by first | (simp; done) | (simp; omega)) _ | refine Below.alloc ?_ (by first | (simp; done) | (simp; omega)) _))
  have hr0 := heap_alloc_new w (.cells #[.string ⟨#[]⟩, .int .i64 0, .string ⟨#[]⟩, .slice none 0 0] 89)
  have hz0 := size_alloc w (.cells #[.string ⟨#[]⟩, .int .i64 0, .string ⟨#[]⟩, .slice none 0 0] 89)
  generalize w.alloc (.cells #[.string ⟨#[]⟩, .int .i64 0, .string ⟨#[]⟩, .slice none 0 0] 89) = w0 at hb0 hr0 hz0 ⊢
  refine (rnext_any (h.keep hb0) kSign sign_ne).mono ?_
  rw [N1.out]
  rintro e w1 ⟨rfl, hb1⟩
  have hz1 := hb1.size
  have hr1 := (hb1.block _ (by omega)).trans hr0
  have b1 : Below w.heap.size w w1 := bl_trans hb0 hb0.size hb1
  have hp1 := h.keep b1
  clear hr0 hb0 hb1
  have HR1 := hidR hr1
  have HP1 := hidR hp1
  clear hr1 hp1
  go_wp2_with fail
  refine (rnext_any HP1.out kNum (by decide)).mono ?_
  rw [N2.out]
  rintro e w2 ⟨rfl, hb2⟩
  have hz2 := hb2.size
  have hr2 := (hb2.block _ (by omega)).trans HR1.out
  have b2 : Below w.heap.size w w2 := bl_trans b1 b1.size hb2
  have hp2 := h.keep b2
  obtain ⟨tv, hx2, _⟩ := hp2.at
  have c2 : w2.cell? ⟨q, 1, none⟩ = some (.int .i64 i) := cell_of_blk hx2 1
  have f2 := free_of_blk hx2 1
  have hlt2 := heap_lt hx2
  have HR2 := hidR hr2
  have HP2 := hidR hp2
  clear hr2 hp2 hx2
  go_wp2_with fail
  obtain ⟨t, ht⟩ : ∃ t : ByteArray, t = ⟨tx.toArray⟩ := ⟨_, rfl⟩
  have htl : t.data.toList = tx := by rw [ht]
  have hts : t.size = tx.length := by rw [ht]; simp [ByteArray.size]
  have hp3 := HP2.out.step HI.out
  have b3 : But q w (w2.setCell ⟨q, 1, none⟩ (.int .i64 ((i : Int) + 1))) := (But.of b2).set 1 _
  have hr3 := (heap_far (w := w2) (r := q) (i := 1) (u := .int .i64 ((i : Int) + 1)) (by omega : w.heap.size ≠ q)).trans HR2.out
  generalize w2.setCell ⟨q, 1, none⟩ (.int .i64 ((i : Int) + 1)) = w3 at hp3 b3 hr3 ⊢
  rw [← ht]
  have hgt : ∀ k (hk : k < tx.length) (hk2 : k < t.size), t[k] = tx[k] := fun k hk hk2 => by subst ht; rfl
  have HGT := hidR hgt
  have HP3 := hidR hp3
  have HR3 := hidR hr3
  have hsz : (t.size : Int) ≤ 18 := by have := HG.out.2.1; omega
  clear hp3 hr3 ht htl hgt hne
  go_loop [9, 10] (fun vn vi => ∃ (k : Nat) (a : Int), vn = .int .i64 a ∧ vi = .int .i64 k ∧ k ≤ t.size ∧ 0 ≤ a ∧ a ≤ 999999999999999999 ∧ Hid (a = (numV (tx.take k) : Int))) (fun _ vi => t.size - (intOf vi).toNat)
  case atStart => exact ⟨0, 0, rfl, rfl, by omega, by omega, by omega, rfl⟩
  case round =>
    obtain ⟨k, a, rfl, rfl, hk, a0, a1, hh⟩ := hrel
    by_cases hkn : k < t.size
    · obtain ⟨hd0, hd1, hnx, hle⟩ := numR_step (l := tx) (k := k) (by omega) HG.out.2.2 HG.out.2.1
      have hget := HGT.out k (by omega) hkn
      have hkn2 : (k : Int) < t.size := by omega
      generalize tx[k]'(by omega) = c at hd0 hd1 hnx hget
      have iov : 10 * a + ((c.toNat : Int) - 48) ≤ 999999999999999999 := by have := hh.out; omega
      have HN : Hid (10 * a + ((c.toNat : Int) - 48) = (numV (tx.take (k + 1)) : Int)) := by have h1 := hh.out; show _ = _; omega
      have hc256 : c.toNat < 256 := c.toNat_lt
      have hd0' : (48 : Int) ≤ c.toNat := by omega
      have hd1' : (c.toNat : Int) ≤ 57 := by omega
      clear hnx hle hh
      go_wp2
      exact ⟨⟨k + 1, _, rfl, by go_num, by omega, by omega, iov, HN⟩, by simp [intOf]; omega⟩
    · obtain rfl : k = t.size := by omega
      have ha := hh.out
      rw [hts, List.take_of_length_le (Nat.le_refl _)] at ha
      have hkn2 : ¬ (t.size : Int) < t.size := by omega
      have hr4 := HR3.out
      have n2 := heap_lt hr4
      have r50 := cell_of_blk hr4 0
      have q50 := free_of_blk hr4 0
      have r51 := cell_of_blk hr4 1
      have q51 := free_of_blk hr4 1
      have r52 := cell_of_blk hr4 2
      have q52 := free_of_blk hr4 2
      have r53 := cell_of_blk hr4 3
      have q53 := free_of_blk hr4 3
      have HA := hidR ha
      clear hh ha hr4
      go_wp2
      refine ret_rx Tryz.results65 rfl (by omega) (Nat.le_refl _) HR3.out (by rw [HR.out]; exact HP3.out) b3 (fun x j hx => ?_)
      rw [HR.out] at hx
      cases hx
      rw [HA.out]
      exact ⟨_, [], rfl, ⟨_, _, rfl, fun h => absurd rfl h⟩, rfl⟩
/-- Four cells into block r, and two new blocks behind, the second one the kids'. -/
theorem new_kids {T : List Tok} {q d r : Nat} {s : Rs Unit} {w w5 : World} {x0 x1 x2 x3 : Value} (hx : w5.heap[r]? = some (.cells #[x0, x1, x2, x3] 89 (0, 0))) (hr : q < r) (hs : w.heap.size ≤ r) (hp : RAt T q d s w5) (hb : But q w w5) (kk tx : List UInt8) (K row : Array Value) (L : Nat) :
    ((((((w5.setCell ⟨r, 0, none⟩ (.string ⟨kk.toArray⟩)).setCell ⟨r, 1, none⟩ (.int .i64 0)).setCell ⟨r, 2, none⟩ (.string ⟨tx.toArray⟩)).setCell ⟨r, 3, none⟩ (.slice (some ⟨w5.heap.size + 1, 0, none⟩) L L)).alloc (.cells K 89)).alloc (.cells row 89)).heap[r]? = some (.cells #[.string ⟨kk.toArray⟩, .int .i64 0, .string ⟨tx.toArray⟩, .slice (some ⟨w5.heap.size + 1, 0, none⟩) L L] 89 (0, 0)) ∧
    RAt T q d s ((((((w5.setCell ⟨r, 0, none⟩ (.string ⟨kk.toArray⟩)).setCell ⟨r, 1, none⟩ (.int .i64 0)).setCell ⟨r, 2, none⟩ (.string ⟨tx.toArray⟩)).setCell ⟨r, 3, none⟩ (.slice (some ⟨w5.heap.size + 1, 0, none⟩) L L)).alloc (.cells K 89)).alloc (.cells row 89)) ∧
    But q w ((((((w5.setCell ⟨r, 0, none⟩ (.string ⟨kk.toArray⟩)).setCell ⟨r, 1, none⟩ (.int .i64 0)).setCell ⟨r, 2, none⟩ (.string ⟨tx.toArray⟩)).setCell ⟨r, 3, none⟩ (.slice (some ⟨w5.heap.size + 1, 0, none⟩) L L)).alloc (.cells K 89)).alloc (.cells row 89)) ∧
    ∀ ys : List Ex, ys.length = L → RepEs (InB (r + 1) w5) w5 ys row.toList → RepE (InB w.heap.size ((((((w5.setCell ⟨r, 0, none⟩ (.string ⟨kk.toArray⟩)).setCell ⟨r, 1, none⟩ (.int .i64 0)).setCell ⟨r, 2, none⟩ (.string ⟨tx.toArray⟩)).setCell ⟨r, 3, none⟩ (.slice (some ⟨w5.heap.size + 1, 0, none⟩) L L)).alloc (.cells K 89)).alloc (.cells row 89)))
      ((((((w5.setCell ⟨r, 0, none⟩ (.string ⟨kk.toArray⟩)).setCell ⟨r, 1, none⟩ (.int .i64 0)).setCell ⟨r, 2, none⟩ (.string ⟨tx.toArray⟩)).setCell ⟨r, 3, none⟩ (.slice (some ⟨w5.heap.size + 1, 0, none⟩) L L)).alloc (.cells K 89)).alloc (.cells row 89)) (.mk kk 0 tx ys) [.string ⟨kk.toArray⟩, .int .i64 0, .string ⟨tx.toArray⟩, .slice (some ⟨w5.heap.size + 1, 0, none⟩) L L] := by
  have hlt := heap_lt hx
  have hsz := hb.size
  have h4 := set4_blk hx (.string ⟨kk.toArray⟩) (.int .i64 0) (.string ⟨tx.toArray⟩) (.slice (some ⟨w5.heap.size + 1, 0, none⟩) L L)
  have hp4 := hp.set4 hr (.string ⟨kk.toArray⟩) (.int .i64 0) (.string ⟨tx.toArray⟩) (.slice (some ⟨w5.heap.size + 1, 0, none⟩) L L)
  have hb4 : But q w ((((w5.setCell ⟨r, 0, none⟩ (.string ⟨kk.toArray⟩)).setCell ⟨r, 1, none⟩ (.int .i64 0)).setCell ⟨r, 2, none⟩ (.string ⟨tx.toArray⟩)).setCell ⟨r, 3, none⟩ (.slice (some ⟨w5.heap.size + 1, 0, none⟩) L L)) := (((hb.setNew r 0 hs _).setNew r 1 hs _).setNew r 2 hs _).setNew r 3 hs _
  have hs4 := @size_set4 w5 r (.string ⟨kk.toArray⟩) (.int .i64 0) (.string ⟨tx.toArray⟩) (.slice (some ⟨w5.heap.size + 1, 0, none⟩) L L)
  have hk4 : ∀ k, k ≠ r → ((((w5.setCell ⟨r, 0, none⟩ (.string ⟨kk.toArray⟩)).setCell ⟨r, 1, none⟩ (.int .i64 0)).setCell ⟨r, 2, none⟩ (.string ⟨tx.toArray⟩)).setCell ⟨r, 3, none⟩ (.slice (some ⟨w5.heap.size + 1, 0, none⟩) L L)).heap[k]? = w5.heap[k]? := fun k hk => heap_set4 hk
  generalize ((((w5.setCell ⟨r, 0, none⟩ (.string ⟨kk.toArray⟩)).setCell ⟨r, 1, none⟩ (.int .i64 0)).setCell ⟨r, 2, none⟩ (.string ⟨tx.toArray⟩)).setCell ⟨r, 3, none⟩ (.slice (some ⟨w5.heap.size + 1, 0, none⟩) L L)) = w6 at h4 hp4 hb4 hs4 hk4 ⊢
  have hal : Below w6.heap.size w6 ((w6.alloc (.cells K 89)).alloc (.cells row 89)) := ((Below.refl _ _).alloc (Nat.le_refl _) _).alloc (by rw [size_alloc]; omega) _
  have hnew : ((w6.alloc (.cells K 89)).alloc (.cells row 89)).heap[w5.heap.size + 1]? = some (.cells row 89 (0, 0)) := by
    have := heap_alloc_new (w6.alloc (.cells K 89)) (.cells row 89)
    rwa [size_alloc, hs4] at this
  have hz : ((w6.alloc (.cells K 89)).alloc (.cells row 89)).heap.size = w5.heap.size + 2 := by rw [size_alloc, size_alloc, hs4]
  refine ⟨(hal.block r (heap_lt h4)).trans h4, hp4.keep hal, (hb4.alloc _).alloc _, fun ys hl hr' => ?_⟩
  exact rep_new hl ⟨by omega, by omega⟩ (fun j u hu => cell_row hnew j u hu) (RepEs.imp (fun b hb => ⟨by have := hb.1; omega, by have := hb.2; omega⟩) (fun b hb => (hal.block b (by have := hb.2; omega)).trans (hk4 b (by have := hb.1; omega))) _ _ hr')
set_option maxHeartbeats 1000000 in
set_option maxRecDepth 100000 in
theorem ahead_minus {T : List Tok} {q n d i : Nat} {w : World} (_HT : ∀ t ∈ T, t.Good) (hS : RSOk T q n) (h : RAt T q d (.ok () i) w) (hk : isT T kSign [45] i) {r : Rs Ex} (hr : r = singleT T (n + 1) d i) (hout : r ≠ .out) :
    Calls Tryz.prog 65 #[ptrV q] w (RxTo T q d w r) := by
  have hi : i < T.length := isT_lt hk sign_ne
  rw [singleT, if_neg (by rw [hk.1]; decide), if_neg (by rw [hk.1]; decide), if_pos (by exact Or.inl hk), hk.2] at hr
  have n1 : nextR T kSign (.ok () i) = [45] := (if_pos hk.1).trans hk.2
  have N1 := hidR n1
  have HR := hidR hr
  have HS := hidR hS
  have HO := hidR hout
  have HI := hidR hi
  have hi2 : (i : Int) ≤ 1000 := by have := h.few; omega
  have hd12 := h.deep
  clear hr hk n1 hS hout hi
  have hlt := h.lt
  go_enter Tryz.func65, Tryz.ntmps65
  go_wp2_with fail
  have hb0 : Below w.heap.size w (w.alloc (.cells #[.string ⟨#[]⟩, .int .i64 0, .string ⟨#[]⟩, .slice none 0 0] 89)) := by (repeat (first | exact Below.refl _ _ | assumption | refine Below.drew ?_ | refine Below.trans ?_ (drewN_below' _ _ _) | refine Below.setCell ?_ (by first | (simp; done) | (simp; omega)) _ | refine Below.alloc ?_ (by first | (simp; done) | (simp; omega)) _))
  have hr0 := heap_alloc_new w (.cells #[.string ⟨#[]⟩, .int .i64 0, .string ⟨#[]⟩, .slice none 0 0] 89)
  have hz0 := size_alloc w (.cells #[.string ⟨#[]⟩, .int .i64 0, .string ⟨#[]⟩, .slice none 0 0] 89)
  generalize w.alloc (.cells #[.string ⟨#[]⟩, .int .i64 0, .string ⟨#[]⟩, .slice none 0 0] 89) = w0 at hb0 hr0 hz0 ⊢
  refine (rnext_any (h.keep hb0) kSign sign_ne).mono ?_
  rw [N1.out]
  rintro e w1 ⟨rfl, hb1⟩
  have hz1 := hb1.size
  have hr1 := (hb1.block _ (by omega)).trans hr0
  have b1 : Below w.heap.size w w1 := bl_trans hb0 hb0.size hb1
  have hp1 := h.keep b1
  clear hr0 hb0 hb1
  have HR1 := hidR hr1
  have HP1 := hidR hp1
  clear hr1 hp1
  go_wp2_with fail
  by_cases hd : d = 12
  · subst hd
    have hr2 := HR.out
    rw [if_pos rfl] at hr2
    refine (rdown_no HP1.out).mono ?_
    rintro e w2 ⟨rfl, hp2, hb2⟩
    have hr5 := heap_keep hb2 HR1.out (by omega)
    have n2 := heap_lt hr5
    have r50 := cell_of_blk hr5 0
    have q50 := free_of_blk hr5 0
    have r51 := cell_of_blk hr5 1
    have q51 := free_of_blk hr5 1
    have r52 := cell_of_blk hr5 2
    have q52 := free_of_blk hr5 2
    have r53 := cell_of_blk hr5 3
    have q53 := free_of_blk hr5 3
    have HR5 := hidR hr5
    have HP2 := hidR hp2
    have HRR := hidR hr2
    clear hr5 hp2 hr2
    go_wp2
    exact ret_rx Tryz.results65 rfl (by omega) (Nat.le_refl _) HR5.out (by rw [HRR.out]; exact HP2.out) ((But.of b1).trans hb2) (fun x j hx => by rw [HRR.out] at hx; cases hx)
  · have hr2 := HR.out
    rw [if_neg hd] at hr2
    refine (rdown_ok HP1.out (by omega)).mono ?_
    rintro e w2 ⟨rfl, hp2, hb2⟩
    have hz2 := hb2.size
    have hr5 := heap_keep hb2 HR1.out (by omega)
    obtain ⟨tv, hx2, _⟩ := hp2.at
    have c2 : w2.cell? ⟨q, 1, none⟩ = some (.int .i64 i) := cell_of_blk hx2 1
    have f2 := free_of_blk hx2 1
    have hlt2 := heap_lt hx2
    have HR5 := hidR hr5
    have HP2 := hidR hp2
    have HRR := hidR hr2
    clear hr5 hp2 hr2 hx2
    go_wp2_with fail
    have hp3 := HP2.out.step HI.out
    have b3 : But q w (w2.setCell ⟨q, 1, none⟩ (.int .i64 ((i : Int) + 1))) := ((But.of b1).trans hb2).set 1 _
    have hr3 := (heap_far (w := w2) (r := q) (i := 1) (u := .int .i64 ((i : Int) + 1)) (by omega : w.heap.size ≠ q)).trans HR5.out
    have hz3 : (w2.setCell ⟨q, 1, none⟩ (.int .i64 ((i : Int) + 1))).heap.size = w2.heap.size := by simp [World.setCell]
    generalize w2.setCell ⟨q, 1, none⟩ (.int .i64 ((i : Int) + 1)) = w3 at hp3 b3 hr3 hz3 ⊢
    have ho : Rs.via (.ok () (i + 1)) (singleT T n (d + 1)) ≠ .out := fun e => HO.out (by rw [HRR.out, show singleT T n (d + 1) (i + 1) = .out from e]; rfl)
    refine (HS.out (d + 1) (.ok () (i + 1)) w3 hp3 ho).mono ?_
    rw [Rs.via_ok]
    rintro e w4 hx4
    obtain ⟨k, m, y, ad, c1, cc2, rfl, k1, k2, k3⟩ := hx4.rep (rb := w.heap.size) (by omega)
    have hz4 := k3.size
    have hr4 := heap_keep k3 hr3 (by omega)
    obtain ⟨dd, u1, u2, u3⟩ := k2.up
    have lq4 := k2.lt
    have n2 := heap_lt hr4
    have r50 := cell_of_blk hr4 0
    have q50 := free_of_blk hr4 0
    have r51 := cell_of_blk hr4 1
    have q51 := free_of_blk hr4 1
    have r52 := cell_of_blk hr4 2
    have q52 := free_of_blk hr4 2
    have r53 := cell_of_blk hr4 3
    have q53 := free_of_blk hr4 3
    have K1 := hidR k1
    have U3 := hidR u3
    have HR4 := hidR hr4
    clear k1 k2 u3 hr4 hx4 hr3 hp3
    go_wp2
    have v1 := (heap_far (w := w4) (r := q) (i := 2) (u := .int .i64 (wrap64 (dd - 1))) (by omega : w.heap.size ≠ q)).trans HR4.out
    have v2 : But q w4 (w4.setCell ⟨q, 2, none⟩ (.int .i64 (wrap64 (dd - 1)))) := (But.refl q w4).set 2 _
    have v3 : But q w (w4.setCell ⟨q, 2, none⟩ (.int .i64 (wrap64 (dd - 1)))) := (b3.trans k3).trans v2
    have v4 := U3.out
    have v5 : (w4.setCell ⟨q, 2, none⟩ (.int .i64 (wrap64 (dd - 1)))).heap.size = w4.heap.size := by simp [World.setCell]
    generalize w4.setCell ⟨q, 2, none⟩ (.int .i64 (wrap64 (dd - 1))) = w5 at v1 v2 v3 v4 v5 ⊢
    rw [← v5]
    obtain ⟨o1, o2, o3, o4⟩ := new_kids (w := w) v1 (by omega) (Nat.le_refl _) v4 v3 kOne [45] #[.string k, .int .i64 m, .string y, .slice ad c1 cc2] #[.string k, .int .i64 m, .string y, .slice ad c1 cc2] 1
    refine ret_rs Tryz.results65 rfl o1 (by rw [HRR.out]; rw [show ((singleT T n (d + 1) (i + 1)).bind fun e j => Rs.ok (Ex.mk kOne 0 [45] [e]) j).st = (singleT T n (d + 1) (i + 1)).st by cases singleT T n (d + 1) (i + 1) <;> rfl]; exact o2) o3 (fun x j hx => ?_)
    rw [HRR.out] at hx
    cases hz : singleT T n (d + 1) (i + 1) with
    | out => rw [hz] at hx; cases hx
    | bad c k => rw [hz] at hx; cases hx
    | ok x2 j2 =>
      rw [hz] at hx
      cases hx
      have hk : Kept (w.heap.size + 1) w4 w5 := v2.kept (by omega)
      exact o4 [x2] rfl ⟨_, [], by simp, RepE.imp (hk.inB (Nat.le_refl _)) hk.keepA _ _ (K1.out x2 _ hz), rfl⟩
set_option maxHeartbeats 1000000 in
set_option maxRecDepth 100000 in
theorem ahead_not {T : List Tok} {q n d i : Nat} {w : World} (_HT : ∀ t ∈ T, t.Good) (hS : RSOk T q n) (h : RAt T q d (.ok () i) w) (hk : isT T kSign [33] i) {r : Rs Ex} (hr : r = singleT T (n + 1) d i) (hout : r ≠ .out) :
    Calls Tryz.prog 65 #[ptrV q] w (RxTo T q d w r) := by
  have hi : i < T.length := isT_lt hk sign_ne
  rw [singleT, if_neg (by rw [hk.1]; decide), if_neg (by rw [hk.1]; decide), if_pos (by exact Or.inr hk), hk.2] at hr
  have n1 : nextR T kSign (.ok () i) = [33] := (if_pos hk.1).trans hk.2
  have N1 := hidR n1
  have HR := hidR hr
  have HS := hidR hS
  have HO := hidR hout
  have HI := hidR hi
  have hi2 : (i : Int) ≤ 1000 := by have := h.few; omega
  have hd12 := h.deep
  clear hr hk n1 hS hout hi
  have hlt := h.lt
  go_enter Tryz.func65, Tryz.ntmps65
  go_wp2_with fail
  have hb0 : Below w.heap.size w (w.alloc (.cells #[.string ⟨#[]⟩, .int .i64 0, .string ⟨#[]⟩, .slice none 0 0] 89)) := by (repeat (first | exact Below.refl _ _ | assumption | refine Below.drew ?_ | refine Below.trans ?_ (drewN_below' _ _ _) | refine Below.setCell ?_ (by first | (simp; done) | (simp; omega)) _ | refine Below.alloc ?_ (by first | (simp; done) | (simp; omega)) _))
  have hr0 := heap_alloc_new w (.cells #[.string ⟨#[]⟩, .int .i64 0, .string ⟨#[]⟩, .slice none 0 0] 89)
  have hz0 := size_alloc w (.cells #[.string ⟨#[]⟩, .int .i64 0, .string ⟨#[]⟩, .slice none 0 0] 89)
  generalize w.alloc (.cells #[.string ⟨#[]⟩, .int .i64 0, .string ⟨#[]⟩, .slice none 0 0] 89) = w0 at hb0 hr0 hz0 ⊢
  refine (rnext_any (h.keep hb0) kSign sign_ne).mono ?_
  rw [N1.out]
  rintro e w1 ⟨rfl, hb1⟩
  have hz1 := hb1.size
  have hr1 := (hb1.block _ (by omega)).trans hr0
  have b1 : Below w.heap.size w w1 := bl_trans hb0 hb0.size hb1
  have hp1 := h.keep b1
  clear hr0 hb0 hb1
  have HR1 := hidR hr1
  have HP1 := hidR hp1
  clear hr1 hp1
  go_wp2_with fail
  by_cases hd : d = 12
  · subst hd
    have hr2 := HR.out
    rw [if_pos rfl] at hr2
    refine (rdown_no HP1.out).mono ?_
    rintro e w2 ⟨rfl, hp2, hb2⟩
    have hr5 := heap_keep hb2 HR1.out (by omega)
    have n2 := heap_lt hr5
    have r50 := cell_of_blk hr5 0
    have q50 := free_of_blk hr5 0
    have r51 := cell_of_blk hr5 1
    have q51 := free_of_blk hr5 1
    have r52 := cell_of_blk hr5 2
    have q52 := free_of_blk hr5 2
    have r53 := cell_of_blk hr5 3
    have q53 := free_of_blk hr5 3
    have HR5 := hidR hr5
    have HP2 := hidR hp2
    have HRR := hidR hr2
    clear hr5 hp2 hr2
    go_wp2
    exact ret_rx Tryz.results65 rfl (by omega) (Nat.le_refl _) HR5.out (by rw [HRR.out]; exact HP2.out) ((But.of b1).trans hb2) (fun x j hx => by rw [HRR.out] at hx; cases hx)
  · have hr2 := HR.out
    rw [if_neg hd] at hr2
    refine (rdown_ok HP1.out (by omega)).mono ?_
    rintro e w2 ⟨rfl, hp2, hb2⟩
    have hz2 := hb2.size
    have hr5 := heap_keep hb2 HR1.out (by omega)
    obtain ⟨tv, hx2, _⟩ := hp2.at
    have c2 : w2.cell? ⟨q, 1, none⟩ = some (.int .i64 i) := cell_of_blk hx2 1
    have f2 := free_of_blk hx2 1
    have hlt2 := heap_lt hx2
    have HR5 := hidR hr5
    have HP2 := hidR hp2
    have HRR := hidR hr2
    clear hr5 hp2 hr2 hx2
    go_wp2_with fail
    have hp3 := HP2.out.step HI.out
    have b3 : But q w (w2.setCell ⟨q, 1, none⟩ (.int .i64 ((i : Int) + 1))) := ((But.of b1).trans hb2).set 1 _
    have hr3 := (heap_far (w := w2) (r := q) (i := 1) (u := .int .i64 ((i : Int) + 1)) (by omega : w.heap.size ≠ q)).trans HR5.out
    have hz3 : (w2.setCell ⟨q, 1, none⟩ (.int .i64 ((i : Int) + 1))).heap.size = w2.heap.size := by simp [World.setCell]
    generalize w2.setCell ⟨q, 1, none⟩ (.int .i64 ((i : Int) + 1)) = w3 at hp3 b3 hr3 hz3 ⊢
    have ho : Rs.via (.ok () (i + 1)) (singleT T n (d + 1)) ≠ .out := fun e => HO.out (by rw [HRR.out, show singleT T n (d + 1) (i + 1) = .out from e]; rfl)
    refine (HS.out (d + 1) (.ok () (i + 1)) w3 hp3 ho).mono ?_
    rw [Rs.via_ok]
    rintro e w4 hx4
    obtain ⟨k, m, y, ad, c1, cc2, rfl, k1, k2, k3⟩ := hx4.rep (rb := w.heap.size) (by omega)
    have hz4 := k3.size
    have hr4 := heap_keep k3 hr3 (by omega)
    obtain ⟨dd, u1, u2, u3⟩ := k2.up
    have lq4 := k2.lt
    have n2 := heap_lt hr4
    have r50 := cell_of_blk hr4 0
    have q50 := free_of_blk hr4 0
    have r51 := cell_of_blk hr4 1
    have q51 := free_of_blk hr4 1
    have r52 := cell_of_blk hr4 2
    have q52 := free_of_blk hr4 2
    have r53 := cell_of_blk hr4 3
    have q53 := free_of_blk hr4 3
    have K1 := hidR k1
    have U3 := hidR u3
    have HR4 := hidR hr4
    clear k1 k2 u3 hr4 hx4 hr3 hp3
    go_wp2
    have v1 := (heap_far (w := w4) (r := q) (i := 2) (u := .int .i64 (wrap64 (dd - 1))) (by omega : w.heap.size ≠ q)).trans HR4.out
    have v2 : But q w4 (w4.setCell ⟨q, 2, none⟩ (.int .i64 (wrap64 (dd - 1)))) := (But.refl q w4).set 2 _
    have v3 : But q w (w4.setCell ⟨q, 2, none⟩ (.int .i64 (wrap64 (dd - 1)))) := (b3.trans k3).trans v2
    have v4 := U3.out
    have v5 : (w4.setCell ⟨q, 2, none⟩ (.int .i64 (wrap64 (dd - 1)))).heap.size = w4.heap.size := by simp [World.setCell]
    generalize w4.setCell ⟨q, 2, none⟩ (.int .i64 (wrap64 (dd - 1))) = w5 at v1 v2 v3 v4 v5 ⊢
    rw [← v5]
    obtain ⟨o1, o2, o3, o4⟩ := new_kids (w := w) v1 (by omega) (Nat.le_refl _) v4 v3 kOne [33] #[.string k, .int .i64 m, .string y, .slice ad c1 cc2] #[.string k, .int .i64 m, .string y, .slice ad c1 cc2] 1
    refine ret_rs Tryz.results65 rfl o1 (by rw [HRR.out]; rw [show ((singleT T n (d + 1) (i + 1)).bind fun e j => Rs.ok (Ex.mk kOne 0 [33] [e]) j).st = (singleT T n (d + 1) (i + 1)).st by cases singleT T n (d + 1) (i + 1) <;> rfl]; exact o2) o3 (fun x j hx => ?_)
    rw [HRR.out] at hx
    cases hz : singleT T n (d + 1) (i + 1) with
    | out => rw [hz] at hx; cases hx
    | bad c k => rw [hz] at hx; cases hx
    | ok x2 j2 =>
      rw [hz] at hx
      cases hx
      have hk : Kept (w.heap.size + 1) w4 w5 := v2.kept (by omega)
      exact o4 [x2] rfl ⟨_, [], by simp, RepE.imp (hk.inB (Nat.le_refl _)) hk.keepA _ _ (K1.out x2 _ hz), rfl⟩
set_option maxHeartbeats 1000000 in
set_option maxRecDepth 100000 in
theorem ahead_par {T : List Tok} {q n d i : Nat} {w : World} (HT : ∀ t ∈ T, t.Good) (hE : REOk T q n) (h : RAt T q d (.ok () i) w) (hk : isT T kSign [40] i) {r : Rs Ex} (hr : r = singleT T (n + 1) d i) (hout : r ≠ .out) :
    Calls Tryz.prog 65 #[ptrV q] w (RxTo T q d w r) := by
  have hi : i < T.length := isT_lt hk sign_ne
  rw [singleT, if_neg (by rw [hk.1]; decide), if_neg (by rw [hk.1]; decide), if_neg (by rw [isT, isT, hk.1, hk.2]; decide), if_pos hk] at hr
  have n1 : nextR T kSign (.ok () i) = [40] := (if_pos hk.1).trans hk.2
  have N1 := hidR n1
  have HR := hidR hr
  have HE := hidR hE
  have HO := hidR hout
  have HI := hidR hi
  have hi2 : (i : Int) ≤ 1000 := by have := h.few; omega
  have hd12 := h.deep
  clear hr hk n1 hE hout hi
  have hlt := h.lt
  go_enter Tryz.func65, Tryz.ntmps65
  go_wp2_with fail
  have hb0 : Below w.heap.size w (w.alloc (.cells #[.string ⟨#[]⟩, .int .i64 0, .string ⟨#[]⟩, .slice none 0 0] 89)) := by (repeat (first | exact Below.refl _ _ | assumption | refine Below.drew ?_ | refine Below.trans ?_ (drewN_below' _ _ _) | refine Below.setCell ?_ (by first | (simp; done) | (simp; omega)) _ | refine Below.alloc ?_ (by first | (simp; done) | (simp; omega)) _))
  have hr0 := heap_alloc_new w (.cells #[.string ⟨#[]⟩, .int .i64 0, .string ⟨#[]⟩, .slice none 0 0] 89)
  have hz0 := size_alloc w (.cells #[.string ⟨#[]⟩, .int .i64 0, .string ⟨#[]⟩, .slice none 0 0] 89)
  generalize w.alloc (.cells #[.string ⟨#[]⟩, .int .i64 0, .string ⟨#[]⟩, .slice none 0 0] 89) = w0 at hb0 hr0 hz0 ⊢
  refine (rnext_any (h.keep hb0) kSign sign_ne).mono ?_
  rw [N1.out]
  rintro e w1 ⟨rfl, hb1⟩
  have hz1 := hb1.size
  have hr1 := (hb1.block _ (by omega)).trans hr0
  have b1 : Below w.heap.size w w1 := bl_trans hb0 hb0.size hb1
  have hp1 := h.keep b1
  clear hr0 hb0 hb1
  have HR1 := hidR hr1
  have HP1 := hidR hp1
  have b1' : But q w w1 := But.of b1
  clear hr1 hp1
  go_wp2_with fail
  by_cases hd : d = 12
  · subst hd
    have hr2 := HR.out
    rw [if_pos rfl] at hr2
    refine (rdown_no HP1.out).mono ?_
    rintro e w20 ⟨rfl, hp20, hb20⟩
    have hr25 := heap_keep hb20 HR1.out (by omega)
    have n2 := heap_lt hr25
    have r50 := cell_of_blk hr25 0
    have q50 := free_of_blk hr25 0
    have r51 := cell_of_blk hr25 1
    have q51 := free_of_blk hr25 1
    have r52 := cell_of_blk hr25 2
    have q52 := free_of_blk hr25 2
    have r53 := cell_of_blk hr25 3
    have q53 := free_of_blk hr25 3
    have HR25 := hidR hr25
    have HP20 := hidR hp20
    have HRR := hidR hr2
    clear hr25 hp20 hr2
    go_wp2
    exact ret_rx Tryz.results65 rfl (by omega) (Nat.le_refl _) HR25.out (by rw [HRR.out]; exact HP20.out) (b1'.trans hb20) (fun x j hx => by rw [HRR.out] at hx; cases hx)
  · have hr2 := HR.out
    rw [if_neg hd] at hr2
    refine (rdown_ok HP1.out (by omega)).mono ?_
    rintro e w20 ⟨rfl, hp20, hb20⟩
    have hz20 := hb20.size
    have hr25 := heap_keep hb20 HR1.out (by omega)
    obtain ⟨tv, hx2, _⟩ := hp20.at
    have c2 : w20.cell? ⟨q, 1, none⟩ = some (.int .i64 i) := cell_of_blk hx2 1
    have f2 := free_of_blk hx2 1
    have hlt2 := heap_lt hx2
    have HR25 := hidR hr25
    have HP20 := hidR hp20
    have HRR := hidR hr2
    clear hr25 hp20 hr2 hx2
    go_wp2_with fail
    have hp3 := HP20.out.step HI.out
    have b3 : But q w (w20.setCell ⟨q, 1, none⟩ (.int .i64 ((i : Int) + 1))) := (b1'.trans hb20).set 1 _
    have hr3 := (heap_far (w := w20) (r := q) (i := 1) (u := .int .i64 ((i : Int) + 1)) (by omega : w.heap.size ≠ q)).trans HR25.out
    have hz3 : (w20.setCell ⟨q, 1, none⟩ (.int .i64 ((i : Int) + 1))).heap.size = w20.heap.size := by simp [World.setCell]
    generalize w20.setCell ⟨q, 1, none⟩ (.int .i64 ((i : Int) + 1)) = w3 at hp3 b3 hr3 hz3 ⊢
    have ho : Rs.via (.ok () (i + 1)) (exprT T n (d + 1) 1) ≠ .out := fun e => HO.out (by rw [HRR.out, show exprT T n (d + 1) 1 (i + 1) = .out from e]; rfl)
    refine (HE.out (d + 1) 1 (.ok () (i + 1)) w3 (by omega) (by omega) hp3 ho).mono ?_
    rw [Rs.via_ok]
    rintro e w4 hx4
    obtain ⟨k, m, y, ad, c1, cc2, rfl, k1, k2, k3⟩ := hx4.rep (rb := w.heap.size) (by omega)
    have hz4 := k3.size
    have hr4 := heap_keep k3 hr3 (by omega)
    have K1 := hidR k1
    have K2 := hidR k2
    have HR4 := hidR hr4
    clear k1 k2 hr4 hx4 hr3 hp3
    go_wp2_with fail
    have hb5 : Below w4.heap.size w4 (w4.alloc (.cells #[.string k, .int .i64 m, .string y, .slice ad c1 cc2] 89)) := by (repeat (first | exact Below.refl _ _ | assumption | refine Below.drew ?_ | refine Below.trans ?_ (drewN_below' _ _ _) | refine Below.setCell ?_ (by first | (simp; done) | (simp; omega)) _ | refine Below.alloc ?_ (by first | (simp; done) | (simp; omega)) _))
    have he5 := heap_alloc_new w4 (.cells #[.string k, .int .i64 m, .string y, .slice ad c1 cc2] 89)
    have hz5 := size_alloc w4 (.cells #[.string k, .int .i64 m, .string y, .slice ad c1 cc2] 89)
    generalize w4.alloc (.cells #[.string k, .int .i64 m, .string y, .slice ad c1 cc2] 89) = w5 at hb5 he5 hz5 ⊢
    refine (rmust_any HT (K2.out.keep hb5) kSign [41] rfl (Or.inl rfl) (by simp)).mono ?_
    rw [need_st]
    rintro e w6 ⟨rfl, hp6, hb6⟩
    have hz6 := hb6.size
    have b6 : But q w4 w6 := (But.of hb5).trans hb6
    obtain ⟨dd, u1, u2, u3⟩ := hp6.up
    have lq6 := hp6.lt
    have hr6 := heap_keep b6 HR4.out (by omega)
    have he6 := heap_keep hb6 he5 (by omega)
    have n2 := heap_lt hr6
    have n3 := heap_lt he6
    have e50 : w6.cell? ⟨w4.heap.size, 0, none⟩ = some (.string k) := cell_of_blk he6 0
    have e51 : w6.cell? ⟨w4.heap.size, 1, none⟩ = some (.int .i64 m) := cell_of_blk he6 1
    have e52 : w6.cell? ⟨w4.heap.size, 2, none⟩ = some (.string y) := cell_of_blk he6 2
    have e53 : w6.cell? ⟨w4.heap.size, 3, none⟩ = some (.slice ad c1 cc2) := cell_of_blk he6 3
    have r50 := cell_of_blk hr6 0
    have q50 := free_of_blk hr6 0
    have r51 := cell_of_blk hr6 1
    have q51 := free_of_blk hr6 1
    have r52 := cell_of_blk hr6 2
    have q52 := free_of_blk hr6 2
    have r53 := cell_of_blk hr6 3
    have q53 := free_of_blk hr6 3
    have U3 := hidR u3
    have HR6 := hidR hr6
    clear hp6 u3 hr6 he6 he5 hb5
    go_wp2
    have v1 := (heap_far (w := w6) (r := q) (i := 2) (u := .int .i64 (wrap64 (dd - 1))) (by omega : w.heap.size ≠ q)).trans HR6.out
    have v2 : But q w4 (w6.setCell ⟨q, 2, none⟩ (.int .i64 (wrap64 (dd - 1)))) := b6.set 2 _
    have v4 := U3.out
    generalize w6.setCell ⟨q, 2, none⟩ (.int .i64 (wrap64 (dd - 1))) = w7 at v1 v2 v4 ⊢
    refine ret_rx Tryz.results65 rfl (by omega) (Nat.le_refl _) v1 (by rw [HRR.out]; exact v4) ((b3.trans k3).trans v2) (fun x j hx => ?_)
    rw [HRR.out] at hx
    obtain ⟨j', hy⟩ := need_val hx
    have hk : Kept (w.heap.size + 1) w4 w7 := v2.kept (by omega)
    exact RepE.imp (hk.inB (Nat.le_refl _)) hk.keepA _ _ (K1.out x j' hy)
set_option maxHeartbeats 1000000 in
set_option maxRecDepth 100000 in
theorem ahead_name {T : List Tok} {q n d i : Nat} {w : World} (HT : ∀ t ∈ T, t.Good) (hG : RGOk T q n) (h : RAt T q d (.ok () i) w) (hk : (tk T i).kind = kName) {r : Rs Ex} (hr : r = singleT T (n + 1) d i) (hout : r ≠ .out) :
    Calls Tryz.prog 65 #[ptrV q] w (RxTo T q d w r) := by
  have hi : i < T.length := tk_kind (by rw [hk]; decide)
  rw [singleT, if_neg (by rw [hk]; decide), if_pos hk] at hr
  have n1 : nextR T kSign (.ok () i) = [] := if_neg (by show (tk T i).kind ≠ kSign; rw [hk]; decide)
  have n2 : nextR T kNum (.ok () i) = [] := if_neg (by show (tk T i).kind ≠ kNum; rw [hk]; decide)
  have hnr : nameR T (.ok () i) = .ok (tk T i).text (i + 1) := by simp only [nameR, Rs.bind_ok, nameT, hk, if_true]
  obtain ⟨tx, htx⟩ : ∃ tx, tx = (tk T i).text := ⟨_, rfl⟩
  rw [← htx] at hr hnr
  have n3 := nextR_sees (T := T) (k := kSign) (x := [40]) (s := .ok () (i + 1)) (by simp)
  rw [sees_ok] at n3
  have N1 := hidR n1
  have N2 := hidR n2
  have N3 := hidR n3
  have HN := hidR hnr
  have HR := hidR hr
  have HG := hidR hG
  have HO := hidR hout
  have hi2 : (i : Int) ≤ 1000 := by have := h.few; omega
  have hd12 := h.deep
  clear hr hk n1 n2 n3 hG hout hi htx hnr
  have hlt := h.lt
  go_enter Tryz.func65, Tryz.ntmps65
  go_wp2_with fail
  have hb0 : Below w.heap.size w (w.alloc (.cells #[.string ⟨#[]⟩, .int .i64 0, .string ⟨#[]⟩, .slice none 0 0] 89)) := by (repeat (first | exact Below.refl _ _ | assumption | refine Below.drew ?_ | refine Below.trans ?_ (drewN_below' _ _ _) | refine Below.setCell ?_ (by first | (simp; done) | (simp; omega)) _ | refine Below.alloc ?_ (by first | (simp; done) | (simp; omega)) _))
  have hr0 := heap_alloc_new w (.cells #[.string ⟨#[]⟩, .int .i64 0, .string ⟨#[]⟩, .slice none 0 0] 89)
  have hz0 := size_alloc w (.cells #[.string ⟨#[]⟩, .int .i64 0, .string ⟨#[]⟩, .slice none 0 0] 89)
  generalize w.alloc (.cells #[.string ⟨#[]⟩, .int .i64 0, .string ⟨#[]⟩, .slice none 0 0] 89) = w0 at hb0 hr0 hz0 ⊢
  refine (rnext_any (h.keep hb0) kSign sign_ne).mono ?_
  rw [N1.out]
  rintro e w1 ⟨rfl, hb1⟩
  have hz1 := hb1.size
  have hr1 := (hb1.block _ (by omega)).trans hr0
  have b1 : Below w.heap.size w w1 := bl_trans hb0 hb0.size hb1
  have hp1 := h.keep b1
  clear hr0 hb0 hb1
  have HR1 := hidR hr1
  have HP1 := hidR hp1
  clear hr1 hp1
  go_wp2_with fail
  refine (rnext_any HP1.out kNum (by decide)).mono ?_
  rw [N2.out]
  rintro e w2 ⟨rfl, hb2⟩
  have hz2 := hb2.size
  have hr2 := (hb2.block _ (by omega)).trans HR1.out
  have b2 : Below w.heap.size w w2 := bl_trans b1 b1.size hb2
  have hp2 := h.keep b2
  have HR2 := hidR hr2
  have HP2 := hidR hp2
  clear hr2 hp2
  go_wp2_with fail
  refine (rname_any HT HP2.out).mono ?_
  rintro e w3 ⟨x, rfl, hx3, hp3, hb3⟩
  obtain ⟨rfl, hxe⟩ := hx3 tx _ HN.out
  rw [HN.out, Rs.st_ok] at hp3
  have hz3 := hb3.size
  have hr3 := heap_keep hb3 HR2.out (by omega)
  have b3' : But q w w3 := (But.of b2).trans hb3
  have hne : x.isEmpty = false := by
    cases x with
    | nil => exact absurd rfl hxe
    | cons c r => rfl
  have HR3 := hidR hr3
  have HP3 := hidR hp3
  clear hr3 hp3 hx3 hxe
  go_wp2_with fail
  refine (rnext_any HP3.out kSign sign_ne).mono ?_
  generalize nextR T kSign (.ok () (i + 1)) = y at N3
  rintro e w4 ⟨rfl, hb4⟩
  have hz4 := hb4.size
  have hr4 := (hb4.block _ (by omega)).trans HR3.out
  have hp4 := HP3.out.keep hb4
  have b4 : But q w w4 := b3'.trans (But.of hb4)
  by_cases hs : isT T kSign [40] (i + 1)
  · have hr9 := HR.out
    rw [if_pos hs] at hr9
    clear HR
    have HR := hidR hr9
    have hy : y = [40] := by have := N3.out; rw [show decide (isT T kSign [40] (i + 1)) = true by simpa using hs] at this; simpa using this
    have HI := hidR (isT_lt hs sign_ne)
    have hi3 : (((i + 1 : Nat)) : Int) ≤ 1000 := by have := h.few; have := isT_lt hs sign_ne; omega
    subst hy
    have HR4 := hidR hr4
    have HP4 := hidR hp4
    clear hr4 hp4 hs N3 hr9
    go_wp2_with fail
    by_cases hd : d = 12
    · subst hd
      have hr2 := HR.out
      rw [if_pos rfl] at hr2
      refine (rdown_no HP4.out).mono ?_
      rintro e w20 ⟨rfl, hp20, hb20⟩
      have hr25 := heap_keep hb20 HR4.out (by omega)
      have n2 := heap_lt hr25
      have r50 := cell_of_blk hr25 0
      have q50 := free_of_blk hr25 0
      have r51 := cell_of_blk hr25 1
      have q51 := free_of_blk hr25 1
      have r52 := cell_of_blk hr25 2
      have q52 := free_of_blk hr25 2
      have r53 := cell_of_blk hr25 3
      have q53 := free_of_blk hr25 3
      have HR25 := hidR hr25
      have HP20 := hidR hp20
      have HRR := hidR hr2
      clear hr25 hp20 hr2
      go_wp2
      exact ret_rx Tryz.results65 rfl (by omega) (Nat.le_refl _) HR25.out (by rw [HRR.out]; exact HP20.out) (b4.trans hb20) (fun x j hx => by rw [HRR.out] at hx; cases hx)
    · have hr2 := HR.out
      rw [if_neg hd] at hr2
      refine (rdown_ok HP4.out (by omega)).mono ?_
      rintro e w20 ⟨rfl, hp20, hb20⟩
      have hz20 := hb20.size
      have hr25 := heap_keep hb20 HR4.out (by omega)
      obtain ⟨tv, hx2, _⟩ := hp20.at
      have c2 : w20.cell? ⟨q, 1, none⟩ = some (.int .i64 ((i + 1 : Nat))) := cell_of_blk hx2 1
      have f2 := free_of_blk hx2 1
      have hlt2 := heap_lt hx2
      have HR25 := hidR hr25
      have HP20 := hidR hp20
      have HRR := hidR hr2
      clear hr25 hp20 hr2 hx2
      go_wp2_with fail
      have hp3 := HP20.out.step HI.out
      have b3 : But q w (w20.setCell ⟨q, 1, none⟩ (.int .i64 ((((i + 1 : Nat)) : Int) + 1))) := (b4.trans hb20).set 1 _
      have hr3 := (heap_far (w := w20) (r := q) (i := 1) (u := .int .i64 ((((i + 1 : Nat)) : Int) + 1)) (by omega : w.heap.size ≠ q)).trans HR25.out
      have hz3 : (w20.setCell ⟨q, 1, none⟩ (.int .i64 ((((i + 1 : Nat)) : Int) + 1))).heap.size = w20.heap.size := by simp [World.setCell]
      have ec : (((i + 1 : Nat)) : Int) + 1 = (i : Int) + 1 + 1 := by omega
      rw [ec] at hp3 b3 hr3 hz3
      generalize w20.setCell ⟨q, 1, none⟩ (.int .i64 ((i : Int) + 1 + 1)) = w30 at hp3 b3 hr3 hz3 ⊢
      have ho : argsT T n (d + 1) (i + 1 + 1) ≠ .out := fun e => HO.out (by rw [HRR.out, show i + 2 = i + 1 + 1 from rfl, e]; rfl)
      refine (HG.out (d + 1) (i + 1 + 1) w30 hp3 ho).mono ?_
      rintro e w40 ⟨ad, l, c, rfl, k1, k2, k3⟩
      have hz40 := k3.size
      have hr40 := heap_keep k3 hr3 (by omega)
      obtain ⟨dd, u1, u2, u3⟩ := k2.up
      have lq4 := k2.lt
      have n2 := heap_lt hr40
      have r50 := cell_of_blk hr40 0
      have q50 := free_of_blk hr40 0
      have r51 := cell_of_blk hr40 1
      have q51 := free_of_blk hr40 1
      have r52 := cell_of_blk hr40 2
      have q52 := free_of_blk hr40 2
      have r53 := cell_of_blk hr40 3
      have q53 := free_of_blk hr40 3
      have K1 := hidR k1
      have U3 := hidR u3
      have HR40 := hidR hr40
      clear k1 k2 u3 hr40 hr3 hp3 ec
      go_wp2
      have v1 := (heap_far (w := w40) (r := q) (i := 2) (u := .int .i64 (wrap64 (dd - 1))) (by omega : w.heap.size ≠ q)).trans HR40.out
      have v2 : But q w40 (w40.setCell ⟨q, 2, none⟩ (.int .i64 (wrap64 (dd - 1)))) := (But.refl q w40).set 2 _
      have v4 := U3.out
      generalize w40.setCell ⟨q, 2, none⟩ (.int .i64 (wrap64 (dd - 1))) = w50 at v1 v2 v4 ⊢
      refine ret_rx Tryz.results65 rfl (by omega) (Nat.le_refl _) v1 (by rw [HRR.out, show ((argsT T n (d + 1) (i + 2)).bind fun ks j => Rs.ok (Ex.mk kCall 0 x ks) j).st = (argsT T n (d + 1) (i + 2)).st by cases argsT T n (d + 1) (i + 2) <;> rfl]; exact v4) ((b3.trans k3).trans v2) (fun z j hz => ?_)
      rw [HRR.out] at hz
      cases hq : argsT T n (d + 1) (i + 2) with
      | out => rw [hq] at hz; cases hz
      | bad c k => rw [hq] at hz; cases hz
      | ok ks j2 =>
        rw [hq] at hz
        cases hz
        obtain ⟨xs, g1, g2⟩ := K1.out ks _ hq
        have ki : ∀ b, InB w30.heap.size w40 b → InB (w.heap.size + 1) w50 b := fun b hb => ⟨by have := hb.1; omega, by have := hb.2; have := v2.size; omega⟩
        have kk : KeepA (InB w30.heap.size w40) w40 w50 := fun b hb => v2.block b hb.2 (by have := hb.1; omega)
        exact ⟨_, xs, rfl, g1.imp ki kk, RepEs.imp ki kk _ _ g2⟩
  · have hr9 := HR.out
    rw [if_neg hs] at hr9
    have hy : (y == [40]) = false := by have := N3.out; rw [this]; simpa using hs
    have n2 := heap_lt hr4
    have r50 := cell_of_blk hr4 0
    have q50 := free_of_blk hr4 0
    have r51 := cell_of_blk hr4 1
    have q51 := free_of_blk hr4 1
    have r52 := cell_of_blk hr4 2
    have q52 := free_of_blk hr4 2
    have r53 := cell_of_blk hr4 3
    have q53 := free_of_blk hr4 3
    have HR4 := hidR hr4
    have HP4 := hidR hp4
    have HR9 := hidR hr9
    clear hr4 hp4 hs N3 hr9 HR
    go_wp2
    refine ret_rx Tryz.results65 rfl (by omega) (Nat.le_refl _) HR4.out (by rw [HR9.out]; exact HP4.out) b4 (fun z j hz => ?_)
    rw [HR9.out] at hz
    cases hz
    exact ⟨_, [], rfl, ⟨_, _, rfl, fun h => absurd rfl h⟩, rfl⟩
set_option maxHeartbeats 1000000 in
set_option maxRecDepth 100000 in
theorem ahead_none {T : List Tok} {q n d : Nat} {s : Rs Unit} {w : World} (HT : ∀ t ∈ T, t.Good) (h : RAt T q d s w) (h1 : (nxt T s).kind ≠ kNum) (h2 : (nxt T s).kind ≠ kName) (h3 : seesB T kSign [45] s = false) (h4 : seesB T kSign [33] s = false) (h5 : seesB T kSign [40] s = false) {r : Rs Ex} (hr : r = s.via (singleT T (n + 1) d)) :
    Calls Tryz.prog 65 #[ptrV q] w (RxTo T q d w r) := by
  have hr2 : r.st = s.fail 1 ∧ ∀ x j, r ≠ .ok x j := by
    rw [hr]
    cases s with
    | out => exact ⟨rfl, fun _ _ h => by cases h⟩
    | bad c k => exact ⟨rfl, fun _ _ h => by cases h⟩
    | ok u i =>
      have z : ∀ x, seesB T kSign x (.ok () i) = false → ¬ isT T kSign x i := fun x hx => by rw [sees_ok] at hx; simpa using hx
      rw [Rs.via_ok, singleT, if_neg (show (tk T i).kind ≠ kNum from h1), if_neg (show (tk T i).kind ≠ kName from h2), if_neg (by rintro (h | h); exact z _ h3 h; exact z _ h4 h), if_neg (z _ h5)]
      exact ⟨rfl, fun _ _ h => by cases h⟩
  have hnm : (nameR T s).st = s.fail 1 := by
    cases s with
    | out => rfl
    | bad c k => rfl
    | ok u i =>
      have : (tk T i).kind ≠ kName := h2
      simp only [nameR, Rs.bind_ok, nameT, this, if_false]
      rfl
  obtain ⟨y, hy⟩ : ∃ y, nextR T kSign s = y := ⟨_, rfl⟩
  have m1 := nextR_sees (T := T) (k := kSign) (x := [45]) (s := s) (by simp)
  have m2 := nextR_sees (T := T) (k := kSign) (x := [33]) (s := s) (by simp)
  have m3 := nextR_sees (T := T) (k := kSign) (x := [40]) (s := s) (by simp)
  rw [hy, h3] at m1
  rw [hy, h4] at m2
  rw [hy, h5] at m3
  have n2 : nextR T kNum s = [] := if_neg h1
  have n3 : nextR T kSign (s.fail 1) = [] := by
    cases s with
    | out => exact if_neg (by simp [Rs.fail, nxt, kSign])
    | bad c k => exact if_neg (by simp [Rs.fail, nxt, kSign])
    | ok u i => exact if_neg (by simp [Rs.fail, nxt, kSign])
  have N1 := hidR hy
  have N2 := hidR n2
  have N3 := hidR n3
  have HR := hidR hr2
  have HNM := hidR hnm
  clear hr hr2 h1 h2 h3 h4 h5 hy n2 n3 hnm
  have hlt := h.lt
  go_enter Tryz.func65, Tryz.ntmps65
  go_wp2_with fail
  have hb0 : Below w.heap.size w (w.alloc (.cells #[.string ⟨#[]⟩, .int .i64 0, .string ⟨#[]⟩, .slice none 0 0] 89)) := by (repeat (first | exact Below.refl _ _ | assumption | refine Below.drew ?_ | refine Below.trans ?_ (drewN_below' _ _ _) | refine Below.setCell ?_ (by first | (simp; done) | (simp; omega)) _ | refine Below.alloc ?_ (by first | (simp; done) | (simp; omega)) _))
  have hr0 := heap_alloc_new w (.cells #[.string ⟨#[]⟩, .int .i64 0, .string ⟨#[]⟩, .slice none 0 0] 89)
  have hz0 := size_alloc w (.cells #[.string ⟨#[]⟩, .int .i64 0, .string ⟨#[]⟩, .slice none 0 0] 89)
  generalize w.alloc (.cells #[.string ⟨#[]⟩, .int .i64 0, .string ⟨#[]⟩, .slice none 0 0] 89) = w0 at hb0 hr0 hz0 ⊢
  refine (rnext_any (h.keep hb0) kSign sign_ne).mono ?_
  rw [N1.out]
  rintro e w1 ⟨rfl, hb1⟩
  have hz1 := hb1.size
  have hr1 := (hb1.block _ (by omega)).trans hr0
  have b1 : Below w.heap.size w w1 := bl_trans hb0 hb0.size hb1
  have hp1 := h.keep b1
  clear hr0 hb0 hb1
  have HR1 := hidR hr1
  have HP1 := hidR hp1
  clear hr1 hp1
  go_wp2_with fail
  refine (rnext_any HP1.out kNum (by decide)).mono ?_
  rw [N2.out]
  rintro e w2 ⟨rfl, hb2⟩
  have hz2 := hb2.size
  have hr2 := (hb2.block _ (by omega)).trans HR1.out
  have b2 : Below w.heap.size w w2 := bl_trans b1 b1.size hb2
  have hp2 := h.keep b2
  have HR2 := hidR hr2
  have HP2 := hidR hp2
  clear hr2 hp2
  go_wp2_with fail
  refine (rname_any HT HP2.out).mono ?_
  rintro e w3 ⟨x, rfl, _, hp3, hb3⟩
  rw [HNM.out] at hp3
  have hz3 := hb3.size
  have hr3 := heap_keep hb3 HR2.out (by omega)
  have b3' : But q w w3 := (But.of b2).trans hb3
  have HR3 := hidR hr3
  have HP3 := hidR hp3
  clear hr3 hp3
  go_wp2_with fail
  refine (rnext_any HP3.out kSign sign_ne).mono ?_
  rw [N3.out]
  rintro e w4 ⟨rfl, hb4⟩
  have hz4 := hb4.size
  have hr4 := (hb4.block _ (by omega)).trans HR3.out
  have hp4 := HP3.out.keep hb4
  have b4 : But q w w4 := b3'.trans (But.of hb4)
  have n2 := heap_lt hr4
  have r50 := cell_of_blk hr4 0
  have q50 := free_of_blk hr4 0
  have r51 := cell_of_blk hr4 1
  have q51 := free_of_blk hr4 1
  have r52 := cell_of_blk hr4 2
  have q52 := free_of_blk hr4 2
  have r53 := cell_of_blk hr4 3
  have q53 := free_of_blk hr4 3
  have HR4 := hidR hr4
  have HP4 := hidR hp4
  clear hr4 hp4
  go_wp2
  exact ret_rx Tryz.results65 rfl (by omega) (Nat.le_refl _) HR4.out (by rw [HR.out.1]; exact HP4.out) b4 (fun z j hz => absurd hz (HR.out.2 z j))
/-- A single expression of the reference, one deeper. -/
theorem ahead_ok {T : List Tok} {q n : Nat} (HT : ∀ t ∈ T, t.Good) (hE : REOk T q n) (hS : RSOk T q n) (hG : RGOk T q n) : RSOk T q (n + 1) := by
  intro d s w h hout
  by_cases h1 : (nxt T s).kind = kNum
  · obtain ⟨i, rfl, _⟩ := nxt_tok h1 (by decide)
    exact ahead_num (n := n) HT h h1 rfl
  by_cases h2 : (nxt T s).kind = kName
  · obtain ⟨i, rfl, _⟩ := nxt_tok h2 (by decide)
    exact ahead_name HT hG h h2 rfl hout
  cases h3 : seesB T kSign [45] s with
  | true =>
    obtain ⟨i, rfl, _⟩ := nxt_tok (of_decide_eq_true h3).1 sign_ne
    exact ahead_minus HT hS h (of_decide_eq_true h3) rfl hout
  | false =>
    cases h4 : seesB T kSign [33] s with
    | true =>
      obtain ⟨i, rfl, _⟩ := nxt_tok (of_decide_eq_true h4).1 sign_ne
      exact ahead_not HT hS h (of_decide_eq_true h4) rfl hout
    | false =>
      cases h5 : seesB T kSign [40] s with
      | true =>
        obtain ⟨i, rfl, _⟩ := nxt_tok (of_decide_eq_true h5).1 sign_ne
        exact ahead_par HT hE h (of_decide_eq_true h5) rfl hout
      | false => exact ahead_none (n := n) HT h h1 h2 h3 h4 h5 rfl
theorem ahead_zero {T : List Tok} {q : Nat} (HT : ∀ t ∈ T, t.Good) : RSOk T q 0 := by
  intro d s w h hout
  cases s with
  | out => exact absurd rfl hout
  | ok u i => exact absurd (by rw [Rs.via_ok, singleT]) hout
  | bad c k => exact ahead_none (n := 0) HT h (by rw [nxt_bad]; decide) (by rw [nxt_bad]; decide) (sees_bad sign_ne) (sees_bad sign_ne) (sees_bad sign_ne) rfl
end Go.Proofs.YtdleiajkihijhabGreatDoor
