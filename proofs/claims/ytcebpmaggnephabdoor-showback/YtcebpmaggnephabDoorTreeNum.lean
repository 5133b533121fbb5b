/-
  Our own: strconv.ParseUint at a row of at most 18 digits.
-/
import Derived.Test.YtcebpmaggnephabDoorTreePar
import Derived.Lib.ConvBytes
import Derived.Lib.Strings
import Derived.Lib.AtoiErrMem
import Derived.Laws.Strings3
import Derived.Laws.Closers25
import Derived.Laws.Closers25b
namespace Go.Proofs.YtcebpmaggnephabDoor
open Go.RowKit

theorem numV_snoc (l : List UInt8) (c : UInt8) : numV (l ++ [c]) = 10 * numV l + (c.toNat - 48) := by simp [numV, List.foldl_append]
theorem take_next (l : List UInt8) (k : Nat) (h : k < l.length) : l.take (k + 1) = l.take k ++ [l[k]] := by rw [List.take_add_one, List.getElem?_eq_getElem h]; rfl
theorem numV_lt (l : List UInt8) (hd : ∀ c ∈ l, isD c = true) : ∀ k, k ≤ l.length → numV (l.take k) < 10 ^ k
  | 0, _ => by simp [numV]
  | k + 1, hk => by
    have := numV_lt l hd k (by omega)
    have hc := of_decide_eq_true (hd l[k] (List.getElem_mem _))
    rw [take_next l k (by omega), numV_snoc, Nat.pow_succ]
    omega
theorem numV_le (l : List UInt8) (hd : ∀ c ∈ l, isD c = true) (k : Nat) (hk : k ≤ l.length) (hl : l.length ≤ 18) : numV (l.take k) ≤ 999999999999999999 := by
  have h1 := numV_lt l hd k hk
  have h2 : 10 ^ k ≤ 10 ^ 18 := Nat.pow_le_pow_right (by omega) (by omega)
  omega
set_option maxHeartbeats 4000000 in
set_option maxRecDepth 100000 in
theorem inner_uint (l : List UInt8) (h0 : l ≠ []) (hl : l.length ≤ 18) (hd : ∀ c ∈ l, isD c = true) (w : World) :
    Calls Tryd.prog 99 #[.string ⟨l.toArray⟩, .int .i64 10, .int .i64 63] w fun e w' => e = .returned (.tuple #[.int .u64 (numV l), .nilIface]) ∧ w' = Lib.bytesWorld w 5 ⟨l.toArray⟩ := by
  obtain ⟨t, ht⟩ : ∃ t : ByteArray, t = ⟨l.toArray⟩ := ⟨_, rfl⟩
  have htl : t.data.toList = l := by rw [ht]
  have hts : t.size = l.length := by rw [ht]; simp [ByteArray.size]
  rw [← ht]
  have hsz : 0 < l.length := List.length_pos_iff.2 h0
  have hemp : t.toList.isEmpty = false := by
    rw [← decide_eq_emptyBytes]
    exact decide_eq_false (fun h => by rw [h] at hts; have : ByteArray.empty.size = 0 := rfl; omega)
  have hcv := Lib.run_convert_string_bytes (P := Tryd.prog) w 9 69 5 t (u := .string) Tryd.underlying9 Tryd.underlying69 Tryd.underlying5
  have hB : ∀ j, j < t.size → (Lib.bytesWorld w 5 t).cell? ⟨w.heap.size, j, none⟩ = some (.int .u8 (t.data.toList.getD j 0).toNat) := fun j hj => Lib.bytesWorld_cell w 5 t j hj
  obtain ⟨W1, hW1⟩ : ∃ W1, W1 = Lib.bytesWorld w 5 t := ⟨_, rfl⟩
  rw [← hW1] at hcv hB ⊢
  clear hW1
  rw [htl] at hB
  have hmv : IntKind.u64.wrap (IntKind.u64.wrap 9223372036854775808 - 1) = 9223372036854775807 := by
    rw [IntKind.wrap_u64, IntKind.wrap_u64]
    decide
  have HD : Hid (∀ c ∈ l, isD c = true) := hd
  clear hd h0 htl ht
  go_enter Tryd.func99, Tryd.ntmps99
  go_wp2
  go_loop [12, 13, 101] (fun vu vn vi => ∃ (k : Nat) (a : Int), vu = .bool false ∧ vn = .int .u64 a ∧ vi = .int .i64 k ∧ k ≤ t.size ∧ 0 ≤ a ∧ a ≤ 999999999999999999 ∧ Hid (a = (numV (l.take k) : Int)))
    (fun _ _ vi => t.size - (intOf vi).toNat)
  case atStart => exact ⟨0, 0, rfl, rfl, rfl, by omega, by omega, by omega, rfl⟩
  case round =>
    obtain ⟨k, a, rfl, rfl, rfl, hk, a0, a1, hh⟩ := hrel
    by_cases hkn : k < t.size
    · have hkl : k < l.length := by omega
      have hc := hB k hkn
      have hget : l.getD k 0 = l[k] := by simp [hkl]
      rw [hget] at hc
      have hdg := of_decide_eq_true (HD.out l[k] (List.getElem_mem _))
      have hnx : Hid (numV (l.take (k + 1)) = 10 * numV (l.take k) + (l[k].toNat - 48)) := by rw [take_next l k hkl]; exact numV_snoc _ _
      have hle := numV_le l HD.out (k + 1) (by omega) hl
      rw [hnx.out] at hle
      generalize l[k] = c at hc hdg hnx hle
      have hc256 : c.toNat < 256 := c.toNat_lt
      obtain ⟨hd0, hd1⟩ := hdg
      have iov : a * 10 + ((c.toNat : Int) - 48) ≤ 999999999999999999 := by have := hh.out; omega
      have HN : Hid (a * 10 + ((c.toNat : Int) - 48) = (numV (l.take (k + 1)) : Int)) := by have h1 := hh.out; have h2 := hnx.out; show _ = _; omega
      clear hB hget hnx hle hh
      go_wp2
      refine ⟨⟨k + 1, a * 10 + ((c.toNat : Int) - 48), rfl, (by first | rfl | (congr 1; omega)), (by first | rfl | (congr 1; omega)), by omega, by omega, iov, HN⟩, by simp [intOf]; omega⟩
    · have hkk : k = t.size := by omega
      subst hkk
      have ha := hh.out
      rw [hts, List.take_of_length_le (Nat.le_refl _)] at ha
      subst ha
      clear hh
      go_wp2
      go_ret2
      exact ⟨rfl, rfl⟩
theorem uint_any (l : List UInt8) (h0 : l ≠ []) (hl : l.length ≤ 18) (hd : ∀ c ∈ l, isD c = true) (w : World) :
    Calls Tryd.prog 92 #[.string ⟨l.toArray⟩, .int .i64 10, .int .i64 63] w fun e w' => e = .returned (.tuple #[.int .u64 (numV l), .nilIface]) ∧ Below w.heap.size w w' := by
  go_enter Tryd.func92, Tryd.ntmps92
  go_wp2_with fail
  refine (inner_uint l h0 hl hd w).mono ?_
  rintro e w' ⟨rfl, rfl⟩
  go_wp2
  go_ret2
  exact ⟨rfl, Lib.bytesWorld_below _ _ _⟩
theorem slevel_any (tx : List UInt8) (w : World) :
    Calls Tryd.prog 60 #[.string ⟨tx.toArray⟩] w fun e w' => e = .returned (.int .i64 (signLevel tx)) ∧ w' = w := by
  by_cases h0 : tx = [61, 61]
  · rw [show signLevel tx = 1 from by rw [h0]; rfl]
    subst h0
    go_enter Tryd.func60, Tryd.ntmps60
    go_wp2
    go_ret
    exact ⟨rfl, rfl⟩
  have n0 := str_ne h0
  by_cases h1 : tx = [33, 61]
  · rw [show signLevel tx = 1 from by rw [h1]; rfl]
    subst h1
    go_enter Tryd.func60, Tryd.ntmps60
    go_wp2
    go_ret
    exact ⟨rfl, rfl⟩
  have n1 := str_ne h1
  by_cases h2 : tx = [60]
  · rw [show signLevel tx = 2 from by rw [h2]; rfl]
    subst h2
    go_enter Tryd.func60, Tryd.ntmps60
    go_wp2
    go_ret
    exact ⟨rfl, rfl⟩
  have n2 := str_ne h2
  by_cases h3 : tx = [60, 61]
  · rw [show signLevel tx = 2 from by rw [h3]; rfl]
    subst h3
    go_enter Tryd.func60, Tryd.ntmps60
    go_wp2
    go_ret
    exact ⟨rfl, rfl⟩
  have n3 := str_ne h3
  by_cases h4 : tx = [124]
  · rw [show signLevel tx = 3 from by rw [h4]; rfl]
    subst h4
    go_enter Tryd.func60, Tryd.ntmps60
    go_wp2
    go_ret
    exact ⟨rfl, rfl⟩
  have n4 := str_ne h4
  by_cases h5 : tx = [94]
  · rw [show signLevel tx = 4 from by rw [h5]; rfl]
    subst h5
    go_enter Tryd.func60, Tryd.ntmps60
    go_wp2
    go_ret
    exact ⟨rfl, rfl⟩
  have n5 := str_ne h5
  by_cases h6 : tx = [38]
  · rw [show signLevel tx = 5 from by rw [h6]; rfl]
    subst h6
    go_enter Tryd.func60, Tryd.ntmps60
    go_wp2
    go_ret
    exact ⟨rfl, rfl⟩
  have n6 := str_ne h6
  by_cases h7 : tx = [60, 60]
  · rw [show signLevel tx = 6 from by rw [h7]; rfl]
    subst h7
    go_enter Tryd.func60, Tryd.ntmps60
    go_wp2
    go_ret
    exact ⟨rfl, rfl⟩
  have n7 := str_ne h7
  by_cases h8 : tx = [62, 62]
  · rw [show signLevel tx = 6 from by rw [h8]; rfl]
    subst h8
    go_enter Tryd.func60, Tryd.ntmps60
    go_wp2
    go_ret
    exact ⟨rfl, rfl⟩
  have n8 := str_ne h8
  by_cases h9 : tx = [43]
  · rw [show signLevel tx = 7 from by rw [h9]; rfl]
    subst h9
    go_enter Tryd.func60, Tryd.ntmps60
    go_wp2
    go_ret
    exact ⟨rfl, rfl⟩
  have n9 := str_ne h9
  by_cases h10 : tx = [45]
  · rw [show signLevel tx = 7 from by rw [h10]; rfl]
    subst h10
    go_enter Tryd.func60, Tryd.ntmps60
    go_wp2
    go_ret
    exact ⟨rfl, rfl⟩
  have n10 := str_ne h10
  by_cases h11 : tx = [42]
  · rw [show signLevel tx = 8 from by rw [h11]; rfl]
    subst h11
    go_enter Tryd.func60, Tryd.ntmps60
    go_wp2
    go_ret
    exact ⟨rfl, rfl⟩
  have n11 := str_ne h11
  by_cases h12 : tx = [47]
  · rw [show signLevel tx = 8 from by rw [h12]; rfl]
    subst h12
    go_enter Tryd.func60, Tryd.ntmps60
    go_wp2
    go_ret
    exact ⟨rfl, rfl⟩
  have n12 := str_ne h12
  by_cases h13 : tx = [37]
  · rw [show signLevel tx = 8 from by rw [h13]; rfl]
    subst h13
    go_enter Tryd.func60, Tryd.ntmps60
    go_wp2
    go_ret
    exact ⟨rfl, rfl⟩
  have n13 := str_ne h13
  rw [show signLevel tx = 0 from by simp [signLevel, h0, h1, h2, h3, h4, h5, h6, h7, h8, h9, h10, h11, h12, h13]]
  clear h0 h1 h2 h3 h4 h5 h6 h7 h8 h9 h10 h11 h12 h13
  go_enter Tryd.func60, Tryd.ntmps60
  go_wp2
  go_ret
  exact ⟨rfl, rfl⟩
theorem level_at (kd tx : List UInt8) (ps : Nat) (w : World) :
    Calls Tryd.prog 80 #[.agg #[.string ⟨kd.toArray⟩, .string ⟨tx.toArray⟩, .int .i64 ps]] w fun e w' => e = .returned (.int .i64 (levelT ⟨kd, tx, ps⟩)) ∧ Below w.heap.size w w' := by
  by_cases hk : kd = kSign
  · subst hk
    have e0 : levelT ⟨kSign, tx, ps⟩ = signLevel tx := by simp [levelT]
    rw [e0]
    unfold kSign
    clear e0
    go_enter Tryd.func80, Tryd.ntmps80
    go_wp2_with fail
    refine (slevel_any tx _).mono ?_
    rintro e w2 ⟨rfl, rfl⟩
    go_wp2
    go_ret
    exact ⟨rfl, by (repeat (first | exact Below.refl _ _ | assumption | refine Below.drew ?_ | refine Below.trans ?_ (drewN_below' _ _ _) | refine Below.setCell ?_ (by first | (simp; done) | (simp; omega)) _ | refine Below.alloc ?_ (by first | (simp; done) | (simp; omega)) _))⟩
  · have e0 : levelT ⟨kd, tx, ps⟩ = 0 := by simp [levelT, hk]
    rw [e0]
    have n0 := str_ne hk
    unfold kSign at n0
    clear e0 hk
    go_enter Tryd.func80, Tryd.ntmps80
    go_wp2
    go_ret
    exact ⟨rfl, by (repeat (first | exact Below.refl _ _ | assumption | refine Below.drew ?_ | refine Below.trans ?_ (drewN_below' _ _ _) | refine Below.setCell ?_ (by first | (simp; done) | (simp; omega)) _ | refine Below.alloc ?_ (by first | (simp; done) | (simp; omega)) _))⟩
theorem level_any (t : Tok) (w : World) : Calls Tryd.prog 80 #[tokA t] w fun e w' => e = .returned (.int .i64 (levelT t)) ∧ Below w.heap.size w w' := level_at t.kind t.text t.pos w
end Go.Proofs.YtcebpmaggnephabDoor
