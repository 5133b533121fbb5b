/-
  Our own: package graph: asked, of any node of a graph that is well.
-/
import Derived.Test.YtohjiggcbfjahacGreatDoorGrAsked2
import Derived.Test.YtohjiggcbfjahacGreatDoorFlowM
namespace Go.Proofs.YtohjiggcbfjahacGreatDoor
open Go.RowKit

theorem spot_low {L : List Nd} {a j k : Nat} (hs : Spot L a j k) (hLow : ∀ n ∈ L, LowN n) : j < L.length ∧ k ≤ 1000 ∧ k < (ndAt L j).ins.length := by
  obtain ⟨n, h1, h2, h3⟩ := hs
  have hk := lt_of_at h3
  have := (hLow n (List.mem_of_getElem? h1)).ins
  exact ⟨lt_of_at h1, by omega, by rw [ndAt_of h1]; exact hk⟩
theorem askL_few {L : List Nd} (hLow : ∀ n ∈ L, LowN n) (hL : L.length ≤ 1000) (j k : Nat) : (askL L j k).length ≤ 1000 := by
  unfold askL
  split
  · rw [List.length_map]
    refine Nat.le_trans (List.length_filter_le _ _) ?_
    simpa using hL
  · rw [List.length_drop]
    rcases Nat.lt_or_ge j L.length with hj | hj
    · have := (hLow _ (List.mem_of_getElem? (ndAt_ex hj))).ins; omega
    · have : ndAt L (j : Int) = ⟨[], [], 0, []⟩ := by simp [ndAt, hj]
      rw [this]; simp
theorem asked_any {A : Nat → Prop} {w : World} {p : Nat} {nm : List UInt8} {P : Int} {nv tv yv ov pv : Value} {L : List Nd} {tk : List (Nat × Nat)} {ys ns : List Nat} {ones twos : List (List UInt8)} {Q : Int} (hF : Fl A w p nm P nv tv yv ov pv L tk ys ns (phI L L.length)) (hA : ∀ b, A b → b < w.heap.size) (hW : WellG ones twos Q L) (hLow : ∀ n ∈ L, LowN n) {a j k : Nat} (hs : Spot L a j k) :
    Calls Tryz.prog 86 #[.pointer (some ⟨p, 0, none⟩), .agg #[.int .i64 (j : Int), .int .i64 (k : Int)]] w fun e w' => ∃ v, e = .returned v ∧ Below w.heap.size w w' ∧ XRow (fun b => A b ∨ (w.heap.size ≤ b ∧ b < w'.heap.size)) w' v (askL L j k).length (intsG (askL L j k)) := by
  obtain ⟨hj, hk, hk2⟩ := spot_low hs hLow
  have hL := hW.len.2
  have hnd : ndAt L (j : Int) = L[j] := by simp [ndAt, hj]
  by_cases hr : (ndAt L j).kind = gRegion
  · have hq := ph_is hW hj
    refine (asked_phi hF hA hL j hj (by rw [← hnd]; exact hr) _ hq ?_ k hk (fun q hq => ?_)).mono ?_
    · refine Nat.le_trans (List.length_filter_le _ _) ?_
      simpa using hL
    · exact phis_len hW hs hq
    · rintro e w' ⟨v, h1, h2, h3⟩
      refine ⟨v, h1, h2, ?_⟩
      unfold askL
      rw [if_pos hr, List.length_map]
      exact (xrow_own h3).imp (fun b hb => Or.inr hb) (fun _ _ => rfl)
  · have hins : ∃ x l, L[j].ins = x :: l := by
      rw [hnd] at hk2
      cases e : L[j].ins with
      | nil => rw [e] at hk2; simp at hk2
      | cons x l => exact ⟨x, l, rfl⟩
    obtain ⟨x, l, hl⟩ := hins
    have hlen := (hLow _ (List.getElem_mem hj)).ins
    rw [hl] at hlen
    refine (asked_one hF hA hL j hj (by rw [← hnd]; exact hr) x l hl (by simp at hlen; omega) k).mono ?_
    rintro e w' ⟨v, h1, h2, h3⟩
    refine ⟨v, h1, h2, ?_⟩
    have : askL L j k = l := by unfold askL; rw [if_neg hr, hnd, hl]; rfl
    rw [this]
    exact h3.imp (fun b hb => Or.inl hb) (fun _ _ => rfl)
end Go.Proofs.YtohjiggcbfjahacGreatDoor
