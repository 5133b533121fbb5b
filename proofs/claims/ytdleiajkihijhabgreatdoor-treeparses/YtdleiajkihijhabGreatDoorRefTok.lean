/-
  Our own: the reference's parser: tokens that must be there; one deeper; levels; numbers.
-/
import Derived.Test.YtdleiajkihijhabGreatDoorRefPar
namespace Go.Proofs.YtdleiajkihijhabGreatDoor
open Go.RowKit

/-- A sign, or a word, that is eaten. -/
theorem reat_k {T : List Tok} {q d : Nat} {s : Rs Unit} {w : World} (HT : ∀ t ∈ T, t.Good) (h : RAt T q d s w) (k x : List UInt8) (hk : (firstOf x).1 = k) (hkk : k = kSign ∨ k = kWord) (hx : x ≠ []) :
    Calls Tryz.prog 21 #[ptrV q, .string ⟨x.toArray⟩] w fun e w' => e = .returned (.bool (seesB T k x s)) ∧ RAt T q d (skipS T k x s) w' ∧ But q w w' := by
  have e : (seesB T kSign x s || seesB T kWord x s) = seesB T k x s := by
    rcases hkk with rfl | rfl
    · rw [sees_kind HT (k := kWord) word_ne (by rw [hk]; decide)]; simp
    · rw [sees_kind HT (k := kSign) sign_ne (by rw [hk]; decide)]; simp
  have := reat_any h x hx
  rw [e] at this
  exact this
theorem rmust_any {T : List Tok} {q d : Nat} {s : Rs Unit} {w : World} (HT : ∀ t ∈ T, t.Good) (h : RAt T q d s w) (k x : List UInt8) (hk : (firstOf x).1 = k) (hkk : k = kSign ∨ k = kWord) (hx : x ≠ []) :
    Calls Tryz.prog 19 #[ptrV q, .string ⟨x.toArray⟩] w fun e w' => e = .returned (.tuple #[]) ∧ RAt T q d (needS T k x s) w' ∧ But q w w' := by
  have hkn : k ≠ [] := by rcases hkk with rfl | rfl; exact sign_ne; exact word_ne
  cases s with
  | out => obtain ⟨_, _, _, _, _, _, _, _, _, _, he⟩ := h; exact he.elim
  | bad c k0 =>
    have hc : ∃ v : Int, w.cell? ⟨q, 3, none⟩ = some (.int .i64 v) ∧ 0 < v := by obtain ⟨_, _, tv, i, dd, c1, k1, hx, _, _, rfl, h0, _⟩ := h; exact ⟨_, cell_of_blk hx 3, by omega⟩
    obtain ⟨v, hc, hv⟩ := hc
    go_enter Tryz.func19, Tryz.ntmps19
    go_wp2
    first | go_end0 | refine bodyPost_ret (v := .tuple #[]) (by simp [results, Tryz.results19, go_sem]) rfl ?_
    exact ⟨rfl, h, But.refl _ _⟩
  | ok u i =>
    have hc : w.cell? ⟨q, 3, none⟩ = some (.int .i64 0) := by obtain ⟨tv, hx, _⟩ := h.at; exact cell_of_blk hx 3
    have hs := reat_k HT h k x hk hkk hx
    cases hb : seesB T k x (.ok u i) with
    | true =>
      rw [hb, show skipS T k x (.ok u i) = needS T k x (.ok u i) from by
        unfold skipS needS
        rw [hb, if_pos rfl]
        simp only [Rs.bind_ok, needT]; rw [if_pos (show isT T k x i from of_decide_eq_true hb)]] at hs
      go_enter Tryz.func19, Tryz.ntmps19
      go_wp2_with fail
      refine hs.mono ?_
      rintro e w' ⟨rfl, hp, hw⟩
      go_wp2
      go_end0
      exact ⟨rfl, hp, hw⟩
    | false =>
      have e : (skipS T k x (.ok u i)).fail 1 = needS T k x (.ok u i) := by
        unfold skipS needS
        rw [hb]
        simp only [Rs.bind_ok, needT]; rw [if_neg (show ¬ isT T k x i from of_decide_eq_false hb)]; rfl
      rw [hb] at hs
      go_enter Tryz.func19, Tryz.ntmps19
      go_wp2_with fail
      refine hs.mono ?_
      rintro e w' ⟨rfl, hp, hw⟩
      go_wp2_with fail
      refine (rfail_any hp 1 (by omega)).mono ?_
      rintro e2 w2 ⟨rfl, hp2, hw2⟩
      rw [e] at hp2
      go_wp2
      go_end0
      exact ⟨rfl, hp2, hw.trans hw2⟩
/-- A name that must be there. -/
theorem rname_any {T : List Tok} {q d : Nat} {s : Rs Unit} {w : World} (HT : ∀ t ∈ T, t.Good) (h : RAt T q d s w) :
    Calls Tryz.prog 20 #[ptrV q] w fun e w' => ∃ x : List UInt8, e = .returned (.string ⟨x.toArray⟩) ∧ (∀ y j, nameR T s = .ok y j → x = y ∧ y ≠ []) ∧ RAt T q d (nameR T s).st w' ∧ But q w w' := by
  have hn := rnext_any h kName (by decide)
  have hlt := h.lt
  by_cases h1 : (nxt T s).kind = kName
  · obtain ⟨i, rfl, hi⟩ := nxt_tok h1 (by decide)
    have hkn : (tk T i).kind = kName := h1
    have hne : (tk T i).text ≠ [] := (HT (tk T i) (by rw [tk_at hi]; exact List.getElem_mem _)).1
    have e : nameR T (.ok () i) = .ok (tk T i).text (i + 1) := by simp only [nameR, Rs.bind_ok, nameT, hkn, if_true]
    have e2 : nextR T kName (.ok () i) = (tk T i).text := by unfold nextR; rw [if_pos h1]; rfl
    rw [e]
    rw [e2] at hn
    obtain ⟨tx, htx⟩ : ∃ tx, tx = (tk T i).text := ⟨_, rfl⟩
    rw [← htx] at hn hne ⊢
    have hne2 : tx.isEmpty = false := by
      cases tx with
      | nil => exact absurd rfl hne
      | cons c r => rfl
    have hi2 : (i : Int) ≤ 1000 := by have := h.few; omega
    have HI := hidR hi
    have HNE := hidR hne
    clear e e2 htx hne hkn h1 hi
    go_enter Tryz.func20, Tryz.ntmps20
    go_wp2_with fail
    refine hn.mono ?_
    rintro e w1 ⟨rfl, hb1⟩
    have hp1 := h.keep hb1
    obtain ⟨tv, hx1, _⟩ := hp1.at
    have c1 : w1.cell? ⟨q, 1, none⟩ = some (.int .i64 i) := cell_of_blk hx1 1
    have f1 := free_of_blk hx1 1
    have hlt1 := heap_lt hx1
    clear hx1 hn
    go_wp2
    go_ret
    exact ⟨tx, rfl, fun y j hy => by cases hy; exact ⟨rfl, HNE.out⟩, hp1.step HI.out, (But.of hb1).set 1 _⟩
  · have e : (nameR T s).st = s.fail 1 ∧ ∀ y j, nameR T s ≠ .ok y j := by
      cases s with
      | out => exact ⟨rfl, fun _ _ h => by cases h⟩
      | bad c k => exact ⟨rfl, fun _ _ h => by cases h⟩
      | ok u i =>
        have : (tk T i).kind ≠ kName := h1
        simp only [nameR, Rs.bind_ok, nameT, this, if_false]
        exact ⟨rfl, fun _ _ h => by cases h⟩
    have e2 : nextR T kName s = [] := by unfold nextR; rw [if_neg h1]
    rw [e2] at hn
    clear e2 h1
    go_enter Tryz.func20, Tryz.ntmps20
    go_wp2_with fail
    refine hn.mono ?_
    rintro e w1 ⟨rfl, hb1⟩
    have hp1 := h.keep hb1
    clear hn
    go_wp2_with fail
    refine (rfail_any hp1 1 (by omega)).mono ?_
    rintro e2 w2 ⟨rfl, hp2, hw2⟩
    go_wp2
    go_ret
    exact ⟨[], rfl, fun y j hy => absurd hy (e.2 y j), e.1 ▸ hp2, (But.of hb1).trans hw2⟩
theorem RAt.nest {T : List Tok} {q d i : Nat} {w : World} (h : RAt T q d (.ok () i) w) (d2 : Nat) (hd : d2 ≤ 12) : RAt T q d2 (.ok () i) (w.setCell ⟨q, 2, none⟩ (.int .i64 (d2 : Nat))) := by
  obtain ⟨hf, _, tv, i, dd, c, k, hx, hi, ht, rfl, rfl, rfl, rfl⟩ := h
  have hb : But q w (w.setCell ⟨q, 2, none⟩ (.int .i64 (d2 : Nat))) := (But.refl q w).set 2 _
  exact ⟨hf, hd, tv, i, d2, 0, -1, (blk_setCell hx 2 _).trans rfl, hi, ht.keep hb (heap_lt hx), rfl, rfl, rfl, rfl⟩
/-- One deeper: it may be. -/
theorem rdown_ok {T : List Tok} {q d i : Nat} {w : World} (h : RAt T q d (.ok () i) w) (hd : d < 12) :
    Calls Tryz.prog 36 #[ptrV q] w fun e w' => e = .returned (.bool true) ∧ RAt T q (d + 1) (.ok () i) w' ∧ But q w w' := by
  obtain ⟨tv, hx, _⟩ := h.at
  have c2 : w.cell? ⟨q, 2, none⟩ = some (.int .i64 d) := cell_of_blk hx 2
  have c3 : w.cell? ⟨q, 3, none⟩ = some (.int .i64 0) := cell_of_blk hx 3
  have f2 := free_of_blk hx 2
  have hlt := heap_lt hx
  have hd1 : (d : Int) ≤ 11 := by omega
  have hd2 : ¬ (12 : Int) < d + 1 := by omega
  have hq := h.nest (d + 1) (by omega)
  have HQ := hidR hq
  clear hx hq
  go_enter Tryz.func36, Tryz.ntmps36
  go_wp2
  go_ret
  exact ⟨rfl, HQ.out, (But.refl q w).set 2 _⟩
/-- One deeper: it may not. -/
theorem rdown_no {T : List Tok} {q i : Nat} {w : World} (h : RAt T q 12 (.ok () i) w) :
    Calls Tryz.prog 36 #[ptrV q] w fun e w' => e = .returned (.bool false) ∧ RAt T q 12 (.bad 10 i) w' ∧ But q w w' := by
  obtain ⟨tv, hx, hi⟩ := h.at
  have c2 : w.cell? ⟨q, 2, none⟩ = some (.int .i64 (12 : Nat)) := cell_of_blk hx 2
  have f2 := free_of_blk hx 2
  have hlt := heap_lt hx
  have hx13 := blk_setCell hx 2 (.int .i64 13)
  have HX := hidR hx
  clear hx
  go_enter Tryz.func36, Tryz.ntmps36
  go_wp2_with fail
  refine (rfail_ok q tv i 13 (-1) 10 _ (by simpa using hx13)).mono ?_
  rintro e w1 ⟨rfl, rfl⟩
  have h3 := blk_setCell (blk_setCell (show (w.setCell ⟨q, 2, none⟩ (.int .i64 13)).heap[q]? = some (.cells #[tv, .int .i64 i, .int .i64 13, .int .i64 0, .int .i64 (-1)] 65 (0, 0)) by simpa using hx13) 3 (.int .i64 10)) 4 (.int .i64 i)
  have hb : But q w (((w.setCell ⟨q, 2, none⟩ (.int .i64 13)).setCell ⟨q, 3, none⟩ (.int .i64 10)).setCell ⟨q, 4, none⟩ (.int .i64 i)) := (((But.refl q w).set 2 _).set 3 _).set 4 _
  have hq : RAt T q 12 (.bad 10 i) (((w.setCell ⟨q, 2, none⟩ (.int .i64 13)).setCell ⟨q, 3, none⟩ (.int .i64 10)).setCell ⟨q, 4, none⟩ (.int .i64 i)) := by
    obtain ⟨hf, hd, tv2, i2, dd, c, k, hx2, _, ht, _⟩ := h
    have e : tv2 = tv := by
      have := hx2.symm.trans HX.out
      injection this with this
      injection this with this
      injection this with this
      injection this
    subst e
    exact ⟨hf, hd, tv2, i, 13, 10, i, by simpa using h3, hi, ht.keep hb hlt, rfl, by omega, rfl⟩
  have c3 : (((w.setCell ⟨q, 2, none⟩ (.int .i64 13)).setCell ⟨q, 3, none⟩ (.int .i64 10)).setCell ⟨q, 4, none⟩ (.int .i64 i)).cell? ⟨q, 3, none⟩ = some (.int .i64 10) := cell_of_blk h3 3
  generalize (((w.setCell ⟨q, 2, none⟩ (.int .i64 13)).setCell ⟨q, 3, none⟩ (.int .i64 10)).setCell ⟨q, 4, none⟩ (.int .i64 i)) = w2 at hb hq c3 ⊢
  go_wp2
  go_ret
  exact ⟨rfl, hq, hb⟩
theorem rlevel_any (tx : List UInt8) (w : World) :
    Calls Tryz.prog 66 #[.string ⟨tx.toArray⟩] w fun e w' => e = .returned (.int .i64 ((signLevel tx : Int) - 1)) ∧ w' = w := by
  by_cases h0 : tx = [61, 61]
  · rw [show signLevel tx = 1 from by rw [h0]; rfl]
    subst h0
    go_enter Tryz.func66, Tryz.ntmps66
    go_wp2
    go_ret
    exact ⟨rfl, rfl⟩
  have n0 := str_ne h0
  by_cases h1 : tx = [33, 61]
  · rw [show signLevel tx = 1 from by rw [h1]; rfl]
    subst h1
    go_enter Tryz.func66, Tryz.ntmps66
    go_wp2
    go_ret
    exact ⟨rfl, rfl⟩
  have n1 := str_ne h1
  by_cases h2 : tx = [60]
  · rw [show signLevel tx = 2 from by rw [h2]; rfl]
    subst h2
    go_enter Tryz.func66, Tryz.ntmps66
    go_wp2
    go_ret
    exact ⟨rfl, rfl⟩
  have n2 := str_ne h2
  by_cases h3 : tx = [60, 61]
  · rw [show signLevel tx = 2 from by rw [h3]; rfl]
    subst h3
    go_enter Tryz.func66, Tryz.ntmps66
    go_wp2
    go_ret
    exact ⟨rfl, rfl⟩
  have n3 := str_ne h3
  by_cases h4 : tx = [124]
  · rw [show signLevel tx = 3 from by rw [h4]; rfl]
    subst h4
    go_enter Tryz.func66, Tryz.ntmps66
    go_wp2
    go_ret
    exact ⟨rfl, rfl⟩
  have n4 := str_ne h4
  by_cases h5 : tx = [94]
  · rw [show signLevel tx = 4 from by rw [h5]; rfl]
    subst h5
    go_enter Tryz.func66, Tryz.ntmps66
    go_wp2
    go_ret
    exact ⟨rfl, rfl⟩
  have n5 := str_ne h5
  by_cases h6 : tx = [38]
  · rw [show signLevel tx = 5 from by rw [h6]; rfl]
    subst h6
    go_enter Tryz.func66, Tryz.ntmps66
    go_wp2
    go_ret
    exact ⟨rfl, rfl⟩
  have n6 := str_ne h6
  by_cases h7 : tx = [60, 60]
  · rw [show signLevel tx = 6 from by rw [h7]; rfl]
    subst h7
    go_enter Tryz.func66, Tryz.ntmps66
    go_wp2
    go_ret
    exact ⟨rfl, rfl⟩
  have n7 := str_ne h7
  by_cases h8 : tx = [62, 62]
  · rw [show signLevel tx = 6 from by rw [h8]; rfl]
    subst h8
    go_enter Tryz.func66, Tryz.ntmps66
    go_wp2
    go_ret
    exact ⟨rfl, rfl⟩
  have n8 := str_ne h8
  by_cases h9 : tx = [43]
  · rw [show signLevel tx = 7 from by rw [h9]; rfl]
    subst h9
    go_enter Tryz.func66, Tryz.ntmps66
    go_wp2
    go_ret
    exact ⟨rfl, rfl⟩
  have n9 := str_ne h9
  by_cases h10 : tx = [45]
  · rw [show signLevel tx = 7 from by rw [h10]; rfl]
    subst h10
    go_enter Tryz.func66, Tryz.ntmps66
    go_wp2
    go_ret
    exact ⟨rfl, rfl⟩
  have n10 := str_ne h10
  by_cases h11 : tx = [42]
  · rw [show signLevel tx = 8 from by rw [h11]; rfl]
    subst h11
    go_enter Tryz.func66, Tryz.ntmps66
    go_wp2
    go_ret
    exact ⟨rfl, rfl⟩
  have n11 := str_ne h11
  by_cases h12 : tx = [47]
  · rw [show signLevel tx = 8 from by rw [h12]; rfl]
    subst h12
    go_enter Tryz.func66, Tryz.ntmps66
    go_wp2
    go_ret
    exact ⟨rfl, rfl⟩
  have n12 := str_ne h12
  by_cases h13 : tx = [37]
  · rw [show signLevel tx = 8 from by rw [h13]; rfl]
    subst h13
    go_enter Tryz.func66, Tryz.ntmps66
    go_wp2
    go_ret
    exact ⟨rfl, rfl⟩
  have n13 := str_ne h13
  rw [show signLevel tx = 0 from by simp [signLevel, h0, h1, h2, h3, h4, h5, h6, h7, h8, h9, h10, h11, h12, h13]]
  clear h0 h1 h2 h3 h4 h5 h6 h7 h8 h9 h10 h11 h12 h13
  go_enter Tryz.func66, Tryz.ntmps66
  go_wp2
  go_ret
  exact ⟨rfl, rfl⟩
end Go.Proofs.YtdleiajkihijhabGreatDoor
