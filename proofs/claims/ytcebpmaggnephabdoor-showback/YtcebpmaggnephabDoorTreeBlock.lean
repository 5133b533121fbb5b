/-
  Our own: package tree's parser: a block of statements.
-/
import Derived.Test.YtcebpmaggnephabDoorTreeList
namespace Go.Proofs.YtcebpmaggnephabDoor
open Go.RowKit

/-- A round of a block's loop: what has been read, and what is left to read. -/
def StR (T : List Tok) (a : Nat → Addr) (p d lb : Nat) (w : World) (r : Rs (List Sm)) (k : Nat) (wr : World) : Prop :=
  ∃ (rr : Rs (List Sm)) (cnt : Nat), PAt T a p d rr.st wr ∧ Bb p lb w wr ∧ Stms lb cnt rr.list wr ∧ (∀ l j, rr = .ok l j → cnt ≤ j) ∧ rr.bind (stmtsT T k d) = r
theorem StR.next {T : List Tok} {a : Nat → Addr} {p d lb g j cnt : Nat} {w w5 W : World} {r : Rs (List Sm)} {l : List Sm} (hq : ((stmtT T g d j).bind fun s j => stmtsT T g d (l ++ [s]) j) = r) (hcj : cnt ≤ j) (b5 : Bb p lb w w5)
    (h : PAt T a p d (stmtT T g d j).st W ∧ Bb p lb w5 W ∧ Stms lb (cnt + 1) ((stmtT T g d j).add (some l)) W) : StR T a p d lb w r g W := by
  refine ⟨(stmtT T g d j).more l, cnt + 1, by rw [more_st]; exact h.1, b5.trans h.2.1, by rw [more_list]; exact h.2.2, fun l2 j2 hl => ?_, ?_⟩
  · cases hr : stmtT T g d j with
    | out => rw [hr] at hl; cases hl
    | bad c k => rw [hr] at hl; cases hl
    | ok x j' =>
      rw [hr] at hl
      cases hl
      have := (block_past T g).2.2 d j x _ hr
      omega
  · rw [← hq]; cases stmtT T g d j <;> rfl
set_option maxHeartbeats 8000000 in
set_option maxRecDepth 100000 in
theorem stms_any {T : List Tok} {a : Nat → Addr} {p n d i : Nat} {w : World} (hT : ∀ m, m < n → TOk T a p m) (h : PAt T a p d (.ok () i) w) (hout : stmtsT T n d [] i ≠ .out) (xb lb : Nat)
    (hxb : w.heap[xb]? = some (.cells #[ptrV p] 58 (0, 0))) (ha : Stms lb 0 (some []) w) (h2 : p < xb) (h3 : p < lb) (h4 : xb < lb) :
    Calls Tryd.prog 53 #[ptrV xb, ptrV lb] w fun e w' => e = .returned (.tuple #[]) ∧ PAt T a p d (stmtsT T n d [] i).st w' ∧ Bb p lb w w' ∧ ∃ cnt, Stms lb cnt (stmtsT T n d [] i).list w' := by
  obtain ⟨i0, hi, hz0, hz1, hz2⟩ := info_parts st_info
  obtain ⟨r, hr⟩ : ∃ r, r = stmtsT T n d [] i := ⟨_, rfl⟩
  rw [← hr] at hout ⊢
  have hlt := heap_lt hxb
  have hltl : lb < w.heap.size := by obtain ⟨v, xs, hx, _⟩ := ha; exact heap_lt hx
  have r0 : StR T a p d lb w r n w := ⟨.ok [] i, 0, h, (But.refl p w).bb (by omega), ha, fun l j hl => Nat.zero_le _, hr.symm⟩
  have hf : ∀ args w, (callFunc 54 args).run Tryd.prog w = .ok (.enter 54 args) w := enters_of Tryd.func54 (by kernel_rfl) rfl
  have R0 := hid r0
  have HTT := hid hT
  have HO := hid hout
  have HX := hid hxb
  clear r0 hT hout hr hxb ha
  go_enter Tryd.func53, Tryd.ntmps53
  go_wp2_with fail
  go_loopg [] n (fun k wr => StR T a p d lb w r k wr ∧ k ≤ n)
  case atStart => exact ⟨R0.out, Nat.le_refl _⟩
  case round =>
    obtain ⟨⟨rr, cnt, hpr, hbr, har, hcr, hrr⟩, hkn⟩ := hrel
    have hzr := hbr.size
    have hxr : wr.heap[xb]? = _ := hbr.heap HX.out h4 (by omega)
    have x1 : wr.cell? ⟨xb, 0, none⟩ = some (ptrV p) := cell_of_blk hxr 0
    have HXR := hid hxr
    clear hxr
    cases rr with
    | out => exact absurd hrr.symm HO.out
    | bad c k =>
      have hev : ∃ b, wr.cell? ⟨p, 3, none⟩ = some (faultV b) := by obtain ⟨_, _, _, tv, i, ev, hx, _, _, b, rfl, _⟩ := hpr; exact ⟨b, cell_of_blk hx 3⟩
      obtain ⟨b, hev⟩ := hev
      have HQ := hid hrr
      have HA := hid har
      clear hcr hrr har
      go_wp2
      go_end0
      refine ⟨rfl, ?_, hbr, cnt, ?_⟩
      · rw [← HQ.out]; exact hpr
      · rw [← HQ.out]; exact HA.out.none
    | ok l j =>
      have hev : wr.cell? ⟨p, 3, none⟩ = some .nilIface := by obtain ⟨_, _, _, tv, i, ev, hx, _, _, _, rfl⟩ := hpr; exact cell_of_blk hx 3
      have hsr := skip_any hpr kSign [125] sign_ne
      rw [Rs.st_ok, sees_ok, skip_ok] at hsr
      rw [Rs.bind_ok] at hrr
      have hcj := hcr l j rfl
      have hj := PAt.le hpr
      obtain ⟨g, rfl⟩ : ∃ g, gk = g + 1 := by
        cases gk with
        | zero => exact absurd (hrr.symm.trans (by rw [stmtsT])) HO.out
        | succ g => exact ⟨g, rfl⟩
      rw [stmtsT] at hrr
      by_cases hcm : isT T kSign [125] j
      · rw [if_pos hcm, show decide (isT T kSign [125] j) = true from by simpa using hcm] at hsr
        rw [if_pos hcm] at hrr
        have HQ := hid hrr
        have HA := hid har
        clear hcr hrr har hcm
        go_wp2_with fail
        refine hsr.mono ?_
        rintro e w5 ⟨rfl, hp5, hb5⟩
        go_wp2
        go_end0
        refine ⟨rfl, ?_, hbr.trans (hb5.bb (by omega)), cnt, ?_⟩
        · rw [← HQ.out]; exact hp5
        · rw [← HQ.out]; exact HA.out.keep hb5 h3
      · rw [if_neg hcm, show decide (isT T kSign [125] j) = false from by simpa using hcm] at hsr
        rw [if_neg hcm] at hrr
        have ho : Rs.via (.ok () j) (stmtT T g d) ≠ .out := fun e => HO.out (by rw [← hrr, show stmtT T g d j = .out from e]; rfl)
        have HQ := hid hrr
        have HA := hid har
        have HO2 := hid ho
        clear hcr hrr har hcm ho
        go_wp2_with fail
        refine hsr.mono ?_
        rintro e w5 ⟨rfl, hp5, hb5⟩
        have hz5 := hb5.size
        obtain ⟨v, xs, heb, hown, hes⟩ := HA.out.keep hb5 h3
        have hx5 := heap_keep hb5 HXR.out (by omega)
        have c2 : w5.cell? ⟨xb, 0, none⟩ = some (ptrV p) := cell_of_blk hx5 0
        have c3 : w5.cell? ⟨lb, 0, none⟩ = some v := cell_of_blk heb 0
        have g3 : w5.frozen? ⟨lb, 0, none⟩ = false := free_of_blk heb 0
        have hlt5 := heap_lt heb
        have hl2 := heap_lt hx5
        have HE := hid heb
        have HS := hid hes
        obtain ⟨adv, capv, rfl⟩ := tokEmpty' hown
        have HOW := hid hown
        have HP5 := hid hp5
        have b5 : Bb p lb w w5 := hbr.trans (hb5.bb (by omega))
        have hbase : lb + 1 ≤ w5.heap.size := hlt5
        clear heb hes hown hx5 hp5 hsr
        have hcall : ∀ X, Below w5.heap.size w5 X → Calls Tryd.prog 54 #[ptrV p] X fun e w' => ∃ v, e = .returned v ∧ ∃ k m ek en em ad1 l1 c1 ad2 l2 c2 ad3 l3 c3, v = smA k m ek en em (.slice ad1 l1 c1) (.slice ad2 l2 c2) (.slice ad3 l3 c3) ∧ (∀ x j2, stmtT T g d j = .ok x j2 → RepS (InB w5.heap.size w') w' x [.string k, .string m, .string ek, .int .i64 en, .string em, .slice ad1 l1 c1, .slice ad2 l2 c2, .slice ad3 l3 c3]) ∧ PAt T a p d (stmtT T g d j).st w' ∧ But p X w' := fun X hX => by
          refine (HTT.out g (by omega) d (.ok () j) X (HP5.out.keep hX) HO2.out).mono ?_
          rintro e w2 ⟨k, m, ek, en, em, ad1, l1, c1, ad2, l2, c2, ad3, l3, c3, rfl, hrep, hp2, hb2⟩
          exact ⟨_, rfl, k, m, ek, en, em, ad1, l1, c1, ad2, l2, c2, ad3, l3, c3, rfl, fun x j hj => RepS.imp (fun b hb => ⟨Nat.le_trans hX.size hb.1, hb.2⟩) (fun _ _ => rfl) _ _ (hrep x j hj), hp2, hb2⟩
        have HC := hid hcall
        clear hcall
        have hci : (cnt : Int) < (cnt : Int) + 1 := by omega
        go_wp2_with fail
        go_region_law (first
            | (refine step_append_lies _ rfl (.tmp 12) (.tmp 16) 50 rfl (lb + 1) 57 i0 _ 8 144 Tryd.underlying50 hi hz0 hz1 hz2 rfl (by decide) _ cnt xs (by first | (simp [Act.eval]; done) | (simp [Act.eval, Act.put]; done)) (own_but HOW.out (by first | assumption | exact But.alloc (by assumption) _) (by omega)) ⟨_, 0, none⟩ 1 1 [.string ⟨#[]⟩, .string ⟨#[]⟩, .string ⟨#[]⟩, .int .i64 0, .string ⟨#[]⟩, .slice none 0 0, .slice none 0 0, .slice none 0 0] (by first | (simp [Act.eval]; done) | (simp [Act.eval]; rfl) | (simp [Act.eval, Act.put]; done) | (simp [Act.eval, Act.put]; rfl)) rfl (World.news_of_block (by first | exact heap_alloc_new _ _ | exact heap_keep hb2 (heap_alloc_new _ _) (by omega))) st_one (by decide) (by show cnt + 1 ≤ 9223372036854775807; omega) (by omega) (by first | omega | (simp; omega)) _ rfl ?_; intro gb cap w4 hown4 hgrow hat hlt4; obtain ⟨⟨t0, t1, t2, t3, t4, t5, t6, t7⟩, ⟨u0, u1, u2, u3, u4, u5, u6, u7⟩, hg1⟩ := stm_room hown4; have k4 : w4.cell? ⟨lb, 0, none⟩ = some (.slice adv cnt capv) := arg_far HOW.out hgrow (by first | omega | (simp; omega)) (by first | exact k3 | exact cell_keep (But.alloc (But.refl p _) _) k3 (by omega)); have g4 : w4.frozen? ⟨lb, 0, none⟩ = false := arg_free HOW.out hgrow (by first | omega | (simp; omega)) (by first | exact heap_keep hb3 HE.out (by omega) | exact heap_keep (But.alloc hb3 _) HE.out (by omega)); have hge : gb ≠ lb := (by omega))
            | (refine step_call rfl 54 #[.tmp 13] #[58] rfl #[ptrV p] (by first | (simp [Act.eval]; done) | (simp [Act.eval, Act.put]; done)) hf _ (HC.out _ (by (repeat (first | exact Below.refl _ _ | assumption | refine Below.drew ?_ | refine Below.trans ?_ (drewN_below' _ _ _) | refine Below.setCell ?_ (by first | (simp; done) | (simp; omega)) _ | refine Below.alloc ?_ (by first | (simp; done) | (simp; omega)) _)))) ?_; rintro v2 w2 ⟨k, m, ek, en, em, ad1, l1, c1, ad2, l2, c22, ad3, l3, c33, rfl, hrep, hp2, hb2⟩; have hb3 : But p w5 w2 := But.trans (by (repeat (first | exact But.refl _ _ | assumption | refine But.drew ?_ | refine But.drewN ?_ _ | refine But.set ?_ _ _ | refine But.setNew ?_ _ _ (by first | (simp; done) | (simp; omega)) _ | refine But.alloc ?_ _))) hb2; have k2 : w2.cell? ⟨xb, 0, none⟩ = some (ptrV p) := cell_keep hb3 c2 (by omega); have k3 := cell_keep hb3 c3 (by omega); have hz := hb3.size; have le2 : lb < w2.heap.size := (by omega); have lx2 : xb < w2.heap.size := (by omega); have HR := hid hrep; clear hrep))
        all_goals
          go_wp2
          go_roundg g
          case measure => omega
          case rel => exact ⟨StR.next HQ.out hcj b5 (stm_done h3 hb3 hp2 (by first | exact Below.refl _ _ | exact (Below.refl _ _).alloc (Nat.le_refl _) _) hgrow hat HE.out HOW.out HS.out HR.out hown4 (by first | (left; with_reducible eq_refl) | (right; with_reducible eq_refl))), by omega⟩
set_option maxRecDepth 100000 in
/-- A block, one deeper. -/
theorem block_ok {T : List Tok} {a : Nat → Addr} {p n : Nat} (hT : ∀ m, m < n → TOk T a p m) : BOk T a p (n + 1) := by
  intro d s w h hout
  have hlt := h.lt
  obtain ⟨r, hr⟩ : ∃ r, r = s.via (blockT T (n + 1) d) := ⟨_, rfl⟩
  rw [← hr] at hout ⊢
  have hr2 : r = s.via fun i => if isT T kSign [123] i then (if d = 12 then .bad 10 i else stmtsT T n (d + 1) [] (i + 1)) else .bad 1 i := by
    rw [hr]
    cases s with
    | out => rfl
    | bad c k => rfl
    | ok u i => rw [Rs.via_ok, Rs.via_ok, blockT]
  have HR := hid hr2
  have HO := hid hout
  have HTT := hid hT
  clear hr hr2 hout hT
  go_enter Tryd.func37, Tryd.ntmps37
  go_wp2_with fail
  have b0 : Below w.heap.size w ((w.alloc (.cells #[ptrV p] 58)).alloc (.cells #[.slice none 0 0] 50)) := by (repeat (first | exact Below.refl _ _ | assumption | refine Below.drew ?_ | refine Below.trans ?_ (drewN_below' _ _ _) | refine Below.setCell ?_ (by first | (simp; done) | (simp; omega)) _ | refine Below.alloc ?_ (by first | (simp; done) | (simp; omega)) _))
  have hx0 : ((w.alloc (.cells #[ptrV p] 58)).alloc (.cells #[.slice none 0 0] 50)).heap[w.heap.size]? = some (.cells #[ptrV p] 58 (0, 0)) := by
    rw [Below.heap_alloc _ _ _ (by simp)]; exact heap_alloc_new _ _
  have he0 : ((w.alloc (.cells #[ptrV p] 58)).alloc (.cells #[.slice none 0 0] 50)).heap[w.heap.size + 1]? = some (.cells #[.slice none 0 0] 50 (0, 0)) := by
    have := heap_alloc_new (w.alloc (.cells #[ptrV p] 58)) (.cells #[.slice none 0 0] 50)
    rwa [size_alloc] at this
  have hz0 : ((w.alloc (.cells #[ptrV p] 58)).alloc (.cells #[.slice none 0 0] 50)).heap.size = w.heap.size + 2 := by rw [size_alloc, size_alloc]
  generalize (w.alloc (.cells #[ptrV p] 58)).alloc (.cells #[.slice none 0 0] 50) = w0 at b0 hx0 he0 hz0 ⊢
  have hp0 := h.keep b0
  refine (inner_block (B := w.heap.size + 1) hp0 [123] w.heap.size (w.heap.size + 1) (fun i s2 w2 => s2 = (stmtsT T n (d + 1) [] (i + 1)).st ∧ ∃ cnt, Stms (w.heap.size + 1) cnt (stmtsT T n (d + 1) [] (i + 1)).list w2) (by omega) ?_ ?_).mono ?_
  · intro wi i2 hi2 hpar hd hpi hbi
    subst hi2
    have ho : stmtsT T n (d + 1) [] (i2 + 1) ≠ .out := fun e => HO.out (by rw [HR.out, Rs.via_ok, if_pos hpar, if_neg (by omega), e])
    refine (stms_any HTT.out hpi ho w.heap.size (w.heap.size + 1) (heap_keep hbi hx0 (by omega)) (stms_new (heap_keep hbi he0 (by omega))) (by omega) (by omega) (by omega)).mono ?_
    rintro e w2 ⟨rfl, g1, g2, g3⟩
    exact ⟨rfl, _, g1, g2, rfl, g3⟩
  · rintro i s2 w2 w3 ⟨rfl, cnt, g⟩ hb
    exact ⟨rfl, cnt, g.keep hb (by omega)⟩
  rintro e w5 ⟨rfl, h5⟩
  have key : ∃ cnt ss, Stms (w.heap.size + 1) cnt ss w5 ∧ PAt T a p d r.st w5 ∧ Bb p (w.heap.size + 1) w0 w5 ∧ ∀ x j, r = .ok x j → ss = some x := by
    rcases h5 with ⟨g1, g2, g3⟩ | ⟨g0, g2, g3, g4⟩ | ⟨i2, s2, g1, g2, g3, g4, g5, g6, cnt, g7⟩
    · have e : r.st = s.fail 1 ∧ ∀ x j, r ≠ .ok x j := by
        rw [HR.out]
        cases s with
        | out => exact ⟨rfl, fun _ _ h => by cases h⟩
        | bad c k => exact ⟨rfl, fun _ _ h => by cases h⟩
        | ok u i =>
          rw [sees_ok] at g1
          rw [Rs.via_ok, if_neg (by simpa using g1)]
          exact ⟨rfl, fun _ _ h => by cases h⟩
      exact ⟨0, _, stms_new (heap_keep g3 he0 (by omega)), by rw [e.1]; exact g2, g3.bb (by omega), fun x j hx => absurd hx (e.2 x j)⟩
    · have e : r.st = s.fail 10 ∧ ∀ x j, r ≠ .ok x j := by
        rw [HR.out]
        cases s with
        | out => exact ⟨rfl, fun _ _ h => by cases h⟩
        | bad c k => exact ⟨rfl, fun _ _ h => by cases h⟩
        | ok u i =>
          rw [sees_ok] at g0
          rw [Rs.via_ok, if_pos (by simpa using g0), if_pos g2]
          exact ⟨rfl, fun _ _ h => by cases h⟩
      exact ⟨0, _, stms_new (heap_keep g4 he0 (by omega)), by rw [e.1]; exact g3, g4.bb (by omega), fun x j hx => absurd hx (e.2 x j)⟩
    · subst g1
      have e : r = stmtsT T n (d + 1) [] (i2 + 1) := by rw [HR.out, Rs.via_ok, if_pos g2, if_neg (by omega)]
      exact ⟨cnt, _, g7, by rw [e, ← g6]; exact g4, g5, fun x j hx => by rw [← e, hx]; rfl⟩
  obtain ⟨cnt, ss, k1, k2, k3, k4⟩ := key
  obtain ⟨ad, nn, c, k5, k6⟩ := k1.rep (rb := w.heap.size) (by omega)
  have e50 : w5.cell? ⟨w.heap.size + 1, 0, none⟩ = some (.slice ad nn c) := cell_of_blk k5 0
  have K2 := hid k2
  have K4 := hid k4
  have K6 := hid k6
  clear k2 k4 k5 k6 k1 h5 hx0 he0
  go_wp2
  go_ret
  exact ⟨ad, nn, c, rfl, fun x j hx => K6.out x (K4.out x j hx), K2.out, Bb.base (But.of b0) k3 (by omega)⟩
end Go.Proofs.YtcebpmaggnephabDoor
