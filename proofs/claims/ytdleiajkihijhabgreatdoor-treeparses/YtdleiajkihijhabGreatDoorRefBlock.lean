/-
  Our own: the reference's parser: a block of statements.
-/
import Derived.Test.YtdleiajkihijhabGreatDoorRefStmt
namespace Go.Proofs.YtdleiajkihijhabGreatDoor
open Go.RowKit

/-- A round of the reference's block. -/
def BR (T : List Tok) (q d : Nat) (w : World) (r : Rs (List Sm)) (k : Nat) (v : Value) (wr : World) : Prop :=
  ∃ (rr : Rs (List Sm)) (cnt : Nat) (xs : List Value), RAt T q d rr.st wr ∧ But q w wr ∧ wr.ownsRow w.heap.size 91 8 v cnt xs ∧
    (∀ l, rr.list = some l → l.length = cnt ∧ RepSs (fun b => w.heap.size ≤ b ∧ b < wr.heap.size ∧ v.ownBlock ≠ some b) wr l xs) ∧ (∀ l j, rr = .ok l j → cnt ≤ j) ∧ rr.bind (stmtsT T k d) = r
theorem rm_info : (Tryz.prog.info? 91).map (fun i => (i.zero, i.size, i.bytes)) = some (some (.agg #[.string ⟨#[]⟩, .string ⟨#[]⟩, .string ⟨#[]⟩, .int .i64 0, .string ⟨#[]⟩, .slice none 0 0, .slice none 0 0, .slice none 0 0]), 8, 144) := by kernel_rfl
theorem rm_one (k m ek : ByteArray) (en : Int) (em : ByteArray) (ad1 : Option Addr) (l1 c1 : Nat) (ad2 : Option Addr) (l2 c2 : Nat) (ad3 : Option Addr) (l3 c3 : Nat) : ∀ u ∈ ([.string k, .string m, .string ek, .int .i64 en, .string em, .slice ad1 l1 c1, .slice ad2 l2 c2, .slice ad3 l3 c3] : List Value), u.oneCell' = true := by
  intro u hu
  simp only [List.mem_cons, List.not_mem_nil, or_false] at hu
  rcases hu with rfl | rfl | rfl | rfl | rfl | rfl | rfl | rfl <;> rfl
theorem BR.next {T : List Tok} {q d g j cnt : Nat} {w wr w2 w7 W : World} {r : Rs (List Sm)} {l : List Sm} {v v' : Value} {xs cs : List Value} (hlt : q < w.heap.size)
    (hq : ((stmtT T g d j).bind fun s j => stmtsT T g d (l ++ [s]) j) = r) (hcj : cnt ≤ j) (hb : But q w wr) (hown : wr.ownsRow w.heap.size 91 8 v cnt xs)
    (hes : ∀ l', (Rs.ok l j).list = some l' → l'.length = cnt ∧ RepSs (fun b => w.heap.size ≤ b ∧ b < wr.heap.size ∧ v.ownBlock ≠ some b) wr l' xs)
    (k1 : ∀ x j2, stmtT T g d j = .ok x j2 → RepS (InB wr.heap.size w2) w2 x cs) (k2 : RAt T q d (stmtT T g d j).st w2) (k3 : But q wr w2) (hal : Below w2.heap.size w2 w7)
    (hown' : W.ownsRow w.heap.size 91 8 v' (cnt + 1) (xs ++ cs)) (hgrow : w7.grownBy W v.ownBlock) (hat : v'.ownBlock = v.ownBlock ∨ v'.ownBlock = some w7.heap.size) : BR T q d w r g v' W := by
  have hv : ∀ k, v.ownBlock = some k → w.heap.size ≤ k ∧ k < wr.heap.size := fun k hk => hown.lt k hk
  have hz := hb.size
  have hz6 := k3.size
  have hz7 := hal.size
  have hz8 := hgrow.size
  have n7 : ∀ k, k < w2.heap.size → w7.heap[k]? = w2.heap[k]? := fun k hk => hal.block k hk
  have n8 : ∀ k, k < w2.heap.size → v.ownBlock ≠ some k → W.heap[k]? = w2.heap[k]? := fun k hk hne => (hgrow.block k (by omega) (fun e => hne e.symm)).trans (n7 k hk)
  refine ⟨(stmtT T g d j).more l, cnt + 1, _, by rw [more_st]; exact (k2.keep hal).grown hgrow (fun k hk => by have := (hv k hk).1; omega), ⟨hgrow.os.trans (hal.os.trans (k3.os.trans hb.os)), hgrow.tape.trans (hal.tape.trans (k3.tape.trans hb.tape)), hgrow.output.trans (hal.output.trans (k3.output.trans hb.output)), by omega, fun k hk hp => ?_⟩, hown', fun l' hl' => ?_, fun l2 j2 hl => ?_, ?_⟩
  · rw [n8 k (by omega) (fun e => by have := (hv k e).1; omega), k3.block k (by omega) hp]
    exact hb.block k hk hp
  · rw [more_list] at hl'
    obtain ⟨x, j2, l0, hr, he, rfl⟩ := Rs.add_some hl'
    cases he
    obtain ⟨hl0, hr0⟩ := hes l rfl
    have hnew : ∀ b, b < w7.heap.size → v.ownBlock ≠ some b → v'.ownBlock ≠ some b := fun b hb hne e => by
      rcases hat with h | h
      · exact hne (h ▸ e)
      · rw [h] at e; injection e with e; omega
    have o1 : RepSs (fun b => w.heap.size ≤ b ∧ b < W.heap.size ∧ v'.ownBlock ≠ some b) W l xs :=
      RepSs.imp (fun b hb => ⟨hb.1, by have := hb.2.1; omega, hnew b (by have := hb.2.1; omega) hb.2.2⟩) (fun b hb => by
        rw [n8 b (by have := hb.2.1; omega) hb.2.2]
        exact k3.block b hb.2.1 (by have := hb.1; omega)) _ _ hr0
    have o2 : RepS (fun b => w.heap.size ≤ b ∧ b < W.heap.size ∧ v'.ownBlock ≠ some b) W x cs :=
      RepS.imp (fun b hb => ⟨by have := hb.1; omega, by have := hb.2; omega, hnew b (by have := hb.2; omega) (fun e => by have := (hv b e).2; have := hb.1; omega)⟩) (fun b hb => n8 b hb.2 (fun e => by have := (hv b e).2; have := hb.1; omega)) _ _ (k1 x j2 hr)
    exact ⟨by simp [hl0], o1.snoc o2⟩
  · cases hr : stmtT T g d j with
    | out => rw [hr] at hl; cases hl
    | bad c k => rw [hr] at hl; cases hl
    | ok x j' =>
      rw [hr] at hl
      cases hl
      have := (block_past T g).2.2 d j x _ hr
      omega
  · rw [← hq]; cases stmtT T g d j <;> rfl
set_option maxHeartbeats 2000000 in
set_option maxRecDepth 100000 in
theorem rblock_ok {T : List Tok} {q n : Nat} (HT : ∀ t ∈ T, t.Good) (hT : ∀ m, m < n → RTOk T q m) : RBOk T q (n + 1) := by
  intro d s w h hout
  obtain ⟨i0, hi, hz0, hz1, hz2⟩ := info_parts rm_info
  have hlt := h.lt
  obtain ⟨r, hr⟩ : ∃ r, r = s.via (blockT T (n + 1) d) := ⟨_, rfl⟩
  rw [← hr] at hout ⊢
  have hr2 : r = s.via fun i => if isT T kSign [123] i then (if d = 12 then .bad 10 i else stmtsT T n (d + 1) [] (i + 1)) else .bad 1 i := by
    rw [hr]
    cases s with
    | out => rfl
    | bad c k => rfl
    | ok u i => rw [Rs.via_ok, Rs.via_ok, blockT]
  have hn := rnext_any h kSign sign_ne
  have m1 := nextR_sees (T := T) (k := kSign) (x := [123]) (s := s) (by simp)
  obtain ⟨y, hy⟩ : ∃ y, nextR T kSign s = y := ⟨_, rfl⟩
  rw [hy] at hn m1
  have HTT := hidR hT
  have HO := hidR hout
  have HGT := hidR HT
  clear hr hout hT HT hy
  cases hs : seesB T kSign [123] s with
  | false =>
    rw [hs] at m1
    have e : r.st = s.fail 1 ∧ ∀ x j, r ≠ .ok x j := by
      rw [hr2]
      cases s with
      | out => exact ⟨rfl, fun _ _ h => by cases h⟩
      | bad c k => exact ⟨rfl, fun _ _ h => by cases h⟩
      | ok u i =>
        rw [sees_ok] at hs
        rw [Rs.via_ok, if_neg (by simpa using hs)]
        exact ⟨rfl, fun _ _ h => by cases h⟩
    have HEE := hidR e
    clear hr2 hs e
    go_enter Tryz.func22, Tryz.ntmps22
    go_wp2_with fail
    refine hn.mono ?_
    rintro e w1 ⟨rfl, hb1⟩
    have hp1 := h.keep hb1
    go_wp2_with fail
    refine (rfail_any hp1 1 (by omega)).mono ?_
    rintro e w2 ⟨rfl, hp2, hb2⟩
    go_wp2
    go_ret
    exact ⟨none, 0, 0, rfl, fun x j hx => absurd hx (HEE.out.2 x j), by rw [HEE.out.1]; exact hp2, (But.of hb1).trans hb2⟩
  | true =>
    rw [hs] at m1
    obtain rfl : y = [123] := by simpa using m1
    obtain ⟨i, rfl, hi3⟩ := nxt_tok (of_decide_eq_true hs).1 sign_ne
    rw [sees_ok] at hs
    rw [Rs.via_ok, if_pos (by simpa using hs)] at hr2
    have hi2 : (i : Int) ≤ 1000 := by have := h.few; omega
    have hd12 := h.deep
    have HI := hidR hi3
    clear hs m1 hi3
    by_cases hd : d = 12
    · subst hd
      rw [if_pos rfl] at hr2
      have HR := hidR hr2
      clear hr2
      go_enter Tryz.func22, Tryz.ntmps22
      go_wp2_with fail
      refine hn.mono ?_
      rintro e w1 ⟨rfl, hb1⟩
      have hp1 := h.keep hb1
      go_wp2_with fail
      refine (rdown_no hp1).mono ?_
      rintro e w2 ⟨rfl, hp2, hb2⟩
      go_wp2
      go_ret
      exact ⟨none, 0, 0, rfl, fun x j hx => (by rw [HR.out] at hx; cases hx), by rw [HR.out]; exact hp2, (But.of hb1).trans hb2⟩
    · rw [if_neg hd] at hr2
      have HR := hidR hr2
      clear hr2
      go_enter Tryz.func22, Tryz.ntmps22
      go_wp2_with fail
      refine hn.mono ?_
      rintro e w1 ⟨rfl, hb1⟩
      have hp1 := h.keep hb1
      go_wp2_with fail
      refine (rdown_ok hp1 (by omega)).mono ?_
      rintro e w2 ⟨rfl, hp2, hb2⟩
      have b2 : But q w w2 := (But.of hb1).trans hb2
      obtain ⟨tv, hx2, _⟩ := hp2.at
      have c2 : w2.cell? ⟨q, 1, none⟩ = some (.int .i64 i) := cell_of_blk hx2 1
      have f2 := free_of_blk hx2 1
      have hlt2 := heap_lt hx2
      have HP2 := hidR hp2
      clear hx2 hp2 hn hp1
      go_wp2_with fail
      have r0 : BR T q (d + 1) w r n (.slice none 0 0) (w2.setCell ⟨q, 1, none⟩ (.int .i64 ((i : Int) + 1))) :=
        ⟨.ok [] (i + 1), 0, [], HP2.out.step HI.out, b2.set 1 _, ⟨rfl, Or.inl ⟨rfl, rfl⟩⟩, fun l hl => by cases hl; exact ⟨rfl, rfl⟩, fun _ _ _ => Nat.zero_le _, HR.out.symm⟩
      generalize w2.setCell ⟨q, 1, none⟩ (.int .i64 ((i : Int) + 1)) = w3 at r0 ⊢
      have R0 := hidR r0
      clear r0
      go_loopg [3] n (fun k v wr => BR T q (d + 1) w r k v wr ∧ k ≤ n)
      case atStart => exact ⟨R0.out, Nat.le_refl _⟩
      case round =>
        obtain ⟨⟨rr, cnt, xs, hpr, hbr, hown, hes, hcr, hrr⟩, hkn⟩ := hrel
        have hzr := hbr.size
        obtain ⟨adv, capv, rfl⟩ := tokEmpty' hown
        have hlq := hpr.lt
        cases rr with
        | out => exact absurd hrr.symm HO.out
        | bad c0 k0 =>
          have hc : ∃ v : Int, wr.cell? ⟨q, 3, none⟩ = some (.int .i64 v) ∧ (v == 0) = false := by obtain ⟨_, _, tv, i, dd, c1, k1, hx, _, _, rfl, h0, _⟩ := hpr; exact ⟨_, cell_of_blk hx 3, by simpa using (by omega : (c0 : Int) ≠ 0)⟩
          obtain ⟨v, hc, hv⟩ := hc
          obtain ⟨dd, u1, u2, u3⟩ := hpr.up
          have HQ := hidR hrr
          have U3 := hidR u3
          clear hcr hrr hes hown hpr u3
          go_wp2
          go_ret
          exact ⟨_, _, _, rfl, fun x j hx => (by rw [← HQ.out] at hx; cases hx), by rw [← HQ.out]; exact U3.out, hbr.set 2 _⟩
        | ok l j =>
          obtain ⟨tv, hx, hjT⟩ := hpr.at
          have hc : wr.cell? ⟨q, 3, none⟩ = some (.int .i64 0) := cell_of_blk hx 3
          have hj := hpr.few
          have hcj := hcr l j rfl
          have hsr := reat_k HGT.out hpr kSign [125] rfl (Or.inl rfl) (by simp)
          rw [Rs.st_ok, sees_ok, skip_ok] at hsr
          rw [Rs.bind_ok] at hrr
          obtain ⟨g, rfl⟩ : ∃ g, gk = g + 1 := by
            cases gk with
            | zero => exact absurd (hrr.symm.trans (by rw [stmtsT])) HO.out
            | succ g => exact ⟨g, rfl⟩
          rw [stmtsT] at hrr
          by_cases hcm : isT T kSign [125] j
          · rw [if_pos hcm, show decide (isT T kSign [125] j) = true by simpa using hcm] at hsr
            rw [if_pos hcm] at hrr
            have HQ := hidR hrr
            have HES := hidR hes
            have HOW := hidR hown
            clear hcr hrr hes hown hcm hx hpr
            go_wp2_with fail
            refine hsr.mono ?_
            rintro e w5 ⟨rfl, hp5, hb5⟩
            obtain ⟨dd, u1, u2, u3⟩ := hp5.up
            have lq5 := hp5.lt
            have U3 := hidR u3
            have hown5 := own_but' HOW.out hb5 hlt
            have HO5 := hidR hown5
            clear hp5 u3 hsr hown5
            go_wp2
            go_ret
            have v2 : But q wr (w5.setCell ⟨q, 2, none⟩ (.int .i64 (wrap64 (dd - 1)))) := hb5.set 2 _
            refine ⟨_, _, _, rfl, fun x j hx => ?_, by rw [← HQ.out]; exact U3.out, hbr.trans v2⟩
            rw [← HQ.out] at hx
            cases hx
            obtain ⟨hl0, hr0⟩ := HES.out l rfl
            have hk : Kept w.heap.size wr (w5.setCell ⟨q, 2, none⟩ (.int .i64 (wrap64 (dd - 1)))) := v2.kept hlt
            refine ⟨xs, ?_, RepSs.imp (fun b hb => ⟨hb.1, Nat.lt_of_lt_of_le hb.2.1 v2.size⟩) (fun b hb => v2.block b hb.2.1 (by have := hb.1; omega)) _ _ hr0⟩
            rw [hl0]
            exact (own_row HOW.out (A := InB w.heap.size wr) (fun g h1 h2 => ⟨h1, h2⟩)).imp (hk.inB (Nat.le_refl _)) hk.keepA
          · rw [if_neg hcm, show decide (isT T kSign [125] j) = false by simpa using hcm] at hsr
            rw [if_neg hcm] at hrr
            have ho : Rs.via (.ok () j) (stmtT T g (d + 1)) ≠ .out := fun e => HO.out (by rw [← hrr, show stmtT T g (d + 1) j = .out from e]; rfl)
            have HQ := hidR hrr
            have HES := hidR hes
            have HO2 := hidR ho
            clear hcr hrr hes hcm hx hpr ho
            go_wp2_with fail
            refine hsr.mono ?_
            rintro e w5 ⟨rfl, hp5, hb5⟩
            go_wp2_with fail
            refine (HTT.out g (by omega) (d + 1) (.ok () j) w5 hp5 HO2.out).mono ?_
            rw [Rs.via_ok]
            rintro e w6 ⟨k, m, ek, en, em, ad1, l1, c1, ad2, l2, c2, ad3, l3, c3, rfl, k1, k2, k3⟩
            have hz5 := hb5.size
            have hz6 := k3.size
            have b6 : But q wr w6 := hb5.trans k3
            have hown6 := own_but' hown b6 hlt
            have k1' : ∀ x j2, stmtT T g (d + 1) j = .ok x j2 → RepS (InB wr.heap.size w6) w6 x [.string k, .string m, .string ek, .int .i64 en, .string em, .slice ad1 l1 c1, .slice ad2 l2 c2, .slice ad3 l3 c3] := fun x j2 hx => RepS.imp (fun b hb => ⟨by have := hb.1; omega, hb.2⟩) (fun _ _ => rfl) _ _ (k1 x j2 hx)
            have K1 := hidR k1'
            have K2 := hidR k2
            clear k1 k2 k1' hsr hp5
            go_wp2_with (at_builtin; refine wpList_append_own_at _ rfl _ _ 68 rfl w.heap.size 91 i0 _ 8 144 Tryz.underlying68 hi hz0 hz1 hz2 rfl (by decide) _ cnt xs rfl ((hown6.alloc _).alloc _) ⟨w6.heap.size + 1, 0, none⟩ 1 1 [.string k, .string m, .string ek, .int .i64 en, .string em, .slice ad1 l1 c1, .slice ad2 l2 c2, .slice ad3 l3 c3] rfl rfl (new_cells2 w6 _ #[.string k, .string m, .string ek, .int .i64 en, .string em, .slice ad1 l1 c1, .slice ad2 l2 c2, .slice ad3 l3 c3] 91) (rm_one k m ek en em ad1 l1 c1 ad2 l2 c2 ad3 l3 c3) (by unfold maxLen; omega) (by omega) (by simp; omega) ?_; intro v' w8 hown' hgrow _ hat')
            have hal : Below w6.heap.size w6 ((w6.alloc (.cells #[.string k, .string m, .string ek, .int .i64 en, .string em, .slice ad1 l1 c1, .slice ad2 l2 c2, .slice ad3 l3 c3] 91)).alloc (.cells #[.string k, .string m, .string ek, .int .i64 en, .string em, .slice ad1 l1 c1, .slice ad2 l2 c2, .slice ad3 l3 c3] 91)) := by (repeat (first | exact Below.refl _ _ | assumption | refine Below.drew ?_ | refine Below.trans ?_ (drewN_below' _ _ _) | refine Below.setCell ?_ (by first | (simp; done) | (simp; omega)) _ | refine Below.alloc ?_ (by first | (simp; done) | (simp; omega)) _))
            have R1 := hidR (BR.next hlt HQ.out hcj hbr hown HES.out K1.out K2.out b6 hal hown' hgrow hat')
            clear hown' hgrow hat' hown6 hown
            go_roundg g
            case measure => omega
            case rel => exact ⟨R1.out, by omega⟩
/-- The contracts of the reference's block and stmt, whatever the bound. -/
theorem rbt_ok {T : List Tok} {q : Nat} (HT : ∀ t ∈ T, t.Good) : ∀ n m, m ≤ n → RBOk T q m ∧ RTOk T q m := by
  have b1 : RBOk T q 1 := rblock_ok HT (fun m hm => absurd hm (by omega))
  have b0 : RBOk T q 0 := fun d s w h hout => by
    cases s with
    | out => exact absurd rfl hout
    | ok u i => exact absurd (by rw [Rs.via_ok, blockT]) hout
    | bad c k => exact b1 d (.bad c k) w h (fun e => by cases e)
  have t1 : RTOk T q 1 := rstmt_ok HT (reok HT 0) b0
  have t0 : RTOk T q 0 := fun d s w h hout => by
    cases s with
    | out => exact absurd rfl hout
    | ok u i => exact absurd (by rw [Rs.via_ok, stmtT]) hout
    | bad c k => exact t1 d (.bad c k) w h (fun e => by cases e)
  intro n
  induction n with
  | zero => intro m hm; obtain rfl : m = 0 := by omega
            exact ⟨b0, t0⟩
  | succ n ih =>
    intro m hm
    rcases Nat.lt_or_ge m (n + 1) with h | h
    · exact ih m (by omega)
    · obtain rfl : m = n + 1 := by omega
      exact ⟨rblock_ok HT (fun m hm => (ih m (by omega)).2), rstmt_ok HT (reok HT n) (ih n (Nat.le_refl _)).1⟩
theorem rbok {T : List Tok} {q : Nat} (HT : ∀ t ∈ T, t.Good) (n : Nat) : RBOk T q n := (rbt_ok HT n n (Nat.le_refl _)).1
end Go.Proofs.YtdleiajkihijhabGreatDoor
