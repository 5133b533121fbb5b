/-
  Our own: package tree's Parse, at any tokens.
-/
import Derived.Test.YtcebpmaggnephabDoorTreeFun
import Derived.Maps.AppendAt
namespace Go.Proofs.YtcebpmaggnephabDoor
open Go.RowKit

/-- A round of Parse's loop: what has been read, and what is left to read. -/
def PrR (T : List Tok) (a : Nat → Addr) (p : Nat) (w : World) (k : Nat) (v : Value) (wr : World) : Prop :=
  ∃ (rr : Rs (List Fu)) (cnt : Nat) (xs : List Value), PAt T a p 0 rr.st wr ∧ Below p w wr ∧ wr.ownsRow (p + 1) 52 3 v cnt xs ∧
    (∀ l, rr.list = some l → l.length = cnt ∧ RepFs (fun b => p < b ∧ b < wr.heap.size ∧ v.ownBlock ≠ some b) wr l xs) ∧ (∀ l j, rr = .ok l j → cnt ≤ j) ∧ rr.bind (funsT T k) = parseT T
/-- What Parse leaves. -/
def ParTo (T : List Tok) (a : Nat → Addr) (w : World) (e : Ending) (w' : World) : Prop :=
  Below w.heap.size w w' ∧ match parseT T with
  | .out => False
  | .bad c k => ∃ b, e = .returned (.tuple #[.slice none 0 0, faultV b]) ∧ w.heap.size < b ∧ w'.heap[b]? = some (.cells #[.int .i64 k, sentV (a (c - 1))] 48 (0, 0))
  | .ok P _ => ∃ ad n c xs, e = .returned (.tuple #[.slice ad n c, .nilIface]) ∧ Row (InB w.heap.size w') w' (.slice ad n c) P.length xs ∧ RepFs (InB w.heap.size w') w' P xs
theorem fu_info : (Tryd.prog.info? 52).map (fun i => (i.zero, i.size, i.bytes)) = some (some (.agg #[.string ⟨#[]⟩, .slice none 0 0, .slice none 0 0]), 3, 64) := by kernel_rfl
theorem fu_one (nm : ByteArray) (ad1 : Option Addr) (l1 c1 : Nat) (ad2 : Option Addr) (l2 c2 : Nat) : ∀ u ∈ ([.string nm, .slice ad1 l1 c1, .slice ad2 l2 c2] : List Value), u.oneCell' = true := by
  intro u hu
  simp only [List.mem_cons, List.not_mem_nil, or_false] at hu
  rcases hu with rfl | rfl | rfl <;> rfl
theorem Below.toBut {p : Nat} {a w w' : World} (h : Below p a w) (k : But p w w') (hp : p ≤ a.heap.size) : Below p a w' :=
  ⟨k.os.trans h.os, k.tape.trans h.tape, k.output.trans h.output, Nat.le_trans h.size k.size, fun i hi => (k.block i (by have := h.size; omega) (by omega)).trans (h.block i hi)⟩
theorem PrR.next {T : List Tok} {a : Nat → Addr} {p g j cnt : Nat} {w wr w6 w7 W : World} {l : List Fu} {v v' : Value} {xs : List Value} {nm : ByteArray} {ad1 : Option Addr} {l1 c1 : Nat} {ad2 : Option Addr} {l2 c2 : Nat} (_hpw : p ≤ w.heap.size) (hpr : p < wr.heap.size)
    (hq : ((funT T g j).bind fun f j => funsT T g (l ++ [f]) j) = parseT T) (hcj : cnt ≤ j) (hbl : Below p w wr) (hown : wr.ownsRow (p + 1) 52 3 v cnt xs)
    (hes : ∀ l', (Rs.ok l j).list = some l' → l'.length = cnt ∧ RepFs (fun b => p < b ∧ b < wr.heap.size ∧ v.ownBlock ≠ some b) wr l' xs)
    (k1 : ∀ x j2, funT T g j = .ok x j2 → RepF (InB wr.heap.size w6) w6 x [.string nm, .slice ad1 l1 c1, .slice ad2 l2 c2]) (k2 : PAt T a p 0 (funT T g j).st w6) (k3 : But p wr w6) (hal : Below w6.heap.size w6 w7)
    (hown' : W.ownsRow (p + 1) 52 3 v' (cnt + 1) (xs ++ [.string nm, .slice ad1 l1 c1, .slice ad2 l2 c2])) (hgrow : w7.grownBy W v.ownBlock) (hat : v'.ownBlock = v.ownBlock ∨ v'.ownBlock = some w7.heap.size) : PrR T a p w g v' W := by
  have hv : ∀ k, v.ownBlock = some k → p < k ∧ k < wr.heap.size := fun k hk => hown.lt k hk
  have hz6 := k3.size
  have hz7 := hal.size
  have hz8 := hgrow.size
  have n7 : ∀ k, k < w6.heap.size → w7.heap[k]? = w6.heap[k]? := fun k hk => hal.block k hk
  have n8 : ∀ k, k < w6.heap.size → v.ownBlock ≠ some k → W.heap[k]? = w6.heap[k]? := fun k hk hne => (hgrow.block k (by omega) (fun e => hne e.symm)).trans (n7 k hk)
  have hpW : PAt T a p 0 (funT T g j).st W := (k2.keep hal).grown hgrow (fun k hk => ⟨(hv k hk).1, (own_far hown (by decide) hk).of ((n7 k (by have := (hv k hk).2; omega)).trans (k3.block k (hv k hk).2 (by have := (hv k hk).1; omega)))⟩)
  refine ⟨(funT T g j).more l, cnt + 1, _, by rw [more_st]; exact hpW, ⟨hgrow.os.trans (hal.os.trans (k3.os.trans hbl.os)), hgrow.tape.trans (hal.tape.trans (k3.tape.trans hbl.tape)), hgrow.output.trans (hal.output.trans (k3.output.trans hbl.output)), by have := hbl.size; omega, fun k hk => ?_⟩, hown', fun l' hl' => ?_, fun l2 j2 hl => ?_, ?_⟩
  · have hkz : k < wr.heap.size := by have := hbl.size; omega
    rw [n8 k (by omega) (fun e => by have := (hv k e).1; omega), k3.block k hkz (by omega)]
    exact hbl.block k hk
  · rw [more_list] at hl'
    obtain ⟨x, j2, l0, hr, he, rfl⟩ := Rs.add_some hl'
    cases he
    obtain ⟨hl0, hr0⟩ := hes l rfl
    have hnew : ∀ b, b < w7.heap.size → v.ownBlock ≠ some b → v'.ownBlock ≠ some b := fun b hb hne e => by
      rcases hat with h | h
      · exact hne (h ▸ e)
      · rw [h] at e; injection e with e; omega
    have o1 : RepFs (fun b => p < b ∧ b < W.heap.size ∧ v'.ownBlock ≠ some b) W l xs :=
      RepFs.imp (fun b hb => ⟨hb.1, by have := hb.2.1; omega, hnew b (by have := hb.2.1; omega) hb.2.2⟩) (fun b hb => by
        rw [n8 b (by have := hb.2.1; omega) hb.2.2]
        exact k3.block b hb.2.1 (by have := hb.1; omega)) _ _ hr0
    have o2 : RepF (fun b => p < b ∧ b < W.heap.size ∧ v'.ownBlock ≠ some b) W x [.string nm, .slice ad1 l1 c1, .slice ad2 l2 c2] :=
      RepF.imp (fun b hb => ⟨by have := hb.1; have := hbl.size; omega, by have := hb.2; omega, hnew b (by have := hb.2; omega) (fun e => by have := (hv b e).2; have := hb.1; omega)⟩) (fun b hb => n8 b hb.2 (fun e => by have := (hv b e).2; have := hb.1; omega)) _ _ (k1 x j2 hr)
    exact ⟨by simp [hl0], o1.snoc o2⟩
  · cases hr : funT T g j with
    | out => rw [hr] at hl; cases hl
    | bad c k => rw [hr] at hl; cases hl
    | ok x j' =>
      rw [hr] at hl
      cases hl
      have := fun_past hr
      omega
  · rw [← hq]; cases funT T g j <;> rfl
set_option maxHeartbeats 2000000 in
set_option maxRecDepth 100000 in
theorem parse_any {T : List Tok} {a : Nat → Addr} {w : World} {tv : Value} (HT : ∀ t ∈ T, t.Good) (hf : T.length ≤ 1000) (hg : TreeG w a w.heap.size) (ht : ToksV w tv T w.heap.size) :
    Calls Tryd.prog 10 #[tv] w (ParTo T a w) := by
  obtain ⟨i0, hi, hz0, hz1, hz2⟩ := info_parts fu_info
  have hpt := parse_to T hf
  have hout : parseT T ≠ .out := fun e => by rw [e] at hpt; exact hpt
  obtain ⟨ad, cap, rfl, htv⟩ := id ht
  have b0 : Below w.heap.size w (w.alloc (.cells #[.slice ad T.length cap, .int .i64 0, .int .i64 0, .nilIface] 60)) := by (repeat (first | exact Below.refl _ _ | assumption | refine Below.drew ?_ | refine Below.trans ?_ (drewN_below' _ _ _) | refine Below.setCell ?_ (by first | (simp; done) | (simp; omega)) _ | refine Below.alloc ?_ (by first | (simp; done) | (simp; omega)) _))
  have hp0 : PAt T a w.heap.size 0 (.ok () 0) (w.alloc (.cells #[.slice ad T.length cap, .int .i64 0, .int .i64 0, .nilIface] 60)) := by
    refine ⟨hf, by omega, ⟨cell_keep (But.of (p := w.heap.size) b0) hg.text (Nat.ne_of_lt hg.nt), cell_keep (But.of (p := w.heap.size) b0) hg.deep (Nat.ne_of_lt hg.nd), hg.nt, hg.nd⟩, _, 0, _, heap_alloc_new _ _, Nat.zero_le _, ?_, rfl, rfl⟩
    refine ⟨ad, cap, rfl, fun hn => ?_⟩
    obtain ⟨g, off, rfl, hgp, hT⟩ := htv hn
    exact ⟨g, off, rfl, hgp, hT.of (b0.block g hgp)⟩
  have r0 : PrR T a w.heap.size w 4020 (.slice none 0 0) (w.alloc (.cells #[.slice ad T.length cap, .int .i64 0, .int .i64 0, .nilIface] 60)) :=
    ⟨.ok [] 0, 0, [], hp0, b0, ⟨rfl, Or.inl ⟨rfl, rfl⟩⟩, fun l hl => by cases hl; exact ⟨rfl, rfl⟩, fun _ _ _ => Nat.zero_le _, rfl⟩
  have hfl : (T.length : Int) ≤ 1000 := by omega
  have R0 := hid r0
  have HO := hid hout
  have HG := hid HT
  have HPT := hid hpt
  clear r0 hp0 b0 hout HT ht htv hg hpt
  go_enter Tryd.func10, Tryd.ntmps10
  go_wp2_with fail
  go_loopg [5] 4020 (fun k v wr => PrR T a w.heap.size w k v wr)
  case atStart => exact R0.out
  case round =>
    obtain ⟨rr, cnt, xs, hpr, hbl, hown, hes, hcr, hrr⟩ := hrel
    have hzr := hbl.size
    have hltp := hpr.lt
    obtain ⟨adv, capv, rfl⟩ := tokEmpty' hown
    cases rr with
    | out => exact absurd hrr.symm HO.out
    | bad c k =>
      have hev : ∃ b, wr.cell? ⟨w.heap.size, 3, none⟩ = some (faultV b) ∧ w.heap.size < b ∧ wr.heap[b]? = some (.cells #[.int .i64 k, sentV (a (c - 1))] 48 (0, 0)) := by
        obtain ⟨_, _, _, tv, i, ev, hx, _, _, b, rfl, hb, hy⟩ := hpr; exact ⟨b, cell_of_blk hx 3, hb, hy⟩
      obtain ⟨b, hev, hb, hy⟩ := hev
      have HQ := hid hrr
      have HY := hid hy
      clear hcr hrr hes hown hy
      go_wp2
      go_region
      go_wp2
      all_goals go_ret2
      all_goals
        refine ⟨by first | exact hbl | exact hbl.drew, ?_⟩
        rw [← HQ.out]
        exact ⟨b, rfl, hb, HY.out⟩
    | ok l j =>
      have hev : wr.cell? ⟨w.heap.size, 3, none⟩ = some .nilIface ∧ wr.cell? ⟨w.heap.size, 1, none⟩ = some (.int .i64 j) := by
        obtain ⟨_, _, _, tv, i, ev, hx, _, _, rfl, rfl⟩ := hpr; exact ⟨cell_of_blk hx 3, cell_of_blk hx 1⟩
      obtain ⟨hev, hat⟩ := hev
      have hcj := hcr l j rfl
      have hj := PAt.le hpr
      rw [Rs.bind_ok] at hrr
      obtain ⟨g, rfl⟩ : ∃ g, gk = g + 1 := by
        cases gk with
        | zero => exact absurd (hrr.symm.trans (by rw [funsT])) HO.out
        | succ g => exact ⟨g, rfl⟩
      rw [funsT] at hrr
      by_cases hjl : j < T.length
      · rw [if_pos hjl] at hrr
        have ho : Rs.via (.ok () j) (funT T g) ≠ .out := fun e => HO.out (by rw [← hrr, show funT T g j = .out from e]; rfl)
        have hjl2 : (j : Int) < T.length := by omega
        have HQ := hid hrr
        have HES := hid hes
        have HO2 := hid ho
        clear hcr hrr hes ho
        go_wp2_with fail
        refine (fun_any (n := g) HG.out hpr HO2.out).mono ?_
        rw [Rs.st_ok, Rs.via_ok]
        rintro e w6 ⟨nm, ad1, l1, c1, ad2, l2, c2, rfl, k1, k2, k3⟩
        have hz6 := k3.size
        have hown6 := own_but hown k3 (Nat.le_refl _)
        have K1 := hid k1
        have K2 := hid k2
        clear k1 k2
        go_wp2_with (at_builtin; refine wpList_append_own_at _ rfl _ _ 31 rfl (w.heap.size + 1) 52 i0 _ 3 64 Tryd.underlying31 hi hz0 hz1 hz2 rfl (by decide) _ cnt xs rfl (hown6.alloc _) ⟨w6.heap.size, 0, none⟩ 1 1 [.string nm, .slice ad1 l1 c1, .slice ad2 l2 c2] rfl rfl (new_cells w6 #[.string nm, .slice ad1 l1 c1, .slice ad2 l2 c2] 52) (fu_one nm ad1 l1 c1 ad2 l2 c2) (by unfold maxLen; omega) (by omega) (by simp; omega) ?_; intro v' w8 hown' hgrow _ hat')
        have hal : Below w6.heap.size w6 (w6.alloc (.cells #[.string nm, .slice ad1 l1 c1, .slice ad2 l2 c2] 52)) := by (repeat (first | exact Below.refl _ _ | assumption | refine Below.drew ?_ | refine Below.trans ?_ (drewN_below' _ _ _) | refine Below.setCell ?_ (by first | (simp; done) | (simp; omega)) _ | refine Below.alloc ?_ (by first | (simp; done) | (simp; omega)) _))
        have R1 := hid (PrR.next (Nat.le_refl _) hltp HQ.out hcj hbl hown HES.out K1.out K2.out k3 hal hown' hgrow hat')
        clear hown' hgrow hat' hown6
        go_roundg g
        case measure => omega
        case rel => exact R1.out
      · rw [if_neg hjl] at hrr
        have hjl2 : ¬ (j : Int) < T.length := by omega
        have HQ := hid hrr
        have HES := hid hes
        have HOW := hid hown
        clear hcr hrr hes hown
        go_wp2
        go_ret2
        refine ⟨hbl, ?_⟩
        rw [← HQ.out]
        obtain ⟨hl0, hr0⟩ := HES.out l rfl
        refine ⟨adv, cnt, capv, xs, rfl, ?_, RepFs.imp (fun b hb => ⟨by have := hb.1; omega, hb.2.1⟩) (fun _ _ => rfl) _ _ hr0⟩
        rw [hl0]
        exact own_row HOW.out (fun g hg hz => ⟨by omega, hz⟩)
end Go.Proofs.YtcebpmaggnephabDoor
