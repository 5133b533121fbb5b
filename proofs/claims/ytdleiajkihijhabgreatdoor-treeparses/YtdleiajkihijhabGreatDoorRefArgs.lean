/-
  Our own: the reference's parser: the arguments of a call; expressions whatever the bound.
-/
import Derived.Test.YtdleiajkihijhabGreatDoorRefExpr
import Derived.Maps.AppendAt
namespace Go.Proofs.YtdleiajkihijhabGreatDoor
open Go.RowKit

/-- A round of the reference's arguments. -/
def GR (T : List Tok) (q d : Nat) (w : World) (r : Rs (List Ex)) (k : Nat) (v : Value) (wr : World) : Prop :=
  ∃ (l : List Ex) (j : Nat) (xs : List Value), RAt T q d (.ok () j) wr ∧ But q w wr ∧ wr.ownsRow w.heap.size 89 4 v l.length xs ∧
    RepEs (fun b => w.heap.size ≤ b ∧ b < wr.heap.size ∧ v.ownBlock ≠ some b) wr l xs ∧ l.length ≤ j ∧ moreT T k d l j = r
theorem rx_info : (Tryz.prog.info? 89).map (fun i => (i.zero, i.size, i.bytes)) = some (some (.agg #[.string ⟨#[]⟩, .int .i64 0, .string ⟨#[]⟩, .slice none 0 0]), 4, 64) := by kernel_rfl
theorem rx_one (k : ByteArray) (n : Int) (m : ByteArray) (ad : Option Addr) (l c : Nat) : ∀ u ∈ ([.string k, .int .i64 n, .string m, .slice ad l c] : List Value), u.oneCell' = true := by
  intro u hu
  simp only [List.mem_cons, List.not_mem_nil, or_false] at hu
  rcases hu with rfl | rfl | rfl | rfl <;> rfl
/-- A list that is appended to, and what it holds. -/
theorem app_ex {T : List Tok} {q d j : Nat} {w wr w2 w7 W : World} {r1 : Rs Ex} {l : List Ex} {v v' : Value} {xs : List Value} {k : ByteArray} {n : Int} {m : ByteArray} {ad : Option Addr} {l2 c : Nat} (hlt : q < w.heap.size)
    (hb : But q w wr) (hown : wr.ownsRow w.heap.size 89 4 v l.length xs) (hes : RepEs (fun b => w.heap.size ≤ b ∧ b < wr.heap.size ∧ v.ownBlock ≠ some b) wr l xs)
    (k1 : ∀ x j, r1 = .ok x j → RepE (InB wr.heap.size w2) w2 x [.string k, .int .i64 n, .string m, .slice ad l2 c]) (k2 : RAt T q d r1.st w2) (k3 : But q wr w2) (hal : Below w2.heap.size w2 w7)
    (_hown' : W.ownsRow w.heap.size 89 4 v' (l.length + 1) (xs ++ [.string k, .int .i64 n, .string m, .slice ad l2 c])) (hgrow : w7.grownBy W v.ownBlock) (hat : v'.ownBlock = v.ownBlock ∨ v'.ownBlock = some w7.heap.size) (_hj : l.length ≤ j) :
    RAt T q d r1.st W ∧ But q w W ∧ ∀ x j, r1 = .ok x j → RepEs (fun b => w.heap.size ≤ b ∧ b < W.heap.size ∧ v'.ownBlock ≠ some b) W (l ++ [x]) (xs ++ [.string k, .int .i64 n, .string m, .slice ad l2 c]) := by
  have hv : ∀ k, v.ownBlock = some k → w.heap.size ≤ k ∧ k < wr.heap.size := fun k hk => hown.lt k hk
  have hz := hb.size
  have hz6 := k3.size
  have hz7 := hal.size
  have hz8 := hgrow.size
  have n7 : ∀ k, k < w2.heap.size → w7.heap[k]? = w2.heap[k]? := fun k hk => hal.block k hk
  have n8 : ∀ k, k < w2.heap.size → v.ownBlock ≠ some k → W.heap[k]? = w2.heap[k]? := fun k hk hne => (hgrow.block k (by omega) (fun e => hne e.symm)).trans (n7 k hk)
  refine ⟨(k2.keep hal).grown hgrow (fun k hk => by have := (hv k hk).1; omega), ⟨hgrow.os.trans (hal.os.trans (k3.os.trans hb.os)), hgrow.tape.trans (hal.tape.trans (k3.tape.trans hb.tape)), hgrow.output.trans (hal.output.trans (k3.output.trans hb.output)), by omega, fun k hk hp => ?_⟩, fun x j hr => ?_⟩
  · rw [n8 k (by omega) (fun e => by have := (hv k e).1; omega), k3.block k (by omega) hp]
    exact hb.block k hk hp
  · have hnew : ∀ b, b < w7.heap.size → v.ownBlock ≠ some b → v'.ownBlock ≠ some b := fun b hb hne e => by
      rcases hat with h | h
      · exact hne (h ▸ e)
      · rw [h] at e; injection e with e; omega
    have o1 : RepEs (fun b => w.heap.size ≤ b ∧ b < W.heap.size ∧ v'.ownBlock ≠ some b) W l xs :=
      RepEs.imp (fun b hb => ⟨hb.1, by have := hb.2.1; omega, hnew b (by have := hb.2.1; omega) hb.2.2⟩) (fun b hb => by
        rw [n8 b (by have := hb.2.1; omega) hb.2.2]
        exact k3.block b hb.2.1 (by have := hb.1; omega)) _ _ hes
    have o2 : RepE (fun b => w.heap.size ≤ b ∧ b < W.heap.size ∧ v'.ownBlock ≠ some b) W x [.string k, .int .i64 n, .string m, .slice ad l2 c] :=
      RepE.imp (fun b hb => ⟨by have := hb.1; omega, by have := hb.2; omega, hnew b (by have := hb.2; omega) (fun e => by have := (hv b e).2; have := hb.1; omega)⟩) (fun b hb => n8 b hb.2 (fun e => by have := (hv b e).2; have := hb.1; omega)) _ _ (k1 x j hr)
    exact o1.snoc o2
theorem own_but' {p B n size : Nat} {t : TypeId} {w w' : World} {v : Value} {xs : List Value} (h : w.ownsRow B t size v n xs) (hb : But p w w') (hp : p < B) : w'.ownsRow B t size v n xs := by
  rcases h with ⟨h1, h2 | ⟨g, cap, cur, h3, h4, h5, h6⟩⟩
  · exact ⟨h1, Or.inl h2⟩
  · exact ⟨h1, Or.inr ⟨g, cap, cur, h3, h4, (hb.block g (heap_lt h5) (by omega)).trans h5, h6⟩⟩
theorem new_cells2 (w : World) (o : Obj) (cs : Array Value) (t : TypeId) (j : Nat) (u : Value) (h : cs.toList[j]? = some u) : ((w.alloc o).alloc (.cells cs t)).cell? ((⟨w.heap.size + 1, 0, none⟩ : Addr).add j) = some u := by
  have := new_cells (w.alloc o) cs t j u h
  rwa [size_alloc] at this
set_option maxHeartbeats 2000000 in
set_option maxRecDepth 100000 in
theorem rargs_ok {T : List Tok} {q n : Nat} (HT : ∀ t ∈ T, t.Good) (hE : ∀ m, m < n → REOk T q m) : RGOk T q (n + 1) := by
  intro d i w h hout
  obtain ⟨i0, hi, hz0, hz1, hz2⟩ := info_parts rx_info
  have hlt := h.lt
  have hs := reat_k HT h kSign [41] rfl (Or.inl rfl) (by simp)
  rw [sees_ok, skip_ok] at hs
  by_cases hp : isT T kSign [41] i
  · rw [if_pos hp, show decide (isT T kSign [41] i) = true by simpa using hp] at hs
    have he : argsT T (n + 1) d i = .ok [] (i + 1) := by rw [argsT, if_pos hp]
    rw [he]
    go_enter Tryz.func72, Tryz.ntmps72
    go_wp2_with fail
    refine hs.mono ?_
    rintro e w2 ⟨rfl, hp2, hb2⟩
    go_wp2
    go_ret
    exact ⟨none, 0, 0, rfl, fun x j hx => by cases hx; exact ⟨[], row_nil _ _, rfl⟩, hp2, hb2⟩
  · rw [if_neg hp, show decide (isT T kSign [41] i) = false by simpa using hp] at hs
    obtain ⟨r, hr⟩ : ∃ r, r = argsT T (n + 1) d i := ⟨_, rfl⟩
    rw [← hr] at hout ⊢
    rw [argsT, if_neg hp] at hr
    have HE := hidR hE
    have HO := hidR hout
    have HR := hidR hr
    have HGT := hidR HT
    clear hE hout hr hp HT
    go_enter Tryz.func72, Tryz.ntmps72
    go_wp2_with fail
    refine hs.mono ?_
    rintro e w2 ⟨rfl, hp2, hb2⟩
    have r0 : GR T q d w r n (.slice none 0 0) w2 := ⟨[], i, [], hp2, hb2, ⟨rfl, Or.inl ⟨rfl, rfl⟩⟩, rfl, Nat.zero_le _, HR.out.symm⟩
    have R0 := hidR r0
    clear r0 hp2 hb2 hs
    go_wp2_with fail
    go_loopg [3] n (fun k v wr => GR T q d w r k v wr ∧ k ≤ n)
    case atStart => exact ⟨R0.out, Nat.le_refl _⟩
    case round =>
      obtain ⟨⟨l, j, xs, hpr, hbr, hown, hes, hlj, hrr⟩, hkn⟩ := hrel
      have hzr := hbr.size
      obtain ⟨tv, hx, hjT⟩ := hpr.at
      have hc : wr.cell? ⟨q, 3, none⟩ = some (.int .i64 0) := cell_of_blk hx 3
      have hj := hpr.few
      obtain ⟨adv, capv, rfl⟩ := tokEmpty' hown
      obtain ⟨g, rfl⟩ : ∃ g, gk = g + 1 := by
        cases gk with
        | zero => exact absurd (hrr.symm.trans (by rw [moreT])) HO.out
        | succ g => exact ⟨g, rfl⟩
      rw [moreT] at hrr
      have ho : Rs.via (.ok () j) (exprT T g d 1) ≠ .out := fun e => HO.out (by rw [← hrr, show exprT T g d 1 j = .out from e]; rfl)
      have HQ := hidR hrr
      have HES := hidR hes
      have HO2 := hidR ho
      have HPR := hidR hpr
      clear hrr hes ho hx hpr
      go_wp2_with fail
      refine (HE.out g (by omega) d 1 (.ok () j) wr (by omega) (by omega) HPR.out HO2.out).mono ?_
      rw [Rs.via_ok]
      rintro e w3 ⟨k, m, x, ad, c1, c2, rfl, k1, k2, k3⟩
      have hz3 := k3.size
      have hown3 : w3.ownsRow w.heap.size 89 4 (.slice adv l.length capv) l.length xs := own_but' hown k3 hlt
      have K1 := hidR k1
      have K2 := hidR k2
      clear k1 k2
      go_wp2_with (at_builtin; refine wpList_append_own_at _ rfl _ _ 87 rfl w.heap.size 89 i0 _ 4 64 Tryz.underlying87 hi hz0 hz1 hz2 rfl (by decide) _ l.length xs rfl ((hown3.alloc _).alloc _) ⟨w3.heap.size + 1, 0, none⟩ 1 1 [.string k, .int .i64 m, .string x, .slice ad c1 c2] rfl rfl (new_cells2 w3 _ #[.string k, .int .i64 m, .string x, .slice ad c1 c2] 89) (rx_one k m x ad c1 c2) (by unfold maxLen; omega) (by omega) (by simp; omega) ?_; intro v' w8 hown' hgrow _ hat')
      have hal : Below w3.heap.size w3 ((w3.alloc (.cells #[.string k, .int .i64 m, .string x, .slice ad c1 c2] 89)).alloc (.cells #[.string k, .int .i64 m, .string x, .slice ad c1 c2] 89)) := by (repeat (first | exact Below.refl _ _ | assumption | refine Below.drew ?_ | refine Below.trans ?_ (drewN_below' _ _ _) | refine Below.setCell ?_ (by first | (simp; done) | (simp; omega)) _ | refine Below.alloc ?_ (by first | (simp; done) | (simp; omega)) _))
      obtain ⟨o1, o2, o3⟩ := app_ex hlt hbr hown HES.out K1.out K2.out k3 hal hown' hgrow hat' hlj
      obtain ⟨ad', cap', rfl⟩ := tokEmpty' hown'
      have HOW := hidR hown'
      have hz8 := o2.size
      have hrow : Row (InB w.heap.size w8) w8 (.slice ad' (l.length + 1) cap') (l.length + 1) (xs ++ [.string k, .int .i64 m, .string x, .slice ad c1 c2]) := own_row hown' (fun g h1 h2 => ⟨h1, h2⟩)
      have HRW := hidR hrow
      clear hown' hgrow hat' hal hown hown3 hrow k3 K1 K2
      cases hq : exprT T g d 1 j with
      | out => exact absurd hq HO2.out
      | bad c0 k0 =>
        rw [hq] at o1
        have hs := reat_k HGT.out o1 kSign [44] rfl (Or.inl rfl) (by simp)
        rw [Rs.st_bad, sees_bad sign_ne, skip_bad sign_ne] at hs
        have hr9 := HQ.out
        rw [hq, Rs.bind_bad] at hr9
        have HR9 := hidR hr9
        clear o3 hr9
        refine hs.mono ?_
        rintro e w9 ⟨rfl, hp9, hb9⟩
        go_wp2_with fail
        refine (rmust_any HGT.out hp9 kSign [41] rfl (Or.inl rfl) (by simp)).mono ?_
        rintro e w10 ⟨rfl, hp10, hb10⟩
        go_wp2
        go_ret
        refine ⟨_, _, _, rfl, fun z j hz => (by rw [← HR9.out] at hz; cases hz), by rw [← HR9.out]; exact hp10, (o2.trans hb9).trans hb10⟩
      | ok x1 j1 =>
        rw [hq] at o1
        have o4 := o3 x1 j1 hq
        have hp1 := (expr_past T g).1 d 1 j x1 j1 hq
        have hs := reat_k HGT.out o1 kSign [44] rfl (Or.inl rfl) (by simp)
        rw [Rs.st_ok, sees_ok, skip_ok] at hs
        have hr9 := HQ.out
        rw [hq, Rs.bind_ok] at hr9
        have O4 := hidR o4
        clear o3 o4
        by_cases hcm : isT T kSign [44] j1
        · rw [if_pos hcm, show decide (isT T kSign [44] j1) = true by simpa using hcm] at hs
          rw [if_pos hcm] at hr9
          have HR9 := hidR hr9
          clear hr9 hcm
          refine hs.mono ?_
          rintro e w9 ⟨rfl, hp9, hb9⟩
          have r1 : GR T q d w r g (.slice ad' (l.length + 1) cap') w9 := by
            refine ⟨l ++ [x1], j1 + 1, _, hp9, o2.trans hb9, by rw [List.length_append]; exact own_but' HOW.out hb9 hlt, RepEs.imp (fun b hb => ⟨hb.1, Nat.lt_of_lt_of_le hb.2.1 hb9.size, hb.2.2⟩) (fun b hb => hb9.block b hb.2.1 (by have := hb.1; omega)) _ _ O4.out, by simp; omega, HR9.out⟩
          have R1 := hidR r1
          clear r1 hs hp9
          go_wp2
          go_roundg g
          case measure => omega
          case rel => exact ⟨R1.out, by omega⟩
        · rw [if_neg hcm, show decide (isT T kSign [44] j1) = false by simpa using hcm] at hs
          rw [if_neg hcm] at hr9
          have HR9 := hidR hr9
          clear hr9 hcm
          refine hs.mono ?_
          rintro e w9 ⟨rfl, hp9, hb9⟩
          go_wp2_with fail
          refine (rmust_any HGT.out hp9 kSign [41] rfl (Or.inl rfl) (by simp)).mono ?_
          rintro e w10 ⟨rfl, hp10, hb10⟩
          go_wp2
          go_ret
          have b10 : But q w8 w10 := hb9.trans hb10
          refine ⟨_, _, _, rfl, fun z j hz => ?_, ?_, o2.trans b10⟩
          · rw [← HR9.out] at hz
            cases hn : needT T kSign [41] j1 with
            | out => rw [hn] at hz; cases hz
            | bad c k => rw [hn] at hz; cases hz
            | ok u j2 =>
              rw [hn] at hz
              cases hz
              have hk : Kept w.heap.size w8 w10 := b10.kept (by omega)
              exact ⟨_, by rw [List.length_append]; exact HRW.out.imp (hk.inB (Nat.le_refl _)) hk.keepA, RepEs.imp (fun b hb => ⟨hb.1, Nat.lt_of_lt_of_le hb.2.1 b10.size⟩) (fun b hb => b10.block b hb.2.1 (by have := hb.1; omega)) _ _ O4.out⟩
          · rw [← HR9.out]
            have : needS T kSign [41] (.ok () j1) = ((needT T kSign [41] j1).bind fun _ j => Rs.ok (l ++ [x1]) j).st := by
              simp only [needS, Rs.bind_ok]; cases needT T kSign [41] j1 <;> rfl
            rw [← this]; exact hp10
/-- The contracts of the reference's Expr, ahead, args, whatever the bound. -/
theorem res_ok {T : List Tok} {q : Nat} (HT : ∀ t ∈ T, t.Good) : ∀ n m, m ≤ n → REOk T q m ∧ RSOk T q m ∧ RGOk T q m := by
  have e1 : REOk T q 1 := rexpr_ok (fun m hm => absurd hm (by omega)) (ahead_zero HT)
  have e0 : REOk T q 0 := fun d l s w hl hl9 h hout => by
    cases s with
    | out => exact absurd rfl hout
    | ok u i => exact absurd (by rw [Rs.via_ok, exprT]) hout
    | bad c k => exact e1 d l (.bad c k) w hl hl9 h (fun e => by cases e)
  intro n
  induction n with
  | zero => intro m hm; obtain rfl : m = 0 := by omega
            exact ⟨e0, ahead_zero HT, fun d i w h hout => absurd (by rw [argsT]) hout⟩
  | succ n ih =>
    intro m hm
    rcases Nat.lt_or_ge m (n + 1) with h | h
    · exact ih m (by omega)
    · obtain rfl : m = n + 1 := by omega
      obtain ⟨a1, a2, a3⟩ := ih n (Nat.le_refl _)
      exact ⟨rexpr_ok (fun m hm => (ih m (by omega)).1) a2, ahead_ok HT a1 a2 a3, rargs_ok HT (fun m hm => (ih m (by omega)).1)⟩
theorem reok {T : List Tok} {q : Nat} (HT : ∀ t ∈ T, t.Good) (n : Nat) : REOk T q n := (res_ok HT n n (Nat.le_refl _)).1
end Go.Proofs.YtdleiajkihijhabGreatDoor
