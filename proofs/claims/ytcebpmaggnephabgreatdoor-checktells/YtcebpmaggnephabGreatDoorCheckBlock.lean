/-
  Our own: package check: a block of statements.
-/
import Derived.Test.YtcebpmaggnephabGreatDoorCheckStmt
import Derived.Test.YtcebpmaggnephabGreatDoorCheckSize
namespace Go.Proofs.YtcebpmaggnephabGreatDoor
open Go.RowKit Go.Maps

theorem text_info : (Tryz.prog.info? 9).map (fun i => (i.zero, i.size, i.bytes)) = some (some (.string ⟨#[]⟩), 1, 16) := by kernel_rfl
theorem text_one (x : List UInt8) : ∀ u ∈ ([.string ⟨x.toArray⟩] : List Value), u.oneCell' = true := by
  intro u hu
  simp only [List.mem_cons, List.not_mem_nil, or_false] at hu
  rcases hu with rfl; rfl
theorem textsC_snoc (l : List (List UInt8)) (x : List UInt8) : textsC (l ++ [x]) = textsC l ++ [.string ⟨x.toArray⟩] := by simp [textsC]
/-- What is owned stays, whatever becomes of a block ahead of it. -/
theorem own_keep {B n size m : Nat} {t : TypeId} {w w' : World} {v : Value} {xs : List Value} (h : w.ownsRow B t size v n xs) (hb : But m w w') (hp : m < B) : w'.ownsRow B t size v n xs := by
  rcases h with ⟨h1, h2 | ⟨g, cap, cur, h3, h4, h5, h6⟩⟩
  · exact ⟨h1, Or.inl h2⟩
  · exact ⟨h1, Or.inr ⟨g, cap, cur, h3, h4, (hb.block g (heap_lt h5) (by omega)).trans h5, h6⟩⟩
theorem own_is {w : World} {B size : Nat} {t : TypeId} {v : Value} {n : Nat} {xs : List Value} (h : w.ownsRow B t size v n xs) : ∃ a cap, v = .slice a n cap := by
  rcases id h with ⟨_, ⟨rfl, rfl⟩ | ⟨g, cap, cur, rfl, _⟩⟩
  · exact ⟨_, _, rfl⟩
  · exact ⟨_, _, rfl⟩
theorem own_cell {w : World} {B cap n : Nat} {t : TypeId} {ad : Option Addr} {l : List (List UInt8)} (h : w.ownsRow B t 1 (.slice ad n cap) l.length (textsC l)) {j : Nat} (hj : j < l.length) : ∃ g, ad = some ⟨g, 0, none⟩ ∧ w.cell? ⟨g, j, none⟩ = some (.string ⟨l[j].toArray⟩) := by
  rcases id h with ⟨_, ⟨e, h0⟩ | ⟨g, cap', cur, e, _⟩⟩
  · omega
  · injection e with e1 e2 e3
    subst e1 e2 e3
    exact ⟨g, rfl, by rw [h.cellAt j (by omega)]; exact texts_get hj⟩
theorem blockC_at {F : List Fu} {all vis : List (List UInt8)} {l : List Sm} {q : Nat} (h : q < l.length) : blockC F all vis (l.drop q) = (stmtC F all vis l[q]).bind fun all => blockC F all (visC vis l[q]) (l.drop (q + 1)) := by
  rw [← List.getElem_cons_drop h, blockC_cons]
/-- What a block has declared so far. -/
structure OwnAt (all allq own : List (List UInt8)) : Prop where
  new : ∀ x ∈ own, x ∉ all
  has : ∀ x ∈ own, x ∈ allq
  old : ∀ x ∈ all, x ∈ allq
  low : ∀ x ∈ own, x.length ≤ 20
set_option maxRecDepth 100000 in
set_option maxHeartbeats 4000000 in
theorem block_list (l : List Sm) (ih : ∀ s ∈ l, StmtOk s) : BlockOk l := by
  intro w a B p f m fv F all vis v hC hall hX hl hL
  obtain ⟨xs, hr, hk⟩ := hX
  obtain ⟨ad, cap, rfl⟩ := hr.is
  obtain ⟨i0, hi, hz0, hz1, hz2⟩ := info_parts text_info
  have hl' : (l.length : Int) ≤ 30 := by omega
  have hml := hC.mlt
  have hBm := hC.hB
  have hpl := heap_lt hC.blk
  have IH := hidX ih
  have R := hidX hr
  have KK := hidX hk
  have LL := hidX hL
  have HC := hidX hC
  clear ih hr hk hL hC
  go_enter Tryz.func70, Tryz.ntmps70
  go_wp2_with fail
  go_loopw [5, 13] (fun vo vi wr => ∃ (q : Nat) (allq own : List (List UInt8)), q ≤ l.length ∧ vi = .int .i64 q ∧ But m w wr ∧ wr.ownsRow w.heap.size 9 1 vo own.length (textsC own) ∧ own.length ≤ q ∧ VarsAt wr m allq (vis ++ own) ∧ allq.length ≤ 12 ∧ Hid (OwnAt all allq own) ∧ Hid (blockC F all vis l = blockC F allq (vis ++ own) (l.drop q))) (fun _ vi _ => l.length - (intOf vi).toNat)
  case atStart => exact ⟨0, all, [], Nat.zero_le _, rfl, But.refl _ _, World.ownsRow_nil _ _ _ _, Nat.le_refl _, by rw [List.append_nil]; exact HC.out.vars, hall, ⟨by simp, by simp, fun x h => h, by simp⟩, by unfold Hid; rw [List.append_nil, List.drop_zero]⟩
  case round =>
    obtain ⟨q, allq, own, hq, rfl, hbw, hown, hol, hvr, hal, HOW, HB⟩ := hrel
    have hzw := hbw.size
    by_cases hlt : q < l.length
    · have hlt' : (q : Int) < (l.length : Int) := by omega
      obtain ⟨ka, e1, e2⟩ := KK.out.at hlt
      have hx := IH.out _ (List.getElem_mem hlt)
      have hlx := LL.out.mem _ (List.getElem_mem hlt)
      have hstep := HB.out.trans (blockC_at hlt)
      generalize l[q] = x at e1 hx hlx hstep
      have hCr : Chk wr a B p f m fv F allq (vis ++ own) := HC.out.keep hbw hvr
      have hcall : ∀ X, Below wr.heap.size wr X → Calls Tryz.prog 94 #[.pointer (some ⟨p, 0, none⟩), .agg ka.toArray] X (BlkTo a m (visC (vis ++ own) x) X (stmtC F allq (vis ++ own) x)) := fun X hX =>
        hx X a B p f m fv F allq (vis ++ own) ka (hCr.below hX) hal (XS.imp (fun _ h => h) (keepBut hBm hml (hbw.after hX)) _ _ e1) hlx
      obtain ⟨xk, xm, xe, xt, xo⟩ := x
      obtain ⟨ea, ta, tsa, oa, osa, rfl, r1, r2, r3, r4, r5⟩ := e1
      obtain ⟨ga, off, rfl, hga, g1⟩ := x8_at R.out hlt r1.len e2
      obtain ⟨adt, ct, rfl⟩ := r2.is
      obtain ⟨ado, co, rfl⟩ := r4.is
      obtain ⟨xek, xen, xem, xes⟩ := xe
      obtain ⟨ya, za, rfl, ra, _⟩ := r1
      obtain ⟨ad1, cap1, rfl⟩ := ra.is
      have hgw : ga < w.heap.size := by omega
      have k1 := g1.keep (hbw.block ga hgw (by omega))
      have a0 := k1.c0
      have a1 := k1.c1
      have a2 := k1.c2 0 _ (by decide) rfl
      have a3 := k1.c2 1 _ (by decide) rfl
      have a4 := k1.c2 2 _ (by decide) rfl
      have a5 := k1.c2 3 _ (by decide) rfl
      have a6 := k1.c6
      have a7 := k1.c7
      simp only [Nat.add_zero, Nat.reduceAdd] at a2 a3 a4 a5
      have HCL := hidX hcall
      have HST := hidX hstep
      have HOWN := hidX hown
      obtain ⟨ado2, cao2, rfl⟩ := own_is hown
      clear hcall hstep g1 k1 e2 r2 r3 r4 r5 ra hx hCr hown
      go_wp2_with fail
      refine (HCL.out _ (box_blk _ _ _)).mono ?_
      rintro e w2 ⟨hb2, h2⟩
      have hbx : But m wr w2 := ((But.refl m wr).alloc _).trans hb2
      have hbw2 : But m w w2 := hbw.trans hbx
      have bk : w2.heap[wr.heap.size]? = some (.cells #[.string ⟨xk.toArray⟩, .string ⟨xm.toArray⟩, .string ⟨xek.toArray⟩, .int .i64 xen, .string ⟨xem.toArray⟩, .slice ad1 xes.length cap1, .slice adt xt.length ct, .slice ado xo.length co] 62 (0, 0)) := (hb2.block _ (by simp) (by omega)).trans (heap_alloc_new _ _)
      have b0 : w2.cell? ⟨wr.heap.size, 0, none⟩ = some (.string ⟨xk.toArray⟩) := cell_of_blk bk 0
      have b1 : w2.cell? ⟨wr.heap.size, 1, none⟩ = some (.string ⟨xm.toArray⟩) := cell_of_blk bk 1
      have ho2 := own_keep HOWN.out hbx hml
      have z2 : wr.heap.size < w2.heap.size := heap_lt bk
      clear a0 a1 a2 a3 a4 a5 a6 a7 bk
      cases hst : stmtC F allq (vis ++ own) (.mk xk xm (.mk xek xen xem xes) xt xo) with
      | bad c =>
        rw [hst] at h2
        subst h2
        have hr2 : blockC F all vis l = .bad c := by rw [HST.out, hst]; rfl
        have hc0 : c ≠ 0 := fun e => funC_ok.stmtC_ne0 F _ _ _ (by rw [hst, e])
        rw [errV_ne a hc0]
        have HR2 := hidX hr2
        have HC0 := hidX hc0
        clear hr2 hst hc0 ho2
        go_wp2
        go_ret
        exact blk_bad HR2.out hbw2 (by rw [errV_ne a HC0.out]; rfl)
      | ok all' =>
        rw [hst] at h2
        obtain ⟨rfl, hv2⟩ := h2
        have hl2 := stmtC_len F _ _ _ _ hst hal
        have hsb := stmtC_sub hst
        have hr2 : blockC F all vis l = blockC F all' (visC (vis ++ own) (.mk xk xm (.mk xek xen xem xes) xt xo)) (l.drop (q + 1)) := by rw [HST.out, hst]; rfl
        by_cases k1 : xk = kVar
        · subst k1
          have hvc : visC (vis ++ own) (.mk kVar xm (.mk xek xen xem xes) xt xo) = vis ++ (own ++ [xm]) := by
            show (if kVar = kVar then vis ++ own ++ [xm] else vis ++ own) = _
            rw [if_pos rfl, List.append_assoc]
          rw [hvc] at hr2 hv2
          obtain ⟨_, _, hd⟩ := stmtC_ok hst
          have hdc : declC allq xm = .ok all' := by
            rcases hd with ⟨_, hd, _⟩ | ⟨h, _⟩ | ⟨h, _⟩
            · exact hd
            · exact absurd rfl h
            · exact absurd rfl h
          obtain ⟨d1, d2, _⟩ := declC_ok hdc
          have how : OwnAt all all' (own ++ [xm]) := by
            refine ⟨fun x hx => ?_, fun x hx => ?_, fun x hx => hsb x (HOW.out.old x hx), fun x hx => ?_⟩
            · rcases List.mem_append.1 hx with hx | hx
              · exact HOW.out.new x hx
              · rw [List.mem_singleton.1 hx]; exact fun h => d2 (HOW.out.old _ h)
            · rw [d1]
              rcases List.mem_append.1 hx with hx | hx
              · exact List.mem_append_left _ (HOW.out.has x hx)
              · exact List.mem_append_right _ hx
            · rcases List.mem_append.1 hx with hx | hx
              · exact HOW.out.low x hx
              · rw [List.mem_singleton.1 hx]; exact hlx.2.1
          have HR2 := hidX hr2
          have HW2 := hidX how
          have HV2 := hidX hv2
          have HO2 := hidX ho2
          clear hr2 hst how hd hdc d1 d2 hsb hvc hv2 ho2
          go_wp2_with (at_builtin; refine wpList_append_own _ rfl _ _ 46 rfl w.heap.size 9 i0 _ 1 16 Tryz.underlying46 hi hz0 hz1 hz2 rfl (by decide) _ own.length (textsC own) rfl (HO2.out.alloc _) ⟨w2.heap.size, 0, none⟩ 1 1 [.string ⟨xm.toArray⟩] rfl rfl (new_cells w2 #[.string ⟨xm.toArray⟩] 9) (text_one xm) (by unfold maxLen; omega) (by omega) (by simp; omega) ?_; intro v' w3 hown' hgrow _)
          have hb3 : Below w.heap.size w2 w3 := grown_below (W := w2) ((Below.refl _ _).alloc (by omega) _) (by omega) HO2.out hgrow
          have hbut3 : But m w w3 := ⟨hb3.os.trans hbw2.os, hb3.tape.trans hbw2.tape, hb3.output.trans hbw2.output, Nat.le_trans hbw2.size hb3.size, fun k hk hp => (hb3.block k hk).trans (hbw2.block k hk hp)⟩
          have hv3 := HV2.out.keep (hb3.block m hml)
          have ho3 : w3.ownsRow w.heap.size 9 1 v' (own ++ [xm]).length (textsC (own ++ [xm])) := by
            rw [textsC_snoc, List.length_append]; exact hown'
          have HO3 := hidX ho3
          have HV3 := hidX hv3
          clear hown' hgrow b0 b1 ho3 hv3
          go_roundw
          case rel => exact ⟨q + 1, all', own ++ [xm], by omega, by go_num, hbut3, HO3.out, by simp; omega, HV3.out, hl2, HW2.out, HR2.out⟩
          case measure => simp [intOf]; omega
        · have n1 : (xk == [118, 97, 114]) = false := ne_lit k1
          have hvc : visC (vis ++ own) (.mk xk xm (.mk xek xen xem xes) xt xo) = vis ++ own := by
            show (if xk = kVar then vis ++ own ++ [xm] else vis ++ own) = _
            rw [if_neg k1]
          rw [hvc] at hr2 hv2
          have how : OwnAt all all' own := ⟨HOW.out.new, fun x hx => hsb x (HOW.out.has x hx), fun x hx => hsb x (HOW.out.old x hx), HOW.out.low⟩
          have HR2 := hidX hr2
          have HW2 := hidX how
          have HV2 := hidX hv2
          have HO2 := hidX ho2
          clear hr2 hst how k1 hsb hvc hv2 ho2
          go_wp2
          go_roundw
          case rel => exact ⟨q + 1, all', own, by omega, by go_num, hbw2, HO2.out, by omega, HV2.out, hl2, HW2.out, HR2.out⟩
          case measure => simp [intOf]; omega
    · have hqn : q = l.length := by omega
      subst hqn
      have hres : blockC F all vis l = .ok allq := by rw [HB.out, List.drop_length, blockC]
      have HRES := hidX hres
      obtain ⟨ado, cao, rfl⟩ := own_is hown
      have hol' : (own.length : Int) ≤ 30 := by omega
      have HOWN := hidX hown
      have HVR := hidX hvr
      have hpr : wr.heap[p]? = _ := (HC.out.keep hbw hvr).blk
      have HPR := hidX hpr
      clear hres hown hvr HB hpr
      rename World => wo
      have hpm : p ≠ m := by
        rintro rfl
        obtain ⟨es, clock, hx⟩ := HVR.out.isMap
        have := HPR.out
        rw [hx] at this
        cases this
      go_wp2_with fail
      go_loopw [34] (fun vi wr => ∃ j : Nat, j ≤ own.length ∧ vi = .int .i64 j ∧ But m wo wr ∧ VarsAt wr m allq ((vis ++ own).filter (fun s => decide (s ∉ own.take j)))) (fun vi _ => own.length - (intOf vi).toNat)
      case atStart => exact ⟨0, Nat.zero_le _, rfl, But.refl _ _, HVR.out.congr (fun s => by simp)⟩
      case round =>
        obtain ⟨j, hj, rfl, hbr, hvj⟩ := hrel
        have hzr := hbr.size
        by_cases hlj : j < own.length
        · have hlj' : (j : Int) < (own.length : Int) := by omega
          obtain ⟨g, rfl, hc⟩ := own_cell (own_keep HOWN.out hbr hml) hlj
          have hlow := HOW.out.low _ (List.getElem_mem hlj)
          have hhas := HOW.out.has _ (List.getElem_mem hlj)
          have htk : own.take (j + 1) = own.take j ++ [own[j]] := List.take_succ_eq_append_getElem hlj
          generalize own[j] = x at hc hlow hhas htk
          have c2 : wr.cell? ⟨p, 3, none⟩ = some (.map (some m)) := cell_of_blk ((hbr.block p (by omega) hpm).trans HPR.out) 3
          have hkey := key_text x (by omega)
          obtain ⟨hsub, D, d1, d2, d3, d4⟩ := hvj
          have D1 := hidX d1
          have D2 := hidX d2
          have D3 := hidX d3
          have D4 := hidX d4
          have HS := hidX hsub
          have HTK := hidX htk
          have HH := hidX hhas
          clear d1 d2 d3 d4 hsub htk hhas
          go_wp2_with (first | (at_mapUpdate; refine wpList_mapUpdate_own _ rfl _ _ _ 89 rfl 9 156 law_string Tryz.underlying89 varR m allq.length D rfl D1.out (by unfold maxLen; omega) _ _ (.string x) rfl rfl hkey (.lit (.bool true)) [] (varR_mk true) ?_; intro w1 hown1 hgrow1) | go_in)
          have hv1 := VarsAt.put_end HS.out D1.out D2.out D3.out D4.out HH.out _ hown1
          have hv2 : VarsAt w1 m allq ((vis ++ own).filter (fun s => decide (s ∉ own.take (j + 1)))) := by
            refine hv1.congr fun s => ?_
            rw [HTK.out]
            simp only [List.mem_filter, List.mem_append, List.mem_singleton, decide_eq_true_eq, not_or, ne_eq]
            constructor
            · rintro ⟨h1, h2, h3⟩; exact ⟨⟨h1, h2⟩, h3⟩
            · rintro ⟨⟨h1, h2⟩, h3⟩; exact ⟨h1, h2, h3⟩
          have HV2 := hidX hv2
          have hb1 := hbr.trans (grown_but hgrow1)
          clear hv1 hv2 hown1 hgrow1 hc c2 hkey
          go_roundw
          case rel => exact ⟨j + 1, by omega, by go_num, hb1, HV2.out⟩
          case measure => simp [intOf]; omega
        · have hjn : j = own.length := by omega
          subst hjn
          have hv2 : VarsAt wr m allq vis := by
            refine hvj.congr fun s => ?_
            rw [List.take_length]
            simp only [List.mem_filter, List.mem_append, decide_eq_true_eq]
            constructor
            · intro h
              exact ⟨Or.inl h, fun ho => HOW.out.new s ho (HC.out.vars.sub s h)⟩
            · rintro ⟨h1 | h1, h2⟩
              · exact h1
              · exact absurd h1 h2
          have HV2 := hidX hv2
          clear hv2 hvj
          go_wp2
          go_ret
          exact blk_ok HRES.out (hbw.trans hbr) rfl HV2.out
mutual
theorem stmt_any : ∀ s : Sm, StmtOk s
  | .mk k m e t o => stmt_mk k m e t o (block_list t (stmts_any t)) (block_list o (stmts_any o))
theorem stmts_any : ∀ l : List Sm, ∀ s ∈ l, StmtOk s
  | [], _, h => absurd h (by simp)
  | e :: r, x, h => by
    rcases List.mem_cons.1 h with h | h
    · rw [h]; exact stmt_any e
    · exact stmts_any r x h
end
theorem block_any (l : List Sm) : BlockOk l := block_list l (stmts_any l)
end Go.Proofs.YtcebpmaggnephabGreatDoor
