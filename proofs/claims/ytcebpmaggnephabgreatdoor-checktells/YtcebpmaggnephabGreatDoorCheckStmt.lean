/-
  Our own: package check: a statement, a block of them.
-/
import Derived.Test.YtcebpmaggnephabGreatDoorCheckExpr
namespace Go.Proofs.YtcebpmaggnephabGreatDoor
open Go.RowKit Go.Maps

theorem declC_len {all b : List (List UInt8)} {m : List UInt8} (h : declC all m = .ok b) (hl : all.length ≤ 12) : b.length ≤ 12 := by
  obtain ⟨rfl, _, h2⟩ := declC_ok h; simp; omega
mutual
theorem stmtC_len (F : List Fu) : ∀ (s : Sm) (all vis b : List (List UInt8)), stmtC F all vis s = .ok b → all.length ≤ 12 → b.length ≤ 12
  | .mk k m e t o, all, vis, b, h, hl => by
    obtain ⟨_, _, h3⟩ := stmtC_ok h
    rcases h3 with ⟨_, hd, _, _⟩ | ⟨_, _, _, hb, _, _⟩ | ⟨_, _, a, ha, hb⟩
    · exact declC_len hd hl
    · rw [hb]; exact hl
    · exact blockC_len F o a vis b hb (blockC_len F t all vis a ha hl)
theorem blockC_len (F : List Fu) : ∀ (l : List Sm) (all vis b : List (List UInt8)), blockC F all vis l = .ok b → all.length ≤ 12 → b.length ≤ 12
  | [], all, vis, b, h, hl => by rw [blockC] at h; cases h; exact hl
  | s :: r, all, vis, b, h, hl => by
    rw [blockC_cons] at h
    obtain ⟨a, h1, h2⟩ := bind_ok h
    exact blockC_len F r a _ b h2 (stmtC_len F s all vis a h1 hl)
end
theorem stmtC_sub {F : List Fu} {s : Sm} {all vis b : List (List UInt8)} (h : stmtC F all vis s = .ok b) : ∀ x ∈ all, x ∈ b := by
  rw [(stmt_vars F s all vis b h).1]; intro x hx; exact List.mem_append_left _ hx
/-- What a statement or a block comes to. -/
def BlkTo (a : Nat → Addr) (m : Nat) (vis : List (List UInt8)) (w : World) (r : Cs) (e : Ending) (w' : World) : Prop :=
  But m w w' ∧ match r with
    | .bad c => e = .returned (errV a c)
    | .ok all' => e = .returned .nilIface ∧ VarsAt w' m all' vis
def BlockOk (l : List Sm) : Prop := ∀ (w : World) (a : Nat → Addr) (B p f m : Nat) (fv : Value) (F : List Fu) (all vis : List (List UInt8)) (v : Value), Chk w a B p f m fv F all vis → all.length ≤ 12 → XLS (fun b => b < B) w v l → l.length ≤ 30 → LowSs l →
  Calls Tryz.prog 70 #[.pointer (some ⟨p, 0, none⟩), v] w (BlkTo a m vis w (blockC F all vis l))
def StmtOk (s : Sm) : Prop := ∀ (w : World) (a : Nat → Addr) (B p f m : Nat) (fv : Value) (F : List Fu) (all vis : List (List UInt8)) (cs : List Value), Chk w a B p f m fv F all vis → all.length ≤ 12 → XS (fun b => b < B) w s cs → LowS s →
  Calls Tryz.prog 94 #[.pointer (some ⟨p, 0, none⟩), .agg cs.toArray] w (BlkTo a m (visC vis s) w (stmtC F all vis s))
theorem blk_bad {a : Nat → Addr} {m : Nat} {vis : List (List UInt8)} {w w' : World} {r : Cs} {e : Ending} {c : Nat} (hr : r = .bad c) (hb : But m w w') (he : e = .returned (errV a c)) : BlkTo a m vis w r e w' := by
  subst hr; exact ⟨hb, he⟩
theorem blk_ok {a : Nat → Addr} {m : Nat} {vis : List (List UInt8)} {w w' : World} {r : Cs} {e : Ending} {all' : List (List UInt8)} (hr : r = .ok all') (hb : But m w w') (he : e = .returned .nilIface) (hv : VarsAt w' m all' vis) : BlkTo a m vis w r e w' := by
  subst hr; exact ⟨hb, he, hv⟩
theorem But.after {m : Nat} {w w1 w2 : World} (h : But m w w1) (hb : Below w1.heap.size w1 w2) : But m w w2 := h.trans (But.of hb)
set_option maxRecDepth 100000 in
set_option maxHeartbeats 2000000 in
theorem stmt_mk (k nm : List UInt8) (e : Ex) (t o : List Sm) (iht : BlockOk t) (iho : BlockOk o) : StmtOk (.mk k nm e t o) := by
  intro w a B p f m fv F all vis cs hC hall hX hL
  obtain ⟨es, tv, ts, ov, os, rfl, he, ht, hts, ho, hos⟩ := hX
  obtain ⟨l1, l2, l3, l4, l5, l6, l7⟩ := hL
  have hexpr := fun X (hX : Chk X a B p f m fv F all vis) (hb : Below w.heap.size w X) => expr_any e X a B p f m fv F all vis es hX (XE.imp (fun _ h => h) (fun b (h : b < B) => hb.block b (by have := hC.hB; have := hC.mlt; omega)) _ _ he) l3
  have hT : ∀ X all', Chk X a B p f m fv F all' vis → all'.length ≤ 12 → But m w X → Calls Tryz.prog 70 #[.pointer (some ⟨p, 0, none⟩), tv] X (BlkTo a m vis X (blockC F all' vis t)) := fun X all' h1 h2 h3 =>
    iht X a B p f m fv F all' vis tv h1 h2 ⟨ts, ht.imp (fun _ h => h) (keepBut hC.hB hC.mlt h3), XSs.imp (fun _ h => h) (keepBut hC.hB hC.mlt h3) _ _ hts⟩ l4 l5
  have hO : ∀ X all', Chk X a B p f m fv F all' vis → all'.length ≤ 12 → But m w X → Calls Tryz.prog 70 #[.pointer (some ⟨p, 0, none⟩), ov] X (BlkTo a m vis X (blockC F all' vis o)) := fun X all' h1 h2 h3 =>
    iho X a B p f m fv F all' vis ov h1 h2 ⟨os, ho.imp (fun _ h => h) (keepBut hC.hB hC.mlt h3), XSs.imp (fun _ h => h) (keepBut hC.hB hC.mlt h3) _ _ hos⟩ l6 l7
  obtain ⟨adt, ct, rfl⟩ := ht.is
  obtain ⟨ado, co, rfl⟩ := ho.is
  have hec : exprC F vis e = exprC F vis e := rfl
  generalize hEC : exprC F vis e = ec at hexpr
  have HEC := hidX hEC
  clear hEC hec
  obtain ⟨ek, en, em, eks⟩ := e
  obtain ⟨ev, exs, rfl, her, _⟩ := he
  obtain ⟨ade, cae, rfl⟩ := her.is
  have hb0 := box_blk w #[.string ⟨k.toArray⟩, .string ⟨nm.toArray⟩, .string ⟨ek.toArray⟩, .int .i64 en, .string ⟨em.toArray⟩, .slice ade eks.length cae, .slice adt t.length ct, .slice ado o.length co] 62
  have his := isStmt_any a k nm (.string ⟨ek.toArray⟩) (.int .i64 en) (.string ⟨em.toArray⟩) (.slice ade eks.length cae) adt ado t.length o.length ct co (by omega) (by omega) (by omega) _ (hC.s.below hb0).lexG
  have hml := hC.mlt
  have HIS := hidX his
  have HC := hidX hC
  have HX := hidX hexpr
  have HT := hidX hT
  have HO := hidX hO
  clear hexpr hT hO iht iho ht hts ho hos her l3 l5 l7 his hC
  go_enter Tryz.func94, Tryz.ntmps94
  go_wp2_with fail
  refine HIS.out.mono ?_
  rintro e1 w1 ⟨rfl, hb1⟩
  have z1 : w.heap.size < w1.heap.size := by have := hb1.size; simp at this; omega
  have hb01 : Below w.heap.size w w1 := bl_trans hb0 hb0.size hb1
  have bk : w1.heap[w.heap.size]? = some (.cells #[.string ⟨k.toArray⟩, .string ⟨nm.toArray⟩, .string ⟨ek.toArray⟩, .int .i64 en, .string ⟨em.toArray⟩, .slice ade eks.length cae, .slice adt t.length ct, .slice ado o.length co] 62 (0, 0)) := (hb1.block _ (by simp)).trans (heap_alloc_new _ _)
  have BK := hidX bk
  have hg := shape_glob (HC.out.s.below hb01)
  have d2 : w1.cell? ⟨w.heap.size, 2, none⟩ = some (.string ⟨ek.toArray⟩) := cell_of_blk bk 2
  have d3 : w1.cell? ⟨w.heap.size, 3, none⟩ = some (.int .i64 en) := cell_of_blk bk 3
  have d4 : w1.cell? ⟨w.heap.size, 4, none⟩ = some (.string ⟨em.toArray⟩) := cell_of_blk bk 4
  have d5 : w1.cell? ⟨w.heap.size, 5, none⟩ = some (.slice ade eks.length cae) := cell_of_blk bk 5
  clear bk hb1 HIS
  cases hsh : shapeS k nm t.length o.length with
  | false =>
    have he : stmtC F all vis (.mk k nm (.mk ek en em eks) t o) = .bad 3 := by rw [stmtC, if_pos hsh]
    have HR := hidX he
    clear he hsh
    go_wp2
    go_ret
    exact blk_bad HR.out (But.of hb01) rfl
  | true =>
    have HSH := hidX hsh
    clear hsh
    go_wp2_with fail
    refine (HX.out w1 (HC.out.below hb01) hb01).mono ?_
    rintro e1 w2 ⟨rfl, hb2⟩
    have hb02 : Below w.heap.size w w2 := bl_trans hb01 hb01.size hb2
    have bk2 := (hb2.block _ z1).trans BK.out
    have e0 : w2.cell? ⟨w.heap.size, 0, none⟩ = some (.string ⟨k.toArray⟩) := cell_of_blk bk2 0
    have e1 : w2.cell? ⟨w.heap.size, 1, none⟩ = some (.string ⟨nm.toArray⟩) := cell_of_blk bk2 1
    have e6 : w2.cell? ⟨w.heap.size, 6, none⟩ = some (.slice adt t.length ct) := cell_of_blk bk2 6
    have hC2 := HC.out.below hb02
    have HC2 := hidX hC2
    have BK2 := hidX bk2
    have z2 := hb2.size
    clear d2 d3 d4 d5 bk2 BK hg
    by_cases hc : ec = 0
    · subst hc
      rw [errV_zero]
      have hst : stmtC F all vis (.mk k nm (.mk ek en em eks) t o) = if k = kVar then declC all nm else if k = kSet then (if nm ∈ vis then .ok all else .bad 6) else (blockC F all vis t).bind fun all => blockC F all vis o := by
        rw [stmtC, if_neg (by rw [HSH.out]; simp), HEC.out, if_neg (by simp)]
      have hvs : visC vis (.mk k nm (.mk ek en em eks) t o) = if k = kVar then vis ++ [nm] else vis := rfl
      by_cases k1 : k = kVar
      · subst k1
        rw [if_pos rfl] at hst hvs
        have hd := declare_any hC2 hall nm (by omega)
        have HR := hidX hst
        have HV := hidX hvs
        have HD := hidX hd
        clear hst hvs hd hC2
        go_wp2_with fail
        refine HD.out.mono ?_
        rintro e w3 ⟨hb3, h3⟩
        cases hdc : declC all nm with
        | bad c =>
          rw [hdc] at h3
          obtain ⟨rfl, _⟩ := h3
          have hr2 := HR.out.trans hdc
          have HR2 := hidX hr2
          clear hr2 hdc
          generalize hev : errV a c = ev
          have HEV := hidX hev
          clear hev
          go_wp2
          go_ret
          exact blk_bad HR2.out ((But.of hb02).trans hb3) (by rw [HEV.out]; rfl)
        | ok all' =>
          rw [hdc] at h3
          obtain ⟨rfl, hv3⟩ := h3
          have hr2 := HR.out.trans hdc
          have HR2 := hidX hr2
          clear hr2 hdc
          go_wp2
          go_ret
          exact blk_ok HR2.out ((But.of hb02).trans hb3) rfl (by rw [HV.out]; exact hv3)
      · have n1 : (k == [118, 97, 114]) = false := ne_lit k1
        rw [if_neg k1] at hst hvs
        by_cases k2 : k = kSet
        · subst k2
          rw [if_pos rfl] at hst
          have hu := use_any hC2 nm (by omega)
          have HV := hidX hvs
          clear k1 hvs
          by_cases hm : nm ∈ vis
          · rw [if_pos hm] at hst hu
            rw [errV_zero] at hu
            have HR := hidX hst
            have HU := hidX hu
            have hvv := hC2.vars
            clear hst hu hm hC2
            go_wp2_with fail
            refine HU.out.mono ?_
            rintro e w3 ⟨rfl, hb3⟩
            go_wp2
            go_ret
            exact blk_ok HR.out ((But.of hb02).after hb3) rfl (by rw [HV.out]; exact hvv.keep (hb3.block _ (by omega)))
          · rw [if_neg hm] at hst hu
            have HR := hidX hst
            have HU := hidX hu
            clear hst hu hm hC2
            go_wp2_with fail
            refine HU.out.mono ?_
            rintro e w3 ⟨rfl, hb3⟩
            go_wp2
            go_ret
            exact blk_bad HR.out ((But.of hb02).after hb3) rfl
        · have n2 : (k == [115, 101, 116]) = false := ne_lit k2
          rw [if_neg k2] at hst
          have HR := hidX hst
          have HV := hidX hvs
          clear hst hvs k1 k2 hC2
          go_wp2_with fail
          refine (HT.out w2 all HC2.out hall (But.of hb02)).mono ?_
          rintro e w3 ⟨hb3, h3⟩
          have hb03 := (But.of hb02).trans hb3
          cases hbt : blockC F all vis t with
          | bad c =>
            rw [hbt] at h3
            subst h3
            have hr2 : stmtC F all vis (.mk k nm (.mk ek en em eks) t o) = .bad c := by rw [HR.out, hbt]; rfl
            have hc0 : c ≠ 0 := fun e => funC_ok.blockC_ne0 F t all vis (by rw [hbt, e])
            rw [errV_ne a hc0]
            have HR2 := hidX hr2
            have HC0 := hidX hc0
            clear hr2 hbt hc0
            go_wp2
            go_ret
            exact blk_bad HR2.out hb03 (by rw [errV_ne a HC0.out]; rfl)
          | ok all' =>
            rw [hbt] at h3
            obtain ⟨rfl, hv3⟩ := h3
            have hl' := blockC_len F t all vis all' hbt hall
            have hC3 := HC2.out.keep hb3 hv3
            have ho3 := HO.out w3 all' hC3 hl' hb03
            have hr2 : stmtC F all vis (.mk k nm (.mk ek en em eks) t o) = blockC F all' vis o := by rw [HR.out, hbt]; rfl
            have bk3 : w3.heap[w.heap.size]? = _ := (hb3.block _ (by omega) (by omega)).trans BK2.out
            have e7 : w3.cell? ⟨w.heap.size, 7, none⟩ = some (.slice ado o.length co) := cell_of_blk bk3 7
            have HR2 := hidX hr2
            have HO3 := hidX ho3
            clear hr2 hbt ho3 bk3 hC3 e0 e1 e6
            go_wp2_with fail
            refine HO3.out.mono ?_
            rintro e w4 ⟨hb4, h4⟩
            cases hbo : blockC F all' vis o with
            | bad c =>
              rw [hbo] at h4
              subst h4
              have hr3 := HR2.out.trans hbo
              have HR3 := hidX hr3
              clear hr3 hbo
              generalize hev : errV a c = ev
              have HEV := hidX hev
              clear hev
              go_wp2
              go_ret
              exact blk_bad HR3.out (hb03.trans hb4) (by rw [HEV.out]; rfl)
            | ok all2 =>
              rw [hbo] at h4
              obtain ⟨rfl, hv4⟩ := h4
              have hr3 := HR2.out.trans hbo
              have HR3 := hidX hr3
              clear hr3 hbo
              go_wp2
              go_ret
              exact blk_ok HR3.out (hb03.trans hb4) rfl (by rw [HV.out]; exact hv4)
    · have he : stmtC F all vis (.mk k nm (.mk ek en em eks) t o) = .bad ec := by rw [stmtC, if_neg (by rw [HSH.out]; simp), HEC.out, if_pos hc]
      rw [errV_ne a hc]
      have HR := hidX he
      have HNC := hidX hc
      clear he hc
      go_wp2
      go_ret
      exact blk_bad HR.out (But.of hb02) (by rw [errV_ne a HNC.out]; rfl)
end Go.Proofs.YtcebpmaggnephabGreatDoor
