/-
  Our own: package check: a function.
-/
import Derived.Test.YtcebpmaggnephabGreatDoorCheckBlock
namespace Go.Proofs.YtcebpmaggnephabGreatDoor
open Go.RowKit Go.Maps

theorem noName_any (a : Nat → Addr) (s : List UInt8) (hs : s.length ≤ 4000) (w : World) (hG : LexG w a) :
    Calls Tryz.prog 68 #[.string ⟨s.toArray⟩] w fun e w' => e = .returned (.bool (!nameB s)) ∧ Below w.heap.size w w' := by
  go_enter Tryz.func68, Tryz.ntmps68
  go_wp2_with fail
  refine (isName_any a s hs _ hG).mono ?_
  rintro e w' ⟨rfl, hb⟩
  go_wp2
  go_ret
  exact ⟨rfl, hb⟩
set_option maxRecDepth 100000 in
theorem index_any (a : Nat → Addr) (l : List (List UInt8)) (hl : l.length ≤ 5000) (hp : ∀ p ∈ l, p.length ≤ 4000) (w : World) (hG : LexG w a) (v : Value) (hr : XRow (InH w) w v l.length (textsC l)) :
    Calls Tryz.prog 93 #[v, .func (.func 68) #[] #[]] w fun e w' => (∃ r : Int, e = .returned (.int .i64 r) ∧ (0 ≤ r ↔ ∃ p ∈ l, nameB p = false)) ∧ Below w.heap.size w w' := by
  obtain ⟨ad, cap, rfl⟩ := hr.is
  have hl' : (l.length : Int) ≤ 5000 := by omega
  have R := hidX hr
  have HP := hidX hp
  clear hr hp
  go_enter Tryz.func93, Tryz.ntmps93
  go_wp2_with fail
  go_loopw [8] (fun vi wr => ∃ q : Nat, q ≤ l.length ∧ vi = .int .i64 q ∧ Below w.heap.size w wr ∧ Hid (∀ p ∈ l.take q, nameB p = true)) (fun vi _ => l.length - (intOf vi).toNat)
  case atStart => exact ⟨0, Nat.zero_le _, rfl, by (repeat (first | exact Below.refl _ _ | assumption | refine Below.drew ?_ | refine Below.trans ?_ (drewN_below' _ _ _) | refine Below.setCell ?_ (by first | (simp; done) | (simp; omega)) _ | refine Below.alloc ?_ (by first | (simp; done) | (simp; omega)) _)), by intro p hp; simp at hp⟩
  case round =>
    obtain ⟨q, hq, rfl, hbl, HQ⟩ := hrel
    by_cases hlt : q < l.length
    · have hlt' : (q : Int) < (l.length : Int) := by omega
      obtain ⟨g, off, rfl, hg, hc⟩ := R.out.text hlt
      have a0 := (hbl.cell (p := ⟨g, _, none⟩) hg).trans hc
      have hx := noName_any a l[q] (HP.out _ (List.getElem_mem hlt)) wr (hG.below hbl)
      have htk : l.take (q + 1) = l.take q ++ [l[q]] := List.take_succ_eq_append_getElem hlt
      have hmem : l[q] ∈ l := List.getElem_mem hlt
      generalize l[q] = x at a0 hc hx htk hmem
      have HX := hidX hx
      have HTK := hidX htk
      have HM := hidX hmem
      clear hc hx htk hmem
      go_wp2_with fail
      refine HX.out.mono ?_
      rintro e w2 ⟨rfl, hb2⟩
      have hb3 := bl_trans hbl hbl.size hb2
      clear a0
      cases hn : nameB x with
      | false =>
        go_wp2
        go_ret
        exact ⟨⟨q, rfl, (fun _ => ⟨x, HM.out, hn⟩), (fun _ => by omega)⟩, hb3⟩
      | true =>
        have hq2 : ∀ p ∈ l.take (q + 1), nameB p = true := by
          intro p hp
          rw [HTK.out] at hp
          rcases List.mem_append.1 hp with hp | hp
          · exact HQ.out p hp
          · rw [List.mem_singleton.1 hp]; exact hn
        have HQ2 := hidX hq2
        clear hq2
        go_wp2
        go_roundw
        case rel => exact ⟨q + 1, by omega, by go_num, hb3, HQ2.out⟩
        case measure => simp [intOf]; omega
    · have hqn : q = l.length := by omega
      subst hqn
      go_wp2
      go_ret
      refine ⟨⟨-1, rfl, (fun h => by omega), ?_⟩, hbl⟩
      rintro ⟨p, hp, hn⟩
      have := HQ.out p (by rw [List.take_length]; exact hp)
      rw [hn] at this
      cases this
theorem contains_any (a : Nat → Addr) (l : List (List UInt8)) (hl : l.length ≤ 5000) (hp : ∀ p ∈ l, p.length ≤ 4000) (w : World) (hG : LexG w a) (v : Value) (hr : XRow (InH w) w v l.length (textsC l)) :
    Calls Tryz.prog 67 #[v, .func (.func 68) #[] #[]] w fun e w' => e = .returned (.bool (decide (∃ p ∈ l, nameB p = false))) ∧ Below w.heap.size w w' := by
  have hx := index_any a l hl hp w hG v hr
  have HX := hidX hx
  obtain ⟨ad, cap, rfl⟩ := hr.is
  generalize hB : decide (∃ p ∈ l, nameB p = false) = b
  have HB := hidX hB
  clear hx hr hB
  go_enter Tryz.func67, Tryz.ntmps67
  go_wp2_with fail
  refine HX.out.mono ?_
  rintro e w2 ⟨⟨r, rfl, hr⟩, hb2⟩
  have hb : decide (0 ≤ r) = b := by
    rw [← HB.out, Bool.eq_iff_iff]; simpa using hr
  have HE := hidX hb
  clear hr hb
  go_wp2
  go_ret
  exact ⟨ret_bool (a := decide (0 ≤ r)) HE.out, hb2⟩
theorem cellB {w w' : World} {p : Nat} (h : But p w w') {b i : Nat} {v : Value} (hb : w.cell? ⟨b, i, none⟩ = some v) (hp : b ≠ p) : w'.cell? ⟨b, i, none⟩ = some v :=
  (World.cell?_of_block (w := w) (a := ⟨b, i, none⟩) (h.block b (cell_lt hb) hp)).trans hb
theorem parsC_at {all l : List (List UInt8)} {q : Nat} (h : q < l.length) : parsC all (l.drop q) = (declC all l[q]).bind fun all => parsC all (l.drop (q + 1)) := by
  rw [← List.getElem_cons_drop h, parsC]
theorem declC_ne0 {all : List (List UInt8)} {m : List UInt8} {c : Nat} (h : declC all m = .bad c) : c ≠ 0 := by
  unfold declC at h
  split at h
  · cases h; decide
  · split at h <;> cases h; decide
set_option maxRecDepth 100000 in
set_option maxHeartbeats 4000000 in
theorem fun_any {w : World} {a : Nat → Addr} {B p f m : Nat} {fv : Value} {F : List Fu} (hC : Chk w a B p f m fv F [] []) (x : Fu) (tw : Bool) (cs : List Value) (hX : XF (fun b => b < B) w x cs) (hL : LowF x) :
    Calls Tryz.prog 40 #[.pointer (some ⟨p, 0, none⟩), .agg cs.toArray, .bool tw] w fun e w' => e = .returned (errV a (funC F tw x)) ∧ But m w w' := by
  obtain ⟨xn, xp, xb⟩ := x
  obtain ⟨pv, bv, bs, rfl, r2, r3, r4⟩ := hX
  obtain ⟨l1, l2, l3, l4, l5⟩ := hL
  simp only at r2 r3 r4 l1 l2 l3 l4 l5
  have hml := hC.mlt
  have hBm := hC.hB
  obtain ⟨adp, cp, rfl⟩ := r2.is
  obtain ⟨adb, cb, rfl⟩ := r3.is
  have l2' : (xp.length : Int) ≤ 8 := by omega
  have hb0 := box_blk w #[.string ⟨xn.toArray⟩, .slice adp xp.length cp, .slice adb xb.length cb] 50
  have hN := isName_any a xn (by omega) _ (hC.s.below hb0).lexG
  have hP : ∀ X, Below w.heap.size w X → Calls Tryz.prog 67 #[.slice adp xp.length cp, .func (.func 68) #[] #[]] X fun e w' => e = .returned (.bool (decide (∃ p ∈ xp, nameB p = false))) ∧ Below X.heap.size X w' := fun X hX =>
    contains_any a xp (by omega) (fun p hp => by have := l3 p hp; omega) X (hC.s.below hX).lexG _ (r2.imp (fun b (hb : b < B) => by have := hX.size; show b < _; omega) (fun b (hb : b < B) => hX.block b (by omega)))
  have hBl : ∀ X all, Chk X a B p f m fv F all all → all.length ≤ 12 → But m w X → Calls Tryz.prog 70 #[.pointer (some ⟨p, 0, none⟩), .slice adb xb.length cb] X (BlkTo a m all X (blockC F all all xb)) := fun X all h1 h2 h3 =>
    block_any xb X a B p f m fv F all all _ h1 h2 ⟨bs, r3.imp (fun _ h => h) (keepBut hBm hml h3), XSs.imp (fun _ h => h) (keepBut hBm hml h3) _ _ r4⟩ l4 l5
  have HN := hidX hN
  have HP := hidX hP
  have HBL := hidX hBl
  have HC := hidX hC
  have R2 := hidX r2
  have L3 := hidX l3
  clear hN hP hBl hC r2 r3 r4 l5 l3
  generalize hFC : funC F tw ⟨xn, xp, xb⟩ = fc
  have HF := hidX hFC
  clear hFC
  go_enter Tryz.func40, Tryz.ntmps40
  go_wp2_with fail
  refine HN.out.mono ?_
  rintro e w1 ⟨rfl, hb1⟩
  have z1 : w.heap.size < w1.heap.size := by have := hb1.size; simp at this; omega
  have hb01 : Below w.heap.size w w1 := bl_trans hb0 hb0.size hb1
  have bk : w1.heap[w.heap.size]? = some (.cells #[.string ⟨xn.toArray⟩, .slice adp xp.length cp, .slice adb xb.length cb] 50 (0, 0)) := (hb1.block _ (by simp)).trans (heap_alloc_new _ _)
  have BK := hidX bk
  have d1 : w1.cell? ⟨w.heap.size, 1, none⟩ = some (.slice adp xp.length cp) := cell_of_blk bk 1
  have hg := name_glob (HC.out.s.below hb01)
  clear bk hb1 HN
  cases hn : nameB xn with
  | false =>
    have hf : fc = 5 := by rw [← HF.out]; unfold funC; rw [if_pos (Or.inl hn)]
    have HF2 := hidX hf
    clear hf hn
    go_wp2
    go_ret
    exact ⟨by rw [HF2.out]; rfl, But.of hb01⟩
  | true =>
    go_wp2_with fail
    refine (HP.out w1 hb01).mono ?_
    rintro e w2 ⟨rfl, hb2⟩
    have hb02 : Below w.heap.size w w2 := bl_trans hb01 hb01.size hb2
    have bk2 := (hb2.block _ z1).trans BK.out
    have BK2 := hidX bk2
    have z2 := hb2.size
    have e1 : w2.cell? ⟨w.heap.size, 1, none⟩ = some (.slice adp xp.length cp) := cell_of_blk bk2 1
    have hS2 := HC.out.s.below hb02
    have hg2 := name_glob hS2
    have hg3 := exist_glob hS2
    have hg4 := args_glob hS2
    clear d1 hg bk2 BK hS2
    by_cases hp : ∃ p ∈ xp, nameB p = false
    · have hd : decide (∃ p ∈ xp, nameB p = false) = true := by simpa using hp
      rw [hd]
      have hf : fc = 5 := by rw [← HF.out]; unfold funC; rw [if_pos (Or.inr hp)]
      have HF2 := hidX hf
      clear hf hn hp hd
      go_wp2
      go_ret
      exact ⟨by rw [HF2.out]; rfl, But.of hb02⟩
    · have hd : decide (∃ p ∈ xp, nameB p = false) = false := by simpa using hp
      rw [hd]
      have hor : ¬ (nameB xn = false ∨ ∃ p ∈ xp, nameB p = false) := by
        rintro (h | h)
        · rw [hn] at h; cases h
        · exact hp h
      have HOR := hidX hor
      clear hn hp hd hor
      cases tw with
      | true =>
        have hf : fc = 7 := by rw [← HF.out]; unfold funC; rw [if_neg HOR.out, if_pos rfl]
        have HF2 := hidX hf
        clear hf
        go_wp2
        go_ret
        exact ⟨by rw [HF2.out]; rfl, But.of hb02⟩
      | false =>
        by_cases h4 : 4 < xp.length
        · have h4' : (4 : Int) < xp.length := by omega
          have hf : fc = 9 := by rw [← HF.out]; unfold funC; rw [if_neg HOR.out, if_neg (by simp), if_pos h4]
          have HF2 := hidX hf
          clear hf
          go_wp2
          go_ret
          exact ⟨by rw [HF2.out]; rfl, But.of hb02⟩
        · have h4' : ¬ (4 : Int) < xp.length := by omega
          have hf : fc = match (parsC [] xp).bind fun all => blockC F all all xb with | .bad c => c | .ok _ => 0 := by rw [← HF.out]; unfold funC; rw [if_neg HOR.out, if_neg (by simp), if_neg h4]; rfl
          have HF2 := hidX hf
          clear hf
          go_wp2_with fail
          go_loopw [31] (fun vi wr => ∃ (q : Nat) (allq : List (List UInt8)), q ≤ xp.length ∧ vi = .int .i64 q ∧ But m w wr ∧ w.heap.size < wr.heap.size ∧ wr.heap[w.heap.size]? = some (.cells #[.string ⟨xn.toArray⟩, .slice adp xp.length cp, .slice adb xb.length cb] 50 (0, 0)) ∧ VarsAt wr m allq allq ∧ allq.length ≤ 12 ∧ Hid (parsC [] xp = parsC allq (xp.drop q))) (fun vi _ => xp.length - (intOf vi).toNat)
          case atStart => exact ⟨0, [], Nat.zero_le _, rfl, But.of hb02, by omega, BK2.out, (HC.out.below hb02).vars, by simp, rfl⟩
          case round =>
            obtain ⟨q, allq, hq, rfl, hbw, hzw, hbk, hvr, hal, HPC⟩ := hrel
            by_cases hlt : q < xp.length
            · have hlt' : (q : Int) < (xp.length : Int) := by omega
              obtain ⟨g, off, rfl, hgB, hc⟩ := R2.out.text hlt
              have a0 : wr.cell? ⟨g, off + q, none⟩ = _ := cellB hbw hc (by have : g < B := hgB; omega)
              have hlow := L3.out _ (List.getElem_mem hlt)
              have hstep := HPC.out.trans (parsC_at hlt)
              generalize xp[q] = y at a0 hc hlow hstep
              have hCr := HC.out.keep hbw hvr
              have hd := declare_any hCr hal y (by omega)
              have HD := hidX hd
              have HST := hidX hstep
              have HBK := hidX hbk
              have hmr := hCr.mlt
              clear hd hstep hbk hc hCr
              go_wp2_with fail
              refine HD.out.mono ?_
              rintro e w3 ⟨hb3, h3⟩
              have hz3 := hb3.size
              clear a0
              cases hdc : declC allq y with
              | bad c =>
                rw [hdc] at h3
                obtain ⟨rfl, _⟩ := h3
                have hc0 := declC_ne0 hdc
                have hfc : fc = c := by rw [HF2.out, HST.out, hdc]; rfl
                rw [errV_ne a hc0]
                have HFC := hidX hfc
                have HC0 := hidX hc0
                clear hdc hc0 hfc
                go_wp2
                go_ret
                exact ⟨by rw [HFC.out, errV_ne a HC0.out]; rfl, hbw.trans hb3⟩
              | ok all' =>
                rw [hdc] at h3
                obtain ⟨rfl, hv3⟩ := h3
                have hl3 := declC_len hdc hal
                have hpc : parsC [] xp = parsC all' (xp.drop (q + 1)) := by rw [HST.out, hdc]; rfl
                have hall' := (declC_ok hdc).1
                rw [← hall'] at hv3
                have HPC2 := hidX hpc
                have HV3 := hidX hv3
                clear hdc hpc hall' hv3
                go_wp2
                go_roundw
                case rel => exact ⟨q + 1, all', by omega, by go_num, hbw.trans hb3, by omega, (hb3.block _ hzw (by omega)).trans HBK.out, HV3.out, hl3, HPC2.out⟩
                case measure => simp [intOf]; omega
            · have hqn : q = xp.length := by omega
              subst hqn
              have hpc : parsC [] xp = .ok allq := by rw [HPC.out, List.drop_length, parsC]
              have hCr := HC.out.keep hbw hvr
              have hbl := HBL.out wr allq hCr hal hbw
              have e2 : wr.cell? ⟨w.heap.size, 2, none⟩ = some (.slice adb xb.length cb) := cell_of_blk hbk 2
              have HB2 := hidX hbl
              have hfc : fc = match blockC F allq allq xb with | .bad c => c | .ok _ => 0 := by rw [HF2.out, hpc]; rfl
              have HFC := hidX hfc
              clear hpc hCr hbl hbk hfc
              go_wp2_with fail
              refine HB2.out.mono ?_
              rintro e w3 ⟨hb3, h3⟩
              cases hbc : blockC F allq allq xb with
              | bad c =>
                rw [hbc] at h3
                subst h3
                have hfc : errV a fc = errV a c := by rw [HFC.out, hbc]
                generalize errV a c = ev at hfc
                have HFC2 := hidX hfc
                clear hfc hbc
                go_wp2
                go_ret
                exact ⟨by rw [HFC2.out]; rfl, hbw.trans hb3⟩
              | ok all' =>
                rw [hbc] at h3
                obtain ⟨rfl, _⟩ := h3
                have hfc : errV a fc = .nilIface := by rw [HFC.out, hbc]; rfl
                have HFC2 := hidX hfc
                clear hfc hbc
                go_wp2
                go_ret
                exact ⟨by rw [HFC2.out]; rfl, hbw.trans hb3⟩
end Go.Proofs.YtcebpmaggnephabGreatDoor
