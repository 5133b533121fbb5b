/-
  Our own: the law RunAlone: functions that are not called make no difference; who prints nothing, and calls nobody, has no output.
-/
import Derived.Test.YtcebpmaggnephacDoorRunSames
import Derived.Test.YtcebpmaggnephacDoorAloneAll
import Derived.Test.YtcebpmaggnephacDoorCheckLists
namespace Go.Proofs.YtcebpmaggnephacDoor
open Go.RowKit Go.Maps

def zzE : Ex := .mk [110, 117, 109] 1 [] []
def zzS : Sm := .mk [112, 114, 105, 110, 116] [] zzE [] []
def zzF : Fu := ⟨[122, 122], [], [zzS]⟩
theorem name_zz : nameB [122, 122] = true := by kernel_rfl
theorem low_zz : LowF zzF := by
  simp [LowF, zzF, zzS, zzE, LowSs, LowS, LowE, LowEs]
theorem ok_zz : OkF zzF := by
  refine ⟨by simp [zzF], by simp [zzF], by simp [zzF], by simp [zzF], ?_⟩
  simp [zzF, zzS, zzE, OkSs, OkS, OkE, OkEs]
  decide
theorem fun_zz (l : List Fu) : funC (zzF :: l) false zzF = 0 := by
  have h1 : exprC (zzF :: l) [] zzE = 0 := by
    rw [zzE, exprC]
    simp only [List.length_nil, exprsC]
    simp [shapeE, kName, kNumE, kCall, andC]
  have h2 : funC (zzF :: l) false zzF = 0 := by
    have h3 := h1
    simp only [zzE] at h3
    simp only [funC, zzF, name_zz, parsC, Cs.bind, blockC, zzS, zzE, stmtC]
    simp only [zzF, zzS, zzE] at h3
    simp [shapeS, kVar, kSet, kIf, kWhile, kReturn, kPrint, h3]
  exact h2
abbrev zzs : Array Value := #[.string ⟨#[112, 114, 105, 110, 116]⟩, .string ⟨#[]⟩, .string ⟨#[110, 117, 109]⟩, .int .i64 1, .string ⟨#[]⟩, .slice none 0 0, .slice none 0 0, .slice none 0 0]
abbrev zzc (n : Nat) : Array Value := #[.string ⟨#[122, 122]⟩, .slice none 0 0, .slice (some ⟨n, 0, none⟩) 1 1]
abbrev WZ (w : World) : World := (w.alloc (.cells zzs 54)).alloc (.cells (zzc w.heap.size) 37)
theorem xfs_one {A : Nat → Prop} {w : World} : ∀ {l : List Fu} {ys : List Value}, XFs A w l ys → ∀ u ∈ ys, u.oneCell' = true
  | [], ys, h, u, hu => by have : ys = [] := h; rw [this] at hu; cases hu
  | f :: r, ys, h, u, hu => by
    obtain ⟨cs, zs, rfl, h1, h2⟩ := h
    rcases List.mem_append.1 hu with hu | hu
    · obtain ⟨pv, bv, bs, rfl, r2, r3, _⟩ := h1
      obtain ⟨a1, c1, rfl⟩ := r2.is
      obtain ⟨a2, c2, rfl⟩ := r3.is
      exact fun_one _ _ _ _ _ _ _ u hu
    · exact xfs_one h2 u hu
/-- The function zz, ahead of others. -/
theorem zz_front {wr w6 : World} {l : List Fu} {v' : Value} {ys : List Value} (hg : (WZ wr).grownBy w6 (some (wr.heap.size + 1))) (hown : w6.ownsRow wr.heap.size 37 3 v' (1 + l.length) ((zzc wr.heap.size).toList ++ ys)) (hx : XFs (InH w6) w6 l ys) : XLF (InH w6) w6 v' (zzF :: l) := by
  have hz : (WZ wr).heap.size = wr.heap.size + 2 := by simp
  have hb : w6.heap[wr.heap.size]? = some (.cells zzs 54 (0, 0)) := by
    refine (hg.block wr.heap.size (by omega) (by simp)).trans ?_
    exact two_newR wr _ _
  refine ⟨(zzc wr.heap.size).toList ++ ys, ?_, ?_⟩
  · rw [List.length_cons, Nat.add_comm]
    exact (xrow_own hown).imp (fun _ h => h.2) (fun _ _ => rfl)
  · refine ⟨(zzc wr.heap.size).toList, ys, rfl, ?_, hx⟩
    refine ⟨_, _, zzs.toList, rfl, xrow_nil _ _, ⟨_, _, rfl, fun _ => ⟨_, _, rfl, heap_lt hb, cells_read hb⟩⟩, ?_⟩
    refine ⟨zzs.toList, [], rfl, ?_, rfl⟩
    exact ⟨[.string ⟨#[110, 117, 109]⟩, .int .i64 1, .string ⟨#[]⟩, .slice none 0 0], _, [], _, [], rfl, ⟨_, [], rfl, xrow_nil _ _, rfl⟩, xrow_nil _ _, rfl, xrow_nil _ _, rfl⟩
set_option maxRecDepth 100000 in
set_option maxHeartbeats 8000000 in
theorem runAlone_any (a : Nat → Addr) (l : List Fu) (v : Value) (nm : ByteArray) (args : List Int) (aad : Option Addr) (acap : Nat) (ticks : Int) (w : World) (hS : Sents w a) (hX : XLF (InH w) w v l) (hl : l.length ≤ 9223372036854775807) (hO : ∀ f ∈ l, OkF f) (hnm : nm.size ≤ 9223372036854775807) (hA : XRow (InH w) w (.slice aad args.length acap) args.length (intsC args)) (h64 : ∀ x ∈ args, In64 x) (hal : args.length ≤ 9223372036854775807) :
    Calls Tryd.prog 6 #[v, .string nm, .slice aad args.length acap, .int .i64 ticks] w fun e w' => e = .returned (.bool true) ∧ Below w.heap.size w w' := by
  obtain ⟨m, rfl⟩ : ∃ m : List UInt8, nm = ⟨m.toArray⟩ := ⟨nm.data.toList, by simp⟩
  have hml : m.length ≤ 9223372036854775807 := by
    have : (ByteArray.mk m.toArray).size = m.length := by show m.toArray.size = _; simp
    omega
  have HSS := hidX hS
  have HX := hidX hX
  have HO := hidX hO
  have HAA := hidX hA
  have H64 := hidX h64
  have hal' : (args.length : Int) ≤ 9223372036854775807 := by omega
  clear hS hX hO hA h64 hnm
  go_enter Tryd.func6, Tryd.ntmps6
  go_wp2_with fail
  refine (ran_any a w HSS.out).mono ?_
  rintro e W1 ⟨rfl, hb1⟩
  go_wp2_with fail
  refine (large_any l 300 (by omega) W1 v (HX.out.imp (inH_up hb1) (keepH hb1)) hl HO.out).mono ?_
  rintro e W2 ⟨r, rfl, hr, hb2⟩
  have hbw2 : Below w.heap.size w W2 := hb1.trans (hb2.mono hb1.size)
  rcases hr with rfl | ⟨rfl, hl10, hlow, hnod⟩
  · go_wp2
    go_ret
    exact ⟨rfl, hbw2⟩
  · have HLW := hidX hlow
    have HND := hidX hnod
    clear hlow hnod
    by_cases c1 : (8 : Int) < (args.length : Int)
    · go_wp2
      go_ret
      exact ⟨rfl, hbw2⟩
    by_cases c2 : ticks < 0
    · go_wp2
      go_ret
      exact ⟨rfl, hbw2⟩
    by_cases c3 : 200 < ticks
    · go_wp2
      go_ret
      exact ⟨rfl, hbw2⟩
    obtain ⟨t, rfl⟩ : ∃ t : Nat, ticks = (t : Int) := ⟨ticks.toNat, by omega⟩
    go_wp2_with fail
    refine (asFuns_any l hl10 HLW.out W2 v (HX.out.imp (inH_up hbw2) (keepH hbw2))).mono ?_
    rintro e W3 ⟨hb3, vp, ys, rfl, hown, hxs⟩
    have hX3 : XLF (InH W3) W3 vp l := ⟨ys, (xrow_own hown).imp (fun _ hb => hb.2) (fun _ _ => rfl), XFs.imp (fun _ hb => hb.2.1) (fun _ _ => rfl) _ _ hxs⟩
    have hXS : XFs (InH W3) W3 l ys := XFs.imp (fun _ hb => hb.2.1) (fun _ _ => rfl) _ _ hxs
    have hbw3 : Below w.heap.size w W3 := hbw2.trans (hb3.mono hbw2.size)
    obtain ⟨adp, capp, rfl⟩ := own_is hown
    have HX3 := hidX hX3
    have HXS := hidX hXS
    have HOWN := hidX hown
    have HAR3 := hidX (HAA.out.imp (inH_up hbw3) (keepH hbw3))
    have hl' : (l.length : Int) ≤ 10 := by omega
    clear hown hxs hX3 hXS
    by_cases h7 : 8 ≤ l.length
    · have h7' : (8 : Int) ≤ l.length := by omega
      go_wp2
      go_ret
      exact ⟨rfl, hbw3⟩
    have h7' : ¬ (8 : Int) ≤ l.length := by omega
    go_wp2_with (first | (at_builtin; refine wpList_append_ints rfl _ _ rfl rfl _ rfl args (by omega) HAR3.out ?_; intro va W4 hoa hba; have HOA := hidX hoa; have HBA := hidX hba; clear hoa hba) | fail)
    have hr1 : ∀ X vx F vF, F.length ≤ 10 → (∀ f ∈ F, LowF f) → (∀ f ∈ F, OkF f) → Below W3.heap.size W3 X → XLF (InH X) X vF F → XRow (InH X) X vx args.length (intsC args) → ∀ mo : Nat, mo ≤ 5000 → Calls Tryd.prog 16 #[vF, .string ⟨m.toArray⟩, vx, .int .i64 (mo : Int)] X (RunsTo a F m args mo X) := fun X vx F vF h10 hF1 hF2 hX hvF hvx mo hmo => run_any a F h10 hF1 hF2 X (HSS.out.below (bl_trans hbw3 hbw3.size hX)) vF hvF m hml args H64.out (by omega) vx hvx mo hmo
    have HR1 := hidX hr1
    clear hr1
    have hba := HBA.out
    refine (HR1.out W4 va l _ hl10 HLW.out HO.out HBA.out (HX3.out.imp (inH_up hba) (keepH hba)) ((xrow_own HOA.out).imp (fun _ hb => hb.2) (fun _ _ => rfl)) t (by omega)).mono ?_
    intro e W5 h5
    by_cases hG : l.length ≤ 8 ∧ funsC l [] l = none ∧ AskOk l m args.length
    · have h5' : RunTo W4 (runX runOps l m args t) e W5 := h5.elim (fun h => absurd hG h.1) (fun h => h.2)
      obtain ⟨hb5, ad5, c5, ho5, he⟩ := runTo_out h5'
      subst he
      have HG := hidX hG
      have hb35 : Below W3.heap.size W3 W5 := bl_trans hba hba.size hb5
      have hbw5 : Below w.heap.size w W5 := bl_trans hbw3 hbw3.size hb35
      generalize hR1 : runX runOps l m args t = r1 at h5' ho5 ⊢
      have HRX := hidX hR1
      have hcap5 := own_capR ho5
      have hn5 : (r1.st.out.length : Int) ≤ 9223372036854775807 := by omega
      obtain ⟨XA, hXA⟩ : ∃ XA, XA = W5.alloc (.cells #[.string ⟨(howV r1).toArray⟩, .int .i64 (valV r1), .slice ad5 r1.st.out.length c5, .int .i64 (r1.st.ticks : Int)] 44) := ⟨_, rfl⟩
      have hbA : Below W5.heap.size W5 XA := by rw [hXA]; exact box_blk _ _ _
      have hkA : XA.heap[W5.heap.size]? = some (.cells #[.string ⟨(howV r1).toArray⟩, .int .i64 (valV r1), .slice ad5 r1.st.out.length c5, .int .i64 (r1.st.ticks : Int)] 44 (0, 0)) := by rw [hXA]; exact heap_alloc_new _ _
      have hb3A : Below W3.heap.size W3 XA := bl_trans hb35 hb35.size hbA
      have hbwA : Below w.heap.size w XA := bl_trans hbw3 hbw3.size hb3A
      have hroA : XRow (InH XA) XA (.slice ad5 r1.st.out.length c5) r1.st.out.length (intsC r1.st.out) := ((xrow_own (owns_below ho5 hbA)).imp (fun _ hb => hb.2) (fun _ _ => rfl))
      have HKA := hidX hkA
      have HB3A := hidX hb3A
      have HBWA := hidX hbwA
      have HROA := hidX hroA
      have hXA' := HX.out.imp (inH_up hbwA) (keepH hbwA)
      obtain ⟨zs, hrA, hkzA⟩ := hXA'
      obtain ⟨adl, capl, rfl⟩ := hrA.is
      have R := hidX hrA
      have KK := hidX hkzA
      have hlA : W5.heap.size < XA.heap.size := heap_lt hkA
      clear h5 h5' hG ho5 hbA hkA hb3A hbwA hroA hb35 hbw5 hR1 hrA hkzA
      unfold outC
      go_wp2_with fail
      rw [← hXA]
      clear hXA
      go_loopw [15] (fun vi wr => ∃ q : Nat, q ≤ l.length ∧ vi = .int .i64 q ∧ Below XA.heap.size XA wr ∧ Hid (∀ f ∈ l.take q, f.name ≠ zzF.name)) (fun vi _ => l.length - (intOf vi).toNat)
      case atStart => exact ⟨0, Nat.zero_le _, rfl, Below.refl _ _, by intro f hf; simp at hf⟩
      case round =>
        obtain ⟨q, hq, rfl, hbl, HQ⟩ := hrel
        by_cases hlt : q < l.length
        · have hlt' : (q : Int) < (l.length : Int) := by omega
          obtain ⟨ka, e1, e2⟩ := KK.out.at hlt
          have htk : l.take (q + 1) = l.take q ++ [l[q]] := List.take_succ_eq_append_getElem hlt
          generalize l[q] = x at e1 htk
          obtain ⟨xm, xp, xb⟩ := x
          obtain ⟨pv, bv, bs, rfl, r2, r3, r4⟩ := e1
          simp only at e2
          obtain ⟨g, off, rfl, hg, hx3⟩ := x3_at R.out hlt e2
          have a0 := (hx3.keep (hbl.block g hg)).c0
          have HTK := hidX htk
          clear hx3 r2 r3 r4 e2 htk
          by_cases hz : xm = [122, 122]
          · have hz' : (xm == [122, 122]) = true := by simpa using hz
            clear hz
            go_wp2
            go_ret
            exact ⟨rfl, bl_trans HBWA.out HBWA.out.size hbl⟩
          · have hz' : (xm == [122, 122]) = false := by simpa using hz
            have hq2 : ∀ f ∈ l.take (q + 1), f.name ≠ zzF.name := by
              intro f hf
              rw [HTK.out] at hf
              rcases List.mem_append.1 hf with hf | hf
              · exact HQ.out f hf
              · rw [List.mem_singleton.1 hf]; exact hz
            have HQ2 := hidX hq2
            clear hz hq2
            go_wp2
            go_roundw
            case rel => exact ⟨q + 1, by omega, by go_num, hbl, HQ2.out⟩
            case measure => simp [intOf]; omega
        · have hqn : q = l.length := by omega
          subst hqn
          have hnz : ∀ f ∈ l, f.name ≠ zzF.name := by have := HQ.out; rwa [List.take_length] at this
          have HNZ := hidX hnz
          clear hnz HQ
          have hzr := hbl.size
          have hne : 0 < l.length := by
            obtain ⟨f, hf, _⟩ := HG.out.2.2
            exact List.length_pos_of_mem hf
          obtain ⟨gp, hgp⟩ : ∃ gp, adp = some ⟨gp, 0, none⟩ := by
            rcases HOWN.out.2 with ⟨_, h0⟩ | ⟨g, cap, cur, h1, _⟩
            · omega
            · injection h1 with h1; exact ⟨g, h1⟩
          subst hgp
          have hb3r : Below W3.heap.size W3 wr := bl_trans HB3A.out HB3A.out.size hbl
          have hbwr : Below w.heap.size w wr := bl_trans HBWA.out HBWA.out.size hbl
          have hbz : Below wr.heap.size wr (WZ wr) := by unfold WZ; (repeat (first | exact Below.refl _ _ | assumption | refine Below.drew ?_ | refine Below.trans ?_ (drewN_below' _ _ _) | refine Below.setCell ?_ (by first | (simp; done) | (simp; omega)) _ | refine Below.alloc ?_ (by first | (simp; done) | (simp; omega)) _))
          have howz := owns_below (owns_below HOWN.out hb3r) hbz
          have hlit : (WZ wr).ownsRow wr.heap.size 37 3 (.slice (some ⟨wr.heap.size + 1, 0, none⟩) 1 1) 1 (zzc wr.heap.size).toList := by
            have := World.ownsRow_lit (base := wr.heap.size) (e := 37) (size := 3) (wr.alloc (.cells zzs 54)) (zzc wr.heap.size) 1 (by simp) (by decide) rfl
            simpa using this
          have HZ1 := hidX hlit
          have HZ2 := hidX (howz.cells (g := gp) rfl)
          have HZ3 := hidX (xfs_one HXS.out)
          have HZ4 := hidX howz.1
          have HBZ := hidX hbz
          have HB3R := hidX hb3r
          have HBWR := hidX hbwr
          obtain ⟨i0, hi, hy0, hy1, hy2⟩ := info_parts fun_info
          clear howz hlit hbz hb3r hbwr
          go_wp2_with (first | (at_builtin; refine wpList_append_own_at _ rfl _ _ 25 rfl wr.heap.size 37 i0 _ 3 64 Tryd.underlying25 hi hy0 hy1 hy2 rfl (by decide) (.slice (some ⟨wr.heap.size + 1, 0, none⟩) 1 1) 1 (zzc wr.heap.size).toList rfl HZ1.out ⟨gp, 0, none⟩ l.length capp ys rfl HZ4.out HZ2.out HZ3.out (by unfold maxLen; omega) (by omega) (by simp; omega) ?_; intro v6 W6 hown6 hg6 _ _; have hb6 : Below wr.heap.size wr W6 := grown_below HBZ.out (Nat.le_refl _) HZ1.out hg6; have hb36 : Below W3.heap.size W3 W6 := bl_trans HB3R.out HB3R.out.size hb6; have hbw6 : Below w.heap.size w W6 := bl_trans HBWR.out HBWR.out.size hb6; have HZX := hidX (zz_front hg6 hown6 (XFs.imp (inH_up hb36) (keepH hb36) _ _ HXS.out)); have HAR6 := hidX (HAA.out.imp (inH_up hbw6) (keepH hbw6)); clear hown6 hg6) | (at_builtin; refine wpList_append_ints rfl _ _ rfl rfl _ rfl args (by omega) HAR6.out ?_; intro vb W7 hob hbb; have HOB := hidX hob; have HBB := hidX hbb; clear hob hbb) | fail)
          have hbb := HBB.out
          have hb37 : Below W3.heap.size W3 W7 := bl_trans hb36 hb36.size hbb
          refine (HR1.out W7 vb (zzF :: l) v6 (by simp; omega) (by intro f hf; rcases List.mem_cons.1 hf with rfl | hf; exact low_zz; exact HLW.out f hf) (by intro f hf; rcases List.mem_cons.1 hf with rfl | hf; exact ok_zz; exact HO.out f hf) hb37 (HZX.out.imp (inH_up hbb) (keepH hbb)) ((xrow_own HOB.out).imp (fun _ hb => hb.2) (fun _ _ => rfl)) t (by omega)).mono ?_
          intro e W8 h8
          have hG2 : (zzF :: l).length ≤ 8 ∧ funsC (zzF :: l) [] (zzF :: l) = none ∧ AskOk (zzF :: l) m args.length := by
            refine ⟨by simp; omega, well_front HG.out.2.1 HNZ.out (fun_zz l), ?_⟩
            obtain ⟨f, hf, h1, h2⟩ := HG.out.2.2
            exact ⟨f, List.mem_cons_of_mem _ hf, h1, h2⟩
          have h8' : RunTo W7 (runX runOps (zzF :: l) m args t) e W8 := h8.elim (fun h => absurd hG2 h.1) (fun h => h.2)
          rw [runX_front runOps HG.out.2.1 HNZ.out (by obtain ⟨f, hf, h1, _⟩ := HG.out.2.2; exact ⟨f, hf, h1⟩) args t, HRX.out] at h8'
          obtain ⟨hb8, ad8, c8, ho8, he⟩ := runTo_out h8'
          subst he
          obtain ⟨XB, hXB⟩ : ∃ XB, XB = W8.alloc (.cells #[.string ⟨(howV r1).toArray⟩, .int .i64 (valV r1), .slice ad8 r1.st.out.length c8, .int .i64 (r1.st.ticks : Int)] 44) := ⟨_, rfl⟩
          have hbB : Below W8.heap.size W8 XB := by rw [hXB]; exact box_blk _ _ _
          have hkB : XB.heap[W8.heap.size]? = some (.cells #[.string ⟨(howV r1).toArray⟩, .int .i64 (valV r1), .slice ad8 r1.st.out.length c8, .int .i64 (r1.st.ticks : Int)] 44 (0, 0)) := by rw [hXB]; exact heap_alloc_new _ _
          have hbr7 : Below wr.heap.size wr W7 := bl_trans hb6 hb6.size hbb
          have hbr8 : Below wr.heap.size wr W8 := bl_trans hbr7 hbr7.size hb8
          have hbrB : Below wr.heap.size wr XB := bl_trans hbr8 hbr8.size hbB
          have hbAB : Below XA.heap.size XA XB := bl_trans hbl hbl.size hbrB
          have hkA := (hbAB.block W5.heap.size hlA).trans HKA.out
          have hso : Calls Tryd.prog 18 #[.agg (outC (howV r1) (valV r1) (.slice ad5 r1.st.out.length c5) r1.st.ticks), .agg (outC (howV r1) (valV r1) (.slice ad8 r1.st.out.length c8) r1.st.ticks)] XB fun e w' => e = .returned (.bool true) ∧ Below XB.heap.size XB w' :=
            sameOut_any _ _ _ r1.st.out (by omega) XB ad5 ad8 c5 c8 (HROA.out.imp (inH_up hbAB) (keepH hbAB)) ((xrow_own (owns_below ho8 hbB)).imp (fun _ hb => hb.2) (fun _ _ => rfl))
          have A0 : XB.cell? ⟨W5.heap.size, 0, none⟩ = some (.string ⟨(howV r1).toArray⟩) := cell_of_blk hkA 0
          have A1 : XB.cell? ⟨W5.heap.size, 1, none⟩ = some (.int .i64 (valV r1)) := cell_of_blk hkA 1
          have A2 : XB.cell? ⟨W5.heap.size, 2, none⟩ = some (.slice ad5 r1.st.out.length c5) := cell_of_blk hkA 2
          have A3 : XB.cell? ⟨W5.heap.size, 3, none⟩ = some (.int .i64 (r1.st.ticks : Int)) := cell_of_blk hkA 3
          have B0 : XB.cell? ⟨W8.heap.size, 0, none⟩ = some (.string ⟨(howV r1).toArray⟩) := cell_of_blk hkB 0
          have B1 : XB.cell? ⟨W8.heap.size, 1, none⟩ = some (.int .i64 (valV r1)) := cell_of_blk hkB 1
          have B2 : XB.cell? ⟨W8.heap.size, 2, none⟩ = some (.slice ad8 r1.st.out.length c8) := cell_of_blk hkB 2
          have B3 : XB.cell? ⟨W8.heap.size, 3, none⟩ = some (.int .i64 (r1.st.ticks : Int)) := cell_of_blk hkB 3
          unfold outC at hso
          have HSO := hidX hso
          have HAB := hidX hbAB
          clear h8 h8' hG2 hso ho8 hbB hkB hbr7 hbr8 hbrB hbAB hkA hb8 hbb hb37 hb36 hbw6 hb6
          unfold outC
          rw [hXB] at A0 A1 A2 A3 B0 B1 B2 B3
          go_wp2_with fail
          rw [← hXB]
          clear hXB A0 A1 A2 A3 B0 B1 B2 B3
          refine HSO.out.mono ?_
          rintro e X9 ⟨rfl, hb9⟩
          have hbA9 : Below XA.heap.size XA X9 := bl_trans HAB.out HAB.out.size hb9
          have hb39 : Below W3.heap.size W3 X9 := bl_trans HB3A.out HB3A.out.size hbA9
          have hbw9 : Below w.heap.size w X9 := bl_trans HBWA.out HBWA.out.size hbA9
          have hwf := prog_wf HG.out.2.1 HO.out
          have hquiet : ∀ i (hi : i < l.length), l[i].name = m → callsF l[i] = [] → printsS l[i].body = 0 → r1.st.out.length = 0 := by
            intro i hi h1 h2 h3
            have hfo := funOf_at hwf hi
            rw [h1] at hfo
            have := runX_quiet runOps (l := l) (m := m) (by rw [hfo]; exact h2) (by rw [hfo]; exact h3) args t
            rw [HRX.out] at this
            rw [this]; rfl
          obtain ⟨ys3, hr3, hk3⟩ := HX3.out
          have R3 := hidX hr3
          have KK3 := hidX hk3
          have HQT := hidX hquiet
          have HBA9 := hidX hbA9
          have HB39 := hidX hb39
          have HBW9 := hidX hbw9
          clear HZ1 HZ2 HZ3 HZ4 HBZ HB3R HBWR HZX HAR6 HOB HBB HSO HAB hb9 hbA9 hb39 hbw9 hwf hquiet hr3 hk3 hbl hi hy0 hy1 hy2
          go_wp2_with fail
          go_loopw [19] (fun vi wr => ∃ q : Nat, q ≤ l.length ∧ vi = .int .i64 q ∧ Below X9.heap.size X9 wr) (fun vi _ => l.length - (intOf vi).toNat)
          case atStart => exact ⟨0, Nat.zero_le _, rfl, Below.refl _ _⟩
          case round =>
            obtain ⟨q, hq, rfl, hbl⟩ := hrel
            by_cases hlt : q < l.length
            · have hlt' : (q : Int) < (l.length : Int) := by omega
              obtain ⟨ka, e1, e2⟩ := KK.out.at hlt
              obtain ⟨kp, p1, p2⟩ := KK3.out.at hlt
              have hmem := List.getElem_mem hlt
              have hqt := HQT.out q hlt
              have hlow := HLW.out _ hmem
              have hnn := nodesF_mem hmem
              have hnd := HND.out
              generalize l[q] = x at e1 p1 hqt hlow hnn
              have hba : Below XA.heap.size XA wr := bl_trans HBA9.out HBA9.out.size hbl
              have hb3 : Below W3.heap.size W3 wr := bl_trans HB39.out HB39.out.size hbl
              have hcc : ∀ X, Below wr.heap.size wr X → Calls Tryd.prog 13 #[.agg kp.toArray] X (TextsTo X (callsF x)) := fun X hX => calls_any x X kp (XF.imp (inH_up (bl_trans hb3 hb3.size hX)) (keepH (bl_trans hb3 hb3.size hX)) _ _ p1) hlow (by omega)
              obtain ⟨xm, xp, xb⟩ := x
              obtain ⟨pv, bv, bs, rfl, r2, r3, r4⟩ := e1
              obtain ⟨pvp, bvp, bsp, rfl, s2, s3, s4⟩ := p1
              obtain ⟨l1, l2, l3, l4, l5⟩ := hlow
              simp only at e2 p2 hqt r2 r3 r4 s2 s3 s4 l1 l2 l4 l5 hnn
              have hpr : ∀ X, Below XA.heap.size XA X → Calls Tryd.prog 19 #[bv] X fun e w' => e = .returned (.int .i64 (printsS xb : Nat)) ∧ ∃ m, w' = X.drewN m := fun X hX => prints_any xb X bv (XLS.imp ⟨bs, r3, r4⟩ (inH_up hX) (keepH hX)) l4 l5 (by omega)
              obtain ⟨g, off, rfl, hg, hx3⟩ := x3_at R.out hlt e2
              obtain ⟨gq, offp, hgq, hgp3, hx3p⟩ := x3_at R3.out hlt p2
              injection hgq with hgq
              injection hgq with hgq hoff
              subst hgq hoff
              obtain ⟨adb, cb, rfl⟩ := r3.is
              obtain ⟨adp2, cp2, rfl⟩ := s2.is
              obtain ⟨adb2, cb2, rfl⟩ := s3.is
              have ka1 := hx3.keep (hba.block g hg)
              have kp1 := hx3p.keep (hb3.block gp hgp3)
              have a0 := ka1.c0
              have a2 := ka1.c2
              have b0 := kp1.c0
              have b1 := kp1.c1
              have b2 := kp1.c2
              simp only [Nat.zero_add] at b0 b1 b2
              have hkr := (hba.block W5.heap.size hlA).trans HKA.out
              have o2 : wr.cell? ⟨W5.heap.size, 2, none⟩ = some (.slice ad5 r1.st.out.length c5) := cell_of_blk hkr 2
              have hcl := callsF_len ⟨xm, xp, xb⟩
              simp only at hcl
              have hpl := printsS_len xb
              generalize callsF ⟨xm, xp, xb⟩ = cf at hcc hqt hcl
              generalize printsS xb = pn at hpr hqt hpl
              have HCC := hidX hcc
              have HPR := hidX hpr
              have HQ1 := hidX hqt
              have hcf : (cf.length : Int) ≤ 300 := by omega
              have hpn : (pn : Int) ≤ 300 := by omega
              have HBL := hidX (bl_trans HBW9.out HBW9.out.size hbl)
              clear ka1 kp1 hx3 hx3p r2 r3 r4 s2 s3 s4 e2 p2 hcc hpr hqt hkr hcl hpl hmem hnn hnd
              by_cases hn : xm = m
              · subst hn
                have hn' : (xm == xm) = true := by simp
                go_wp2_with fail
                refine (HCC.out _ (by (repeat (first | exact Below.refl _ _ | assumption | refine Below.drew ?_ | refine Below.trans ?_ (drewN_below' _ _ _) | refine Below.setCell ?_ (by first | (simp; done) | (simp; omega)) _ | refine Below.alloc ?_ (by first | (simp; done) | (simp; omega)) _)))).mono ?_
                rintro e Y1 ⟨hy1, adc, cc, rfl, _⟩
                have hbY : Below wr.heap.size wr Y1 := by first | exact hy1 | exact bl_trans (show Below wr.heap.size wr _ by (repeat (first | exact Below.refl _ _ | assumption | refine Below.drew ?_ | refine Below.trans ?_ (drewN_below' _ _ _) | refine Below.setCell ?_ (by first | (simp; done) | (simp; omega)) _ | refine Below.alloc ?_ (by first | (simp; done) | (simp; omega)) _))) (by first | exact Nat.le_refl _ | (simp; done) | (simp; omega)) hy1
                have hbA1 : Below XA.heap.size XA Y1 := bl_trans hba hba.size hbY
                have hbX1 : Below X9.heap.size X9 Y1 := bl_trans hbl hbl.size hbY
                have hg1 : g < wr.heap.size := by have : g < XA.heap.size := hg; have := hba.size; omega
                have a2' := (hbY.cell (p := ⟨g, off + q * 3 + 2, none⟩) hg1).trans a2
                have o2' := (hbY.cell (p := ⟨W5.heap.size, 2, none⟩) (show W5.heap.size < wr.heap.size by have := hba.size; omega)).trans o2
                clear hy1 hbY a0 a2 b0 b1 b2 o2
                by_cases hc0 : cf.length = 0
                · have hc1 : ((cf.length : Int) == 0) = true := by simp [hc0]
                  have hcn : cf = [] := List.length_eq_zero_iff.1 hc0
                  have HPR1 := hidX (HPR.out Y1 hbA1)
                  by_cases hp0 : pn = 0
                  · have hout := HQ1.out (by first | rfl | trivial) hcn hp0
                    have hout' : ((r1.st.out.length : Nat) : Int) = 0 := by omega
                    subst hp0 hcn
                    clear hout hc0 HQ1
                    go_wp2_with fail
                    refine HPR1.out.mono ?_
                    rintro e Y2 ⟨rfl, m2, rfl⟩
                    go_wp2
                    go_roundw
                    case rel => exact ⟨q + 1, by omega, by go_num, by (repeat (first | exact Below.refl _ _ | assumption | refine Below.drew ?_ | refine Below.trans ?_ (drewN_below' _ _ _) | refine Below.setCell ?_ (by first | (simp; done) | (simp; omega)) _ | refine Below.alloc ?_ (by first | (simp; done) | (simp; omega)) _))⟩
                    case measure => simp [intOf]; omega
                  · have hp1 : ((pn : Int) == 0) = false := beq_eq_false_iff_ne.2 (by omega)
                    clear hc0 hp0 HQ1
                    go_wp2_with fail
                    refine HPR1.out.mono ?_
                    rintro e Y2 ⟨rfl, m2, rfl⟩
                    go_wp2
                    go_roundw
                    case rel => exact ⟨q + 1, by omega, by go_num, by (repeat (first | exact Below.refl _ _ | assumption | refine Below.drew ?_ | refine Below.trans ?_ (drewN_below' _ _ _) | refine Below.setCell ?_ (by first | (simp; done) | (simp; omega)) _ | refine Below.alloc ?_ (by first | (simp; done) | (simp; omega)) _))⟩
                    case measure => simp [intOf]; omega
                · have hc1 : ((cf.length : Int) == 0) = false := beq_eq_false_iff_ne.2 (by omega)
                  clear hc0 HQ1
                  go_wp2
                  go_roundw
                  case rel => exact ⟨q + 1, by omega, by go_num, hbX1⟩
                  case measure => simp [intOf]; omega
              · have hn' : (xm == m) = false := by simpa using hn
                clear hn HQ1
                go_wp2
                go_roundw
                case rel => exact ⟨q + 1, by omega, by go_num, hbl⟩
                case measure => simp [intOf]; omega
            · have hqn : q = l.length := by omega
              subst hqn
              go_wp2
              go_ret
              exact ⟨rfl, bl_trans HBW9.out HBW9.out.size hbl⟩
    · have h5' : Below W4.heap.size W4 W5 ∧ ∃ ev, ErrV a ev ∧ e = .returned (.tuple #[.agg (outC [] 0 (.slice none 0 0) 0), ev]) := h5.elim (fun h => h.2) (fun h => absurd h.1 hG)
      obtain ⟨hb5, ev, hE, he⟩ := h5'
      subst he
      have hb35 : Below W3.heap.size W3 W5 := bl_trans hba hba.size hb5
      have hbw5 : Below w.heap.size w W5 := bl_trans hbw3 hbw3.size hb35
      clear h5 hG hb35 hb5
      unfold outC
      rcases hE with ⟨k, rfl⟩ | ⟨b, rfl⟩
      all_goals (
        go_wp2
        go_ret
        exact ⟨rfl, hbw5.alloc hbw5.size _⟩)
end Go.Proofs.YtcebpmaggnephacDoor
