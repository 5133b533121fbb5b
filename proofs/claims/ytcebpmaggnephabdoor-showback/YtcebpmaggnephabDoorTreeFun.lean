/-
  Our own: package tree's parser: a function.
-/
import Derived.Test.YtcebpmaggnephabDoorTreePars
import Derived.Test.YtcebpmaggnephabDoorTreeSub
namespace Go.Proofs.YtcebpmaggnephabDoor
open Go.RowKit

/-- What is left to read behind a parameter. -/
def tailN (T : List Tok) (n : Nat) (xs : List (List UInt8)) (j : Nat) : Rs (List (List UInt8)) :=
  if isT T kSign [44] j then namesT T n xs (j + 1) else (needT T kSign [41] j).bind fun _ j => .ok xs j
theorem namesT_tail (T : List Tok) (n : Nat) (xs : List (List UInt8)) (i : Nat) : namesT T (n + 1) xs i = (nameT T i).bind fun x j => tailN T n (xs ++ [x]) j := by rw [namesT]; rfl
/-- What 'commas' leaves in a function's block. -/
def NamTo (T : List Tok) (a : Nat → Addr) (p d fb : Nat) (nm : ByteArray) (w : World) (r : Rs (List (List UInt8))) (e : Ending) (w' : World) : Prop :=
  e = .returned (.tuple #[]) ∧ PAt T a p d r.st w' ∧ Bb p fb w w' ∧ ∃ cnt, Pars fb nm cnt r.list w'
def NamR (T : List Tok) (a : Nat → Addr) (p d fb : Nat) (nm : ByteArray) (w : World) (r : Rs (List (List UInt8))) (q : Nat) (wr : World) : Prop :=
  ∃ (rr : Rs (List (List UInt8))) (cnt : Nat), PAt T a p d rr.st wr ∧ Bb p fb w wr ∧ Pars fb nm cnt rr.list wr ∧ (∀ l j, rr = .ok l j → cnt ≤ j) ∧ rr.bind (tailN T q) = r
set_option maxHeartbeats 1000000 in
set_option maxRecDepth 100000 in
theorem commas_names {T : List Tok} {a : Nat → Addr} {p n d : Nat} {s : Rs Unit} {w : World} (h : PAt T a p d s w) (hout : s.via (paramsT T n) ≠ .out) (xb eb : Nat) (nm : ByteArray)
    (hxb : w.heap[xb]? = some (.cells #[ptrV p] 58 (0, 0))) (ha : Pars eb nm 0 (some []) w) (h2 : p < xb) (h3 : p < eb) (h4 : xb < eb) :
    Calls Tryd.prog 35 #[ptrV p, .func (.func 36) #[] #[ptrV eb, ptrV xb]] w (NamTo T a p d eb nm w (s.via (paramsT T n))) := by
  have hlte : eb < w.heap.size := by obtain ⟨v, xs, hx, _⟩ := ha; exact heap_lt hx
  have hs := skip_any h kSign [41] sign_ne
  cases hp : seesB T kSign [41] s with
  | true =>
    obtain ⟨i, rfl, _⟩ := nxt_ok h (by rw [(of_decide_eq_true hp).1]; decide)
    have he : Rs.via (.ok () i) (paramsT T n) = .ok [] (i + 1) := by rw [Rs.via_ok, paramsT, if_pos (show isT T kSign [41] i from of_decide_eq_true hp)]
    rw [he]
    rw [hp, skip_yes hp] at hs
    go_enter Tryd.func35, Tryd.ntmps35
    go_wp2_with fail
    refine hs.mono ?_
    rintro e w2 ⟨rfl, hp2, hb2⟩
    go_wp2
    first | go_end0 | refine bodyPost_ret (v := .tuple #[]) (by simp [results, Tryd.results35, go_sem]) rfl ?_
    exact ⟨rfl, hp2, hb2.bb (by omega), 0, ha.keep hb2 h3⟩
  | false =>
    rw [hp, skip_no hp] at hs
    obtain ⟨r, hr⟩ : ∃ r, r = s.via (paramsT T n) := ⟨_, rfl⟩
    rw [← hr] at hout ⊢
    have hq : ∃ q, r = (nameR T s).bind fun x j => tailN T q ([] ++ [x]) j := by
      cases s with
      | out => exact absurd hr hout
      | bad c k => exact ⟨0, hr⟩
      | ok u i =>
        rw [sees_ok] at hp
        rw [Rs.via_ok, paramsT, if_neg (by simpa using hp)] at hr
        cases n with
        | zero => exact absurd (hr.trans (by rw [namesT])) hout
        | succ q => exact ⟨q, by rw [hr, namesT_tail]; rfl⟩
    obtain ⟨q, hq⟩ := hq
    have HO := hid hout
    have HX := hid hxb
    have HA := hid ha
    have HRR := hid hq
    clear hout hxb ha hp hr hq
    go_enter Tryd.func35, Tryd.ntmps35
    go_wp2_with fail
    refine hs.mono ?_
    rintro e w2 ⟨rfl, hp2, hb2⟩
    go_wp2_with fail
    refine (pars_any hp2 xb eb 0 nm (some []) (heap_keep hb2 HX.out (by omega)) (HA.out.keep hb2 h3) (by omega) h2 h3).mono ?_
    rintro e w3 ⟨rfl, hp3, hb3, ha3⟩
    have hb4 : Bb p eb w w3 := (hb2.bb (by omega)).trans hb3
    have hz2 := hb2.size
    have r0 : NamR T a p d eb nm w r q w3 := by
      refine ⟨(nameR T s).more [], 1, by rw [more_st]; exact hp3, hb4, by rw [more_list]; exact ha3, fun l j hl => ?_, ?_⟩
      · cases s with
        | out => cases hl
        | bad c k => cases hl
        | ok u i =>
          cases hr : nameT T i with
          | out => rw [show nameR T (.ok u i) = nameT T i from rfl, hr] at hl; cases hl
          | bad c k => rw [show nameR T (.ok u i) = nameT T i from rfl, hr] at hl; cases hl
          | ok x j' =>
            rw [show nameR T (.ok u i) = nameT T i from rfl, hr] at hl
            cases hl
            have := name_past T i x _ hr
            omega
      · rw [HRR.out]; cases nameR T s <;> rfl
    have R0 := hid r0
    clear r0 hp3 hb3 ha3 hs
    go_wp2_with fail
    go_loopg [] q (fun k wr => NamR T a p d eb nm w r k wr ∧ k ≤ q)
    case atStart => exact ⟨R0.out, Nat.le_refl _⟩
    case round =>
      obtain ⟨⟨rr, cnt, hpr, hbr, har, hcr, hrr⟩, hkq⟩ := hrel
      have hzr := hbr.size
      have hxr : wr.heap[xb]? = _ := hbr.heap HX.out h4 (by omega)
      have hsr := skip_any hpr kSign [44] sign_ne
      have HXR := hid hxr
      cases rr with
      | out => exact absurd hrr.symm HO.out
      | bad c k =>
        rw [Rs.st_bad, sees_bad sign_ne, skip_bad sign_ne] at hsr
        have HQ := hid hrr
        have HR2 := hid har
        clear hcr hrr har hxr
        go_wp2_with fail
        refine hsr.mono ?_
        rintro e w5 ⟨rfl, hp5, hb5⟩
        go_wp2_with fail
        refine (need_any hp5 kSign [41] sign_ne).mono ?_
        rintro e w6 ⟨rfl, hp6, hb6⟩
        go_wp2
        go_end0
        have hz5 := hb5.size
        refine ⟨rfl, ?_, (hbr.trans (hb5.bb (by omega))).trans (hb6.bb (by omega)), cnt, ?_⟩
        · rw [← HQ.out]; exact hp6
        · rw [← HQ.out]; exact (HR2.out.keep hb5 h3).keep hb6 h3
      | ok l j =>
        rw [Rs.st_ok, sees_ok, skip_ok] at hsr
        rw [Rs.bind_ok] at hrr
        have hcj := hcr l j rfl
        have hj := PAt.le hpr
        by_cases hcm : isT T kSign [44] j
        · rw [if_pos hcm, show decide (isT T kSign [44] j) = true from by simpa using hcm] at hsr
          have ht : tailN T gk l j = namesT T gk l (j + 1) := by unfold tailN; rw [if_pos hcm]
          rw [ht] at hrr
          obtain ⟨k', rfl⟩ : ∃ m, gk = m + 1 := by cases gk with | zero => exact absurd (hrr.symm.trans (by rw [namesT])) HO.out | succ m => exact ⟨m, rfl⟩
          rw [namesT_tail] at hrr
          have HQ := hid hrr
          have HR2 := hid har
          clear hcr hrr har hxr ht hcm
          go_wp2_with fail
          refine hsr.mono ?_
          rintro e w5 ⟨rfl, hp5, hb5⟩
          go_wp2_with fail
          refine (pars_any hp5 xb eb cnt nm (some l) (heap_keep hb5 HXR.out (by omega)) (HR2.out.keep hb5 h3) (by omega) h2 h3).mono ?_
          rintro e w6 ⟨rfl, hp6, hb6, ha6⟩
          have hz5 := hb5.size
          have r1 : NamR T a p d eb nm w r k' w6 := by
            refine ⟨(nameT T (j + 1)).more l, cnt + 1, by rw [more_st]; exact hp6, (hbr.trans (hb5.bb (by omega))).trans hb6, by rw [more_list]; exact ha6, fun l2 j2 hl => ?_, ?_⟩
            · cases hr : nameT T (j + 1) with
              | out => rw [hr] at hl; cases hl
              | bad c k => rw [hr] at hl; cases hl
              | ok x j' =>
                rw [hr] at hl
                cases hl
                have := name_past T _ x _ hr
                omega
            · rw [← HQ.out]; cases nameT T (j + 1) <;> rfl
          have R1 := hid r1
          clear r1 hp6 hb6 ha6 hsr
          go_wp2
          go_roundg k'
          case measure => omega
          case rel => exact ⟨R1.out, by omega⟩
        · rw [if_neg hcm, show decide (isT T kSign [44] j) = false from by simpa using hcm] at hsr
          have ht : tailN T gk l j = (needT T kSign [41] j).bind fun _ j => .ok l j := by unfold tailN; rw [if_neg hcm]
          rw [ht] at hrr
          have HQ := hid hrr
          have HR2 := hid har
          clear hcr hrr har hxr ht hcm
          go_wp2_with fail
          refine hsr.mono ?_
          rintro e w5 ⟨rfl, hp5, hb5⟩
          go_wp2_with fail
          refine (need_any hp5 kSign [41] sign_ne).mono ?_
          rintro e w6 ⟨rfl, hp6, hb6⟩
          go_wp2
          go_end0
          have hz5 := hb5.size
          have ha6 := (HR2.out.keep hb5 h3).keep hb6 h3
          refine ⟨rfl, ?_, (hbr.trans (hb5.bb (by omega))).trans (hb6.bb (by omega)), cnt, ?_⟩
          · rw [← HQ.out]
            have : needS T kSign [41] (.ok () j) = ((needT T kSign [41] j).bind fun _ j => Rs.ok l j).st := by
              simp only [needS, Rs.bind_ok]; cases needT T kSign [41] j <;> rfl
            rw [← this]; exact hp6
          · rw [← HQ.out]
            cases needT T kSign [41] j with
            | ok u j2 => exact ha6
            | bad c k => exact ha6.none
            | out => exact ha6.none
/-- What a reader of a function leaves. -/
def FuTo (T : List Tok) (a : Nat → Addr) (p : Nat) (w : World) (r : Rs Fu) (e : Ending) (w' : World) : Prop :=
  ∃ nm ad1 l1 c1 ad2 l2 c2, e = .returned (.agg #[.string nm, .slice ad1 l1 c1, .slice ad2 l2 c2]) ∧ (∀ x j, r = .ok x j → RepF (InB w.heap.size w') w' x [.string nm, .slice ad1 l1 c1, .slice ad2 l2 c2]) ∧ PAt T a p 0 r.st w' ∧ But p w w'
/-- The states of a function's reading. -/
theorem fun_st {T : List Tok} {n : Nat} (s : Rs Unit) : ∃ (s1 : Rs Unit) (r2 : Rs (List UInt8)) (s3 : Rs Unit) (r4 : Rs (List (List UInt8))) (r5 : Rs (List Sm)), needS T kWord kFn s = s1 ∧ nameR T s1 = r2 ∧ needS T kSign [40] r2.st = s3 ∧ s3.via (paramsT T n) = r4 ∧ r4.st.via (blockT T n 0) = r5 ∧
    (s.via (funT T n)).st = r5.st ∧ (s.via (funT T n) ≠ .out → r4 ≠ .out ∧ r5 ≠ .out) ∧ ∀ f j, s.via (funT T n) = .ok f j → ∃ x j2 ps j4 b, r2 = .ok x j2 ∧ r4 = .ok ps j4 ∧ r5 = .ok b j ∧ f = ⟨x, ps, b⟩ := by
  refine ⟨_, _, _, _, _, rfl, rfl, rfl, rfl, rfl, ?_⟩
  cases s with
  | out => exact ⟨rfl, fun h => h.elim rfl, fun _ _ h => by cases h⟩
  | bad c k => exact ⟨rfl, fun _ => ⟨fun h => (by cases h), fun h => (by cases h)⟩, fun _ _ h => (by cases h)⟩
  | ok u i =>
    rw [Rs.via_ok, funT, show needS T kWord kFn (.ok u i) = needT T kWord kFn i from rfl]
    cases needT T kWord kFn i with
    | out => exact ⟨rfl, fun h => h.elim rfl, fun _ _ h => by cases h⟩
    | bad c k => exact ⟨rfl, fun _ => ⟨fun h => (by cases h), fun h => (by cases h)⟩, fun _ _ h => (by cases h)⟩
    | ok u1 i1 =>
      rw [Rs.bind_ok, show nameR T (.ok u1 i1) = nameT T i1 from rfl]
      cases nameT T i1 with
      | out => exact ⟨rfl, fun h => h.elim rfl, fun _ _ h => by cases h⟩
      | bad c k => exact ⟨rfl, fun _ => ⟨fun h => (by cases h), fun h => (by cases h)⟩, fun _ _ h => (by cases h)⟩
      | ok x i2 =>
        rw [Rs.bind_ok, Rs.st_ok, show needS T kSign [40] (.ok () i2) = needT T kSign [40] i2 from rfl]
        cases needT T kSign [40] i2 with
        | out => exact ⟨rfl, fun h => h.elim rfl, fun _ _ h => by cases h⟩
        | bad c k => exact ⟨rfl, fun _ => ⟨fun h => (by cases h), fun h => (by cases h)⟩, fun _ _ h => (by cases h)⟩
        | ok u3 i3 =>
          rw [Rs.bind_ok, Rs.via_ok]
          cases paramsT T n i3 with
          | out => exact ⟨rfl, fun h => h.elim rfl, fun _ _ h => by cases h⟩
          | bad c k => exact ⟨rfl, fun _ => ⟨fun h => (by cases h), fun h => (by cases h)⟩, fun _ _ h => (by cases h)⟩
          | ok ps i4 =>
            rw [Rs.bind_ok, Rs.st_ok, Rs.via_ok]
            cases blockT T n 0 i4 with
            | out => exact ⟨rfl, fun h => h.elim rfl, fun _ _ h => by cases h⟩
            | bad c k => exact ⟨rfl, fun _ => ⟨fun h => (by cases h), fun h => (by cases h)⟩, fun _ _ h => (by cases h)⟩
            | ok b j => exact ⟨rfl, fun _ => ⟨fun h => (by cases h), fun h => (by cases h)⟩, fun f j h => by cases h; exact ⟨x, i2, ps, i4, b, rfl, rfl, rfl, rfl⟩⟩
theorem set3_blk {w : World} {r : Nat} {x0 x1 x2 : Value} {t : TypeId} (h : w.heap[r]? = some (.cells #[x0, x1, x2] t (0, 0))) (u0 u1 u2 : Value) :
    (((w.setCell ⟨r, 0, none⟩ u0).setCell ⟨r, 1, none⟩ u1).setCell ⟨r, 2, none⟩ u2).heap[r]? = some (.cells #[u0, u1, u2] t (0, 0)) := by
  have := blk_setCell (blk_setCell (blk_setCell h 0 u0) 1 u1) 2 u2
  simpa using this
/-- The end of a reader of a function: its result is laid into block r. -/
theorem ret_fu {T : List Tok} {a : Nat → Addr} {p : Nat} {w w1 : World} {res : Rs Fu} {fn : Func} {tmps : Array Value} {r sl : Nat} {x0 x1 x2 : Value} {nm : ByteArray} {ad1 : Option Addr} {l1 c1 : Nat} {ad2 : Option Addr} {l2 c2 : Nat}
    (hres : fn.results = #[ResultVar.cell sl 52]) (hsl : tmps[sl]? = some (ptrV r)) (hr : p < r) (hs : w.heap.size ≤ r)
    (hx : w1.heap[r]? = some (.cells #[x0, x1, x2] 52 (0, 0))) (hp : PAt T a p 0 res.st w1) (hb : But p w w1)
    (hrep : ∀ x j, res = .ok x j → RepF (InB (r + 1) w1) w1 x [.string nm, .slice ad1 l1 c1, .slice ad2 l2 c2]) :
    bodyPost Tryd.prog fn (FuTo T a p w res) Exit.ret { tmps := tmps, defers := [] } (((w1.setCell ⟨r, 0, none⟩ (.string nm)).setCell ⟨r, 1, none⟩ (.slice ad1 l1 c1)).setCell ⟨r, 2, none⟩ (.slice ad2 l2 c2)) := by
  have hf : Far w1 r := ⟨_, _, hx, by decide⟩
  have h3 := set3_blk hx (.string nm) (.slice ad1 l1 c1) (.slice ad2 l2 c2)
  have hp3 : PAt T a p 0 res.st (((w1.setCell ⟨r, 0, none⟩ (.string nm)).setCell ⟨r, 1, none⟩ (.slice ad1 l1 c1)).setCell ⟨r, 2, none⟩ (.slice ad2 l2 c2)) := ((hp.setCell hr hf _ _).setCell hr (hf.set _ _) _ _).setCell hr ((hf.set _ _).set _ _) _ _
  have hb3 : But p w (((w1.setCell ⟨r, 0, none⟩ (.string nm)).setCell ⟨r, 1, none⟩ (.slice ad1 l1 c1)).setCell ⟨r, 2, none⟩ (.slice ad2 l2 c2)) := ((hb.setNew r 0 hs _).setNew r 1 hs _).setNew r 2 hs _
  have hk3 : ∀ b, b ≠ r → (((w1.setCell ⟨r, 0, none⟩ (.string nm)).setCell ⟨r, 1, none⟩ (.slice ad1 l1 c1)).setCell ⟨r, 2, none⟩ (.slice ad2 l2 c2)).heap[b]? = w1.heap[b]? := fun b hb => by rw [heap_far hb, heap_far hb, heap_far hb]
  have hz3 : (((w1.setCell ⟨r, 0, none⟩ (.string nm)).setCell ⟨r, 1, none⟩ (.slice ad1 l1 c1)).setCell ⟨r, 2, none⟩ (.slice ad2 l2 c2)).heap.size = w1.heap.size := by simp [World.setCell]
  generalize ((w1.setCell ⟨r, 0, none⟩ (.string nm)).setCell ⟨r, 1, none⟩ (.slice ad1 l1 c1)).setCell ⟨r, 2, none⟩ (.slice ad2 l2 c2) = W at h3 hp3 hb3 hk3 hz3 ⊢
  have s0 := cell_of_blk h3 0
  have s1 := cell_of_blk h3 1
  have s2 := cell_of_blk h3 2
  refine bodyPost_ret (v := .agg #[.string nm, .slice ad1 l1 c1, .slice ad2 l2 c2]) ?_ rfl ⟨_, _, _, _, _, _, _, rfl, fun x j hj => ?_, hp3, hb3⟩
  · simp [results, hres, hsl, go_sem, s0, s1, s2]
  · exact RepF.imp (fun b hb => ⟨by have := hb.1; omega, by have := hb.2; omega⟩) (fun b hb => hk3 b (by have := hb.1; omega)) _ _ (hrep x j hj)
theorem Pars.rep {fb rb cnt : Nat} {nm : ByteArray} {ps : Option (List (List UInt8))} {w : World} (h : Pars fb nm cnt ps w) (hr : rb ≤ fb + 1) :
    ∃ ad n c, w.heap[fb]? = some (.cells #[.string nm, .slice ad n c, .slice Option.none 0 0] 52 (0, 0)) ∧ ∀ l, ps = some l → Row (fun b => rb ≤ b ∧ b < w.heap.size ∧ b ≠ fb) w (.slice ad n c) l.length (textsC l) := by
  obtain ⟨v, xs, h1, h2, h3⟩ := h
  obtain ⟨ad, c, rfl⟩ := tokEmpty' h2
  refine ⟨ad, cnt, c, h1, fun l hl => ?_⟩
  obtain ⟨h4, h5⟩ := h3 l hl
  rw [h4, ← h5]
  exact own_row h2 (fun g hg hz => ⟨by omega, hz, by omega⟩)
set_option maxRecDepth 100000 in
theorem fun_any {T : List Tok} {a : Nat → Addr} {p n : Nat} {s : Rs Unit} {w : World} (HT : ∀ t ∈ T, t.Good) (h : PAt T a p 0 s w) (hout : s.via (funT T n) ≠ .out) :
    Calls Tryd.prog 19 #[ptrV p] w (FuTo T a p w (s.via (funT T n))) := by
  have hlt := h.lt
  obtain ⟨s1, r2, s3, r4, r5, e1, e2, e3, e4, e5, e6, e7, e8⟩ := fun_st (T := T) (n := n) s
  have e9 := e7 hout
  obtain ⟨r, hr⟩ : ∃ r, r = s.via (funT T n) := ⟨_, rfl⟩
  rw [← hr] at e6 e8 ⊢
  have HB := hid (bok (a := a) (p := p) HT n)
  have E1 := hid e1
  have E2 := hid e2
  have E3 := hid e3
  have E4 := hid e4
  have E5 := hid e5
  have E6 := hid e6
  have E8 := hid e8
  have E9 := hid e9
  clear e1 e2 e3 e4 e5 e6 e7 e8 e9 hr hout HT
  go_enter Tryd.func19, Tryd.ntmps19
  go_wp2_with fail
  have b0 : Below w.heap.size w (((w.alloc (.cells #[ptrV p] 58)).alloc (.cells #[.string ⟨#[]⟩, .slice none 0 0, .slice none 0 0] 52)).alloc (.cells #[.string ⟨#[]⟩, .slice none 0 0, .slice none 0 0] 52)) := by (repeat (first | exact Below.refl _ _ | assumption | refine Below.drew ?_ | refine Below.trans ?_ (drewN_below' _ _ _) | refine Below.setCell ?_ (by first | (simp; done) | (simp; omega)) _ | refine Below.alloc ?_ (by first | (simp; done) | (simp; omega)) _))
  have hx0 : (((w.alloc (.cells #[ptrV p] 58)).alloc (.cells #[.string ⟨#[]⟩, .slice none 0 0, .slice none 0 0] 52)).alloc (.cells #[.string ⟨#[]⟩, .slice none 0 0, .slice none 0 0] 52)).heap[w.heap.size]? = some (.cells #[ptrV p] 58 (0, 0)) := by
    rw [Below.heap_alloc _ _ _ (by simp; omega), Below.heap_alloc _ _ _ (by simp)]; exact heap_alloc_new _ _
  have hr0 : (((w.alloc (.cells #[ptrV p] 58)).alloc (.cells #[.string ⟨#[]⟩, .slice none 0 0, .slice none 0 0] 52)).alloc (.cells #[.string ⟨#[]⟩, .slice none 0 0, .slice none 0 0] 52)).heap[w.heap.size + 1]? = some (.cells #[.string ⟨#[]⟩, .slice none 0 0, .slice none 0 0] 52 (0, 0)) := by
    rw [Below.heap_alloc _ _ _ (by simp)]
    have := heap_alloc_new (w.alloc (.cells #[ptrV p] 58)) (.cells #[.string ⟨#[]⟩, .slice none 0 0, .slice none 0 0] 52)
    rwa [size_alloc] at this
  have hf0 : (((w.alloc (.cells #[ptrV p] 58)).alloc (.cells #[.string ⟨#[]⟩, .slice none 0 0, .slice none 0 0] 52)).alloc (.cells #[.string ⟨#[]⟩, .slice none 0 0, .slice none 0 0] 52)).heap[w.heap.size + 2]? = some (.cells #[.string ⟨#[]⟩, .slice none 0 0, .slice none 0 0] 52 (0, 0)) := by
    have := heap_alloc_new ((w.alloc (.cells #[ptrV p] 58)).alloc (.cells #[.string ⟨#[]⟩, .slice none 0 0, .slice none 0 0] 52)) (.cells #[.string ⟨#[]⟩, .slice none 0 0, .slice none 0 0] 52)
    rwa [size_alloc, size_alloc] at this
  have hz0 : (((w.alloc (.cells #[ptrV p] 58)).alloc (.cells #[.string ⟨#[]⟩, .slice none 0 0, .slice none 0 0] 52)).alloc (.cells #[.string ⟨#[]⟩, .slice none 0 0, .slice none 0 0] 52)).heap.size = w.heap.size + 3 := by rw [size_alloc, size_alloc, size_alloc]
  generalize ((w.alloc (.cells #[ptrV p] 58)).alloc (.cells #[.string ⟨#[]⟩, .slice none 0 0, .slice none 0 0] 52)).alloc (.cells #[.string ⟨#[]⟩, .slice none 0 0, .slice none 0 0] 52) = w0 at b0 hx0 hr0 hf0 hz0 ⊢
  refine (need_any (h.keep b0) kWord kFn word_ne).mono ?_
  rw [E1.out]
  rintro e w1 ⟨rfl, hp1, hb1⟩
  have hz1 := hb1.size
  have hx1 := heap_keep hb1 hx0 (by omega)
  have hr1 := heap_keep hb1 hr0 (by omega)
  have hf1 := heap_keep hb1 hf0 (by omega)
  have x1 : w1.cell? ⟨w.heap.size, 0, none⟩ = some (ptrV p) := cell_of_blk hx1 0
  have H1 := hid (And.intro hx1 (And.intro hr1 hf1))
  clear hx0 hr0 hf0 hx1 hr1 hf1
  go_wp2_with fail
  refine (tname_any hp1).mono ?_
  rw [E2.out]
  rintro e w2 ⟨x, rfl, hxx, hp2, hb2⟩
  have hz2 := hb2.size
  have hx2 := heap_keep hb2 H1.out.1 (by omega)
  have hr2 := heap_keep hb2 H1.out.2.1 (by omega)
  have hf2 := heap_keep hb2 H1.out.2.2 (by omega)
  have x2 : w2.cell? ⟨w.heap.size, 0, none⟩ = some (ptrV p) := cell_of_blk hx2 0
  have f20 := cell_of_blk hf2 0
  have g20 := free_of_blk hf2 0
  have lf2 := heap_lt hf2
  have H2 := hid (And.intro hx2 (And.intro hr2 hf2))
  have HP2 := hid hp2
  have HXX := hid hxx
  clear hx2 hr2 hf2 hp2 hxx
  go_wp2_with fail
  obtain ⟨hx2, hr2, hf2⟩ := H2.out
  have p3 := HP2.out.setCell (r := w.heap.size + 2) (by omega) ⟨_, _, hf2, by decide⟩ 0 (.string ⟨x.toArray⟩)
  have b3 : But p w (w2.setCell ⟨w.heap.size + 2, 0, none⟩ (.string ⟨x.toArray⟩)) := (((But.of b0).trans hb1).trans hb2).setNew _ 0 (by omega) _
  have hf3 := (blk_setCell hf2 0 (.string ⟨x.toArray⟩)).trans rfl
  have hx3 := (heap_far (w := w2) (r := w.heap.size + 2) (i := 0) (u := .string ⟨x.toArray⟩) (by omega : w.heap.size ≠ w.heap.size + 2)).trans hx2
  have hr3 := (heap_far (w := w2) (r := w.heap.size + 2) (i := 0) (u := .string ⟨x.toArray⟩) (by omega : w.heap.size + 1 ≠ w.heap.size + 2)).trans hr2
  have hz3 : (w2.setCell ⟨w.heap.size + 2, 0, none⟩ (.string ⟨x.toArray⟩)).heap.size = w2.heap.size := by simp [World.setCell]
  generalize w2.setCell ⟨w.heap.size + 2, 0, none⟩ (.string ⟨x.toArray⟩) = w3 at p3 b3 hf3 hx3 hr3 hz3 ⊢
  refine (need_any p3 kSign [40] sign_ne).mono ?_
  rw [E3.out]
  rintro e w4 ⟨rfl, hp4, hb4⟩
  have hz4 := hb4.size
  have hx4 := heap_keep hb4 hx3 (by omega)
  have hr4 := heap_keep hb4 hr3 (by omega)
  have hf4 := heap_keep hb4 hf3 (by omega)
  have x4 : w4.cell? ⟨w.heap.size, 0, none⟩ = some (ptrV p) := cell_of_blk hx4 0
  have H4 := hid (And.intro hx4 (And.intro hr4 hf4))
  clear hx3 hr3 hf3 hx4 hr4 hf4
  go_wp2_with fail
  refine (commas_names (n := n) hp4 (by rw [E4.out]; exact E9.out.1) w.heap.size (w.heap.size + 2) ⟨x.toArray⟩ H4.out.1 (pars_new H4.out.2.2) (by omega) (by omega) (by omega)).mono ?_
  rw [E4.out]
  rintro e w5 ⟨rfl, hp5, hb5, cnt, hpa⟩
  have hz5 := hb5.size
  have hx5 := hb5.heap H4.out.1 (by omega) (by omega)
  have hr5 := hb5.heap H4.out.2.1 (by omega) (by omega)
  obtain ⟨ad1, l1, c1, hf5, hrow⟩ := hpa.rep (rb := w.heap.size + 2) (by omega)
  have x5 : w5.cell? ⟨w.heap.size, 0, none⟩ = some (ptrV p) := cell_of_blk hx5 0
  have b5 : But p w w5 := Bb.base (b3.trans hb4) hb5 (by omega)
  have H5 := hid (And.intro hx5 (And.intro hr5 hf5))
  have HROW := hid hrow
  clear hx5 hr5 hf5 hrow hpa
  go_wp2_with fail
  refine (HB.out 0 _ w5 hp5 (by rw [E5.out]; exact E9.out.2)).mono ?_
  rw [E5.out]
  rintro e w6 hx6
  obtain ⟨ad2, l2, c2, rfl, k1, k2, k3⟩ := hx6.rep (rb := w.heap.size + 2) (by have := heap_lt H5.out.2.2; omega)
  have hz6 := k3.size
  have hr6 := heap_keep k3 H5.out.2.1 (by omega)
  have hf6 := heap_keep k3 H5.out.2.2 (by omega)
  have lr6 := heap_lt hr6
  have lf6 := heap_lt hf6
  have f60 := cell_of_blk hf6 0
  have f61 := cell_of_blk hf6 1
  have f62 := cell_of_blk hf6 2
  have g62 := free_of_blk hf6 2
  have r60 := cell_of_blk hr6 0
  have r61 := cell_of_blk hr6 1
  have r62 := cell_of_blk hr6 2
  have q60 := free_of_blk hr6 0
  have q61 := free_of_blk hr6 1
  have q62 := free_of_blk hr6 2
  have H6 := hid (And.intro hr6 hf6)
  have K1 := hid k1
  have K2 := hid k2
  clear hr6 hf6 k1 k2 hx6
  go_wp2
  have t1 := K2.out.setCell (r := w.heap.size + 2) (by omega) ⟨_, _, H6.out.2, by decide⟩ 2 (.slice ad2 l2 c2)
  have t2 : But p w (w6.setCell ⟨w.heap.size + 2, 2, none⟩ (.slice ad2 l2 c2)) := (b5.trans k3).setNew _ 2 (by omega) _
  have t3 : ∀ b, b ≠ w.heap.size + 2 → (w6.setCell ⟨w.heap.size + 2, 2, none⟩ (.slice ad2 l2 c2)).heap[b]? = w6.heap[b]? := fun b hb => heap_far hb
  have t4 : (w6.setCell ⟨w.heap.size + 2, 2, none⟩ (.slice ad2 l2 c2)).heap.size = w6.heap.size := by simp [World.setCell]
  generalize w6.setCell ⟨w.heap.size + 2, 2, none⟩ (.slice ad2 l2 c2) = w7 at t1 t2 t3 t4 ⊢
  refine ret_fu Tryd.results19 rfl (by omega) (by omega) ((t3 _ (by omega)).trans H6.out.1) (by rw [E6.out]; exact t1) t2 (fun f j hf => ?_)
  obtain ⟨x', j2, ps, j4, b, q1, q2, q3, rfl⟩ := E8.out f j hf
  obtain rfl := HXX.out x' j2 q1
  have hrow := HROW.out ps (by rw [q2]; rfl)
  obtain ⟨bs, v1, v2⟩ := K1.out b j q3
  have ki : ∀ b, InB (w.heap.size + 2 + 1) w6 b → InB (w.heap.size + 1 + 1) w7 b := fun b hb => ⟨by have := hb.1; omega, by have := hb.2; omega⟩
  have kk : KeepA (InB (w.heap.size + 2 + 1) w6) w6 w7 := fun b hb => t3 b (by have := hb.1; omega)
  exact ⟨_, _, bs, rfl, hrow.imp (fun b hb => ⟨by have := hb.1; omega, by have := hb.2.1; omega⟩) (fun b hb => (t3 b hb.2.2).trans (k3.block b hb.2.1 (by have := hb.1; omega))), v1.imp ki kk, RepSs.imp ki kk _ _ v2⟩
end Go.Proofs.YtcebpmaggnephabDoor
