/-
  Our own: package tree's parser: the arguments of a call, with commas between.
-/
import Derived.Test.YtcebpmaggnephabDoorTreeInner
import Derived.Test.YtcebpmaggnephabDoorTreeCut
namespace Go.Proofs.YtcebpmaggnephabDoor
open Go.RowKit

/-- What is left to read behind an argument. -/
def tailT (T : List Tok) (n d : Nat) (es : List Ex) (j : Nat) : Rs (List Ex) :=
  if isT T kSign [44] j then moreT T n d es (j + 1) else (needT T kSign [41] j).bind fun _ j => .ok es j
theorem moreT_tail (T : List Tok) (n d : Nat) (es : List Ex) (i : Nat) : moreT T (n + 1) d es i = (exprT T n d 1 i).bind fun e j => tailT T n d (es ++ [e]) j := by rw [moreT]; rfl
theorem sees_ok {T : List Tok} {k x : List UInt8} {i : Nat} : seesB T k x (.ok () i) = decide (isT T k x i) := rfl
theorem sees_bad {T : List Tok} {k x : List UInt8} {c b : Nat} (hk : k ≠ []) : seesB T k x (.bad c b) = false := by
  unfold seesB nxt; simp [Ne.symm hk]
theorem skip_ok {T : List Tok} {k x : List UInt8} {i : Nat} : skipS T k x (.ok () i) = if isT T k x i then .ok () (i + 1) else .ok () i := by
  unfold skipS; rw [sees_ok]; by_cases h : isT T k x i <;> simp [h]
theorem skip_bad {T : List Tok} {k x : List UInt8} {c b : Nat} (hk : k ≠ []) : skipS T k x (.bad c b) = .bad c b := by
  unfold skipS; rw [sees_bad hk]; rfl
theorem Args.keep {p eb cnt : Nat} {nm : ByteArray} {es : Option (List Ex)} {w w' : World} (h : Args eb nm cnt es w) (hb : But p w w') (hp : p < eb) : Args eb nm cnt es w' := by
  obtain ⟨v, xs, h1, h2, h3⟩ := h
  refine ⟨v, xs, heap_keep hb h1 (by omega), own_but h2 hb (by omega), fun l hl => ⟨(h3 l hl).1, RepEs.imp (fun b hb' => ⟨hb'.1, Nat.lt_of_lt_of_le hb'.2.1 hb.size, hb'.2.2⟩) (fun b hb' => hb.block b hb'.2.1 (by have := hb'.1; omega)) _ _ (h3 l hl).2⟩⟩
theorem Args.none {eb cnt : Nat} {nm : ByteArray} {es : Option (List Ex)} {w : World} (h : Args eb nm cnt es w) : Args eb nm cnt none w := by
  obtain ⟨v, xs, h1, h2, _⟩ := h
  exact ⟨v, xs, h1, h2, fun l hl => by cases hl⟩
def Rs.list {α : Type} (r : Rs (List α)) : Option (List α) := match r with | .ok l _ => some l | _ => none
def Rs.more {α : Type} (r : Rs α) (l : List α) : Rs (List α) := r.bind fun e j => .ok (l ++ [e]) j
theorem more_st {α : Type} (r : Rs α) (l : List α) : (r.more l).st = r.st := by cases r <;> rfl
theorem more_list {α : Type} (r : Rs α) (l : List α) : (r.more l).list = r.add (some l) := by cases r <;> rfl
theorem PAt.le {T : List Tok} {a : Nat → Addr} {p d i : Nat} {w : World} (h : PAt T a p d (.ok () i) w) : i ≤ 1000 := by
  obtain ⟨hf, _, _, tv, j, ev, _, hj, _, rfl, _⟩ := h; omega
/-- What 'commas' leaves in a call's block. -/
def ComTo (T : List Tok) (a : Nat → Addr) (p d eb : Nat) (nm : ByteArray) (w : World) (r : Rs (List Ex)) (e : Ending) (w' : World) : Prop :=
  e = .returned (.tuple #[]) ∧ PAt T a p d r.st w' ∧ Bb p eb w w' ∧ ∃ cnt, Args eb nm cnt r.list w'
/-- The round of 'commas': what has been read, and what is left to read. -/
def ComR (T : List Tok) (a : Nat → Addr) (p d eb : Nat) (nm : ByteArray) (w : World) (r : Rs (List Ex)) (q : Nat) (wr : World) : Prop :=
  ∃ (rr : Rs (List Ex)) (cnt : Nat), PAt T a p d rr.st wr ∧ Bb p eb w wr ∧ Args eb nm cnt rr.list wr ∧ (∀ l j, rr = .ok l j → cnt ≤ j) ∧ rr.bind (tailT T q d) = r
set_option maxHeartbeats 1000000 in
set_option maxRecDepth 100000 in
theorem commas_args {T : List Tok} {a : Nat → Addr} {p n d i : Nat} {w : World} (hE : ∀ m, m < n → EOk T a p m) (h : PAt T a p d (.ok () i) w) (hout : argsT T n d i ≠ .out) (xb eb : Nat) (nm : ByteArray)
    (hxb : w.heap[xb]? = some (.cells #[ptrV p] 58 (0, 0))) (ha : Args eb nm 0 (some []) w) (h2 : p < xb) (h3 : p < eb) (h4 : xb < eb) :
    Calls Tryd.prog 35 #[ptrV p, .func (.func 94) #[] #[ptrV eb, ptrV xb]] w (ComTo T a p d eb nm w (argsT T n d i)) := by
  obtain ⟨n, rfl⟩ : ∃ m, n = m + 1 := by cases n with | zero => exact absurd (by rw [argsT]) hout | succ m => exact ⟨m, rfl⟩
  have hlte : eb < w.heap.size := by obtain ⟨v, xs, hx, _⟩ := ha; exact heap_lt hx
  have hs := skip_any h kSign [41] sign_ne
  rw [sees_ok, skip_ok] at hs
  by_cases hp : isT T kSign [41] i
  · rw [if_pos hp] at hs
    have he : argsT T (n + 1) d i = .ok [] (i + 1) := by rw [argsT, if_pos hp]
    rw [he]
    have hd : decide (isT T kSign [41] i) = true := by simpa using hp
    rw [hd] at hs
    go_enter Tryd.func35, Tryd.ntmps35
    go_wp2_with fail
    refine hs.mono ?_
    rintro e w2 ⟨rfl, hp2, hb2⟩
    go_wp2
    first | go_end0 | refine bodyPost_ret (v := .tuple #[]) (by simp [results, Tryd.results35, go_sem]) rfl ?_
    exact ⟨rfl, hp2, hb2.bb (by omega), 0, ha.keep hb2 h3⟩
  · rw [if_neg hp] at hs
    have he : argsT T (n + 1) d i = moreT T n d [] i := by rw [argsT, if_neg hp]
    rw [he] at hout ⊢
    have hd : decide (isT T kSign [41] i) = false := by simpa using hp
    rw [hd] at hs
    obtain ⟨q, rfl⟩ : ∃ m, n = m + 1 := by cases n with | zero => exact absurd (by rw [moreT]) hout | succ m => exact ⟨m, rfl⟩
    have hout2 : exprT T q d 1 i ≠ .out := fun e => hout (by rw [moreT_tail, e]; rfl)
    obtain ⟨r, hr⟩ : ∃ r, r = moreT T (q + 1) d [] i := ⟨_, rfl⟩
    rw [← hr] at hout ⊢
    rw [moreT_tail] at hr
    have HE := hid hE
    have HO := hid hout
    have HX := hid hxb
    have HA := hid ha
    have HRR := hid hr
    clear hE hout hxb ha he hd hp hr
    go_enter Tryd.func35, Tryd.ntmps35
    go_wp2_with fail
    refine hs.mono ?_
    rintro e w2 ⟨rfl, hp2, hb2⟩
    go_wp2_with fail
    refine (arg_any (HE.out q (by omega)) hp2 hout2 xb eb 0 nm (some []) (heap_keep hb2 HX.out (by omega)) (HA.out.keep hb2 h3) (by omega) h2 h3).mono ?_
    rintro e w3 ⟨rfl, hp3, hb3, ha3⟩
    have hb4 : Bb p eb w w3 := (hb2.bb (by omega)).trans hb3
    have hz2 := hb2.size
    have r0 : ComR T a p d eb nm w r q w3 := by
      refine ⟨(exprT T q d 1 i).more [], 1, by rw [more_st]; exact hp3, hb4, by rw [more_list]; exact ha3, fun l j hl => ?_, ?_⟩
      · cases hr : exprT T q d 1 i with
        | out => rw [hr] at hl; cases hl
        | bad c k => rw [hr] at hl; cases hl
        | ok x j' =>
          rw [hr] at hl
          cases hl
          have := (expr_past T q).1 d 1 i x _ hr
          omega
      · rw [HRR.out]; cases exprT T q d 1 i <;> rfl
    have R0 := hid r0
    clear r0 hp3 hb3 ha3 hs
    go_wp2_with fail
    go_loopg [] q (fun k wr => ComR T a p d eb nm w r k wr ∧ k ≤ q)
    case atStart => exact ⟨R0.out, Nat.le_refl _⟩
    case round =>
      obtain ⟨⟨rr, cnt, hpr, hbr, har, hcr, hrr⟩, hkq⟩ := hrel
      have hzr := hbr.size
      have hxr : wr.heap[xb]? = _ := hbr.heap HX.out h4 (by omega)
      have hsr := skip_any hpr kSign [44] sign_ne
      have HXR := hid hxr
      cases rr with
      | out => exact absurd hrr.symm HO.out
      | bad c k =>
        rw [Rs.st_bad, sees_bad sign_ne, skip_bad sign_ne] at hsr
        have HQ := hid hrr
        have HR2 := hid har
        clear hcr hrr har hxr
        go_wp2_with fail
        refine hsr.mono ?_
        rintro e w5 ⟨rfl, hp5, hb5⟩
        go_wp2_with fail
        refine (need_any hp5 kSign [41] sign_ne).mono ?_
        rintro e w6 ⟨rfl, hp6, hb6⟩
        go_wp2
        go_end0
        have hz5 := hb5.size
        refine ⟨rfl, ?_, (hbr.trans (hb5.bb (by omega))).trans (hb6.bb (by omega)), cnt, ?_⟩
        · rw [← HQ.out]; exact hp6
        · rw [← HQ.out]; exact (HR2.out.keep hb5 h3).keep hb6 h3
      | ok l j =>
        rw [Rs.st_ok, sees_ok, skip_ok] at hsr
        rw [Rs.bind_ok] at hrr
        have hcj := hcr l j rfl
        have hj := PAt.le hpr
        by_cases hcm : isT T kSign [44] j
        · rw [if_pos hcm, show decide (isT T kSign [44] j) = true from by simpa using hcm] at hsr
          have ht : tailT T gk d l j = moreT T gk d l (j + 1) := by unfold tailT; rw [if_pos hcm]
          rw [ht] at hrr
          obtain ⟨k', rfl⟩ : ∃ m, gk = m + 1 := by cases gk with | zero => exact absurd (hrr.symm.trans (by rw [moreT])) HO.out | succ m => exact ⟨m, rfl⟩
          rw [moreT_tail] at hrr
          have hout3 : exprT T k' d 1 (j + 1) ≠ .out := fun e => HO.out (by rw [← hrr, e]; rfl)
          have HQ := hid hrr
          have HR2 := hid har
          have HCM := hid hcm
          clear hcr hrr har hxr ht hcm
          go_wp2_with fail
          refine hsr.mono ?_
          rintro e w5 ⟨rfl, hp5, hb5⟩
          go_wp2_with fail
          refine (arg_any (HE.out k' (by omega)) hp5 hout3 xb eb cnt nm (some l) (heap_keep hb5 HXR.out (by omega)) (HR2.out.keep hb5 h3) (by omega) h2 h3).mono ?_
          rintro e w6 ⟨rfl, hp6, hb6, ha6⟩
          have hz5 := hb5.size
          have r1 : ComR T a p d eb nm w r k' w6 := by
            refine ⟨(exprT T k' d 1 (j + 1)).more l, cnt + 1, by rw [more_st]; exact hp6, (hbr.trans (hb5.bb (by omega))).trans hb6, by rw [more_list]; exact ha6, fun l2 j2 hl => ?_, ?_⟩
            · cases hr : exprT T k' d 1 (j + 1) with
              | out => rw [hr] at hl; cases hl
              | bad c k => rw [hr] at hl; cases hl
              | ok x j' =>
                rw [hr] at hl
                cases hl
                have := (expr_past T k').1 d 1 _ x _ hr
                omega
            · rw [← HQ.out]; cases exprT T k' d 1 (j + 1) <;> rfl
          have R1 := hid r1
          clear r1 hp6 hb6 ha6 hsr
          go_wp2
          go_roundg k'
          case measure => omega
          case rel => exact ⟨R1.out, by omega⟩
        · rw [if_neg hcm, show decide (isT T kSign [44] j) = false from by simpa using hcm] at hsr
          have ht : tailT T gk d l j = (needT T kSign [41] j).bind fun _ j => .ok l j := by unfold tailT; rw [if_neg hcm]
          rw [ht] at hrr
          have HQ := hid hrr
          have HR2 := hid har
          clear hcr hrr har hxr ht hcm
          go_wp2_with fail
          refine hsr.mono ?_
          rintro e w5 ⟨rfl, hp5, hb5⟩
          go_wp2_with fail
          refine (need_any hp5 kSign [41] sign_ne).mono ?_
          rintro e w6 ⟨rfl, hp6, hb6⟩
          go_wp2
          go_end0
          have hz5 := hb5.size
          have ha6 := (HR2.out.keep hb5 h3).keep hb6 h3
          refine ⟨rfl, ?_, (hbr.trans (hb5.bb (by omega))).trans (hb6.bb (by omega)), cnt, ?_⟩
          · rw [← HQ.out]
            have : needS T kSign [41] (.ok () j) = ((needT T kSign [41] j).bind fun _ j => Rs.ok l j).st := by
              simp only [needS, Rs.bind_ok]; cases needT T kSign [41] j <;> rfl
            rw [← this]; exact hp6
          · rw [← HQ.out]
            cases needT T kSign [41] j with
            | ok u j2 => exact ha6
            | bad c k => exact ha6.none
            | out => exact ha6.none
end Go.Proofs.YtcebpmaggnephabDoor
