/-
  Our own: package check: a variable that is used, one that is declared, a function that is called.
-/
import Derived.Test.YtcebpmaggnephabGreatDoorCheckMap
import Derived.Test.YtcebpmaggnephabGreatDoorCheckLarge
namespace Go.Proofs.YtcebpmaggnephabGreatDoor
open Go.RowKit Go.Maps

theorem none_glob {w : World} {a : Nat → Addr} (h : Sents w a) : w.cell? ⟨6, 0, none⟩ = some (sentV (a 5)) := h.glob 5 (by decide)
theorem exist_glob {w : World} {a : Nat → Addr} (h : Sents w a) : w.cell? ⟨7, 0, none⟩ = some (sentV (a 6)) := h.glob 6 (by decide)
theorem full_glob {w : World} {a : Nat → Addr} (h : Sents w a) : w.cell? ⟨0, 0, none⟩ = some (sentV (a 7)) := h.glob 7 (by decide)
theorem args_glob {w : World} {a : Nat → Addr} (h : Sents w a) : w.cell? ⟨8, 0, none⟩ = some (sentV (a 8)) := h.glob 8 (by decide)
theorem shape_glob {w : World} {a : Nat → Addr} (h : Sents w a) : w.cell? ⟨3, 0, none⟩ = some (sentV (a 2)) := h.glob 2 (by decide)
theorem name_glob {w : World} {a : Nat → Addr} (h : Sents w a) : w.cell? ⟨5, 0, none⟩ = some (sentV (a 4)) := h.glob 4 (by decide)
/-- A look-up of a variable, in whatever world holds the map. -/
theorem look_var {w : World} {b : Nat} {all vis : List (List UInt8)} (h : VarsAt w b all vis) (m : List UInt8) (hm : m.length ≤ 4000) :
    ∃ u : Bool, (m ∈ all → u = decide (m ∉ vis)) ∧ ∀ X : World, X.heap[b]? = w.heap[b]? → (Instr.lookup 89 (.map (some b)) (.string ⟨m.toArray⟩) true).run Tryz.prog X = .ok (.tuple #[.agg #[.bool u], .bool (decide (m ∈ all))]) X := by
  obtain ⟨_, D, h1, h2, h3, h4⟩ := h
  by_cases hma : m ∈ all
  · refine ⟨decide (m ∉ vis), fun _ => rfl, fun X hX => ?_⟩
    obtain ⟨v, ps, hrun, hv⟩ := (owns_block h1 hX).look_ok law_string Tryz.underlying89 (zero_var X) (varR_mk false) (key_text m hm)
    obtain ⟨u, rfl, hu⟩ := varR_inv hv
    rw [h4 m hma] at hu
    simp only [Prod.mk.injEq, DataW.lit.injEq, Lit.bool.injEq] at hu
    rw [hrun, h3 m, ← hu.1]
  · refine ⟨false, fun h => absurd h hma, fun X hX => ?_⟩
    obtain ⟨v, ps, hrun, hv⟩ := (owns_block h1 hX).look_ok law_string Tryz.underlying89 (zero_var X) (varR_mk false) (key_text m hm)
    obtain ⟨u, rfl, hu⟩ := varR_inv hv
    have hh : Maps.has D (.string m) = false := by rw [h3 m]; simp [hma]
    rw [Maps.atKey_of_not_has hh] at hu
    simp only [Prod.mk.injEq, DataW.lit.injEq, Lit.bool.injEq] at hu
    rw [hrun, h3 m, ← hu.1]
set_option maxRecDepth 100000 in
set_option maxHeartbeats 2000000 in
theorem use_any {w : World} {a : Nat → Addr} {B p f m : Nat} {fv : Value} {F : List Fu} {all vis : List (List UInt8)} (h : Chk w a B p f m fv F all vis) (nm : List UInt8) (hn : nm.length ≤ 4000) :
    Calls Tryz.prog 108 #[.pointer (some ⟨p, 0, none⟩), .string ⟨nm.toArray⟩] w fun e w' => e = .returned (errV a (if nm ∈ vis then 0 else 6)) ∧ Below w.heap.size w w' := by
  obtain ⟨u, hu, hlk⟩ := look_var h.vars nm hn
  have c2 : w.cell? ⟨p, 3, none⟩ = some (.map (some m)) := cell_of_blk h.blk 3
  have hg := none_glob h.s
  have hlt : 6 < w.heap.size := cell_lt hg
  have hlk0 := hlk w rfl
  clear hlk
  by_cases h1 : nm ∈ all
  · have e1 : decide (nm ∈ all) = true := by simpa using h1
    rw [e1] at hlk0
    by_cases h2 : nm ∈ vis
    · have e2 : u = false := by rw [hu h1]; simpa using h2
      subst e2
      have e3 : errV a (if nm ∈ vis then 0 else 6) = .nilIface := by rw [if_pos h2]; rfl
      rw [e3]
      clear h1 h2 e1 e3 hu
      go_enter Tryz.func108, Tryz.ntmps108
      go_wp2
      go_ret
      exact ⟨rfl, by (repeat (first | exact Below.refl _ _ | assumption | refine Below.drew ?_ | refine Below.trans ?_ (drewN_below' _ _ _) | refine Below.setCell ?_ (by first | (simp; done) | (simp; omega)) _ | refine Below.alloc ?_ (by first | (simp; done) | (simp; omega)) _))⟩
    · have e2 : u = true := by rw [hu h1]; simpa using h2
      subst e2
      have e3 : errV a (if nm ∈ vis then 0 else 6) = sentV (a 5) := by rw [if_neg h2]; rfl
      rw [e3]
      clear h1 h2 e1 e3 hu
      go_enter Tryz.func108, Tryz.ntmps108
      go_wp2
      go_ret
      exact ⟨rfl, by (repeat (first | exact Below.refl _ _ | assumption | refine Below.drew ?_ | refine Below.trans ?_ (drewN_below' _ _ _) | refine Below.setCell ?_ (by first | (simp; done) | (simp; omega)) _ | refine Below.alloc ?_ (by first | (simp; done) | (simp; omega)) _))⟩
  · have e1 : decide (nm ∈ all) = false := by simpa using h1
    rw [e1] at hlk0
    have h2 : nm ∉ vis := fun hv => h1 (h.vars.sub nm hv)
    have e3 : errV a (if nm ∈ vis then 0 else 6) = sentV (a 5) := by rw [if_neg h2]; rfl
    rw [e3]
    clear h1 h2 e1 e3 hu
    go_enter Tryz.func108, Tryz.ntmps108
    go_wp2
    go_ret
    exact ⟨rfl, by (repeat (first | exact Below.refl _ _ | assumption | refine Below.drew ?_ | refine Below.trans ?_ (drewN_below' _ _ _) | refine Below.setCell ?_ (by first | (simp; done) | (simp; omega)) _ | refine Below.alloc ?_ (by first | (simp; done) | (simp; omega)) _))⟩
/-- What 'declare' comes to. -/
def DeclTo (a : Nat → Addr) (m : Nat) (vis : List (List UInt8)) (nm : List UInt8) (w : World) (r : Cs) (e : Ending) (w' : World) : Prop :=
  But m w w' ∧ match r with
    | .bad c => e = .returned (errV a c) ∧ w'.heap[m]? = w.heap[m]?
    | .ok all' => e = .returned .nilIface ∧ VarsAt w' m all' (vis ++ [nm])
theorem grown_but {w w' : World} {m : Nat} (h : w.grownBy w' (some m)) : But m w w' := ⟨h.os, h.tape, h.output, h.size, fun k hk hp => h.block k hk (fun e => hp (by injection e))⟩
set_option maxRecDepth 100000 in
set_option maxHeartbeats 2000000 in
theorem declare_any {w : World} {a : Nat → Addr} {B p f m : Nat} {fv : Value} {F : List Fu} {all vis : List (List UInt8)} (h : Chk w a B p f m fv F all vis) (hall : all.length ≤ 12) (nm : List UInt8) (hn : nm.length ≤ 4000) :
    Calls Tryz.prog 69 #[.pointer (some ⟨p, 0, none⟩), .string ⟨nm.toArray⟩] w (DeclTo a m vis nm w (declC all nm)) := by
  obtain ⟨u, hu, hlk⟩ := look_var h.vars nm hn
  have c2 : w.cell? ⟨p, 3, none⟩ = some (.map (some m)) := cell_of_blk h.blk 3
  have hpl : p < w.heap.size := heap_lt h.blk
  have hml := h.mlt
  have hlk0 := hlk w rfl
  clear hlk hu
  by_cases h1 : nm ∈ all
  · have e1 : decide (nm ∈ all) = true := by simpa using h1
    rw [e1] at hlk0
    have hg := exist_glob h.s
    have hlt : 7 < w.heap.size := cell_lt hg
    have e3 : declC all nm = .bad 7 := by unfold declC; rw [if_pos h1]
    rw [e3]
    clear h1 e1 e3
    go_enter Tryz.func69, Tryz.ntmps69
    go_wp2
    go_ret
    exact ⟨by (repeat (first | exact But.refl _ _ | assumption | refine But.drew ?_ | refine But.drewN ?_ _ | refine But.set ?_ _ _ | refine But.setNew ?_ _ _ (by first | (simp; done) | (simp; omega)) _ | refine But.alloc ?_ _)), rfl, Below.heap_alloc _ _ _ hml⟩
  · have e1 : decide (nm ∈ all) = false := by simpa using h1
    rw [e1] at hlk0
    obtain ⟨hsub, D, d1, d2, d3, d4⟩ := h.vars
    have hlen : ∀ ty (X : World), X.heap[m]? = w.heap[m]? → (Builtin.len_ #[89] ty #[.map (some m)]).run Tryz.prog X = .ok (.int .i64 all.length) X := fun ty X hX => by
      rw [(owns_block d1 hX).len Tryz.underlying89 ty, d2]
    have hx : (w.alloc (.cells #[.bool u] 156)).heap[m]? = w.heap[m]? := Below.heap_alloc _ _ _ hml
    have hlen0 := fun ty => hlen ty _ hx
    by_cases h2 : all.length = 12
    · have hg := full_glob h.s
      have hlt : 0 < w.heap.size := cell_lt hg
      have e3 : declC all nm = .bad 8 := by unfold declC; rw [if_neg h1, if_pos h2]
      rw [e3]
      have h2' : ((all.length : Int) == 12) = true := by simp [h2]
      clear h1 e1 e3 h2 d1 d2 d3 d4 hsub hlen
      go_enter Tryz.func69, Tryz.ntmps69
      go_wp2
      go_ret
      exact ⟨by (repeat (first | exact But.refl _ _ | assumption | refine But.drew ?_ | refine But.drewN ?_ _ | refine But.set ?_ _ _ | refine But.setNew ?_ _ _ (by first | (simp; done) | (simp; omega)) _ | refine But.alloc ?_ _)), rfl, hx⟩
    · have e3 : declC all nm = .ok (all ++ [nm]) := by unfold declC; rw [if_neg h1, if_neg h2]
      rw [e3]
      have h2' : ((all.length : Int) == 12) = false := by simp; omega
      have D1 := hidX d1
      have D2 := hidX d2
      have D3 := hidX d3
      have D4 := hidX d4
      have HS := hidX hsub
      have H1 := hidX h1
      have hkey := key_text nm hn
      clear e1 e3 hlen d1 d2 d3 d4 hsub h1 h2
      go_enter Tryz.func69, Tryz.ntmps69
      go_wp2_with (first | (at_mapUpdate; refine wpList_mapUpdate_own _ rfl _ _ _ 89 rfl 9 156 law_string Tryz.underlying89 varR m all.length D rfl (D1.out.alloc _) (by unfold maxLen; omega) _ _ (.string nm) rfl rfl hkey (.lit (.bool false)) [] (varR_mk false) ?_; intro w1 hown1 hgrow1) | go_in)
      go_ret
      refine ⟨((But.refl m w).alloc _).trans (grown_but hgrow1), rfl, ?_⟩
      exact VarsAt.put_new HS.out D1.out D2.out D3.out D4.out H1.out _ hown1
/-- A look-up of a function. -/
theorem look_first {w : World} {b : Nat} {F : List Fu} (h : FirstAt w b F) (m : List UInt8) (hm : m.length ≤ 4000) (X : World) (hX : X.heap[b]? = w.heap[b]?) :
    ∃ c : Int, (Instr.lookup 86 (.map (some b)) (.string ⟨m.toArray⟩) true).run Tryz.prog X = .ok (.tuple #[.int .i64 c, .bool (F.any fun f => f.name == m)]) X ∧
      ∀ i (hi : i < F.length), F[i].name = m → (∀ j (hj : j < i), (F[j]'(by omega)).name ≠ m) → c = i := by
  obtain ⟨D, h1, h2, h3⟩ := h
  obtain ⟨v, ps, hrun, hv⟩ := (owns_block h1 hX).look_ok law_string Tryz.underlying86 (zero_int X) (plainElem_int (H := Unit) Tryz.underlying3 (q := .i64) (a := 0) (by decide)) (key_text m hm)
  obtain ⟨c, rfl, hc, _⟩ := plainElem_int_inv Tryz.underlying3 hv
  refine ⟨c, by rw [hrun, h2 m], fun i hi hn hj => ?_⟩
  subst hn
  rw [h3 i hi hj] at hc
  simp only [Prod.mk.injEq, DataW.lit.injEq, Lit.int.injEq, true_and] at hc
  exact hc.1.symm
set_option maxRecDepth 100000 in
set_option maxHeartbeats 2000000 in
theorem call_any {w : World} {a : Nat → Addr} {B p f m : Nat} {fv : Value} {F : List Fu} {all vis : List (List UInt8)} (h : Chk w a B p f m fv F all vis) (nm : List UInt8) (hn : nm.length ≤ 4000) (n : Nat) (hnn : n ≤ 5000) :
    Calls Tryz.prog 116 #[.pointer (some ⟨p, 0, none⟩), .string ⟨nm.toArray⟩, .int .i64 n] w fun e w' => e = .returned (errV a (callC F nm n)) ∧ Below w.heap.size w w' := by
  have hnn' : (n : Int) ≤ 5000 := by omega
  obtain ⟨c, hlk, hc⟩ := look_first h.first nm hn w rfl
  have ca : w.cell? ⟨p, 0, none⟩ = some (.bool false) := cell_of_blk h.blk 0
  have c0 : w.cell? ⟨p, 1, none⟩ = some fv := cell_of_blk h.blk 1
  have c1 : w.cell? ⟨p, 2, none⟩ = some (.map (some f)) := cell_of_blk h.blk 2
  by_cases h1 : (F.any fun f => f.name == nm) = true
  · rw [h1] at hlk
    obtain ⟨i, hi, i1, i2, i3⟩ := first_of h1
    obtain rfl := hc i hi i1 i2
    obtain ⟨xs, hr, hk⟩ := h.funs
    obtain ⟨ad, cap, rfl⟩ := hr.is
    obtain ⟨ka, e1, e2⟩ := hk.at hi
    have hlow := h.low _ (List.getElem_mem hi)
    have hcc : callC F nm n = if F[i].params.length = n then 0 else 9 := by unfold callC; rw [i3]
    rw [hcc]
    generalize F[i] = x at e1 hlow i1 i3
    obtain ⟨xm, xp, xb⟩ := x
    obtain ⟨pv, bv, bs, rfl, r2, r3, r4⟩ := e1
    obtain ⟨l1, l2, _⟩ := hlow
    simp only at r2 l2 e2
    obtain ⟨g, off, rfl, _, hx⟩ := x3_at hr hi e2
    obtain ⟨adp, cp, rfl⟩ := r2.is
    have a1 := hx.c1
    have hfew := h.few
    have hi' : (i : Int) < F.length := by omega
    have hl2 : (xp.length : Int) ≤ 8 := by omega
    have hfew' : (F.length : Int) ≤ 10 := by omega
    have hg := args_glob h.s
    have hlt : 8 < w.heap.size := cell_lt hg
    clear hx e2 r2 r3 r4 i1 i2 i3 hc h1 hcc hr hk
    by_cases h2 : xp.length = n
    · subst h2
      rw [if_pos rfl]
      go_enter Tryz.func116, Tryz.ntmps116
      go_wp2
      go_ret
      exact ⟨rfl, by (repeat (first | exact Below.refl _ _ | assumption | refine Below.drew ?_ | refine Below.trans ?_ (drewN_below' _ _ _) | refine Below.setCell ?_ (by first | (simp; done) | (simp; omega)) _ | refine Below.alloc ?_ (by first | (simp; done) | (simp; omega)) _))⟩
    · rw [if_neg h2]
      have h2' : ((xp.length : Int) == (n : Int)) = false := by simp; omega
      clear h2
      go_enter Tryz.func116, Tryz.ntmps116
      go_wp2
      go_ret
      exact ⟨rfl, by (repeat (first | exact Below.refl _ _ | assumption | refine Below.drew ?_ | refine Below.trans ?_ (drewN_below' _ _ _) | refine Below.setCell ?_ (by first | (simp; done) | (simp; omega)) _ | refine Below.alloc ?_ (by first | (simp; done) | (simp; omega)) _))⟩
  · have h1' : (F.any fun f => f.name == nm) = false := by simpa using h1
    rw [h1'] at hlk
    rw [callC_none h1']
    have hg := none_glob h.s
    clear h1 h1' hc
    go_enter Tryz.func116, Tryz.ntmps116
    go_wp2
    go_ret
    exact ⟨rfl, by (repeat (first | exact Below.refl _ _ | assumption | refine Below.drew ?_ | refine Below.trans ?_ (drewN_below' _ _ _) | refine Below.setCell ?_ (by first | (simp; done) | (simp; omega)) _ | refine Below.alloc ?_ (by first | (simp; done) | (simp; omega)) _))⟩
end Go.Proofs.YtcebpmaggnephabGreatDoor
