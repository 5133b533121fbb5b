/- Our own: texts joined: WalkBnd, TurnM, TurnW, GraphNumbers. -/
import Derived.Test.YtlgejjmdanmglaaGreatDoorVRwMs
import Derived.Test.YtlgejjmdanmglaaGreatDoorVGMath
import Derived.Test.YtlgejjmdanmglaaGreatDoorVBadG
import Derived.Test.YtlgejjmdanmglaaGreatDoorVGrFault
import Derived.Test.YtlgejjmdanmglaaGreatDoorVGrLarge
import Derived.Test.YtlgejjmdanmglaaGreatDoorVAsAll
import Derived.Test.YtlgejjmdanmglaaGreatDoorVTold
import Derived.Test.YtlgejjmdanmglaaGreatDoorVDoneAll
import Derived.Test.YtlgejjmdanmglaaGreatDoorVRwWalk
import Derived.Test.YtlgejjmdanmglaaGreatDoorVGrSoundW
import Derived.BigQuiet
namespace Go.Proofs.YtlgejjmdanmglaaGreatDoor
open Go.RowKit
structure BndR (ans : List Int) (s : Rst) : Prop where
 out : s.out.length ≤ 1000
 calls : s.calls.length ≤ ans.length
 args : ∀ c ∈ s.calls, c.2.length ≤ 1000
section
variable {L : List Nd} {args ans : List Int} {most : Int}
theorem BndR.how {s : Rst} (h : BndR ans s) (x : List UInt8) : BndR ans { s with how := x } := ⟨h.out, h.calls, h.args⟩
theorem tickR_bnd {s : Rst} (h : BndR ans s) : BndR ans (tickR most s) := by
 unfold tickR; split
 ·exact h.how _
 ·exact ⟨h.out, h.calls, h.args⟩
theorem printR_bnd {s : Rst} (h : BndR ans s) (v : Int) : BndR ans (printR v s) := by
 unfold printR; split
 ·exact h.how _
 ·next hc => exact ⟨by have := h.out; simp; omega, h.calls, h.args⟩
theorem callR_bnd {s : Rst} (h : BndR ans s) (nm : List UInt8) {vs : List Int} (hv : vs.length ≤ 1000) : BndR ans (callR ans nm vs s) := by
 unfold callR; split
 ·exact h.how _
 ·next hc => exact ⟨h.out, by simp; omega, fun c hc' => by
   rw [List.mem_append, List.mem_singleton] at hc'
   rcases hc' with e | e
   ·exact h.args c e
   ·rw [e]; exact hv⟩
theorem retR_bnd {s : Rst} (h : BndR ans s) (v : Int) : BndR ans (retR v s) := ⟨h.out, h.calls, h.args⟩
theorem ndAt_low (hLow : ∀ n ∈ L, LowN n) (i : Int) : (ndAt L i).ins.length ≤ 1000 := by
 unfold ndAt
 cases e : L[i.toNat]? with
 | none => simp
 | some n => exact (hLow n (List.mem_of_getElem? e)).ins
theorem stepW_bnd (hLow : ∀ n ∈ L, LowN n) {j k : Nat} {s : Rst} {got : Nat → Option Int} (h : BndR ans s) : BndR ans (stepW L args ans most j k s got).1 := by
 unfold stepW
 split
 ·exact h.how _
 ·next vs hv =>
  unfold stepAt
  split
  ·exact h
  ·next hr =>
   split
   ·exact h
   ·split
    ·exact tickR_bnd h
    ·split
     ·exact printR_bnd h _
     ·split
      ·refine callR_bnd h _ ?_
       have h1 := (askX_at hv).1
       rw [natL_len] at h1
       unfold askL at h1
       rw [if_neg hr, List.length_drop] at h1
       have := ndAt_low hLow (j : Int)
       omega
      ·exact retR_bnd h _
theorem walkL_bnd (hLow : ∀ n ∈ L, LowN n) : ∀ (n way : Nat) (s : Rst) (got : Nat → Option Int), BndR ans s → BndR ans (walkL L args ans most n way s got)
 | 0, _, s, _, h => h.how _
 | n + 1, way, s, got, h => by
  unfold walkL
  dsimp only
  have h1 := stepW_bnd (args := args) (most := most) (j := (tkAt L way).1) (k := (tkAt L way).2) (got := got) hLow h
  split
  ·exact h1
  ·exact walkL_bnd hLow n _ _ _ h1
theorem st0_bnd : BndR ans st0 := ⟨by simp [st0], by simp [st0], fun c hc => by simp [st0] at hc⟩
end
end Go.Proofs.YtlgejjmdanmglaaGreatDoor
namespace Go.Proofs.YtlgejjmdanmglaaGreatDoor
def mapN (t : Nat → Nat) (n : Nd) : Nd := ⟨n.kind, n.ins.map (fun x => ((t x.toNat : Nat) : Int)), n.num, n.name⟩
structure Iso (t : Nat → Nat) (L M : List Nd) : Prop where
 len : M.length = L.length
 lt : ∀ i, i < L.length → t i < L.length
 inv : ∀ i, i < L.length → t (t i) = i
 zero : t 0 = 0
 node : ∀ i, i < L.length → ndAt M ((t i : Nat) : Int) = mapN t (ndAt L (i : Int))
 bnd : ∀ i, i < L.length → ∀ x ∈ (ndAt L (i : Int)).ins, 0 ≤ x ∧ x < L.length
 perm : ((List.range L.length).map t).Perm (List.range L.length)
section
variable {t : Nat → Nat} {L M : List Nd}
theorem Iso.num (h : Iso t L M) {x : Int} (h0 : 0 ≤ x ∧ x < L.length) : ((t (((t x.toNat : Nat) : Int).toNat) : Nat) : Int) = x := by
 rw [Int.toNat_natCast, h.inv _ (by omega)]; omega
theorem Iso.symm (h : Iso t L M) : Iso t M L := by
 have hl := h.len
 have hn : ∀ i, i < M.length → ndAt L ((t i : Nat) : Int) = mapN t (ndAt M (i : Int)) := fun i hi => by
  have h1 := h.node (t i) (h.lt i (by omega))
  rw [h.inv i (by omega)] at h1
  have hb := h.bnd (t i) (h.lt i (by omega))
  rw [h1]
  generalize ndAt L ((t i : Nat) : Int) = n at hb ⊢
  have e : (n.ins.map (fun x => ((t x.toNat : Nat) : Int))).map (fun x => ((t x.toNat : Nat) : Int)) = n.ins := by
   rw [List.map_map]
   conv => rhs; rw [← List.map_id n.ins]
   apply List.map_congr_left
   intro x hx
   exact h.num (hb x hx)
  unfold mapN
  rw [e]
 refine ⟨h.len.symm, fun i hi => by rw [hl]; exact h.lt i (by omega), fun i hi => h.inv i (by omega), h.zero, hn, fun i hi x hx => ?_, by rw [hl]; exact h.perm⟩
 have h1 := h.node (t i) (h.lt i (by omega))
 rw [h.inv i (by omega)] at h1
 rw [h1] at hx
 obtain ⟨y, hy, e⟩ := List.mem_map.1 hx
 have hb := h.bnd (t i) (h.lt i (by omega)) y hy
 have := h.lt y.toNat (by omega)
 omega
theorem Iso.of_some (h : Iso t L M) {j : Nat} {n : Nd} (e : L[j]? = some n) : j < L.length ∧ M[t j]? = some (mapN t n) ∧ ∀ x ∈ n.ins, 0 ≤ x ∧ x < L.length := by
 have hj := lt_of_at e
 have e1 := ndAt_of e
 refine ⟨hj, ?_, by have := h.bnd j hj; rwa [e1] at this⟩
 rw [ndAt_ex (L := M) (j := t j) (by rw [h.len]; exact h.lt j hj), h.node j hj, e1]
theorem Iso.kind (h : Iso t L M) {i : Nat} (hi : i < L.length) : (ndAt M ((t i : Nat) : Int)).kind = (ndAt L (i : Int)).kind := by rw [h.node i hi]; rfl
theorem Iso.kindI (h : Iso t L M) {x : Int} (hx : 0 ≤ x ∧ x < L.length) : (ndAt M ((t x.toNat : Nat) : Int)).kind = (ndAt L x).kind := by
 have := h.kind (i := x.toNat) (by omega)
 rwa [Int.toNat_of_nonneg hx.1] at this
theorem Iso.inj (h : Iso t L M) {i j : Nat} (hi : i < L.length) (hj : j < L.length) (e : t i = t j) : i = j := by
 have h1 := h.inv i hi
 rw [e, h.inv j hj] at h1
 exact h1.symm
theorem mapN_at {n : Nd} {k : Nat} {v : Int} (e : n.ins[k]? = some v) : (mapN t n).ins[k]? = some ((t v.toNat : Nat) : Int) := by simp [mapN, e]
theorem mapN_ways (n : Nd) : waysN (mapN t n) = waysN n := by unfold waysN mapN; rw [List.length_map]
theorem Iso.spot (h : Iso t L M) {a j k : Nat} (hs : Spot L a j k) : Spot M (t a) (t j) k := by
 obtain ⟨n, h1, h2, h3⟩ := hs
 obtain ⟨_, e, _⟩ := h.of_some h1
 exact ⟨_, e, by rw [mapN_ways]; exact h2, by have := mapN_at (t := t) h3; rwa [Int.toNat_natCast] at this⟩
theorem Iso.tk (h : Iso t L M) {a b : Nat} (hb : b ∈ takL L a) : t b ∈ takL M (t a) := by
 obtain ⟨k, hk⟩ := mem_spot hb
 exact spot_mem (h.spot hk)
theorem ndAt_big {L : List Nd} {i : Nat} (hi : L.length ≤ i) : ndAt L (i : Int) = ⟨[], [], 0, []⟩ := by simp [ndAt, hi]
theorem rk_small {a b : Nat} (hr : Rk L a b) : a < L.length := by
 rcases Nat.lt_or_ge a L.length with h' | h'
 ·exact h'
 ·unfold Rk reck at hr
  rw [ndAt_big h'] at hr
  simp at hr
theorem Iso.rk (h : Iso t L M) {a b : Nat} (hr : Rk L a b) : Rk M (t a) (t b) := by
 have ha := rk_small hr
 unfold Rk reck at hr ⊢
 rw [h.kind ha]
 split at hr
 ·next hk =>
  rw [if_pos hk, h.node a ha]
  exact List.mem_map.2 ⟨_, hr, by rw [Int.toNat_natCast]⟩
 ·simp at hr
theorem Star.map {R S : Nat → Nat → Prop} {t : Nat → Nat} {a b : Nat} (k : Star R a b) (h : ∀ a b, R a b → S (t a) (t b)) : Star S (t a) (t b) := by
 induction k with
 | refl => exact .refl _
 | tail _ r ih => exact ih.tail (h _ _ r)
theorem spot_small {a j k : Nat} (hs : Spot L a j k) : j < L.length := by
 obtain ⟨n, h1, _⟩ := hs
 exact lt_of_at h1
theorem Iso.step (h : Iso t L M) {i : Nat} (hi : i < L.length) {a x : Nat} (hs : WStep L i a x) : WStep M (t i) (t a) (t x) := by
 obtain ⟨j, k, h1, h2, h3⟩ := hs
 have hj := spot_small h1
 refine ⟨t j, k, h.spot h1, fun e => h2 (h.inj hj hi e), ?_⟩
 unfold behL at h3 ⊢
 rw [h.kind hj]
 split at h3
 ·next hk => rw [if_pos hk]; exact h.tk h3
 ·next hk =>
  rw [if_neg hk]
  split at h3
  ·exact h3.elim
  ·next hk2 => rw [if_neg hk2, h3]
theorem Iso.askAt (h : Iso t L M) {j k v : Nat} (hj : j < L.length) (ha : AskAt L j k (v : Int)) : AskAt M (t j) k ((t v : Nat) : Int) := by
 unfold AskAt at ha ⊢
 rw [h.kind hj]
 split at ha
 ·next hk =>
  rw [if_pos hk]
  obtain ⟨p, n, h1, h2, h3, h4⟩ := ha
  obtain ⟨_, e, _⟩ := h.of_some h1
  refine ⟨t p, _, e, h2, ?_, ?_⟩
  ·have := mapN_at (t := t) h3; rwa [Int.toNat_natCast] at this
  ·have := mapN_at (t := t) h4; rwa [Int.toNat_natCast] at this
 ·next hk =>
  rw [if_neg hk]
  obtain ⟨q, hq⟩ := ha
  rw [h.node j hj]
  exact ⟨q, by have := mapN_at (t := t) hq; rwa [Int.toNat_natCast] at this⟩
theorem Iso.hangs (h : Iso t L M) {i v : Nat} (hi : i < L.length) (hh : hangsOn L i v) : hangsOn M (t i) (t v) := by
 obtain ⟨f, h1, h2⟩ := hh
 refine ⟨t f, ?_, h2.map (fun a b => h.rk (a := a) (b := b))⟩
 rw [h.kind hi]
 split at h1
 ·next hk => rw [if_pos hk, h1]
 ·next hk =>
  rw [if_neg hk, h.kind h1.2.1, h.len, h.node f h1.2.1]
  exact ⟨h1.1, h.lt f h1.2.1, by have := mapN_at (t := t) h1.2.2; rwa [Int.toNat_natCast] at this⟩
theorem Iso.sound (h : Iso t L M) (hs : SoundP L) : SoundP M := by
 intro i hi hk a ha j k hj v hv hh
 have hs' := h.symm
 have hi' : i < L.length := by have := h.len; omega
 have h1 := ha.map (t := t) (S := WStep L (t i)) (fun a b => hs'.step hi)
 rw [h.zero] at h1
 have hjM := spot_small hj
 refine hs (t i) (h.lt i hi') (by rw [hs'.kind hi]; exact hk) (t a) h1 (t j) k (hs'.spot hj) (t v) (hs'.askAt hjM hv) (hs'.hangs hi hh)
theorem Iso.hang (h : Iso t L M) {i : Nat} (hh : Hang M i) : Hang L (t i) := by
 obtain ⟨b, h1, h2⟩ := hh
 exact ⟨t b, h.symm.rk h1, h2.map (fun a b => h.symm.rk (a := a) (b := b))⟩
theorem Iso.nodeZ (h : Iso t L M) {ones twos : List (List UInt8)} {P : Int} {i : Nat} (hi : i < L.length) (hn : nodeC ones twos P L i = 0) : nodeC ones twos P M (t i) = 0 := by
 have hb := h.bnd i hi
 have W := nodeW (ndAt_ex hi) hn
 generalize hd : ndAt L (i : Int) = n at *
 have hd' : ndAt M ((t i : Nat) : Int) = mapN t n := by rw [h.node i hi, hd]
 have hkd : (mapN t n).kind = n.kind := rfl
 have hln : (mapN t n).ins.length = n.ins.length := by simp [mapN]
 have hgd : ∀ k, k < n.ins.length → (mapN t n).ins.getD k 0 = ((t (n.ins.getD k 0).toNat : Nat) : Int) ∧ (0 ≤ n.ins.getD k 0 ∧ n.ins.getD k 0 < L.length) := fun k hk => by
  have e : n.ins.getD k 0 = n.ins[k] := by simp [hk]
  rw [e]
  exact ⟨by simp [mapN, hk], hb _ (List.getElem_mem hk)⟩
 unfold nodeC
 rw [hd']
 dsimp only
 rw [hkd]
 have hlm := h.len
 have hne : (shp n.kind).kind ≠ [] := by rw [W.kind]; exact W.nonempty
 rw [if_neg hne, if_neg, if_neg, if_neg, if_neg]
 ·intro hc
  rcases hc with hc | hc
  ·unfold givB at hc
   rw [List.all_eq_false] at hc
   obtain ⟨k, hk, hc⟩ := hc
   rw [List.mem_range, hln] at hk
   obtain ⟨g1, g2⟩ := hgd k hk
   have := W.giv k hk
   unfold givAt at this hc
   rw [g1, h.kindI g2, hkd] at hc
   exact hc this
  ·have := W.phi
   unfold phiB at this hc
   rw [hkd, hln] at hc
   by_cases hp : n.kind = gPhi
   ·have hl := (fits_len W.fits).2.2.2.2.2.1 hp
    obtain ⟨g1, g2⟩ := hgd 0 hl
    rw [g1, h.node _ (by omega), Int.toNat_of_nonneg g2.1] at hc
    simp only [mapN, List.length_map] at hc
    rw [this] at hc
    cases hc
   ·simp [hp] at hc
 ·have := W.op
  unfold opB at this ⊢
  rw [hkd]
  show ¬ (if n.kind = gOne then _ else _) = false
  rw [show (mapN t n).name = n.name from rfl, this]
  simp
 ·intro hc
  unfold bndB at hc
  rw [Bool.and_eq_false_iff] at hc
  rcases hc with hc | hc
  ·rw [List.all_eq_false] at hc
   obtain ⟨x, hx, hc⟩ := hc
   obtain ⟨y, hy, e⟩ := List.mem_map.1 hx
   have hby := hb y hy
   have := h.lt y.toNat (by omega)
   apply hc
   rw [decide_eq_true_eq]
   omega
  ·rw [hkd, show (mapN t n).num = n.num from rfl] at hc
   rw [Bool.or_eq_false_iff] at hc
   have hp : n.kind = gParam := by simpa using hc.1
   have := W.par hp
   simp [this] at hc
 ·intro hc
  rcases hc with ⟨hc, h0⟩ | hc
  ·rw [W.kind] at hc
   have := W.start hc
   subst this
   rw [h.zero] at h0
   omega
  ·have := W.fits
   unfold fitsB at this hc
   rw [hln, show (mapN t n).num = n.num from rfl, show (mapN t n).name = n.name from rfl, this] at hc
   cases hc
def keyT (t : Nat → Nat) (p : Int × List UInt8) : Int × List UInt8 := (((t p.1.toNat : Nat) : Int), p.2)
theorem keysFrom_map (n : Nd) : ∀ (l : List Int) (k : Nat), keysFrom (mapN t n) k (l.map fun x => ((t x.toNat : Nat) : Int)) = (keysFrom n k l).map (keyT t)
 | [], _ => rfl
 | x :: l, k => by
  rw [List.map_cons]
  unfold keysFrom
  rw [keysFrom_map n l (k + 1), List.map_append]
  congr 1
  unfold keyOf1
  rw [show (mapN t n).kind = n.kind from rfl]
  split
  ·rfl
  ·split <;> rfl
theorem keysN_map (n : Nd) : keysN (mapN t n) = (keysN n).map (keyT t) := by
 unfold keysN
 have e : fitsB (shp (mapN t n).kind) (mapN t n) = fitsB (shp n.kind) n := by unfold fitsB; simp [mapN]
 rw [e]
 split
 ·exact keysFrom_map n n.ins 0
 ·rfl
theorem list_range (L : List Nd) : L = (List.range L.length).map fun (i : Nat) => ndAt L (i : Int) := by
 apply List.ext_getElem?
 intro i
 rw [List.getElem?_map]
 rcases Nat.lt_or_ge i L.length with h' | h'
 ·rw [List.getElem?_range h', ndAt_ex h']; rfl
 ·rw [List.getElem?_eq_none h', List.getElem?_eq_none (by simpa using h')]; rfl
theorem Iso.keys (h : Iso t L M) : (keysL M).Perm ((keysL L).map (keyT t)) := by
 have h1 : M.Perm (L.map (mapN t)) := by
  have e1 : M = (List.range L.length).map fun (i : Nat) => ndAt M (i : Int) := by have := list_range M; rwa [h.len] at this
  have e2 : L.map (mapN t) = ((List.range L.length).map t).map fun (i : Nat) => ndAt M (i : Int) := by
   conv => lhs; rw [list_range L]
   rw [List.map_map, List.map_map]
   apply List.map_congr_left
   intro i hi
   exact (h.node i (List.mem_range.1 hi)).symm
  rw [e2]
  conv => lhs; rw [e1]
  exact (h.perm.map _).symm
 have h2 : (keysL M).Perm ((L.map (mapN t)).flatMap keysN) := h1.flatMap_right keysN
 refine h2.trans (List.Perm.of_eq ?_)
 unfold keysL
 rw [List.flatMap_map, List.map_flatMap]
 congr 1
 funext n
 exact keysN_map n
theorem keys_bnd {n : Nd} (hb : ∀ x ∈ n.ins, 0 ≤ x ∧ x < L.length) : ∀ p ∈ keysN n, 0 ≤ p.1 ∧ p.1 < L.length := by
 have key : ∀ (l : List Int) (k : Nat), (∀ x ∈ l, 0 ≤ x ∧ x < L.length) → ∀ p ∈ keysFrom n k l, 0 ≤ p.1 ∧ p.1 < L.length := by
  intro l
  induction l with
  | nil => intro k _ p hp; cases hp
  | cons x l ih =>
   intro k hx p hp
   unfold keysFrom at hp
   rcases List.mem_append.1 hp with hp | hp
   ·have hx0 := hx x (by simp)
    unfold keyOf1 at hp
    split at hp
    ·rw [List.mem_singleton.1 hp]; exact hx0
    ·split at hp
     ·rw [List.mem_singleton.1 hp]; exact hx0
     ·cases hp
   ·exact ih (k + 1) (fun y hy => hx y (by simp [hy])) p hp
 intro p hp
 unfold keysN at hp
 split at hp
 ·exact key _ 0 hb p hp
 ·cases hp
theorem count_map_on {α β : Type} [BEq α] [LawfulBEq α] [BEq β] [LawfulBEq β] {f : α → β} {a : α} : ∀ {l : List α}, (∀ x ∈ l, f x = f a → x = a) → (l.map f).count (f a) = l.count a
 | [], _ => rfl
 | x :: l, h => by
  rw [List.map_cons, List.count_cons, List.count_cons, count_map_on (l := l) (fun y hy => h y (by simp [hy]))]
  congr 1
  by_cases e : x = a
  ·rw [e]; simp
  ·have e2 : f x ≠ f a := fun e2 => e (h x (by simp) e2)
   simp [e, e2]
theorem Iso.count (h : Iso t L M) {i : Nat} (hi : i < L.length) (kd : List UInt8) : (keysL M).count (((t i : Nat) : Int), kd) = (keysL L).count ((i : Int), kd) := by
 rw [h.keys.count_eq]
 have e : (((t i : Nat) : Int), kd) = keyT t ((i : Int), kd) := by simp [keyT]
 rw [e]
 apply count_map_on
 intro p hp he
 obtain ⟨n, hn, hp⟩ := List.mem_flatMap.1 hp
 obtain ⟨j, hj⟩ := List.mem_iff_getElem?.1 hn
 have hb := keys_bnd (L := L) (h.of_some hj).2.2 p hp
 unfold keyT at he
 obtain ⟨p1, p2⟩ := p
 injection he with h1 h2
 dsimp only at h1 h2 hb
 subst h2
 rw [Int.toNat_natCast] at h1
 have := h.inj (i := p1.toNat) (j := i) (by omega) hi (by omega)
 have : p1 = (i : Int) := by omega
 rw [this]
theorem Iso.well (h : Iso t L M) {ones twos : List (List UInt8)} {P : Int} (hW : WellG ones twos P L) : WellG ones twos P M := by
 have hl := h.len
 have hs := h.symm
 refine ⟨by rw [hl]; exact hW.len, ?_, hW.par, fun i hi => ?_, fun i hi => ?_, fun i hi hh => hW.deep (t i) (h.lt i (by omega)) (h.hang hh)⟩
 ·have := h.kind (i := 0) hW.len.1
  rw [h.zero] at this
  exact this.trans hW.start
 ·have := h.nodeZ (h.lt i (by omega)) (hW.node (t i) (h.lt i (by omega)))
  rwa [h.inv i (by omega)] at this
 ·have h1 := hW.tak (t i) (h.lt i (by omega))
  unfold tkC at h1 ⊢
  rw [hs.kind hi, ← h.count (h.lt i (by omega)), ← h.count (h.lt i (by omega)), ← h.count (h.lt i (by omega)), h.inv i (by omega)] at h1
  exact h1
theorem well_fault {ones twos : List (List UInt8)} {P : Int} {L : List Nd} (hW : WellG ones twos P L) : (faultG ones twos P L).1 = 0 := by
 unfold faultG faultW
 have hl := hW.len
 have hp := hW.par
 rw [if_neg (by omega), if_neg (by rw [not_or]; exact ⟨by omega, fun h => h hW.start⟩), if_neg (by omega)]
 have z : ∀ a b : Nat × Int, a.1 = 0 → b.1 = 0 → (firstOf2 a b).1 = 0 := fun a b ha hb => by unfold firstOf2; rw [if_pos ha]; exact hb
 refine z _ _ ((first_zero _ _).2 fun j _ hj => hW.node j (by omega)) (z _ _ ((first_zero _ _).2 fun j _ hj => hW.tak j (by omega)) ((first_zero _ _).2 fun j _ hj => ?_))
 unfold hangC
 rw [if_neg (hW.deep j (by omega))]
theorem Iso.sound_iff (h : Iso t L M) : SoundP L ↔ SoundP M := ⟨h.sound, h.symm.sound⟩
end
def tau (n i : Nat) : Nat := if i = 0 then 0 else n - i
def tauI (n : Nat) (x : Int) : Int := if x = 0 then 0 else (n : Int) - x
def turnN (n : Nat) (x : Nd) : Nd := ⟨x.kind, x.ins.map (tauI n), x.num, x.name⟩
def turnL (L : List Nd) : List Nd := (List.range L.length).map fun (i : Nat) => turnN L.length (ndAt L ((tau L.length i : Nat) : Int))
theorem tau_lt {n i : Nat} (h : i < n) : tau n i < n := by unfold tau; split <;> omega
theorem tau_tau {n i : Nat} (h : i < n) : tau n (tau n i) = i := by
 unfold tau
 by_cases e : i = 0
 ·simp [e]
 ·rw [if_neg e, if_neg (by omega)]; omega
theorem tau_perm : ∀ n, ((List.range n).map (tau n)).Perm (List.range n)
 | 0 => by simp
 | m + 1 => by
  rw [List.range_succ_eq_map, List.map_cons, List.map_map]
  have e : (List.range m).map (tau (m + 1) ∘ Nat.succ) = ((List.range m).map Nat.succ).reverse := by
   apply List.ext_getElem?
   intro i
   rcases Nat.lt_or_ge i m with h' | h'
   ·rw [List.getElem?_reverse (by simpa using h'), List.getElem?_map, List.getElem?_map, List.getElem?_range h', List.length_map, List.length_range, List.getElem?_range (by omega)]
    simp only [Option.map_some, Function.comp, tau]
    congr 1
    rw [if_neg (by omega)]
    omega
   ·rw [List.getElem?_eq_none (by simpa using h'), List.getElem?_eq_none (by simpa using h')]
  rw [e, show tau (m + 1) 0 = 0 from rfl]
  exact (List.reverse_perm _).cons 0
theorem turn_len (L : List Nd) : (turnL L).length = L.length := by simp [turnL]
theorem turn_at (L : List Nd) {i : Nat} (hi : i < L.length) : ndAt (turnL L) (i : Int) = turnN L.length (ndAt L ((tau L.length i : Nat) : Int)) := by
 apply ndAt_of
 unfold turnL
 rw [List.getElem?_map, List.getElem?_range hi]
 rfl
theorem turn_iso {ones twos : List (List UInt8)} {P : Int} {L : List Nd} (hW : WellG ones twos P L) : Iso (tau L.length) L (turnL L) := by
 have hb : ∀ i, i < L.length → ∀ x ∈ (ndAt L (i : Int)).ins, 0 ≤ x ∧ x < L.length := fun i hi => (hW.node.at (ndAt_ex hi)).bnd
 refine ⟨turn_len L, fun i hi => tau_lt hi, fun i hi => tau_tau hi, rfl, fun i hi => ?_, hb, tau_perm _⟩
 rw [turn_at L (tau_lt hi), tau_tau hi]
 unfold turnN mapN
 congr 1
 apply List.map_congr_left
 intro x hx
 have := hb i hi x hx
 unfold tauI tau
 by_cases e : x = 0
 ·simp [e]
 ·rw [if_neg e, if_neg (by omega)]; omega
end Go.Proofs.YtlgejjmdanmglaaGreatDoor
namespace Go.Proofs.YtlgejjmdanmglaaGreatDoor
open Go.RowKit
def GotR (t : Nat → Nat) (n : Nat) (g g' : Nat → Option Int) : Prop := ∀ i, i < n → g' (t i) = g i
theorem natL_map {t : Nat → Nat} (l : List Int) : natL (l.map fun x => ((t x.toNat : Nat) : Int)) = (natL l).map t := by
 unfold natL
 rw [List.map_map, List.map_map]
 apply List.map_congr_left
 intro x _
 simp
theorem askX_map {t : Nat → Nat} {r s : Nat → Option Int} : ∀ {l : List Nat}, (∀ x ∈ l, s (t x) = r x) → askX s (l.map t) = askX r l
 | [], _ => rfl
 | x :: l, h => by
  rw [List.map_cons]
  unfold askX
  rw [h x (by simp), askX_map (l := l) (fun y hy => h y (by simp [hy]))]
theorem askX_none_iff {r : Nat → Option Int} : ∀ {l : List Nat}, askX r l = none ↔ ∃ x ∈ l, r x = none
 | [] => by simp [askX]
 | x :: l => by
  have ih := askX_none_iff (r := r) (l := l)
  constructor
  ·intro h
   unfold askX at h
   split at h
   ·cases h
   ·next h1 =>
    cases e1 : r x with
    | none => exact ⟨x, by simp, e1⟩
    | some v =>
     cases e2 : askX r l with
     | none =>
      obtain ⟨y, hy, e⟩ := ih.1 e2
      exact ⟨y, by simp [hy], e⟩
     | some vs => exact absurd e2 (h1 v vs e1)
  ·rintro ⟨y, hy, e⟩
   exact askX_mem_none hy e
theorem setVs_is {res : Nat → Option Int} {f : Nat → Nat} : ∀ {ps : List Nat} {vs : List Int} {got : Nat → Option Int}, askX res (ps.map f) = some vs → ∀ i, setVs got (ps.zip vs) i = if i ∈ ps then res (f i) else got i
 | [], vs, got, _, i => by simp [setVs]
 | p :: ps, vs, got, h, i => by
  rw [List.map_cons] at h
  unfold askX at h
  split at h
  ·next v vs' h1 h2 =>
   injection h with h
   subst h
   have ih := setVs_is (got := setV got (p, v)) h2 i
   rw [List.zip_cons_cons]
   show setVs (setV got (p, v)) (ps.zip vs') i = _
   rw [ih]
   by_cases e : i ∈ ps
   ·rw [if_pos e, if_pos (by simp [e])]
   ·rw [if_neg e]
    show (if i = p then some v else got i) = _
    by_cases e2 : i = p
    ·subst e2; rw [if_pos rfl, if_pos (by simp), h1]
    ·rw [if_neg e2, if_neg (by simp [e, e2])]
  ·cases h
section
variable {t : Nat → Nat} {L M : List Nd} {ones twos : List (List UInt8)} {P : Int} {args ans : List Int} {most : Int}
theorem Iso.tkAt (h : Iso t L M) (hW : WellG ones twos P L) {a : Nat} (ha : a < L.length) (hw : isWay (ndAt L a).kind) : tkAt M (t a) = (t (tkAt L a).1, (tkAt L a).2) := by
 have hWM := h.well hW
 have ha' : t a < M.length := by rw [h.len]; exact h.lt a ha
 have hw' : isWay (ndAt M ((t a : Nat) : Int)).kind := by rw [h.kind ha]; exact hw
 have h1 := spot_one (way_len hWM ha' hw') (tkAt_spot hWM ha' hw') (h.spot (tkAt_spot hW ha hw))
 exact Prod.ext h1.1 h1.2
theorem Iso.reck (h : Iso t L M) {i : Nat} (hi : i < L.length) : natL (reck M (t i)) = (natL (reck L i)).map t := by
 unfold Go.Proofs.YtlgejjmdanmglaaGreatDoor.reck
 rw [h.kind hi]
 split
 ·rw [h.node i hi]; exact natL_map _
 ·rfl
theorem Iso.stepV (h : Iso t L M) (hW : WellG ones twos P L) {got got' res res' : Nat → Option Int} (hg : GotR t L.length got got') (hr : GotR t L.length res res') {i : Nat} (hi : i < L.length) : stepV M args got' res' (t i) = stepV L args got res i := by
 unfold Go.Proofs.YtlgejjmdanmglaaGreatDoor.stepV
 rw [h.reck hi, askX_map (r := res) (s := res') (fun x hx => hr x (by
  have h1 := (natL_rk hW i x).1 hx
  have h2 := reck_bnd hW i (x : Int) h1
  omega)), h.node i hi, hg i hi]
 rfl
theorem Iso.valF (h : Iso t L M) (hW : WellG ones twos P L) {got got' : Nat → Option Int} (hg : GotR t L.length got got') : ∀ f, GotR t L.length (valF L args got f) (valF M args got' f)
 | 0, _, _ => rfl
 | f + 1, _, hi => h.stepV hW hg (h.valF hW hg f) hi
theorem Iso.valOf (h : Iso t L M) (hW : WellG ones twos P L) {got got' : Nat → Option Int} (hg : GotR t L.length got got') : GotR t L.length (valOf L args got) (valOf M args got') := fun i hi => by
 have hWM := h.well hW
 show Go.Proofs.YtlgejjmdanmglaaGreatDoor.valF M args got' (rkM M (t i) + 1) (t i) = Go.Proofs.YtlgejjmdanmglaaGreatDoor.valF L args got (rkM L i + 1) i
 rw [valF_same hWM args got' (rkM M (t i) + 1) (t i) (by omega) (rkM M (t i) + 1) (rkM M (t i) + rkM L i + 1) (by omega) (by omega), valF_same hW args got (rkM L i + 1) i (by omega) (rkM L i + 1) (rkM M (t i) + rkM L i + 1) (by omega) (by omega)]
 exact h.valF hW hg _ i hi
def phA (L : List Nd) (k q : Nat) : Nat := ((ndAt L (q : Int)).ins.getD (1 + k) 0).toNat
theorem ask_region {j k : Nat} (hr : (ndAt L (j : Int)).kind = gRegion) : natL (askL L j k) = (phisOf L j).map (phA L k) := by
 unfold askL natL phisOf
 rw [if_pos hr, List.map_map]
 rfl
theorem Iso.phA (h : Iso t L M) (hW : WellG ones twos P L) {k q : Nat} (hq : q < L.length) : phA M k (t q) = t (phA L k q) ∧ phA L k q < L.length := by
 unfold Go.Proofs.YtlgejjmdanmglaaGreatDoor.phA
 rw [h.node q hq]
 have hb := h.bnd q hq
 generalize ndAt L (q : Int) = n at *
 rcases Nat.lt_or_ge (1 + k) n.ins.length with h' | h'
 ·have e : n.ins.getD (1 + k) 0 = n.ins[1 + k] := by simp [h']
  have := hb _ (List.getElem_mem h')
  rw [e]
  refine ⟨?_, by omega⟩
  simp [mapN, h']
 ·have e : n.ins.getD (1 + k) 0 = 0 := by simp [h']
  rw [e]
  have := hW.len.1
  refine ⟨?_, by simpa using this⟩
  simp [mapN, h', h.zero]
theorem Iso.phis (h : Iso t L M) {j q : Nat} (hq : q ∈ phisOf L j) : t q ∈ phisOf M (t j) := by
 obtain ⟨h1, h2, h3⟩ := mem_phi.1 hq
 refine mem_phi.2 ⟨by rw [h.len]; exact h.lt q h1, by rw [h.kind h1]; exact h2, ?_⟩
 rw [h.node q h1]
 have := mapN_at (t := t) h3
 rwa [Int.toNat_natCast] at this
theorem Iso.nextIf (h : Iso t L M) (hW : WellG ones twos P L) {j : Nat} (hj : j < L.length) (hk : (ndAt L (j : Int)).kind = gIf) (x : Int) : nextIf (ysI gYes M M.length) (ysI gNo M M.length) (t j) x = t (nextIf (ysI gYes L L.length) (ysI gNo L L.length) j x) := by
 have hWM := h.well hW
 have key : ∀ kd, (kd = gYes ∨ kd = gNo) → (ysI kd M M.length).getD (t j) 0 = t ((ysI kd L L.length).getD j 0) := fun kd hkd => by
  have h1 := (ys_is hW hkd hj hk _).2 rfl
  have h2 := tk_lt h1.1
  exact ((ys_is hWM hkd (by rw [h.len]; exact h.lt j hj) (by rw [h.kind hj]; exact hk) (t ((ysI kd L L.length).getD j 0))).1 ⟨h.tk h1.1, by rw [h.kind h2]; exact h1.2⟩).symm
 unfold Go.Proofs.YtlgejjmdanmglaaGreatDoor.nextIf
 split
 ·exact key _ (Or.inl rfl)
 ·exact key _ (Or.inr rfl)
theorem setV_rel {n : Nat} {got got' : Nat → Option Int} (h : Iso t L M) (hn : n = L.length) (hg : GotR t n got got') {j : Nat} (hj : j < n) (v : Int) : GotR t n (setV got (j, v)) (setV got' (t j, v)) := fun i hi => by
 show (if t i = t j then some v else got' (t i)) = (if i = j then some v else got i)
 by_cases e : i = j
 ·rw [e, if_pos rfl, if_pos rfl]
 ·rw [if_neg e, if_neg (fun e2 => e (h.inj (by omega) (by omega) e2))]; exact hg i hi
theorem Iso.stepW (h : Iso t L M) (hW : WellG ones twos P L) {got got' : Nat → Option Int} (hg : GotR t L.length got got') {a j k : Nat} (hs : Spot L a j k) (s : Rst) :
  (stepW M args ans most (t j) k s got').1 = (stepW L args ans most j k s got).1 ∧ GotR t L.length (stepW L args ans most j k s got).2.1 (stepW M args ans most (t j) k s got').2.1 ∧ (stepW M args ans most (t j) k s got').2.2 = t (stepW L args ans most j k s got).2.2 := by
 have hj := spot_small hs
 have hv := h.valOf (args := args) hW hg
 have hn := h.node j hj
 have hkd := h.kind hj
 unfold Go.Proofs.YtlgejjmdanmglaaGreatDoor.stepW
 by_cases hr : (ndAt L (j : Int)).kind = gRegion
 ·have hr' : (ndAt M ((t j : Nat) : Int)).kind = gRegion := by rw [hkd]; exact hr
  rw [ask_region hr, ask_region hr']
  have hph : ∀ q, q < L.length → (t q ∈ phisOf M (t j) ↔ q ∈ phisOf L j) := fun q hq => by
   constructor
   ·intro hm
    have := h.symm.phis (j := t j) (q := t q) hm
    rwa [h.inv q hq, h.inv j hj] at this
   ·exact h.phis
  have hlt : ∀ q, q ∈ phisOf L j → q < L.length := fun q hq => (mem_phi.1 hq).1
  have hnone : askX (Go.Proofs.YtlgejjmdanmglaaGreatDoor.valOf M args got') ((phisOf M (t j)).map (Go.Proofs.YtlgejjmdanmglaaGreatDoor.phA M k)) = none ↔ askX (Go.Proofs.YtlgejjmdanmglaaGreatDoor.valOf L args got) ((phisOf L j).map (Go.Proofs.YtlgejjmdanmglaaGreatDoor.phA L k)) = none := by
   rw [askX_none_iff, askX_none_iff]
   constructor
   ·rintro ⟨x, hx, e⟩
    obtain ⟨q, hq, rfl⟩ := List.mem_map.1 hx
    have hq1 : q < L.length := by have := (mem_phi.1 hq).1; have := h.len; omega
    have hq2 := h.lt q hq1
    have hq3 : t q ∈ phisOf L j := (hph (t q) hq2).1 (by rw [h.inv q hq1]; exact hq)
    have hp := h.phA hW (k := k) hq2
    rw [h.inv q hq1] at hp
    refine ⟨_, List.mem_map.2 ⟨t q, hq3, rfl⟩, ?_⟩
    rw [hp.1, hv _ hp.2] at e
    exact e
   ·rintro ⟨x, hx, e⟩
    obtain ⟨q, hq, rfl⟩ := List.mem_map.1 hx
    have hp := h.phA hW (k := k) (hlt q hq)
    refine ⟨_, List.mem_map.2 ⟨t q, h.phis hq, rfl⟩, ?_⟩
    rw [hp.1, hv _ hp.2]
    exact e
  cases e1 : askX (Go.Proofs.YtlgejjmdanmglaaGreatDoor.valOf L args got) ((phisOf L j).map (Go.Proofs.YtlgejjmdanmglaaGreatDoor.phA L k)) with
  | none =>
   rw [hnone.2 e1]
   exact ⟨rfl, hg, h.zero.symm⟩
  | some vs =>
   cases e2 : askX (Go.Proofs.YtlgejjmdanmglaaGreatDoor.valOf M args got') ((phisOf M (t j)).map (Go.Proofs.YtlgejjmdanmglaaGreatDoor.phA M k)) with
   | none => rw [hnone.1 e2] at e1; cases e1
   | some vs' =>
    dsimp only
    unfold stepAt
    rw [if_pos hr, if_pos hr']
    refine ⟨rfl, fun i hi => ?_, rfl⟩
    show setVs got' ((phisOf M (t j)).zip vs') (t i) = setVs got ((phisOf L j).zip vs) i
    rw [setVs_is e1 i, setVs_is e2 (t i)]
    by_cases hm : i ∈ phisOf L j
    ·rw [if_pos hm, if_pos ((hph i hi).2 hm)]
     have hp := h.phA hW (k := k) hi
     rw [hp.1, hv _ hp.2]
    ·rw [if_neg hm, if_neg (fun e => hm ((hph i hi).1 e))]
     exact hg i hi
 ·have hr' : ¬ (ndAt M ((t j : Nat) : Int)).kind = gRegion := by rw [hkd]; exact hr
  have ha : natL (askL M (t j) k) = (natL (askL L j k)).map t := by
   unfold askL
   rw [if_neg hr, if_neg hr', hn]
   show natL (((ndAt L (j : Int)).ins.map fun x => ((t x.toNat : Nat) : Int)).drop 1) = _
   rw [← List.map_drop]
   exact natL_map _
  rw [ha, askX_map (r := Go.Proofs.YtlgejjmdanmglaaGreatDoor.valOf L args got) (fun x hx => hv x (askL_val hW hs x hx).1)]
  cases e1 : askX (Go.Proofs.YtlgejjmdanmglaaGreatDoor.valOf L args got) (natL (askL L j k)) with
  | none => exact ⟨rfl, hg, h.zero.symm⟩
  | some vs =>
   dsimp only
   unfold stepAt
   rw [if_neg hr, if_neg hr', hkd]
   by_cases c1 : (ndAt L (j : Int)).kind = gIf
   ·rw [if_pos c1, if_pos c1]
    exact ⟨rfl, hg, h.nextIf hW hj c1 _⟩
   ·rw [if_neg c1, if_neg c1]
    by_cases c2 : (ndAt L (j : Int)).kind = gTick
    ·rw [if_pos c2, if_pos c2]; exact ⟨rfl, hg, rfl⟩
    ·rw [if_neg c2, if_neg c2]
     by_cases c3 : (ndAt L (j : Int)).kind = gPrint
     ·rw [if_pos c3, if_pos c3]; exact ⟨rfl, hg, rfl⟩
     ·rw [if_neg c3, if_neg c3]
      by_cases c4 : (ndAt L (j : Int)).kind = gCall
      ·rw [if_pos c4, if_pos c4, hn]; exact ⟨rfl, setV_rel h rfl hg hj _, rfl⟩
      ·rw [if_neg c4, if_neg c4]; exact ⟨rfl, hg, rfl⟩
theorem Iso.walkW (h : Iso t L M) (hW : WellG ones twos P L) (hLow : ∀ n ∈ L, LowN n) : ∀ (m a : Nat) (s : Rst) (got got' : Nat → Option Int), a < L.length → isWay (ndAt L (a : Int)).kind → s.out.length ≤ 1000 → GotR t L.length got got' → walkW M args ans most m (t a) s got' = walkW L args ans most m a s got
 | 0, _, _, _, _, _, _, _, _ => rfl
 | m + 1, a, s, got, got', ha, hw, ho, hg => by
  unfold Go.Proofs.YtlgejjmdanmglaaGreatDoor.walkW
  rw [h.tkAt hW ha hw]
  dsimp only
  obtain ⟨h1, h2, h3⟩ := h.stepW (args := args) (ans := ans) (most := most) hW hg (tkAt_spot hW ha hw) s
  rw [h1]
  split
  ·rfl
  ·next hc =>
   have hnx := stepW_next (args := args) (ans := ans) (most := most) hW hLow ha hw (st := s) (got := got) rfl ho
   have hc' : (Go.Proofs.YtlgejjmdanmglaaGreatDoor.stepW L args ans most (Go.Proofs.YtlgejjmdanmglaaGreatDoor.tkAt L a).1 (Go.Proofs.YtlgejjmdanmglaaGreatDoor.tkAt L a).2 s got).1.how = [] := by simpa using hc
   obtain ⟨n1, n2⟩ := hnx.2.2.2 hc'
   rw [h3]
   exact h.walkW hW hLow m _ _ _ _ n1 n2 hnx.2.2.1 h2
end
end Go.Proofs.YtlgejjmdanmglaaGreatDoor
namespace Go.Proofs.YtlgejjmdanmglaaGreatDoor
open Go.RowKit
theorem fld_code (c : Int) (x : Int) (w : World) : (Instr.field 32 (.agg #[.int .i64 c, .int .i64 x]) 0).run Tryz.prog w = .ok (.int .i64 c) w := by kernel_rfl
theorem DoneR.below {w w' : World} {v : Value} {st : Rst} (h : DoneR w v st) (hb : Below w.heap.size w w') : DoneR w' v st := by
 obtain ⟨o, c, xs, e, h1, h2, h3⟩ := h
 exact ⟨o, c, xs, e, h1.imp (inH_up hb) (keepH hb), h2.imp (inH_up hb) (keepH hb), h3.imp (inH_up hb) (keepH hb)⟩
theorem ndR_info : (Tryz.prog.info? 54).map (fun i => (i.zero, i.size, i.bytes)) = some (some (.agg #[.string ⟨#[]⟩, .slice none 0 0, .int .i64 0, .string ⟨#[]⟩]), 4, 64) := by kernel_rfl
structure TnAt (w X : World) (nm0 : List UInt8) (P : Int) (lv : Value) (K : List Nd) : Prop where
 low : Below w.heap.size w X
 out : X.heap[w.heap.size]? = some (.cells (gcR nm0 P lv) 24 (0, 0))
 row : ∃ xs, X.ownsRow (w.heap.size + 1) 54 4 lv K.length xs ∧ XNs false (KA (w.heap.size + 1) X lv) X K xs
theorem TnAt.push {w X W3 Z : World} {nm0 : List UInt8} {P : Int} {lv lv' : Value} {K : List Nd} {n : Nd} {xs : List Value} (h : TnAt w X nm0 P lv K) (ho : X.ownsRow (w.heap.size + 1) 54 4 lv K.length xs) (hx : XNs false (KA (w.heap.size + 1) X lv) X K xs)
  (hX3 : Below X.heap.size X W3) {ad : Option Addr} {cap : Nat} (hi : W3.ownsRow X.heap.size 3 1 (.slice ad n.ins.length cap) n.ins.length (intsG n.ins))
  (hg : (W3.alloc (.cells #[.string ⟨n.kind.toArray⟩, .slice ad n.ins.length cap, .int .i64 n.num, .string ⟨n.name.toArray⟩] 54)).grownBy Z lv.ownBlock)
  (hz : Z.ownsRow (w.heap.size + 1) 54 4 lv' (K.length + 1) (xs ++ [.string ⟨n.kind.toArray⟩, .slice ad n.ins.length cap, .int .i64 n.num, .string ⟨n.name.toArray⟩])) (hl : lv'.ownBlock = lv.ownBlock ∨ lv'.ownBlock = some (W3.heap.size + 1)) :
  TnAt w (Z.setCell ⟨w.heap.size, 2, none⟩ lv') nm0 P lv' (K ++ [n]) := by
 have z3 := hX3.size
 have zz := hg.size
 rw [World.size_alloc] at zz
 have hzx := heap_lt h.out
 have hob : ∀ b, lv.ownBlock = some b → w.heap.size + 1 ≤ b ∧ b < X.heap.size := fun b hb => ho.lt b hb
 have key : ∀ b, b < w.heap.size + 1 → Z.heap[b]? = X.heap[b]? := fun b hb => by
  rw [hg.block b (by rw [World.size_alloc]; omega) (fun e => by have := hob b e.symm; omega), Below.heap_alloc _ _ _ (by omega), hX3.block b (by omega)]
 have hoZ : Z.heap[w.heap.size]? = some (.cells (gcR nm0 P lv) 24 (0, 0)) := (key _ (by omega)).trans h.out
 have hfar : ∀ b, b ≠ w.heap.size → (Z.setCell ⟨w.heap.size, 2, none⟩ lv').heap[b]? = Z.heap[b]? := fun b hb => Below.heap_setCell _ _ _ _ hb
 have hsz : (Z.setCell ⟨w.heap.size, 2, none⟩ lv').heap.size = Z.heap.size := by simp [World.setCell]
 have hown' : ∀ b, lv'.ownBlock = some b → w.heap.size + 1 ≤ b := fun b hb => (hz.lt b hb).1
 refine ⟨?_, ?_, ?_⟩
 ·have hwZ : Below w.heap.size w Z := ⟨hg.os.trans (by exact (hX3.os.trans h.low.os)), hg.tape.trans (hX3.tape.trans h.low.tape), hg.output.trans (hX3.output.trans h.low.output), by have := h.low.size; omega, fun b hb => (key b (by omega)).trans (h.low.block b hb)⟩
  exact hwZ.setCell (by simp) _
 ·have := blk_setCell hoZ 2 lv'
  simpa using this
 ·refine ⟨_, own_same (w := Z) (by rw [List.length_append]; exact hz) (fun b hb => hfar b (by have := hown' b hb; omega)), ?_⟩
  have hX1 : XN false (Nw X W3) W3 n [.string ⟨n.kind.toArray⟩, .slice ad n.ins.length cap, .int .i64 n.num, .string ⟨n.name.toArray⟩] :=
   ⟨ad, cap, rfl, fun h => (by cases h), (xrow_own hi).imp (fun b hb => ⟨hb.1, hb.2⟩) (fun _ _ => rfl)⟩
  have := app_keep (Rep := XN false) (Reps := XNs false) (fun hA hk l xs h => XNs.imp hA hk l xs h) (fun hA hk l xs h => XN.imp hA hk h) XNs.snoc ho hx hX3 hX1 (box_blk W3 _ _) (by omega) hg (by rw [World.size_alloc]; exact hl)
  exact XNs.imp (fun b hb => ⟨hb.1, by rw [hsz]; exact hb.2.1, hb.2.2⟩) (fun b hb => hfar b (by have := hb.1; omega)) _ _ this
theorem turn_get {L : List Nd} {q : Nat} (hq : q < L.length) : (turnL L).take (q + 1) = (turnL L).take q ++ [turnN L.length (ndAt L ((tau L.length q : Nat) : Int))] := by
 have h : q < (turnL L).length := by rw [turn_len]; exact hq
 rw [List.take_succ_eq_append_getElem h]
 congr 2
 have := turn_at L hq
 rw [← this]
 simp [ndAt, h]
theorem turn_mem {L : List Nd} {n : Nd} (h : n ∈ turnL L) : ∃ i, i < L.length ∧ n = turnN L.length (ndAt L ((tau L.length i : Nat) : Int)) := by
 obtain ⟨i, hi, e⟩ := List.mem_map.1 h
 exact ⟨i, List.mem_range.1 hi, e.symm⟩
theorem nd_mem {L : List Nd} {i : Nat} (hi : i < L.length) : ndAt L (i : Int) ∈ L := by rw [show ndAt L (i : Int) = L[i] from by simp [ndAt, hi]]; exact List.getElem_mem hi
theorem turn_few {L : List Nd} (h : ∀ n ∈ L, FewN n) : ∀ n ∈ turnL L, FewN n := fun n hn => by
 obtain ⟨i, hi, rfl⟩ := turn_mem hn
 have := h _ (nd_mem (tau_lt hi))
 exact ⟨this.kind, by have := this.ins; simpa [turnN] using this, this.name⟩
theorem turn_low {ones twos : List (List UInt8)} {P : Int} {L : List Nd} (hW : WellG ones twos P L) (h : ∀ n ∈ L, LowN n) : ∀ n ∈ turnL L, LowN n := fun n hn => by
 obtain ⟨i, hi, rfl⟩ := turn_mem hn
 have h1 := h _ (nd_mem (tau_lt hi))
 have hb := (hW.node.at (ndAt_ex (tau_lt hi))).bnd
 have hl := hW.len.2
 refine ⟨h1.kind, by have := h1.ins; simpa [turnN] using this, h1.name, h1.num, fun x hx => ?_⟩
 obtain ⟨y, hy, e⟩ := List.mem_map.1 hx
 have := hb y hy
 unfold tauI at e
 split at e <;> omega
set_option maxRecDepth 100000 in
set_option maxHeartbeats 8000000 in
theorem graphNumbers_any {w : World} {a : Nat → Addr} (hS : Sents w a) (hT : TabG w) (nm : List UInt8) (P : Int) (nv : Value) (L : List Nd) (hL : L.length ≤ 9223372036854775807) (hO : ∀ n ∈ L, OkN n) (hI : ∀ n ∈ L, IntN n) (hG : XG false (InH w) w nv L) (args : List Int) (argv ansv : Value) (hargs : XRow (InH w) w argv args.length (intsG args)) (hal : args.length ≤ 9223372036854775807) (hag : ∀ v ∈ args, In64 v) (ans : List Int) (hans : XRow (InH w) w ansv ans.length (intsG ans)) (hanl : ans.length ≤ 9223372036854775807) (han : ∀ v ∈ ans, In64 v) (ticks : Int) :
  Calls Tryz.prog 5 #[.agg #[.string ⟨nm.toArray⟩, .int .i64 P, nv], argv, ansv, .int .i64 ticks] w fun e w' => e = .returned (.bool true) ∧ Below w.heap.size w w' := by
 obtain ⟨ad, cap, rfl⟩ := hG.is
 obtain ⟨aad, acap, rfl⟩ := hargs.is
 obtain ⟨nad, ncap, rfl⟩ := hans.is
 obtain ⟨W0, hW0⟩ : ∃ W0, W0 = w.alloc (.cells #[.string ⟨nm.toArray⟩, .int .i64 P, .slice ad L.length cap] 24) := ⟨_, rfl⟩
 have hb0 : Below w.heap.size w W0 := by rw [hW0]; (repeat (first | exact Below.refl _ _ | assumption | refine Below.drew ?_ | refine bT ?_ _ | refine bS ?_ _ | refine bA ?_ _))
 have hx0 : W0.heap[w.heap.size]? = some (.cells #[.string ⟨nm.toArray⟩, .int .i64 P, .slice ad L.length cap] 24 (0, 0)) := by rw [hW0]; exact heap_alloc_new _ _
 have HGD := hidX (graphed_any (hS.below hb0) (hT.below hb0))
 have HS := hidX (fun (Y : World) (hY : Below w.heap.size w Y) => hS.below hY)
 have HT := hidX (fun (Y : World) (hY : Below w.heap.size w Y) => hT.below hY)
 have HG := hidX (fun (Y : World) (hY : Below w.heap.size w Y) => hG.imp (inH_up hY) (keepH hY))
 have HAR := hidX (fun (Y : World) (hY : Below w.heap.size w Y) => hargs.imp (inH_up hY) (keepH hY))
 have HAN := hidX (fun (Y : World) (hY : Below w.heap.size w Y) => hans.imp (inH_up hY) (keepH hY))
 have HX := hidX (fun (Y : World) (hY : Below W0.heap.size W0 Y) => (show (Y.cell? ⟨w.heap.size, 0, none⟩ = some (.string ⟨nm.toArray⟩)) ∧ (Y.cell? ⟨w.heap.size, 1, none⟩ = some (.int .i64 P)) ∧ (Y.cell? ⟨w.heap.size, 2, none⟩ = some (.slice ad L.length cap)) from by
  have h := (hY.block _ (heap_lt hx0)).trans hx0
  exact ⟨cell_of_blk h 0, cell_of_blk h 1, cell_of_blk h 2⟩))
 have HB0 := hidX hb0
 have HO := hidX hO
 have HI := hidX hI
 have HAG := hidX hag
 have HN64 := hidX han
 have hz0 := heap_lt hx0
 clear hS hT hO hI hG hargs hans hag han hb0 hx0
 go_enter Tryz.func5, Tryz.ntmps5
 go_wp2_with fail
 rw [← hW0]
 clear hW0
 refine HGD.out.mono ?_
 rintro e W1 ⟨rfl, hb1⟩
 have hw1 : Below w.heap.size w W1 := bl_trans HB0.out HB0.out.size hb1
 obtain ⟨d0, d1, d2⟩ := HX.out W1 hb1
 have HLG := hidX (largeG_any nm P (.slice ad L.length cap) L 60 (by decide) hL HO.out (HG.out W1 hw1))
 have HB1 := hidX hb1
 clear hb1 hw1
 go_wp2_with fail
 refine HLG.out.mono ?_
 rintro e W2 ⟨r, rfl, hr, hb2⟩
 have hb2' : Below W0.heap.size W0 W2 := bl_trans HB1.out HB1.out.size hb2
 have hw2 : Below w.heap.size w W2 := bl_trans HB0.out HB0.out.size hb2'
 have HB2 := hidX hb2'
 have HW2 := hidX hw2
 rcases hr with hr | ⟨hr, hlen, hfew⟩
 ·subst hr
  clear hb2 hb2' hw2 d0 d1 d2
  go_wp2
  go_ret
  exact ⟨rfl, HW2.out⟩
 ·subst hr
  have hL1 : L.length ≤ 1001 := by omega
  have HLOW := hidX (fun n (hn : n ∈ L) => low_of (hfew n hn) (HI.out n hn))
  have HFEW := hidX hfew
  have HMN := hidX (many_any W2 aad nad args.length ans.length acap ncap ticks hal hanl)
  obtain ⟨d0, d1, d2⟩ := HX.out W2 hb2'
  clear hb2 hb2' hw2 hlen hfew
  go_wp2_with fail
  refine HMN.out.mono ?_
  rintro e W2' ⟨rfl, hm⟩
  rcases hm with rfl | ⟨rfl, hm1, hm2, hm3, hm4⟩
  ·clear d0 d1 d2
   go_wp2
   go_ret
   exact ⟨rfl, HW2.out⟩
  ·rename World => W2
   have hzw2 : w.heap.size < W2.heap.size := cell_lt d0
   have hL1' : (L.length : Int) ≤ 1001 := by omega
   have HRF := hidX (rFault_any nm P (.slice ad L.length cap) L (by omega) HLOW.out (HG.out W2 HW2.out))
   go_wp2_with fail
   refine HRF.out.mono ?_
   rintro e W5 ⟨rfl, hb5⟩
   obtain ⟨fc, hfc⟩ : ∃ fc, fc = (faultG onesE twosE P L).1 := ⟨_, rfl⟩
   obtain ⟨fat, hfat⟩ : ∃ fat, fat = (faultG onesE twosE P L).2 := ⟨_, rfl⟩
   rw [← hfc, ← hfat]
   have HFR := hidX hfc
   clear hfc hfat
   have hfd := fld_code (fc : Int) fat
   have HB05 := hidX (bl_trans HB2.out HB2.out.size hb5)
   have HW5 := hidX (bl_trans HW2.out HW2.out.size hb5)
   obtain ⟨e0, e1, e2⟩ := HX.out W5 HB05.out
   have hz5 : w.heap.size < W5.heap.size := cell_lt e0
   clear d0 d1 d2 hb5
   by_cases hf0 : fc = 0
   ·have HFA := hidX (show (faultG onesE twosE P L).1 = 0 from by rw [← HFR.out]; exact hf0)
    have hfb : decide (0 < fc) = false := by simp [hf0]
    clear hf0
    have HWEL := hidX (wellG HFA.out)
    obtain ⟨W6, hW6⟩ : ∃ W6, W6 = W5.alloc (.cells #[.string ⟨nm.toArray⟩, .int .i64 P, .slice none 0 0] 24) := ⟨_, rfl⟩
    have hb56 : Below W5.heap.size W5 W6 := by rw [hW6]; (repeat (first | exact Below.refl _ _ | assumption | refine Below.drew ?_ | refine bT ?_ _ | refine bS ?_ _ | refine bA ?_ _))
    have hx6 : W6.heap[W5.heap.size]? = some (.cells #[.string ⟨nm.toArray⟩, .int .i64 P, .slice none 0 0] 24 (0, 0)) := by rw [hW6]; exact heap_alloc_new _ _
    have H0 := hidX (show TnAt W5 W6 nm P (.slice none 0 0) ((turnL L).take 0) from ⟨hb56, hx6, [], World.ownsRow_nil _ _ _ _, rfl⟩)
    obtain ⟨ni0, hni, nz0, nz1, nz2⟩ := info_parts ndR_info
    obtain ⟨ii0, hii, iz0, iz1, iz2⟩ := info_parts int_info
    clear hb56 hx6
    go_wp2_with fail
    rw [← hW6]
    clear hW6 e0 e1 e2
    go_loopw [12] (fun v12 wr => ∃ (q : Nat) (lv : Value), q ≤ L.length ∧ v12 = .int .i64 (q : Int) ∧ Hid (TnAt W5 wr nm P lv ((turnL L).take q))) (fun v12 _ => L.length - (intOf v12).toNat)
    case atStart => exact ⟨0, _, Nat.zero_le _, rfl, H0.out⟩
    case round =>
     obtain ⟨q, lv, hq, rfl, HT0⟩ := hrel
     have HWR := hidX (bl_trans HW5.out HW5.out.size HT0.out.low)
     obtain ⟨b0, b1, b2⟩ := HX.out wr (bl_trans HB05.out HB05.out.size HT0.out.low)
     by_cases hlt : q < L.length
     ·have hlt' : (q : Int) < (L.length : Int) := by omega
      have hln : ((turnL L).take q).length = q := by rw [List.length_take, turn_len]; omega
      obtain ⟨xs, ho, hx⟩ := HT0.out.row
      rw [hln] at ho
      have HTK := hidX (turn_get hlt)
      have HBND := hidX (fun x hx => (HWEL.out.node.at (ndAt_ex (tau_lt hlt))).bnd x hx)
      have HFEWX := hidX (HFEW.out _ (nd_mem (tau_lt hlt)))
      have hkt := tau_lt hlt
      obtain ⟨g, off, ad1, cap1, eg, hg, hcp, hr, k0, k1, k2, k3⟩ := (HG.out w (Below.refl _ _)).node hkt
      clear hcp
      subst eg
      have hnt : L[tau L.length q] = ndAt L ((tau L.length q : Nat) : Int) := by simp [ndAt, hkt]
      rw [hnt] at hr k0 k1 k2 k3
      replace k0 := (HWR.out.cell (p := ⟨g, _, none⟩) hg).trans k0
      replace k1 := (HWR.out.cell (p := ⟨g, _, none⟩) hg).trans k1
      replace k2 := (HWR.out.cell (p := ⟨g, _, none⟩) hg).trans k2
      replace k3 := (HWR.out.cell (p := ⟨g, _, none⟩) hg).trans k3
      obtain ⟨lad, lcap, rfl⟩ := own_is ho
      have HLN := hidX hln
      have HO := hidX ho
      have HX2 := hidX hx
      have hxi : (ndAt L ((tau L.length q : Nat) : Int)).ins.length ≤ 30 := HFEWX.out.ins
      generalize hxd : ndAt L ((tau L.length q : Nat) : Int) = x at *
      clear hxd hnt hln ho hx b0 b1
      by_cases hq0 : q = 0
      ·have hqb : decide (0 < q) = false := by simp [hq0]
       have ht0 : tau L.length q = 0 := by simp [tau, hq0]
       rw [ht0, Nat.zero_mul] at k0 k1 k2 k3
       have k0' : wr.cell? ⟨g, off, none⟩ = some (.string ⟨x.kind.toArray⟩) := k0
       have k1' : wr.cell? ⟨g, off + 1, none⟩ = some (.slice ad1 x.ins.length cap1) := k1
       have k2' : wr.cell? ⟨g, off + 2, none⟩ = some (.int .i64 x.num) := k2
       have k3' : wr.cell? ⟨g, off + 3, none⟩ = some (.string ⟨x.name.toArray⟩) := k3
       clear k0 k1 k2 k3 hkt ht0 hq0
       have k0 := k0'
       have k1 := k1'
       have k2 := k2'
       have k3 := k3'
       clear k0' k1' k2' k3'
       obtain ⟨Xq, hXq⟩ : ∃ Xq, Xq = wr.alloc (.cells #[.string ⟨x.kind.toArray⟩, .slice ad1 x.ins.length cap1, .int .i64 x.num, .string ⟨x.name.toArray⟩] 54) := ⟨_, rfl⟩
       have hbx : Below wr.heap.size wr Xq := by rw [hXq]; (repeat (first | exact Below.refl _ _ | assumption | refine Below.drew ?_ | refine bT ?_ _ | refine bS ?_ _ | refine bA ?_ _))
       have hnx : Xq.heap[wr.heap.size]? = some (.cells #[.string ⟨x.kind.toArray⟩, .slice ad1 x.ins.length cap1, .int .i64 x.num, .string ⟨x.name.toArray⟩] 54 (0, 0)) := by rw [hXq]; exact heap_alloc_new _ _
       have HBX := hidX hbx
       have HNX := hidX hnx
       have HROW := hidX (fun (W : World) (hW : Below Xq.heap.size Xq W) => hr.imp (inH_up (bl_trans HWR.out HWR.out.size (bl_trans hbx hbx.size hW))) (keepH (bl_trans HWR.out HWR.out.size (bl_trans hbx hbx.size hW))))
       obtain ⟨Xo, hXo⟩ : ∃ Xo, Xo = wr := ⟨_, rfl⟩
       subst hXo
       have hzx := heap_lt hnx
       clear hbx hnx hr
       go_wp2_with fail
       rw [← hXq]
       clear hXq k0 k1 k2 k3 b2
       go_loopw [15, 16] (fun v15 v16 wr => ∃ (j : Nat) (iv : Value), v15 = iv ∧ v16 = .int .i64 (j : Int) ∧ j ≤ x.ins.length ∧ Xq.heap.size ≤ wr.heap.size ∧ Hid (wr.ownsRow Xq.heap.size 3 1 iv j (intsG ((x.ins.map (tauI L.length)).take j))) ∧ Hid (Below Xq.heap.size Xq wr)) (fun _ v16 _ => x.ins.length - (intOf v16).toNat)
       case atStart => exact ⟨0, _, rfl, rfl, Nat.zero_le _, Nat.le_refl _, World.ownsRow_nil _ _ _ _, Below.refl _ _⟩
       case round =>
        obtain ⟨j, iv, hiv, rfl, hjl, hzr, HOI, HBI⟩ := hrel
        subst hiv
        obtain ⟨iad, icap, rfl⟩ := own_is HOI.out
        have hxr := (HBI.out.block _ hzx).trans HNX.out
        have n1 : wr.cell? ⟨Xo.heap.size, 1, none⟩ = some (.slice ad1 x.ins.length cap1) := cell_of_blk hxr 1
        by_cases hlt2 : j < x.ins.length
        ·have hlt2' : (j : Int) < (x.ins.length : Int) := by omega
         obtain ⟨gi, offi, e3, hgi, kx⟩ := (HROW.out wr HBI.out).int hlt2
         subst e3
         have hbd := HBND.out _ (List.getElem_mem hlt2)
         have htk := (show intsG ((x.ins.map (tauI L.length)).take (j + 1)) = intsG ((x.ins.map (tauI L.length)).take j) ++ [.int .i64 (tauI L.length x.ins[j])] from by
          rw [List.take_succ_eq_append_getElem (by simpa using hlt2), intsG_snoc]
          simp)
         have HTK2 := hidX htk
         generalize x.ins[j] = y at *
         clear htk
         by_cases hy : y = 0
         ·have ty : (y == 0) = true := by simp [hy]
          have HY := hidX (show tauI L.length y = 0 from by unfold tauI; rw [if_pos hy])
          clear hy
          go_wp2_with (at_builtin; refine wpList_append_lies _ rfl _ _ 40 rfl Xq.heap.size 3 ii0 _ 1 8 Tryz.underlying40 hii iz0 iz1 iz2 rfl (by decide) (.slice iad j icap) j (intsG ((x.ins.map (tauI L.length)).take j)) rfl (owns_below HOI.out (box_blk _ _ _)) ⟨wr.heap.size, 0, none⟩ 1 1 [.int .i64 0] rfl rfl (World.news_of_block (heap_alloc_new wr _)) (int_one _) (by decide) (by unfold maxLen; omega) (by omega) (by simp; omega) _ rfl ?_; intro g9 cap9 W9 ho9 hg9 hl9 _; have HO9 := hidX ho9; have HG9 := hidX hg9; clear ho9 hg9 hl9)
          have HB9 := hidX (show Below Xq.heap.size Xq W9 from ⟨HG9.out.os.trans HBI.out.os, HG9.out.tape.trans HBI.out.tape, HG9.out.output.trans HBI.out.output, by have := HG9.out.size; simp at this; omega, fun b hb => ((HG9.out.block b (by simp; omega) (fun e => by have := (HOI.out.lt b e.symm).1; omega)).trans (Below.heap_alloc _ _ _ (by omega))).trans (HBI.out.block b hb)⟩)
          have hz9 : Xq.heap.size ≤ W9.heap.size := HB9.out.size
          have HO10 := hidX (show W9.ownsRow Xq.heap.size 3 1 (.slice (some ⟨g9, 0, none⟩) (j + 1) cap9) (j + 1) (intsG ((x.ins.map (tauI L.length)).take (j + 1))) from by rw [HTK2.out, HY.out]; exact HO9.out)
          clear HO9 HG9
          go_roundw
          case rel => exact ⟨j + 1, _, rfl, by go_num, by omega, hz9, HO10.out, HB9.out⟩
          case measure => simp [intOf]; omega
         ·have ty : (y == 0) = false := by simpa using hy
          have HY := hidX (show tauI L.length y = (L.length : Int) - y from by unfold tauI; rw [if_neg hy])
          have hy1 : (L.length : Int) - y ≤ 1000 := by omega
          have hy2 : 0 ≤ (L.length : Int) - y := by omega
          clear hy
          go_wp2_with (at_builtin; refine wpList_append_lies _ rfl _ _ 40 rfl Xq.heap.size 3 ii0 _ 1 8 Tryz.underlying40 hii iz0 iz1 iz2 rfl (by decide) (.slice iad j icap) j (intsG ((x.ins.map (tauI L.length)).take j)) rfl (owns_below HOI.out (box_blk _ _ _)) ⟨wr.heap.size, 0, none⟩ 1 1 [.int .i64 ((L.length : Int) - y)] rfl rfl (World.news_of_block (heap_alloc_new wr _)) (int_one _) (by decide) (by unfold maxLen; omega) (by omega) (by simp; omega) _ rfl ?_; intro g9 cap9 W9 ho9 hg9 hl9 _; have HO9 := hidX ho9; have HG9 := hidX hg9; clear ho9 hg9 hl9)
          have HB9 := hidX (show Below Xq.heap.size Xq W9 from ⟨HG9.out.os.trans HBI.out.os, HG9.out.tape.trans HBI.out.tape, HG9.out.output.trans HBI.out.output, by have := HG9.out.size; simp at this; omega, fun b hb => ((HG9.out.block b (by simp; omega) (fun e => by have := (HOI.out.lt b e.symm).1; omega)).trans (Below.heap_alloc _ _ _ (by omega))).trans (HBI.out.block b hb)⟩)
          have hz9 : Xq.heap.size ≤ W9.heap.size := HB9.out.size
          have HO10 := hidX (show W9.ownsRow Xq.heap.size 3 1 (.slice (some ⟨g9, 0, none⟩) (j + 1) cap9) (j + 1) (intsG ((x.ins.map (tauI L.length)).take (j + 1))) from by rw [HTK2.out, HY.out]; exact HO9.out)
          clear HO9 HG9
          go_roundw
          case rel => exact ⟨j + 1, _, rfl, by go_num, by omega, hz9, HO10.out, HB9.out⟩
          case measure => simp [intOf]; omega
        ·have hje : j = x.ins.length := by omega
         subst hje
         have n0 : wr.cell? ⟨Xo.heap.size, 0, none⟩ = some (.string ⟨x.kind.toArray⟩) := cell_of_blk hxr 0
         have n2 : wr.cell? ⟨Xo.heap.size, 2, none⟩ = some (.int .i64 x.num) := cell_of_blk hxr 2
         have n3 : wr.cell? ⟨Xo.heap.size, 3, none⟩ = some (.string ⟨x.name.toArray⟩) := cell_of_blk hxr 3
         have hbo : Below Xo.heap.size Xo wr := bl_trans HBX.out HBX.out.size HBI.out
         have hoB : wr.heap[W5.heap.size]? = _ := (hbo.block _ (heap_lt HT0.out.out)).trans HT0.out.out
         have o2 : wr.cell? ⟨W5.heap.size, 2, none⟩ = some (.slice lad q lcap) := cell_of_blk hoB 2
         have hlt5 : W5.heap.size < Xo.heap.size := heap_lt HT0.out.out
         have HBO := hidX hbo
         have HOB := hidX hoB
         have hzo := hbo.size
         have hoi := HOI.out
         rw [show (x.ins.map (tauI L.length)).take x.ins.length = x.ins.map (tauI L.length) from List.take_of_length_le (by simp)] at hoi
         have HOI2 := hidX (show wr.ownsRow Xo.heap.size 3 1 (.slice iad (x.ins.map (tauI L.length)).length icap) (x.ins.map (tauI L.length)).length (intsG (x.ins.map (tauI L.length))) from by rw [List.length_map]; exact own_base hoi HBX.out.size)
         clear hbo hoB hxr hoi
         go_wp2_with (at_builtin; refine wpList_append_lies _ rfl _ _ 22 rfl (W5.heap.size + 1) 54 ni0 _ 4 64 Tryz.underlying22 hni nz0 nz1 nz2 rfl (by decide) (.slice lad q lcap) q xs rfl (owns_below (owns_below HO.out HBO.out) (box_blk _ _ _)) ⟨wr.heap.size, 0, none⟩ 1 1 [.string ⟨x.kind.toArray⟩, .slice iad x.ins.length icap, .int .i64 x.num, .string ⟨x.name.toArray⟩] rfl rfl (World.news_of_block (heap_alloc_new wr _)) (nd_one x iad x.ins.length icap) (by decide) (by unfold maxLen; omega) (by omega) (by simp; omega) _ rfl ?_; intro g8 cap8 W8 ho8 hg8 hl8 _; have HO8 := hidX ho8; have HG8 := hidX hg8; have HL8 := hidX hl8; have hb8 : W8.heap[W5.heap.size]? = _ := (hg8.block _ (by simp; omega) (fun e => by have := (HO.out.lt _ e.symm).1; omega)).trans ((Below.heap_alloc _ _ _ (by omega)).trans HOB.out); have s8 : W8.cell? ⟨W5.heap.size, 2, none⟩ = some (.slice lad q lcap) := cell_of_blk hb8 2; have fr8 := free_of_blk hb8 2; clear hb8 ho8 hg8 hl8)
         have hfin := HT0.out.push (n := turnN L.length x) (W3 := wr) (Z := W8) (lv' := .slice (some ⟨g8, 0, none⟩) (q + 1) cap8) (ad := iad) (cap := icap) (by rw [HLN.out]; exact HO.out) HX2.out HBO.out HOI2.out (by rw [show (turnN L.length x).ins.length = x.ins.length from by simp [turnN]]; exact HG8.out) (by rw [HLN.out, show (turnN L.length x).ins.length = x.ins.length from by simp [turnN]]; exact HO8.out) (by
          rcases HL8.out with e | e
          ·exact Or.inl e.symm
          ·right; simp only [Value.ownBlock]; rw [e]; simp)
         rw [← HTK.out] at hfin
         have HFIN := hidX hfin
         clear hfin
         go_roundw
         case rel => exact ⟨q + 1, _, by omega, by go_num, HFIN.out⟩
         case measure => simp [intOf]; omega
      ·have hqb : decide (0 < q) = true := by simp; omega
       obtain ⟨m, hm⟩ : ∃ m, m = L.length - q := ⟨_, rfl⟩
       have htm : tau L.length q = m := by unfold tau; rw [if_neg hq0]; exact hm.symm
       rw [htm] at k0 k1 k2 k3 hkt
       have hsub : (L.length : Int) - (q : Int) = (m : Int) := by omega
       have hml : (m : Int) < (L.length : Int) := by omega
       clear hm htm hq0
       obtain ⟨Xq, hXq⟩ : ∃ Xq, Xq = wr.alloc (.cells #[.string ⟨x.kind.toArray⟩, .slice ad1 x.ins.length cap1, .int .i64 x.num, .string ⟨x.name.toArray⟩] 54) := ⟨_, rfl⟩
       have hbx : Below wr.heap.size wr Xq := by rw [hXq]; (repeat (first | exact Below.refl _ _ | assumption | refine Below.drew ?_ | refine bT ?_ _ | refine bS ?_ _ | refine bA ?_ _))
       have hnx : Xq.heap[wr.heap.size]? = some (.cells #[.string ⟨x.kind.toArray⟩, .slice ad1 x.ins.length cap1, .int .i64 x.num, .string ⟨x.name.toArray⟩] 54 (0, 0)) := by rw [hXq]; exact heap_alloc_new _ _
       have HBX := hidX hbx
       have HNX := hidX hnx
       have HROW := hidX (fun (W : World) (hW : Below Xq.heap.size Xq W) => hr.imp (inH_up (bl_trans HWR.out HWR.out.size (bl_trans hbx hbx.size hW))) (keepH (bl_trans HWR.out HWR.out.size (bl_trans hbx hbx.size hW))))
       obtain ⟨Xo, hXo⟩ : ∃ Xo, Xo = wr := ⟨_, rfl⟩
       subst hXo
       have hzx := heap_lt hnx
       clear hbx hnx hr
       go_wp2_with fail
       rw [← hXq]
       clear hXq k0 k1 k2 k3 b2
       go_loopw [15, 16] (fun v15 v16 wr => ∃ (j : Nat) (iv : Value), v15 = iv ∧ v16 = .int .i64 (j : Int) ∧ j ≤ x.ins.length ∧ Xq.heap.size ≤ wr.heap.size ∧ Hid (wr.ownsRow Xq.heap.size 3 1 iv j (intsG ((x.ins.map (tauI L.length)).take j))) ∧ Hid (Below Xq.heap.size Xq wr)) (fun _ v16 _ => x.ins.length - (intOf v16).toNat)
       case atStart => exact ⟨0, _, rfl, rfl, Nat.zero_le _, Nat.le_refl _, World.ownsRow_nil _ _ _ _, Below.refl _ _⟩
       case round =>
        obtain ⟨j, iv, hiv, rfl, hjl, hzr, HOI, HBI⟩ := hrel
        subst hiv
        obtain ⟨iad, icap, rfl⟩ := own_is HOI.out
        have hxr := (HBI.out.block _ hzx).trans HNX.out
        have n1 : wr.cell? ⟨Xo.heap.size, 1, none⟩ = some (.slice ad1 x.ins.length cap1) := cell_of_blk hxr 1
        by_cases hlt2 : j < x.ins.length
        ·have hlt2' : (j : Int) < (x.ins.length : Int) := by omega
         obtain ⟨gi, offi, e3, hgi, kx⟩ := (HROW.out wr HBI.out).int hlt2
         subst e3
         have hbd := HBND.out _ (List.getElem_mem hlt2)
         have htk := (show intsG ((x.ins.map (tauI L.length)).take (j + 1)) = intsG ((x.ins.map (tauI L.length)).take j) ++ [.int .i64 (tauI L.length x.ins[j])] from by
          rw [List.take_succ_eq_append_getElem (by simpa using hlt2), intsG_snoc]
          simp)
         have HTK2 := hidX htk
         generalize x.ins[j] = y at *
         clear htk
         by_cases hy : y = 0
         ·have ty : (y == 0) = true := by simp [hy]
          have HY := hidX (show tauI L.length y = 0 from by unfold tauI; rw [if_pos hy])
          clear hy
          go_wp2_with (at_builtin; refine wpList_append_lies _ rfl _ _ 40 rfl Xq.heap.size 3 ii0 _ 1 8 Tryz.underlying40 hii iz0 iz1 iz2 rfl (by decide) (.slice iad j icap) j (intsG ((x.ins.map (tauI L.length)).take j)) rfl (owns_below HOI.out (box_blk _ _ _)) ⟨wr.heap.size, 0, none⟩ 1 1 [.int .i64 0] rfl rfl (World.news_of_block (heap_alloc_new wr _)) (int_one _) (by decide) (by unfold maxLen; omega) (by omega) (by simp; omega) _ rfl ?_; intro g9 cap9 W9 ho9 hg9 hl9 _; have HO9 := hidX ho9; have HG9 := hidX hg9; clear ho9 hg9 hl9)
          have HB9 := hidX (show Below Xq.heap.size Xq W9 from ⟨HG9.out.os.trans HBI.out.os, HG9.out.tape.trans HBI.out.tape, HG9.out.output.trans HBI.out.output, by have := HG9.out.size; simp at this; omega, fun b hb => ((HG9.out.block b (by simp; omega) (fun e => by have := (HOI.out.lt b e.symm).1; omega)).trans (Below.heap_alloc _ _ _ (by omega))).trans (HBI.out.block b hb)⟩)
          have hz9 : Xq.heap.size ≤ W9.heap.size := HB9.out.size
          have HO10 := hidX (show W9.ownsRow Xq.heap.size 3 1 (.slice (some ⟨g9, 0, none⟩) (j + 1) cap9) (j + 1) (intsG ((x.ins.map (tauI L.length)).take (j + 1))) from by rw [HTK2.out, HY.out]; exact HO9.out)
          clear HO9 HG9
          go_roundw
          case rel => exact ⟨j + 1, _, rfl, by go_num, by omega, hz9, HO10.out, HB9.out⟩
          case measure => simp [intOf]; omega
         ·have ty : (y == 0) = false := by simpa using hy
          have HY := hidX (show tauI L.length y = (L.length : Int) - y from by unfold tauI; rw [if_neg hy])
          have hy1 : (L.length : Int) - y ≤ 1000 := by omega
          have hy2 : 0 ≤ (L.length : Int) - y := by omega
          clear hy
          go_wp2_with (at_builtin; refine wpList_append_lies _ rfl _ _ 40 rfl Xq.heap.size 3 ii0 _ 1 8 Tryz.underlying40 hii iz0 iz1 iz2 rfl (by decide) (.slice iad j icap) j (intsG ((x.ins.map (tauI L.length)).take j)) rfl (owns_below HOI.out (box_blk _ _ _)) ⟨wr.heap.size, 0, none⟩ 1 1 [.int .i64 ((L.length : Int) - y)] rfl rfl (World.news_of_block (heap_alloc_new wr _)) (int_one _) (by decide) (by unfold maxLen; omega) (by omega) (by simp; omega) _ rfl ?_; intro g9 cap9 W9 ho9 hg9 hl9 _; have HO9 := hidX ho9; have HG9 := hidX hg9; clear ho9 hg9 hl9)
          have HB9 := hidX (show Below Xq.heap.size Xq W9 from ⟨HG9.out.os.trans HBI.out.os, HG9.out.tape.trans HBI.out.tape, HG9.out.output.trans HBI.out.output, by have := HG9.out.size; simp at this; omega, fun b hb => ((HG9.out.block b (by simp; omega) (fun e => by have := (HOI.out.lt b e.symm).1; omega)).trans (Below.heap_alloc _ _ _ (by omega))).trans (HBI.out.block b hb)⟩)
          have hz9 : Xq.heap.size ≤ W9.heap.size := HB9.out.size
          have HO10 := hidX (show W9.ownsRow Xq.heap.size 3 1 (.slice (some ⟨g9, 0, none⟩) (j + 1) cap9) (j + 1) (intsG ((x.ins.map (tauI L.length)).take (j + 1))) from by rw [HTK2.out, HY.out]; exact HO9.out)
          clear HO9 HG9
          go_roundw
          case rel => exact ⟨j + 1, _, rfl, by go_num, by omega, hz9, HO10.out, HB9.out⟩
          case measure => simp [intOf]; omega
        ·have hje : j = x.ins.length := by omega
         subst hje
         have n0 : wr.cell? ⟨Xo.heap.size, 0, none⟩ = some (.string ⟨x.kind.toArray⟩) := cell_of_blk hxr 0
         have n2 : wr.cell? ⟨Xo.heap.size, 2, none⟩ = some (.int .i64 x.num) := cell_of_blk hxr 2
         have n3 : wr.cell? ⟨Xo.heap.size, 3, none⟩ = some (.string ⟨x.name.toArray⟩) := cell_of_blk hxr 3
         have hbo : Below Xo.heap.size Xo wr := bl_trans HBX.out HBX.out.size HBI.out
         have hoB : wr.heap[W5.heap.size]? = _ := (hbo.block _ (heap_lt HT0.out.out)).trans HT0.out.out
         have o2 : wr.cell? ⟨W5.heap.size, 2, none⟩ = some (.slice lad q lcap) := cell_of_blk hoB 2
         have hlt5 : W5.heap.size < Xo.heap.size := heap_lt HT0.out.out
         have HBO := hidX hbo
         have HOB := hidX hoB
         have hzo := hbo.size
         have hoi := HOI.out
         rw [show (x.ins.map (tauI L.length)).take x.ins.length = x.ins.map (tauI L.length) from List.take_of_length_le (by simp)] at hoi
         have HOI2 := hidX (show wr.ownsRow Xo.heap.size 3 1 (.slice iad (x.ins.map (tauI L.length)).length icap) (x.ins.map (tauI L.length)).length (intsG (x.ins.map (tauI L.length))) from by rw [List.length_map]; exact own_base hoi HBX.out.size)
         clear hbo hoB hxr hoi
         go_wp2_with (at_builtin; refine wpList_append_lies _ rfl _ _ 22 rfl (W5.heap.size + 1) 54 ni0 _ 4 64 Tryz.underlying22 hni nz0 nz1 nz2 rfl (by decide) (.slice lad q lcap) q xs rfl (owns_below (owns_below HO.out HBO.out) (box_blk _ _ _)) ⟨wr.heap.size, 0, none⟩ 1 1 [.string ⟨x.kind.toArray⟩, .slice iad x.ins.length icap, .int .i64 x.num, .string ⟨x.name.toArray⟩] rfl rfl (World.news_of_block (heap_alloc_new wr _)) (nd_one x iad x.ins.length icap) (by decide) (by unfold maxLen; omega) (by omega) (by simp; omega) _ rfl ?_; intro g8 cap8 W8 ho8 hg8 hl8 _; have HO8 := hidX ho8; have HG8 := hidX hg8; have HL8 := hidX hl8; have hb8 : W8.heap[W5.heap.size]? = _ := (hg8.block _ (by simp; omega) (fun e => by have := (HO.out.lt _ e.symm).1; omega)).trans ((Below.heap_alloc _ _ _ (by omega)).trans HOB.out); have s8 : W8.cell? ⟨W5.heap.size, 2, none⟩ = some (.slice lad q lcap) := cell_of_blk hb8 2; have fr8 := free_of_blk hb8 2; clear hb8 ho8 hg8 hl8)
         have hfin := HT0.out.push (n := turnN L.length x) (W3 := wr) (Z := W8) (lv' := .slice (some ⟨g8, 0, none⟩) (q + 1) cap8) (ad := iad) (cap := icap) (by rw [HLN.out]; exact HO.out) HX2.out HBO.out HOI2.out (by rw [show (turnN L.length x).ins.length = x.ins.length from by simp [turnN]]; exact HG8.out) (by rw [HLN.out, show (turnN L.length x).ins.length = x.ins.length from by simp [turnN]]; exact HO8.out) (by
          rcases HL8.out with e | e
          ·exact Or.inl e.symm
          ·right; simp only [Value.ownBlock]; rw [e]; simp)
         rw [← HTK.out] at hfin
         have HFIN := hidX hfin
         clear hfin
         go_roundw
         case rel => exact ⟨q + 1, _, by omega, by go_num, HFIN.out⟩
         case measure => simp [intOf]; omega
     ·have hqn : q = L.length := by omega
      subst hqn
      obtain ⟨M, hM⟩ : ∃ M, M = turnL L := ⟨_, rfl⟩
      have HT1 := hidX (show TnAt W5 wr nm P lv M from by
       have h := HT0.out
       rw [List.take_of_length_le (by rw [turn_len]; exact Nat.le_refl _), ← hM] at h
       exact h)
      have HML := hidX (show M.length = L.length from by rw [hM, turn_len])
      have HISO := hidX (show Iso (tau L.length) L M from by rw [hM]; exact turn_iso HWEL.out)
      have HFEWM := hidX (show ∀ n ∈ M, FewN n from by rw [hM]; exact turn_few HFEW.out)
      have HLOWM := hidX (show ∀ n ∈ M, LowN n from by rw [hM]; exact turn_low HWEL.out HLOW.out)
      have HFM := hidX (well_fault (HISO.out.well HWEL.out))
      have HXM := hidX (show XG false (InH wr) wr lv M from by
       obtain ⟨xs, ho, hx⟩ := HT1.out.row
       exact ⟨xs, (xrow_own ho).imp (fun b hb => hb.2) (fun _ _ => rfl), hx.imp (fun b hb => hb.2.1) (fun _ _ => rfl) _ _⟩)
      have HOB := hidX (show wr.heap[W5.heap.size]? = _ from HT1.out.out)
      obtain ⟨lad, lcap, rfl⟩ := HXM.out.is
      have HBWR := hidX (bl_trans HB05.out HB05.out.size HT1.out.low)
      clear HT0 HT1 hM
      have HAS := hidX (fun (Y : World) (hY : Below wr.heap.size wr Y) => asGraph_any nm P (.slice ad L.length cap) L hL1 HFEW.out (HG.out Y (bl_trans HWR.out HWR.out.size hY)))
      have HAM := hidX (fun (Y : World) (hY : Below wr.heap.size wr Y) => asGraph_any nm P (.slice lad M.length lcap) M (by rw [HML.out]; exact hL1) HFEWM.out (HXM.out.imp (inH_up hY) (keepH hY)))
      go_wp2_with fail
      refine (HAS.out wr (Below.refl _ _)).mono ?_
      rintro e X1 ⟨xv, rfl, hx1, hb1⟩
      obtain ⟨xa, xc, rfl⟩ := hx1.is
      obtain ⟨Xa, hXa⟩ : ∃ Xa, Xa = X1.alloc (.cells #[.string ⟨nm.toArray⟩, .int .i64 P, .slice xa L.length xc] 29) := ⟨_, rfl⟩
      have hb1a : Below X1.heap.size X1 Xa := by rw [hXa]; (repeat (first | exact Below.refl _ _ | assumption | refine Below.drew ?_ | refine bT ?_ _ | refine bS ?_ _ | refine bA ?_ _))
      have hxa : Xa.heap[X1.heap.size]? = some (.cells #[.string ⟨nm.toArray⟩, .int .i64 P, .slice xa L.length xc] 29 (0, 0)) := by rw [hXa]; exact heap_alloc_new _ _
      have hba : Below wr.heap.size wr Xa := bl_trans hb1 hb1.size hb1a
      have hoB1 : X1.heap[W5.heap.size]? = some (.cells (gcR nm P (.slice lad M.length lcap)) 24 (0, 0)) := (hb1.block _ (heap_lt HOB.out)).trans HOB.out
      have p0 : X1.cell? ⟨W5.heap.size, 0, none⟩ = some (.string ⟨nm.toArray⟩) := cell_of_blk hoB1 0
      have p1 : X1.cell? ⟨W5.heap.size, 1, none⟩ = some (.int .i64 P) := cell_of_blk hoB1 1
      have p2 : X1.cell? ⟨W5.heap.size, 2, none⟩ = some (.slice lad M.length lcap) := cell_of_blk hoB1 2
      have hl51 : W5.heap.size < X1.heap.size := heap_lt hoB1
      have HBA := hidX hba
      have HXA := hidX hxa
      have HX1 := hidX (hx1.imp (inH_up hb1a) (keepH hb1a))
      clear hx1 hb1 hb1a hxa hba hoB1 b2
      go_wp2_with fail
      rw [← hXa]
      clear hXa
      refine (HAM.out Xa HBA.out).mono ?_
      rintro e X2 ⟨yv, rfl, hx2, hb2⟩
      obtain ⟨ya, yc, rfl⟩ := hx2.is
      obtain ⟨Xb, hXb⟩ : ∃ Xb, Xb = X2.alloc (.cells #[.string ⟨nm.toArray⟩, .int .i64 P, .slice ya M.length yc] 29) := ⟨_, rfl⟩
      have hb2b : Below X2.heap.size X2 Xb := by rw [hXb]; (repeat (first | exact Below.refl _ _ | assumption | refine Below.drew ?_ | refine bT ?_ _ | refine bS ?_ _ | refine bA ?_ _))
      have hxb : Xb.heap[X2.heap.size]? = some (.cells #[.string ⟨nm.toArray⟩, .int .i64 P, .slice ya M.length yc] 29 (0, 0)) := by rw [hXb]; exact heap_alloc_new _ _
      have hbab : Below Xa.heap.size Xa Xb := bl_trans hb2 hb2.size hb2b
      have HBB := hidX (bl_trans HBA.out HBA.out.size hbab)
      have HWB := hidX (bl_trans HWR.out HWR.out.size HBB.out)
      have HXAB := hidX ((hbab.block _ (heap_lt HXA.out)).trans HXA.out)
      have HXB := hidX hxb
      have HX1B := hidX (HX1.out.imp (inH_up hbab) (keepH hbab))
      have HX2B := hidX (hx2.imp (inH_up hb2b) (keepH hb2b))
      have HK := hidX (fun (W : World) (hW : Below Xb.heap.size Xb W) => (show W.cell? ⟨X1.heap.size, 0, none⟩ = some (.string ⟨nm.toArray⟩) ∧ W.cell? ⟨X1.heap.size, 1, none⟩ = some (.int .i64 P) ∧ W.cell? ⟨X1.heap.size, 2, none⟩ = some (.slice xa L.length xc) ∧ W.cell? ⟨X2.heap.size, 0, none⟩ = some (.string ⟨nm.toArray⟩) ∧ W.cell? ⟨X2.heap.size, 1, none⟩ = some (.int .i64 P) ∧ W.cell? ⟨X2.heap.size, 2, none⟩ = some (.slice ya M.length yc) from by
       have h1 := (hW.block _ (heap_lt HXAB.out)).trans HXAB.out
       have h2 := (hW.block _ (heap_lt HXB.out)).trans HXB.out
       exact ⟨cell_of_blk h1 0, cell_of_blk h1 1, cell_of_blk h1 2, cell_of_blk h2 0, cell_of_blk h2 1, cell_of_blk h2 2⟩))
      have HCK := hidX (fun (Y : World) (hY : Below Xb.heap.size Xb Y) => show Calls Tryz.prog 11 #[.agg #[.string ⟨nm.toArray⟩, .int .i64 P, .slice ya M.length yc]] Y (fun e w' => e = .returned .nilIface ∧ Below Y.heap.size Y w') from (check_any (HS.out Y (bl_trans HWB.out HWB.out.size hY)) (HT.out Y (bl_trans HWB.out HWB.out.size hY)) nm P (.slice ya M.length yc) M (by have := HML.out; omega) HLOWM.out (HX2B.out.imp (inH_up hY) (keepH hY))).mono (fun e w' h => ⟨by have h2 := h.2; rw [if_pos HFM.out] at h2; exact h2, h.1⟩))
      obtain ⟨sb, hsb⟩ : ∃ sb : Bool, sb = true ↔ SoundP L := by
       by_cases h : SoundP L
       ·exact ⟨true, by simp [h]⟩
       ·exact ⟨false, by simp [h]⟩
      have HSA := hidX (fun (Y : World) (hY : Below Xb.heap.size Xb Y) => show Calls Tryz.prog 13 #[.agg #[.string ⟨nm.toArray⟩, .int .i64 P, .slice xa L.length xc]] Y (fun e w' => e = .returned (.bool sb) ∧ Below Y.heap.size Y w') from (sound_any (HS.out Y (bl_trans HWB.out HWB.out.size hY)) (HT.out Y (bl_trans HWB.out HWB.out.size hY)) nm P (.slice xa L.length xc) L (by omega) HLOW.out (HX1B.out.imp (inH_up hY) (keepH hY))).mono (fun e w' h => by
       obtain ⟨h1, b, rfl, h2⟩ := h
       exact ⟨by rw [show b = sb from by rw [Bool.eq_iff_iff, h2, hsb]; exact ⟨fun h => h.2, fun h => ⟨HFA.out, h⟩⟩], h1⟩))
      have HSB := hidX (fun (Y : World) (hY : Below Xb.heap.size Xb Y) => show Calls Tryz.prog 13 #[.agg #[.string ⟨nm.toArray⟩, .int .i64 P, .slice ya M.length yc]] Y (fun e w' => e = .returned (.bool sb) ∧ Below Y.heap.size Y w') from (sound_any (HS.out Y (bl_trans HWB.out HWB.out.size hY)) (HT.out Y (bl_trans HWB.out HWB.out.size hY)) nm P (.slice ya M.length yc) M (by have := HML.out; omega) HLOWM.out (HX2B.out.imp (inH_up hY) (keepH hY))).mono (fun e w' h => by
       obtain ⟨h1, b, rfl, h2⟩ := h
       exact ⟨by rw [show b = sb from by rw [Bool.eq_iff_iff, h2, hsb, HISO.out.sound_iff]; exact ⟨fun h => h.2, fun h => ⟨HFM.out, h⟩⟩], h1⟩))
      obtain ⟨k0, k1, k2, k3, k4, k5⟩ := HK.out Xb (Below.refl _ _)
      have hnb : (sb != sb) = false := by simp
      clear hsb hx2 hb2 hb2b hxb hbab p0 p1 p2
      go_wp2_with fail
      rw [← hXb]
      clear hXb
      go_region_held3 (fun W => W.cell? ⟨X1.heap.size, 0, none⟩ = some (.string ⟨nm.toArray⟩) ∧ W.cell? ⟨X1.heap.size, 1, none⟩ = some (.int .i64 P) ∧ W.cell? ⟨X1.heap.size, 2, none⟩ = some (.slice xa L.length xc) ∧ W.cell? ⟨X2.heap.size, 0, none⟩ = some (.string ⟨nm.toArray⟩) ∧ W.cell? ⟨X2.heap.size, 1, none⟩ = some (.int .i64 P) ∧ W.cell? ⟨X2.heap.size, 2, none⟩ = some (.slice ya M.length yc))
       (first | with_reducible exact s5 | with_reducible exact s4 | with_reducible exact s3 | exact HK.out _ (by (repeat (first | exact Below.refl _ _ | assumption | refine Below.drew ?_ | refine bT ?_ _ | refine bS ?_ _ | refine bA ?_ _))))
       (first
        | (go_at_call 11; refine (HCK.out Xb.drew (Below.drew (Below.refl _ _))).mono ?_; rintro e X3 ⟨rfl, hb3⟩; have hb3' : Below Xb.heap.size Xb X3 := Below.trans (Below.drew (Below.refl _ _)) (show Below Xb.heap.size Xb.drew X3 from hb3); have s3 := HK.out _ hb3'; have HB3 := hidX hb3'; clear hb3 hb3')
        | (go_at_call 13; refine (HSB.out X4 HB4.out).mono ?_; rintro e X5 ⟨rfl, hb5⟩; have hb5' := bl_trans HB4.out HB4.out.size hb5; have s5 := HK.out _ hb5'; have HB5 := hidX hb5'; clear hb5 hb5')
        | (go_at_call 13; refine (HSA.out X3 HB3.out).mono ?_; rintro e X4 ⟨rfl, hb4⟩; have hb4' := bl_trans HB3.out HB3.out.size hb4; have s4 := HK.out _ hb4'; have HB4 := hidX hb4'; clear hb4 hb4'))
      have HB0X := hidX (bl_trans HBWR.out HBWR.out.size (bl_trans HBB.out HBB.out.size HB5.out))
      obtain ⟨g0, g1, g2⟩ := HX.out X5 HB0X.out
      have HWX := hidX (bl_trans HWB.out HWB.out.size HB5.out)
      clear k0 k1 k2 k3 k4 k5 s3 s4 s5
      by_cases hP : (args.length : Int) = P
      ·have t2 : ((args.length : Int) == P) = true := by simp [hP]
       have t3 : ((args.length : Int) != P) = false := by simp [hP]
       have HP := hidX hP
       have HWO := hidX (walkOf_any nm P (.slice ad L.length cap) L HLOW.out (HG.out X5 HWX.out) HWEL.out args _ _ hP HAG.out (HAR.out X5 HWX.out) ans (HAN.out X5 HWX.out) (by omega) HN64.out ticks 3000 (by decide))
       have HSM := hidX (walk_same L args ans ticks 3000 100000 0 st0 (fun _ => none) (by decide))
       have HBND := hidX (walkL_bnd (args := args) (most := ticks) HLOW.out 3000 0 st0 (fun _ => none) (st0_bnd (ans := ans)))
       have HTW := hidX (show walkW M args ans ticks 100000 0 st0 (fun _ => none) = walkW L args ans ticks 100000 0 st0 (fun _ => none) from by
        have h := HISO.out.walkW (args := args) (ans := ans) (most := ticks) HWEL.out HLOW.out 100000 0 st0 (fun _ => none) (fun _ => none) (by have := HWEL.out.len.1; omega) (show isWay (ndAt L ((0 : Nat) : Int)).kind by rw [show ((0 : Nat) : Int) = 0 from rfl, HWEL.out.start]; exact start_way) (by simp [st0]) (fun _ _ => rfl)
        rw [show tau L.length 0 = 0 from by simp [tau]] at h
        exact h)
       generalize walkL L args ans ticks 3000 0 st0 (fun _ => none) = st at *
       clear hP
       go_wp2_with fail
       refine HWO.out.mono ?_
       rintro e X6 ⟨hb6, v6, rfl, hd6⟩
       obtain ⟨outv, callv, xs, e6, hd61, hd62, hd63⟩ := hd6
       have e6' : v6 = .agg #[.string ⟨st.how.toArray⟩, .int .i64 st.val, outv, .int .i64 st.tks, callv] := e6
       subst e6'
       obtain ⟨oa, oc, rfl⟩ := hd61.is
       obtain ⟨ca, cc, rfl⟩ := hd62.is
       obtain ⟨X7, hX7⟩ : ∃ X7, X7 = X6.alloc (.cells #[.string ⟨st.how.toArray⟩, .int .i64 st.val, .slice oa st.out.length oc, .int .i64 st.tks, .slice ca st.calls.length cc] 44) := ⟨_, rfl⟩
       have hb67 : Below X6.heap.size X6 X7 := by rw [hX7]; (repeat (first | exact Below.refl _ _ | assumption | refine Below.drew ?_ | refine bT ?_ _ | refine bS ?_ _ | refine bA ?_ _))
       have hx7 : X7.heap[X6.heap.size]? = some (.cells #[.string ⟨st.how.toArray⟩, .int .i64 st.val, .slice oa st.out.length oc, .int .i64 st.tks, .slice ca st.calls.length cc] 44 (0, 0)) := by rw [hX7]; exact heap_alloc_new _ _
       have hb57 : Below X5.heap.size X5 X7 := bl_trans hb6 hb6.size hb67
       have hbb7 : Below Xb.heap.size Xb X7 := bl_trans HB5.out HB5.out.size hb57
       have HBB7 := hidX hbb7
       have HW7 := hidX (bl_trans HWB.out HWB.out.size hbb7)
       have HXB7 := hidX ((hbb7.block _ (heap_lt HXB.out)).trans HXB.out)
       have HX7 := hidX hx7
       have HDR := hidX (show DoneR X7 (.agg #[.string ⟨st.how.toArray⟩, .int .i64 st.val, .slice oa st.out.length oc, .int .i64 st.tks, .slice ca st.calls.length cc]) st from ⟨_, _, xs, rfl, hd61.imp (fun b hb => inH_up hb67 b hb.2) (fun b hb => hb67.block b hb.2), hd62.imp (fun b hb => inH_up hb67 b hb.2) (fun b hb => hb67.block b hb.2), hd63.imp (fun b hb => inH_up hb67 b hb.2) (fun b hb => hb67.block b hb.2)⟩)
       have HK2 := hidX (fun (W : World) (hW : Below X7.heap.size X7 W) => (show W.cell? ⟨X2.heap.size, 0, none⟩ = some (.string ⟨nm.toArray⟩) ∧ W.cell? ⟨X2.heap.size, 1, none⟩ = some (.int .i64 P) ∧ W.cell? ⟨X2.heap.size, 2, none⟩ = some (.slice ya M.length yc) ∧ W.cell? ⟨X6.heap.size, 0, none⟩ = some (.string ⟨st.how.toArray⟩) ∧ W.cell? ⟨X6.heap.size, 1, none⟩ = some (.int .i64 st.val) ∧ W.cell? ⟨X6.heap.size, 2, none⟩ = some (.slice oa st.out.length oc) ∧ W.cell? ⟨X6.heap.size, 3, none⟩ = some (.int .i64 st.tks) ∧ W.cell? ⟨X6.heap.size, 4, none⟩ = some (.slice ca st.calls.length cc) from by
        have h1 := (hW.block _ (heap_lt HXB7.out)).trans HXB7.out
        have h2 := (hW.block _ (heap_lt HX7.out)).trans HX7.out
        exact ⟨cell_of_blk h1 0, cell_of_blk h1 1, cell_of_blk h1 2, cell_of_blk h2 0, cell_of_blk h2 1, cell_of_blk h2 2, cell_of_blk h2 3, cell_of_blk h2 4⟩))
       clear e6 hb6 hb67 hx7 hb57 hbb7 g0 g1 g2 t2 t3 hd61 hd62 hd63
       obtain ⟨k0, k1, k2, k3, k4, k5, k6, k7⟩ := HK2.out X7 (Below.refl _ _)
       by_cases hs : st.how = hStuck
       ·have tl : (st.how == [115, 116, 117, 99, 107]) = true := by rw [hs]; decide
        clear hs
        go_wp2_with fail
        rw [← hX7]
        clear hX7
        go_quiet (fail)
        go_wp2
        go_ret
        exact ⟨rfl, bT HW7.out _⟩
       ·have tl : (st.how == [115, 116, 117, 99, 107]) = false := ne_lit hs
        clear hs
        by_cases hl : st.how = hLong
        ·have tm : (st.how == [108, 111, 110, 103]) = true := by rw [hl]; decide
         clear hl
         go_wp2_with fail
         rw [← hX7]
         clear hX7
         go_quiet (fail)
         go_wp2
         go_ret
         exact ⟨rfl, bT HW7.out _⟩
        ·have tm : (st.how == [108, 111, 110, 103]) = false := ne_lit hl
         have HWLK := hidX (fun (Y : World) (hY : Below X7.heap.size X7 Y) => show Calls Tryz.prog 18 #[.agg #[.string ⟨nm.toArray⟩, .int .i64 P, .slice ya M.length yc], .slice aad args.length acap, .slice nad ans.length ncap, .int .i64 ticks] Y (fun e w' => Below Y.heap.size Y w' ∧ ∃ v, e = .returned v ∧ DoneV w' v st) from by
          have hwY := bl_trans HW7.out HW7.out.size hY
          have hbY := bl_trans HBB7.out HBB7.out.size hY
          have h := walk_any (HS.out Y hwY) (HT.out Y hwY) nm P (.slice ya M.length yc) M HLOWM.out (HX2B.out.imp (inH_up hbY) (keepH hbY)) HFM.out args _ _ HP.out (HAR.out Y hwY) ans (HAN.out Y hwY) (by omega) ticks
          rw [HTW.out, HSM.out hl] at h
          exact h)
         clear hl
         go_wp2_with fail
         rw [← hX7]
         clear hX7
         go_region_held3 (fun W => W.cell? ⟨X2.heap.size, 0, none⟩ = some (.string ⟨nm.toArray⟩) ∧ W.cell? ⟨X2.heap.size, 1, none⟩ = some (.int .i64 P) ∧ W.cell? ⟨X2.heap.size, 2, none⟩ = some (.slice ya M.length yc) ∧ W.cell? ⟨X6.heap.size, 0, none⟩ = some (.string ⟨st.how.toArray⟩) ∧ W.cell? ⟨X6.heap.size, 1, none⟩ = some (.int .i64 st.val) ∧ W.cell? ⟨X6.heap.size, 2, none⟩ = some (.slice oa st.out.length oc) ∧ W.cell? ⟨X6.heap.size, 3, none⟩ = some (.int .i64 st.tks) ∧ W.cell? ⟨X6.heap.size, 4, none⟩ = some (.slice ca st.calls.length cc))
          (first | with_reducible exact s9 | with_reducible exact s8 | with_reducible exact s7 | exact HK2.out _ (by (repeat (first | exact Below.refl _ _ | assumption | refine Below.drew ?_ | refine bT ?_ _ | refine bS ?_ _ | refine bA ?_ _))))
          (first
           | (go_at_call 18; refine (HWLK.out X7.drew (Below.drew (Below.refl _ _))).mono ?_; rintro e X8 ⟨hb8, v8, rfl, hd8⟩; have hb8' : Below X7.heap.size X7 X8 := Below.trans (Below.drew (Below.refl _ _)) (show Below X7.heap.size X7.drew X8 from hb8); have s7 := HK2.out _ hb8'; have HB8 := hidX hb8'; have HD8 := hidX hd8; clear hb8 hb8' hd8)
           | (go_at_call 17; refine (ofDone_any HD8.out (by have := HBND.out.calls; omega)).mono ?_; rintro e X9 ⟨hb9, v9, rfl, hd9⟩; have hb9' := bl_trans HB8.out HB8.out.size hb9; have s8 := HK2.out _ hb9'; have HB9 := hidX hb9'; have HD9 := hidX hd9; clear hb9 hb9' hd9)
           | (go_at_call 16; refine (sameDone_any HD9.out (HDR.out.below HB9.out) (by have := HBND.out.out; omega) (by have := HBND.out.calls; omega) (fun c hc => by have := HBND.out.args c hc; omega)).mono ?_; rintro e XA ⟨rfl, hba⟩; have hba' := bl_trans HB9.out HB9.out.size hba; have s9 := HK2.out _ hba'; have HBX := hidX hba'; clear hba hba'))
         have HF := hidX (bl_trans HW7.out HW7.out.size HBX.out)
         clear k0 k1 k2 k3 k4 k5 k6 k7 s7 s8 s9
         go_wp2
         go_ret
         exact ⟨rfl, HF.out⟩
      ·have t2 : ((args.length : Int) == P) = false := by rw [beq_eq_false_iff_ne]; exact hP
       have t3 : ((args.length : Int) != P) = true := by simpa using hP
       clear hP
       go_wp2
       go_ret
       exact ⟨rfl, HWX.out⟩
   ·have hfp : (0 : Int) < (fc : Int) := by omega
    clear hf0
    go_wp2
    go_ret
    exact ⟨rfl, HW5.out⟩
end Go.Proofs.YtlgejjmdanmglaaGreatDoor
