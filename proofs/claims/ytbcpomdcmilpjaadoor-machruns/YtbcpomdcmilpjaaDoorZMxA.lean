/- Our own: texts joined: MxMath, MxFtd. -/
import Derived.Test.YtbcpomdcmilpjaaDoorZMoA
import Derived.Test.YtbcpomdcmilpjaaDoorZWellM
import Derived.Test.YtbcpomdcmilpjaaDoorZCodeM
import Derived.Test.YtbcpomdcmilpjaaDoorZChkM
namespace Go.Proofs.YtbcpomdcmilpjaaDoor
open Go.RowKit
def lastM (nm : List UInt8) : Nat → List Mf → Int → Int
 | _, [], k => k
 | i, f :: r, k => lastM nm (i + 1) r (if f.name = nm then (i : Int) else k)
theorem lastM_snoc (nm : List UInt8) : ∀ (l : List Mf) (f : Mf) (i : Nat) (k : Int), lastM nm i (l ++ [f]) k = if f.name = nm then ((i + l.length : Nat) : Int) else lastM nm i l k
 | [], f, i, k => by simp [lastM]
 | x :: r, f, i, k => by
  rw [List.cons_append, lastM, lastM_snoc nm r f (i + 1) _, lastM, show i + 1 + r.length = i + (x :: r).length from by simp; omega]
theorem lastM_take {nm : List UInt8} {L : List Mf} {i : Nat} (hi : i < L.length) : lastM nm 0 (L.take (i + 1)) (-1) = if L[i].name = nm then (i : Int) else lastM nm 0 (L.take i) (-1) := by
 rw [List.take_add_one, List.getElem?_eq_getElem hi, Option.toList_some, lastM_snoc, List.length_take, Nat.min_eq_left (by omega), Nat.zero_add]
theorem lastM_none {nm : List UInt8} : ∀ (l : List Mf) (i : Nat) (k : Int), (∀ f ∈ l, f.name ≠ nm) → lastM nm i l k = k
 | [], _, _, _ => rfl
 | f :: r, i, k, h => by
  rw [lastM, if_neg (h f List.mem_cons_self)]
  exact lastM_none r _ _ (fun x hx => h x (List.mem_cons_of_mem _ hx))
theorem names_nd {I : Im} (h : (imF I).1 = 0) : (I.funs.map Mf.name).Nodup := by
 have h1 : (mfFrom I 0 I.funs).1 = 0 := by
  unfold imF at h
  split at h
  ·exact absurd h (by decide)
  ·split at h
   ·rename_i h2; exact absurd h h2
   ·rename_i h2; exact Decidable.not_not.1 h2
 have h2 := fun j (hj : j < I.funs.length) => mfFrom_zero h1 j hj
 rw [List.nodup_iff_pairwise_ne, List.pairwise_iff_getElem]
 intro i j hi hj hij e
 simp only [List.length_map] at hi hj
 have h3 := h2 j hj
 rw [Nat.zero_add] at h3
 unfold funN at h3
 split at h3
 ·exact absurd h3 (by decide)
 ·rename_i h4
  apply h4
  right
  rw [List.getElem_map, List.getElem_map] at e
  rw [← e]
  exact List.mem_map.2 ⟨I.funs[i], List.mem_take_iff_getElem.2 ⟨i, by omega, rfl⟩, rfl⟩
theorem lastM_cons {nm : List UInt8} : ∀ (l : List Mf) (i : Nat), (l.map Mf.name).Nodup → lastM nm i l (-1) = match l.findIdx? (fun f => f.name == nm) with | some j => ((i + j : Nat) : Int) | none => -1
 | [], _, _ => rfl
 | f :: r, i, h => by
  rw [lastM]
  simp only [List.map_cons, List.nodup_cons] at h
  by_cases hf : f.name = nm
  ·rw [if_pos hf, lastM_none r _ _ (fun x hx e => h.1 (List.mem_map.2 ⟨x, hx, e.trans hf.symm⟩)), List.findIdx?_cons]
   simp [hf]
  ·rw [if_neg hf, lastM_cons r (i + 1) h.2, List.findIdx?_cons]
   have : (f.name == nm) = false := by simpa using hf
   rw [this]
   cases r.findIdx? (fun f => f.name == nm) with
   | none => rfl
   | some j =>
    show ((i + 1 + j : Nat) : Int) = ((i + (j + 1) : Nat) : Int)
    congr 1
    omega
theorem last_which {I : Im} (h : (imF I).1 = 0) (nm : List UInt8) : lastM nm 0 I.funs (-1) = whichM I.funs nm := by
 rw [lastM_cons I.funs 0 (names_nd h)]
 unfold whichM
 cases I.funs.findIdx? (fun f => f.name == nm) with
 | none => rfl
 | some j => simp
theorem ends_one {I : Im} {ticks : Nat} {S0 : Sm} {how how2 : List UInt8} {v v2 : Int} {g g2 : Gm} (h : EndO I ticks 20000 S0 how v g) (hl : how ≠ hLong) (h2 : EndM I ticks S0 how2 v2 g2) : how2 = how ∧ v2 = v ∧ g2 = g := by
 rcases h with h | ⟨h, _⟩
 ·rcases h2 with ⟨n, h2⟩ | ⟨_, _, g1, f1, fs1, h2⟩
  ·exact itM_same h2 h
  ·rw [itM_stay h (by omega)] at h2; cases h2
 ·exact absurd h hl
end Go.Proofs.YtbcpomdcmilpjaaDoor
namespace Go.Proofs.YtbcpomdcmilpjaaDoor
open Go.RowKit
set_option maxRecDepth 100000 in
set_option maxHeartbeats 2000000 in
theorem faulted_nil2 (w : World) : Calls Tryd.prog 12 #[.nilIface, .agg #[.int .i64 0, .int .i64 (-1)]] w fun e w' => e = .returned (.bool true) ∧ Below w.heap.size w w' := by
 go_enter Tryd.func12, Tryd.ntmps12
 go_wp2_with (go_at_call 24; refine (code_nil _).mono ?_; rintro e w' ⟨rfl, hh⟩; subst hh)
 go_ret
 exact ⟨rfl, (Below.refl _ _).alloc (Nat.le_refl _) _⟩
set_option maxRecDepth 100000 in
set_option maxHeartbeats 2000000 in
theorem faulted_of2 (er : Value) (c p : Int) (hz : (c == 0) = false) (w W : World) (hW : W = w.alloc (.cells #[.int .i64 c, .int .i64 p] 30))
  (hcode : Calls Tryd.prog 24 #[er] W fun e w' => e = .returned (.tuple #[.int .i64 c, .int .i64 p]) ∧ Below W.heap.size W w') :
  Calls Tryd.prog 12 #[er, .agg #[.int .i64 c, .int .i64 p]] w fun e w' => e = .returned (.bool true) ∧ Below w.heap.size w w' := by
 have hb0 : Below w.heap.size w W := by rw [hW]; exact (Below.refl _ _).alloc (Nat.le_refl _) _
 have hsz : w.heap.size < W.heap.size := by rw [hW]; simp
 have c0 : W.cell? ⟨w.heap.size, 0, none⟩ = some (.int .i64 c) := by rw [hW]; simp
 have c1 : W.cell? ⟨w.heap.size, 1, none⟩ = some (.int .i64 p) := by rw [hW]; simp
 have HC : Hid (Calls Tryd.prog 24 #[er] W fun e w' => e = .returned (.tuple #[.int .i64 c, .int .i64 p]) ∧ Below W.heap.size W w') := hcode
 clear hcode
 go_enter Tryd.func12, Tryd.ntmps12
 go_wp2_with fail
 rw [← hW]
 refine HC.out.mono ?_
 rintro e w' ⟨rfl, hb⟩
 have d0 : w'.cell? ⟨w.heap.size, 0, none⟩ = some (.int .i64 c) := (hb.cell (p := ⟨w.heap.size, 0, none⟩) hsz).trans c0
 have d1 : w'.cell? ⟨w.heap.size, 1, none⟩ = some (.int .i64 p) := (hb.cell (p := ⟨w.heap.size, 1, none⟩) hsz).trans c1
 have HB : Hid (Below w.heap.size w w') := hb0.trans (hb.mono (by omega))
 clear hW c0 c1 hb hb0
 go_wp2
 go_ret
 exact ⟨rfl, HB.out⟩
set_option maxRecDepth 100000 in
set_option maxHeartbeats 2000000 in
theorem faulted_str2 (s : Nat → Addr) (k : Nat) (hk : k < 10) (c : Int) (hc : c = (k : Int) + 1) (w : World) (hS : Sents w s) : Calls Tryd.prog 12 #[sentV (s k), .agg #[.int .i64 c, .int .i64 (-1)]] w fun e w' => e = .returned (.bool true) ∧ Below w.heap.size w w' := by
 have hc' : codeOf k = c := by unfold codeOf; rw [if_pos hk, hc]
 have hS2 := hS.below ((Below.refl _ _).alloc (Nat.le_refl _) (.cells #[.int .i64 c, .int .i64 (-1)] 30))
 have hcode := code_str s (s k) k (by omega) _ hS2 (hS2.row k hk) (fun i hi => hS.other k i hk (by omega) (by omega)) (fun _ => rfl)
 rw [hc'] at hcode
 exact faulted_of2 _ c (-1) (by simp; omega) w _ rfl hcode
set_option maxRecDepth 100000 in
set_option maxHeartbeats 2000000 in
theorem faulted_fault2 (s : Nat → Addr) (k : Nat) (hk : k < 10) (c : Int) (hc : c = (k : Int) + 1) (b : Nat) (p : Int) (w : World) (hS : Sents w s) (hb : w.heap[b]? = some (.cells #[.int .i64 p, sentV (s k)] 88 (0, 0))) :
  Calls Tryd.prog 12 #[.iface 86 (.pointer (some ⟨b, 0, none⟩)), .agg #[.int .i64 c, .int .i64 p]] w fun e w' => e = .returned (.bool true) ∧ Below w.heap.size w w' := by
 have hc' : codeOf k = c := by unfold codeOf; rw [if_pos hk, hc]
 have hb0 : Below w.heap.size w (w.alloc (.cells #[.int .i64 c, .int .i64 p] 30)) := (Below.refl _ _).alloc (Nat.le_refl _) _
 have hS2 := hS.below hb0
 have hb2 := (hb0.block b (heap_lt hb)).trans hb
 have hcode := code_fault s b 0 p (s k) k (by omega) _ hS2 (by simp [World.cell?, hb2]) (by simp [World.cell?, hb2]) (hS2.row k hk) (fun i hi => hS.other k i hk (by omega) (by omega)) (fun _ => rfl)
 rw [hc'] at hcode
 exact faulted_of2 _ c p (by simp; omega) w _ rfl hcode
def FtB (B : Nat) (a : Nat → Addr) (r : Nat × Int) (er : Value) (X : World) : Prop :=
 if r.1 = 0 then er = .nilIface else if r.2 = -1 then er = sentV (a (r.1 - 1)) else ∃ b, er = .iface 86 (.pointer (some ⟨b, 0, none⟩)) ∧ B ≤ b ∧ X.heap[b]? = some (.cells #[.int .i64 r.2, sentV (a (r.1 - 1))] 88 (0, 0))
theorem FtTo.toB {w X : World} {a : Nat → Addr} {r : Nat × Int} {er : Value} (h : FtTo w a r (.returned er) X) : FtB w.heap.size a r er X := by
 obtain ⟨_, h2⟩ := h
 unfold FtB
 split
 ·next e => rw [if_pos e] at h2; injection h2
 ·next e =>
  rw [if_neg e] at h2
  split
  ·next e2 => rw [if_pos e2] at h2; injection h2
  ·next e2 =>
   rw [if_neg e2] at h2
   obtain ⟨b, q1, q2, q3⟩ := h2
   injection q1 with q1
   exact ⟨b, q1, q2, q3⟩
theorem FtB.keep {B : Nat} {X Y : World} {a : Nat → Addr} {r : Nat × Int} {er : Value} (h : FtB B a r er X) (hk : ∀ b, B ≤ b → b < X.heap.size → Y.heap[b]? = X.heap[b]?) : FtB B a r er Y := by
 unfold FtB at h ⊢
 split
 ·next e => rwa [if_pos e] at h
 ·next e =>
  rw [if_neg e] at h
  split
  ·next e2 => rwa [if_pos e2] at h
  ·next e2 =>
   rw [if_neg e2] at h
   obtain ⟨b, q1, q2, q3⟩ := h
   exact ⟨b, q1, q2, (hk b q2 (heap_lt q3)).trans q3⟩
set_option maxRecDepth 100000 in
set_option maxHeartbeats 2000000 in
theorem faulted_ftm {B : Nat} {X : World} {a : Nat → Addr} {r : Nat × Int} {v : Value} (h2 : FtB B a r v X) (h10 : r.1 ≤ 10) (hz : r.1 = 0 → r.2 = -1) (hS : Sents X a) : Calls Tryd.prog 12 #[v, .agg #[.int .i64 ((r.1 : Nat) : Int), .int .i64 r.2]] X fun e w2 => e = .returned (.bool true) ∧ Below X.heap.size X w2 := by
 obtain ⟨c, p⟩ := r
 unfold FtB at h2
 simp only at h2 h10 hz ⊢
 split at h2
 ·next e =>
  subst h2 e
  rw [hz rfl]
  exact faulted_nil2 X
 ·next e =>
  split at h2
  ·next e2 =>
   subst h2
   rw [e2]
   exact faulted_str2 a (c - 1) (by omega) c (by omega) X hS
  ·obtain ⟨b, q1, _, q3⟩ := h2
   subst q1
   exact faulted_fault2 a (c - 1) (by omega) c (by omega) b p X hS q3
theorem senM_of {w : World} {a : Nat → Addr} (h : Sents w a) : SenM w a :=
 ⟨h.glob 1 (by decide), h.glob 2 (by decide), h.glob 3 (by decide), h.glob 4 (by decide), h.glob 5 (by decide), h.glob 7 (by decide), h.glob 8 (by decide)⟩
end Go.Proofs.YtbcpomdcmilpjaaDoor
