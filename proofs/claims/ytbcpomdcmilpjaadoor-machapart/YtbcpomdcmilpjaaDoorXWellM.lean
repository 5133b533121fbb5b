/- Our own: texts joined: MaDefs, MaWell. -/
import Derived.Test.YtbcpomdcmilpjaaDoorXTickM
namespace Go.Proofs.YtbcpomdcmilpjaaDoor
open Go.RowKit
structure OkW (I : Im) (v : Nat) : Prop where
 ok : OkI (decR v)
 jump : (decR v).op = mJump ∨ (decR v).op = mIf → 0 ≤ (decR v).imm ∧ (decR v).imm < (I.words.length : Int)
 call : (decR v).op = mCall → 0 ≤ (decR v).imm ∧ (decR v).imm < (I.funs.length : Int)
 slot : (decR v).op = mLoad ∨ (decR v).op = mStore → 0 ≤ (decR v).imm
 par : (decR v).op = mParam ∨ (decR v).op = mArg → 0 ≤ (decR v).imm ∧ (decR v).imm < 4
 two : (decR v).op ≠ mConst → (decR v).op ≠ mHigh → (decR v).op ≠ mMove → (decR v).op ≠ mLoad → (decR v).op ≠ mStore → (decR v).op ≠ mParam → (decR v).op ≠ mArg → (decR v).op ≠ mCall → (decR v).op ≠ mTick → (decR v).op ≠ mPrint → (decR v).op ≠ mNeg → (decR v).op ≠ mNot → (decR v).op ≠ mJump → (decR v).op ≠ mIf → (decR v).op ≠ mRet → (coNamed (decR v).op).2.sg ∈ twosE
structure OkF (I : Im) (f : Mf) : Prop where
 name : f.name ≠ []
 params : 0 ≤ f.params ∧ f.params ≤ 4
 slots : 0 ≤ f.slots ∧ f.slots ≤ 1000
 entry : 0 ≤ f.entry ∧ f.entry < (I.words.length : Int)
structure WellI (I : Im) : Prop where
 words : ∀ v ∈ I.words, OkW I v
 funs : ∀ f ∈ I.funs, OkF I f
 wl : I.words.length ≤ 8000
 fl : I.funs.length ≤ 8
def CallTo (w : World) (B mb : Nat) (fv wv ov : Value) (I : Im) (most d t : Nat) (fs : List Fm) (dd : Nat) (S : Sm) (T : Nat → Prop) (e : Ending) (w' : World) : Prop :=
 Fr T w w' ∧ ∃ k ov' g', RowB w ov.ownBlock ov'.ownBlock ∧
  ((∃ v, itM I most k S = retM g' fs dd v ∧ e = .returned (.tuple #[.int .i64 v, .bool true]) ∧ MM w' B mb fv wv ov' I [] g' most d (t + k))
   ∨ (∃ how, e = .returned (.tuple #[.int .i64 0, .bool false]) ∧ MM w' B mb fv wv ov' I how g' most d (t + k) ∧ StopM I most k t S how g'))
def CallC (I : Im) (most : Nat) (fs : List Fm) : Prop := ∀ (w : World) (B mb : Nat) (fv wv ov : Value) (g : Gm) (t : Nat) (which : Int) (args : List Int) (dd : Nat),
 MM w B mb fv wv ov I [] g most fs.length t → 0 ≤ which → which < (I.funs.length : Int) → args.length = 4 →
  Calls Tryd.prog 23 #[.pointer (some ⟨mb, 0, none⟩), .int .i64 which, .agg (intsG args).toArray] w (CallTo w B mb fv wv ov I most fs.length t fs dd (enterM I most g fs which args dd) (Sx mb ov.ownBlock))
def GoC (I : Im) (most : Nat) (fs : List Fm) : Prop := ∀ (w : World) (B mb fb sb : Nat) (fv wv ov : Value) (g : Gm) (t : Nat) (f : Fm),
 MM w B mb fv wv ov I [] g most (fs.length + 1) t → FM w B mb fb sb f → ov.ownBlock ≠ some fb → ov.ownBlock ≠ some sb → f.pc ≤ I.words.length →
  Calls Tryd.prog 38 #[.pointer (some ⟨fb, 0, none⟩), .int .i64 (f.pc : Int)] w (CallTo w B mb fv wv ov I most (fs.length + 1) t fs f.d (.run g f fs) (Sw mb fb sb ov.ownBlock))
theorem CallTo.e {w : World} {B mb : Nat} {fv wv ov : Value} {I : Im} {most d t : Nat} {fs : List Fm} {dd : Nat} {S : Sm} {T : Nat → Prop} {e : Ending} {w' : World} (h : CallTo w B mb fv wv ov I most d t fs dd S T e w') : ∃ v b, e = .returned (.tuple #[.int .i64 v, .bool b]) := by
 obtain ⟨_, _, _, _, _, h | h⟩ := h
 ·obtain ⟨_, _, h, _⟩ := h; exact ⟨_, _, h⟩
 ·obtain ⟨_, h, _⟩ := h; exact ⟨_, _, h⟩
end Go.Proofs.YtbcpomdcmilpjaaDoor
namespace Go.Proofs.YtbcpomdcmilpjaaDoor
open Go.RowKit
def errM (c : Nat) : Nat := if c = 0 then 0 else if c = 1 then 4 else if c = 2 then 2 else 3
def insM (v : Nat) : Nat := errM (coChk (coNum (v / 72057594037927936)) (decC v))
def mostOf (I : Im) (op : List UInt8) : Option Int :=
 if op = mJump ∨ op = mIf then some I.words.length else if op = mCall then some I.funs.length else if op = mLoad ∨ op = mStore then some 1000 else if op = mParam ∨ op = mArg then some 4 else none
def outM (m : Option Int) (imm : Int) : Bool := match m with | some m => decide (imm < 0 ∨ m ≤ imm) | none => false
def wdN (I : Im) (v : Nat) : Nat := if insM v ≠ 0 then insM v else if outM (mostOf I (decR v).op) (decR v).imm then 2 else 0
def funN (I : Im) (i : Nat) (f : Mf) : Nat :=
 if f.name = [] ∨ f.name ∈ (I.funs.take i).map Mf.name then 5 else if f.params < 0 ∨ 4 < f.params then 9 else if f.slots < 0 ∨ 1000 < f.slots ∨ f.entry < 0 ∨ (I.words.length : Int) ≤ f.entry then 2 else 0
def mfFrom (I : Im) : Nat → List Mf → Nat × Int
 | _, [] => (0, -1)
 | i, f :: r => if funN I i f = 0 then mfFrom I (i + 1) r else (funN I i f, (i : Int))
def wdFrom (I : Im) : Nat → List Nat → Nat × Int
 | _, [] => (0, -1)
 | i, v :: r => if wdN I v = 0 then wdFrom I (i + 1) r else (wdN I v, (i : Int))
def imF (I : Im) : Nat × Int := if 8 < I.funs.length ∨ 8000 < I.words.length then (8, -1) else if (mfFrom I 0 I.funs).1 ≠ 0 then mfFrom I 0 I.funs else wdFrom I 0 I.words
theorem mfFrom_zero {I : Im} : ∀ {l : List Mf} {i : Nat}, (mfFrom I i l).1 = 0 → ∀ j (hj : j < l.length), funN I (i + j) l[j] = 0
 | [], _, _, _, hj => absurd hj (by simp)
 | f :: r, i, h, j, hj => by
  unfold mfFrom at h
  by_cases h0 : funN I i f = 0
  ·rw [if_pos h0] at h
   cases j with
   | zero => exact h0
   | succ j =>
    have := mfFrom_zero h j (by simpa using hj)
    rw [show i + (j + 1) = i + 1 + j from by omega]
    exact this
  ·rw [if_neg h0] at h
   exact absurd h h0
theorem wdFrom_zero {I : Im} : ∀ {l : List Nat} {i : Nat}, (wdFrom I i l).1 = 0 → ∀ v ∈ l, wdN I v = 0
 | [], _, _, _, hv => absurd hv (by simp)
 | u :: r, i, h, v, hv => by
  unfold wdFrom at h
  by_cases h0 : wdN I u = 0
  ·rw [if_pos h0] at h
   rcases List.mem_cons.1 hv with rfl | hv
   ·exact h0
   ·exact wdFrom_zero h v hv
  ·rw [if_neg h0] at h
   exact absurd h h0
theorem insM_zero {v : Nat} (h : insM v = 0) : coChk (coNum (v / 72057594037927936)) (decC v) = 0 := by
 unfold insM errM at h
 split at h
 ·assumption
 ·split at h <;> (try split at h) <;> cases h
theorem sg_all : ∀ o ∈ coL, o.kind ∈ [mConst, mHigh, mMove, mLoad, mStore, mParam, mArg, mCall, mTick, mPrint, mNeg, mNot, mJump, mIf, mRet] ∨ (coNamed o.kind).2.sg ∈ twosE := by decide
theorem sg_two (o : Co) (ho : o ∈ coL) (n0 : o.kind ≠ mConst) (n1 : o.kind ≠ mHigh) (n2 : o.kind ≠ mMove) (n3 : o.kind ≠ mLoad) (n4 : o.kind ≠ mStore) (n5 : o.kind ≠ mParam) (n6 : o.kind ≠ mArg) (n7 : o.kind ≠ mCall) (n8 : o.kind ≠ mTick) (n9 : o.kind ≠ mPrint) (n10 : o.kind ≠ mNeg) (n11 : o.kind ≠ mNot) (n12 : o.kind ≠ mJump) (n13 : o.kind ≠ mIf) (n14 : o.kind ≠ mRet) : (coNamed o.kind).2.sg ∈ twosE := by
 rcases sg_all o ho with h | h
 ·simp only [List.mem_cons, List.not_mem_nil, or_false] at h
  rcases h with h | h | h | h | h | h | h | h | h | h | h | h | h | h | h
  ·exact absurd h n0
  ·exact absurd h n1
  ·exact absurd h n2
  ·exact absurd h n3
  ·exact absurd h n4
  ·exact absurd h n5
  ·exact absurd h n6
  ·exact absurd h n7
  ·exact absurd h n8
  ·exact absurd h n9
  ·exact absurd h n10
  ·exact absurd h n11
  ·exact absurd h n12
  ·exact absurd h n13
  ·exact absurd h n14
 ·exact h
theorem coNum_mem {n : Nat} (h : (coNum n).kind ≠ []) : coNum n ∈ coL := by
 unfold coNum at h ⊢
 split
 ·rename_i h1; rw [if_pos h1] at h; exact absurd rfl h
 ·rename_i h1
  rw [if_neg h1] at h
  cases e : coL[n - 1]? with
  | none => rw [e] at h; exact absurd rfl h
  | some o => exact List.mem_of_getElem? e
theorem well_of {I : Im} (h : (imF I).1 = 0) : WellI I := by
 unfold imF at h
 split at h
 ·exact absurd h (by decide)
 rename_i h1
 split at h
 ·rename_i h2; exact absurd h h2
 rename_i h2
 have h2 : (mfFrom I 0 I.funs).1 = 0 := by simpa using h2
 refine ⟨fun v hv => ?_, fun f hf => ?_, by omega, by omega⟩
 ·have hz := wdFrom_zero h v hv
  unfold wdN at hz
  split at hz
  ·rename_i h3; exact absurd hz h3
  rename_i h3
  have hc := insM_zero (by simpa using h3)
  have hd : decR v = decC v := by unfold decR; rw [if_pos hc]
  obtain ⟨hk, g1, g2, g3, g4, g5, g6, g7, g8⟩ := chk_ok hc
  have hop : (decR v).op = (coNum (v / 72057594037927936)).kind := by rw [hd]; rfl
  have ho : outM (mostOf I (decR v).op) (decR v).imm = false := by
   split at hz
   ·cases hz
   ·rename_i h4; simpa using h4
  have hmost : ∀ m, mostOf I (decR v).op = some m → 0 ≤ (decR v).imm ∧ (decR v).imm < m := fun m hm => by
   rw [hm] at ho
   have : ¬ ((decR v).imm < 0 ∨ m ≤ (decR v).imm) := by simpa [outM] using ho
   omega
  rw [← hd] at g1 g2 g3 g4 g5 g6 g7 g8
  refine ⟨⟨⟨g1, by omega⟩, ⟨g3, by omega⟩, ⟨g5, by omega⟩, ⟨g7, by omega⟩⟩, fun h => hmost _ ?_, fun h => hmost _ ?_, fun h => (hmost 1000 ?_).1, fun h => hmost 4 ?_, ?_⟩
  ·unfold mostOf; rw [if_pos h]
  ·unfold mostOf; rw [if_neg (by rw [h]; decide), if_pos h]
  ·unfold mostOf; rw [if_neg (by rcases h with h | h <;> rw [h] <;> decide), if_neg (by rcases h with h | h <;> rw [h] <;> decide), if_pos h]
  ·unfold mostOf; rw [if_neg (by rcases h with h | h <;> rw [h] <;> decide), if_neg (by rcases h with h | h <;> rw [h] <;> decide), if_neg (by rcases h with h | h <;> rw [h] <;> decide), if_pos h]
  ·rw [hop]
   exact sg_two _ (coNum_mem hk)
 ·obtain ⟨j, hj, rfl⟩ := List.getElem_of_mem hf
  have hz := mfFrom_zero h2 j hj
  unfold funN at hz
  split at hz
  ·cases hz
  rename_i k1
  split at hz
  ·cases hz
  rename_i k2
  split at hz
  ·cases hz
  rename_i k3
  exact ⟨fun e => k1 (Or.inl e), by omega, by omega, by omega⟩
end Go.Proofs.YtbcpomdcmilpjaaDoor
