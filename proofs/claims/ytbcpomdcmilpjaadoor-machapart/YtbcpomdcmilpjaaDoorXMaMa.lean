/- Our own: texts joined: OpVals, MaMath. -/
import Derived.Test.YtbcpomdcmilpjaaDoorXMathM
import Derived.Test.YtbcpomdcmilpjaaDoorXBaseM
import Derived.Test.YtbcpomdcmilpjaaDoorXCdN
namespace Go.Proofs.YtbcpomdcmilpjaaDoor
open Go.RowKit
def oneV (m : List UInt8) (a : Int) : Int := if m = [45] then wrap64 (-a) else vBit (a = 0)
def twoV (m : List UInt8) (a b : Int) : Int := vOp ⟨m.toArray⟩ a b
theorem one_val (m : List UInt8) (hm : m ∈ onesE) (a : Int) (w : World) : Calls Tryd.prog 64 #[.string ⟨m.toArray⟩, .int .i64 a] w fun e w' => e = .returned (.tuple #[.int .i64 (oneV m a), .nilIface]) ∧ w' = w := by
 have : m = [45] ∨ m = [33] := by simpa [onesE] using hm
 rcases this with rfl | rfl
 ·exact one_neg a w
 ·exact one_not a w
theorem two_val (m : List UInt8) (hm : m ∈ twosE) (a b : Int) (w : World) : Calls Tryd.prog 65 #[.string ⟨m.toArray⟩, .int .i64 a, .int .i64 b] w fun e w' => e = .returned (.tuple #[.int .i64 (twoV m a b), .nilIface]) ∧ w' = w := by
 refine do_any ⟨m.toArray⟩ ?_ a b w
 simp only [twosE, List.mem_cons, List.not_mem_nil, or_false] at hm
 rcases hm with rfl | rfl | rfl | rfl | rfl | rfl | rfl | rfl | rfl | rfl | rfl | rfl | rfl | rfl <;> simp [opsTwo]
end Go.Proofs.YtbcpomdcmilpjaaDoor
namespace Go.Proofs.YtbcpomdcmilpjaaDoor
open Go.RowKit
structure Mf where
 name : List UInt8
 params : Int
 slots : Int
 entry : Int
structure Im where
 funs : List Mf
 words : List Nat
def mJump : List UInt8 := [106, 117, 109, 112]
def mIf : List UInt8 := [105, 102]
def mRet : List UInt8 := [114, 101, 116, 117, 114, 110]
def mConst : List UInt8 := [99, 111, 110, 115, 116]
def mHigh : List UInt8 := [104, 105, 103, 104]
def mMove : List UInt8 := [109, 111, 118, 101]
def mLoad : List UInt8 := [108, 111, 97, 100]
def mStore : List UInt8 := [115, 116, 111, 114, 101]
def mParam : List UInt8 := [112, 97, 114, 97, 109]
def mArg : List UInt8 := [97, 114, 103]
def mCall : List UInt8 := [99, 97, 108, 108]
def mTick : List UInt8 := [116, 105, 99, 107]
def mPrint : List UInt8 := [112, 114, 105, 110, 116]
def mNeg : List UInt8 := [110, 101, 103]
def mNot : List UInt8 := [110, 111, 116]
def hDone : List UInt8 := [100, 111, 110, 101]
def hTired : List UInt8 := [116, 105, 114, 101, 100]
def hDeep : List UInt8 := [100, 101, 101, 112]
def hStuck : List UInt8 := [115, 116, 117, 99, 107]
def hLoud : List UInt8 := [108, 111, 117, 100]
def hLong : List UInt8 := [108, 111, 110, 103]
structure Fm where
 params : Int
 regs : List Int
 slots : List Int
 args : List Int
 next : List Int
 pc : Nat
 d : Nat
structure Gm where
 out : List Int
 ticks : Nat
inductive Sm
 | run (g : Gm) (f : Fm) (fs : List Fm)
 | halt (how : List UInt8) (v : Int) (g : Gm)
def mfN : Mf := ⟨[], 0, 0, 0⟩
def funAt (I : Im) (k : Int) : Mf := (I.funs[k.toNat]?).getD mfN
def reg (f : Fm) (k : Int) : Int := f.regs.getD k.toNat 0
def Fm.put (f : Fm) (k : Nat) (v : Int) : Fm := { f with regs := f.regs.set k v }
def Fm.go (f : Fm) (pc : Nat) : Fm := { f with pc := pc }
def zeros (n : Nat) : List Int := List.replicate n 0
def newF (h : Mf) (args : List Int) (d : Nat) : Fm := ⟨h.params, zeros 8, zeros h.slots.toNat, args, zeros 4, h.entry.toNat, d⟩
def enterM (I : Im) (most : Nat) (g : Gm) (fs : List Fm) (which : Int) (args : List Int) (d : Nat) : Sm :=
 if most ≤ g.ticks then .halt hTired 0 g
 else if 40 ≤ fs.length then .halt hDeep 0 ⟨g.out, g.ticks + 1⟩
 else .run ⟨g.out, g.ticks + 1⟩ (newF (funAt I which) args d) fs
def retM (g : Gm) (fs : List Fm) (d : Nat) (v : Int) : Sm := match fs with
 | [] => .halt hDone v g
 | c :: cs => .run g (c.put d v) cs
def highV (r imm : Int) : Int := wrap64 (r * 4294967296 + imm % 4294967296)
def reckV (op : List UInt8) (a b : Int) : Int := if op = mNeg ∨ op = mNot then oneV (coNamed op).2.sg a else twoV (coNamed op).2.sg a b
def doM (I : Im) (most : Nat) (g : Gm) (f : Fm) (fs : List Fm) (i : Ci) : Sm :=
 if i.op = mJump then .run g (f.go i.imm.toNat) fs
 else if i.op = mIf then .run g (if reg f i.a = 0 then f else f.go i.imm.toNat) fs
 else if i.op = mRet then retM g fs f.d (reg f i.a)
 else if i.op = mConst then .run g (f.put i.d.toNat i.imm) fs
 else if i.op = mHigh then .run g (f.put i.d.toNat (highV (reg f i.d) i.imm)) fs
 else if i.op = mMove then .run g (f.put i.d.toNat (reg f i.a)) fs
 else if i.op = mLoad then (if i.imm < f.slots.length then .run g (f.put i.d.toNat (f.slots.getD i.imm.toNat 0)) fs else .halt hStuck 0 g)
 else if i.op = mStore then (if i.imm < f.slots.length then .run g { f with slots := f.slots.set i.imm.toNat (reg f i.a) } fs else .halt hStuck 0 g)
 else if i.op = mParam then (if i.imm < f.params then .run g (f.put i.d.toNat (f.args.getD i.imm.toNat 0)) fs else .halt hStuck 0 g)
 else if i.op = mArg then .run g { f with next := f.next.set i.imm.toNat (reg f i.a) } fs
 else if i.op = mCall then (if i.b = (funAt I i.imm).params then enterM I most g ({ f with next := zeros 4 } :: fs) i.imm f.next i.d.toNat else .halt hStuck 0 g)
 else if i.op = mTick then (if most ≤ g.ticks then .halt hTired 0 g else .run ⟨g.out, g.ticks + 1⟩ f fs)
 else if i.op = mPrint then (if 1000 ≤ g.out.length then .halt hLoud 0 g else .run ⟨g.out ++ [reg f i.a], g.ticks⟩ f fs)
 else .run g (f.put i.d.toNat (reckV i.op (reg f i.a) (reg f i.b))) fs
def stepM (I : Im) (most : Nat) : Sm → Sm
 | .halt h v g => .halt h v g
 | .run g f fs => match I.words[f.pc]? with
  | none => .halt hStuck 0 g
  | some v => doM I most g (f.go (f.pc + 1)) fs (decR v)
def itM (I : Im) (most : Nat) : Nat → Sm → Sm
 | 0, s => s
 | n + 1, s => itM I most n (stepM I most s)
theorem itM_halt (I : Im) (most : Nat) : ∀ (n : Nat) (h : List UInt8) (v : Int) (g : Gm), itM I most n (.halt h v g) = .halt h v g
 | 0, _, _, _ => rfl
 | n + 1, h, v, g => by rw [itM]; exact itM_halt I most n h v g
theorem itM_add (I : Im) (most : Nat) : ∀ (n k : Nat) (s : Sm), itM I most (n + k) s = itM I most k (itM I most n s)
 | 0, k, s => by rw [Nat.zero_add]; rfl
 | n + 1, k, s => by rw [show n + 1 + k = (n + k) + 1 from by omega, itM, itM, itM_add I most n k]
theorem itM_one (I : Im) (most n : Nat) (s : Sm) : itM I most (n + 1) s = stepM I most (itM I most n s) := by rw [itM_add]; rfl
theorem itM_stay {I : Im} {most n k : Nat} {s : Sm} {h : List UInt8} {v : Int} {g : Gm} (hn : itM I most n s = .halt h v g) (hk : n ≤ k) : itM I most k s = .halt h v g := by
 obtain ⟨j, rfl⟩ : ∃ j, k = n + j := ⟨k - n, by omega⟩
 rw [itM_add, hn, itM_halt]
theorem itM_same {I : Im} {most n k : Nat} {s : Sm} {h h' : List UInt8} {v v' : Int} {g g' : Gm} (hn : itM I most n s = .halt h v g) (hk : itM I most k s = .halt h' v' g') : h = h' ∧ v = v' ∧ g = g' := by
 have h1 := itM_stay hn (k := n + k) (by omega)
 rw [itM_stay hk (k := n + k) (by omega)] at h1
 injection h1 with a b c
 exact ⟨a.symm, b.symm, c.symm⟩
end Go.Proofs.YtbcpomdcmilpjaaDoor
