/-
  Our own: package code: two well instructions have one text only if they are one: plain mathematics.
-/
import Derived.Test.YtgcmegbfhhebpaaDoorCdInj
namespace Go.Proofs.YtgcmegbfhhebpaaDoor
open Go.RowKit

def no32 (l : List UInt8) : Prop := ∀ c ∈ l, c ≠ 32
def headed (r : List UInt8) : Prop := r = [] ∨ ∃ t, r = 32 :: t
theorem cut32 : ∀ {x y r s : List UInt8}, no32 x → no32 y → headed r → headed s → x ++ r = y ++ s → x = y ∧ r = s
  | [], [], r, s, _, _, _, _, h => ⟨rfl, h⟩
  | [], c :: y, r, s, _, hy, hr, _, h => by
    exfalso
    rcases hr with rfl | ⟨t, rfl⟩
    · cases h
    · have h' : 32 :: t = c :: (y ++ s) := h
      exact hy c (by simp) (List.cons.inj h').1.symm
  | c :: x, [], r, s, hx, _, _, hs, h => by
    exfalso
    rcases hs with rfl | ⟨t, rfl⟩
    · cases h
    · have h' : c :: (x ++ r) = 32 :: t := h
      exact hx c (by simp) (List.cons.inj h').1
  | c :: x, d :: y, r, s, hx, hy, hr, hs, h => by
    have h' : c :: (x ++ r) = d :: (y ++ s) := h
    obtain ⟨h1, h2⟩ := List.cons.inj h'
    obtain ⟨h3, h4⟩ := cut32 (fun c hc => hx c (by simp [hc])) (fun c hc => hy c (by simp [hc])) hr hs h2
    exact ⟨by rw [h1, h3], h4⟩
theorem dig_is (u : Nat) (h : u < 10) : (UInt8.ofNat (48 + u)).toNat = 48 + u := by
  rw [UInt8.toNat_ofNat']; omega
theorem dec_all : ∀ (u : Nat), ∀ c ∈ Lib.decDigits u, 48 ≤ c.toNat ∧ c.toNat ≤ 57 := by
  intro u
  induction u using Nat.strongRecOn with
  | ind u ih =>
    intro c hc
    rw [Lib.decDigits] at hc
    split at hc
    · rename_i h
      have : c = UInt8.ofNat (48 + u) := by simpa using hc
      rw [this, dig_is u h]; omega
    · rename_i h
      rcases List.mem_append.1 hc with h1 | h1
      · exact ih (u / 10) (by omega) c h1
      · have : c = UInt8.ofNat (48 + u % 10) := by simpa using h1
        rw [this, dig_is _ (by omega)]; omega
def valD (l : List UInt8) : Nat := l.foldl (fun a c => a * 10 + (c.toNat - 48)) 0
theorem valD_dec : ∀ u : Nat, valD (Lib.decDigits u) = u := by
  intro u
  induction u using Nat.strongRecOn with
  | ind u ih =>
    rw [Lib.decDigits]
    split
    · rename_i h
      show 0 * 10 + ((UInt8.ofNat (48 + u)).toNat - 48) = u
      rw [dig_is u h]; omega
    · rename_i h
      have hi := ih (u / 10) (by omega)
      unfold valD at hi ⊢
      rw [List.foldl_append, hi]
      show u / 10 * 10 + ((UInt8.ofNat (48 + u % 10)).toNat - 48) = u
      rw [dig_is _ (by omega)]; omega
theorem dec_ne (u : Nat) : Lib.decDigits u ≠ [] := by
  rw [Lib.decDigits]
  split
  · simp
  · simp
theorem itoa_inj {n m : Int} (h : Lib.itoa n = Lib.itoa m) : n = m := by
  have key : ∀ (u v : Nat), 45 :: Lib.decDigits u = Lib.decDigits v → False := by
    intro u v e
    have := (dec_all v 45 (by rw [← e]; simp)).1
    exact absurd this (by decide)
  unfold Lib.itoa at h
  split at h <;> split at h
  · have := congrArg valD (List.cons.inj h).2
    rw [valD_dec, valD_dec] at this
    omega
  · exact (key _ _ h).elim
  · exact (key _ _ h.symm).elim
  · have := congrArg valD h
    rw [valD_dec, valD_dec] at this
    omega
theorem itoa_no32 (n : Int) : no32 (Lib.itoa n) := by
  have key : ∀ u, no32 (Lib.decDigits u) := by
    intro u c hc e
    have := (dec_all u c hc).1
    rw [e] at this
    exact absurd this (by decide)
  unfold Lib.itoa
  split
  · intro c hc
    rcases List.mem_cons.1 hc with rfl | h
    · decide
    · exact key _ c h
  · exact key _
def fldT (has : Bool) (mark : List UInt8) (n : Int) : List UInt8 := if has then 32 :: (mark ++ Lib.itoa n) else []
theorem tellT_is (has : Bool) (mark : List UInt8) (n : Int) (l : List UInt8) : tellT has mark n l = l ++ fldT has mark n := by
  unfold tellT fldT
  split
  · rfl
  · simp
theorem fld_headed (has : Bool) (mark : List UInt8) (n : Int) : headed (fldT has mark n) := by
  unfold fldT
  split
  · exact Or.inr ⟨_, rfl⟩
  · exact Or.inl rfl
theorem headed_app {a b : List UInt8} (ha : headed a) (hb : headed b) : headed (a ++ b) := by
  rcases ha with rfl | ⟨t, rfl⟩
  · simpa using hb
  · exact Or.inr ⟨t ++ b, rfl⟩
theorem no32_app {a b : List UInt8} (ha : no32 a) (hb : no32 b) : no32 (a ++ b) := fun c hc => by
  rcases List.mem_append.1 hc with h | h
  · exact ha c h
  · exact hb c h
theorem fld_peel {has : Bool} {mark : List UInt8} {n m : Int} {r s : List UInt8} (hm : no32 mark) (hr : headed r) (hs : headed s) (h : fldT has mark n ++ r = fldT has mark m ++ s) : (has = true → n = m) ∧ r = s := by
  unfold fldT at h
  cases has
  · exact ⟨fun e => (Bool.noConfusion e), by simpa using h⟩
  · have h' : 32 :: (mark ++ Lib.itoa n ++ r) = 32 :: (mark ++ Lib.itoa m ++ s) := by simpa using h
    obtain ⟨h1, h2⟩ := cut32 (no32_app hm (itoa_no32 n)) (no32_app hm (itoa_no32 m)) hr hs (List.cons.inj h').2
    exact ⟨fun _ => itoa_inj (List.append_cancel_left h1), h2⟩
theorem chk_zero {o : Co} {i : Ci} (h : coChk o i = 0) : (o.d = false → i.d = 0) ∧ (o.a = false → i.a = 0) ∧ (o.b = false → o.many = false → i.b = 0) ∧ (o.imm = false → i.imm = 0) := by
  unfold coChk at h
  split at h
  · cases h
  · split at h
    · cases h
    · split at h
      · cases h
      · rename_i h2
        obtain ⟨ok, sg, od, oa, ob, om, oi⟩ := o
        obtain ⟨ip, id, ia, ib, ii⟩ := i
        simp only [ndl, Bool.or_eq_true, Bool.and_eq_true, Bool.not_eq_true', decide_eq_false_iff_not, Bool.or_eq_false_iff, not_or, not_and, Decidable.not_not] at h2
        obtain ⟨⟨⟨a1, a2⟩, a3⟩, a4⟩ := h2
        exact ⟨a1, a2, fun x y => a3 ⟨x, y⟩, a4⟩
theorem coL_no32 : ∀ s ∈ coL, ∀ c ∈ s.kind, c ≠ 32 := by decide
theorem text_inj {x y : Ci} (hx : wellC x) (hy : wellC y) (h : textR x = textR y) : x = y := by
  have hx' : coChk (coNamed x.op).2 x = 0 := hx
  have hy' : coChk (coNamed y.op).2 y = 0 := hy
  obtain ⟨q, hq, e1, e2⟩ := named_ex (chk_ok hx').1
  obtain ⟨p, hp, f1, f2⟩ := named_ex (chk_ok hy').1
  have tx : textR x = textC coL[q] x := by unfold textR; rw [if_pos hx', e1]
  have ty : textR y = textC coL[p] y := by unfold textR; rw [if_pos hy', f1]
  rw [tx, ty] at h
  rw [e1] at hx'
  rw [f1] at hy'
  unfold textC at h
  simp only [tellT_is, List.append_assoc] at h
  have hf := fun has mark n => fld_headed has mark n
  obtain ⟨h1, h2⟩ := cut32 (coL_no32 _ (List.getElem_mem hq)) (coL_no32 _ (List.getElem_mem hp))
    (headed_app (hf _ _ _) (headed_app (hf _ _ _) (headed_app (hf _ _ _) (headed_app (hf _ _ _) (hf _ _ _)))))
    (headed_app (hf _ _ _) (headed_app (hf _ _ _) (headed_app (hf _ _ _) (headed_app (hf _ _ _) (hf _ _ _))))) h
  have hop : x.op = y.op := by rw [← e2, ← f2, h1]
  have hco : coL[q] = coL[p] := by
    have := e1.symm.trans ((congrArg coNamed hop).trans f1)
    exact congrArg Prod.snd this
  rw [← hco] at h2 hy'
  have m1 : no32 [114] := by intro c hc; have : c = 114 := by simpa using hc
                             rw [this]; decide
  have m2 : no32 [] := by intro c hc; cases hc
  obtain ⟨d1, h3⟩ := fld_peel m1 (headed_app (hf _ _ _) (headed_app (hf _ _ _) (headed_app (hf _ _ _) (hf _ _ _)))) (headed_app (hf _ _ _) (headed_app (hf _ _ _) (headed_app (hf _ _ _) (hf _ _ _)))) h2
  obtain ⟨a1, h4⟩ := fld_peel m1 (headed_app (hf _ _ _) (headed_app (hf _ _ _) (hf _ _ _))) (headed_app (hf _ _ _) (headed_app (hf _ _ _) (hf _ _ _))) h3
  obtain ⟨b1, h5⟩ := fld_peel m1 (headed_app (hf _ _ _) (hf _ _ _)) (headed_app (hf _ _ _) (hf _ _ _)) h4
  obtain ⟨b2, h6⟩ := fld_peel m2 (hf _ _ _) (hf _ _ _) h5
  have h7 : fldT coL[q].imm [] x.imm ++ [] = fldT coL[q].imm [] y.imm ++ [] := by rw [List.append_nil, List.append_nil]; exact h6
  obtain ⟨i1, _⟩ := fld_peel m2 (Or.inl rfl) (Or.inl rfl) h7
  obtain ⟨zx1, zx2, zx3, zx4⟩ := chk_zero hx'
  obtain ⟨zy1, zy2, zy3, zy4⟩ := chk_zero hy'
  clear h h2 h3 h4 h5 h6 h7 hx' hy' tx ty e1 f1 hco h1
  simp only at zx1 zx2 zx3 zx4 zy1 zy2 zy3 zy4
  generalize coL[q] = o at *
  obtain ⟨xo, xd, xa, xb, xi⟩ := x
  obtain ⟨yo, yd, ya, yb, yi⟩ := y
  simp only at d1 a1 b1 b2 i1 zx1 zx2 zx3 zx4 zy1 zy2 zy3 zy4 hop
  have r1 : xd = yd := by cases hh : o.d; exact (zx1 hh).trans (zy1 hh).symm; exact d1 hh
  have r2 : xa = ya := by cases hh : o.a; exact (zx2 hh).trans (zy2 hh).symm; exact a1 hh
  have r3 : xb = yb := by
    cases hh : o.b
    · cases hg : o.many
      · exact (zx3 hh hg).trans (zy3 hh hg).symm
      · exact b2 hg
    · exact b1 hh
  have r4 : xi = yi := by cases hh : o.imm; exact (zx4 hh).trans (zy4 hh).symm; exact i1 hh
  rw [hop, r1, r2, r3, r4]
end Go.Proofs.YtgcmegbfhhebpaaDoor
