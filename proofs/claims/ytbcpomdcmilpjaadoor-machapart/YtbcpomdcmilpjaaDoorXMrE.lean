/- Our own: texts joined: MrInsE, MrInsOf. -/
import Derived.Test.YtbcpomdcmilpjaaDoorXMrIns
namespace Go.Proofs.YtbcpomdcmilpjaaDoor
open Go.RowKit
theorem chk_di (o : Co) (k : List UInt8) (hk : o.kind ≠ []) (hd : o.d = true) (ha : o.a = false) (hb : o.b = false) (hm : o.many = false) (hn : o.imm = true) (D A B I : Int) (hD : 0 ≤ D ∧ D < 256) (hA : 0 ≤ A ∧ A < 256) (hB : 0 ≤ B ∧ B < 256) (hI : -2147483648 ≤ I ∧ I < 2147483648) :
  errN (coChk o ⟨k, D, A, B, I⟩) = if 8 ≤ D then 2 else if A ≠ 0 ∨ B ≠ 0 then 3 else 0 := by
 have e32 : in32 I = true := by unfold in32; simp; omega
 have gD : decide (D < 0) = false := by simp; omega
 have gA : decide (A < 0) = false := by simp; omega
 have gB : decide (B < 0) = false := by simp; omega
 unfold coChk
 rw [if_neg hk]
 simp only [hd, ha, hb, hm, hn, bey, ndl, e32, gD, gA, gB]
 by_cases t0 : 8 ≤ D
 all_goals by_cases t1 : A = 0
 all_goals by_cases t2 : B = 0
 all_goals (
  have u1 : decide ((7 : Int) < D) = decide (8 ≤ D) := by rw [decide_eq_decide]; omega
  simp [u1, t0, t1, t2, errN])
theorem chk_ai (o : Co) (k : List UInt8) (hk : o.kind ≠ []) (hd : o.d = false) (ha : o.a = true) (hb : o.b = false) (hm : o.many = false) (hn : o.imm = true) (D A B I : Int) (hD : 0 ≤ D ∧ D < 256) (hA : 0 ≤ A ∧ A < 256) (hB : 0 ≤ B ∧ B < 256) (hI : -2147483648 ≤ I ∧ I < 2147483648) :
  errN (coChk o ⟨k, D, A, B, I⟩) = if 8 ≤ A then 2 else if D ≠ 0 ∨ B ≠ 0 then 3 else 0 := by
 have e32 : in32 I = true := by unfold in32; simp; omega
 have gD : decide (D < 0) = false := by simp; omega
 have gA : decide (A < 0) = false := by simp; omega
 have gB : decide (B < 0) = false := by simp; omega
 unfold coChk
 rw [if_neg hk]
 simp only [hd, ha, hb, hm, hn, bey, ndl, e32, gD, gA, gB]
 by_cases t0 : 8 ≤ A
 all_goals by_cases t1 : D = 0
 all_goals by_cases t2 : B = 0
 all_goals (
  have u2 : decide ((7 : Int) < A) = decide (8 ≤ A) := by rw [decide_eq_decide]; omega
  simp [u2, t0, t1, t2, errN])
theorem chk_da (o : Co) (k : List UInt8) (hk : o.kind ≠ []) (hd : o.d = true) (ha : o.a = true) (hb : o.b = false) (hm : o.many = false) (hn : o.imm = false) (D A B I : Int) (hD : 0 ≤ D ∧ D < 256) (hA : 0 ≤ A ∧ A < 256) (hB : 0 ≤ B ∧ B < 256) (hI : -2147483648 ≤ I ∧ I < 2147483648) :
  errN (coChk o ⟨k, D, A, B, I⟩) = if 8 ≤ D ∨ 8 ≤ A then 2 else if B ≠ 0 ∨ I ≠ 0 then 3 else 0 := by
 have e32 : in32 I = true := by unfold in32; simp; omega
 have gD : decide (D < 0) = false := by simp; omega
 have gA : decide (A < 0) = false := by simp; omega
 have gB : decide (B < 0) = false := by simp; omega
 unfold coChk
 rw [if_neg hk]
 simp only [hd, ha, hb, hm, hn, bey, ndl, e32, gD, gA, gB]
 by_cases t0 : 8 ≤ D
 all_goals by_cases t1 : 8 ≤ A
 all_goals by_cases t2 : B = 0
 all_goals by_cases t3 : I = 0
 all_goals (
  have u1 : decide ((7 : Int) < D) = decide (8 ≤ D) := by rw [decide_eq_decide]; omega
  have u2 : decide ((7 : Int) < A) = decide (8 ≤ A) := by rw [decide_eq_decide]; omega
  simp [u1, u2, t0, t1, t2, t3, errN])
theorem chk_dbi (o : Co) (k : List UInt8) (hk : o.kind ≠ []) (hd : o.d = true) (ha : o.a = false) (hb : o.b = false) (hm : o.many = true) (hn : o.imm = true) (D A B I : Int) (hD : 0 ≤ D ∧ D < 256) (hA : 0 ≤ A ∧ A < 256) (hB : 0 ≤ B ∧ B < 256) (hI : -2147483648 ≤ I ∧ I < 2147483648) :
  errN (coChk o ⟨k, D, A, B, I⟩) = if 8 ≤ D ∨ 5 ≤ B then 2 else if A ≠ 0 then 3 else 0 := by
 have e32 : in32 I = true := by unfold in32; simp; omega
 have gD : decide (D < 0) = false := by simp; omega
 have gA : decide (A < 0) = false := by simp; omega
 have gB : decide (B < 0) = false := by simp; omega
 unfold coChk
 rw [if_neg hk]
 simp only [hd, ha, hb, hm, hn, bey, ndl, e32, gD, gA, gB]
 by_cases t0 : 8 ≤ D
 all_goals by_cases t1 : 5 ≤ B
 all_goals by_cases t2 : A = 0
 all_goals (
  have u1 : decide ((7 : Int) < D) = decide (8 ≤ D) := by rw [decide_eq_decide]; omega
  have u3 : decide ((4 : Int) < B) = decide (5 ≤ B) := by rw [decide_eq_decide]; omega
  simp [u1, u3, t0, t1, t2, errN])
theorem chk_no (o : Co) (k : List UInt8) (hk : o.kind ≠ []) (hd : o.d = false) (ha : o.a = false) (hb : o.b = false) (hm : o.many = false) (hn : o.imm = false) (D A B I : Int) (hD : 0 ≤ D ∧ D < 256) (hA : 0 ≤ A ∧ A < 256) (hB : 0 ≤ B ∧ B < 256) (hI : -2147483648 ≤ I ∧ I < 2147483648) :
  errN (coChk o ⟨k, D, A, B, I⟩) = if False then 2 else if D ≠ 0 ∨ A ≠ 0 ∨ B ≠ 0 ∨ I ≠ 0 then 3 else 0 := by
 have e32 : in32 I = true := by unfold in32; simp; omega
 have gD : decide (D < 0) = false := by simp; omega
 have gA : decide (A < 0) = false := by simp; omega
 have gB : decide (B < 0) = false := by simp; omega
 unfold coChk
 rw [if_neg hk]
 simp only [hd, ha, hb, hm, hn, bey, ndl, e32, gD, gA, gB]
 by_cases t0 : D = 0
 all_goals by_cases t1 : A = 0
 all_goals by_cases t2 : B = 0
 all_goals by_cases t3 : I = 0
 all_goals (
  simp [t0, t1, t2, t3, errN])
theorem chk_a (o : Co) (k : List UInt8) (hk : o.kind ≠ []) (hd : o.d = false) (ha : o.a = true) (hb : o.b = false) (hm : o.many = false) (hn : o.imm = false) (D A B I : Int) (hD : 0 ≤ D ∧ D < 256) (hA : 0 ≤ A ∧ A < 256) (hB : 0 ≤ B ∧ B < 256) (hI : -2147483648 ≤ I ∧ I < 2147483648) :
  errN (coChk o ⟨k, D, A, B, I⟩) = if 8 ≤ A then 2 else if D ≠ 0 ∨ B ≠ 0 ∨ I ≠ 0 then 3 else 0 := by
 have e32 : in32 I = true := by unfold in32; simp; omega
 have gD : decide (D < 0) = false := by simp; omega
 have gA : decide (A < 0) = false := by simp; omega
 have gB : decide (B < 0) = false := by simp; omega
 unfold coChk
 rw [if_neg hk]
 simp only [hd, ha, hb, hm, hn, bey, ndl, e32, gD, gA, gB]
 by_cases t0 : 8 ≤ A
 all_goals by_cases t1 : D = 0
 all_goals by_cases t2 : B = 0
 all_goals by_cases t3 : I = 0
 all_goals (
  have u2 : decide ((7 : Int) < A) = decide (8 ≤ A) := by rw [decide_eq_decide]; omega
  simp [u2, t0, t1, t2, t3, errN])
theorem chk_i (o : Co) (k : List UInt8) (hk : o.kind ≠ []) (hd : o.d = false) (ha : o.a = false) (hb : o.b = false) (hm : o.many = false) (hn : o.imm = true) (D A B I : Int) (hD : 0 ≤ D ∧ D < 256) (hA : 0 ≤ A ∧ A < 256) (hB : 0 ≤ B ∧ B < 256) (hI : -2147483648 ≤ I ∧ I < 2147483648) :
  errN (coChk o ⟨k, D, A, B, I⟩) = if False then 2 else if D ≠ 0 ∨ A ≠ 0 ∨ B ≠ 0 then 3 else 0 := by
 have e32 : in32 I = true := by unfold in32; simp; omega
 have gD : decide (D < 0) = false := by simp; omega
 have gA : decide (A < 0) = false := by simp; omega
 have gB : decide (B < 0) = false := by simp; omega
 unfold coChk
 rw [if_neg hk]
 simp only [hd, ha, hb, hm, hn, bey, ndl, e32, gD, gA, gB]
 by_cases t0 : D = 0
 all_goals by_cases t1 : A = 0
 all_goals by_cases t2 : B = 0
 all_goals (
  simp [t0, t1, t2, errN])
theorem chk_dab (o : Co) (k : List UInt8) (hk : o.kind ≠ []) (hd : o.d = true) (ha : o.a = true) (hb : o.b = true) (hm : o.many = false) (hn : o.imm = false) (D A B I : Int) (hD : 0 ≤ D ∧ D < 256) (hA : 0 ≤ A ∧ A < 256) (hB : 0 ≤ B ∧ B < 256) (hI : -2147483648 ≤ I ∧ I < 2147483648) :
  errN (coChk o ⟨k, D, A, B, I⟩) = if 8 ≤ D ∨ 8 ≤ A ∨ 8 ≤ B then 2 else if I ≠ 0 then 3 else 0 := by
 have e32 : in32 I = true := by unfold in32; simp; omega
 have gD : decide (D < 0) = false := by simp; omega
 have gA : decide (A < 0) = false := by simp; omega
 have gB : decide (B < 0) = false := by simp; omega
 unfold coChk
 rw [if_neg hk]
 simp only [hd, ha, hb, hm, hn, bey, ndl, e32, gD, gA, gB]
 by_cases t0 : 8 ≤ D
 all_goals by_cases t1 : 8 ≤ A
 all_goals by_cases t2 : 8 ≤ B
 all_goals by_cases t3 : I = 0
 all_goals (
  have u1 : decide ((7 : Int) < D) = decide (8 ≤ D) := by rw [decide_eq_decide]; omega
  have u2 : decide ((7 : Int) < A) = decide (8 ≤ A) := by rw [decide_eq_decide]; omega
  have u3 : decide ((7 : Int) < B) = decide (8 ≤ B) := by rw [decide_eq_decide]; omega
  simp [u1, u2, u3, t0, t1, t2, t3, errN])
theorem rInsE_any (q : Nat) (hq : q < coL.length) (D A B I : Int) (hD : 0 ≤ D ∧ D < 256) (hA : 0 ≤ A ∧ A < 256) (hB : 0 ≤ B ∧ B < 256) (hI : -2147483648 ≤ I ∧ I < 2147483648) (w : World) :
  Calls Tryd.prog 30 #[.agg #[.string ⟨coL[q].kind.toArray⟩, .int .i64 D, .int .i64 A, .int .i64 B, .int .i64 I]] w fun e w' => e = .returned (.int .i64 ((errN (coChk coL[q] ⟨coL[q].kind, D, A, B, I⟩) : Nat) : Int)) ∧ Below w.heap.size w w' := by
 have h29 : q < 29 := hq
 rcases (by omega : q = 0 ∨ q = 1 ∨ q = 2 ∨ q = 3 ∨ q = 4 ∨ q = 5 ∨ q = 6 ∨ q = 7 ∨ q = 8 ∨ q = 9 ∨ q = 10 ∨ q = 11 ∨ q = 12 ∨ q = 13 ∨ q = 14 ∨ q = 15 ∨ q = 16 ∨ q = 17 ∨ q = 18 ∨ q = 19 ∨ q = 20 ∨ q = 21 ∨ q = 22 ∨ q = 23 ∨ q = 24 ∨ q = 25 ∨ q = 26 ∨ q = 27 ∨ q = 28) with rfl | rfl | rfl | rfl | rfl | rfl | rfl | rfl | rfl | rfl | rfl | rfl | rfl | rfl | rfl | rfl | rfl | rfl | rfl | rfl | rfl | rfl | rfl | rfl | rfl | rfl | rfl | rfl | rfl
 ·rw [chk_di (coL[0]'(by decide)) (coL[0]'(by decide)).kind (by decide) rfl rfl rfl rfl rfl D A B I hD hA hB hI]
  exact rIns_di [99, 111, 110, 115, 116] (coL[0]'(by decide)) 1 (by decide) rfl rfl rfl rfl rfl (fun W => by have := rNumber_any [99, 111, 110, 115, 116] W; rwa [show (coNamed [99, 111, 110, 115, 116]).1 = 1 from by decide] at this) (fun W => rHas_0 W) D A B I hD hA hB hI w
 ·rw [chk_di (coL[1]'(by decide)) (coL[1]'(by decide)).kind (by decide) rfl rfl rfl rfl rfl D A B I hD hA hB hI]
  exact rIns_di [104, 105, 103, 104] (coL[1]'(by decide)) 2 (by decide) rfl rfl rfl rfl rfl (fun W => by have := rNumber_any [104, 105, 103, 104] W; rwa [show (coNamed [104, 105, 103, 104]).1 = 2 from by decide] at this) (fun W => rHas_1 W) D A B I hD hA hB hI w
 ·rw [chk_da (coL[2]'(by decide)) (coL[2]'(by decide)).kind (by decide) rfl rfl rfl rfl rfl D A B I hD hA hB hI]
  exact rIns_da [109, 111, 118, 101] (coL[2]'(by decide)) 3 (by decide) rfl rfl rfl rfl rfl (fun W => by have := rNumber_any [109, 111, 118, 101] W; rwa [show (coNamed [109, 111, 118, 101]).1 = 3 from by decide] at this) (fun W => rHas_2 W) D A B I hD hA hB hI w
 ·rw [chk_di (coL[3]'(by decide)) (coL[3]'(by decide)).kind (by decide) rfl rfl rfl rfl rfl D A B I hD hA hB hI]
  exact rIns_di [108, 111, 97, 100] (coL[3]'(by decide)) 4 (by decide) rfl rfl rfl rfl rfl (fun W => by have := rNumber_any [108, 111, 97, 100] W; rwa [show (coNamed [108, 111, 97, 100]).1 = 4 from by decide] at this) (fun W => rHas_3 W) D A B I hD hA hB hI w
 ·rw [chk_ai (coL[4]'(by decide)) (coL[4]'(by decide)).kind (by decide) rfl rfl rfl rfl rfl D A B I hD hA hB hI]
  exact rIns_ai [115, 116, 111, 114, 101] (coL[4]'(by decide)) 5 (by decide) rfl rfl rfl rfl rfl (fun W => by have := rNumber_any [115, 116, 111, 114, 101] W; rwa [show (coNamed [115, 116, 111, 114, 101]).1 = 5 from by decide] at this) (fun W => rHas_4 W) D A B I hD hA hB hI w
 ·rw [chk_di (coL[5]'(by decide)) (coL[5]'(by decide)).kind (by decide) rfl rfl rfl rfl rfl D A B I hD hA hB hI]
  exact rIns_di [112, 97, 114, 97, 109] (coL[5]'(by decide)) 6 (by decide) rfl rfl rfl rfl rfl (fun W => by have := rNumber_any [112, 97, 114, 97, 109] W; rwa [show (coNamed [112, 97, 114, 97, 109]).1 = 6 from by decide] at this) (fun W => rHas_5 W) D A B I hD hA hB hI w
 ·rw [chk_ai (coL[6]'(by decide)) (coL[6]'(by decide)).kind (by decide) rfl rfl rfl rfl rfl D A B I hD hA hB hI]
  exact rIns_ai [97, 114, 103] (coL[6]'(by decide)) 7 (by decide) rfl rfl rfl rfl rfl (fun W => by have := rNumber_any [97, 114, 103] W; rwa [show (coNamed [97, 114, 103]).1 = 7 from by decide] at this) (fun W => rHas_6 W) D A B I hD hA hB hI w
 ·rw [chk_dbi (coL[7]'(by decide)) (coL[7]'(by decide)).kind (by decide) rfl rfl rfl rfl rfl D A B I hD hA hB hI]
  exact rIns_dbi [99, 97, 108, 108] (coL[7]'(by decide)) 8 (by decide) rfl rfl rfl rfl rfl (fun W => by have := rNumber_any [99, 97, 108, 108] W; rwa [show (coNamed [99, 97, 108, 108]).1 = 8 from by decide] at this) (fun W => rHas_7 W) D A B I hD hA hB hI w
 ·rw [chk_no (coL[8]'(by decide)) (coL[8]'(by decide)).kind (by decide) rfl rfl rfl rfl rfl D A B I hD hA hB hI]
  exact rIns_no [116, 105, 99, 107] (coL[8]'(by decide)) 9 (by decide) rfl rfl rfl rfl rfl (fun W => by have := rNumber_any [116, 105, 99, 107] W; rwa [show (coNamed [116, 105, 99, 107]).1 = 9 from by decide] at this) (fun W => rHas_8 W) D A B I hD hA hB hI w
 ·rw [chk_a (coL[9]'(by decide)) (coL[9]'(by decide)).kind (by decide) rfl rfl rfl rfl rfl D A B I hD hA hB hI]
  exact rIns_a [112, 114, 105, 110, 116] (coL[9]'(by decide)) 10 (by decide) rfl rfl rfl rfl rfl (fun W => by have := rNumber_any [112, 114, 105, 110, 116] W; rwa [show (coNamed [112, 114, 105, 110, 116]).1 = 10 from by decide] at this) (fun W => rHas_9 W) D A B I hD hA hB hI w
 ·rw [chk_i (coL[10]'(by decide)) (coL[10]'(by decide)).kind (by decide) rfl rfl rfl rfl rfl D A B I hD hA hB hI]
  exact rIns_i [106, 117, 109, 112] (coL[10]'(by decide)) 11 (by decide) rfl rfl rfl rfl rfl (fun W => by have := rNumber_any [106, 117, 109, 112] W; rwa [show (coNamed [106, 117, 109, 112]).1 = 11 from by decide] at this) (fun W => rHas_10 W) D A B I hD hA hB hI w
 ·rw [chk_ai (coL[11]'(by decide)) (coL[11]'(by decide)).kind (by decide) rfl rfl rfl rfl rfl D A B I hD hA hB hI]
  exact rIns_ai [105, 102] (coL[11]'(by decide)) 12 (by decide) rfl rfl rfl rfl rfl (fun W => by have := rNumber_any [105, 102] W; rwa [show (coNamed [105, 102]).1 = 12 from by decide] at this) (fun W => rHas_11 W) D A B I hD hA hB hI w
 ·rw [chk_a (coL[12]'(by decide)) (coL[12]'(by decide)).kind (by decide) rfl rfl rfl rfl rfl D A B I hD hA hB hI]
  exact rIns_a [114, 101, 116, 117, 114, 110] (coL[12]'(by decide)) 13 (by decide) rfl rfl rfl rfl rfl (fun W => by have := rNumber_any [114, 101, 116, 117, 114, 110] W; rwa [show (coNamed [114, 101, 116, 117, 114, 110]).1 = 13 from by decide] at this) (fun W => rHas_12 W) D A B I hD hA hB hI w
 ·rw [chk_da (coL[13]'(by decide)) (coL[13]'(by decide)).kind (by decide) rfl rfl rfl rfl rfl D A B I hD hA hB hI]
  exact rIns_da [110, 101, 103] (coL[13]'(by decide)) 14 (by decide) rfl rfl rfl rfl rfl (fun W => by have := rNumber_any [110, 101, 103] W; rwa [show (coNamed [110, 101, 103]).1 = 14 from by decide] at this) (fun W => rHas_13 W) D A B I hD hA hB hI w
 ·rw [chk_da (coL[14]'(by decide)) (coL[14]'(by decide)).kind (by decide) rfl rfl rfl rfl rfl D A B I hD hA hB hI]
  exact rIns_da [110, 111, 116] (coL[14]'(by decide)) 15 (by decide) rfl rfl rfl rfl rfl (fun W => by have := rNumber_any [110, 111, 116] W; rwa [show (coNamed [110, 111, 116]).1 = 15 from by decide] at this) (fun W => rHas_14 W) D A B I hD hA hB hI w
 ·rw [chk_dab (coL[15]'(by decide)) (coL[15]'(by decide)).kind (by decide) rfl rfl rfl rfl rfl D A B I hD hA hB hI]
  exact rIns_dab [97, 100, 100] (coL[15]'(by decide)) 16 (by decide) rfl rfl rfl rfl rfl (fun W => by have := rNumber_any [97, 100, 100] W; rwa [show (coNamed [97, 100, 100]).1 = 16 from by decide] at this) (fun W => rHas_15 W) D A B I hD hA hB hI w
 ·rw [chk_dab (coL[16]'(by decide)) (coL[16]'(by decide)).kind (by decide) rfl rfl rfl rfl rfl D A B I hD hA hB hI]
  exact rIns_dab [115, 117, 98] (coL[16]'(by decide)) 17 (by decide) rfl rfl rfl rfl rfl (fun W => by have := rNumber_any [115, 117, 98] W; rwa [show (coNamed [115, 117, 98]).1 = 17 from by decide] at this) (fun W => rHas_16 W) D A B I hD hA hB hI w
 ·rw [chk_dab (coL[17]'(by decide)) (coL[17]'(by decide)).kind (by decide) rfl rfl rfl rfl rfl D A B I hD hA hB hI]
  exact rIns_dab [109, 117, 108] (coL[17]'(by decide)) 18 (by decide) rfl rfl rfl rfl rfl (fun W => by have := rNumber_any [109, 117, 108] W; rwa [show (coNamed [109, 117, 108]).1 = 18 from by decide] at this) (fun W => rHas_17 W) D A B I hD hA hB hI w
 ·rw [chk_dab (coL[18]'(by decide)) (coL[18]'(by decide)).kind (by decide) rfl rfl rfl rfl rfl D A B I hD hA hB hI]
  exact rIns_dab [100, 105, 118] (coL[18]'(by decide)) 19 (by decide) rfl rfl rfl rfl rfl (fun W => by have := rNumber_any [100, 105, 118] W; rwa [show (coNamed [100, 105, 118]).1 = 19 from by decide] at this) (fun W => rHas_18 W) D A B I hD hA hB hI w
 ·rw [chk_dab (coL[19]'(by decide)) (coL[19]'(by decide)).kind (by decide) rfl rfl rfl rfl rfl D A B I hD hA hB hI]
  exact rIns_dab [114, 101, 109] (coL[19]'(by decide)) 20 (by decide) rfl rfl rfl rfl rfl (fun W => by have := rNumber_any [114, 101, 109] W; rwa [show (coNamed [114, 101, 109]).1 = 20 from by decide] at this) (fun W => rHas_19 W) D A B I hD hA hB hI w
 ·rw [chk_dab (coL[20]'(by decide)) (coL[20]'(by decide)).kind (by decide) rfl rfl rfl rfl rfl D A B I hD hA hB hI]
  exact rIns_dab [97, 110, 100] (coL[20]'(by decide)) 21 (by decide) rfl rfl rfl rfl rfl (fun W => by have := rNumber_any [97, 110, 100] W; rwa [show (coNamed [97, 110, 100]).1 = 21 from by decide] at this) (fun W => rHas_20 W) D A B I hD hA hB hI w
 ·rw [chk_dab (coL[21]'(by decide)) (coL[21]'(by decide)).kind (by decide) rfl rfl rfl rfl rfl D A B I hD hA hB hI]
  exact rIns_dab [111, 114] (coL[21]'(by decide)) 22 (by decide) rfl rfl rfl rfl rfl (fun W => by have := rNumber_any [111, 114] W; rwa [show (coNamed [111, 114]).1 = 22 from by decide] at this) (fun W => rHas_21 W) D A B I hD hA hB hI w
 ·rw [chk_dab (coL[22]'(by decide)) (coL[22]'(by decide)).kind (by decide) rfl rfl rfl rfl rfl D A B I hD hA hB hI]
  exact rIns_dab [120, 111, 114] (coL[22]'(by decide)) 23 (by decide) rfl rfl rfl rfl rfl (fun W => by have := rNumber_any [120, 111, 114] W; rwa [show (coNamed [120, 111, 114]).1 = 23 from by decide] at this) (fun W => rHas_22 W) D A B I hD hA hB hI w
 ·rw [chk_dab (coL[23]'(by decide)) (coL[23]'(by decide)).kind (by decide) rfl rfl rfl rfl rfl D A B I hD hA hB hI]
  exact rIns_dab [115, 104, 108] (coL[23]'(by decide)) 24 (by decide) rfl rfl rfl rfl rfl (fun W => by have := rNumber_any [115, 104, 108] W; rwa [show (coNamed [115, 104, 108]).1 = 24 from by decide] at this) (fun W => rHas_23 W) D A B I hD hA hB hI w
 ·rw [chk_dab (coL[24]'(by decide)) (coL[24]'(by decide)).kind (by decide) rfl rfl rfl rfl rfl D A B I hD hA hB hI]
  exact rIns_dab [115, 104, 114] (coL[24]'(by decide)) 25 (by decide) rfl rfl rfl rfl rfl (fun W => by have := rNumber_any [115, 104, 114] W; rwa [show (coNamed [115, 104, 114]).1 = 25 from by decide] at this) (fun W => rHas_24 W) D A B I hD hA hB hI w
 ·rw [chk_dab (coL[25]'(by decide)) (coL[25]'(by decide)).kind (by decide) rfl rfl rfl rfl rfl D A B I hD hA hB hI]
  exact rIns_dab [108, 101, 115, 115] (coL[25]'(by decide)) 26 (by decide) rfl rfl rfl rfl rfl (fun W => by have := rNumber_any [108, 101, 115, 115] W; rwa [show (coNamed [108, 101, 115, 115]).1 = 26 from by decide] at this) (fun W => rHas_25 W) D A B I hD hA hB hI w
 ·rw [chk_dab (coL[26]'(by decide)) (coL[26]'(by decide)).kind (by decide) rfl rfl rfl rfl rfl D A B I hD hA hB hI]
  exact rIns_dab [109, 111, 115, 116] (coL[26]'(by decide)) 27 (by decide) rfl rfl rfl rfl rfl (fun W => by have := rNumber_any [109, 111, 115, 116] W; rwa [show (coNamed [109, 111, 115, 116]).1 = 27 from by decide] at this) (fun W => rHas_26 W) D A B I hD hA hB hI w
 ·rw [chk_dab (coL[27]'(by decide)) (coL[27]'(by decide)).kind (by decide) rfl rfl rfl rfl rfl D A B I hD hA hB hI]
  exact rIns_dab [115, 97, 109, 101] (coL[27]'(by decide)) 28 (by decide) rfl rfl rfl rfl rfl (fun W => by have := rNumber_any [115, 97, 109, 101] W; rwa [show (coNamed [115, 97, 109, 101]).1 = 28 from by decide] at this) (fun W => rHas_27 W) D A B I hD hA hB hI w
 ·rw [chk_dab (coL[28]'(by decide)) (coL[28]'(by decide)).kind (by decide) rfl rfl rfl rfl rfl D A B I hD hA hB hI]
  exact rIns_dab [111, 116, 104, 101, 114] (coL[28]'(by decide)) 29 (by decide) rfl rfl rfl rfl rfl (fun W => by have := rNumber_any [111, 116, 104, 101, 114] W; rwa [show (coNamed [111, 116, 104, 101, 114]).1 = 29 from by decide] at this) (fun W => rHas_28 W) D A B I hD hA hB hI w
end Go.Proofs.YtbcpomdcmilpjaaDoor
namespace Go.Proofs.YtbcpomdcmilpjaaDoor
open Go.RowKit
def insN (v : Nat) : Nat := errN (coChk (coNum (v / 72057594037927936)) (decC v))
set_option maxRecDepth 100000 in
set_option maxHeartbeats 4000000 in
theorem rInsOf_any (v : Nat) (hv : v < 18446744073709551616) (w : World) : Calls Tryd.prog 17 #[.int .u64 (v : Int)] w fun e w' => e = .returned (.tuple #[ciV (decR v), .int .i64 ((insN v : Nat) : Int)]) ∧ Below w.heap.size w w' := by
 have hl29 : coL.length = 29 := rfl
 obtain ⟨W0, hW0⟩ : ∃ W0, W0 = w.alloc (.cells #[.string ⟨#[]⟩, .int .i64 0, .int .i64 0, .int .i64 0, .int .i64 0] 55) := ⟨_, rfl⟩
 have hb0 : Below w.heap.size w W0 := by rw [hW0]; (repeat (first | exact Below.refl _ _ | assumption | refine Below.drew ?_ | refine bT ?_ _ | refine bS ?_ _ | refine bA ?_ _))
 have hx0 : W0.heap[w.heap.size]? = some (.cells #[.string ⟨#[]⟩, .int .i64 0, .int .i64 0, .int .i64 0, .int .i64 0] 55 (0, 0)) := by rw [hW0]; exact heap_alloc_new _ _
 have hz0 : W0.heap.size = w.heap.size + 1 := by rw [hW0]; simp
 have HOPS := hidX (rOps_any W0)
 have HBO := hidX (show Below W0.heap.size W0 (opsM W0) from by unfold opsM; (repeat (first | exact Below.refl _ _ | assumption | refine Below.drew ?_ | refine bT ?_ _ | refine bS ?_ _ | refine bA ?_ _)))
 have HAT := hidX (opsM_at W0)
 have hzo : (opsM W0).heap.size = W0.heap.size + 1 := by unfold opsM; simp
 generalize hWO : opsM W0 = WO at HOPS HBO HAT hzo
 have hxo : WO.heap[w.heap.size]? = _ := (HBO.out.block _ (heap_lt hx0)).trans hx0
 have d0 := cell_of_blk hxo 0
 have d1 := cell_of_blk hxo 1
 have d2 := cell_of_blk hxo 2
 have d3 := cell_of_blk hxo 3
 have d4 := cell_of_blk hxo 4
 have f0 := free_of_blk hxo 0
 have f1 := free_of_blk hxo 1
 have f2 := free_of_blk hxo 2
 have f3 := free_of_blk hxo 3
 have f4 := free_of_blk hxo 4
 have HXO := hidX hxo
 have HB0 := hidX hb0
 have hv' : (v : Int) < 18446744073709551616 := by omega
 clear hWO hb0 hx0 hxo
 have FIN : ∀ (X : World), Below WO.heap.size WO X → X.heap[w.heap.size]? = some (.cells #[.string ⟨#[]⟩, .int .i64 0, .int .i64 0, .int .i64 0, .int .i64 0] 55 (0, 0)) ∧ Below w.heap.size w X := fun X hX =>
  ⟨(hX.block _ (heap_lt HXO.out)).trans HXO.out, bl_trans (bl_trans HB0.out HB0.out.size HBO.out) (by have := HBO.out.size; omega) hX⟩
 have HFIN := hidX FIN
 clear FIN
 by_cases hk : 1 ≤ v / 72057594037927936 ∧ v / 72057594037927936 ≤ 29
 ·obtain ⟨q, hq⟩ : ∃ q, v / 72057594037927936 = q + 1 := ⟨v / 72057594037927936 - 1, by omega⟩
  have hq29 : q < 29 := by omega
  have hqi : (v : Int) / 4294967296 / 16777216 = (q : Int) + 1 := by omega
  obtain ⟨D, hD⟩ : ∃ D : Nat, D = v / 281474976710656 % 256 := ⟨_, rfl⟩
  obtain ⟨A, hA⟩ : ∃ A : Nat, A = v / 1099511627776 % 256 := ⟨_, rfl⟩
  obtain ⟨B, hB⟩ : ∃ B : Nat, B = v / 4294967296 % 256 := ⟨_, rfl⟩
  obtain ⟨lo, hlo⟩ : ∃ lo : Int, (v : Int) % 4294967296 = lo := ⟨_, rfl⟩
  have hDi : (v : Int) / 4294967296 / 65536 % 256 = (D : Int) := by omega
  have hAi : (v : Int) / 4294967296 / 256 % 256 = (A : Int) := by omega
  have hBi : (v : Int) / 4294967296 % 256 = (B : Int) := by omega
  have hli : (v : Int) % 4294967296 = lo := hlo
  obtain ⟨imm, himm⟩ : ∃ imm, imm = wrap32 (v : Int) := ⟨_, rfl⟩
  have hco : coNum (v / 72057594037927936) = coL[q]'(by rw [hl29]; exact hq29) := by rw [hq]; exact coNum_at q (by rw [hl29]; exact hq29)
  have hdc : decC v = ⟨(coL[q]'(by rw [hl29]; exact hq29)).kind, D, A, B, imm⟩ := by unfold decC; rw [hco, ← hD, ← hA, ← hB, ← himm]
  have hIE := fun W => rInsE_any q (by rw [hl29]; exact hq29) D A B imm (by omega) (by omega) (by omega) (by rw [himm]; unfold wrap32; omega) W
  have k0 := HAT.out q (by rw [hl29]; exact hq29)
  have hir : insN v = errN (coChk (coNum (v / 72057594037927936)) (decC v)) := rfl
  have hdr : decR v = if coChk (coNum (v / 72057594037927936)) (decC v) = 0 then decC v else ⟨[], 0, 0, 0, 0⟩ := rfl
  rw [hco, hdc] at hir hdr
  generalize coChk (coL[q]'(by rw [hl29]; exact hq29)) ⟨(coL[q]'(by rw [hl29]; exact hq29)).kind, D, A, B, imm⟩ = c at hIE hir hdr
  generalize (coL[q]'(by rw [hl29]; exact hq29)).kind = kd at k0 hIE hdr
  generalize insN v = ir at hir ⊢
  generalize decR v = dr at hdr ⊢
  have HIE := hidX hIE
  have HIR := hidX hir
  have HDR := hidX hdr
  have HIM := hidX himm
  have hq29' : (q : Int) < 29 := by omega
  have hli2 : lo < 4294967296 := by omega
  have hli0 : 0 ≤ lo := by omega
  have hlo2 : wrap32 (v : Int) = if 2147483648 ≤ lo then lo - 4294967296 else lo := by unfold wrap32; split <;> omega
  have HLO := hidX hlo2
  clear hD hA hB hlo himm hco hdc hIE hir hdr hk hq hlo2 hv hq29
  have hwl : w.heap.size < WO.heap.size := by omega
  rw [hz0] at k0
  clear hz0 hzo
  by_cases hlt : 2147483648 ≤ lo
  ·have hlt' : 2147483648 ≤ lo := by omega
   have himm : lo - 4294967296 = imm := by rw [HIM.out, HLO.out, if_pos hlt]
   clear hlt
   go_enter Tryd.func17, Tryd.ntmps17
   go_wp2_with fail
   rw [← hW0]
   refine HOPS.out.mono ?_
   rintro e w1 ⟨rfl, hh⟩
   replace hh := hh.symm
   subst hh
   clear hv'
   go_wp2_with fail
   clear d0 d1 d2 d3 d4 f0 f1 f2 f3 f4 k0
   refine (HIE.out _).mono ?_
   rintro e w3 ⟨rfl, hb3⟩
   have hbW : Below WO.heap.size WO w3 := bl_trans (box_blk WO _ _) (by simp) hb3
   have hxi := (hb3.block WO.heap.size (by simp)).trans (heap_alloc_new WO _)
   obtain ⟨hx3, hB3⟩ := HFIN.out w3 hbW
   have g0 := cell_of_blk hxi 0
   have g1 := cell_of_blk hxi 1
   have g2 := cell_of_blk hxi 2
   have g3 := cell_of_blk hxi 3
   have g4 := cell_of_blk hxi 4
   have d0 := cell_of_blk hx3 0
   have d1 := cell_of_blk hx3 1
   have d2 := cell_of_blk hx3 2
   have d3 := cell_of_blk hx3 3
   have d4 := cell_of_blk hx3 4
   have f0 := free_of_blk hx3 0
   have f1 := free_of_blk hx3 1
   have f2 := free_of_blk hx3 2
   have f3 := free_of_blk hx3 3
   have f4 := free_of_blk hx3 4
   have HX3 := hidX hx3
   have HB3 := hidX hB3
   clear hb3 hbW hxi hx3 hB3
   by_cases hc : c = 0
   ·have e1 : ir = 0 := by rw [HIR.out, hc]; rfl
    have e2 : dr = ⟨kd, D, A, B, imm⟩ := by rw [HDR.out, if_pos hc]
    have e3 : errN c = 0 := by rw [hc]; rfl
    rw [e3]
    clear HIR HDR e3 hc
    subst e1 e2
    go_wp2
    have hx := set5_blk HX3.out (.string ⟨kd.toArray⟩) (.int .i64 (D : Int)) (.int .i64 (A : Int)) (.int .i64 (B : Int)) (.int .i64 imm)
    exact ret_row_tmp w.heap.size 3 2 _ 55 _ rfl rfl rfl hx Tryd.underlying55 (by kernel_rfl) ⟨rfl, ((((HB3.out.setCell (Nat.le_refl _) _).setCell (Nat.le_refl _) _).setCell (Nat.le_refl _) _).setCell (Nat.le_refl _) _).setCell (Nat.le_refl _) _⟩
   ·have e1 : ir = errN c := HIR.out
    have e2 : dr = ⟨[], 0, 0, 0, 0⟩ := by rw [HDR.out, if_neg hc]
    have e3 : 0 < errN c := by unfold errN; rw [if_neg hc]; split <;> (try split) <;> omega
    clear HIR HDR hc
    generalize errN c = ec at e1 e3 ⊢
    have e3' : (0 : Int) < (ec : Int) := by omega
    subst e1 e2
    clear e3
    go_wp2
    have hx := set5_blk HX3.out (.string ⟨#[]⟩) (.int .i64 0) (.int .i64 0) (.int .i64 0) (.int .i64 0)
    exact ret_row_tmp w.heap.size 3 2 _ 55 _ rfl rfl rfl hx Tryd.underlying55 (by kernel_rfl) ⟨rfl, ((((HB3.out.setCell (Nat.le_refl _) _).setCell (Nat.le_refl _) _).setCell (Nat.le_refl _) _).setCell (Nat.le_refl _) _).setCell (Nat.le_refl _) _⟩
  ·have hlt' : ¬ 2147483648 ≤ lo := by omega
   have himm : lo = imm := by rw [HIM.out, HLO.out, if_neg hlt]
   clear hlt
   go_enter Tryd.func17, Tryd.ntmps17
   go_wp2_with fail
   rw [← hW0]
   refine HOPS.out.mono ?_
   rintro e w1 ⟨rfl, hh⟩
   replace hh := hh.symm
   subst hh
   clear hv'
   go_wp2_with fail
   clear d0 d1 d2 d3 d4 f0 f1 f2 f3 f4 k0
   refine (HIE.out _).mono ?_
   rintro e w3 ⟨rfl, hb3⟩
   have hbW : Below WO.heap.size WO w3 := bl_trans (box_blk WO _ _) (by simp) hb3
   have hxi := (hb3.block WO.heap.size (by simp)).trans (heap_alloc_new WO _)
   obtain ⟨hx3, hB3⟩ := HFIN.out w3 hbW
   have g0 := cell_of_blk hxi 0
   have g1 := cell_of_blk hxi 1
   have g2 := cell_of_blk hxi 2
   have g3 := cell_of_blk hxi 3
   have g4 := cell_of_blk hxi 4
   have d0 := cell_of_blk hx3 0
   have d1 := cell_of_blk hx3 1
   have d2 := cell_of_blk hx3 2
   have d3 := cell_of_blk hx3 3
   have d4 := cell_of_blk hx3 4
   have f0 := free_of_blk hx3 0
   have f1 := free_of_blk hx3 1
   have f2 := free_of_blk hx3 2
   have f3 := free_of_blk hx3 3
   have f4 := free_of_blk hx3 4
   have HX3 := hidX hx3
   have HB3 := hidX hB3
   clear hb3 hbW hxi hx3 hB3
   by_cases hc : c = 0
   ·have e1 : ir = 0 := by rw [HIR.out, hc]; rfl
    have e2 : dr = ⟨kd, D, A, B, imm⟩ := by rw [HDR.out, if_pos hc]
    have e3 : errN c = 0 := by rw [hc]; rfl
    rw [e3]
    clear HIR HDR e3 hc
    subst e1 e2
    go_wp2
    have hx := set5_blk HX3.out (.string ⟨kd.toArray⟩) (.int .i64 (D : Int)) (.int .i64 (A : Int)) (.int .i64 (B : Int)) (.int .i64 imm)
    exact ret_row_tmp w.heap.size 3 2 _ 55 _ rfl rfl rfl hx Tryd.underlying55 (by kernel_rfl) ⟨rfl, ((((HB3.out.setCell (Nat.le_refl _) _).setCell (Nat.le_refl _) _).setCell (Nat.le_refl _) _).setCell (Nat.le_refl _) _).setCell (Nat.le_refl _) _⟩
   ·have e1 : ir = errN c := HIR.out
    have e2 : dr = ⟨[], 0, 0, 0, 0⟩ := by rw [HDR.out, if_neg hc]
    have e3 : 0 < errN c := by unfold errN; rw [if_neg hc]; split <;> (try split) <;> omega
    clear HIR HDR hc
    generalize errN c = ec at e1 e3 ⊢
    have e3' : (0 : Int) < (ec : Int) := by omega
    subst e1 e2
    clear e3
    go_wp2
    have hx := set5_blk HX3.out (.string ⟨#[]⟩) (.int .i64 0) (.int .i64 0) (.int .i64 0) (.int .i64 0)
    exact ret_row_tmp w.heap.size 3 2 _ 55 _ rfl rfl rfl hx Tryd.underlying55 (by kernel_rfl) ⟨rfl, ((((HB3.out.setCell (Nat.le_refl _) _).setCell (Nat.le_refl _) _).setCell (Nat.le_refl _) _).setCell (Nat.le_refl _) _).setCell (Nat.le_refl _) _⟩
 ·have hkn : (v : Int) / 4294967296 / 16777216 < 1 ∨ (29 : Int) < (v : Int) / 4294967296 / 16777216 := by omega
  have hc1 : coNum (v / 72057594037927936) = coN := by
   unfold coNum
   by_cases h1 : v / 72057594037927936 < 1
   ·rw [if_pos h1]
   ·rw [if_neg h1, List.getElem?_eq_none (by rw [hl29]; omega)]; rfl
  have hch : coChk (coNum (v / 72057594037927936)) (decC v) = 1 := by rw [hc1]; rfl
  have hir : insN v = 4 := by unfold insN; rw [hch]; rfl
  have hdr : decR v = ⟨[], 0, 0, 0, 0⟩ := by unfold decR; rw [hch]; rfl
  rw [hir, hdr]
  clear hk hc1 hch hir hdr hv hz0 hzo
  rcases hkn with hkn | hkn
  all_goals (
   go_enter Tryd.func17, Tryd.ntmps17
   go_wp2_with fail
   rw [← hW0]
   refine HOPS.out.mono ?_
   rintro e w1 ⟨rfl, hh⟩
   replace hh := hh.symm
   subst hh
   clear hv'
   go_wp2
   have hx := set5_blk HXO.out (.string ⟨#[]⟩) (.int .i64 0) (.int .i64 0) (.int .i64 0) (.int .i64 0)
   have hb := (HFIN.out _ (Below.refl _ _)).2
   exact ret_row_tmp w.heap.size 3 2 _ 55 _ rfl rfl rfl hx Tryd.underlying55 (by kernel_rfl) ⟨rfl, ((((hb.setCell (Nat.le_refl _) _).setCell (Nat.le_refl _) _).setCell (Nat.le_refl _) _).setCell (Nat.le_refl _) _).setCell (Nat.le_refl _) _⟩)
end Go.Proofs.YtbcpomdcmilpjaaDoor
