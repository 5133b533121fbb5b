/-
  Our own: plain mathematics of trees: which tree a list of tokens makes, told as a function with a bound on its depth, and that the bound suffices. Nothing of the program stands here.
-/
import Derived.Test.YtcebpmaggnephabDoorLexMath
namespace Go.Proofs.YtcebpmaggnephabDoor
open Go.RowKit

/-- An expression's tree. -/
inductive Ex where
  | mk (kind : List UInt8) (num : Int) (name : List UInt8) (kids : List Ex)
/-- A statement's tree. -/
inductive Sm where
  | mk (kind name : List UInt8) (e : Ex) (thn els : List Sm)
/-- A function's tree. -/
structure Fu where
  name : List UInt8
  params : List (List UInt8)
  body : List Sm
/-- What a reader comes to: no answer within the bound; an error's number and its place; a datum and the next place. -/
inductive Rs (α : Type) where
  | out
  | bad (c k : Nat)
  | ok (a : α) (i : Nat)
def Rs.bind {α β : Type} (x : Rs α) (f : α → Nat → Rs β) : Rs β :=
  match x with
  | .out => .out
  | .bad c k => .bad c k
  | .ok a i => f a i
/-- Where a reader stands, without its datum. -/
def Rs.st {α : Type} (x : Rs α) : Rs Unit := x.bind fun _ i => .ok () i
@[simp] theorem Rs.bind_out {α β : Type} (f : α → Nat → Rs β) : Rs.bind .out f = .out := rfl
@[simp] theorem Rs.bind_bad {α β : Type} (c k : Nat) (f : α → Nat → Rs β) : Rs.bind (.bad c k) f = .bad c k := rfl
@[simp] theorem Rs.bind_ok {α β : Type} (a : α) (i : Nat) (f : α → Nat → Rs β) : Rs.bind (.ok a i) f = f a i := rfl
@[simp] theorem Rs.st_out {α : Type} : Rs.st (.out : Rs α) = .out := rfl
@[simp] theorem Rs.st_bad {α : Type} (c k : Nat) : Rs.st (.bad c k : Rs α) = .bad c k := rfl
@[simp] theorem Rs.st_ok {α : Type} (a : α) (i : Nat) : Rs.st (.ok a i) = .ok () i := rfl

def kCall : List UInt8 := [99, 97, 108, 108]
def kOne : List UInt8 := [111, 110, 101]
def kTwo : List UInt8 := [116, 119, 111]
def kNumE : List UInt8 := [110, 117, 109]
def kVar : List UInt8 := [118, 97, 114]
def kSet : List UInt8 := [115, 101, 116]
def kIf : List UInt8 := [105, 102]
def kElse : List UInt8 := [101, 108, 115, 101]
def kWhile : List UInt8 := [119, 104, 105, 108, 101]
def kReturn : List UInt8 := [114, 101, 116, 117, 114, 110]
def kPrint : List UInt8 := [112, 114, 105, 110, 116]
def kFn : List UInt8 := [102, 110]
def exZ : Ex := .mk [] 0 [] []
/-- The number that digits tell. -/
def numV (l : List UInt8) : Nat := l.foldl (fun n c => 10 * n + (c.toNat - 48)) 0

/-- The token at a place; behind the last one: one that is none. -/
def tk (T : List Tok) (i : Nat) : Tok := T.getD i ⟨[], [], 0⟩
/-- Is this token the next? -/
def isT (T : List Tok) (k x : List UInt8) (i : Nat) : Prop := (tk T i).kind = k ∧ (tk T i).text = x
instance (T : List Tok) (k x : List UInt8) (i : Nat) : Decidable (isT T k x i) := inferInstanceAs (Decidable (_ ∧ _))
/-- How much a sign binds; 0: it is no op of two. -/
def signLevel (x : List UInt8) : Nat :=
  if x = [61, 61] ∨ x = [33, 61] then 1 else if x = [60] ∨ x = [60, 61] then 2 else if x = [124] then 3 else if x = [94] then 4
  else if x = [38] then 5 else if x = [60, 60] ∨ x = [62, 62] then 6 else if x = [43] ∨ x = [45] then 7 else if x = [42] ∨ x = [47] ∨ x = [37] then 8 else 0
def levelT (t : Tok) : Nat := if t.kind = kSign then signLevel t.text else 0

def needT (T : List Tok) (k x : List UInt8) (i : Nat) : Rs Unit := if isT T k x i then .ok () (i + 1) else .bad 1 i
def nameT (T : List Tok) (i : Nat) : Rs (List UInt8) := if (tk T i).kind = kName then .ok (tk T i).text (i + 1) else .bad 1 i

mutual
def exprT (T : List Tok) : Nat → Nat → Nat → Nat → Rs Ex
  | 0, _, _, _ => .out
  | n + 1, d, l, i => (singleT T n d i).bind fun e j => loopT T n d l e j
def loopT (T : List Tok) : Nat → Nat → Nat → Ex → Nat → Rs Ex
  | 0, _, _, _, _ => .out
  | n + 1, d, l, e, i =>
    if levelT (tk T i) < l then .ok e i
    else (exprT T n d (levelT (tk T i) + 1) (i + 1)).bind fun r j => loopT T n d l (.mk kTwo 0 (tk T i).text [e, r]) j
def singleT (T : List Tok) : Nat → Nat → Nat → Rs Ex
  | 0, _, _ => .out
  | n + 1, d, i =>
    if (tk T i).kind = kNum then .ok (.mk kNumE (numV (tk T i).text) [] []) (i + 1)
    else if (tk T i).kind = kName then
      if isT T kSign [40] (i + 1) then
        if d = 12 then .bad 10 (i + 1) else (argsT T n (d + 1) (i + 2)).bind fun ks j => .ok (.mk kCall 0 (tk T i).text ks) j
      else .ok (.mk kName 0 (tk T i).text []) (i + 1)
    else if isT T kSign [45] i ∨ isT T kSign [33] i then
      if d = 12 then .bad 10 i else (singleT T n (d + 1) (i + 1)).bind fun e j => .ok (.mk kOne 0 (tk T i).text [e]) j
    else if isT T kSign [40] i then
      if d = 12 then .bad 10 i else (exprT T n (d + 1) 1 (i + 1)).bind fun e j => (needT T kSign [41] j).bind fun _ j => .ok e j
    else .bad 1 i
def argsT (T : List Tok) : Nat → Nat → Nat → Rs (List Ex)
  | 0, _, _ => .out
  | n + 1, d, i => if isT T kSign [41] i then .ok [] (i + 1) else moreT T n d [] i
def moreT (T : List Tok) : Nat → Nat → List Ex → Nat → Rs (List Ex)
  | 0, _, _, _ => .out
  | n + 1, d, es, i => (exprT T n d 1 i).bind fun e j =>
    if isT T kSign [44] j then moreT T n d (es ++ [e]) (j + 1) else (needT T kSign [41] j).bind fun _ j => .ok (es ++ [e]) j
end

mutual
def blockT (T : List Tok) : Nat → Nat → Nat → Rs (List Sm)
  | 0, _, _ => .out
  | n + 1, d, i => if isT T kSign [123] i then if d = 12 then .bad 10 i else stmtsT T n (d + 1) [] (i + 1) else .bad 1 i
def stmtsT (T : List Tok) : Nat → Nat → List Sm → Nat → Rs (List Sm)
  | 0, _, _, _ => .out
  | n + 1, d, ss, i => if isT T kSign [125] i then .ok ss (i + 1) else (stmtT T n d i).bind fun s j => stmtsT T n d (ss ++ [s]) j
def stmtT (T : List Tok) : Nat → Nat → Nat → Rs Sm
  | 0, _, _ => .out
  | n + 1, d, i =>
    if (tk T i).kind = kName then
      (needT T kSign [61] (i + 1)).bind fun _ j => (exprT T n d 1 j).bind fun e j => (needT T kSign [59] j).bind fun _ j => .ok (.mk kSet (tk T i).text e [] []) j
    else if isT T kWord kVar i then
      (nameT T (i + 1)).bind fun x j => (needT T kSign [61] j).bind fun _ j => (exprT T n d 1 j).bind fun e j => (needT T kSign [59] j).bind fun _ j => .ok (.mk kVar x e [] []) j
    else if isT T kWord kIf i then
      (exprT T n d 1 (i + 1)).bind fun e j => (blockT T n d j).bind fun t j =>
        if isT T kWord kElse j then (blockT T n d (j + 1)).bind fun o j => .ok (.mk kIf [] e t o) j else .ok (.mk kIf [] e t []) j
    else if isT T kWord kWhile i then
      (exprT T n d 1 (i + 1)).bind fun e j => (blockT T n d j).bind fun t j => .ok (.mk kWhile [] e t []) j
    else if isT T kWord kReturn i then
      (exprT T n d 1 (i + 1)).bind fun e j => (needT T kSign [59] j).bind fun _ j => .ok (.mk kReturn [] e [] []) j
    else if isT T kWord kPrint i then
      (exprT T n d 1 (i + 1)).bind fun e j => (needT T kSign [59] j).bind fun _ j => .ok (.mk kPrint [] e [] []) j
    else .bad 1 i
end

/-- Names with commas between, up to the closing parenthesis. -/
def namesT (T : List Tok) : Nat → List (List UInt8) → Nat → Rs (List (List UInt8))
  | 0, _, _ => .out
  | n + 1, xs, i => (nameT T i).bind fun x j => if isT T kSign [44] j then namesT T n (xs ++ [x]) (j + 1) else (needT T kSign [41] j).bind fun _ j => .ok (xs ++ [x]) j
def paramsT (T : List Tok) (n i : Nat) : Rs (List (List UInt8)) := if isT T kSign [41] i then .ok [] (i + 1) else namesT T n [] i
def funT (T : List Tok) (n i : Nat) : Rs Fu :=
  (needT T kWord kFn i).bind fun _ j => (nameT T j).bind fun x j => (needT T kSign [40] j).bind fun _ j => (paramsT T n j).bind fun ps j => (blockT T n 0 j).bind fun b j => .ok ⟨x, ps, b⟩ j
def funsT (T : List Tok) : Nat → List Fu → Nat → Rs (List Fu)
  | 0, _, _ => .out
  | n + 1, fs, i => if i < T.length then (funT T n i).bind fun f j => funsT T n (fs ++ [f]) j else .ok fs i
/-- The program that tokens make. -/
def parseT (T : List Tok) : Rs (List Fu) := funsT T 4020 [] 0

/-! The bound suffices; places only grow, and never beyond the end. -/
/-- An answer at a place between. -/
def Rs.to {α : Type} (x : Rs α) (a b : Nat) : Prop :=
  match x with
  | .out => False
  | .bad _ k => a ≤ k ∧ k ≤ b
  | .ok _ i => a ≤ i ∧ i ≤ b
theorem Rs.to.bind {α β : Type} {x : Rs α} {f : α → Nat → Rs β} {a b : Nat} (h : x.to a b) (hf : ∀ y i, a ≤ i → i ≤ b → (f y i).to a b) : (x.bind f).to a b := by
  cases x with
  | out => exact h.elim
  | bad c k => exact h
  | ok y i => exact hf y i h.1 h.2
theorem Rs.to.mono {α : Type} {x : Rs α} {a b a' : Nat} (h : x.to a b) (ha : a' ≤ a) : x.to a' b := by
  cases x with
  | out => exact h
  | bad c k => exact ⟨by have := h.1; omega, h.2⟩
  | ok y i => exact ⟨by have := h.1; omega, h.2⟩
theorem Rs.to.bindm {α β : Type} {x : Rs α} {f : α → Nat → Rs β} {a b a' : Nat} (h : x.to a b) (ha : a' ≤ a) (hf : ∀ y i, a ≤ i → i ≤ b → (f y i).to a' b) : (x.bind f).to a' b := by
  cases x with
  | out => exact h.elim
  | bad c k => exact ⟨Nat.le_trans ha h.1, h.2⟩
  | ok y i => exact hf y i h.1 h.2
theorem tk_kind {T : List Tok} {i : Nat} (h : (tk T i).kind ≠ []) : i < T.length := by
  rcases Nat.lt_or_ge i T.length with hi | hi
  · exact hi
  · exact absurd (by simp [tk, List.getD_eq_getElem?_getD, List.getElem?_eq_none hi]) h
theorem isT_lt {T : List Tok} {k x : List UInt8} {i : Nat} (h : isT T k x i) (hk : k ≠ []) : i < T.length := tk_kind (by rw [h.1]; exact hk)
theorem level_lt {T : List Tok} {i l : Nat} (h : ¬ levelT (tk T i) < l) (hl : 0 < l) : i < T.length := by
  refine tk_kind fun e => h ?_
  rw [levelT, e]; simpa [kSign] using hl
theorem needT_to (T : List Tok) (k x : List UInt8) (i : Nat) (hk : k ≠ []) (hi : i ≤ T.length) : (needT T k x i).to i T.length := by
  unfold needT
  split
  · next h => have := isT_lt h hk; exact ⟨by omega, by omega⟩
  · exact ⟨by omega, hi⟩
theorem nameT_to (T : List Tok) (i : Nat) (hi : i ≤ T.length) : (nameT T i).to i T.length := by
  unfold nameT
  split
  · next h => have := tk_kind (T := T) (i := i) (by rw [h]; simp [kName]); exact ⟨by omega, by omega⟩
  · exact ⟨by omega, hi⟩
theorem sign_ne : kSign ≠ [] := by simp [kSign]
theorem word_ne : kWord ≠ [] := by simp [kWord]
theorem expr_to (T : List Tok) : ∀ n : Nat,
    (∀ d l i, 0 < l → i ≤ T.length → 4 * (T.length - i) + 4 ≤ n → (exprT T n d l i).to i T.length) ∧
    (∀ d l e i, 0 < l → i ≤ T.length → 4 * (T.length - i) + 1 ≤ n → (loopT T n d l e i).to i T.length) ∧
    (∀ d i, i ≤ T.length → 4 * (T.length - i) + 3 ≤ n → (singleT T n d i).to i T.length) ∧
    (∀ d i, i ≤ T.length → 4 * (T.length - i) + 6 ≤ n → (argsT T n d i).to i T.length) ∧
    (∀ d es i, i ≤ T.length → 4 * (T.length - i) + 5 ≤ n → (moreT T n d es i).to i T.length) := by
  intro n
  induction n with
  | zero => exact ⟨fun _ _ _ _ _ h => by omega, fun _ _ _ _ _ _ h => by omega, fun _ _ _ h => by omega, fun _ _ _ h => by omega, fun _ _ _ _ h => by omega⟩
  | succ n ih =>
    obtain ⟨h1, h2, h3, h4, h5⟩ := ih
    refine ⟨fun d l i hl hi hn => ?_, fun d l e i hl hi hn => ?_, fun d i hi hn => ?_, fun d i hi hn => ?_, fun d es i hi hn => ?_⟩
    · rw [exprT]
      exact (h3 d i hi (by omega)).bind fun e j ha hb => (h2 d l e j hl hb (by omega)).mono ha
    · rw [loopT]
      split
      · exact ⟨Nat.le_refl _, hi⟩
      · next h =>
        have := level_lt h hl
        exact ((h1 d _ (i + 1) (by omega) (by omega) (by omega)).bindm (by omega) fun r j ha hb => (h2 d l _ j hl hb (by omega)).mono (by omega))
    · rw [singleT]
      split
      · next h => have := tk_kind (T := T) (i := i) (by rw [h]; simp [kNum]); exact ⟨by omega, by omega⟩
      · split
        · next h =>
          have := tk_kind (T := T) (i := i) (by rw [h]; simp [kName])
          split
          · next h' =>
            have := isT_lt h' sign_ne
            split
            · exact ⟨by omega, by omega⟩
            · exact ((h4 (d + 1) (i + 2) (by omega) (by omega)).bindm (by omega) fun ks j ha hb => ⟨by omega, hb⟩)
          · exact ⟨by omega, by omega⟩
        · split
          · next h =>
            have : i < T.length := by rcases h with h | h <;> exact isT_lt h sign_ne
            split
            · exact ⟨by omega, by omega⟩
            · exact ((h3 (d + 1) (i + 1) (by omega) (by omega)).bindm (by omega) fun e j ha hb => ⟨by omega, hb⟩)
          · split
            · next h =>
              have := isT_lt h sign_ne
              split
              · exact ⟨by omega, by omega⟩
              · exact ((h1 (d + 1) 1 (i + 1) (by omega) (by omega) (by omega)).bindm (by omega) fun e j ha hb => ((needT_to T kSign _ j sign_ne hb).bindm (by omega) fun _ j ha hb => ⟨by omega, hb⟩))
            · exact ⟨by omega, by omega⟩
    · rw [argsT]
      split
      · next h => have := isT_lt h sign_ne; exact ⟨by omega, by omega⟩
      · exact h5 d [] i hi (by omega)
    · rw [moreT]
      refine (h1 d 1 i (by omega) hi (by omega)).bind fun e j ha hb => ?_
      split
      · next h => have := isT_lt h sign_ne; exact (h5 d _ (j + 1) (by omega) (by omega)).mono (by omega)
      · exact ((needT_to T kSign _ j sign_ne hb).bindm (by omega) fun _ j ha hb => ⟨by omega, hb⟩)
theorem block_to (T : List Tok) : ∀ n : Nat,
    (∀ d i, i ≤ T.length → 4 * (T.length - i) + 4 ≤ n → (blockT T n d i).to i T.length) ∧
    (∀ d ss i, i ≤ T.length → 4 * (T.length - i) + 6 ≤ n → (stmtsT T n d ss i).to i T.length) ∧
    (∀ d i, i ≤ T.length → 4 * (T.length - i) + 5 ≤ n → (stmtT T n d i).to i T.length ∧ ∀ s, stmtT T n d i ≠ .ok s i) := by
  intro n
  induction n with
  | zero => exact ⟨fun _ _ _ h => by omega, fun _ _ _ _ h => by omega, fun _ _ _ h => by omega⟩
  | succ n ih =>
    obtain ⟨h1, h2, h3⟩ := ih
    have he := (expr_to T n).1
    refine ⟨fun d i hi hn => ?_, fun d ss i hi hn => ?_, fun d i hi hn => ?_⟩
    · rw [blockT]
      split
      · next h =>
        have := isT_lt h sign_ne
        split
        · exact ⟨by omega, by omega⟩
        · exact (h2 (d + 1) [] (i + 1) (by omega) (by omega)).mono (by omega)
      · exact ⟨by omega, by omega⟩
    · rw [stmtsT]
      split
      · next h => have := isT_lt h sign_ne; exact ⟨by omega, by omega⟩
      · have h := h3 d i hi (by omega)
        cases hs : stmtT T n d i with
        | out => rw [hs] at h; exact h.1.elim
        | bad c k => rw [hs] at h; exact h.1
        | ok s j =>
          rw [hs] at h
          have hj : j ≠ i := fun e => h.2 s (by rw [e])
          have := h.1.1
          have := h.1.2
          exact (h2 d _ j h.1.2 (by omega)).mono (by omega)
    · have hx : ∀ (b : Nat) (x : Rs Sm), b = i + 1 → x.to b T.length → x.to i T.length ∧ ∀ s, x ≠ .ok s i := fun b x e hx =>
        ⟨hx.mono (by omega), fun s hs => by rw [hs] at hx; have := hx.1; omega⟩
      rw [stmtT]
      split
      · next h =>
        have := tk_kind (T := T) (i := i) (by rw [h]; simp [kName])
        exact hx _ _ rfl ((needT_to T _ _ (i + 1) sign_ne (by omega)).bind fun _ j ha hb => ((he d 1 j (by omega) hb (by omega)).bindm (by omega) fun e j ha hb => ((needT_to T _ _ j sign_ne hb).bindm (by omega) fun _ j ha hb => ⟨by omega, hb⟩)))
      · split
        · next h =>
          have := isT_lt h word_ne
          exact hx _ _ rfl ((nameT_to T (i + 1) (by omega)).bind fun _ j ha hb => ((needT_to T _ _ j sign_ne (by omega)).bindm (by omega) fun _ j ha hb => ((he d 1 j (by omega) hb (by omega)).bindm (by omega) fun e j ha hb => ((needT_to T _ _ j sign_ne hb).bindm (by omega) fun _ j ha hb => ⟨by omega, hb⟩))))
        · split
          · next h =>
            have := isT_lt h word_ne
            refine hx _ _ rfl ((he d 1 (i + 1) (by omega) (by omega) (by omega)).bind fun e j ha hb => ((h1 d j (by omega) (by omega)).bindm (by omega) fun t j ha hb => ?_))
            split
            · next h => have := isT_lt h word_ne; exact ((h1 d (j + 1) (by omega) (by omega)).bindm (by omega) fun o j ha hb => ⟨by omega, hb⟩)
            · exact ⟨by omega, hb⟩
          · split
            · next h =>
              have := isT_lt h word_ne
              exact hx _ _ rfl ((he d 1 (i + 1) (by omega) (by omega) (by omega)).bind fun e j ha hb => ((h1 d j (by omega) (by omega)).bindm (by omega) fun t j ha hb => ⟨by omega, hb⟩))
            · split
              · next h =>
                have := isT_lt h word_ne
                exact hx _ _ rfl ((he d 1 (i + 1) (by omega) (by omega) (by omega)).bind fun e j ha hb => ((needT_to T _ _ j sign_ne hb).bindm (by omega) fun _ j ha hb => ⟨by omega, hb⟩))
              · split
                · next h =>
                  have := isT_lt h word_ne
                  exact hx _ _ rfl ((he d 1 (i + 1) (by omega) (by omega) (by omega)).bind fun e j ha hb => ((needT_to T _ _ j sign_ne hb).bindm (by omega) fun _ j ha hb => ⟨by omega, hb⟩))
                · exact ⟨⟨by omega, by omega⟩, fun s hs => by cases hs⟩
theorem names_to (T : List Tok) : ∀ (n : Nat) xs i, i ≤ T.length → T.length - i + 1 ≤ n → (namesT T n xs i).to i T.length
  | 0, _, _, _, h => by omega
  | n + 1, xs, i, hi, hn => by
    rw [namesT]
    refine (nameT_to T i hi).bind fun x j ha hb => ?_
    split
    · next h => have := isT_lt h sign_ne; exact (names_to T n _ (j + 1) (by omega) (by omega)).mono (by omega)
    · exact ((needT_to T _ _ j sign_ne hb).bindm (by omega) fun _ j ha hb => ⟨by omega, hb⟩)
theorem params_to (T : List Tok) (n i : Nat) (hi : i ≤ T.length) (hn : T.length - i + 1 ≤ n) : (paramsT T n i).to i T.length := by
  unfold paramsT
  split
  · next h => have := isT_lt h sign_ne; exact ⟨by omega, by omega⟩
  · exact names_to T n [] i hi hn
theorem fun_to (T : List Tok) (n i : Nat) (hi : i ≤ T.length) (hn : 4 * (T.length - i) + 4 ≤ n) : (funT T n i).to i T.length ∧ ∀ f, funT T n i ≠ .ok f i := by
  unfold funT needT
  split
  · next h =>
    have := isT_lt h word_ne
    have hx : (Rs.bind (nameT T (i + 1)) fun x j => (needT T kSign [40] j).bind fun _ j => (paramsT T n j).bind fun ps j => (blockT T n 0 j).bind fun b j => Rs.ok (⟨x, ps, b⟩ : Fu) j).to (i + 1) T.length :=
      (nameT_to T (i + 1) (by omega)).bind fun x j ha hb => ((needT_to T _ _ j sign_ne hb).bindm (by omega) fun _ j ha hb => ((params_to T n j hb (by omega)).bindm (by omega) fun ps j ha hb => (((block_to T n).1 0 j hb (by omega)).bindm (by omega) fun b j ha hb => ⟨by omega, hb⟩)))
    rw [Rs.bind_ok]
    refine ⟨hx.mono (by omega), fun f hf => ?_⟩
    unfold needT at hx
    rw [hf] at hx
    have := hx.1
    omega
  · exact ⟨⟨Nat.le_refl _, hi⟩, fun f hf => by cases hf⟩
theorem funs_to (T : List Tok) : ∀ (n : Nat) fs i, i ≤ T.length → 4 * (T.length - i) + 8 ≤ n → (funsT T n fs i).to i T.length
  | 0, _, _, _, h => by omega
  | n + 1, fs, i, hi, hn => by
    rw [funsT]
    split
    · have h := fun_to T n i hi (by omega)
      cases hs : funT T n i with
      | out => rw [hs] at h; exact h.1.elim
      | bad c k => rw [hs] at h; exact h.1
      | ok f j =>
        rw [hs] at h
        have hj : j ≠ i := fun e => h.2 f (by rw [e])
        have := h.1.1
        have := h.1.2
        exact (funs_to T n _ j h.1.2 (by omega)).mono (by omega)
    · exact ⟨Nat.le_refl _, hi⟩
theorem parse_to (T : List Tok) (h : T.length ≤ 1000) : (parseT T).to 0 T.length := funs_to T _ [] 0 (Nat.zero_le _) (by omega)
end Go.Proofs.YtcebpmaggnephabDoor
