/- Our own: texts joined: MaSt. -/
import Derived.Test.YtbcpomdcmilpjaaDoorXMaMa
import Derived.Test.YtbcpomdcmilpjaaDoorXGrM
import Derived.Test.YtbcpomdcmilpjaaDoorXBaseM
namespace Go.Proofs.YtbcpomdcmilpjaaDoor
open Go.RowKit
theorem flat_at {α : Type} (f : α → List Value) (s : Nat) (hf : ∀ a, (f a).length = s) : ∀ {l : List α} {i : Nat} (hi : i < l.length) (j : Nat), j < s → (l.flatMap f)[i * s + j]? = (f l[i])[j]?
 | [], _, hi, _, _ => absurd hi (by simp)
 | a :: r, 0, _, j, hj => by rw [List.flatMap_cons, Nat.zero_mul, Nat.zero_add, List.getElem?_append_left (by rw [hf]; exact hj)]; rfl
 | a :: r, i + 1, hi, j, hj => by
  rw [List.flatMap_cons, List.getElem?_append_right (by rw [hf, Nat.add_mul]; omega), hf, show (i + 1) * s + j - s = i * s + j from by rw [Nat.add_mul]; omega]
  exact flat_at f s hf (l := r) (by simpa using hi) j hj
def mfC (f : Mf) : List Value := [.string ⟨f.name.toArray⟩, .int .i64 f.params, .int .i64 f.slots, .int .i64 f.entry]
abbrev mfV (f : Mf) : Value := .agg #[.string ⟨f.name.toArray⟩, .int .i64 f.params, .int .i64 f.slots, .int .i64 f.entry]
def XMf (A : Nat → Prop) (w : World) (v : Value) (L : List Mf) : Prop := XRow A w v L.length (L.flatMap mfC)
theorem XMf.at {A : Nat → Prop} {w : World} {ad : Option Addr} {l cap : Nat} {L : List Mf} (h : XMf A w (.slice ad l cap) L) {i : Nat} (hi : i < L.length) :
  ∃ g off, ad = some ⟨g, off, none⟩ ∧ A g ∧ w.cell? ⟨g, off + i * 4, none⟩ = some (.string ⟨L[i].name.toArray⟩) ∧ w.cell? ⟨g, off + i * 4 + 1, none⟩ = some (.int .i64 L[i].params) ∧ w.cell? ⟨g, off + i * 4 + 2, none⟩ = some (.int .i64 L[i].slots) ∧ w.cell? ⟨g, off + i * 4 + 3, none⟩ = some (.int .i64 L[i].entry) := by
 obtain ⟨g, off, e3, hg, e4⟩ := XRow.el 4 h hi (fun j hj => flat_at mfC 4 (fun _ => rfl) hi j hj)
 refine ⟨g, off, e3, hg, e4 0 _ (by decide) rfl, ?_, ?_, ?_⟩
 ·simpa [Nat.add_assoc] using e4 1 _ (by decide) rfl
 ·simpa [Nat.add_assoc] using e4 2 _ (by decide) rfl
 ·simpa [Nat.add_assoc] using e4 3 _ (by decide) rfl
def wdC (v : Nat) : List Value := [.string ⟨(decR v).op.toArray⟩, .int .i64 (decR v).d, .int .i64 (decR v).a, .int .i64 (decR v).b, .int .i64 (decR v).imm, .string ⟨(coNamed (decR v).op).2.sg.toArray⟩]
def XWd (A : Nat → Prop) (w : World) (v : Value) (L : List Nat) : Prop := XRow A w v L.length (L.flatMap wdC)
theorem XWd.at {A : Nat → Prop} {w : World} {ad : Option Addr} {l cap : Nat} {L : List Nat} (h : XWd A w (.slice ad l cap) L) {i : Nat} (hi : i < L.length) :
  ∃ g off, ad = some ⟨g, off, none⟩ ∧ A g ∧ ∀ j u, j < 6 → (wdC L[i])[j]? = some u → w.cell? ⟨g, off + i * 6 + j, none⟩ = some u := by
 obtain ⟨g, off, e3, hg, e4⟩ := XRow.el 6 h hi (fun j hj => flat_at wdC 6 (fun _ => rfl) hi j hj)
 exact ⟨g, off, e3, hg, fun j u hj hu => by rw [Nat.add_assoc]; exact e4 j u hj hu⟩
structure MM (w : World) (B mb : Nat) (fv wv ov : Value) (I : Im) (how : List UInt8) (g : Gm) (most d t : Nat) : Prop where
 hp : B ≤ mb
 blk : w.heap[mb]? = some (.cells #[.string ⟨how.toArray⟩, .int .i64 0, ov, .int .i64 (g.ticks : Int), fv, wv, .int .i64 (most : Int), .int .i64 (d : Int), .int .i64 (t : Int)] 66 (0, 0))
 fs : XMf (fun b => b < B) w fv I.funs
 ws : XWd (fun b => b < B) w wv I.words
 own : w.ownsRow B 3 1 ov g.out.length (intsG g.out)
 n1 : ov.ownBlock ≠ some mb
 tl : g.ticks ≤ most
 ml : most ≤ 5000
 ol : g.out.length ≤ 1000
 dl : d ≤ 40
 kl : t ≤ 100000000
structure Fr (S : Nat → Prop) (w w' : World) : Prop where
 os : w'.os = w.os
 tape : w'.tape = w.tape
 output : w'.output = w.output
 size : w.heap.size ≤ w'.heap.size
 block : ∀ b, b < w.heap.size → ¬ S b → w'.heap[b]? = w.heap[b]?
def Sx (mb : Nat) (o : Option Nat) (b : Nat) : Prop := b = mb ∨ o = some b
def Sw (mb fb sb : Nat) (o : Option Nat) (b : Nat) : Prop := b = mb ∨ b = fb ∨ b = sb ∨ o = some b
theorem Fr.refl (S : Nat → Prop) (w : World) : Fr S w w := ⟨rfl, rfl, rfl, Nat.le_refl _, fun _ _ _ => rfl⟩
theorem Fr.of {S : Nat → Prop} {w w' : World} (h : Below w.heap.size w w') : Fr S w w' := ⟨h.os, h.tape, h.output, h.size, fun i hi _ => h.block i hi⟩
theorem Fr.trans {S T : Nat → Prop} {a b c : World} (h : Fr S a b) (k : Fr T b c) (hT : ∀ i, i < a.heap.size → T i → S i) : Fr S a c :=
 ⟨k.os.trans h.os, k.tape.trans h.tape, k.output.trans h.output, Nat.le_trans h.size k.size, fun i hi hs =>
  (k.block i (Nat.lt_of_lt_of_le hi h.size) (fun ht => hs (hT i hi ht))).trans (h.block i hi hs)⟩
theorem Fr.mono {S T : Nat → Prop} {a b : World} (h : Fr S a b) (hT : ∀ i, S i → T i) : Fr T a b := ⟨h.os, h.tape, h.output, h.size, fun i hi hs => h.block i hi (fun x => hs (hT i x))⟩
theorem Sx.next {w : World} {mb : Nat} {o o' : Option Nat} (h : RowB w o o') {i : Nat} (hi : i < w.heap.size) (hs : Sx mb o' i) : Sx mb o i := by
 rcases hs with hs | hs
 ·exact Or.inl hs
 ·rcases h with rfl | ⟨g, rfl, hg⟩
  ·exact Or.inr hs
  ·injection hs with hs; omega
theorem Sw.next {w : World} {mb fb sb : Nat} {o o' : Option Nat} (h : RowB w o o') {i : Nat} (hi : i < w.heap.size) (hs : Sw mb fb sb o' i) : Sw mb fb sb o i := by
 rcases hs with hs | hs | hs | hs
 ·exact Or.inl hs
 ·exact Or.inr (Or.inl hs)
 ·exact Or.inr (Or.inr (Or.inl hs))
 ·rcases h with rfl | ⟨g, rfl, hg⟩
  ·exact Or.inr (Or.inr (Or.inr hs))
  ·injection hs with hs; omega
theorem Sx.toSw {mb fb sb : Nat} {o : Option Nat} {i : Nat} (h : Sx mb o i) : Sw mb fb sb o i := h.elim Or.inl (fun h => Or.inr (Or.inr (Or.inr h)))
section
variable {w w' : World} {B mb : Nat} {fv wv ov : Value} {I : Im} {how : List UInt8} {g : Gm} {most d t : Nat}
theorem MM.mlt (h : MM w B mb fv wv ov I how g most d t) : mb < w.heap.size := heap_lt h.blk
theorem MM.below (h : MM w B mb fv wv ov I how g most d t) (hb : Below w.heap.size w w') : MM w' B mb fv wv ov I how g most d t :=
 ⟨h.hp, (hb.block mb h.mlt).trans h.blk, h.fs.imp (fun _ h => h) (fun b hB => hb.block b (by have := h.mlt; have := h.hp; omega)), h.ws.imp (fun _ h => h) (fun b hB => hb.block b (by have := h.mlt; have := h.hp; omega)), owns_below h.own hb, h.n1, h.tl, h.ml, h.ol, h.dl, h.kl⟩
theorem Fr.lowX (h : Fr (Sx mb ov.ownBlock) w w') (k : MM w B mb fv wv ov I how g most d t) : Below B w w' :=
 ⟨h.os, h.tape, h.output, h.size, fun b hb => h.block b (by have := k.mlt; have := k.hp; omega) (by
  rintro (e | e)
  ·have := k.hp; omega
  ·have := (k.own.lt b e).1; omega)⟩
theorem Fr.lowS {fb sb : Nat} (h : Fr (Sw mb fb sb ov.ownBlock) w w') (k : MM w B mb fv wv ov I how g most d t) (hf : B ≤ fb) (hv : B ≤ sb) : Below B w w' :=
 ⟨h.os, h.tape, h.output, h.size, fun b hb => h.block b (by have := k.mlt; have := k.hp; omega) (by
  rintro (e | e | e | e)
  ·have := k.hp; omega
  ·omega
  ·omega
  ·have := (k.own.lt b e).1; omega)⟩
theorem MM.stay (h : MM w B mb fv wv ov I how g most d t) (hb : Below B w w') (hm : w'.heap[mb]? = w.heap[mb]?) (ho : ∀ b, ov.ownBlock = some b → w'.heap[b]? = w.heap[b]?) : MM w' B mb fv wv ov I how g most d t :=
 ⟨h.hp, hm.trans h.blk, h.fs.imp (fun _ h => h) (fun b hB => hb.block b hB), h.ws.imp (fun _ h => h) (fun b hB => hb.block b hB), own_same h.own ho, h.n1, h.tl, h.ml, h.ol, h.dl, h.kl⟩
theorem MM.put {how' : List UInt8} {g' : Gm} {d' t' : Nat} (h : MM w B mb fv wv ov I how g most d t) {j : Nat} {u : Value} (hs : g'.out = g.out) (ht : g'.ticks ≤ most) (hd : d' ≤ 40) (hk : t' ≤ 100000000)
  (hb : (#[.string ⟨how.toArray⟩, .int .i64 0, ov, .int .i64 (g.ticks : Int), fv, wv, .int .i64 (most : Int), .int .i64 (d : Int), .int .i64 (t : Int)] : Array Value).setIfInBounds j u = #[.string ⟨how'.toArray⟩, .int .i64 0, ov, .int .i64 (g'.ticks : Int), fv, wv, .int .i64 (most : Int), .int .i64 (d' : Int), .int .i64 (t' : Int)]) :
  MM (w.setCell ⟨mb, j, none⟩ u) B mb fv wv ov I how' g' most d' t' ∧ Fr (Sx mb ov.ownBlock) w (w.setCell ⟨mb, j, none⟩ u) := by
 have hset := blk_setCell h.blk j u
 rw [hb] at hset
 have hoth : ∀ b, b ≠ mb → (w.setCell ⟨mb, j, none⟩ u).heap[b]? = w.heap[b]? := fun b hb => Below.heap_setCell _ _ _ _ (show b ≠ mb from hb)
 refine ⟨⟨h.hp, hset, h.fs.imp (fun _ h => h) (fun b hB => hoth b (by have := h.hp; omega)), h.ws.imp (fun _ h => h) (fun b hB => hoth b (by have := h.hp; omega)), ?_, h.n1, ht, h.ml, by rw [hs]; exact h.ol, hd, hk⟩, ⟨rfl, rfl, rfl, by simp only [World.setCell, Array.size_modify]; exact Nat.le_refl _, fun b _ hS => hoth b (fun e => hS (Or.inl e))⟩⟩
 rw [hs]
 exact own_same h.own (fun b e => hoth b (fun e' => h.n1 (e' ▸ e)))
theorem MM.push {X w3 : World} {v' : Value} {g' : Gm} (h : MM X B mb fv wv ov I [] g most d t) (ht : g'.ticks = g.ticks) (hol : g'.out.length ≤ 1000) (hown : w3.ownsRow B 3 1 v' g'.out.length (intsG g'.out)) (hg : X.grownBy w3 ov.ownBlock) (hl : v'.ownBlock = ov.ownBlock ∨ v'.ownBlock = some X.heap.size) :
  MM (w3.setCell ⟨mb, 2, none⟩ v') B mb fv wv v' I [] g' most d t ∧ Fr (Sx mb ov.ownBlock) X (w3.setCell ⟨mb, 2, none⟩ v') ∧ RowB X ov.ownBlock v'.ownBlock := by
 have hpl := h.mlt
 have hpB := h.hp
 have hz := hg.size
 have hb3 : w3.heap[mb]? = _ := (hg.block mb hpl (fun e => h.n1 e.symm)).trans h.blk
 have hset := blk_setCell hb3 2 v'
 have hoth : ∀ b, b ≠ mb → (w3.setCell ⟨mb, 2, none⟩ v').heap[b]? = w3.heap[b]? := fun b hb => Below.heap_setCell _ _ _ _ (show b ≠ mb from hb)
 have hnew : RowB X ov.ownBlock v'.ownBlock := hl.elim Or.inl (fun e => Or.inr ⟨_, e, Nat.le_refl _⟩)
 have hn1 : v'.ownBlock ≠ some mb := hnew.ne hpl h.n1
 have hlow : ∀ b, b < B → (w3.setCell ⟨mb, 2, none⟩ v').heap[b]? = X.heap[b]? := fun b hb => by
  rw [hoth b (by omega), hg.block b (by omega) (fun e => by have := (h.own.lt b e.symm).1; omega)]
 refine ⟨⟨hpB, by rw [ht]; simpa using hset, h.fs.imp (fun _ h => h) hlow, h.ws.imp (fun _ h => h) hlow, own_same hown (fun b e => hoth b (fun e' => hn1 (e' ▸ e))), hn1, by rw [ht]; exact h.tl, h.ml, hol, h.dl, h.kl⟩, ⟨hg.os, hg.tape, hg.output, by simp only [World.setCell, Array.size_modify]; exact hz, fun b hb hS => ?_⟩, hnew⟩
 rw [hoth b (fun e => hS (Or.inl e)), hg.block b hb (fun e => hS (Or.inr e.symm))]
end
def fmL (mb : Nat) (f : Fm) (sv : Value) : List Value := .pointer (some ⟨mb, 0, none⟩) :: (intsG f.regs ++ (intsG f.args ++ (intsG f.next ++ [.int .i64 f.params, sv])))
structure FM (w : World) (B mb fb sb : Nat) (f : Fm) : Prop where
 hp : B ≤ fb
 hs : B ≤ sb
 nm : fb ≠ mb
 ns : sb ≠ mb
 nf : sb ≠ fb
 blk : w.heap[fb]? = some (.cells (fmL mb f (.slice (some ⟨sb, 0, none⟩) f.slots.length f.slots.length)).toArray 99 (0, 0))
 sl : w.heap[sb]? = some (.cells (intsG f.slots).toArray 3 (0, 0))
 rl : f.regs.length = 8
 al : f.args.length = 4
 nl : f.next.length = 4
 zl : f.slots.length ≤ 1000
theorem FM.keep {w w' : World} {B mb fb sb : Nat} {f : Fm} (h : FM w B mb fb sb f) (h1 : w'.heap[fb]? = w.heap[fb]?) (h2 : w'.heap[sb]? = w.heap[sb]?) : FM w' B mb fb sb f :=
 ⟨h.hp, h.hs, h.nm, h.ns, h.nf, h1.trans h.blk, h2.trans h.sl, h.rl, h.al, h.nl, h.zl⟩
theorem FM.flt {w : World} {B mb fb sb : Nat} {f : Fm} (h : FM w B mb fb sb f) : fb < w.heap.size := heap_lt h.blk
theorem FM.slt {w : World} {B mb fb sb : Nat} {f : Fm} (h : FM w B mb fb sb f) : sb < w.heap.size := heap_lt h.sl
theorem FM.below {w w' : World} {B mb fb sb : Nat} {f : Fm} (h : FM w B mb fb sb f) (hb : Below w.heap.size w w') : FM w' B mb fb sb f := h.keep (hb.block _ h.flt) (hb.block _ h.slt)
theorem fmL_reg {mb : Nat} {f : Fm} {sv : Value} (hr : f.regs.length = 8) {k : Nat} (hk : k < 8) : (fmL mb f sv)[1 + k]? = some (.int .i64 (f.regs.getD k 0)) := by
 unfold fmL
 rw [Nat.add_comm, List.getElem?_cons_succ, List.getElem?_append_left (by rw [intsG_len]; omega), intsG_at (by omega)]
 simp [List.getD, hr, hk]
theorem fmL_arg {mb : Nat} {f : Fm} {sv : Value} (hr : f.regs.length = 8) (ha : f.args.length = 4) {k : Nat} (hk : k < 4) : (fmL mb f sv)[9 + k]? = some (.int .i64 (f.args.getD k 0)) := by
 unfold fmL
 rw [show 9 + k = (8 + k) + 1 from by omega, List.getElem?_cons_succ, List.getElem?_append_right (by rw [intsG_len]; omega), List.getElem?_append_left (by rw [intsG_len, intsG_len]; omega), intsG_len, hr, show 8 + k - 8 = k from by omega, intsG_at (by omega)]
 simp [List.getD, ha, hk]
theorem fmL_next {mb : Nat} {f : Fm} {sv : Value} (hr : f.regs.length = 8) (ha : f.args.length = 4) (hn : f.next.length = 4) {k : Nat} (hk : k < 4) : (fmL mb f sv)[13 + k]? = some (.int .i64 (f.next.getD k 0)) := by
 unfold fmL
 rw [show 13 + k = (12 + k) + 1 from by omega, List.getElem?_cons_succ, List.getElem?_append_right (by rw [intsG_len]; omega), List.getElem?_append_right (by rw [intsG_len, intsG_len]; omega), List.getElem?_append_left (by simp only [intsG_len]; omega), intsG_len, intsG_len, hr, ha, show 12 + k - 8 - 4 = k from by omega, intsG_at (by omega)]
 simp [List.getD, hn, hk]
theorem fmL_par {mb : Nat} {f : Fm} {sv : Value} (hr : f.regs.length = 8) (ha : f.args.length = 4) (hn : f.next.length = 4) : (fmL mb f sv)[17]? = some (.int .i64 f.params) ∧ (fmL mb f sv)[18]? = some sv := by
 unfold fmL
 constructor
 ·rw [List.getElem?_cons_succ, List.getElem?_append_right (by rw [intsG_len]; omega), List.getElem?_append_right (by rw [intsG_len, intsG_len]; omega), List.getElem?_append_right (by simp only [intsG_len]; omega)]
  simp only [intsG_len, hr, ha, hn]
  rfl
 ·rw [List.getElem?_cons_succ, List.getElem?_append_right (by rw [intsG_len]; omega), List.getElem?_append_right (by rw [intsG_len, intsG_len]; omega), List.getElem?_append_right (by simp only [intsG_len]; omega)]
  simp only [intsG_len, hr, ha, hn]
  rfl
theorem intsG_set (l : List Int) (k : Nat) (v : Int) : (intsG l).set k (.int .i64 v) = intsG (l.set k v) := by simp [intsG, List.map_set]
theorem fmL_put {mb : Nat} {f : Fm} {sv : Value} (hr : f.regs.length = 8) {k : Nat} (hk : k < 8) (v : Int) : (fmL mb f sv).set (1 + k) (.int .i64 v) = fmL mb (f.put k v) sv := by
 unfold fmL Fm.put
 rw [Nat.add_comm, List.set_cons_succ, List.set_append_left _ _ (by rw [intsG_len]; omega), intsG_set]
theorem fmL_told {mb : Nat} {f : Fm} {sv : Value} (hr : f.regs.length = 8) (ha : f.args.length = 4) {k : Nat} (hk : f.next.length = 4) (h4 : k < 4) (v : Int) : (fmL mb f sv).set (13 + k) (.int .i64 v) = fmL mb { f with next := f.next.set k v } sv := by
 unfold fmL
 rw [show 13 + k = (12 + k) + 1 from by omega, List.set_cons_succ, List.set_append_right _ _ (by rw [intsG_len]; omega), List.set_append_right _ _ (by simp only [intsG_len]; omega), List.set_append_left _ _ (by simp only [intsG_len]; omega), intsG_len, intsG_len, hr, ha, show 12 + k - 8 - 4 = k from by omega, intsG_set]
theorem FM.put {w : World} {B mb fb sb : Nat} {f : Fm} (h : FM w B mb fb sb f) {k : Nat} (hk : k < 8) (v : Int) : FM (w.setCell ⟨fb, 1 + k, none⟩ (.int .i64 v)) B mb fb sb (f.put k v) := by
 have hs := blk_setCell h.blk (1 + k) (.int .i64 v)
 rw [List.setIfInBounds_toArray, fmL_put h.rl hk] at hs
 exact ⟨h.hp, h.hs, h.nm, h.ns, h.nf, hs, (Below.heap_setCell _ _ _ _ (show sb ≠ fb from h.nf)).trans h.sl, by simpa [Fm.put] using h.rl, h.al, h.nl, h.zl⟩
theorem FM.told {w : World} {B mb fb sb : Nat} {f : Fm} (h : FM w B mb fb sb f) {k : Nat} (hk : k < 4) (v : Int) : FM (w.setCell ⟨fb, 13 + k, none⟩ (.int .i64 v)) B mb fb sb { f with next := f.next.set k v } := by
 have hs := blk_setCell h.blk (13 + k) (.int .i64 v)
 rw [List.setIfInBounds_toArray, fmL_told h.rl h.al h.nl hk] at hs
 exact ⟨h.hp, h.hs, h.nm, h.ns, h.nf, hs, (Below.heap_setCell _ _ _ _ (show sb ≠ fb from h.nf)).trans h.sl, h.rl, h.al, by simpa using h.nl, h.zl⟩
theorem FM.store {w : World} {B mb fb sb : Nat} {f : Fm} (h : FM w B mb fb sb f) (k : Nat) (v : Int) : FM (w.setCell ⟨sb, k, none⟩ (.int .i64 v)) B mb fb sb { f with slots := f.slots.set k v } := by
 have hs := blk_setCell h.sl k (.int .i64 v)
 rw [List.setIfInBounds_toArray, intsG_set] at hs
 refine ⟨h.hp, h.hs, h.nm, h.ns, h.nf, ?_, hs, h.rl, h.al, h.nl, by simpa using h.zl⟩
 have := (Below.heap_setCell w ⟨sb, k, none⟩ (.int .i64 v) fb (show fb ≠ sb from h.nf.symm)).trans h.blk
 rw [this]
 simp [fmL]
end Go.Proofs.YtbcpomdcmilpjaaDoor
