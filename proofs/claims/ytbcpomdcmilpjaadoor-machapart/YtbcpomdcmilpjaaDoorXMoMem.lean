/- Our own: texts joined: MoMem. -/
import Derived.Test.YtbcpomdcmilpjaaDoorXMaSt
import Derived.Test.YtbcpomdcmilpjaaDoorXRefM
import Derived.Test.YtbcpomdcmilpjaaDoorXBaseM
namespace Go.Proofs.YtbcpomdcmilpjaaDoor
open Go.RowKit
structure En where
 h : Mf
 f : Fm
 fb : Nat
 sb : Nat
def En.sv (e : En) : Value := .slice (some ⟨e.sb, 0, none⟩) e.f.slots.length e.f.slots.length
def enL (e : En) : List Value := mfC e.h ++ (intsG e.f.regs ++ (e.sv :: (intsG e.f.args ++ (intsG e.f.next ++ [.int .i64 (e.f.pc : Int), .int .i64 (e.f.d : Int)]))))
def enP (e : En) : Value := .pointer (some ⟨e.fb, 0, none⟩)
def enB (S : List En) : List Nat := S.flatMap fun e => [e.fb, e.sb]
structure Fo (X : World) (B : Nat) (e : En) : Prop where
 hf : B ≤ e.fb
 hs : B ≤ e.sb
 blk : X.heap[e.fb]? = some (.cells (enL e).toArray 76 (0, 0))
 sl : X.heap[e.sb]? = some (.cells (intsG e.f.slots).toArray 3 (0, 0))
 rl : e.f.regs.length = 8
 al : e.f.args.length = 4
 nl : e.f.next.length = 4
 zl : e.f.slots.length ≤ 1000
 pl : e.h.params = e.f.params
 sz : e.h.slots = (e.f.slots.length : Int)
 r64 : ∀ v ∈ e.f.regs, In64 v
 a64 : ∀ v ∈ e.f.args, In64 v
 n64 : ∀ v ∈ e.f.next, In64 v
 s64 : ∀ v ∈ e.f.slots, In64 v
theorem Fo.keep {X Y : World} {B : Nat} {e : En} (h : Fo X B e) (h1 : Y.heap[e.fb]? = X.heap[e.fb]?) (h2 : Y.heap[e.sb]? = X.heap[e.sb]?) : Fo Y B e :=
 ⟨h.hf, h.hs, h1.trans h.blk, h2.trans h.sl, h.rl, h.al, h.nl, h.zl, h.pl, h.sz, h.r64, h.a64, h.n64, h.s64⟩
theorem enL_reg {e : En} (hr : e.f.regs.length = 8) {k : Nat} (hk : k < 8) : (enL e)[4 + k]? = some (.int .i64 (e.f.regs.getD k 0)) := by
 unfold enL
 rw [List.getElem?_append_right (by simp [mfC]), List.getElem?_append_left (by rw [intsG_len]; simp [mfC]; omega), show 4 + k - (mfC e.h).length = k from by simp [mfC], intsG_at (by omega)]
 simp [List.getD, hr, hk]
theorem enL_sv {e : En} (hr : e.f.regs.length = 8) : (enL e)[12]? = some e.sv := by
 unfold enL
 rw [List.getElem?_append_right (by simp [mfC]), List.getElem?_append_right (by rw [intsG_len]; simp [mfC]; omega), intsG_len, hr]
 simp [mfC]
theorem enL_arg {e : En} (hr : e.f.regs.length = 8) (ha : e.f.args.length = 4) {k : Nat} (hk : k < 4) : (enL e)[13 + k]? = some (.int .i64 (e.f.args.getD k 0)) := by
 unfold enL
 rw [List.getElem?_append_right (by simp [mfC]; omega), List.getElem?_append_right (by rw [intsG_len]; simp [mfC]; omega), intsG_len, hr, show 13 + k - (mfC e.h).length - 8 = k + 1 from by simp [mfC]; omega, List.getElem?_cons_succ, List.getElem?_append_left (by rw [intsG_len]; omega), intsG_at (by omega)]
 simp [List.getD, ha, hk]
theorem enL_next {e : En} (hr : e.f.regs.length = 8) (ha : e.f.args.length = 4) (hn : e.f.next.length = 4) {k : Nat} (hk : k < 4) : (enL e)[17 + k]? = some (.int .i64 (e.f.next.getD k 0)) := by
 unfold enL
 rw [List.getElem?_append_right (by simp [mfC]; omega), List.getElem?_append_right (by rw [intsG_len]; simp [mfC]; omega), intsG_len, hr, show 17 + k - (mfC e.h).length - 8 = (4 + k) + 1 from by simp [mfC]; omega, List.getElem?_cons_succ, List.getElem?_append_right (by rw [intsG_len]; omega), intsG_len, ha, show 4 + k - 4 = k from by omega, List.getElem?_append_left (by rw [intsG_len]; omega), intsG_at (by omega)]
 simp [List.getD, hn, hk]
theorem enL_end {e : En} (hr : e.f.regs.length = 8) (ha : e.f.args.length = 4) (hn : e.f.next.length = 4) : (enL e)[21]? = some (.int .i64 (e.f.pc : Int)) ∧ (enL e)[22]? = some (.int .i64 (e.f.d : Int)) := by
 unfold enL
 constructor
 ·rw [List.getElem?_append_right (by simp [mfC]), List.getElem?_append_right (by rw [intsG_len]; simp [mfC]; omega), intsG_len, hr, show 21 - (mfC e.h).length - 8 = 8 + 1 from by simp [mfC], List.getElem?_cons_succ, List.getElem?_append_right (by rw [intsG_len]; omega), intsG_len, ha, List.getElem?_append_right (by rw [intsG_len]; omega), intsG_len, hn]
  rfl
 ·rw [List.getElem?_append_right (by simp [mfC]), List.getElem?_append_right (by rw [intsG_len]; simp [mfC]; omega), intsG_len, hr, show 22 - (mfC e.h).length - 8 = 9 + 1 from by simp [mfC], List.getElem?_cons_succ, List.getElem?_append_right (by rw [intsG_len]; omega), intsG_len, ha, List.getElem?_append_right (by rw [intsG_len]; omega), intsG_len, hn]
  rfl
theorem intsG_setL (l : List Int) (k : Nat) (v : Int) : (intsG l).set k (.int .i64 v) = intsG (l.set k v) := by simp [intsG, List.map_set]
def En.with (e : En) (f : Fm) : En := { e with f := f }
theorem enL_put {e : En} (hr : e.f.regs.length = 8) {k : Nat} (hk : k < 8) (v : Int) : (enL e).set (4 + k) (.int .i64 v) = enL (e.with (e.f.put k v)) := by
 unfold enL En.with En.sv Fm.put
 rw [List.set_append_right _ _ (by simp [mfC]), show 4 + k - (mfC e.h).length = k from by simp [mfC], List.set_append_left _ _ (by rw [intsG_len]; omega), intsG_setL]
theorem enL_told {e : En} (hr : e.f.regs.length = 8) (ha : e.f.args.length = 4) (hn : e.f.next.length = 4) {k : Nat} (hk : k < 4) (v : Int) : (enL e).set (17 + k) (.int .i64 v) = enL (e.with { e.f with next := e.f.next.set k v }) := by
 unfold enL En.with En.sv
 rw [List.set_append_right _ _ (by simp [mfC]; omega), show 17 + k - (mfC e.h).length = 13 + k from by simp [mfC]; omega, List.set_append_right _ _ (by rw [intsG_len]; omega), intsG_len, hr, show 13 + k - 8 = (4 + k) + 1 from by omega, List.set_cons_succ, List.set_append_right _ _ (by rw [intsG_len]; omega), intsG_len, ha, show 4 + k - 4 = k from by omega, List.set_append_left _ _ (by rw [intsG_len]; omega), intsG_setL]
theorem enL_go {e : En} (hr : e.f.regs.length = 8) (ha : e.f.args.length = 4) (hn : e.f.next.length = 4) (p : Nat) : (enL e).set 21 (.int .i64 (p : Int)) = enL (e.with (e.f.go p)) := by
 unfold enL En.with En.sv Fm.go
 rw [List.set_append_right _ _ (by simp [mfC]), show 21 - (mfC e.h).length = 17 from by simp [mfC], List.set_append_right _ _ (by rw [intsG_len]; omega), intsG_len, hr, show 17 - 8 = 8 + 1 from by omega, List.set_cons_succ, List.set_append_right _ _ (by rw [intsG_len]; omega), intsG_len, ha, List.set_append_right _ _ (by rw [intsG_len]; omega), intsG_len, hn]
 rfl
theorem mem_enB {S : List En} {e : En} (h : e ∈ S) : e.fb ∈ enB S ∧ e.sb ∈ enB S := by
 unfold enB
 rw [List.mem_flatMap, List.mem_flatMap]
 exact ⟨⟨e, h, by simp⟩, ⟨e, h, by simp⟩⟩
abbrev ocZ : Array Value := #[.string ⟨#[]⟩, .int .i64 0, .slice none 0 0, .int .i64 0]
structure Mo (w X : World) (fv wv : Value) (S : List En) (cv ov : Value) (g : Gm) (nx : List Int) : Prop where
 low : Below w.heap.size w X
 img : X.heap[w.heap.size]? = some (.cells #[fv, wv] 25 (0, 0))
 res : X.heap[w.heap.size + 1]? = some (.cells ocZ 40 (0, 0))
 ob : X.heap[w.heap.size + 1 + 1]? = some (.cells #[.string ⟨#[]⟩, .int .i64 0, ov, .int .i64 (g.ticks : Int)] 40 (0, 0))
 nb : X.heap[w.heap.size + 1 + 1 + 1]? = some (.cells (intsG nx).toArray 67 (0, 0))
 row : X.ownsRow (w.heap.size + 4) 73 1 cv S.length (S.reverse.map enP)
 out : X.ownsRow (w.heap.size + 4) 3 1 ov g.out.length (intsG g.out)
 fr : ∀ e ∈ S, Fo X (w.heap.size + 4) e
 nd : (enB S).Nodup
 cb : ∀ b ∈ enB S, cv.ownBlock ≠ some b ∧ ov.ownBlock ≠ some b
 co : ∀ b, cv.ownBlock = some b → ov.ownBlock ≠ some b
 n4 : nx.length = 4
 n64 : ∀ v ∈ nx, In64 v
section
variable {w X Y : World} {fv wv cv ov : Value} {S : List En} {e : En} {g : Gm} {nx : List Int}
theorem Mo.size (h : Mo w X fv wv S cv ov g nx) : w.heap.size + 4 ≤ X.heap.size := by have := heap_lt h.nb; omega
theorem Mo.bl (h : Mo w X fv wv S cv ov g nx) : ∀ b ∈ enB S, w.heap.size + 4 ≤ b ∧ b < X.heap.size := fun b hb => by
 unfold enB at hb
 rw [List.mem_flatMap] at hb
 obtain ⟨e, he, hb⟩ := hb
 have hf := h.fr e he
 simp only [List.mem_cons, List.not_mem_nil, or_false] at hb
 rcases hb with rfl | rfl
 ·exact ⟨hf.hf, heap_lt hf.blk⟩
 ·exact ⟨hf.hs, heap_lt hf.sl⟩
theorem Mo.keep (h : Mo w X fv wv S cv ov g nx) (hl : Below w.heap.size w Y) (hk : ∀ b, b < X.heap.size → w.heap.size ≤ b → Y.heap[b]? = X.heap[b]?) : Mo w Y fv wv S cv ov g nx := by
 have hz := h.size
 have kk : ∀ b, w.heap.size ≤ b → b < X.heap.size → Y.heap[b]? = X.heap[b]? := fun b h1 h2 => hk b h2 h1
 exact ⟨hl, (kk _ (by omega) (by omega)).trans h.img, (kk _ (by omega) (by omega)).trans h.res, (kk _ (by omega) (by omega)).trans h.ob, (kk _ (by omega) (by omega)).trans h.nb, own_same h.row (fun b e => by have := h.row.lt b e; exact kk b (by omega) this.2), own_same h.out (fun b e => by have := h.out.lt b e; exact kk b (by omega) this.2), fun e he => by
  have h1 := h.bl _ (mem_enB he).1
  have h2 := h.bl _ (mem_enB he).2
  exact (h.fr e he).keep (kk _ (by omega) h1.2) (kk _ (by omega) h2.2), h.nd, h.cb, h.co, h.n4, h.n64⟩
theorem Mo.below (h : Mo w X fv wv S cv ov g nx) (hb : Below X.heap.size X Y) : Mo w Y fv wv S cv ov g nx :=
 h.keep (bl_trans h.low h.low.size hb) (fun b hb1 _ => hb.block b hb1)
theorem Mo.fset (h : Mo w X fv wv (e :: S) cv ov g nx) (k : Nat) (v : Value) (f' : Fm) (hk : (enL e).set k v = enL (e.with f')) (hs : f'.slots = e.f.slots) (hp : f'.params = e.f.params) (hr : f'.regs.length = 8) (ha : f'.args.length = 4) (hn : f'.next.length = 4) (r64 : ∀ v ∈ f'.regs, In64 v) (a64 : ∀ v ∈ f'.args, In64 v) (n64 : ∀ v ∈ f'.next, In64 v) :
  Mo w (X.setCell ⟨e.fb, k, none⟩ v) fv wv (e.with f' :: S) cv ov g nx := by
 have he := h.fr e List.mem_cons_self
 have hz := h.size
 have hB := he.hf
 have hb1 := mem_enB (S := e :: S) (e := e) List.mem_cons_self
 have hc := h.cb _ hb1.1
 have oth : ∀ b, b ≠ e.fb → (X.setCell ⟨e.fb, k, none⟩ v).heap[b]? = X.heap[b]? := fun b hb => Below.heap_setCell _ _ _ _ (show b ≠ e.fb from hb)
 have hset := blk_setCell he.blk k v
 rw [List.setIfInBounds_toArray, hk] at hset
 have hnd : e.fb ≠ e.sb ∧ e.fb ∉ enB S ∧ e.sb ∉ enB S := by
  have := h.nd
  simp only [enB, List.flatMap_cons, List.cons_append, List.nil_append, List.nodup_cons, List.mem_cons, not_or] at this
  exact ⟨this.1.1, this.1.2, this.2.1⟩
 refine ⟨h.low.setCell (by show w.heap.size ≤ e.fb; omega) _, (oth _ (by omega)).trans h.img, (oth _ (by omega)).trans h.res, (oth _ (by omega)).trans h.ob, (oth _ (by omega)).trans h.nb, ?_, own_same h.out (fun b hb => oth b (fun e' => hc.2 (e' ▸ hb))), ?_, h.nd, h.cb, h.co, h.n4, h.n64⟩
 ·have := own_same (w' := X.setCell ⟨e.fb, k, none⟩ v) h.row (fun b hb => oth b (fun e' => hc.1 (e' ▸ hb)))
  simpa [En.with, enP] using this
 ·intro x hx
  rcases List.mem_cons.1 hx with rfl | hx
  ·refine ⟨he.hf, he.hs, hset, ?_, hr, ha, hn, by show f'.slots.length ≤ 1000; rw [hs]; exact he.zl, by show e.h.params = f'.params; rw [hp]; exact he.pl, by show e.h.slots = (f'.slots.length : Int); rw [hs]; exact he.sz, r64, a64, n64, by show ∀ v ∈ f'.slots, In64 v; rw [hs]; exact he.s64⟩
   show (X.setCell ⟨e.fb, k, none⟩ v).heap[e.sb]? = some (.cells (intsG f'.slots).toArray _ (0, 0))
   rw [hs]
   exact (oth _ (Ne.symm hnd.1)).trans he.sl
  ·have hx1 := mem_enB hx
   exact (h.fr x (List.mem_cons_of_mem _ hx)).keep (oth _ (fun e' => hnd.2.1 (e' ▸ hx1.1))) (oth _ (fun e' => hnd.2.1 (e' ▸ hx1.2)))
theorem set64 {l : List Int} (h : ∀ v ∈ l, In64 v) (k : Nat) {v : Int} (hv : In64 v) : ∀ u ∈ l.set k v, In64 u := fun u hu => by
 rcases List.mem_or_eq_of_mem_set hu with hu | rfl
 ·exact h u hu
 ·exact hv
theorem Mo.put (h : Mo w X fv wv (e :: S) cv ov g nx) {k : Nat} (hk : k < 8) {v : Int} (hv : In64 v) : Mo w (X.setCell ⟨e.fb, 4 + k, none⟩ (.int .i64 v)) fv wv (e.with (e.f.put k v) :: S) cv ov g nx := by
 have he := h.fr e List.mem_cons_self
 exact h.fset _ _ (e.f.put k v) (enL_put he.rl hk v) rfl rfl (by simp [Fm.put, he.rl]) he.al he.nl (set64 he.r64 k hv) he.a64 he.n64
theorem Mo.told (h : Mo w X fv wv (e :: S) cv ov g nx) {k : Nat} (hk : k < 4) {v : Int} (hv : In64 v) : Mo w (X.setCell ⟨e.fb, 17 + k, none⟩ (.int .i64 v)) fv wv (e.with { e.f with next := e.f.next.set k v } :: S) cv ov g nx := by
 have he := h.fr e List.mem_cons_self
 exact h.fset _ _ { e.f with next := e.f.next.set k v } (enL_told he.rl he.al he.nl hk v) rfl rfl he.rl he.al (by simp [he.nl]) he.r64 he.a64 (set64 he.n64 k hv)
theorem Mo.go (h : Mo w X fv wv (e :: S) cv ov g nx) (p : Nat) : Mo w (X.setCell ⟨e.fb, 21, none⟩ (.int .i64 (p : Int))) fv wv (e.with (e.f.go p) :: S) cv ov g nx := by
 have he := h.fr e List.mem_cons_self
 exact h.fset _ _ (e.f.go p) (enL_go he.rl he.al he.nl p) rfl rfl he.rl he.al he.nl he.r64 he.a64 he.n64
theorem Mo.slot (h : Mo w X fv wv (e :: S) cv ov g nx) (k : Nat) {v : Int} (hv : In64 v) : Mo w (X.setCell ⟨e.sb, k, none⟩ (.int .i64 v)) fv wv (e.with { e.f with slots := e.f.slots.set k v } :: S) cv ov g nx := by
 have he := h.fr e List.mem_cons_self
 have hz := h.size
 have hB := he.hs
 have hb1 := mem_enB (S := e :: S) (e := e) List.mem_cons_self
 have hc := h.cb _ hb1.2
 have oth : ∀ b, b ≠ e.sb → (X.setCell ⟨e.sb, k, none⟩ (.int .i64 v)).heap[b]? = X.heap[b]? := fun b hb => Below.heap_setCell _ _ _ _ (show b ≠ e.sb from hb)
 have hset := blk_setCell he.sl k (.int .i64 v)
 rw [List.setIfInBounds_toArray, intsG_setL] at hset
 have hnd : e.fb ≠ e.sb ∧ e.fb ∉ enB S ∧ e.sb ∉ enB S := by
  have := h.nd
  simp only [enB, List.flatMap_cons, List.cons_append, List.nil_append, List.nodup_cons, List.mem_cons, not_or] at this
  exact ⟨this.1.1, this.1.2, this.2.1⟩
 refine ⟨h.low.setCell (by show w.heap.size ≤ e.sb; omega) _, (oth _ (by omega)).trans h.img, (oth _ (by omega)).trans h.res, (oth _ (by omega)).trans h.ob, (oth _ (by omega)).trans h.nb, ?_, own_same h.out (fun b hb => oth b (fun e' => hc.2 (e' ▸ hb))), ?_, h.nd, h.cb, h.co, h.n4, h.n64⟩
 ·have := own_same (w' := X.setCell ⟨e.sb, k, none⟩ (.int .i64 v)) h.row (fun b hb => oth b (fun e' => hc.1 (e' ▸ hb)))
  simpa [En.with, enP] using this
 ·intro x hx
  rcases List.mem_cons.1 hx with rfl | hx
  ·refine ⟨he.hf, he.hs, ?_, hset, he.rl, he.al, he.nl, by simpa [En.with] using he.zl, he.pl, by simpa [En.with] using he.sz, he.r64, he.a64, he.n64, set64 he.s64 k hv⟩
   have := (oth e.fb hnd.1).trans he.blk
   show (X.setCell ⟨e.sb, k, none⟩ (.int .i64 v)).heap[e.fb]? = _
   rw [this]
   simp [enL, En.with, En.sv]
  ·have hx1 := mem_enB hx
   exact (h.fr x (List.mem_cons_of_mem _ hx)).keep (oth _ (fun e' => hnd.2.2 (e' ▸ hx1.1))) (oth _ (fun e' => hnd.2.2 (e' ▸ hx1.2)))
theorem Mo.tick (h : Mo w X fv wv S cv ov g nx) (t : Nat) : Mo w (X.setCell ⟨w.heap.size + 1 + 1, 3, none⟩ (.int .i64 (t : Int))) fv wv S cv ov ⟨g.out, t⟩ nx := by
 have hz := h.size
 have oth : ∀ b, b ≠ w.heap.size + 1 + 1 → (X.setCell ⟨w.heap.size + 1 + 1, 3, none⟩ (.int .i64 (t : Int))).heap[b]? = X.heap[b]? := fun b hb => Below.heap_setCell _ _ _ _ (show b ≠ w.heap.size + 1 + 1 from hb)
 have hset := blk_setCell h.ob 3 (.int .i64 (t : Int))
 exact ⟨h.low.setCell (by show w.heap.size ≤ w.heap.size + 1 + 1; omega) _, (oth _ (by omega)).trans h.img, (oth _ (by omega)).trans h.res, by simpa using hset, (oth _ (by omega)).trans h.nb, own_same h.row (fun b hb => oth b (by have := h.row.lt b hb; omega)), own_same h.out (fun b hb => oth b (by have := h.out.lt b hb; omega)), fun x hx => (h.fr x hx).keep (oth _ (by have := h.bl _ (mem_enB hx).1; omega)) (oth _ (by have := h.bl _ (mem_enB hx).2; omega)), h.nd, h.cb, h.co, h.n4, h.n64⟩
theorem Mo.print (h : Mo w X fv wv S cv ov g nx) {w3 : World} {v' : Value} {x : Int} (hown : w3.ownsRow (w.heap.size + 4) 3 1 v' (g.out ++ [x]).length (intsG (g.out ++ [x]))) (hg : X.grownBy w3 ov.ownBlock) (hl : v'.ownBlock = ov.ownBlock ∨ v'.ownBlock = some X.heap.size) :
  Mo w (w3.setCell ⟨w.heap.size + 1 + 1, 2, none⟩ v') fv wv S cv v' ⟨g.out ++ [x], g.ticks⟩ nx := by
 have hz := h.size
 have hz3 := hg.size
 have ol := h.out.lt
 have oth : ∀ b, b ≠ w.heap.size + 1 + 1 → b < X.heap.size → ov.ownBlock ≠ some b → (w3.setCell ⟨w.heap.size + 1 + 1, 2, none⟩ v').heap[b]? = X.heap[b]? := fun b hb hlt hno => (Below.heap_setCell _ _ _ _ (show b ≠ w.heap.size + 1 + 1 from hb)).trans (hg.block b hlt (fun e => hno e.symm))
 have lo : ∀ b, b < w.heap.size + 4 → ov.ownBlock ≠ some b := fun b hb e => by have := ol b e; omega
 have hob3 : w3.heap[w.heap.size + 1 + 1]? = _ := (hg.block _ (by omega) (fun e => lo _ (by omega) e.symm)).trans h.ob
 have hset := blk_setCell hob3 2 v'
 have hl3 : Below w.heap.size w w3 := ⟨hg.os.trans h.low.os, hg.tape.trans h.low.tape, hg.output.trans h.low.output, by have := h.low.size; omega, fun k hk => (hg.block k (by omega) (fun e => lo k (by omega) e.symm)).trans (h.low.block k hk)⟩
 refine ⟨hl3.setCell (by show w.heap.size ≤ w.heap.size + 1 + 1; omega) _, (oth _ (by omega) (by omega) (lo _ (by omega))).trans h.img, (oth _ (by omega) (by omega) (lo _ (by omega))).trans h.res, by simpa using hset, (oth _ (by omega) (by omega) (lo _ (by omega))).trans h.nb, own_same h.row (fun b hb => by have := h.row.lt b hb; exact oth b (by omega) this.2 (h.co b hb)), own_same hown (fun b hb => Below.heap_setCell _ _ _ _ (by have := hown.lt b hb; show b ≠ w.heap.size + 1 + 1; omega)), fun y hy => ?_, h.nd, fun b hb => ⟨(h.cb b hb).1, ?_⟩, fun b hb => ?_, h.n4, h.n64⟩
 ·have h1 := h.bl _ (mem_enB hy).1
  have h2 := h.bl _ (mem_enB hy).2
  exact (h.fr y hy).keep (oth _ (by omega) h1.2 (h.cb _ (mem_enB hy).1).2) (oth _ (by omega) h2.2 (h.cb _ (mem_enB hy).2).2)
 ·rcases hl with hl | hl
  ·rw [hl]; exact (h.cb b hb).2
  ·rw [hl]
   intro e'
   injection e' with e'
   have := h.bl b hb; omega
 ·rcases hl with hl | hl
  ·rw [hl]; exact h.co b hb
  ·rw [hl]
   intro e'
   injection e' with e'
   have := h.row.lt b hb; omega
theorem Mo.next (h : Mo w X fv wv S cv ov g nx) {nx' : List Int} (hb : But (w.heap.size + 1 + 1 + 1) X Y) (hk : Y.heap[w.heap.size + 1 + 1 + 1]? = some (.cells (intsG nx').toArray 67 (0, 0))) (h4 : nx'.length = 4) (h64 : ∀ v ∈ nx', In64 v) : Mo w Y fv wv S cv ov g nx' := by
 have hz := h.size
 have oth : ∀ b, b < X.heap.size → b ≠ w.heap.size + 1 + 1 + 1 → Y.heap[b]? = X.heap[b]? := fun b h1 h2 => hb.block b h1 h2
 exact ⟨⟨hb.os.trans h.low.os, hb.tape.trans h.low.tape, hb.output.trans h.low.output, Nat.le_trans h.low.size hb.size, fun k hk => (oth k (by omega) (by omega)).trans (h.low.block k hk)⟩, (oth _ (by omega) (by omega)).trans h.img, (oth _ (by omega) (by omega)).trans h.res, (oth _ (by omega) (by omega)).trans h.ob, hk, own_same h.row (fun b hb => by have := h.row.lt b hb; exact oth b this.2 (by omega)), own_same h.out (fun b hb => by have := h.out.lt b hb; exact oth b this.2 (by omega)), fun x hx => by
  have h1 := h.bl _ (mem_enB hx).1
  have h2 := h.bl _ (mem_enB hx).2
  exact (h.fr x hx).keep (oth _ h1.2 (by omega)) (oth _ h2.2 (by omega)), h.nd, h.cb, h.co, h4, h64⟩
theorem Mo.pop {ad : Option Addr} {n c : Nat} (h : Mo w X fv wv (e :: S) (.slice ad n c) ov g nx) : Mo w X fv wv S (.slice ad S.length c) ov g nx := by
 have hrow : X.ownsRow (w.heap.size + 4) 73 1 (.slice ad S.length c) S.length (S.reverse.map enP) ∧ (∀ b, (Value.slice ad S.length c).ownBlock = some b → (Value.slice ad n c).ownBlock = some b) := by
  rcases h.row with ⟨h1, ⟨_, h3⟩ | ⟨gb, cap, cur, h3, h4, h5, h6, h7, h8, h9⟩⟩
  ·simp at h3
  ·injection h3 with e1 e2 e3
   subst e1 e2 e3
   refine ⟨⟨by simp, Or.inr ⟨gb, c, cur, rfl, h4, h5, by simp at h6; omega, h7, h8, ?_⟩⟩, fun b hb => hb⟩
   have h10 : (cur.toList.take ((e :: S).length * 1)).take (S.length * 1) = ((e :: S).reverse.map enP).take (S.length * 1) := by rw [h9]
   rw [List.take_take, Nat.min_eq_left (by simp)] at h10
   rw [h10]
   simp
 have hnd : (enB S).Nodup ∧ ∀ b ∈ enB S, b ∈ enB (e :: S) := by
  have := h.nd
  simp only [enB, List.flatMap_cons, List.cons_append, List.nil_append, List.nodup_cons] at this
  exact ⟨this.2.2, fun b hb => by simp only [enB, List.flatMap_cons, List.cons_append, List.nil_append, List.mem_cons]; exact Or.inr (Or.inr hb)⟩
 exact ⟨h.low, h.img, h.res, h.ob, h.nb, hrow.1, h.out, fun x hx => h.fr x (List.mem_cons_of_mem _ hx), hnd.1, fun b hb => ⟨fun e' => (h.cb b (hnd.2 b hb)).1 (hrow.2 b e'), (h.cb b (hnd.2 b hb)).2⟩, fun b hb => h.co b (hrow.2 b hb), h.n4, h.n64⟩
theorem Mo.push (h : Mo w X fv wv S cv ov g nx) (hb : Below X.heap.size X Y) {w3 : World} {cv' : Value} (hf : Fo Y X.heap.size e) (hne : e.fb ≠ e.sb) (hown : w3.ownsRow (w.heap.size + 4) 73 1 cv' (S.length + 1) (S.reverse.map enP ++ [enP e])) (hg : Y.grownBy w3 cv.ownBlock) (hl : cv'.ownBlock = cv.ownBlock ∨ cv'.ownBlock = some Y.heap.size) : Mo w w3 fv wv (e :: S) cv' ov g nx := by
 have hM := h.below hb
 have hz := h.size
 have hzb := hb.size
 have hz3 := hg.size
 have lo : ∀ b, b < w.heap.size + 4 → cv.ownBlock ≠ some b := fun b hb e => by have := h.row.lt b e; omega
 have oth : ∀ b, b < Y.heap.size → cv.ownBlock ≠ some b → w3.heap[b]? = Y.heap[b]? := fun b h1 h2 => hg.block b h1 (fun e => h2 e.symm)
 have hnew : ∀ b, X.heap.size ≤ b → cv.ownBlock ≠ some b ∧ ov.ownBlock ≠ some b ∧ b ∉ enB S := fun b hb1 => ⟨fun e' => by have := h.row.lt b e'; omega, fun e' => by have := h.out.lt b e'; omega, fun e' => by have := h.bl b e'; omega⟩
 have hcv' : ∀ b, b < Y.heap.size → cv.ownBlock ≠ some b → cv'.ownBlock ≠ some b := fun b h1 h2 => by
  rcases hl with hl | hl
  ·rw [hl]; exact h2
  ·rw [hl]; intro e'; injection e' with e'; omega
 have hfl := heap_lt hf.blk
 have hsl := heap_lt hf.sl
 have hff := hf.hf
 have hfs := hf.hs
 refine ⟨⟨hg.os.trans hM.low.os, hg.tape.trans hM.low.tape, hg.output.trans hM.low.output, by have := hM.low.size; omega, fun k hk => (oth k (by omega) (lo k (by omega))).trans (hM.low.block k hk)⟩, (oth _ (by omega) (lo _ (by omega))).trans hM.img, (oth _ (by omega) (lo _ (by omega))).trans hM.res, (oth _ (by omega) (lo _ (by omega))).trans hM.ob, (oth _ (by omega) (lo _ (by omega))).trans hM.nb, by simpa using hown, own_same hM.out (fun b hb => by have := hM.out.lt b hb; exact oth b this.2 (fun e' => h.co b e' hb)), fun x hx => ?_, ?_, fun b hb => ?_, fun b hb => ?_, h.n4, h.n64⟩
 ·rcases List.mem_cons.1 hx with rfl | hx
  ·have hk := hf.keep (oth _ hfl (hnew _ hff).1) (oth _ hsl (hnew _ hfs).1)
   exact ⟨by omega, by omega, hk.blk, hk.sl, hk.rl, hk.al, hk.nl, hk.zl, hk.pl, hk.sz, hk.r64, hk.a64, hk.n64, hk.s64⟩
  ·have h1 := hM.bl _ (mem_enB hx).1
   have h2 := hM.bl _ (mem_enB hx).2
   exact (hM.fr x hx).keep (oth _ h1.2 (h.cb _ (mem_enB hx).1).1) (oth _ h2.2 (h.cb _ (mem_enB hx).2).1)
 ·simp only [enB, List.flatMap_cons, List.cons_append, List.nil_append, List.nodup_cons, List.mem_cons, not_or]
  exact ⟨⟨hne, (hnew _ hff).2.2⟩, (hnew _ hfs).2.2, h.nd⟩
 ·simp only [enB, List.flatMap_cons, List.cons_append, List.nil_append, List.mem_cons] at hb
  rcases hb with rfl | rfl | hb
  ·exact ⟨hcv' _ hfl (hnew _ hff).1, (hnew _ hff).2.1⟩
  ·exact ⟨hcv' _ hsl (hnew _ hfs).1, (hnew _ hfs).2.1⟩
  ·have := hM.bl b hb
   exact ⟨hcv' b this.2 (h.cb b hb).1, (h.cb b hb).2⟩
 ·rcases hl with hl | hl
  ·rw [hl] at hb; exact h.co b hb
  ·rw [hl] at hb
   injection hb with hb
   intro e'
   have := h.out.lt b e'
   omega
structure Eo (w Y : World) (how : List UInt8) (v : Int) (ov : Value) (g : Gm) : Prop where
 low : Below w.heap.size w Y
 res : Y.heap[w.heap.size + 1]? = some (.cells #[.string ⟨how.toArray⟩, .int .i64 v, ov, .int .i64 (g.ticks : Int)] 40 (0, 0))
 out : Y.ownsRow w.heap.size 3 1 ov g.out.length (intsG g.out)
theorem Mo.fin (h : Mo w X fv wv S cv ov g nx) (hY : But (w.heap.size + 1 + 1) X Y) (how : List UInt8) (v : Int) :
  Eo w ((((Y.setCell ⟨w.heap.size + 1, 0, none⟩ (.string ⟨how.toArray⟩)).setCell ⟨w.heap.size + 1, 1, none⟩ (.int .i64 v)).setCell ⟨w.heap.size + 1, 2, none⟩ ov).setCell ⟨w.heap.size + 1, 3, none⟩ (.int .i64 (g.ticks : Int))) how v ov g := by
 have hz := h.size
 have hle : w.heap.size ≤ w.heap.size + 1 := by omega
 have hr : Y.heap[w.heap.size + 1]? = _ := (hY.block _ (by omega) (by omega)).trans h.res
 have hbY : Below w.heap.size w Y := ⟨hY.os.trans h.low.os, hY.tape.trans h.low.tape, hY.output.trans h.low.output, by have := hY.size; have := h.low.size; omega, fun k hk => (hY.block k (by omega) (by omega)).trans (h.low.block k hk)⟩
 refine ⟨(((hbY.setCell (by exact hle) _).setCell (by exact hle) _).setCell (by exact hle) _).setCell (by exact hle) _, ?_, ?_⟩
 ·have h1 := blk_setCell hr 0 (.string ⟨how.toArray⟩)
  have h2 := blk_setCell h1 1 (.int .i64 v)
  have h3 := blk_setCell h2 2 ov
  have h4 := blk_setCell h3 3 (.int .i64 (g.ticks : Int))
  simpa using h4
 ·refine own_base (B := w.heap.size + 4) (own_same h.out (fun b hb => ?_)) (by omega)
  have hb2 := h.out.lt b hb
  have hn : b ≠ w.heap.size + 1 := by omega
  rw [Below.heap_setCell _ _ _ _ hn, Below.heap_setCell _ _ _ _ hn, Below.heap_setCell _ _ _ _ hn, Below.heap_setCell _ _ _ _ hn]
  exact hY.block b hb2.2 (by omega)
end
end Go.Proofs.YtbcpomdcmilpjaaDoor
