/-
  Our own: the reference's parser: a statement.
-/
import Derived.Test.YtdleiajkihijhabGreatDoorRefArgs
import Derived.Test.YtdleiajkihijhabGreatDoorTreeStmt
import Derived.Test.YtdleiajkihijhabGreatDoorTreeSub
namespace Go.Proofs.YtdleiajkihijhabGreatDoor
open Go.RowKit

def RmTo (T : List Tok) (q d : Nat) (w : World) (r : Rs Sm) (e : Ending) (w' : World) : Prop :=
  ∃ k m ek en em ad1 l1 c1 ad2 l2 c2 ad3 l3 c3, e = .returned (smA k m ek en em (.slice ad1 l1 c1) (.slice ad2 l2 c2) (.slice ad3 l3 c3)) ∧
    (∀ x j, r = .ok x j → RepS (InB w.heap.size w') w' x [.string k, .string m, .string ek, .int .i64 en, .string em, .slice ad1 l1 c1, .slice ad2 l2 c2, .slice ad3 l3 c3]) ∧ RAt T q d r.st w' ∧ But q w w'
def RbTo (T : List Tok) (q d : Nat) (w : World) (r : Rs (List Sm)) (e : Ending) (w' : World) : Prop :=
  ∃ ad l c, e = .returned (.slice ad l c) ∧ (∀ x j, r = .ok x j → ∃ xs, Row (InB w.heap.size w') w' (.slice ad l c) x.length xs ∧ RepSs (InB w.heap.size w') w' x xs) ∧ RAt T q d r.st w' ∧ But q w w'
def RBOk (T : List Tok) (q n : Nat) : Prop := ∀ d s w, RAt T q d s w → s.via (blockT T n d) ≠ .out → Calls Tryz.prog 22 #[ptrV q] w (RbTo T q d w (s.via (blockT T n d)))
def RTOk (T : List Tok) (q n : Nat) : Prop := ∀ d s w, RAt T q d s w → s.via (stmtT T n d) ≠ .out → Calls Tryz.prog 37 #[ptrV q] w (RmTo T q d w (s.via (stmtT T n d)))
theorem RbTo.rep {T : List Tok} {q d rb : Nat} {w : World} {r : Rs (List Sm)} {e : Ending} {w' : World} (h : RbTo T q d w r e w') (hr : rb < w.heap.size) :
    ∃ ad l c, e = .returned (.slice ad l c) ∧ (∀ x j, r = .ok x j → ∃ xs, Row (InB (rb + 1) w') w' (.slice ad l c) x.length xs ∧ RepSs (InB (rb + 1) w') w' x xs) ∧ RAt T q d r.st w' ∧ But q w w' := by
  obtain ⟨ad, l, c, h1, h2, h3, h4⟩ := h
  refine ⟨ad, l, c, h1, fun x j hx => ?_, h3, h4⟩
  obtain ⟨xs, g1, g2⟩ := h2 x j hx
  exact ⟨xs, g1.imp (fun b hb => ⟨by have := hb.1; omega, hb.2⟩) (fun _ _ => rfl), RepSs.imp (fun b hb => ⟨by have := hb.1; omega, hb.2⟩) (fun _ _ => rfl) _ _ g2⟩
theorem rat_put8 {T : List Tok} {q d r : Nat} {s : Rs Unit} {w : World} (h : RAt T q d s w) (hr : q < r) (o : Nat) (u0 u1 u2 u3 u4 u5 u6 u7 : Value) : RAt T q d s (put8 w r o u0 u1 u2 u3 u4 u5 u6 u7) :=
  (((((((h.setCell hr _ _).setCell hr _ _).setCell hr _ _).setCell hr _ _).setCell hr _ _).setCell hr _ _).setCell hr _ _).setCell hr _ _
/-- The end of the reference's reader of a statement: its result is laid into block r. -/
theorem ret_rm {T : List Tok} {q d : Nat} {w w1 : World} {res : Rs Sm} {fn : Func} {tmps : Array Value} {r sl : Nat} {x0 x1 x2 x3 x4 x5 x6 x7 : Value} {k m ek : ByteArray} {en : Int} {em : ByteArray} {ad1 : Option Addr} {l1 c1 : Nat} {ad2 : Option Addr} {l2 c2 : Nat} {ad3 : Option Addr} {l3 c3 : Nat}
    (hres : fn.results = #[ResultVar.cell sl 91]) (hsl : tmps[sl]? = some (ptrV r)) (hr : q < r) (hs : w.heap.size ≤ r)
    (hx : w1.heap[r]? = some (.cells #[x0, x1, x2, x3, x4, x5, x6, x7] 91 (0, 0))) (hp : RAt T q d res.st w1) (hb : But q w w1)
    (hrep : ∀ x j, res = .ok x j → RepS (InB (r + 1) w1) w1 x [.string k, .string m, .string ek, .int .i64 en, .string em, .slice ad1 l1 c1, .slice ad2 l2 c2, .slice ad3 l3 c3]) :
    bodyPost Tryz.prog fn (RmTo T q d w res) Exit.ret { tmps := tmps, defers := [] } (put8 w1 r 0 (.string k) (.string m) (.string ek) (.int .i64 en) (.string em) (.slice ad1 l1 c1) (.slice ad2 l2 c2) (.slice ad3 l3 c3)) := by
  have h8 := set8_blk hx (.string k) (.string m) (.string ek) (.int .i64 en) (.string em) (.slice ad1 l1 c1) (.slice ad2 l2 c2) (.slice ad3 l3 c3)
  have hp8 := rat_put8 hp hr 0 (.string k) (.string m) (.string ek) (.int .i64 en) (.string em) (.slice ad1 l1 c1) (.slice ad2 l2 c2) (.slice ad3 l3 c3)
  have hb8 := but_put8 hb hs 0 (.string k) (.string m) (.string ek) (.int .i64 en) (.string em) (.slice ad1 l1 c1) (.slice ad2 l2 c2) (.slice ad3 l3 c3)
  have hk8 : ∀ b, b ≠ r → (put8 w1 r 0 (.string k) (.string m) (.string ek) (.int .i64 en) (.string em) (.slice ad1 l1 c1) (.slice ad2 l2 c2) (.slice ad3 l3 c3)).heap[b]? = w1.heap[b]? := fun b hb => heap_put8 hb
  have hz8 : (put8 w1 r 0 (.string k) (.string m) (.string ek) (.int .i64 en) (.string em) (.slice ad1 l1 c1) (.slice ad2 l2 c2) (.slice ad3 l3 c3)).heap.size = w1.heap.size := size_put8
  generalize put8 w1 r 0 (.string k) (.string m) (.string ek) (.int .i64 en) (.string em) (.slice ad1 l1 c1) (.slice ad2 l2 c2) (.slice ad3 l3 c3) = W at h8 hp8 hb8 hk8 hz8 ⊢
  have s0 := cell_of_blk h8 0
  have s1 := cell_of_blk h8 1
  have s2 := cell_of_blk h8 2
  have s3 := cell_of_blk h8 3
  have s4 := cell_of_blk h8 4
  have s5 := cell_of_blk h8 5
  have s6 := cell_of_blk h8 6
  have s7 := cell_of_blk h8 7
  refine bodyPost_ret (v := smA k m ek en em (.slice ad1 l1 c1) (.slice ad2 l2 c2) (.slice ad3 l3 c3)) ?_ rfl ⟨_, _, _, _, _, _, _, _, _, _, _, _, _, _, rfl, fun x j hj => ?_, hp8, hb8⟩
  · simp [results, hres, hsl, go_sem, s0, s1, s2, s3, s4, s5, s6, s7]
  · exact RepS.imp (fun b hb => ⟨by have := hb.1; omega, by have := hb.2; omega⟩) (fun b hb => hk8 b (by have := hb.1; omega)) _ _ (hrep x j hj)
set_option maxHeartbeats 1000000 in
set_option maxRecDepth 100000 in
theorem rstmt_set {T : List Tok} {q n d : Nat} {s : Rs Unit} {w : World} (HT : ∀ t ∈ T, t.Good) (hE : REOk T q n) (h : RAt T q d s w) (t0 : seesB T kWord kVar s = false) (t1 : seesB T kWord kIf s = false) (t2 : seesB T kWord kWhile s = false) (t3 : seesB T kWord kReturn s = false) (t4 : seesB T kWord kPrint s = false) {r : Rs Sm} (hr : r = s.via (giveT T n d kSet)) (hout : r ≠ .out) :
    Calls Tryz.prog 37 #[ptrV q] w (RmTo T q d w r) := by
  obtain ⟨r2, g1, g2, g3, g4⟩ := give_parts (T := T) (n := n) (d := d) (kind := kSet) s
  rw [← hr] at g2 g3 g4
  have HO := hidR (g3 hout)
  have G1 := hidR g1
  have G2 := hidR g2
  have G4 := hidR g4
  clear g1 g2 g3 g4 hr hout
  obtain ⟨yy, hy⟩ : ∃ yy, nextR T kWord s = yy := ⟨_, rfl⟩
  have m0 := nextR_sees (T := T) (k := kWord) (x := kVar) (s := s) (by decide)
  have m1 := nextR_sees (T := T) (k := kWord) (x := kIf) (s := s) (by decide)
  have m2 := nextR_sees (T := T) (k := kWord) (x := kWhile) (s := s) (by decide)
  have m3 := nextR_sees (T := T) (k := kWord) (x := kReturn) (s := s) (by decide)
  have m4 := nextR_sees (T := T) (k := kWord) (x := kPrint) (s := s) (by decide)
  rw [hy, t0] at m0
  rw [hy, t1] at m1
  rw [hy, t2] at m2
  rw [hy, t3] at m3
  rw [hy, t4] at m4
  unfold kVar at m0
  unfold kIf at m1
  unfold kWhile at m2
  unfold kReturn at m3
  unfold kPrint at m4
  have N1 := hidR hy
  clear t0 t1 t2 t3 t4 hy
  have hlt := h.lt
  go_enter Tryz.func37, Tryz.ntmps37
  go_wp2_with fail
  have hb0 : Below w.heap.size w (w.alloc (.cells #[.string ⟨#[]⟩, .string ⟨#[]⟩, .string ⟨#[]⟩, .int .i64 0, .string ⟨#[]⟩, .slice none 0 0, .slice none 0 0, .slice none 0 0] 91)) := by (repeat (first | exact Below.refl _ _ | assumption | refine Below.drew ?_ | refine Below.trans ?_ (drewN_below' _ _ _) | refine Below.setCell ?_ (by first | (simp; done) | (simp; omega)) _ | refine Below.alloc ?_ (by first | (simp; done) | (simp; omega)) _))
  have hr0 := heap_alloc_new w (.cells #[.string ⟨#[]⟩, .string ⟨#[]⟩, .string ⟨#[]⟩, .int .i64 0, .string ⟨#[]⟩, .slice none 0 0, .slice none 0 0, .slice none 0 0] 91)
  have hz0 := size_alloc w (.cells #[.string ⟨#[]⟩, .string ⟨#[]⟩, .string ⟨#[]⟩, .int .i64 0, .string ⟨#[]⟩, .slice none 0 0, .slice none 0 0, .slice none 0 0] 91)
  generalize w.alloc (.cells #[.string ⟨#[]⟩, .string ⟨#[]⟩, .string ⟨#[]⟩, .int .i64 0, .string ⟨#[]⟩, .slice none 0 0, .slice none 0 0, .slice none 0 0] 91) = w0 at hb0 hr0 hz0 ⊢
  refine (rnext_any (h.keep hb0) kWord word_ne).mono ?_
  rw [N1.out]
  rintro e w1 ⟨rfl, hb1⟩
  have hz1 := hb1.size
  have hr1 := (hb1.block _ (by omega)).trans hr0
  have b1 : Below w.heap.size w w1 := bl_trans hb0 hb0.size hb1
  have b1' : But q w w1 := But.of b1
  have hp1 := h.keep b1
  clear hr0 hb0 hb1
  have HR3 := hidR hr1
  have HP3 := hidR hp1
  have b3 : But q w w1 := b1'
  clear hr1 hp1
  go_wp2_with fail
  refine (rname_any HT HP3.out).mono ?_
  rintro e w4 ⟨x, rfl, hx4, hp4, hb4⟩
  have hz4 := hb4.size
  have hr4 := heap_keep hb4 HR3.out (by omega)
  have HX4 := hidR hx4
  have HP4 := hidR hp4
  have HR4 := hidR hr4
  clear hx4 hp4 hr4
  go_wp2_with fail
  refine (rmust_any HT HP4.out kSign [61] rfl (Or.inl rfl) (by simp)).mono ?_
  rw [G1.out]
  rintro e w5 ⟨rfl, hp5, hb5⟩
  have hz5 := hb5.size
  have hr5 := heap_keep hb5 HR4.out (by omega)
  have HP5 := hidR hp5
  have HR5 := hidR hr5
  clear hp5 hr5
  go_wp2_with fail
  have he6 : r2.st.via (endT T n d) = (r2.st.via (exprT T n d 1)).bind fun e j => (needT T kSign [59] j).bind fun _ j => .ok e j := via_bind _ _ _
  have ho6 : r2.st.via (exprT T n d 1) ≠ .out := fun e => HO.out (by rw [he6, e]; rfl)
  refine (hE d 1 _ w5 (by omega) (by omega) HP5.out ho6).mono ?_
  rintro e w6 hx6
  obtain ⟨k, m, y, ad, c1, c2, rfl, k1, k2, k3⟩ := hx6.rep (rb := w.heap.size) (by omega)
  have hz6 := k3.size
  have hr6 := heap_keep k3 HR5.out (by omega)
  have K1 := hidR k1
  have K2 := hidR k2
  have HR6 := hidR hr6
  have HE6 := hidR he6
  clear k1 k2 hr6 hx6 he6 ho6
  go_wp2_with fail
  have hb7 : Below w6.heap.size w6 (w6.alloc (.cells #[.string k, .int .i64 m, .string y, .slice ad c1 c2] 89)) := by (repeat (first | exact Below.refl _ _ | assumption | refine Below.drew ?_ | refine Below.trans ?_ (drewN_below' _ _ _) | refine Below.setCell ?_ (by first | (simp; done) | (simp; omega)) _ | refine Below.alloc ?_ (by first | (simp; done) | (simp; omega)) _))
  have he7 := heap_alloc_new w6 (.cells #[.string k, .int .i64 m, .string y, .slice ad c1 c2] 89)
  have hz7 := size_alloc w6 (.cells #[.string k, .int .i64 m, .string y, .slice ad c1 c2] 89)
  generalize w6.alloc (.cells #[.string k, .int .i64 m, .string y, .slice ad c1 c2] 89) = w7 at hb7 he7 hz7 ⊢
  refine (rmust_any HT (K2.out.keep hb7) kSign [59] rfl (Or.inl rfl) (by simp)).mono ?_
  rw [need_st, ← HE6.out]
  rintro e w8 ⟨rfl, hp8, hb8⟩
  have hz8 := hb8.size
  have b8 : But q w6 w8 := (But.of hb7).trans hb8
  have hr8 := heap_keep b8 HR6.out (by omega)
  have he8 := heap_keep hb8 he7 (by omega)
  have n2 := heap_lt hr8
  have n3 := heap_lt he8
  have e50 : w8.cell? ⟨w6.heap.size, 0, none⟩ = some (.string k) := cell_of_blk he8 0
  have e51 : w8.cell? ⟨w6.heap.size, 1, none⟩ = some (.int .i64 m) := cell_of_blk he8 1
  have e52 : w8.cell? ⟨w6.heap.size, 2, none⟩ = some (.string y) := cell_of_blk he8 2
  have e53 : w8.cell? ⟨w6.heap.size, 3, none⟩ = some (.slice ad c1 c2) := cell_of_blk he8 3
  have r50 := cell_of_blk hr8 0
  have q50 := free_of_blk hr8 0
  have r51 := cell_of_blk hr8 1
  have q51 := free_of_blk hr8 1
  have r52 := cell_of_blk hr8 2
  have q52 := free_of_blk hr8 2
  have r53 := cell_of_blk hr8 3
  have q53 := free_of_blk hr8 3
  have r54 := cell_of_blk hr8 4
  have q54 := free_of_blk hr8 4
  have r55 := cell_of_blk hr8 5
  have q55 := free_of_blk hr8 5
  have r56 := cell_of_blk hr8 6
  have q56 := free_of_blk hr8 6
  have r57 := cell_of_blk hr8 7
  have q57 := free_of_blk hr8 7
  have HR8 := hidR hr8
  have HP8 := hidR hp8
  clear hr8 he8 hp8 he7 hb7 hb8
  go_wp2
  refine ret_rm Tryz.results37 rfl (by omega) (Nat.le_refl _) HR8.out (by rw [G2.out]; exact HP8.out) (((b3.trans hb4).trans hb5).trans (k3.trans b8)) (fun z j hz => ?_)
  obtain ⟨x', e, j1, q1, q2, rfl⟩ := G4.out z j hz
  obtain ⟨rfl, _⟩ := HX4.out x' j1 q1
  rw [HE6.out] at q2
  obtain ⟨j', q3⟩ := need_val q2
  have hk : Kept (w.heap.size + 1) w6 w8 := b8.kept (by omega)
  exact rep_flat (RepE.imp (hk.inB (Nat.le_refl _)) hk.keepA _ _ (K1.out e j' q3))
set_option maxHeartbeats 1000000 in
set_option maxRecDepth 100000 in
theorem rstmt_var {T : List Tok} {q n d i : Nat} {w : World} (HT : ∀ t ∈ T, t.Good) (hE : REOk T q n) (h : RAt T q d (.ok () i) w) (hk : isT T kWord kVar i) {r : Rs Sm} (hr : r = Rs.via (.ok () (i + 1)) (giveT T n d kVar)) (hout : r ≠ .out) :
    Calls Tryz.prog 37 #[ptrV q] w (RmTo T q d w r) := by
  obtain ⟨r2, g1, g2, g3, g4⟩ := give_parts (T := T) (n := n) (d := d) (kind := kVar) (.ok () (i + 1))
  rw [← hr] at g2 g3 g4
  have HO := hidR (g3 hout)
  have G1 := hidR g1
  have G2 := hidR g2
  have G4 := hidR g4
  clear g1 g2 g3 g4 hr hout
  have hi : i < T.length := isT_lt hk word_ne
  have n1 : nextR T kWord (.ok () i) = kVar := (if_pos hk.1).trans hk.2
  have N1 := hidR n1
  have HI := hidR hi
  have hi2 : (i : Int) ≤ 1000 := by have := h.few; omega
  clear hk n1 hi
  have hlt := h.lt
  go_enter Tryz.func37, Tryz.ntmps37
  go_wp2_with fail
  have hb0 : Below w.heap.size w (w.alloc (.cells #[.string ⟨#[]⟩, .string ⟨#[]⟩, .string ⟨#[]⟩, .int .i64 0, .string ⟨#[]⟩, .slice none 0 0, .slice none 0 0, .slice none 0 0] 91)) := by (repeat (first | exact Below.refl _ _ | assumption | refine Below.drew ?_ | refine Below.trans ?_ (drewN_below' _ _ _) | refine Below.setCell ?_ (by first | (simp; done) | (simp; omega)) _ | refine Below.alloc ?_ (by first | (simp; done) | (simp; omega)) _))
  have hr0 := heap_alloc_new w (.cells #[.string ⟨#[]⟩, .string ⟨#[]⟩, .string ⟨#[]⟩, .int .i64 0, .string ⟨#[]⟩, .slice none 0 0, .slice none 0 0, .slice none 0 0] 91)
  have hz0 := size_alloc w (.cells #[.string ⟨#[]⟩, .string ⟨#[]⟩, .string ⟨#[]⟩, .int .i64 0, .string ⟨#[]⟩, .slice none 0 0, .slice none 0 0, .slice none 0 0] 91)
  generalize w.alloc (.cells #[.string ⟨#[]⟩, .string ⟨#[]⟩, .string ⟨#[]⟩, .int .i64 0, .string ⟨#[]⟩, .slice none 0 0, .slice none 0 0, .slice none 0 0] 91) = w0 at hb0 hr0 hz0 ⊢
  refine (rnext_any (h.keep hb0) kWord word_ne).mono ?_
  rw [N1.out]
  rintro e w1 ⟨rfl, hb1⟩
  have hz1 := hb1.size
  have hr1 := (hb1.block _ (by omega)).trans hr0
  have b1 : Below w.heap.size w w1 := bl_trans hb0 hb0.size hb1
  have b1' : But q w w1 := But.of b1
  have hp1 := h.keep b1
  clear hr0 hb0 hb1
  unfold kVar
  obtain ⟨tv, hx1, _⟩ := hp1.at
  have c1 : w1.cell? ⟨q, 1, none⟩ = some (.int .i64 i) := cell_of_blk hx1 1
  have f1 := free_of_blk hx1 1
  have hlt1 := heap_lt hx1
  have HR1 := hidR hr1
  have HP1 := hidR hp1
  clear hr1 hp1 hx1
  go_wp2_with fail
  have hp3 := HP1.out.step HI.out
  have b3 : But q w (w1.setCell ⟨q, 1, none⟩ (.int .i64 ((i : Int) + 1))) := b1'.set 1 _
  have hr3 := (heap_far (w := w1) (r := q) (i := 1) (u := .int .i64 ((i : Int) + 1)) (by omega : w.heap.size ≠ q)).trans HR1.out
  have hz3 : (w1.setCell ⟨q, 1, none⟩ (.int .i64 ((i : Int) + 1))).heap.size = w1.heap.size := by simp [World.setCell]
  generalize w1.setCell ⟨q, 1, none⟩ (.int .i64 ((i : Int) + 1)) = w3 at hp3 b3 hr3 hz3 ⊢
  have HR3 := hidR hr3
  have HP3 := hidR hp3
  clear hr3 hp3
  refine (rname_any HT HP3.out).mono ?_
  rintro e w4 ⟨x, rfl, hx4, hp4, hb4⟩
  have hz4 := hb4.size
  have hr4 := heap_keep hb4 HR3.out (by omega)
  have HX4 := hidR hx4
  have HP4 := hidR hp4
  have HR4 := hidR hr4
  clear hx4 hp4 hr4
  go_wp2_with fail
  refine (rmust_any HT HP4.out kSign [61] rfl (Or.inl rfl) (by simp)).mono ?_
  rw [G1.out]
  rintro e w5 ⟨rfl, hp5, hb5⟩
  have hz5 := hb5.size
  have hr5 := heap_keep hb5 HR4.out (by omega)
  have HP5 := hidR hp5
  have HR5 := hidR hr5
  clear hp5 hr5
  go_wp2_with fail
  have he6 : r2.st.via (endT T n d) = (r2.st.via (exprT T n d 1)).bind fun e j => (needT T kSign [59] j).bind fun _ j => .ok e j := via_bind _ _ _
  have ho6 : r2.st.via (exprT T n d 1) ≠ .out := fun e => HO.out (by rw [he6, e]; rfl)
  refine (hE d 1 _ w5 (by omega) (by omega) HP5.out ho6).mono ?_
  rintro e w6 hx6
  obtain ⟨k, m, y, ad, c1, c2, rfl, k1, k2, k3⟩ := hx6.rep (rb := w.heap.size) (by omega)
  have hz6 := k3.size
  have hr6 := heap_keep k3 HR5.out (by omega)
  have K1 := hidR k1
  have K2 := hidR k2
  have HR6 := hidR hr6
  have HE6 := hidR he6
  clear k1 k2 hr6 hx6 he6 ho6
  go_wp2_with fail
  have hb7 : Below w6.heap.size w6 (w6.alloc (.cells #[.string k, .int .i64 m, .string y, .slice ad c1 c2] 89)) := by (repeat (first | exact Below.refl _ _ | assumption | refine Below.drew ?_ | refine Below.trans ?_ (drewN_below' _ _ _) | refine Below.setCell ?_ (by first | (simp; done) | (simp; omega)) _ | refine Below.alloc ?_ (by first | (simp; done) | (simp; omega)) _))
  have he7 := heap_alloc_new w6 (.cells #[.string k, .int .i64 m, .string y, .slice ad c1 c2] 89)
  have hz7 := size_alloc w6 (.cells #[.string k, .int .i64 m, .string y, .slice ad c1 c2] 89)
  generalize w6.alloc (.cells #[.string k, .int .i64 m, .string y, .slice ad c1 c2] 89) = w7 at hb7 he7 hz7 ⊢
  refine (rmust_any HT (K2.out.keep hb7) kSign [59] rfl (Or.inl rfl) (by simp)).mono ?_
  rw [need_st, ← HE6.out]
  rintro e w8 ⟨rfl, hp8, hb8⟩
  have hz8 := hb8.size
  have b8 : But q w6 w8 := (But.of hb7).trans hb8
  have hr8 := heap_keep b8 HR6.out (by omega)
  have he8 := heap_keep hb8 he7 (by omega)
  have n2 := heap_lt hr8
  have n3 := heap_lt he8
  have e50 : w8.cell? ⟨w6.heap.size, 0, none⟩ = some (.string k) := cell_of_blk he8 0
  have e51 : w8.cell? ⟨w6.heap.size, 1, none⟩ = some (.int .i64 m) := cell_of_blk he8 1
  have e52 : w8.cell? ⟨w6.heap.size, 2, none⟩ = some (.string y) := cell_of_blk he8 2
  have e53 : w8.cell? ⟨w6.heap.size, 3, none⟩ = some (.slice ad c1 c2) := cell_of_blk he8 3
  have r50 := cell_of_blk hr8 0
  have q50 := free_of_blk hr8 0
  have r51 := cell_of_blk hr8 1
  have q51 := free_of_blk hr8 1
  have r52 := cell_of_blk hr8 2
  have q52 := free_of_blk hr8 2
  have r53 := cell_of_blk hr8 3
  have q53 := free_of_blk hr8 3
  have r54 := cell_of_blk hr8 4
  have q54 := free_of_blk hr8 4
  have r55 := cell_of_blk hr8 5
  have q55 := free_of_blk hr8 5
  have r56 := cell_of_blk hr8 6
  have q56 := free_of_blk hr8 6
  have r57 := cell_of_blk hr8 7
  have q57 := free_of_blk hr8 7
  have HR8 := hidR hr8
  have HP8 := hidR hp8
  clear hr8 he8 hp8 he7 hb7 hb8
  go_wp2
  refine ret_rm Tryz.results37 rfl (by omega) (Nat.le_refl _) HR8.out (by rw [G2.out]; exact HP8.out) (((b3.trans hb4).trans hb5).trans (k3.trans b8)) (fun z j hz => ?_)
  obtain ⟨x', e, j1, q1, q2, rfl⟩ := G4.out z j hz
  obtain ⟨rfl, _⟩ := HX4.out x' j1 q1
  rw [HE6.out] at q2
  obtain ⟨j', q3⟩ := need_val q2
  have hk : Kept (w.heap.size + 1) w6 w8 := b8.kept (by omega)
  exact rep_flat (RepE.imp (hk.inB (Nat.le_refl _)) hk.keepA _ _ (K1.out e j' q3))
set_option maxHeartbeats 1000000 in
set_option maxRecDepth 100000 in
theorem rstmt_ret {T : List Tok} {q n d i : Nat} {w : World} (HT : ∀ t ∈ T, t.Good) (hE : REOk T q n) (h : RAt T q d (.ok () i) w) (hk : isT T kWord kReturn i) {r : Rs Sm} (hr : r = (exprT T n d 1 (i + 1)).bind fun e j => (needT T kSign [59] j).bind fun _ j => .ok (.mk kReturn [] e [] []) j) (hout : r ≠ .out) :
    Calls Tryz.prog 37 #[ptrV q] w (RmTo T q d w r) := by
  have O1 := hidR (show Rs.via (.ok () (i + 1)) (exprT T n d 1) ≠ .out from fun e => hout (by rw [hr, show exprT T n d 1 (i + 1) = .out from e]; rfl))
  have HRR := hidR hr
  clear hr hout
  have hi : i < T.length := isT_lt hk word_ne
  have n1 : nextR T kWord (.ok () i) = kReturn := (if_pos hk.1).trans hk.2
  have N1 := hidR n1
  have HI := hidR hi
  have hi2 : (i : Int) ≤ 1000 := by have := h.few; omega
  clear hk n1 hi
  have hlt := h.lt
  go_enter Tryz.func37, Tryz.ntmps37
  go_wp2_with fail
  have hb0 : Below w.heap.size w (w.alloc (.cells #[.string ⟨#[]⟩, .string ⟨#[]⟩, .string ⟨#[]⟩, .int .i64 0, .string ⟨#[]⟩, .slice none 0 0, .slice none 0 0, .slice none 0 0] 91)) := by (repeat (first | exact Below.refl _ _ | assumption | refine Below.drew ?_ | refine Below.trans ?_ (drewN_below' _ _ _) | refine Below.setCell ?_ (by first | (simp; done) | (simp; omega)) _ | refine Below.alloc ?_ (by first | (simp; done) | (simp; omega)) _))
  have hr0 := heap_alloc_new w (.cells #[.string ⟨#[]⟩, .string ⟨#[]⟩, .string ⟨#[]⟩, .int .i64 0, .string ⟨#[]⟩, .slice none 0 0, .slice none 0 0, .slice none 0 0] 91)
  have hz0 := size_alloc w (.cells #[.string ⟨#[]⟩, .string ⟨#[]⟩, .string ⟨#[]⟩, .int .i64 0, .string ⟨#[]⟩, .slice none 0 0, .slice none 0 0, .slice none 0 0] 91)
  generalize w.alloc (.cells #[.string ⟨#[]⟩, .string ⟨#[]⟩, .string ⟨#[]⟩, .int .i64 0, .string ⟨#[]⟩, .slice none 0 0, .slice none 0 0, .slice none 0 0] 91) = w0 at hb0 hr0 hz0 ⊢
  refine (rnext_any (h.keep hb0) kWord word_ne).mono ?_
  rw [N1.out]
  rintro e w1 ⟨rfl, hb1⟩
  have hz1 := hb1.size
  have hr1 := (hb1.block _ (by omega)).trans hr0
  have b1 : Below w.heap.size w w1 := bl_trans hb0 hb0.size hb1
  have b1' : But q w w1 := But.of b1
  have hp1 := h.keep b1
  clear hr0 hb0 hb1
  unfold kReturn
  obtain ⟨tv, hx1, _⟩ := hp1.at
  have c1 : w1.cell? ⟨q, 1, none⟩ = some (.int .i64 i) := cell_of_blk hx1 1
  have f1 := free_of_blk hx1 1
  have hlt1 := heap_lt hx1
  have HR1 := hidR hr1
  have HP1 := hidR hp1
  clear hr1 hp1 hx1
  go_wp2_with fail
  have hp3 := HP1.out.step HI.out
  have b3 : But q w (w1.setCell ⟨q, 1, none⟩ (.int .i64 ((i : Int) + 1))) := b1'.set 1 _
  have hr3 := (heap_far (w := w1) (r := q) (i := 1) (u := .int .i64 ((i : Int) + 1)) (by omega : w.heap.size ≠ q)).trans HR1.out
  have hz3 : (w1.setCell ⟨q, 1, none⟩ (.int .i64 ((i : Int) + 1))).heap.size = w1.heap.size := by simp [World.setCell]
  generalize w1.setCell ⟨q, 1, none⟩ (.int .i64 ((i : Int) + 1)) = w3 at hp3 b3 hr3 hz3 ⊢
  have HR3 := hidR hr3
  have HP3 := hidR hp3
  clear hr3 hp3
  refine (hE d 1 (.ok () (i + 1)) w3 (by omega) (by omega) HP3.out O1.out).mono ?_
  rintro e w4 hx4
  obtain ⟨k, m, y, ad, c1, c2, rfl, k1, k2, k3⟩ := hx4.rep (rb := w.heap.size) (by omega)
  have hz4 := k3.size
  have hr4 := heap_keep k3 HR3.out (by omega)
  have K1 := hidR k1
  have K2 := hidR k2
  have HR4 := hidR hr4
  clear k1 k2 hr4 hx4
  go_wp2_with fail
  have hb5 : Below w4.heap.size w4 (w4.alloc (.cells #[.string ⟨#[114, 101, 116, 117, 114, 110]⟩, .string ⟨#[]⟩, .string k, .int .i64 m, .string y, .slice ad c1 c2, .slice none 0 0, .slice none 0 0] 91)) := by (repeat (first | exact Below.refl _ _ | assumption | refine Below.drew ?_ | refine Below.trans ?_ (drewN_below' _ _ _) | refine Below.setCell ?_ (by first | (simp; done) | (simp; omega)) _ | refine Below.alloc ?_ (by first | (simp; done) | (simp; omega)) _))
  have he5 := heap_alloc_new w4 (.cells #[.string ⟨#[114, 101, 116, 117, 114, 110]⟩, .string ⟨#[]⟩, .string k, .int .i64 m, .string y, .slice ad c1 c2, .slice none 0 0, .slice none 0 0] 91)
  have hz5 := size_alloc w4 (.cells #[.string ⟨#[114, 101, 116, 117, 114, 110]⟩, .string ⟨#[]⟩, .string k, .int .i64 m, .string y, .slice ad c1 c2, .slice none 0 0, .slice none 0 0] 91)
  generalize w4.alloc (.cells #[.string ⟨#[114, 101, 116, 117, 114, 110]⟩, .string ⟨#[]⟩, .string k, .int .i64 m, .string y, .slice ad c1 c2, .slice none 0 0, .slice none 0 0] 91) = w5 at hb5 he5 hz5 ⊢
  refine (rmust_any HT (K2.out.keep hb5) kSign [59] rfl (Or.inl rfl) (by simp)).mono ?_
  rw [Rs.via_ok, need_st]
  rintro e w6 ⟨rfl, hp6, hb6⟩
  have hz6 := hb6.size
  have b6 : But q w4 w6 := (But.of hb5).trans hb6
  have hr6 := heap_keep b6 HR4.out (by omega)
  have he6 := heap_keep hb6 he5 (by omega)
  have n2 := heap_lt hr6
  have n3 := heap_lt he6
  have e50 := cell_of_blk he6 0
  have e51 := cell_of_blk he6 1
  have e52 := cell_of_blk he6 2
  have e53 := cell_of_blk he6 3
  have e54 := cell_of_blk he6 4
  have e55 := cell_of_blk he6 5
  have e56 := cell_of_blk he6 6
  have e57 := cell_of_blk he6 7
  have r50 := cell_of_blk hr6 0
  have q50 := free_of_blk hr6 0
  have r51 := cell_of_blk hr6 1
  have q51 := free_of_blk hr6 1
  have r52 := cell_of_blk hr6 2
  have q52 := free_of_blk hr6 2
  have r53 := cell_of_blk hr6 3
  have q53 := free_of_blk hr6 3
  have r54 := cell_of_blk hr6 4
  have q54 := free_of_blk hr6 4
  have r55 := cell_of_blk hr6 5
  have q55 := free_of_blk hr6 5
  have r56 := cell_of_blk hr6 6
  have q56 := free_of_blk hr6 6
  have r57 := cell_of_blk hr6 7
  have q57 := free_of_blk hr6 7
  have HR6 := hidR hr6
  have HP6 := hidR hp6
  clear hr6 he6 hp6 he5 hb5 hb6
  go_wp2
  refine ret_rm Tryz.results37 rfl (by omega) (Nat.le_refl _) HR6.out ?_ ((b3.trans k3).trans b6) (fun z j hz => ?_)
  · have q0 := HP6.out
    rw [HRR.out]
    cases hz : exprT T n d 1 (i + 1) with
    | out => rw [hz] at q0; exact q0
    | bad c k => rw [hz] at q0; exact q0
    | ok e j =>
      rw [hz] at q0
      simp only [Rs.bind_ok] at q0 ⊢
      cases hn : needT T kSign [59] j with
      | out => rw [hn] at q0; exact q0
      | bad c k => rw [hn] at q0; exact q0
      | ok u j2 => rw [hn] at q0; exact q0
  · rw [HRR.out] at hz
    obtain ⟨e, j1, q1, q2⟩ := Rs.bind_eq_ok hz
    obtain ⟨u, j2, _, q4⟩ := Rs.bind_eq_ok q2
    cases q4
    have hk : Kept (w.heap.size + 1) w4 w6 := b6.kept (by omega)
    exact rep_flat (kind := kReturn) (x := []) (RepE.imp (hk.inB (Nat.le_refl _)) hk.keepA _ _ (K1.out e j1 q1))
set_option maxHeartbeats 1000000 in
set_option maxRecDepth 100000 in
theorem rstmt_print {T : List Tok} {q n d i : Nat} {w : World} (HT : ∀ t ∈ T, t.Good) (hE : REOk T q n) (h : RAt T q d (.ok () i) w) (hk : isT T kWord kPrint i) {r : Rs Sm} (hr : r = (exprT T n d 1 (i + 1)).bind fun e j => (needT T kSign [59] j).bind fun _ j => .ok (.mk kPrint [] e [] []) j) (hout : r ≠ .out) :
    Calls Tryz.prog 37 #[ptrV q] w (RmTo T q d w r) := by
  have O1 := hidR (show Rs.via (.ok () (i + 1)) (exprT T n d 1) ≠ .out from fun e => hout (by rw [hr, show exprT T n d 1 (i + 1) = .out from e]; rfl))
  have HRR := hidR hr
  clear hr hout
  have hi : i < T.length := isT_lt hk word_ne
  have n1 : nextR T kWord (.ok () i) = kPrint := (if_pos hk.1).trans hk.2
  have N1 := hidR n1
  have HI := hidR hi
  have hi2 : (i : Int) ≤ 1000 := by have := h.few; omega
  clear hk n1 hi
  have hlt := h.lt
  go_enter Tryz.func37, Tryz.ntmps37
  go_wp2_with fail
  have hb0 : Below w.heap.size w (w.alloc (.cells #[.string ⟨#[]⟩, .string ⟨#[]⟩, .string ⟨#[]⟩, .int .i64 0, .string ⟨#[]⟩, .slice none 0 0, .slice none 0 0, .slice none 0 0] 91)) := by (repeat (first | exact Below.refl _ _ | assumption | refine Below.drew ?_ | refine Below.trans ?_ (drewN_below' _ _ _) | refine Below.setCell ?_ (by first | (simp; done) | (simp; omega)) _ | refine Below.alloc ?_ (by first | (simp; done) | (simp; omega)) _))
  have hr0 := heap_alloc_new w (.cells #[.string ⟨#[]⟩, .string ⟨#[]⟩, .string ⟨#[]⟩, .int .i64 0, .string ⟨#[]⟩, .slice none 0 0, .slice none 0 0, .slice none 0 0] 91)
  have hz0 := size_alloc w (.cells #[.string ⟨#[]⟩, .string ⟨#[]⟩, .string ⟨#[]⟩, .int .i64 0, .string ⟨#[]⟩, .slice none 0 0, .slice none 0 0, .slice none 0 0] 91)
  generalize w.alloc (.cells #[.string ⟨#[]⟩, .string ⟨#[]⟩, .string ⟨#[]⟩, .int .i64 0, .string ⟨#[]⟩, .slice none 0 0, .slice none 0 0, .slice none 0 0] 91) = w0 at hb0 hr0 hz0 ⊢
  refine (rnext_any (h.keep hb0) kWord word_ne).mono ?_
  rw [N1.out]
  rintro e w1 ⟨rfl, hb1⟩
  have hz1 := hb1.size
  have hr1 := (hb1.block _ (by omega)).trans hr0
  have b1 : Below w.heap.size w w1 := bl_trans hb0 hb0.size hb1
  have b1' : But q w w1 := But.of b1
  have hp1 := h.keep b1
  clear hr0 hb0 hb1
  unfold kPrint
  obtain ⟨tv, hx1, _⟩ := hp1.at
  have c1 : w1.cell? ⟨q, 1, none⟩ = some (.int .i64 i) := cell_of_blk hx1 1
  have f1 := free_of_blk hx1 1
  have hlt1 := heap_lt hx1
  have HR1 := hidR hr1
  have HP1 := hidR hp1
  clear hr1 hp1 hx1
  go_wp2_with fail
  have hp3 := HP1.out.step HI.out
  have b3 : But q w (w1.setCell ⟨q, 1, none⟩ (.int .i64 ((i : Int) + 1))) := b1'.set 1 _
  have hr3 := (heap_far (w := w1) (r := q) (i := 1) (u := .int .i64 ((i : Int) + 1)) (by omega : w.heap.size ≠ q)).trans HR1.out
  have hz3 : (w1.setCell ⟨q, 1, none⟩ (.int .i64 ((i : Int) + 1))).heap.size = w1.heap.size := by simp [World.setCell]
  generalize w1.setCell ⟨q, 1, none⟩ (.int .i64 ((i : Int) + 1)) = w3 at hp3 b3 hr3 hz3 ⊢
  have HR3 := hidR hr3
  have HP3 := hidR hp3
  clear hr3 hp3
  refine (hE d 1 (.ok () (i + 1)) w3 (by omega) (by omega) HP3.out O1.out).mono ?_
  rintro e w4 hx4
  obtain ⟨k, m, y, ad, c1, c2, rfl, k1, k2, k3⟩ := hx4.rep (rb := w.heap.size) (by omega)
  have hz4 := k3.size
  have hr4 := heap_keep k3 HR3.out (by omega)
  have K1 := hidR k1
  have K2 := hidR k2
  have HR4 := hidR hr4
  clear k1 k2 hr4 hx4
  go_wp2_with fail
  have hb5 : Below w4.heap.size w4 (w4.alloc (.cells #[.string ⟨#[112, 114, 105, 110, 116]⟩, .string ⟨#[]⟩, .string k, .int .i64 m, .string y, .slice ad c1 c2, .slice none 0 0, .slice none 0 0] 91)) := by (repeat (first | exact Below.refl _ _ | assumption | refine Below.drew ?_ | refine Below.trans ?_ (drewN_below' _ _ _) | refine Below.setCell ?_ (by first | (simp; done) | (simp; omega)) _ | refine Below.alloc ?_ (by first | (simp; done) | (simp; omega)) _))
  have he5 := heap_alloc_new w4 (.cells #[.string ⟨#[112, 114, 105, 110, 116]⟩, .string ⟨#[]⟩, .string k, .int .i64 m, .string y, .slice ad c1 c2, .slice none 0 0, .slice none 0 0] 91)
  have hz5 := size_alloc w4 (.cells #[.string ⟨#[112, 114, 105, 110, 116]⟩, .string ⟨#[]⟩, .string k, .int .i64 m, .string y, .slice ad c1 c2, .slice none 0 0, .slice none 0 0] 91)
  generalize w4.alloc (.cells #[.string ⟨#[112, 114, 105, 110, 116]⟩, .string ⟨#[]⟩, .string k, .int .i64 m, .string y, .slice ad c1 c2, .slice none 0 0, .slice none 0 0] 91) = w5 at hb5 he5 hz5 ⊢
  refine (rmust_any HT (K2.out.keep hb5) kSign [59] rfl (Or.inl rfl) (by simp)).mono ?_
  rw [Rs.via_ok, need_st]
  rintro e w6 ⟨rfl, hp6, hb6⟩
  have hz6 := hb6.size
  have b6 : But q w4 w6 := (But.of hb5).trans hb6
  have hr6 := heap_keep b6 HR4.out (by omega)
  have he6 := heap_keep hb6 he5 (by omega)
  have n2 := heap_lt hr6
  have n3 := heap_lt he6
  have e50 := cell_of_blk he6 0
  have e51 := cell_of_blk he6 1
  have e52 := cell_of_blk he6 2
  have e53 := cell_of_blk he6 3
  have e54 := cell_of_blk he6 4
  have e55 := cell_of_blk he6 5
  have e56 := cell_of_blk he6 6
  have e57 := cell_of_blk he6 7
  have r50 := cell_of_blk hr6 0
  have q50 := free_of_blk hr6 0
  have r51 := cell_of_blk hr6 1
  have q51 := free_of_blk hr6 1
  have r52 := cell_of_blk hr6 2
  have q52 := free_of_blk hr6 2
  have r53 := cell_of_blk hr6 3
  have q53 := free_of_blk hr6 3
  have r54 := cell_of_blk hr6 4
  have q54 := free_of_blk hr6 4
  have r55 := cell_of_blk hr6 5
  have q55 := free_of_blk hr6 5
  have r56 := cell_of_blk hr6 6
  have q56 := free_of_blk hr6 6
  have r57 := cell_of_blk hr6 7
  have q57 := free_of_blk hr6 7
  have HR6 := hidR hr6
  have HP6 := hidR hp6
  clear hr6 he6 hp6 he5 hb5 hb6
  go_wp2
  refine ret_rm Tryz.results37 rfl (by omega) (Nat.le_refl _) HR6.out ?_ ((b3.trans k3).trans b6) (fun z j hz => ?_)
  · have q0 := HP6.out
    rw [HRR.out]
    cases hz : exprT T n d 1 (i + 1) with
    | out => rw [hz] at q0; exact q0
    | bad c k => rw [hz] at q0; exact q0
    | ok e j =>
      rw [hz] at q0
      simp only [Rs.bind_ok] at q0 ⊢
      cases hn : needT T kSign [59] j with
      | out => rw [hn] at q0; exact q0
      | bad c k => rw [hn] at q0; exact q0
      | ok u j2 => rw [hn] at q0; exact q0
  · rw [HRR.out] at hz
    obtain ⟨e, j1, q1, q2⟩ := Rs.bind_eq_ok hz
    obtain ⟨u, j2, _, q4⟩ := Rs.bind_eq_ok q2
    cases q4
    have hk : Kept (w.heap.size + 1) w4 w6 := b6.kept (by omega)
    exact rep_flat (kind := kPrint) (x := []) (RepE.imp (hk.inB (Nat.le_refl _)) hk.keepA _ _ (K1.out e j1 q1))
set_option maxHeartbeats 1000000 in
set_option maxRecDepth 100000 in
theorem rstmt_while {T : List Tok} {q n d i : Nat} {w : World} (hE : REOk T q n) (hB : RBOk T q n) (h : RAt T q d (.ok () i) w) (hk : isT T kWord kWhile i) {r : Rs Sm} (hr : r = (exprT T n d 1 (i + 1)).bind fun e j => (blockT T n d j).bind fun t j => .ok (.mk kWhile [] e t []) j) (hout : r ≠ .out) :
    Calls Tryz.prog 37 #[ptrV q] w (RmTo T q d w r) := by
  obtain ⟨p1, p2, p3⟩ := cond_st (T := T) (n := n) (d := d) (s := .ok () (i + 1)) (r := r) (fun e t => .mk kWhile [] e t []) hr
  have O1 := hidR (p2 hout).1
  have O2 := hidR (p2 hout).2
  have P1 := hidR p1
  have P3 := hidR p3
  clear p1 p2 p3 hr hout
  have hi : i < T.length := isT_lt hk word_ne
  have n1 : nextR T kWord (.ok () i) = kWhile := (if_pos hk.1).trans hk.2
  have N1 := hidR n1
  have HI := hidR hi
  have hi2 : (i : Int) ≤ 1000 := by have := h.few; omega
  clear hk n1 hi
  have hlt := h.lt
  go_enter Tryz.func37, Tryz.ntmps37
  go_wp2_with fail
  have hb0 : Below w.heap.size w (w.alloc (.cells #[.string ⟨#[]⟩, .string ⟨#[]⟩, .string ⟨#[]⟩, .int .i64 0, .string ⟨#[]⟩, .slice none 0 0, .slice none 0 0, .slice none 0 0] 91)) := by (repeat (first | exact Below.refl _ _ | assumption | refine Below.drew ?_ | refine Below.trans ?_ (drewN_below' _ _ _) | refine Below.setCell ?_ (by first | (simp; done) | (simp; omega)) _ | refine Below.alloc ?_ (by first | (simp; done) | (simp; omega)) _))
  have hr0 := heap_alloc_new w (.cells #[.string ⟨#[]⟩, .string ⟨#[]⟩, .string ⟨#[]⟩, .int .i64 0, .string ⟨#[]⟩, .slice none 0 0, .slice none 0 0, .slice none 0 0] 91)
  have hz0 := size_alloc w (.cells #[.string ⟨#[]⟩, .string ⟨#[]⟩, .string ⟨#[]⟩, .int .i64 0, .string ⟨#[]⟩, .slice none 0 0, .slice none 0 0, .slice none 0 0] 91)
  generalize w.alloc (.cells #[.string ⟨#[]⟩, .string ⟨#[]⟩, .string ⟨#[]⟩, .int .i64 0, .string ⟨#[]⟩, .slice none 0 0, .slice none 0 0, .slice none 0 0] 91) = w0 at hb0 hr0 hz0 ⊢
  refine (rnext_any (h.keep hb0) kWord word_ne).mono ?_
  rw [N1.out]
  rintro e w1 ⟨rfl, hb1⟩
  have hz1 := hb1.size
  have hr1 := (hb1.block _ (by omega)).trans hr0
  have b1 : Below w.heap.size w w1 := bl_trans hb0 hb0.size hb1
  have b1' : But q w w1 := But.of b1
  have hp1 := h.keep b1
  clear hr0 hb0 hb1
  unfold kWhile
  obtain ⟨tv, hx1, _⟩ := hp1.at
  have c1 : w1.cell? ⟨q, 1, none⟩ = some (.int .i64 i) := cell_of_blk hx1 1
  have f1 := free_of_blk hx1 1
  have hlt1 := heap_lt hx1
  have HR1 := hidR hr1
  have HP1 := hidR hp1
  clear hr1 hp1 hx1
  go_wp2_with fail
  have hp3 := HP1.out.step HI.out
  have b3 : But q w (w1.setCell ⟨q, 1, none⟩ (.int .i64 ((i : Int) + 1))) := b1'.set 1 _
  have hr3 := (heap_far (w := w1) (r := q) (i := 1) (u := .int .i64 ((i : Int) + 1)) (by omega : w.heap.size ≠ q)).trans HR1.out
  have hz3 : (w1.setCell ⟨q, 1, none⟩ (.int .i64 ((i : Int) + 1))).heap.size = w1.heap.size := by simp [World.setCell]
  generalize w1.setCell ⟨q, 1, none⟩ (.int .i64 ((i : Int) + 1)) = w3 at hp3 b3 hr3 hz3 ⊢
  have HR3 := hidR hr3
  have HP3 := hidR hp3
  clear hr3 hp3
  refine (hE d 1 (.ok () (i + 1)) w3 (by omega) (by omega) HP3.out O1.out).mono ?_
  rintro e w4 hx4
  obtain ⟨k, m, y, ad, c1, c2, rfl, k1, k2, k3⟩ := hx4.rep (rb := w.heap.size) (by omega)
  have hz4 := k3.size
  have hr4 := heap_keep k3 HR3.out (by omega)
  have K1 := hidR k1
  have K2 := hidR k2
  have HR4 := hidR hr4
  clear k1 k2 hr4 hx4
  go_wp2_with fail
  have hb5 : Below w4.heap.size w4 (w4.alloc (.cells #[.string ⟨#[119, 104, 105, 108, 101]⟩, .string ⟨#[]⟩, .string k, .int .i64 m, .string y, .slice ad c1 c2, .slice none 0 0, .slice none 0 0] 91)) := by (repeat (first | exact Below.refl _ _ | assumption | refine Below.drew ?_ | refine Below.trans ?_ (drewN_below' _ _ _) | refine Below.setCell ?_ (by first | (simp; done) | (simp; omega)) _ | refine Below.alloc ?_ (by first | (simp; done) | (simp; omega)) _))
  have he5 := heap_alloc_new w4 (.cells #[.string ⟨#[119, 104, 105, 108, 101]⟩, .string ⟨#[]⟩, .string k, .int .i64 m, .string y, .slice ad c1 c2, .slice none 0 0, .slice none 0 0] 91)
  have hz5 := size_alloc w4 (.cells #[.string ⟨#[119, 104, 105, 108, 101]⟩, .string ⟨#[]⟩, .string k, .int .i64 m, .string y, .slice ad c1 c2, .slice none 0 0, .slice none 0 0] 91)
  generalize w4.alloc (.cells #[.string ⟨#[119, 104, 105, 108, 101]⟩, .string ⟨#[]⟩, .string k, .int .i64 m, .string y, .slice ad c1 c2, .slice none 0 0, .slice none 0 0] 91) = w5 at hb5 he5 hz5 ⊢
  refine (hB d _ w5 (K2.out.keep hb5) O2.out).mono ?_
  rintro e w6 hx6
  obtain ⟨ad2, l2, c22, rfl, g1, g2, g3⟩ := hx6.rep (rb := w4.heap.size) (by omega)
  have hz6 := g3.size
  have b6 : But q w4 w6 := (But.of hb5).trans g3
  have hr6 := heap_keep b6 HR4.out (by omega)
  have he6 := heap_keep g3 he5 (by omega)
  have n2 := heap_lt hr6
  have n3 := heap_lt he6
  have e50 := cell_of_blk he6 0
  have e51 := cell_of_blk he6 1
  have e52 := cell_of_blk he6 2
  have e53 := cell_of_blk he6 3
  have e54 := cell_of_blk he6 4
  have e55 := cell_of_blk he6 5
  have e56 := cell_of_blk he6 6
  have e57 := cell_of_blk he6 7
  have f56 := free_of_blk he6 6
  have r50 := cell_of_blk hr6 0
  have q50 := free_of_blk hr6 0
  have r51 := cell_of_blk hr6 1
  have q51 := free_of_blk hr6 1
  have r52 := cell_of_blk hr6 2
  have q52 := free_of_blk hr6 2
  have r53 := cell_of_blk hr6 3
  have q53 := free_of_blk hr6 3
  have r54 := cell_of_blk hr6 4
  have q54 := free_of_blk hr6 4
  have r55 := cell_of_blk hr6 5
  have q55 := free_of_blk hr6 5
  have r56 := cell_of_blk hr6 6
  have q56 := free_of_blk hr6 6
  have r57 := cell_of_blk hr6 7
  have q57 := free_of_blk hr6 7
  have HR6 := hidR hr6
  have HE6 := hidR he6
  have G1 := hidR g1
  have G2 := hidR g2
  clear hr6 he6 g1 g2 hx6 he5
  go_wp2
  have t1 := G2.out.setCell (r := w4.heap.size) (by omega) 6 (.slice ad2 l2 c22)
  have t2 : But q w (w6.setCell ⟨w4.heap.size, 6, none⟩ (.slice ad2 l2 c22)) := ((b3.trans k3).trans b6).setNew _ 6 (by omega) _
  have t3 : ∀ b, b ≠ w4.heap.size → (w6.setCell ⟨w4.heap.size, 6, none⟩ (.slice ad2 l2 c22)).heap[b]? = w6.heap[b]? := fun b hb => heap_far hb
  have t4 : (w6.setCell ⟨w4.heap.size, 6, none⟩ (.slice ad2 l2 c22)).heap.size = w6.heap.size := by simp [World.setCell]
  generalize w6.setCell ⟨w4.heap.size, 6, none⟩ (.slice ad2 l2 c22) = w7 at t1 t2 t3 t4 ⊢
  refine ret_rm Tryz.results37 rfl (by omega) (Nat.le_refl _) ((t3 _ (by omega)).trans HR6.out) (by rw [P1.out]; exact t1) t2 (fun x j hx => ?_)
  obtain ⟨e, j1, t, q1, q2, rfl⟩ := P3.out x j hx
  obtain ⟨xs, v1, v2⟩ := G1.out t j q2
  have k10 : ∀ b, InB (w.heap.size + 1) w4 b → InB (w.heap.size + 1) w7 b := fun b hb => ⟨hb.1, by have := hb.2; omega⟩
  have k11 : KeepA (InB (w.heap.size + 1) w4) w4 w7 := fun b hb => (t3 b (by have := hb.2; omega)).trans (b6.block b hb.2 (by have := hb.1; omega))
  have k14 : ∀ b, InB (w4.heap.size + 1) w6 b → InB (w.heap.size + 1) w7 b := fun b hb => ⟨by have := hb.1; omega, by have := hb.2; omega⟩
  have k15 : KeepA (InB (w4.heap.size + 1) w6) w6 w7 := fun b hb => t3 b (by have := hb.1; omega)
  exact ⟨[.string k, .int .i64 m, .string y, .slice ad c1 c2], _, xs, _, [], rfl, RepE.imp k10 k11 _ _ (K1.out e j1 q1), v1.imp k14 k15, RepSs.imp k14 k15 _ _ v2, row_nil _ _, rfl⟩
set_option maxHeartbeats 1000000 in
set_option maxRecDepth 100000 in
theorem rstmt_if {T : List Tok} {q n d i : Nat} {w : World} (HT : ∀ t ∈ T, t.Good) (hE : REOk T q n) (hB : RBOk T q n) (h : RAt T q d (.ok () i) w) (hk : isT T kWord kIf i) {r : Rs Sm} (hr : r = (exprT T n d 1 (i + 1)).bind fun e j => (blockT T n d j).bind fun t j => if isT T kWord kElse j then (blockT T n d (j + 1)).bind fun o j => .ok (.mk kIf [] e t o) j else .ok (.mk kIf [] e t []) j) (hout : r ≠ .out) :
    Calls Tryz.prog 37 #[ptrV q] w (RmTo T q d w r) := by
  obtain ⟨r2, hr2⟩ : ∃ r2, r2 = (Rs.via (.ok () (i + 1)) (exprT T n d 1)).st.via (blockT T n d) := ⟨_, rfl⟩
  obtain ⟨p1, p2, p3⟩ := if_st (s := .ok () (i + 1)) (r := r) hr2 hr
  have O1 := hidR (p1 hout).1
  have O2 : Hid ((Rs.via (.ok () (i + 1)) (exprT T n d 1)).st.via (blockT T n d) ≠ .out) := by rw [← hr2]; exact hidR (p1 hout).2
  have P2 := hidR p2
  have P3 := hidR p3
  have HR2' := hidR hr2
  have HO := hidR hout
  clear p1 p2 p3 hr2 hr hout
  have hi : i < T.length := isT_lt hk word_ne
  have n1 : nextR T kWord (.ok () i) = kIf := (if_pos hk.1).trans hk.2
  have N1 := hidR n1
  have HI := hidR hi
  have hi2 : (i : Int) ≤ 1000 := by have := h.few; omega
  clear hk n1 hi
  have hlt := h.lt
  go_enter Tryz.func37, Tryz.ntmps37
  go_wp2_with fail
  have hb0 : Below w.heap.size w (w.alloc (.cells #[.string ⟨#[]⟩, .string ⟨#[]⟩, .string ⟨#[]⟩, .int .i64 0, .string ⟨#[]⟩, .slice none 0 0, .slice none 0 0, .slice none 0 0] 91)) := by (repeat (first | exact Below.refl _ _ | assumption | refine Below.drew ?_ | refine Below.trans ?_ (drewN_below' _ _ _) | refine Below.setCell ?_ (by first | (simp; done) | (simp; omega)) _ | refine Below.alloc ?_ (by first | (simp; done) | (simp; omega)) _))
  have hr0 := heap_alloc_new w (.cells #[.string ⟨#[]⟩, .string ⟨#[]⟩, .string ⟨#[]⟩, .int .i64 0, .string ⟨#[]⟩, .slice none 0 0, .slice none 0 0, .slice none 0 0] 91)
  have hz0 := size_alloc w (.cells #[.string ⟨#[]⟩, .string ⟨#[]⟩, .string ⟨#[]⟩, .int .i64 0, .string ⟨#[]⟩, .slice none 0 0, .slice none 0 0, .slice none 0 0] 91)
  generalize w.alloc (.cells #[.string ⟨#[]⟩, .string ⟨#[]⟩, .string ⟨#[]⟩, .int .i64 0, .string ⟨#[]⟩, .slice none 0 0, .slice none 0 0, .slice none 0 0] 91) = w0 at hb0 hr0 hz0 ⊢
  refine (rnext_any (h.keep hb0) kWord word_ne).mono ?_
  rw [N1.out]
  rintro e w1 ⟨rfl, hb1⟩
  have hz1 := hb1.size
  have hr1 := (hb1.block _ (by omega)).trans hr0
  have b1 : Below w.heap.size w w1 := bl_trans hb0 hb0.size hb1
  have b1' : But q w w1 := But.of b1
  have hp1 := h.keep b1
  clear hr0 hb0 hb1
  unfold kIf
  obtain ⟨tv, hx1, _⟩ := hp1.at
  have c1 : w1.cell? ⟨q, 1, none⟩ = some (.int .i64 i) := cell_of_blk hx1 1
  have f1 := free_of_blk hx1 1
  have hlt1 := heap_lt hx1
  have HR1 := hidR hr1
  have HP1 := hidR hp1
  clear hr1 hp1 hx1
  go_wp2_with fail
  have hp3 := HP1.out.step HI.out
  have b3 : But q w (w1.setCell ⟨q, 1, none⟩ (.int .i64 ((i : Int) + 1))) := b1'.set 1 _
  have hr3 := (heap_far (w := w1) (r := q) (i := 1) (u := .int .i64 ((i : Int) + 1)) (by omega : w.heap.size ≠ q)).trans HR1.out
  have hz3 : (w1.setCell ⟨q, 1, none⟩ (.int .i64 ((i : Int) + 1))).heap.size = w1.heap.size := by simp [World.setCell]
  generalize w1.setCell ⟨q, 1, none⟩ (.int .i64 ((i : Int) + 1)) = w3 at hp3 b3 hr3 hz3 ⊢
  have HR3 := hidR hr3
  have HP3 := hidR hp3
  clear hr3 hp3
  refine (hE d 1 (.ok () (i + 1)) w3 (by omega) (by omega) HP3.out O1.out).mono ?_
  rintro e w4 hx4
  obtain ⟨k, m, y, ad, c1, c2, rfl, k1, k2, k3⟩ := hx4.rep (rb := w.heap.size) (by omega)
  have hz4 := k3.size
  have hr4 := heap_keep k3 HR3.out (by omega)
  have K1 := hidR k1
  have K2 := hidR k2
  have HR4 := hidR hr4
  clear k1 k2 hr4 hx4
  go_wp2_with fail
  have hb5 : Below w4.heap.size w4 (w4.alloc (.cells #[.string ⟨#[105, 102]⟩, .string ⟨#[]⟩, .string k, .int .i64 m, .string y, .slice ad c1 c2, .slice none 0 0, .slice none 0 0] 91)) := by (repeat (first | exact Below.refl _ _ | assumption | refine Below.drew ?_ | refine Below.trans ?_ (drewN_below' _ _ _) | refine Below.setCell ?_ (by first | (simp; done) | (simp; omega)) _ | refine Below.alloc ?_ (by first | (simp; done) | (simp; omega)) _))
  have he5 := heap_alloc_new w4 (.cells #[.string ⟨#[105, 102]⟩, .string ⟨#[]⟩, .string k, .int .i64 m, .string y, .slice ad c1 c2, .slice none 0 0, .slice none 0 0] 91)
  have hz5 := size_alloc w4 (.cells #[.string ⟨#[105, 102]⟩, .string ⟨#[]⟩, .string k, .int .i64 m, .string y, .slice ad c1 c2, .slice none 0 0, .slice none 0 0] 91)
  generalize w4.alloc (.cells #[.string ⟨#[105, 102]⟩, .string ⟨#[]⟩, .string k, .int .i64 m, .string y, .slice ad c1 c2, .slice none 0 0, .slice none 0 0] 91) = w5 at hb5 he5 hz5 ⊢
  refine (hB d _ w5 (K2.out.keep hb5) O2.out).mono ?_
  rintro e w6 hx6
  obtain ⟨ad2, l2, c22, rfl, g1, g2, g3⟩ := hx6.rep (rb := w4.heap.size) (by omega)
  have hz6 := g3.size
  have b6 : But q w4 w6 := (But.of hb5).trans g3
  have hr6 := heap_keep b6 HR4.out (by omega)
  have he6 := heap_keep g3 he5 (by omega)
  rw [← HR2'.out] at g1 g2
  have n3 := heap_lt he6
  have e56 := cell_of_blk he6 6
  have f56 := free_of_blk he6 6
  have HR6 := hidR hr6
  have HE6 := hidR he6
  have G1 := hidR g1
  have G2 := hidR g2
  clear hr6 he6 g1 g2 hx6 he5
  go_wp2_with fail
  have t1 := G2.out.setCell (r := w4.heap.size) (by omega) 6 (.slice ad2 l2 c22)
  have t2 : But q w (w6.setCell ⟨w4.heap.size, 6, none⟩ (.slice ad2 l2 c22)) := ((b3.trans k3).trans b6).setNew _ 6 (by omega) _
  have t3 : ∀ b, b ≠ w4.heap.size → (w6.setCell ⟨w4.heap.size, 6, none⟩ (.slice ad2 l2 c22)).heap[b]? = w6.heap[b]? := fun b hb => heap_far hb
  have t4 : (w6.setCell ⟨w4.heap.size, 6, none⟩ (.slice ad2 l2 c22)).heap.size = w6.heap.size := by simp [World.setCell]
  have t5 := (blk_setCell HE6.out 6 (.slice ad2 l2 c22)).trans rfl
  generalize w6.setCell ⟨w4.heap.size, 6, none⟩ (.slice ad2 l2 c22) = w7 at t1 t2 t3 t4 t5 ⊢
  have k10 : ∀ b, InB (w.heap.size + 1) w4 b → InB (w.heap.size + 1) w7 b ∧ b ≠ w4.heap.size ∧ b < w6.heap.size := fun b hb => ⟨⟨hb.1, by have := hb.2; omega⟩, by have := hb.2; omega, by have := hb.2; omega⟩
  have k11 : KeepA (InB (w.heap.size + 1) w4) w4 w7 := fun b hb => (t3 b (by have := hb.2; omega)).trans (b6.block b hb.2 (by have := hb.1; omega))
  have k15 : KeepA (InB (w4.heap.size + 1) w6) w6 w7 := fun b hb => t3 b (by have := hb.1; omega)
  refine (reat_k HT t1 kWord kElse rfl (Or.inr rfl) (by decide)).mono ?_
  cases hse : seesB T kWord kElse r2.st with
  | false =>
    rw [skip_no hse]
    rintro e w8 ⟨rfl, hp8, hb8⟩
    obtain ⟨p4, p5⟩ := P2.out hse
    have hz8 := hb8.size
    have hr8 := heap_keep hb8 ((t3 _ (by omega)).trans HR6.out) (by omega)
    have he8 := heap_keep hb8 t5 (by omega)
    have n2 := heap_lt hr8
    have n3 := heap_lt he8
    have e50 := cell_of_blk he8 0
    have e51 := cell_of_blk he8 1
    have e52 := cell_of_blk he8 2
    have e53 := cell_of_blk he8 3
    have e54 := cell_of_blk he8 4
    have e55 := cell_of_blk he8 5
    have e56 := cell_of_blk he8 6
    have e57 := cell_of_blk he8 7
    have r50 := cell_of_blk hr8 0
    have q50 := free_of_blk hr8 0
    have r51 := cell_of_blk hr8 1
    have q51 := free_of_blk hr8 1
    have r52 := cell_of_blk hr8 2
    have q52 := free_of_blk hr8 2
    have r53 := cell_of_blk hr8 3
    have q53 := free_of_blk hr8 3
    have r54 := cell_of_blk hr8 4
    have q54 := free_of_blk hr8 4
    have r55 := cell_of_blk hr8 5
    have q55 := free_of_blk hr8 5
    have r56 := cell_of_blk hr8 6
    have q56 := free_of_blk hr8 6
    have r57 := cell_of_blk hr8 7
    have q57 := free_of_blk hr8 7
    have HR8 := hidR hr8
    have HP8 := hidR hp8
    have P4 := hidR p4
    have P5 := hidR p5
    clear hr8 he8 hp8 p4 p5
    go_wp2
    refine ret_rm Tryz.results37 rfl (by omega) (Nat.le_refl _) HR8.out (by rw [P4.out]; exact HP8.out) (t2.trans hb8) (fun x j hx => ?_)
    obtain ⟨e, j1, t, q1, q2, rfl⟩ := P5.out x j hx
    obtain ⟨xs, v1, v2⟩ := G1.out t j q2
    have m10 : ∀ b, InB (w.heap.size + 1) w4 b → InB (w.heap.size + 1) w8 b := fun b hb => ⟨hb.1, by have := hb.2; omega⟩
    have m11 : KeepA (InB (w.heap.size + 1) w4) w4 w8 := fun b hb => (hb8.block b (by have := hb.2; omega) (by have := hb.1; omega)).trans (k11 b hb)
    have m14 : ∀ b, InB (w4.heap.size + 1) w6 b → InB (w.heap.size + 1) w8 b := fun b hb => ⟨by have := hb.1; omega, by have := hb.2; omega⟩
    have m15 : KeepA (InB (w4.heap.size + 1) w6) w6 w8 := fun b hb => (hb8.block b (by have := hb.2; omega) (by have := hb.1; omega)).trans (k15 b hb)
    exact ⟨[.string k, .int .i64 m, .string y, .slice ad c1 c2], _, xs, _, [], rfl, RepE.imp m10 m11 _ _ (K1.out e j1 q1), v1.imp m14 m15, RepSs.imp m14 m15 _ _ v2, row_nil _ _, rfl⟩
  | true =>
    rintro e w8 ⟨rfl, hp8, hb8⟩
    obtain ⟨p4, p5, p6⟩ := P3.out hse
    have hz8 := hb8.size
    have hr8 := heap_keep hb8 ((t3 _ (by omega)).trans HR6.out) (by omega)
    have he8 := heap_keep hb8 t5 (by omega)
    have HR8 := hidR hr8
    have HE8 := hidR he8
    have HP8 := hidR hp8
    have P4 := hidR p4
    have P6 := hidR p6
    have O3 := hidR (p5 HO.out)
    clear hr8 he8 hp8 p4 p5 p6
    go_wp2_with fail
    refine (hB d _ w8 HP8.out O3.out).mono ?_
    rintro e w9 hx9
    obtain ⟨ad3, l3, c33, rfl, o1, o2, o3⟩ := hx9.rep (rb := w4.heap.size) (by omega)
    have hz9 := o3.size
    have hr9 := heap_keep o3 HR8.out (by omega)
    have he9 := heap_keep o3 HE8.out (by omega)
    have n2 := heap_lt hr9
    have n3 := heap_lt he9
    have e50 := cell_of_blk he9 0
    have e51 := cell_of_blk he9 1
    have e52 := cell_of_blk he9 2
    have e53 := cell_of_blk he9 3
    have e54 := cell_of_blk he9 4
    have e55 := cell_of_blk he9 5
    have e56 := cell_of_blk he9 6
    have e57 := cell_of_blk he9 7
    have f57 := free_of_blk he9 7
    have r50 := cell_of_blk hr9 0
    have q50 := free_of_blk hr9 0
    have r51 := cell_of_blk hr9 1
    have q51 := free_of_blk hr9 1
    have r52 := cell_of_blk hr9 2
    have q52 := free_of_blk hr9 2
    have r53 := cell_of_blk hr9 3
    have q53 := free_of_blk hr9 3
    have r54 := cell_of_blk hr9 4
    have q54 := free_of_blk hr9 4
    have r55 := cell_of_blk hr9 5
    have q55 := free_of_blk hr9 5
    have r56 := cell_of_blk hr9 6
    have q56 := free_of_blk hr9 6
    have r57 := cell_of_blk hr9 7
    have q57 := free_of_blk hr9 7
    have HR9 := hidR hr9
    have HE9 := hidR he9
    have OO1 := hidR o1
    have OO2 := hidR o2
    clear hr9 he9 o1 o2 hx9
    go_wp2
    have s1 := OO2.out.setCell (r := w4.heap.size) (by omega) 7 (.slice ad3 l3 c33)
    have s2 : But q w (w9.setCell ⟨w4.heap.size, 7, none⟩ (.slice ad3 l3 c33)) := ((t2.trans hb8).trans o3).setNew _ 7 (by omega) _
    have s3 : ∀ b, b ≠ w4.heap.size → (w9.setCell ⟨w4.heap.size, 7, none⟩ (.slice ad3 l3 c33)).heap[b]? = w9.heap[b]? := fun b hb => heap_far hb
    have s4 : (w9.setCell ⟨w4.heap.size, 7, none⟩ (.slice ad3 l3 c33)).heap.size = w9.heap.size := by simp [World.setCell]
    generalize w9.setCell ⟨w4.heap.size, 7, none⟩ (.slice ad3 l3 c33) = w10 at s1 s2 s3 s4 ⊢
    refine ret_rm Tryz.results37 rfl (by omega) (Nat.le_refl _) ((s3 _ (by omega)).trans HR9.out) (by rw [P4.out]; exact s1) s2 (fun x j hx => ?_)
    obtain ⟨e, j1, t, j2, o, q1, q2, q3, rfl⟩ := P6.out x j hx
    obtain ⟨xs, v1, v2⟩ := G1.out t j2 q2
    obtain ⟨os, v3, v4⟩ := OO1.out o j q3
    have b79 : But q w7 w9 := hb8.trans o3
    have hz79 := b79.size
    have m10 : ∀ b, InB (w.heap.size + 1) w4 b → InB (w.heap.size + 1) w10 b := fun b hb => ⟨hb.1, by have := hb.2; omega⟩
    have m11 : KeepA (InB (w.heap.size + 1) w4) w4 w10 := fun b hb => (s3 b (by have := hb.2; omega)).trans ((b79.block b (by have := hb.2; omega) (by have := hb.1; omega)).trans (k11 b hb))
    have m14 : ∀ b, InB (w4.heap.size + 1) w6 b → InB (w.heap.size + 1) w10 b := fun b hb => ⟨by have := hb.1; omega, by have := hb.2; omega⟩
    have m15 : KeepA (InB (w4.heap.size + 1) w6) w6 w10 := fun b hb => (s3 b (by have := hb.1; omega)).trans ((b79.block b (by have := hb.2; omega) (by have := hb.1; omega)).trans (k15 b hb))
    have m16 : ∀ b, InB (w4.heap.size + 1) w9 b → InB (w.heap.size + 1) w10 b := fun b hb => ⟨by have := hb.1; omega, by have := hb.2; omega⟩
    have m17 : KeepA (InB (w4.heap.size + 1) w9) w9 w10 := fun b hb => s3 b (by have := hb.1; omega)
    exact ⟨[.string k, .int .i64 m, .string y, .slice ad c1 c2], _, xs, _, os, rfl, RepE.imp m10 m11 _ _ (K1.out e j1 q1), v1.imp m14 m15, RepSs.imp m14 m15 _ _ v2, v3.imp m16 m17, RepSs.imp m16 m17 _ _ v4⟩
/-- A statement of the reference, one deeper. -/
theorem rstmt_ok {T : List Tok} {q n : Nat} (HT : ∀ t ∈ T, t.Good) (hE : REOk T q n) (hB : RBOk T q n) : RTOk T q (n + 1) := by
  intro d s w h hout
  cases t0 : seesB T kWord kVar s with
  | true =>
    obtain ⟨i, rfl, _⟩ := nxt_tok (of_decide_eq_true t0).1 word_ne
    have hk : isT T kWord kVar i := of_decide_eq_true t0
    refine rstmt_var HT hE h hk ?_ hout
    rw [Rs.via_ok, Rs.via_ok, stmtT, if_neg (by rw [hk.1]; decide), if_pos hk, giveT]
    cases nameT T (i + 1) with
    | out => rfl
    | bad c k => rfl
    | ok x j =>
      simp only [Rs.bind_ok]
      cases needT T kSign [61] j with
      | out => rfl
      | bad c k => rfl
      | ok u j2 => simp only [Rs.bind_ok]; exact (end_bind _).symm
  | false =>
    cases t1 : seesB T kWord kIf s with
    | true =>
      obtain ⟨i, rfl, _⟩ := nxt_tok (of_decide_eq_true t1).1 word_ne
      have hk : isT T kWord kIf i := of_decide_eq_true t1
      exact rstmt_if HT hE hB h hk (by rw [Rs.via_ok, stmtT, if_neg (by rw [hk.1]; decide), if_neg (by rw [isT, hk.1, hk.2]; decide), if_pos hk]) hout
    | false =>
      cases t2 : seesB T kWord kWhile s with
      | true =>
        obtain ⟨i, rfl, _⟩ := nxt_tok (of_decide_eq_true t2).1 word_ne
        have hk : isT T kWord kWhile i := of_decide_eq_true t2
        exact rstmt_while hE hB h hk (by rw [Rs.via_ok, stmtT, if_neg (by rw [hk.1]; decide), if_neg (by rw [isT, hk.1, hk.2]; decide), if_neg (by rw [isT, hk.1, hk.2]; decide), if_pos hk]) hout
      | false =>
        cases t3 : seesB T kWord kReturn s with
        | true =>
          obtain ⟨i, rfl, _⟩ := nxt_tok (of_decide_eq_true t3).1 word_ne
          have hk : isT T kWord kReturn i := of_decide_eq_true t3
          exact rstmt_ret HT hE h hk (by rw [Rs.via_ok, stmtT, if_neg (by rw [hk.1]; decide), if_neg (by rw [isT, hk.1, hk.2]; decide), if_neg (by rw [isT, hk.1, hk.2]; decide), if_neg (by rw [isT, hk.1, hk.2]; decide), if_pos hk]) hout
        | false =>
          cases t4 : seesB T kWord kPrint s with
          | true =>
            obtain ⟨i, rfl, _⟩ := nxt_tok (of_decide_eq_true t4).1 word_ne
            have hk : isT T kWord kPrint i := of_decide_eq_true t4
            exact rstmt_print HT hE h hk (by rw [Rs.via_ok, stmtT, if_neg (by rw [hk.1]; decide), if_neg (by rw [isT, hk.1, hk.2]; decide), if_neg (by rw [isT, hk.1, hk.2]; decide), if_neg (by rw [isT, hk.1, hk.2]; decide), if_neg (by rw [isT, hk.1, hk.2]; decide), if_pos hk]) hout
          | false =>
            refine rstmt_set HT hE h t0 t1 t2 t3 t4 ?_ hout
            cases s with
            | out => rfl
            | bad c k => rfl
            | ok u i =>
              have z : ∀ x, seesB T kWord x (.ok () i) = false → ¬ isT T kWord x i := fun x hx => by rw [sees_ok] at hx; simpa using hx
              rw [Rs.via_ok, Rs.via_ok, stmtT, giveT]
              by_cases h1 : (tk T i).kind = kName
              · rw [if_pos h1, show nameT T i = .ok (tk T i).text (i + 1) from by unfold nameT; rw [if_pos h1], Rs.bind_ok]
                cases needT T kSign [61] (i + 1) with
                | out => rfl
                | bad c k => rfl
                | ok u j2 => simp only [Rs.bind_ok]; exact (end_bind _).symm
              · rw [if_neg h1, if_neg (z _ t0), if_neg (z _ t1), if_neg (z _ t2), if_neg (z _ t3), if_neg (z _ t4), show nameT T i = .bad 1 i from by unfold nameT; rw [if_neg h1]]
                rfl
end Go.Proofs.YtdleiajkihijhabGreatDoor
