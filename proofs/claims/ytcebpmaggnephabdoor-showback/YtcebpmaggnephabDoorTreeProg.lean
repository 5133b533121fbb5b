/-
  Our own: the law's own small program, read and parsed.
-/
import Derived.Test.YtcebpmaggnephabDoorTreeParse
namespace Go.Proofs.YtcebpmaggnephabDoor
open Go.RowKit

abbrev progS : ByteArray := ⟨#[102, 110, 32, 102, 40, 97, 41, 32, 123, 32, 114, 101, 116, 117, 114, 110, 32, 97, 32, 43, 32, 50, 32, 42, 32, 97, 59, 32, 125]⟩
def progT : List Tok := [⟨kWord, [102, 110], 0⟩, ⟨kName, [102], 3⟩, ⟨kSign, [40], 4⟩, ⟨kName, [97], 5⟩, ⟨kSign, [41], 6⟩, ⟨kSign, [123], 8⟩, ⟨kWord, [114, 101, 116, 117, 114, 110], 10⟩, ⟨kName, [97], 17⟩, ⟨kSign, [43], 19⟩, ⟨kNum, [50], 21⟩, ⟨kSign, [42], 23⟩, ⟨kName, [97], 25⟩, ⟨kSign, [59], 26⟩, ⟨kSign, [125], 28⟩]
theorem prog_scan : Scan 0 progS.data.toList progT none := by
  show Scan 0 [102, 110, 32, 102, 40, 97, 41, 32, 123, 32, 114, 101, 116, 117, 114, 110, 32, 97, 32, 43, 32, 50, 32, 42, 32, 97, 59, 32, 125] _ none
  refine Scan.tokAt (k := kWord) (n := 2) rfl rfl rfl (by decide) ?_
  refine Scan.blank rfl ?_
  refine Scan.tokAt (k := kName) (n := 1) rfl rfl rfl (by decide) ?_
  refine Scan.tokAt (k := kSign) (n := 1) rfl rfl rfl (by decide) ?_
  refine Scan.tokAt (k := kName) (n := 1) rfl rfl rfl (by decide) ?_
  refine Scan.tokAt (k := kSign) (n := 1) rfl rfl rfl (by decide) ?_
  refine Scan.blank rfl ?_
  refine Scan.tokAt (k := kSign) (n := 1) rfl rfl rfl (by decide) ?_
  refine Scan.blank rfl ?_
  refine Scan.tokAt (k := kWord) (n := 6) rfl rfl rfl (by decide) ?_
  refine Scan.blank rfl ?_
  refine Scan.tokAt (k := kName) (n := 1) rfl rfl rfl (by decide) ?_
  refine Scan.blank rfl ?_
  refine Scan.tokAt (k := kSign) (n := 1) rfl rfl rfl (by decide) ?_
  refine Scan.blank rfl ?_
  refine Scan.tokAt (k := kNum) (n := 1) rfl rfl rfl (by decide) ?_
  refine Scan.blank rfl ?_
  refine Scan.tokAt (k := kSign) (n := 1) rfl rfl rfl (by decide) ?_
  refine Scan.blank rfl ?_
  refine Scan.tokAt (k := kName) (n := 1) rfl rfl rfl (by decide) ?_
  refine Scan.tokAt (k := kSign) (n := 1) rfl rfl rfl (by decide) ?_
  refine Scan.blank rfl ?_
  refine Scan.tokAt (k := kSign) (n := 1) rfl rfl rfl (by decide) ?_
  exact .nil _
def progP : List Fu := [⟨[102], [[97]], [.mk kReturn [] (.mk kTwo 0 [43] [.mk kName 0 [97] [], .mk kTwo 0 [42] [.mk kNumE 2 [] [], .mk kName 0 [97] []]]) [] []]⟩]
theorem prog_parse : parseT progT = .ok progP 14 := by kernel_rfl
/-- A row of at least one cell, read. -/
theorem Row.get {A : Nat → Prop} {w : World} {ad : Option Addr} {l c n : Nat} {xs : List Value} (h : Row A w (.slice ad l c) n xs) (hn : n ≠ 0) : ∃ g, ad = some ⟨g, 0, none⟩ ∧ l = n ∧ ∀ j u, xs[j]? = some u → w.cell? ⟨g, j, none⟩ = some u := by
  obtain ⟨ad', c', e, hx⟩ := h
  injection e with e1 e2 e3
  subst e1 e2
  obtain ⟨g, h1, _, h3⟩ := hx hn
  exact ⟨g, h1, rfl, h3⟩
theorem Row.is {A : Nat → Prop} {w : World} {v : Value} {n : Nat} {xs : List Value} (h : Row A w v n xs) : ∃ ad c, v = .slice ad n c := by
  obtain ⟨ad, c, e, _⟩ := h
  exact ⟨ad, c, e⟩
/-- Where the law's own small program lies. -/
theorem prog_cells {A : Nat → Prop} {w : World} {ad : Option Addr} {l c : Nat} {xs : List Value} (h : Row A w (.slice ad l c) progP.length xs) (hr : RepFs A w progP xs) :
    ∃ g g2 c2 g3 c3, ad = some ⟨g, 0, none⟩ ∧ l = 1 ∧ w.cell? ⟨g, 2, none⟩ = some (.slice (some ⟨g2, 0, none⟩) 1 c2) ∧ w.cell? ⟨g2, 4, none⟩ = some (.string ⟨#[43]⟩) ∧ w.cell? ⟨g2, 5, none⟩ = some (.slice (some ⟨g3, 0, none⟩) 2 c3) ∧ w.cell? ⟨g3, 6, none⟩ = some (.string ⟨#[42]⟩) := by
  obtain ⟨g, rfl, rfl, hg⟩ := h.get (by decide)
  obtain ⟨cs, ys, rfl, hf, _⟩ := hr
  obtain ⟨pv, bv, bs, rfl, _, hb, hbs⟩ := hf
  obtain ⟨ad2, c2, rfl⟩ := hb.is
  obtain ⟨g2, rfl, _, hg2⟩ := hb.get (by decide)
  obtain ⟨cs2, ys2, rfl, hs, _⟩ := hbs
  obtain ⟨es, tv, ts, ov, os, rfl, he, _⟩ := hs
  obtain ⟨kv, ks, rfl, hkv, hks⟩ := he
  obtain ⟨ad3, c3, rfl⟩ := hkv.is
  obtain ⟨g3, rfl, _, hg3⟩ := hkv.get (by decide)
  obtain ⟨k1, k2, rfl, hk1, hk2⟩ := hks
  obtain ⟨v1, z1, rfl, _, _⟩ := hk1
  obtain ⟨k3, k4, rfl, hk3, _⟩ := hk2
  obtain ⟨v3, z3, rfl, _, _⟩ := hk3
  exact ⟨g, g2, c2, g3, c3, rfl, rfl, hg 2 _ rfl, hg2 4 _ rfl, hg2 5 _ rfl, hg3 6 _ rfl⟩
theorem prog_good : ∀ t ∈ progT, t.Good := prog_scan.good
theorem TreeG.at {w : World} {a : Nat → Addr} (ht : w.cell? ⟨1, 0, none⟩ = some (sentV (a 0))) (hd : w.cell? ⟨3, 0, none⟩ = some (sentV (a 9))) : TreeG w a w.heap.size := ⟨ht, hd, cell_lt ht, cell_lt hd⟩
/-- What the walks of trees want of the listed variables. -/
structure CutG (w : World) (a : Nat → Addr) : Prop where
  lex : LexG w a
  deep : w.cell? ⟨3, 0, none⟩ = some (sentV (a 9))
theorem CutG.below {w w' : World} {a : Nat → Addr} (h : CutG w a) (hb : Below w.heap.size w w') : CutG w' a := ⟨h.lex.below hb, by rw [hb.cell (cell_lt h.deep)]; exact h.deep⟩
theorem CutG.tree {w : World} {a : Nat → Addr} (h : CutG w a) : TreeG w a w.heap.size := TreeG.at h.lex.text h.deep
/-- The value of a slice of tokens that was read. -/
theorem toksV_own {w : World} {B p : Nat} {v : Value} {T : List Tok} (h : w.ownsRow B 29 3 v T.length (toksC T)) (hp : w.heap.size ≤ p) : ToksV w v T p := by
  obtain ⟨ad, cap, rfl, hx⟩ := tokAny h
  refine ⟨ad, cap, rfl, fun hn => ?_⟩
  obtain ⟨g, rfl, hv⟩ := hx hn
  have hl : 0 < T.length := List.length_pos_iff.2 hn
  refine ⟨g, 0, rfl, by have : g < w.heap.size := cell_lt (hv.c0 0 hl); omega, ⟨fun i hi => ?_, fun i hi => ?_, fun i hi => ?_⟩⟩
  · rw [Nat.zero_add]; exact hv.c0 i hi
  · rw [Nat.zero_add]; exact hv.c1 i hi
  · rw [Nat.zero_add]; exact hv.c2 i hi
set_option maxRecDepth 100000 in
theorem treed_any (a : Nat → Addr) (w : World) (hG : CutG w a) : Calls Tryd.prog 9 #[] w fun e w' => e = .returned (.bool true) ∧ Below w.heap.size w w' := by
  go_enter Tryd.func9, Tryd.ntmps9
  go_wp2_with fail
  refine (read_any a progS (by decide) _ hG.lex).mono ?_
  rintro e w1 ⟨ts, er, hsc, hb1, hx⟩
  obtain ⟨rfl, rfl⟩ := prog_scan.det hsc
  rcases hx with ⟨_, _, v, rfl, ho⟩ | ⟨p, b, h, _⟩ | ⟨_, h, _⟩
  · clear hsc
    have hG1 := hG.below hb1
    have htv := toksV_own ho (Nat.le_refl _)
    clear ho
    go_wp2_with fail
    refine (parse_any (a := a) prog_good (by decide) hG1.tree htv).mono ?_
    rintro e w2 ⟨hb2, h2⟩
    rw [prog_parse] at h2
    obtain ⟨ad, n, c, xs, rfl, h3, h4⟩ := h2
    obtain ⟨g, g2, c2, g3, c3, rfl, rfl, t1, t2, t3, t4⟩ := prog_cells h3 h4
    clear h3 h4 htv
    go_wp2
    go_ret
    exact ⟨rfl, bl_trans hb1 hb1.size hb2⟩
  · cases h
  · exact absurd h (by decide)
end Go.Proofs.YtcebpmaggnephabDoor
