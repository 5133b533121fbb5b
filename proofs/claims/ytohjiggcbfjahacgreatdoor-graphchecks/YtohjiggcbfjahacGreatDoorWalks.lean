/-
  Our own: texts joined: GrWalk0, GrWalk1.
-/
import Derived.Test.YtohjiggcbfjahacGreatDoorGrAsk
import Derived.Test.YtohjiggcbfjahacGreatDoorGrAskAll
import Derived.Test.YtohjiggcbfjahacGreatDoorGrNewF
import Derived.Test.YtohjiggcbfjahacGreatDoorAheadAll
import Derived.Test.YtohjiggcbfjahacGreatDoorNewAll
import Derived.Test.YtohjiggcbfjahacGreatDoorGrSoundW

/-
  Our own: package graph: a walk that answers at once: start, then a return of a parameter.
-/
namespace Go.Proofs.YtohjiggcbfjahacGreatDoor
open Go.RowKit

/-- A walker's cells. -/
abbrev wkV (fp : Nat) (how : List UInt8) (val tks : Int) (outv callv argv ansv : Value) (most ways : Int) (mb : Nat) : List Value := [.pointer (some ⟨fp, 0, none⟩), .string ⟨how.toArray⟩, .int .i64 val, .int .i64 tks, outv, callv, argv, ansv, .int .i64 most, .int .i64 ways, .map (some mb)]
set_option maxRecDepth 100000 in
set_option maxHeartbeats 1000000 in
theorem reckon_param {A : Nat → Prop} {X : World} {wb fp mb : Nat} {how : List UInt8} {val tks most ways : Int} {outv callv argv ansv : Value} {nm : List UInt8} {P : Int} {nv tv yv ov pv : Value} {L : List Nd} {tk : List (Nat × Nat)} {ys ns : List Nat} {ph : List (List Nat)} (hb : X.heap[wb]? = some (.cells (wkV fp how val tks outv callv argv ansv most ways mb).toArray 148 (0, 0))) (hF : Fl A X fp nm P nv tv yv ov pv L tk ys ns ph) (hA : ∀ b, A b → b < X.heap.size) (hL : L.length ≤ 1000) (i : Nat) (hi : i < L.length) (hk : L[i].kind = gParam) (args : List Int) (hal : args.length ≤ 1000) (m : Nat) (hn : L[i].num = (m : Int)) (hm : m < args.length) (hargs : XRow (InH X) X argv args.length (intsG args)) :
    Calls Tryz.prog 127 #[.pointer (some ⟨wb, 0, none⟩), .int .i64 (i : Int)] X fun e w' => Below X.heap.size X w' ∧ e = .returned (.tuple #[.int .i64 args[m], .bool true]) := by
  obtain ⟨ad, cap, rfl⟩ := hF.gr.is
  obtain ⟨aad, acap, rfl⟩ := hargs.is
  obtain ⟨g, off, ad1, cap1, e1, hg, _, hr, k0, k1, k2, k3⟩ := hF.gr.node hi
  subst e1
  obtain ⟨ga, offa, e2, hga, ka⟩ := hargs.int hm
  subst e2
  have c0 : X.cell? ⟨wb, 0, none⟩ = some (.pointer (some ⟨fp, 0, none⟩)) := cell_of_blk hb 0
  have c6 : X.cell? ⟨wb, 6, none⟩ = some (.slice (some ⟨ga, offa, none⟩) args.length acap) := cell_of_blk hb 6
  have b2 : X.cell? ⟨fp, 2, none⟩ = some (.slice (some ⟨g, off, none⟩) L.length cap) := cell_of_blk hF.blk 2
  have hgl := hA _ hg
  have hwl := heap_lt hb
  have hfl := heap_lt hF.blk
  have hgal : ga < X.heap.size := hga
  have hi' : (i : Int) < (L.length : Int) := by omega
  have hL' : (L.length : Int) ≤ 1000 := by omega
  have hm' : (m : Int) < (args.length : Int) := by omega
  have hal' : (args.length : Int) ≤ 1000 := by omega
  rw [hn] at k2
  have t1 : (L[i].kind == [112, 97, 114, 97, 109]) = true := by rw [hk]; decide
  generalize L[i] = n at *
  generalize args[m] = x at *
  obtain ⟨X1, hX1⟩ : ∃ X1, X1 = X.alloc (.cells #[.string ⟨n.kind.toArray⟩, .slice ad1 n.ins.length cap1, .int .i64 (m : Int), .string ⟨n.name.toArray⟩] 87) := ⟨_, rfl⟩
  have hb1 : Below X.heap.size X X1 := by rw [hX1]; (repeat (first | exact Below.refl _ _ | assumption | refine Below.drew ?_ | refine Below.trans ?_ (drewN_below' _ _ _) | refine Below.setCell ?_ (by first | (simp; done) | (simp; omega)) _ | refine Below.alloc ?_ (by first | (simp; done) | (simp; omega)) _))
  have hx1 : X1.heap[X.heap.size]? = some (.cells #[.string ⟨n.kind.toArray⟩, .slice ad1 n.ins.length cap1, .int .i64 (m : Int), .string ⟨n.name.toArray⟩] 87 (0, 0)) := by rw [hX1]; exact heap_alloc_new _ _
  have q2 : X1.cell? ⟨X.heap.size, 2, none⟩ = some (.int .i64 (m : Int)) := cell_of_blk hx1 2
  have q6 := (hb1.cell (p := ⟨wb, 6, none⟩) hwl).trans c6
  have qa := (hb1.cell (p := ⟨ga, _, none⟩) hgal).trans ka
  have HB1 := hidX hb1
  clear hF hA hk hn hr hargs hb hx1 hb1
  go_enter Tryz.func127, Tryz.ntmps127
  go_wp2_with fail
  rw [← hX1]
  clear hX1 k0 k1 k2 k3 b2 c0 c6 ka
  go_quiet (fail)
  go_wp2
  go_ret2
  exact ⟨by have h := HB1.out; exact bl_trans h h.size (by (repeat (first | exact Below.refl _ _ | assumption | refine Below.drew ?_ | refine Below.trans ?_ (drewN_below' _ _ _) | refine Below.setCell ?_ (by first | (simp; done) | (simp; omega)) _ | refine Below.alloc ?_ (by first | (simp; done) | (simp; omega)) _))), rfl⟩
set_option maxRecDepth 100000 in
set_option maxHeartbeats 2000000 in
theorem follow_ret {A : Nat → Prop} {w : World} {wb fp mb : Nat} {how : List UInt8} {val tks most ways : Int} {outv callv argv ansv : Value} {nm : List UInt8} {P : Int} {nv tv yv ov pv : Value} {L : List Nd} {tk : List (Nat × Nat)} {ys ns : List Nat} {ones twos : List (List UInt8)} {Q : Int} (hb : w.heap[wb]? = some (.cells (wkV fp how val tks outv callv argv ansv most ways mb).toArray 148 (0, 0))) (hF : Fl A w fp nm P nv tv yv ov pv L tk ys ns (phI L L.length)) (hA : ∀ b, A b → b < w.heap.size ∧ b ≠ wb) (hW : WellG ones twos Q L) (hLow : ∀ n ∈ L, LowN n) {a j k : Nat} (hs : Spot L a j k) (hk : (ndAt L j).kind = gReturn) (v : Nat) (hv : askL L j k = [(v : Int)]) (x : Int)
    (hR : ∀ X, Below w.heap.size w X → Calls Tryz.prog 127 #[.pointer (some ⟨wb, 0, none⟩), .int .i64 (v : Int)] X fun e w' => Below X.heap.size X w' ∧ e = .returned (.tuple #[.int .i64 x, .bool true])) :
    Calls Tryz.prog 64 #[.pointer (some ⟨wb, 0, none⟩), .agg #[.int .i64 (j : Int), .int .i64 (k : Int)]] w fun e w' => e = .returned (.int .i64 0) ∧ But wb w w' ∧ w'.heap[wb]? = some (.cells (wkV fp [100, 111, 110, 101] x tks outv callv argv ansv most ways mb).toArray 148 (0, 0)) := by
  obtain ⟨hj, _, _⟩ := spot_low hs hLow
  obtain ⟨ad, cap, rfl⟩ := hF.gr.is
  obtain ⟨g, off, ad1, cap1, e1, hg, _, hr, k0, k1, k2, k3⟩ := hF.gr.node hj
  subst e1
  have hnd : ndAt L (j : Int) = L[j] := by simp [ndAt, hj]
  have hL := hW.len.2
  have hL' : (L.length : Int) ≤ 1000 := by omega
  have hj' : (j : Int) < (L.length : Int) := by omega
  have c0 : w.cell? ⟨wb, 0, none⟩ = some (.pointer (some ⟨fp, 0, none⟩)) := cell_of_blk hb 0
  have b2 : w.cell? ⟨fp, 2, none⟩ = some (.slice (some ⟨g, off, none⟩) L.length cap) := cell_of_blk hF.blk 2
  have hwl := heap_lt hb
  have hfl := heap_lt hF.blk
  have hgl := (hA _ hg).1
  rw [hnd] at hk
  obtain ⟨W0, hW0⟩ : ∃ W0, W0 = w.alloc (.cells #[.int .i64 (j : Int), .int .i64 (k : Int)] 151) := ⟨_, rfl⟩
  have hb0 : Below w.heap.size w W0 := by rw [hW0]; (repeat (first | exact Below.refl _ _ | assumption | refine Below.drew ?_ | refine Below.trans ?_ (drewN_below' _ _ _) | refine Below.setCell ?_ (by first | (simp; done) | (simp; omega)) _ | refine Below.alloc ?_ (by first | (simp; done) | (simp; omega)) _))
  have hz0 : W0.heap.size = w.heap.size + 1 := by rw [hW0]; simp
  have hx0 : W0.heap[w.heap.size]? = some (.cells #[.int .i64 (j : Int), .int .i64 (k : Int)] 151 (0, 0)) := by rw [hW0]; exact heap_alloc_new _ _
  have hS : ∀ W : World, Below W0.heap.size W0 W → W.cell? ⟨wb, 0, none⟩ = some (.pointer (some ⟨fp, 0, none⟩)) ∧ W.cell? ⟨fp, 2, none⟩ = some (.slice (some ⟨g, off, none⟩) L.length cap) ∧ W.cell? ⟨w.heap.size, 0, none⟩ = some (.int .i64 (j : Int)) ∧ W.cell? ⟨g, off + j * 4, none⟩ = some (.string ⟨L[j].kind.toArray⟩) ∧ W.cell? ⟨g, off + j * 4 + 1, none⟩ = some (.slice ad1 L[j].ins.length cap1) ∧ W.cell? ⟨g, off + j * 4 + 2, none⟩ = some (.int .i64 L[j].num) ∧ W.cell? ⟨g, off + j * 4 + 3, none⟩ = some (.string ⟨L[j].name.toArray⟩) := fun W h => by
    have h' := bl_trans hb0 hb0.size h
    exact ⟨(h'.cell (p := ⟨wb, 0, none⟩) hwl).trans c0, (h'.cell (p := ⟨fp, 2, none⟩) hfl).trans b2, cell_of_blk ((h.block _ (heap_lt hx0)).trans hx0) 0, (h'.cell (p := ⟨g, _, none⟩) hgl).trans k0, (h'.cell (p := ⟨g, _, none⟩) hgl).trans k1, (h'.cell (p := ⟨g, _, none⟩) hgl).trans k2, (h'.cell (p := ⟨g, _, none⟩) hgl).trans k3⟩
  have HAS := hidX (fun (Y : World) (hY : Below w.heap.size w Y) => (show Calls Tryz.prog 86 #[.pointer (some ⟨fp, 0, none⟩), .agg #[.int .i64 (j : Int), .int .i64 (k : Int)]] Y fun e w' => ∃ v2, e = .returned v2 ∧ Below Y.heap.size Y w' ∧ XRow (fun b => A b ∨ (Y.heap.size ≤ b ∧ b < w'.heap.size)) w' v2 ([(v : Int)] : List Int).length (intsG [(v : Int)]) from by
    have hask := asked_any (hF.imp (hY.block fp hfl) (fun _ h => h) (fun b hb' => hY.block b (hA b hb').1)) (fun b hb' => Nat.lt_of_lt_of_le (hA b hb').1 hY.size) hW hLow hs
    rw [hv] at hask
    exact hask))
  have HB0 := hidX hb0
  have HX0 := hidX hx0
  have HZ0 := hidX hz0
  have HBK := hidX hb
  have HA := hidX hA
  have HR := hidX hR
  have HS := hidX hS
  have t0 : (L[j].kind == [114, 101, 103, 105, 111, 110]) = false := by rw [hk]; decide
  have t1 : (L[j].kind == [105, 102]) = false := by rw [hk]; decide
  have t2 : (L[j].kind == [116, 105, 99, 107]) = false := by rw [hk]; decide
  have t3 : (L[j].kind == [112, 114, 105, 110, 116]) = false := by rw [hk]; decide
  have t4 : (L[j].kind == [99, 97, 108, 108]) = false := by rw [hk]; decide
  have t5 : (L[j].kind == [114, 101, 116, 117, 114, 110]) = true := by rw [hk]; decide
  generalize L[j] = n at *
  clear hF hA hW hLow hs hk hv hR hnd hr hx0 hb hS hb0 hz0 k0 k1 k2 k3 b2
  go_enter Tryz.func64, Tryz.ntmps64
  go_wp2_with fail
  rw [← hW0]
  clear hW0
  go_region_held3 (fun W => W.cell? ⟨wb, 0, none⟩ = some (.pointer (some ⟨fp, 0, none⟩)) ∧ W.cell? ⟨fp, 2, none⟩ = some (.slice (some ⟨g, off, none⟩) L.length cap) ∧ W.cell? ⟨w.heap.size, 0, none⟩ = some (.int .i64 (j : Int)) ∧ W.cell? ⟨g, off + j * 4, none⟩ = some (.string ⟨n.kind.toArray⟩) ∧ W.cell? ⟨g, off + j * 4 + 1, none⟩ = some (.slice ad1 n.ins.length cap1) ∧ W.cell? ⟨g, off + j * 4 + 2, none⟩ = some (.int .i64 n.num) ∧ W.cell? ⟨g, off + j * 4 + 3, none⟩ = some (.string ⟨n.name.toArray⟩)) (exact HS.out _ (by (repeat (first | exact Below.refl _ _ | assumption | refine Below.drew ?_ | refine Below.trans ?_ (drewN_below' _ _ _) | refine Below.setCell ?_ (by first | (simp; done) | (simp; omega)) _ | refine Below.alloc ?_ (by first | (simp; done) | (simp; omega)) _)))) (fail)
  generalize hX1 : World.drew _ = X1
  have hb1 : Below W0.heap.size W0 X1 := by rw [← hX1]; (repeat (first | exact Below.refl _ _ | assumption | refine Below.drew ?_ | refine Below.trans ?_ (drewN_below' _ _ _) | refine Below.setCell ?_ (by first | (simp; done) | (simp; omega)) _ | refine Below.alloc ?_ (by first | (simp; done) | (simp; omega)) _))
  have hx1 : X1.heap[W0.heap.size]? = some (.cells #[.string ⟨n.kind.toArray⟩, .slice ad1 n.ins.length cap1, .int .i64 n.num, .string ⟨n.name.toArray⟩] 87 (0, 0)) := by rw [← hX1]; exact heap_alloc_new W0 _
  have hw1 : Below w.heap.size w X1 := bl_trans HB0.out HB0.out.size hb1
  have hsp := (hb1.block _ (heap_lt HX0.out)).trans HX0.out
  have hS2 : ∀ W : World, Below X1.heap.size X1 W → W.cell? ⟨wb, 0, none⟩ = some (.pointer (some ⟨fp, 0, none⟩)) ∧ W.cell? ⟨w.heap.size, 0, none⟩ = some (.int .i64 (j : Int)) ∧ W.cell? ⟨w.heap.size, 1, none⟩ = some (.int .i64 (k : Int)) := fun W h => by
    have e1 := (h.block _ (heap_lt hsp)).trans hsp
    exact ⟨(h.cell (p := ⟨wb, 0, none⟩) (by have := hw1.size; show wb < X1.heap.size; omega)).trans ((hw1.cell (p := ⟨wb, 0, none⟩) hwl).trans c0), cell_of_blk e1 0, cell_of_blk e1 1⟩
  have hak : ∀ (Y : World) (v2 : Value), Below X1.heap.size X1 Y → XRow (fun b => A b ∨ (X1.heap.size ≤ b ∧ b < Y.heap.size)) Y v2 ([(v : Int)] : List Int).length (intsG [(v : Int)]) → Calls Tryz.prog 108 #[.pointer (some ⟨wb, 0, none⟩), v2] Y fun e w' => ∃ v3, e = .returned (.tuple #[v3, .bool true]) ∧ Below X1.heap.size X1 w' ∧ XRow (InH w') w' v3 ([x] : List Int).length (intsG [x]) := fun Y v2 hY hrow => by
    have hwy : Below w.heap.size w Y := bl_trans hw1 hw1.size hY
    have hzy := hwy.size
    have hz1 := hw1.size
    have hAk := ask_any (wb := wb) (c := wb) (l := [v]) (A := fun b => A b ∨ (X1.heap.size ≤ b ∧ b < Y.heap.size)) (w := Y) (lv := v2) (by simpa [natsG, intsG] using hrow) (fun b hb' => by
      rcases hb' with h | h
      · have := HA.out b h; exact ⟨by omega, this.2⟩
      · exact ⟨h.2, by omega⟩) (by simp) (by omega) (fun _ => some x) (fun X => Below Y.heap.size Y X) (Below.refl _ _) (fun X Z h1 h2 h3 => h1.trans h3) (fun X hX hz i hi => by
      rw [List.mem_singleton] at hi
      subst hi
      refine (HR.out X (bl_trans hwy hzy hX)).mono ?_
      rintro e w' ⟨h1, h2⟩
      exact ⟨bl_trans hX hX.size h1, But.of h1, h2⟩)
    refine hAk.mono ?_
    rintro e w' ⟨hj3, _, v3, ok3, rfl, hav⟩
    obtain ⟨rfl, hr3⟩ : ok3 = .bool true ∧ XRow (fun b => Y.heap.size ≤ b ∧ b < w'.heap.size) w' v3 ([x] : List Int).length (intsG [x]) := hav
    exact ⟨v3, rfl, bl_trans hY hY.size hj3, hr3.imp (fun b hb => hb.2) (fun _ _ => rfl)⟩
  have HAK := hidX hak
  have HS2 := hidX hS2
  have HN1 := hidX hx1
  have HW1 := hidX hw1
  clear hX1 hb1 hx1 hw1 hsp hS2 hak HS c0
  go_wp2_with fail
  go_region_held3 (fun W => W.cell? ⟨wb, 0, none⟩ = some (.pointer (some ⟨fp, 0, none⟩)) ∧ W.cell? ⟨w.heap.size, 0, none⟩ = some (.int .i64 (j : Int)) ∧ W.cell? ⟨w.heap.size, 1, none⟩ = some (.int .i64 (k : Int)))
    (first | with_reducible exact s9 | with_reducible exact s8 | exact HS2.out _ (by (repeat (first | exact Below.refl _ _ | assumption | refine Below.drew ?_ | refine Below.trans ?_ (drewN_below' _ _ _) | refine Below.setCell ?_ (by first | (simp; done) | (simp; omega)) _ | refine Below.alloc ?_ (by first | (simp; done) | (simp; omega)) _))))
    (first
      | (go_at_call 86; refine (HAS.out _ (bl_trans HW1.out HW1.out.size (by (repeat (first | exact Below.refl _ _ | assumption | refine Below.drew ?_ | refine Below.trans ?_ (drewN_below' _ _ _) | refine Below.setCell ?_ (by first | (simp; done) | (simp; omega)) _ | refine Below.alloc ?_ (by first | (simp; done) | (simp; omega)) _))))).mono ?_; rintro e X8 ⟨v8, rfl, hb8, hr8⟩; have hb8' : Below X1.heap.size X1 X8 := Below.trans (Below.drew (Below.refl _ _)) (show Below X1.heap.size X1.drew X8 from hb8); have s8 := HS2.out _ hb8'; have HB8 := hidX hb8'; have HR8 := hidX (show XRow (fun b => A b ∨ (X1.heap.size ≤ b ∧ b < X8.heap.size)) X8 v8 ([(v : Int)] : List Int).length (intsG [(v : Int)]) from hr8); clear hb8 hb8' hr8)
      | (go_at_call 108; refine (HAK.out _ _ HB8.out HR8.out).mono ?_; rintro e X9 ⟨v9, rfl, hb9, hr9⟩; have s9 := HS2.out _ hb9; have HB9 := hidX hb9; have HR9 := hidX hr9; clear hb9 hr9))
  obtain ⟨a3, c3, rfl⟩ := HR9.out.is
  obtain ⟨g3, off3, e3, hg3, kx⟩ := HR9.out.int (k := 0) (by simp)
  subst e3
  have hw3 : Below w.heap.size w X9 := bl_trans HW1.out HW1.out.size HB9.out
  have hn3 := (HB9.out.block _ (heap_lt HN1.out)).trans HN1.out
  have n0 : X9.cell? ⟨W0.heap.size, 0, none⟩ = some (.string ⟨n.kind.toArray⟩) := cell_of_blk hn3 0
  have hk3 := (hw3.block wb hwl).trans HBK.out
  have c2 : X9.cell? ⟨wb, 2, none⟩ = some (.int .i64 val) := cell_of_blk hk3 2
  have f2 := free_of_blk hk3 2
  simp only [Nat.add_zero, List.getElem_cons_zero] at kx
  obtain ⟨W4, hW4⟩ : ∃ W4, W4 = X9.setCell ⟨wb, 2, none⟩ (.int .i64 x) := ⟨_, rfl⟩
  have hk4 : W4.heap[wb]? = some (.cells (wkV fp how x tks outv callv argv ansv most ways mb).toArray 148 (0, 0)) := by rw [hW4]; have := blk_setCell hk3 2 (.int .i64 x); simpa using this
  have HST := hidX (stop_g hk4 (by simp) [100, 111, 110, 101])
  have hbw : But wb w W4 := by rw [hW4]; exact (⟨hw3.os, hw3.tape, hw3.output, hw3.size, fun k hk _ => hw3.block k hk⟩ : But wb w X9).set 2 _
  have HBW := hidX hbw
  have HK4 := hidX hk4
  clear hw3 hn3 hk3 hk4 hbw
  go_wp2_with fail
  rw [← hW4]
  clear hW4
  refine HST.out.mono ?_
  rintro e W5 ⟨rfl, hW5⟩
  have HFN := hidX (show But wb w W5 ∧ W5.heap[wb]? = some (.cells (wkV fp [100, 111, 110, 101] x tks outv callv argv ansv most ways mb).toArray 148 (0, 0)) from by
    rw [hW5]
    refine ⟨HBW.out.set 1 _, ?_⟩
    have := blk_setCell HK4.out 1 (.string ⟨([100, 111, 110, 101] : List UInt8).toArray⟩)
    simpa using this)
  clear hW5
  go_wp2
  go_ret
  exact ⟨rfl, HFN.out.1, HFN.out.2⟩
end Go.Proofs.YtohjiggcbfjahacGreatDoor

/-
  Our own: package graph: Walk, where the first node is a return of a parameter.
-/
namespace Go.Proofs.YtohjiggcbfjahacGreatDoor
open Go.RowKit

theorem set5_blk {w : World} {r : Nat} {x0 x1 x2 x3 x4 : Value} {t : TypeId} (h : w.heap[r]? = some (.cells #[x0, x1, x2, x3, x4] t (0, 0))) (u0 u1 u2 u3 u4 : Value) :
    (((((w.setCell ⟨r, 0, none⟩ u0).setCell ⟨r, 1, none⟩ u1).setCell ⟨r, 2, none⟩ u2).setCell ⟨r, 3, none⟩ u3).setCell ⟨r, 4, none⟩ u4).heap[r]? = some (.cells #[u0, u1, u2, u3, u4] t (0, 0)) := by
  have h0 := blk_setCell h 0 u0
  have h1 := blk_setCell h0 1 u1
  have h2 := blk_setCell h1 2 u2
  have h3 := blk_setCell h2 3 u3
  have h4 := blk_setCell h3 4 u4
  simpa using h4
set_option maxRecDepth 100000 in
set_option maxHeartbeats 2000000 in
theorem walk_ret {w : World} {a : Nat → Addr} (hS : Sents w a) (hT : TabG w) (nm : List UInt8) (P : Int) (nv : Value) (L : List Nd) (hlow : ∀ n ∈ L, LowN n) (hG : XG true (InH w) w nv L) (hfa : (faultG onesE twosE P L).1 = 0) (args : List Int) (argv ansv : Value) (hal : (args.length : Int) = P) (hargs : XRow (InH w) w argv args.length (intsG args)) (hans : ∃ aa an ac, ansv = .slice aa an ac) (ticks : Int) {j : Nat} (hs : Spot L 0 j 0) (hk : (ndAt L j).kind = gReturn) (v : Nat) (hv : askL L j 0 = [(v : Int)]) (hvl : v < L.length) (hvk : L[v].kind = gParam) (m : Nat) (hn : L[v].num = (m : Int)) (hm : m < args.length) :
    Calls Tryz.prog 32 #[.agg #[.string ⟨nm.toArray⟩, .int .i64 P, nv], argv, ansv, .int .i64 ticks] w fun e w' => Below w.heap.size w w' ∧ e = .returned (.agg #[.string ⟨([100, 111, 110, 101] : List UInt8).toArray⟩, .int .i64 args[m], .int .i64 0, .slice none 0 0, .slice none 0 0]) := by
  have hW := wellG hfa
  have hL := hW.len.2
  have hL0 := hW.len.1
  obtain ⟨ad, cap, rfl⟩ := hG.is
  obtain ⟨aad, acap, rfl⟩ := hargs.is
  obtain ⟨aa, an, ac, rfl⟩ := hans
  have hPb := hW.par
  have hal1 : args.length ≤ 1000 := by omega
  obtain ⟨W0, hW0⟩ : ∃ W0, W0 = (w.alloc (.cells #[.string ⟨nm.toArray⟩, .int .i64 P, .slice ad L.length cap] 52)).alloc (.cells #[.string ⟨#[]⟩, .int .i64 0, .int .i64 0, .slice none 0 0, .slice none 0 0] 90) := ⟨_, rfl⟩
  have hb0 : Below w.heap.size w W0 := by rw [hW0]; (repeat (first | exact Below.refl _ _ | assumption | refine Below.drew ?_ | refine Below.trans ?_ (drewN_below' _ _ _) | refine Below.setCell ?_ (by first | (simp; done) | (simp; omega)) _ | refine Below.alloc ?_ (by first | (simp; done) | (simp; omega)) _))
  have hx0 : W0.heap[w.heap.size]? = some (.cells #[.string ⟨nm.toArray⟩, .int .i64 P, .slice ad L.length cap] 52 (0, 0)) := by rw [hW0]; exact twoG w _ _
  have hx1 : W0.heap[w.heap.size + 1]? = some (.cells #[.string ⟨#[]⟩, .int .i64 0, .int .i64 0, .slice none 0 0, .slice none 0 0] 90 (0, 0)) := by rw [hW0]; exact heap_alloc2_new w _ _
  have HCH := hidX (check_any (hS.below hb0) (hT.below hb0) nm P (.slice ad L.length cap) L (by omega) hlow (hG.imp (inH_up hb0) (keepH hb0)))
  have HT := hidX hT
  have HLW := hidX hlow
  have HG := hidX hG
  have HB0 := hidX hb0
  have HX0 := hidX hx0
  have HX1 := hidX hx1
  have HW := hidX hW
  have HFA := hidX hfa
  have HAR := hidX hargs
  have HKS := hidX (show Spot L 0 j 0 ∧ (ndAt L j).kind = gReturn ∧ askL L j 0 = [(v : Int)] from ⟨hs, hk, hv⟩)
  have HPV := hidX (show L[v].kind = gParam ∧ L[v].num = (m : Int) from ⟨hvk, hn⟩)
  have hte : ((args.length : Int) == P) = true := by simp [hal]
  have hne : ((args.length : Int) != P) = false := by simp [hal]
  have HAL := hidX hal
  clear hS hT hlow hG hfa hargs hb0 hx0 hx1 hW hs hk hv hvk hn hal
  go_enter Tryz.func32, Tryz.ntmps32
  go_wp2_with fail
  rw [← hW0]
  clear hW0
  refine HCH.out.mono ?_
  intro e W1 hft
  obtain ⟨ev, rfl, hft2⟩ := ft_val hft
  have HB1 := hidX hft2.1
  rcases ft_code hft2 with ⟨_, rfl⟩ | ⟨hc, _⟩
  · have hx0 := (HB1.out.block _ (heap_lt HX0.out)).trans HX0.out
    have hx1 := (HB1.out.block _ (heap_lt HX1.out)).trans HX1.out
    have d0 := cell_of_blk hx0 0
    have d1 := cell_of_blk hx0 1
    have d2 := cell_of_blk hx0 2
    simp only [List.getElem?_toArray, List.getElem?_cons_zero, List.getElem?_cons_succ] at d0 d1 d2
    have hw1 : Below w.heap.size w W1 := bl_trans HB0.out HB0.out.size HB1.out
    have HNF := hidX (newFlow_any (HT.out.below hw1) nm P (.slice ad L.length cap) L HW.out HLW.out (HG.out.imp (inH_up hw1) (keepH hw1)))
    have HXD := hidX hx1
    have HW1 := hidX hw1
    clear hft hft2 hx0 hx1 hw1
    go_wp2_with fail
    refine HNF.out.mono ?_
    rintro e W2 ⟨hb2, fp, tv, yv, ov, pv, rfl, hF⟩
    obtain ⟨adt, capt, rfl⟩ := hF.tks.is
    have htl := tkI_len L L.length
    have h0t : 0 < (tkI L L.length).length := by omega
    obtain ⟨gt, offt, e1, hgt, kt0, kt1⟩ := hF.tak h0t
    subst e1
    have hW := HW.out
    have h0w : isWay (ndAt L ((0 : Nat) : Int)).kind := by rw [show ((0 : Nat) : Int) = 0 from rfl, hW.start]; exact start_way
    have hte0 : (tkI L L.length)[0] = (j, 0) := by
      have := tk_is hW hL0 h0w HKS.out.1
      rw [List.getElem?_eq_getElem h0t] at this
      injection this
    rw [hte0] at kt0 kt1
    have hw2 : Below w.heap.size w W2 := bl_trans HW1.out HW1.out.size hb2
    obtain ⟨W3, hW3⟩ : ∃ W3, W3 = (W2.alloc (.map #[] 0)).alloc (.cells #[.pointer (some ⟨fp, 0, none⟩), .string ⟨#[]⟩, .int .i64 0, .int .i64 0, .slice none 0 0, .slice none 0 0, .slice aad args.length acap, .slice aa an ac, .int .i64 ticks, .int .i64 0, .map (some W2.heap.size)] 148) := ⟨_, rfl⟩
    have hb3 : Below W2.heap.size W2 W3 := by rw [hW3]; (repeat (first | exact Below.refl _ _ | assumption | refine Below.drew ?_ | refine Below.trans ?_ (drewN_below' _ _ _) | refine Below.setCell ?_ (by first | (simp; done) | (simp; omega)) _ | refine Below.alloc ?_ (by first | (simp; done) | (simp; omega)) _))
    have hx3 : W3.heap[W2.heap.size + 1]? = some (.cells (wkV fp [] 0 0 (.slice none 0 0) (.slice none 0 0) (.slice aad args.length acap) (.slice aa an ac) ticks 0 W2.heap.size).toArray 148 (0, 0)) := by rw [hW3]; exact heap_alloc2_new W2 _ _
    obtain ⟨W4, hW4⟩ : ∃ W4, W4 = W3.setCell ⟨W2.heap.size + 1, 9, none⟩ (.int .i64 1) := ⟨_, rfl⟩
    have hx4 : W4.heap[W2.heap.size + 1]? = some (.cells (wkV fp [] 0 0 (.slice none 0 0) (.slice none 0 0) (.slice aad args.length acap) (.slice aa an ac) ticks 1 W2.heap.size).toArray 148 (0, 0)) := by rw [hW4]; have := blk_setCell hx3 9 (.int .i64 1); simpa using this
    have hb4 : Below W2.heap.size W2 W4 := by rw [hW4]; exact hb3.setCell (by show W2.heap.size ≤ W2.heap.size + 1; omega) _
    have hw4 : Below w.heap.size w W4 := bl_trans hw2 hw2.size hb4
    have hz4 := hb4.size
    have hx4z := heap_lt hx4
    have hF4 := hF.imp (hb4.block fp (heap_lt hF.blk)) (fun _ h => h) (keepH hb4)
    have hfol := follow_ret hx4 hF4 (fun b (hb : b < W2.heap.size) => ⟨by omega, by omega⟩) hW HLW.out HKS.out.1 HKS.out.2.1 v HKS.out.2.2 args[m] (fun X hX => by
      have hX2 : Below W2.heap.size W2 X := bl_trans hb4 hz4 hX
      refine (reckon_param ((hX.block _ hx4z).trans hx4) (hF.imp (hX2.block fp (heap_lt hF.blk)) (fun _ h => h) (keepH hX2)) (fun b (hb : b < W2.heap.size) => by have := hX2.size; omega) hL v hvl HPV.out.1 args hal1 m HPV.out.2 hm (HAR.out.imp (inH_up (bl_trans hw4 hw4.size hX)) (keepH (bl_trans hw4 hw4.size hX)))).mono ?_
      rintro e w' h
      exact h)
    have HFO := hidX hfol
    have w0 : W4.cell? ⟨W2.heap.size + 1, 0, none⟩ = some (.pointer (some ⟨fp, 0, none⟩)) := cell_of_blk hx4 0
    have v9 : W3.cell? ⟨W2.heap.size + 1, 9, none⟩ = some (.int .i64 0) := cell_of_blk hx3 9
    have v9f := free_of_blk hx3 9
    have p3 : W4.cell? ⟨fp, 3, none⟩ = some (.slice (some ⟨gt, offt, none⟩) (tkI L L.length).length capt) := cell_of_blk hF4.blk 3
    have y0 := (hb4.cell (p := ⟨gt, _, none⟩) hgt).trans kt0
    have y1 := (hb4.cell (p := ⟨gt, _, none⟩) hgt).trans kt1
    have htl' : (0 : Int) < ((tkI L L.length).length : Int) := by omega
    have hxd4 := (hb4.block _ (by have := heap_lt HXD.out; have := hb2.size; omega)).trans ((hb2.block _ (heap_lt HXD.out)).trans HXD.out)
    have HXD4 := hidX hxd4
    have HW4 := hidX hw4
    have hdz : w.heap.size + 1 < W2.heap.size := by have := heap_lt HXD.out; have := hb2.size; omega
    have hmm := @run_makeMap Tryz.prog
    clear hF hb2 hw2 hb3 hx3 hx4 hb4 hw4 hF4 hfol kt0 kt1 hte0 h0w htl h0t hW d0 d1 d2 hxd4
    generalize (tkI L L.length).length = tl at *
    go_wp2_with fail
    rw [← hW3]
    clear hmm hW3
    simp only [Nat.zero_mul, Nat.add_zero] at y0 y1
    go_loopg [10] 1 (fun k v10 wr => v10 = .int .i64 0 ∧ Hid (wr = W3))
    case atStart => exact ⟨rfl, rfl⟩
    case round =>
      obtain ⟨rfl, hwr⟩ := hrel
      have hwr2 : wr = W3 := hwr
      subst hwr2
      clear hwr
      rw [hW4] at w0 p3 y0 y1
      go_wp2_with fail
      rw [← hW4]
      clear hW4 w0 p3 y0 y1
      refine HFO.out.mono ?_
      rintro e W5 ⟨rfl, hbt, hx5⟩
      have h1 : W5.cell? ⟨W2.heap.size + 1, 1, none⟩ = some (.string ⟨([100, 111, 110, 101] : List UInt8).toArray⟩) := cell_of_blk hx5 1
      have h2 : W5.cell? ⟨W2.heap.size + 1, 2, none⟩ = some (.int .i64 args[m]) := cell_of_blk hx5 2
      have h3 : W5.cell? ⟨W2.heap.size + 1, 3, none⟩ = some (.int .i64 0) := cell_of_blk hx5 3
      have h4 : W5.cell? ⟨W2.heap.size + 1, 4, none⟩ = some (.slice none 0 0) := cell_of_blk hx5 4
      have h5 : W5.cell? ⟨W2.heap.size + 1, 5, none⟩ = some (.slice none 0 0) := cell_of_blk hx5 5
      have hd5 := (hbt.block _ (heap_lt HXD4.out) (by omega)).trans HXD4.out
      have f0 := free_of_blk hd5 0
      have f1 := free_of_blk hd5 1
      have f2 := free_of_blk hd5 2
      have f3 := free_of_blk hd5 3
      have f4 := free_of_blk hd5 4
      have i0 := cell_of_blk hd5 0
      have i1 := cell_of_blk hd5 1
      have i2 := cell_of_blk hd5 2
      have i3 := cell_of_blk hd5 3
      have i4 := cell_of_blk hd5 4
      simp only [List.getElem?_toArray, List.getElem?_cons_zero, List.getElem?_cons_succ] at i0 i1 i2 i3 i4
      have hz5 := hbt.size
      have hw5 : Below w.heap.size w W5 := ⟨hbt.os.trans HW4.out.os, hbt.tape.trans HW4.out.tape, hbt.output.trans HW4.out.output, by have := HW4.out.size; omega, fun k hk => (hbt.block k (by have := HW4.out.size; omega) (by omega)).trans (HW4.out.block k hk)⟩
      have HD5 := hidX hd5
      have HW5 := hidX hw5
      clear hbt hx5 hd5 hw5
      go_wp2
      have hx := set5_blk HD5.out (.string ⟨([100, 111, 110, 101] : List UInt8).toArray⟩) (.int .i64 args[m]) (.int .i64 0) (.slice none 0 0) (.slice none 0 0)
      refine ret_row (w.heap.size + 1) 8 _ 90 rfl rfl hx Tryz.underlying90 (by kernel_rfl) ⟨?_, rfl⟩
      have hlew : w.heap.size ≤ w.heap.size + 1 := by omega
      exact ((((HW5.out.setCell (by exact hlew) _).setCell (by exact hlew) _).setCell (by exact hlew) _).setCell (by exact hlew) _).setCell (by exact hlew) _
  · exact absurd HFA.out hc
end Go.Proofs.YtohjiggcbfjahacGreatDoor
