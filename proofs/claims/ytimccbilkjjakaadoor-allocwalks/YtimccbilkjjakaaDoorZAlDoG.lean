/- Our own: texts joined: AlDoG. -/
import Derived.Test.YtimccbilkjjakaaDoorZWkDo
namespace Go.Proofs.YtimccbilkjjakaaDoor
open Go.RowKit
section
variable {D D' : Nat → Prop} {S : Nat → Prop} {X Y : World} {wb rb sb : Nat} {argv ansv : Value} {s : Rst} {most steps : Int} {r : Ra} {A : Nat → Prop}
set_option maxRecDepth 100000 in
set_option maxHeartbeats 4000000 in
theorem ado_call (h : AkJ D S X wb rb sb argv ansv s most steps r) (hA : ∀ b, A b → b < X.heap.size ∧ ¬ D b) {args ans : List Int} (hag : XRow A X argv args.length (intsG args)) (han : XRow A X ansv ans.length (intsG ans)) (hal : ans.length ≤ 100000) (hgl : args.length ≤ 1000) (hts : 0 ≤ s.tks ∧ s.tks ≤ 1000000000) (hol : s.out.length ≤ 1000) {x : Li} (hx : DoL args.length r.slots.length x) (hf : x.kind = gCall) :
  Calls Tryd.prog 42 #[.pointer (some ⟨wb, 0, none⟩), .agg #[.string ⟨x.kind.toArray⟩, .int .i64 x.d, .int .i64 x.a, .int .i64 x.b, .int .i64 x.num, .string ⟨x.name.toArray⟩]] X fun e w' => ADo D X wb rb sb argv ansv most steps (insL args ans most x s r) e w' := by
 obtain ⟨kind, d, a, b, num, name⟩ := x
 obtain rfl : kind = ([99, 97, 108, 108] : List UInt8) := hf
 obtain ⟨dn, rfl⟩ : ∃ k : Nat, d = (k : Int) := ⟨d.toNat, by have := (hx.call rfl).1; unfold r8 at this; simp only at this; omega⟩
 have hdn : dn < 8 := by have := (hx.call rfl).1; unfold r8 at this; simp only at this; omega
 have hdni : (dn : Int) < 8 := by omega
 obtain ⟨nn, rfl⟩ : ∃ k : Nat, num = (k : Int) := ⟨num.toNat, by have := (hx.call rfl).2; unfold r8 at this; simp only at this; omega⟩
 have hnn : nn < 5 := by have := (hx.call rfl).2; unfold r8 at this; simp only at this; omega
 have hnni : (nn : Int) < 5 := by omega
 have hr : insL args ans most ⟨[99, 97, 108, 108], (dn : Int), a, b, (nn : Int), name⟩ s r = (callR ans name (r.next.take nn) s, if ans.length ≤ s.calls.length then r else { r with regs := r.regs.set dn (ans.getD s.calls.length 0), next := List.replicate 4 0 }) := by unfold insL; exact (if_neg (show ¬ ([99, 97, 108, 108] : List UInt8) = gParam by decide)).trans ((if_neg (show ¬ ([99, 97, 108, 108] : List UInt8) = gConst by decide)).trans ((if_neg (show ¬ ([99, 97, 108, 108] : List UInt8) = gOne by decide)).trans ((if_neg (show ¬ ([99, 97, 108, 108] : List UInt8) = gTwo by decide)).trans ((if_neg (show ¬ ([99, 97, 108, 108] : List UInt8) = lMove by decide)).trans ((if_neg (show ¬ ([99, 97, 108, 108] : List UInt8) = lLoad by decide)).trans ((if_neg (show ¬ ([99, 97, 108, 108] : List UInt8) = lStore by decide)).trans ((if_neg (show ¬ ([99, 97, 108, 108] : List UInt8) = lArg by decide)).trans ((if_pos (show ([99, 97, 108, 108] : List UInt8) = gCall from rfl)).trans rfl))))))))
 generalize insL args ans most ⟨[99, 97, 108, 108], (dn : Int), a, b, (nn : Int), name⟩ s r = RR at hr ⊢
 obtain ⟨X1, hX1⟩ : ∃ X1, X1 = X.alloc (.cells #[.string ⟨([99, 97, 108, 108] : List UInt8).toArray⟩, .int .i64 (dn : Int), .int .i64 a, .int .i64 b, .int .i64 (nn : Int), .string ⟨name.toArray⟩] 52) := ⟨_, rfl⟩
 have hbx : Below X.heap.size X X1 := by rw [hX1]; exact box_blk X #[.string ⟨([99, 97, 108, 108] : List UInt8).toArray⟩, .int .i64 (dn : Int), .int .i64 a, .int .i64 b, .int .i64 (nn : Int), .string ⟨name.toArray⟩] 52
 have hN : X1.heap[X.heap.size]? = some (.cells #[.string ⟨([99, 97, 108, 108] : List UInt8).toArray⟩, .int .i64 (dn : Int), .int .i64 a, .int .i64 b, .int .i64 (nn : Int), .string ⟨name.toArray⟩] 52 (0, 0)) := by rw [hX1]; exact heap_alloc_new _ _
 have hxl : X.heap.size < X1.heap.size := heap_lt hN
 have HJ := hidX (h.below hbx)
 have n1 : X1.cell? ⟨X.heap.size, 1, none⟩ = some (.int .i64 (dn : Int)) := cell_of_blk hN 1
 have n2 : X1.cell? ⟨X.heap.size, 2, none⟩ = some (.int .i64 a) := cell_of_blk hN 2
 have n3 : X1.cell? ⟨X.heap.size, 3, none⟩ = some (.int .i64 b) := cell_of_blk hN 3
 have n4 : X1.cell? ⟨X.heap.size, 4, none⟩ = some (.int .i64 (nn : Int)) := cell_of_blk hN 4
 have n5 : X1.cell? ⟨X.heap.size, 5, none⟩ = some (.string ⟨name.toArray⟩) := cell_of_blk hN 5
 have HRR := hidX hr
 have HX1 := hidX hX1
 have HBX := hidX hbx
 have HAX := hidX hA
 have HUN := hidX (And.intro hag (And.intro han (And.intro hal (And.intro hgl (And.intro hts (And.intro hol hx))))))
 clear HUN
 have hnn4 : nn ≤ 4 := by omega
 have HCA := hidX fun Y (hY : Below X1.heap.size X1 Y) => call_r (HJ.out.below hY).recd name (akj_next (HJ.out.below hY) hnn4) (by rw [List.length_take, h.nl]; omega) (A := A) (ans := ans) (han.imp (fun _ h => h) (fun k hk => (bl_trans hbx hbx.size hY).block k (hA k hk).1)) (fun b hb => ⟨Nat.lt_of_lt_of_le (Nat.lt_trans (hA b hb).1 hxl) hY.size, fun e => (hA b hb).2 (e ▸ h.lr), fun e => (hA b hb).2 (h.ls b e).1⟩) hal
 have hlen : (r.next.take nn).length = nn := by rw [List.length_take, h.nl]; omega
 rw [hlen] at HCA
 generalize hyy : (if ans.length ≤ s.calls.length then (0 : Int) else ans.getD s.calls.length 0) = y at HCA
 have HYY := hidX hyy
 have HCS2 := hidX (show ∀ Y Z, Below X1.heap.size X1 Y → ButP (fun k => k = rb ∨ S k) Y Z → Z.cell? ⟨X.heap.size, 1, none⟩ = some (.int .i64 (dn : Int)) ∧ Z.cell? ⟨X.heap.size, 4, none⟩ = some (.int .i64 (nn : Int)) ∧ Z.cell? ⟨X.heap.size, 5, none⟩ = some (.string ⟨name.toArray⟩) ∧ Z.cell? ⟨wb, 0, none⟩ = some (.pointer (some ⟨rb, 0, none⟩)) from fun Y Z hY hZ => by
  have hw := HJ.out.wl
  have hb1 : ¬ (X.heap.size = rb ∨ S X.heap.size) := fun e => e.elim (fun e => by have := h.recd.rl; omega) (fun e => by have := (h.recd.sl _ e).1; omega)
  have hb2 : ¬ (wb = rb ∨ S wb) := fun e => e.elim h.ne1 (fun e => (h.ls wb e).2.1 rfl)
  have kk : ∀ o v, X1.cell? ⟨X.heap.size, o, none⟩ = some v → Z.cell? ⟨X.heap.size, o, none⟩ = some v := fun o v hv => ((World.cell?_of_block (w := Y) (w' := Z) (a := ⟨X.heap.size, o, none⟩) (hZ.block _ (Nat.lt_of_lt_of_le hxl hY.size) hb1)).trans (hY.cell (p := ⟨X.heap.size, o, none⟩) hxl)).trans hv
  exact ⟨kk _ _ n1, kk _ _ n4, kk _ _ n5, ((World.cell?_of_block (w := Y) (w' := Z) (a := ⟨wb, 0, none⟩) (hZ.block _ (Nat.lt_of_lt_of_le hw hY.size) hb2)).trans (hY.cell (p := ⟨wb, 0, none⟩) hw)).trans HJ.out.ptr⟩)
 have hsl := arr4 wb nn hnn4
 have C0 := hidX (And.intro n1 (And.intro n4 (And.intro n5 HJ.out.ptr)))
 clear n1 n2 n3 n4 n5 hyy hlen
 clear h hA hag han hx hr hX1 hN hbx hts hol hal
 go_enter Tryd.func42, Tryd.ntmps42
 go_wp2_with fail
 rw [← HX1.out]
 clear HX1
 refine wp_region_V (fun W => W.cell? ⟨X.heap.size, 1, none⟩ = some (.int .i64 (dn : Int)) ∧ W.cell? ⟨X.heap.size, 4, none⟩ = some (.int .i64 (nn : Int)) ∧ W.cell? ⟨X.heap.size, 5, none⟩ = some (.string ⟨name.toArray⟩) ∧ W.cell? ⟨wb, 0, none⟩ = some (.pointer (some ⟨rb, 0, none⟩))) 19 (by kernel_rfl) ⟨C0.out.1, C0.out.2.1, C0.out.2.2.1, C0.out.2.2.2⟩ (fun hHeld => ?_)
 refine wpAnyV_put 0 (some 151) (v := ?v0r5) rfl rfl (by kernel_rfl) (by kernel_rfl) (by kernel_rfl) (by kernel_rfl) (by kernel_rfl) (fun _ _ _ h => h) (Or.inl ⟨by rfl, ?hy0r5⟩) hHeld ?rest0r5
 case hy0r5 => (intro w2 hSw; (try dsimp only at hSw); first | (go_simp; done) | (go_simp; with_reducible rfl))
 simp only [Act.put, List.setIfInBounds_toArray, List.set_cons_zero, List.set_cons_succ]
 refine wpAnyV_put 1 (some 152) (v := ?v1r5) rfl rfl (by kernel_rfl) (by kernel_rfl) (by kernel_rfl) (by kernel_rfl) (by kernel_rfl) (fun _ _ _ h => h) (Or.inl ⟨by rfl, ?hy1r5⟩) hHeld ?rest1r5
 case hy1r5 => (intro w2 hSw; (try dsimp only at hSw); first | (go_simp; done) | (go_simp; with_reducible rfl))
 simp only [Act.put, List.setIfInBounds_toArray, List.set_cons_zero, List.set_cons_succ]
 refine wpAnyV_put 2 (some 153) (v := ?v2r5) rfl rfl (by kernel_rfl) (by kernel_rfl) (by kernel_rfl) (by kernel_rfl) (by kernel_rfl) (fun _ _ _ h => h) (Or.inl ⟨by rfl, ?hy2r5⟩) hHeld ?rest2r5
 case hy2r5 => (intro w2 hSw; (try dsimp only at hSw); first | (go_simp; done) | (go_simp; with_reducible rfl))
 simp only [Act.put, List.setIfInBounds_toArray, List.set_cons_zero, List.set_cons_succ]
 refine wpAnyV_put 3 (some 154) (v := ?v3r5) rfl rfl (by kernel_rfl) (by kernel_rfl) (by kernel_rfl) (by kernel_rfl) (by kernel_rfl) (fun _ _ _ h => h) (Or.inl ⟨by rfl, ?hy3r5⟩) hHeld ?rest3r5
 case hy3r5 => (intro w2 hSw; (try dsimp only at hSw); first | (go_simp; done) | (go_simp; with_reducible rfl))
 simp only [Act.put, List.setIfInBounds_toArray, List.set_cons_zero, List.set_cons_succ]
 refine wpAnyV_put 4 (some 155) (v := ?v4r5) rfl rfl (by kernel_rfl) (by kernel_rfl) (by kernel_rfl) (by kernel_rfl) (by kernel_rfl) (fun _ _ _ h => h) (Or.inl ⟨by rfl, ?hy4r5⟩) hHeld ?rest4r5
 case hy4r5 => (intro w2 hSw; (try dsimp only at hSw); first | (go_simp; done) | (go_simp; with_reducible rfl))
 simp only [Act.put, List.setIfInBounds_toArray, List.set_cons_zero, List.set_cons_succ]
 refine wpAnyV_put 5 (some 156) (v := ?v5r5) rfl rfl (by kernel_rfl) (by kernel_rfl) (by kernel_rfl) (by kernel_rfl) (by kernel_rfl) (fun _ _ _ h => h) (Or.inl ⟨by rfl, ?hy5r5⟩) hHeld ?rest5r5
 case hy5r5 => (intro w2 hSw; (try dsimp only at hSw); first | (go_simp; done) | (go_simp; with_reducible rfl))
 simp only [Act.put, List.setIfInBounds_toArray, List.set_cons_zero, List.set_cons_succ]
 refine wpAnyV_put 6 (some 157) (v := ?v6r5) rfl rfl (by kernel_rfl) (by kernel_rfl) (by kernel_rfl) (by kernel_rfl) (by kernel_rfl) (fun _ _ _ h => h) (Or.inl ⟨by rfl, ?hy6r5⟩) hHeld ?rest6r5
 case hy6r5 => (intro w2 hSw; (try dsimp only at hSw); first | (go_simp; done) | (go_simp; with_reducible rfl))
 simp only [Act.put, List.setIfInBounds_toArray, List.set_cons_zero, List.set_cons_succ]
 refine wpAnyV_put 7 (some 158) (v := ?v7r5) rfl rfl (by kernel_rfl) (by kernel_rfl) (by kernel_rfl) (by kernel_rfl) (by kernel_rfl) (fun _ _ _ h => h) (Or.inl ⟨by rfl, ?hy7r5⟩) hHeld ?rest7r5
 case hy7r5 => (intro w2 hSw; (try dsimp only at hSw); first | (go_simp; done) | (go_simp; with_reducible rfl))
 simp only [Act.put, List.setIfInBounds_toArray, List.set_cons_zero, List.set_cons_succ]
 refine wpAnyV_put 8 (some 159) (v := ?v8r5) rfl rfl (by kernel_rfl) (by kernel_rfl) (by kernel_rfl) (by kernel_rfl) (by kernel_rfl) (fun _ _ _ h => h) (Or.inl ⟨by rfl, ?hy8r5⟩) hHeld ?rest8r5
 case hy8r5 => (intro w2 hSw; (try dsimp only at hSw); first | (go_simp; done) | (go_simp; with_reducible rfl))
 simp only [Act.put, List.setIfInBounds_toArray, List.set_cons_zero, List.set_cons_succ]
 refine wpAnyV_put 9 (some 160) (v := ?v9r5) rfl rfl (by kernel_rfl) (by kernel_rfl) (by kernel_rfl) (by kernel_rfl) (by kernel_rfl) (fun _ _ _ h => h) (Or.inl ⟨by rfl, ?hy9r5⟩) hHeld ?rest9r5
 case hy9r5 => (intro w2 hSw; (try dsimp only at hSw); first | (go_simp; done) | (go_simp; with_reducible rfl))
 simp only [Act.put, List.setIfInBounds_toArray, List.set_cons_zero, List.set_cons_succ]
 refine wpAnyV_put 10 (some 161) (v := ?v10r5) rfl rfl (by kernel_rfl) (by kernel_rfl) (by kernel_rfl) (by kernel_rfl) (by kernel_rfl) (fun _ _ _ h => h) (Or.inl ⟨by rfl, ?hy10r5⟩) hHeld ?rest10r5
 case hy10r5 => (intro w2 hSw; (try dsimp only at hSw); first | (go_simp; done) | (go_simp; with_reducible rfl))
 simp only [Act.put, List.setIfInBounds_toArray, List.set_cons_zero, List.set_cons_succ]
 refine wpAnyV_put 11 (some 162) (v := ?v11r5) rfl rfl (by kernel_rfl) (by kernel_rfl) (by kernel_rfl) (by kernel_rfl) (by kernel_rfl) (fun _ _ _ h => h) (Or.inl ⟨by rfl, ?hy11r5⟩) hHeld ?rest11r5
 case hy11r5 => (intro w2 hSw; (try dsimp only at hSw); first | (go_simp; done) | (go_simp; with_reducible rfl))
 simp only [Act.put, List.setIfInBounds_toArray, List.set_cons_zero, List.set_cons_succ]
 refine wpAnyV_put 12 (some 163) (v := ?v12r5) rfl rfl (by kernel_rfl) (by kernel_rfl) (by kernel_rfl) (by kernel_rfl) (by kernel_rfl) (fun _ _ _ h => h) (Or.inl ⟨by rfl, ?hy12r5⟩) hHeld ?rest12r5
 case hy12r5 => (intro w2 hSw; (try dsimp only at hSw); first | (go_simp; done) | (go_simp; with_reducible rfl))
 simp only [Act.put, List.setIfInBounds_toArray, List.set_cons_zero, List.set_cons_succ]
 refine wpAnyV_put 13 (some 164) (v := ?v13r5) rfl rfl (by kernel_rfl) (by kernel_rfl) (by kernel_rfl) (by kernel_rfl) (by kernel_rfl) (fun _ _ _ h => h) (Or.inl ⟨by rfl, ?hy13r5⟩) hHeld ?rest13r5
 case hy13r5 => (intro w2 hSw; (try dsimp only at hSw); first | (go_simp; done) | (go_simp; with_reducible rfl))
 simp only [Act.put, List.setIfInBounds_toArray, List.set_cons_zero, List.set_cons_succ]
 refine wpAnyV_put 14 (some 165) (v := ?v14r5) rfl rfl (by kernel_rfl) (by kernel_rfl) (by kernel_rfl) (by kernel_rfl) (by kernel_rfl) (fun _ _ _ h => h) (Or.inl ⟨by rfl, ?hy14r5⟩) hHeld ?rest14r5
 case hy14r5 => (intro w2 hSw; (try dsimp only at hSw); first | (go_simp; done) | (go_simp; with_reducible rfl))
 simp only [Act.put, List.setIfInBounds_toArray, List.set_cons_zero, List.set_cons_succ]
 refine wpAnyV_any 16 (some 167) (v := ?v16r5) rfl rfl (by kernel_rfl) (by kernel_rfl) (by kernel_rfl) (by kernel_rfl) (fun _ _ _ h => h) (Or.inl ⟨by rfl, ?hy16r5⟩) hHeld ?rest16r5
 case hy16r5 => (intro w2 hSw; (try dsimp only at hSw); first | (go_simp; done) | (go_simp; with_reducible rfl))
 simp only [Act.put, List.setIfInBounds_toArray, List.set_cons_zero, List.set_cons_succ]
 refine wpAnyV_any 17 (some 168) (v := ?v17r5) rfl rfl (by kernel_rfl) (by kernel_rfl) (by kernel_rfl) (by kernel_rfl) (fun _ _ _ h => h) (Or.inl ⟨by rfl, ?hy17r5⟩) hHeld ?rest17r5
 case hy17r5 => (intro w2 hSw; (try dsimp only at hSw); first | (go_simp; done) | (go_simp; with_reducible rfl))
 simp only [Act.put, List.setIfInBounds_toArray, List.set_cons_zero, List.set_cons_succ]
 refine wpAnyV_one (i := 15) (by kernel_rfl) rfl (fun K15 hK15 => ?_)
 go_simp
 refine (HCA.out _ (by (repeat (first | exact Below.refl _ _ | assumption | refine Below.drew ?_ | refine bT ?_ _ | refine bS ?_ _ | refine bA ?_ _)))).mono ?_
 rintro e W2 ⟨rfl, hr3⟩
 have HR3 := hidX hr3
 have hHeld := HCS2.out _ _ (by (repeat (first | exact Below.refl _ _ | assumption | refine Below.drew ?_ | refine bT ?_ _ | refine bS ?_ _ | refine bA ?_ _))) hr3.2
 clear hr3
 refine hK15.out _ _ (fun _ => hHeld) (fun _ => ?_)
 clear hK15 K15
 try simp only [Act.put, List.setIfInBounds_toArray, List.set_cons_zero, List.set_cons_succ]
 refine wpAnyV_any 18 (some 169) (v := ?v18r5) rfl rfl (by kernel_rfl) (by kernel_rfl) (by kernel_rfl) (by kernel_rfl) (fun _ _ _ h => h) (Or.inl ⟨by rfl, ?hy18r5⟩) hHeld ?rest18r5
 case hy18r5 => (intro w2 hSw; (try dsimp only at hSw); first | (go_simp; done) | (go_simp; with_reducible rfl))
 simp only [Act.put, List.setIfInBounds_toArray, List.set_cons_zero, List.set_cons_succ]
 obtain ⟨hq3, S3, hp3⟩ := (HJ.out.below (by (repeat (first | exact Below.refl _ _ | assumption | refine Below.drew ?_ | refine bT ?_ _ | refine bS ?_ _ | refine bA ?_ _)))).recTo HR3.out
 have HP3 := hidX hp3
 have HQ3 := hidX ((ButP.of (S := D) (bl_trans HBX.out HBX.out.size (show Below X1.heap.size X1 _ by (repeat (first | exact Below.refl _ _ | assumption | refine Below.drew ?_ | refine bT ?_ _ | refine bS ?_ _ | refine bA ?_ _))))).trans hq3 (fun _ e => Or.inl e))
 have r0 := hp3.reg hdn
 have fr := free_of_blk hp3.blk (2 + dn)
 generalize r.regs.getD dn 0 = vd at r0
 clear hq3 hp3 HR3
 refine wpAnyV_one (i := 19) (by kernel_rfl) rfl (fun K19 hK19 => ?_)
 go_simp
 refine hK19.out _ _ (fun h => absurd rfl h) (fun _ => ?_)
 clear hK19 K19 hHeld
 try simp only [Act.put, List.setIfInBounds_toArray, List.set_cons_zero, List.set_cons_succ]
 refine wpAnyV_done (by kernel_rfl) ?_ _
 obtain ⟨hq4, hp4⟩ := HP3.out.put hdn y
 generalize W2.setCell ⟨wb, 2 + dn, none⟩ (.int .i64 y) = W3 at hq4 hp4 ⊢
 have q0 := hp4.nxt (k := 0) (by decide)
 have f0 := free_of_blk hp4.blk (11 + 0)
 have q1 := hp4.nxt (k := 1) (by decide)
 have f1 := free_of_blk hp4.blk (11 + 1)
 have q2 := hp4.nxt (k := 2) (by decide)
 have f2 := free_of_blk hp4.blk (11 + 2)
 have q3 := hp4.nxt (k := 3) (by decide)
 have f3 := free_of_blk hp4.blk (11 + 3)
 have hp4n := hp4.nl
 have HP4 := hidX hp4
 have HQ4 := hidX (HQ3.out.trans hq4 (fun b e => e.elim Or.inl (fun e => Or.inr (by have := HBX.out.size; simp at e; omega))))
 clear hp4 hq4 hp4n r0 fr
 go_wp2
 refine bodyPost_ret (results_none rfl _ _ _) rfl ?_
 have hz := HP4.out.zero
 rw [HRR.out]
 refine ⟨HQ4.out.trans hz.1 (fun b e => e.elim Or.inl (fun e => Or.inr (by have := HBX.out.size; simp at e; omega))), rfl, _, fun hh => ?_, (hz.2.mono (fun b e => e.elim Or.inl (fun e => Or.inr (by have := HBX.out.size; simp at e; omega)))).e⟩
 by_cases hc : ans.length ≤ s.calls.length
 ·exfalso
  unfold callR at hh
  rw [if_pos hc] at hh
  exact absurd hh (by simp only; decide)
 ·have hy := HYY.out
  rw [if_neg hc] at hy ⊢
  rw [hy]; rfl
end
end Go.Proofs.YtimccbilkjjakaaDoor
