/- Our own: texts joined: AlDoF. -/
import Derived.Test.YtimccbilkjjakaaDoorZWkDo
namespace Go.Proofs.YtimccbilkjjakaaDoor
open Go.RowKit
section
variable {D D' : Nat → Prop} {S : Nat → Prop} {X Y : World} {wb rb sb : Nat} {argv ansv : Value} {s : Rst} {most steps : Int} {r : Ra} {A : Nat → Prop}
set_option maxRecDepth 100000 in
set_option maxHeartbeats 4000000 in
theorem ado_two (h : AkJ D S X wb rb sb argv ansv s most steps r) (hA : ∀ b, A b → b < X.heap.size ∧ ¬ D b) {args ans : List Int} (hag : XRow A X argv args.length (intsG args)) (han : XRow A X ansv ans.length (intsG ans)) (hal : ans.length ≤ 100000) (hgl : args.length ≤ 1000) (hts : 0 ≤ s.tks ∧ s.tks ≤ 1000000000) (hol : s.out.length ≤ 1000) {x : Li} (hx : DoL args.length r.slots.length x) (hf : x.kind = gTwo) :
  Calls Tryd.prog 42 #[.pointer (some ⟨wb, 0, none⟩), .agg #[.string ⟨x.kind.toArray⟩, .int .i64 x.d, .int .i64 x.a, .int .i64 x.b, .int .i64 x.num, .string ⟨x.name.toArray⟩]] X fun e w' => ADo D X wb rb sb argv ansv most steps (insL args ans most x s r) e w' := by
 obtain ⟨kind, d, a, b, num, name⟩ := x
 obtain rfl : kind = ([116, 119, 111] : List UInt8) := hf
 obtain ⟨dn, rfl⟩ : ∃ k : Nat, d = (k : Int) := ⟨d.toNat, by have := (hx.two rfl).1; unfold r8 at this; simp only at this; omega⟩
 have hdn : dn < 8 := by have := (hx.two rfl).1; unfold r8 at this; simp only at this; omega
 have hdni : (dn : Int) < 8 := by omega
 obtain ⟨am, rfl⟩ : ∃ k : Nat, a = (k : Int) := ⟨a.toNat, by have := (hx.two rfl).2.1; unfold r8 at this; simp only at this; omega⟩
 have ham : am < 8 := by have := (hx.two rfl).2.1; unfold r8 at this; simp only at this; omega
 have hami : (am : Int) < 8 := by omega
 obtain ⟨bn, rfl⟩ : ∃ k : Nat, b = (k : Int) := ⟨b.toNat, by have := (hx.two rfl).2.2.1; unfold r8 at this; simp only at this; omega⟩
 have hbn : bn < 8 := by have := (hx.two rfl).2.2.1; unfold r8 at this; simp only at this; omega
 have hbni : (bn : Int) < 8 := by omega
 have hr : insL args ans most ⟨[116, 119, 111], (dn : Int), (am : Int), (bn : Int), num, name⟩ s r = (s, r.put dn (sumV ([116, 119, 111] : List UInt8) name [r.regs.getD am 0, r.regs.getD bn 0])) := by unfold insL; exact (if_neg (show ¬ ([116, 119, 111] : List UInt8) = gParam by decide)).trans ((if_neg (show ¬ ([116, 119, 111] : List UInt8) = gConst by decide)).trans ((if_neg (show ¬ ([116, 119, 111] : List UInt8) = gOne by decide)).trans ((if_pos (show ([116, 119, 111] : List UInt8) = gTwo from rfl)).trans rfl)))
 generalize insL args ans most ⟨[116, 119, 111], (dn : Int), (am : Int), (bn : Int), num, name⟩ s r = RR at hr ⊢
 obtain ⟨X1, hX1⟩ : ∃ X1, X1 = X.alloc (.cells #[.string ⟨([116, 119, 111] : List UInt8).toArray⟩, .int .i64 (dn : Int), .int .i64 (am : Int), .int .i64 (bn : Int), .int .i64 num, .string ⟨name.toArray⟩] 52) := ⟨_, rfl⟩
 have hbx : Below X.heap.size X X1 := by rw [hX1]; exact box_blk X #[.string ⟨([116, 119, 111] : List UInt8).toArray⟩, .int .i64 (dn : Int), .int .i64 (am : Int), .int .i64 (bn : Int), .int .i64 num, .string ⟨name.toArray⟩] 52
 have hN : X1.heap[X.heap.size]? = some (.cells #[.string ⟨([116, 119, 111] : List UInt8).toArray⟩, .int .i64 (dn : Int), .int .i64 (am : Int), .int .i64 (bn : Int), .int .i64 num, .string ⟨name.toArray⟩] 52 (0, 0)) := by rw [hX1]; exact heap_alloc_new _ _
 have hxl : X.heap.size < X1.heap.size := heap_lt hN
 have HJ := hidX (h.below hbx)
 have n1 : X1.cell? ⟨X.heap.size, 1, none⟩ = some (.int .i64 (dn : Int)) := cell_of_blk hN 1
 have n2 : X1.cell? ⟨X.heap.size, 2, none⟩ = some (.int .i64 (am : Int)) := cell_of_blk hN 2
 have n3 : X1.cell? ⟨X.heap.size, 3, none⟩ = some (.int .i64 (bn : Int)) := cell_of_blk hN 3
 have n4 : X1.cell? ⟨X.heap.size, 4, none⟩ = some (.int .i64 num) := cell_of_blk hN 4
 have n5 : X1.cell? ⟨X.heap.size, 5, none⟩ = some (.string ⟨name.toArray⟩) := cell_of_blk hN 5
 have HRR := hidX hr
 have HX1 := hidX hX1
 have HBX := hidX hbx
 have HAX := hidX hA
 have HUN := hidX (And.intro hag (And.intro han (And.intro hal (And.intro hgl (And.intro hts (And.intro hol hx))))))
 clear HUN
 have hnm : name ∈ twosE := by have := hx.two rfl; simp only at this; exact this.2.2.2
 have r_am := HJ.out.reg ham
 generalize h_va : r.regs.getD am 0 = va at r_am HRR
 have r_bn := HJ.out.reg hbn
 generalize h_vb : r.regs.getD bn 0 = vb at r_bn HRR
 have HRE := hidX fun (Z : World) => reckonF_any gTwo name [va, vb] (X := (Z.alloc (.cells #[.int .i64 va, .int .i64 vb] 3)).drew) ((arow_new2 Z va vb).imp (fun _ h => h) (fun _ _ => rfl)) (by right; exact ⟨rfl, rfl, hnm⟩)
 generalize hsv : sumV ([116, 119, 111] : List UInt8) name [va, vb] = sv at HRR
 replace HRE : Hid (∀ Z : World, Calls Tryd.prog 55 #[.string ⟨([116, 119, 111] : List UInt8).toArray⟩, .string ⟨name.toArray⟩, .slice (some ⟨Z.heap.size, 0, none⟩) 2 2] (Z.alloc (.cells #[.int .i64 va, .int .i64 vb] 3)).drew fun e w' => e = .returned (.tuple #[.int .i64 sv, .nilIface]) ∧ ∃ n, w' = (Z.alloc (.cells #[.int .i64 va, .int .i64 vb] 3)).drew.drewN n) := hidX (fun Z => by have := HRE.out Z; rw [← hsv]; exact this)
 have HCS := hidX (show ∀ W, Below X1.heap.size X1 W → W.cell? ⟨X.heap.size, 1, none⟩ = some (.int .i64 (dn : Int)) ∧ W.cell? ⟨X.heap.size, 5, none⟩ = some (.string ⟨name.toArray⟩) ∧ W.cell? ⟨X.heap.size, 2, none⟩ = some (.int .i64 (am : Int)) ∧ W.cell? ⟨wb, 2 + am, none⟩ = some (.int .i64 va) ∧ W.cell? ⟨X.heap.size, 0, none⟩ = some (.string ⟨([116, 119, 111] : List UInt8).toArray⟩) ∧ W.cell? ⟨X.heap.size, 3, none⟩ = some (.int .i64 (bn : Int)) ∧ W.cell? ⟨wb, 2 + bn, none⟩ = some (.int .i64 vb) from fun W hW => by
  have hw := HJ.out.wl
  have n0 : X1.cell? ⟨X.heap.size, 0, none⟩ = some (.string ⟨([116, 119, 111] : List UInt8).toArray⟩) := cell_of_blk hN 0
  exact ⟨(hW.cell (p := ⟨X.heap.size, 1, none⟩) hxl).trans n1, (hW.cell (p := ⟨X.heap.size, 5, none⟩) hxl).trans n5, (hW.cell (p := ⟨X.heap.size, 2, none⟩) hxl).trans n2, (hW.cell (p := ⟨wb, 2 + am, none⟩) hw).trans r_am, (hW.cell (p := ⟨X.heap.size, 0, none⟩) hxl).trans n0, (hW.cell (p := ⟨X.heap.size, 3, none⟩) hxl).trans n3, (hW.cell (p := ⟨wb, 2 + bn, none⟩) hw).trans r_bn⟩)
 have r0 := HJ.out.reg hdn
 have fr := free_of_blk HJ.out.blk (2 + dn)
 generalize r.regs.getD dn 0 = vd at r0
 have HR0 := hidX (And.intro r0 fr)
 clear n1 n2 n3 n4 n5 r_am r0 fr hsv hnm r_bn h_va h_vb
 clear h hA hag han hx hr hX1 hN hbx hts hol hal
 go_enter Tryd.func42, Tryd.ntmps42
 go_wp2_with fail
 rw [← HX1.out]
 clear HX1
 refine wp_region_V (fun W => W.cell? ⟨X.heap.size, 1, none⟩ = some (.int .i64 (dn : Int)) ∧ W.cell? ⟨X.heap.size, 5, none⟩ = some (.string ⟨name.toArray⟩) ∧ W.cell? ⟨X.heap.size, 2, none⟩ = some (.int .i64 (am : Int)) ∧ W.cell? ⟨wb, 2 + am, none⟩ = some (.int .i64 va) ∧ W.cell? ⟨X.heap.size, 0, none⟩ = some (.string ⟨([116, 119, 111] : List UInt8).toArray⟩) ∧ W.cell? ⟨X.heap.size, 3, none⟩ = some (.int .i64 (bn : Int)) ∧ W.cell? ⟨wb, 2 + bn, none⟩ = some (.int .i64 vb)) 29 (by kernel_rfl) (HCS.out _ (by (repeat (first | exact Below.refl _ _ | assumption | refine Below.drew ?_ | refine bT ?_ _ | refine bS ?_ _ | refine bA ?_ _)))) (fun hHeld => ?_)
 refine wpAnyV_put 0 (some 59) (v := ?v0r3) rfl rfl (by kernel_rfl) (by kernel_rfl) (by kernel_rfl) (by kernel_rfl) (by kernel_rfl) (fun _ _ _ h => h) (Or.inl ⟨by rfl, ?hy0r3⟩) hHeld ?rest0r3
 case hy0r3 => (intro w2 hSw; (try dsimp only at hSw); first | (go_simp; done) | (go_simp; with_reducible rfl))
 simp only [Act.put, List.setIfInBounds_toArray, List.set_cons_zero, List.set_cons_succ]
 refine wpAnyV_put 1 (some 60) (v := ?v1r3) rfl rfl (by kernel_rfl) (by kernel_rfl) (by kernel_rfl) (by kernel_rfl) (by kernel_rfl) (fun _ _ _ h => h) (Or.inl ⟨by rfl, ?hy1r3⟩) hHeld ?rest1r3
 case hy1r3 => (intro w2 hSw; (try dsimp only at hSw); first | (go_simp; done) | (go_simp; with_reducible rfl))
 simp only [Act.put, List.setIfInBounds_toArray, List.set_cons_zero, List.set_cons_succ]
 refine wpAnyV_put 2 (some 61) (v := ?v2r3) rfl rfl (by kernel_rfl) (by kernel_rfl) (by kernel_rfl) (by kernel_rfl) (by kernel_rfl) (fun _ _ _ h => h) (Or.inl ⟨by rfl, ?hy2r3⟩) hHeld ?rest2r3
 case hy2r3 => (intro w2 hSw; (try dsimp only at hSw); first | (go_simp; done) | (go_simp; with_reducible rfl))
 simp only [Act.put, List.setIfInBounds_toArray, List.set_cons_zero, List.set_cons_succ]
 refine wpAnyV_put 3 (some 62) (v := ?v3r3) rfl rfl (by kernel_rfl) (by kernel_rfl) (by kernel_rfl) (by kernel_rfl) (by kernel_rfl) (fun _ _ _ h => h) (Or.inl ⟨by rfl, ?hy3r3⟩) hHeld ?rest3r3
 case hy3r3 => (intro w2 hSw; (try dsimp only at hSw); first | (go_simp; done) | (go_simp; with_reducible rfl))
 simp only [Act.put, List.setIfInBounds_toArray, List.set_cons_zero, List.set_cons_succ]
 refine wpAnyV_put 4 (some 63) (v := ?v4r3) rfl rfl (by kernel_rfl) (by kernel_rfl) (by kernel_rfl) (by kernel_rfl) (by kernel_rfl) (fun _ _ _ h => h) (Or.inl ⟨by rfl, ?hy4r3⟩) hHeld ?rest4r3
 case hy4r3 => (intro w2 hSw; (try dsimp only at hSw); first | (go_simp; done) | (go_simp; with_reducible rfl))
 simp only [Act.put, List.setIfInBounds_toArray, List.set_cons_zero, List.set_cons_succ]
 refine wpAnyV_put 5 (some 64) (v := ?v5r3) rfl rfl (by kernel_rfl) (by kernel_rfl) (by kernel_rfl) (by kernel_rfl) (by kernel_rfl) (fun _ _ _ h => h) (Or.inl ⟨by rfl, ?hy5r3⟩) hHeld ?rest5r3
 case hy5r3 => (intro w2 hSw; (try dsimp only at hSw); first | (go_simp; done) | (go_simp; with_reducible rfl))
 simp only [Act.put, List.setIfInBounds_toArray, List.set_cons_zero, List.set_cons_succ]
 refine wpAnyV_put 6 (some 65) (v := ?v6r3) rfl rfl (by kernel_rfl) (by kernel_rfl) (by kernel_rfl) (by kernel_rfl) (by kernel_rfl) (fun _ _ _ h => h) (Or.inl ⟨by rfl, ?hy6r3⟩) hHeld ?rest6r3
 case hy6r3 => (intro w2 hSw; (try dsimp only at hSw); first | (go_simp; done) | (go_simp; with_reducible rfl))
 simp only [Act.put, List.setIfInBounds_toArray, List.set_cons_zero, List.set_cons_succ]
 refine wpAnyV_put 7 (some 66) (v := ?v7r3) rfl rfl (by kernel_rfl) (by kernel_rfl) (by kernel_rfl) (by kernel_rfl) (by kernel_rfl) (fun _ _ _ h => h) (Or.inl ⟨by rfl, ?hy7r3⟩) hHeld ?rest7r3
 case hy7r3 => (intro w2 hSw; (try dsimp only at hSw); first | (go_simp; done) | (go_simp; with_reducible rfl))
 simp only [Act.put, List.setIfInBounds_toArray, List.set_cons_zero, List.set_cons_succ]
 refine wpAnyV_put 8 (some 67) (v := ?v8r3) rfl rfl (by kernel_rfl) (by kernel_rfl) (by kernel_rfl) (by kernel_rfl) (by kernel_rfl) (fun _ _ _ h => h) (Or.inl ⟨by rfl, ?hy8r3⟩) hHeld ?rest8r3
 case hy8r3 => (intro w2 hSw; (try dsimp only at hSw); first | (go_simp; done) | (go_simp; with_reducible rfl))
 simp only [Act.put, List.setIfInBounds_toArray, List.set_cons_zero, List.set_cons_succ]
 refine wpAnyV_put 9 (some 68) (v := ?v9r3) rfl rfl (by kernel_rfl) (by kernel_rfl) (by kernel_rfl) (by kernel_rfl) (by kernel_rfl) (fun _ _ _ h => h) (Or.inl ⟨by rfl, ?hy9r3⟩) hHeld ?rest9r3
 case hy9r3 => (intro w2 hSw; (try dsimp only at hSw); first | (go_simp; done) | (go_simp; with_reducible rfl))
 simp only [Act.put, List.setIfInBounds_toArray, List.set_cons_zero, List.set_cons_succ]
 refine wpAnyV_put 10 (some 69) (v := ?v10r3) rfl rfl (by kernel_rfl) (by kernel_rfl) (by kernel_rfl) (by kernel_rfl) (by kernel_rfl) (fun _ _ _ h => h) (Or.inl ⟨by rfl, ?hy10r3⟩) hHeld ?rest10r3
 case hy10r3 => (intro w2 hSw; (try dsimp only at hSw); first | (go_simp; done) | (go_simp; with_reducible rfl))
 simp only [Act.put, List.setIfInBounds_toArray, List.set_cons_zero, List.set_cons_succ]
 refine wpAnyV_put 11 (some 70) (v := ?v11r3) rfl rfl (by kernel_rfl) (by kernel_rfl) (by kernel_rfl) (by kernel_rfl) (by kernel_rfl) (fun _ _ _ h => h) (Or.inl ⟨by rfl, ?hy11r3⟩) hHeld ?rest11r3
 case hy11r3 => (intro w2 hSw; (try dsimp only at hSw); first | (go_simp; done) | (go_simp; with_reducible rfl))
 simp only [Act.put, List.setIfInBounds_toArray, List.set_cons_zero, List.set_cons_succ]
 refine wpAnyV_put 12 (some 71) (v := ?v12r3) rfl rfl (by kernel_rfl) (by kernel_rfl) (by kernel_rfl) (by kernel_rfl) (by kernel_rfl) (fun _ _ _ h => h) (Or.inl ⟨by rfl, ?hy12r3⟩) hHeld ?rest12r3
 case hy12r3 => (intro w2 hSw; (try dsimp only at hSw); first | (go_simp; done) | (go_simp; with_reducible rfl))
 simp only [Act.put, List.setIfInBounds_toArray, List.set_cons_zero, List.set_cons_succ]
 refine wpAnyV_put 13 (some 72) (v := ?v13r3) rfl rfl (by kernel_rfl) (by kernel_rfl) (by kernel_rfl) (by kernel_rfl) (by kernel_rfl) (fun _ _ _ h => h) (Or.inl ⟨by rfl, ?hy13r3⟩) hHeld ?rest13r3
 case hy13r3 => (intro w2 hSw; (try dsimp only at hSw); first | (go_simp; done) | (go_simp; with_reducible rfl))
 simp only [Act.put, List.setIfInBounds_toArray, List.set_cons_zero, List.set_cons_succ]
 refine wpAnyV_put 14 (some 73) (v := ?v14r3) rfl rfl (by kernel_rfl) (by kernel_rfl) (by kernel_rfl) (by kernel_rfl) (by kernel_rfl) (fun _ _ _ h => h) (Or.inl ⟨by rfl, ?hy14r3⟩) hHeld ?rest14r3
 case hy14r3 => (intro w2 hSw; (try dsimp only at hSw); first | (go_simp; done) | (go_simp; with_reducible rfl))
 simp only [Act.put, List.setIfInBounds_toArray, List.set_cons_zero, List.set_cons_succ]
 refine wpAnyV_put 15 (some 74) (v := ?v15r3) rfl rfl (by kernel_rfl) (by kernel_rfl) (by kernel_rfl) (by kernel_rfl) (by kernel_rfl) (fun _ _ _ h => h) (Or.inl ⟨by rfl, ?hy15r3⟩) hHeld ?rest15r3
 case hy15r3 => (intro w2 hSw; (try dsimp only at hSw); first | (go_simp; done) | (go_simp; with_reducible rfl))
 simp only [Act.put, List.setIfInBounds_toArray, List.set_cons_zero, List.set_cons_succ]
 refine wpAnyV_put 16 (some 75) (v := ?v16r3) rfl rfl (by kernel_rfl) (by kernel_rfl) (by kernel_rfl) (by kernel_rfl) (by kernel_rfl) (fun _ _ _ h => h) (Or.inl ⟨by rfl, ?hy16r3⟩) hHeld ?rest16r3
 case hy16r3 => (intro w2 hSw; (try dsimp only at hSw); first | (go_simp; done) | (go_simp; with_reducible rfl))
 simp only [Act.put, List.setIfInBounds_toArray, List.set_cons_zero, List.set_cons_succ]
 refine wpAnyV_put 17 (some 76) (v := ?v17r3) rfl rfl (by kernel_rfl) (by kernel_rfl) (by kernel_rfl) (by kernel_rfl) (by kernel_rfl) (fun _ _ _ h => h) (Or.inl ⟨by rfl, ?hy17r3⟩) hHeld ?rest17r3
 case hy17r3 => (intro w2 hSw; (try dsimp only at hSw); first | (go_simp; done) | (go_simp; with_reducible rfl))
 simp only [Act.put, List.setIfInBounds_toArray, List.set_cons_zero, List.set_cons_succ]
 refine wpAnyV_put 18 (some 77) (v := ?v18r3) rfl rfl (by kernel_rfl) (by kernel_rfl) (by kernel_rfl) (by kernel_rfl) (by kernel_rfl) (fun _ _ _ h => h) (Or.inl ⟨by rfl, ?hy18r3⟩) hHeld ?rest18r3
 case hy18r3 => (intro w2 hSw; (try dsimp only at hSw); first | (go_simp; done) | (go_simp; with_reducible rfl))
 simp only [Act.put, List.setIfInBounds_toArray, List.set_cons_zero, List.set_cons_succ]
 refine wpAnyV_put 19 (some 78) (v := ?v19r3) rfl rfl (by kernel_rfl) (by kernel_rfl) (by kernel_rfl) (by kernel_rfl) (by kernel_rfl) (fun _ _ _ h => h) (Or.inl ⟨by rfl, ?hy19r3⟩) hHeld ?rest19r3
 case hy19r3 => (intro w2 hSw; (try dsimp only at hSw); first | (go_simp; done) | (go_simp; with_reducible rfl))
 simp only [Act.put, List.setIfInBounds_toArray, List.set_cons_zero, List.set_cons_succ]
 refine wpAnyV_put 20 (some 79) (v := ?v20r3) rfl rfl (by kernel_rfl) (by kernel_rfl) (by kernel_rfl) (by kernel_rfl) (by kernel_rfl) (fun _ _ _ h => h) (Or.inl ⟨by rfl, ?hy20r3⟩) hHeld ?rest20r3
 case hy20r3 => (intro w2 hSw; (try dsimp only at hSw); first | (go_simp; done) | (go_simp; with_reducible rfl))
 simp only [Act.put, List.setIfInBounds_toArray, List.set_cons_zero, List.set_cons_succ]
 refine wpAnyV_any 26 (some 84) (v := ?v26r3) rfl rfl (by kernel_rfl) (by kernel_rfl) (by kernel_rfl) (by kernel_rfl) (fun _ _ _ h => h) (Or.inl ⟨by rfl, ?hy26r3⟩) hHeld ?rest26r3
 case hy26r3 => (intro w2 hSw; (try dsimp only at hSw); first | (go_simp; done) | (go_simp; with_reducible rfl))
 simp only [Act.put, List.setIfInBounds_toArray, List.set_cons_zero, List.set_cons_succ]
 refine wpAnyV_any 27 (some 85) (v := ?v27r3) rfl rfl (by kernel_rfl) (by kernel_rfl) (by kernel_rfl) (by kernel_rfl) (fun _ _ _ h => h) (Or.inl ⟨by rfl, ?hy27r3⟩) hHeld ?rest27r3
 case hy27r3 => (intro w2 hSw; (try dsimp only at hSw); first | (go_simp; done) | (go_simp; with_reducible rfl))
 simp only [Act.put, List.setIfInBounds_toArray, List.set_cons_zero, List.set_cons_succ]
 refine wpAnyV_one (i := 21) (by kernel_rfl) rfl (fun K21 hK21 => ?_)
 go_simp
 refine hK21.out _ _ (fun _ => ?hS21r3) (fun _ => ?_)
 case hS21r3 => exact HCS.out _ (by (repeat (first | exact Below.refl _ _ | assumption | refine Below.drew ?_ | refine bT ?_ _ | refine bS ?_ _ | refine bA ?_ _)))
 clear hK21 K21
 try simp only [Act.put, List.setIfInBounds_toArray, List.set_cons_zero, List.set_cons_succ]
 refine wpAnyV_one (i := 22) (by kernel_rfl) rfl (fun K22 hK22 => ?_)
 go_simp
 refine (HRE.out X1).mono ?_
 rintro e W2 ⟨rfl, nn, hW2⟩
 have hb2 : Below X1.heap.size X1 W2 := by rw [hW2]; exact bl_trans (show Below X1.heap.size X1 _ by (repeat (first | exact Below.refl _ _ | assumption | refine Below.drew ?_ | refine bT ?_ _ | refine bS ?_ _ | refine bA ?_ _))) (by first | exact Nat.le_refl _ | (simp; done)) (drewN_below' _ _ _)
 have hHeld := HCS.out _ hb2
 clear hW2
 refine hK22.out _ _ (fun _ => hHeld) (fun _ => ?_)
 clear hK22 K22
 try simp only [Act.put, List.setIfInBounds_toArray, List.set_cons_zero, List.set_cons_succ]
 refine wpAnyV_any 23 (some 58) (v := ?v23r3) rfl rfl (by kernel_rfl) (by kernel_rfl) (by kernel_rfl) (by kernel_rfl) (fun _ _ _ h => h) (Or.inl ⟨by rfl, ?hy23r3⟩) hHeld ?rest23r3
 case hy23r3 => (intro w2 hSw; (try dsimp only at hSw); first | (go_simp; done) | (go_simp; with_reducible rfl))
 simp only [Act.put, List.setIfInBounds_toArray, List.set_cons_zero, List.set_cons_succ]
 refine wpAnyV_any 24 (some 82) (v := ?v24r3) rfl rfl (by kernel_rfl) (by kernel_rfl) (by kernel_rfl) (by kernel_rfl) (fun _ _ _ h => h) (Or.inl ⟨by rfl, ?hy24r3⟩) hHeld ?rest24r3
 case hy24r3 => (intro w2 hSw; (try dsimp only at hSw); first | (go_simp; done) | (go_simp; with_reducible rfl))
 simp only [Act.put, List.setIfInBounds_toArray, List.set_cons_zero, List.set_cons_succ]
 refine wpAnyV_any 25 (some 83) (v := ?v25r3) rfl rfl (by kernel_rfl) (by kernel_rfl) (by kernel_rfl) (by kernel_rfl) (fun _ _ _ h => h) (Or.inl ⟨by rfl, ?hy25r3⟩) hHeld ?rest25r3
 case hy25r3 => (intro w2 hSw; (try dsimp only at hSw); first | (go_simp; done) | (go_simp; with_reducible rfl))
 simp only [Act.put, List.setIfInBounds_toArray, List.set_cons_zero, List.set_cons_succ]
 refine wpAnyV_any 28 (some 86) (v := ?v28r3) rfl rfl (by kernel_rfl) (by kernel_rfl) (by kernel_rfl) (by kernel_rfl) (fun _ _ _ h => h) (Or.inl ⟨by rfl, ?hy28r3⟩) hHeld ?rest28r3
 case hy28r3 => (intro w2 hSw; (try dsimp only at hSw); first | (go_simp; done) | (go_simp; with_reducible rfl))
 simp only [Act.put, List.setIfInBounds_toArray, List.set_cons_zero, List.set_cons_succ]
 have r0 := (hb2.cell (p := ⟨wb, 2 + dn, none⟩) HJ.out.wl).trans HR0.out.1
 have fr := (hb2.frozen (p := ⟨wb, 2 + dn, none⟩) HJ.out.wl).trans HR0.out.2
 refine wpAnyV_one (i := 29) (by kernel_rfl) rfl (fun K29 hK29 => ?_)
 go_simp
 refine hK29.out _ _ (fun h => absurd rfl h) (fun _ => ?_)
 clear hK29 K29 hHeld
 try simp only [Act.put, List.setIfInBounds_toArray, List.set_cons_zero, List.set_cons_succ]
 refine wpAnyV_done (by kernel_rfl) ?_ _
 go_wp2
 refine bodyPost_ret (results_none rfl _ _ _) rfl ?_
 exact ado_of (bl_trans HBX.out HBX.out.size hb2) ((HJ.out.below hb2).put hdn sv) HRR.out
end
end Go.Proofs.YtimccbilkjjakaaDoor
