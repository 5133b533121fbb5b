/- Our own: texts joined: AlDoT, AlDoE. -/
import Derived.Test.YtimccbilkjjakaaDoorZWkDo
namespace Go.Proofs.YtimccbilkjjakaaDoor
open Go.RowKit
section
variable {D D' : Nat → Prop} {S : Nat → Prop} {X Y : World} {wb rb sb : Nat} {argv ansv : Value} {s : Rst} {most steps : Int} {r : Ra} {A : Nat → Prop}
set_option maxRecDepth 100000 in
set_option maxHeartbeats 4000000 in
theorem ado_tick (h : AkJ D S X wb rb sb argv ansv s most steps r) (hA : ∀ b, A b → b < X.heap.size ∧ ¬ D b) {args ans : List Int} (hag : XRow A X argv args.length (intsG args)) (han : XRow A X ansv ans.length (intsG ans)) (hal : ans.length ≤ 100000) (hgl : args.length ≤ 1000) (hts : 0 ≤ s.tks ∧ s.tks ≤ 1000000000) (hol : s.out.length ≤ 1000) {x : Li} (hx : DoL args.length r.slots.length x) (hf : x.kind = gTick) :
  Calls Tryd.prog 42 #[.pointer (some ⟨wb, 0, none⟩), .agg #[.string ⟨x.kind.toArray⟩, .int .i64 x.d, .int .i64 x.a, .int .i64 x.b, .int .i64 x.num, .string ⟨x.name.toArray⟩]] X fun e w' => ADo D X wb rb sb argv ansv most steps (insL args ans most x s r) e w' := by
 obtain ⟨kind, d, a, b, num, name⟩ := x
 obtain rfl : kind = ([116, 105, 99, 107] : List UInt8) := hf
 have hr : insL args ans most ⟨[116, 105, 99, 107], d, a, b, num, name⟩ s r = (tickR most s, r) := by unfold insL; exact (if_neg (show ¬ ([116, 105, 99, 107] : List UInt8) = gParam by decide)).trans ((if_neg (show ¬ ([116, 105, 99, 107] : List UInt8) = gConst by decide)).trans ((if_neg (show ¬ ([116, 105, 99, 107] : List UInt8) = gOne by decide)).trans ((if_neg (show ¬ ([116, 105, 99, 107] : List UInt8) = gTwo by decide)).trans ((if_neg (show ¬ ([116, 105, 99, 107] : List UInt8) = lMove by decide)).trans ((if_neg (show ¬ ([116, 105, 99, 107] : List UInt8) = lLoad by decide)).trans ((if_neg (show ¬ ([116, 105, 99, 107] : List UInt8) = lStore by decide)).trans ((if_neg (show ¬ ([116, 105, 99, 107] : List UInt8) = lArg by decide)).trans ((if_neg (show ¬ ([116, 105, 99, 107] : List UInt8) = gCall by decide)).trans ((if_pos (show ([116, 105, 99, 107] : List UInt8) = gTick from rfl)).trans rfl)))))))))
 generalize insL args ans most ⟨[116, 105, 99, 107], d, a, b, num, name⟩ s r = RR at hr ⊢
 obtain ⟨X1, hX1⟩ : ∃ X1, X1 = X.alloc (.cells #[.string ⟨([116, 105, 99, 107] : List UInt8).toArray⟩, .int .i64 d, .int .i64 a, .int .i64 b, .int .i64 num, .string ⟨name.toArray⟩] 52) := ⟨_, rfl⟩
 have hbx : Below X.heap.size X X1 := by rw [hX1]; exact box_blk X #[.string ⟨([116, 105, 99, 107] : List UInt8).toArray⟩, .int .i64 d, .int .i64 a, .int .i64 b, .int .i64 num, .string ⟨name.toArray⟩] 52
 have hN : X1.heap[X.heap.size]? = some (.cells #[.string ⟨([116, 105, 99, 107] : List UInt8).toArray⟩, .int .i64 d, .int .i64 a, .int .i64 b, .int .i64 num, .string ⟨name.toArray⟩] 52 (0, 0)) := by rw [hX1]; exact heap_alloc_new _ _
 have hxl : X.heap.size < X1.heap.size := heap_lt hN
 have HJ := hidX (h.below hbx)
 have n1 : X1.cell? ⟨X.heap.size, 1, none⟩ = some (.int .i64 d) := cell_of_blk hN 1
 have n2 : X1.cell? ⟨X.heap.size, 2, none⟩ = some (.int .i64 a) := cell_of_blk hN 2
 have n3 : X1.cell? ⟨X.heap.size, 3, none⟩ = some (.int .i64 b) := cell_of_blk hN 3
 have n4 : X1.cell? ⟨X.heap.size, 4, none⟩ = some (.int .i64 num) := cell_of_blk hN 4
 have n5 : X1.cell? ⟨X.heap.size, 5, none⟩ = some (.string ⟨name.toArray⟩) := cell_of_blk hN 5
 have HRR := hidX hr
 have HX1 := hidX hX1
 have HBX := hidX hbx
 have HAX := hidX hA
 have HUN := hidX (And.intro hag (And.intro han (And.intro hal (And.intro hgl (And.intro hts (And.intro hol hx))))))
 clear HUN
 have m0 := h.ptr
 have hwl := h.wl
 have HTI := hidX fun Y (hY : Below X1.heap.size X1 Y) => tick_r (HJ.out.below hY).recd hts
 clear n1 n2 n3 n4 n5
 clear h hA hag han hx hr hX1 hN hbx hts hol hal
 go_enter Tryd.func42, Tryd.ntmps42
 go_wp2_with fail
 rw [← HX1.out]
 clear HX1
 refine (HTI.out _ (by (repeat (first | exact Below.refl _ _ | assumption | refine Below.drew ?_ | refine bT ?_ _ | refine bS ?_ _ | refine bA ?_ _)))).mono ?_
 rintro e w3 ⟨rfl, hr3⟩
 have HW := hidX (ado_rec (Y := X1) HBX.out HJ.out hr3 HRR.out)
 clear hr3
 go_wp2
 refine bodyPost_ret (results_none rfl _ _ _) rfl ?_
 exact HW.out
end
end Go.Proofs.YtimccbilkjjakaaDoor
namespace Go.Proofs.YtimccbilkjjakaaDoor
open Go.RowKit
section
variable {D D' : Nat → Prop} {S : Nat → Prop} {X Y : World} {wb rb sb : Nat} {argv ansv : Value} {s : Rst} {most steps : Int} {r : Ra} {A : Nat → Prop}
set_option maxRecDepth 100000 in
set_option maxHeartbeats 4000000 in
theorem ado_one (h : AkJ D S X wb rb sb argv ansv s most steps r) (hA : ∀ b, A b → b < X.heap.size ∧ ¬ D b) {args ans : List Int} (hag : XRow A X argv args.length (intsG args)) (han : XRow A X ansv ans.length (intsG ans)) (hal : ans.length ≤ 100000) (hgl : args.length ≤ 1000) (hts : 0 ≤ s.tks ∧ s.tks ≤ 1000000000) (hol : s.out.length ≤ 1000) {x : Li} (hx : DoL args.length r.slots.length x) (hf : x.kind = gOne) :
  Calls Tryd.prog 42 #[.pointer (some ⟨wb, 0, none⟩), .agg #[.string ⟨x.kind.toArray⟩, .int .i64 x.d, .int .i64 x.a, .int .i64 x.b, .int .i64 x.num, .string ⟨x.name.toArray⟩]] X fun e w' => ADo D X wb rb sb argv ansv most steps (insL args ans most x s r) e w' := by
 obtain ⟨kind, d, a, b, num, name⟩ := x
 obtain rfl : kind = ([111, 110, 101] : List UInt8) := hf
 obtain ⟨dn, rfl⟩ : ∃ k : Nat, d = (k : Int) := ⟨d.toNat, by have := (hx.one rfl).1; unfold r8 at this; simp only at this; omega⟩
 have hdn : dn < 8 := by have := (hx.one rfl).1; unfold r8 at this; simp only at this; omega
 have hdni : (dn : Int) < 8 := by omega
 obtain ⟨am, rfl⟩ : ∃ k : Nat, a = (k : Int) := ⟨a.toNat, by have := (hx.one rfl).2.1; unfold r8 at this; simp only at this; omega⟩
 have ham : am < 8 := by have := (hx.one rfl).2.1; unfold r8 at this; simp only at this; omega
 have hami : (am : Int) < 8 := by omega
 have hr : insL args ans most ⟨[111, 110, 101], (dn : Int), (am : Int), b, num, name⟩ s r = (s, r.put dn (sumV ([111, 110, 101] : List UInt8) name [r.regs.getD am 0])) := by unfold insL; exact (if_neg (show ¬ ([111, 110, 101] : List UInt8) = gParam by decide)).trans ((if_neg (show ¬ ([111, 110, 101] : List UInt8) = gConst by decide)).trans ((if_pos (show ([111, 110, 101] : List UInt8) = gOne from rfl)).trans rfl))
 generalize insL args ans most ⟨[111, 110, 101], (dn : Int), (am : Int), b, num, name⟩ s r = RR at hr ⊢
 obtain ⟨X1, hX1⟩ : ∃ X1, X1 = X.alloc (.cells #[.string ⟨([111, 110, 101] : List UInt8).toArray⟩, .int .i64 (dn : Int), .int .i64 (am : Int), .int .i64 b, .int .i64 num, .string ⟨name.toArray⟩] 52) := ⟨_, rfl⟩
 have hbx : Below X.heap.size X X1 := by rw [hX1]; exact box_blk X #[.string ⟨([111, 110, 101] : List UInt8).toArray⟩, .int .i64 (dn : Int), .int .i64 (am : Int), .int .i64 b, .int .i64 num, .string ⟨name.toArray⟩] 52
 have hN : X1.heap[X.heap.size]? = some (.cells #[.string ⟨([111, 110, 101] : List UInt8).toArray⟩, .int .i64 (dn : Int), .int .i64 (am : Int), .int .i64 b, .int .i64 num, .string ⟨name.toArray⟩] 52 (0, 0)) := by rw [hX1]; exact heap_alloc_new _ _
 have hxl : X.heap.size < X1.heap.size := heap_lt hN
 have HJ := hidX (h.below hbx)
 have n1 : X1.cell? ⟨X.heap.size, 1, none⟩ = some (.int .i64 (dn : Int)) := cell_of_blk hN 1
 have n2 : X1.cell? ⟨X.heap.size, 2, none⟩ = some (.int .i64 (am : Int)) := cell_of_blk hN 2
 have n3 : X1.cell? ⟨X.heap.size, 3, none⟩ = some (.int .i64 b) := cell_of_blk hN 3
 have n4 : X1.cell? ⟨X.heap.size, 4, none⟩ = some (.int .i64 num) := cell_of_blk hN 4
 have n5 : X1.cell? ⟨X.heap.size, 5, none⟩ = some (.string ⟨name.toArray⟩) := cell_of_blk hN 5
 have HRR := hidX hr
 have HX1 := hidX hX1
 have HBX := hidX hbx
 have HAX := hidX hA
 have HUN := hidX (And.intro hag (And.intro han (And.intro hal (And.intro hgl (And.intro hts (And.intro hol hx))))))
 clear HUN
 have hnm : name ∈ onesE := by have := hx.one rfl; simp only at this; exact this.2.2
 have r_am := HJ.out.reg ham
 generalize h_va : r.regs.getD am 0 = va at r_am HRR
 have HRE := hidX fun (Z : World) => reckonF_any gOne name [va] (X := (Z.alloc (.cells #[.int .i64 va] 3)).drew) ((arow_new1 Z va).imp (fun _ h => h) (fun _ _ => rfl)) (by left; exact ⟨rfl, rfl, hnm⟩)
 generalize hsv : sumV ([111, 110, 101] : List UInt8) name [va] = sv at HRR
 replace HRE : Hid (∀ Z : World, Calls Tryd.prog 55 #[.string ⟨([111, 110, 101] : List UInt8).toArray⟩, .string ⟨name.toArray⟩, .slice (some ⟨Z.heap.size, 0, none⟩) 1 1] (Z.alloc (.cells #[.int .i64 va] 3)).drew fun e w' => e = .returned (.tuple #[.int .i64 sv, .nilIface]) ∧ ∃ n, w' = (Z.alloc (.cells #[.int .i64 va] 3)).drew.drewN n) := hidX (fun Z => by have := HRE.out Z; rw [← hsv]; exact this)
 have HCS := hidX (show ∀ W, Below X1.heap.size X1 W → W.cell? ⟨X.heap.size, 1, none⟩ = some (.int .i64 (dn : Int)) ∧ W.cell? ⟨X.heap.size, 5, none⟩ = some (.string ⟨name.toArray⟩) ∧ W.cell? ⟨X.heap.size, 2, none⟩ = some (.int .i64 (am : Int)) ∧ W.cell? ⟨wb, 2 + am, none⟩ = some (.int .i64 va) ∧ W.cell? ⟨X.heap.size, 0, none⟩ = some (.string ⟨([111, 110, 101] : List UInt8).toArray⟩) from fun W hW => by
  have hw := HJ.out.wl
  have n0 : X1.cell? ⟨X.heap.size, 0, none⟩ = some (.string ⟨([111, 110, 101] : List UInt8).toArray⟩) := cell_of_blk hN 0
  exact ⟨(hW.cell (p := ⟨X.heap.size, 1, none⟩) hxl).trans n1, (hW.cell (p := ⟨X.heap.size, 5, none⟩) hxl).trans n5, (hW.cell (p := ⟨X.heap.size, 2, none⟩) hxl).trans n2, (hW.cell (p := ⟨wb, 2 + am, none⟩) hw).trans r_am, (hW.cell (p := ⟨X.heap.size, 0, none⟩) hxl).trans n0⟩)
 have r0 := HJ.out.reg hdn
 have fr := free_of_blk HJ.out.blk (2 + dn)
 generalize r.regs.getD dn 0 = vd at r0
 have HR0 := hidX (And.intro r0 fr)
 clear n1 n2 n3 n4 n5 r_am r0 fr hsv hnm h_va
 clear h hA hag han hx hr hX1 hN hbx hts hol hal
 go_enter Tryd.func42, Tryd.ntmps42
 go_wp2_with fail
 rw [← HX1.out]
 clear HX1
 refine wp_region_V (fun W => W.cell? ⟨X.heap.size, 1, none⟩ = some (.int .i64 (dn : Int)) ∧ W.cell? ⟨X.heap.size, 5, none⟩ = some (.string ⟨name.toArray⟩) ∧ W.cell? ⟨X.heap.size, 2, none⟩ = some (.int .i64 (am : Int)) ∧ W.cell? ⟨wb, 2 + am, none⟩ = some (.int .i64 va) ∧ W.cell? ⟨X.heap.size, 0, none⟩ = some (.string ⟨([111, 110, 101] : List UInt8).toArray⟩)) 22 (by kernel_rfl) (HCS.out _ (by (repeat (first | exact Below.refl _ _ | assumption | refine Below.drew ?_ | refine bT ?_ _ | refine bS ?_ _ | refine bA ?_ _)))) (fun hHeld => ?_)
 refine wpAnyV_put 0 (some 35) (v := ?v0r1) rfl rfl (by kernel_rfl) (by kernel_rfl) (by kernel_rfl) (by kernel_rfl) (by kernel_rfl) (fun _ _ _ h => h) (Or.inl ⟨by rfl, ?hy0r1⟩) hHeld ?rest0r1
 case hy0r1 => (intro w2 hSw; (try dsimp only at hSw); first | (go_simp; done) | (go_simp; with_reducible rfl))
 simp only [Act.put, List.setIfInBounds_toArray, List.set_cons_zero, List.set_cons_succ]
 refine wpAnyV_put 1 (some 36) (v := ?v1r1) rfl rfl (by kernel_rfl) (by kernel_rfl) (by kernel_rfl) (by kernel_rfl) (by kernel_rfl) (fun _ _ _ h => h) (Or.inl ⟨by rfl, ?hy1r1⟩) hHeld ?rest1r1
 case hy1r1 => (intro w2 hSw; (try dsimp only at hSw); first | (go_simp; done) | (go_simp; with_reducible rfl))
 simp only [Act.put, List.setIfInBounds_toArray, List.set_cons_zero, List.set_cons_succ]
 refine wpAnyV_put 2 (some 37) (v := ?v2r1) rfl rfl (by kernel_rfl) (by kernel_rfl) (by kernel_rfl) (by kernel_rfl) (by kernel_rfl) (fun _ _ _ h => h) (Or.inl ⟨by rfl, ?hy2r1⟩) hHeld ?rest2r1
 case hy2r1 => (intro w2 hSw; (try dsimp only at hSw); first | (go_simp; done) | (go_simp; with_reducible rfl))
 simp only [Act.put, List.setIfInBounds_toArray, List.set_cons_zero, List.set_cons_succ]
 refine wpAnyV_put 3 (some 38) (v := ?v3r1) rfl rfl (by kernel_rfl) (by kernel_rfl) (by kernel_rfl) (by kernel_rfl) (by kernel_rfl) (fun _ _ _ h => h) (Or.inl ⟨by rfl, ?hy3r1⟩) hHeld ?rest3r1
 case hy3r1 => (intro w2 hSw; (try dsimp only at hSw); first | (go_simp; done) | (go_simp; with_reducible rfl))
 simp only [Act.put, List.setIfInBounds_toArray, List.set_cons_zero, List.set_cons_succ]
 refine wpAnyV_put 4 (some 39) (v := ?v4r1) rfl rfl (by kernel_rfl) (by kernel_rfl) (by kernel_rfl) (by kernel_rfl) (by kernel_rfl) (fun _ _ _ h => h) (Or.inl ⟨by rfl, ?hy4r1⟩) hHeld ?rest4r1
 case hy4r1 => (intro w2 hSw; (try dsimp only at hSw); first | (go_simp; done) | (go_simp; with_reducible rfl))
 simp only [Act.put, List.setIfInBounds_toArray, List.set_cons_zero, List.set_cons_succ]
 refine wpAnyV_put 5 (some 40) (v := ?v5r1) rfl rfl (by kernel_rfl) (by kernel_rfl) (by kernel_rfl) (by kernel_rfl) (by kernel_rfl) (fun _ _ _ h => h) (Or.inl ⟨by rfl, ?hy5r1⟩) hHeld ?rest5r1
 case hy5r1 => (intro w2 hSw; (try dsimp only at hSw); first | (go_simp; done) | (go_simp; with_reducible rfl))
 simp only [Act.put, List.setIfInBounds_toArray, List.set_cons_zero, List.set_cons_succ]
 refine wpAnyV_put 6 (some 41) (v := ?v6r1) rfl rfl (by kernel_rfl) (by kernel_rfl) (by kernel_rfl) (by kernel_rfl) (by kernel_rfl) (fun _ _ _ h => h) (Or.inl ⟨by rfl, ?hy6r1⟩) hHeld ?rest6r1
 case hy6r1 => (intro w2 hSw; (try dsimp only at hSw); first | (go_simp; done) | (go_simp; with_reducible rfl))
 simp only [Act.put, List.setIfInBounds_toArray, List.set_cons_zero, List.set_cons_succ]
 refine wpAnyV_put 7 (some 42) (v := ?v7r1) rfl rfl (by kernel_rfl) (by kernel_rfl) (by kernel_rfl) (by kernel_rfl) (by kernel_rfl) (fun _ _ _ h => h) (Or.inl ⟨by rfl, ?hy7r1⟩) hHeld ?rest7r1
 case hy7r1 => (intro w2 hSw; (try dsimp only at hSw); first | (go_simp; done) | (go_simp; with_reducible rfl))
 simp only [Act.put, List.setIfInBounds_toArray, List.set_cons_zero, List.set_cons_succ]
 refine wpAnyV_put 8 (some 43) (v := ?v8r1) rfl rfl (by kernel_rfl) (by kernel_rfl) (by kernel_rfl) (by kernel_rfl) (by kernel_rfl) (fun _ _ _ h => h) (Or.inl ⟨by rfl, ?hy8r1⟩) hHeld ?rest8r1
 case hy8r1 => (intro w2 hSw; (try dsimp only at hSw); first | (go_simp; done) | (go_simp; with_reducible rfl))
 simp only [Act.put, List.setIfInBounds_toArray, List.set_cons_zero, List.set_cons_succ]
 refine wpAnyV_put 9 (some 44) (v := ?v9r1) rfl rfl (by kernel_rfl) (by kernel_rfl) (by kernel_rfl) (by kernel_rfl) (by kernel_rfl) (fun _ _ _ h => h) (Or.inl ⟨by rfl, ?hy9r1⟩) hHeld ?rest9r1
 case hy9r1 => (intro w2 hSw; (try dsimp only at hSw); first | (go_simp; done) | (go_simp; with_reducible rfl))
 simp only [Act.put, List.setIfInBounds_toArray, List.set_cons_zero, List.set_cons_succ]
 refine wpAnyV_put 10 (some 45) (v := ?v10r1) rfl rfl (by kernel_rfl) (by kernel_rfl) (by kernel_rfl) (by kernel_rfl) (by kernel_rfl) (fun _ _ _ h => h) (Or.inl ⟨by rfl, ?hy10r1⟩) hHeld ?rest10r1
 case hy10r1 => (intro w2 hSw; (try dsimp only at hSw); first | (go_simp; done) | (go_simp; with_reducible rfl))
 simp only [Act.put, List.setIfInBounds_toArray, List.set_cons_zero, List.set_cons_succ]
 refine wpAnyV_put 11 (some 46) (v := ?v11r1) rfl rfl (by kernel_rfl) (by kernel_rfl) (by kernel_rfl) (by kernel_rfl) (by kernel_rfl) (fun _ _ _ h => h) (Or.inl ⟨by rfl, ?hy11r1⟩) hHeld ?rest11r1
 case hy11r1 => (intro w2 hSw; (try dsimp only at hSw); first | (go_simp; done) | (go_simp; with_reducible rfl))
 simp only [Act.put, List.setIfInBounds_toArray, List.set_cons_zero, List.set_cons_succ]
 refine wpAnyV_put 12 (some 47) (v := ?v12r1) rfl rfl (by kernel_rfl) (by kernel_rfl) (by kernel_rfl) (by kernel_rfl) (by kernel_rfl) (fun _ _ _ h => h) (Or.inl ⟨by rfl, ?hy12r1⟩) hHeld ?rest12r1
 case hy12r1 => (intro w2 hSw; (try dsimp only at hSw); first | (go_simp; done) | (go_simp; with_reducible rfl))
 simp only [Act.put, List.setIfInBounds_toArray, List.set_cons_zero, List.set_cons_succ]
 refine wpAnyV_put 13 (some 48) (v := ?v13r1) rfl rfl (by kernel_rfl) (by kernel_rfl) (by kernel_rfl) (by kernel_rfl) (by kernel_rfl) (fun _ _ _ h => h) (Or.inl ⟨by rfl, ?hy13r1⟩) hHeld ?rest13r1
 case hy13r1 => (intro w2 hSw; (try dsimp only at hSw); first | (go_simp; done) | (go_simp; with_reducible rfl))
 simp only [Act.put, List.setIfInBounds_toArray, List.set_cons_zero, List.set_cons_succ]
 refine wpAnyV_any 19 (some 53) (v := ?v19r1) rfl rfl (by kernel_rfl) (by kernel_rfl) (by kernel_rfl) (by kernel_rfl) (fun _ _ _ h => h) (Or.inl ⟨by rfl, ?hy19r1⟩) hHeld ?rest19r1
 case hy19r1 => (intro w2 hSw; (try dsimp only at hSw); first | (go_simp; done) | (go_simp; with_reducible rfl))
 simp only [Act.put, List.setIfInBounds_toArray, List.set_cons_zero, List.set_cons_succ]
 refine wpAnyV_any 20 (some 54) (v := ?v20r1) rfl rfl (by kernel_rfl) (by kernel_rfl) (by kernel_rfl) (by kernel_rfl) (fun _ _ _ h => h) (Or.inl ⟨by rfl, ?hy20r1⟩) hHeld ?rest20r1
 case hy20r1 => (intro w2 hSw; (try dsimp only at hSw); first | (go_simp; done) | (go_simp; with_reducible rfl))
 simp only [Act.put, List.setIfInBounds_toArray, List.set_cons_zero, List.set_cons_succ]
 refine wpAnyV_one (i := 14) (by kernel_rfl) rfl (fun K14 hK14 => ?_)
 go_simp
 refine hK14.out _ _ (fun _ => ?hS14r1) (fun _ => ?_)
 case hS14r1 => exact HCS.out _ (by (repeat (first | exact Below.refl _ _ | assumption | refine Below.drew ?_ | refine bT ?_ _ | refine bS ?_ _ | refine bA ?_ _)))
 clear hK14 K14
 try simp only [Act.put, List.setIfInBounds_toArray, List.set_cons_zero, List.set_cons_succ]
 refine wpAnyV_one (i := 15) (by kernel_rfl) rfl (fun K15 hK15 => ?_)
 go_simp
 refine (HRE.out X1).mono ?_
 rintro e W2 ⟨rfl, nn, hW2⟩
 have hb2 : Below X1.heap.size X1 W2 := by rw [hW2]; exact bl_trans (show Below X1.heap.size X1 _ by (repeat (first | exact Below.refl _ _ | assumption | refine Below.drew ?_ | refine bT ?_ _ | refine bS ?_ _ | refine bA ?_ _))) (by first | exact Nat.le_refl _ | (simp; done)) (drewN_below' _ _ _)
 have hHeld := HCS.out _ hb2
 clear hW2
 refine hK15.out _ _ (fun _ => hHeld) (fun _ => ?_)
 clear hK15 K15
 try simp only [Act.put, List.setIfInBounds_toArray, List.set_cons_zero, List.set_cons_succ]
 refine wpAnyV_any 16 (some 34) (v := ?v16r1) rfl rfl (by kernel_rfl) (by kernel_rfl) (by kernel_rfl) (by kernel_rfl) (fun _ _ _ h => h) (Or.inl ⟨by rfl, ?hy16r1⟩) hHeld ?rest16r1
 case hy16r1 => (intro w2 hSw; (try dsimp only at hSw); first | (go_simp; done) | (go_simp; with_reducible rfl))
 simp only [Act.put, List.setIfInBounds_toArray, List.set_cons_zero, List.set_cons_succ]
 refine wpAnyV_any 17 (some 51) (v := ?v17r1) rfl rfl (by kernel_rfl) (by kernel_rfl) (by kernel_rfl) (by kernel_rfl) (fun _ _ _ h => h) (Or.inl ⟨by rfl, ?hy17r1⟩) hHeld ?rest17r1
 case hy17r1 => (intro w2 hSw; (try dsimp only at hSw); first | (go_simp; done) | (go_simp; with_reducible rfl))
 simp only [Act.put, List.setIfInBounds_toArray, List.set_cons_zero, List.set_cons_succ]
 refine wpAnyV_any 18 (some 52) (v := ?v18r1) rfl rfl (by kernel_rfl) (by kernel_rfl) (by kernel_rfl) (by kernel_rfl) (fun _ _ _ h => h) (Or.inl ⟨by rfl, ?hy18r1⟩) hHeld ?rest18r1
 case hy18r1 => (intro w2 hSw; (try dsimp only at hSw); first | (go_simp; done) | (go_simp; with_reducible rfl))
 simp only [Act.put, List.setIfInBounds_toArray, List.set_cons_zero, List.set_cons_succ]
 refine wpAnyV_any 21 (some 55) (v := ?v21r1) rfl rfl (by kernel_rfl) (by kernel_rfl) (by kernel_rfl) (by kernel_rfl) (fun _ _ _ h => h) (Or.inl ⟨by rfl, ?hy21r1⟩) hHeld ?rest21r1
 case hy21r1 => (intro w2 hSw; (try dsimp only at hSw); first | (go_simp; done) | (go_simp; with_reducible rfl))
 simp only [Act.put, List.setIfInBounds_toArray, List.set_cons_zero, List.set_cons_succ]
 have r0 := (hb2.cell (p := ⟨wb, 2 + dn, none⟩) HJ.out.wl).trans HR0.out.1
 have fr := (hb2.frozen (p := ⟨wb, 2 + dn, none⟩) HJ.out.wl).trans HR0.out.2
 refine wpAnyV_one (i := 22) (by kernel_rfl) rfl (fun K22 hK22 => ?_)
 go_simp
 refine hK22.out _ _ (fun h => absurd rfl h) (fun _ => ?_)
 clear hK22 K22 hHeld
 try simp only [Act.put, List.setIfInBounds_toArray, List.set_cons_zero, List.set_cons_succ]
 refine wpAnyV_done (by kernel_rfl) ?_ _
 go_wp2
 refine bodyPost_ret (results_none rfl _ _ _) rfl ?_
 exact ado_of (bl_trans HBX.out HBX.out.size hb2) ((HJ.out.below hb2).put hdn sv) HRR.out
end
end Go.Proofs.YtimccbilkjjakaaDoor
