/- Our own: texts joined: AlDoA. -/
import Derived.Test.YtimccbilkjjakaaDoorZWkDo
namespace Go.Proofs.YtimccbilkjjakaaDoor
open Go.RowKit
section
variable {D D' : Nat → Prop} {S : Nat → Prop} {X Y : World} {wb rb sb : Nat} {argv ansv : Value} {s : Rst} {most steps : Int} {r : Ra} {A : Nat → Prop}
set_option maxRecDepth 100000 in
set_option maxHeartbeats 4000000 in
theorem ado_const (h : AkJ D S X wb rb sb argv ansv s most steps r) (hA : ∀ b, A b → b < X.heap.size ∧ ¬ D b) {args ans : List Int} (hag : XRow A X argv args.length (intsG args)) (han : XRow A X ansv ans.length (intsG ans)) (hal : ans.length ≤ 100000) (hgl : args.length ≤ 1000) (hts : 0 ≤ s.tks ∧ s.tks ≤ 1000000000) (hol : s.out.length ≤ 1000) {x : Li} (hx : DoL args.length r.slots.length x) (hf : x.kind = gConst) :
  Calls Tryd.prog 42 #[.pointer (some ⟨wb, 0, none⟩), .agg #[.string ⟨x.kind.toArray⟩, .int .i64 x.d, .int .i64 x.a, .int .i64 x.b, .int .i64 x.num, .string ⟨x.name.toArray⟩]] X fun e w' => ADo D X wb rb sb argv ansv most steps (insL args ans most x s r) e w' := by
 obtain ⟨kind, d, a, b, num, name⟩ := x
 obtain rfl : kind = ([99, 111, 110, 115, 116] : List UInt8) := hf
 obtain ⟨dn, rfl⟩ : ∃ k : Nat, d = (k : Int) := ⟨d.toNat, by have := hx.const rfl; unfold r8 at this; simp only at this; omega⟩
 have hdn : dn < 8 := by have := hx.const rfl; unfold r8 at this; simp only at this; omega
 have hdni : (dn : Int) < 8 := by omega
 have hr : insL args ans most ⟨[99, 111, 110, 115, 116], (dn : Int), a, b, num, name⟩ s r = (s, r.put dn num) := by unfold insL; exact (if_neg (show ¬ ([99, 111, 110, 115, 116] : List UInt8) = gParam by decide)).trans ((if_pos (show ([99, 111, 110, 115, 116] : List UInt8) = gConst from rfl)).trans rfl)
 generalize insL args ans most ⟨[99, 111, 110, 115, 116], (dn : Int), a, b, num, name⟩ s r = RR at hr ⊢
 obtain ⟨X1, hX1⟩ : ∃ X1, X1 = X.alloc (.cells #[.string ⟨([99, 111, 110, 115, 116] : List UInt8).toArray⟩, .int .i64 (dn : Int), .int .i64 a, .int .i64 b, .int .i64 num, .string ⟨name.toArray⟩] 52) := ⟨_, rfl⟩
 have hbx : Below X.heap.size X X1 := by rw [hX1]; exact box_blk X #[.string ⟨([99, 111, 110, 115, 116] : List UInt8).toArray⟩, .int .i64 (dn : Int), .int .i64 a, .int .i64 b, .int .i64 num, .string ⟨name.toArray⟩] 52
 have hN : X1.heap[X.heap.size]? = some (.cells #[.string ⟨([99, 111, 110, 115, 116] : List UInt8).toArray⟩, .int .i64 (dn : Int), .int .i64 a, .int .i64 b, .int .i64 num, .string ⟨name.toArray⟩] 52 (0, 0)) := by rw [hX1]; exact heap_alloc_new _ _
 have hxl : X.heap.size < X1.heap.size := heap_lt hN
 have HJ := hidX (h.below hbx)
 have n1 : X1.cell? ⟨X.heap.size, 1, none⟩ = some (.int .i64 (dn : Int)) := cell_of_blk hN 1
 have n2 : X1.cell? ⟨X.heap.size, 2, none⟩ = some (.int .i64 a) := cell_of_blk hN 2
 have n3 : X1.cell? ⟨X.heap.size, 3, none⟩ = some (.int .i64 b) := cell_of_blk hN 3
 have n4 : X1.cell? ⟨X.heap.size, 4, none⟩ = some (.int .i64 num) := cell_of_blk hN 4
 have n5 : X1.cell? ⟨X.heap.size, 5, none⟩ = some (.string ⟨name.toArray⟩) := cell_of_blk hN 5
 have HRR := hidX hr
 have HX1 := hidX hX1
 have HBX := hidX hbx
 have HAX := hidX hA
 have HUN := hidX (And.intro hag (And.intro han (And.intro hal (And.intro hgl (And.intro hts (And.intro hol hx))))))
 clear HUN
 have r0 := HJ.out.reg hdn
 have fr := free_of_blk HJ.out.blk (2 + dn)
 generalize r.regs.getD dn 0 = vd at r0
 clear n2 n3 n5
 clear h hA hag han hx hr hX1 hN hbx hts hol hal
 go_enter Tryd.func42, Tryd.ntmps42
 go_wp2_with fail
 rw [← HX1.out]
 clear HX1
 go_region
 go_wp2
 refine bodyPost_ret (results_none rfl _ _ _) rfl ?_
 exact (ado_of HBX.out (HJ.out.put hdn num) HRR.out).drew
set_option maxRecDepth 100000 in
set_option maxHeartbeats 4000000 in
theorem ado_param (h : AkJ D S X wb rb sb argv ansv s most steps r) (hA : ∀ b, A b → b < X.heap.size ∧ ¬ D b) {args ans : List Int} (hag : XRow A X argv args.length (intsG args)) (han : XRow A X ansv ans.length (intsG ans)) (hal : ans.length ≤ 100000) (hgl : args.length ≤ 1000) (hts : 0 ≤ s.tks ∧ s.tks ≤ 1000000000) (hol : s.out.length ≤ 1000) {x : Li} (hx : DoL args.length r.slots.length x) (hf : x.kind = gParam) :
  Calls Tryd.prog 42 #[.pointer (some ⟨wb, 0, none⟩), .agg #[.string ⟨x.kind.toArray⟩, .int .i64 x.d, .int .i64 x.a, .int .i64 x.b, .int .i64 x.num, .string ⟨x.name.toArray⟩]] X fun e w' => ADo D X wb rb sb argv ansv most steps (insL args ans most x s r) e w' := by
 obtain ⟨kind, d, a, b, num, name⟩ := x
 obtain rfl : kind = ([112, 97, 114, 97, 109] : List UInt8) := hf
 obtain ⟨dn, rfl⟩ : ∃ k : Nat, d = (k : Int) := ⟨d.toNat, by have := (hx.param rfl).1; unfold r8 at this; simp only at this; omega⟩
 have hdn : dn < 8 := by have := (hx.param rfl).1; unfold r8 at this; simp only at this; omega
 have hdni : (dn : Int) < 8 := by omega
 obtain ⟨nn, rfl⟩ : ∃ k : Nat, num = (k : Int) := ⟨num.toNat, by have := (hx.param rfl).2; unfold r8 at this; simp only at this; omega⟩
 have hnn : nn < args.length := by have := (hx.param rfl).2; unfold r8 at this; simp only at this; omega
 have hnni : (nn : Int) < ((args.length : Nat) : Int) := by omega
 have hr : insL args ans most ⟨[112, 97, 114, 97, 109], (dn : Int), a, b, (nn : Int), name⟩ s r = (s, r.put dn (args.getD nn 0)) := by unfold insL; exact (if_pos (show ([112, 97, 114, 97, 109] : List UInt8) = gParam from rfl)).trans rfl
 generalize insL args ans most ⟨[112, 97, 114, 97, 109], (dn : Int), a, b, (nn : Int), name⟩ s r = RR at hr ⊢
 obtain ⟨X1, hX1⟩ : ∃ X1, X1 = X.alloc (.cells #[.string ⟨([112, 97, 114, 97, 109] : List UInt8).toArray⟩, .int .i64 (dn : Int), .int .i64 a, .int .i64 b, .int .i64 (nn : Int), .string ⟨name.toArray⟩] 52) := ⟨_, rfl⟩
 have hbx : Below X.heap.size X X1 := by rw [hX1]; exact box_blk X #[.string ⟨([112, 97, 114, 97, 109] : List UInt8).toArray⟩, .int .i64 (dn : Int), .int .i64 a, .int .i64 b, .int .i64 (nn : Int), .string ⟨name.toArray⟩] 52
 have hN : X1.heap[X.heap.size]? = some (.cells #[.string ⟨([112, 97, 114, 97, 109] : List UInt8).toArray⟩, .int .i64 (dn : Int), .int .i64 a, .int .i64 b, .int .i64 (nn : Int), .string ⟨name.toArray⟩] 52 (0, 0)) := by rw [hX1]; exact heap_alloc_new _ _
 have hxl : X.heap.size < X1.heap.size := heap_lt hN
 have HJ := hidX (h.below hbx)
 have n1 : X1.cell? ⟨X.heap.size, 1, none⟩ = some (.int .i64 (dn : Int)) := cell_of_blk hN 1
 have n2 : X1.cell? ⟨X.heap.size, 2, none⟩ = some (.int .i64 a) := cell_of_blk hN 2
 have n3 : X1.cell? ⟨X.heap.size, 3, none⟩ = some (.int .i64 b) := cell_of_blk hN 3
 have n4 : X1.cell? ⟨X.heap.size, 4, none⟩ = some (.int .i64 (nn : Int)) := cell_of_blk hN 4
 have n5 : X1.cell? ⟨X.heap.size, 5, none⟩ = some (.string ⟨name.toArray⟩) := cell_of_blk hN 5
 have HRR := hidX hr
 have HX1 := hidX hX1
 have HBX := hidX hbx
 have HAX := hidX hA
 have HUN := hidX (And.intro hag (And.intro han (And.intro hal (And.intro hgl (And.intro hts (And.intro hol hx))))))
 clear HUN
 obtain ⟨ad, cap, rfl⟩ := hag.is
 obtain ⟨ga, oa, e1, hga, ka⟩ := hag.int hnn
 subst e1
 have kb : X1.cell? ⟨ga, oa + nn, none⟩ = some (.int .i64 (args.getD nn 0)) := by rw [(hbx.cell (p := ⟨ga, oa + nn, none⟩) (hA ga hga).1).trans ka]; simp [hnn]
 generalize args.getD nn 0 = va at kb HRR
 have m1 := HJ.out.arg
 clear ka
 have r0 := HJ.out.reg hdn
 have fr := free_of_blk HJ.out.blk (2 + dn)
 generalize r.regs.getD dn 0 = vd at r0
 clear n2 n3 n5
 clear h hA hag han hx hr hX1 hN hbx hts hol hal
 go_enter Tryd.func42, Tryd.ntmps42
 go_wp2_with fail
 rw [← HX1.out]
 clear HX1
 go_region
 go_wp2
 refine bodyPost_ret (results_none rfl _ _ _) rfl ?_
 exact (ado_of HBX.out (HJ.out.put hdn va) HRR.out).drew
set_option maxRecDepth 100000 in
set_option maxHeartbeats 4000000 in
theorem ado_move (h : AkJ D S X wb rb sb argv ansv s most steps r) (hA : ∀ b, A b → b < X.heap.size ∧ ¬ D b) {args ans : List Int} (hag : XRow A X argv args.length (intsG args)) (han : XRow A X ansv ans.length (intsG ans)) (hal : ans.length ≤ 100000) (hgl : args.length ≤ 1000) (hts : 0 ≤ s.tks ∧ s.tks ≤ 1000000000) (hol : s.out.length ≤ 1000) {x : Li} (hx : DoL args.length r.slots.length x) (hf : x.kind = lMove) :
  Calls Tryd.prog 42 #[.pointer (some ⟨wb, 0, none⟩), .agg #[.string ⟨x.kind.toArray⟩, .int .i64 x.d, .int .i64 x.a, .int .i64 x.b, .int .i64 x.num, .string ⟨x.name.toArray⟩]] X fun e w' => ADo D X wb rb sb argv ansv most steps (insL args ans most x s r) e w' := by
 obtain ⟨kind, d, a, b, num, name⟩ := x
 obtain rfl : kind = ([109, 111, 118, 101] : List UInt8) := hf
 obtain ⟨dn, rfl⟩ : ∃ k : Nat, d = (k : Int) := ⟨d.toNat, by have := (hx.move rfl).1; unfold r8 at this; simp only at this; omega⟩
 have hdn : dn < 8 := by have := (hx.move rfl).1; unfold r8 at this; simp only at this; omega
 have hdni : (dn : Int) < 8 := by omega
 obtain ⟨am, rfl⟩ : ∃ k : Nat, a = (k : Int) := ⟨a.toNat, by have := (hx.move rfl).2; unfold r8 at this; simp only at this; omega⟩
 have ham : am < 8 := by have := (hx.move rfl).2; unfold r8 at this; simp only at this; omega
 have hami : (am : Int) < 8 := by omega
 have hr : insL args ans most ⟨[109, 111, 118, 101], (dn : Int), (am : Int), b, num, name⟩ s r = (s, r.put dn (r.regs.getD am 0)) := by unfold insL; exact (if_neg (show ¬ ([109, 111, 118, 101] : List UInt8) = gParam by decide)).trans ((if_neg (show ¬ ([109, 111, 118, 101] : List UInt8) = gConst by decide)).trans ((if_neg (show ¬ ([109, 111, 118, 101] : List UInt8) = gOne by decide)).trans ((if_neg (show ¬ ([109, 111, 118, 101] : List UInt8) = gTwo by decide)).trans ((if_pos (show ([109, 111, 118, 101] : List UInt8) = lMove from rfl)).trans rfl))))
 generalize insL args ans most ⟨[109, 111, 118, 101], (dn : Int), (am : Int), b, num, name⟩ s r = RR at hr ⊢
 obtain ⟨X1, hX1⟩ : ∃ X1, X1 = X.alloc (.cells #[.string ⟨([109, 111, 118, 101] : List UInt8).toArray⟩, .int .i64 (dn : Int), .int .i64 (am : Int), .int .i64 b, .int .i64 num, .string ⟨name.toArray⟩] 52) := ⟨_, rfl⟩
 have hbx : Below X.heap.size X X1 := by rw [hX1]; exact box_blk X #[.string ⟨([109, 111, 118, 101] : List UInt8).toArray⟩, .int .i64 (dn : Int), .int .i64 (am : Int), .int .i64 b, .int .i64 num, .string ⟨name.toArray⟩] 52
 have hN : X1.heap[X.heap.size]? = some (.cells #[.string ⟨([109, 111, 118, 101] : List UInt8).toArray⟩, .int .i64 (dn : Int), .int .i64 (am : Int), .int .i64 b, .int .i64 num, .string ⟨name.toArray⟩] 52 (0, 0)) := by rw [hX1]; exact heap_alloc_new _ _
 have hxl : X.heap.size < X1.heap.size := heap_lt hN
 have HJ := hidX (h.below hbx)
 have n1 : X1.cell? ⟨X.heap.size, 1, none⟩ = some (.int .i64 (dn : Int)) := cell_of_blk hN 1
 have n2 : X1.cell? ⟨X.heap.size, 2, none⟩ = some (.int .i64 (am : Int)) := cell_of_blk hN 2
 have n3 : X1.cell? ⟨X.heap.size, 3, none⟩ = some (.int .i64 b) := cell_of_blk hN 3
 have n4 : X1.cell? ⟨X.heap.size, 4, none⟩ = some (.int .i64 num) := cell_of_blk hN 4
 have n5 : X1.cell? ⟨X.heap.size, 5, none⟩ = some (.string ⟨name.toArray⟩) := cell_of_blk hN 5
 have HRR := hidX hr
 have HX1 := hidX hX1
 have HBX := hidX hbx
 have HAX := hidX hA
 have HUN := hidX (And.intro hag (And.intro han (And.intro hal (And.intro hgl (And.intro hts (And.intro hol hx))))))
 clear HUN
 have r_am := HJ.out.reg ham
 generalize h_va : r.regs.getD am 0 = va at r_am HRR
 have r0 := HJ.out.reg hdn
 have fr := free_of_blk HJ.out.blk (2 + dn)
 generalize r.regs.getD dn 0 = vd at r0
 clear n3 n4 n5 h_va
 clear h hA hag han hx hr hX1 hN hbx hts hol hal
 go_enter Tryd.func42, Tryd.ntmps42
 go_wp2_with fail
 rw [← HX1.out]
 clear HX1
 go_region
 go_wp2
 refine bodyPost_ret (results_none rfl _ _ _) rfl ?_
 exact (ado_of HBX.out (HJ.out.put hdn va) HRR.out).drew
set_option maxRecDepth 100000 in
set_option maxHeartbeats 4000000 in
theorem ado_load (h : AkJ D S X wb rb sb argv ansv s most steps r) (hA : ∀ b, A b → b < X.heap.size ∧ ¬ D b) {args ans : List Int} (hag : XRow A X argv args.length (intsG args)) (han : XRow A X ansv ans.length (intsG ans)) (hal : ans.length ≤ 100000) (hgl : args.length ≤ 1000) (hts : 0 ≤ s.tks ∧ s.tks ≤ 1000000000) (hol : s.out.length ≤ 1000) {x : Li} (hx : DoL args.length r.slots.length x) (hf : x.kind = lLoad) :
  Calls Tryd.prog 42 #[.pointer (some ⟨wb, 0, none⟩), .agg #[.string ⟨x.kind.toArray⟩, .int .i64 x.d, .int .i64 x.a, .int .i64 x.b, .int .i64 x.num, .string ⟨x.name.toArray⟩]] X fun e w' => ADo D X wb rb sb argv ansv most steps (insL args ans most x s r) e w' := by
 obtain ⟨kind, d, a, b, num, name⟩ := x
 obtain rfl : kind = ([108, 111, 97, 100] : List UInt8) := hf
 obtain ⟨dn, rfl⟩ : ∃ k : Nat, d = (k : Int) := ⟨d.toNat, by have := (hx.load rfl).1; unfold r8 at this; simp only at this; omega⟩
 have hdn : dn < 8 := by have := (hx.load rfl).1; unfold r8 at this; simp only at this; omega
 have hdni : (dn : Int) < 8 := by omega
 obtain ⟨nn, rfl⟩ : ∃ k : Nat, num = (k : Int) := ⟨num.toNat, by have := (hx.load rfl).2; unfold r8 at this; simp only at this; omega⟩
 have hnn : nn < r.slots.length := by have := (hx.load rfl).2; unfold r8 at this; simp only at this; omega
 have hnni : (nn : Int) < ((r.slots.length : Nat) : Int) := by omega
 have hr : insL args ans most ⟨[108, 111, 97, 100], (dn : Int), a, b, (nn : Int), name⟩ s r = (s, r.put dn (r.slots.getD nn 0)) := by unfold insL; exact (if_neg (show ¬ ([108, 111, 97, 100] : List UInt8) = gParam by decide)).trans ((if_neg (show ¬ ([108, 111, 97, 100] : List UInt8) = gConst by decide)).trans ((if_neg (show ¬ ([108, 111, 97, 100] : List UInt8) = gOne by decide)).trans ((if_neg (show ¬ ([108, 111, 97, 100] : List UInt8) = gTwo by decide)).trans ((if_neg (show ¬ ([108, 111, 97, 100] : List UInt8) = lMove by decide)).trans ((if_pos (show ([108, 111, 97, 100] : List UInt8) = lLoad from rfl)).trans rfl)))))
 generalize insL args ans most ⟨[108, 111, 97, 100], (dn : Int), a, b, (nn : Int), name⟩ s r = RR at hr ⊢
 obtain ⟨X1, hX1⟩ : ∃ X1, X1 = X.alloc (.cells #[.string ⟨([108, 111, 97, 100] : List UInt8).toArray⟩, .int .i64 (dn : Int), .int .i64 a, .int .i64 b, .int .i64 (nn : Int), .string ⟨name.toArray⟩] 52) := ⟨_, rfl⟩
 have hbx : Below X.heap.size X X1 := by rw [hX1]; exact box_blk X #[.string ⟨([108, 111, 97, 100] : List UInt8).toArray⟩, .int .i64 (dn : Int), .int .i64 a, .int .i64 b, .int .i64 (nn : Int), .string ⟨name.toArray⟩] 52
 have hN : X1.heap[X.heap.size]? = some (.cells #[.string ⟨([108, 111, 97, 100] : List UInt8).toArray⟩, .int .i64 (dn : Int), .int .i64 a, .int .i64 b, .int .i64 (nn : Int), .string ⟨name.toArray⟩] 52 (0, 0)) := by rw [hX1]; exact heap_alloc_new _ _
 have hxl : X.heap.size < X1.heap.size := heap_lt hN
 have HJ := hidX (h.below hbx)
 have n1 : X1.cell? ⟨X.heap.size, 1, none⟩ = some (.int .i64 (dn : Int)) := cell_of_blk hN 1
 have n2 : X1.cell? ⟨X.heap.size, 2, none⟩ = some (.int .i64 a) := cell_of_blk hN 2
 have n3 : X1.cell? ⟨X.heap.size, 3, none⟩ = some (.int .i64 b) := cell_of_blk hN 3
 have n4 : X1.cell? ⟨X.heap.size, 4, none⟩ = some (.int .i64 (nn : Int)) := cell_of_blk hN 4
 have n5 : X1.cell? ⟨X.heap.size, 5, none⟩ = some (.string ⟨name.toArray⟩) := cell_of_blk hN 5
 have HRR := hidX hr
 have HX1 := hidX hX1
 have HBX := hidX hbx
 have HAX := hidX hA
 have HUN := hidX (And.intro hag (And.intro han (And.intro hal (And.intro hgl (And.intro hts (And.intro hol hx))))))
 clear HUN
 have kb := HJ.out.slot hnn
 have m1 := HJ.out.slots
 have hzl := HJ.out.zl
 generalize r.slots.getD nn 0 = va at kb HRR
 have r0 := HJ.out.reg hdn
 have fr := free_of_blk HJ.out.blk (2 + dn)
 generalize r.regs.getD dn 0 = vd at r0
 clear n2 n3 n5
 clear h hA hag han hx hr hX1 hN hbx hts hol hal
 go_enter Tryd.func42, Tryd.ntmps42
 go_wp2_with fail
 rw [← HX1.out]
 clear HX1
 go_region
 go_wp2
 refine bodyPost_ret (results_none rfl _ _ _) rfl ?_
 exact (ado_of HBX.out (HJ.out.put hdn va) HRR.out).drew
set_option maxRecDepth 100000 in
set_option maxHeartbeats 4000000 in
theorem ado_store (h : AkJ D S X wb rb sb argv ansv s most steps r) (hA : ∀ b, A b → b < X.heap.size ∧ ¬ D b) {args ans : List Int} (hag : XRow A X argv args.length (intsG args)) (han : XRow A X ansv ans.length (intsG ans)) (hal : ans.length ≤ 100000) (hgl : args.length ≤ 1000) (hts : 0 ≤ s.tks ∧ s.tks ≤ 1000000000) (hol : s.out.length ≤ 1000) {x : Li} (hx : DoL args.length r.slots.length x) (hf : x.kind = lStore) :
  Calls Tryd.prog 42 #[.pointer (some ⟨wb, 0, none⟩), .agg #[.string ⟨x.kind.toArray⟩, .int .i64 x.d, .int .i64 x.a, .int .i64 x.b, .int .i64 x.num, .string ⟨x.name.toArray⟩]] X fun e w' => ADo D X wb rb sb argv ansv most steps (insL args ans most x s r) e w' := by
 obtain ⟨kind, d, a, b, num, name⟩ := x
 obtain rfl : kind = ([115, 116, 111, 114, 101] : List UInt8) := hf
 obtain ⟨am, rfl⟩ : ∃ k : Nat, a = (k : Int) := ⟨a.toNat, by have := (hx.store rfl).1; unfold r8 at this; simp only at this; omega⟩
 have ham : am < 8 := by have := (hx.store rfl).1; unfold r8 at this; simp only at this; omega
 have hami : (am : Int) < 8 := by omega
 obtain ⟨nn, rfl⟩ : ∃ k : Nat, num = (k : Int) := ⟨num.toNat, by have := (hx.store rfl).2; unfold r8 at this; simp only at this; omega⟩
 have hnn : nn < r.slots.length := by have := (hx.store rfl).2; unfold r8 at this; simp only at this; omega
 have hnni : (nn : Int) < ((r.slots.length : Nat) : Int) := by omega
 have hr : insL args ans most ⟨[115, 116, 111, 114, 101], d, (am : Int), b, (nn : Int), name⟩ s r = (s, { r with slots := r.slots.set nn (r.regs.getD am 0) }) := by unfold insL; exact (if_neg (show ¬ ([115, 116, 111, 114, 101] : List UInt8) = gParam by decide)).trans ((if_neg (show ¬ ([115, 116, 111, 114, 101] : List UInt8) = gConst by decide)).trans ((if_neg (show ¬ ([115, 116, 111, 114, 101] : List UInt8) = gOne by decide)).trans ((if_neg (show ¬ ([115, 116, 111, 114, 101] : List UInt8) = gTwo by decide)).trans ((if_neg (show ¬ ([115, 116, 111, 114, 101] : List UInt8) = lMove by decide)).trans ((if_neg (show ¬ ([115, 116, 111, 114, 101] : List UInt8) = lLoad by decide)).trans ((if_pos (show ([115, 116, 111, 114, 101] : List UInt8) = lStore from rfl)).trans rfl))))))
 generalize insL args ans most ⟨[115, 116, 111, 114, 101], d, (am : Int), b, (nn : Int), name⟩ s r = RR at hr ⊢
 obtain ⟨X1, hX1⟩ : ∃ X1, X1 = X.alloc (.cells #[.string ⟨([115, 116, 111, 114, 101] : List UInt8).toArray⟩, .int .i64 d, .int .i64 (am : Int), .int .i64 b, .int .i64 (nn : Int), .string ⟨name.toArray⟩] 52) := ⟨_, rfl⟩
 have hbx : Below X.heap.size X X1 := by rw [hX1]; exact box_blk X #[.string ⟨([115, 116, 111, 114, 101] : List UInt8).toArray⟩, .int .i64 d, .int .i64 (am : Int), .int .i64 b, .int .i64 (nn : Int), .string ⟨name.toArray⟩] 52
 have hN : X1.heap[X.heap.size]? = some (.cells #[.string ⟨([115, 116, 111, 114, 101] : List UInt8).toArray⟩, .int .i64 d, .int .i64 (am : Int), .int .i64 b, .int .i64 (nn : Int), .string ⟨name.toArray⟩] 52 (0, 0)) := by rw [hX1]; exact heap_alloc_new _ _
 have hxl : X.heap.size < X1.heap.size := heap_lt hN
 have HJ := hidX (h.below hbx)
 have n1 : X1.cell? ⟨X.heap.size, 1, none⟩ = some (.int .i64 d) := cell_of_blk hN 1
 have n2 : X1.cell? ⟨X.heap.size, 2, none⟩ = some (.int .i64 (am : Int)) := cell_of_blk hN 2
 have n3 : X1.cell? ⟨X.heap.size, 3, none⟩ = some (.int .i64 b) := cell_of_blk hN 3
 have n4 : X1.cell? ⟨X.heap.size, 4, none⟩ = some (.int .i64 (nn : Int)) := cell_of_blk hN 4
 have n5 : X1.cell? ⟨X.heap.size, 5, none⟩ = some (.string ⟨name.toArray⟩) := cell_of_blk hN 5
 have HRR := hidX hr
 have HX1 := hidX hX1
 have HBX := hidX hbx
 have HAX := hidX hA
 have HUN := hidX (And.intro hag (And.intro han (And.intro hal (And.intro hgl (And.intro hts (And.intro hol hx))))))
 clear HUN
 have r_am := HJ.out.reg ham
 generalize h_va : r.regs.getD am 0 = va at r_am HRR
 have kb := HJ.out.slot hnn
 have fr := free_of_blk HJ.out.slt nn
 have m1 := HJ.out.slots
 have hzl := HJ.out.zl
 generalize r.slots.getD nn 0 = vb at kb
 clear n1 n3 n5 h_va
 clear h hA hag han hx hr hX1 hN hbx hts hol hal
 go_enter Tryd.func42, Tryd.ntmps42
 go_wp2_with fail
 rw [← HX1.out]
 clear HX1
 go_region
 go_wp2
 refine bodyPost_ret (results_none rfl _ _ _) rfl ?_
 exact (ado_of HBX.out (HJ.out.keepS nn va) HRR.out).drew
set_option maxRecDepth 100000 in
set_option maxHeartbeats 4000000 in
theorem ado_arg (h : AkJ D S X wb rb sb argv ansv s most steps r) (hA : ∀ b, A b → b < X.heap.size ∧ ¬ D b) {args ans : List Int} (hag : XRow A X argv args.length (intsG args)) (han : XRow A X ansv ans.length (intsG ans)) (hal : ans.length ≤ 100000) (hgl : args.length ≤ 1000) (hts : 0 ≤ s.tks ∧ s.tks ≤ 1000000000) (hol : s.out.length ≤ 1000) {x : Li} (hx : DoL args.length r.slots.length x) (hf : x.kind = lArg) :
  Calls Tryd.prog 42 #[.pointer (some ⟨wb, 0, none⟩), .agg #[.string ⟨x.kind.toArray⟩, .int .i64 x.d, .int .i64 x.a, .int .i64 x.b, .int .i64 x.num, .string ⟨x.name.toArray⟩]] X fun e w' => ADo D X wb rb sb argv ansv most steps (insL args ans most x s r) e w' := by
 obtain ⟨kind, d, a, b, num, name⟩ := x
 obtain rfl : kind = ([97, 114, 103] : List UInt8) := hf
 obtain ⟨am, rfl⟩ : ∃ k : Nat, a = (k : Int) := ⟨a.toNat, by have := (hx.arg rfl).1; unfold r8 at this; simp only at this; omega⟩
 have ham : am < 8 := by have := (hx.arg rfl).1; unfold r8 at this; simp only at this; omega
 have hami : (am : Int) < 8 := by omega
 obtain ⟨nn, rfl⟩ : ∃ k : Nat, num = (k : Int) := ⟨num.toNat, by have := (hx.arg rfl).2; unfold r8 at this; simp only at this; omega⟩
 have hnn : nn < 4 := by have := (hx.arg rfl).2; unfold r8 at this; simp only at this; omega
 have hnni : (nn : Int) < 4 := by omega
 have hr : insL args ans most ⟨[97, 114, 103], d, (am : Int), b, (nn : Int), name⟩ s r = (s, { r with next := r.next.set nn (r.regs.getD am 0) }) := by unfold insL; exact (if_neg (show ¬ ([97, 114, 103] : List UInt8) = gParam by decide)).trans ((if_neg (show ¬ ([97, 114, 103] : List UInt8) = gConst by decide)).trans ((if_neg (show ¬ ([97, 114, 103] : List UInt8) = gOne by decide)).trans ((if_neg (show ¬ ([97, 114, 103] : List UInt8) = gTwo by decide)).trans ((if_neg (show ¬ ([97, 114, 103] : List UInt8) = lMove by decide)).trans ((if_neg (show ¬ ([97, 114, 103] : List UInt8) = lLoad by decide)).trans ((if_neg (show ¬ ([97, 114, 103] : List UInt8) = lStore by decide)).trans ((if_pos (show ([97, 114, 103] : List UInt8) = lArg from rfl)).trans rfl)))))))
 generalize insL args ans most ⟨[97, 114, 103], d, (am : Int), b, (nn : Int), name⟩ s r = RR at hr ⊢
 obtain ⟨X1, hX1⟩ : ∃ X1, X1 = X.alloc (.cells #[.string ⟨([97, 114, 103] : List UInt8).toArray⟩, .int .i64 d, .int .i64 (am : Int), .int .i64 b, .int .i64 (nn : Int), .string ⟨name.toArray⟩] 52) := ⟨_, rfl⟩
 have hbx : Below X.heap.size X X1 := by rw [hX1]; exact box_blk X #[.string ⟨([97, 114, 103] : List UInt8).toArray⟩, .int .i64 d, .int .i64 (am : Int), .int .i64 b, .int .i64 (nn : Int), .string ⟨name.toArray⟩] 52
 have hN : X1.heap[X.heap.size]? = some (.cells #[.string ⟨([97, 114, 103] : List UInt8).toArray⟩, .int .i64 d, .int .i64 (am : Int), .int .i64 b, .int .i64 (nn : Int), .string ⟨name.toArray⟩] 52 (0, 0)) := by rw [hX1]; exact heap_alloc_new _ _
 have hxl : X.heap.size < X1.heap.size := heap_lt hN
 have HJ := hidX (h.below hbx)
 have n1 : X1.cell? ⟨X.heap.size, 1, none⟩ = some (.int .i64 d) := cell_of_blk hN 1
 have n2 : X1.cell? ⟨X.heap.size, 2, none⟩ = some (.int .i64 (am : Int)) := cell_of_blk hN 2
 have n3 : X1.cell? ⟨X.heap.size, 3, none⟩ = some (.int .i64 b) := cell_of_blk hN 3
 have n4 : X1.cell? ⟨X.heap.size, 4, none⟩ = some (.int .i64 (nn : Int)) := cell_of_blk hN 4
 have n5 : X1.cell? ⟨X.heap.size, 5, none⟩ = some (.string ⟨name.toArray⟩) := cell_of_blk hN 5
 have HRR := hidX hr
 have HX1 := hidX hX1
 have HBX := hidX hbx
 have HAX := hidX hA
 have HUN := hidX (And.intro hag (And.intro han (And.intro hal (And.intro hgl (And.intro hts (And.intro hol hx))))))
 clear HUN
 have r_am := HJ.out.reg ham
 generalize h_va : r.regs.getD am 0 = va at r_am HRR
 have kb := HJ.out.nxt hnn
 have fr := free_of_blk HJ.out.blk (11 + nn)
 generalize r.next.getD nn 0 = vb at kb
 clear n1 n3 n5 h_va
 clear h hA hag han hx hr hX1 hN hbx hts hol hal
 go_enter Tryd.func42, Tryd.ntmps42
 go_wp2_with fail
 rw [← HX1.out]
 clear HX1
 go_region
 go_wp2
 refine bodyPost_ret (results_none rfl _ _ _) rfl ?_
 exact (ado_of HBX.out (HJ.out.told nn va) HRR.out).drew
set_option maxRecDepth 100000 in
set_option maxHeartbeats 4000000 in
theorem ado_print (h : AkJ D S X wb rb sb argv ansv s most steps r) (hA : ∀ b, A b → b < X.heap.size ∧ ¬ D b) {args ans : List Int} (hag : XRow A X argv args.length (intsG args)) (han : XRow A X ansv ans.length (intsG ans)) (hal : ans.length ≤ 100000) (hgl : args.length ≤ 1000) (hts : 0 ≤ s.tks ∧ s.tks ≤ 1000000000) (hol : s.out.length ≤ 1000) {x : Li} (hx : DoL args.length r.slots.length x) (hf : x.kind = gPrint) :
  Calls Tryd.prog 42 #[.pointer (some ⟨wb, 0, none⟩), .agg #[.string ⟨x.kind.toArray⟩, .int .i64 x.d, .int .i64 x.a, .int .i64 x.b, .int .i64 x.num, .string ⟨x.name.toArray⟩]] X fun e w' => ADo D X wb rb sb argv ansv most steps (insL args ans most x s r) e w' := by
 obtain ⟨kind, d, a, b, num, name⟩ := x
 obtain rfl : kind = ([112, 114, 105, 110, 116] : List UInt8) := hf
 obtain ⟨am, rfl⟩ : ∃ k : Nat, a = (k : Int) := ⟨a.toNat, by have := hx.print rfl; unfold r8 at this; simp only at this; omega⟩
 have ham : am < 8 := by have := hx.print rfl; unfold r8 at this; simp only at this; omega
 have hami : (am : Int) < 8 := by omega
 have hr : insL args ans most ⟨[112, 114, 105, 110, 116], d, (am : Int), b, num, name⟩ s r = (printR (r.regs.getD am 0) s, r) := by unfold insL; exact (if_neg (show ¬ ([112, 114, 105, 110, 116] : List UInt8) = gParam by decide)).trans ((if_neg (show ¬ ([112, 114, 105, 110, 116] : List UInt8) = gConst by decide)).trans ((if_neg (show ¬ ([112, 114, 105, 110, 116] : List UInt8) = gOne by decide)).trans ((if_neg (show ¬ ([112, 114, 105, 110, 116] : List UInt8) = gTwo by decide)).trans ((if_neg (show ¬ ([112, 114, 105, 110, 116] : List UInt8) = lMove by decide)).trans ((if_neg (show ¬ ([112, 114, 105, 110, 116] : List UInt8) = lLoad by decide)).trans ((if_neg (show ¬ ([112, 114, 105, 110, 116] : List UInt8) = lStore by decide)).trans ((if_neg (show ¬ ([112, 114, 105, 110, 116] : List UInt8) = lArg by decide)).trans ((if_neg (show ¬ ([112, 114, 105, 110, 116] : List UInt8) = gCall by decide)).trans ((if_neg (show ¬ ([112, 114, 105, 110, 116] : List UInt8) = gTick by decide)).trans ((if_pos (show ([112, 114, 105, 110, 116] : List UInt8) = gPrint from rfl)).trans rfl))))))))))
 generalize insL args ans most ⟨[112, 114, 105, 110, 116], d, (am : Int), b, num, name⟩ s r = RR at hr ⊢
 obtain ⟨X1, hX1⟩ : ∃ X1, X1 = X.alloc (.cells #[.string ⟨([112, 114, 105, 110, 116] : List UInt8).toArray⟩, .int .i64 d, .int .i64 (am : Int), .int .i64 b, .int .i64 num, .string ⟨name.toArray⟩] 52) := ⟨_, rfl⟩
 have hbx : Below X.heap.size X X1 := by rw [hX1]; exact box_blk X #[.string ⟨([112, 114, 105, 110, 116] : List UInt8).toArray⟩, .int .i64 d, .int .i64 (am : Int), .int .i64 b, .int .i64 num, .string ⟨name.toArray⟩] 52
 have hN : X1.heap[X.heap.size]? = some (.cells #[.string ⟨([112, 114, 105, 110, 116] : List UInt8).toArray⟩, .int .i64 d, .int .i64 (am : Int), .int .i64 b, .int .i64 num, .string ⟨name.toArray⟩] 52 (0, 0)) := by rw [hX1]; exact heap_alloc_new _ _
 have hxl : X.heap.size < X1.heap.size := heap_lt hN
 have HJ := hidX (h.below hbx)
 have n1 : X1.cell? ⟨X.heap.size, 1, none⟩ = some (.int .i64 d) := cell_of_blk hN 1
 have n2 : X1.cell? ⟨X.heap.size, 2, none⟩ = some (.int .i64 (am : Int)) := cell_of_blk hN 2
 have n3 : X1.cell? ⟨X.heap.size, 3, none⟩ = some (.int .i64 b) := cell_of_blk hN 3
 have n4 : X1.cell? ⟨X.heap.size, 4, none⟩ = some (.int .i64 num) := cell_of_blk hN 4
 have n5 : X1.cell? ⟨X.heap.size, 5, none⟩ = some (.string ⟨name.toArray⟩) := cell_of_blk hN 5
 have HRR := hidX hr
 have HX1 := hidX hX1
 have HBX := hidX hbx
 have HAX := hidX hA
 have HUN := hidX (And.intro hag (And.intro han (And.intro hal (And.intro hgl (And.intro hts (And.intro hol hx))))))
 clear HUN
 have r_am := HJ.out.reg ham
 generalize h_va : r.regs.getD am 0 = va at r_am HRR
 have m0 := HJ.out.ptr
 have HPR := hidX fun Y (hY : Below X1.heap.size X1 Y) => print_r (HJ.out.below hY).recd hol va
 clear n1 n3 n4 n5 h_va
 clear h hA hag han hx hr hX1 hN hbx hts hol hal
 go_enter Tryd.func42, Tryd.ntmps42
 go_wp2_with fail
 rw [← HX1.out]
 clear HX1
 go_region_with (refine (HPR.out _ (by (repeat (first | exact Below.refl _ _ | assumption | refine Below.drew ?_ | refine bT ?_ _ | refine bS ?_ _ | refine bA ?_ _)))).mono ?_; rintro e w3 ⟨rfl, hr3⟩; have HW := hidX (ado_rec (bl_trans HBX.out HBX.out.size (show Below X1.heap.size X1 _ by (repeat (first | exact Below.refl _ _ | assumption | refine Below.drew ?_ | refine bT ?_ _ | refine bS ?_ _ | refine bA ?_ _)))) (HJ.out.below (by (repeat (first | exact Below.refl _ _ | assumption | refine Below.drew ?_ | refine bT ?_ _ | refine bS ?_ _ | refine bA ?_ _)))) hr3 HRR.out); clear hr3)
 all_goals (
  go_wp2
  refine bodyPost_ret (results_none rfl _ _ _) rfl ?_
  exact HW.out)
end
end Go.Proofs.YtimccbilkjjakaaDoor
