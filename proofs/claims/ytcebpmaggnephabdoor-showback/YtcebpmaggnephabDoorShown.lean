/-
  Our own: the law's own small expression as text; how long a program's text is.
-/
import Derived.Test.YtcebpmaggnephabDoorShowPg
import Derived.Test.YtcebpmaggnephabDoorShowSize
import Derived.Test.YtcebpmaggnephabDoorTreeClo
namespace Go.Proofs.YtcebpmaggnephabDoor
open Go.RowKit

theorem short_prog : ∀ (P : List Fu), (∀ f ∈ P, PF f) → (textP P).length ≤ 50 * (showP P).length
  | [], _ => by simp [textP, itP, bytesI]
  | f :: r, h => by
    obtain ⟨h1, h2, h3, h4⟩ := h f (by simp)
    have i1 := short_prog r (fun g hg => h g (List.mem_cons_of_mem _ hg))
    have i2 := name_short h1
    have i3 := textPs_short f.params h2
    have i4 := short_stmts f.body 1 h3 (by omega)
    have e1 : textP (f :: r) = textF f ++ textP r := by unfold textP textF; rw [itP, bytesI_append]
    rw [e1, textF_eq, showP, showF]
    simp only [lineT, blkT, List.length_append, List.length_cons, List.length_nil, List.length_replicate]
    omega
theorem prog_len : ∀ (P : List Fu), P.length ≤ (textP P).length
  | [] => Nat.zero_le _
  | f :: r => by
    have i1 := prog_len r
    have e1 : textP (f :: r) = textF f ++ textP r := by unfold textP textF; rw [itP, bytesI_append]
    rw [e1, textF_eq]
    simp only [lineT, List.length_append, List.length_cons, List.length_nil, List.length_replicate]
    omega
def shE : Ex := .mk kTwo 0 [42] [.mk kTwo 0 [43] [.mk kName 0 [97] [], .mk kNumE 2 [] []], .mk kOne 0 [45] [.mk kName 0 [98] []]]
theorem shE_name (c : UInt8) (h : nameG [c]) : PE (.mk kName 0 [c] []) := ⟨Or.inr (Or.inl ⟨rfl, rfl, h, rfl⟩), trivial⟩
theorem shE_PE : PE shE := by
  have ha : nameG [97] := ⟨by decide, by decide⟩
  have hb : nameG [98] := ⟨by decide, by decide⟩
  have h2 : PE (.mk kNumE 2 [] []) := ⟨Or.inl ⟨rfl, ⟨2, rfl, by decide⟩, rfl, rfl⟩, trivial⟩
  have hp : PE (.mk kTwo 0 [43] [.mk kName 0 [97] [], .mk kNumE 2 [] []]) := ⟨Or.inr (Or.inr (Or.inr (Or.inr ⟨rfl, rfl, by decide, _, _, rfl⟩))), shE_name 97 ha, h2, trivial⟩
  have ho : PE (.mk kOne 0 [45] [.mk kName 0 [98] []]) := ⟨Or.inr (Or.inr (Or.inr (Or.inl ⟨rfl, rfl, Or.inl rfl, _, rfl⟩))), shE_name 98 hb, trivial⟩
  exact ⟨Or.inr (Or.inr (Or.inr (Or.inr ⟨rfl, rfl, by decide, _, _, rfl⟩))), hp, ho, trivial⟩
theorem shE_text : textE shE = [40, 97, 32, 43, 32, 50, 41, 32, 42, 32, 45, 98] := by decide +kernel
theorem rep_leaf (A : Nat → Prop) (w : World) (k m : List UInt8) (n : Int) : RepE A w (.mk k n m []) [.string ⟨k.toArray⟩, .int .i64 n, .string ⟨m.toArray⟩, .slice none 0 0] := ⟨_, [], rfl, row_nil A w, rfl⟩
def shA : Array Value := #[.string ⟨kName.toArray⟩, .int .i64 0, .string ⟨#[97]⟩, .slice none 0 0, .string ⟨kNumE.toArray⟩, .int .i64 2, .string ⟨#[]⟩, .slice none 0 0]
def shB : Array Value := #[.string ⟨kName.toArray⟩, .int .i64 0, .string ⟨#[98]⟩, .slice none 0 0]
def shC (g h : Nat) : Array Value := #[.string ⟨kTwo.toArray⟩, .int .i64 0, .string ⟨#[43]⟩, .slice (some ⟨g, 0, none⟩) 2 2, .string ⟨kOne.toArray⟩, .int .i64 0, .string ⟨#[45]⟩, .slice (some ⟨h, 0, none⟩) 1 1]
/-- Where the law's own small expression lies. -/
theorem shE_rep {w : World} {g h i : Nat} {t1 t2 t3 : TypeId} (hg : w.heap[g]? = some (.cells shA t1 (0, 0))) (hh : w.heap[h]? = some (.cells shB t2 (0, 0))) (hi : w.heap[i]? = some (.cells (shC g h) t3 (0, 0))) :
    RepE (fun b => b < w.heap.size) w shE [.string ⟨kTwo.toArray⟩, .int .i64 0, .string ⟨#[42]⟩, .slice (some ⟨i, 0, none⟩) 2 2] := by
  refine ⟨_, (shC g h).toList, rfl, ⟨_, _, rfl, fun _ => ⟨i, rfl, ⟨heap_lt hi, Nat.le_refl _⟩, fun j u hu => cell_row hi j u hu⟩⟩, ?_⟩
  refine ⟨_, _, show (shC g h).toList = [.string ⟨kTwo.toArray⟩, .int .i64 0, .string ⟨#[43]⟩, .slice (some ⟨g, 0, none⟩) 2 2] ++ [.string ⟨kOne.toArray⟩, .int .i64 0, .string ⟨#[45]⟩, .slice (some ⟨h, 0, none⟩) 1 1] from rfl, ?_, _, _, (List.append_nil _).symm, ?_, rfl⟩
  · refine ⟨_, shA.toList, rfl, ⟨_, _, rfl, fun _ => ⟨g, rfl, ⟨heap_lt hg, Nat.le_refl _⟩, fun j u hu => cell_row hg j u hu⟩⟩, ?_⟩
    exact ⟨_, _, show shA.toList = [.string ⟨kName.toArray⟩, .int .i64 0, .string ⟨#[97]⟩, .slice none 0 0] ++ [.string ⟨kNumE.toArray⟩, .int .i64 2, .string ⟨#[]⟩, .slice none 0 0] from rfl, rep_leaf _ _ kName [97] 0, _, _, (List.append_nil _).symm, rep_leaf _ _ kNumE [] 2, rfl⟩
  · refine ⟨_, shB.toList, rfl, ⟨_, _, rfl, fun _ => ⟨h, rfl, ⟨heap_lt hh, Nat.le_refl _⟩, fun j u hu => cell_row hh j u hu⟩⟩, ?_⟩
    exact ⟨_, _, (List.append_nil _).symm, rep_leaf _ _ kName [98] 0, rfl⟩
set_option maxRecDepth 100000 in
set_option maxHeartbeats 1000000 in
theorem shown_any {w : World} {a : Nat → Addr} (hG : ShG w.heap.size w a) : Calls Tryd.prog 11 #[] w fun e w' => e = .returned (.bool true) ∧ Below w.heap.size w w' := by
  have hb1 := box_blkS w shA 55
  have hb2 := box_blkS (w.alloc (.cells shA 55)) shB 55
  have hb3 := box_blkS ((w.alloc (.cells shA 55)).alloc (.cells shB 55)) (shC w.heap.size (w.heap.size + 1)) 55
  have hb4 := box_blkS (((w.alloc (.cells shA 55)).alloc (.cells shB 55)).alloc (.cells (shC w.heap.size (w.heap.size + 1)) 55)) #[.string ⟨kTwo.toArray⟩, .int .i64 0, .string ⟨#[42]⟩, .slice (some ⟨w.heap.size + 1 + 1, 0, none⟩) 2 2] 55
  have g1 := heap_alloc_new w (.cells shA 55)
  have g2 := heap_alloc_new (w.alloc (.cells shA 55)) (.cells shB 55)
  have g3 := heap_alloc_new ((w.alloc (.cells shA 55)).alloc (.cells shB 55)) (.cells (shC w.heap.size (w.heap.size + 1)) 55)
  have hall := bl_trans (bl_trans (bl_trans hb1 hb1.size hb2) (bl_trans hb1 hb1.size hb2).size hb3) (bl_trans (bl_trans hb1 hb1.size hb2) (bl_trans hb1 hb1.size hb2).size hb3).size hb4
  have k1 := (hb4.block _ (by first | (simp; done) | (simp; omega))).trans ((hb3.block _ (by first | (simp; done) | (simp; omega))).trans ((hb2.block _ (by simp)).trans g1))
  have k2 := (hb4.block _ (by first | (simp; done) | (simp; omega))).trans ((hb3.block _ (by simp)).trans g2)
  have k3 := (hb4.block _ (by simp)).trans g3
  rw [size_alloc] at k2
  rw [size_alloc, size_alloc] at k3
  have hc := exprS_any shE_PE ((hG.on hall).up hall.size) (Nat.le_refl _) (shE_rep k1 k2 k3) (by rw [shE_text]; decide)
  rw [shE_text] at hc
  have HC := hidS hc
  have HA := hidS hall
  clear hc hall k1 k2 k3 g1 g2 g3 hb1 hb2 hb3 hb4 hG
  go_enter Tryd.func11, Tryd.ntmps11
  go_wp2_with fail
  refine HC.out.mono ?_
  rintro e w2 ⟨rfl, hb2⟩
  go_wp2
  go_ret
  exact ⟨rfl, bl_trans HA.out HA.out.size hb2⟩
end Go.Proofs.YtcebpmaggnephabDoor
