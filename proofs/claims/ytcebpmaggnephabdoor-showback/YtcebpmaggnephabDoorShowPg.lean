/-
  Our own: package show: a program as text: the walk.
-/
import Derived.Test.YtcebpmaggnephabDoorShowPr
import Derived.Deep.RegionHeld3
namespace Go.Proofs.YtcebpmaggnephabDoor
open Go.RowKit

def textF (f : Fu) : List UInt8 := bytesI (itF f)
theorem textF_eq (f : Fu) : textF f = lineT 0 ([102, 110, 32] ++ f.name ++ [40] ++ textPs f.params ++ [41, 32, 123]) ++ (textSs 1 f.body ++ lineT 0 [125]) := by
  unfold textF textPs textSs itF
  rw [bytesI_append, bytesI_append, text_line, text_line]
  simp [bytesI, It.bytes, bytesI_append, kFn]
theorem textP_step (P : List Fu) (q : Nat) (h : q < P.length) : textP (P.take (q + 1)) = textP (P.take q) ++ textF P[q] := by
  have happ : ∀ (a b : List Fu), itP (a ++ b) = itP a ++ itP b := by
    intro a b
    induction a with
    | nil => rfl
    | cons x r ih => rw [List.cons_append, itP, itP, ih, List.append_assoc]
  unfold textP textF
  rw [List.take_succ_eq_append_getElem h, happ, bytesI_append]
  simp [itP]
theorem textP_le (P : List Fu) : ∀ (n q : Nat), q + n = P.length → (textP (P.take q)).length ≤ (textP P).length
  | 0, q, h => by rw [show q = P.length by omega, List.take_length]; exact Nat.le_refl _
  | n + 1, q, h => by
    have := textP_le P n (q + 1) (by omega)
    rw [textP_step P q (by omega), List.length_append] at this
    omega
theorem textPs_len : ∀ (l : List (List UInt8)), (∀ p ∈ l, nameG p) → l.length ≤ (textPs l).length
  | [], _ => Nat.zero_le _
  | [p], h => by
    have := List.length_pos_iff.2 (h p (by simp)).1
    simp [textPs, commasI, bytesI, It.bytes]; omega
  | p :: q :: r, h => by
    have h1 := textPs_len (q :: r) (fun x hx => h x (List.mem_cons_of_mem _ hx))
    have h2 : textPs (p :: q :: r) = p ++ (44 :: 32 :: textPs (q :: r)) := by simp [textPs, commasI, bytesI, It.bytes]
    rw [h2]
    simp only [List.length_append, List.length_cons] at *
    omega
theorem repFs_at {A : Nat → Prop} {w : World} : ∀ {ks : List Fu} {xs : List Value} {i : Nat} (_ : RepFs A w ks xs) (hi : i < ks.length), ∃ cs, RepF A w ks[i] cs ∧ ∀ j u, cs[j]? = some u → xs[i * 3 + j]? = some u
  | [], _, _, _, hi => absurd hi (by simp)
  | e :: r, _, 0, ⟨cs, ys, rfl, he, _⟩, _ => ⟨cs, he, fun j u hu => by
      have hlt : j < cs.length := by
        rcases Nat.lt_or_ge j cs.length with h | h
        · exact h
        · rw [List.getElem?_eq_none h] at hu; cases hu
      rw [Nat.zero_mul, Nat.zero_add, List.getElem?_append_left hlt]; exact hu⟩
  | e :: r, _, i + 1, ⟨cs, ys, rfl, he, hr⟩, hi => by
    obtain ⟨c2, h1, h2⟩ := repFs_at (i := i) hr (by simpa using hi)
    refine ⟨c2, h1, fun j u hu => ?_⟩
    rw [List.getElem?_append_right (by rw [he.len]; omega), he.len, show (i + 1) * 3 + j - 3 = i * 3 + j by omega]
    exact h2 j u hu
set_option maxRecDepth 100000 in
set_option maxHeartbeats 2000000 in
theorem prog_any {P : List Fu} (hP : ∀ f ∈ P, PF f) {w : World} {a : Nat → Addr} {v : Value} {xs : List Value} (hG : ShG w.heap.size w a) (hrow : Row (fun b => b < w.heap.size) w v P.length xs) (hfs : RepFs (fun b => b < w.heap.size) w P xs) (hl : (textP P).length ≤ 1000000) (hn : P.length ≤ 1000000) :
    Calls Tryd.prog 13 #[v] w fun ev w' => ev = .returned (.string ⟨(textP P).toArray⟩) ∧ Below w.heap.size w w' := by
  obtain ⟨ad, cap, rfl, hx⟩ := hrow
  obtain ⟨B, hBe⟩ : ∃ B, B = w.heap.size := ⟨_, rfl⟩
  have hb0 := box_blkS w #[.pointer none, .slice none 0 0, .int .i64 0] 73
  have hw0 : WTo B w.heap.size ((0 : Nat) : Int) [] w (w.alloc (.cells #[.pointer none, .slice none 0 0, .int .i64 0] 73)) := ⟨wr_new (by omega), hb0.mono (by omega), kept_of hb0⟩
  rw [← hBe] at hG hx hfs
  have HX := hidS hx
  have HE := hidS hfs
  have HG := hidS hG
  have HP := hidS hP
  have HW0 := hidS hw0
  have HBE := hidS hBe
  have hBle : B ≤ w.heap.size := by omega
  clear hx hfs hG hP hw0 hBe
  go_enter Tryd.func13, Tryd.ntmps13
  go_wp2_with fail
  go_loopw [10] (fun vi wr => ∃ q : Nat, q ≤ P.length ∧ vi = .int .i64 q ∧ w.heap.size < wr.heap.size ∧ Hid (WTo B w.heap.size ((0 : Nat) : Int) (textP (P.take q)) w wr)) (fun vi _ => P.length - (intOf vi).toNat)
  case atStart => exact ⟨0, Nat.zero_le _, rfl, by simp, by have := HW0.out; unfold Hid; simpa [textP, itP, bytesI] using this⟩
  case round =>
    obtain ⟨q, hq, rfl, hz, HQ⟩ := hrel
    clear HW0
    by_cases hlt : q < P.length
    · have hlt' : (q : Int) < (P.length : Int) := by omega
      obtain ⟨ca, e1, e2⟩ := repFs_at HE.out hlt
      obtain ⟨g, rfl, ⟨hg, _⟩, hc⟩ := HX.out (by omega)
      have hbl := HQ.out.2.1
      have hstp := textP_step P q hlt
      have hle := textP_le P (P.length - (q + 1)) (q + 1) (by omega)
      rw [hstp, textF_eq] at hle
      have hpf := HP.out _ (List.getElem_mem hlt)
      rw [textF_eq] at hstp
      generalize P[q] = f at e1 hstp hle hpf
      obtain ⟨fnm, fps, fbd⟩ := f
      obtain ⟨pf1, pf2, pf3, _⟩ := hpf
      obtain ⟨pv, bv, bs, rfl, r1, r2, r3⟩ := e1
      simp only at r1 r2 r3 hstp hle pf1 pf2 pf3
      simp only [lineT, List.length_append, List.length_cons, List.length_nil, List.length_replicate] at hle
      have hpl := textPs_len fps pf2
      have hjn : ∀ X, Below B w X → Calls Tryd.prog 23 #[pv, .string ⟨#[44, 32]⟩] X fun e w' => e = .returned (.string ⟨(textPs fps).toArray⟩) ∧ Below X.heap.size X w' := fun X hX =>
        join_any r1 (fun g hg => hX.block g hg) (fun g hg => by have := hX.size; omega) (by omega) (by omega)
      have hbd : ∀ X l', Below B w X → Wr B w.heap.size ((0 : Nat) : Int) l' X → l'.length + (textSs (0 + 1) fbd).length ≤ 1000000 → Calls Tryd.prog 24 #[.pointer (some ⟨w.heap.size, 0, none⟩), bv] X fun ev w' => ev = .returned (.tuple #[]) ∧ WTo B w.heap.size ((0 : Nat) : Int) (l' ++ textSs (0 + 1) fbd) X w' := fun X l' hX hWX hl' =>
        block_all (stmts_all fbd pf3) X a B w.heap.size 0 l' bv bs hWX (HG.out.on hX) (Nat.le_trans hBle hX.size) (r2.imp (fun _ h => h) (fun b hb => hX.block b hb)) (RepSs.imp (fun _ h => h) (fun b hb => hX.block b hb) _ _ r3) hl' (by omega)
      have hline : ∀ X l' (t : ByteArray) x, t.data.toList = x → x ≠ [] → Wr B w.heap.size ((0 : Nat) : Int) l' X → Below B w X → l'.length + 0 + x.length + 1 ≤ 1000000 → Calls Tryd.prog 22 #[.pointer (some ⟨w.heap.size, 0, none⟩), .string t] X fun ev w' => ev = .returned (.tuple #[]) ∧ WTo B w.heap.size ((0 : Nat) : Int) (l' ++ lineT 0 x) X w' := fun X l' t x h1 h2 hX hb h4 => line_any t x h1 h2 hX (Nat.le_trans hBle hb.size) h4
      generalize textPs fps = tp at hjn hstp hle hpl
      have hsz0 : (⟨#[102, 110, 32]⟩ : ByteArray).size = 3 := rfl
      have hsz1 := size_toArray fnm
      have hsz2 : (⟨#[40]⟩ : ByteArray).size = 1 := rfl
      have hsz3 := size_toArray tp
      have hsz4 : (⟨#[41, 32, 123]⟩ : ByteArray).size = 3 := rfl
      obtain ⟨s1, ha1, hl1, hz1⟩ := cat_list ⟨#[102, 110, 32]⟩ ⟨fnm.toArray⟩ (by omega) rfl rfl
      obtain ⟨s2, ha2, hl2, hz2⟩ := cat_list s1 ⟨#[40]⟩ (by omega) hl1 rfl
      obtain ⟨s3, ha3, hl3, hz3⟩ := cat_list s2 ⟨tp.toArray⟩ (by omega) hl2 rfl
      obtain ⟨s4, ha4, hl4, hz4⟩ := cat_list s3 ⟨#[41, 32, 123]⟩ (by omega) hl3 rfl
      obtain ⟨ad1, cap1, rfl, _⟩ := r1
      obtain ⟨ad2, cap2, rfl, _⟩ := r2
      have a0 := (hbl.cell (p := ⟨g, _, none⟩) hg).trans (hc _ _ (e2 0 _ rfl))
      have a1 := (hbl.cell (p := ⟨g, _, none⟩) hg).trans (hc _ _ (e2 1 _ rfl))
      have a2 := (hbl.cell (p := ⟨g, _, none⟩) hg).trans (hc _ _ (e2 2 _ rfl))
      rw [Nat.add_zero] at a0
      have HJ := hidS hjn
      have HBD := hidS hbd
      have HLN := hidS hline
      have HSP := hidS hstp
      have HLE := hidS hle
      have HL4 := hidS hl4
      have hbx := box_blkS wr #[.string ⟨fnm.toArray⟩, .slice ad1 fps.length cap1, .slice ad2 fbd.length cap2] 52
      have HWX := hidS (HQ.out.keep (by omega) hbx)
      clear hjn hbd hline hstp hle hl1 hl2 hl3 hl4 hz1 hz2 hz3 hz4 hsz0 hsz1 hsz2 hsz3 hsz4 e2 hc hbl r3 pf1 pf2 pf3 hpl
      have bk0 := heap_alloc_new wr (.cells #[.string ⟨fnm.toArray⟩, .slice ad1 fps.length cap1, .slice ad2 fbd.length cap2] 52)
      have t0 : (wr.alloc (.cells #[.string ⟨fnm.toArray⟩, .slice ad1 fps.length cap1, .slice ad2 fbd.length cap2] 52)).cell? ⟨wr.heap.size, 0, none⟩ = some (.string ⟨fnm.toArray⟩) ∧ (wr.alloc (.cells #[.string ⟨fnm.toArray⟩, .slice ad1 fps.length cap1, .slice ad2 fbd.length cap2] 52)).cell? ⟨wr.heap.size, 1, none⟩ = some (.slice ad1 fps.length cap1) := ⟨cell_of_blk bk0 0, cell_of_blk bk0 1⟩
      have hbne : wr.heap.size ≠ w.heap.size := by omega
      have HT0 := hidS t0
      have BK0 := hidS bk0
      clear t0 bk0
      go_wp2
      go_region_held3 (fun W => W.cell? ⟨wr.heap.size, 0, none⟩ = some (.string ⟨fnm.toArray⟩) ∧ W.cell? ⟨wr.heap.size, 1, none⟩ = some (.slice ad1 fps.length cap1))
        (first | exact s1 | exact HT0.out)
        (first
          | (go_at_call 23; refine (HJ.out _ HWX.out.2.1.drew).mono ?_; rintro e w2 ⟨rfl, hb2⟩; have s1 : w2.cell? ⟨wr.heap.size, 0, none⟩ = some (.string ⟨fnm.toArray⟩) ∧ w2.cell? ⟨wr.heap.size, 1, none⟩ = some (.slice ad1 fps.length cap1) := ⟨cell_of_blk ((hb2.block _ (by simp)).trans BK0.out) 0, cell_of_blk ((hb2.block _ (by simp)).trans BK0.out) 1⟩)
          | (go_at_call 22; refine (HLN.out _ _ _ _ HL4.out (by simp) (HWX.out.1.keep ((Below.refl _ _).drew.trans hb2)) (HWX.out.2.1.trans (((Below.refl _ _).drew.trans hb2).mono (Nat.le_trans hBle HWX.out.2.1.size))) (by have := HLE.out; simp only [List.length_append, List.length_cons, List.length_nil]; omega)).mono ?_; rintro e w3 ⟨rfl, hw3⟩; have bk3 := hw3.blk ((hb2.block _ (by simp)).trans BK0.out) hbne (by decide); have s1 : w3.cell? ⟨wr.heap.size, 0, none⟩ = some (.string ⟨fnm.toArray⟩) ∧ w3.cell? ⟨wr.heap.size, 1, none⟩ = some (.slice ad1 fps.length cap1) := ⟨cell_of_blk bk3 0, cell_of_blk bk3 1⟩))
      all_goals (
        have HW3 := hidS (HWX.out.trans (WTo.after ((Below.refl _ _).drew.trans hb2) (Nat.le_trans hBle HWX.out.2.1.size) hw3))
        have b2 := cell_of_blk bk3 2
        simp at b2
        clear bk3 hw3 hb2 s1
        go_wp2_with fail
        refine (HBD.out _ _ HW3.out.2.1 HW3.out.1 (by have := HLE.out; simp only [lineT, List.length_append, List.length_cons, List.length_nil, List.length_replicate, Nat.zero_add]; omega)).mono ?_
        rintro e w4 ⟨rfl, hw4⟩
        have HW4 := hidS (HW3.out.trans hw4)
        clear hw4 b2
        go_wp2_with fail
        refine (HLN.out _ _ ⟨#[125]⟩ [125] rfl (by simp) HW4.out.1 HW4.out.2.1 (by have := HLE.out; simp only [lineT, List.length_append, List.length_cons, List.length_nil, List.length_replicate, Nat.zero_add]; omega)).mono ?_
        rintro e w5 ⟨rfl, hw5⟩
        have HW5 := hidS (HW4.out.trans hw5)
        have z5 := HW5.out.1.lt.2
        clear hw5
        go_wp2
        go_roundw
        case rel => exact ⟨q + 1, by omega, by go_num, by omega, by have := HW5.out; unfold Hid; rw [HSP.out]; simpa using this⟩
        case measure => simp [intOf]; omega)
    · have hqn : q = P.length := by omega
      subst hqn
      rw [List.take_length] at HQ
      have hs := wstring_any _ _ _ _ _ HQ.out.1
      have HS := hidS hs
      clear hs
      go_wp2_with fail
      refine HS.out.mono ?_
      rintro e w2 ⟨rfl, hb2⟩
      go_wp2
      go_ret
      have h1 := HQ.out.2.1.trans hb2
      rw [HBE.out] at h1
      exact ⟨rfl, h1⟩
end Go.Proofs.YtcebpmaggnephabDoor
