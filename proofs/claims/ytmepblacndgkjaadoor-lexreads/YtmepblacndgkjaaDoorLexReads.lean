/-
  Our own: the walk of LexReads: any text.
-/
import Derived.Test.YtmepblacndgkjaaDoorLexOf
import Derived.Test.YtmepblacndgkjaaDoorFaulted
namespace Go.Proofs.YtmepblacndgkjaaDoor
open Go.RowKit

theorem owns_below {w w' : World} {B n size : Nat} {t : TypeId} {v : Value} {xs : List Value} (h : w.ownsRow B t size v n xs) (hb : Below w.heap.size w w') : w'.ownsRow B t size v n xs := by
  rcases h with ⟨h1, h2 | ⟨g, cap, cur, h3, h4, h5, h6⟩⟩
  · exact ⟨h1, Or.inl h2⟩
  · exact ⟨h1, Or.inr ⟨g, cap, cur, h3, h4, (hb.block g (heap_lt h5)).trans h5, h6⟩⟩
theorem bl_trans {B : Nat} {a b c : World} (h1 : Below B a b) (hB : B ≤ b.heap.size) (h2 : Below b.heap.size b c) : Below B a c := h1.trans (h2.mono hB)
theorem reads_huge (s : Nat → Addr) (t : ByteArray) (h : 4100 < t.size) (hm : t.size ≤ 9223372036854775807) (w : World) (hS : Sents w s) :
    Calls Tryd.prog 7 #[.string t] w fun e w' => e = .returned (.bool true) ∧ Below w.heap.size w w' := by
  have h' : (4100 : Int) < (t.size : Int) := by omega
  go_enter Tryd.func7, Tryd.ntmps7
  go_wp2_with (go_at_call 26; refine (lexed_any s _ hS.lexG).mono ?_; rintro e w1 ⟨rfl, hb1⟩)
  go_ret
  exact ⟨rfl, by assumption⟩
set_option maxRecDepth 100000 in
theorem reads_long (s : Nat → Addr) (t : ByteArray) (h : 4000 < t.size) (h2 : t.size ≤ 4100) (w : World) (hS : Sents w s) :
    Calls Tryd.prog 7 #[.string t] w fun e w' => e = .returned (.bool true) ∧ Below w.heap.size w w' := by
  have hh1 : ¬ (4100 : Int) < (t.size : Int) := by omega
  go_enter Tryd.func7, Tryd.ntmps7
  go_wp2_with fail
  refine (lexed_any s _ hS.lexG).mono ?_
  rintro e w1 ⟨rfl, hb1⟩
  have hS1 := hS.below hb1
  go_wp2_with fail
  refine (read_long s t h (by omega) w1 hS1.lexG).mono ?_
  rintro e w2 ⟨rfl, m, hh⟩
  have hb2 : Below w1.heap.size w1 w2 := by rw [hh]; exact drewN_below _ _
  have hS2 := hS1.below hb2
  clear hh
  go_wp2_with fail
  refine (lexOf_long t h (by omega) w2).mono ?_
  rintro e w3 ⟨rfl, hb3⟩
  have hS3 := hS2.below hb3
  have hb4 : Below w3.heap.size w3 (w3.alloc (.cells #[.int .i64 2, .int .i64 (-1)] 52)) := (Below.refl _ _).alloc (Nat.le_refl _) _
  have hS4 := hS3.below hb4
  go_wp2_with fail
  refine (faulted_str s 1 (by decide) 2 (by decide) _ hS4).mono ?_
  rintro e w5 ⟨rfl, hb5⟩
  go_wp2_with fail
  refine (same_none none none 0 0 _).mono ?_
  rintro e w6 ⟨rfl, m6, hh⟩
  have hb6 : Below w5.heap.size w5 w6 := by rw [hh]; exact drewN_below _ _
  clear hh
  go_wp2
  go_ret
  have s1 := hb1.size
  have s2 := hb2.size
  have s3 := hb3.size
  have s4 := hb4.size
  have s5 := hb5.size
  refine ⟨rfl, ?_⟩
  exact bl_trans (bl_trans (bl_trans (bl_trans (bl_trans hb1 s1 hb2) (by omega) hb3) (by omega) hb4) (by omega) hb5) (by omega) hb6
set_option maxRecDepth 100000 in
theorem reads_any (s : Nat → Addr) (t : ByteArray) (h : t.size ≤ 4000) (w : World) (hS : Sents w s) :
    Calls Tryd.prog 7 #[.string t] w fun e w' => e = .returned (.bool true) ∧ Below w.heap.size w w' := by
  have hh1 : ¬ (4100 : Int) < (t.size : Int) := by omega
  go_enter Tryd.func7, Tryd.ntmps7
  go_wp2_with fail
  refine (lexed_any s _ hS.lexG).mono ?_
  rintro e w1 ⟨rfl, hb1⟩
  have hS1 := hS.below hb1
  go_wp2_with fail
  refine (read_any s t h w1 hS1.lexG).mono ?_
  rintro e w2 ⟨ts, er, hsc, hb2, hx⟩
  have hS2 := hS1.below hb2
  have s1 := hb1.size
  have s2 := hb2.size
  have hb12 := bl_trans hb1 s1 hb2
  have HSC : Hid (Scan 0 t.data.toList ts er) := hsc
  clear hsc hb1 hS hS1
  rcases hx with ⟨rfl, hl, v, rfl, ho⟩ | ⟨p, b, rfl, rfl, hbb, hblk⟩ | ⟨rfl, hl, rfl⟩
  · go_wp2_with fail
    refine (lexOf_any t h w2).mono ?_
    rintro e w3 ⟨ts', er', hsc', hb3, hy⟩
    obtain ⟨rfl, rfl⟩ := HSC.out.det hsc'
    have s3 := hb3.size
    have hb13 := bl_trans hb12 (by omega) hb3
    have hS3 := hS2.below hb3
    rcases hy with ⟨_, _, v', rfl, ho'⟩ | ⟨p, h', _⟩ | ⟨_, h', _⟩
    · have hb4 : Below w3.heap.size w3 (w3.alloc (.cells #[.int .i64 0, .int .i64 (-1)] 52)) := (Below.refl _ _).alloc (Nat.le_refl _) _
      have s4 := hb4.size
      have HO : Hid (w3.ownsRow w1.heap.size 58 3 v ts.length (toksC ts)) := owns_below ho hb3
      have HO' : Hid (w3.ownsRow (w2.heap.size + 1) 76 3 v' ts.length (toksC ts)) := ho'
      clear ho ho' hsc'
      go_wp2_with fail
      refine (faulted_nil _).mono ?_
      rintro e w5 ⟨rfl, hb5⟩
      have s5 := hb5.size
      go_wp2_with fail
      refine (same_any (by omega) (owns_below (owns_below HO.out hb4) hb5) (owns_below (owns_below HO'.out hb4) hb5)).mono ?_
      rintro e w6 ⟨rfl, m6, hh⟩
      have hb6 : Below w5.heap.size w5 w6 := by rw [hh]; exact drewN_below _ _
      clear hh
      go_wp2
      go_ret
      refine ⟨rfl, ?_⟩
      exact bl_trans (bl_trans (bl_trans hb13 (by omega) hb4) (by omega) hb5) (by omega) hb6
    · cases h'
    · omega
  · go_wp2_with fail
    refine (lexOf_any t h w2).mono ?_
    rintro e w3 ⟨ts', er', hsc', hb3, hy⟩
    obtain ⟨rfl, rfl⟩ := HSC.out.det hsc'
    have s3 := hb3.size
    have hb13 := bl_trans hb12 (by omega) hb3
    have hS3 := hS2.below hb3
    rcases hy with ⟨h', _⟩ | ⟨p', h', rfl⟩ | ⟨h', _⟩
    · cases h'
    · cases h'
      have hb4 : Below w3.heap.size w3 (w3.alloc (.cells #[.int .i64 1, .int .i64 p] 52)) := (Below.refl _ _).alloc (Nat.le_refl _) _
      have s4 := hb4.size
      have hS4 := hS3.below hb4
      have hk3 := (hb3.block b (heap_lt hblk)).trans hblk
      have hk4 := (hb4.block b (heap_lt hk3)).trans hk3
      have HK : Hid ((w3.alloc (.cells #[.int .i64 1, .int .i64 p] 52)).heap[b]? = some (.cells #[.int .i64 p, sentV (s 0)] 31 (0, 0))) := hk4
      clear hk4 hk3 hblk hsc'
      go_wp2_with fail
      refine (faulted_fault s 0 (by decide) 1 (by decide) b p _ hS4 HK.out).mono ?_
      rintro e w5 ⟨rfl, hb5⟩
      have s5 := hb5.size
      clear HK
      go_wp2_with fail
      refine (same_none none none 0 0 _).mono ?_
      rintro e w6 ⟨rfl, m6, hh⟩
      have hb6 : Below w5.heap.size w5 w6 := by rw [hh]; exact drewN_below _ _
      clear hh
      go_wp2
      go_ret
      refine ⟨rfl, ?_⟩
      exact bl_trans (bl_trans (bl_trans hb13 (by omega) hb4) (by omega) hb5) (by omega) hb6
    · cases h'
  · go_wp2_with fail
    refine (lexOf_any t h w2).mono ?_
    rintro e w3 ⟨ts', er', hsc', hb3, hy⟩
    obtain ⟨rfl, rfl⟩ := HSC.out.det hsc'
    have s3 := hb3.size
    have hb13 := bl_trans hb12 (by omega) hb3
    have hS3 := hS2.below hb3
    rcases hy with ⟨_, h', _⟩ | ⟨p', h', _⟩ | ⟨_, h', rfl⟩
    · omega
    · cases h'
    · have hb4 : Below w3.heap.size w3 (w3.alloc (.cells #[.int .i64 8, .int .i64 (-1)] 52)) := (Below.refl _ _).alloc (Nat.le_refl _) _
      have s4 := hb4.size
      have hS4 := hS3.below hb4
      clear hsc'
      go_wp2_with fail
      refine (faulted_str s 7 (by decide) 8 (by decide) _ hS4).mono ?_
      rintro e w5 ⟨rfl, hb5⟩
      have s5 := hb5.size
      go_wp2_with fail
      refine (same_none none none 0 0 _).mono ?_
      rintro e w6 ⟨rfl, m6, hh⟩
      have hb6 : Below w5.heap.size w5 w6 := by rw [hh]; exact drewN_below _ _
      clear hh
      go_wp2
      go_ret
      refine ⟨rfl, ?_⟩
      exact bl_trans (bl_trans (bl_trans hb13 (by omega) hb4) (by omega) hb5) (by omega) hb6
theorem lexReads_any (s : Nat → Addr) (t : ByteArray) (hm : t.size ≤ 9223372036854775807) (w : World) (hS : Sents w s) :
    Calls Tryd.prog 7 #[.string t] w fun e w' => e = .returned (.bool true) ∧ Below w.heap.size w w' := by
  by_cases h1 : 4100 < t.size
  · exact reads_huge s t h1 hm w hS
  · by_cases h2 : 4000 < t.size
    · exact reads_long s t h2 (by omega) w hS
    · exact reads_any s t (by omega) w hS
end Go.Proofs.YtmepblacndgkjaaDoor
