/-
  Our own: the walk of LexJoins: two texts, one behind the other.
-/
import Derived.Test.YtmepblacndgkjabDoorLexView
namespace Go.Proofs.YtmepblacndgkjabDoor
open Go.RowKit

/-- The two texts with a line end between. -/
abbrev joinS (s t : ByteArray) : ByteArray := s ++ ⟨#[10]⟩ ++ t
theorem joinS_list (s t : ByteArray) : (joinS s t).data.toList = s.data.toList ++ 10 :: t.data.toList := by
  simp [ByteArray.data_append]
theorem joins_big (a : Nat → Addr) (s t : ByteArray) (h : 900 < s.size ∨ 900 < t.size) (hs : s.size ≤ 9223372036854775807) (ht : t.size ≤ 9223372036854775807) (w : World) (hG : LexG w a) :
    Calls Tryd.prog 3 #[.string s, .string t] w fun e w' => e = .returned (.bool true) ∧ Below w.heap.size w w' := by
  by_cases h1 : 900 < s.size
  · have h1' : (900 : Int) < (s.size : Int) := by omega
    go_enter Tryd.func3, Tryd.ntmps3
    go_wp2_with (go_at_call 4; refine (lexed_any a _ hG).mono ?_; rintro e w1 ⟨rfl, hb1⟩)
    go_ret
    exact ⟨rfl, by assumption⟩
  · have h1' : ¬ (900 : Int) < (s.size : Int) := by omega
    have h2' : (900 : Int) < (t.size : Int) := by omega
    go_enter Tryd.func3, Tryd.ntmps3
    go_wp2_with (go_at_call 4; refine (lexed_any a _ hG).mono ?_; rintro e w1 ⟨rfl, hb1⟩)
    go_ret
    exact ⟨rfl, by assumption⟩
/-- The joined text's tokens, part by part. -/
structure JoinView (w : World) (g n : Nat) (A D : List Tok) : Prop where
  a0 : ∀ i (h : i < A.length), w.cell? ⟨g, i * 3, none⟩ = some (.string ⟨A[i].kind.toArray⟩)
  a1 : ∀ i (h : i < A.length), w.cell? ⟨g, i * 3 + 1, none⟩ = some (.string ⟨A[i].text.toArray⟩)
  a2 : ∀ i (h : i < A.length), w.cell? ⟨g, i * 3 + 2, none⟩ = some (.int .i64 A[i].pos)
  d0 : ∀ i (h : i < D.length), w.cell? ⟨g, (A.length + i) * 3, none⟩ = some (.string ⟨D[i].kind.toArray⟩)
  d1 : ∀ i (h : i < D.length), w.cell? ⟨g, (A.length + i) * 3 + 1, none⟩ = some (.string ⟨D[i].text.toArray⟩)
  d2 : ∀ i (h : i < D.length), w.cell? ⟨g, (A.length + i) * 3 + 2, none⟩ = some (.int .i64 ((D[i].pos : Int) + (n : Int) + 1))
theorem joinView {w : World} {v : Value} {g n : Nat} {A D : List Tok} (h : TokView w v g (A ++ D.map (Tok.up (n + 1)))) : JoinView w g n A D := by
  have hl : (A ++ D.map (Tok.up (n + 1))).length = A.length + D.length := by simp
  refine ⟨fun i hi => ?_, fun i hi => ?_, fun i hi => ?_, fun i hi => ?_, fun i hi => ?_, fun i hi => ?_⟩
  · have := h.c0 i (by omega); rwa [List.getElem_append_left hi] at this
  · have := h.c1 i (by omega); rwa [List.getElem_append_left hi] at this
  · have := h.c2 i (by omega); rwa [List.getElem_append_left hi] at this
  · have := h.c0 (A.length + i) (by omega); rw [List.getElem_append_right (by omega)] at this; simpa [Tok.up] using this
  · have := h.c1 (A.length + i) (by omega); rw [List.getElem_append_right (by omega)] at this; simpa [Tok.up] using this
  · have := h.c2 (A.length + i) (by omega); rw [List.getElem_append_right (by omega)] at this
    rw [this]
    simp [Tok.up]; omega
set_option maxRecDepth 100000 in
set_option maxHeartbeats 4000000 in
theorem joins_small (a : Nat → Addr) (s t : ByteArray) (hs : s.size ≤ 900) (ht : t.size ≤ 900) (w : World) (hG : LexG w a) :
    Calls Tryd.prog 3 #[.string s, .string t] w fun e w' => e = .returned (.bool true) ∧ Below w.heap.size w w' := by
  have hs' : ¬ (900 : Int) < (s.size : Int) := by omega
  have ht' : ¬ (900 : Int) < (t.size : Int) := by omega
  have hj : (joinS s t).size ≤ 4000 := by
    have : (joinS s t).size = s.size + 1 + t.size := by simp [ByteArray.size_append]; rfl
    omega
  go_enter Tryd.func3, Tryd.ntmps3
  go_wp2_with fail
  refine (lexed_any a _ hG).mono ?_
  rintro e w1 ⟨rfl, hb1⟩
  have hG1 := hG.below hb1
  go_wp2_with fail
  refine (read_any a s (by omega) w1 hG1).mono ?_
  rintro e w2 ⟨A, er1, hsa, hb2, hx⟩
  have hG2 := hG1.below hb2
  have s1 := hb1.size
  have s2 := hb2.size
  have hfa := hsa.few.1
  rw [data_len] at hfa
  have HA : Hid (Scan 0 s.data.toList A er1) := hsa
  clear hsa
  rcases hx with ⟨rfl, _, va, rfl, hoa⟩ | ⟨pa, ba, rfl, rfl, _, _⟩ | ⟨_, hl, _⟩
  · go_wp2_with fail
    refine (read_any a t (by omega) w2 hG2).mono ?_
    rintro e w3 ⟨D, er2, hsb, hb3, hy⟩
    have hG3 := hG2.below hb3
    have s3 := hb3.size
    have hfb := hsb.few.1
    rw [data_len] at hfb
    have HPD : Hid (∀ i (h : i < D.length), D[i].pos ≤ 900) := fun i h => by
      have := (hsb.fits (full := t.data.toList) rfl).get i h
      have h2 := this.2.2.1
      rw [data_len] at h2
      omega
    have hup := hsb.up (s.data.toList.length + 1)
    rw [Nat.zero_add] at hup
    have HJ : Hid (Scan 0 (s.data.toList ++ 10 :: t.data.toList) (A ++ D.map (Tok.up (s.data.toList.length + 1))) (er2.map (· + (s.data.toList.length + 1)))) := HA.out.more (Or.inl rfl) rfl (by rw [Nat.zero_add]; exact hup)
    clear hsb hup
    rcases hy with ⟨rfl, _, vb, rfl, hob⟩ | ⟨pb, bb, rfl, rfl, _, _⟩ | ⟨_, hl, _⟩
    · obtain ⟨xa, ca, rfl, hva⟩ := tokAny hoa
      obtain ⟨xb, cb, rfl, hvb⟩ := tokAny hob
      have HVA : Hid (A ≠ [] → ∃ g, xa = some ⟨g, 0, none⟩ ∧ TokView w3 (.slice xa A.length ca) g A) := fun h => by
        obtain ⟨g, e, hv⟩ := hva h
        exact ⟨g, e, hv.below hb3⟩
      have HVB : Hid (D ≠ [] → ∃ g, xb = some ⟨g, 0, none⟩ ∧ TokView w3 (.slice xb D.length cb) g D) := hvb
      clear hva hvb hoa hob
      go_wp2_with fail
      refine (read_any a (joinS s t) hj w3 hG3).mono ?_
      rintro e w4 ⟨C, er3, hsc, hb4, hz⟩
      have s4 := hb4.size
      rw [joinS_list] at hsc
      obtain ⟨rfl, rfl⟩ := HJ.out.det hsc
      clear hsc
      have hlen : (A ++ D.map (Tok.up (s.data.toList.length + 1))).length = A.length + D.length := by simp
      have hb14 := bl_trans (bl_trans (bl_trans hb1 s1 hb2) (by omega) hb3) (by omega) hb4
      rcases hz with ⟨_, h1000, vc, rfl, hoc⟩ | ⟨pc, bc, h', _⟩ | ⟨_, h1000, rfl⟩
      · rw [hlen] at h1000
        obtain ⟨xc, cc, rfl, hvc⟩ := tokAny hoc
        rw [hlen]
        have HVA4 : Hid (A ≠ [] → ∃ g, xa = some ⟨g, 0, none⟩ ∧ TokView w4 (.slice xa A.length ca) g A) := fun h => by
          obtain ⟨g, e, hv⟩ := HVA.out h
          exact ⟨g, e, hv.below hb4⟩
        have HVB4 : Hid (D ≠ [] → ∃ g, xb = some ⟨g, 0, none⟩ ∧ TokView w4 (.slice xb D.length cb) g D) := fun h => by
          obtain ⟨g, e, hv⟩ := HVB.out h
          exact ⟨g, e, hv.below hb4⟩
        have HVC4 : Hid (A.length + D.length ≠ 0 → ∃ g, xc = some ⟨g, 0, none⟩ ∧ JoinView w4 g s.data.toList.length A D) := fun h => by
          obtain ⟨g, e, hv⟩ := hvc (by intro h0; rw [h0] at hlen; simp at hlen; omega)
          exact ⟨g, e, joinView hv⟩
        clear hvc hoc HVA HVB HJ hlen
        go_wp2
        go_loopw [12] (fun i wr => ∃ k m : Nat, k ≤ A.length ∧ i = .int .i64 k ∧ wr = w4.drewN m) (fun i _ => A.length - (intOf i).toNat)
        case atStart => exact ⟨0, 0, Nat.zero_le _, rfl, rfl⟩
        case round =>
          obtain ⟨k, m, hk, rfl, rfl⟩ := hrel
          by_cases hlt : k < A.length
          · obtain ⟨ga, rfl, hv⟩ := HVA4.out (by intro h0; rw [h0] at hlt; simp at hlt)
            obtain ⟨gc, rfl, hu⟩ := HVC4.out (by omega)
            have a0 : (w4.drewN m).cell? ⟨ga, k * 3, none⟩ = some (.string ⟨A[k].kind.toArray⟩) := hv.c0 k hlt
            have a1 : (w4.drewN m).cell? ⟨ga, k * 3 + 1, none⟩ = some (.string ⟨A[k].text.toArray⟩) := hv.c1 k hlt
            have a2 : (w4.drewN m).cell? ⟨ga, k * 3 + 2, none⟩ = some (.int .i64 A[k].pos) := hv.c2 k hlt
            have b0 : (w4.drewN m).cell? ⟨gc, k * 3, none⟩ = some (.string ⟨A[k].kind.toArray⟩) := hu.a0 k hlt
            have b1 : (w4.drewN m).cell? ⟨gc, k * 3 + 1, none⟩ = some (.string ⟨A[k].text.toArray⟩) := hu.a1 k hlt
            have b2 : (w4.drewN m).cell? ⟨gc, k * 3 + 2, none⟩ = some (.int .i64 A[k].pos) := hu.a2 k hlt
            have hlt' : (k : Int) < (A.length : Int) := by omega
            have hlt2 : (k : Int) < (A.length : Int) + (D.length : Int) := by omega
            clear hv hu HVA4 HVC4 HVB4
            generalize hW : w4.drewN m = W at a0 a1 a2 b0 b1 b2
            go_wp2
            go_quiet (fail)
            go_wp2
            go_roundw
            case rel => exact ⟨k + 1, m + nq, by omega, by go_num, by rw [← hW, World.drewN_drewN]⟩
            case measure => simp [intOf]; omega
          · have hka : k = A.length := by omega
            subst hka
            have hb5 : Below w4.heap.size w4 (w4.drewN m) := drewN_below _ _
            generalize w4.drewN m = W5 at hb5
            go_wp2
            go_loopw [13] (fun i wr => ∃ k : Nat, k ≤ D.length ∧ i = .int .i64 k ∧ Below w4.heap.size w4 wr) (fun i _ => D.length - (intOf i).toNat)
            case atStart => exact ⟨0, Nat.zero_le _, rfl, hb5⟩
            case round =>
              obtain ⟨k, hk, rfl, hb6⟩ := hrel
              by_cases hlt : k < D.length
              · obtain ⟨gb, rfl, hv⟩ := HVB4.out (by intro h0; rw [h0] at hlt; simp at hlt)
                obtain ⟨gc, rfl, hu⟩ := HVC4.out (by omega)
                have v0 : wr.cell? ⟨gb, k * 3, none⟩ = some (.string ⟨D[k].kind.toArray⟩) := (hb6.cell (p := ⟨gb, k * 3, none⟩) (cell_lt (hv.c0 k hlt))).trans (hv.c0 k hlt)
                have v1 : wr.cell? ⟨gb, k * 3 + 1, none⟩ = some (.string ⟨D[k].text.toArray⟩) := (hb6.cell (p := ⟨gb, k * 3 + 1, none⟩) (cell_lt (hv.c1 k hlt))).trans (hv.c1 k hlt)
                have v2 : wr.cell? ⟨gb, k * 3 + 2, none⟩ = some (.int .i64 D[k].pos) := (hb6.cell (p := ⟨gb, k * 3 + 2, none⟩) (cell_lt (hv.c2 k hlt))).trans (hv.c2 k hlt)
                have u0 : wr.cell? ⟨gc, (A.length + k) * 3, none⟩ = some (.string ⟨D[k].kind.toArray⟩) := (hb6.cell (p := ⟨gc, (A.length + k) * 3, none⟩) (cell_lt (hu.d0 k hlt))).trans (hu.d0 k hlt)
                have u1 : wr.cell? ⟨gc, (A.length + k) * 3 + 1, none⟩ = some (.string ⟨D[k].text.toArray⟩) := (hb6.cell (p := ⟨gc, (A.length + k) * 3 + 1, none⟩) (cell_lt (hu.d1 k hlt))).trans (hu.d1 k hlt)
                have u2 : wr.cell? ⟨gc, (A.length + k) * 3 + 2, none⟩ = some (.int .i64 ((D[k].pos : Int) + (s.size : Int) + 1)) := (hb6.cell (p := ⟨gc, (A.length + k) * 3 + 2, none⟩) (cell_lt (hu.d2 k hlt))).trans (hu.d2 k hlt)
                have hgb : gb < wr.heap.size := cell_lt v0
                have hgc : gc < wr.heap.size := cell_lt u0
                have hlt' : (k : Int) < (D.length : Int) := by omega
                have hpos : (D[k].pos : Int) ≤ 900 := by have := HPD.out k hlt; omega
                have hpos0 : (0 : Int) ≤ (D[k].pos : Int) := by omega
                have s6 := hb6.size
                clear hv hu HVA4 HVB4 HVC4
                go_wp2
                go_quiet (fail)
                go_wp2
                go_roundw
                case rel => exact ⟨k + 1, by omega, by go_num, (hb6.alloc (by omega) _).trans (drewN_below' _ _ _)⟩
                case measure => simp [intOf]; omega
              · go_wp2
                go_ret
                exact ⟨rfl, bl_trans hb14 (by omega) hb6⟩
      · cases h'
      · rw [hlen] at h1000
        have h1000' : (1000 : Int) < (A.length : Int) + (D.length : Int) := by omega
        go_wp2
        go_ret
        exact ⟨rfl, hb14⟩
    · go_wp2_with fail
      refine (read_any a (joinS s t) hj w3 hG3).mono ?_
      rintro e w4 ⟨C, er3, hsc, hb4, hz⟩
      have s4 := hb4.size
      rw [joinS_list] at hsc
      obtain ⟨rfl, rfl⟩ := (HJ.out).det hsc
      rcases hz with ⟨h', _⟩ | ⟨pc, bc, h', rfl, _, _⟩ | ⟨h', _⟩
      · cases h'
      · clear hsc h'
        go_wp2
        go_ret
        exact ⟨rfl, bl_trans (bl_trans (bl_trans hb1 s1 hb2) (by omega) hb3) (by omega) hb4⟩
      · cases h'
    · omega
  · go_wp2_with fail
    refine (read_any a t (by omega) w2 hG2).mono ?_
    rintro e w3 ⟨D, er2, hsb, hb3, hy⟩
    have hG3 := hG2.below hb3
    have s3 := hb3.size
    have hfb := hsb.few.1
    rw [data_len] at hfb
    have HJ : Hid (Scan 0 (s.data.toList ++ 10 :: t.data.toList) A (some pa)) := HA.out.worse (Or.inl rfl) (by simp)
    clear hsb
    rcases hy with ⟨rfl, _, vb, rfl, hob⟩ | ⟨pb, bb, rfl, rfl, _, _⟩ | ⟨_, hl, _⟩
    · clear hob
      go_wp2_with fail
      refine (read_any a (joinS s t) hj w3 hG3).mono ?_
      rintro e w4 ⟨C, er3, hsc, hb4, hz⟩
      have s4 := hb4.size
      rw [joinS_list] at hsc
      obtain ⟨rfl, rfl⟩ := (HJ.out).det hsc
      rcases hz with ⟨h', _⟩ | ⟨pc, bc, h', rfl, _, _⟩ | ⟨h', _⟩
      · cases h'
      · clear hsc h'
        go_wp2
        go_ret
        exact ⟨rfl, bl_trans (bl_trans (bl_trans hb1 s1 hb2) (by omega) hb3) (by omega) hb4⟩
      · cases h'
    · go_wp2_with fail
      refine (read_any a (joinS s t) hj w3 hG3).mono ?_
      rintro e w4 ⟨C, er3, hsc, hb4, hz⟩
      have s4 := hb4.size
      rw [joinS_list] at hsc
      obtain ⟨rfl, rfl⟩ := (HJ.out).det hsc
      rcases hz with ⟨h', _⟩ | ⟨pc, bc, h', rfl, _, _⟩ | ⟨h', _⟩
      · cases h'
      · clear hsc h'
        go_wp2
        go_ret
        exact ⟨rfl, bl_trans (bl_trans (bl_trans hb1 s1 hb2) (by omega) hb3) (by omega) hb4⟩
      · cases h'
    · omega
  · omega
theorem lexJoins_any (a : Nat → Addr) (s t : ByteArray) (hs : s.size ≤ 9223372036854775807) (ht : t.size ≤ 9223372036854775807) (w : World) (hG : LexG w a) :
    Calls Tryd.prog 3 #[.string s, .string t] w fun e w' => e = .returned (.bool true) ∧ Below w.heap.size w w' := by
  by_cases h : 900 < s.size ∨ 900 < t.size
  · exact joins_big a s t h hs ht w hG
  · exact joins_small a s t (by omega) (by omega) w hG
end Go.Proofs.YtmepblacndgkjabDoor
