/-
  Our own: the walk of LexAgain: what is read, written with one blank between, is read alike.
-/
import Derived.Test.YtmepblacndgkjaaDoorLexText
namespace Go.Proofs.YtmepblacndgkjaaDoor
open Go.RowKit

theorem again_huge (a : Nat → Addr) (t : ByteArray) (h : 1500 < t.size) (hm : t.size ≤ 9223372036854775807) (w : World) (hG : LexG w a) :
    Calls Tryd.prog 8 #[.string t] w fun e w' => e = .returned (.bool true) ∧ Below w.heap.size w w' := by
  have h' : (1500 : Int) < (t.size : Int) := by omega
  go_enter Tryd.func8, Tryd.ntmps8
  go_wp2_with (go_at_call 26; refine (lexed_any a _ hG).mono ?_; rintro e w1 ⟨rfl, hb1⟩)
  go_ret
  exact ⟨rfl, by assumption⟩
theorem sum_take (l : List Nat) (k : Nat) : (l.take k).sum ≤ l.sum := by
  have := congrArg List.sum (List.take_append_drop k l)
  rw [List.sum_append] at this
  omega
theorem Scan.joinTo_le {p : Nat} {l : List UInt8} {ts : List Tok} {e : Option Nat} (h : Scan p l ts e) (k : Nat) : (joinTo ts k).length ≤ 2 * l.length := by
  have h1 := joined_le (ts.take k)
  have h2 := h.count.1
  have h3 := h.few.1
  have h4 := sum_take (ts.map fun t => t.text.length) k
  rw [← List.map_take] at h4
  have h5 : (ts.take k).length ≤ ts.length := by rw [List.length_take]; omega
  unfold joinTo
  omega
theorem le_sum : ∀ (l : List Nat) (i : Nat) (h : i < l.length), l[i] ≤ l.sum
  | [], i, h => by simp at h
  | x :: l, 0, _ => by simp
  | x :: l, i + 1, h => by have := le_sum l i (by simpa using h); simp; omega
theorem Scan.text_le {p : Nat} {l : List UInt8} {ts : List Tok} {e : Option Nat} (h : Scan p l ts e) (i : Nat) (hi : i < ts.length) : ts[i].text.length ≤ l.length := by
  have h2 := h.count.1
  have := le_sum (ts.map fun t => t.text.length) i (by simpa using hi)
  rw [List.getElem_map] at this
  omega
theorem map_get {us ts : List Tok} (h : us.map (fun t => (t.kind, t.text)) = ts.map (fun t => (t.kind, t.text))) (k : Nat) (hu : k < us.length) (ht : k < ts.length) : us[k].kind = ts[k].kind ∧ us[k].text = ts[k].text := by
  have := congrArg (fun l => l[k]?) h
  simp only [List.getElem?_map, List.getElem?_eq_getElem hu, List.getElem?_eq_getElem ht, Option.map_some, Option.some.injEq, Prod.mk.injEq] at this
  exact this
set_option maxRecDepth 100000 in
set_option maxHeartbeats 4000000 in
theorem again_small (a : Nat → Addr) (t : ByteArray) (h : t.size ≤ 1500) (w : World) (hG : LexG w a) :
    Calls Tryd.prog 8 #[.string t] w fun e w' => e = .returned (.bool true) ∧ Below w.heap.size w w' := by
  have hh1 : ¬ (1500 : Int) < (t.size : Int) := by omega
  go_enter Tryd.func8, Tryd.ntmps8
  go_wp2_with fail
  refine (lexed_any a _ hG).mono ?_
  rintro e w1 ⟨rfl, hb1⟩
  have hG1 := hG.below hb1
  go_wp2_with fail
  refine (read_any a t (by omega) w1 hG1).mono ?_
  rintro e w2 ⟨ts, er, hsc, hb2, hx⟩
  have hG2 := hG1.below hb2
  have s1 := hb1.size
  have s2 := hb2.size
  have hb12 := bl_trans hb1 s1 hb2
  rcases hx with ⟨rfl, h1000, v, rfl, ho⟩ | ⟨p, b, rfl, rfl, _, _⟩ | ⟨_, hl, rfl⟩
  · obtain ⟨xa, ca, rfl, hva⟩ := tokAny ho
    have HV : Hid (ts ≠ [] → ∃ g, xa = some ⟨g, 0, none⟩ ∧ TokView w2 (.slice xa ts.length ca) g ts) := hva
    have HSC : Hid (Scan 0 t.data.toList ts none) := hsc
    clear hsc hva ho hb1 hb2 hG hG1
    go_wp2
    go_loopw [6, 7] (fun p i wr => ∃ k m : Nat, k ≤ ts.length ∧ i = .int .i64 k ∧ p = .int .i64 (endAt 0 ts k) ∧ wr = w2.drewN m) (fun _ i _ => ts.length - (intOf i).toNat)
    case atStart => exact ⟨0, 0, Nat.zero_le _, rfl, by simp [endAt], rfl⟩
    case round =>
      obtain ⟨k, m, hk, rfl, rfl, rfl⟩ := hrel
      by_cases hlt : k < ts.length
      · obtain ⟨g, rfl, hv⟩ := HV.out (by intro e; rw [e] at hlt; simp at hlt)
        obtain ⟨q1, q2, q3, q4, q5⟩ := (HSC.out.fits (full := t.data.toList) rfl).get k hlt
        have a0 : (w2.drewN m).cell? ⟨g, k * 3, none⟩ = some (.string ⟨ts[k].kind.toArray⟩) := hv.c0 k hlt
        have a1 : (w2.drewN m).cell? ⟨g, k * 3 + 1, none⟩ = some (.string ⟨ts[k].text.toArray⟩) := hv.c1 k hlt
        have a2 : (w2.drewN m).cell? ⟨g, k * 3 + 2, none⟩ = some (.int .i64 ts[k].pos) := hv.c2 k hlt
        obtain ⟨tx, htx⟩ : ∃ tx, tx = ts[k].text := ⟨_, rfl⟩
        obtain ⟨ps, hps⟩ : ∃ ps, ps = ts[k].pos := ⟨_, rfl⟩
        obtain ⟨ea, hea⟩ : ∃ ea, ea = endAt 0 ts k := ⟨_, rfl⟩
        rw [← htx] at q2 q3 q4 q5 a1
        rw [← hps] at q1 q3 q4 q5 a2
        rw [← hea] at q1
        rw [data_len] at q3
        have hsl : ∀ w, (Instr.slice 9 (.string t) (some (.int .i64 ps)) (some (.int .i64 ((ps : Int) + (tx.length : Int)))) none).run Tryd.prog w = .ok (.string ⟨tx.toArray⟩) w := fun w => by
          rw [run_slice_string (P := Tryd.prog) w 9 t .i64 .i64 ps ((ps : Int) + (tx.length : Int)) Tryd.underlying9 (by omega) (by omega) (by omega)]
          have e := ext_eq t ps tx.length (by omega)
          rw [q4] at e
          rw [← e]
          rfl
        have HQ : Hid (endAt 0 ts (k + 1) = ps + tx.length) := q5
        have r1 : (ea : Int) ≤ (ps : Int) := by omega
        have r2 : (ps : Int) ≤ (t.size : Int) - (tx.length : Int) := by omega
        have r3 : tx.isEmpty = false := by simpa using q2
        have r4 : (tx.length : Int) ≤ 1500 := by omega
        have hlt' : (k : Int) < (ts.length : Int) := by omega
        have r5 : decide (ps < ea) = false := decide_eq_false (by omega)
        have r6 : decide ((t.size : Int) - (tx.length : Int) < (ps : Int)) = false := by simpa using r2
        rw [← hea]
        clear hv q1 q2 q3 q4 q5 htx hps hea HV HSC
        generalize hW : w2.drewN m = W at a0 a1 a2
        go_wp2
        go_quiet (fail)
        go_wp2
        go_quiet (fail)
        go_wp2
        go_quiet (fail)
        go_wp2
        go_roundw
        case rel => exact ⟨k + 1, _, by omega, by go_num, by rw [HQ.out]; go_num, by rw [← hW]; exact World.drewN_drewN _ _ _⟩
        case measure => simp [intOf]; omega
      · have hke : k = ts.length := by omega
        subst hke
        have hbW : Below w2.heap.size w2 (w2.drewN m) := drewN_below _ _
        have hGW := hG2.below hbW
        have HVW : Hid (ts ≠ [] → ∃ g, xa = some ⟨g, 0, none⟩ ∧ TokView (w2.drewN m) (.slice xa ts.length ca) g ts) := fun h => by
          obtain ⟨g, e, hv⟩ := HV.out h
          exact ⟨g, e, hv.below hbW⟩
        have sW := hbW.size
        generalize w2.drewN m = W at hbW hGW HVW sW
        have hjl := HSC.out.few.2
        rw [data_len] at hjl
        have hjs : (⟨(joined ts).toArray⟩ : ByteArray).size ≤ 4000 := by
          have : (⟨(joined ts).toArray⟩ : ByteArray).size = (joined ts).length := by simp [ByteArray.size]
          omega
        obtain ⟨us, hus, hmap⟩ := scan_joined ts 0 HSC.out.good
        have HU : Hid (Scan 0 (joined ts) us none) := hus
        have HMP : Hid (us.map (fun t => (t.kind, t.text)) = ts.map (fun t => (t.kind, t.text))) := hmap
        have hul : us.length = ts.length := by simpa using congrArg List.length hmap
        clear hus hmap HV hG2
        go_wp2_with fail
        refine (text_any ts xa ca W (by omega) (fun k => by have := HSC.out.joinTo_le k; rw [data_len] at this; omega) (fun i hi => by have := HSC.out.text_le i hi; rw [data_len] at this; omega) HVW.out).mono ?_
        rintro e w3 ⟨rfl, hb3⟩
        have hG3 := hGW.below hb3
        have s3 := hb3.size
        go_wp2_with fail
        refine (read_any a _ hjs w3 hG3).mono ?_
        rintro e w4 ⟨us', er, hsc, hb4, hy⟩
        have s4 := hb4.size
        have hsc' : Scan 0 (joined ts) us' er := by simpa using hsc
        obtain ⟨rfl, rfl⟩ := HU.out.det hsc'
        clear hsc hsc'
        have hb14 := bl_trans (bl_trans (bl_trans hb12 (by omega) hbW) (by omega) hb3) (by omega) hb4
        rcases hy with ⟨_, _, v2, rfl, ho2⟩ | ⟨p, b, h', _⟩ | ⟨_, hl, _⟩
        · obtain ⟨xb, cb, rfl, hvb⟩ := tokAny ho2
          have HVA : Hid (ts ≠ [] → ∃ g, xa = some ⟨g, 0, none⟩ ∧ TokView w4 (.slice xa ts.length ca) g ts) := fun h => by
            obtain ⟨g, e, hv⟩ := HVW.out h
            exact ⟨g, e, (hv.below hb3).below hb4⟩
          have HVB : Hid (us ≠ [] → ∃ g, xb = some ⟨g, 0, none⟩ ∧ TokView w4 (.slice xb us.length cb) g us) := hvb
          rw [hul]
          clear hvb ho2 HVW
          go_wp2
          go_loopw [9] (fun i wr => ∃ k m : Nat, k ≤ ts.length ∧ i = .int .i64 k ∧ wr = w4.drewN m) (fun i _ => ts.length - (intOf i).toNat)
          case atStart => exact ⟨0, 0, Nat.zero_le _, rfl, rfl⟩
          case round =>
            obtain ⟨k, m, hk, rfl, rfl⟩ := hrel
            by_cases hlt : k < ts.length
            · obtain ⟨ga, rfl, hv⟩ := HVA.out (by intro e; rw [e] at hlt; simp at hlt)
              obtain ⟨gb, rfl, hu⟩ := HVB.out (by intro e; rw [e] at hul; simp at hul; omega)
              have hku : k < us.length := by omega
              obtain ⟨e1, e2⟩ := map_get HMP.out k hku hlt
              have a0 : (w4.drewN m).cell? ⟨ga, k * 3, none⟩ = some (.string ⟨ts[k].kind.toArray⟩) := hv.c0 k hlt
              have a1 : (w4.drewN m).cell? ⟨ga, k * 3 + 1, none⟩ = some (.string ⟨ts[k].text.toArray⟩) := hv.c1 k hlt
              have b0 : (w4.drewN m).cell? ⟨gb, k * 3, none⟩ = some (.string ⟨ts[k].kind.toArray⟩) := by rw [← e1]; exact hu.c0 k hku
              have b1 : (w4.drewN m).cell? ⟨gb, k * 3 + 1, none⟩ = some (.string ⟨ts[k].text.toArray⟩) := by rw [← e2]; exact hu.c1 k hku
              have hlt' : (k : Int) < (ts.length : Int) := by omega
              clear hv hu HVA HVB e1 e2
              generalize hW : w4.drewN m = Wq at a0 a1 b0 b1
              go_wp2
              go_quiet (fail)
              go_wp2
              go_roundw
              case rel => exact ⟨k + 1, _, by omega, by go_num, by rw [← hW]; exact World.drewN_drewN _ _ _⟩
              case measure => simp [intOf]; omega
            · go_wp2
              go_ret
              exact ⟨rfl, bl_trans hb14 (by omega) (drewN_below _ _)⟩
        · cases h'
        · omega
  · go_wp2
    go_ret
    exact ⟨rfl, hb12⟩
  · go_wp2
    go_ret
    exact ⟨rfl, hb12⟩
theorem lexAgain_any (a : Nat → Addr) (t : ByteArray) (hm : t.size ≤ 9223372036854775807) (w : World) (hG : LexG w a) :
    Calls Tryd.prog 8 #[.string t] w fun e w' => e = .returned (.bool true) ∧ Below w.heap.size w w' := by
  by_cases h : 1500 < t.size
  · exact again_huge a t h hm w hG
  · exact again_small a t (by omega) w hG
end Go.Proofs.YtmepblacndgkjaaDoor
