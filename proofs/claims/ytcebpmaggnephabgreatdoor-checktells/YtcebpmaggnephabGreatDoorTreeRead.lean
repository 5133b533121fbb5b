/-
  Our own: functions of the reference's make that came in as an argument, read as trees.
-/
import Derived.Test.YtcebpmaggnephabGreatDoorTreeAny
import Derived.Deep.Slices
namespace Go.Proofs.YtcebpmaggnephabGreatDoor
open Go.RowKit Go.ChangeShapes Go.WideShapes

mutual
/-- Texts and lists of a tree that came in are no longer than a machine's can be. -/
def OkE : Ex → Prop
  | .mk k n m ks => k.length ≤ 9223372036854775807 ∧ (Lit.int .i64 n).wf = true ∧ m.length ≤ 9223372036854775807 ∧ ks.length ≤ 9223372036854775807 ∧ OkEs ks
def OkEs : List Ex → Prop
  | [] => True
  | e :: r => OkE e ∧ OkEs r
end
mutual
def OkS : Sm → Prop
  | .mk k n e t o => k.length ≤ 9223372036854775807 ∧ n.length ≤ 9223372036854775807 ∧ OkE e ∧ t.length ≤ 9223372036854775807 ∧ OkSs t ∧ o.length ≤ 9223372036854775807 ∧ OkSs o
def OkSs : List Sm → Prop
  | [] => True
  | e :: r => OkS e ∧ OkSs r
end
def OkF (f : Fu) : Prop := f.name.length ≤ 9223372036854775807 ∧ f.params.length ≤ 9223372036854775807 ∧ (∀ p ∈ f.params, p.length ≤ 9223372036854775807) ∧ f.body.length ≤ 9223372036854775807 ∧ OkSs f.body
theorem OkEs.of : ∀ {l : List Ex}, (∀ e ∈ l, OkE e) → OkEs l
  | [], _ => trivial
  | e :: _, h => ⟨h e (by simp), OkEs.of fun x hx => h x (by simp [hx])⟩
theorem OkSs.of : ∀ {l : List Sm}, (∀ e ∈ l, OkS e) → OkSs l
  | [], _ => trivial
  | e :: _, h => ⟨h e (by simp), OkSs.of fun x hx => h x (by simp [hx])⟩
theorem OkEs.mem : ∀ {l : List Ex}, OkEs l → ∀ e ∈ l, OkE e
  | [], _, _, h => absurd h (by simp)
  | _ :: _, ⟨h1, h2⟩, x, hx => by
    rcases List.mem_cons.1 hx with rfl | hx
    · exact h1
    · exact h2.mem x hx
theorem OkSs.mem : ∀ {l : List Sm}, OkSs l → ∀ e ∈ l, OkS e
  | [], _, _, h => absurd h (by simp)
  | _ :: _, ⟨h1, h2⟩, x, hx => by
    rcases List.mem_cons.1 hx with rfl | hx
    · exact h1
    · exact h2.mem x hx
/-- Elements one behind the other make a row. -/
theorem rows_build {α : Type} {w : World} {g off : Nat} (s : Nat) (Rep : α → List Value → Prop) (Reps : List α → List Value → Prop) (G : α → Prop) (hnil : Reps [] []) (hsnoc : ∀ l xs e cs, Reps l xs → Rep e cs → Reps (l ++ [e]) (xs ++ cs)) (hlen : ∀ e cs, Rep e cs → cs.length = s) :
    ∀ n : Nat, (∀ i, i < n → ∃ e cs, Rep e cs ∧ G e ∧ ∀ j, j < s → w.cell? ⟨g, off + (i * s + j), none⟩ = cs[j]?) → ∃ l xs, l.length = n ∧ (∀ e ∈ l, G e) ∧ xs.length = n * s ∧ Reps l xs ∧ ∀ j u, xs[j]? = some u → w.cell? ⟨g, off + j, none⟩ = some u
  | 0, _ => ⟨[], [], rfl, by simp, by simp, hnil, by simp⟩
  | n + 1, h => by
    obtain ⟨l, xs, h1, h2, h3, h4, h5⟩ := rows_build s Rep Reps G hnil hsnoc hlen n (fun i hi => h i (by omega))
    obtain ⟨e, cs, h6, h7, h8⟩ := h n (by omega)
    have hl := hlen e cs h6
    refine ⟨l ++ [e], xs ++ cs, by simp [h1], fun x hx => ?_, by simp [h3, hl, Nat.succ_mul], hsnoc _ _ _ _ h4 h6, fun j u hu => ?_⟩
    · rcases List.mem_append.1 hx with hx | hx
      · exact h2 x hx
      · rw [List.mem_singleton.1 hx]; exact h7
    · by_cases hj : j < xs.length
      · rw [List.getElem?_append_left hj] at hu; exact h5 j u hu
      · rw [List.getElem?_append_right (by omega)] at hu
        have hjl : j - xs.length < s := by
          rcases Nat.lt_or_ge (j - xs.length) cs.length with h' | h'
          · omega
          · rw [List.getElem?_eq_none h'] at hu; cases hu
        have := h8 (j - xs.length) hjl
        rw [hu] at this
        rw [← this]
        congr 2
        omega
section
variable {H : Type} {enc : TypeId × Value → H} {w : World} {sp : Nat → Bool} {held : Bool}
/-- A slice that came in, read. -/
theorem slice_read {P : Program} {α : Type} {t e : TypeId} (s : Nat) (ht : P.underlying t = some (.slice e)) (hs : P.cellsOf e = s) (h0 : 0 < s) (Rep : α → List Value → Prop) (Reps : List α → List Value → Prop) (G : α → Prop) (hnil : Reps [] []) (hsnoc : ∀ l xs e cs, Reps l xs → Rep e cs → Reps (l ++ [e]) (xs ++ cs)) (hlen : ∀ e cs, Rep e cs → cs.length = s)
    {fuel : Nat} {cs : List Value} {x : DataW H × List MemPlace} (h : DataW.trod enc P w 0 sp held fuel t cs = some x) (ih : ∀ n, fuel = n + 1 → ∀ cs y, DataW.trod enc P w 0 sp held n e cs = some y → ∃ a, Rep a cs ∧ G a) :
    ∃ v l xs, cs = [v] ∧ l.length ≤ 9223372036854775807 ∧ (∀ e ∈ l, G e) ∧ XRow (fun b => b < w.heap.size) w v l.length xs ∧ Reps l xs := by
  rcases DataW.trod_slice ht h with ⟨rfl, _⟩ | ⟨a, len, cap, elems, rest, n, hf, rfl, _, _, hl, hm, hlen', hel, _⟩
  · exact ⟨_, [], [], rfl, by simp, by simp, xrow_nil _ _, hnil⟩
  · by_cases hz : len = 0
    · subst hz
      exact ⟨_, [], [], rfl, by simp, by simp, ⟨_, _, rfl, fun h => absurd rfl h⟩, hnil⟩
    · have key : ∀ i, i < len → ∃ cs' y, w.cells? 0 (a.add (i * s)) s = some cs' ∧ DataW.trod enc P w 0 sp held n e cs' = some y := fun i hi => by
        have := hel i hi
        rw [List.getElem?_eq_getElem (by omega), hs] at this
        obtain ⟨cs', h1, h2⟩ := Option.bind_eq_some_iff.1 this
        exact ⟨cs', _, h1, h2⟩
      have hspot : a.spot = none ∧ a.block < w.heap.size := by
        obtain ⟨cs', y, h1, _⟩ := key 0 (by omega)
        have h2 := (World.cells?_some h1).2.2 0 h0
        have hl' := (World.cells?_some h1).2.1
        have e1 : (a.add (0 * s)).add 0 = a := by simp [Addr.add]
        rw [e1, List.getElem?_eq_getElem (by omega)] at h2
        refine ⟨?_, cell_lt h2⟩
        cases hsp : a.spot with
        | none => rfl
        | some k =>
          unfold World.cell? at h2
          split at h2
          · simp [hsp] at h2
          · cases h2
      obtain ⟨g, off, spot⟩ := a
      obtain ⟨rfl, hg⟩ := hspot
      obtain ⟨l, xs, h1, h2, h3, h4, h5⟩ := rows_build (w := w) (g := g) (off := off) s Rep Reps G hnil hsnoc hlen len (fun i hi => by
        obtain ⟨cs', y, h1, h2⟩ := key i hi
        obtain ⟨b, hb1, hb2⟩ := ih n hf cs' y h2
        refine ⟨b, cs', hb1, hb2, fun j hj => ?_⟩
        have := (World.cells?_some h1).2.2 j hj
        rw [Go.Deep.add_add] at this
        rw [← this]
        congr 1
        unfold Addr.add
        split
        · simp
        · rfl)
      have hml : maxLen = 9223372036854775807 := rfl
      exact ⟨_, l, xs, rfl, by omega, h2, ⟨_, _, by rw [h1], fun _ => ⟨g, off, rfl, hg, h5⟩⟩, h4⟩
theorem c_expr : Tryz.prog.cellsOf 112 = 4 := by kernel_rfl
theorem c_stmt : Tryz.prog.cellsOf 114 = 8 := by kernel_rfl
theorem c_fun : Tryz.prog.cellsOf 54 = 3 := by kernel_rfl
theorem c_string : Tryz.prog.cellsOf 9 = 1 := by kernel_rfl
theorem c_int : Tryz.prog.cellsOf 3 = 1 := by kernel_rfl
theorem c_strings : Tryz.prog.cellsOf 46 = 1 := by kernel_rfl
theorem c_exprs : Tryz.prog.cellsOf 110 = 1 := by kernel_rfl
theorem c_stmts : Tryz.prog.cellsOf 52 = 1 := by kernel_rfl
theorem str_eta (s : ByteArray) : s = ⟨s.data.toList.toArray⟩ := by cases s; rfl
theorem str_len {s : ByteArray} (h : s.size ≤ maxLen) : s.data.toList.length ≤ 9223372036854775807 := h
set_option maxRecDepth 100000 in
/-- An expression that came in. -/
theorem read_expr (fuel : Nat) : ∀ (cs : List Value) (x : DataW H × List MemPlace), DataW.trod enc Tryz.prog w 0 sp held fuel 112 cs = some x → ∃ e, XE (fun b => b < w.heap.size) w e cs ∧ OkE e := by
  induction fuel using Nat.strongRecOn with
  | _ fuel ih =>
    intro cs x h
    obtain ⟨xs, n, hf, _, hl, hx, hall⟩ := DataW.trod_struct Tryz.underlying112 h
    rw [c_expr] at hl
    subst hf
    have hx4 : xs.length = 4 := hx
    match cs, hl with
    | [v0, v1, v2, v3], _ =>
      have e0 : DataW.trod enc Tryz.prog w 0 sp held n 9 (([v0, v1, v2, v3].drop 0).take (Tryz.prog.cellsOf 9)) = xs[0]? := hall 0 _ rfl
      have e1 : DataW.trod enc Tryz.prog w 0 sp held n 3 (([v0, v1, v2, v3].drop 1).take (Tryz.prog.cellsOf 3)) = xs[1]? := hall 1 _ rfl
      have e2 : DataW.trod enc Tryz.prog w 0 sp held n 9 (([v0, v1, v2, v3].drop 2).take (Tryz.prog.cellsOf 9)) = xs[2]? := hall 2 _ rfl
      have e3 : DataW.trod enc Tryz.prog w 0 sp held n 110 (([v0, v1, v2, v3].drop 3).take (Tryz.prog.cellsOf 110)) = xs[3]? := hall 3 _ rfl
      rw [List.getElem?_eq_getElem (by omega)] at e0 e1 e2 e3
      rw [c_string] at e0 e2
      rw [c_int] at e1
      rw [c_exprs] at e3
      simp only [List.drop_zero, List.drop_succ_cons, List.take_succ_cons, List.take_zero] at e0 e1 e2 e3
      obtain ⟨s0, h0, _, w0⟩ := DataW.trod_string Tryz.underlying9 e0
      obtain ⟨n1, h1, _, w1⟩ := DataW.trod_int Tryz.underlying3 e1
      obtain ⟨s2, h2, _, w2⟩ := DataW.trod_string Tryz.underlying9 e2
      obtain ⟨v, l, ys, h3, hl3, hg3, hr3, hs3⟩ := slice_read (α := Ex) 4 Tryz.underlying110 c_expr (by decide) (XE (fun b => b < w.heap.size) w) (XEs (fun b => b < w.heap.size) w) OkE rfl (fun _ _ _ _ => XEs.snoc) (fun _ _ h => h.len) e3
        (fun m hm cs y hy => ih m (by omega) cs y hy)
      injection h0 with h0; injection h1 with h1; injection h2 with h2; injection h3 with h3
      subst h0 h1 h2 h3
      refine ⟨.mk s0.data.toList n1 s2.data.toList l, ⟨v3, ys, by rw [← str_eta, ← str_eta], hr3, hs3⟩, str_len w0, w1, str_len w2, hl3, OkEs.of hg3⟩
set_option maxRecDepth 100000 in
/-- A statement that came in. -/
theorem read_stmt (fuel : Nat) : ∀ (cs : List Value) (x : DataW H × List MemPlace), DataW.trod enc Tryz.prog w 0 sp held fuel 114 cs = some x → ∃ e, XS (fun b => b < w.heap.size) w e cs ∧ OkS e := by
  induction fuel using Nat.strongRecOn with
  | _ fuel ih =>
    intro cs x h
    obtain ⟨xs, n, hf, _, hl, hx, hall⟩ := DataW.trod_struct Tryz.underlying114 h
    rw [c_stmt] at hl
    subst hf
    have hx4 : xs.length = 5 := hx
    match cs, hl with
    | [v0, v1, v2, v3, v4, v5, v6, v7], _ =>
      have e0 : DataW.trod enc Tryz.prog w 0 sp held n 9 (([v0, v1, v2, v3, v4, v5, v6, v7].drop 0).take (Tryz.prog.cellsOf 9)) = xs[0]? := hall 0 _ rfl
      have e1 : DataW.trod enc Tryz.prog w 0 sp held n 9 (([v0, v1, v2, v3, v4, v5, v6, v7].drop 1).take (Tryz.prog.cellsOf 9)) = xs[1]? := hall 1 _ rfl
      have e2 : DataW.trod enc Tryz.prog w 0 sp held n 112 (([v0, v1, v2, v3, v4, v5, v6, v7].drop 2).take (Tryz.prog.cellsOf 112)) = xs[2]? := hall 2 _ rfl
      have e3 : DataW.trod enc Tryz.prog w 0 sp held n 52 (([v0, v1, v2, v3, v4, v5, v6, v7].drop 6).take (Tryz.prog.cellsOf 52)) = xs[3]? := hall 3 _ rfl
      have e4 : DataW.trod enc Tryz.prog w 0 sp held n 52 (([v0, v1, v2, v3, v4, v5, v6, v7].drop 7).take (Tryz.prog.cellsOf 52)) = xs[4]? := hall 4 _ rfl
      rw [List.getElem?_eq_getElem (by omega)] at e0 e1 e2 e3 e4
      rw [c_string] at e0 e1
      rw [c_expr] at e2
      rw [c_stmts] at e3 e4
      simp only [List.drop_zero, List.drop_succ_cons, List.take_succ_cons, List.take_zero] at e0 e1 e2 e3 e4
      obtain ⟨s0, h0, _, w0⟩ := DataW.trod_string Tryz.underlying9 e0
      obtain ⟨s1, h1, _, w1⟩ := DataW.trod_string Tryz.underlying9 e1
      obtain ⟨e, hE, hO⟩ := read_expr n _ _ e2
      obtain ⟨v, l, ys, h3, hl3, hg3, hr3, hs3⟩ := slice_read (α := Sm) 8 Tryz.underlying52 c_stmt (by decide) (XS (fun b => b < w.heap.size) w) (XSs (fun b => b < w.heap.size) w) OkS rfl (fun _ _ _ _ => XSs.snoc) (fun _ _ h => h.len) e3
        (fun m hm cs y hy => ih m (by omega) cs y hy)
      obtain ⟨v', l', ys', h4, hl4, hg4, hr4, hs4⟩ := slice_read (α := Sm) 8 Tryz.underlying52 c_stmt (by decide) (XS (fun b => b < w.heap.size) w) (XSs (fun b => b < w.heap.size) w) OkS rfl (fun _ _ _ _ => XSs.snoc) (fun _ _ h => h.len) e4
        (fun m hm cs y hy => ih m (by omega) cs y hy)
      injection h0 with h0; injection h1 with h1; injection h3 with h3; injection h4 with h4
      subst h0 h1 h3 h4
      exact ⟨.mk s0.data.toList s1.data.toList e l l', ⟨[v2, v3, v4, v5], v6, ys, v7, ys', by rw [← str_eta, ← str_eta]; rfl, hE, hr3, hs3, hr4, hs4⟩, str_len w0, str_len w1, hO, hl3, OkSs.of hg3, hl4, OkSs.of hg4⟩
/-- A text that came in. -/
theorem read_texts {fuel : Nat} {cs : List Value} {x : DataW H × List MemPlace} (h : DataW.trod enc Tryz.prog w 0 sp held fuel 46 cs = some x) :
    ∃ v l, cs = [v] ∧ l.length ≤ 9223372036854775807 ∧ (∀ p ∈ l, p.length ≤ 9223372036854775807) ∧ XRow (fun b => b < w.heap.size) w v l.length (textsC l) := by
  obtain ⟨v, l, ys, h3, hl3, hg3, hr3, hs3⟩ := slice_read (α := List UInt8) 1 Tryz.underlying46 c_string (by decide) (fun p cs => cs = [.string ⟨p.toArray⟩]) (fun l xs => xs = textsC l) (fun p => p.length ≤ 9223372036854775807) rfl
    (fun l xs e cs h1 h2 => by rw [h1, h2]; simp [textsC]) (fun _ _ h => by rw [h]; rfl) h (fun m hm cs y hy => by
      obtain ⟨s0, h0, _, w0⟩ := DataW.trod_string Tryz.underlying9 hy
      exact ⟨s0.data.toList, by rw [h0, ← str_eta], str_len w0⟩)
  subst hs3
  exact ⟨v, l, h3, hl3, hg3, hr3⟩
set_option maxRecDepth 100000 in
/-- A function that came in. -/
theorem read_fun (fuel : Nat) (cs : List Value) (x : DataW H × List MemPlace) (h : DataW.trod enc Tryz.prog w 0 sp held fuel 54 cs = some x) : ∃ e, XF (fun b => b < w.heap.size) w e cs ∧ OkF e := by
  obtain ⟨xs, n, hf, _, hl, hx, hall⟩ := DataW.trod_struct Tryz.underlying54 h
  rw [c_fun] at hl
  subst hf
  have hx4 : xs.length = 3 := hx
  match cs, hl with
  | [v0, v1, v2], _ =>
    have e0 : DataW.trod enc Tryz.prog w 0 sp held n 9 (([v0, v1, v2].drop 0).take (Tryz.prog.cellsOf 9)) = xs[0]? := hall 0 _ rfl
    have e1 : DataW.trod enc Tryz.prog w 0 sp held n 46 (([v0, v1, v2].drop 1).take (Tryz.prog.cellsOf 46)) = xs[1]? := hall 1 _ rfl
    have e2 : DataW.trod enc Tryz.prog w 0 sp held n 52 (([v0, v1, v2].drop 2).take (Tryz.prog.cellsOf 52)) = xs[2]? := hall 2 _ rfl
    rw [List.getElem?_eq_getElem (by omega)] at e0 e1 e2
    rw [c_string] at e0
    rw [c_strings] at e1
    rw [c_stmts] at e2
    simp only [List.drop_zero, List.drop_succ_cons, List.take_succ_cons, List.take_zero] at e0 e1 e2
    obtain ⟨s0, h0, _, w0⟩ := DataW.trod_string Tryz.underlying9 e0
    obtain ⟨v, l, h1, hl1, hg1, hr1⟩ := read_texts e1
    obtain ⟨v', l', ys', h2, hl2, hg2, hr2, hs2⟩ := slice_read (α := Sm) 8 Tryz.underlying52 c_stmt (by decide) (XS (fun b => b < w.heap.size) w) (XSs (fun b => b < w.heap.size) w) OkS rfl (fun _ _ _ _ => XSs.snoc) (fun _ _ h => h.len) e2
      (fun m hm cs y hy => read_stmt m cs y hy)
    injection h0 with h0; injection h1 with h1; injection h2 with h2
    subst h0 h1 h2
    exact ⟨⟨s0.data.toList, l, l'⟩, ⟨v1, v2, ys', by rw [← str_eta], hr1, hr2, hs2⟩, str_len w0, hl1, hg1, hl2, OkSs.of hg2⟩
/-- Functions that came in. -/
theorem read_funs {v : Value} {d : DataW H} {ps : List MemPlace} (h : DataW.Trod enc Tryz.prog w 0 sp held 35 v d ps) (hv : v.cells.toList = [v]) : ∃ l, XLF (fun b => b < w.heap.size) w v l ∧ l.length ≤ 9223372036854775807 ∧ ∀ f ∈ l, OkF f := by
  obtain ⟨fuel, hf⟩ := h
  rw [hv] at hf
  obtain ⟨v', l, ys, h1, hl, hg, hr, hs⟩ := slice_read (α := Fu) 3 Tryz.underlying35 c_fun (by decide) (XF (fun b => b < w.heap.size) w) (XFs (fun b => b < w.heap.size) w) OkF rfl (fun _ _ _ _ => XFs.snoc) (fun _ _ h => h.len) hf
    (fun m hm cs y hy => read_fun m cs y hy)
  injection h1 with h1
  subst h1
  exact ⟨l, ⟨ys, hr, hs⟩, hl, hg⟩
end
end Go.Proofs.YtcebpmaggnephabGreatDoor
