/- Our own: texts joined: GrDoneV. -/
import Derived.Test.YtmckajgacfjnhaaGreatDoorQGrRec
namespace Go.Proofs.YtmckajgacfjnhaaGreatDoor
open Go.RowKit
def DoneV (w : World) (v : Value) (st : Rst) : Prop := ∃ outv callv xs, v = .agg #[.string ⟨st.how.toArray⟩, .int .i64 st.val, .int .i64 st.tks, outv, callv] ∧ XRow (InH w) w outv st.out.length (intsG st.out) ∧ XRow (InH w) w callv st.calls.length xs ∧ XCs (InH w) w st.calls xs
theorem done_of {S : Nat → Prop} {X Y : World} {rb : Nat} {s : Rst} {ansv : Value} {most steps : Int} {outv callv : Value} {xs : List Value} (h : RecJ S X rb s ansv most steps outv callv xs) (hf : ∀ k, S k → Y.heap[k]? = X.heap[k]?) (hz : Y.heap.size = X.heap.size) : DoneV Y (.agg #[.string ⟨s.how.toArray⟩, .int .i64 s.val, .int .i64 s.tks, outv, callv]) s := by
 have hrow : ∀ {t : TypeId} {size n : Nat} {v : Value} {ys : List Value}, X.ownsRow 0 t size v n ys → (∀ b, v.ownBlock = some b → S b) → XRow (InH Y) Y v n ys := fun {t size n v ys} ho hs => by
  have h1 := xrow_own (own_same ho (fun b e => hf b (hs b e)))
  exact h1.imp (fun b hb => hb.2) (fun _ _ => rfl)
 exact ⟨outv, callv, xs, rfl, hrow h.out h.outS, hrow h.call h.callS, h.tel.imp (fun b hb => by show b < Y.heap.size; rw [hz]; exact (h.sl b hb.1).1) (fun b hb => hf b hb.1)⟩
end Go.Proofs.YtmckajgacfjnhaaGreatDoor
