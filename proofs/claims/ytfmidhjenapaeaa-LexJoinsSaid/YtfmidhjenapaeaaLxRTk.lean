/-
  Layer 7, the document's answer: one token: its own variables.
-/
import Derived.Test.YtfmidhjenapaeaaLxRSkip
import Derived.Test.YtfmidhjenapaeaaLxWays
set_option linter.unusedVariables false
set_option linter.unusedSimpArgs false
namespace Go.Proofs.Ytfmidhjenapaeaa
open Go.RowKit Lx

/-- What the document's answer for one token is. -/
def TokRes (w : World) (i : Nat) : Res → Ending → World → Prop
  | .bad p, e, w' => (∃ k s q, e = .returned (.tuple #[.agg #[.int .i64 k, .string s, .int .i64 q], .int .i64 0, .int .i64 (p : Int)])) ∧ Below w.heap.size w w'
  | .tok k t p, e, w' => e = .returned (.tuple #[.agg #[.int .i64 k, .string (txt t), .int .i64 (i : Int)], .int .i64 (p : Int), .int .i64 (-1)]) ∧ Below w.heap.size w w'
/-- Within the call: the result's variable, the token's, and the text. -/
structure TrAt (w : World) (a : Option Addr) (bs : List Int) (W : World) (k : Int) (s : ByteArray) (i : Nat) : Prop where
  res : W.heap[w.heap.size]? = some (.cells zTok.toArray 38 (0, 0))
  tok : W.heap[w.heap.size + 1]? = some (.cells (tk3 k s i).toArray 38 (0, 0))
  below : Below w.heap.size w W
  text : BytesAt W a bs
  old : ∀ g off, a = some ⟨g, off, none⟩ → bs ≠ [] → g < w.heap.size
section
variable {w W W' : World} {a : Option Addr} {bs : List Int} {k : Int} {s : ByteArray} {i : Nat}
theorem TrAt.start (hb : BytesAt w a bs) (i : Nat) : TrAt w a bs ((w.alloc (.cells zTok.toArray 38)).alloc (.cells (tk3 0 { data := #[] } i).toArray 38)) 0 { data := #[] } i := by
  have hB : Below w.heap.size w ((w.alloc (.cells zTok.toArray 38)).alloc (.cells (tk3 0 { data := #[] } i).toArray 38)) := ((Below.refl _ _).alloc (Nat.le_refl _) _).alloc (by simp) _
  refine ⟨?_, ?_, hB, hb.kept hB, fun g off e hn => by rw [e] at hb; exact hb.lt hn⟩
  · rw [Below.heap_alloc _ _ _ (by simp)]
    exact heap_alloc_last _ _
  · have := heap_alloc_last (w.alloc (.cells zTok.toArray 38)) (.cells (tk3 0 { data := #[] } i).toArray 38)
    simpa using this
theorem TrAt.size (h : TrAt w a bs W k s i) : w.heap.size + 2 ≤ W.heap.size := (Array.getElem?_eq_some_iff.1 h.tok).1
theorem TrAt.kind (h : TrAt w a bs W k s i) (k' : Int) : TrAt w a bs (W.setCell ⟨w.heap.size + 1, 0, none⟩ (.int .i64 k')) k' s i := by
  have q : Chg (fun j => j = w.heap.size + 1) W (W.setCell ⟨w.heap.size + 1, 0, none⟩ (.int .i64 k')) := chg_setCell (S := fun j => j = w.heap.size + 1) rfl _ _ _
  have hs := h.size
  refine ⟨(q.block _ (by omega) (by omega)).trans h.res, ?_, h.below.trans (q.below (fun j hj => by omega) h.below.size), h.text.chg q (fun g off e hn => by have := h.old g off e hn; omega), h.old⟩
  rw [heap_setCell_same W _ 0 _ _ _ h.tok]
  rfl
theorem TrAt.words (h : TrAt w a bs W k s i) (s' : ByteArray) : TrAt w a bs (W.setCell ⟨w.heap.size + 1, 1, none⟩ (.string s')) k s' i := by
  have q : Chg (fun j => j = w.heap.size + 1) W (W.setCell ⟨w.heap.size + 1, 1, none⟩ (.string s')) := chg_setCell (S := fun j => j = w.heap.size + 1) rfl _ _ _
  have hs := h.size
  refine ⟨(q.block _ (by omega) (by omega)).trans h.res, ?_, h.below.trans (q.below (fun j hj => by omega) h.below.size), h.text.chg q (fun g off e hn => by have := h.old g off e hn; omega), h.old⟩
  rw [heap_setCell_same W _ 1 _ _ _ h.tok]
  rfl
theorem TrAt.grow (h : TrAt w a bs W k s i) (hc : Chg (fun j => w.heap.size + 2 ≤ j) W W') : TrAt w a bs W' k s i := by
  have hs := h.size
  exact ⟨(hc.block _ (by omega) (by omega)).trans h.res, (hc.block _ (by omega) (by omega)).trans h.tok, h.below.trans (hc.below (fun j hj => by omega) h.below.size), h.text.chg hc (fun g off e hn => by have := h.old g off e hn; omega), h.old⟩
theorem TrAt.cells (h : TrAt w a bs W k s i) : W.cell? ⟨w.heap.size + 1, 0, none⟩ = some (.int .i64 k) ∧ W.cell? ⟨w.heap.size + 1, 1, none⟩ = some (.string s) ∧ ∀ j, W.frozen? ⟨w.heap.size + 1, j, none⟩ = false := by
  have := h.tok
  simp [World.cell?, World.frozen?, this, tk3]
/-- The token goes into the result. -/
theorem TrAt.fin (h : TrAt w a bs W k s i) : W.rangeAt (w.heap.size + 1) 0 (tk3 k s i) ∧ W.there w.heap.size 0 (tk3 k s i).toArray.size ∧ Below w.heap.size w (W.setCells w.heap.size 0 (tk3 k s i)) ∧
    (loadVar 38 ⟨w.heap.size, 0, none⟩).run Try.prog (W.setCells w.heap.size 0 (tk3 k s i)) = .ok (.agg #[.int .i64 k, .string s, .int .i64 (i : Int)]) (W.setCells w.heap.size 0 (tk3 k s i)) := by
  have hth : W.there w.heap.size 0 3 := fun j hj => by
    have := h.res
    simp [World.cell?, World.frozen?, this, zTok, tk3]
    omega
  have q : Chg (fun j => j = w.heap.size) W (W.setCells w.heap.size 0 (tk3 k s i)) := chg_setCells (S := fun j => j = w.heap.size) rfl _ _ _
  refine ⟨fun j u hu => ?_, hth, h.below.trans (q.below (fun j hj => by omega) h.below.size), load_token (World.rangeAt_setCells_same _ _ _ _ hth)⟩
  have := h.tok
  simp only [World.cell?, this, Nat.zero_add]
  simpa using hu
theorem zero_token : (Try.prog.info? 38).map (fun i => (i.zero, i.size)) = some (some (.agg zTok.toArray), 3) := by kernel_rfl
theorem tkSize (k : Int) (s : ByteArray) (p : Int) : (Try.prog.info? 38).map (·.size) = some (tk3 k s p).length := size_token
end
end Go.Proofs.Ytfmidhjenapaeaa
