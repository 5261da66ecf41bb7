/-
  DiskStops: when the power goes just what was done ahead of it stands: the walk.
-/
import Derived.Test.YtienhidbgohhcaaDkPair
set_option linter.unusedVariables false
set_option linter.unusedSimpArgs false
namespace Go.Proofs.Ytienhidbgohhcaa
open Go.RowKit

theorem below_drewN (w : World) (j : Nat) : Below w.heap.size w (w.drewN j) := ⟨rfl, rfl, rfl, Nat.le_refl _, fun _ _ => rfl⟩
def StopAt (w0 : World) (d s l x t m q k : Nat) (wr : World) : Prop := ∃ v u A B, Two w0 wr 20 d s l v A x t m u B ∧ Rel A B q k
theorem size_64 : (Try.prog.info? 56).map (·.size) = some 64 := by kernel_rfl
theorem HC.at3 {c : HC} {w : World} {b : Nat} (h : w.rangeAt b 0 c.cells) : w.cell? ⟨b, 0, none⟩ = some (.int .i64 c.what) ∧ w.cell? ⟨b, 1, none⟩ = some (.int .i64 c.at') ∧ w.rangeAt b 3 (bys c.sec) := by
  refine ⟨by simpa using h 0 _ rfl, by simpa using h 1 _ rfl, fun j y hy => ?_⟩
  have hj : j < (bys c.sec).length := (List.getElem?_eq_some_iff.1 hy).1
  have := h (3 + j) y (by
    rw [HC.cells, show 3 + j = j + 1 + 1 + 1 by omega]
    simp only [List.getElem?_cons_succ]
    rw [List.getElem?_append_left hj]
    exact hy)
  rw [Nat.zero_add] at this
  exact this

end Go.Proofs.Ytienhidbgohhcaa

