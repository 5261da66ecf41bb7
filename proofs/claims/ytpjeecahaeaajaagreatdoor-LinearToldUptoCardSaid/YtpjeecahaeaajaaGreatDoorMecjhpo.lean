/- By program out of: DkOps, DkMuch. -/
import Derived.Test.YtpjeecahaeaajaaGreatDoorMncofeg
import Derived.Deep.QuietTactic
import Derived.BigQuiet
set_option linter.unusedVariables false
set_option linter.unusedSimpArgs false
namespace Go.Proofs.YtpjeecahaeaajaaGreatDoor
open Go.RowKit
section
variable {w : World} {d s l : Nat} {v : Value} {n : Nat} {A : Dk.DV}
end
end Go.Proofs.YtpjeecahaeaajaaGreatDoor

set_option linter.unusedVariables false
set_option linter.unusedSimpArgs false
namespace Go.Proofs.YtpjeecahaeaajaaGreatDoor
open Go.RowKit
def Truths (w : World) (a : Option Addr) (ks : List Bool) : Prop := ks = [] ∨ ∃ g off, a = some ⟨g, off, none⟩ ∧ ∀ (i : Nat) (b : Bool), ks[i]? = some b → w.cell? ⟨g, off + i, none⟩ = some (.bool b)
theorem Truths.nil (w : World) (a : Option Addr) : Truths w a [] := .inl rfl
theorem Truths.kept {w w' : World} {a : Option Addr} {ks : List Bool} (h : Truths w a ks) (hb : Below w.heap.size w w') : Truths w' a ks := by
  rcases h with rfl | ⟨g, off, rfl, h⟩
  · exact .inl rfl
  · refine .inr ⟨g, off, rfl, fun i u hu => ?_⟩
    have hc := h i u hu
    rw [hb.cell (World.block_lt_of_cell? w _ hc)]
    exact hc
structure MuchAt (w : World) (p1 p2 p3 : Nat) (a : Option Addr) (c : Nat) (ks : List Bool) (torn tear : Int) : Prop where
  b1 : w.cell? ⟨p1, 0, none⟩ = some (.int .i64 torn)
  b2 : w.cell? ⟨p2, 0, none⟩ = some (.int .i64 tear)
  b3 : w.cell? ⟨p3, 0, none⟩ = some (.slice a ks.length c)
  keep : Truths w a ks
theorem MuchAt.past {w w' : World} {p1 p2 p3 : Nat} {a : Option Addr} {c : Nat} {ks : List Bool} {torn tear : Int} (h : MuchAt w p1 p2 p3 a c ks torn tear)
    (h1 : ∀ k, k = p1 ∨ k = p2 ∨ k = p3 ∨ (ks ≠ [] ∧ ∃ x, a = some x ∧ x.block = k) → w'.heap[k]? = w.heap[k]?) : MuchAt w' p1 p2 p3 a c ks torn tear := by
  refine ⟨(World.cell?_of_block (h1 p1 (by simp))).trans h.b1, (World.cell?_of_block (h1 p2 (by simp))).trans h.b2, (World.cell?_of_block (h1 p3 (by simp))).trans h.b3, ?_⟩
  by_cases e : ks = []
  · exact .inl e
  · rcases h.keep with k | ⟨g, off, rfl, k⟩
    · exact .inl k
    · exact .inr ⟨g, off, rfl, fun i u hu => (World.cell?_of_block (h1 g (.inr (.inr (.inr ⟨e, _, rfl, rfl⟩))))).trans (k i u hu)⟩
end Go.Proofs.YtpjeecahaeaajaaGreatDoor
