/- By program out of: DkOps, DkMuch. -/
import Derived.Test.YtmiocohlklnglaaDoorMncofeg
import Derived.Deep.QuietTactic
import Derived.BigQuiet
/-
  Layer 5: the smallest calls: has, Dead, Ops, Stop, modulo, and how much of a write lasts.
-/
set_option linter.unusedVariables false
set_option linter.unusedSimpArgs false
namespace Go.Proofs.YtmiocohlklnglaaDoor
open Go.RowKit

section
variable {w : World} {d s l : Nat} {v : Value} {n : Nat} {A : Dk.DV}

/-- A call that tells a truth, and draws. -/
def GivesDrew (b : Bool) (w : World) (e : Ending) (w' : World) : Prop := e = .returned (.bool b) ∧ ∃ k, w' = w.drewN k
end
end Go.Proofs.YtmiocohlklnglaaDoor


/-
  Layer 5: how much of a write lasts behind a crash.
-/
set_option linter.unusedVariables false
set_option linter.unusedSimpArgs false
namespace Go.Proofs.YtmiocohlklnglaaDoor
open Go.RowKit

/-- A slice of truths. -/
def Truths (w : World) (a : Option Addr) (ks : List Bool) : Prop := ks = [] ∨ ∃ g off, a = some ⟨g, off, none⟩ ∧ ∀ (i : Nat) (b : Bool), ks[i]? = some b → w.cell? ⟨g, off + i, none⟩ = some (.bool b)
theorem Truths.nil (w : World) (a : Option Addr) : Truths w a [] := .inl rfl
theorem Truths.kept {w w' : World} {a : Option Addr} {ks : List Bool} (h : Truths w a ks) (hb : Below w.heap.size w w') : Truths w' a ks := by
  rcases h with rfl | ⟨g, off, rfl, h⟩
  · exact .inl rfl
  · refine .inr ⟨g, off, rfl, fun i u hu => ?_⟩
    have hc := h i u hu
    rw [hb.cell (World.block_lt_of_cell? w _ hc)]
    exact hc
/-- What a crash keeps of the k-th write. -/
def muchN (ks : List Bool) (torn tear : Int) (k : Nat) : Nat := if (k : Int) = torn then (tear % 64).toNat else if ks.getD k false = true then 64 else 0
theorem muchN_le (ks : List Bool) (torn tear : Int) (k : Nat) : muchN ks torn tear k ≤ 64 := by
  unfold muchN
  split
  · omega
  · split <;> omega
/-- The three boxes of the closure. -/
structure MuchAt (w : World) (p1 p2 p3 : Nat) (a : Option Addr) (c : Nat) (ks : List Bool) (torn tear : Int) : Prop where
  b1 : w.cell? ⟨p1, 0, none⟩ = some (.int .i64 torn)
  b2 : w.cell? ⟨p2, 0, none⟩ = some (.int .i64 tear)
  b3 : w.cell? ⟨p3, 0, none⟩ = some (.slice a ks.length c)
  keep : Truths w a ks
end Go.Proofs.YtmiocohlklnglaaDoor

