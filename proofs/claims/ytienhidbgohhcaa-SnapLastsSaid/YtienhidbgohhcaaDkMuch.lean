/-
  Layer 5: how much of a write lasts behind a crash.
-/
import Derived.Test.YtienhidbgohhcaaDkOps
set_option linter.unusedVariables false
set_option linter.unusedSimpArgs false
namespace Go.Proofs.Ytienhidbgohhcaa
open Go.RowKit

/-- A slice of truths. -/
def Truths (w : World) (a : Option Addr) (ks : List Bool) : Prop := ks = [] ∨ ∃ g off, a = some ⟨g, off, none⟩ ∧ ∀ (i : Nat) (b : Bool), ks[i]? = some b → w.cell? ⟨g, off + i, none⟩ = some (.bool b)
theorem Truths.nil (w : World) (a : Option Addr) : Truths w a [] := .inl rfl
theorem Truths.kept {w w' : World} {a : Option Addr} {ks : List Bool} (h : Truths w a ks) (hb : Below w.heap.size w w') : Truths w' a ks := by
  rcases h with rfl | ⟨g, off, rfl, h⟩
  · exact .inl rfl
  · refine .inr ⟨g, off, rfl, fun i u hu => ?_⟩
    have hc := h i u hu
    rw [hb.cell (World.block_lt_of_cell? w _ hc)]
    exact hc
/-- What a crash keeps of the k-th write. -/
def muchN (ks : List Bool) (torn tear : Int) (k : Nat) : Nat := if (k : Int) = torn then (tear % 64).toNat else if ks.getD k false = true then 64 else 0
theorem muchN_le (ks : List Bool) (torn tear : Int) (k : Nat) : muchN ks torn tear k ≤ 64 := by
  unfold muchN
  split
  · omega
  · split <;> omega
/-- The three boxes of the closure. -/
structure MuchAt (w : World) (p1 p2 p3 : Nat) (a : Option Addr) (c : Nat) (ks : List Bool) (torn tear : Int) : Prop where
  b1 : w.cell? ⟨p1, 0, none⟩ = some (.int .i64 torn)
  b2 : w.cell? ⟨p2, 0, none⟩ = some (.int .i64 tear)
  b3 : w.cell? ⟨p3, 0, none⟩ = some (.slice a ks.length c)
  keep : Truths w a ks
theorem MuchAt.past {w w' : World} {p1 p2 p3 : Nat} {a : Option Addr} {c : Nat} {ks : List Bool} {torn tear : Int} (h : MuchAt w p1 p2 p3 a c ks torn tear)
    (h1 : ∀ k, k = p1 ∨ k = p2 ∨ k = p3 ∨ (ks ≠ [] ∧ ∃ x, a = some x ∧ x.block = k) → w'.heap[k]? = w.heap[k]?) : MuchAt w' p1 p2 p3 a c ks torn tear := by
  refine ⟨(World.cell?_of_block (h1 p1 (by simp))).trans h.b1, (World.cell?_of_block (h1 p2 (by simp))).trans h.b2, (World.cell?_of_block (h1 p3 (by simp))).trans h.b3, ?_⟩
  by_cases e : ks = []
  · exact .inl e
  · rcases h.keep with k | ⟨g, off, rfl, k⟩
    · exact .inl k
    · exact .inr ⟨g, off, rfl, fun i u hu => (World.cell?_of_block (h1 g (.inr (.inr (.inr ⟨e, _, rfl, rfl⟩))))).trans (k i u hu)⟩

set_option maxHeartbeats 1000000 in
theorem much_any {w : World} {p1 p2 p3 : Nat} {a : Option Addr} {c : Nat} {ks : List Bool} {torn tear : Int} (h : MuchAt w p1 p2 p3 a c ks torn tear) (h1 : -9223372036854775808 ≤ tear) (h2 : tear ≤ 9223372036854775807) (hk : ks.length ≤ 1000) (i : Nat) :
    Calls Try.prog 25 #[.int .i64 (i : Int), .pointer (some ⟨p1, 0, none⟩), .pointer (some ⟨p2, 0, none⟩), .pointer (some ⟨p3, 0, none⟩)] w fun e w' => e = .returned (.int .i64 (muchN ks torn tear i : Int)) ∧ w = w' := by
  obtain ⟨b1, b2, b3, hb⟩ := h
  have HM := modulo_any w tear h1 h2
  unfold muchN
  clear h1 h2
  by_cases ht : (i : Int) = torn
  · rw [if_pos ht]
    have hmm : (((tear % 64).toNat : Nat) : Int) = tear % 64 := by omega
    rw [hmm]
    have ht' : ((i : Int) == torn) = true := by simpa using ht
    clear ht hmm hb
    go_enter Try.func25, Try.ntmps25
    go_wp2_with (first | (go_at_call 26; refine HM.mono ?_; rintro e w' ⟨rfl, rfl⟩))
    go_ret
    exact ⟨rfl, rfl⟩
  · rw [if_neg ht]
    have ht' : ((i : Int) == torn) = false := by simpa using ht
    clear ht HM
    by_cases hl : i < ks.length
    · have hl' : decide (i < ks.length) = true := by simpa using hl
      have h0 : (0 : Int) ≤ (i : Int) := by omega
      obtain ⟨g, off, rfl, hc⟩ : ∃ g off, a = some ⟨g, off, none⟩ ∧ w.cell? ⟨g, off + i, none⟩ = some (.bool (ks.getD i false)) := by
        rcases hb with hb | ⟨g, off, rfl, hb⟩
        · subst hb; simp at hl
        · exact ⟨g, off, rfl, hb i _ (by rw [List.getD_eq_getElem?_getD, List.getElem?_eq_getElem hl]; simp)⟩
      clear hb
      generalize ks.length = L at *
      generalize ks.getD i false = q at *
      cases q
      all_goals
        go_enter Try.func25, Try.ntmps25
        go_wp2
        go_ret
        exact ⟨rfl, rfl⟩
    · have hl' : decide (i < ks.length) = false := by simpa using hl
      have hq : ks.getD i false = false := by rw [List.getD_eq_getElem?_getD, List.getElem?_eq_none (by omega)]; rfl
      rw [hq]
      clear hq hb hl
      generalize ks.length = L at *
      go_enter Try.func25, Try.ntmps25
      go_wp2
      go_ret
      exact ⟨rfl, rfl⟩
end Go.Proofs.Ytienhidbgohhcaa

