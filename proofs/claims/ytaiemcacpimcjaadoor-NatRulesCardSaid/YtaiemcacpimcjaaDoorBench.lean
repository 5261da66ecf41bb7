/-
  nat.New, Limbs, Over, fit.
-/
import Derived.Test.YtaiemcacpimcjaaDoorMem
set_option linter.unusedVariables false
set_option linter.unusedSimpArgs false
namespace Go.Proofs.YtaiemcacpimcjaaDoor
open Go.RowKit Rep

/-- What New lays: a bench for m limbs, in a new block. -/
def GivesBench (m : Nat) (w : World) (e : Ending) (w' : World) : Prop := e = .returned (.pointer (some ⟨w.heap.size, 0, none⟩)) ∧ w' = w.alloc (.cells #[.int .i64 (m : Int), .bool false] 58)

set_option maxHeartbeats 400000 in
theorem new_low (n : Int) (w : World) (h : n < 1) : Calls Tryd.prog 10 #[.int .i64 n] w (GivesBench 1 w) := by
  go_enter Tryd.func10, Tryd.ntmps10
  go_wp2
  go_ret
  exact ⟨rfl, rfl⟩
set_option maxHeartbeats 400000 in
theorem new_high (m : Nat) (w : World) (h : 1 ≤ m) (hm : m ≤ maxLen) : Calls Tryd.prog 10 #[.int .i64 (m : Int)] w (GivesBench m w) := by
  unfold maxLen at hm
  have h' : (1 : Int) ≤ (m : Int) := by omega
  go_enter Tryd.func10, Tryd.ntmps10
  go_wp2
  go_ret
  exact ⟨rfl, rfl⟩
set_option maxHeartbeats 400000 in
theorem over_any (w : World) (b m : Nat) (o : Bool) (h : Bench w b m o) : Calls Tryd.prog 12 #[.pointer (some ⟨b, 0, none⟩)] w (Gives (.bool o) w) := by
  have h1 := h.c1
  clear h
  go_enter Tryd.func12, Tryd.ntmps12
  go_wp2
  go_ret
  exact Gives.mk' rfl
set_option maxHeartbeats 400000 in
theorem limbs_any (w : World) (b m : Nat) (o : Bool) (h : Bench w b m o) : Calls Tryd.prog 11 #[.pointer (some ⟨b, 0, none⟩)] w (Gives (.int .i64 (m : Int)) w) := by
  have h1 := h.c0
  clear h
  go_enter Tryd.func11, Tryd.ntmps11
  go_wp2
  go_ret
  exact Gives.mk' rfl
/-- What fit gives, and how it leaves the bench. -/
def GivesFit (b m : Nat) (o : Bool) (a : Option Addr) (n c : Nat) (w : World) (e : Ending) (w' : World) : Prop :=
  e = .returned (if (o || decide (m < n)) = true then .slice none 0 0 else .slice a n c) ∧ w' = w.setCell ⟨b, 1, none⟩ (.bool (o || decide (m < n)))
theorem GivesFit.yes {b m : Nat} {o : Bool} {a : Option Addr} {n c : Nat} {w : World} (h : (o || decide (m < n)) = true) : GivesFit b m o a n c w (.returned (.slice none 0 0)) (w.setCell ⟨b, 1, none⟩ (.bool true)) := by
  unfold GivesFit; rw [if_pos h, h]; exact ⟨rfl, rfl⟩
theorem GivesFit.no {b m : Nat} {o : Bool} {a : Option Addr} {n c : Nat} {w : World} (h : (o || decide (m < n)) = false) : GivesFit b m o a n c w (.returned (.slice a n c)) (w.setCell ⟨b, 1, none⟩ (.bool false)) := by
  unfold GivesFit; rw [if_neg (by simp [h]), h]; exact ⟨rfl, rfl⟩
set_option maxHeartbeats 400000 in
theorem fit_over (w : World) (b m : Nat) (a : Option Addr) (n c : Nat) (h : Bench w b m true) : Calls Tryd.prog 34 #[.pointer (some ⟨b, 0, none⟩), .slice a n c] w (GivesFit b m true a n c w) := by
  have h0 := h.c0
  have h1 := h.c1
  have h2 := h.free 1
  clear h
  go_enter Tryd.func34, Tryd.ntmps34
  go_wp2
  go_ret
  exact ⟨rfl, rfl⟩
set_option maxHeartbeats 400000 in
theorem fit_great (w : World) (b m : Nat) (a : Option Addr) (n c : Nat) (h : Bench w b m false) (hn : m < n) : Calls Tryd.prog 34 #[.pointer (some ⟨b, 0, none⟩), .slice a n c] w (GivesFit b m false a n c w) := by
  have h0 := h.c0
  have h1 := h.c1
  have h2 := h.free 1
  clear h
  go_enter Tryd.func34, Tryd.ntmps34
  go_wp2
  go_ret
  exact GivesFit.yes (b := b) (m := m) (o := false) (a := a) (n := n) (by rw [Bool.false_or]; exact decide_eq_true (by omega))
set_option maxHeartbeats 400000 in
theorem fit_fits (w : World) (b m : Nat) (a : Option Addr) (n c : Nat) (h : Bench w b m false) (hn : n ≤ m) : Calls Tryd.prog 34 #[.pointer (some ⟨b, 0, none⟩), .slice a n c] w (GivesFit b m false a n c w) := by
  have h0 := h.c0
  have h1 := h.c1
  have h2 := h.free 1
  clear h
  have hd : decide (m < n) = false := decide_eq_false (by omega)
  go_enter Tryd.func34, Tryd.ntmps34
  go_wp2
  go_ret
  exact GivesFit.no (b := b) (m := m) (o := false) (a := a) (n := n) hd
theorem fit_any (w : World) (b m : Nat) (o : Bool) (a : Option Addr) (n c : Nat) (h : Bench w b m o) : Calls Tryd.prog 34 #[.pointer (some ⟨b, 0, none⟩), .slice a n c] w (GivesFit b m o a n c w) := by
  cases o with
  | true => exact fit_over w b m a n c h
  | false =>
    by_cases hn : m < n
    · exact fit_great w b m a n c h hn
    · exact fit_fits w b m a n c h (by omega)

/-- What a bench answers where n is the answer. -/
def GivesOut (b m : Nat) (o : Bool) (n : Nat) (w : World) (e : Ending) (w' : World) : Prop :=
  ∃ a c, e = .returned (.slice a (L (outN m o n)).length c) ∧ NumAt w' a c (outN m o n) ∧ Bench w' b m (outO m o n) ∧ w.grownBy w' (some b)

theorem GivesOut.over {b m n : Nat} {w : World} (h : Bench w b m true) : GivesOut b m true n w (.returned (.slice none 0 0)) w :=
  ⟨none, 0, by simp [outN, outO, L_zero], by simp only [outN, outO, Bool.true_or, if_true]; exact NumAt.zero w, h, ⟨rfl, rfl, rfl, Nat.le_refl _, fun _ _ _ => rfl⟩⟩

/-- fit, behind an answer that was reckoned in new memory. -/
theorem fit_out (w w1 : World) (b m : Nat) (o : Bool) (a : Option Addr) (n c : Nat) (h : Bench w b m o) (hn : NumAt w1 a c n) (hb : Below w.heap.size w w1) :
    Calls Tryd.prog 34 #[.pointer (some ⟨b, 0, none⟩), .slice a (L n).length c] w1 (GivesOut b m o n w) := by
  have h1 := h.kept hb
  refine (fit_any w1 b m o a _ c h1).mono ?_
  rintro e w' ⟨rfl, rfl⟩
  have ho : outO m o n = (o || decide (m < (L n).length)) := rfl
  have hs := h1.set (o || decide (m < (L n).length))
  have hg : w.grownBy (w1.setCell ⟨b, 1, none⟩ (.bool (o || decide (m < (L n).length)))) (some b) :=
    ⟨hb.os, hb.tape, hb.output, by have := hb.size; simpa [World.setCell] using this, fun k hk hne => by
      rw [Below.heap_setCell _ _ _ _ (by simpa using hne)]; exact hb.block k hk⟩
  unfold GivesOut outN
  rw [ho]
  split
  · exact ⟨none, 0, rfl, NumAt.zero _, hs, hg⟩
  · refine ⟨a, c, rfl, ⟨?_, hn.2⟩, hs, hg⟩
    have hap := h1.apart hn.1
    refine hn.1.grown (row := some b) ⟨rfl, rfl, rfl, by simp [World.setCell], fun k hk hne => ?_⟩ hap
    rw [Below.heap_setCell _ _ _ _ (by simpa using hne)]
end Go.Proofs.YtaiemcacpimcjaaDoor
