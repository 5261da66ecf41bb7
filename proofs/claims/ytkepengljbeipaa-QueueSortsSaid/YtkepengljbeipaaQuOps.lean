/-
  Layer 17: the methods by which a heap sees a queue: which comes ahead, two change places, one goes behind, the last one goes.
-/
import Derived.Test.YtkepengljbeipaaQuMem
set_option linter.unusedVariables false
set_option linter.unusedSimpArgs false
namespace Go.Proofs.Ytkepengljbeipaa
open Go.RowKit Qu

theorem new_cell (w : World) (v : Value) (t : TypeId) : (w.alloc (.cells #[v] t)).cell? ⟨w.heap.size, 0, none⟩ = some v := by
  rw [World.cell?_alloc_new]
  rfl
section
variable {w : World} {b s h n : Nat} {sc l : List Int} {len : Nat}
theorem known_yes (w : World) (s h n len : Nat) (v : Int) (h0 : 0 ≤ v) (h1 : v < (n : Int)) : Calls Try.prog 17 #[qV s h n len, .int .i64 v] w (GivesV (.bool true) w) := by
  have := known_any w s h n len v
  simpa [h0, h1] using this
theorem known_no (w : World) (s h n len : Nat) (v : Int) (h1 : v < 0 ∨ (n : Int) ≤ v) : Calls Try.prog 17 #[qV s h n len, .int .i64 v] w (GivesV (.bool false) w) := by
  have := known_any w s h n len v
  have e : (decide (0 ≤ v) && decide (v < (n : Int))) = false := by
    rw [Bool.eq_false_iff]
    simp
    omega
  rw [e] at this
  exact this
/-- What holds in all worlds behind. -/
structure QK (w : World) (b s h n len : Nat) (W : World) : Prop where
  c0 : W.cell? ⟨b, 0, none⟩ = some (.slice (some ⟨s, 0, none⟩) n n)
  c1 : W.cell? ⟨b, 1, none⟩ = some (.slice (some ⟨h, 0, none⟩) len n)
theorem QAt.qk (q : QAt w b s h n sc l len) {W : World} (hb : Below w.heap.size w W) : W.cell? ⟨b, 0, none⟩ = some (.slice (some ⟨s, 0, none⟩) n n) ∧ W.cell? ⟨b, 1, none⟩ = some (.slice (some ⟨h, 0, none⟩) len n) := (q.kept hb).reads
theorem QAt.sk (q : QAt w b s h n sc l len) {v : Nat} (hv : v < n) {W : World} (hb : Below w.heap.size w W) : W.cell? ⟨s, v, none⟩ = some (.int .i64 (el sc v)) := (q.kept hb).rows.score.cell (by rw [q.rows.ls]; exact hv)
theorem QAt.hk (q : QAt w b s h n sc l len) {v : Nat} (hv : v < n) {W : World} (hb : Below w.heap.size w W) : W.cell? ⟨h, v, none⟩ = some (.int .i64 (el l v)) := (q.kept hb).rows.heap.cell (by rw [q.rows.ll]; exact hv)
set_option maxRecDepth 100000 in
theorem score_any (q : QAt w b s h n sc l len) (v : Nat) (hv : v < n) : Calls Try.prog 33 #[ordV b, .int .i64 (v : Int)] w (GivesV (.int .i64 (el sc v)) w) := by
  obtain ⟨c0, c1⟩ := q.reads
  have hb := q.lts.1
  have HC := Lib.hid (fun W (x : Below w.heap.size w W) => q.qk x)
  have HS := Lib.hid (fun W (x : Below w.heap.size w W) => q.sk hv x)
  have hK := Lib.hid (fun W => known_yes W s h n len (v : Int) (by omega) (by omega))
  generalize el sc v = x at *
  unfold ordV
  clear q
  go_enter Try.func33, Try.ntmps33
  go_wp2_with fail
  refine (hK.out _).mono ?_
  rintro e w' ⟨rfl, hb'⟩
  have hB := ((Below.refl w.heap.size w).alloc (Nat.le_refl _) (.cells #[.pointer (some ⟨b, 0, none⟩)] 50)).trans (hb'.mono (by simp))
  obtain ⟨d0, d1⟩ := HC.out _ hB
  have d2 := HS.out _ hB
  have d3 : w'.cell? ⟨w.heap.size, 0, none⟩ = some (.pointer (some ⟨b, 0, none⟩)) := (hb'.cell (p := ⟨w.heap.size, 0, none⟩) (by simp)).trans (new_cell _ _ _)
  have HB := Lib.hid hB
  clear hB hb' hK HC HS
  go_wp2_with fail
  go_ret
  exact GivesV.mk' rfl HB.out
/-- Two truths about scores, as a machine makes one of them. -/
def aheadB (x y : Int) (i j : Int) : Bool := decide (y < x) || (x == y && decide (i < j))
theorem ahead_eq (sc : List Int) (v u : Nat) : aheadQ sc (v : Int) (u : Int) = aheadB (el sc v) (el sc u) v u := by rw [aheadQ, aheadB, sco, sco, Int.toNat_natCast, Int.toNat_natCast]
theorem aheadB_cases (x y : Int) (v u : Nat) : (decide (y < x) = true ∧ aheadB x y v u = true) ∨ (decide (y < x) = false ∧ (x == y) = false ∧ aheadB x y v u = false) ∨ (decide (y < x) = false ∧ (x == y) = true ∧ aheadB x y v u = decide (v < u)) := by
  unfold aheadB
  cases h1 : decide (y < x) with
  | true => exact .inl ⟨rfl, rfl⟩
  | false =>
    cases h2 : (x == y) with
    | false => exact .inr (.inl ⟨rfl, rfl, rfl⟩)
    | true => exact .inr (.inr ⟨rfl, rfl, by simp⟩)
set_option maxRecDepth 100000 in
theorem Less_nat (q : QAt w b s h n sc l len) (i j : Nat) (hi : i < len) (hj : j < len) (v u : Nat) (hv : v < n) (hu : u < n) (ev : el l i = (v : Int)) (eu : el l j = (u : Int)) :
    Calls Try.prog 32 #[ordV b, .int .i64 (i : Int), .int .i64 (j : Int)] w (GivesV (.bool (aheadQ sc (el l i) (el l j))) w) := by
  rw [ev, eu, ahead_eq]
  obtain ⟨c0, c1⟩ := q.reads
  have hb := q.lts.1
  have hle := q.le
  have hc1 : w.cell? ⟨h, i, none⟩ = some (.int .i64 (v : Int)) := by rw [← ev]; exact q.hk (by omega) (Below.refl _ _)
  have hc2 : w.cell? ⟨h, j, none⟩ = some (.int .i64 (u : Int)) := by rw [← eu]; exact q.hk (by omega) (Below.refl _ _)
  have HS1 := Lib.hid (fun W (x : Below w.heap.size w W) => score_any (q.kept x) v hv)
  have HS2 := Lib.hid (fun W (x : Below w.heap.size w W) => score_any (q.kept x) u hu)
  have hh := q.lts.2.2
  have hAB := aheadB_cases (el sc v) (el sc u) v u
  generalize el sc v = x at *
  generalize el sc u = y at *
  generalize aheadB x y v u = B at *
  have HAB := Lib.hid hAB
  unfold ordV at *
  clear q ev eu hAB
  go_enter Try.func32, Try.ntmps32
  go_wp2
  go_quiet (fail)
  go_wp2_with fail
  obtain ⟨W1, hW1⟩ : ∃ W1, W1 = (w.alloc (.cells #[.pointer (some ⟨b, 0, none⟩)] 50)).drewN nq := ⟨_, rfl⟩
  rw [← hW1]
  have hz : W1.heap.size = w.heap.size + 1 := by rw [hW1]; simp
  have k0 : W1.cell? ⟨w.heap.size, 0, none⟩ = some (.pointer (some ⟨b, 0, none⟩)) := by rw [hW1]; exact new_cell _ _ _
  have hB1 : Below w.heap.size w W1 := by rw [hW1]; exact below_drewN ((Below.refl _ _).alloc (Nat.le_refl _) _) _
  have HR := Lib.hid (fun W (x : Below W1.heap.size W1 W) => (x.cell (p := ⟨w.heap.size, 0, none⟩) (by simp [hz])).trans k0)
  have HX := Lib.hid (fun W (x : Below W1.heap.size W1 W) => hB1.trans (x.mono (by omega)))
  clear c0 c1 hc1 hc2 hW1 hz hB1
  go_region_held3 (fun w' => w'.cell? ⟨w.heap.size, 0, none⟩ = some (.pointer (some ⟨b, 0, none⟩))) (first | with_reducible exact d3 | with_reducible exact d4 | go_keep)
    (first
      | (go_at_call 33; (with_reducible refine (HS1.out _ (HX.out _ (Below.refl _ _).drew)).mono ?_); rintro e w3 ⟨rfl, hb3'⟩; have hb3 : Below W1.heap.size W1 w3 := ((Below.refl _ _).drew).trans hb3'; have d3 := HR.out _ hb3)
      | (go_at_call 33; (with_reducible refine (HS2.out _ (HX.out _ hb3)).mono ?_); rintro e w4 ⟨rfl, hb4'⟩; have hb4 := hb3.trans (hb4'.mono hb3.size); have d4 := HR.out _ hb4; have HE := Lib.hid (HX.out _ hb4)))
  clear HS1 HS2 HR HX
  rcases HAB.out with ⟨h1, rfl⟩ | ⟨h1, h2, rfl⟩ | ⟨h1, h2, rfl⟩
  all_goals
    clear HAB
    go_wp2_with fail
    go_ret
    exact GivesV.mk' rfl HE.out
end
end Go.Proofs.Ytkepengljbeipaa
