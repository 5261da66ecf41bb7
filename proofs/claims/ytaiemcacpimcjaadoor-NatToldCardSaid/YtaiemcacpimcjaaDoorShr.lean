/-
  nat.shiftRight.
-/
import Derived.Test.YtaiemcacpimcjaaDoorShl
set_option linter.unusedVariables false
set_option linter.unusedSimpArgs false
namespace Go.Proofs.YtaiemcacpimcjaaDoor
open Go.RowKit Rep

/-- A row of limbs moved down by s bits, s below 32. -/
def shrL (s : Nat) : List Nat → List Nat
  | [] => []
  | d :: l => (d + 4294967296 * l.headD 0) / 2 ^ s % 4294967296 :: shrL s l
theorem shrL_length (s : Nat) (l : List Nat) : (shrL s l).length = l.length := by
  induction l with
  | nil => rfl
  | cons d l ih => simp [shrL, ih]
theorem shrL_getD (s : Nat) : ∀ (l : List Nat) (j : Nat), j < l.length → (shrL s l).getD j 0 = (l.getD j 0 + 4294967296 * l.getD (j + 1) 0) / 2 ^ s % 4294967296 := by
  intro l
  induction l with
  | nil => intro j h; simp at h
  | cons d l ih =>
    intro j h
    cases j with
    | zero => cases l <;> simp [shrL]
    | succ j => simpa [shrL] using ih j (by simpa using h)
theorem shrL_lim (s : Nat) (l : List Nat) : Lim (shrL s l) := by
  induction l with
  | nil => exact Dig.nil _
  | cons d l ih => exact Dig.cons (Nat.mod_lt _ (by omega)) ih
theorem shrL_val (s : Nat) (hs : s < 32) : ∀ l : List Nat, Lim l → V (shrL s l) = V l / 2 ^ s := by
  intro l
  induction l with
  | nil => intro _; simp [shrL, V, Rep.val]
  | cons d l ih =>
    intro hl
    have h1 := ih hl.tail
    unfold V at h1 ⊢
    simp only [shrL, Rep.val, h1]
    have hh : (d + 4294967296 * l.headD 0) / 2 ^ s % 4294967296 = (d + 4294967296 * val 4294967296 l) / 2 ^ s % 4294967296 := by
      have h2 : ∃ m, d + 4294967296 * val 4294967296 l = d + 4294967296 * l.headD 0 + 2 ^ s * (4294967296 * m) := by
        cases l with
        | nil => exact ⟨0, by simp [Rep.val]⟩
        | cons e l =>
          have hB : 4294967296 = 2 ^ s * 2 ^ (32 - s) := by rw [← Nat.pow_add, show s + (32 - s) = 32 from by omega]
          refine ⟨2 ^ (32 - s) * val 4294967296 l, ?_⟩
          simp only [Rep.val, List.headD_cons]
          rw [show 2 ^ s * (4294967296 * (2 ^ (32 - s) * val 4294967296 l)) = 4294967296 * ((2 ^ s * 2 ^ (32 - s)) * val 4294967296 l) from by ac_rfl, ← hB]
          omega
      obtain ⟨m, hm⟩ := h2
      rw [hm, Nat.add_mul_div_left _ _ (Nat.two_pow_pos s), Nat.add_mul_mod_self_left]
    rw [hh]
    have h3 : (d + 4294967296 * val 4294967296 l) / 2 ^ s / 4294967296 = val 4294967296 l / 2 ^ s := by
      rw [Nat.div_div_eq_div_mul, Nat.mul_comm (2 ^ s), ← Nat.div_div_eq_div_mul, Nat.add_mul_div_left _ _ (by omega), Nat.div_eq_of_lt hl.head, Nat.zero_add]
    rw [← h3]
    exact Nat.mod_add_div _ _

/-- Two limbs, moved down. -/
theorem shr_step {x y : Nat} (hx : x < 4294967296) (hy : y < 4294967296) :
    ∃ W : Nat, bits BinOp.or IntKind.u64 (x : Int) ((y : Int) * 4294967296) = (W : Int) ∧ W = x + 4294967296 * y ∧ W < 18446744073709551616 := by
  refine ⟨x + 4294967296 * y, ?_, rfl, by omega⟩
  have := u64_or_nat x (4294967296 * y) (by omega) (by omega)
  rw [show (y : Int) * 4294967296 = ((4294967296 * y : Nat) : Int) from by omega, this]
  rw [show 4294967296 = 2 ^ 32 from rfl, or_low (by omega)]

/-- Behind k places: the first k are moved, the others are as they were. -/
def ShrIn (w : World) (g cap : Nat) (xs : List Nat) (p s k : Nat) (wr : World) : Prop :=
  ∃ Q : List Nat, Row 48 wr g cap (Q.map u32v) ∧ Q.length = xs.length ∧ (∀ j, k ≤ j → Q.getD j 0 = xs.getD j 0) ∧
    (∀ j, j < k → Q.getD j 0 = (xs.getD (j + p) 0 + 4294967296 * xs.getD (j + p + 1) 0) / 2 ^ s % 4294967296) ∧ w.grownBy wr (some g)

theorem ShrIn.step {w : World} {g cap : Nat} {xs : List Nat} {p s k : Nat} {wr : World} (h : ShrIn w g cap xs p s k wr) (hk : k + p < xs.length) (hx : Lim xs) :
    ∃ x y q : Nat, x < 4294967296 ∧ y < 4294967296 ∧ q < 4294967296 ∧ wr.cell? ⟨g, k + p, none⟩ = some (.int .u32 x) ∧ (k + p + 1 < xs.length → wr.cell? ⟨g, k + p + 1, none⟩ = some (.int .u32 y)) ∧ (xs.length ≤ k + p + 1 → y = 0) ∧
      wr.cell? ⟨g, k, none⟩ = some (.int .u32 q) ∧ wr.frozen? ⟨g, k, none⟩ = false ∧
      ∀ W, W = x + 4294967296 * y → ShrIn w g cap xs p s (k + 1) (wr.setCell ⟨g, k, none⟩ (.int .u32 ((W / 2 ^ s % 4294967296 : Nat) : Int))) := by
  obtain ⟨Q, h1, h2, h3, h4, h5⟩ := h
  have e1 := h3 (k + p) (by omega)
  have hc1 := h1.cell (k + p) _ (map_getElem? (xs := Q) (by omega))
  rw [e1] at hc1
  refine ⟨xs.getD (k + p) 0, xs.getD (k + p + 1) 0, Q.getD k 0, hx.getD _ (by omega), hx.getD _ (by omega), by rw [h3 k (Nat.le_refl _)]; exact hx.getD _ (by omega), hc1, fun hh => ?_, fun hh => getD_ge hh, h1.cell _ _ (map_getElem? (by omega)), h1.frozen _, fun W hW => ?_⟩
  · have := h1.cell (k + p + 1) _ (map_getElem? (xs := Q) (by omega))
    rwa [h3 (k + p + 1) (by omega)] at this
  · refine ⟨Q.set k (W / 2 ^ s % 4294967296), ?_, by simpa using h2, fun j hj => ?_, fun j hj => ?_, ⟨h5.os, h5.tape, h5.output, by have := h5.size; simpa [World.setCell] using this, fun j hj hne => ?_⟩⟩
    · have := h1.set k (u32v (W / 2 ^ s % 4294967296))
      rwa [← List.map_set] at this
    · rw [Rep.getD_set_ne (by omega)]; exact h3 j (by omega)
    · by_cases e : j = k
      · subst e; rw [getD_set_self (by omega), hW]
      · rw [Rep.getD_set_ne (by omega)]; exact h4 j (by omega)
    · rw [Below.heap_setCell _ _ _ _ (by simpa using hne)]
      exact h5.block j hj hne

theorem ShrIn.done {w : World} {g cap : Nat} {xs : List Nat} {p s k : Nat} {wr : World} (h : ShrIn w g cap xs p s k wr) (hk : k + p = xs.length) (hx : Lim xs) (hs : s < 32) :
    ∃ Q : List Nat, Row 48 wr g cap (Q.map u32v) ∧ Q.length = k ∧ Lim Q ∧ V Q = V xs / 2 ^ (32 * p + s) ∧ w.grownBy wr (some g) := by
  obtain ⟨Q, h1, h2, h3, h4, h5⟩ := h
  have he : Q.take k = shrL s (xs.drop p) := by
    apply List.ext_getElem
    · rw [shrL_length, List.length_take, List.length_drop]; omega
    · intro j hj1 hj2
      have hjk : j < k := by rw [List.length_take] at hj1; omega
      have a1 : (Q.take k)[j] = Q.getD j 0 := by rw [List.getElem_take, getD_lt]
      have a2 : (shrL s (xs.drop p))[j] = (shrL s (xs.drop p)).getD j 0 := by rw [getD_lt hj2]
      rw [a1, a2, shrL_getD s _ _ (by rw [shrL_length] at hj2; exact hj2), h4 j hjk]
      simp only [List.getD_eq_getElem?_getD, List.getElem?_drop]
      rw [Nat.add_comm p j, show p + (j + 1) = j + p + 1 from by omega]
  refine ⟨Q.take k, by rw [List.map_take]; exact h1.take k, by rw [List.length_take]; omega, by rw [he]; exact shrL_lim s _, ?_, h5⟩
  rw [he, shrL_val s hs _ (hx.drop p)]
  have h6 := val_take_drop 4294967296 p xs (by omega)
  have h7 : val 4294967296 (xs.take p) < 4294967296 ^ p := by
    have := val_lt (hx.take p)
    rwa [List.length_take, Nat.min_eq_left (by omega)] at this
  have h8 : V xs / 4294967296 ^ p = V (xs.drop p) := by
    unfold V
    rw [h6, Nat.add_mul_div_left _ _ (Nat.pow_pos (by omega)), Nat.div_eq_of_lt h7, Nat.zero_add]
  rw [← h8, Nat.div_div_eq_div_mul, Nat.pow_add, Nat.pow_mul]

set_option maxRecDepth 100000 in
set_option maxHeartbeats 1000000 in
theorem shiftRight_row (B g cx p s : Nat) (xs : List Nat) (w : World) (hx : Lim xs) (hg : B ≤ g) (hcx : cx ≤ maxLen) (hrow : Row 48 w g cx (xs.map u32v)) (lx : xs.length ≤ 1073741824) (hs : s < 32) (hp : p ≤ xs.length) :
    Calls Tryd.prog 65 #[.slice (some ⟨g, 0, none⟩) xs.length cx, .int .i64 ((32 * p + s : Nat) : Int)] w (GivesTake B (some ⟨g, 0, none⟩) (V xs / 2 ^ (32 * p + s)) w) := by
  have hlc := hrow.le
  rw [List.length_map] at hlc
  have HS : ShrIn w g cx xs p s 0 w := ⟨xs, hrow, rfl, fun _ _ => rfl, fun _ h => by omega, ⟨rfl, rfl, rfl, Nat.le_refl _, fun _ _ _ => rfl⟩⟩
  clear hrow
  have d1 : ((32 * p + s : Nat) : Int) / 32 = (p : Int) := by omega
  have d2 : ((32 * p + s : Nat) : Int) % 32 = (s : Int) := by omega
  have hb : ((32 * p + s : Nat) : Int) ≤ 1099511627776 := by omega
  have hb0 : 0 ≤ ((32 * p + s : Nat) : Int) := by omega
  generalize ((32 * p + s : Nat) : Int) = by' at d1 d2 hb hb0
  go_enter Tryd.func65, Tryd.ntmps65
  go_wp2_with fail
  obtain ⟨n, hn⟩ : ∃ n, n + p = xs.length := ⟨xs.length - p, by omega⟩
  rw [d1, d2, show ((xs.length : Int) - (p : Int)) = (n : Int) from by omega]
  clear d1 d2 hb hb0
  have HNL := Lib.hid hn
  have hnp : n + p ≤ xs.length := by omega
  have hnp' : xs.length ≤ n + p := by omega
  clear hn
  go_loopw [18] (fun i wr => ∃ k : Nat, k ≤ n ∧ i = .int .i64 k ∧ ShrIn w g cx xs p s k wr) (fun i _ => n - (intOf i).toNat)
  case atStart => exact ⟨0, by omega, rfl, HS⟩
  case round =>
    obtain ⟨k, hk, rfl, hin⟩ := hrel
    by_cases hlt : k < n
    · obtain ⟨x, y, q, hx1, hy1, hq1, hcx1, hcy, hy0, hcq, hfq, hnext⟩ := hin.step (by omega) hx
      obtain ⟨W, hor, hW, hWb⟩ := shr_step hx1 hy1
      have HN := Lib.hid (hnext W hW)
      clear hin hnext
      by_cases hkl : k + p + 1 < xs.length
      · have hcy' := hcy hkl
        clear hcy hy0 hW
        go_wp2_with fail
        go_roundw
        case rel => exact ⟨k + 1, by omega, by go_num, HN.out⟩
        case measure => simp [intOf]; omega
      · obtain rfl := hy0 (by omega)
        obtain rfl : W = x := by omega
        clear hor hcy hy0 hW
        go_wp2_with fail
        go_roundw
        case rel => exact ⟨k + 1, by omega, by go_num, HN.out⟩
        case measure => simp [intOf]; omega
    · obtain rfl : k = n := by omega
      obtain ⟨Q, hQr, hQl, hQd, hQv, hQg⟩ := hin.done HNL.out hx hs
      have HL := Lib.hid hQl
      have HV := Lib.hid hQv
      clear hin hQl hQv
      go_wp2_with fail
      refine (trim_own B _ _ cx Q HL.out wr hQd ⟨hcx, .inr ⟨g, rfl, hg, hQr⟩⟩).mono ?_
      rintro e w' ⟨a', c', rfl, ho, ha, rfl⟩
      rw [HV.out] at ho ⊢
      clear hQd hQr
      go_wp2_with fail
      go_ret
      exact ⟨a', c', rfl, ho, ha, hQg⟩
end Go.Proofs.YtaiemcacpimcjaaDoor
