/-
  Long division's steps: nat.giveBack, nat.takeTimes.
-/
import Derived.Test.YtaiemcacpimcjaaDoorRefA
set_option linter.unusedVariables false
set_option linter.unusedSimpArgs false
namespace Go.Proofs.YtaiemcacpimcjaaDoor
open Go.RowKit Rep

/-- In g lie A, P and Z, one behind the other. -/
def PartAt (w : World) (g cap : Nat) (A P Z : List Nat) : Prop := Row 48 w g cap ((A ++ P ++ Z).map u32v)
theorem PartAt.cell {w : World} {g cap : Nat} {A P Z : List Nat} (h : PartAt w g cap A P Z) {j : Nat} (hj : j < P.length) : w.cell? ⟨g, A.length + j, none⟩ = some (.int .u32 (P.getD j 0 : Nat)) := by
  have h1 := Row.cell h (A.length + j) (u32v (P.getD j 0)) (by
    rw [List.map_append, List.map_append, List.append_assoc, List.getElem?_append_right (by simp), List.length_map, Nat.add_sub_cancel_left, List.getElem?_append_left (by simpa using hj), List.getElem?_map, List.getElem?_eq_getElem hj, getD_lt hj]
    rfl)
  exact h1
theorem PartAt.set {w : World} {g cap : Nat} {A P Z : List Nat} (h : PartAt w g cap A P Z) {j : Nat} (hj : j < P.length) (v : Nat) : PartAt (w.setCell ⟨g, A.length + j, none⟩ (u32v v)) g cap A (P.set j v) Z := by
  have h1 := Row.set h (A.length + j) (u32v v)
  unfold PartAt
  rwa [← List.map_set, List.append_assoc, List.set_append_right _ _ (by omega), Nat.add_sub_cancel_left, List.set_append_left _ _ hj, ← List.append_assoc] at h1
theorem PartAt.free {w : World} {g cap : Nat} {A P Z : List Nat} (h : PartAt w g cap A P Z) (i : Nat) : w.frozen? ⟨g, i, none⟩ = false := Row.frozen h i

theorem grownBy_set {w wr : World} {g i : Nat} {u : Value} (h : w.grownBy wr (some g)) : w.grownBy (wr.setCell ⟨g, i, none⟩ u) (some g) :=
  ⟨h.os, h.tape, h.output, by have := h.size; simpa [World.setCell] using this, fun k hk hne => by
    rw [Below.heap_setCell _ _ _ _ (by simpa using hne)]; exact h.block k hk hne⟩

/-- Behind k places of giveBack. -/
def GiveIn (w : World) (g cap : Nat) (A P Z ys : List Nat) (k c : Nat) (wr : World) : Prop :=
  ∃ Q : List Nat, PartAt wr g cap A Q Z ∧ Q.length = P.length ∧ Lim Q ∧ V (Q.take k) + c * 4294967296 ^ k = V (P.take k) + V (ys.take k) ∧ (∀ j, k ≤ j → Q.getD j 0 = P.getD j 0) ∧ w.grownBy wr (some g)

theorem GiveIn.step {w wr : World} {g cap k c : Nat} {A P Z ys : List Nat} (h : GiveIn w g cap A P Z ys k c wr) (hk : k < P.length) (hky : k < ys.length) :
    ∃ x : Nat, x < 4294967296 ∧ wr.cell? ⟨g, A.length + k, none⟩ = some (.int .u32 (x : Int)) ∧ wr.frozen? ⟨g, A.length + k, none⟩ = false ∧ w.grownBy wr (some g) ∧
      ∀ T : Nat, T = c + (x + ys.getD k 0) → GiveIn w g cap A P Z ys (k + 1) (T / 4294967296) (wr.setCell ⟨g, A.length + k, none⟩ (.int .u32 ((T % 4294967296 : Nat) : Int))) := by
  obtain ⟨Q, h1, h2, h3, h4, h5, h6⟩ := h
  have hkQ : k < Q.length := by omega
  refine ⟨Q.getD k 0, h3.getD _ (by omega), h1.cell hkQ, h1.free _, h6, fun T hT => ?_⟩
  refine ⟨Q.set k (T % 4294967296), h1.set hkQ _, by simpa using h2, h3.set _ _ (Nat.mod_lt _ (by omega)), ?_, fun j hj => ?_, grownBy_set h6⟩
  · unfold V at h4 ⊢
    rw [take_succ_val _ (Q.set k _) k (by simpa using hkQ), take_succ_val _ P k hk, take_succ_val _ ys k hky, List.take_set_of_le (Nat.le_refl k), getD_set_self hkQ, ← h5 k (Nat.le_refl k), Nat.pow_succ]
    have h7 := Nat.mod_add_div T 4294967296
    have h8 : 4294967296 ^ k * (T % 4294967296) + T / 4294967296 * (4294967296 ^ k * 4294967296) = 4294967296 ^ k * T := by
      conv => rhs; rw [← h7, Nat.mul_add]
      congr 1
      ac_rfl
    have h9 : 4294967296 ^ k * T = c * 4294967296 ^ k + 4294967296 ^ k * Q.getD k 0 + 4294967296 ^ k * ys.getD k 0 := by
      rw [hT, Nat.mul_add, Nat.mul_add, Nat.mul_comm c]
      omega
    omega
  · rw [Rep.getD_set_ne (by omega)]
    exact h5 j (by omega)

/-- What giveBack does. -/
def GivesBack (g cap : Nat) (A P Z : List Nat) (y n : Nat) (w : World) (w' : World) : Prop :=
  ∃ Q : List Nat, PartAt w' g cap A Q Z ∧ Q.length = P.length ∧ Lim Q ∧ V Q = (V P + y) % 4294967296 ^ (n + 1) ∧ w.grownBy w' (some g)

theorem give_done {w wr : World} {g cap n c : Nat} {A P Z ys : List Nat} (h : GiveIn w g cap A P Z ys n c wr) (hP : P.length = n + 1) (hy : ys.length = n) :
    ∃ x : Nat, x < 4294967296 ∧ wr.cell? ⟨g, A.length + n, none⟩ = some (.int .u32 (x : Int)) ∧ wr.frozen? ⟨g, A.length + n, none⟩ = false ∧
      ∀ z : Nat, z = (x + c) % 4294967296 → GivesBack g cap A P Z (V ys) n w (wr.setCell ⟨g, A.length + n, none⟩ (.int .u32 (z : Int))) := by
  obtain ⟨Q, h1, h2, h3, h4, h5, h6⟩ := h
  have hkQ : n < Q.length := by omega
  refine ⟨Q.getD n 0, h3.getD _ (by omega), h1.cell hkQ, h1.free _, fun z hz => ?_⟩
  have hzl : z < 4294967296 := by rw [hz]; exact Nat.mod_lt _ (by omega)
  refine ⟨Q.set n z, h1.set hkQ _, by simpa using h2, h3.set _ _ hzl, ?_, grownBy_set h6⟩
  have e1 : V (Q.set n z) = V (Q.take n) + 4294967296 ^ n * z := by
    unfold V
    conv => lhs; rw [← List.take_length (l := Q.set n z), List.length_set, h2, hP]
    rw [take_succ_val _ _ n (by simpa using hkQ), List.take_set_of_le (Nat.le_refl n), getD_set_self hkQ]
  have e2 : V P = V (P.take n) + 4294967296 ^ n * Q.getD n 0 := by
    unfold V
    conv => lhs; rw [← List.take_length (l := P), hP]
    rw [take_succ_val _ _ n (by omega), h5 n (Nat.le_refl n)]
  have h7 : V (ys.take n) = V ys := by rw [List.take_of_length_le (by omega)]
  have h8 : V (Q.set n z) < 4294967296 ^ (n + 1) := by
    have := val_lt (h3.set n z hzl)
    rw [List.length_set, h2, hP] at this
    exact this
  have h9 := Nat.mod_add_div (Q.getD n 0 + c) 4294967296
  rw [← hz] at h9
  have h10 : V P + V ys = V (Q.set n z) + 4294967296 ^ (n + 1) * ((Q.getD n 0 + c) / 4294967296) := by
    rw [e1, e2, ← h7, Nat.pow_succ]
    have h11 : 4294967296 ^ n * z + 4294967296 ^ n * 4294967296 * ((Q.getD n 0 + c) / 4294967296) = 4294967296 ^ n * (Q.getD n 0 + c) := by
      conv => rhs; rw [← h9, Nat.mul_add, ← Nat.mul_assoc]
    rw [Nat.mul_add] at h11
    have h12 : c * 4294967296 ^ n = 4294967296 ^ n * c := Nat.mul_comm _ _
    omega
  rw [h10, Nat.add_mul_mod_self_left, Nat.mod_eq_of_lt h8]

set_option maxRecDepth 100000 in
set_option maxHeartbeats 1000000 in
theorem giveBack_any (g cap c1 cy : Nat) (A P Z ys : List Nat) (ay : Option Addr) (w : World) (hp : PartAt w g cap A P Z) (hl : Lim P) (hlen : P.length = ys.length + 1) (hc1 : P.length ≤ c1) (hy : Lim ys) (ry : Reads w ay (ys.map u32v))
    (hne : ys.map u32v = [] ∨ ∀ g' off, ay = some ⟨g', off, none⟩ → some g' ≠ some g) (hb : ys.length ≤ 1073741824) :
    Calls Tryd.prog 82 #[.slice (some ⟨g, A.length, none⟩) P.length c1, .slice ay ys.length cy] w fun e w' => e = .returned (.tuple #[]) ∧ GivesBack g cap A P Z (V ys) ys.length w w' := by
  have HS : GiveIn w g cap A P Z ys 0 0 w := ⟨P, hp, rfl, hl, by simp [V, Rep.val], fun _ _ => rfl, grown_refl _ _⟩
  clear hp
  go_enter Tryd.func82, Tryd.ntmps82
  go_wp2_with fail
  go_loopw [4, 9] (fun cv iv wr => ∃ k c : Nat, k ≤ ys.length ∧ c ≤ 1 ∧ cv = .int .u64 c ∧ iv = .int .i64 k ∧ GiveIn w g cap A P Z ys k c wr) (fun _ iv _ => ys.length - (intOf iv).toNat)
  case atStart => exact ⟨0, 0, by omega, by omega, rfl, rfl, HS⟩
  case round =>
    obtain ⟨k, c, hk, hc, rfl, rfl, hin⟩ := hrel
    clear HS
    by_cases hlt : k < ys.length
    · obtain ⟨x, hx, hcx, hfx, hgr, hnext⟩ := hin.step (by omega) hlt
      have hY : ys.getD k 0 < 4294967296 := hy.getD k (by omega)
      obtain ⟨g2, off, rfl, hg2, hcell⟩ := (ry.grown hgr hne).open' (by rw [List.length_map]; omega)
      have hck := hcell k _ (map_getElem? (xs := ys) hlt)
      unfold u32v at hck
      clear hcell hin hgr
      generalize ys.getD k 0 = y at *
      obtain ⟨T, hT⟩ : ∃ T, T = c + (x + y) := ⟨_, rfl⟩
      have HN := Lib.hid (hnext T hT)
      have HTe : Hid ((c : Int) + ((x : Int) + (y : Int)) = (T : Int)) := Lib.hid (by omega)
      have hTc : T / 4294967296 ≤ 1 := by omega
      clear hnext hT
      have hkP : (k : Int) < (P.length : Int) := by omega
      go_wp2_with fail
      rw [HTe.out]
      go_roundw
      case rel => exact ⟨k + 1, T / 4294967296, by omega, hTc, by go_num, by go_num, HN.out⟩
      case measure => simp [intOf]; omega
    · obtain rfl : k = ys.length := by omega
      obtain ⟨x, hx, hcx, hfx, hfin⟩ := give_done hin hlen rfl
      have HF := Lib.hid hfin
      clear hin hfin
      have hkP : (ys.length : Int) < (P.length : Int) := by omega
      go_wp2_with fail
      go_end0
      exact ⟨rfl, HF.out _ rfl⟩

/-- Behind k places of takeTimes. -/
def TkIn (w : World) (g cap : Nat) (A P Z ys : List Nat) (t k c : Nat) (wr : World) : Prop :=
  ∃ Q : List Nat, PartAt wr g cap A Q Z ∧ Q.length = P.length ∧ Lim Q ∧ V (Q.take k) + t * V (ys.take k) = V (P.take k) + c * 4294967296 ^ k ∧ (∀ j, k ≤ j → Q.getD j 0 = P.getD j 0) ∧ w.grownBy wr (some g)

theorem TkIn.bound {w wr : World} {g cap t k c : Nat} {A P Z ys : List Nat} (h : TkIn w g cap A P Z ys t k c wr) (hy : Lim ys) (ht : t < 4294967296) : c < 4294967296 := by
  obtain ⟨Q, h1, h2, h3, h4, h5, h6⟩ := h
  have a1 : V (Q.take k) < 4294967296 ^ k := Nat.lt_of_lt_of_le (val_lt (h3.take k)) (Nat.pow_le_pow_right (by omega) (by rw [List.length_take]; omega))
  have a2 : V (ys.take k) < 4294967296 ^ k := Nat.lt_of_lt_of_le (val_lt (hy.take k)) (Nat.pow_le_pow_right (by omega) (by rw [List.length_take]; omega))
  have a3 : t * V (ys.take k) ≤ 4294967295 * 4294967296 ^ k := Nat.mul_le_mul (by omega) (Nat.le_of_lt a2)
  have a4 : c * 4294967296 ^ k < 4294967296 * 4294967296 ^ k := by omega
  exact Nat.lt_of_mul_lt_mul_right a4

theorem TkIn.step {w wr : World} {g cap k c t : Nat} {A P Z ys : List Nat} (h : TkIn w g cap A P Z ys t k c wr) (hk : k < P.length) (hky : k < ys.length) :
    ∃ x : Nat, x < 4294967296 ∧ wr.cell? ⟨g, A.length + k, none⟩ = some (.int .u32 (x : Int)) ∧ wr.frozen? ⟨g, A.length + k, none⟩ = false ∧ w.grownBy wr (some g) ∧
      ∀ z c' : Nat, z < 4294967296 → c + ys.getD k 0 * t + z = x + c' * 4294967296 → TkIn w g cap A P Z ys t (k + 1) c' (wr.setCell ⟨g, A.length + k, none⟩ (.int .u32 (z : Int))) := by
  obtain ⟨Q, h1, h2, h3, h4, h5, h6⟩ := h
  have hkQ : k < Q.length := by omega
  refine ⟨Q.getD k 0, h3.getD _ (by omega), h1.cell hkQ, h1.free _, h6, fun z c' hz he => ?_⟩
  refine ⟨Q.set k z, h1.set hkQ _, by simpa using h2, h3.set _ _ hz, ?_, fun j hj => ?_, grownBy_set h6⟩
  · unfold V at h4 ⊢
    rw [take_succ_val _ (Q.set k _) k (by simpa using hkQ), take_succ_val _ P k hk, take_succ_val _ ys k hky, List.take_set_of_le (Nat.le_refl k), getD_set_self hkQ, ← h5 k (Nat.le_refl k), Nat.pow_succ]
    have h7 : 4294967296 ^ k * (c + ys.getD k 0 * t + z) = 4294967296 ^ k * (Q.getD k 0 + c' * 4294967296) := by rw [he]
    simp only [Nat.mul_add] at h7 ⊢
    have e1 : 4294967296 ^ k * (ys.getD k 0 * t) = t * (4294967296 ^ k * ys.getD k 0) := by ac_rfl
    have e2 : 4294967296 ^ k * (c' * 4294967296) = c' * (4294967296 ^ k * 4294967296) := by ac_rfl
    have e3 : c * 4294967296 ^ k = 4294967296 ^ k * c := Nat.mul_comm _ _
    omega
  · rw [Rep.getD_set_ne (by omega)]
    exact h5 j (by omega)

theorem tk_done {w wr : World} {g cap n c t : Nat} {A P Z ys : List Nat} (h : TkIn w g cap A P Z ys t n c wr) (hP : P.length = n + 1) (hy : ys.length = n) :
    ∃ x : Nat, x < 4294967296 ∧ wr.cell? ⟨g, A.length + n, none⟩ = some (.int .u32 (x : Int)) ∧ wr.frozen? ⟨g, A.length + n, none⟩ = false ∧
      ∀ z b : Nat, z < 4294967296 → z + c = x + b * 4294967296 → ∃ Q : List Nat, PartAt (wr.setCell ⟨g, A.length + n, none⟩ (.int .u32 (z : Int))) g cap A Q Z ∧ Q.length = P.length ∧ Lim Q ∧ V Q + t * V ys = V P + b * 4294967296 ^ (n + 1) ∧
        w.grownBy (wr.setCell ⟨g, A.length + n, none⟩ (.int .u32 (z : Int))) (some g) := by
  obtain ⟨Q, h1, h2, h3, h4, h5, h6⟩ := h
  have hkQ : n < Q.length := by omega
  refine ⟨Q.getD n 0, h3.getD _ (by omega), h1.cell hkQ, h1.free _, fun z b hzl he => ?_⟩
  refine ⟨Q.set n z, h1.set hkQ _, by simpa using h2, h3.set _ _ hzl, ?_, grownBy_set h6⟩
  have e1 : V (Q.set n z) = V (Q.take n) + 4294967296 ^ n * z := by
    unfold V
    conv => lhs; rw [← List.take_length (l := Q.set n z), List.length_set, h2, hP]
    rw [take_succ_val _ _ n (by simpa using hkQ), List.take_set_of_le (Nat.le_refl n), getD_set_self hkQ]
  have e2 : V P = V (P.take n) + 4294967296 ^ n * Q.getD n 0 := by
    unfold V
    conv => lhs; rw [← List.take_length (l := P), hP]
    rw [take_succ_val _ _ n (by omega), h5 n (Nat.le_refl n)]
  have h7 : V (ys.take n) = V ys := by rw [List.take_of_length_le (by omega)]
  rw [h7] at h4
  have h8 : 4294967296 ^ n * (z + c) = 4294967296 ^ n * (Q.getD n 0 + b * 4294967296) := by rw [he]
  simp only [Nat.mul_add] at h8
  have h9 : 4294967296 ^ n * (b * 4294967296) = b * 4294967296 ^ (n + 1) := by rw [Nat.pow_succ]; ac_rfl
  have h10 : c * 4294967296 ^ n = 4294967296 ^ n * c := Nat.mul_comm _ _
  rw [e1, e2]
  omega

/-- Once, of what is so many times in it, and what is left. -/
def TakesTimes (g cap : Nat) (A P Z : List Nat) (y : Nat) (w : World) (e : Ending) (w' : World) : Prop :=
  e = .returned (.int .u32 ((V P / y : Nat) : Int)) ∧ ∃ Q : List Nat, PartAt w' g cap A Q Z ∧ Q.length = P.length ∧ Lim Q ∧ V Q = V P % y ∧ w.grownBy w' (some g)

theorem times_exact {x y t q : Nat} (h : q + t * y = x) (hy : 0 < y) (h1 : x / y ≤ t) : t = x / y ∧ q = x % y := by
  have h2 := Nat.div_add_mod x y
  have h3 : t ≤ x / y := by rw [Nat.le_div_iff_mul_le hy]; omega
  have h4 : t = x / y := by omega
  refine ⟨h4, ?_⟩
  rw [h4, Nat.mul_comm] at h
  omega
theorem times_over {x y t q M : Nat} (h : q + t * y = x + M) (hy : 0 < y) (hq : q < M) (hM : y < M) (h2 : t ≤ x / y + 1) : t - 1 = x / y ∧ 1 ≤ t ∧ (q + y) % M = x % y := by
  have h3 := Nat.div_add_mod x y
  have h4 : ¬ t ≤ x / y := fun h => by
    have h5 : t * y ≤ x / y * y := Nat.mul_le_mul_right y h
    rw [Nat.mul_comm (x / y) y] at h5
    omega
  have h5 : t = x / y + 1 := by omega
  refine ⟨by rw [h5, Nat.add_sub_cancel], by rw [h5]; exact Nat.le_add_left _ _, ?_⟩
  rw [h5, Nat.add_mul, Nat.one_mul, Nat.mul_comm (x / y)] at h
  have h6 : q + y = x % y + M := by omega
  have h7 := Nat.mod_lt x hy
  rw [h6, Nat.add_mod_right, Nat.mod_eq_of_lt (by omega)]

set_option maxRecDepth 100000 in
set_option maxHeartbeats 2000000 in
theorem takeTimes_any (g cap c1 cy t : Nat) (A P Z ys : List Nat) (ay : Option Addr) (w : World) (hp : PartAt w g cap A P Z) (hl : Lim P) (hlen : P.length = ys.length + 1) (hc1 : P.length ≤ c1) (hy : Lim ys) (ry : Reads w ay (ys.map u32v))
    (hne : ys.map u32v = [] ∨ ∀ g' off, ay = some ⟨g', off, none⟩ → some g' ≠ some g) (hb : ys.length ≤ 1073741824) (ht : t < 4294967296) (hy0 : 0 < V ys) (hq1 : V P / V ys ≤ t) (hq2 : t ≤ V P / V ys + 1) :
    Calls Tryd.prog 69 #[.slice (some ⟨g, A.length, none⟩) P.length c1, .slice ay ys.length cy, .int .u32 (t : Int)] w (TakesTimes g cap A P Z (V ys) w) := by
  have HS : TkIn w g cap A P Z ys t 0 0 w := ⟨P, hp, rfl, hl, by simp [V, Rep.val], fun _ _ => rfl, grown_refl _ _⟩
  have HQ := Lib.hid (And.intro hy0 (And.intro hq1 hq2))
  clear hp hy0 hq1 hq2
  go_enter Tryd.func69, Tryd.ntmps69
  go_wp2_with fail
  go_loopw [7, 15] (fun cv iv wr => ∃ k c : Nat, k ≤ ys.length ∧ c < 4294967296 ∧ cv = .int .u64 c ∧ iv = .int .i64 k ∧ TkIn w g cap A P Z ys t k c wr) (fun _ iv _ => ys.length - (intOf iv).toNat)
  case atStart => exact ⟨0, 0, by omega, by omega, rfl, rfl, HS⟩
  case round =>
    obtain ⟨k, c, hk, hc, rfl, rfl, hin⟩ := hrel
    clear HS
    by_cases hlt : k < ys.length
    · obtain ⟨x, hx, hcx, hfx, hgr, hnext⟩ := hin.step (by omega) hlt
      have hY : ys.getD k 0 < 4294967296 := hy.getD k (by omega)
      obtain ⟨g2, off, rfl, hg2, hcell⟩ := (ry.grown hgr hne).open' (by rw [List.length_map]; omega)
      have hck := hcell k _ (map_getElem? (xs := ys) hlt)
      unfold u32v at hck
      clear hcell hin hgr
      generalize ys.getD k 0 = y at *
      have hyt : y * t ≤ 4294967295 * 4294967295 := Nat.mul_le_mul (by omega) (by omega)
      obtain ⟨T, hT⟩ : ∃ T, T = c + y * t := ⟨_, rfl⟩
      have hTb : T < 18446744073709551616 := by omega
      have HN := Lib.hid hnext
      have HTe : Hid ((c : Int) + (y : Int) * (t : Int) = (T : Int)) := Lib.hid (by rw [hT, Int.natCast_add, Int.natCast_mul])
      have HT := Lib.hid hT
      have hyt2 : y * t < 18446744073709551616 := by omega
      have hsum : c + y * t < 18446744073709551616 := by omega
      clear hnext hyt
      have hkP : (k : Int) < (P.length : Int) := by omega
      by_cases hxl : x < T % 4294967296
      · have hxl' : (x : Int) < ((c : Int) + (y : Int) * (t : Int)) % 4294967296 := by rw [HTe.out]; omega
        clear hT
        go_wp2_with fail
        rw [HTe.out]
        have e : ((x : Int) - (T : Int)) % 4294967296 = ((x + 4294967296 - T % 4294967296 : Nat) : Int) := by omega
        rw [e]
        have hn := HN.out (x + 4294967296 - T % 4294967296) (T / 4294967296 + 1) (by omega) (by have := HT.out; omega)
        go_roundw
        case rel => exact ⟨k + 1, T / 4294967296 + 1, by omega, hn.bound hy ht, by go_num, by go_num, hn⟩
        case measure => simp [intOf]; omega
      · have hxl' : ¬ (x : Int) < ((c : Int) + (y : Int) * (t : Int)) % 4294967296 := by rw [HTe.out]; omega
        clear hT
        go_wp2_with fail
        rw [HTe.out]
        have e : (x : Int) - (T : Int) % 4294967296 = ((x - T % 4294967296 : Nat) : Int) := by omega
        rw [e]
        have hn := HN.out (x - T % 4294967296) (T / 4294967296) (by omega) (by have := HT.out; omega)
        go_roundw
        case rel => exact ⟨k + 1, T / 4294967296, by omega, hn.bound hy ht, by go_num, by go_num, hn⟩
        case measure => simp [intOf]; omega
    · obtain rfl : k = ys.length := by omega
      obtain ⟨x, hx, hcx, hfx, hfin⟩ := tk_done hin hlen rfl
      have HF := Lib.hid hfin
      clear hin hfin
      have hkP : (ys.length : Int) < (P.length : Int) := by omega
      by_cases hxc : x < c
      · have hxc' : (x : Int) < (c : Int) := by omega
        have hcw : ((x : Int) - (c : Int)) % 4294967296 = ((x + 4294967296 - c : Nat) : Int) := by omega
        obtain ⟨Q, q1, q2, q3, q4, q5⟩ := HF.out (x + 4294967296 - c) 1 (by omega) (by omega)
        have hQ : V Q < 4294967296 ^ (ys.length + 1) := by have := val_lt q3; rw [q2, hlen] at this; exact this
        have hYM : V ys < 4294967296 ^ (ys.length + 1) := by
          have h1 : 4294967296 ^ ys.length ≤ 4294967296 ^ (ys.length + 1) := Nat.pow_le_pow_right (by omega) (by omega)
          have h2 : V ys < 4294967296 ^ ys.length := val_lt hy
          omega
        obtain ⟨e1, e2, e3⟩ := times_over (by rw [Nat.one_mul] at q4; exact q4) HQ.out.1 hQ hYM HQ.out.2.2
        have HG := Lib.hid (giveBack_any g cap c1 cy A Q Z ys ay _ q1 q3 (by rw [q2]; exact hlen) (by rw [q2]; exact hc1) hy (ry.grown q5 hne) hne hb)
        rw [q2] at HG
        have HE := Lib.hid (And.intro e1 (And.intro e3 q5))
        have HL := Lib.hid q2
        clear q1 q2 q3 q4 q5 hQ hYM e1 e3 HF HQ
        go_wp2_with fail
        rw [← hlen]
        refine HG.out.mono ?_
        rintro e w2 ⟨rfl, Q2, r1, r2, r3, r4, r5⟩
        rw [HE.out.2.1] at r4
        have HR := Lib.hid (And.intro r1 (And.intro (r2.trans HL.out) (And.intro r3 (And.intro r4 (grownBy_trans_new HE.out.2.2 r5)))))
        have ht1 : ((t : Int) - 1) = ((t - 1 : Nat) : Int) := by omega
        clear r1 r2 r3 r4 r5 HG
        go_wp2_with fail
        go_ret
        exact ⟨by rw [← HE.out.1]; rfl, Q2, HR.out.1, HR.out.2.1, HR.out.2.2.1, HR.out.2.2.2.1, HR.out.2.2.2.2⟩
      · have hxc' : ¬ (x : Int) < (c : Int) := by omega
        have hcw : (x : Int) - (c : Int) = ((x - c : Nat) : Int) := by omega
        obtain ⟨Q, q1, q2, q3, q4, q5⟩ := HF.out (x - c) 0 (by omega) (by omega)
        obtain ⟨e1, e2⟩ := times_exact (by rw [Nat.zero_mul, Nat.add_zero] at q4; exact q4) HQ.out.1 HQ.out.2.1
        have HE := Lib.hid (And.intro e1 (And.intro e2 (And.intro q1 (And.intro q2 (And.intro q3 q5)))))
        clear q1 q2 q3 q4 q5 e1 e2 HF HQ
        go_wp2_with fail
        go_ret
        exact ⟨by rw [← HE.out.1]; rfl, Q, HE.out.2.2.1, HE.out.2.2.2.1, HE.out.2.2.2.2.1, HE.out.2.1, HE.out.2.2.2.2.2⟩
end Go.Proofs.YtaiemcacpimcjaaDoor
