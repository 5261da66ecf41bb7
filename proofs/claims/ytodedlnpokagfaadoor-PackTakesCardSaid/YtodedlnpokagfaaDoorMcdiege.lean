/- By program out of: Guess. -/
import Derived.Test.YtodedlnpokagfaaDoorMoclici
/-
  Long division's guess: nat.guess.
-/
set_option linter.unusedVariables false
set_option linter.unusedSimpArgs false
namespace Go.Proofs.YtodedlnpokagfaaDoor
open Go.RowKit Rep

/-- So many times at least, and what is left of the first limbs. -/
def GuessIn (U Y top f t r : Nat) : Prop := U / Y ≤ t ∧ t < 4294967296 ∧ t * f + r = top

theorem guess_start {U Y E top f s u2 u0 y0 : Nat} (hY : Y = (f * 4294967296 + s) * E + y0) (hU : U = (top * 4294967296 + u2) * E + u0) (hu0 : u0 < E) (hu2 : u2 < 4294967296) (hf : 0 < f) (hlt : U < 4294967296 * Y) :
    GuessIn U Y top f (min (top / f) 4294967295) (top - min (top / f) 4294967295 * f) := by
  have hE : 0 < E := by omega
  have hY0 : 0 < Y := by
    have : 0 < (f * 4294967296 + s) * E := Nat.mul_pos (by omega) hE
    omega
  have h1 : U / Y < 4294967296 := by rw [Nat.div_lt_iff_lt_mul hY0]; exact hlt
  have h2 : U / Y ≤ top / f := by
    rw [Nat.le_div_iff_mul_le hf]
    have h3 := Nat.div_mul_le_self U Y
    have h4 : U / Y * ((f * 4294967296) * E) ≤ U / Y * Y := Nat.mul_le_mul_left _ (by rw [hY, Nat.add_mul]; omega)
    have h5 : U < (top * 4294967296 + 4294967296) * E := by
      have h6 : (top * 4294967296 + u2 + 1) * E ≤ (top * 4294967296 + 4294967296) * E := Nat.mul_le_mul_right _ (by omega)
      rw [Nat.add_mul (top * 4294967296 + u2), Nat.one_mul] at h6
      omega
    have h7 : (U / Y * f) * (4294967296 * E) < (top + 1) * (4294967296 * E) := by
      have e1 : (U / Y * f) * (4294967296 * E) = U / Y * ((f * 4294967296) * E) := by ac_rfl
      have e2 : (top + 1) * (4294967296 * E) = (top * 4294967296 + 4294967296) * E := by rw [Nat.add_mul, Nat.add_mul, Nat.one_mul, Nat.mul_assoc]
      omega
    have := Nat.lt_of_mul_lt_mul_right h7
    omega
  have h8 : min (top / f) 4294967295 * f ≤ top := Nat.le_trans (Nat.mul_le_mul_right _ (Nat.min_le_left _ _)) (Nat.div_mul_le_self _ _)
  exact ⟨by omega, by omega, by omega⟩

theorem guess_step {U Y E top f s u2 u0 y0 t r : Nat} (h : GuessIn U Y top f t r) (hY : Y = (f * 4294967296 + s) * E + y0) (hU : U = (top * 4294967296 + u2) * E + u0) (hu0 : u0 < E) (hf : 0 < f) (hgt : r * 4294967296 + u2 < t * s) :
    1 ≤ t ∧ GuessIn U Y top f (t - 1) (r + f) := by
  obtain ⟨h1, h2, h3⟩ := h
  have hY0 : 0 < Y := by
    have : 0 < (f * 4294967296 + s) * E := Nat.mul_pos (by omega) (by omega)
    omega
  have h4 : top * 4294967296 + u2 + 1 ≤ t * (f * 4294967296 + s) := by
    rw [Nat.mul_add, ← Nat.mul_assoc, ← h3, Nat.add_mul]
    omega
  have h5 : (top * 4294967296 + u2 + 1) * E ≤ t * (f * 4294967296 + s) * E := Nat.mul_le_mul_right _ h4
  have h6 : U < t * Y := by
    rw [hY, Nat.mul_add, ← Nat.mul_assoc]
    rw [Nat.add_mul, Nat.one_mul] at h5
    omega
  have h7 : U / Y < t := by rw [Nat.div_lt_iff_lt_mul hY0]; exact h6
  have h8 : 1 ≤ t := Nat.lt_of_le_of_lt (Nat.zero_le _) h7
  refine ⟨h8, Nat.le_sub_one_of_lt h7, by omega, ?_⟩
  obtain ⟨t', rfl⟩ : ∃ t', t = t' + 1 := ⟨t - 1, by omega⟩
  rw [Nat.add_mul, Nat.one_mul] at h3
  rw [Nat.add_sub_cancel]
  omega

theorem guess_end {U Y E top f s u2 u0 y0 t r : Nat} (h : GuessIn U Y top f t r) (hY : Y = (f * 4294967296 + s) * E + y0) (hU : U = (top * 4294967296 + u2) * E + u0) (hu0 : u0 < E) (hy0 : y0 < E) (hs : s < 4294967296) (hf : 0 < f)
    (hle : 4294967296 ≤ r ∨ t * s ≤ r * 4294967296 + u2) : U / Y ≤ t ∧ t ≤ U / Y + 1 := by
  obtain ⟨h1, h2, h3⟩ := h
  have hY0 : 0 < Y := by
    have : 0 < (f * 4294967296 + s) * E := Nat.mul_pos (by omega) (by omega)
    omega
  have h4 : t * s ≤ r * 4294967296 + u2 := by
    rcases hle with h | h
    · have h5 : t * s ≤ 4294967296 * 4294967296 := Nat.mul_le_mul (by omega) (by omega)
      omega
    · exact h
  have h5 : t * (f * 4294967296 + s) ≤ top * 4294967296 + u2 := by
    rw [Nat.mul_add, ← Nat.mul_assoc, ← h3, Nat.add_mul]
    omega
  have h6 : t * (f * 4294967296 + s) * E ≤ (top * 4294967296 + u2) * E := Nat.mul_le_mul_right _ h5
  have h7 : t * y0 ≤ 4294967296 * E := Nat.mul_le_mul (by omega) (by omega)
  have h8 : 4294967296 * E ≤ (f * 4294967296 + s) * E := Nat.mul_le_mul_right _ (by omega)
  have h9 : t * Y ≤ U + Y := by
    conv => lhs; rw [hY, Nat.mul_add, ← Nat.mul_assoc]
    omega
  refine ⟨h1, ?_⟩
  rcases Nat.eq_zero_or_pos t with h0 | h0
  · rw [h0]; exact Nat.zero_le _
  · obtain ⟨t', rfl⟩ : ∃ t', t = t' + 1 := ⟨t - 1, by omega⟩
    rw [Nat.add_mul, Nat.one_mul] at h9
    have : t' ≤ U / Y := by rw [Nat.le_div_iff_mul_le hY0]; omega
    exact Nat.succ_le_succ this

/-- How often it is in it, or one time too much. -/
def GivesGuess (q : Nat) (w : World) (e : Ending) (w' : World) : Prop := ∃ t n : Nat, e = .returned (.int .u32 (t : Int)) ∧ w' = w.drewN n ∧ q ≤ t ∧ t ≤ q + 1 ∧ t < 4294967296
theorem min_nat (a b : Nat) : min (a : Int) (b : Int) = ((min a b : Nat) : Int) := by omega

set_option maxRecDepth 100000 in
set_option maxHeartbeats 2000000 in
theorem guess_walk (g go off goy m c1 cy : Nat) (un u1 u2 f s U Y E u0 y0 : Nat) (w : World)
    (kn : w.cell? ⟨g, go + (m + 2), none⟩ = some (.int .u32 (un : Int))) (k1 : w.cell? ⟨g, go + (m + 1), none⟩ = some (.int .u32 (u1 : Int))) (k2 : w.cell? ⟨g, go + m, none⟩ = some (.int .u32 (u2 : Int)))
    (kf : w.cell? ⟨goy, off + (m + 1), none⟩ = some (.int .u32 (f : Int))) (ks : w.cell? ⟨goy, off + m, none⟩ = some (.int .u32 (s : Int)))
    (hun : un < 4294967296) (hu1 : u1 < 4294967296) (hu2 : u2 < 4294967296) (hf : f < 4294967296) (hs : s < 4294967296) (hf0 : 0 < f) (hm : m ≤ 1073741824) (hc1 : m + 3 ≤ c1) (hcy : m + 2 ≤ cy)
    (hY : Y = (f * 4294967296 + s) * E + y0) (hU : U = ((un * 4294967296 + u1) * 4294967296 + u2) * E + u0) (hu0 : u0 < E) (hy0 : y0 < E) (hlt : U < 4294967296 * Y) :
    Calls Tryd.prog 89 #[.slice (some ⟨g, go, none⟩) (m + 3) c1, .slice (some ⟨goy, off, none⟩) (m + 2) cy] w (GivesGuess (U / Y) w) := by
  obtain ⟨top, hor, htop, htb⟩ := or_step (r := un) (x := u1) hun hu1
  rw [← htop] at hU
  have HS := Lib.hid (guess_start hY hU hu0 hu2 hf0 hlt)
  have HM := Lib.hid (And.intro hY (And.intro hU (And.intro hu0 hy0)))
  clear hY hU hu0 hy0 hlt htop
  have hfz : ((f : Int) == 0) = false := cast_beq_no (by omega)
  have hmin : min ((top : Int) / (f : Int)) 4294967295 = ((min (top / f) 4294967295 : Nat) : Int) := min_nat _ _
  have HSM : Hid (min (top / f) 4294967295 * f ≤ top) := Lib.hid (Nat.le_trans (Nat.mul_le_mul_right _ (Nat.min_le_left _ _)) (Nat.div_mul_le_self _ _))
  generalize min (top / f) 4294967295 = t0 at *
  go_enter Tryd.func89, Tryd.ntmps89
  go_wp2_with fail
  go_quiet (fail)
  go_wp2_with fail
  go_quiet (fail)
  go_wp2_with fail
  obtain ⟨t0f, ht0f⟩ : ∃ x, x = t0 * f := ⟨_, rfl⟩
  have hwq : IntKind.u64.wrap ((top : Int) / (f : Int)) = (top : Int) / (f : Int) := by
    have h : (top : Int) / (f : Int) = ((top / f : Nat) : Int) := rfl
    have h2 : top / f ≤ top := Nat.div_le_self _ _
    exact IntWalk.u64_in _ (by rw [h]; omega)
  rw [hwq, hmin, show (t0 : Int) * (f : Int) = (t0f : Int) from by rw [ht0f, Int.natCast_mul]]
  rw [← ht0f] at HS
  have hle0 : t0f ≤ top := by
    have h := HSM.out
    rwa [← ht0f] at h
  rw [IntWalk.u64_in (t0f : Int) (by omega), IntWalk.u64_in ((top : Int) - (t0f : Int)) (by omega), show (top : Int) - (t0f : Int) = ((top - t0f : Nat) : Int) from by omega]
  clear ht0f
  go_loop [9, 10] (fun tv rv => ∃ t r : Nat, tv = .int .u64 t ∧ rv = .int .u64 r ∧ GuessIn U Y top f t r) (fun tv _ => (intOf tv).toNat)
  case atStart => exact ⟨t0, top - t0f, rfl, rfl, HS.out⟩
  case round =>
    obtain ⟨t, r, rfl, rfl, hg⟩ := hrel
    have hrt : r ≤ top := by have := hg.2.2; omega
    have htl := hg.2.1
    have HG := Lib.hid hg
    clear hg HS
    by_cases hr : r < 4294967296
    · have hz : (((r : Int) / 4294967296) == 0) = true := by simp; omega
      obtain ⟨W, hor2, hW, hWb⟩ := or_step (r := r) (x := u2) hr hu2
      have hts : t * s ≤ 4294967295 * 4294967295 := Nat.mul_le_mul (by omega) (by omega)
      have hts2 : t * s < 18446744073709551616 := by omega
      obtain ⟨X, hX⟩ : ∃ X, X = t * s := ⟨_, rfl⟩
      have hXe : Hid ((t : Int) * (s : Int) = (X : Int)) := Lib.hid (by rw [hX, Int.natCast_mul])
      have HX := Lib.hid (And.intro hX hW)
      clear hts hX hW
      by_cases hgt : W < X
      · have hgt' : (W : Int) < (t : Int) * (s : Int) := by rw [hXe.out]; omega
        have hgd : decide ((W : Int) < (t : Int) * (s : Int)) = true := decide_eq_true hgt'
        obtain ⟨ht1, hnext⟩ := guess_step HG.out HM.out.1 HM.out.2.1 HM.out.2.2.1 hf0 (by have := HX.out; omega)
        have HN := Lib.hid hnext
        clear hnext
        go_wp2_with fail
        go_round
        case rel => exact ⟨t - 1, r + f, by go_num, by go_num, HN.out⟩
        case measure => simp [intOf]; omega
      · have hgt' : ¬ (W : Int) < (t : Int) * (s : Int) := by rw [hXe.out]; omega
        have hgd : decide ((W : Int) < (t : Int) * (s : Int)) = false := decide_eq_false hgt'
        obtain ⟨e1, e2⟩ := guess_end HG.out HM.out.1 HM.out.2.1 HM.out.2.2.1 HM.out.2.2.2 hs hf0 (.inr (by have := HX.out; omega))
        have HE := Lib.hid (And.intro e1 e2)
        clear e1 e2
        go_wp2_with fail
        go_ret
        exact ⟨t, _, rfl, rfl, HE.out.1, HE.out.2, htl⟩
    · have hz : (((r : Int) / 4294967296) == 0) = false := by simp; omega
      obtain ⟨e1, e2⟩ := guess_end HG.out HM.out.1 HM.out.2.1 HM.out.2.2.1 HM.out.2.2.2 hs hf0 (.inl (by omega))
      have HE := Lib.hid (And.intro e1 e2)
      clear e1 e2
      go_wp2_with fail
      go_ret
      exact ⟨t, _, rfl, rfl, HE.out.1, HE.out.2, htl⟩

theorem split_two (l : List Nat) (m : Nat) (h : l.length = m + 2) : V l = (l.getD (m + 1) 0 * 4294967296 + l.getD m 0) * 4294967296 ^ m + V (l.take m) := by
  unfold V
  conv => lhs; rw [← List.take_length (l := l), h]
  rw [take_succ_val _ l (m + 1) (by omega), take_succ_val _ l m (by omega), Nat.pow_succ, Nat.add_mul]
  have e1 : 4294967296 ^ m * 4294967296 * l.getD (m + 1) 0 = l.getD (m + 1) 0 * 4294967296 * 4294967296 ^ m := by ac_rfl
  have e2 : 4294967296 ^ m * l.getD m 0 = l.getD m 0 * 4294967296 ^ m := Nat.mul_comm _ _
  omega
theorem split_three (l : List Nat) (m : Nat) (h : l.length = m + 3) : V l = ((l.getD (m + 2) 0 * 4294967296 + l.getD (m + 1) 0) * 4294967296 + l.getD m 0) * 4294967296 ^ m + V (l.take m) := by
  have h1 : V l = V (l.take (m + 2)) + 4294967296 ^ (m + 2) * l.getD (m + 2) 0 := by
    unfold V
    conv => lhs; rw [← List.take_length (l := l), h]
    rw [take_succ_val _ l (m + 2) (by omega)]
  have h2 := split_two (l.take (m + 2)) m (by rw [List.length_take]; omega)
  have e1 : (l.take (m + 2)).getD (m + 1) 0 = l.getD (m + 1) 0 := by simp [List.getD_eq_getElem?_getD, List.getElem?_take]
  have e2 : (l.take (m + 2)).getD m 0 = l.getD m 0 := by simp [List.getD_eq_getElem?_getD, List.getElem?_take]
  rw [e1, e2, List.take_take, Nat.min_eq_left (by omega)] at h2
  rw [h1, h2, Nat.add_mul (_ * _) (l.getD m 0), Nat.add_mul (_ * _) (l.getD m 0), Nat.add_mul (_ * _) (l.getD (m + 1) 0)]
  have e3 : 4294967296 ^ (m + 2) * l.getD (m + 2) 0 = l.getD (m + 2) 0 * 4294967296 * 4294967296 * 4294967296 ^ m := by rw [show m + 2 = m + 1 + 1 from rfl, Nat.pow_succ, Nat.pow_succ]; ac_rfl
  simp only [Nat.add_mul]
  omega

/-- guess of a part and of what divides. -/
theorem guess_any (g cap c1 cy goy m : Nat) (A P Z ys : List Nat) (w : World) (hp : PartAt w g cap A P Z) (hl : Lim P) (hlen : P.length = m + 3) (hc1 : m + 3 ≤ c1) (hcy : m + 2 ≤ cy) (hy : Lim ys) (hylen : ys.length = m + 2)
    (ry : Reads w (some ⟨goy, 0, none⟩) (ys.map u32v)) (hb : m ≤ 1073741824) (htop : 0 < ys.getD (m + 1) 0) (hlt : V P < 4294967296 * V ys) :
    Calls Tryd.prog 89 #[.slice (some ⟨g, A.length, none⟩) (m + 3) c1, .slice (some ⟨goy, 0, none⟩) (m + 2) cy] w (GivesGuess (V P / V ys) w) := by
  obtain ⟨gy, off, he, hgy, hcell⟩ := ry.open' (by rw [List.length_map]; omega)
  cases he
  refine guess_walk g A.length 0 goy m c1 cy (P.getD (m + 2) 0) (P.getD (m + 1) 0) (P.getD m 0) (ys.getD (m + 1) 0) (ys.getD m 0) (V P) (V ys) (4294967296 ^ m) (V (P.take m)) (V (ys.take m)) w
    (hp.cell (by omega)) (hp.cell (by omega)) (hp.cell (by omega)) (hcell _ _ (map_getElem? (xs := ys) (by omega))) (hcell _ _ (map_getElem? (xs := ys) (by omega)))
    (hl.getD _ (by omega)) (hl.getD _ (by omega)) (hl.getD _ (by omega)) (hy.getD _ (by omega)) (hy.getD _ (by omega)) htop hb hc1 hcy (split_two ys m hylen) (split_three P m hlen) ?_ ?_ hlt
  · have := val_lt (hl.take m)
    rwa [List.length_take, Nat.min_eq_left (by omega)] at this
  · have := val_lt (hy.take m)
    rwa [List.length_take, Nat.min_eq_left (by omega)] at this
end Go.Proofs.YtodedlnpokagfaaDoor

