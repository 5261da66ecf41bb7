/-
  nat.Right; the document's Same, Cut.
-/
import Derived.Test.YtaiemcacpimcjaaDoorParse
import Derived.Test.YtaiemcacpimcjaaDoorLawBase
import Derived.Deep.QuietTactic
import Derived.BigQuiet
set_option linter.unusedVariables false
set_option linter.unusedSimpArgs false
namespace Go.Proofs.YtaiemcacpimcjaaDoor
open Go.RowKit Rep

/-- Have limbs no nought at their end? -/
def topB (xs : List Nat) : Bool := decide (xs.length = 0) || decide (xs.getD (xs.length - 1) 0 ≠ 0)

set_option maxRecDepth 100000 in
set_option maxHeartbeats 1000000 in
theorem Right_any (a : Option Addr) (c : Nat) (xs : List Nat) (w : World) (hx : Handed w a c xs) : Calls Tryd.prog 30 #[.slice a xs.length c] w (Gives (.bool (topB xs)) w) := by
  have hle := hx.le
  have hcap := hx.cap
  have hr := hx.reads
  clear hx
  unfold maxLen at hcap
  rcases Nat.eq_zero_or_pos xs.length with h0 | h0
  · have e : topB xs = true := by unfold topB; rw [h0]; rfl
    rw [e, h0]
    clear e hr
    go_enter Tryd.func30, Tryd.ntmps30
    go_wp2_with fail
    go_ret
    exact Gives.mk' rfl
  · obtain ⟨g, off, rfl, hg, hcell⟩ := hr.open' (by rw [List.length_map]; exact h0)
    have hck := hcell (xs.length - 1) _ (map_getElem? (xs := xs) (by omega))
    have hz : ((xs.length : Int) == 0) = false := cast_beq_no (by omega)
    have HT : Hid (topB xs = decide (xs.getD (xs.length - 1) 0 ≠ 0)) := Lib.hid (by unfold topB; rw [decide_eq_false (p := xs.length = 0) (by omega), Bool.false_or])
    clear hcell hr
    unfold u32v at hck
    generalize xs.getD (xs.length - 1) 0 = x at *
    rw [HT.out]
    have hi : ((xs.length : Int) - 1).toNat = xs.length - 1 := by omega
    go_enter Tryd.func30, Tryd.ntmps30
    go_wp2_with fail
    go_ret
    refine Gives.mk' (congrArg Value.bool ?_)
    by_cases h : x = 0
    · subst h; rfl
    · rw [decide_eq_true h]; simpa using h

set_option maxRecDepth 100000 in
set_option maxHeartbeats 1000000 in
theorem Same_any (a b : Option Addr) (c d : Nat) (xs ys : List Nat) (w : World) (ha : Reads w a (xs.map u32v)) (hb : Reads w b (ys.map u32v)) (hla : xs.length ≤ 1073741824) :
    Calls Tryd.prog 32 #[.slice a xs.length c, .slice b ys.length d] w (Draws (.bool (decide (xs = ys))) w) := by
  by_cases hl : xs.length = ys.length
  · go_enter Tryd.func32, Tryd.ntmps32
    have hne : ((xs.length : Int) != (ys.length : Int)) = false := by rw [hl]; simp
    go_wp2_with fail
    go_loopw [5] (fun i wr => ∃ k n : Nat, wr = w.drewN n ∧ k ≤ xs.length ∧ i = .int .i64 k ∧ xs.take k = ys.take k) (fun i _ => xs.length - (intOf i).toNat)
    case atStart => exact ⟨0, 0, rfl, Nat.zero_le _, rfl, rfl⟩
    case round =>
      obtain ⟨k, n, hw, hk, rfl, he⟩ := hrel
      have HE := Lib.hid he
      have ha' : Reads wr a (xs.map u32v) := by rw [hw]; exact ha
      have hb' : Reads wr b (ys.map u32v) := by rw [hw]; exact hb
      have HW := Lib.hid hw
      clear he hw
      by_cases hlt : k < xs.length
      · obtain ⟨g1, o1, rfl, hg1, hc1⟩ := ha'.open' (by rw [List.length_map]; omega)
        obtain ⟨g2, o2, rfl, hg2, hc2⟩ := hb'.open' (by rw [List.length_map]; omega)
        have hx := hc1 k _ (map_getElem? hlt)
        have hy := hc2 k _ (map_getElem? (xs := ys) (by omega))
        clear hc1 hc2 ha hb
        unfold u32v at hx hy
        have HX : Hid (xs[k]? = some (xs.getD k 0)) := Lib.hid (by rw [List.getElem?_eq_getElem hlt, getD_lt hlt])
        have HY : Hid (ys[k]? = some (ys.getD k 0)) := Lib.hid (by rw [List.getElem?_eq_getElem (by omega), getD_lt (by omega)])
        generalize xs.getD k 0 = x at *
        generalize ys.getD k 0 = y at *
        have hkx : (k : Int) < (xs.length : Int) := by omega
        have hky : (k : Int) < (ys.length : Int) := by omega
        by_cases hxy : x = y
        · subst hxy
          have hxx : ((x : Int) != (x : Int)) = false := by simp
          go_wp2_with fail
          go_quiet (fail)
          go_wp2_with fail
          go_roundw
          case rel => exact ⟨k + 1, n + nq, by rw [HW.out]; exact drewN_add _ _ _, by omega, by go_num, by rw [List.take_add_one, List.take_add_one, HE.out, HX.out, HY.out]⟩
          case measure => simp [intOf]; omega
        · have hxy' : ((x : Int) != (y : Int)) = true := by simp; omega
          have HN : Hid (decide (xs = ys) = false) := Lib.hid (decide_eq_false fun e => hxy (by have h1 := HX.out; rw [e, HY.out] at h1; exact (Option.some.inj h1).symm))
          rw [HN.out]
          go_wp2_with fail
          go_quiet (fail)
          go_wp2_with fail
          go_ret
          exact ⟨rfl, n + nq, by rw [HW.out]; exact drewN_add _ _ _⟩
      · obtain rfl : k = xs.length := by omega
        have HN : Hid (decide (xs = ys) = true) := Lib.hid (decide_eq_true (by have := HE.out; rwa [List.take_length, List.take_of_length_le (by omega)] at this))
        go_wp2_with fail
        go_ret
        exact ⟨by rw [HN.out]; rfl, n, HW.out⟩
  · have e : decide (xs = ys) = false := decide_eq_false fun e => hl (by rw [e])
    rw [e]
    clear e ha hb
    have hne : ((xs.length : Int) != (ys.length : Int)) = true := by simp; omega
    go_enter Tryd.func32, Tryd.ntmps32
    go_wp2_with fail
    go_ret
    exact ⟨rfl, 0, rfl⟩

set_option maxRecDepth 100000 in
set_option maxHeartbeats 1000000 in
theorem Cut_any (a : Option Addr) (c : Nat) (xs : List Nat) (w : World) (hr : Reads w a (xs.map i64v)) (hle : xs.length ≤ c) (hcap : c ≤ maxLen) :
    Calls Tryd.prog 31 #[.slice a xs.length c] w (Gives (.slice a (strip xs).length c) w) := by
  unfold maxLen at hcap
  rw [strip_length]
  go_enter Tryd.func31, Tryd.ntmps31
  go_wp2_with fail
  go_loop [3] (fun i => ∃ k : Nat, k ≤ xs.length ∧ i = .int .i64 k ∧ cutAt xs k = cutAt xs xs.length) (fun i => (intOf i).toNat)
  case atStart => exact ⟨xs.length, Nat.le_refl _, rfl, rfl⟩
  case round =>
    obtain ⟨k, hk, rfl, he⟩ := hrel
    have HE := Lib.hid he
    clear he
    cases k with
    | zero =>
      go_wp2_with fail
      go_ret
      exact Gives.mk' (by rw [← HE.out]; rfl)
    | succ k =>
      obtain ⟨g, off, rfl, hg, hcell⟩ := hr.open' (by rw [List.length_map]; omega)
      have hck := hcell k _ (map_getElem? (by omega))
      clear hcell
      unfold i64v at hck
      have HC : Hid (cutAt xs (k + 1) = if xs.getD k 0 = 0 then cutAt xs k else k + 1) := rfl
      generalize xs.getD k 0 = d at hck HC
      by_cases h0 : d = 0
      · subst h0
        go_wp2_with fail
        go_round
        case rel => exact ⟨k, by omega, by go_num, by rw [← HE.out, HC.out, if_pos rfl]⟩
        case measure => simp [intOf]
      · have hb : (((d : Nat) : Int) == 0) = false := cast_beq_no h0
        go_wp2_with fail
        go_ret
        exact Gives.mk' (by rw [← HE.out, HC.out, if_neg h0]; go_num)
end Go.Proofs.YtaiemcacpimcjaaDoor
