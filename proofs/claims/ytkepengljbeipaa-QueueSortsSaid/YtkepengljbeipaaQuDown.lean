/-
  Layer 17: one goes down in a heap.
-/
import Derived.Test.YtkepengljbeipaaQuUp
set_option linter.unusedVariables false
set_option linter.unusedSimpArgs false
namespace Go.Proofs.Ytkepengljbeipaa
open Go.RowKit Qu

section
variable {w : World} {b s h n : Nat} {sc l : List Int} {len : Nat}
theorem down_yes {sc l : List Int} {k m j : Nat} (h : 2 * k + 1 < m) (hj : kid sc l k m = j) : down sc l k m = if aheadQ sc (el l j) (el l k) = true then down sc (sw l k j) j m else (l, k) := by
  rw [down, hj]
  simp [h]
theorem down_no {sc l : List Int} {k m : Nat} (h : ¬ 2 * k + 1 < m) : down sc l k m = (l, k) := by
  rw [down]
  simp [h]
set_option maxRecDepth 100000 in
set_option maxHeartbeats 2000000 in
theorem down_any (q : QAt w b s h n sc l len) (R : Rng l n len) (i m : Nat) (hi : i ≤ len) (hm : m ≤ len) :
    Calls Try.prog 29 #[.iface 50 (ordV b), .int .i64 (i : Int), .int .i64 (m : Int)] w (GivesQ (.bool (decide (i < (down sc l i m).2))) (Is h) b s h n sc (down sc l i m).1 len w) := by
  have HI : HpIn (fun l' => down sc l' i m = down sc l i m) w b s h n sc l len w := ⟨q, .refl _ _, R, rfl⟩
  have hle := q.le
  have hfew := q.rows.few
  clear q R
  unfold ordV at *
  go_enter Try.func29, Try.ntmps29
  go_wp2_with fail
  go_loopw [7] (fun jv wr => ∃ (k : Nat) (l' : List Int), k ≤ len ∧ jv = .int .i64 k ∧ HpIn (fun l'' => down sc l'' k m = down sc l i m) w b s h n sc l' len wr) (fun jv _ => m - (intOf jv).toNat)
  case atStart => exact ⟨i, l, hi, rfl, HI⟩
  case round =>
    obtain ⟨k, l', hk, rfl, HI⟩ := hrel
    obtain ⟨a, ha⟩ : ∃ a, a = 2 * k + 1 := ⟨_, rfl⟩
    have ea : 2 * (k : Int) + 1 = (a : Int) := by omega
    have HHI := Lib.hid HI
    have hE := Lib.hid HI.P
    have HA := Lib.hid ha
    have hfa : a ≤ 3000000 := by omega
    by_cases hlt : 2 * k + 1 < m
    · have h1 : decide (m ≤ a) = false := decide_eq_false (by omega)
      have h2 : decide ((a : Int) < 0) = false := decide_eq_false (by omega)
      obtain ⟨c, hc⟩ : ∃ c, c = a + 1 := ⟨_, rfl⟩
      have ec : (a : Int) + 1 = (c : Int) := by omega
      have hkl : k < len := by omega
      have hal : a < len := by omega
      have HK : Hid (kid sc l' k m = if c < m ∧ aheadQ sc (el l' c) (el l' a) = true then c else a) := Lib.hid (by rw [hc, ha]; rfl)
      have HC := Lib.hid hc
      cases hcm : decide (c < m) with
      | false =>
        have HJ : Hid (kid sc l' k m = a) := Lib.hid (by rw [HK.out]; exact if_neg (fun x => by simp at hcm; omega))
        clear HI ha hc HK
        unfold ordV at *
        go_wp2_with fail
        have HB := Lib.hid (Below.refl wr.heap.size wr)
        refine ((HHI.out.kept HB.out).q.less HHI.out.rng a k (by omega) hkl).mono ?_
        rintro e w3 ⟨rfl, hb3⟩
        have HB3 := Lib.hid (HB.out.trans (hb3.mono HB.out.size))
        have HD := Lib.hid (down_yes (sc := sc) hlt HJ.out)
        clear hb3
        cases hjk : aheadQ sc (el l' a) (el l' k) with
        | false =>
          have hz := HD.out
          rw [hjk] at hz
          have e : down sc l i m = (l', k) := by rw [← hE.out, hz]; simp
          have HZ := Lib.hid e
          clear HD hz e
          go_wp2_with fail
          go_ret
          rw [HZ.out]
          exact ⟨rfl, (HHI.out.kept HB3.out).q, (HHI.out.kept HB3.out).chg⟩
        | true =>
          have hS := Lib.hid (Swap_any (HHI.out.kept HB3.out).q k a hkl (by omega))
          unfold ordV at *
          go_wp2_with fail
          refine hS.out.mono ?_
          rintro e w4 hg
          obtain ⟨rfl, _⟩ := id hg
          have HG := Lib.hid hg
          clear hg hS
          go_wp2_with fail
          go_roundw
          case rel =>
            refine ⟨a, sw l' k a, by omega, rfl, (HHI.out.kept HB3.out).swapped hkl (by omega) HG.out (fun _ => ?_)⟩
            have hz := HD.out
            rw [hjk] at hz
            rw [← hE.out, hz]
            simp
          case measure =>
            have := HA.out
            have := HC.out
            simp [intOf]
            omega
      | true =>
        have hcl : c < len := by simp at hcm; omega
        have hL := Lib.hid (HI.q.less HI.rng c a hcl hal)
        clear HI ha hc
        unfold ordV at *
        go_wp2_with fail
        refine hL.out.mono ?_
        rintro e w1 ⟨rfl, hb1⟩
        have HB := Lib.hid hb1
        clear hb1 hL
        cases hca : aheadQ sc (el l' c) (el l' a) with
        | false =>
          have HJ : Hid (kid sc l' k m = a) := Lib.hid (by rw [HK.out, hca]; simp)
          clear HK hca
          go_wp2_with fail
          refine ((HHI.out.kept HB.out).q.less HHI.out.rng a k (by omega) hkl).mono ?_
          rintro e w3 ⟨rfl, hb3⟩
          have HB3 := Lib.hid (HB.out.trans (hb3.mono HB.out.size))
          have HD := Lib.hid (down_yes (sc := sc) hlt HJ.out)
          clear hb3
          cases hjk : aheadQ sc (el l' a) (el l' k) with
          | false =>
            have hz := HD.out
            rw [hjk] at hz
            have e : down sc l i m = (l', k) := by rw [← hE.out, hz]; simp
            have HZ := Lib.hid e
            clear HD hz e
            go_wp2_with fail
            go_ret
            rw [HZ.out]
            exact ⟨rfl, (HHI.out.kept HB3.out).q, (HHI.out.kept HB3.out).chg⟩
          | true =>
            have hS := Lib.hid (Swap_any (HHI.out.kept HB3.out).q k a hkl (by omega))
            unfold ordV at *
            go_wp2_with fail
            refine hS.out.mono ?_
            rintro e w4 hg
            obtain ⟨rfl, _⟩ := id hg
            have HG := Lib.hid hg
            clear hg hS
            go_wp2_with fail
            go_roundw
            case rel =>
              refine ⟨a, sw l' k a, by omega, rfl, (HHI.out.kept HB3.out).swapped hkl (by omega) HG.out (fun _ => ?_)⟩
              have hz := HD.out
              rw [hjk] at hz
              rw [← hE.out, hz]
              simp
            case measure =>
              have := HA.out
              have := HC.out
              simp [intOf]
              omega
        | true =>
          have HJ : Hid (kid sc l' k m = c) := Lib.hid (by rw [HK.out, hca]; exact if_pos ⟨of_decide_eq_true hcm, rfl⟩)
          clear HK hca
          go_wp2_with fail
          refine ((HHI.out.kept HB.out).q.less HHI.out.rng c k (by omega) hkl).mono ?_
          rintro e w3 ⟨rfl, hb3⟩
          have HB3 := Lib.hid (HB.out.trans (hb3.mono HB.out.size))
          have HD := Lib.hid (down_yes (sc := sc) hlt HJ.out)
          clear hb3
          cases hjk : aheadQ sc (el l' c) (el l' k) with
          | false =>
            have hz := HD.out
            rw [hjk] at hz
            have e : down sc l i m = (l', k) := by rw [← hE.out, hz]; simp
            have HZ := Lib.hid e
            clear HD hz e
            go_wp2_with fail
            go_ret
            rw [HZ.out]
            exact ⟨rfl, (HHI.out.kept HB3.out).q, (HHI.out.kept HB3.out).chg⟩
          | true =>
            have hS := Lib.hid (Swap_any (HHI.out.kept HB3.out).q k c hkl (by omega))
            unfold ordV at *
            go_wp2_with fail
            refine hS.out.mono ?_
            rintro e w4 hg
            obtain ⟨rfl, _⟩ := id hg
            have HG := Lib.hid hg
            clear hg hS
            go_wp2_with fail
            go_roundw
            case rel =>
              refine ⟨c, sw l' k c, by omega, rfl, (HHI.out.kept HB3.out).swapped hkl (by omega) HG.out (fun _ => ?_)⟩
              have hz := HD.out
              rw [hjk] at hz
              rw [← hE.out, hz]
              simp
            case measure =>
              have := HA.out
              have := HC.out
              simp [intOf]
              omega
    · have h1 : decide (m ≤ a) = true := decide_eq_true (by omega)
      have hz := down_no (sc := sc) (l := l') hlt
      have e : down sc l i m = (l', k) := by rw [← hE.out, hz]
      have HZ := Lib.hid e
      clear HI ha e hz
      go_wp2_with fail
      go_ret
      rw [HZ.out]
      exact ⟨rfl, HHI.out.q, HHI.out.chg⟩
end
end Go.Proofs.Ytkepengljbeipaa
