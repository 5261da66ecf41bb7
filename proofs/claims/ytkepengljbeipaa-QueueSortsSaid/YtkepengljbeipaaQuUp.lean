/-
  Layer 17: one goes up in a heap.
-/
import Derived.Test.YtkepengljbeipaaQuSwap
set_option linter.unusedVariables false
set_option linter.unusedSimpArgs false
namespace Go.Proofs.Ytkepengljbeipaa
open Go.RowKit Qu

/-- All that are in are unknowns. -/
def Rng (l : List Int) (n len : Nat) : Prop := ∀ i, i < len → 0 ≤ el l i ∧ el l i < (n : Int)
theorem Rng.same {l l' : List Int} {n len : Nat} (h : Rng l n len) (k : Same len l l') : Rng l' n len := fun i hi => by
  obtain ⟨j, hj, e⟩ := (k.mem _).1 ⟨i, hi, rfl⟩
  rw [← e]
  exact h j hj
/-- A heap that is being put in order: what is still to do gives what was to be done. -/
structure HpIn (P : List Int → Prop) (w : World) (b s h n : Nat) (sc l : List Int) (len : Nat) (W : World) : Prop where
  q : QAt W b s h n sc l len
  chg : Chg (Is h) w W
  rng : Rng l n len
  P : P l
section
variable {w : World} {b s h n : Nat} {sc l : List Int} {len : Nat}
theorem QAt.less (q : QAt w b s h n sc l len) (R : Rng l n len) (i j : Nat) (hi : i < len) (hj : j < len) :
    Calls Try.prog 32 #[ordV b, .int .i64 (i : Int), .int .i64 (j : Int)] w (GivesV (.bool (aheadQ sc (el l i) (el l j))) w) := by
  have r1 := R i hi
  have r2 := R j hj
  exact Less_nat q i j hi hj (el l i).toNat (el l j).toNat (by omega) (by omega) (by omega) (by omega)
theorem HpIn.kept {P : List Int → Prop} {w W W' : World} (k : HpIn P w b s h n sc l len W) (hb : Below W.heap.size W W') : HpIn P w b s h n sc l len W' :=
  ⟨k.q.kept hb, k.chg.trans (.of_below hb), k.rng, k.P⟩
theorem HpIn.swapped {P P' : List Int → Prop} {w W W' : World} {e : Ending} {i j : Nat} (k : HpIn P w b s h n sc l len W) (hi : i < len) (hj : j < len) (g : GivesQ (.tuple #[]) (Is h) b s h n sc (sw l i j) len W e W') (hP : P l → P' (sw l i j)) : HpIn P' w b s h n sc (sw l i j) len W' := by
  have hle := k.q.le
  have hll := k.q.rows.ll
  exact ⟨g.2.1, k.chg.trans g.2.2, k.rng.same (Same.sw hi hj (by omega)), hP k.P⟩
set_option maxRecDepth 100000 in
theorem up_any (q : QAt w b s h n sc l len) (R : Rng l n len) (j : Nat) (hj : j < len) :
    Calls Try.prog 28 #[.iface 50 (ordV b), .int .i64 (j : Int)] w (GivesQ (.tuple #[]) (Is h) b s h n sc (up sc l j) len w) := by
  have HI : HpIn (fun l' => up sc l' j = up sc l j) w b s h n sc l len w := ⟨q, .refl _ _, R, rfl⟩
  have hle := q.le
  have hfew := q.rows.few
  clear q R
  unfold ordV at *
  go_enter Try.func28, Try.ntmps28
  go_wp2_with fail
  go_loopw [1] (fun jv wr => ∃ (k : Nat) (l' : List Int), k < len ∧ jv = .int .i64 k ∧ HpIn (fun l'' => up sc l'' k = up sc l j) w b s h n sc l' len wr) (fun jv _ => (intOf jv).toNat)
  case atStart => exact ⟨j, l, hj, rfl, HI⟩
  case round =>
    obtain ⟨k, l', hk, rfl, HI⟩ := hrel
    by_cases hk0 : k = 0
    · subst hk0
      go_wp2_with fail
      go_end0
      have e : l' = up sc l j := by
        have := HI.P
        rw [up] at this
        simpa using this
      rw [← e]
      exact ⟨rfl, HI.q, HI.chg⟩
    · obtain ⟨m, rfl⟩ : ∃ m, k = m + 1 := ⟨k - 1, by omega⟩
      obtain ⟨p, hp⟩ : ∃ p, p = m / 2 := ⟨_, rfl⟩
      have hp2 : p < len := by omega
      have hpm : (m + 1 - 1) / 2 = p := by omega
      have hL := Lib.hid (fun W (x : Below wr.heap.size wr W) => (HI.kept x).q.less HI.rng (m + 1) p hk hp2)
      have hS := Lib.hid (fun W (x : Below wr.heap.size wr W) => Swap_any (HI.kept x).q p (m + 1) hp2 hk)
      have hP : Hid (up sc l' (m + 1) = if aheadQ sc (el l' (m + 1)) (el l' p) = true then up sc (sw l' p (m + 1)) p else l') := Lib.hid (by rw [up, hpm]; simp)
      have hE := Lib.hid HI.P
      have e1 : ((m + 1 : Nat) : Int) = (m : Int) + 1 := by omega
      rw [e1] at hL hS
      have hpd : (m : Int) / 2 = (p : Int) := by omega
      have hne : ((p : Int) == (m : Int) + 1) = false := by
        rw [beq_eq_false_iff_ne]
        omega
      have hne2 : ¬ (p : Int) = (m : Int) + 1 := by omega
      have HHI := Lib.hid HI
      have hmlt : p < m + 1 := by omega
      clear hp hpm e1 HI hk0
      unfold ordV at *
      go_wp2_with fail
      refine (hL.out _ (Below.refl _ _)).mono ?_
      rintro e w1 ⟨rfl, hb1⟩
      have HB := Lib.hid hb1
      clear hb1 hL
      cases ha : aheadQ sc (el l' (m + 1)) (el l' p) with
      | false =>
        go_wp2_with fail
        go_end0
        have hz := hP.out
        rw [ha] at hz
        have e : l' = up sc l j := by
          rw [← hE.out, hz]
          simp
        rw [← e]
        exact ⟨rfl, (HHI.out.kept HB.out).q, (HHI.out.kept HB.out).chg⟩
      | true =>
        go_wp2_with fail
        refine (hS.out _ HB.out).mono ?_
        rintro e w2 hg
        obtain ⟨rfl, _⟩ := id hg
        have HG := Lib.hid hg
        clear hg hS
        go_wp2_with fail
        go_roundw
        case rel =>
          refine ⟨p, sw l' p (m + 1), hp2, rfl, (HHI.out.kept HB.out).swapped hp2 hk HG.out (fun _ => ?_)⟩
          have hz := hP.out
          rw [ha] at hz
          rw [← hE.out, hz]
          simp
        case measure => simp [intOf]; omega
end
end Go.Proofs.Ytkepengljbeipaa
