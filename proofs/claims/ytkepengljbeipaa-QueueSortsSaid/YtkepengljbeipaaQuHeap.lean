/-
  Layer 17: container/heap's four calls over a queue.
-/
import Derived.Test.YtkepengljbeipaaQuDown
import Derived.Test.YtkepengljbeipaaQuPP
set_option linter.unusedVariables false
set_option linter.unusedSimpArgs false
namespace Go.Proofs.Ytkepengljbeipaa
open Go.RowKit Qu

section
variable {w : World} {b s h n : Nat} {sc l : List Int} {len : Nat}
theorem GivesQ.q {v : Value} {S : Nat → Prop} {w w' : World} {e : Ending} (g : GivesQ v S b s h n sc l len w e w') : QAt w' b s h n sc l len := g.2.1
theorem GivesQ.chg {v : Value} {S : Nat → Prop} {w w' : World} {e : Ending} (g : GivesQ v S b s h n sc l len w e w') : Chg S w w' := g.2.2
theorem GivesQ.to {v u : Value} {S S' : Nat → Prop} {w w1 w2 : World} {e e' : Ending} {sc' l' : List Int} {len' : Nat} (c : Chg S w w1) (g : GivesQ v S' b s h n sc' l' len' w1 e w2) (hS : ∀ k, S' k → S k) (he : e' = .returned u) : GivesQ u S b s h n sc' l' len' w e' w2 :=
  ⟨he, g.2.1, c.trans (g.2.2.mono fun k _ hk => hS k hk)⟩
theorem Is.inB {b h k : Nat} (e : Is h k) : IsB b h k := Or.inr e
theorem Is.inB' {b h k : Nat} (e : Is b k) : IsB b h k := Or.inl e
theorem Chg.inB {b h : Nat} {w w1 : World} (c : Chg (Is h) w w1) : Chg (IsB b h) w w1 := c.mono fun _ _ e => e.inB
theorem Chg.inB' {b h : Nat} {w w1 : World} (c : Chg (Is b) w w1) : Chg (IsB b h) w w1 := c.mono fun _ _ e => e.inB'
theorem Rng.set {l : List Int} {n len : Nat} (R : Rng l n len) (hl : len < l.length) {v : Int} (h0 : 0 ≤ v) (h1 : v < (n : Int)) : Rng (l.set len v) n (len + 1) := fun i hi => by
  rw [el_set hl]
  split
  · exact ⟨h0, h1⟩
  · exact R i (by omega)
theorem heapPush_any (q : QAt w b s h n sc l len) (R : Rng l n len) (h0 : len < n) (v : Int) (hv0 : 0 ≤ v) (hv1 : v < (n : Int)) :
    Calls Try.prog 18 #[.iface 50 (ordV b), .iface 3 (.int .i64 v)] w (GivesQ (.tuple #[]) (IsB b h) b s h n sc (Qu.push sc l len v) (len + 1) w) := by
  have hM := Lib.hid (MPush_any q h0 v)
  have HR := Lib.hid (R.set (by rw [q.rows.ll]; exact h0) hv0 hv1)
  have hw1 : wrap64 (len : Int) = (len : Int) := IntWalk.wrap64_in _ (by have := q.rows.few; omega)
  have ec : ((len + 1 : Nat) : Int) = (len : Int) + 1 := by omega
  clear q R hv0 hv1
  unfold ordV at *
  go_enter Try.func18, Try.ntmps18
  go_wp2_with fail
  refine hM.out.mono ?_
  rintro e w1 hg
  obtain ⟨rfl, _⟩ := id hg
  have HG := Lib.hid hg
  have hL := Len_any hg.q
  rw [ec] at hL
  have HL := Lib.hid hL
  clear hg hM hL ec
  unfold ordV at *
  go_wp2_with fail
  refine HL.out.mono ?_
  rintro e w2 ⟨rfl, hb⟩
  have HB := Lib.hid hb
  have hU := Lib.hid (up_any (HG.out.q.kept hb) HR.out len (by omega))
  clear hb HL
  unfold ordV at *
  go_wp2_with fail
  refine hU.out.mono ?_
  rintro e w3 hg
  obtain ⟨rfl, _⟩ := id hg
  have HG3 := Lib.hid hg
  clear hg hU
  go_wp2_with fail
  go_end0
  exact GivesQ.to (HG.out.chg.trans (.of_below HB.out)) HG3.out (fun k hk => hk.inB) rfl
theorem heapPop_any (q : QAt w b s h n sc l len) (R : Rng l n len) (h0 : 0 < len) :
    Calls Try.prog 19 #[.iface 50 (ordV b)] w (GivesQ (.iface 3 (.int .i64 (el (Qu.pop sc l len) (len - 1)))) (IsB b h) b s h n sc (Qu.pop sc l len) (len - 1) w) := by
  obtain ⟨m, rfl⟩ : ∃ m, len = m + 1 := ⟨len - 1, by omega⟩
  unfold Qu.pop
  rw [Nat.add_sub_cancel]
  have hle := q.le
  have hll := q.rows.ll
  have ec : ((m + 1 : Nat) : Int) = (m : Int) + 1 := by omega
  have hL := Len_any q
  rw [ec] at hL
  have HL := Lib.hid hL
  have HQ := Lib.hid q
  have HR := Lib.hid R
  have hw1 : wrap64 (m : Int) = (m : Int) := IntWalk.wrap64_in _ (by have := q.rows.few; omega)
  have HR2 := Lib.hid (R.same (Same.sw h0 (show m < m + 1 by omega) (by omega)))
  clear hL ec q R hll
  unfold ordV at *
  go_enter Try.func19, Try.ntmps19
  go_wp2_with fail
  refine HL.out.mono ?_
  rintro e w1 ⟨rfl, hb⟩
  have HB := Lib.hid hb
  have hS := Lib.hid (Swap_any (HQ.out.kept hb) 0 m h0 (by omega))
  clear hb HL
  unfold ordV at *
  go_wp2_with fail
  refine hS.out.mono ?_
  rintro e w2 hg
  obtain ⟨rfl, _⟩ := id hg
  have HG := Lib.hid hg
  have hD := Lib.hid (down_any hg.q HR2.out 0 m (by omega) (by omega))
  clear hg hS
  unfold ordV at *
  go_wp2_with fail
  refine hD.out.mono ?_
  rintro e w3 hg
  obtain ⟨rfl, _⟩ := id hg
  have HG2 := Lib.hid hg
  have hP := Lib.hid (MPop_any hg.q (by omega))
  clear hg hD
  unfold ordV at *
  go_wp2_with fail
  refine hP.out.mono ?_
  rintro e w4 hg
  obtain ⟨rfl, _⟩ := id hg
  have HG3 := Lib.hid hg
  clear hg hP
  go_wp2_with fail
  go_ret
  exact GivesQ.to ((Chg.of_below HB.out).trans (HG.out.chg.inB.trans HG2.out.chg.inB)) HG3.out (fun k hk => hk.inB') rfl
theorem fix_any (q : QAt w b s h n sc l len) (R : Rng l n len) (i : Nat) (hi : i < len) :
    Calls Try.prog 21 #[.iface 50 (ordV b), .int .i64 (i : Int)] w (GivesQ (.tuple #[]) (Is h) b s h n sc (Qu.fix sc l len i) len w) := by
  have HF : Hid (Qu.fix sc l len i = if (down sc l i len).2 ≤ i then up sc (down sc l i len).1 i else (down sc l i len).1) := Lib.hid rfl
  generalize Qu.fix sc l len i = F at *
  have hle := q.le
  have hll := q.rows.ll
  have HL := Lib.hid (Len_any q)
  have HQ := Lib.hid q
  have HR := Lib.hid R
  have HS := Lib.hid (R.same (down_same (sc := sc) (len - i) i l rfl (by omega)))
  clear q R hll
  unfold ordV at *
  go_enter Try.func21, Try.ntmps21
  go_wp2_with fail
  refine HL.out.mono ?_
  rintro e w1 ⟨rfl, hb⟩
  have HB := Lib.hid hb
  have hD := down_any (HQ.out.kept hb) HR.out i len (by omega) (Nat.le_refl _)
  have HF2 := HF.out
  clear HF
  generalize (down sc l i len) = dd at *
  obtain ⟨d1, d2⟩ := dd
  dsimp only at *
  have HF := Lib.hid HF2
  clear HF2
  cases hc : decide (i < d2) with
  | true =>
    rw [hc] at hD
    have HD := Lib.hid hD
    have HC := Lib.hid hc
    clear hb HL hD hc
    unfold ordV at *
    go_wp2_with fail
    refine HD.out.mono ?_
    rintro e w2 hg
    obtain ⟨rfl, _⟩ := id hg
    have HG := Lib.hid hg
    clear hg HD
    go_wp2_with fail
    go_end0
    have hc := of_decide_eq_true HC.out
    rw [HF.out, if_neg (by omega)]
    exact GivesQ.to (.of_below HB.out) HG.out (fun k hk => hk) rfl
  | false =>
    rw [hc] at hD
    have HD := Lib.hid hD
    have HC := Lib.hid hc
    clear hb HL hD hc
    unfold ordV at *
    go_wp2_with fail
    refine HD.out.mono ?_
    rintro e w2 hg
    obtain ⟨rfl, _⟩ := id hg
    have HG := Lib.hid hg
    have hU := Lib.hid (up_any hg.q HS.out i hi)
    clear hg HD
    unfold ordV at *
    go_wp2_with fail
    refine hU.out.mono ?_
    rintro e w3 hg
    obtain ⟨rfl, _⟩ := id hg
    have HG3 := Lib.hid hg
    clear hg hU
    go_wp2_with fail
    go_end0
    have hc := of_decide_eq_false HC.out
    rw [HF.out, if_pos (by omega)]
    exact GivesQ.to ((Chg.of_below HB.out).trans HG.out.chg) HG3.out (fun k hk => hk) rfl
theorem init_any (q : QAt w b s h n sc l len) (R : Rng l n len) :
    Calls Try.prog 22 #[.iface 50 (ordV b)] w (GivesQ (.tuple #[]) (Is h) b s h n sc (Qu.init sc len (len / 2) l) len w) := by
  have hle := q.le
  have HL := Lib.hid (Len_any q)
  obtain ⟨p, hp⟩ : ∃ p, p = len / 2 := ⟨_, rfl⟩
  have hpd : (len : Int) / 2 = (p : Int) := by omega
  have hpl : p ≤ len := by omega
  have hfew : len ≤ 1048576 := by have := q.rows.few; omega
  have HI : HpIn (fun l' => Qu.init sc len p l' = Qu.init sc len p l) w b s h n sc l len w := ⟨q, .refl _ _, R, rfl⟩
  have HHI := Lib.hid HI
  rw [← hp]
  clear hp HI q R
  unfold ordV at *
  go_enter Try.func22, Try.ntmps22
  go_wp2_with fail
  refine HL.out.mono ?_
  rintro e w1 ⟨rfl, hb⟩
  have HB := Lib.hid hb
  clear hb HL
  go_wp2_with fail
  clear hpd
  go_loopw [3] (fun iv wr => ∃ (k : Nat) (l' : List Int), k ≤ p ∧ iv = .int .i64 ((k : Int) - 1) ∧ HpIn (fun l'' => Qu.init sc len k l'' = Qu.init sc len p l) w b s h n sc l' len wr) (fun iv _ => (intOf iv + 1).toNat)
  case atStart => exact ⟨p, l, Nat.le_refl _, rfl, HHI.out.kept HB.out⟩
  case round =>
    clear HHI HB
    obtain ⟨k, l', hk, rfl, HI⟩ := hrel
    have HHI := Lib.hid HI
    cases k with
    | zero =>
      clear HI
      go_wp2_with fail
      go_end0
      have e : l' = Qu.init sc len p l := HHI.out.P
      rw [← e]
      exact ⟨rfl, HHI.out.q, HHI.out.chg⟩
    | succ k =>
      have ek : ((k + 1 : Nat) : Int) - 1 = (k : Int) := by omega
      rw [ek]
      have hD := Lib.hid (down_any HI.q HI.rng k len (by omega) (Nat.le_refl _))
      have hw1 : wrap64 ((k : Int) - 1) = (k : Int) - 1 := IntWalk.wrap64_in _ (by omega)
      clear HI ek
      unfold ordV at *
      go_wp2_with fail
      refine hD.out.mono ?_
      rintro e w2 hg
      obtain ⟨rfl, _⟩ := id hg
      have HG := Lib.hid hg
      clear hg hD
      go_wp2_with fail
      go_roundw
      case rel =>
        have hle2 := HHI.out.q.le
        have hll := HHI.out.q.rows.ll
        exact ⟨k, (down sc l' k len).1, by omega, rfl, HG.out.q, HHI.out.chg.trans HG.out.chg, HHI.out.rng.same (down_same (sc := sc) (len - k) k l' rfl (by omega)), HHI.out.P⟩
      case measure => simp [intOf]
end
end Go.Proofs.Ytkepengljbeipaa
