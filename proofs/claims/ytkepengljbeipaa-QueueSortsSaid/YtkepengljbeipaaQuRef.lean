/-
  Layer 17: the document's queue: New, First, Bump.
-/
import Derived.Test.YtkepengljbeipaaQuNew
import Derived.Test.YtkepengljbeipaaQuRight
set_option linter.unusedVariables false
set_option linter.unusedSimpArgs false
namespace Go.Proofs.Ytkepengljbeipaa
open Go.RowKit Qu

def Flags (w : World) (b : Nat) (l : List Bool) : Prop := w.heap[b]? = some (.cells (bools l).toArray 4 (0, 0))
section
variable {w w1 : World} {b : Nat} {l : List Bool}
theorem Flags.lt (h : Flags w b l) : b < w.heap.size := (Array.getElem?_eq_some_iff.1 h).1
theorem elb_get {k : Nat} (h : k < l.length) : l[k]? = some (elb l k) := by simp [elb, List.getD_eq_getElem?_getD, List.getElem?_eq_getElem h]
theorem Flags.cell (h : Flags w b l) {k : Nat} (hk : k < l.length) : w.cell? ⟨b, k, none⟩ = some (.bool (elb l k)) := by
  have h' : w.heap[b]? = some (.cells (bools l).toArray 4 (0, 0)) := h
  simp [World.cell?, h', bools, elb_get hk]
theorem Flags.frozen (h : Flags w b l) (k : Nat) : w.frozen? ⟨b, k, none⟩ = false := by
  have h' : w.heap[b]? = some (.cells (bools l).toArray 4 (0, 0)) := h
  simp [World.frozen?, h']
theorem Flags.set (h : Flags w b l) (k : Nat) (x : Bool) : Flags (w.setCell ⟨b, k, none⟩ (.bool x)) b (l.set k x) := by
  have := heap_setCell_same w b k (bools l).toArray 4 (.bool x) h
  unfold Flags
  rw [this]
  simp [bools, List.map_set]
end
theorem elb_set {l : List Bool} {i : Nat} (hi : i < l.length) (x : Bool) (k : Nat) : elb (l.set i x) k = if k = i then x else elb l k := by
  unfold elb
  rw [List.getD_eq_getElem?_getD, List.getD_eq_getElem?_getD, List.getElem?_set]
  by_cases h : k = i
  · subst h
    simp [hi]
  · simp [h, Ne.symm h]
/-- The document's queue in memory. -/
structure RQ (w : World) (r s g n : Nat) (sc : List Int) (ins : List Bool) : Prop where
  head : w.heap[r]? = some (.cells #[.slice (some ⟨s, 0, none⟩) n n, .slice (some ⟨g, 0, none⟩) n n] 34 (0, 0))
  score : Nums w s sc
  flags : Flags w g ins
  ls : sc.length = n
  li : ins.length = n
def RFoot (r s g k : Nat) : Prop := k = r ∨ k = s ∨ k = g
section
variable {w w1 : World} {r s g n : Nat} {sc : List Int} {ins : List Bool}
theorem RQ.lts (k : RQ w r s g n sc ins) : r < w.heap.size ∧ s < w.heap.size ∧ g < w.heap.size := ⟨(Array.getElem?_eq_some_iff.1 k.head).1, k.score.lt, k.flags.lt⟩
theorem RQ.nes (k : RQ w r s g n sc ins) : r ≠ s ∧ r ≠ g ∧ s ≠ g := by
  refine ⟨?_, ?_, ?_⟩
  · rintro rfl
    have := Eq.trans (Eq.symm k.head) k.score
    simp at this
  · rintro rfl
    have := Eq.trans (Eq.symm k.head) k.flags
    simp at this
  · rintro rfl
    have := Eq.trans (Eq.symm k.score) k.flags
    simp at this
theorem RQ.past (k : RQ w r s g n sc ins) (h : ∀ j, RFoot r s g j → w1.heap[j]? = w.heap[j]?) : RQ w1 r s g n sc ins :=
  ⟨(h _ (.inl rfl)).trans k.head, (h _ (.inr (.inl rfl))).trans k.score, (h _ (.inr (.inr rfl))).trans k.flags, k.ls, k.li⟩
theorem RQ.kept (k : RQ w r s g n sc ins) (hb : Below w.heap.size w w1) : RQ w1 r s g n sc ins := k.past fun j hj => hb.block _ (by rcases hj with rfl | rfl | rfl; exact k.lts.1; exact k.lts.2.1; exact k.lts.2.2)
theorem RQ.apart (k : RQ w r s g n sc ins) {S : Nat → Prop} (hc : Chg S w w1) (hS : ∀ j, RFoot r s g j → ¬ S j) : RQ w1 r s g n sc ins :=
  k.past fun j hj => hc.block _ (by rcases hj with rfl | rfl | rfl; exact k.lts.1; exact k.lts.2.1; exact k.lts.2.2) (hS j hj)
theorem RQ.cells (k : RQ w r s g n sc ins) : w.cell? ⟨r, 0, none⟩ = some (.slice (some ⟨s, 0, none⟩) n n) ∧ w.cell? ⟨r, 1, none⟩ = some (.slice (some ⟨g, 0, none⟩) n n) := by
  simp [World.cell?, k.head]
theorem RQ.setScore (k : RQ w r s g n sc ins) (v : Nat) (x : Int) : RQ (w.setCell ⟨s, v, none⟩ (.int .i64 x)) r s g n (sc.set v x) ins := by
  obtain ⟨n1, n2, n3⟩ := k.nes
  exact ⟨(heap_setCell_other _ _ _ _ n1).trans k.head, k.score.set v x, (heap_setCell_other _ _ _ _ (Ne.symm n3)).trans k.flags, by rw [List.length_set]; exact k.ls, k.li⟩
theorem RQ.setFlag (k : RQ w r s g n sc ins) (v : Nat) (x : Bool) : RQ (w.setCell ⟨g, v, none⟩ (.bool x)) r s g n sc (ins.set v x) := by
  obtain ⟨n1, n2, n3⟩ := k.nes
  exact ⟨(heap_setCell_other _ _ _ _ n2).trans k.head, (heap_setCell_other _ _ _ _ n3).trans k.score, k.flags.set v x, k.ls, by rw [List.length_set]; exact k.li⟩
/-- The document's Bump. -/
theorem RBump_out (k : RQ w r s g n sc ins) (v y : Int) (hv : v < 0 ∨ (n : Int) ≤ v) : Calls Try.prog 12 #[.pointer (some ⟨r, 0, none⟩), .int .i64 v, .int .i64 y] w fun e w' => e = .returned (.int .i64 2) ∧ w = w' := by
  obtain ⟨c0, c1⟩ := k.cells
  clear k
  rcases hv with hv | hv
  · have e1 : decide (v < 0) = true := decide_eq_true hv
    clear hv
    go_enter Try.func12, Try.ntmps12
    go_wp2_with fail
    go_ret
    exact ⟨rfl, rfl⟩
  · have e1 : decide (v < 0) = false := decide_eq_false (by omega)
    have e2 : decide ((n : Int) ≤ v) = true := decide_eq_true hv
    clear hv
    go_enter Try.func12, Try.ntmps12
    go_wp2_with fail
    go_ret
    exact ⟨rfl, rfl⟩
theorem RBump_arg (k : RQ w r s g n sc ins) (v : Nat) (y : Int) (hv : v < n) (hy : y < 0) : Calls Try.prog 12 #[.pointer (some ⟨r, 0, none⟩), .int .i64 (v : Int), .int .i64 y] w fun e w' => e = .returned (.int .i64 1) ∧ w = w' := by
  obtain ⟨c0, c1⟩ := k.cells
  have e1 : decide ((v : Int) < 0) = false := decide_eq_false (by omega)
  have e2 : decide (n ≤ v) = false := decide_eq_false (by omega)
  have e3 : decide (y < 0) = true := decide_eq_true hy
  clear k hv hy
  go_enter Try.func12, Try.ntmps12
  go_wp2_with fail
  go_ret
  exact ⟨rfl, rfl⟩
theorem RBump_over (k : RQ w r s g n sc ins) (v : Nat) (y : Int) (hv : v < n) (hs : 0 ≤ el sc v ∧ el sc v ≤ 1152921504606846976) (hy : 1152921504606846976 < el sc v + y) : Calls Try.prog 12 #[.pointer (some ⟨r, 0, none⟩), .int .i64 (v : Int), .int .i64 y] w fun e w' => e = .returned (.int .i64 6) ∧ w = w' := by
  obtain ⟨c0, c1⟩ := k.cells
  have e1 : decide ((v : Int) < 0) = false := decide_eq_false (by omega)
  have e2 : decide (n ≤ v) = false := decide_eq_false (by omega)
  have hc : w.cell? ⟨s, v, none⟩ = some (.int .i64 (el sc v)) := k.score.cell (by rw [k.ls]; exact hv)
  generalize el sc v = x at *
  have e3 : decide (y < 0) = false := decide_eq_false (by omega)
  have e4 : wrap64 (1152921504606846976 - x) = 1152921504606846976 - x := IntWalk.wrap64_in _ (by omega)
  have e5 : decide (1152921504606846976 - x < y) = true := decide_eq_true (by omega)
  clear k hy hs
  go_enter Try.func12, Try.ntmps12
  go_wp2_with fail
  go_ret
  exact ⟨rfl, rfl⟩
theorem RBump_yes (k : RQ w r s g n sc ins) (v : Nat) (y : Int) (hv : v < n) (hs : 0 ≤ el sc v) (hy0 : 0 ≤ y) (hy : el sc v + y ≤ 1152921504606846976) : Calls Try.prog 12 #[.pointer (some ⟨r, 0, none⟩), .int .i64 (v : Int), .int .i64 y] w fun e w' => e = .returned (.int .i64 0) ∧ w.setCell ⟨s, v, none⟩ (.int .i64 (el sc v + y)) = w' := by
  obtain ⟨c0, c1⟩ := k.cells
  have e1 : decide ((v : Int) < 0) = false := decide_eq_false (by omega)
  have e2 : decide (n ≤ v) = false := decide_eq_false (by omega)
  have hc : w.cell? ⟨s, v, none⟩ = some (.int .i64 (el sc v)) := k.score.cell (by rw [k.ls]; exact hv)
  have hf : w.frozen? ⟨s, v, none⟩ = false := k.score.frozen v
  generalize el sc v = x at *
  have e3 : decide (y < 0) = false := decide_eq_false (by omega)
  have e4 : wrap64 (1152921504606846976 - x) = 1152921504606846976 - x := IntWalk.wrap64_in _ (by omega)
  have e5 : decide (1152921504606846976 - x < y) = false := decide_eq_false (by omega)
  have e6 : wrap64 (x + y) = x + y := IntWalk.wrap64_in _ (by omega)
  clear k hy hs hy0
  go_enter Try.func12, Try.ntmps12
  go_wp2_with fail
  go_ret
  exact ⟨rfl, rfl⟩
structure FirstIn (w : World) (r s g n : Nat) (sc : List Int) (ins : List Bool) (W : World) : Prop where
  q : RQ W r s g n sc ins
  below : Below w.heap.size w W
theorem first_lt (sc : List Int) (ins : List Bool) (k : Nat) : -1 ≤ first sc ins k ∧ first sc ins k < (k : Int) := by
  rcases first_spec sc ins k with ⟨h, _⟩ | ⟨h0, h1, _⟩ <;> omega
set_option maxHeartbeats 2000000 in
set_option maxRecDepth 100000 in
theorem First_any (k : RQ w r s g n sc ins) (hn60 : n ≤ 60) : Calls Try.prog 10 #[.pointer (some ⟨r, 0, none⟩)] w (GivesV (.int .i64 (first sc ins n)) w) := by
  have HI : Hid (FirstIn w r s g n sc ins w) := Lib.hid ⟨k, Below.refl _ _⟩
  have HLS := Lib.hid k.ls
  have HLI := Lib.hid k.li
  clear k
  go_enter Try.func10, Try.ntmps10
  go_wp2_with fail
  go_loopw [3, 4] (fun bv iv wr => ∃ k : Nat, k ≤ n ∧ iv = .int .i64 k ∧ bv = .int .i64 (first sc ins k) ∧ FirstIn w r s g n sc ins wr) (fun _ iv _ => n - (intOf iv).toNat)
  case atStart => exact ⟨0, Nat.zero_le _, rfl, rfl, HI.out⟩
  case round =>
    obtain ⟨k, hk, rfl, rfl, HK⟩ := hrel
    have HHK := Lib.hid (fun W (x : Below wr.heap.size wr W) => (⟨HK.q.kept x, HK.below.trans (x.mono HK.below.size)⟩ : FirstIn w r s g n sc ins W))
    clear HI
    obtain ⟨c0, c1⟩ := HK.q.cells
    by_cases hkn : k < n
    · have hc : wr.cell? ⟨g, k, none⟩ = some (.bool (elb ins k)) := HK.q.flags.cell (by rw [HLI.out]; exact hkn)
      have hx : wr.cell? ⟨s, k, none⟩ = some (.int .i64 (el sc k)) := HK.q.score.cell (by rw [HLS.out]; exact hkn)
      obtain ⟨f0, f1⟩ := first_lt sc ins k
      have hstep : first sc ins (k + 1) = if elb ins k = true ∧ (first sc ins k < 0 ∨ sco sc (first sc ins k) < el sc k) then (k : Int) else first sc ins k := rfl
      have hfs : 0 ≤ first sc ins k → wr.cell? ⟨s, (first sc ins k).toNat, none⟩ = some (.int .i64 (sco sc (first sc ins k))) := fun h => HK.q.score.cell (by rw [HLS.out]; omega)
      generalize first sc ins k = f at *
      generalize sco sc f = y at *
      generalize el sc k = x at *
      have hki : (k : Int) < (n : Int) := by omega
      cases hb : elb ins k with
      | false =>
        have HST : Hid (first sc ins (k + 1) = f) := Lib.hid (by rw [hstep, hb]; simp)
        rw [hb] at hc
        clear HK hstep hfs hx hb
        go_wp2_with fail
        go_quiet (fail)
        go_wp2_with fail
        go_roundw
        case rel => exact ⟨k + 1, by omega, by go_num, by rw [HST.out], HHK.out _ (below_drewN (Below.refl _ _) _)⟩
        case measure => simp [intOf]; omega
      | true =>
        rw [hb] at hc hstep
        by_cases hf : f < 0
        · have HST : Hid (first sc ins (k + 1) = (k : Int)) := Lib.hid (by rw [hstep, if_pos ⟨rfl, .inl hf⟩])
          have e1 : decide (f < 0) = true := decide_eq_true hf
          clear HK hstep hfs hx hb hf
          go_wp2_with fail
          go_quiet (fail)
          go_wp2_with fail
          go_roundw
          case rel => exact ⟨k + 1, by omega, by go_num, by rw [HST.out], HHK.out _ (below_drewN (Below.refl _ _) _)⟩
          case measure => simp [intOf]; omega
        · have e1 : decide (f < 0) = false := decide_eq_false hf
          obtain ⟨m, rfl⟩ : ∃ m : Nat, f = (m : Int) := ⟨f.toNat, by omega⟩
          have hcm := hfs (by omega)
          rw [Int.toNat_natCast] at hcm
          have hmn : m < n := by omega
          cases hd : decide (y < x) with
          | true =>
            have HST : Hid (first sc ins (k + 1) = (k : Int)) := Lib.hid (by rw [hstep, if_pos ⟨rfl, .inr (of_decide_eq_true hd)⟩])
            clear HK hstep hfs hb hf
            go_wp2_with fail
            go_quiet (fail)
            go_wp2_with fail
            go_roundw
            case rel => exact ⟨k + 1, by omega, by go_num, by rw [HST.out], HHK.out _ (below_drewN (Below.refl _ _) _)⟩
            case measure => simp [intOf]; omega
          | false =>
            have HST : Hid (first sc ins (k + 1) = (m : Int)) := Lib.hid (by rw [hstep, if_neg (by have := of_decide_eq_false hd; omega)])
            clear HK hstep hfs hb hf
            go_wp2_with fail
            go_quiet (fail)
            go_wp2_with fail
            go_roundw
            case rel => exact ⟨k + 1, by omega, by go_num, by rw [HST.out], HHK.out _ (below_drewN (Below.refl _ _) _)⟩
            case measure => simp [intOf]; omega
    · obtain rfl : k = n := by omega
      clear HK
      go_wp2_with fail
      go_ret
      exact GivesV.mk' rfl (HHK.out _ (Below.refl _ _)).below
end
end Go.Proofs.Ytkepengljbeipaa
