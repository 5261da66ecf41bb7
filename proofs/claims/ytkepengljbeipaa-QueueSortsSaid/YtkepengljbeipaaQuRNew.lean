/-
  Layer 17: the document's new queue; its Right says so of a queue that is right.
-/
import Derived.Test.YtkepengljbeipaaQuRef
set_option linter.unusedVariables false
set_option linter.unusedSimpArgs false
namespace Go.Proofs.Ytkepengljbeipaa
open Go.RowKit Qu

/-- The document's new queue. -/
def NewR (n : Nat) (w : World) (e : Ending) (w' : World) : Prop := ∃ r s g, e = .returned (.pointer (some ⟨r, 0, none⟩)) ∧ Below w.heap.size w w' ∧ RQ w' r s g n (List.replicate n 0) (List.replicate n true) ∧ w.heap.size ≤ r ∧ w.heap.size ≤ s ∧ w.heap.size ≤ g
structure MadeR (w : World) (r s g n : Nat) (ins : List Bool) (W : World) : Prop where
  q : RQ W r s g n (List.replicate n 0) ins
  below : Below w.heap.size w W
  lt : w.heap.size ≤ r ∧ w.heap.size ≤ s ∧ w.heap.size ≤ g
theorem chain3 (w : World) (A B C : Obj) : (((w.alloc A).alloc B).alloc C).drew.heap[w.heap.size]? = some A ∧ (((w.alloc A).alloc B).alloc C).drew.heap[w.heap.size + 1]? = some B ∧ (((w.alloc A).alloc B).alloc C).drew.heap[w.heap.size + 1 + 1]? = some C := by
  have e : (((w.alloc A).alloc B).alloc C).drew.heap = ((w.heap.push A).push B).push C := rfl
  rw [e]
  simp only [Array.getElem?_push, Array.size_push]
  refine ⟨?_, ?_, ?_⟩ <;> repeat (first | rw [if_pos trivial] | rw [if_pos (by omega)] | rw [if_neg (by omega)])
def fillB (n k : Nat) : List Bool := (List.range n).map fun i : Nat => decide (i < k)
theorem fillB_set (n k : Nat) (hk : k < n) : (fillB n k).set k true = fillB n (k + 1) := by
  apply List.ext_getElem
  · simp [fillB]
  · intro i h1 h2
    simp only [fillB, List.getElem_set, List.getElem_map, List.getElem_range]
    by_cases e : k = i
    · subst e
      simp
    · rw [if_neg e]
      by_cases c : i < k
      · rw [decide_eq_true c, decide_eq_true (by omega)]
      · rw [decide_eq_false c, decide_eq_false (by omega)]
theorem fillB_zero (n : Nat) : fillB n 0 = List.replicate n false := by
  apply List.ext_getElem
  · simp [fillB]
  · intro i h1 h2
    simp [fillB]
theorem fillB_all (n : Nat) : fillB n n = List.replicate n true := by
  apply List.ext_getElem
  · simp [fillB]
  · intro i h1 h2
    simp only [fillB, List.length_map, List.length_range] at h1
    simp [fillB, h1]
set_option maxHeartbeats 2000000 in
set_option maxRecDepth 100000 in
theorem RNew_any (w : World) (N : Int) (n : Nat) (hn : n ≤ 60) (hN : max N 0 = (n : Int)) : Calls Try.prog 7 #[.int .i64 N] w (NewR n w) := by
  have HN := Lib.hid hN
  have hmk := fun W => run_make_ints W n (by omega)
  have hmb := fun W => run_make_bools W n (by omega)
  have HM := Lib.hid (fun (W : World) (r s g : Nat) (h0 : W.heap[r]? = some (.cells #[.slice (some ⟨s, 0, none⟩) n n, .slice (some ⟨g, 0, none⟩) n n] 34 (0, 0))) (h1 : W.heap[s]? = some (.cells (ints (List.replicate n 0)).toArray 3 (0, 0))) (h2 : W.heap[g]? = some (.cells (bools (List.replicate n false)).toArray 4 (0, 0))) (h3 : Below w.heap.size w W) (h4 : w.heap.size ≤ r ∧ w.heap.size ≤ s ∧ w.heap.size ≤ g) => (⟨⟨h0, h1, h2, by simp, by simp⟩, h3, h4⟩ : MadeR w r s g n (List.replicate n false) W))
  generalize (ints (List.replicate n 0)).toArray = Z at *
  generalize (bools (List.replicate n false)).toArray = Y at *
  clear hN
  go_enter Try.func7, Try.ntmps7
  go_upto_if 6 with fail
  go_cut [0] (fun s0 wx => s0 = .int .i64 (n : Int) ∧ wx = w)
  case first =>
    rcases Int.lt_or_le N 0 with hneg | hpos
    · obtain rfl : n = 0 := by have := HN.out; omega
      have h1 : decide (N < 0) = true := decide_eq_true hneg
      go_wp2_with fail
      go_meet
      exact ⟨rfl, rfl⟩
    · obtain rfl : N = (n : Int) := by have := HN.out; omega
      go_wp2_with fail
      go_meet
      exact ⟨rfl, rfl⟩
  obtain ⟨rfl, hwc⟩ := hcut
  rw [hwc]
  clear hwc
  go_upto_region 3 with fail
  go_cut [3] (fun s3 wx => ∃ r s g : Nat, s3 = .pointer (some ⟨r, 0, none⟩) ∧ MadeR w r s g n (List.replicate n false) wx)
  case first =>
    go_region
    all_goals go_wp2_with fail
    all_goals go_meet
    all_goals first
      | exact ⟨w.heap.size + 1 + 1, w.heap.size, w.heap.size + 1, rfl, HM.out _ _ _ _ (chain3 _ _ _ _).2.2 (chain3 _ _ _ _).1 (chain3 _ _ _ _).2.1 ((((Below.refl _ _).alloc (Nat.le_refl _) _).alloc (by simp) _).alloc (by simp; omega) _).drew (by omega)⟩
      | exact ⟨w.heap.size + 1 + 1, w.heap.size + 1, w.heap.size, rfl, HM.out _ _ _ _ (chain3 _ _ _ _).2.2 (chain3 _ _ _ _).2.1 (chain3 _ _ _ _).1 ((((Below.refl _ _).alloc (Nat.le_refl _) _).alloc (by simp) _).alloc (by simp; omega) _).drew (by omega)⟩
  case rest =>
    obtain ⟨r, s, g, rfl, HQ⟩ := hcut
    rw [← fillB_zero n] at HQ
    have HQ' := Lib.hid HQ
    clear HQ hmk hmb HM
    go_wp2_with fail
    go_loopw [4] (fun iv wr => ∃ k : Nat, k ≤ n ∧ iv = .int .i64 k ∧ MadeR w r s g n (fillB n k) wr) (fun iv _ => n - (intOf iv).toNat)
    case atStart => exact ⟨0, Nat.zero_le _, rfl, HQ'.out⟩
    case round =>
      obtain ⟨k, hk, rfl, HK⟩ := hrel
      have HHK := Lib.hid HK
      obtain ⟨c0, c1⟩ := HK.q.cells
      by_cases hkn : k < n
      · have hc : wr.cell? ⟨g, k, none⟩ = some (.bool (elb (fillB n k) k)) := HK.q.flags.cell (by rw [HK.q.li]; exact hkn)
        have hf : wr.frozen? ⟨g, k, none⟩ = false := HK.q.flags.frozen k
        have HN : Hid (MadeR w r s g n (fillB n (k + 1)) (wr.setCell ⟨g, k, none⟩ (.bool true))) := Lib.hid (by
          have := HK.q.setFlag k true
          rw [fillB_set n k hkn] at this
          exact ⟨this, HK.below.setCell HK.lt.2.2 _, HK.lt⟩)
        generalize elb (fillB n k) k = x at *
        clear HK HQ'
        go_wp2_with fail
        go_roundw
        case rel => exact ⟨k + 1, by omega, by go_num, HN.out⟩
        case measure => simp [intOf]; omega
      · obtain rfl : k = n := by omega
        rw [fillB_all] at HK
        have HE := Lib.hid HK
        clear HK HQ' HHK
        go_wp2_with fail
        go_ret
        exact ⟨r, s, g, rfl, HE.out.below, HE.out.q, HE.out.lt⟩
/-- While the document looks a queue through. -/
structure LookIn (w : World) (s h n : Nat) (sc l : List Int) (len : Nat) (W : World) : Prop where
  q : QAt W w.heap.size s h n sc l len
  below : Below w.heap.size w W
section
variable {w : World} {b s h n : Nat} {sc l : List Int} {len : Nat}
set_option maxHeartbeats 4000000 in
set_option maxRecDepth 100000 in
theorem RRight_yes (k : RwAt w s h n sc l) (hr : Rt sc l len) (hn60 : n ≤ 60) : Calls Try.prog 15 #[qV s h n len] w (GivesV (.bool true) w) := by
  have hl : len ≤ n := by rw [← k.ll]; exact hr.le
  have HI : Hid (LookIn w s h n sc l len (w.alloc (.cells #[.slice (some ⟨s, 0, none⟩) n n, .slice (some ⟨h, 0, none⟩) len n] 26))) := Lib.hid (by
    have hb := (Below.refl w.heap.size w).alloc (Nat.le_refl _) (.cells #[.slice (some ⟨s, 0, none⟩) n n, .slice (some ⟨h, 0, none⟩) len n] 26)
    exact ⟨⟨chain1 _ _, k.kept hb, hl⟩, hb⟩)
  have HR := Lib.hid hr
  have HLS := Lib.hid k.ls
  unfold qV at *
  clear k hr
  go_enter Try.func15, Try.ntmps15
  go_wp2_with fail
  go_loopw [3] (fun iv wr => ∃ k : Nat, k ≤ n ∧ iv = .int .i64 k ∧ LookIn w s h n sc l len wr) (fun iv _ => n - (intOf iv).toNat)
  case atStart => exact ⟨0, Nat.zero_le _, rfl, HI.out⟩
  case round =>
    obtain ⟨k, hk, rfl, HK⟩ := hrel
    have HHK := Lib.hid HK
    clear HI
    obtain ⟨c0, c1⟩ := HK.q.reads
    by_cases hkn : k < n
    · have hc : wr.cell? ⟨s, k, none⟩ = some (.int .i64 (el sc k)) := HK.q.sk hkn (Below.refl _ _)
      have hx := HR.out.scs k (by rw [HLS.out]; exact hkn)
      generalize el sc k = x at *
      have e1 : decide (x < 0) = false := decide_eq_false (by omega)
      have e2 : decide (1152921504606846976 < x) = false := decide_eq_false (by omega)
      clear HK hx
      go_wp2_with fail
      go_roundw
      case rel => exact ⟨k + 1, by omega, by go_num, HHK.out⟩
      case measure => simp [intOf]; omega
    · clear HK
      go_wp2_with fail
      clear c0 c1 hkn hk
      go_loopw [4] (fun iv wr => ∃ k : Nat, k ≤ len ∧ iv = .int .i64 k ∧ LookIn w s h n sc l len wr) (fun iv _ => len - (intOf iv).toNat)
      case atStart => exact ⟨0, Nat.zero_le _, rfl, HHK.out⟩
      case round =>
        clear HHK
        obtain ⟨i, hi, rfl, HK⟩ := hrel
        have HHK := Lib.hid HK
        obtain ⟨c0, c1⟩ := HK.q.reads
        by_cases hin : i < len
        · have hc : wr.cell? ⟨h, i, none⟩ = some (.int .i64 (el l i)) := HK.q.hk (by omega) (Below.refl _ _)
          have hrg := HR.out.rng i hin
          rw [HLS.out] at hrg
          obtain ⟨v, hv⟩ : ∃ v : Nat, el l i = (v : Int) := ⟨(el l i).toNat, by omega⟩
          have hvn : v < n := by omega
          rw [hv] at hc
          have HV := Lib.hid hv
          have e1 : decide ((v : Int) < 0) = false := decide_eq_false (by omega)
          have e2 : decide (n ≤ v) = false := decide_eq_false (by omega)
          clear HK hrg hv
          go_wp2_with fail
          go_loopw [6] (fun jv wq => ∃ j : Nat, j ≤ i ∧ jv = .int .i64 j ∧ LookIn w s h n sc l len wq) (fun jv _ => i - (intOf jv).toNat)
          case atStart => exact ⟨0, Nat.zero_le _, rfl, HHK.out⟩
          case round =>
            clear HHK c0 c1 hc
            obtain ⟨j, hj, rfl, HK⟩ := hrel
            have HHK := Lib.hid HK
            obtain ⟨c0, c1⟩ := HK.q.reads
            by_cases hji : j < i
            · have hc : wr.cell? ⟨h, j, none⟩ = some (.int .i64 (el l j)) := HK.q.hk (by omega) (Below.refl _ _)
              have hne : (el l j == (v : Int)) = false := by
                rw [beq_eq_false_iff_ne, ← HV.out]
                intro e
                have := HR.out.inj j i (by omega) hin e
                omega
              have hjl : (j : Int) < (len : Int) := by omega
              generalize el l j = x at *
              clear HK
              go_wp2_with fail
              go_roundw
              case rel => exact ⟨j + 1, by omega, by go_num, HHK.out⟩
              case measure => simp [intOf]; omega
            · by_cases h0 : i = 0
              · subst h0
                clear HK
                go_wp2_with fail
                go_roundw
                case rel => exact ⟨0 + 1, by omega, by go_num, HHK.out⟩
                case measure => simp [intOf]; omega
              · obtain ⟨m, rfl⟩ : ∃ m, i = m + 1 := ⟨i - 1, by omega⟩
                obtain ⟨p, hp⟩ : ∃ p, p = m / 2 := ⟨_, rfl⟩
                have hpd : (m : Int) / 2 = (p : Int) := by omega
                have hpl : p < len := by omega
                have hru := HR.out.rng p hpl
                rw [HLS.out] at hru
                obtain ⟨u, hu⟩ : ∃ u : Nat, el l p = (u : Int) := ⟨(el l p).toNat, by omega⟩
                have hun : u < n := by omega
                have hcp : wr.cell? ⟨h, p, none⟩ = some (.int .i64 (u : Int)) := by rw [← hu]; exact HK.q.hk (by omega) (Below.refl _ _)
                have hcu : wr.cell? ⟨s, u, none⟩ = some (.int .i64 (el sc u)) := HK.q.sk hun (Below.refl _ _)
                have hcv : wr.cell? ⟨s, v, none⟩ = some (.int .i64 (el sc v)) := HK.q.sk hvn (Below.refl _ _)
                have ha := HR.out.hp (m + 1) hin (by omega) (Nat.zero_le _)
                rw [show (m + 1 - 1) / 2 = p by omega, hu, HV.out, ahead_iff] at ha
                unfold sco at ha
                rw [Int.toNat_natCast, Int.toNat_natCast] at ha
                generalize el sc u = x at *
                generalize el sc v = y at *
                have hlt : decide (x < y) = false := decide_eq_false (by omega)
                have hm0 : (0 : Int) < (m : Int) + 1 := by omega
                have hml : (m : Int) + 1 < (len : Int) := by omega
                have HKK := Lib.hid (fun W (z : Below wr.heap.size wr W) => (⟨HK.q.kept z, HK.below.trans (z.mono HK.below.size)⟩ : LookIn w s h n sc l len W))
                clear HK hp hru hu HV
                cases he : (x == y) with
                | false =>
                  clear ha
                  go_wp2_with fail
                  go_quiet (fail)
                  go_wp2_with fail
                  go_roundw
                  case rel => exact ⟨m + 1 + 1, by omega, by go_num, HKK.out _ (below_drewN (Below.refl _ _) _)⟩
                  case measure => simp [intOf]; omega
                | true =>
                  have hgt : decide (v < u) = false := decide_eq_false (by rw [beq_iff_eq] at he; omega)
                  clear ha
                  go_wp2_with fail
                  go_quiet (fail)
                  go_wp2_with fail
                  go_roundw
                  case rel => exact ⟨m + 1 + 1, by omega, by go_num, HKK.out _ (below_drewN (Below.refl _ _) _)⟩
                  case measure => simp [intOf]; omega
        · clear HK
          go_wp2_with fail
          go_ret
          exact GivesV.mk' rfl HHK.out.below
end
end Go.Proofs.Ytkepengljbeipaa
