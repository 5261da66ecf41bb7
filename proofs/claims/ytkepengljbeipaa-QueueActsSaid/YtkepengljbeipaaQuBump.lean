/-
  Layer 17: Bump and Halve.
-/
import Derived.Test.YtkepengljbeipaaQuHeap
import Derived.Test.YtkepengljbeipaaQuIdx
set_option linter.unusedVariables false
set_option linter.unusedSimpArgs false
namespace Go.Proofs.Ytkepengljbeipaa
open Go.RowKit Qu

section
variable {w : World} {b s h n : Nat} {sc l : List Int} {len : Nat}
theorem QAt.score (q : QAt w b s h n sc l len) (v : Nat) (x : Int) : QAt (w.setCell ⟨s, v, none⟩ (.int .i64 x)) b s h n (sc.set v x) l len := by
  obtain ⟨n1, n2, n3⟩ := q.nes
  exact ⟨(heap_setCell_other _ _ _ _ n1).trans q.head, ⟨q.rows.score.set v x, (heap_setCell_other _ _ _ _ (Ne.symm n3)).trans q.rows.heap, by rw [List.length_set]; exact q.rows.ls, q.rows.ll, n3, q.rows.few⟩, q.le⟩
theorem Foot.ofH {b s h k : Nat} (e : Is h k) : Foot b s h k := Or.inr (Or.inr e)
theorem Foot.ofS {b s h : Nat} : Foot b s h s := Or.inr (Or.inl rfl)
theorem Foot.ofB {b s h k : Nat} (e : IsB b h k) : Foot b s h k := e.elim Or.inl (fun e => Or.inr (Or.inr e))
theorem Bump_out (q : QAt w b s h n sc l len) (v y : Int) (hv : v < 0 ∨ (n : Int) ≤ v) : Calls Try.prog 11 #[.pointer (some ⟨b, 0, none⟩), .int .i64 v, .int .i64 y] w (GivesV (.int .i64 2) w) := by
  obtain ⟨c0, c1⟩ := q.reads
  have hK := Lib.hid (fun W => known_no W s h n len v hv)
  unfold qV at *
  clear q hv
  go_enter Try.func11, Try.ntmps11
  go_wp2_with fail
  refine (hK.out _).mono ?_
  rintro e w1 ⟨rfl, hb⟩
  have HB := Lib.hid hb
  clear hb hK
  go_wp2_with fail
  go_ret
  exact GivesV.mk' rfl HB.out
theorem Bump_arg (q : QAt w b s h n sc l len) (v : Nat) (y : Int) (hv : v < n) (hy : y < 0) : Calls Try.prog 11 #[.pointer (some ⟨b, 0, none⟩), .int .i64 (v : Int), .int .i64 y] w (GivesV (.int .i64 1) w) := by
  obtain ⟨c0, c1⟩ := q.reads
  have hK := Lib.hid (fun W => known_yes W s h n len (v : Int) (by omega) (by omega))
  unfold qV at *
  clear q hv
  go_enter Try.func11, Try.ntmps11
  go_wp2_with fail
  refine (hK.out _).mono ?_
  rintro e w1 ⟨rfl, hb⟩
  have HB := Lib.hid hb
  clear hb hK
  go_wp2_with fail
  go_ret
  exact GivesV.mk' rfl HB.out
theorem Bump_over (q : QAt w b s h n sc l len) (v : Nat) (y : Int) (hv : v < n) (hs : 0 ≤ el sc v ∧ el sc v ≤ 1152921504606846976) (hy : 1152921504606846976 < el sc v + y) : Calls Try.prog 11 #[.pointer (some ⟨b, 0, none⟩), .int .i64 (v : Int), .int .i64 y] w (GivesV (.int .i64 6) w) := by
  obtain ⟨c0, c1⟩ := q.reads
  have HC := Lib.hid (fun W (x : Below w.heap.size w W) => q.qk x)
  have HS := Lib.hid (fun W (x : Below w.heap.size w W) => q.sk hv x)
  have hK := Lib.hid (fun W => known_yes W s h n len (v : Int) (by omega) (by omega))
  generalize el sc v = x at *
  obtain ⟨hs0, hs1⟩ := hs
  have e1 : wrap64 (1152921504606846976 - x) = 1152921504606846976 - x := IntWalk.wrap64_in _ (by omega)
  have e2 : decide (1152921504606846976 - x < y) = true := decide_eq_true (by omega)
  have e3 : decide (y < 0) = false := decide_eq_false (by omega)
  unfold qV at *
  clear q hy hs0 hs1
  go_enter Try.func11, Try.ntmps11
  go_wp2_with fail
  refine (hK.out _).mono ?_
  rintro e w1 ⟨rfl, hb⟩
  have HB := Lib.hid hb
  obtain ⟨d0, d1⟩ := HC.out _ hb
  have d2 := HS.out _ hb
  clear hb hK HC HS c0 c1
  go_wp2_with fail
  go_ret
  exact GivesV.mk' rfl HB.out
set_option maxHeartbeats 1000000 in
theorem Bump_in (q : QAt w b s h n sc l len) (R : Rng l n len) (v i : Nat) (y : Int) (hv : v < n) (hs : 0 ≤ el sc v) (hy0 : 0 ≤ y) (hy : el sc v + y ≤ 1152921504606846976) (hi : i < len) (he : el l i = (v : Int)) (hn : ∀ k, k < i → el l k ≠ (v : Int)) :
    Calls Try.prog 11 #[.pointer (some ⟨b, 0, none⟩), .int .i64 (v : Int), .int .i64 y] w (GivesQ (.int .i64 0) (Foot b s h) b s h n (bumped sc v y) (Qu.fix (bumped sc v y) l len i) len w) := by
  obtain ⟨c0, c1⟩ := q.reads
  have HC := Lib.hid (fun W (x : Below w.heap.size w W) => q.qk x)
  have HS := Lib.hid (fun W (x : Below w.heap.size w W) => q.sk hv x)
  have hK := Lib.hid (fun W => known_yes W s h n len (v : Int) (by omega) (by omega))
  have hle := q.le
  have hfew := q.rows.few
  have hbs := q.nes.1
  have HQ := Lib.hid (fun W (x : Below w.heap.size w W) => (q.kept x).score v (el sc v + y))
  have HFR := Lib.hid (fun W (x : Below w.heap.size w W) => (q.kept x).rows.score.frozen v)
  have hX := Lib.hid (fun W (k : QAt W b s h n (sc.set v (el sc v + y)) l len) => Index_yes (k.rows.cells k.le) (by have := k.rows.few; omega) (v : Int) i hi he hn n)
  have hF := Lib.hid (fun W (k : QAt W b s h n (sc.set v (el sc v + y)) l len) => fix_any k R i hi)
  have hsc : bumped sc v y = sc.set v (el sc v + y) := rfl
  rw [hsc]
  generalize sc.set v (el sc v + y) = sc' at *
  generalize el sc v = x at *
  have e1 : wrap64 (1152921504606846976 - x) = 1152921504606846976 - x := IntWalk.wrap64_in _ (by omega)
  have e2 : decide (1152921504606846976 - x < y) = false := decide_eq_false (by omega)
  have e3 : decide (y < 0) = false := decide_eq_false (by omega)
  have e4 : wrap64 (x + y) = x + y := IntWalk.wrap64_in _ (by omega)
  unfold qV ordV at *
  clear q hy0 hy hs R he hn hsc
  go_enter Try.func11, Try.ntmps11
  go_wp2_with fail
  refine (hK.out _).mono ?_
  rintro e w1 ⟨rfl, hb⟩
  have HB := Lib.hid hb
  obtain ⟨d0, d1⟩ := HC.out _ hb
  have d2 := HS.out _ hb
  have d3 := HFR.out _ hb
  have hq2 := HQ.out _ hb
  obtain ⟨f0, f1⟩ := hq2.reads
  have HQ2 := Lib.hid hq2
  clear hb hK HC HS c0 c1 HFR HQ hq2
  go_wp2_with fail
  refine (hX.out _ HQ2.out).mono ?_
  rintro e w2 ⟨rfl, rfl⟩
  clear hX
  go_wp2_with fail
  refine (hF.out _ HQ2.out).mono ?_
  rintro e w3 hg
  obtain ⟨rfl, _⟩ := id hg
  have HG := Lib.hid hg
  clear hg hF
  go_wp2_with fail
  go_ret
  exact GivesQ.to (Chg.set (.of_below HB.out) Foot.ofS v _) HG.out (fun k hk => Foot.ofH hk) rfl
set_option maxHeartbeats 1000000 in
theorem Bump_not (q : QAt w b s h n sc l len) (v : Nat) (y : Int) (hv : v < n) (hs : 0 ≤ el sc v) (hy0 : 0 ≤ y) (hy : el sc v + y ≤ 1152921504606846976) (hm : ¬ Mem l len (v : Int)) :
    Calls Try.prog 11 #[.pointer (some ⟨b, 0, none⟩), .int .i64 (v : Int), .int .i64 y] w (GivesQ (.int .i64 0) (Foot b s h) b s h n (bumped sc v y) l len w) := by
  obtain ⟨c0, c1⟩ := q.reads
  have HC := Lib.hid (fun W (x : Below w.heap.size w W) => q.qk x)
  have HS := Lib.hid (fun W (x : Below w.heap.size w W) => q.sk hv x)
  have hK := Lib.hid (fun W => known_yes W s h n len (v : Int) (by omega) (by omega))
  have hle := q.le
  have hfew := q.rows.few
  have hbs := q.nes.1
  have HQ := Lib.hid (fun W (x : Below w.heap.size w W) => (q.kept x).score v (el sc v + y))
  have HFR := Lib.hid (fun W (x : Below w.heap.size w W) => (q.kept x).rows.score.frozen v)
  have hX := Lib.hid (fun W (k : QAt W b s h n (sc.set v (el sc v + y)) l len) => Index_no (k.rows.cells k.le) (by have := k.rows.few; omega) (v : Int) hm n)
  have hsc : bumped sc v y = sc.set v (el sc v + y) := rfl
  rw [hsc]
  generalize sc.set v (el sc v + y) = sc' at *
  generalize el sc v = x at *
  have e1 : wrap64 (1152921504606846976 - x) = 1152921504606846976 - x := IntWalk.wrap64_in _ (by omega)
  have e2 : decide (1152921504606846976 - x < y) = false := decide_eq_false (by omega)
  have e3 : decide (y < 0) = false := decide_eq_false (by omega)
  have e4 : wrap64 (x + y) = x + y := IntWalk.wrap64_in _ (by omega)
  unfold qV at *
  clear q hy0 hy hs hm hsc
  go_enter Try.func11, Try.ntmps11
  go_wp2_with fail
  refine (hK.out _).mono ?_
  rintro e w1 ⟨rfl, hb⟩
  have HB := Lib.hid hb
  obtain ⟨d0, d1⟩ := HC.out _ hb
  have d2 := HS.out _ hb
  have d3 := HFR.out _ hb
  have hq2 := HQ.out _ hb
  obtain ⟨f0, f1⟩ := hq2.reads
  have HQ2 := Lib.hid hq2
  clear hb hK HC HS c0 c1 HFR HQ hq2
  go_wp2_with fail
  refine (hX.out _ HQ2.out).mono ?_
  rintro e w2 ⟨rfl, rfl⟩
  clear hX
  go_wp2_with fail
  go_ret
  exact ⟨rfl, HQ2.out, Chg.set (.of_below HB.out) Foot.ofS v _⟩
/-- Scores of which the first k have been halved. -/
def half (sc : List Int) (k : Nat) : List Int := (List.range sc.length).map fun i => if i < k then el sc i / 2 else el sc i
theorem el_half {sc : List Int} {k i : Nat} (hi : i < sc.length) : el (half sc k) i = if i < k then el sc i / 2 else el sc i := by
  unfold half
  rw [el, List.getD_eq_getElem?_getD, List.getElem?_map, List.getElem?_range hi]
  rfl
theorem half_len (sc : List Int) (k : Nat) : (half sc k).length = sc.length := by simp [half]
theorem ext_el {a c : List Int} (hl : a.length = c.length) (h : ∀ i, i < a.length → el a i = el c i) : a = c := by
  apply List.ext_getElem hl
  intro i h1 h2
  have := h i h1
  simpa [el, List.getD_eq_getElem?_getD, List.getElem?_eq_getElem h1, List.getElem?_eq_getElem h2] using this
theorem half_set {sc : List Int} {k : Nat} (hk : k < sc.length) : (half sc k).set k (el sc k / 2) = half sc (k + 1) := by
  apply ext_el
  · simp [half]
  · intro i hi
    rw [List.length_set, half_len] at hi
    rw [el_set (by rw [half_len]; exact hk), el_half hi, el_half hi]
    by_cases c : i = k
    · subst c
      simp
    · rw [if_neg c]
      by_cases c2 : i < k
      · rw [if_pos c2, if_pos (by omega)]
      · rw [if_neg c2, if_neg (by omega)]
theorem half_zero (sc : List Int) : half sc 0 = sc := by
  apply ext_el (half_len _ _)
  intro i hi
  rw [half_len] at hi
  rw [el_half hi]
  simp
theorem half_all (sc : List Int) : half sc sc.length = halved sc := by
  apply ext_el (by simp [half, halved])
  intro i hi
  rw [half_len] at hi
  rw [el_half hi, if_pos hi, el_halved]
structure HalfIn (w : World) (b s h n : Nat) (sc l : List Int) (len k : Nat) (W : World) : Prop where
  q : QAt W b s h n (half sc k) l len
  chg : Chg (Foot b s h) w W
set_option maxHeartbeats 1000000 in
theorem Halve_any (q : QAt w b s h n sc l len) (R : Rng l n len) (hs : ∀ v, v < n → 0 ≤ el sc v ∧ el sc v ≤ 1152921504606846976) :
    Calls Try.prog 13 #[.pointer (some ⟨b, 0, none⟩)] w (GivesQ (.tuple #[]) (Foot b s h) b s h n (halved sc) (Qu.init (halved sc) len (len / 2) l) len w) := by
  have hls := q.rows.ls
  have hfew := q.rows.few
  obtain ⟨c0, c1⟩ := q.reads
  have HI : Hid (HalfIn w b s h n sc l len 0 w) := Lib.hid ⟨by rw [half_zero]; exact q, .refl _ _⟩
  have HR := Lib.hid R
  have HS := Lib.hid hs
  have HLS := Lib.hid hls
  clear q R hs hls
  go_enter Try.func13, Try.ntmps13
  go_wp2_with fail
  clear c0 c1
  go_loopw [8] (fun iv wr => ∃ k : Nat, k ≤ n ∧ iv = .int .i64 k ∧ HalfIn w b s h n sc l len k wr) (fun iv _ => n - (intOf iv).toNat)
  case atStart => exact ⟨0, Nat.zero_le _, rfl, HI.out⟩
  case round =>
    obtain ⟨k, hk, rfl, HK⟩ := hrel
    have HHK := Lib.hid HK
    obtain ⟨c0, c1⟩ := HK.q.reads
    clear HI
    by_cases hkn : k < n
    · have hc : wr.cell? ⟨s, k, none⟩ = some (.int .i64 (el sc k)) := by
        have := HK.q.rows.score.cell (k := k) (by rw [half_len, HLS.out]; exact hkn)
        rw [el_half (by rw [HLS.out]; exact hkn), if_neg (by omega)] at this
        exact this
      have hf : wr.frozen? ⟨s, k, none⟩ = false := HK.q.rows.score.frozen k
      have hx := HS.out k hkn
      have HN : Hid (QAt (wr.setCell ⟨s, k, none⟩ (.int .i64 (el sc k / 2))) b s h n (half sc (k + 1)) l len) := Lib.hid (by
        have := HK.q.score k (el sc k / 2)
        rw [half_set (by rw [HLS.out]; exact hkn)] at this
        exact this)
      generalize el sc k = x at *
      obtain ⟨x0, x1⟩ := hx
      clear HK
      go_wp2_with fail
      go_roundw
      case rel => exact ⟨k + 1, by omega, by go_num, HN.out, Chg.set HHK.out.chg Foot.ofS k _⟩
      case measure => simp [intOf]; omega
    · obtain rfl : k = n := by omega
      have hq : QAt wr b s h k (halved sc) l len := by
        have := HK.q
        rw [show half sc k = halved sc by rw [← HLS.out]; exact half_all sc] at this
        exact this
      have hI := Lib.hid (init_any hq HR.out)
      unfold ordV at *
      clear HK hq
      go_wp2_with fail
      refine hI.out.mono ?_
      rintro e w3 hg
      obtain ⟨rfl, _⟩ := id hg
      have HG := Lib.hid hg
      clear hg hI
      go_wp2_with fail
      go_end0
      exact GivesQ.to HHK.out.chg HG.out (fun k hk => Foot.ofH hk) rfl
end
end Go.Proofs.Ytkepengljbeipaa
