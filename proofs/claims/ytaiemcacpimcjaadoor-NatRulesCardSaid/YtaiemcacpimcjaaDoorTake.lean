/-
  nat.takeOff.
-/
import Derived.Test.YtaiemcacpimcjaaDoorTrimNum
import Derived.Test.YtaiemcacpimcjaaDoorMulMath
set_option linter.unusedVariables false
set_option linter.unusedSimpArgs false
namespace Go.Proofs.YtaiemcacpimcjaaDoor
open Go.RowKit Rep

/-- One place of a difference, in 64 bits that wrap round. -/
theorem sub_step {x b y : Nat} (hx : x < 4294967296) (hb : b ≤ 1) (hy : y < 4294967296) :
    ∃ z1 z : Nat, IntKind.u64.wrap ((x : Int) - (b : Int)) = (z1 : Int) ∧ IntKind.u64.wrap ((z1 : Int) - (y : Int)) = (z : Int) ∧ z1 < 18446744073709551616 ∧ z < 18446744073709551616 ∧
      z % 4294967296 + b + y = x + z / 9223372036854775808 * 4294967296 ∧ z / 9223372036854775808 ≤ 1 ∧ (y = 0 → z = z1) := by
  refine ⟨(x + 18446744073709551616 - b) % 18446744073709551616, ((x + 18446744073709551616 - b) % 18446744073709551616 + 18446744073709551616 - y) % 18446744073709551616, ?_, ?_, by omega, by omega, ?_, by omega, by omega⟩
  · simp [IntKind.wrap, IntKind.bits, IntKind.signed]; omega
  · simp [IntKind.wrap, IntKind.bits, IntKind.signed]; omega
  · omega

/-- Behind k places: Q holds the difference so far. -/
def TakeIn (w : World) (g cap : Nat) (xs ys : List Nat) (k b : Nat) (wr : World) : Prop :=
  ∃ Q : List Nat, Row 48 wr g cap (Q.map u32v) ∧ Q.length = xs.length ∧ Lim Q ∧ V Q + V (ys.take k) = V xs + b * 4294967296 ^ k ∧ w.grownBy wr (some g)

theorem TakeIn.step {w : World} {g cap : Nat} {xs ys : List Nat} {k b : Nat} {wr : World} (h : TakeIn w g cap xs ys k b wr) (hk : k < xs.length) :
    ∃ x : Nat, x < 4294967296 ∧ wr.cell? ⟨g, k, none⟩ = some (.int .u32 x) ∧ wr.frozen? ⟨g, k, none⟩ = false ∧ w.grownBy wr (some g) ∧
      ∀ z b' : Nat, z < 4294967296 → z + b + ys.getD k 0 = x + b' * 4294967296 → TakeIn w g cap xs ys (k + 1) b' (wr.setCell ⟨g, k, none⟩ (.int .u32 (z : Int))) := by
  obtain ⟨Q, h1, h2, h3, h4, h5⟩ := h
  have hlen : k < Q.length := by omega
  refine ⟨Q.getD k 0, h3.getD _ (by omega), h1.cell _ _ (map_getElem? hlen), h1.frozen _, h5, fun z b' hz he => ?_⟩
  refine ⟨Q.set k z, ?_, by simpa using h2, h3.set _ _ hz, ?_, ⟨h5.os, h5.tape, h5.output, by have := h5.size; simpa [World.setCell] using this, fun j hj hne => ?_⟩⟩
  · have := h1.set k (u32v z)
    rwa [← List.map_set] at this
  · unfold V at h4 ⊢
    have hs := val_set 4294967296 Q k z hlen
    rw [val_take_succ', Nat.pow_succ]
    have h7 : 4294967296 ^ k * (z + b + ys.getD k 0) = 4294967296 ^ k * (Q.getD k 0 + b' * 4294967296) := by rw [he]
    simp only [Nat.mul_add] at h7
    have h8 : b' * (4294967296 ^ k * 4294967296) = 4294967296 ^ k * (b' * 4294967296) := by ac_rfl
    have h9 : b * 4294967296 ^ k = 4294967296 ^ k * b := Nat.mul_comm _ _
    omega
  · rw [Below.heap_setCell _ _ _ _ (by simpa using hne)]
    exact h5.block j hj hne

theorem TakeIn.done {w : World} {g cap : Nat} {xs ys : List Nat} {k : Nat} {wr : World} (h : TakeIn w g cap xs ys k 0 wr) (hk : ys.length ≤ k) :
    ∃ Q : List Nat, Row 48 wr g cap (Q.map u32v) ∧ Q.length = xs.length ∧ Lim Q ∧ V Q = V xs - V ys ∧ w.grownBy wr (some g) := by
  obtain ⟨Q, h1, h2, h3, h4, h5⟩ := h
  rw [List.take_of_length_le hk] at h4
  exact ⟨Q, h1, h2, h3, by omega, h5⟩
theorem TakeIn.end' {w : World} {g cap : Nat} {xs ys : List Nat} {b : Nat} {wr : World} (h : TakeIn w g cap xs ys xs.length b wr) (hy : ys.length ≤ xs.length) (hv : V ys ≤ V xs) (hb : b ≤ 1) : TakeIn w g cap xs ys xs.length 0 wr := by
  obtain ⟨Q, h1, h2, h3, h4, h5⟩ := h
  have hl := val_lt h3
  rw [h2] at hl
  rw [List.take_of_length_le hy] at h4
  rcases Nat.lt_or_ge 0 b with hb0 | hb0
  · obtain rfl : b = 1 := by omega
    unfold V at *
    omega
  · obtain rfl : b = 0 := by omega
    exact ⟨Q, h1, h2, h3, by rw [List.take_of_length_le hy]; exact h4, h5⟩

/-- Behind the loop: the answer is cut. -/
theorem take_end {w : World} {B g cap : Nat} {xs ys : List Nat} {k : Nat} {wr : World} (h : TakeIn w g cap xs ys k 0 wr) (hk : ys.length ≤ k) (hg : B ≤ g) (hm : cap ≤ maxLen) :
    Calls Tryd.prog 36 #[.slice (some ⟨g, 0, none⟩) xs.length cap] wr (GivesTake B (some ⟨g, 0, none⟩) (V xs - V ys) w) := by
  obtain ⟨Q, hQr, hQl, hQd, hQv, hQg⟩ := h.done hk
  refine (trim_own B _ _ cap Q hQl wr hQd ⟨hm, .inr ⟨g, rfl, hg, hQr⟩⟩).mono ?_
  rintro e w' ⟨a', c', rfl, ho, ha, rfl⟩
  rw [hQv] at ho ⊢
  exact ⟨a', c', rfl, ho, ha, hQg⟩

set_option maxRecDepth 100000 in
set_option maxHeartbeats 1000000 in
theorem takeOff_some (B g : Nat) (xs ys : List Nat) (cx cy : Nat) (ay : Option Addr) (w : World) (hx : Lim xs) (hy : Lim ys) (hg : B ≤ g) (hcx : cx ≤ maxLen) (hrow : Row 48 w g cx (xs.map u32v)) (ry : Reads w ay (ys.map u32v))
    (hne : ys.map u32v = [] ∨ ∀ g' off, ay = some ⟨g', off, none⟩ → some g' ≠ some g) (lx : xs.length ≤ 1073741824) (ly : ys.length ≤ xs.length) (hle : V ys ≤ V xs) :
    Calls Tryd.prog 38 #[.slice (some ⟨g, 0, none⟩) xs.length cx, .slice ay ys.length cy] w (GivesTake B (some ⟨g, 0, none⟩) (V xs - V ys) w) := by
  have hlc := hrow.le
  rw [List.length_map] at hlc
  have HS : TakeIn w g cx xs ys 0 0 w := ⟨xs, hrow, rfl, hx, by simp [V, Rep.val], ⟨rfl, rfl, rfl, Nat.le_refl _, fun _ _ _ => rfl⟩⟩
  clear hrow
  go_enter Tryd.func38, Tryd.ntmps38
  go_wp2_with fail
  go_loopw [5, 10] (fun bv i wr => ∃ k b : Nat, k ≤ xs.length ∧ b ≤ 1 ∧ bv = .int .u64 b ∧ i = .int .i64 k ∧ TakeIn w g cx xs ys k b wr) (fun _ i _ => xs.length - (intOf i).toNat)
  case atStart => exact ⟨0, 0, by omega, by omega, rfl, rfl, HS⟩
  case round =>
    obtain ⟨k, b, hk, hb, rfl, rfl, hin⟩ := hrel
    clear HS
    by_cases hlt : k < xs.length
    · by_cases hst : ys.length ≤ k ∧ b = 0
      · obtain ⟨hyk, rfl⟩ := hst
        have hfin := take_end hin hyk hg hcx
        clear hin
        go_wp2_with fail
        refine hfin.mono ?_
        rintro e w' hgt
        obtain ⟨a', c', rfl, hgt'⟩ := hgt
        go_wp2_with fail
        go_ret
        exact ⟨a', c', rfl, hgt'⟩
      · obtain ⟨x, hx1, hcx1, hfx, hgr, hnext⟩ := hin.step hlt
        have hY : ys.getD k 0 < 4294967296 := hy.getD k (by omega)
        have HG : Hid (k < ys.length → ys[k]? = some (ys.getD k 0)) := fun h => by rw [List.getElem?_eq_getElem h, getD_lt h]
        have HZ0 : Hid (ys.length ≤ k → ys.getD k 0 = 0) := fun h => getD_ge h
        generalize ys.getD k 0 = y at hnext hY HG HZ0
        obtain ⟨z1, z, hz1, hz, hz1b, hzb, hze, hzc, hz0⟩ := sub_step hx1 hb hY
        have HN := Lib.hid (hnext (z % 4294967296) (z / 9223372036854775808) (by omega) hze)
        have hryr := ry.grown hgr hne
        clear hnext hin hgr hze
        by_cases hyk : k < ys.length
        · obtain ⟨g2, off, rfl, hg2, hcell⟩ := hryr.open' (by rw [List.length_map]; omega)
          have hck := hcell k (u32v y) (by rw [List.getElem?_map, HG.out hyk]; rfl)
          clear hcell hz0
          unfold u32v at hck
          have hst' : decide (ys.length ≤ k) = false := decide_eq_false (by omega)
          go_wp2_with fail
          go_roundw
          case rel => exact ⟨k + 1, z / 9223372036854775808, by omega, hzc, by go_num, by go_num, HN.out⟩
          case measure => simp [intOf]; omega
        · have hst' : decide (ys.length ≤ k) = true := decide_eq_true (by omega)
          have hb1 : b = 1 := by omega
          subst hb1
          obtain rfl : z = z1 := hz0 (HZ0.out (by omega))
          clear hz hz0 hst
          rw [show ((1 : Nat) : Int) = 1 from rfl] at hz1
          go_wp2_with fail
          go_roundw
          case rel => exact ⟨k + 1, z / 9223372036854775808, by omega, hzc, by go_num, by go_num, HN.out⟩
          case measure => simp [intOf]; omega
    · obtain rfl : k = xs.length := by omega
      have hfin := take_end (hin.end' ly hle hb) ly hg hcx
      clear hin
      go_wp2_with fail
      refine hfin.mono ?_
      rintro e w' hgt
      obtain ⟨a', c', rfl, hgt'⟩ := hgt
      go_wp2_with fail
      go_ret
      exact ⟨a', c', rfl, hgt'⟩
end Go.Proofs.YtaiemcacpimcjaaDoor
