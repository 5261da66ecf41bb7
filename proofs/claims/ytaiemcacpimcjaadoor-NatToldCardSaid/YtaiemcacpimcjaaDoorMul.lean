/-
  nat.multiply.
-/
import Derived.Test.YtaiemcacpimcjaaDoorTrimNum
import Derived.Test.YtaiemcacpimcjaaDoorClone
import Derived.Test.YtaiemcacpimcjaaDoorMulMath
set_option linter.unusedVariables false
set_option linter.unusedSimpArgs false
namespace Go.Proofs.YtaiemcacpimcjaaDoor
open Go.RowKit Rep


/-- Behind k rows of the product. -/
def MulOut (w : World) (xs ys : List Nat) (k : Nat) (wr : World) : Prop :=
  ∃ Q : List Nat, Row 48 wr w.heap.size (xs.length + ys.length) (Q.map u32v) ∧ Q.length = xs.length + ys.length ∧ Lim Q ∧
    V Q = V (xs.take k) * V ys ∧ (∀ j, k + ys.length ≤ j → Q.getD j 0 = 0) ∧ Below w.heap.size w wr
/-- Behind j places of a row. -/
def MulIn (w : World) (xs ys : List Nat) (k j c : Nat) (wr : World) : Prop :=
  ∃ Q : List Nat, Row 48 wr w.heap.size (xs.length + ys.length) (Q.map u32v) ∧ Q.length = xs.length + ys.length ∧ Lim Q ∧
    V Q + c * 4294967296 ^ (k + j) = V (xs.take k) * V ys + xs.getD k 0 * 4294967296 ^ k * V (ys.take j) ∧ (∀ j, k + ys.length ≤ j → Q.getD j 0 = 0) ∧ Below w.heap.size w wr

theorem MulOut.start (w : World) (xs ys : List Nat) : MulOut w xs ys 0 (w.alloc (.cells (zrow .u32 (xs.length + ys.length)) 48)) :=
  ⟨List.replicate (xs.length + ys.length) 0, by rw [List.map_replicate]; exact Row.zrow .u32 w _, by simp, Dig.replicate _ _ _ (by omega), by
    simp only [List.take_zero, V, Rep.val, val_zeros, Nat.zero_mul], fun j _ => by
    rw [List.getD_eq_getElem?_getD, List.getElem?_replicate]; split <;> rfl, (Below.refl _ _).alloc (Nat.le_refl _) _⟩
theorem MulOut.start' {w : World} {xs ys : List Nat} {k : Nat} {wr : World} (h : MulOut w xs ys k wr) : MulIn w xs ys k 0 0 wr := by
  obtain ⟨Q, h1, h2, h3, h4, h5, h6⟩ := h
  exact ⟨Q, h1, h2, h3, by rw [h4]; simp [V, Rep.val], h5, h6⟩
theorem MulIn.step {w : World} {xs ys : List Nat} {k j c g2 off2 x : Nat} {wr : World} (h : MulIn w xs ys k j c wr) (hk : k < xs.length) (hj : j < ys.length) (hy : Lim ys) (hg2 : g2 < w.heap.size)
    (hck : w.cell? ⟨g2, off2 + j, none⟩ = some (u32v (ys.getD j 0))) (hx : x = xs.getD k 0) (hx1 : x < 4294967296) :
    ∃ y q : Nat, y = ys.getD j 0 ∧ y < 4294967296 ∧ q < 4294967296 ∧ wr.cell? ⟨g2, off2 + j, none⟩ = some (.int .u32 y) ∧ wr.cell? ⟨w.heap.size, k + j, none⟩ = some (.int .u32 q) ∧ wr.frozen? ⟨w.heap.size, k + j, none⟩ = false ∧
      ∀ t : Nat, t = c + (x * y + q) → MulIn w xs ys k (j + 1) (t / 4294967296) (wr.setCell ⟨w.heap.size, k + j, none⟩ (.int .u32 ((t % 4294967296 : Nat) : Int))) := by
  obtain ⟨Q, h1, h2, h3, h4, h5, h6⟩ := h
  have hy1 : ys.getD j 0 < 4294967296 := hy.getD j (by omega)
  have hlen : k + j < Q.length := by omega
  refine ⟨ys.getD j 0, Q.getD (k + j) 0, rfl, hy1, h3.getD _ (by omega), (h6.cell (p := ⟨g2, off2 + j, none⟩) hg2).trans hck, h1.cell _ _ (map_getElem? hlen), h1.frozen _, fun t ht => ?_⟩
  refine ⟨Q.set (k + j) (t % 4294967296), ?_, by simpa using h2, h3.set _ _ (Nat.mod_lt _ (by omega)), ?_, fun i hi => ?_, h6.setCell (p := ⟨w.heap.size, k + j, none⟩) (Nat.le_refl _) _⟩
  · have := h1.set (k + j) (u32v (t % 4294967296))
    rwa [← List.map_set] at this
  · rw [← hx] at h4 ⊢
    have hs := val_set 4294967296 Q (k + j) (t % 4294967296) hlen
    have hm := mul_step ht h4 _ hs
    unfold V at hm ⊢
    rw [show k + (j + 1) = k + j + 1 from rfl, Nat.pow_succ, hm, val_take_succ _ _ _ hj, Nat.mul_add, Nat.add_assoc]
    congr 2
    rw [Nat.pow_add]
    ac_rfl
  · rw [Rep.getD_set_ne (by omega)]
    exact h5 i hi
theorem MulIn.done {w : World} {xs ys : List Nat} {k c : Nat} {wr : World} (h : MulIn w xs ys k ys.length c wr) (hk : k < xs.length) (hc : c < 4294967296) :
    (∃ q : Nat, wr.cell? ⟨w.heap.size, k + ys.length, none⟩ = some (.int .u32 q)) ∧ wr.frozen? ⟨w.heap.size, k + ys.length, none⟩ = false ∧
      MulOut w xs ys (k + 1) (wr.setCell ⟨w.heap.size, k + ys.length, none⟩ (.int .u32 (c : Int))) := by
  obtain ⟨Q, h1, h2, h3, h4, h5, h6⟩ := h
  have hlen : k + ys.length < Q.length := by omega
  refine ⟨⟨_, h1.cell _ _ (map_getElem? hlen)⟩, h1.frozen _, Q.set (k + ys.length) c, ?_, by simpa using h2, h3.set _ _ hc, ?_, fun i hi => ?_, h6.setCell (p := ⟨w.heap.size, k + ys.length, none⟩) (Nat.le_refl _) _⟩
  · have := h1.set (k + ys.length) (u32v c)
    rwa [← List.map_set] at this
  · have hs := val_set 4294967296 Q (k + ys.length) c hlen
    rw [h5 _ (Nat.le_refl _), Nat.mul_zero, Nat.add_zero] at hs
    unfold V at h4 ⊢
    rw [hs, Nat.mul_comm, h4, List.take_length, val_take_succ _ _ _ hk, Nat.add_mul, Nat.mul_comm (xs.getD k 0)]
  · rw [Rep.getD_set_ne (by omega)]
    exact h5 i (by omega)
theorem MulOut.done {w : World} {xs ys : List Nat} {wr : World} (h : MulOut w xs ys xs.length wr) :
    ∃ Q : List Nat, Q.length = xs.length + ys.length ∧ Lim Q ∧ V Q = V xs * V ys ∧ Reads wr (some ⟨w.heap.size, 0, none⟩) (Q.map u32v) ∧ Below w.heap.size w wr := by
  obtain ⟨Q, h1, h2, h3, h4, h5, h6⟩ := h
  exact ⟨Q, h2, h3, by rw [h4, List.take_length], h1.reads0, h6⟩

set_option maxHeartbeats 400000 in
theorem multiply_any (ax ay : Option Addr) (xs ys : List Nat) (cx cy : Nat) (w : World) (hx : Lim xs) (hy : Lim ys) (rx : Reads w ax (xs.map u32v)) (ry : Reads w ay (ys.map u32v))
    (lx : xs.length ≤ 1073741824) (ly : ys.length ≤ 1073741824) :
    Calls Tryd.prog 40 #[.slice ax xs.length cx, .slice ay ys.length cy] w (GivesNew (V xs * V ys) w) := by
  have hmk := make_run (P := Tryd.prog) Tryd.underlying23 Tryd.info48 (↑xs.length + ↑ys.length) (↑xs.length + ↑ys.length) (xs.length + ys.length) (xs.length + ys.length) (by simp) (by simp) (Nat.le_refl _) (by omega) (by unfold maxLen; omega)
  have HS := Lib.hid (MulOut.start w xs ys)
  go_enter Tryd.func40, Tryd.ntmps40
  go_wp2
  clear hmk
  go_loopw [20] (fun i wr => ∃ k : Nat, k ≤ xs.length ∧ i = .int .i64 k ∧ MulOut w xs ys k wr) (fun i _ => xs.length - (intOf i).toNat)
  case atStart => exact ⟨0, Nat.zero_le _, rfl, HS.out⟩
  case round =>
    obtain ⟨k, hk, rfl, hout⟩ := hrel
    by_cases hlt : k < xs.length
    · have hB0 : Below w.heap.size w wr := by obtain ⟨Q, hrow, hQl, hQd, hQv, hQz, hB⟩ := hout; exact hB
      obtain ⟨g, off, rfl, hg, hcell⟩ := rx.open' (by rw [List.length_map]; omega)
      have hck := hcell k _ (map_getElem? (by omega))
      have hck' := (hB0.cell (p := ⟨g, off + k, none⟩) hg).trans hck
      clear hcell hck hB0
      unfold u32v at hck'
      have hxk : xs.getD k 0 < 4294967296 := hx.getD k (by omega)
      have HI : MulIn w xs ys k 0 0 wr := hout.start'
      clear hout
      have HX : ∃ x, x = xs.getD k 0 := ⟨_, rfl⟩
      obtain ⟨x, hxe⟩ := HX
      rw [← hxe] at hck' hxk
      have HX := Lib.hid hxe
      clear hxe
      go_wp2
      clear hck' rx
      obtain ⟨wo, rfl⟩ : ∃ wo : World, wo = wr := ⟨_, rfl⟩
      go_loopw [9, 35] (fun cv jv wr => ∃ j c : Nat, j ≤ ys.length ∧ c < 4294967296 ∧ cv = .int .u64 c ∧ jv = .int .i64 j ∧ MulIn w xs ys k j c wr) (fun _ jv _ => ys.length - (intOf jv).toNat)
      case atStart => exact ⟨0, 0, Nat.zero_le _, by omega, rfl, rfl, HI⟩
      case round =>
        obtain ⟨j, c, hj, hc, rfl, rfl, hin⟩ := hrel
        by_cases hjl : j < ys.length
        · obtain ⟨g2, off2, rfl, hg2, hcell⟩ := ry.open' (by rw [List.length_map]; omega)
          have hck := hcell j _ (map_getElem? (by omega))
          clear hcell
          obtain ⟨y, q, hye, hy1, hq1, hcy, hcq, hfq, hnext⟩ := hin.step hlt hjl hy hg2 hck HX.out hxk
          have hxy : x * y ≤ 4294967295 * 4294967295 := Nat.mul_le_mul (by omega) (by omega)
          have hxy0 : (0 : Int) ≤ (x : Int) * (y : Int) := by rw [← Int.natCast_mul]; omega
          have hxy1 : (x : Int) * (y : Int) ≤ 18446744065119617025 := by rw [← Int.natCast_mul]; omega
          have HN := Lib.hid hnext
          clear hnext hck hye hxy hin
          go_wp2
          go_roundw
          case rel => exact ⟨j + 1, (c + (x * y + q)) / 4294967296, by omega, by omega, by go_num, by go_num, HN.out _ rfl⟩
          case measure => simp [intOf]; omega
        · obtain rfl : j = ys.length := by omega
          obtain ⟨⟨q, hcq⟩, hfq, hdone⟩ := hin.done hlt hc
          have HD := Lib.hid hdone
          clear hdone hin
          go_wp2
          go_roundw
          case rel => exact ⟨k + 1, by omega, by go_num, HD.out⟩
          case measure => simp [intOf]; omega
    · obtain rfl : k = xs.length := by omega
      obtain ⟨Q, hQl, hQd, hQv, hQr, hB⟩ := hout.done
      have HQ := Lib.hid hQl
      have HV := Lib.hid hQv
      clear hQl hQv
      go_wp2_with fail
      refine (trim_at _ _ _ Q HQ.out _ hQd hQr (Nat.le_refl _) (by unfold maxLen; omega)).mono ?_
      rintro e w' ⟨a, c, rfl, hat, rfl⟩
      rw [HV.out] at hat ⊢
      clear hQd hQr hout
      go_wp2_with fail
      go_ret
      exact ⟨a, c, rfl, hat, hB⟩
end Go.Proofs.YtaiemcacpimcjaaDoor
