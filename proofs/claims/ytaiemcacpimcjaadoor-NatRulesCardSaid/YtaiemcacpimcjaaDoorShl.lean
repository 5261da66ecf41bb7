/-
  nat.shiftLeft.
-/
import Derived.Test.YtaiemcacpimcjaaDoorTrimNum
import Derived.Test.YtaiemcacpimcjaaDoorClone
import Derived.Test.YtaiemcacpimcjaaDoorMulMath
set_option linter.unusedVariables false
set_option linter.unusedSimpArgs false
namespace Go.Proofs.YtaiemcacpimcjaaDoor
open Go.RowKit Rep

/-- Behind k places. -/
def ShlIn (w : World) (xs : List Nat) (s k : Nat) (wr : World) : Prop :=
  ∃ Q : List Nat, Row 48 wr w.heap.size (xs.length + 1) (Q.map u32v) ∧ Q.length = xs.length + 1 ∧ Lim Q ∧ V Q = V (xs.take k) * 2 ^ s ∧ Q.getD k 0 < 2 ^ s ∧ (∀ j, k < j → Q.getD j 0 = 0) ∧ Below w.heap.size w wr

theorem or_low {q a s : Nat} (hq : q < 2 ^ s) : q ||| (2 ^ s * a) = q + 2 ^ s * a := by
  rw [Nat.or_comm, ← Nat.two_pow_add_eq_or_of_lt hq, Nat.add_comm]

/-- One limb, moved up by s bits: its lower and its upper part. -/
theorem shl_step {x q s : Nat} (hx : x < 4294967296) (hs : s < 32) (hq : q < 2 ^ s) :
    ∃ W : Nat, IntKind.u64.wrap ((x : Int) * 2 ^ s) = (W : Int) ∧ W = x * 2 ^ s ∧ W ≤ 9223372036854775807 ∧ W / 4294967296 < 2 ^ s ∧ q + W % 4294967296 < 4294967296 ∧
      bits BinOp.or IntKind.u32 (q : Int) ((W : Int) % 4294967296) = ((q + W % 4294967296 : Nat) : Int) := by
  have h1 : 2 ^ s ≤ 2 ^ 31 := Nat.pow_le_pow_right (by omega) (by omega)
  have h2 : x * 2 ^ s ≤ 4294967295 * 2 ^ 31 := Nat.mul_le_mul (by omega) h1
  have hpos : 0 < 2 ^ s := Nat.two_pow_pos s
  have hB : 4294967296 = 2 ^ s * 2 ^ (32 - s) := by rw [← Nat.pow_add, show s + (32 - s) = 32 from by omega]
  have hm : x * 2 ^ s % 4294967296 = 2 ^ s * (x % 2 ^ (32 - s)) := by
    rw [hB, Nat.mul_comm x, Nat.mul_mod_mul_left]
  have hlt : q + x * 2 ^ s % 4294967296 < 4294967296 := by
    rw [hm]
    have h3 : x % 2 ^ (32 - s) < 2 ^ (32 - s) := Nat.mod_lt _ (Nat.two_pow_pos _)
    have h4 : 2 ^ s * (x % 2 ^ (32 - s) + 1) ≤ 2 ^ s * 2 ^ (32 - s) := Nat.mul_le_mul_left _ h3
    rw [← hB, Nat.mul_add, Nat.mul_one] at h4
    omega
  refine ⟨x * 2 ^ s, ?_, rfl, by omega, ?_, hlt, ?_⟩
  · have : ((x : Int) * 2 ^ s) = ((x * 2 ^ s : Nat) : Int) := by push_cast; rfl
    rw [this]
    exact IntWalk.u64_in _ (by omega)
  · rw [Nat.div_lt_iff_lt_mul (by omega)]
    rw [Nat.mul_comm x]
    exact Nat.mul_lt_mul_of_pos_left hx hpos
  · have := u32_or_nat q (x * 2 ^ s % 4294967296) (by omega) (by omega)
    rw [show ((x * 2 ^ s : Nat) : Int) % 4294967296 = ((x * 2 ^ s % 4294967296 : Nat) : Int) from by omega, this, hm, or_low hq]

theorem ShlIn.start (w : World) (xs : List Nat) (s : Nat) : ShlIn w xs s 0 (w.alloc (.cells (zrow .u32 (xs.length + 1)) 48)) :=
  ⟨List.replicate (xs.length + 1) 0, by rw [List.map_replicate]; exact Row.zrow .u32 w _, by simp, Dig.replicate _ _ _ (by omega), by
    simp only [List.take_zero, V, Rep.val, val_zeros, Nat.zero_mul], by
    rw [List.getD_eq_getElem?_getD, List.getElem?_replicate]; split <;> exact Nat.two_pow_pos s, fun j _ => by
    rw [List.getD_eq_getElem?_getD, List.getElem?_replicate]; split <;> rfl, (Below.refl _ _).alloc (Nat.le_refl _) _⟩

theorem ShlIn.step {w : World} {xs : List Nat} {s k : Nat} {ax : Option Addr} {wr : World} (h : ShlIn w xs s k wr) (hk : k < xs.length) (hx : Lim xs) (rx : Reads w ax (xs.map u32v)) (hs : s < 32) :
    ∃ x q q' : Nat, x < 4294967296 ∧ q < 2 ^ s ∧ (∃ g off, ax = some ⟨g, off, none⟩ ∧ wr.cell? ⟨g, off + k, none⟩ = some (.int .u32 x)) ∧ wr.cell? ⟨w.heap.size, k, none⟩ = some (.int .u32 q) ∧ wr.frozen? ⟨w.heap.size, k, none⟩ = false
         ∧ wr.cell? ⟨w.heap.size, k + 1, none⟩ = some (.int .u32 q') ∧ wr.frozen? ⟨w.heap.size, k + 1, none⟩ = false ∧
      ∀ W, W = x * 2 ^ s → W / 4294967296 < 2 ^ s → q + W % 4294967296 < 4294967296 → ShlIn w xs s (k + 1) ((wr.setCell ⟨w.heap.size, k, none⟩ (.int .u32 ((q + W % 4294967296 : Nat) : Int))).setCell ⟨w.heap.size, k + 1, none⟩ (.int .u32 ((W / 4294967296 : Nat) : Int))) := by
  obtain ⟨Q, h1, h2, h3, h4, h5, h6, h7⟩ := h
  obtain ⟨g, off, rfl, hg, hcell⟩ := rx.open' (by rw [List.length_map]; omega)
  refine ⟨xs.getD k 0, Q.getD k 0, Q.getD (k + 1) 0, hx.getD k (by omega), h5, ⟨g, off, rfl, (h7.cell (p := ⟨g, off + k, none⟩) hg).trans (hcell k _ (map_getElem? hk))⟩, h1.cell _ _ (map_getElem? (by omega)), h1.frozen _, h1.cell _ _ (map_getElem? (by omega)), h1.frozen _, fun W hW hW1 hW2 => ?_⟩
  have hp : 2 ^ s ≤ 2 ^ 31 := Nat.pow_le_pow_right (by omega) (by omega)
  refine ⟨(Q.set k (Q.getD k 0 + W % 4294967296)).set (k + 1) (W / 4294967296), ?_, by simpa using h2, (h3.set _ _ hW2).set _ _ (by omega), ?_, ?_, fun j hj => ?_, (h7.setCell (p := ⟨w.heap.size, k, none⟩) (Nat.le_refl _) _).setCell (p := ⟨w.heap.size, k + 1, none⟩) (Nat.le_refl _) _⟩
  · have := (h1.set k (u32v (Q.getD k 0 + W % 4294967296))).set (k + 1) (u32v (W / 4294967296))
    rwa [← List.map_set, ← List.map_set] at this
  · have e1 := val_set 4294967296 Q k (Q.getD k 0 + W % 4294967296) (by omega)
    have e2 := val_set 4294967296 (Q.set k (Q.getD k 0 + W % 4294967296)) (k + 1) (W / 4294967296) (by simp; omega)
    rw [Rep.getD_set_ne (by omega), h6 (k + 1) (by omega), Nat.mul_zero, Nat.add_zero] at e2
    unfold V at h4 ⊢
    rw [e2, val_take_succ', Nat.add_mul, ← h4, Nat.pow_succ]
    have e3 := Nat.mod_add_div W 4294967296
    have e4 : 4294967296 ^ k * (W % 4294967296) + 4294967296 ^ k * 4294967296 * (W / 4294967296) = 4294967296 ^ k * W := by rw [Nat.mul_assoc, ← Nat.mul_add, e3]
    have e5 : 4294967296 ^ k * W = 4294967296 ^ k * xs.getD k 0 * 2 ^ s := by rw [hW, Nat.mul_assoc]
    rw [Nat.mul_add] at e1
    omega
  · rw [getD_set_self (by simp; omega)]; exact hW1
  · rw [Rep.getD_set_ne (by omega), Rep.getD_set_ne (by omega)]; exact h6 j (by omega)

/-- What shiftLeft gives. -/
def GivesShl (xs : List Nat) (s : Nat) (w : World) (e : Ending) (w' : World) : Prop :=
  ∃ Q : List Nat, e = .returned (.slice (some ⟨w.heap.size, 0, none⟩) (xs.length + 1) (xs.length + 1)) ∧
      Row 48 w' w.heap.size (xs.length + 1) (Q.map u32v) ∧ Q.length = xs.length + 1 ∧ Lim Q ∧ V Q = V xs * 2 ^ s ∧ Below w.heap.size w w'

set_option maxRecDepth 100000 in
set_option maxHeartbeats 400000 in
theorem shiftLeft_any (ax : Option Addr) (xs : List Nat) (cx s : Nat) (w : World) (hx : Lim xs) (rx : Reads w ax (xs.map u32v)) (lx : xs.length ≤ 1073741824) (hs : s < 32) :
    Calls Tryd.prog 68 #[.slice ax xs.length cx, .int .i64 (s : Int)] w (GivesShl xs s w) := by
  have hmk := make_run (P := Tryd.prog) Tryd.underlying23 Tryd.info48 (↑xs.length + 1) (↑xs.length + 1) (xs.length + 1) (xs.length + 1) (by simp) (by simp) (Nat.le_refl _) (by omega) (by unfold maxLen; omega)
  have HS := Lib.hid (ShlIn.start w xs s)
  go_enter Tryd.func68, Tryd.ntmps68
  go_wp2_with fail
  clear hmk
  go_loopw [15] (fun i wr => ∃ k : Nat, k ≤ xs.length ∧ i = .int .i64 k ∧ ShlIn w xs s k wr) (fun i _ => xs.length - (intOf i).toNat)
  case atStart => exact ⟨0, by omega, rfl, HS.out⟩
  case round =>
    obtain ⟨k, hk, rfl, hin⟩ := hrel
    by_cases hlt : k < xs.length
    · obtain ⟨x, q, q', hx1, hq, ⟨g, off, rfl, hcx⟩, hcq, hfq, hcq', hfq', hnext⟩ := hin.step hlt hx rx hs
      obtain ⟨W, hw, hW, hWb, hW1, hW2, hor⟩ := shl_step hx1 hs hq
      have HN := Lib.hid (hnext W hW hW1 hW2)
      clear hin rx hnext hW
      go_wp2_with fail
      go_roundw
      case rel => exact ⟨k + 1, by omega, by go_num, HN.out⟩
      case measure => simp [intOf]; omega
    · obtain rfl : k = xs.length := by omega
      obtain ⟨Q, h1, h2, h3, h4, h5, h6, h7⟩ := hin
      rw [List.take_length] at h4
      have HV := Lib.hid h4
      have HL := Lib.hid h2
      clear h2 h4 h6 h5
      go_wp2_with fail
      go_ret
      exact ⟨Q, rfl, h1, HL.out, h3, HV.out, h7⟩
end Go.Proofs.YtaiemcacpimcjaaDoor
