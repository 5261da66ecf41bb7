/- By program out of: Word. -/
import Derived.Test.YtpjeecahaeaajaaGreatDoorMofdfac
import Derived.BigQuiet
import Derived.Deep.QuietTactic
set_option linter.unusedVariables false
set_option linter.unusedSimpArgs false
namespace Go.Proofs.YtpjeecahaeaajaaGreatDoor
open Go.RowKit Rep
theorem drewN_add (w : World) (a b : Nat) : (w.drewN a).drewN b = w.drewN (a + b) := by
  simp [World.drewN, Nat.add_assoc]
set_option maxRecDepth 100000 in
set_option maxHeartbeats 400000 in
theorem gcdWord_any (a b : Nat) (w : World) (ha : a < 18446744073709551616) (hb : b < 18446744073709551616) :
    Calls Tryz.prog 100 #[.int .u64 (a : Int), .int .u64 (b : Int)] w (Draws (.int .u64 (Nat.gcd a b : Nat)) w) := by
  go_enter Tryz.func100, Tryz.ntmps100
  go_wp2_with fail
  go_loopw [0, 1] (fun x y wr => ∃ x' y' n : Nat, x = .int .u64 x' ∧ y = .int .u64 y' ∧ x' < 18446744073709551616 ∧ y' < 18446744073709551616 ∧ Nat.gcd a b = Nat.gcd x' y' ∧ wr = w.drewN n) (fun _ y _ => (intOf y).toNat)
  case atStart => exact ⟨a, b, 0, rfl, rfl, ha, hb, rfl, rfl⟩
  case round =>
    obtain ⟨x, y, n, rfl, rfl, hx, hy, hg, rfl⟩ := hrel
    have HG := Lib.hid hg
    clear hg
    rcases Nat.eq_zero_or_pos y with h0 | h0
    · subst h0
      go_wp2_with fail
      go_ret
      exact ⟨by rw [HG.out, Nat.gcd_zero_right]; rfl, n, rfl⟩
    · have hne : (((y : Nat) : Int) == 0) = false := by simp; omega
      go_wp2_with fail
      go_quiet (fail)
      go_wp2_with fail
      go_roundw
      case rel => exact ⟨y, x % y, n + nq, rfl, by go_num, hy, by have := Nat.mod_lt x h0; omega, by rw [HG.out, Nat.gcd_comm x y, Nat.gcd_rec, Nat.gcd_comm], drewN_add w n nq⟩
      case measure =>
        have := Nat.mod_lt x h0
        simp only [intOf]
        omega
theorem or_word {x y : Nat} (hx : x < 4294967296) (hy : y < 4294967296) : bits BinOp.or IntKind.u64 (x : Int) ((y : Int) * 4294967296) = ((x + 4294967296 * y : Nat) : Int) := by
  obtain ⟨W, h1, h2, _⟩ := shr_step hx hy
  rw [h1, h2]
theorem or_zero_left (x : Nat) (hx : x < 4294967296) : bits BinOp.or IntKind.u64 0 (x : Int) = (x : Int) := by
  have := u64_or_nat 0 x (by omega) (by omega)
  simpa using this
set_option maxRecDepth 100000 in
set_option maxHeartbeats 400000 in
theorem word_any (ax : Option Addr) (xs : List Nat) (cx : Nat) (w : World) (hx : Lim xs) (rx : Reads w ax (xs.map u32v)) (lx : xs.length ≤ 2) :
    Calls Tryz.prog 101 #[.slice ax xs.length cx] w (Gives (.int .u64 (V xs : Nat)) w) := by
  match xs, hx, rx with
  | [], _, _ =>
    go_enter Tryz.func101, Tryz.ntmps101
    go_wp2_with fail
    go_loop [3, 8] (fun n i => i = .int .i64 0 ∧ n = .int .u64 0) (fun _ i => 1 - (intOf i).toNat)
    case atStart => exact ⟨rfl, rfl⟩
    case round =>
      obtain ⟨rfl, rfl⟩ := hrel
      go_wp2_with fail
      go_ret
      exact Gives.mk' rfl
  | [x], hx, rx =>
    obtain ⟨g, off, rfl, hg, hcell⟩ := rx.open' (by simp)
    have h0 : w.cell? ⟨g, off, none⟩ = some (.int .u32 (x : Int)) := hcell 0 (u32v x) rfl
    have hx1 : x < 4294967296 := hx.head
    have HV : Hid (V [x] = x) := by simp [V, Rep.val, Hid]
    have ho := or_zero_left x hx1
    clear hcell
    go_enter Tryz.func101, Tryz.ntmps101
    go_wp2_with fail
    go_loop [3, 8] (fun n i => (i = .int .i64 0 ∧ n = .int .u64 0) ∨ (i = .int .i64 1 ∧ n = .int .u64 (x : Int))) (fun _ i => 1 - (intOf i).toNat)
    case atStart => exact .inl ⟨rfl, rfl⟩
    case round =>
      rcases hrel with ⟨rfl, rfl⟩ | ⟨rfl, rfl⟩
      · go_wp2_with fail
        go_round
        case rel => exact .inr ⟨rfl, rfl⟩
        case measure => simp [intOf]
      · go_wp2_with fail
        go_ret
        exact Gives.mk' (by rw [HV.out]; rfl)
  | [x, y], hx, rx =>
    obtain ⟨g, off, rfl, hg, hcell⟩ := rx.open' (by simp)
    have h0 : w.cell? ⟨g, off, none⟩ = some (.int .u32 (x : Int)) := hcell 0 (u32v x) rfl
    have h1 : w.cell? ⟨g, off + 1, none⟩ = some (.int .u32 (y : Int)) := hcell 1 (u32v y) rfl
    have hx1 : x < 4294967296 := hx.head
    have hy1 : y < 4294967296 := hx.tail.head
    have HV : Hid (V [x, y] = x + 4294967296 * y) := by simp [V, Rep.val, Hid]
    have ho := or_zero_left x hx1
    have ho2 := or_word hx1 hy1
    clear hcell
    go_enter Tryz.func101, Tryz.ntmps101
    go_wp2_with fail
    go_loop [3, 8] (fun n i => (i = .int .i64 0 ∧ n = .int .u64 0) ∨ (i = .int .i64 1 ∧ n = .int .u64 (x : Int)) ∨ (i = .int .i64 2 ∧ n = .int .u64 (x + 4294967296 * y : Nat))) (fun _ i => 2 - (intOf i).toNat)
    case atStart => exact .inl ⟨rfl, rfl⟩
    case round =>
      rcases hrel with ⟨rfl, rfl⟩ | ⟨rfl, rfl⟩ | ⟨rfl, rfl⟩
      · go_wp2_with fail
        go_round
        case rel => exact .inr (.inl ⟨rfl, rfl⟩)
        case measure => simp [intOf]
      · go_wp2_with fail
        go_round
        case rel => exact .inr (.inr ⟨rfl, rfl⟩)
        case measure => simp [intOf]
      · go_wp2_with fail
        go_ret
        exact Gives.mk' (by rw [HV.out]; rfl)
  | _ :: _ :: _ :: _, _, _ => simp at lx
end Go.Proofs.YtpjeecahaeaajaaGreatDoor
