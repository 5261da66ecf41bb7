/-
  nat.trim: limbs without the noughts at their end, in the same memory.
-/
import Derived.Test.YtaiemcacpimcjaaDoorMem
set_option linter.unusedVariables false
set_option linter.unusedSimpArgs false
namespace Go.Proofs.YtaiemcacpimcjaaDoor
open Go.RowKit Rep

/-- What trim gives. -/
def trimV (a : Option Addr) (xs : List Nat) (c : Nat) : Value := if cutAt xs xs.length = 0 then .slice none 0 0 else .slice a (cutAt xs xs.length) c

set_option maxHeartbeats 400000 in
theorem trim_any (a : Option Addr) (xs : List Nat) (c : Nat) (w : World) (hr : Reads w a (xs.map u32v)) (hc : xs.length ≤ c) (hm : c ≤ maxLen) :
    Calls Tryd.prog 36 #[.slice a xs.length c] w (Gives (trimV a xs c) w) := by
  unfold maxLen at hm
  go_enter Tryd.func36, Tryd.ntmps36
  go_wp2
  go_loop [3] (fun i => ∃ k : Nat, k ≤ xs.length ∧ i = .int .i64 k ∧ cutAt xs xs.length = cutAt xs k) (fun i => (intOf i).toNat)
  case atStart => exact ⟨xs.length, Nat.le_refl _, rfl, rfl⟩
  case round =>
    obtain ⟨k, hk, rfl, he⟩ := hrel
    have HE := Lib.hid he
    clear he
    cases k with
    | zero =>
      go_wp2
      go_ret
      exact Gives.mk' (by unfold trimV; rw [HE.out]; rfl)
    | succ k =>
      obtain ⟨g, off, rfl, hg, hcell⟩ := hr.open' (by rw [List.length_map]; omega)
      have hck := hcell k _ (map_getElem? (by omega))
      clear hcell
      unfold u32v at hck
      have HC : Hid (cutAt xs (k + 1) = if xs.getD k 0 = 0 then cutAt xs k else k + 1) := rfl
      generalize xs.getD k 0 = d at hck HC
      by_cases h0 : d = 0
      · subst h0
        go_wp2
        go_round
        case rel => exact ⟨k, by omega, by go_num, by rw [HE.out, HC.out, if_pos rfl]⟩
        case measure => simp [intOf]
      · have hb : (((d : Nat) : Int) == 0) = false := by simp; omega
        go_wp2
        go_ret
        exact Gives.mk' (by unfold trimV; rw [HE.out, HC.out, if_neg h0, if_neg (by omega)]; go_num)
end Go.Proofs.YtaiemcacpimcjaaDoor
