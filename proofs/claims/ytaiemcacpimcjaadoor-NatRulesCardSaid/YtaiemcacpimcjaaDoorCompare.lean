/-
  cmp.Compare of ints and of limbs.
-/
import Derived.Test.YtaiemcacpimcjaaDoorMem
set_option linter.unusedVariables false
set_option linter.unusedSimpArgs false
namespace Go.Proofs.YtaiemcacpimcjaaDoor
open Go.RowKit

def cmpI (a b : Int) : Int := if a < b then -1 else if a = b then 0 else 1

set_option maxHeartbeats 400000 in
theorem cmpInt_any (a b : Int) (w : World) : Calls Tryd.prog 48 #[.int .i64 a, .int .i64 b] w (Gives (.int .i64 (cmpI a b)) w) := by
  rcases Int.lt_trichotomy a b with h | h | h
  · have h1 : ¬ (b < a) := by omega
    go_enter Tryd.func48, Tryd.ntmps48
    go_wp2
    go_ret
    exact Gives.mk' (by unfold cmpI; rw [if_pos h]; rfl)
  · subst h
    go_enter Tryd.func48, Tryd.ntmps48
    go_wp2
    go_ret
    exact Gives.mk' (by unfold cmpI; rw [if_neg (by omega), if_pos rfl]; rfl)
  · have h1 : ¬ (a < b) := by omega
    go_enter Tryd.func48, Tryd.ntmps48
    go_wp2
    go_ret
    exact Gives.mk' (by unfold cmpI; rw [if_neg (by omega), if_neg (by omega)]; rfl)
set_option maxHeartbeats 400000 in
theorem cmpU32_any (a b : Int) (w : World) : Calls Tryd.prog 50 #[.int .u32 a, .int .u32 b] w (Gives (.int .i64 (cmpI a b)) w) := by
  rcases Int.lt_trichotomy a b with h | h | h
  · have h1 : ¬ (b < a) := by omega
    go_enter Tryd.func50, Tryd.ntmps50
    go_wp2
    go_ret
    exact Gives.mk' (by unfold cmpI; rw [if_pos h]; rfl)
  · subst h
    go_enter Tryd.func50, Tryd.ntmps50
    go_wp2
    go_ret
    exact Gives.mk' (by unfold cmpI; rw [if_neg (by omega), if_pos rfl]; rfl)
  · have h1 : ¬ (a < b) := by omega
    go_enter Tryd.func50, Tryd.ntmps50
    go_wp2
    go_ret
    exact Gives.mk' (by unfold cmpI; rw [if_neg (by omega), if_neg (by omega)]; rfl)
end Go.Proofs.YtaiemcacpimcjaaDoor
