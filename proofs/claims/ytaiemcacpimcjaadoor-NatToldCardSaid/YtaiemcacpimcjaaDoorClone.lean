/-
  slices.Clone of limbs.
-/
import Derived.Test.YtaiemcacpimcjaaDoorMem
set_option linter.unusedVariables false
set_option linter.unusedSimpArgs false
namespace Go.Proofs.YtaiemcacpimcjaaDoor
open Go.RowKit Rep

theorem Tryd.info48 : (Tryd.prog.info? 48).map (fun i => (i.zero, i.size, i.bytes)) = some (some (.int .u32 0), 1, 4) := by kernel_rfl

theorem one_u32 {xs : List Nat} : ∀ u ∈ xs.map u32v, u.oneCell' = true := by
  intro u hu
  obtain ⟨d, _, rfl⟩ := List.mem_map.1 hu
  rfl

set_option maxRecDepth 100000 in
set_option maxHeartbeats 400000 in
theorem clone_nil (c : Nat) (w : World) : Calls Tryd.prog 39 #[.slice none 0 c] w (GivesOwn [] w) := by
  have hnil := fun (w : World) (a : Option Addr) (n c : Nat) => Lib.run_eql_slice_nil (P := Tryd.prog) w 23 48 a n c 0 0 Tryd.underlying23
  go_enter Tryd.func39, Tryd.ntmps39
  go_wp2_with fail
  go_ret
  exact ⟨none, 0, rfl, Own.nil _ _, Below.refl _ _⟩
set_option maxRecDepth 100000 in
set_option maxHeartbeats 400000 in
theorem clone_some (p : Addr) (xs : List Nat) (c : Nat) (w : World) (hr : Reads w (some p) (xs.map u32v)) (hl : xs.length ≤ 1073741824) :
    Calls Tryd.prog 39 #[.slice (some p) xs.length c] w (GivesOwn xs w) := by
  have hnil := fun (w : World) (a : Option Addr) (n c : Nat) => Lib.run_eql_slice_nil (P := Tryd.prog) w 23 48 a n c 0 0 Tryd.underlying23
  go_enter Tryd.func39, Tryd.ntmps39
  have hrow : Row 48 (w.alloc (.cells #[] 48)) w.heap.size 0 [] := by simpa using Row.new (E := 48) w #[]
  have hr' := hr.kept ((Below.refl w.heap.size w).alloc (Nat.le_refl _) (.cells #[] 48))
  go_wp2_with (at_builtin; refine wpList_append_row _ rfl (.tmp 5) (.tmp 6) 23 rfl 48 (.int .u32 0) 4 Tryd.underlying23 Tryd.info48 rfl w.heap.size 0 0 [] rfl hrow rfl (by simp [maxLen]) (some p) xs.length c (xs.map u32v) rfl (by simp) hr' one_u32 (by unfold maxLen; omega) (by omega) ?_; intro g' cap' w' hrow' hcap hgrow hg')
  go_ret
  refine ⟨some ⟨g', 0, none⟩, cap', by simp, ⟨hcap, .inr ⟨g', rfl, hg', by simpa using hrow'⟩⟩, ?_⟩
  exact ((Below.refl _ _).alloc (Nat.le_refl _) _).grown hgrow (by simp) (fun k hk => by cases hk; exact Nat.le_refl _)
end Go.Proofs.YtaiemcacpimcjaaDoor
