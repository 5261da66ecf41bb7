/-
  slices.Backward of limbs.
-/
import Derived.Test.YtaiemcacpimcjaaDoorRange
set_option linter.unusedVariables false
set_option linter.unusedSimpArgs false
namespace Go.Proofs.YtaiemcacpimcjaaDoor
open Go.RowKit
attribute [local go_sem] Oper.semAt_some

/-- The elements that come: from the last one on, each with its place. -/
def Down (xs : List Nat) (pre : List (Nat × Nat)) (x : Nat × Nat) : Prop := pre.length < xs.length ∧ x.1 + pre.length + 1 = xs.length ∧ x.2 = xs.getD x.1 0
def encBack (x : Nat × Nat) : Array Value := #[Value.int .i64 (x.1 : Int), Value.int .u32 (x.2 : Int)]

set_option maxRecDepth 100000 in
set_option maxHeartbeats 400000 in
theorem back_maker (a : Option Addr) (len cap : Nat) (w : World) :
    Calls Tryd.prog 49 #[.slice a len cap] w fun e w' => e = .returned (.func (.func 62) #[] #[.pointer (some ⟨w.heap.size, 0, none⟩)]) ∧ w' = w.alloc (.cells #[.slice a len cap] 23) := by
  go_enter Tryd.func49, Tryd.ntmps49
  go_wp2
  go_ret
  exact ⟨rfl, rfl⟩

set_option maxRecDepth 100000 in
set_option maxHeartbeats 2000000 in
theorem back_iter (n : Nat) (hn : 1 ≤ n) (bs cap : Nat) (a : Option Addr) (xs : List Nat) (lx : xs.length ≤ 1073741824) (I : List (Nat × Nat) → World → Prop)
    (hI : ∀ pre W, I pre W → W.cell? ⟨bs, 0, none⟩ = some (.slice a xs.length cap) ∧ ∀ i, i + pre.length + 1 = xs.length → ∃ g off, a = some ⟨g, off, none⟩ ∧ W.cell? ⟨g, off + i, none⟩ = some (.int .u32 (xs.getD i 0 : Nat))) :
    Iterates n Tryd.prog 62 #[.pointer (some ⟨bs, 0, none⟩)] encBack (Down xs) (fun pre => pre.length = xs.length) (fun _ => True) I := by
  intro l J Jx W hJI hY h0
  refine callsIn_of_wp Tryd.func62 rfl trivial ?_ rfl
  simp only [Tryd.ntmps62, List.size_toArray, List.length_cons, List.length_nil, Nat.reduceAdd, Nat.reduceSub, Array.replicate_succ, Array.replicate_zero, List.push_toArray, List.append_toArray, List.nil_append, List.cons_append]
  have hb := (hI _ _ (hJI _ _ h0)).1
  have HJ := Lib.hid hJI
  have HI := Lib.hid hI
  have HY := Lib.hid hY
  clear hJI hI hY
  gi_wp2
  gi_loopw [3] (fun i wr => ∃ (pre : List (Nat × Nat)) (k : Nat), k + pre.length = xs.length ∧ i = .int .i64 ((k : Int) - 1) ∧ J pre wr) (fun i _ => (intOf i + 1).toNat)
  case atStart => exact ⟨[], xs.length, by simp, rfl, h0⟩
  case round =>
    obtain ⟨pre, k, hk, rfl, hJ⟩ := hrel
    have HK := Lib.hid hk
    have hkl : k ≤ xs.length := by omega
    clear hk hb
    obtain ⟨hbx, hcx⟩ := HI.out _ _ (HJ.out _ _ hJ)
    cases k with
    | zero =>
      clear hcx
      rw [show ((0 : Nat) : Int) - 1 = -1 from by omega]
      gi_wp2
      go_end0
      exact ⟨⟨_, rfl⟩, .inl ⟨pre, by have := HK.out; omega, hJ⟩⟩
    | succ k =>
      have hk1 : k + pre.length + 1 = xs.length := by have := HK.out; omega
      obtain ⟨g, off, rfl, hck⟩ := hcx k hk1
      obtain ⟨fn, tmps, assign, body, hy, hR⟩ := HY.out pre (k, xs.getD k 0) wr hJ ⟨by omega, hk1, rfl⟩
      generalize xs.getD k 0 = x at hck hy hR
      simp only [encBack] at hy
      clear hcx hk1
      rw [show (((k + 1 : Nat) : Int)) - 1 = (k : Int) from by omega]
      gi_wp2
      refine hR.mono ?_
      rintro e W3 (⟨rfl, hJ3⟩ | ⟨rfl, hJx3⟩)
      · gi_wp2
        go_roundw
        case rel => exact ⟨pre ++ [(k, x)], k, by have := HK.out; simp; omega, rfl, hJ3⟩
        case measure => simp only [intOf]; omega
      · gi_wp2
        refine bodyPost_ret (results_none rfl _ _ _) rfl ?_
        exact ⟨⟨_, rfl⟩, .inr ⟨_, trivial, hJx3⟩⟩
end Go.Proofs.YtaiemcacpimcjaaDoor
