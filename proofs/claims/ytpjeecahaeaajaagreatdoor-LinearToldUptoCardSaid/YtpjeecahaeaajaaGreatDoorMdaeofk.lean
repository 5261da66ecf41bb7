/- By program out of: Range, Back. -/
import Derived.Test.YtpjeecahaeaajaaGreatDoorMofdfac
import Derived.RangeFuncNested
import Derived.RangeFuncBound
import Derived.RangeFuncCalls
import Derived.RangeFuncLeaves
import Derived.OwnWalkIn
import Derived.TacticsInMore
import Derived.LoopNIn
import Derived.LoopIn
set_option linter.unusedVariables false
set_option linter.unusedSimpArgs false
namespace Go.Proofs.YtpjeecahaeaajaaGreatDoor
open Go.RowKit
def roundEnds {α : Type} (B : Nat) (I : List α → World → Prop) (Ix : Code → List α → World → Prop) (xs : List α) (W : World) : Exit → Act → World → Prop
  | .normal, _, W' => KeepsFrom B W W' ∧ I xs W'
  | .ret, _, W' => KeepsFrom B W W' ∧ Ix .ret xs W'
  | .exit id, _, W' => KeepsFrom B W W' ∧ Ix (.exit id) xs W'
  | .goto t, _, W' => KeepsFrom B W W' ∧ Ix (.goto t) xs W'
  | .panic _, _, _ => False
  | .outgrown, _, _ => False
def Iterates {α : Type} (n : Nat) (P : Program) (gf : Nat) (lb : Array Value) (encs : α → Array Value) (T : List α → α → Prop) (S Sp : List α → Prop) (I : List α → World → Prop) : Prop :=
  ∀ (l : Nat) (J Jx : List α → World → Prop) (W : World), (∀ pre W1, J pre W1 → I pre W1) →
    (∀ pre x W1, J pre W1 → T pre x → YieldAt Fence.wide (n - 1) P l (encs x) W1 fun e W' =>
      (e = .returned (.bool true) ∧ J (pre ++ [x]) W') ∨ (e = .returned (.bool false) ∧ Jx (pre ++ [x]) W')) →
    J [] W →
    CallsIn Fence.wide n P gf (#[.func (.yield l) #[] #[]] ++ lb) W fun e W' => (∃ v, e = .returned v) ∧ ((∃ xs, S xs ∧ J xs W') ∨ (∃ pre, Sp pre ∧ Jx pre W'))
theorem own_loop {α : Type} {B l : Nat} {I : List α → World → Prop} (hI : OwnFrom B I) {s : List α} {W : World} {r : Loop} (hs : I s W) (hB : B ≤ l) (hl : W.heap[l]? = some (.loop r)) (o : Obj) : I s (W.putObj l o) :=
  hI.putObj o hs hB hl rfl
theorem range_wide {α : Type} {P : Program} {n : Nat} {g : Operand} {ps : Array Tmp} {assign body : Code} {Q : Exit → Act → World → Prop} {a : Act} {w : World} (h1 : 1 ≤ n)
    {gf : Nat} {lb : Array Value} (hg : a.eval g = .func (.func gf) #[] lb) (eg : ∀ args w, (callFunc gf args).run P w = .ok (.enter gf args) w)
    {encs : α → Array Value} (hps : ∀ x, (encs x).size = ps.size) (T : List α → α → Prop) (S Sp : List α → Prop) (I : List α → World → Prop) (Ix : Code → List α → World → Prop)
    (hiter : Iterates (n - 1) P gf lb encs T S Sp I) (hI : OwnFrom w.heap.size I) (hIx : ∀ c, OwnFrom w.heap.size (Ix c)) (h0 : I [] w) (a₁ : α → Act)
    (hassign : ∀ (l : Nat) (x : α) (W : World) (K : Act → World → Prop), K (a₁ x) W →
      assign.wpIn (Fence.wide.inRound l) (n - 1 - 1) P (Exit.then K (fun _ _ _ => False)) { tmps := (ps.zip (encs x)).foldl (fun t (p, v) => t.setIfInBounds p v) a.tmps, defers := [] } W)
    (hbody : ∀ (l : Nat) (pre : List α) (x : α) (W : World), I pre W → T pre x → body.wpIn (Fence.wide.inRound l) (n - 1 - 1) P (roundEnds w.heap.size I Ix (pre ++ [x]) W) (a₁ x) W)
    (hdone : ∀ (D : Nat) (xs : List α) (W : World), w.heap.size ≤ D → S xs → I xs W → W.heap[D]? = some (.deferred (some [])) → Q .normal { a with defers := { target := .collected D, args := #[] } :: a.defers } W)
    (hstop : ∀ (D : Nat) (c : Code) (pre : List α) (W : World), w.heap.size ≤ D → Sp pre → Ix c pre W → W.heap[D]? = some (.deferred (some [])) → c.wpIn Fence.wide n P Q { a with defers := { target := .collected D, args := #[] } :: a.defers } W) :
    (Code.rangeFunc g ps assign body).wpIn Fence.wide n P Q a w := by
  refine wpIn_rangeFunc fun fn hfn => ?_
  let rec0 : Loop := { state := .ready, pending := none, fn, tmps := a.tmps, params := ps, assign, body, defers := w.heap.size }
  have hsize : (w.alloc (.deferred (some []))).heap.size = w.heap.size + 1 := by simp
  let W1 := (w.alloc (.deferred (some []))).alloc (.loop rec0)
  have hl1 : W1.heap[w.heap.size + 1]? = some (.loop rec0) := by
    have := World.alloc_heap_new (w.alloc (.deferred (some []))) (.loop rec0)
    rwa [hsize] at this
  have hd1 : W1.heap[w.heap.size]? = some (.deferred (some [])) := (Below.heap_alloc _ _ _ (by simp)).trans (World.alloc_heap_new w _)
  have hi1 : I [] W1 := hI.alloc _ (hI.alloc _ h0)
  refine ⟨w.heap.size + 1, [{ target := .collected w.heap.size, args := #[] }], W1, { target := .fn (.func gf) lb, args := #[.func (.yield (w.heap.size + 1)) #[] #[]] }, W1, gf,
    #[.func (.yield (w.heap.size + 1)) #[] #[]] ++ lb, W1, run_enterLoop_outer _ _ _ _ _, ?_, fun _ _ => trivial, by simp [invoke, go_sem, eg], fun _ => h1, ?_⟩
  · simp only [resolve, hg]
    simp [go_sem]
  refine (hiter (w.heap.size + 1) (fun pre W => I pre W ∧ W.heap[w.heap.size + 1]? = some (.loop rec0) ∧ W.heap[w.heap.size]? = some (.deferred (some [])))
    (fun pre W => ∃ c, Ix c pre W ∧ W.heap[w.heap.size + 1]? = some (.loop { rec0 with state := .done, pending := some c }) ∧ W.heap[w.heap.size]? = some (.deferred (some []))) W1 (fun _ _ h => h.1) ?_ ⟨hi1, hl1, hd1⟩).mono ?_
  · rintro pre x W ⟨hi, hl, hd⟩ hT
    refine ⟨fn, _, assign, body, run_yield hl (hps x), roundIn_of_wpIn hfn (hassign _ x W _ ⟨_, run_beginRound hl rfl, ?_⟩)⟩
    have hlt : w.heap.size + 1 < W.heap.size := (Array.getElem?_eq_some_iff.1 hl).1
    have hl2 : (W.putObj (w.heap.size + 1) (.loop { rec0 with state := .busy })).heap[w.heap.size + 1]? = some (.loop { rec0 with state := .busy }) := World.putObj_heap_same hlt
    have hd2 : (W.putObj (w.heap.size + 1) (.loop { rec0 with state := .busy })).heap[w.heap.size]? = some (.deferred (some [])) := (World.putObj_heap_other (by omega)).trans hd
    refine wpIn_mono (hbody _ pre x _ (own_loop hI hi (by omega) hl _) hT) ?_
    have ends : ∀ (jump : Option Code) (W3 : World), KeepsFrom w.heap.size (W.putObj (w.heap.size + 1) (.loop { rec0 with state := .busy })) W3 →
        ∃ r3, W3.heap[w.heap.size + 1]? = some (.loop r3) ∧ (Instr.endRound (w.heap.size + 1) jump).run P W3 = .ok (.bool jump.isNone) (W3.putObj (w.heap.size + 1) (.loop { rec0 with state := if jump.isNone then .ready else .done, pending := jump })) ∧
          (W3.putObj (w.heap.size + 1) (.loop { rec0 with state := if jump.isNone then .ready else .done, pending := jump })).heap[w.heap.size + 1]? = some (.loop { rec0 with state := if jump.isNone then .ready else .done, pending := jump }) ∧
          (W3.putObj (w.heap.size + 1) (.loop { rec0 with state := if jump.isNone then .ready else .done, pending := jump })).heap[w.heap.size]? = some (.deferred (some [])) := fun jump W3 hk => by
      have hl3 := hk.same _ _ (by omega) hl2 rfl
      exact ⟨_, hl3, by have := run_endRound (P := P) jump hl3; exact this, World.putObj_heap_same (Array.getElem?_eq_some_iff.1 hl3).1, (World.putObj_heap_other (by omega)).trans (hk.same _ _ (Nat.le_refl _) hd2 rfl)⟩
    rintro e a3 W3 hp
    cases e with
    | normal => obtain ⟨r3, hl3, hr, hl4, hd4⟩ := ends none W3 hp.1; exact ⟨_, _, hr, .inl ⟨rfl, own_loop hI hp.2 (by omega) hl3 _, hl4, hd4⟩⟩
    | ret => obtain ⟨r3, hl3, hr, hl4, hd4⟩ := ends (some .ret) W3 hp.1; exact ⟨_, _, hr, .inr ⟨rfl, .ret, own_loop (hIx _) hp.2 (by omega) hl3 _, hl4, hd4⟩⟩
    | exit id => obtain ⟨r3, hl3, hr, hl4, hd4⟩ := ends (some (.exit id)) W3 hp.1; exact ⟨_, _, hr, .inr ⟨rfl, .exit id, own_loop (hIx _) hp.2 (by omega) hl3 _, hl4, hd4⟩⟩
    | goto t => obtain ⟨r3, hl3, hr, hl4, hd4⟩ := ends (some (.goto t)) W3 hp.1; exact ⟨_, _, hr, .inr ⟨rfl, .goto t, own_loop (hIx _) hp.2 (by omega) hl3 _, hl4, hd4⟩⟩
    | panic ch => exact hp.elim
    | outgrown => exact hp.elim
  · rintro e W2 ⟨⟨v, rfl⟩, ⟨xs, hS, hi, hl, hd⟩ | ⟨pre, hSp, c, hi, hl, hd⟩⟩
    · exact ⟨none, _, run_endLoop hl (by simp [rec0]), hdone _ xs _ (Nat.le_refl _) hS (own_loop hI hi (by omega) hl _) ((World.putObj_heap_other (by omega)).trans hd)⟩
    · exact ⟨some c, _, run_endLoop hl (by simp), hstop _ c pre _ (Nat.le_refl _) hSp (own_loop (hIx c) hi (by omega) hl _) ((World.putObj_heap_other (by omega)).trans hd)⟩
end Go.Proofs.YtpjeecahaeaajaaGreatDoor

set_option linter.unusedVariables false
set_option linter.unusedSimpArgs false
namespace Go.Proofs.YtpjeecahaeaajaaGreatDoor
open Go.RowKit
attribute [local go_sem] Oper.semAt_some
def Down (xs : List Nat) (pre : List (Nat × Nat)) (x : Nat × Nat) : Prop := pre.length < xs.length ∧ x.1 + pre.length + 1 = xs.length ∧ x.2 = xs.getD x.1 0
def encBack (x : Nat × Nat) : Array Value := #[Value.int .i64 (x.1 : Int), Value.int .u32 (x.2 : Int)]
set_option maxRecDepth 100000 in
set_option maxHeartbeats 400000 in
theorem back_maker (a : Option Addr) (len cap : Nat) (w : World) :
    Calls Tryz.prog 86 #[.slice a len cap] w fun e w' => e = .returned (.func (.func 96) #[] #[.pointer (some ⟨w.heap.size, 0, none⟩)]) ∧ w' = w.alloc (.cells #[.slice a len cap] 23) := by
  go_enter Tryz.func86, Tryz.ntmps86
  go_wp2
  go_ret
  exact ⟨rfl, rfl⟩
set_option maxRecDepth 100000 in
set_option maxHeartbeats 2000000 in
theorem back_iter (n : Nat) (hn : 1 ≤ n) (bs cap : Nat) (a : Option Addr) (xs : List Nat) (lx : xs.length ≤ 1073741824) (I : List (Nat × Nat) → World → Prop)
    (hI : ∀ pre W, I pre W → W.cell? ⟨bs, 0, none⟩ = some (.slice a xs.length cap) ∧ ∀ i, i + pre.length + 1 = xs.length → ∃ g off, a = some ⟨g, off, none⟩ ∧ W.cell? ⟨g, off + i, none⟩ = some (.int .u32 (xs.getD i 0 : Nat))) :
    Iterates n Tryz.prog 96 #[.pointer (some ⟨bs, 0, none⟩)] encBack (Down xs) (fun pre => pre.length = xs.length) (fun _ => True) I := by
  intro l J Jx W hJI hY h0
  refine callsIn_of_wp Tryz.func96 rfl trivial ?_ rfl
  simp only [Tryz.ntmps96, List.size_toArray, List.length_cons, List.length_nil, Nat.reduceAdd, Nat.reduceSub, Array.replicate_succ, Array.replicate_zero, List.push_toArray, List.append_toArray, List.nil_append, List.cons_append]
  have hb := (hI _ _ (hJI _ _ h0)).1
  have HJ := Lib.hid hJI
  have HI := Lib.hid hI
  have HY := Lib.hid hY
  clear hJI hI hY
  gi_wp2
  gi_loopw [3] (fun i wr => ∃ (pre : List (Nat × Nat)) (k : Nat), k + pre.length = xs.length ∧ i = .int .i64 ((k : Int) - 1) ∧ J pre wr) (fun i _ => (intOf i + 1).toNat)
  case atStart => exact ⟨[], xs.length, by simp, rfl, h0⟩
  case round =>
    obtain ⟨pre, k, hk, rfl, hJ⟩ := hrel
    have HK := Lib.hid hk
    have hkl : k ≤ xs.length := by omega
    clear hk hb
    obtain ⟨hbx, hcx⟩ := HI.out _ _ (HJ.out _ _ hJ)
    cases k with
    | zero =>
      clear hcx
      rw [show ((0 : Nat) : Int) - 1 = -1 from by omega]
      gi_wp2
      go_end0
      exact ⟨⟨_, rfl⟩, .inl ⟨pre, by have := HK.out; omega, hJ⟩⟩
    | succ k =>
      have hk1 : k + pre.length + 1 = xs.length := by have := HK.out; omega
      obtain ⟨g, off, rfl, hck⟩ := hcx k hk1
      obtain ⟨fn, tmps, assign, body, hy, hR⟩ := HY.out pre (k, xs.getD k 0) wr hJ ⟨by omega, hk1, rfl⟩
      generalize xs.getD k 0 = x at hck hy hR
      simp only [encBack] at hy
      clear hcx hk1
      rw [show (((k + 1 : Nat) : Int)) - 1 = (k : Int) from by omega]
      gi_wp2
      refine hR.mono ?_
      rintro e W3 (⟨rfl, hJ3⟩ | ⟨rfl, hJx3⟩)
      · gi_wp2
        go_roundw
        case rel => exact ⟨pre ++ [(k, x)], k, by have := HK.out; simp; omega, rfl, hJ3⟩
        case measure => simp only [intOf]; omega
      · gi_wp2
        refine bodyPost_ret (results_none rfl _ _ _) rfl ?_
        exact ⟨⟨_, rfl⟩, .inr ⟨_, trivial, hJx3⟩⟩
end Go.Proofs.YtpjeecahaeaajaaGreatDoor
