/-
  DiskFlushed: what was flushed stands behind any crash: the walk.
-/
import Derived.Test.YtienhidbgohhcaaDkStops
import Derived.Test.YtienhidbgohhcaaDkMap
set_option linter.unusedVariables false
set_option linter.unusedSimpArgs false
namespace Go.Proofs.Ytienhidbgohhcaa
open Go.RowKit

/-! ### Sectors that weren't written stay -/
theorem Dk.aft_sec {m : Nat → Nat} {ws : List (Nat × List Int)} {p : List Int × List Int} {N i : Nat} (h1 : p.1.length = 64 * N) (h2 : p.2.length = 64 * N) (hw : ∀ x ∈ ws, x.1 < N ∧ x.2.length = 64) (hi : ∀ x ∈ ws, x.1 ≠ i) :
    ∀ k, k ≤ ws.length → Dk.sec (Dk.aft m ws p k).1 i = Dk.sec p.1 i
  | 0, _ => rfl
  | k + 1, hk => by
    have ih := Dk.aft_sec (m := m) h1 h2 hw hi k (by omega)
    have hl := Dk.aft_len (m := m) h1 h2 hw k (by omega)
    have hm : ws.getD k (0, []) ∈ ws := by rw [List.getD_eq_getElem?_getD, List.getElem?_eq_getElem (by omega)]; simp
    have hx := hw _ hm
    have hs := Dk.stepS_len (m := m k) hl.1 hl.2 hx.1 hx.2
    show Dk.sec (Dk.stepS (m k) (ws.getD k (0, [])) (Dk.aft m ws p k)).1 i = _
    rw [← ih]
    exact Dk.sec_splice_other hl.1 hx.1 (by simp; omega) (fun e => hi _ hm e.symm)
theorem Dk.crash_sec {m : Nat → Nat} {A : Dk.DV} {N i : Nat} (h : Dk.Fits N A) (hi : ∀ x ∈ A.wait, x.1 ≠ i) : Dk.sec (A.crash m).seen i = Dk.sec A.seen i :=
  Dk.aft_sec (p := (A.seen, A.last)) h.seen h.last h.wait hi A.wait.length (Nat.le_refl _)
theorem Dk.crash_twice {m : Nat → Nat} {A : Dk.DV} : ((A.crash m).crash m).seen = (A.crash m).seen := rfl

/-- A disk that is a law's own. -/
structure One (w0 w : World) (n : Nat) (d s l : Nat) (v : Value) (A : Dk.DV) : Prop where
  one : DkAt w d s l v n A
  old : ∀ j, Foot d s l v j → w0.heap.size ≤ j
  below : Below w0.heap.size w0 w
section
variable {w0 w w' : World} {n : Nat} {d s l : Nat} {v : Value} {A A' : Dk.DV}
theorem One.kept (h : One w0 w n d s l v A) (hb : Below w.heap.size w w') : One w0 w' n d s l v A := ⟨h.one.kept hb, h.old, h.below.trans (hb.mono h.below.size)⟩
theorem One.did {e : Ending} (h : One w0 w n d s l v A) (k : Did d s l v n A' w e w') : ∃ v', One w0 w' n d s l v' A' ∧ ∀ j, j < w.heap.size → ¬ Foot d s l v j → ¬ Foot d s l v' j := by
  obtain ⟨_, v', k1, k2, k3⟩ := k
  have hn : ∀ j, Foot d s l v' j → Foot d s l v j ∨ w.heap.size ≤ j := fun j hj => by
    rcases hj with hj | hj | hj | hj
    · exact .inl (.inl hj)
    · exact .inl (.inr (.inl hj))
    · exact .inl (.inr (.inr (.inl hj)))
    · exact (k3 j hj).imp (fun e => .inr (.inr (.inr e))) id
  refine ⟨v', ⟨k1, fun j hj => ?_, h.below.trans (k2.below h.old h.below.size)⟩, fun j hj h1 h2 => ?_⟩
  · rcases hn j hj with e | e
    · exact h.old j e
    · exact Nat.le_trans h.below.size e
  · rcases hn j h2 with e | e
    · exact h1 e
    · omega
theorem Did.set {e : Ending} (k : Did d s l v n A' w e w') {b : Nat} {ks : List Int} (hr : IntSet w b ks) (hn : ¬ Foot d s l v b) : IntSet w' b ks :=
  hr.past (k.2.choose_spec.2.1.block b hr.lt hn)
/-- The power doesn't go, and so many were done. -/
structure Live (A : Dk.DV) (k : Nat) : Prop where
  stop : A.stop = 9223372036854775807
  ops : A.ops ≤ k
  wait : A.wait.length ≤ k
theorem Live.dead {k : Nat} (h : Live A k) (hk : k ≤ 1000) : A.dead = false := by
  unfold Dk.DV.dead
  rw [h.stop]
  have := h.ops
  simp
  omega
theorem Live.puts {k : Nat} (h : Live A k) (i : Int) (S : List Int) : Live (A.puts n i S) (k + 1) := by
  obtain ⟨a1, a2, a3⟩ := Fits.puts (n := n) (A := A) i S
  exact ⟨a3.trans h.stop, by have := h.ops; omega, by have := h.wait; omega⟩
theorem Live.flushes {k : Nat} (h : Live A k) : Live A.flushes (k + 1) := by
  obtain ⟨a1, a2, a3⟩ := Fits.flushes (A := A)
  exact ⟨a3.trans h.stop, by have := h.ops; omega, by have := h.wait; omega⟩
/-- Behind the flush: what was written is in the set, and other sectors are as they were. -/
structure Since (R : List Int) (A : Dk.DV) (ks : List Int) : Prop where
  wait : ∀ x ∈ A.wait, (x.1 : Int) ∈ ks
  sec : ∀ i : Nat, ¬ (i : Int) ∈ ks → Dk.sec A.seen i = Dk.sec R i
theorem Since.put {k : Nat} {R : List Int} {ks : List Int} (h : Since R A ks) (hl : Live A k) (hk : k ≤ 1000) (hf : Dk.Fits n A) {i : Int} {S : List Int} (hS : S.length = 64) (hi : 0 ≤ i ∧ i < (n : Int)) : Since R (A.puts n i S) (i :: ks) := by
  unfold Dk.DV.puts Dk.DV.writes
  rw [if_pos hi, hl.dead hk, if_neg (by simp)]
  refine ⟨fun x hx => ?_, fun j hj => ?_⟩
  · rcases List.mem_append.1 hx with hx | hx
    · exact List.mem_cons_of_mem _ (h.wait x hx)
    · simp at hx
      subst hx
      have : ((i.toNat : Nat) : Int) = i := by omega
      simp [this]
  · simp only [List.mem_cons, not_or] at hj
    rw [← h.sec j hj.2]
    exact Dk.sec_splice_other (j := i.toNat) hf.seen (by omega) (by omega) (by omega)
theorem Since.not {R : List Int} {ks : List Int} (h : Since R A ks) {i : Int} {S : List Int} (hi : ¬ (0 ≤ i ∧ i < (n : Int))) : Since R (A.puts n i S) ks := by
  unfold Dk.DV.puts
  rw [if_neg hi]
  exact h
end

/-- Behind k of the first calls. -/
def FirstAt (w0 : World) (d s l k : Nat) (wr : World) : Prop := ∃ v A, One w0 wr 20 d s l v A ∧ Live A k
/-- Behind k of the later calls. -/
def LaterAt (w0 : World) (d s l g m : Nat) (R : List Int) (k : Nat) (wr : World) : Prop := ∃ v A ks, One w0 wr 20 d s l v A ∧ Live A (62 + k) ∧ Since R A ks ∧ IntSet wr m ks ∧ wr.rangeAt g 0 (bys R) ∧
  ¬ Foot d s l v g ∧ g < wr.heap.size ∧ ¬ Foot d s l v m ∧ w0.heap.size ≤ m
theorem zero_bool : ∀ w, (zeroValue 4).run Try.prog w = .ok (.bool false) w := fun w => by
  have h : (Try.prog.info? 4).map (·.zero) = some (some (.bool false)) := by kernel_rfl
  cases hq : Try.prog.info? 4 with
  | none => rw [hq] at h; cases h
  | some q =>
    rw [hq] at h
    simp at h
    simp [zeroValue, typeInfo, hq, h]

end Go.Proofs.Ytienhidbgohhcaa

