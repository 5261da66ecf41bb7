/- By program out of: DkMath. -/
import Derived.Laws.CopyOwn
/-
  Layer 5: a disk's state, as plain lists: what is seen, what lasts, what waits; and what the calls make of it.
-/
set_option linter.unusedVariables false
set_option linter.unusedSimpArgs false
namespace Go.Proofs.YtmiocohlklnglaaDoor.Dk

/-- What is seen, what lasts, the writes that wait, how many were done, when the power goes. -/
structure DV where
  seen : List Int
  last : List Int
  wait : List (Nat × List Int)
  ops : Nat
  stop : Int

/-- Of one write m bytes last. -/
def stepS (m : Nat) (x : Nat × List Int) (p : List Int × List Int) : List Int × List Int :=
  (splice p.1 (64 * x.1) (((splice p.2 (64 * x.1) (x.2.take m)).drop (64 * x.1)).take 64), splice p.2 (64 * x.1) (x.2.take m))
/-- Behind k writes. -/
def aft (m : Nat → Nat) (ws : List (Nat × List Int)) (p : List Int × List Int) : Nat → List Int × List Int
  | 0 => p
  | k + 1 => stepS (m k) (ws.getD k (0, [])) (aft m ws p k)
/-- All that waits is settled. -/
def DV.settle (m : Nat → Nat) (A : DV) : DV :=
  { A with seen := (aft m A.wait (A.seen, A.last) A.wait.length).1, last := (aft m A.wait (A.seen, A.last) A.wait.length).2, wait := [] }
def DV.dead (A : DV) : Bool := decide (A.stop ≤ (A.ops : Int))
def DV.write (i : Nat) (S : List Int) (A : DV) : DV := { A with seen := splice A.seen (64 * i) S, wait := A.wait ++ [(i, S)], ops := A.ops + 1 }
def DV.flush (A : DV) : DV := { A.settle (fun _ => 64) with ops := A.ops + 1 }
def DV.crash (m : Nat → Nat) (A : DV) : DV := { A.settle m with stop := 9223372036854775807 }

/-- A disk's state that may be: so many sectors, and what waits has a place. -/
structure Fits (N : Nat) (A : DV) : Prop where
  seen : A.seen.length = 64 * N
  last : A.last.length = 64 * N
  wait : ∀ x ∈ A.wait, x.1 < N ∧ x.2.length = 64
  small : N ≤ 1000

theorem sec_len {R : List Int} {i N : Nat} (h : R.length = 64 * N) (hi : i < N) : ((R.drop (64 * i)).take 64).length = 64 := by
  simp; omega
theorem stepS_len {m : Nat} {x : Nat × List Int} {p : List Int × List Int} {N : Nat} (h1 : p.1.length = 64 * N) (h2 : p.2.length = 64 * N) (hx : x.1 < N) (hl : x.2.length = 64) :
    (stepS m x p).1.length = 64 * N ∧ (stepS m x p).2.length = 64 * N := by
  have e2 : (splice p.2 (64 * x.1) (x.2.take m)).length = 64 * N := by rw [length_splice _ _ _ (by simp; omega)]; exact h2
  refine ⟨?_, e2⟩
  show (splice p.1 _ _).length = _
  rw [length_splice _ _ _ (by rw [sec_len e2 hx]; omega)]
  exact h1
theorem aft_len {m : Nat → Nat} {ws : List (Nat × List Int)} {p : List Int × List Int} {N : Nat} (h1 : p.1.length = 64 * N) (h2 : p.2.length = 64 * N) (hw : ∀ x ∈ ws, x.1 < N ∧ x.2.length = 64) :
    ∀ k, k ≤ ws.length → (aft m ws p k).1.length = 64 * N ∧ (aft m ws p k).2.length = 64 * N
  | 0, _ => ⟨h1, h2⟩
  | k + 1, hk => by
    have ih := aft_len (m := m) h1 h2 hw k (by omega)
    have hx := hw (ws.getD k (0, [])) (by rw [List.getD_eq_getElem?_getD, List.getElem?_eq_getElem (by omega)]; simp)
    exact stepS_len ih.1 ih.2 hx.1 hx.2
theorem Fits.settle {N : Nat} {A : DV} (h : Fits N A) (m : Nat → Nat) : Fits N (A.settle m) := by
  have := aft_len (m := m) (p := (A.seen, A.last)) h.seen h.last h.wait A.wait.length (Nat.le_refl _)
  refine ⟨this.1, this.2, fun x hx => ?_, h.small⟩
  cases hx
theorem Fits.write {N i : Nat} {A : DV} {S : List Int} (h : Fits N A) (hi : i < N) (hS : S.length = 64) : Fits N (A.write i S) := by
  refine ⟨?_, h.last, fun x hx => ?_, h.small⟩
  · show (splice _ _ _).length = _
    rw [length_splice _ _ _ (by have := h.seen; omega)]
    exact h.seen
  · rcases List.mem_append.1 hx with hx | hx
    · exact h.wait x hx
    · simp at hx; subst hx; exact ⟨hi, hS⟩
theorem Fits.flush {N : Nat} {A : DV} (h : Fits N A) : Fits N A.flush := by
  have := h.settle fun _ => 64
  exact ⟨this.seen, this.last, this.wait, this.small⟩
theorem Fits.crash {N : Nat} {A : DV} (h : Fits N A) (m : Nat → Nat) : Fits N (A.crash m) := by
  have := h.settle m
  exact ⟨this.seen, this.last, this.wait, this.small⟩

/-- The state but for when the power goes. -/
def DV.like (A B : DV) : Prop := A.seen = B.seen ∧ A.last = B.last ∧ A.wait = B.wait ∧ A.ops = B.ops
theorem like_write {A B : DV} (h : A.like B) (i : Nat) (S : List Int) : (A.write i S).like (B.write i S) := by
  obtain ⟨h1, h2, h3, h4⟩ := h
  exact ⟨by simp [DV.write, h1], h2, by simp [DV.write, h3], by simp [DV.write, h4]⟩
theorem like_settle {A B : DV} (h : A.like B) (m : Nat → Nat) : (A.settle m).like (B.settle m) := by
  obtain ⟨h1, h2, h3, h4⟩ := h
  exact ⟨by simp [DV.settle, h1, h2, h3], by simp [DV.settle, h1, h2, h3], rfl, h4⟩
theorem like_flush {A B : DV} (h : A.like B) : A.flush.like B.flush := by
  obtain ⟨h1, h2, h3, h4⟩ := like_settle h fun _ => 64
  exact ⟨h1, h2, h3, by simp only [DV.flush]; rw [show A.ops = B.ops from h4]⟩
theorem like_crash {A B : DV} (h : A.like B) (m : Nat → Nat) : (A.crash m).like (B.crash m) := by
  obtain ⟨h1, h2, h3, h4⟩ := like_settle h m
  exact ⟨h1, h2, h3, h4⟩

/-- A sector. -/
def sec (R : List Int) (i : Nat) : List Int := (R.drop (64 * i)).take 64
theorem sec_splice_other {R : List Int} {i j N : Nat} {X : List Int} (h : R.length = 64 * N) (hj : j < N) (hX : X.length ≤ 64) (hij : i ≠ j) : sec (splice R (64 * j) X) i = sec R i := by
  unfold sec splice
  apply List.ext_getElem?
  intro k
  simp only [List.getElem?_take, List.getElem?_drop, List.getElem?_append, List.length_append, List.length_take]
  by_cases hk : k < 64
  · simp only [if_pos hk]
    rw [Nat.min_eq_left (by omega)]
    by_cases h1 : 64 * i + k < 64 * j
    · rw [if_pos (by omega), if_pos h1]
    · have h2 : 64 * j + 64 ≤ 64 * i + k := by omega
      rw [if_neg (by omega), if_neg (by omega)]
      congr 1
      omega
  · simp [hk]
end Go.Proofs.YtmiocohlklnglaaDoor.Dk

