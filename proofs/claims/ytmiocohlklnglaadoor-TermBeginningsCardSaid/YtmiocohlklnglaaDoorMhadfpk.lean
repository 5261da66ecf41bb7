/- By program out of: DigDiv. -/
import Derived.Test.YtmiocohlklnglaaDoorMgpjold
import Derived.Test.YtmiocohlklnglaaDoorMbbaeag
/-
  The document's division of digits.
-/
set_option linter.unusedVariables false
set_option linter.unusedSimpArgs false
namespace Go.Proofs.YtmiocohlklnglaaDoor
open Go.RowKit Rep

/-- The quotient's digits from k on; below they are noughts. -/
structure DivDAt (w : World) (lx k : Nat) (Q : List Nat) (wr : World) : Prop where
  row : Row 3 wr w.heap.size lx (Q.map i64v)
  len : Q.length = lx
  dig : Dig 10 Q
  zero : ∀ j, j < k → Q.getD j 0 = 0
  below : Below w.heap.size w wr
theorem DivDAt.kept {w wr w' : World} {lx k : Nat} {Q : List Nat} (h : DivDAt w lx k Q wr) (hb : Below wr.heap.size wr w') : DivDAt w lx k Q w' :=
  ⟨h.row.kept hb, h.len, h.dig, h.zero, h.below.trans (hb.mono h.below.size)⟩
theorem DivDAt.start (w : World) (lx : Nat) : DivDAt w lx lx (List.replicate lx 0) (w.alloc (.cells (zrow .i64 lx) 3)) := by
  refine ⟨?_, by simp, Dig.replicate _ _ _ (by omega), fun j _ => ?_, (Below.refl _ _).alloc (Nat.le_refl _) _⟩
  · have := Row.zrow (E := 3) .i64 w lx
    rw [List.map_replicate]
    exact this
  · simp [List.getD_eq_getElem?_getD, List.getElem?_replicate]; split <;> rfl

/-- What is left lies in memory of its own. -/
def RestAt (w wr : World) (a : Option Addr) (c R : Nat) : Prop := DAt wr a c R ∧ (R = 0 ∨ ∀ g off, a = some ⟨g, off, none⟩ → w.heap.size + 1 ≤ g)
theorem RestAt.set {w wr : World} {a : Option Addr} {c R i : Nat} (h : RestAt w wr a c R) (u : Value) : RestAt w (wr.setCell ⟨w.heap.size, i, none⟩ u) a c R := by
  refine ⟨⟨?_, h.1.2⟩, h.2⟩
  rcases h.2 with h0 | h0
  · subst h0; exact .inl rfl
  · exact h.1.1.grown (row := some w.heap.size) ⟨rfl, rfl, rfl, by simp [World.setCell], fun k hk hne => by rw [Below.heap_setCell _ _ _ _ (by simpa using hne)]⟩ (.inr fun g off e => by have := h0 g off e; simp; omega)

/-- Between two places. -/
def DivDOut (w : World) (xs : List Nat) (M k R : Nat) (wr : World) : Prop := ∃ Q, DivDAt w xs.length k Q wr ∧ val 10 (xs.drop k) = val 10 (Q.drop k) * M + R ∧ R < M
/-- At a place: so many times it was taken off. -/
def DivDIn (w : World) (xs : List Nat) (M i t R : Nat) (wr : World) : Prop := ∃ Q, DivDAt w xs.length i Q wr ∧ Q.getD i 0 = t ∧ val 10 (xs.drop i) = val 10 (Q.drop i) * M + R ∧ t * M + R < 10 * M

theorem DivDOut.enter {w wr : World} {xs : List Nat} {M i R : Nat} (h : DivDOut w xs M (i + 1) R wr) (hi : i < xs.length) (hx : Dig 10 xs) : DivDIn w xs M i 0 (xs.getD i 0 + 10 * R) wr := by
  obtain ⟨Q, h1, h2, h3⟩ := h
  have hx1 : xs.getD i 0 < 10 := hx.getD i (by omega)
  refine ⟨Q, ⟨h1.row, h1.len, h1.dig, fun j hj => h1.zero j (by omega), h1.below⟩, h1.zero i (by omega), ?_, by omega⟩
  rw [drop_cons 10 xs i hi, drop_cons 10 Q i (by rw [h1.len]; exact hi), h1.zero i (by omega), h2, Nat.zero_add, Nat.mul_add, Nat.mul_assoc]
  omega
theorem DivDIn.step {w wr : World} {xs : List Nat} {M i t R : Nat} (h : DivDIn w xs M i t R wr) (hi : i < xs.length) (hle : M ≤ R) :
    t < 9 ∧ wr.cell? ⟨w.heap.size, i, none⟩ = some (.int .i64 (t : Int)) ∧ wr.frozen? ⟨w.heap.size, i, none⟩ = false ∧ DivDIn w xs M i (t + 1) (R - M) (wr.setCell ⟨w.heap.size, i, none⟩ (.int .i64 ((t + 1 : Nat) : Int))) := by
  obtain ⟨Q, h1, h2, h3, h4⟩ := h
  have hM : 0 < M := by
    rcases Nat.eq_zero_or_pos M with e | e
    · rw [e, Nat.mul_zero] at h4; omega
    · exact e
  have ht : t < 9 := by
    have h5 : (t + 1) * M < 10 * M := by rw [Nat.add_mul]; omega
    have := Nat.lt_of_mul_lt_mul_right h5
    omega
  have hil : i < Q.length := by rw [h1.len]; exact hi
  have hc := h1.row.cell _ _ (map_getElem? (f := i64v) hil)
  rw [h2] at hc
  refine ⟨ht, hc, h1.row.frozen _, Q.set i (t + 1), ⟨?_, by simpa using h1.len, h1.dig.set _ _ (by omega), fun j hj => ?_, h1.below.setCell (Nat.le_refl _) _⟩, getD_set_self hil, ?_, by rw [Nat.add_mul]; omega⟩
  · have := h1.row.set i (i64v (t + 1))
    rw [← List.map_set] at this
    exact this
  · rw [Rep.getD_set_ne (by omega)]; exact h1.zero j hj
  · have e1 := drop_cons 10 Q i hil
    have e2 := drop_cons 10 (Q.set i (t + 1)) i (by simpa using hil)
    have e4 : (Q.set i (t + 1)).drop (i + 1) = Q.drop (i + 1) := List.drop_set_of_lt (by omega)
    rw [getD_set_self hil, e4] at e2
    rw [h2] at e1
    have e3 : val 10 ((Q.set i (t + 1)).drop i) = val 10 (Q.drop i) + 1 := by omega
    rw [e3, Nat.add_mul, h3]
    omega
theorem DivDIn.leave {w wr : World} {xs : List Nat} {M i t R : Nat} (h : DivDIn w xs M i t R wr) (hlt : R < M) : DivDOut w xs M i R wr := by
  obtain ⟨Q, h1, h2, h3, h4⟩ := h
  exact ⟨Q, h1, h3, hlt⟩
theorem DivDIn.kept {w wr w' : World} {xs : List Nat} {M i t R : Nat} (h : DivDIn w xs M i t R wr) (hb : Below wr.heap.size wr w') : DivDIn w xs M i t R w' := by
  obtain ⟨Q, h1, h2⟩ := h
  exact ⟨Q, h1.kept hb, h2⟩
theorem DivDOut.kept {w wr w' : World} {xs : List Nat} {M i R : Nat} (h : DivDOut w xs M i R wr) (hb : Below wr.heap.size wr w') : DivDOut w xs M i R w' := by
  obtain ⟨Q, h1, h2⟩ := h
  exact ⟨Q, h1.kept hb, h2⟩
theorem DivDOut.below {w wr : World} {xs : List Nat} {M i R : Nat} (h : DivDOut w xs M i R wr) : Below w.heap.size w wr ∧ w.heap.size + 1 ≤ wr.heap.size := by
  obtain ⟨Q, h1, h2⟩ := h
  exact ⟨h1.below, h1.row.lt⟩
theorem DivDIn.below {w wr : World} {xs : List Nat} {M i t R : Nat} (h : DivDIn w xs M i t R wr) : Below w.heap.size w wr ∧ w.heap.size + 1 ≤ wr.heap.size := by
  obtain ⟨Q, h1, h2⟩ := h
  exact ⟨h1.below, h1.row.lt⟩

/-- A quotient's digits, and those of what is left. -/
def GivesDivD (q r : Nat) (w : World) (e : Ending) (w' : World) : Prop :=
  ∃ a1 c1 a2 c2, e = .returned (.tuple #[.slice a1 (D q).length c1, .slice a2 (D r).length c2]) ∧ DAt w' a1 c1 q ∧ DAt w' a2 c2 r ∧ Below w.heap.size w w'

theorem div_exact {v M q R : Nat} (h : v = q * M + R) (hlt : R < M) : q = v / M ∧ R = remN v M := by
  have hM : 0 < M := by omega
  refine ⟨?_, ?_⟩
  · rw [h, Nat.mul_comm, Nat.mul_add_div hM, Nat.div_eq_of_lt hlt, Nat.add_zero]
  · unfold remN; rw [if_neg (by omega), h, Nat.mul_comm, Nat.mul_add_mod, Nat.mod_eq_of_lt hlt]

/-- n's digits, somewhere. -/
def GivesAtD (n : Nat) (w : World) (e : Ending) (w' : World) : Prop := ∃ a c, e = .returned (.slice a (D n).length c) ∧ DAt w' a c n ∧ Below w.heap.size w w'

def GcdDIn (w : World) (G k : Nat) (a : Option Addr) (c n : Nat) (a' : Option Addr) (c' m : Nat) (wr : World) : Prop :=
  DAt wr a c n ∧ DAt wr a' c' m ∧ Nat.gcd n m = G ∧ (D n).length ≤ 536870912 ∧ (D m).length ≤ 536870912 ∧ Below w.heap.size w wr ∧ m ≤ k

end Go.Proofs.YtmiocohlklnglaaDoor

