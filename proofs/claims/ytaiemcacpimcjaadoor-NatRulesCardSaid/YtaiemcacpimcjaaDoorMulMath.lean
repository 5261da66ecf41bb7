/-
  Plain mathematics of a product that is reckoned row by row.
-/
import Derived.Test.YtaiemcacpimcjaaDoorRep
set_option linter.unusedVariables false
set_option linter.unusedSimpArgs false
namespace Go.Proofs.YtaiemcacpimcjaaDoor
namespace Rep
theorem getD_lt {l : List Nat} {i : Nat} (h : i < l.length) : l.getD i 0 = l[i] := by
  rw [List.getD_eq_getElem?_getD, List.getElem?_eq_getElem h]; rfl
theorem getD_ge {l : List Nat} {i : Nat} (h : l.length ≤ i) : l.getD i 0 = 0 := by
  rw [List.getD_eq_getElem?_getD, List.getElem?_eq_none h]; rfl
theorem getD_set_self {l : List Nat} {i v : Nat} (h : i < l.length) : (l.set i v).getD i 0 = v := by
  rw [List.getD_eq_getElem?_getD, List.getElem?_set_self h]; rfl
theorem getD_set_ne {l : List Nat} {i j v : Nat} (h : i ≠ j) : (l.set i v).getD j 0 = l.getD j 0 := by
  rw [List.getD_eq_getElem?_getD, List.getD_eq_getElem?_getD, List.getElem?_set_ne h]
theorem val_set (b : Nat) : ∀ (l : List Nat) (k v : Nat), k < l.length → val b (l.set k v) + b ^ k * l.getD k 0 = val b l + b ^ k * v := by
  intro l
  induction l with
  | nil => intro k v h; simp at h
  | cons d l ih =>
    intro k v h
    cases k with
    | zero => simp [val]; omega
    | succ k =>
      have hi := ih k v (by simpa using h)
      simp only [List.set_cons_succ, val, List.getD_cons_succ, Nat.pow_succ]
      have e1 : b ^ k * b * l.getD k 0 = b * (b ^ k * l.getD k 0) := by rw [Nat.mul_comm (b ^ k) b, Nat.mul_assoc]
      have e2 : b ^ k * b * v = b * (b ^ k * v) := by rw [Nat.mul_comm (b ^ k) b, Nat.mul_assoc]
      rw [e1, e2, Nat.add_assoc, Nat.add_assoc, ← Nat.mul_add, ← Nat.mul_add, hi]
theorem val_take_succ (b : Nat) (l : List Nat) (k : Nat) (h : k < l.length) : val b (l.take (k + 1)) = val b (l.take k) + b ^ k * l.getD k 0 := by
  rw [List.take_succ_eq_append_getElem h, val_snoc, List.length_take, Nat.min_eq_left (by omega), getD_lt h]

/-- One place of one row: what stands there, and what is carried on. -/
theorem mul_step {b q c t x y VQ R E : Nat} (ht : t = c + (x * y + q)) (hE : VQ + c * E = R) : ∀ VQ', VQ' + E * q = VQ + E * (t % b) → VQ' + t / b * (E * b) = R + x * y * E := by
  intro VQ' h
  have h1 := Nat.mod_add_div t b
  have h2 : E * (t % b) + t / b * (E * b) = E * t := by
    rw [Nat.mul_comm (t / b), Nat.mul_assoc, ← Nat.mul_add, h1]
  have h3 : E * t = c * E + x * y * E + E * q := by
    rw [ht, Nat.mul_add, Nat.mul_add, Nat.mul_comm E c, Nat.mul_comm E (x * y)]; omega
  omega
theorem val_take_succ' (b : Nat) (l : List Nat) (k : Nat) : val b (l.take (k + 1)) = val b (l.take k) + b ^ k * l.getD k 0 := by
  by_cases h : k < l.length
  · exact val_take_succ b l k h
  · rw [List.take_of_length_le (by omega), List.take_of_length_le (by omega), getD_ge (by omega), Nat.mul_zero, Nat.add_zero]

end Rep
end Go.Proofs.YtaiemcacpimcjaaDoor
