/-
  Layer 6: the slot that is told isn't written: what holds between Saves, and behind a crash.
-/
import Derived.Test.YtienhidbgohhcaaSnSlots
set_option linter.unusedVariables false
set_option linter.unusedSimpArgs false
namespace Go.Proofs.Ytienhidbgohhcaa
open Go.RowKit

section
variable {R R' : List Int} {n : Nat}
theorem slot_congr {i : Nat} (hn : 1 ≤ n / 2) (hs : ∀ j, i * (n / 2) ≤ j → j < i * (n / 2) + n / 2 → Dk.sec R j = Dk.sec R' j) : slotOf R n i = slotOf R' n i := by
  have h1 : hdrOf R n i = hdrOf R' n i := hs _ (Nat.le_refl _) (by omega)
  unfold slotOf
  rw [h1]
  split
  · split
    · rename_i hz
      have h2 : dataOf R (i * (n / 2)) (hZ (hdrOf R' n i)).toNat = dataOf R' (i * (n / 2)) (hZ (hdrOf R' n i)).toNat := dataOf_congr (K := n / 2 - 1) (by omega) (fun j hj => hs _ (by omega) (by omega))
      rw [h2]
    · rfl
  · rfl
theorem slot_low {i : Nat} {c : Int} (h : LN (hdrOf R n i) < c) : slotOf R n i = Shot.no ∨ (slotOf R n i).e < c := by
  unfold slotOf
  split
  · rename_i hh
    split
    · split
      · right
        rw [LN_hdr hh] at h
        exact h
      · exact .inl rfl
    · exact .inl rfl
  · exact .inl rfl
theorem slot_nohdr {i : Nat} (h : isHdr (hdrOf R n i) = false) : slotOf R n i = Shot.no := by
  unfold slotOf
  rw [h, if_neg (by simp)]
theorem slot_whole {i e f : Nat} {bs : List Int} (h1 : 1 ≤ e) (h2 : e ≤ 4611686018427387904) (hf : f < 4294967296) (hl : bs.length ≤ 64 * (n / 2 - 1)) (hn : n ≤ 1000) (hh : Dk.sec R (i * (n / 2)) = hdrL e bs.length f (crcOf bs).toNat)
    (hd : ∀ j, j < (bs.length + 63) / 64 → Dk.sec R (i * (n / 2) + 1 + j) = part bs j) : slotOf R n i = ⟨(e : Int), (f : Int), bs, true⟩ := by
  have hc := crcOf_range bs
  have hzl : bs.length < 18446744073709551616 := by omega
  have hcl : (crcOf bs).toNat < 4294967296 := by omega
  have e1 : hdrOf R n i = hdrL e bs.length f (crcOf bs).toNat := hh
  unfold slotOf
  rw [e1, isHdr_hdr h1 h2 hzl hf hcl, if_pos rfl, hZ_hdr hzl, if_pos (by omega), Int.toNat_natCast, dataOf_parts hd, hS_hdr hcl, if_pos (by omega), hE_hdr (by omega), hF_hdr hf]
end
/-- What is told: the k-th one, in the slot p. -/
structure WInv (R : List Int) (n k : Nat) (x : List Int) (p : Nat) : Prop where
  p2 : p < 2
  p0 : k = 0 → p = 1
  me : slotOf R n p = if k = 0 then Shot.no else ⟨(k : Int), 7, x, true⟩
  other : slotOf R n (1 - p) = Shot.no ∨ (slotOf R n (1 - p)).e < (k : Int)
/-- .. and no header has a number that is too great. -/
structure SInv (R : List Int) (n k : Nat) (x : List Int) (p : Nat) : Prop where
  w : WInv R n k x p
  l1 : LN (hdrOf R n p) < (k : Int) + 1
  l2 : LN (hdrOf R n (1 - p)) < max (k : Int) 1
section
variable {R R' : List Int} {n k p : Nat} {x : List Int}
theorem WInv.cases (h : WInv R n k x p) : (p = 0 ∧ 1 ≤ k ∧ slotOf R n 0 = ⟨(k : Int), 7, x, true⟩ ∧ (slotOf R n 1 = Shot.no ∨ (slotOf R n 1).e < (k : Int))) ∨
    (p = 1 ∧ 1 ≤ k ∧ slotOf R n 1 = ⟨(k : Int), 7, x, true⟩ ∧ (slotOf R n 0 = Shot.no ∨ (slotOf R n 0).e < (k : Int))) ∨ (p = 1 ∧ k = 0 ∧ slotOf R n 0 = Shot.no ∧ slotOf R n 1 = Shot.no) := by
  obtain ⟨h1, h2, h3, h4⟩ := h
  have hp : p = 0 ∨ p = 1 := by omega
  by_cases hk : k = 0
  · obtain rfl := h2 hk
    subst hk
    right; right
    refine ⟨rfl, rfl, ?_, by simpa using h3⟩
    rcases h4 with h4 | h4
    · exact h4
    · have := (slotOf_e R n (1 - 1)).1
      omega
  · rw [if_neg hk] at h3
    rcases hp with rfl | rfl
    · exact .inl ⟨rfl, by omega, h3, h4⟩
    · exact .inr (.inl ⟨rfl, by omega, h3, h4⟩)
theorem WInv.great (h : WInv R n k x p) : max (slotOf R n 0).e (slotOf R n 1).e = (k : Int) := by
  rcases h.cases with ⟨_, hk, h1, h2⟩ | ⟨_, hk, h1, h2⟩ | ⟨_, rfl, h1, h2⟩
  · rw [h1]
    rcases h2 with h2 | h2
    · rw [h2]; simp only [Shot.no]; omega
    · dsimp only; omega
  · rw [h1]
    rcases h2 with h2 | h2
    · rw [h2]; simp only [Shot.no]; omega
    · dsimp only; omega
  · rw [h1, h2]; simp [Shot.no]
theorem WInv.new (h : WInv R n k x p) : newestOf (slotOf R n 0) (slotOf R n 1) 7 = if k = 0 then -1 else (p : Int) := by
  rcases h.cases with ⟨rfl, hk, h1, h2⟩ | ⟨rfl, hk, h1, h2⟩ | ⟨rfl, rfl, h1, h2⟩
  · rw [h1, if_neg (by omega)]
    unfold newestOf newest0
    simp only [if_true, and_self]
    rw [if_neg]
    · rfl
    · rintro ⟨a, b, c⟩
      rcases h2 with h2 | h2
      · rw [h2] at a; cases a
      · omega
  · rw [h1, if_neg (by omega)]
    unfold newestOf newest0
    rw [if_pos]
    · rfl
    · refine ⟨rfl, rfl, ?_⟩
      rcases h2 with h2 | h2
      · rw [h2]; simp [Shot.no]
      · right; exact h2
  · rw [h1, h2]
    simp [newestOf, newest0, Shot.no]
theorem WInv.place (h : WInv R n k x p) : placeOf (slotOf R n 0) (slotOf R n 1) 7 = 1 - p := by
  unfold placeOf
  rw [h.new]
  rcases h.cases with ⟨rfl, hk, _⟩ | ⟨rfl, hk, _⟩ | ⟨rfl, rfl, _⟩
  · have hk0 : ¬ k = 0 := by omega
    simp [hk0]
  · have hk0 : ¬ k = 0 := by omega
    simp [hk0]
  · simp
theorem WInv.tells (h : WInv R n k x p) : told (slotOf R n 0) (slotOf R n 1) 7 = if k = 0 then none else some ⟨(k : Int), 7, x, true⟩ := by
  unfold told
  rw [h.new]
  rcases h.cases with ⟨rfl, hk, h1, _⟩ | ⟨rfl, hk, h1, _⟩ | ⟨rfl, rfl, _⟩
  · have hk0 : ¬ k = 0 := by omega
    simp [hk0, h1]
  · have hk0 : ¬ k = 0 := by omega
    simp [hk0, h1]
  · simp
end
end Go.Proofs.Ytienhidbgohhcaa
