/-
  Layer 6: what a Save leaves, sector by sector, wherever the power goes.
-/
import Derived.Test.YtienhidbgohhcaaSnSave
import Derived.Test.YtienhidbgohhcaaDkFlush
set_option linter.unusedVariables false
set_option linter.unusedSimpArgs false
namespace Go.Proofs.Ytienhidbgohhcaa
open Go.RowKit

/-! ### Sectors -/
theorem sec_get {R : List Int} {i j : Nat} (h : j < 64) : (Dk.sec R i)[j]? = R[64 * i + j]? := by
  simp [Dk.sec, List.getElem?_take, h]
theorem sec_splice_part {R X : List Int} {i N : Nat} (h : R.length = 64 * N) (hi : i < N) (hX : X.length ≤ 64) : Dk.sec (splice R (64 * i) X) i = X ++ (Dk.sec R i).drop X.length := by
  unfold Dk.sec splice
  have h1 : (R.take (64 * i)).length = 64 * i := by simp; omega
  rw [List.drop_append, List.drop_eq_nil_of_le (by omega), List.nil_append, h1, Nat.sub_self, List.drop_zero, List.take_append, List.take_of_length_le hX, List.drop_take, List.drop_drop]
theorem sec_splice_same {R X : List Int} {i N : Nat} (h : R.length = 64 * N) (hi : i < N) (hX : X.length = 64) : Dk.sec (splice R (64 * i) X) i = X := by
  rw [sec_splice_part h hi (by omega), List.drop_eq_nil_of_le (by have : (Dk.sec R i).length = 64 := Dk.sec_len h hi; omega), List.append_nil]
theorem len_splice {R X : List Int} {i N : Nat} (h : R.length = 64 * N) (hi : i < N) (hX : X.length ≤ 64) : (splice R (64 * i) X).length = 64 * N := by
  rw [length_splice _ _ _ (by omega)]; exact h
theorem splice_sec {R : List Int} {i N : Nat} (h : R.length = 64 * N) (hi : i < N) : splice R (64 * i) (Dk.sec R i) = R := by
  have hl : (Dk.sec R i).length = 64 := Dk.sec_len h hi
  unfold splice
  rw [hl]
  unfold Dk.sec
  rw [← List.drop_drop, List.take_append_drop, List.take_append_drop]
/-- Rows of like sectors are alike. -/
theorem eq_of_secs {R R' : List Int} {N : Nat} (h : R.length = 64 * N) (h' : R'.length = 64 * N) (hs : ∀ i, i < N → Dk.sec R i = Dk.sec R' i) : R = R' := by
  apply List.ext_getElem?
  intro t
  by_cases ht : t < 64 * N
  · have h1 := sec_get (R := R) (i := t / 64) (j := t % 64) (Nat.mod_lt _ (by omega))
    have h2 := sec_get (R := R') (i := t / 64) (j := t % 64) (Nat.mod_lt _ (by omega))
    rw [Nat.div_add_mod] at h1 h2
    rw [← h1, ← h2, hs _ (by omega)]
  · rw [List.getElem?_eq_none (by omega), List.getElem?_eq_none (by omega)]
theorem dataOf_get {R : List Int} {at' size t : Nat} (h : t < size) : (dataOf R at' size)[t]? = (Dk.sec R (at' + 1 + t / 64))[t % 64]? := by
  rw [sec_get (Nat.mod_lt _ (by omega))]
  unfold dataOf
  rw [List.getElem?_take, if_pos h, List.getElem?_drop]
  congr 1
  omega
theorem dataOf_congr {R R' : List Int} {at' size K : Nat} (hK : size ≤ 64 * K) (hs : ∀ i, i < K → Dk.sec R (at' + 1 + i) = Dk.sec R' (at' + 1 + i)) : dataOf R at' size = dataOf R' at' size := by
  apply List.ext_getElem?
  intro t
  by_cases ht : t < size
  · rw [dataOf_get ht, dataOf_get ht, hs _ (by omega)]
  · have e : ∀ R : List Int, (dataOf R at' size)[t]? = none := fun R => by
      unfold dataOf
      rw [List.getElem?_take, if_neg ht]
    rw [e, e]
theorem part_get {bs : List Int} {k j : Nat} (h : 64 * k + j < bs.length) (hj : j < 64) : (part bs k)[j]? = bs[64 * k + j]? := by
  unfold part splice
  have hl : j < ((bs.drop (64 * k)).take 64).length := by simp; omega
  rw [List.take_zero, List.nil_append, List.getElem?_append_left hl, List.getElem?_take, if_pos hj, List.getElem?_drop]
theorem dataOf_parts {R bs : List Int} {at' : Nat} (hs : ∀ i, i < (bs.length + 63) / 64 → Dk.sec R (at' + 1 + i) = part bs i) : dataOf R at' bs.length = bs := by
  apply List.ext_getElem?
  intro t
  by_cases ht : t < bs.length
  · rw [dataOf_get ht, hs _ (by omega), part_get (by rw [Nat.div_add_mod]; exact ht) (Nat.mod_lt _ (by omega)), Nat.div_add_mod]
  · rw [List.getElem?_eq_none (by omega : bs.length ≤ t)]
    unfold dataOf
    rw [List.getElem?_take, if_neg ht]

/-! ### The states of a Save -/
def putSeq (at' : Nat) (bs : List Int) (R : List Int) : Nat → List Int
  | 0 => R
  | j + 1 => splice (putSeq at' bs R j) (64 * (at' + 1 + j)) (part bs j)
def waitSeq (at' : Nat) (bs : List Int) (j : Nat) : List (Nat × List Int) := (List.range j).map fun i => (at' + 1 + i, part bs i)
theorem waitSeq_succ (at' : Nat) (bs : List Int) (j : Nat) : waitSeq at' bs (j + 1) = waitSeq at' bs j ++ [(at' + 1 + j, part bs j)] := by simp [waitSeq, List.range_succ]
theorem waitSeq_len (at' : Nat) (bs : List Int) (j : Nat) : (waitSeq at' bs j).length = j := by simp [waitSeq]
theorem waitSeq_get (at' : Nat) (bs : List Int) {j k : Nat} (h : k < j) : (waitSeq at' bs j).getD k (0, []) = (at' + 1 + k, part bs k) := by
  simp [waitSeq, h]
section
variable {R bs : List Int} {at' N : Nat}
theorem putSeq_len (h : R.length = 64 * N) : ∀ j, at' + 1 + j ≤ N → (putSeq at' bs R j).length = 64 * N
  | 0, _ => h
  | j + 1, hj => len_splice (putSeq_len h j (by omega)) (by omega) (by rw [part_len]; omega)
theorem putSeq_other (h : R.length = 64 * N) {i : Nat} : ∀ j, at' + 1 + j ≤ N → (∀ k, k < j → i ≠ at' + 1 + k) → Dk.sec (putSeq at' bs R j) i = Dk.sec R i
  | 0, _, _ => rfl
  | j + 1, hj, hi => by
    show Dk.sec (splice _ _ _) i = _
    rw [Dk.sec_splice_other (putSeq_len h j (by omega)) (by omega) (by rw [part_len]; omega) (hi j (by omega)), putSeq_other h j (by omega) (fun k hk => hi k (by omega))]
theorem putSeq_same (h : R.length = 64 * N) : ∀ j, at' + 1 + j ≤ N → ∀ k, k < j → Dk.sec (putSeq at' bs R j) (at' + 1 + k) = part bs k
  | j + 1, hj, k, hk => by
    show Dk.sec (splice _ _ _) _ = _
    by_cases e : k = j
    · subst e
      exact sec_splice_same (putSeq_len h k (by omega)) (by omega) (part_len _ _)
    · rw [Dk.sec_splice_other (putSeq_len h j (by omega)) (by omega) (by rw [part_len]; omega) (by omega)]
      exact putSeq_same h j (by omega) k (by omega)
/-- All that waits is settled: what is seen is what lasts. -/
theorem settle_seq (h : R.length = 64 * N) {K : Nat} (hK : at' + 1 + K ≤ N) : ∀ k, k ≤ K → Dk.aft (fun _ => 64) (waitSeq at' bs K) (putSeq at' bs R K, R) k = (putSeq at' bs R K, putSeq at' bs R k)
  | 0, _ => rfl
  | k + 1, hk => by
    have ih := settle_seq h hK k (by omega)
    show Dk.stepS 64 _ _ = _
    rw [waitSeq_get at' bs (show k < K by omega), ih]
    have h1 : (part bs k).take 64 = part bs k := List.take_of_length_le (by rw [part_len]; omega)
    have h2 : splice (putSeq at' bs R k) (64 * (at' + 1 + k)) ((part bs k).take 64) = putSeq at' bs R (k + 1) := by rw [h1]; rfl
    unfold Dk.stepS
    dsimp only
    rw [h2]
    have h3 : ((putSeq at' bs R (k + 1)).drop (64 * (at' + 1 + k))).take 64 = Dk.sec (putSeq at' bs R K) (at' + 1 + k) := by
      rw [putSeq_same h K hK k (by omega), ← putSeq_same (bs := bs) (at' := at') h (k + 1) (by omega) k (by omega)]
      rfl
    have h5 : at' + 1 + k < N := by omega
    rw [h3, splice_sec (N := N) (i := at' + 1 + k) (putSeq_len (bs := bs) h K hK) h5]
end
section
variable {bs : List Int} {at' N q : Nat} {A : Dk.DV}
/-- The power goes q writes and flushes from now on. -/
structure Due (A : Dk.DV) (q : Nat) : Prop where
  stop : A.stop = ((A.ops + q : Nat) : Int)
theorem dead_of (A : Dk.DV) (x : Nat) (h : A.stop = ((x : Nat) : Int)) : A.dead = decide (x ≤ A.ops) := by
  unfold Dk.DV.dead
  rw [h]
  congr 1
  simp
theorem dead_mk (a b : List Int) (c : List (Nat × List Int)) (o x : Nat) (st : Int) (h : st = ((x : Nat) : Int)) : Dk.DV.dead { seen := a, last := b, wait := c, ops := o, stop := st } = decide (x ≤ o) := dead_of _ x h
theorem puts_state (hw : A.wait = []) (hs : A.stop = ((A.ops + q : Nat) : Int)) : ∀ k, A.putsTo at' bs k = { seen := putSeq at' bs A.seen (min k q), last := A.last, wait := waitSeq at' bs (min k q), ops := A.ops + min k q, stop := A.stop }
  | 0 => by
    simp only [Dk.DV.putsTo, Nat.zero_min, putSeq, waitSeq, List.range_zero, List.map_nil, Nat.add_zero]
    rw [← hw]
  | k + 1 => by
    rw [Dk.DV.putsTo, puts_state hw hs k]
    unfold Dk.DV.writes
    have hd : Dk.DV.dead { seen := putSeq at' bs A.seen (min k q), last := A.last, wait := waitSeq at' bs (min k q), ops := A.ops + min k q, stop := A.stop } = decide (q ≤ k) := by
      rw [dead_mk _ _ _ _ _ _ hs]
      congr 1
      simp only [eq_iff_iff]
      omega
    rw [hd]
    by_cases h : q ≤ k
    · rw [if_pos (by simpa using h), Nat.min_eq_right (by omega : q ≤ k + 1), Nat.min_eq_right h]
    · rw [if_neg (by simpa using h), Nat.min_eq_left (by omega : k + 1 ≤ q), Nat.min_eq_left (by omega : k ≤ q)]
      simp only [Dk.DV.write, putSeq, waitSeq_succ, Nat.add_assoc]
/-- The flush behind the bytes. -/
theorem flush_state (hl : A.seen.length = 64 * N) (hsl : A.seen = A.last) (hw : A.wait = []) (hs : A.stop = ((A.ops + q : Nat) : Int)) {K : Nat} (hK : at' + 1 + K ≤ N) :
    (A.putsTo at' bs K).flushes = if q ≤ K then A.putsTo at' bs K else { seen := putSeq at' bs A.seen K, last := putSeq at' bs A.seen K, wait := [], ops := A.ops + K + 1, stop := A.stop } := by
  rw [puts_state hw hs K]
  unfold Dk.DV.flushes
  have hd : Dk.DV.dead { seen := putSeq at' bs A.seen (min K q), last := A.last, wait := waitSeq at' bs (min K q), ops := A.ops + min K q, stop := A.stop } = decide (q ≤ K) := by
    rw [dead_mk _ _ _ _ _ _ hs]
    congr 1
    simp only [eq_iff_iff]
    omega
  rw [hd]
  by_cases h : q ≤ K
  · rw [if_pos (by simpa using h), if_pos h]
  · rw [if_neg (by simpa using h), if_neg h, Nat.min_eq_left (by omega : K ≤ q)]
    have hst := settle_seq (bs := bs) hl hK K (Nat.le_refl _)
    simp only [Dk.DV.flush, Dk.DV.settle, waitSeq_len, ← hsl, hst]
/-- One write that is settled. -/
theorem settle_one {R H : List Int} {at' N : Nat} (h : R.length = 64 * N) (hi : at' < N) (hH : H.length = 64) : Dk.aft (fun _ => 64) [(at', H)] (splice R (64 * at') H, R) 1 = (splice R (64 * at') H, splice R (64 * at') H) := by
  show Dk.stepS 64 (at', H) (splice R (64 * at') H, R) = _
  unfold Dk.stepS
  dsimp only
  rw [List.take_of_length_le (by omega : H.length ≤ 64)]
  have h3 : ((splice R (64 * at') H).drop (64 * at')).take 64 = Dk.sec (splice R (64 * at') H) at' := rfl
  rw [h3, splice_sec (N := N) (i := at') (len_splice h hi (by omega)) hi]
/-- All of a Save. -/
theorem save_state (hl : A.seen.length = 64 * N) (hsl : A.seen = A.last) (hw : A.wait = []) (hs : A.stop = ((A.ops + q : Nat) : Int)) {K : Nat} (hK : at' + 1 + K ≤ N) {H : List Int} (hH : H.length = 64) :
    ((A.putsTo at' bs K).flushes.writes at' H).flushes =
      if q ≤ K then A.putsTo at' bs K
      else if q = K + 1 then { seen := putSeq at' bs A.seen K, last := putSeq at' bs A.seen K, wait := [], ops := A.ops + K + 1, stop := A.stop }
      else if q = K + 2 then { seen := splice (putSeq at' bs A.seen K) (64 * at') H, last := putSeq at' bs A.seen K, wait := [(at', H)], ops := A.ops + K + 2, stop := A.stop }
      else { seen := splice (putSeq at' bs A.seen K) (64 * at') H, last := splice (putSeq at' bs A.seen K) (64 * at') H, wait := [], ops := A.ops + K + 3, stop := A.stop } := by
  rw [flush_state hl hsl hw hs hK]
  by_cases h1 : q ≤ K
  · rw [if_pos h1, if_pos h1]
    have hd : (A.putsTo at' bs K).dead = true := by
      rw [puts_state hw hs K, dead_mk _ _ _ _ _ _ hs]
      simp
      omega
    have e1 : (A.putsTo at' bs K).writes at' H = A.putsTo at' bs K := by unfold Dk.DV.writes; rw [if_pos hd]
    rw [e1]
    unfold Dk.DV.flushes
    rw [if_pos hd]
  · rw [if_neg h1, if_neg h1]
    obtain ⟨B, hB⟩ : ∃ B : Dk.DV, B = { seen := putSeq at' bs A.seen K, last := putSeq at' bs A.seen K, wait := [], ops := A.ops + K + 1, stop := A.stop } := ⟨_, rfl⟩
    have hd : B.dead = decide (q ≤ K + 1) := by
      rw [dead_of B (A.ops + q) (by rw [hB]; exact hs), hB]
      congr 1
      simp only [eq_iff_iff]
      omega
    rw [← hB]
    by_cases h2 : q = K + 1
    · rw [if_pos h2]
      have hd' : B.dead = true := by rw [hd]; simp; omega
      have e1 : B.writes at' H = B := by unfold Dk.DV.writes; rw [if_pos hd']
      rw [e1]
      unfold Dk.DV.flushes
      rw [if_pos hd', hB]
    · rw [if_neg h2]
      have hd' : B.dead = false := by rw [hd]; simp; omega
      have e1 : B.writes at' H = { seen := splice (putSeq at' bs A.seen K) (64 * at') H, last := putSeq at' bs A.seen K, wait := [(at', H)], ops := A.ops + K + 2, stop := A.stop } := by
        unfold Dk.DV.writes
        rw [hd', if_neg (by simp), hB]
        rfl
      rw [e1]
      unfold Dk.DV.flushes
      have hd2 : Dk.DV.dead { seen := splice (putSeq at' bs A.seen K) (64 * at') H, last := putSeq at' bs A.seen K, wait := [(at', H)], ops := A.ops + K + 2, stop := A.stop } = decide (q ≤ K + 2) := by
        rw [dead_mk _ _ _ _ _ _ hs]
        congr 1
        simp only [eq_iff_iff]
        omega
      rw [hd2]
      by_cases h3 : q = K + 2
      · rw [if_pos h3, if_pos (by simp; omega)]
      · rw [if_neg h3, if_neg (by simp; omega)]
        have hst := settle_one (putSeq_len (bs := bs) hl K hK) (show at' < N by omega) hH
        simp only [Dk.DV.flush, Dk.DV.settle, List.length_singleton, hst]
end
end Go.Proofs.Ytienhidbgohhcaa
