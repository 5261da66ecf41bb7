/-
  Layer 17: a queue, plainly: a heap of unknowns by their scores, as lists of numbers; what up and down make of it.
-/
import Derived.Laws.CopyOwn
set_option linter.unusedVariables false
set_option linter.unusedSimpArgs false
namespace Go.Proofs.Ytkepengljbeipaa.Qu

def el (l : List Int) (i : Nat) : Int := l.getD i 0
def sco (sc : List Int) (v : Int) : Int := el sc v.toNat
/-- v comes ahead of u. -/
def aheadQ (sc : List Int) (v u : Int) : Bool := decide (sco sc u < sco sc v) || (sco sc v == sco sc u && decide (v < u))
theorem ahead_iff {sc : List Int} {v u : Int} : aheadQ sc v u = true ↔ (sco sc u < sco sc v ∨ (sco sc v = sco sc u ∧ v < u)) := by simp [aheadQ]
theorem ahead_trans {sc : List Int} {a b c : Int} (h : aheadQ sc a b = true) (k : aheadQ sc b c = true) : aheadQ sc a c = true := by
  rw [ahead_iff] at *
  omega
theorem ahead_total {sc : List Int} {a b : Int} (h : aheadQ sc a b = false) (hn : a ≠ b) : aheadQ sc b a = true := by
  have h1 : ¬ aheadQ sc a b = true := by simp [h]
  rw [ahead_iff] at *
  omega
theorem ahead_asymm {sc : List Int} {a b : Int} (h : aheadQ sc a b = true) : aheadQ sc b a = false := by
  rw [Bool.eq_false_iff]
  intro k
  rw [ahead_iff] at *
  omega
theorem el_set {l : List Int} {i : Nat} (hi : i < l.length) (x : Int) (k : Nat) : el (l.set i x) k = if k = i then x else el l k := by
  unfold el
  rw [List.getD_eq_getElem?_getD, List.getD_eq_getElem?_getD, List.getElem?_set]
  by_cases h : k = i
  · subst h
    simp [hi]
  · simp [h, Ne.symm h]
theorem el_get {l : List Int} {k : Nat} (h : k < l.length) : l[k]? = some (el l k) := by simp [el, List.getD_eq_getElem?_getD, List.getElem?_eq_getElem h]
def sw (l : List Int) (i j : Nat) : List Int := (l.set i (el l j)).set j (el l i)
theorem sw_len (l : List Int) (i j : Nat) : (sw l i j).length = l.length := by simp [sw]
theorem el_sw {l : List Int} {i j : Nat} (hi : i < l.length) (hj : j < l.length) (k : Nat) : el (sw l i j) k = if k = j then el l i else if k = i then el l j else el l k := by
  unfold sw
  rw [el_set (by simpa using hj), el_set hi]

def up (sc l : List Int) (j : Nat) : List Int :=
  if h : j = 0 then l else if aheadQ sc (el l j) (el l ((j - 1) / 2)) = true then up sc (sw l ((j - 1) / 2) j) ((j - 1) / 2) else l
termination_by j
decreasing_by omega
/-- The child that is first. -/
def kid (sc l : List Int) (i n : Nat) : Nat := if 2 * i + 2 < n ∧ aheadQ sc (el l (2 * i + 2)) (el l (2 * i + 1)) = true then 2 * i + 2 else 2 * i + 1
theorem kid_gt (sc l : List Int) (i n : Nat) : i < kid sc l i n := by unfold kid; split <;> omega
theorem kid_lt {sc l : List Int} {i n : Nat} (h : 2 * i + 1 < n) : kid sc l i n < n := by unfold kid; split <;> omega
theorem kid_par (sc l : List Int) (i n : Nat) : (kid sc l i n - 1) / 2 = i ∧ 0 < kid sc l i n := by unfold kid; split <;> omega
def down (sc l : List Int) (i n : Nat) : List Int × Nat :=
  if h : 2 * i + 1 < n then (if aheadQ sc (el l (kid sc l i n)) (el l i) = true then down sc (sw l i (kid sc l i n)) (kid sc l i n) n else (l, i)) else (l, i)
termination_by n - i
decreasing_by (have := kid_gt sc l i n; omega)

def Inj (l : List Int) (n : Nat) : Prop := ∀ i j, i < n → j < n → el l i = el l j → i = j
def Mem (l : List Int) (n : Nat) (v : Int) : Prop := ∃ i, i < n ∧ el l i = v
/-- The same are in, in whatever order. -/
structure Same (n : Nat) (l l' : List Int) : Prop where
  len : l'.length = l.length
  past : ∀ k, n ≤ k → el l' k = el l k
  mem : ∀ v, Mem l' n v ↔ Mem l n v
  inj : Inj l n → Inj l' n
theorem Same.refl (n : Nat) (l : List Int) : Same n l l := ⟨rfl, fun _ _ => rfl, fun _ => Iff.rfl, id⟩
theorem Same.trans {n : Nat} {a b c : List Int} (h : Same n a b) (k : Same n b c) : Same n a c :=
  ⟨k.len.trans h.len, fun i hi => (k.past i hi).trans (h.past i hi), fun v => (k.mem v).trans (h.mem v), fun hi => k.inj (h.inj hi)⟩
theorem Same.sw {n : Nat} {l : List Int} {i j : Nat} (hi : i < n) (hj : j < n) (hn : n ≤ l.length) : Same n l (sw l i j) := by
  have e := fun k => el_sw (l := l) (i := i) (j := j) (by omega) (by omega) k
  refine ⟨sw_len l i j, fun k hk => ?_, fun v => ⟨?_, ?_⟩, fun h a b ha hb hab => ?_⟩
  · rw [e, if_neg (by omega), if_neg (by omega)]
  · rintro ⟨k, hk, h⟩
    rw [e] at h
    split at h
    · exact ⟨i, hi, h⟩
    · split at h
      · exact ⟨j, hj, h⟩
      · exact ⟨k, hk, h⟩
  · rintro ⟨k, hk, h⟩
    by_cases k1 : k = i
    · subst k1
      exact ⟨j, hj, by rw [e, if_pos rfl]; exact h⟩
    · by_cases k2 : k = j
      · subst k2
        refine ⟨i, hi, ?_⟩
        rw [e]
        by_cases k3 : i = k
        · exact absurd k3.symm k1
        · rw [if_neg k3, if_pos rfl]; exact h
      · exact ⟨k, hk, by rw [e, if_neg k2, if_neg k1]; exact h⟩
  · rw [e, e] at hab
    split at hab <;> rename_i c1
    · split at hab <;> rename_i c2
      · omega
      · split at hab <;> rename_i c3
        · have := h _ _ hi hj hab; omega
        · have := h _ _ hi hb hab; omega
    · split at hab <;> rename_i c2
      · split at hab <;> rename_i c3
        · have := h _ _ hj hi hab; omega
        · split at hab <;> rename_i c4
          · omega
          · have := h _ _ hj hb hab; omega
      · split at hab <;> rename_i c3
        · have := h _ _ ha hi hab; omega
        · split at hab <;> rename_i c4
          · have := h _ _ ha hj hab; omega
          · exact h _ _ ha hb hab
theorem up_same {sc : List Int} {n : Nat} : ∀ (j : Nat) (l : List Int), j < n → n ≤ l.length → Same n l (up sc l j) := by
  intro j
  induction j using Nat.strongRecOn with
  | ind j ih =>
    intro l hj hn
    rw [up]
    split
    · exact .refl _ _
    · split
      · exact (Same.sw (by omega) hj hn).trans (ih _ (by omega) _ (by omega) (by rw [sw_len]; exact hn))
      · exact .refl _ _
theorem down_same {sc : List Int} {n : Nat} : ∀ (m i : Nat) (l : List Int), n - i = m → n ≤ l.length → Same n l (down sc l i n).1 := by
  intro m
  induction m using Nat.strongRecOn with
  | ind m ih =>
    intro i l hm hn
    rw [down]
    split
    · rename_i h
      have h1 := kid_lt (sc := sc) (l := l) h
      have h2 := kid_gt sc l i n
      split
      · exact (Same.sw (by omega) h1 hn).trans (ih (n - kid sc l i n) (by omega) _ _ rfl (by rw [sw_len]; exact hn))
      · exact .refl _ _
    · exact .refl _ _
/-- From lo on each comes ahead of its children. -/
def Hp (sc l : List Int) (n lo : Nat) : Prop := ∀ k, k < n → 0 < k → lo ≤ (k - 1) / 2 → aheadQ sc (el l ((k - 1) / 2)) (el l k) = true
theorem up_hp {sc : List Int} {n : Nat} : ∀ (j : Nat) (l : List Int), j < n → n ≤ l.length → Inj l n →
    (∀ k, k < n → 0 < k → k ≠ j → aheadQ sc (el l ((k - 1) / 2)) (el l k) = true) →
    (0 < j → ∀ k, k < n → 0 < k → (k - 1) / 2 = j → aheadQ sc (el l ((j - 1) / 2)) (el l k) = true) → Hp sc (up sc l j) n 0 := by
  intro j
  induction j using Nat.strongRecOn with
  | ind j ih =>
    intro l hj hn hI h1 h2
    rw [up]
    split
    · rename_i h0
      exact fun k hk hk0 _ => h1 k hk hk0 (by omega)
    · rename_i h0
      split
      · rename_i ha
        have e := fun k => el_sw (l := l) (i := (j - 1) / 2) (j := j) (by omega) (by omega) k
        refine ih _ (by omega) _ (by omega) (by rw [sw_len]; exact hn) ((Same.sw (by omega) hj hn).inj hI) (fun k hk hk0 hki => ?_) (fun hi k hk hk0 hp => ?_)
        · rw [e, e]
          by_cases c1 : k = j
          · subst c1
            rw [if_neg (by omega), if_pos rfl, if_pos rfl]
            exact ha
          · rw [if_neg c1, if_neg hki]
            by_cases c2 : (k - 1) / 2 = j
            · rw [if_pos c2]
              exact h2 (by omega) k hk hk0 c2
            · rw [if_neg c2]
              by_cases c3 : (k - 1) / 2 = (j - 1) / 2
              · rw [if_pos c3]
                have := h1 k hk hk0 c1
                rw [c3] at this
                exact ahead_trans ha this
              · rw [if_neg c3]
                exact h1 k hk hk0 c1
        · rw [e, e]
          rw [if_neg (by omega), if_neg (by omega)]
          have hq := h1 ((j - 1) / 2) (by omega) hi (by omega)
          by_cases c1 : k = j
          · rw [if_pos c1]
            exact hq
          · rw [if_neg c1, if_neg (by omega)]
            have := h1 k hk hk0 c1
            rw [hp] at this
            exact ahead_trans hq this
      · rename_i ha
        intro k hk hk0 _
        by_cases c1 : k = j
        · subst c1
          refine ahead_total (by simpa using ha) (fun e => ?_)
          have := hI _ _ hj (by omega) e
          omega
        · exact h1 k hk hk0 c1
theorem down_hp {sc : List Int} {n lo : Nat} : ∀ (m i : Nat) (l : List Int), n - i = m → lo ≤ i → n ≤ l.length → Inj l n →
    (∀ k, k < n → 0 < k → lo ≤ (k - 1) / 2 → (k - 1) / 2 ≠ i → aheadQ sc (el l ((k - 1) / 2)) (el l k) = true) →
    (0 < i → lo ≤ (i - 1) / 2 → ∀ k, k < n → 0 < k → (k - 1) / 2 = i → aheadQ sc (el l ((i - 1) / 2)) (el l k) = true) → Hp sc (down sc l i n).1 n lo := by
  intro m
  induction m using Nat.strongRecOn with
  | ind m ih =>
    intro i l hm hlo hn hI h1 h2
    rw [down]
    split
    · rename_i h
      have hj1 := kid_lt (sc := sc) (l := l) h
      have hj2 := kid_gt sc l i n
      obtain ⟨hj3, hj4⟩ := kid_par sc l i n
      have hbest : ∀ k, k < n → 0 < k → (k - 1) / 2 = i → k ≠ kid sc l i n → aheadQ sc (el l (kid sc l i n)) (el l k) = true := by
        intro k hk hk0 hp hne
        unfold kid at hne ⊢
        split at hne <;> rename_i c
        · rw [if_pos c]
          obtain rfl : k = 2 * i + 1 := by omega
          exact c.2
        · rw [if_neg c]
          obtain rfl : k = 2 * i + 2 := by omega
          refine ahead_total ?_ (fun e => ?_)
          · simpa [hk] using c
          · have := hI _ _ hk (by omega) e
            omega
      generalize kid sc l i n = j at *
      split
      · rename_i ha
        have e := fun k => el_sw (l := l) (i := i) (j := j) (by omega) (by omega) k
        refine ih (n - j) (by omega) _ _ rfl (by omega) (by rw [sw_len]; exact hn) ((Same.sw (by omega) hj1 hn).inj hI) (fun k hk hk0 hl hki => ?_) (fun _ _ k hk hk0 hp => ?_)
        · rw [e, e, if_neg hki]
          by_cases c1 : (k - 1) / 2 = i
          · rw [if_pos c1]
            by_cases c2 : k = j
            · rw [if_pos c2]
              exact ha
            · rw [if_neg c2, if_neg (by omega)]
              exact hbest k hk hk0 c1 c2
          · rw [if_neg c1, if_neg (show k ≠ j by rintro rfl; omega)]
            by_cases c2 : k = i
            · subst c2
              rw [if_pos rfl]
              exact h2 hk0 hl j hj1 hj4 hj3
            · rw [if_neg c2]
              exact h1 k hk hk0 hl c1
        · rw [e, e, hj3, if_neg (by omega), if_pos rfl, if_neg (by omega), if_neg (by omega)]
          have := h1 k hk hk0 (by omega) (by omega)
          rw [hp] at this
          exact this
      · rename_i ha
        have hij : aheadQ sc (el l i) (el l j) = true := ahead_total (by simpa using ha) (fun e => by have := hI _ _ hj1 (by omega) e; omega)
        intro k hk hk0 hl
        by_cases c1 : (k - 1) / 2 = i
        · by_cases c2 : k = j
          · rw [c1, c2]; exact hij
          · rw [c1]; exact ahead_trans hij (hbest k hk hk0 c1 c2)
        · exact h1 k hk hk0 hl c1
    · rename_i h
      intro k hk hk0 hl
      exact h1 k hk hk0 hl (by omega)
theorem Hp.root {sc l : List Int} {n : Nat} (h : Hp sc l n 0) : ∀ k, k < n → 0 < k → aheadQ sc (el l 0) (el l k) = true := by
  intro k
  induction k using Nat.strongRecOn with
  | ind k ih =>
    intro hk h0
    have h1 := h k hk h0 (Nat.zero_le _)
    by_cases c : (k - 1) / 2 = 0
    · rw [c] at h1; exact h1
    · exact ahead_trans (ih _ (by omega) (by omega) (by omega)) h1

/-- All from k - 1 down are let down. -/
def init (sc : List Int) (n : Nat) : Nat → List Int → List Int
  | 0, l => l
  | k + 1, l => init sc n k (down sc l k n).1
theorem init_same {sc : List Int} {n : Nat} : ∀ (k : Nat) (l : List Int), n ≤ l.length → Same n l (init sc n k l)
  | 0, l, _ => .refl _ _
  | k + 1, l, hn => by
    have h1 := down_same (sc := sc) (n - k) k l rfl hn
    exact h1.trans (init_same k _ (by rw [h1.len]; exact hn))
theorem init_hp {sc : List Int} {n : Nat} : ∀ (k : Nat) (l : List Int), n ≤ l.length → Inj l n → Hp sc l n k → Hp sc (init sc n k l) n 0
  | 0, l, _, _, h => h
  | k + 1, l, hn, hI, h => by
    have h1 := down_same (sc := sc) (n - k) k l rfl hn
    refine init_hp k _ (by rw [h1.len]; exact hn) (h1.inj hI) (down_hp (n - k) k l rfl (Nat.le_refl _) hn hI (fun i hi h0 hl hne => h i hi h0 (by omega)) (fun h0 hl => by omega))

/-- A queue that is right: scores, the row of those that are in and how many these are. -/
structure Rt (sc l : List Int) (len : Nat) : Prop where
  cap : l.length = sc.length
  le : len ≤ l.length
  scs : ∀ v, v < sc.length → 0 ≤ el sc v ∧ el sc v ≤ 1152921504606846976
  rng : ∀ i, i < len → 0 ≤ el l i ∧ el l i < (sc.length : Int)
  inj : Inj l len
  hp : Hp sc l len 0
theorem Rt.of_same {sc l l' : List Int} {len : Nat} (h : Rt sc l len) (k : Same len l l') {sc' : List Int} (hc : sc'.length = sc.length) (hs : ∀ v, v < sc.length → 0 ≤ el sc' v ∧ el sc' v ≤ 1152921504606846976) (hp : Hp sc' l' len 0) : Rt sc' l' len :=
  ⟨by rw [k.len, hc]; exact h.cap, by rw [k.len]; exact h.le, fun v hv => hs v (by omega), fun i hi => by
    obtain ⟨j, hj, e⟩ := (k.mem (el l' i)).1 ⟨i, hi, rfl⟩
    rw [← e, hc]
    exact h.rng j hj, k.inj h.inj, hp⟩
/-- Pigeons. -/
theorem pigeon : ∀ (n m : Nat) (f : Nat → Int), (∀ i, i < m → 0 ≤ f i ∧ f i < (n : Int)) → (∀ i j, i < m → j < m → f i = f j → i = j) → m ≤ n
  | 0, m, f, hr, _ => by
    by_cases h : m = 0
    · omega
    · have := hr 0 (by omega)
      omega
  | n + 1, m, f, hr, hi => by
    by_cases h : ∃ i, i < m ∧ f i = (n : Int)
    · obtain ⟨i, him, hfi⟩ := h
      have ih := pigeon n (m - 1) (fun k => if k = i then f (m - 1) else f k) (fun k hk => ?_) (fun a b ha hb hab => ?_)
      · omega
      · split <;> rename_i c
        · have h1 := hr (m - 1) (by omega)
          have h2 : f (m - 1) ≠ n := fun e => by have := hi (m - 1) i (by omega) him (e.trans hfi.symm); omega
          omega
        · have h1 := hr k (by omega)
          have h2 : f k ≠ n := fun e => c (hi k i (by omega) him (e.trans hfi.symm))
          omega
      · split at hab <;> rename_i c1 <;> split at hab <;> rename_i c2
        · omega
        · have := hi _ _ (by omega) (by omega) hab; omega
        · have := hi _ _ (by omega) (by omega) hab; omega
        · exact hi _ _ (by omega) (by omega) hab
    · have ih := pigeon n m f (fun k hk => by
        have h1 := hr k hk
        have h2 : f k ≠ n := fun e => h ⟨k, hk, e⟩
        omega) hi
      omega
theorem Rt.room {sc l : List Int} {len : Nat} (h : Rt sc l len) {v : Int} (h0 : 0 ≤ v) (h1 : v < (sc.length : Int)) (hn : ¬ Mem l len v) : len < l.length := by
  have := pigeon sc.length (len + 1) (fun k => if k = len then v else el l k) (fun k hk => ?_) (fun a b ha hb hab => ?_)
  · have := h.cap; omega
  · split
    · exact ⟨h0, h1⟩
    · exact h.rng k (by omega)
  · split at hab <;> rename_i c1 <;> split at hab <;> rename_i c2
    · omega
    · exact absurd ⟨b, by omega, hab.symm⟩ hn
    · exact absurd ⟨a, by omega, hab⟩ hn
    · exact h.inj _ _ (by omega) (by omega) hab
/-- One is put in. -/
def push (sc l : List Int) (len : Nat) (v : Int) : List Int := up sc (l.set len v) len
theorem Rt.push {sc l : List Int} {len : Nat} (h : Rt sc l len) {v : Int} (h0 : 0 ≤ v) (h1 : v < (sc.length : Int)) (hn : ¬ Mem l len v) : Rt sc (push sc l len v) (len + 1) ∧ ∀ u, Mem (push sc l len v) (len + 1) u ↔ (Mem l len u ∨ u = v) := by
  have hr := h.room h0 h1 hn
  have e := fun k => el_set (l := l) hr v k
  have hM : ∀ u, Mem (l.set len v) (len + 1) u ↔ (Mem l len u ∨ u = v) := by
    intro u
    constructor
    · rintro ⟨i, hi, hu⟩
      rw [e] at hu
      split at hu
      · exact .inr hu.symm
      · exact .inl ⟨i, by omega, hu⟩
    · rintro (⟨i, hi, hu⟩ | rfl)
      · exact ⟨i, by omega, by rw [e, if_neg (by omega)]; exact hu⟩
      · exact ⟨len, by omega, by rw [e, if_pos rfl]⟩
  have hI : Inj (l.set len v) (len + 1) := by
    intro a b ha hb hab
    rw [e, e] at hab
    split at hab <;> rename_i c1 <;> split at hab <;> rename_i c2
    · omega
    · exact absurd ⟨b, by omega, hab.symm⟩ hn
    · exact absurd ⟨a, by omega, hab⟩ hn
    · exact h.inj _ _ (by omega) (by omega) hab
  have hs := up_same (sc := sc) len (l.set len v) (n := len + 1) (by omega) (by simp; omega)
  have hh : Hp sc (up sc (l.set len v) len) (len + 1) 0 := by
    refine up_hp len _ (by omega) (by simp; omega) hI (fun k hk hk0 hne => ?_) (fun _ k hk hk0 hp => by omega)
    rw [e, e, if_neg (by omega), if_neg hne]
    exact h.hp k (by omega) hk0 (Nat.zero_le _)
  refine ⟨⟨by rw [Qu.push, hs.len, List.length_set]; exact h.cap, by rw [Qu.push, hs.len, List.length_set]; omega, h.scs, fun i hi => ?_, hs.inj hI, hh⟩, fun u => (hs.mem u).trans (hM u)⟩
  rcases (hM _).1 ((hs.mem _).1 ⟨i, hi, rfl⟩) with ⟨j, hj, hu⟩ | hu
  · rw [Qu.push, ← hu]; exact h.rng j hj
  · rw [Qu.push, hu]; exact ⟨h0, h1⟩
/-- The first one is taken out; it stands behind the others. -/
def pop (sc l : List Int) (len : Nat) : List Int := (down sc (sw l 0 (len - 1)) 0 (len - 1)).1
theorem Rt.pop {sc l : List Int} {len : Nat} (h : Rt sc l len) (h0 : 0 < len) : Rt sc (pop sc l len) (len - 1) ∧ el (pop sc l len) (len - 1) = el l 0 ∧ ∀ u, Mem (pop sc l len) (len - 1) u ↔ (Mem l len u ∧ u ≠ el l 0) := by
  have hle := h.le
  have e := fun k => el_sw (l := l) (i := 0) (j := len - 1) (by omega) (by omega) k
  have hn : len - 1 ≤ (sw l 0 (len - 1)).length := by rw [sw_len]; omega
  have s0 := Same.sw (n := len) (l := l) (i := 0) (j := len - 1) h0 (by omega) hle
  have hs := down_same (sc := sc) (len - 1 - 0) 0 (sw l 0 (len - 1)) rfl hn
  have hI0 := s0.inj h.inj
  have hI : Inj (sw l 0 (len - 1)) (len - 1) := fun a b ha hb hab => hI0 a b (by omega) (by omega) hab
  have hh : Hp sc (Qu.pop sc l len) (len - 1) 0 := by
    refine down_hp (len - 1 - 0) 0 _ rfl (Nat.le_refl _) hn hI (fun k hk hk0 _ hne => ?_) (fun h _ => by omega)
    rw [e, e, if_neg (by omega), if_neg (by omega), if_neg (by omega), if_neg (by omega)]
    exact h.hp k (by omega) hk0 (Nat.zero_le _)
  have hl : el (Qu.pop sc l len) (len - 1) = el l 0 := by
    rw [Qu.pop, hs.past _ (Nat.le_refl _), e, if_pos rfl]
  have hm : ∀ u, Mem (Qu.pop sc l len) (len - 1) u ↔ (Mem l len u ∧ u ≠ el l 0) := by
    intro u
    rw [Qu.pop, hs.mem u, ← s0.mem u]
    constructor
    · rintro ⟨i, hi, hu⟩
      refine ⟨⟨i, by omega, hu⟩, fun k => ?_⟩
      have : el (sw l 0 (len - 1)) (len - 1) = el l 0 := by rw [e, if_pos rfl]
      have := hI0 i (len - 1) (by omega) (by omega) (by rw [hu, k, this])
      omega
    · rintro ⟨⟨i, hi, hu⟩, hne⟩
      refine ⟨i, ?_, hu⟩
      by_cases c : i = len - 1
      · exact absurd (by rw [← hu, c, e, if_pos rfl]) hne
      · omega
  refine ⟨⟨by rw [Qu.pop, hs.len, sw_len]; exact h.cap, by rw [Qu.pop, hs.len, sw_len]; omega, h.scs, fun i hi => ?_, hs.inj hI, hh⟩, hl, hm⟩
  obtain ⟨⟨j, hj, hu⟩, _⟩ := (hm _).1 ⟨i, hi, rfl⟩
  rw [← hu]
  exact h.rng j hj
/-- One stands at a place where its score has grown. -/
def fix (sc l : List Int) (len i : Nat) : List Int := if (down sc l i len).2 ≤ i then up sc (down sc l i len).1 i else (down sc l i len).1
def bumped (sc : List Int) (v : Nat) (by' : Int) : List Int := sc.set v (el sc v + by')
theorem Rt.bump {sc l : List Int} {len i v : Nat} (h : Rt sc l len) (hi : i < len) (hv : el l i = (v : Int)) (hvn : v < sc.length) {b : Int} (hb : 0 ≤ b) (hs : el sc v + b ≤ 1152921504606846976) : Rt (bumped sc v b) (fix (bumped sc v b) l len i) len ∧ Same len l (fix (bumped sc v b) l len i) := by
  have e := fun k => el_set (l := sc) hvn (el sc v + b) k
  have hle := h.le
  -- of two others the order stays; the one comes ahead of whom it came ahead of
  have a1 : ∀ a c, a < len → c < len → c ≠ i → aheadQ sc (el l a) (el l c) = true → aheadQ (bumped sc v b) (el l a) (el l c) = true := by
    intro a c ha hc hne hh
    rw [ahead_iff] at *
    unfold sco bumped at *
    have r1 := h.rng c hc
    have r2 := h.rng a ha
    have n1 : (el l c).toNat ≠ v := fun k => hne (h.inj c i hc hi (by rw [hv]; omega))
    rw [e, e, if_neg n1]
    split
    · rename_i c1
      rw [c1] at hh
      omega
    · exact hh
  have hd : down (bumped sc v b) l i len = (l, i) := by
    rw [down]
    split
    · rename_i c
      have h1 := kid_lt (sc := bumped sc v b) (l := l) c
      obtain ⟨h2, h3⟩ := kid_par (bumped sc v b) l i len
      generalize kid (bumped sc v b) l i len = j at *
      have := a1 i j hi h1 (by omega) (by have := h.hp j h1 h3 (Nat.zero_le _); rw [h2] at this; exact this)
      rw [ahead_asymm this]
      simp
    · rfl
  have hf : fix (bumped sc v b) l len i = up (bumped sc v b) l i := by
    unfold fix
    rw [hd]
    simp
  have sm := up_same (sc := bumped sc v b) i l (n := len) hi hle
  rw [hf]
  refine ⟨h.of_same sm (by simp [bumped]) (fun u hu => ?_) (up_hp i l hi hle h.inj (fun k hk hk0 hne => a1 _ k (by omega) hk hne (h.hp k hk hk0 (Nat.zero_le _))) (fun hi0 k hk hk0 hp => ?_)), sm⟩
  · unfold bumped
    rw [e]
    split
    · have := h.scs v hvn; omega
    · exact h.scs u hu
  · refine a1 _ k (by omega) hk (by omega) (ahead_trans (b := el l i) (h.hp i hi hi0 (Nat.zero_le _)) ?_)
    have := h.hp k hk hk0 (Nat.zero_le _)
    rw [hp] at this
    exact this
theorem Rt.bump_out {sc l : List Int} {len v : Nat} (h : Rt sc l len) (hn : ¬ Mem l len (v : Int)) (hvn : v < sc.length) {b : Int} (hb : 0 ≤ b) (hs : el sc v + b ≤ 1152921504606846976) : Rt (bumped sc v b) l len := by
  have e := fun k => el_set (l := sc) hvn (el sc v + b) k
  have hle := h.le
  refine h.of_same (.refl _ _) (by simp [bumped]) (fun u hu => ?_) (fun k hk hk0 _ => ?_)
  · unfold bumped
    rw [e]
    split
    · have := h.scs v hvn; omega
    · exact h.scs u hu
  · have hh := h.hp k hk hk0 (Nat.zero_le _)
    rw [ahead_iff] at *
    unfold sco bumped at *
    have r1 := h.rng k hk
    have r2 := h.rng ((k - 1) / 2) (by omega)
    have n1 : (el l k).toNat ≠ v := fun c => hn ⟨k, hk, by omega⟩
    have n2 : (el l ((k - 1) / 2)).toNat ≠ v := fun c => hn ⟨(k - 1) / 2, by omega, by omega⟩
    rw [e, e, if_neg n1, if_neg n2]
    exact hh
def halved (sc : List Int) : List Int := sc.map (· / 2)
theorem el_halved (sc : List Int) (v : Nat) : el (halved sc) v = el sc v / 2 := by
  unfold el halved
  rw [List.getD_eq_getElem?_getD, List.getD_eq_getElem?_getD, List.getElem?_map]
  cases sc[v]? <;> simp
theorem Rt.halve {sc l : List Int} {len : Nat} (h : Rt sc l len) : Rt (halved sc) (init (halved sc) len (len / 2) l) len ∧ Same len l (init (halved sc) len (len / 2) l) := by
  have sm := init_same (sc := halved sc) (n := len) (len / 2) l h.le
  refine ⟨h.of_same sm (by simp [halved]) (fun v hv => ?_) (init_hp (len / 2) l h.le h.inj (fun k hk hk0 hl => by omega)), sm⟩
  rw [el_halved]
  have := h.scs v hv
  omega
/-- A new queue. -/
def ids (n : Nat) : List Int := (List.range n).map fun k : Nat => (k : Int)
theorem ids_len (n : Nat) : (ids n).length = n := by simp [ids]
theorem el_ids {n k : Nat} (h : k < n) : el (ids n) k = k := by simp [el, ids, List.getD_eq_getElem?_getD, h]
theorem el_zeros (n k : Nat) : el (List.replicate n 0) k = 0 := by
  simp only [el, List.getD_eq_getElem?_getD, List.getElem?_replicate]
  split <;> rfl
theorem Rt.new (n : Nat) : Rt (List.replicate n 0) (ids n) n := by
  refine ⟨by simp [ids], by simp [ids], fun v _ => by rw [el_zeros]; omega, fun i hi => by rw [el_ids hi]; simp; omega, fun a b ha hb hab => by rw [el_ids ha, el_ids hb] at hab; omega, fun k hk hk0 _ => ?_⟩
  rw [ahead_iff, el_ids hk, el_ids (by omega)]
  unfold sco
  rw [el_zeros, el_zeros]
  omega
theorem mem_ids (n : Nat) (v : Int) : Mem (ids n) n v ↔ (0 ≤ v ∧ v < (n : Int)) := by
  constructor
  · rintro ⟨i, hi, hu⟩
    rw [el_ids hi] at hu
    omega
  · rintro ⟨h0, h1⟩
    exact ⟨v.toNat, by omega, by rw [el_ids (by omega)]; omega⟩

/-! ### The document's first one -/
def elb (l : List Bool) (i : Nat) : Bool := l.getD i false
def first (sc : List Int) (ins : List Bool) : Nat → Int
  | 0 => -1
  | k + 1 => if elb ins k = true ∧ (first sc ins k < 0 ∨ sco sc (first sc ins k) < el sc k) then (k : Int) else first sc ins k
theorem first_spec (sc : List Int) (ins : List Bool) : ∀ k, (first sc ins k = -1 ∧ ∀ v, v < k → elb ins v = false) ∨
    (0 ≤ first sc ins k ∧ first sc ins k < (k : Int) ∧ elb ins (first sc ins k).toNat = true ∧ ∀ v : Nat, v < k → elb ins v = true → (v : Int) ≠ first sc ins k → aheadQ sc (first sc ins k) v = true)
  | 0 => .inl ⟨rfl, fun v hv => by omega⟩
  | k + 1 => by
    have ih := first_spec sc ins k
    rw [first]
    generalize first sc ins k = f at *
    have hk : sco sc (k : Int) = el sc k := by simp [sco]
    split
    · rename_i c
      refine .inr ⟨by omega, by omega, by simpa using c.1, fun v hv hi hne => ?_⟩
      rcases ih with ⟨h1, h2⟩ | ⟨h1, h2, h3, h4⟩
      · have := h2 v (by omega)
        rw [hi] at this
        cases this
      · by_cases hf : (v : Int) = f
        · rw [hf, ahead_iff, hk]
          omega
        · have := h4 v (by omega) hi hf
          rw [ahead_iff] at this ⊢
          rw [hk]
          omega
    · rename_i c
      rcases ih with ⟨h1, h2⟩ | ⟨h1, h2, h3, h4⟩
      · refine .inl ⟨h1, fun v hv => ?_⟩
        by_cases hv' : v = k
        · rw [Bool.eq_false_iff]
          intro hh
          exact c ⟨hv' ▸ hh, .inl (by omega)⟩
        · exact h2 v (by omega)
      · refine .inr ⟨h1, by omega, h3, fun v hv hi hne => ?_⟩
        by_cases hv' : v = k
        · subst hv'
          rw [ahead_iff, hk]
          have : ¬ sco sc f < el sc v := fun hh => c ⟨hi, .inr hh⟩
          omega
        · exact h4 v (by omega) hi hne
/-- Who is in is told by truths. -/
def InB (l : List Int) (len : Nat) (ins : List Bool) : Prop := ∀ v : Nat, v < ins.length → (elb ins v = true ↔ Mem l len (v : Int))
theorem Rt.first {sc l : List Int} {len : Nat} (h : Rt sc l len) {ins : List Bool} (hn : ins.length = sc.length) (hI : InB l len ins) : first sc ins ins.length = if len = 0 then -1 else el l 0 := by
  split
  · rename_i c
    rcases first_spec sc ins ins.length with ⟨h1, _⟩ | ⟨h1, h2, h3, h4⟩
    · exact h1
    · obtain ⟨i, hi, _⟩ := (hI _ (by omega)).1 h3
      omega
  · rename_i c
    have r := h.rng 0 (by omega)
    have hin : elb ins (el l 0).toNat = true := (hI _ (by omega)).2 ⟨0, by omega, by omega⟩
    rcases first_spec sc ins ins.length with ⟨_, h2⟩ | ⟨h1, h2, h3, h4⟩
    · have := h2 (el l 0).toNat (by omega)
      rw [hin] at this
      cases this
    · generalize Qu.first sc ins ins.length = f at *
      obtain ⟨i, hi, hif⟩ := (hI _ (by omega)).1 h3
      by_cases hf : f = el l 0
      · exact hf
      · have k1 := h4 (el l 0).toNat (by omega) hin (by omega)
        rw [show (((el l 0).toNat : Nat) : Int) = el l 0 by omega] at k1
        have hi0 : 0 < i := by
          by_cases h0 : i = 0
          · subst h0; omega
          · omega
        have k2 := h.hp.root i hi hi0
        rw [hif, show ((f.toNat : Nat) : Int) = f by omega] at k2
        rw [ahead_asymm k2] at k1
        cases k1
end Go.Proofs.Ytkepengljbeipaa.Qu
