/-
  nat.trim, said of numbers; nat.Of.
-/
import Derived.Test.YtaiemcacpimcjaaDoorTrim
set_option linter.unusedVariables false
set_option linter.unusedSimpArgs false
namespace Go.Proofs.YtaiemcacpimcjaaDoor
open Go.RowKit Rep

theorem trim_num (a : Option Addr) (xs : List Nat) (c : Nat) (w : World) (hd : Lim xs) (hr : Reads w a (xs.map u32v)) (hc : xs.length ≤ c) (hm : c ≤ maxLen) :
    Calls Tryd.prog 36 #[.slice a xs.length c] w (GivesNum (V xs) w) := by
  refine (trim_any a xs c w hr hc hm).mono ?_
  rintro e w' ⟨rfl, rfl⟩
  have hs : strip xs = L (V xs) := strip_eq (by omega) hd
  have hl := strip_length xs
  rw [hs] at hl
  unfold trimV
  split
  · rename_i h0
    have : L (V xs) = [] := List.length_eq_zero_iff.1 (by omega)
    exact ⟨none, 0, by rw [this]; rfl, ⟨.inl (by simp [this]), by rw [this]; simp, by simp [maxLen]⟩, rfl⟩
  · refine ⟨a, c, by rw [hl], ⟨?_, ?_, hm⟩, rfl⟩
    · rw [← hs]; unfold strip; rw [List.map_take]; exact hr.take _
    · have := cutAt_le xs xs.length; omega

theorem trim_at (a : Option Addr) (n c : Nat) (xs : List Nat) (hn : xs.length = n) (w : World) (hd : Lim xs) (hr : Reads w a (xs.map u32v)) (hc : n ≤ c) (hm : c ≤ maxLen) :
    Calls Tryd.prog 36 #[.slice a n c] w (GivesNum (V xs) w) := by
  subst hn
  exact trim_num a xs c w hd hr hc hm

/-- What trim gives of a slice of one's own. -/
theorem trimV_own {B : Nat} {a : Option Addr} {c : Nat} {xs : List Nat} {w : World} (hd : Lim xs) (ho : Own B w a c xs) :
    ∃ a' c', trimV a xs c = .slice a' (L (V xs)).length c' ∧ Own B w a' c' (L (V xs)) ∧ (a' = none ∨ a' = a) := by
  have hs : strip xs = L (V xs) := strip_eq (by omega) hd
  have hl := strip_length xs
  rw [hs] at hl
  unfold trimV
  split
  · rename_i h0
    have : L (V xs) = [] := List.length_eq_zero_iff.1 (by omega)
    exact ⟨none, 0, by rw [this]; rfl, by rw [this]; exact Own.nil _ _, .inl rfl⟩
  · refine ⟨a, c, by rw [hl], ?_, .inr rfl⟩
    rw [← hs]
    exact ho.take _

/-- trim of a slice of one's own. -/
theorem trim_own (B : Nat) (a : Option Addr) (n c : Nat) (xs : List Nat) (hn : xs.length = n) (w : World) (hd : Lim xs) (ho : Own B w a c xs) :
    Calls Tryd.prog 36 #[.slice a n c] w fun e w' => ∃ a' c', e = .returned (.slice a' (L (V xs)).length c') ∧ Own B w a' c' (L (V xs)) ∧ (a' = none ∨ a' = a) ∧ w = w' := by
  subst hn
  refine (trim_any a xs c w ho.reads ho.le ho.1).mono ?_
  rintro e w' ⟨rfl, rfl⟩
  obtain ⟨a', c', h1, h2, h3⟩ := trimV_own hd ho
  exact ⟨a', c', by rw [h1], h2, h3, rfl⟩

theorem Lim.two {a b : Nat} (h : a < 4294967296) (k : b < 4294967296) : Lim [a, b] := Dig.cons h (Dig.cons k (Dig.nil _))

set_option maxHeartbeats 400000 in
theorem of_any (n : Nat) (hn : n < 18446744073709551616) (w : World) : Calls Tryd.prog 33 #[.int .u64 (n : Int)] w (GivesNew n w) := by
  have h1 : (n : Int) ≤ 18446744073709551615 := by omega
  have hrow : Row 48 (w.alloc (.cells #[.int .u32 ((n : Int) % 4294967296), .int .u32 ((n : Int) / 4294967296)] 48)) w.heap.size 2 ([n % 4294967296, n / 4294967296].map u32v) := by
    have := Row.new (E := 48) w #[.int .u32 ((n : Int) % 4294967296), .int .u32 ((n : Int) / 4294967296)]
    simpa [u32v] using this
  have hv : V [n % 4294967296, n / 4294967296] = n := by simp only [V, Rep.val]; omega
  have HV := Lib.hid hv
  clear hv
  have HL : Lim [n % 4294967296, n / 4294967296] := Lim.two (Nat.mod_lt _ (by omega)) (by omega)
  go_enter Tryd.func33, Tryd.ntmps33
  go_wp2_with fail
  refine (trim_num (some ⟨w.heap.size, 0, none⟩) [n % 4294967296, n / 4294967296] 2 _ HL hrow.reads0 (by simp) (by simp [maxLen])).mono ?_
  rintro e w' ⟨a, c, rfl, hat, rfl⟩
  rw [HV.out] at hat ⊢
  go_wp2_with fail
  go_ret
  exact ⟨a, c, rfl, hat, (Below.refl _ _).alloc (Nat.le_refl _) _⟩
end Go.Proofs.YtaiemcacpimcjaaDoor
