/-
  The laws' own helpers: great, speaks.
-/
import Derived.Test.YtaiemcacpimcjaaDoorText
set_option linter.unusedVariables false
set_option linter.unusedSimpArgs false
namespace Go.Proofs.YtaiemcacpimcjaaDoor
open Go.RowKit Rep

def sliceV (t : Option Addr × Nat × Nat) : Value := .slice t.1 t.2.1 t.2.2

set_option maxRecDepth 100000 in
set_option maxHeartbeats 400000 in
theorem great_any (a : Option Addr) (c : Nat) (ts : List (Option Addr × Nat × Nat)) (w : World) (hr : Reads w a (ts.map sliceV)) (hl : ts.length ≤ 1000) :
    Calls Tryd.prog 8 #[.slice a ts.length c] w (Gives (.bool (ts.any fun t => decide (12 < t.2.1))) w) := by
  go_enter Tryd.func8, Tryd.ntmps8
  go_wp2_with fail
  go_loop [7] (fun i => ∃ k : Nat, k ≤ ts.length ∧ i = .int .i64 k ∧ (ts.take k).any (fun t => decide (12 < t.2.1)) = false) (fun i => ts.length - (intOf i).toNat)
  case atStart => exact ⟨0, Nat.zero_le _, rfl, rfl⟩
  case round =>
    obtain ⟨k, hk, rfl, he⟩ := hrel
    have HE := Lib.hid he
    clear he
    by_cases hlt : k < ts.length
    · obtain ⟨g, off, rfl, hg, hcell⟩ := hr.open' (by rw [List.length_map]; omega)
      have hck := hcell k (sliceV ts[k]) (by rw [List.getElem?_map, List.getElem?_eq_getElem hlt]; rfl)
      clear hcell
      have HT : Hid (ts.take (k + 1) = ts.take k ++ [ts[k]]) := List.take_succ_eq_append_getElem hlt
      have HM : Hid (ts[k] ∈ ts) := List.getElem_mem hlt
      generalize ts[k] = t at hck HT HM
      obtain ⟨ta, tn, tc⟩ := t
      unfold sliceV at hck
      by_cases hgt : 12 < tn
      · have hd : decide ((12 : Int) < (tn : Int)) = true := decide_eq_true (by omega)
        have hgt' : (12 : Int) < (tn : Int) := by omega
        go_wp2_with fail
        go_ret
        exact Gives.mk' (by
          have : (ts.any fun t => decide (12 < t.2.1)) = true := List.any_eq_true.2 ⟨_, HM.out, by simpa using hgt⟩
          rw [this]; rfl)
      · have hgt' : ¬ (12 : Int) < (tn : Int) := by omega
        go_wp2_with fail
        go_round
        case rel => exact ⟨k + 1, by omega, by go_num, by rw [HT.out, List.any_append, HE.out]; simp; omega⟩
        case measure => simp [intOf]; omega
    · obtain rfl : k = ts.length := by omega
      go_wp2_with fail
      go_ret
      exact Gives.mk' (by have := HE.out; rw [List.take_length] at this; rw [this]; rfl)

theorem GivesBench.bench {m : Nat} {w : World} : Bench (w.alloc (.cells #[.int .i64 (m : Int), .bool false] 58)) w.heap.size m false := heap_alloc_new w _

theorem limbs2 (w : World) (x y : Nat) (hx : x < 4294967296) (hy : y < 4294967296) : NumIn (w.alloc (.cells #[.int .u32 (x : Int), .int .u32 (y : Int)] 48)) (some ⟨w.heap.size, 0, none⟩) 2 [x, y] :=
  ⟨Lim.two hx hy, by simpa [u32v] using (Row.new (E := 48) w #[.int .u32 (x : Int), .int .u32 (y : Int)]).reads0, by simp, by simp [maxLen], by simp⟩

theorem txt_example : txt 4294967296 = [52, 50, 57, 52, 57, 54, 55, 50, 57, 54] := by
  have : D 4294967296 = [6, 9, 2, 7, 6, 9, 4, 9, 2, 4] := (eq_rep (b := 10) (by omega) (by simp [Dig]) (by simp [Top]) (by simp [val])).symm
  unfold txt
  rw [if_neg (by omega), this]
  rfl

set_option maxRecDepth 100000 in
set_option maxHeartbeats 1000000 in
theorem speaks_any (w : World) : Calls Tryd.prog 7 #[] w fun e w' => e = .returned (.bool true) ∧ Below w.heap.size w w' := by
  go_enter Tryd.func7, Tryd.ntmps7
  go_wp2_with fail
  refine (new_high 2 w (by omega) (by unfold maxLen; omega)).mono ?_
  rintro e w' ⟨rfl, rfl⟩
  go_wp2_with fail
  have hb : Bench (((w.alloc (.cells #[.int .i64 2, .bool false] 58)).alloc (.cells #[.int .u32 0, .int .u32 1] 48)).alloc (.cells #[.int .u32 0, .int .u32 1] 48)) w.heap.size 2 false := by
    have h := (GivesBench.bench (m := 2) (w := w))
    exact (h.of_block (Below.heap_alloc _ _ _ (by simp))).of_block (Below.heap_alloc _ _ _ (by simp; omega))
  have hx := limbs2 (((w.alloc (.cells #[.int .i64 2, .bool false] 58)))) 0 1 (by omega) (by omega)
  have hx2 := hx.kept ((Below.refl _ _).alloc (Nat.le_refl _) (.cells #[.int .u32 0, .int .u32 1] 48))
  have hy := limbs2 ((w.alloc (.cells #[.int .i64 2, .bool false] 58)).alloc (.cells #[.int .u32 0, .int .u32 1] 48)) 0 1 (by omega) (by omega)
  simp only [World.size_alloc] at hx2 hy
  refine (Mul_any w.heap.size 2 _ _ [0, 1] [0, 1] 2 2 _ false hb (by unfold maxLen; omega) hx2 hy).mono ?_
  rintro e w1 ⟨a, c, rfl, hat, hb1, hg⟩
  have hov : outO 2 false (V [0, 1] * V [0, 1]) = true := by
    have : ¬ (L (V [0, 1] * V [0, 1])).length ≤ 2 := fun h => by
      have := (L_len _ _).1 h
      simp [V, Rep.val] at this
    simp only [outO, Bool.false_or]
    exact decide_eq_true (by omega)
  rw [hov] at hb1
  have hzero : outN 2 false (V [0, 1] * V [0, 1]) = 0 := by unfold outN; rw [hov]; rfl
  rw [hzero, L_zero]
  have hB : Below w.heap.size w w1 := ((((Below.refl _ w).alloc (Nat.le_refl _) _).alloc (by simp) _).alloc (by simp; omega) _).grown hg (by simp; omega) (fun k hk => by cases hk; exact Nat.le_refl _)
  clear hb hx hx2 hy hg hat hov hzero
  have HB := Lib.hid hB
  go_wp2_with fail
  refine (over_any w1 w.heap.size 2 true hb1).mono ?_
  rintro e w2 ⟨rfl, rfl⟩
  clear hb1
  go_wp2_with fail
  refine (of_any 4294967296 (by omega) w1).mono ?_
  rintro e w2 ⟨a3, c3, rfl, hat3, hb3⟩
  have hlen3 : (L 4294967296).length ≤ 2 := (L_len _ _).2 (by omega)
  have HB2 := Lib.hid (HB.out.trans (hb3.mono HB.out.size))
  have HT := Lib.hid (Text_any a3 (L 4294967296) c3 w2 (hat3.inn (by omega)))
  clear hb3 hat3 hlen3
  go_wp2_with fail
  refine HT.out.mono ?_
  rintro e w3 ⟨rfl, hb4⟩
  rw [V_L, txt_example]
  have HB3 := Lib.hid (HB2.out.trans (hb4.mono HB2.out.size))
  clear hb4
  go_wp2_with fail
  go_ret
  exact ⟨congrArg (fun b => Ending.returned (.bool b)) (by decide +kernel), HB3.out⟩
/-- Limbs that a law is handed. -/
structure Handed (w : World) (a : Option Addr) (c : Nat) (xs : List Nat) : Prop where
  lim : Lim xs
  reads : Reads w a (xs.map u32v)
  le : xs.length ≤ c
  cap : c ≤ maxLen
theorem Handed.inn {w : World} {a : Option Addr} {c : Nat} {xs : List Nat} (h : Handed w a c xs) (hl : xs.length ≤ 12) : NumIn w a c xs := ⟨h.lim, h.reads, h.le, h.cap, by omega⟩
theorem Handed.kept {w w' : World} {a : Option Addr} {c : Nat} {xs : List Nat} (h : Handed w a c xs) (hb : Below w.heap.size w w') : Handed w' a c xs := ⟨h.lim, h.reads.kept hb, h.le, h.cap⟩
/-- A law holds: true, and what there was is as it was. -/
def Holds (w : World) (e : Ending) (w' : World) : Prop := e = .returned (.bool true) ∧ Below w.heap.size w w'
end Go.Proofs.YtaiemcacpimcjaaDoor
