/-
  nat's benches: Add, Sub, Mul.
-/
import Derived.Test.YtaiemcacpimcjaaDoorBench
import Derived.Test.YtaiemcacpimcjaaDoorCmpNat
import Derived.Test.YtaiemcacpimcjaaDoorAdd
import Derived.Test.YtaiemcacpimcjaaDoorMul
import Derived.Test.YtaiemcacpimcjaaDoorTake
set_option linter.unusedVariables false
set_option linter.unusedSimpArgs false
namespace Go.Proofs.YtaiemcacpimcjaaDoor
open Go.RowKit Rep

/-- Limbs that are handed in. -/
structure NumIn (w : World) (a : Option Addr) (c : Nat) (xs : List Nat) : Prop where
  lim : Lim xs
  reads : Reads w a (xs.map u32v)
  le : xs.length ≤ c
  cap : c ≤ maxLen
  len : xs.length ≤ 1073741824
theorem NumIn.kept {w w' : World} {a : Option Addr} {c : Nat} {xs : List Nat} (h : NumIn w a c xs) (hb : Below w.heap.size w w') : NumIn w' a c xs := ⟨h.lim, h.reads.kept hb, h.le, h.cap, h.len⟩
theorem NumAt.inn {w : World} {a : Option Addr} {c n : Nat} (h : NumAt w a c n) (hl : (L n).length ≤ 1073741824) : NumIn w a c (L n) := ⟨L_lim n, h.1, h.2.1, h.2.2, hl⟩

theorem GivesOut.zero {b m : Nat} {w w' : World} (h : Bench w' b m false) (hb : w.grownBy w' (some b)) : GivesOut b m false 0 w (.returned (.slice none 0 0)) w' := by
  have ho : outO m false 0 = false := by simp [outO, L_zero]
  exact ⟨none, 0, by simp [outN, ho, L_zero], by simp only [outN, ho]; exact NumAt.zero _, by rw [ho]; exact h, hb⟩
theorem GivesOut.over' {b m n : Nat} {w w' : World} (h : Bench w' b m true) (hn : m < (L n).length) (hb : w.grownBy w' (some b)) : GivesOut b m false n w (.returned (.slice none 0 0)) w' := by
  have ho : outO m false n = true := by simp [outO, hn]
  exact ⟨none, 0, by simp [outN, ho, L_zero], by simp only [outN, ho]; exact NumAt.zero _, by rw [ho]; exact h, hb⟩
theorem grown_refl (w : World) (row : Option Nat) : w.grownBy w row := ⟨rfl, rfl, rfl, Nat.le_refl _, fun _ _ _ => rfl⟩

/-- Of a bench that is over nothing comes. -/
theorem GivesOut.gone {b m n : Nat} {w : World} (h : Bench w b m true) : GivesOut b m true n w (.returned (.slice none 0 0)) w :=
  ⟨none, 0, by simp [outN, outO, L_zero], by simp only [outN, outO, Bool.true_or, if_true]; exact NumAt.zero w, h, grown_refl _ _⟩

set_option maxRecDepth 100000 in
set_option maxHeartbeats 400000 in
theorem Add_over (b m : Nat) (vx vy : Value) (n : Nat) (w : World) (h : Bench w b m true) :
    Calls Tryd.prog 14 #[.pointer (some ⟨b, 0, none⟩), vx, vy] w (GivesOut b m true n w) := by
  have h1 := h.c1
  have HG := Lib.hid (GivesOut.gone (n := n) h)
  clear h
  go_enter Tryd.func14, Tryd.ntmps14
  go_wp2_with fail
  go_ret
  exact HG.out

set_option maxRecDepth 100000 in
set_option maxHeartbeats 400000 in
theorem Add_any (b m : Nat) (ax ay : Option Addr) (xs ys : List Nat) (cx cy : Nat) (w : World) (o : Bool) (h : Bench w b m o) (hx : NumIn w ax cx xs) (hy : NumIn w ay cy ys) :
    Calls Tryd.prog 14 #[.pointer (some ⟨b, 0, none⟩), .slice ax xs.length cx, .slice ay ys.length cy] w (GivesOut b m o (V xs + V ys) w) := by
  cases o with
  | true => exact Add_over b m _ _ _ w h
  | false =>
    have h1 := h.c1
    have HB := Lib.hid h
    clear h
    go_enter Tryd.func14, Tryd.ntmps14
    go_wp2_with fail
    refine (add_any ax ay xs ys cx cy w hx.lim hy.lim hx.reads hy.reads hx.len hy.len).mono ?_
    rintro e w1 ⟨a, c, rfl, hat, hb⟩
    go_wp2_with fail
    refine (fit_out w w1 b m false a (V xs + V ys) c HB.out hat hb).mono ?_
    rintro e w2 ⟨a', c', rfl, hg⟩
    go_wp2_with fail
    go_ret
    exact ⟨a', c', rfl, hg⟩

theorem len_mul {n m : Nat} (hn : n ≠ 0) (hm : m ≠ 0) : (L n).length + (L m).length - 1 ≤ (L (n * m)).length := by
  have h1 := pow_le_val (b := 4294967296) (rep_top (b := 4294967296) (by omega) n) (fun h => hn ((rep_eq_nil (b := 4294967296) (by omega)).1 h))
  have h2 := pow_le_val (b := 4294967296) (rep_top (b := 4294967296) (by omega) m) (fun h => hm ((rep_eq_nil (b := 4294967296) (by omega)).1 h))
  rw [val_rep (b := 4294967296) (by omega)] at h1 h2
  have h3 := Nat.mul_le_mul h1 h2
  rw [← Nat.pow_add] at h3
  have h4 : ¬ (L (n * m)).length ≤ (L n).length - 1 + ((L m).length - 1) := fun h => by
    have := (L_len (n * m) _).1 h
    unfold L at this
    omega
  have h5 : (L n).length ≠ 0 := fun h => hn (L_len_zero.1 h)
  have h6 : (L m).length ≠ 0 := fun h => hm (L_len_zero.1 h)
  omega

set_option maxRecDepth 100000 in
set_option maxHeartbeats 1000000 in
theorem Mul_any (b m : Nat) (ax ay : Option Addr) (xs ys : List Nat) (cx cy : Nat) (w : World) (o : Bool) (h : Bench w b m o) (hmm : m ≤ maxLen) (hx : NumIn w ax cx xs) (hy : NumIn w ay cy ys) :
    Calls Tryd.prog 18 #[.pointer (some ⟨b, 0, none⟩), .slice ax xs.length cx, .slice ay ys.length cy] w (GivesOut b m o (V xs * V ys) w) := by
  unfold maxLen at hmm
  have h0 := h.c0
  have h1 := h.c1
  have h2 := h.free 1
  have HB := Lib.hid h
  have hlx := cutAt_len xs hx.lim
  have hly := cutAt_len ys hy.lim
  have hxl := hx.len
  have hyl := hy.len
  clear h
  go_enter Tryd.func18, Tryd.ntmps18
  go_wp2_with fail
  refine (trim_num ax xs cx w hx.lim hx.reads hx.le hx.cap).mono ?_
  rintro e w' ⟨a1, c1, rfl, n1, rfl⟩
  go_wp2_with fail
  refine (trim_num ay ys cy w hy.lim hy.reads hy.le hy.cap).mono ?_
  rintro e w' ⟨a2, c2, rfl, n2, rfl⟩
  clear hx hy
  generalize hN : V xs = N at *
  generalize hM : V ys = M at *
  clear hN hM
  have HN := Lib.hid n1
  have HM := Lib.hid n2
  clear n1 n2
  cases o with
  | true =>
    go_wp2_with fail
    go_ret
    exact GivesOut.gone HB.out
  | false =>
    by_cases hz : N = 0
    · subst hz
      rw [L_zero]
      go_wp2_with fail
      go_ret
      rw [Nat.zero_mul]
      exact GivesOut.zero HB.out (grown_refl _ _)
    · have hl1 : (L N).length ≠ 0 := fun h => hz (L_len_zero.1 h)
      have e1 : (((L N).length : Int) == 0) = false := by simp; exact fun h => hl1 (by rw [h]; rfl)
      have g1 : 0 < (L N).length := by omega
      by_cases hz2 : M = 0
      · subst hz2
        rw [L_zero]
        go_wp2_with fail
        go_ret
        rw [Nat.mul_zero]
        exact GivesOut.zero HB.out (grown_refl _ _)
      · have hl2 : (L M).length ≠ 0 := fun h => hz2 (L_len_zero.1 h)
        have e2 : (((L M).length : Int) == 0) = false := by simp; exact fun h => hl2 (by rw [h]; rfl)
        have g2 : 0 < (L M).length := by omega
        have HLM := Lib.hid (len_mul hz hz2)
        clear hl1 hl2
        by_cases hgt : m < (L N).length + (L M).length - 1
        · have hgt' : (m : Int) < ((L N).length : Int) + ((L M).length : Int) - 1 := by omega
          go_wp2_with fail
          go_ret
          exact GivesOut.over' (HB.out.set true) (by have := HLM.out; omega) ⟨rfl, rfl, rfl, by simp [World.setCell], fun k hk hne => Below.heap_setCell _ _ _ _ (by simpa using hne)⟩
        · have hgt' : ¬ (m : Int) < ((L N).length : Int) + ((L M).length : Int) - 1 := by omega
          go_wp2_with fail
          refine (multiply_any a1 a2 (L N) (L M) c1 c2 w (L_lim N) (L_lim M) HN.out.1 HM.out.1 (by omega) (by omega)).mono ?_
          rintro e w1 ⟨a, c, rfl, hat, hb⟩
          rw [V_L, V_L] at hat ⊢
          go_wp2_with fail
          refine (fit_out w w1 b m false a (N * M) c HB.out hat hb).mono ?_
          rintro e w2 ⟨a', c', rfl, hg⟩
          go_wp2_with fail
          go_ret
          exact ⟨a', c', rfl, hg⟩
end Go.Proofs.YtaiemcacpimcjaaDoor
