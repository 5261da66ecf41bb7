/-
  NatOver: a bench that is over answers nothing any more: the law's walk.
-/
import Derived.Test.YtaiemcacpimcjaaDoorLawBase
set_option linter.unusedVariables false
set_option linter.unusedSimpArgs false
namespace Go.Proofs.YtaiemcacpimcjaaDoor
open Go.RowKit Rep

set_option maxRecDepth 100000 in
set_option maxHeartbeats 400000 in
theorem Gcd_over (b m : Nat) (vx vy : Value) (n : Nat) (w : World) (h : Bench w b m true) :
    Calls Tryd.prog 20 #[.pointer (some ⟨b, 0, none⟩), vx, vy] w (GivesOut b m true n w) := by
  have h1 := h.c1
  have HG := Lib.hid (GivesOut.gone (n := n) h)
  clear h
  go_enter Tryd.func20, Tryd.ntmps20
  go_wp2_with fail
  go_ret
  exact HG.out

set_option maxRecDepth 100000 in
set_option maxHeartbeats 400000 in
theorem Parse_over (b m : Nat) (v : Value) (w : World) (h : Bench w b m true) :
    Calls Tryd.prog 29 #[.pointer (some ⟨b, 0, none⟩), v] w (Gives (.tuple #[.slice none 0 0, .bool false]) w) := by
  have h1 := h.c1
  clear h
  go_enter Tryd.func29, Tryd.ntmps29
  go_wp2_with fail
  go_ret2
  exact Gives.mk' rfl

set_option maxRecDepth 100000 in
set_option maxHeartbeats 400000 in
theorem Div_over (b m : Nat) (ax ay : Option Addr) (xs ys : List Nat) (cx cy : Nat) (w : World) (h : Bench w b m true) (hx : NumIn w ax cx xs) (hy : NumIn w ay cy ys) :
    Calls Tryd.prog 22 #[.pointer (some ⟨b, 0, none⟩), .slice ax xs.length cx, .slice ay ys.length cy] w (Gives (.tuple #[.slice none 0 0, .slice none 0 0]) w) := by
  have h1 := h.c1
  clear h
  go_enter Tryd.func22, Tryd.ntmps22
  go_wp2_with fail
  refine (trim_num ax xs cx w hx.lim hx.reads hx.le hx.cap).mono ?_
  rintro e w' ⟨a1, c1, rfl, n1, rfl⟩
  go_wp2_with fail
  refine (trim_num ay ys cy w hy.lim hy.reads hy.le hy.cap).mono ?_
  rintro e w' ⟨a2, c2, rfl, n2, rfl⟩
  clear n1 n2 hx hy
  go_wp2_with fail
  go_ret2
  exact Gives.mk' rfl

theorem limbs1 (w : World) (x : Nat) (hx : x < 4294967296) : NumIn (w.alloc (.cells #[.int .u32 (x : Int)] 48)) (some ⟨w.heap.size, 0, none⟩) 1 [x] :=
  ⟨Dig.cons hx (Dig.nil _), by simpa [u32v] using (Row.new (E := 48) w #[.int .u32 (x : Int)]).reads0, by simp, by simp [maxLen], by simp⟩

theorem NumIn.bench {w w' : World} {b m : Nat} {o : Bool} {a : Option Addr} {c : Nat} {xs : List Nat} (h : NumIn w a c xs) (hb : Bench w b m o) (hg : w.grownBy w' (some b)) : NumIn w' a c xs :=
  ⟨h.lim, h.reads.grown hg (hb.apart h.reads), h.le, h.cap, h.len⟩
theorem GivesOut.gone' {b m n : Nat} {w w' : World} {e : Ending} (h : GivesOut b m true n w e w') : ∃ a c, e = .returned (.slice a 0 c) ∧ Bench w' b m true ∧ w.grownBy w' (some b) := by
  obtain ⟨a, c, rfl, hat, hb, hg⟩ := h
  have h0 : outN m true n = 0 := by simp [outN, outO]
  exact ⟨a, c, by rw [h0]; rfl, by simpa [outO] using hb, hg⟩

theorem two_reads (w : World) (t u : Option Addr × Nat × Nat) : Reads (w.alloc (.cells #[sliceV t, sliceV u] 23)) (some ⟨w.heap.size, 0, none⟩) ([t, u].map sliceV) := by
  simpa using (Row.new (E := 23) w #[sliceV t, sliceV u]).reads0

set_option maxRecDepth 100000 in
set_option maxHeartbeats 2000000 in
theorem over_walk (ax ay : Option Addr) (xs ys : List Nat) (cx cy : Nat) (s : ByteArray) (w : World) (hx : Handed w ax cx xs) (hy : Handed w ay cy ys) (hs : s.size ≤ maxLen) :
    Calls Tryd.prog 5 #[.slice ax xs.length cx, .slice ay ys.length cy, .string s] w (Holds w) := by
  unfold maxLen at hs
  go_enter Tryd.func5, Tryd.ntmps5
  go_wp2_with fail
  refine (speaks_any w).mono ?_
  rintro e w1 ⟨rfl, hb1⟩
  have HB1 := Lib.hid hb1
  have HX := Lib.hid (hx.kept hb1)
  have HY := Lib.hid (hy.kept hb1)
  have hgr := great_any (some ⟨w1.heap.size, 0, none⟩) 2 [(ax, xs.length, cx), (ay, ys.length, cy)] _ (two_reads w1 (ax, xs.length, cx) (ay, ys.length, cy)) (by simp)
  have HG := Lib.hid hgr
  clear hb1 hx hy hgr
  go_wp2_with fail
  refine HG.out.mono ?_
  rintro e w2 ⟨rfl, rfl⟩
  have HB2 := Lib.hid (HB1.out.alloc HB1.out.size (.cells #[sliceV (ax, xs.length, cx), sliceV (ay, ys.length, cy)] 23))
  have hb2 := (Below.refl w1.heap.size w1).alloc (Nat.le_refl _) (.cells #[sliceV (ax, xs.length, cx), sliceV (ay, ys.length, cy)] 23)
  have HX2 := Lib.hid (HX.out.kept hb2)
  have HY2 := Lib.hid (HY.out.kept hb2)
  clear hb2 HG HX HY HB1
  by_cases hgt : xs.length ≤ 12 ∧ ys.length ≤ 12
  · have hany : ([(ax, xs.length, cx), (ay, ys.length, cy)].any fun t => decide (12 < t.2.1)) = false := by simp; omega
    rw [hany]
    clear hany
    by_cases hs100 : 100 < s.size
    · have h100 : (100 : Int) < (s.size : Int) := by omega
      go_wp2_with fail
      go_ret
      exact ⟨rfl, HB2.out⟩
    · have h100 : ¬ (100 : Int) < (s.size : Int) := by omega
      generalize hw2 : w1.alloc (.cells #[sliceV (ax, xs.length, cx), sliceV (ay, ys.length, cy)] 23) = w2 at *
      clear hw2
      go_wp2_with fail
      refine (new_high 1 w2 (by omega) (by unfold maxLen; omega)).mono ?_
      rintro e w' ⟨rfl, rfl⟩
      go_wp2_with fail
      have hb : Bench (((w2.alloc (.cells #[.int .i64 1, .bool false] 58)).alloc (.cells #[.int .u32 0, .int .u32 1] 48)).alloc (.cells #[.int .u32 5] 48)) w2.heap.size 1 false := by
        have h := (GivesBench.bench (m := 1) (w := w2))
        exact (h.of_block (Below.heap_alloc _ _ _ (by simp))).of_block (Below.heap_alloc _ _ _ (by simp; omega))
      have hx := limbs2 (((w2.alloc (.cells #[.int .i64 1, .bool false] 58)))) 0 1 (by omega) (by omega)
      have hx2 := hx.kept ((Below.refl _ _).alloc (Nat.le_refl _) (.cells #[.int .u32 5] 48))
      have hy := limbs1 ((w2.alloc (.cells #[.int .i64 1, .bool false] 58)).alloc (.cells #[.int .u32 0, .int .u32 1] 48)) 5 (by omega)
      simp only [World.size_alloc] at hx2 hy
      refine (Mul_any w2.heap.size 1 _ _ [0, 1] [5] 2 1 _ false hb (by unfold maxLen; omega) hx2 hy).mono ?_
      rintro e w3 ⟨a, c, rfl, hat, hb1, hg⟩
      have hov : outO 1 false (V [0, 1] * V [5]) = true := by
        have : ¬ (L (V [0, 1] * V [5])).length ≤ 1 := fun h => by
          have := (L_len _ _).1 h
          simp [V, Rep.val] at this
        simp only [outO, Bool.false_or]
        exact decide_eq_true (by omega)
      rw [hov] at hb1
      have hB : Below w2.heap.size w2 w3 := ((((Below.refl _ w2).alloc (Nat.le_refl _) _).alloc (by simp) _).alloc (by simp; omega) _).grown hg (by simp; omega) (fun k hk => by cases hk; exact Nat.le_refl _)
      have HB3 := Lib.hid (HB2.out.trans (hB.mono HB2.out.size))
      have HX3 := Lib.hid ((HX2.out.kept hB).inn hgt.1)
      have HY3 := Lib.hid ((HY2.out.kept hB).inn hgt.2)
      have HE := Lib.hid hb1
      have hsz : w.heap.size ≤ w2.heap.size := HB2.out.size
      clear hb hx hx2 hy hg hat hov hB hb1 HX2 HY2 HB2
      generalize w2.heap.size = b at *
      go_wp2_with fail
      refine (Div_over b 1 ax ay xs ys cx cy w3 HE.out HX3.out HY3.out).mono ?_
      rintro e w' ⟨rfl, rfl⟩
      go_wp2_with fail
      refine (Parse_over b 1 _ w3 HE.out).mono ?_
      rintro e w' ⟨rfl, rfl⟩
      go_wp2_with fail
      refine (over_any w3 b 1 true HE.out).mono ?_
      rintro e w' ⟨rfl, rfl⟩
      go_wp2_with fail
      refine (Add_over b 1 _ _ 0 w3 HE.out).mono ?_
      rintro e w4 hg4
      obtain ⟨a1, c1, rfl, e4, g4⟩ := hg4.gone'
      have HX4 := Lib.hid (HX3.out.bench HE.out g4)
      have HY4 := Lib.hid (HY3.out.bench HE.out g4)
      have HB4 := Lib.hid (HB3.out.grown g4 HB3.out.size (fun k hk => by cases hk; exact hsz))
      have HE4 := Lib.hid e4
      clear hg4 e4 g4
      go_wp2_with fail
      refine (Sub_any b 1 ax ay xs ys cx cy w4 true HE4.out HX4.out HY4.out).mono ?_
      rintro e w5 hg5
      obtain ⟨a2, c2, rfl, e5, g5⟩ := hg5.gone'
      have HX5 := Lib.hid (HX4.out.bench HE4.out g5)
      have HY5 := Lib.hid (HY4.out.bench HE4.out g5)
      have HB5 := Lib.hid (HB4.out.grown g5 HB4.out.size (fun k hk => by cases hk; exact hsz))
      have HE5 := Lib.hid e5
      clear hg5 e5 g5
      go_wp2_with fail
      refine (Mul_any b 1 ax ay xs ys cx cy w5 true HE5.out (by unfold maxLen; omega) HX5.out HY5.out).mono ?_
      rintro e w6 hg6
      obtain ⟨a3, c3, rfl, e6, g6⟩ := hg6.gone'
      have HB6 := Lib.hid (HB5.out.grown g6 HB5.out.size (fun k hk => by cases hk; exact hsz))
      have HE6 := Lib.hid e6
      clear hg6 e6 g6
      go_wp2_with fail
      refine (Gcd_over b 1 _ _ 0 w6 HE6.out).mono ?_
      rintro e w7 hg7
      obtain ⟨a4, c4, rfl, e7, g7⟩ := hg7.gone'
      have HB7 := Lib.hid (HB6.out.grown g7 HB6.out.size (fun k hk => by cases hk; exact hsz))
      have HE7 := Lib.hid e7
      clear hg7 e7 g7
      go_wp2_with fail
      refine (over_any w7 b 1 true HE7.out).mono ?_
      rintro e w' ⟨rfl, rfl⟩
      go_wp2_with fail
      go_ret
      exact ⟨rfl, HB7.out⟩
  · have hany : ([(ax, xs.length, cx), (ay, ys.length, cy)].any fun t => decide (12 < t.2.1)) = true := by simp; omega
    rw [hany]
    clear hany
    go_wp2_with fail
    go_ret
    exact ⟨rfl, HB2.out⟩
end Go.Proofs.YtaiemcacpimcjaaDoor
