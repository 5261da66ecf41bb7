/-
  NatRules: sums, products, what is left, put together again: the law's walk.
-/
import Derived.Test.YtaiemcacpimcjaaDoorSt
set_option linter.unusedVariables false
set_option linter.unusedSimpArgs false
namespace Go.Proofs.YtaiemcacpimcjaaDoor
open Go.RowKit Rep

theorem three_reads (w : World) (t u v : Option Addr × Nat × Nat) : Reads (w.alloc (.cells #[sliceV t, sliceV u, sliceV v] 23)) (some ⟨w.heap.size, 0, none⟩) ([t, u, v].map sliceV) := by
  simpa using (Row.new (E := 23) w #[sliceV t, sliceV u, sliceV v]).reads0

set_option maxRecDepth 100000 in
set_option maxHeartbeats 4000000 in
theorem rules_walk (ax ay az : Option Addr) (xs ys zs : List Nat) (cx cy cz : Nat) (w : World) (hx : Handed w ax cx xs) (hy : Handed w ay cy ys) (hz : Handed w az cz zs) (hT : Tab w) :
    Calls Tryd.prog 6 #[.slice ax xs.length cx, .slice ay ys.length cy, .slice az zs.length cz] w (Holds w) := by
  go_enter Tryd.func6, Tryd.ntmps6
  go_wp2_with fail
  refine (speaks_any w).mono ?_
  rintro e w1 ⟨rfl, hb1⟩
  have HB1 := Lib.hid hb1
  have HX := Lib.hid (hx.kept hb1)
  have HY := Lib.hid (hy.kept hb1)
  have HZ := Lib.hid (hz.kept hb1)
  have HT := Lib.hid (hT.kept hb1)
  have HG := Lib.hid (great_any (some ⟨w1.heap.size, 0, none⟩) 3 [(ax, xs.length, cx), (ay, ys.length, cy), (az, zs.length, cz)] _ (three_reads w1 (ax, xs.length, cx) (ay, ys.length, cy) (az, zs.length, cz)) (by simp))
  clear hb1 hx hy hz hT
  go_wp2_with fail
  refine HG.out.mono ?_
  rintro e w2 ⟨rfl, rfl⟩
  have HB2 := Lib.hid (HB1.out.alloc HB1.out.size (.cells #[sliceV (ax, xs.length, cx), sliceV (ay, ys.length, cy), sliceV (az, zs.length, cz)] 23))
  have hb2 := (Below.refl w1.heap.size w1).alloc (Nat.le_refl _) (.cells #[sliceV (ax, xs.length, cx), sliceV (ay, ys.length, cy), sliceV (az, zs.length, cz)] 23)
  have HX2 := Lib.hid (HX.out.kept hb2)
  have HY2 := Lib.hid (HY.out.kept hb2)
  have HZ2 := Lib.hid (HZ.out.kept hb2)
  have HT2 := Lib.hid (HT.out.kept hb2)
  clear hb2 HG HX HY HZ HT HB1
  by_cases hgt : xs.length ≤ 12 ∧ ys.length ≤ 12 ∧ zs.length ≤ 12
  · have hany : ([(ax, xs.length, cx), (ay, ys.length, cy), (az, zs.length, cz)].any fun t => decide (12 < t.2.1)) = false := by simp; omega
    rw [hany]
    clear hany
    generalize hw2 : w1.alloc (.cells #[sliceV (ax, xs.length, cx), sliceV (ay, ys.length, cy), sliceV (az, zs.length, cz)] 23) = w2 at *
    clear hw2
    obtain ⟨g1, g2, g3⟩ := hgt
    go_wp2_with fail
    refine (new_high 100 w2 (by omega) (by unfold maxLen; omega)).mono ?_
    rintro e w' ⟨rfl, rfl⟩
    have hbl := (Below.refl w2.heap.size w2).alloc (Nat.le_refl _) (.cells #[.int .i64 ((100 : Nat) : Int), .bool false] 58)
    have HS : Hid (StB w2.heap.size 100 w (w2.alloc (.cells #[.int .i64 ((100 : Nat) : Int), .bool false] 58)) [(ax, cx, xs), (ay, cy, ys), (az, cz, zs), (none, 0, [])]) := Lib.hid
      ⟨GivesBench.bench, HB2.out.trans (hbl.mono HB2.out.size), HB2.out.size, HT2.out.kept hbl, by unfold maxLen; omega, fun t ht => by
        simp only [List.mem_cons, List.not_mem_nil, or_false] at ht
        rcases ht with rfl | rfl | rfl | rfl
        · exact ⟨(HX2.out.kept hbl).inn g1, Nat.le_trans g1 (by omega)⟩
        · exact ⟨(HY2.out.kept hbl).inn g2, Nat.le_trans g2 (by omega)⟩
        · exact ⟨(HZ2.out.kept hbl).inn g3, Nat.le_trans g3 (by omega)⟩
        · exact ⟨(NumAt.zero _).inn (by simp [L_zero]), by simp⟩⟩
    have lX := V_len HX2.out.lim g1
    have lY := V_len HY2.out.lim g2
    have lZ := V_len HZ2.out.lim g3
    obtain ⟨X, hX⟩ : ∃ X, V xs = X := ⟨_, rfl⟩
    obtain ⟨Y, hY⟩ : ∃ Y, V ys = Y := ⟨_, rfl⟩
    obtain ⟨Z, hZ⟩ : ∃ Z, V zs = Z := ⟨_, rfl⟩
    rw [hX] at lX
    rw [hY] at lY
    rw [hZ] at lZ
    obtain ⟨S, hS⟩ : ∃ S, X + Y = S := ⟨_, rfl⟩
    obtain ⟨T, hTe⟩ : ∃ T, Y + Z = T := ⟨_, rfl⟩
    obtain ⟨P, hP⟩ : ∃ P, X * Y = P := ⟨_, rfl⟩
    obtain ⟨R4, hR4⟩ : ∃ R4, X * Z = R4 := ⟨_, rfl⟩
    obtain ⟨U, hU⟩ : ∃ U, X * T = U := ⟨_, rfl⟩
    have hU2 : P + R4 = U := by rw [← hU, ← hTe, Nat.mul_add, hP, hR4]
    have lS : (L S).length ≤ 13 := by have := L_add lX lY; rw [hS] at this; omega
    have lT : (L T).length ≤ 13 := by have := L_add lY lZ; rw [hTe] at this; omega
    have lP : (L P).length ≤ 24 := by have := L_mul lX lY; rw [hP] at this; omega
    have lR4 : (L R4).length ≤ 24 := by have := L_mul lX lZ; rw [hR4] at this; omega
    have lU : (L U).length ≤ 25 := by have := L_mul lX lT; rw [hU] at this; omega
    have E := Lib.hid (And.intro hX (And.intro hY (And.intro hZ (And.intro hS (And.intro hTe (And.intro hP (And.intro hR4 (And.intro hU hU2))))))))
    have vX : Hid (V xs = X) := Lib.hid hX
    have vY : Hid (V ys = Y) := Lib.hid hY
    have vZ : Hid (V zs = Z) := Lib.hid hZ
    clear hX hY hZ hS hTe hP hR4 hU hU2 hbl HX2 HY2 HZ2 HT2 HB2
    generalize hbb : w2.heap.size = b at *
    generalize w2.alloc (.cells #[.int .i64 ((100 : Nat) : Int), .bool false] 58) = w3 at *
    clear hbb
    go_wp2_with fail
    refine (HS.out.add (xs := xs) (ys := ys) (by simp) (by simp) vX.out vY.out E.out.2.2.2.1 (by omega) (by omega)).mono ?_
    rintro e W1 ⟨a1, c1, rfl, HS'⟩
    clear HS
    have HS := HS'
    clear HS'
    go_wp2_with fail
    refine (HS.out.add (xs := ys) (ys := xs) (by simp) (by simp) vY.out vX.out ((Nat.add_comm Y X).trans E.out.2.2.2.1) (by omega) (by omega)).mono ?_
    rintro e W2 ⟨a2, c2, rfl, HS'⟩
    clear HS
    have HS := HS'
    clear HS'
    go_wp2_with fail
    refine (HS.out.same (by simp) (by simp) rfl).mono ?_
    rintro e W3 ⟨rfl, HS'⟩
    clear HS
    have HS := HS'
    clear HS'
    go_wp2_with fail
    refine (HS.out.mul (xs := xs) (ys := ys) (by simp) (by simp) vX.out vY.out E.out.2.2.2.2.2.1 (by omega) (by omega)).mono ?_
    rintro e W4 ⟨a4, c4, rfl, HS'⟩
    clear HS
    have HS := HS'
    clear HS'
    go_wp2_with fail
    refine (HS.out.mul (xs := ys) (ys := xs) (by simp) (by simp) vY.out vX.out ((Nat.mul_comm Y X).trans E.out.2.2.2.2.2.1) (by omega) (by omega)).mono ?_
    rintro e W5 ⟨a5, c5, rfl, HS'⟩
    clear HS
    have HS := HS'
    clear HS'
    go_wp2_with fail
    refine (HS.out.same (by simp) (by simp) rfl).mono ?_
    rintro e W6 ⟨rfl, HS'⟩
    clear HS
    have HS := HS'
    clear HS'
    go_wp2_with fail
    refine (HS.out.add (xs := ys) (ys := zs) (by simp) (by simp) vY.out vZ.out E.out.2.2.2.2.1 (by omega) (by omega)).mono ?_
    rintro e W7 ⟨a7, c7, rfl, HS'⟩
    clear HS
    have HS := HS'
    clear HS'
    go_wp2_with fail
    refine (HS.out.mul (xs := xs) (ys := L T) (by simp) (by simp) vX.out (V_L _) E.out.2.2.2.2.2.2.2.1 (by omega) (by omega)).mono ?_
    rintro e W8 ⟨a8, c8, rfl, HS'⟩
    clear HS
    have HS := HS'
    clear HS'
    go_wp2_with fail
    refine (HS.out.mul (xs := xs) (ys := ys) (by simp) (by simp) vX.out vY.out E.out.2.2.2.2.2.1 (by omega) (by omega)).mono ?_
    rintro e W9 ⟨a9, c9, rfl, HS'⟩
    clear HS
    have HS := HS'
    clear HS'
    go_wp2_with fail
    refine (HS.out.mul (xs := xs) (ys := zs) (by simp) (by simp) vX.out vZ.out E.out.2.2.2.2.2.2.1 (by omega) (by omega)).mono ?_
    rintro e W10 ⟨a10, c10, rfl, HS'⟩
    clear HS
    have HS := HS'
    clear HS'
    go_wp2_with fail
    refine (HS.out.add (xs := L P) (ys := L R4) (by simp) (by simp) (V_L _) (V_L _) E.out.2.2.2.2.2.2.2.2 (by omega) (by omega)).mono ?_
    rintro e W11 ⟨a11, c11, rfl, HS'⟩
    clear HS
    have HS := HS'
    clear HS'
    go_wp2_with fail
    refine (HS.out.same (by simp) (by simp) rfl).mono ?_
    rintro e W12 ⟨rfl, HS'⟩
    clear HS
    have HS := HS'
    clear HS'
    go_wp2_with fail
    refine (HS.out.add (xs := xs) (ys := ys) (by simp) (by simp) vX.out vY.out E.out.2.2.2.1 (by omega) (by omega)).mono ?_
    rintro e W13 ⟨a13, c13, rfl, HS'⟩
    clear HS
    have HS := HS'
    clear HS'
    go_wp2_with fail
    refine (HS.out.sub (xs := L S) (ys := ys) (by simp) (by simp) (V_L _) vY.out (show S - Y = X by rw [← E.out.2.2.2.1]; omega) (by omega) (by omega)).mono ?_
    rintro e W14 ⟨a14, c14, rfl, HS'⟩
    clear HS
    have HS := HS'
    clear HS'
    go_wp2_with fail
    refine (HS.out.add (xs := xs) (ys := []) (by simp) (by simp) vX.out rfl (show X + 0 = X from rfl) (by omega) (by omega)).mono ?_
    rintro e W15 ⟨a15, c15, rfl, HS'⟩
    clear HS
    have HS := HS'
    clear HS'
    go_wp2_with fail
    refine (HS.out.same (by simp) (by simp) rfl).mono ?_
    rintro e W16 ⟨rfl, HS'⟩
    clear HS
    have HS := HS'
    clear HS'
    go_wp2_with fail
    refine (HS.out.of (by simp) vY.out).mono ?_
    rintro e W17 ⟨a17, c17, rfl, HO⟩
    have HS' := Lib.hid HO.out.1
    clear HS HO
    have HS := HS'
    clear HS'
    rcases Nat.eq_zero_or_pos Y with h0 | h0
    · have hz : (((D Y).length : Int) == 0) = true := by rw [h0]; rfl
      have hgX : Hid (Nat.gcd X Y = X) := Lib.hid (by rw [h0, Nat.gcd_zero_right])
      clear h0
      go_wp2_with fail
      refine (HS.out.gcd (xs := xs) (ys := ys) (by simp) (by simp) vX.out vY.out hgX.out (by omega) (by omega)).mono ?_
      rintro e W18 ⟨a18, c18, rfl, HS'⟩
      clear HS
      have HS := HS'
      clear HS'
      go_wp2_with fail
      refine (HS.out.add (xs := xs) (ys := []) (by simp) (by simp) vX.out rfl (show X + 0 = X from rfl) (by omega) (by omega)).mono ?_
      rintro e W19 ⟨a19, c19, rfl, HS'⟩
      clear HS
      have HS := HS'
      clear HS'
      go_wp2_with fail
      refine (HS.out.same (by simp) (by simp) rfl).mono ?_
      rintro e W20 ⟨rfl, HS'⟩
      clear HS
      have HS := HS'
      clear HS'
      go_wp2_with fail
      go_ret
      exact ⟨rfl, HS.out.below⟩
    · have hz : (((D Y).length : Int) == 0) = false := cast_beq_no (by rw [Ne, D_len_zero]; omega)
      obtain ⟨Q, hQ⟩ : ∃ Q, X / Y = Q := ⟨_, rfl⟩
      obtain ⟨R, hR⟩ : ∃ R, remN X Y = R := ⟨_, rfl⟩
      obtain ⟨G, hG⟩ : ∃ G, Nat.gcd X Y = G := ⟨_, rfl⟩
      obtain ⟨Q2, hQ2⟩ : ∃ Q2, X / G = Q2 := ⟨_, rfl⟩
      obtain ⟨Q3, hQ3⟩ : ∃ Q3, Y / G = Q3 := ⟨_, rfl⟩
      obtain ⟨W, hW⟩ : ∃ W, Q * Y = W := ⟨_, rfl⟩
      have hRe : R = X % Y := by rw [← hR]; unfold remN; rw [if_neg (by omega)]
      have hWR : W + R = X := by rw [← hW, hRe, ← hQ, Nat.mul_comm]; exact Nat.div_add_mod X Y
      have hcm : cmpI (R : Int) (Y : Int) = -1 := by
        have := Nat.mod_lt X h0
        unfold cmpI; rw [if_pos (by omega)]
      have hG0 : 0 < G := by rw [← hG]; exact Nat.gcd_pos_of_pos_right X h0
      have r2 : remN X G = 0 := by
        unfold remN; rw [if_neg (by omega), ← hG]; exact Nat.mod_eq_zero_of_dvd (Nat.gcd_dvd_left X Y)
      have r3 : remN Y G = 0 := by
        unfold remN; rw [if_neg (by omega), ← hG]; exact Nat.mod_eq_zero_of_dvd (Nat.gcd_dvd_right X Y)
      have lG : (L G).length ≤ 12 := by have := L_gcd lX lY; rw [hG] at this; omega
      have lW : (L W).length ≤ 12 := L_le lX (by omega)
      have F := Lib.hid (And.intro hQ (And.intro hR (And.intro hG (And.intro hQ2 (And.intro hQ3 (And.intro hW (And.intro hWR (And.intro hcm (And.intro r2 r3)))))))))
      clear hQ hR hG hQ2 hQ3 hW hRe hWR hcm hG0 r2 r3 h0
      go_wp2_with fail
      refine (HS.out.div (xs := xs) (ys := ys) (by simp) (by simp) vX.out vY.out F.out.1 F.out.2.1 (by omega) (by omega)).mono ?_
      rintro e W21 ⟨a21, c21, a21r, c21r, rfl, HS'⟩
      clear HS
      have HS := HS'
      clear HS'
      go_wp2_with fail
      refine (HS.out.gcd (xs := xs) (ys := ys) (by simp) (by simp) vX.out vY.out F.out.2.2.1 (by omega) (by omega)).mono ?_
      rintro e W22 ⟨a22, c22, rfl, HS'⟩
      clear HS
      have HS := HS'
      clear HS'
      go_wp2_with fail
      refine (HS.out.div (xs := xs) (ys := L G) (by simp) (by simp) vX.out (V_L _) F.out.2.2.2.1 F.out.2.2.2.2.2.2.2.2.1 (by omega) (by omega)).mono ?_
      rintro e W23 ⟨a23, c23, a23r, c23r, rfl, HS'⟩
      clear HS
      have HS := HS'
      clear HS'
      go_wp2_with fail
      refine (HS.out.div (xs := ys) (ys := L G) (by simp) (by simp) vY.out (V_L _) F.out.2.2.2.2.1 F.out.2.2.2.2.2.2.2.2.2 (by omega) (by omega)).mono ?_
      rintro e W24 ⟨a24, c24, a24r, c24r, rfl, HS'⟩
      clear HS
      have HS := HS'
      clear HS'
      go_wp2_with fail
      refine (HS.out.cmp (xs := L R) (ys := ys) (by simp) (by simp) (V_L _) vY.out).mono ?_
      rintro e W25 ⟨rfl, HS'⟩
      clear HS
      have HS := HS'
      clear HS'
      rw [F.out.2.2.2.2.2.2.2.1]
      go_wp2_with fail
      refine (HS.out.mul (xs := L Q) (ys := ys) (by simp) (by simp) (V_L _) vY.out F.out.2.2.2.2.2.1 (by omega) (by omega)).mono ?_
      rintro e W26 ⟨a26, c26, rfl, HS'⟩
      clear HS
      have HS := HS'
      clear HS'
      go_wp2_with fail
      refine (HS.out.add (xs := L W) (ys := L R) (by simp) (by simp) (V_L _) (V_L _) F.out.2.2.2.2.2.2.1 (by omega) (by omega)).mono ?_
      rintro e W27 ⟨a27, c27, rfl, HS'⟩
      clear HS
      have HS := HS'
      clear HS'
      go_wp2_with fail
      refine (HS.out.add (xs := xs) (ys := []) (by simp) (by simp) vX.out rfl (show X + 0 = X from rfl) (by omega) (by omega)).mono ?_
      rintro e W28 ⟨a28, c28, rfl, HS'⟩
      clear HS
      have HS := HS'
      clear HS'
      go_wp2_with fail
      refine (HS.out.same (by simp) (by simp) rfl).mono ?_
      rintro e W29 ⟨rfl, HS'⟩
      clear HS
      have HS := HS'
      clear HS'
      have hz0 : (((L 0).length : Int) == 0) = true := rfl
      go_wp2_with fail
      refine HS.out.over.mono ?_
      rintro e W' ⟨rfl, rfl⟩
      go_wp2_with fail
      go_ret
      exact ⟨rfl, HS.out.below⟩
  · have hany : ([(ax, xs.length, cx), (ay, ys.length, cy), (az, zs.length, cz)].any fun t => decide (12 < t.2.1)) = true := by simp; omega
    rw [hany]
    clear hany
    go_wp2_with fail
    go_ret
    exact ⟨rfl, HB2.out⟩
end Go.Proofs.YtaiemcacpimcjaaDoor
