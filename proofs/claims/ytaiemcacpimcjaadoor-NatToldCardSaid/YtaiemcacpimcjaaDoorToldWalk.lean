/-
  NatTold: any sum, difference, product, divisor, quotient on any bench: the law's walk.
-/
import Derived.Test.YtaiemcacpimcjaaDoorTold
set_option linter.unusedVariables false
set_option linter.unusedSimpArgs false
namespace Go.Proofs.YtaiemcacpimcjaaDoor
open Go.RowKit Rep

theorem new_all (n : Int) (h : n ≤ 9223372036854775807) : ∃ m : Nat, 1 ≤ m ∧ m ≤ maxLen ∧ max n 1 = (m : Int) ∧ ∀ w, Calls Tryd.prog 10 #[.int .i64 n] w (GivesBench m w) := by
  by_cases h1 : n < 1
  · exact ⟨1, by omega, by unfold maxLen; omega, by omega, fun w => new_low n w h1⟩
  · obtain ⟨m, rfl⟩ : ∃ m : Nat, n = (m : Int) := ⟨n.toNat, by omega⟩
    exact ⟨m, by omega, by unfold maxLen; omega, by omega, fun w => new_high m w (by omega) (by unfold maxLen; omega)⟩

set_option maxRecDepth 100000 in
set_option maxHeartbeats 8000000 in
theorem told_walk (n : Int) (ax ay : Option Addr) (xs ys : List Nat) (cx cy : Nat) (w : World) (hn : n ≤ 9223372036854775807) (hx : Handed w ax cx xs) (hy : Handed w ay cy ys) (hT : Tab w) :
    Calls Tryd.prog 3 #[.int .i64 n, .slice ax xs.length cx, .slice ay ys.length cy] w (Holds w) := by
  obtain ⟨m, hm1, hm2, hmx, hnew⟩ := new_all n hn
  have HNEW := Lib.hid hnew
  have HM := Lib.hid hm2
  have hmb : m ≤ 9223372036854775807 := by unfold maxLen at hm2; omega
  have HMX := Lib.hid hmx
  clear hnew hm2 hmx
  go_enter Tryd.func3, Tryd.ntmps3
  go_wp2_with fail
  refine (speaks_any w).mono ?_
  rintro e w1 ⟨rfl, hb1⟩
  have HB1 := Lib.hid hb1
  have HX := Lib.hid (hx.kept hb1)
  have HY := Lib.hid (hy.kept hb1)
  have HT := Lib.hid (hT.kept hb1)
  have HG := Lib.hid (great_any (some ⟨w1.heap.size, 0, none⟩) 2 [(ax, xs.length, cx), (ay, ys.length, cy)] _ (two_reads w1 (ax, xs.length, cx) (ay, ys.length, cy)) (by simp))
  clear hb1 hx hy hT
  go_wp2_with fail
  refine HG.out.mono ?_
  rintro e w2 ⟨rfl, rfl⟩
  have HB2 := Lib.hid (HB1.out.alloc HB1.out.size (.cells #[sliceV (ax, xs.length, cx), sliceV (ay, ys.length, cy)] 23))
  have hb2 := (Below.refl w1.heap.size w1).alloc (Nat.le_refl _) (.cells #[sliceV (ax, xs.length, cx), sliceV (ay, ys.length, cy)] 23)
  have HX2 := Lib.hid (HX.out.kept hb2)
  have HY2 := Lib.hid (HY.out.kept hb2)
  have HT2 := Lib.hid (HT.out.kept hb2)
  clear hb2 HG HX HY HT HB1
  by_cases hgt : xs.length ≤ 12 ∧ ys.length ≤ 12
  · have hany : ([(ax, xs.length, cx), (ay, ys.length, cy)].any fun t => decide (12 < t.2.1)) = false := by simp; omega
    rw [hany]
    clear hany
    generalize w1.alloc (.cells #[sliceV (ax, xs.length, cx), sliceV (ay, ys.length, cy)] 23) = w2 at *
    obtain ⟨g1, g2⟩ := hgt
    have HO1 := Lib.hid (OfD_any ax xs cx w2 HX2.out.lim HX2.out.reads (by omega))
    obtain ⟨X, hX⟩ : ∃ X, V xs = X := ⟨_, rfl⟩
    obtain ⟨Y, hY⟩ : ∃ Y, V ys = Y := ⟨_, rfl⟩
    have HO2 := Lib.hid (fun (w3 : World) (h : Below w2.heap.size w2 w3) => OfD_any ay ys cy w3 HY2.out.lim (HY2.out.reads.kept h) (by omega))
    rw [hX] at HO1
    rw [hY] at HO2
    have HE := Lib.hid (And.intro hX hY)
    clear hX hY
    go_wp2_with fail
    refine HO1.out.mono ?_
    rintro e w3 ⟨a1, c1, rfl, d1, b3, _⟩
    have HD1 := Lib.hid (And.intro d1 b3)
    clear d1 b3 HO1
    go_wp2_with fail
    refine (HO2.out w3 HD1.out.2).mono ?_
    rintro e w4 ⟨a2, c2, rfl, d2, b4, _⟩
    have HS : Hid (StT w ax cx xs ay cy ys a1 c1 a2 c2 X Y w4) := Lib.hid (by
      have b24 := HD1.out.2.trans (b4.mono HD1.out.2.size)
      exact ⟨HB2.out.trans (b24.mono HB2.out.size), HT2.out.kept b24, (HX2.out.kept b24).inn g1, (HY2.out.kept b24).inn g2, HD1.out.1.kept b4, d2, HE.out.1, HE.out.2, g1, g2⟩)
    clear d2 b4 HD1 HO2 HX2 HY2 HT2 HB2
    have hmx := HMX.out
    go_wp2_with fail
    refine (HNEW.out w4).mono ?_
    rintro e w' ⟨rfl, rfl⟩
    clear hmx
    go_wp2_with fail
    refine (limbs_any _ w4.heap.size m false (fresh_bench w4 m)).mono ?_
    rintro e w' ⟨rfl, rfl⟩
    go_wp2_with fail
    refine (over_any _ w4.heap.size m false (fresh_bench w4 m)).mono ?_
    rintro e w' ⟨rfl, rfl⟩
    go_wp2_with fail
    refine (HS.out.add HM.out).mono ?_
    rintro e w5 ⟨a, c, len, rfl, HR⟩
    clear HS
    go_wp2_with fail
    refine HR.out.mono ?_
    rintro e w6 ⟨ad, cd, ld, rfl, HTD⟩
    clear HR
    go_wp2_with fail
    refine HTD.out.mono ?_
    rintro e w7 ⟨rfl, HS⟩
    clear HTD
    go_wp2_with fail
    refine (HNEW.out w7).mono ?_
    rintro e w' ⟨rfl, rfl⟩
    go_wp2_with fail
    refine (HS.out.sub HM.out).mono ?_
    rintro e w8 ⟨a, c, len, rfl, HR⟩
    clear HS
    go_wp2_with fail
    refine HR.out.mono ?_
    rintro e w9 ⟨ad, cd, ld, rfl, HTD⟩
    clear HR
    go_wp2_with fail
    refine HTD.out.mono ?_
    rintro e w10 ⟨rfl, HS⟩
    clear HTD
    go_wp2_with fail
    refine (HNEW.out w10).mono ?_
    rintro e w' ⟨rfl, rfl⟩
    go_wp2_with fail
    refine (HS.out.mul HM.out).mono ?_
    rintro e w11 ⟨a, c, len, rfl, HR⟩
    clear HS
    go_wp2_with fail
    refine HR.out.mono ?_
    rintro e w12 ⟨ad, cd, ld, rfl, HTD⟩
    clear HR
    go_wp2_with fail
    refine HTD.out.mono ?_
    rintro e w13 ⟨rfl, HS⟩
    clear HTD
    go_wp2_with fail
    refine (HNEW.out w13).mono ?_
    rintro e w' ⟨rfl, rfl⟩
    go_wp2_with fail
    refine (HS.out.gcd HM.out).mono ?_
    rintro e w14 ⟨a, c, len, rfl, HR⟩
    clear HS
    go_wp2_with fail
    refine HR.out.mono ?_
    rintro e w15 ⟨ad, cd, ld, rfl, HTD⟩
    clear HR
    go_wp2_with fail
    refine HTD.out.mono ?_
    rintro e w16 ⟨rfl, HS⟩
    clear HTD
    go_wp2_with fail
    refine (HNEW.out w16).mono ?_
    rintro e w' ⟨rfl, rfl⟩
    go_wp2_with fail
    refine (HS.out.div rfl rfl).mono ?_
    rintro e w17 ⟨aq, cq, ar, cr, q', r', o, heq, rfl, HD⟩
    have HEQ := Lib.hid heq
    have HLQ : Hid ((L (X / Y)).length ≤ 12 ∧ (L (remN X Y)).length ≤ 12) := Lib.hid ⟨L_le HS.out.lX (Nat.div_le_self _ _), L_le HS.out.lX (remN_le _ _)⟩
    clear HS heq
    generalize X / Y = q at *
    generalize remN X Y = r at *
    go_wp2_with fail
    refine HD.out.mono ?_
    rintro e w18 ⟨au, cs, at', ct, rfl, HV⟩
    clear HD
    have HDQ : Hid ((D q).length ≤ 120 ∧ (D r).length ≤ 120) := Lib.hid ⟨D_of_L HLQ.out.1, D_of_L HLQ.out.2⟩
    have HL1 := Lib.hid (Limbs_any au cs (D q) w18 HV.out.ds.1 (D_dig q) (by have := HDQ.out.1; omega))
    rw [val_D] at HL1
    go_wp2_with fail
    refine HL1.out.mono ?_
    rintro e w20 ⟨a20, c20, rfl, _, b20⟩
    have HV2 := Lib.hid (HV.out.kept b20)
    clear HL1 HV b20
    have hlq := HLQ.out.1
    have hlr := HLQ.out.2
    by_cases hq : m < (L q).length
    · have hot : o = true := by rw [HEQ.out.1]; simp [divO, hq]
      have hq0 : q' = 0 := by rw [HEQ.out.2.1, hot]; rfl
      have hr0 : r' = 0 := by rw [HEQ.out.2.2, hot]; rfl
      clear HEQ
      subst hot hq0 hr0
      have hgt : (m : Int) < ((L q).length : Int) := by omega
      have hgd : decide (m < (L q).length) = true := decide_eq_true hq
      have hz : (((L 0).length : Int) == 0) = true := rfl
      have HOV := Lib.hid (over_any w20 _ m true HV2.out.bench)
      have HB := Lib.hid HV2.out.st.below
      clear HV2
      go_wp2_with fail
      refine HOV.out.mono ?_
      rintro e w' ⟨rfl, rfl⟩
      go_wp2_with fail
      go_ret
      exact ⟨rfl, HB.out⟩
    · have hgt : ¬ (m : Int) < ((L q).length : Int) := by omega
      have hgd : decide (m < (L q).length) = false := decide_eq_false hq
      have HL2 := Lib.hid (Limbs_any at' ct (D r) w20 HV2.out.dt.1 (D_dig r) (by have := HDQ.out.2; omega))
      rw [val_D] at HL2
      go_wp2_with fail
      refine HL2.out.mono ?_
      rintro e w21 ⟨a21, c21, rfl, _, b21⟩
      have HV3 := Lib.hid (HV2.out.kept b21)
      clear HL2 HV2 b21
      by_cases hr : m < (L r).length
      · have hot : o = true := by rw [HEQ.out.1]; simp [divO, hr]
        have hq0 : q' = 0 := by rw [HEQ.out.2.1, hot]; rfl
        have hr0 : r' = 0 := by rw [HEQ.out.2.2, hot]; rfl
        clear HEQ
        subst hot hq0 hr0
        have hgt2 : (m : Int) < ((L r).length : Int) := by omega
        have hgd2 : decide (m < (L r).length) = true := decide_eq_true hr
        have hz : (((L 0).length : Int) == 0) = true := rfl
        have HOV := Lib.hid (over_any w21 _ m true HV3.out.bench)
        have HB := Lib.hid HV3.out.st.below
        clear HV3
        go_wp2_with fail
        refine HOV.out.mono ?_
        rintro e w' ⟨rfl, rfl⟩
        go_wp2_with fail
        go_ret
        exact ⟨rfl, HB.out⟩
      · have hot : o = false := by rw [HEQ.out.1]; simp [divO, hq, hr]
        have hq0 : q' = q := by rw [HEQ.out.2.1, hot]; rfl
        have hr0 : r' = r := by rw [HEQ.out.2.2, hot]; rfl
        clear HEQ
        subst hot hq0 hr0
        have hgt2 : ¬ (m : Int) < ((L r').length : Int) := by omega
        have hgd2 : decide (m < (L r').length) = false := decide_eq_false hr
        have hoq : outO m false q' = false := by simp [outO]; omega
        have hor : outO m false r' = false := by simp [outO]; omega
        have hNq : outN m false q' = q' := by unfold outN; rw [hoq]; rfl
        have hNr : outN m false r' = r' := by unfold outN; rw [hor]; rfl
        have HT1 := Lib.hid (told_any _ m q' aq au cq cs w21 (by rw [hoq]; exact HV3.out.bench) (by rw [hNq]; exact HV3.out.nq) HV3.out.ds HM.out (by have := HDQ.out.1; omega) (by omega))
        rw [hNq] at HT1
        have HT2 := Lib.hid (fun (W : World) (h : Below w21.heap.size w21 W) => told_any _ m r' ar at' cr ct W (by rw [hor]; exact (HV3.out.kept h).bench) (by rw [hNr]; exact (HV3.out.kept h).nr) (HV3.out.kept h).dt HM.out (by have := HDQ.out.2; omega) (by omega))
        rw [hNr] at HT2
        clear hoq hor hNq hNr
        go_wp2_with fail
        refine HT1.out.mono ?_
        rintro e w22 ⟨rfl, b22⟩
        have HT3 := Lib.hid (HT2.out w22 b22)
        have HV4 := Lib.hid (HV3.out.kept b22)
        clear HT1 HT2 b22 HV3
        go_wp2_with fail
        refine HT3.out.mono ?_
        rintro e w23 ⟨rfl, b23⟩
        have HS := Lib.hid (HV4.out.kept b23).st
        clear HT3 b23 HV4
        have HC := Lib.hid (Cmp_any ax ay xs ys cx cy w23 HS.out.x.lim HS.out.y.lim HS.out.x.reads HS.out.y.reads (by omega) HS.out.x.le HS.out.x.cap HS.out.y.le HS.out.y.cap)
        rw [HS.out.ex, HS.out.ey] at HC
        have HCD := Lib.hid (fun (W : World) (h : Below w23.heap.size w23 W) => CmpD_any a1 a2 c1 c2 X Y W (HS.out.kept h).dx (HS.out.kept h).dy (by have := HS.out.lDX; omega) (by have := HS.out.lDY; omega))
        generalize cmpI (X : Int) (Y : Int) = cm at *
        go_wp2_with fail
        refine HC.out.mono ?_
        rintro e w24 ⟨rfl, b24⟩
        have HCD2 := Lib.hid (HCD.out w24 b24)
        have HS2 := Lib.hid (HS.out.kept b24)
        clear HC HCD HS b24
        go_wp2_with fail
        refine HCD2.out.mono ?_
        rintro e w25 ⟨rfl, nd, rfl⟩
        have HS3 := Lib.hid (HS2.out.kept (W' := w24.drewN nd) ⟨rfl, rfl, rfl, Nat.le_refl _, fun _ _ => rfl⟩)
        clear HCD2 HS2
        have HTX := Lib.hid (Text_any ax xs cx _ HS3.out.x)
        rw [HS3.out.ex] at HTX
        have HTD := Lib.hid (fun (W : World) (h : Below (w24.drewN nd).heap.size (w24.drewN nd) W) => TextD_any a1 c1 (D X) W (HS3.out.kept h).dx.1 (D_dig X) (by have := HS3.out.lDX; omega))
        rw [txtD_D] at HTD
        go_wp2_with fail
        refine HTX.out.mono ?_
        rintro e w26 ⟨rfl, b26⟩
        have HTD2 := Lib.hid (HTD.out w26 b26)
        have HS4 := Lib.hid (HS3.out.kept b26)
        clear HTX HTD HS3 b26
        generalize strOf (txt X) = tx at *
        go_wp2_with fail
        refine HTD2.out.mono ?_
        rintro e w27 ⟨rfl, b27⟩
        have HB := Lib.hid (HS4.out.kept b27).below
        clear HTD2 HS4 b27
        go_wp2_with fail
        go_ret
        exact ⟨rfl, HB.out⟩
  · have hany : ([(ax, xs.length, cx), (ay, ys.length, cy)].any fun t => decide (12 < t.2.1)) = true := by simp; omega
    rw [hany]
    clear hany
    go_wp2_with fail
    go_ret
    exact ⟨rfl, HB2.out⟩
end Go.Proofs.YtaiemcacpimcjaaDoor
