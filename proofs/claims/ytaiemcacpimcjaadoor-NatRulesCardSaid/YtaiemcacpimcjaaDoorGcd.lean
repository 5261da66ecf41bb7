/-
  nat.gcd; the bench's Gcd.
-/
import Derived.Test.YtaiemcacpimcjaaDoorGcdLong
set_option linter.unusedVariables false
set_option linter.unusedSimpArgs false
namespace Go.Proofs.YtaiemcacpimcjaaDoor
open Go.RowKit Rep

theorem Own.pos_at {B c n : Nat} {w : World} {a : Option Addr} (h : Own B w a c (L n)) (hn : 0 < n) : ∃ g, a = some ⟨g, 0, none⟩ ∧ PosAt B w g c n := by
  have hpos : 0 < (L n).length := Nat.pos_of_ne_zero fun e => by rw [L_len_zero] at e; omega
  obtain ⟨g, rfl, hg, hr⟩ := h.row hpos
  exact ⟨g, rfl, hr, hg, h.1, hn⟩

theorem gcd_calls {w w1 : World} {a1 a2 : Option Addr} {c1 c2 n1 n2 G : Nat} (hb : Below w.heap.size w w1) (h1 : NumAt w a1 c1 n1) (h2 : NumAt w a2 c2 n2) (hT : Tab w) (hn2 : 0 < n2) (l1 : (L n1).length ≤ 1000000) (l2 : (L n2).length ≤ 1000000) (hG : Nat.gcd n1 n2 = G) :
    Hid (Calls Tryd.prog 42 #[.slice a1 (L n1).length c1, .slice a2 (L n2).length c2] w1 fun e w2 => ∃ a3 c3 a4 c4 q r, e = .returned (.tuple #[.slice a3 (L q).length c3, .slice a4 (L r).length c4]) ∧
      Hid (r = 0 → Calls Tryd.prog 39 #[.slice a2 (L n2).length c2] w2 fun e w3 => ∃ a c, e = .returned (.slice a (L n2).length c) ∧ Hid (n2 = G ∧ NumAt w3 a c n2 ∧ Below w.heap.size w w3)) ∧
      Hid (0 < r → (L n2).length ≤ 2 → (Calls Tryd.prog 52 #[.slice a2 (L n2).length c2] w2 (Gives (.int .u64 (n2 : Int)) w2)) ∧ (Calls Tryd.prog 52 #[.slice a4 (L r).length c4] w2 (Gives (.int .u64 (r : Int)) w2)) ∧
        (Calls Tryd.prog 51 #[.int .u64 (n2 : Int), .int .u64 (r : Int)] w2 fun e w3 => e = .returned (.int .u64 (G : Int)) ∧ Hid (Calls Tryd.prog 33 #[.int .u64 (G : Int)] w3 (GivesBelow w.heap.size G w)))) ∧
      Hid (0 < r → Calls Tryd.prog 39 #[.slice a2 (L n2).length c2] w2 fun e w3 => ∃ a5 c5, e = .returned (.slice a5 (L n2).length c5) ∧ Hid (Calls Tryd.prog 53 #[.slice a5 (L n2).length c5, .slice a4 (L r).length c4] w3 (GivesBelow w.heap.size G w)))) := by
  refine Lib.hid ((divide_any a1 a2 c1 c2 n1 n2 w1 (h1.kept hb) (h2.kept hb) hn2 l1).mono ?_)
  rintro e w2 hd
  obtain ⟨a3, c3, a4, c4, rfl, o1, o2, hB⟩ := hd.mono hb
  have h22 := h2.kept hB
  have hlr : (L (n1 % n2)).length ≤ 1000000 := Nat.le_trans (rep_len_mono (by omega) (Nat.le_of_lt (Nat.mod_lt n1 hn2))) l2
  have hGr : Nat.gcd n2 (n1 % n2) = G := by rw [← hG, Nat.gcd_comm n1 n2, Nat.gcd_rec n2 n1, Nat.gcd_comm]
  have hs : w.heap.size ≤ w2.heap.size := hB.size
  refine ⟨a3, c3, a4, c4, n1 / n2, n1 % n2, rfl, Lib.hid fun h0 => ?_, Lib.hid fun h0 hl => ?_, Lib.hid fun h0 => ?_⟩
  · refine (clone_any a2 c2 n2 w2 h22 (by omega)).mono ?_
    rintro e w3 ⟨a, c, rfl, ho, hb3⟩
    rw [h0, Nat.gcd_zero_right] at hGr
    exact ⟨a, c, rfl, Lib.hid ⟨hGr, ho.num, hB.trans (hb3.mono hs)⟩⟩
  · have b2 := word_lt (n := n2) (by omega)
    have br : n1 % n2 < 18446744073709551616 := Nat.lt_trans (Nat.mod_lt n1 hn2) b2
    have hlr2 : (L (n1 % n2)).length ≤ 2 := (L_len _ _).2 (by omega)
    refine ⟨?_, ?_, ?_⟩
    · have := word_any a2 (L n2) c2 w2 (L_lim n2) h22.1 hl
      rwa [V_L] at this
    · have := word_any a4 (L (n1 % n2)) c4 w2 (L_lim _) o2.reads hlr2
      rwa [V_L] at this
    · refine (gcdWord_any n2 (n1 % n2) w2 b2 br).mono ?_
      rintro e w3 ⟨rfl, nd, rfl⟩
      rw [hGr]
      have hG2 : G < 18446744073709551616 := by
        rw [← hGr]; exact Nat.lt_of_le_of_lt (Nat.le_of_dvd hn2 (Nat.gcd_dvd_left _ _)) b2
      refine ⟨rfl, Lib.hid ?_⟩
      refine (of_any G hG2 (w2.drewN nd)).mono ?_
      rintro e w4 ⟨a, c, rfl, hat, hb4⟩
      have hB2 : Below w.heap.size w (w2.drewN nd) := ⟨hB.os, hB.tape, hB.output, hB.size, hB.block⟩
      exact ⟨a, c, rfl, hat, hB2.trans (hb4.mono hs)⟩
  · refine (clone_any a2 c2 n2 w2 h22 (by omega)).mono ?_
    rintro e w3 ⟨a5, c5, rfl, ho, hb3⟩
    obtain ⟨g4, rfl, p4⟩ := o2.pos_at h0
    obtain ⟨g5, rfl, p5⟩ := ho.pos_at hn2
    have hg4 := p4.row.lt
    have p4' : PosAt w.heap.size w3 g4 c4 (n1 % n2) := ⟨p4.row.kept hb3, p4.ge, p4.cap, p4.pos⟩
    have p5' : PosAt w.heap.size w3 g5 c5 n2 := ⟨p5.row, Nat.le_trans hs p5.ge, p5.cap, p5.pos⟩
    have hne : g5 ≠ g4 := by have := p5.ge; omega
    have htb : 2 < w.heap.size := World.block_lt_of_cell? w _ (hT 0 (by decide))
    refine ⟨_, c5, rfl, Lib.hid ?_⟩
    refine (gcdLong_any w.heap.size g5 c5 n2 g4 c4 (n1 % n2) w3 p5' p4' hne htb ((hT.kept hB).kept hb3) l2 hlr).mono ?_
    rintro e w4 ⟨a, c, rfl, hn, hb4⟩
    rw [hGr] at hn ⊢
    exact ⟨a, c, rfl, hn, (hB.trans (hb3.mono hs)).trans hb4⟩

set_option maxRecDepth 100000 in
set_option maxHeartbeats 4000000 in
theorem gcd_any (ax ay : Option Addr) (cx cy N M : Nat) (w : World) (hx : NumAt w ax cx N) (hy : NumAt w ay cy M) (hT : Tab w) (lx : (L N).length ≤ 1000000) (ly : (L M).length ≤ 1000000) :
    Calls Tryd.prog 41 #[.slice ax (L N).length cx, .slice ay (L M).length cy] w (GivesBelow w.heap.size (Nat.gcd N M) w) := by
  have HCM := Lib.hid (compare_num ax ay cx cy N M w hx hy (by omega))
  have hcs : (cmpI (N : Int) (M : Int) < 0 ∧ N < M) ∨ (¬ cmpI (N : Int) (M : Int) < 0 ∧ M ≤ N) := by
    unfold cmpI
    by_cases h : N < M
    · rw [if_pos (by omega)]; exact .inl ⟨by omega, h⟩
    · rw [if_neg (by omega)]; refine .inr ⟨?_, by omega⟩; split <;> omega
  obtain ⟨G, hG⟩ : ∃ G, Nat.gcd N M = G := ⟨_, rfl⟩
  rw [hG]
  generalize cmpI (N : Int) (M : Int) = cm at *
  go_enter Tryd.func41, Tryd.ntmps41
  go_wp2_with fail
  refine HCM.out.mono ?_
  rintro e w1 ⟨rfl, hb1⟩
  have HB := Lib.hid hb1
  clear HCM hb1
  rcases hcs with ⟨hc, hle⟩ | ⟨hc, hle⟩
  · obtain ⟨a1, rfl⟩ : ∃ z, z = ay := ⟨_, rfl⟩
    obtain ⟨a2, rfl⟩ : ∃ z, z = ax := ⟨_, rfl⟩
    obtain ⟨c1, rfl⟩ : ∃ z, z = cy := ⟨_, rfl⟩
    obtain ⟨c2, rfl⟩ : ∃ z, z = cx := ⟨_, rfl⟩
    obtain ⟨n1, rfl⟩ : ∃ z, z = M := ⟨_, rfl⟩
    obtain ⟨n2, rfl⟩ : ∃ z, z = N := ⟨_, rfl⟩
    rw [Nat.gcd_comm] at hG
    have H1 := Lib.hid (And.intro hy (And.intro hx (And.intro hT hG)))
    have hl1 := ly
    have hl2 := lx
    clear hx hy hT hG hle lx ly
    rcases Nat.eq_zero_or_pos n2 with h0 | h0
    · have HG : Hid (n1 = G) := Lib.hid (by have := H1.out.2.2.2; rw [h0, Nat.gcd_zero_right] at this; exact this)
      have hz : (((L n2).length : Int) == 0) = true := by rw [h0]; rfl
      have HC := Lib.hid (clone_any a1 c1 n1 w1 (H1.out.1.kept HB.out) (by omega))
      clear h0 H1
      go_wp2_with fail
      refine HC.out.mono ?_
      rintro e w2 ⟨a, c, rfl, ho, hb⟩
      have HE := Lib.hid (And.intro ho.num (HB.out.trans (hb.mono HB.out.size)))
      clear ho hb HC
      go_wp2_with fail
      go_ret
      exact ⟨a, c, by rw [← HG.out]; rfl, by rw [← HG.out]; exact HE.out.1, HE.out.2⟩
    · have hz : (((L n2).length : Int) == 0) = false := cast_beq_no (by rw [Ne, L_len_zero]; omega)
      have HD := gcd_calls HB.out H1.out.1 H1.out.2.1 H1.out.2.2.1 h0 hl1 hl2 H1.out.2.2.2
      clear H1
      go_wp2_with fail
      refine HD.out.mono ?_
      rintro e w2 ⟨a3, c3, a4, c4, q, r, rfl, HA, HW, HL⟩
      clear HD hz
      rcases Nat.eq_zero_or_pos r with hr | hr
      · have hz : (((L r).length : Int) == 0) = true := by rw [hr]; rfl
        have HA2 := Lib.hid (HA.out hr)
        clear HA HW HL hr
        go_wp2_with fail
        refine HA2.out.mono ?_
        rintro e w3 ⟨a, c, rfl, HE⟩
        clear HA2
        go_wp2_with fail
        go_ret
        exact ⟨a, c, by rw [← HE.out.1]; rfl, by rw [← HE.out.1]; exact HE.out.2.1, HE.out.2.2⟩
      · have hz : (((L r).length : Int) == 0) = false := cast_beq_no (by rw [Ne, L_len_zero]; omega)
        by_cases hl : (L n2).length ≤ 2
        · have hd : decide (((L n2).length : Int) ≤ 2) = true := decide_eq_true (by omega)
          have hdi : ((L n2).length : Int) ≤ 2 := by omega
          have HW2 := Lib.hid (HW.out hr hl)
          clear HA HW HL hr hl
          go_wp2_with fail
          refine HW2.out.1.mono ?_
          rintro e w' ⟨rfl, rfl⟩
          go_wp2_with fail
          refine HW2.out.2.1.mono ?_
          rintro e w' ⟨rfl, rfl⟩
          go_wp2_with fail
          refine HW2.out.2.2.mono ?_
          rintro e w3 ⟨rfl, HO⟩
          clear HW2
          go_wp2_with fail
          refine HO.out.mono ?_
          rintro e w4 ⟨a, c, rfl, hn, hb⟩
          have HE := Lib.hid (And.intro hn hb)
          clear hn hb HO
          go_wp2_with fail
          go_ret
          exact ⟨a, c, rfl, HE.out.1, HE.out.2⟩
        · have hd : decide (((L n2).length : Int) ≤ 2) = false := decide_eq_false (by omega)
          have hdi : ¬ ((L n2).length : Int) ≤ 2 := by omega
          have HL2 := Lib.hid (HL.out hr)
          clear HA HW HL hr hl
          go_wp2_with fail
          refine HL2.out.mono ?_
          rintro e w3 ⟨a5, c5, rfl, HG⟩
          clear HL2
          go_wp2_with fail
          refine HG.out.mono ?_
          rintro e w4 ⟨a, c, rfl, hn, hb⟩
          have HE := Lib.hid (And.intro hn hb)
          clear hn hb HG
          go_wp2_with fail
          go_ret
          exact ⟨a, c, rfl, HE.out.1, HE.out.2⟩
  · obtain ⟨a1, rfl⟩ : ∃ z, z = ax := ⟨_, rfl⟩
    obtain ⟨a2, rfl⟩ : ∃ z, z = ay := ⟨_, rfl⟩
    obtain ⟨c1, rfl⟩ : ∃ z, z = cx := ⟨_, rfl⟩
    obtain ⟨c2, rfl⟩ : ∃ z, z = cy := ⟨_, rfl⟩
    obtain ⟨n1, rfl⟩ : ∃ z, z = N := ⟨_, rfl⟩
    obtain ⟨n2, rfl⟩ : ∃ z, z = M := ⟨_, rfl⟩
    have H1 := Lib.hid (And.intro hx (And.intro hy (And.intro hT hG)))
    have hl1 := lx
    have hl2 := ly
    clear hx hy hT hG hle lx ly
    rcases Nat.eq_zero_or_pos n2 with h0 | h0
    · have HG : Hid (n1 = G) := Lib.hid (by have := H1.out.2.2.2; rw [h0, Nat.gcd_zero_right] at this; exact this)
      have hz : (((L n2).length : Int) == 0) = true := by rw [h0]; rfl
      have HC := Lib.hid (clone_any a1 c1 n1 w1 (H1.out.1.kept HB.out) (by omega))
      clear h0 H1
      go_wp2_with fail
      refine HC.out.mono ?_
      rintro e w2 ⟨a, c, rfl, ho, hb⟩
      have HE := Lib.hid (And.intro ho.num (HB.out.trans (hb.mono HB.out.size)))
      clear ho hb HC
      go_wp2_with fail
      go_ret
      exact ⟨a, c, by rw [← HG.out]; rfl, by rw [← HG.out]; exact HE.out.1, HE.out.2⟩
    · have hz : (((L n2).length : Int) == 0) = false := cast_beq_no (by rw [Ne, L_len_zero]; omega)
      have HD := gcd_calls HB.out H1.out.1 H1.out.2.1 H1.out.2.2.1 h0 hl1 hl2 H1.out.2.2.2
      clear H1
      go_wp2_with fail
      refine HD.out.mono ?_
      rintro e w2 ⟨a3, c3, a4, c4, q, r, rfl, HA, HW, HL⟩
      clear HD hz
      rcases Nat.eq_zero_or_pos r with hr | hr
      · have hz : (((L r).length : Int) == 0) = true := by rw [hr]; rfl
        have HA2 := Lib.hid (HA.out hr)
        clear HA HW HL hr
        go_wp2_with fail
        refine HA2.out.mono ?_
        rintro e w3 ⟨a, c, rfl, HE⟩
        clear HA2
        go_wp2_with fail
        go_ret
        exact ⟨a, c, by rw [← HE.out.1]; rfl, by rw [← HE.out.1]; exact HE.out.2.1, HE.out.2.2⟩
      · have hz : (((L r).length : Int) == 0) = false := cast_beq_no (by rw [Ne, L_len_zero]; omega)
        by_cases hl : (L n2).length ≤ 2
        · have hd : decide (((L n2).length : Int) ≤ 2) = true := decide_eq_true (by omega)
          have hdi : ((L n2).length : Int) ≤ 2 := by omega
          have HW2 := Lib.hid (HW.out hr hl)
          clear HA HW HL hr hl
          go_wp2_with fail
          refine HW2.out.1.mono ?_
          rintro e w' ⟨rfl, rfl⟩
          go_wp2_with fail
          refine HW2.out.2.1.mono ?_
          rintro e w' ⟨rfl, rfl⟩
          go_wp2_with fail
          refine HW2.out.2.2.mono ?_
          rintro e w3 ⟨rfl, HO⟩
          clear HW2
          go_wp2_with fail
          refine HO.out.mono ?_
          rintro e w4 ⟨a, c, rfl, hn, hb⟩
          have HE := Lib.hid (And.intro hn hb)
          clear hn hb HO
          go_wp2_with fail
          go_ret
          exact ⟨a, c, rfl, HE.out.1, HE.out.2⟩
        · have hd : decide (((L n2).length : Int) ≤ 2) = false := decide_eq_false (by omega)
          have hdi : ¬ ((L n2).length : Int) ≤ 2 := by omega
          have HL2 := Lib.hid (HL.out hr)
          clear HA HW HL hr hl
          go_wp2_with fail
          refine HL2.out.mono ?_
          rintro e w3 ⟨a5, c5, rfl, HG⟩
          clear HL2
          go_wp2_with fail
          refine HG.out.mono ?_
          rintro e w4 ⟨a, c, rfl, hn, hb⟩
          have HE := Lib.hid (And.intro hn hb)
          clear hn hb HG
          go_wp2_with fail
          go_ret
          exact ⟨a, c, rfl, HE.out.1, HE.out.2⟩

set_option maxRecDepth 100000 in
set_option maxHeartbeats 1000000 in
theorem Gcd_any (b m : Nat) (ax ay : Option Addr) (xs ys : List Nat) (cx cy : Nat) (w : World) (o : Bool) (h : Bench w b m o) (hx : NumIn w ax cx xs) (hy : NumIn w ay cy ys) (hT : Tab w) (lx : xs.length ≤ 1000000) (ly : ys.length ≤ 1000000) :
    Calls Tryd.prog 20 #[.pointer (some ⟨b, 0, none⟩), .slice ax xs.length cx, .slice ay ys.length cy] w (GivesOut b m o (Nat.gcd (V xs) (V ys)) w) := by
  cases o with
  | true => exact Gcd_over b m _ _ _ w h
  | false =>
    have h1 := h.c1
    have HB := Lib.hid h
    have hlx := cutAt_len xs hx.lim
    have hly := cutAt_len ys hy.lim
    have HT := Lib.hid hT
    clear h hT
    go_enter Tryd.func20, Tryd.ntmps20
    go_wp2_with fail
    refine (trim_num ax xs cx w hx.lim hx.reads hx.le hx.cap).mono ?_
    rintro e w' ⟨a1, c1, rfl, n1, rfl⟩
    go_wp2_with fail
    refine (trim_num ay ys cy w hy.lim hy.reads hy.le hy.cap).mono ?_
    rintro e w' ⟨a2, c2, rfl, n2, rfl⟩
    clear hx hy
    generalize V xs = N at *
    generalize V ys = M at *
    have HG := Lib.hid (gcd_any a1 a2 c1 c2 N M w n1 n2 HT.out (by omega) (by omega))
    generalize Nat.gcd N M = G at *
    clear n1 n2 HT
    go_wp2_with fail
    refine HG.out.mono ?_
    rintro e w1 ⟨a, c, rfl, hn, hb⟩
    have HF := Lib.hid (fit_out w w1 b m false a G c HB.out hn hb)
    clear hn hb HG h1
    go_wp2_with fail
    refine HF.out.mono ?_
    rintro e w2 ⟨a3, c3, rfl, hat, hb2, hg⟩
    have HE := Lib.hid (And.intro hat (And.intro hb2 hg))
    clear hat hb2 hg HF
    go_wp2_with fail
    go_ret
    exact ⟨a3, c3, rfl, HE.out.1, HE.out.2.1, HE.out.2.2⟩
end Go.Proofs.YtaiemcacpimcjaaDoor
