/-
  The document's difference of digits.
-/
import Derived.Test.YtaiemcacpimcjaaDoorDigAdd
set_option linter.unusedVariables false
set_option linter.unusedSimpArgs false
namespace Go.Proofs.YtaiemcacpimcjaaDoor
open Go.RowKit Rep

/-- Behind i digits of a difference. -/
structure SubDIn (xs ys O : List Nat) (i b : Nat) : Prop where
  len : O.length = i
  dig : Dig 10 O
  b1 : b ≤ 1
  sum : val 10 O + val 10 (ys.take i) = val 10 (xs.take i) + 10 ^ i * b
theorem SubDIn.start (xs ys : List Nat) : SubDIn xs ys [] 0 0 := ⟨rfl, Dig.nil _, by omega, by simp [val]⟩
theorem SubDIn.step {xs ys O : List Nat} {i b d b' : Nat} (h : SubDIn xs ys O i b) (hd : d < 10) (hb : b' ≤ 1) (hT : d + b + ys.getD i 0 = xs.getD i 0 + 10 * b') : SubDIn xs ys (O ++ [d]) (i + 1) b' := by
  refine ⟨by simp [h.len], h.dig.append (Dig.cons hd (Dig.nil _)), hb, ?_⟩
  rw [val_snoc, h.len, val_take_succ', val_take_succ', Nat.pow_succ]
  have h2 := h.sum
  have h4 : 10 ^ i * d + 10 ^ i * b + 10 ^ i * ys.getD i 0 = 10 ^ i * xs.getD i 0 + 10 ^ i * 10 * b' := by rw [Nat.mul_assoc, ← Nat.mul_add, ← Nat.mul_add, ← Nat.mul_add, hT]
  omega
theorem SubDIn.done {xs ys O : List Nat} {i b : Nat} (h : SubDIn xs ys O i b) (h1 : xs.length = i) (h2 : ys.length ≤ i) (hle : val 10 ys ≤ val 10 xs) : val 10 O = val 10 xs - val 10 ys := by
  have h3 := h.sum
  rw [List.take_of_length_le (l := xs) (by omega), List.take_of_length_le (l := ys) h2] at h3
  have h4 := val_lt h.dig
  rw [h.len] at h4
  have hb := h.b1
  rcases Nat.eq_zero_or_pos b with e | e
  · subst e; rw [Nat.mul_zero] at h3; omega
  · obtain rfl : b = 1 := by omega
    omega

set_option maxRecDepth 100000 in
set_option maxHeartbeats 4000000 in
theorem SubD_any (ax ay : Option Addr) (cx cy n m : Nat) (w : World) (hx : DAt w ax cx n) (hy : DAt w ay cy m) (lx : (D n).length ≤ 1073741824) (ly : (D m).length ≤ 1073741824) :
    Calls Tryd.prog 17 #[.slice ax (D n).length cx, .slice ay (D m).length cy] w (GivesD w.heap.size (n - m) w) := by
  have HCM := Lib.hid (CmpD_any ax ay cx cy n m w hx hy lx ly)
  by_cases hlt : n < m
  · have hc : cmpI (n : Int) (m : Int) = -1 := by unfold cmpI; rw [if_pos (by omega)]
    rw [hc] at HCM
    have h0 : n - m = 0 := by omega
    rw [h0]
    clear hx hy hc h0 hlt
    go_enter Tryd.func17, Tryd.ntmps17
    go_wp2_with fail
    refine HCM.out.mono ?_
    rintro e w1 ⟨rfl, nd, rfl⟩
    go_wp2_with fail
    go_ret
    have hB : Below w.heap.size w ((w.drewN nd).alloc (.cells #[] 3)) := Below.alloc (show Below w.heap.size w (w.drewN nd) from ⟨rfl, rfl, rfl, Nat.le_refl _, fun _ _ => rfl⟩) (Nat.le_refl _) _
    exact ⟨some ⟨w.heap.size, 0, none⟩, 0, rfl, DAt.zero _ _ _ (by simp [maxLen]), hB, .inl rfl⟩
  · have hc : ¬ cmpI (n : Int) (m : Int) < 0 := by
      unfold cmpI; rw [if_neg (by omega)]; split <;> omega
    have hrx := hx.1
    have hry := hy.1
    have HXD := Lib.hid (D_dig n)
    have HYD := Lib.hid (D_dig m)
    have hlyx := D_mono (show m ≤ n by omega)
    have HV : Hid (val 10 (D n) - val 10 (D m) = n - m ∧ val 10 (D m) ≤ val 10 (D n)) := Lib.hid (by rw [val_D, val_D]; exact ⟨rfl, by omega⟩)
    clear hx hy hlt
    generalize D n = xs at *
    generalize D m = ys at *
    generalize n - m = s at *
    generalize cmpI (n : Int) (m : Int) = cm at *
    have H0 := Lib.hid (fun nd => OutD.start (w.drewN nd))
    go_enter Tryd.func17, Tryd.ntmps17
    go_wp2_with fail
    refine HCM.out.mono ?_
    rintro e w1 ⟨rfl, nd, rfl⟩
    have H1 := Lib.hid (H0.out nd)
    have hrx1 : Reads (w.drewN nd) ax (xs.map i64v) := hrx
    have hry1 : Reads (w.drewN nd) ay (ys.map i64v) := hry
    have HE0 : Hid (∀ e W, GivesD (w.drewN nd).heap.size s (w.drewN nd) e W → GivesD w.heap.size s w e W) := Lib.hid fun e W ⟨a, c, he, hd, hb, hn⟩ => ⟨a, c, he, hd, ⟨hb.os, hb.tape, hb.output, hb.size, hb.block⟩, hn⟩
    have HW : Hid (w.drewN nd = w.drewN nd) := Lib.hid rfl
    clear H0 HCM hrx hry HW
    go_wp2_with fail
    go_loopg [5, 6, 7] xs.length (fun k ov bv iv wr => ∃ a c O i b, ov = .slice a i c ∧ bv = .int .i64 (b : Nat) ∧ iv = .int .i64 (i : Nat) ∧ OutD (w.drewN nd) wr a c O ∧ SubDIn xs ys O i b ∧ i + k = xs.length)
    case atStart => exact ⟨_, _, [], 0, 0, rfl, rfl, rfl, H1.out, SubDIn.start _ _, by omega⟩
    case round =>
      obtain ⟨a, c, O, i, br, rfl, rfl, rfl, ho, hin, him⟩ := hrel
      have hil : i ≤ 1073741824 := by omega
      have HO := Lib.hid ho
      have HI := Lib.hid hin
      have HM := Lib.hid him
      have hbr := hin.b1
      clear ho hin H1
      by_cases hex : i < xs.length
      · have d1 : (i : Int) < (xs.length : Int) := by omega
        have d3 : decide (i < xs.length) = true := decide_eq_true (by omega)
        obtain ⟨x, hxe⟩ : ∃ x, x = xs.getD i 0 := ⟨_, rfl⟩
        obtain ⟨y, hye⟩ : ∃ y, y = ys.getD i 0 := ⟨_, rfl⟩
        have hxl : x < 10 := by rw [hxe]; exact HXD.out.getD i (by omega)
        have hyl : y < 10 := by rw [hye]; exact HYD.out.getD i (by omega)
        obtain ⟨g1, o1, rfl, hg1, hc1⟩ := (hrx1.kept HO.out.2).open' (by rw [List.length_map]; omega)
        have hck1 := hc1 i _ (map_getElem? (xs := xs) hex)
        rw [← hxe] at hck1
        unfold i64v at hck1
        clear hc1
        by_cases c2 : i < ys.length
        · by_cases hng : (x : Int) - (br : Int) - (y : Int) < 0
          · have e2 : i < ys.length := by omega
            have d2 : (i : Int) < (ys.length : Int) := by omega
            have d4 : decide (i < ys.length) = true := decide_eq_true (by omega)
            obtain ⟨g2, o2, rfl, hg2, hc2⟩ := (hry1.kept HO.out.2).open' (by rw [List.length_map]; omega)
            have hck2 := hc2 i _ (map_getElem? (xs := ys) e2)
            rw [← hye] at hck2
            unfold i64v at hck2
            clear hc2
            obtain ⟨S, hS⟩ : ∃ S : Int, (x : Int) - (br : Int) = S := ⟨_, rfl⟩
            have hSb : -1 ≤ S ∧ S ≤ 9 := by omega
            obtain ⟨hSb1, hSb2⟩ := hSb
            have hng' : ((x : Int) - (br : Int) - (y : Int)) < 0 := hng
            obtain ⟨T, hT⟩ : ∃ T : Int, S - (y : Int) = T := ⟨_, rfl⟩
            have hTn : T < 0 := by omega
            have hTm : -10 ≤ T := by omega
            obtain ⟨d, hd⟩ : ∃ d : Nat, T + 10 = (d : Int) := ⟨(T + 10).toNat, by omega⟩
            have HN := Lib.hid (HI.out.step (d := d) (b' := 1) (by omega) (by omega) (by rw [← hxe, ← hye]; omega))
            have HQ : Hid (i + 1 + (gk - 1) = xs.length ∧ 0 < gk) := Lib.hid (by have := HM.out; omega)
            obtain ⟨hO1, hcell⟩ := HO.out.ready d
            have hsz : w.heap.size ≤ wr.heap.size := HO.out.2.size
            clear him hxe hye hng hng' HM e2
            go_wp2_with (first | (at_builtin; refine wpList_append_one _ rfl (.tmp 41) (.tmp 43) 27 rfl 3 (.int .i64 0) 8 Tryd.underlying27 info_int rfl i64v w.heap.size a _ _ O rfl hO1 HI.out.len ⟨wr.heap.size, 0, none⟩ 1 d rfl hcell rfl (by unfold maxLen; omega) (by omega) (by simp; omega) ?_; intro g' cap' w' hrow' hcap hgrow hg') | fail)
            have HR := Lib.hid (HO.out.grow hrow' hcap hgrow hg')
            clear hrow' hgrow hO1 hcell
            go_wp2_with fail
            go_roundg (gk - 1)
            case rel => exact ⟨_, _, _, i + 1, 1, rfl, rfl, by go_num, HR.out, HN.out, HQ.out.1⟩
            case measure => have := HQ.out.2; omega
          · have e2 : i < ys.length := by omega
            have d2 : (i : Int) < (ys.length : Int) := by omega
            have d4 : decide (i < ys.length) = true := decide_eq_true (by omega)
            obtain ⟨g2, o2, rfl, hg2, hc2⟩ := (hry1.kept HO.out.2).open' (by rw [List.length_map]; omega)
            have hck2 := hc2 i _ (map_getElem? (xs := ys) e2)
            rw [← hye] at hck2
            unfold i64v at hck2
            clear hc2
            obtain ⟨S, hS⟩ : ∃ S : Int, (x : Int) - (br : Int) = S := ⟨_, rfl⟩
            have hSb : -1 ≤ S ∧ S ≤ 9 := by omega
            obtain ⟨hSb1, hSb2⟩ := hSb
            have hng' : ¬ ((x : Int) - (br : Int) - (y : Int)) < 0 := hng
            obtain ⟨d, hd⟩ : ∃ d : Nat, S - (y : Int) = (d : Int) := ⟨(S - (y : Int)).toNat, by omega⟩
            have HN := Lib.hid (HI.out.step (d := d) (b' := 0) (by omega) (by omega) (by rw [← hxe, ← hye]; omega))
            have HQ : Hid (i + 1 + (gk - 1) = xs.length ∧ 0 < gk) := Lib.hid (by have := HM.out; omega)
            obtain ⟨hO1, hcell⟩ := HO.out.ready d
            have hsz : w.heap.size ≤ wr.heap.size := HO.out.2.size
            clear him hxe hye hng hng' HM e2
            go_wp2_with (first | (at_builtin; refine wpList_append_one _ rfl (.tmp 41) (.tmp 43) 27 rfl 3 (.int .i64 0) 8 Tryd.underlying27 info_int rfl i64v w.heap.size a _ _ O rfl hO1 HI.out.len ⟨wr.heap.size, 0, none⟩ 1 d rfl hcell rfl (by unfold maxLen; omega) (by omega) (by simp; omega) ?_; intro g' cap' w' hrow' hcap hgrow hg') | fail)
            have HR := Lib.hid (HO.out.grow hrow' hcap hgrow hg')
            clear hrow' hgrow hO1 hcell
            go_wp2_with fail
            go_roundg (gk - 1)
            case rel => exact ⟨_, _, _, i + 1, 0, rfl, rfl, by go_num, HR.out, HN.out, HQ.out.1⟩
            case measure => have := HQ.out.2; omega
        · by_cases hng : (x : Int) - (br : Int) - (y : Int) < 0
          · have e2 : ¬ i < ys.length := by omega
            have d2 : ¬ (i : Int) < (ys.length : Int) := by omega
            have d4 : decide (i < ys.length) = false := decide_eq_false (by omega)
            have hny : y = 0 := by rw [hye]; exact getD_ge (by omega)
            have hng' : ((x : Int) - (br : Int) - (y : Int)) < 0 := hng
            obtain ⟨T, hT⟩ : ∃ T : Int, (x : Int) - (br : Int) = T := ⟨_, rfl⟩
            have hTn : T < 0 := by omega
            have hTm : -10 ≤ T := by omega
            obtain ⟨d, hd⟩ : ∃ d : Nat, T + 10 = (d : Int) := ⟨(T + 10).toNat, by omega⟩
            have HN := Lib.hid (HI.out.step (d := d) (b' := 1) (by omega) (by omega) (by rw [← hxe, ← hye]; omega))
            have HQ : Hid (i + 1 + (gk - 1) = xs.length ∧ 0 < gk) := Lib.hid (by have := HM.out; omega)
            obtain ⟨hO1, hcell⟩ := HO.out.ready d
            have hsz : w.heap.size ≤ wr.heap.size := HO.out.2.size
            clear him hxe hye hng hng' HM e2 hny
            go_wp2_with (first | (at_builtin; refine wpList_append_one _ rfl (.tmp 41) (.tmp 43) 27 rfl 3 (.int .i64 0) 8 Tryd.underlying27 info_int rfl i64v w.heap.size a _ _ O rfl hO1 HI.out.len ⟨wr.heap.size, 0, none⟩ 1 d rfl hcell rfl (by unfold maxLen; omega) (by omega) (by simp; omega) ?_; intro g' cap' w' hrow' hcap hgrow hg') | fail)
            have HR := Lib.hid (HO.out.grow hrow' hcap hgrow hg')
            clear hrow' hgrow hO1 hcell
            go_wp2_with fail
            go_roundg (gk - 1)
            case rel => exact ⟨_, _, _, i + 1, 1, rfl, rfl, by go_num, HR.out, HN.out, HQ.out.1⟩
            case measure => have := HQ.out.2; omega
          · have e2 : ¬ i < ys.length := by omega
            have d2 : ¬ (i : Int) < (ys.length : Int) := by omega
            have d4 : decide (i < ys.length) = false := decide_eq_false (by omega)
            have hny : y = 0 := by rw [hye]; exact getD_ge (by omega)
            have hng' : ¬ ((x : Int) - (br : Int) - (y : Int)) < 0 := hng
            obtain ⟨d, hd⟩ : ∃ d : Nat, (x : Int) - (br : Int) = (d : Int) := ⟨((x : Int) - (br : Int)).toNat, by omega⟩
            have HN := Lib.hid (HI.out.step (d := d) (b' := 0) (by omega) (by omega) (by rw [← hxe, ← hye]; omega))
            have HQ : Hid (i + 1 + (gk - 1) = xs.length ∧ 0 < gk) := Lib.hid (by have := HM.out; omega)
            obtain ⟨hO1, hcell⟩ := HO.out.ready d
            have hsz : w.heap.size ≤ wr.heap.size := HO.out.2.size
            clear him hxe hye hng hng' HM e2 hny
            go_wp2_with (first | (at_builtin; refine wpList_append_one _ rfl (.tmp 41) (.tmp 43) 27 rfl 3 (.int .i64 0) 8 Tryd.underlying27 info_int rfl i64v w.heap.size a _ _ O rfl hO1 HI.out.len ⟨wr.heap.size, 0, none⟩ 1 d rfl hcell rfl (by unfold maxLen; omega) (by omega) (by simp; omega) ?_; intro g' cap' w' hrow' hcap hgrow hg') | fail)
            have HR := Lib.hid (HO.out.grow hrow' hcap hgrow hg')
            clear hrow' hgrow hO1 hcell
            go_wp2_with fail
            go_roundg (gk - 1)
            case rel => exact ⟨_, _, _, i + 1, 0, rfl, rfl, by go_num, HR.out, HN.out, HQ.out.1⟩
            case measure => have := HQ.out.2; omega
      · have d1 : ¬ (i : Int) < (xs.length : Int) := by omega
        have d3 : decide (i < xs.length) = false := decide_eq_false (by omega)
        have HC := Lib.hid (HO.out.cut HI.out.dig ((HI.out.done (by omega) (by omega) HV.out.2).trans HV.out.1))
        rw [HI.out.len] at HC
        clear hex HM him
        go_wp2_with fail
        refine HC.out.mono ?_
        rintro e w2 hgd
        obtain ⟨a2, c2, rfl, hd2, hb2⟩ := HE0.out _ _ hgd
        have HE := Lib.hid (And.intro hd2 hb2)
        clear hd2 hb2 HC hgd
        go_wp2_with fail
        go_ret
        exact ⟨a2, c2, rfl, HE.out.1, HE.out.2⟩
end Go.Proofs.YtaiemcacpimcjaaDoor
