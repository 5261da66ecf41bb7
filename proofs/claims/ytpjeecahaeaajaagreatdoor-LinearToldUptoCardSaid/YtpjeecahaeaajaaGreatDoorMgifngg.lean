/- By program out of: Dig. -/
import Derived.Test.YtpjeecahaeaajaaGreatDoorMdegbog
import Derived.Test.YtpjeecahaeaajaaGreatDoorMdnomnp
set_option linter.unusedVariables false
set_option linter.unusedSimpArgs false
namespace Go.Proofs.YtpjeecahaeaajaaGreatDoor
open Go.RowKit Rep
theorem D_dig (n : Nat) : Dig 10 (D n) := rep_dig (by omega) n
theorem val_D (n : Nat) : val 10 (D n) = n := val_rep (by omega) n
theorem D_len (n k : Nat) : (D n).length ≤ k ↔ n < 10 ^ k := rep_length_le (by omega) n k
theorem D_zero : D 0 = [] := rfl
theorem D_nil {n : Nat} : D n = [] ↔ n = 0 := rep_eq_nil (by omega)
theorem D_len_zero {n : Nat} : (D n).length = 0 ↔ n = 0 := by rw [List.length_eq_zero_iff, D_nil]
theorem D_mono {n m : Nat} (h : n ≤ m) : (D n).length ≤ (D m).length := rep_len_mono (by omega) h
def DAt (w : World) (a : Option Addr) (c n : Nat) : Prop := Reads w a ((D n).map i64v) ∧ (D n).length ≤ c ∧ c ≤ maxLen
theorem DAt.zero (w : World) (a : Option Addr) (c : Nat) (hc : c ≤ maxLen) : DAt w a c 0 := ⟨.inl rfl, by simp [D_zero], hc⟩
theorem DAt.kept {w w' : World} {a : Option Addr} {c n : Nat} (h : DAt w a c n) (hb : Below w.heap.size w w') : DAt w' a c n := ⟨h.1.kept hb, h.2⟩
theorem DAt.drewN {w : World} {a : Option Addr} {c n : Nat} (h : DAt w a c n) (k : Nat) : DAt (w.drewN k) a c n := h
def GivesD (B n : Nat) (w : World) (e : Ending) (w' : World) : Prop := ∃ a c, e = .returned (.slice a (D n).length c) ∧ DAt w' a c n ∧ Below B w w' ∧ (n = 0 ∨ ∀ g off, a = some ⟨g, off, none⟩ → B ≤ g)
theorem GivesD.trans {B n : Nat} {w w1 w2 : World} {e : Ending} (h : GivesD w1.heap.size n w1 e w2) (hb : Below B w w1) (hB : B ≤ w1.heap.size) : GivesD B n w e w2 := by
  obtain ⟨a, c, he, hd, hb2, hn⟩ := h
  exact ⟨a, c, he, hd, hb.trans (hb2.mono hB), hn.imp id fun h g off e => Nat.le_trans hB (h g off e)⟩
theorem cut_quiet {v : Nat} {w1 : World} {a : Option Addr} {c : Nat} {O : List Nat} (hr : Reads w1 a (O.map i64v)) (hl : O.length ≤ c) (hc : c ≤ maxLen) (hd : Dig 10 O) (hv : val 10 O = v) :
    Calls Tryz.prog 64 #[.slice a O.length c] w1 fun e w' => e = .returned (.slice a (D v).length c) ∧ DAt w1 a c v ∧ w1 = w' := by
  refine (Cut_any a c O w1 hr hl hc).mono ?_
  rintro e w2 ⟨rfl, rfl⟩
  have hs : strip O = D v := by rw [← hv]; exact strip_eq (by omega) hd
  refine ⟨by rw [hs], ⟨?_, ?_, hc⟩, rfl⟩
  · rw [← hs]
    have := hr.take (cutAt O O.length)
    rwa [← List.map_take] at this
  · rw [← hs]
    have := cutAt_le O O.length
    rw [strip_length]
    omega
theorem cut_D {B v : Nat} {w w1 : World} {a : Option Addr} {c : Nat} {O : List Nat} (hr : Reads w1 a (O.map i64v)) (hl : O.length ≤ c) (hc : c ≤ maxLen) (hd : Dig 10 O) (hv : val 10 O = v) (hb : Below B w w1) (hB : v = 0 ∨ ∀ g off, a = some ⟨g, off, none⟩ → B ≤ g) :
    Calls Tryz.prog 64 #[.slice a O.length c] w1 (GivesD B v w) := by
  refine (cut_quiet hr hl hc hd hv).mono ?_
  rintro e w2 ⟨rfl, h, rfl⟩
  exact ⟨a, c, rfl, h, hb, hB⟩
theorem cmp_partB {b : Nat} {xs ys : List Nat} {i : Nat} (hx : Dig b xs) (hy : Dig b ys) (hl : ys.length = xs.length) (hi : i < xs.length) (hd : xs.drop (i + 1) = ys.drop (i + 1)) (hne : xs.getD i 0 ≠ ys.getD i 0) :
    cmpI (val b xs) (val b ys) = cmpI (xs.getD i 0) (ys.getD i 0) := by
  have e1 := val_take_drop b i xs (by omega)
  have e2 := val_take_drop b i ys (by omega)
  rw [drop_cons _ xs i hi] at e1
  rw [drop_cons _ ys i (by omega), ← hd] at e2
  have b1 := val_lt (hx.take i)
  have b2 := val_lt (hy.take i)
  rw [List.length_take, Nat.min_eq_left (by omega)] at b1 b2
  rw [Nat.mul_add] at e1 e2
  generalize b ^ i * (b * val b (xs.drop (i + 1))) = t at *
  generalize b ^ i = p at *
  have key : ∀ {a b p : Nat}, a < b → p * a + p ≤ p * b := fun {a b p} h => by
    have := Nat.mul_le_mul_left p (show a + 1 ≤ b from h)
    rwa [Nat.mul_add, Nat.mul_one] at this
  rcases Nat.lt_or_gt_of_ne hne with h | h
  · have hk := key (p := p) h
    unfold cmpI
    rw [if_pos (by omega), if_pos (by omega)]
  · have hk := key (p := p) h
    unfold cmpI
    rw [if_neg (by omega), if_neg (by omega), if_neg (by omega), if_neg (by omega)]
theorem cmpI_self (a : Int) : cmpI a a = 0 := by unfold cmpI; rw [if_neg (by omega), if_pos rfl]
theorem cmpD_len {n m : Nat} (h : (D n).length ≠ (D m).length) : cmpI (D n).length (D m).length = cmpI n m := by
  have key : ∀ {n m : Nat}, (D n).length < (D m).length → n < m := fun {n m} h => by
    have h1 : ¬ m ≤ n := fun hle => by have := D_mono hle; omega
    omega
  unfold cmpI
  rcases Nat.lt_or_gt_of_ne h with h | h
  · have := key h
    rw [if_pos (by omega), if_pos (by omega)]
  · have := key h
    rw [if_neg (by omega), if_neg (by omega), if_neg (by omega), if_neg (by omega)]
set_option maxRecDepth 100000 in
set_option maxHeartbeats 1000000 in
theorem CmpD_any (ax ay : Option Addr) (cx cy n m : Nat) (w : World) (hx : DAt w ax cx n) (hy : DAt w ay cy m) (lx : (D n).length ≤ 1073741824) (ly : (D m).length ≤ 1073741824) :
    Calls Tryz.prog 67 #[.slice ax (D n).length cx, .slice ay (D m).length cy] w (Draws (.int .i64 (cmpI n m)) w) := by
  by_cases hl : (D n).length = (D m).length
  · have hb : (((D n).length : Int) != ((D m).length : Int)) = false := by rw [hl]; simp
    have hrx := hx.1
    have hry := hy.1
    have hdx := D_dig n
    have hdy := D_dig m
    have hv : cmpI (n : Int) (m : Int) = cmpI (val 10 (D n)) (val 10 (D m)) := by rw [val_D, val_D]
    have HV := Lib.hid hv
    rw [hv]
    have HL := Lib.hid hl
    have hlle : (D m).length ≤ (D n).length := by omega
    have hlge : (D n).length ≤ (D m).length := by omega
    clear hv hl hx hy HV
    generalize D n = xs at *
    generalize D m = ys at *
    obtain ⟨r, hr⟩ : ∃ r, cmpI (val 10 xs) (val 10 ys) = r := ⟨_, rfl⟩
    rw [hr]
    have HR := Lib.hid hr
    clear hr
    go_enter Tryz.func67, Tryz.ntmps67
    go_wp2_with fail
    go_loopw [5] (fun i wr => ∃ k nd : Nat, k ≤ xs.length ∧ i = .int .i64 ((k : Int) - 1) ∧ wr = w.drewN nd ∧ Hid (xs.drop k = ys.drop k)) (fun i _ => (intOf i + 1).toNat)
    case atStart => exact ⟨xs.length, 0, Nat.le_refl _, rfl, rfl, Lib.hid (by rw [List.drop_of_length_le (Nat.le_refl _), List.drop_of_length_le (by omega)])⟩
    case round =>
      obtain ⟨k, nd, hk, rfl, rfl, hd⟩ := hrel
      cases k with
      | zero =>
        have he : r = 0 := by
          have h := hd.out
          rw [List.drop_zero, List.drop_zero] at h
          rw [← HR.out, h, cmpI_self]
        have HE := Lib.hid he
        clear he hd
        go_wp2_with fail
        go_ret
        exact ⟨by rw [HE.out]; rfl, nd, rfl⟩
      | succ k =>
        obtain ⟨g1, o1, rfl, hg1, hc1⟩ := hrx.open' (by rw [List.length_map]; omega)
        obtain ⟨g2, o2, rfl, hg2, hc2⟩ := hry.open' (by rw [List.length_map]; omega)
        have hck1 := hc1 k _ (map_getElem? (xs := xs) (by omega))
        have hck2 := hc2 k _ (map_getElem? (xs := ys) (by omega))
        have HP := Lib.hid (fun (hne : xs.getD k 0 ≠ ys.getD k 0) => (cmp_partB hdx hdy HL.out.symm (by omega) hd.out hne).symm.trans HR.out)
        have HS := Lib.hid (fun (he : xs.getD k 0 = ys.getD k 0) => drop_same (i := k) (by omega) (by omega) hd.out he)
        unfold i64v at hck1 hck2
        clear hc1 hc2 hrx hry hd
        generalize xs.getD k 0 = x at *
        generalize ys.getD k 0 = y at *
        rw [show (((k + 1 : Nat) : Int) - 1) = (k : Int) from by omega]
        have hk0 : (0 : Int) ≤ (k : Int) := by omega
        have hkx : (k : Int) < (xs.length : Int) := by omega
        have hky : (k : Int) < (ys.length : Int) := by omega
        rcases Nat.lt_trichotomy x y with hlt | hlt | hlt
        · have he : r = -1 := by rw [← HP.out (by omega)]; unfold cmpI; rw [if_pos (by omega)]
          have HE := Lib.hid he
          have hlt' : (x : Int) < (y : Int) := by omega
          clear he HP HS
          go_wp2_with fail
          go_quiet (fail)
          go_wp2_with fail
          go_ret
          exact ⟨by rw [HE.out]; rfl, _, by first | rw [drewN_add] | rfl⟩
        · subst hlt
          have HD := Lib.hid (HS.out rfl)
          clear HP HS
          go_wp2_with fail
          go_quiet (fail)
          go_wp2_with fail
          go_quiet (fail)
          go_wp2_with fail
          go_roundw
          case rel => exact ⟨k, _, by omega, rfl, by first | rw [drewN_add, drewN_add] | rw [drewN_add] | rfl, HD⟩
          case measure => simp [intOf]
        · have he : r = 1 := by rw [← HP.out (by omega)]; unfold cmpI; rw [if_neg (by omega), if_neg (by omega)]
          have HE := Lib.hid he
          have hlt' : ¬ (x : Int) < (y : Int) := by omega
          have hgt' : (y : Int) < (x : Int) := by omega
          clear he HP HS
          go_wp2_with fail
          go_quiet (fail)
          go_wp2_with fail
          go_quiet (fail)
          go_wp2_with fail
          go_ret
          exact ⟨by rw [HE.out]; rfl, _, by first | rw [drewN_add, drewN_add] | rw [drewN_add] | rfl⟩
  · have hb : (((D n).length : Int) != ((D m).length : Int)) = true := by rw [bne_iff_ne]; omega
    rw [← cmpD_len hl]
    clear hx hy
    generalize (D n).length = p at *
    generalize (D m).length = q at *
    by_cases hlt : p < q
    · have hlt' : (p : Int) < (q : Int) := by omega
      have he : cmpI (p : Int) (q : Int) = -1 := by unfold cmpI; rw [if_pos hlt']
      rw [he]
      clear he hl
      go_enter Tryz.func67, Tryz.ntmps67
      go_wp2_with fail
      go_ret
      exact ⟨rfl, 0, rfl⟩
    · have hlt' : ¬ (p : Int) < (q : Int) := by omega
      have he : cmpI (p : Int) (q : Int) = 1 := by unfold cmpI; rw [if_neg hlt', if_neg (by omega)]
      rw [he]
      clear he hl
      go_enter Tryz.func67, Tryz.ntmps67
      go_wp2_with fail
      go_ret
      exact ⟨rfl, 0, rfl⟩
end Go.Proofs.YtpjeecahaeaajaaGreatDoor
