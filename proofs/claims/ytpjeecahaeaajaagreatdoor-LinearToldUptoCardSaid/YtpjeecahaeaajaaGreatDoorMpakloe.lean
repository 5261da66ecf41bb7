/- By program out of: RatRight. -/
import Derived.Test.YtpjeecahaeaajaaGreatDoorMmkloij
set_option linter.unusedVariables false
set_option linter.unusedSimpArgs false
namespace Go.Proofs.YtpjeecahaeaajaaGreatDoor
open Go.RowKit Rep
def topB (xs : List Nat) : Bool := decide (xs.length = 0) || decide (xs.getD (xs.length - 1) 0 ≠ 0)
set_option maxRecDepth 100000 in
set_option maxHeartbeats 1000000 in
theorem Right_any (a : Option Addr) (c : Nat) (xs : List Nat) (w : World) (hx : Handed w a c xs) : Calls Tryz.prog 61 #[.slice a xs.length c] w (Gives (.bool (topB xs)) w) := by
  have hle := hx.le
  have hcap := hx.cap
  have hr := hx.reads
  clear hx
  unfold maxLen at hcap
  rcases Nat.eq_zero_or_pos xs.length with h0 | h0
  · have e : topB xs = true := by unfold topB; rw [h0]; rfl
    rw [e, h0]
    clear e hr
    go_enter Tryz.func61, Tryz.ntmps61
    go_wp2_with fail
    go_ret
    exact Gives.mk' rfl
  · obtain ⟨g, off, rfl, hg, hcell⟩ := hr.open' (by rw [List.length_map]; exact h0)
    have hck := hcell (xs.length - 1) _ (map_getElem? (xs := xs) (by omega))
    have hz : ((xs.length : Int) == 0) = false := cast_beq_no (by omega)
    have HT : Hid (topB xs = decide (xs.getD (xs.length - 1) 0 ≠ 0)) := Lib.hid (by unfold topB; rw [decide_eq_false (p := xs.length = 0) (by omega), Bool.false_or])
    clear hcell hr
    unfold u32v at hck
    generalize xs.getD (xs.length - 1) 0 = x at *
    rw [HT.out]
    have hi : ((xs.length : Int) - 1).toNat = xs.length - 1 := by omega
    go_enter Tryz.func61, Tryz.ntmps61
    go_wp2_with fail
    go_ret
    refine Gives.mk' (congrArg Value.bool ?_)
    by_cases h : x = 0
    · subst h; rfl
    · rw [decide_eq_true h]; simpa using h
theorem top_L {xs : List Nat} (hx : Lim xs) (h : topB xs = true) : L (V xs) = xs := by
  refine rep_val (by omega) hx ?_
  unfold Top
  unfold topB at h
  rw [List.getLast?_eq_getElem?]
  rcases Nat.eq_zero_or_pos xs.length with h0 | h0
  · rw [List.length_eq_zero_iff.1 h0]; simp
  · rw [decide_eq_false (p := xs.length = 0) (by omega), Bool.false_or, decide_eq_true_eq] at h
    rw [List.getElem?_eq_getElem (by omega)]
    rw [List.getD_eq_getElem?_getD, List.getElem?_eq_getElem (by omega)] at h
    intro e
    exact h (by simpa using e)
theorem topB_L (n : Nat) : topB (L n) = true := by
  unfold topB
  rcases Nat.eq_zero_or_pos (L n).length with h0 | h0
  · rw [decide_eq_true h0]; rfl
  · have := top_limb (M := n) (by omega)
    rw [decide_eq_true (p := (L n).getD ((L n).length - 1) 0 ≠ 0) (by omega), Bool.or_true]
theorem rightB_iff {s : Bool} {xs ds : List Nat} (hx : Lim xs) (hd : Lim ds) : rightB s xs ds = true ↔ (topB xs = true ∧ topB ds = true ∧ ((xs.length = 0 ∧ s = false ∧ ds.length = 0) ∨ (xs.length ≠ 0 ∧ (ds.length = 0 ∨ (ds.length ≠ 0 ∧ V ds ≠ 1 ∧ Nat.gcd (V xs) (V ds) = 1))))) := by
  by_cases hq : topB xs = true ∧ topB ds = true
  · obtain ⟨h1, h2⟩ := hq
    have e1 := top_L hx h1
    have e2 := top_L hd h2
    generalize hn : V xs = n at *
    generalize hm : V ds = m at *
    subst e1 e2
    have z1 : (L n).length = 0 ↔ n = 0 := L_len_zero
    have z2 : (L m).length = 0 ↔ m = 0 := L_len_zero
    rw [z1, z2, Ne, z1, Ne, z2]
    have hD : 0 < (if m = 0 then 1 else m) := by split <;> omega
    have linj : ∀ {a b : Nat}, L a = L b ↔ a = b := fun {a b} => ⟨fun h => by rw [← V_L a, h, V_L], fun h => by rw [h]⟩
    unfold rightB qOf
    rw [hn, hm, decide_eq_true_eq, mkQ_ng _ _ hD, mkQ_mg _ _ hD, mkQ_den _ _ hD, linj, linj]
    by_cases hn0 : n = 0
    · subst hn0
      rw [Nat.gcd_zero_left, Nat.div_self hD, if_pos rfl]
      simp [denN, h1, h2]
    · rw [if_neg hn0]
      by_cases hm0 : m = 0
      · subst hm0
        simp [denN, hn0, h1, h2]
      · rw [if_neg hm0]
        have hg : 0 < Nat.gcd n m := Nat.gcd_pos_of_pos_left _ (by omega)
        have key : n = n / Nat.gcd n m ↔ Nat.gcd n m = 1 := by
          constructor
          · intro e
            rcases Nat.lt_or_ge 1 (Nat.gcd n m) with h | h
            · have := Nat.div_lt_self (n := n) (by omega) h
              omega
            · omega
          · intro e; rw [e, Nat.div_one]
        rw [key]
        constructor
        · rintro ⟨_, g1, g2⟩
          rw [g1, Nat.div_one] at g2
          refine ⟨h1, h2, .inr ⟨hn0, .inr ⟨hm0, ?_, g1⟩⟩⟩
          intro e
          subst e
          simp [denN] at g2
        · rintro ⟨_, _, ⟨h, _⟩ | ⟨_, h | ⟨_, h3, h4⟩⟩⟩
          · exact absurd h hn0
          · exact absurd h hm0
          · refine ⟨rfl, h4, ?_⟩
            rw [h4, Nat.div_one]
            simp [denN, h3]
  · constructor
    · intro h
      obtain ⟨_, h2, h3⟩ := of_decide_eq_true h
      exact absurd ⟨by rw [h2]; exact topB_L _, by rw [h3]; exact topB_L _⟩ hq
    · rintro ⟨h1, h2, _⟩
      exact absurd ⟨h1, h2⟩ hq
theorem eq_of_iff {a b : Bool} (h : a = true ↔ b = true) : a = b := Bool.eq_iff_iff.2 h
theorem NumIn.handed {w : World} {a : Option Addr} {c : Nat} {xs : List Nat} (h : NumIn w a c xs) : Handed w a c xs := ⟨h.lim, h.reads, h.le, h.cap⟩
set_option maxRecDepth 100000 in
set_option maxHeartbeats 8000000 in
theorem RightP_in {w : World} {s : Bool} {a1 a2 : Option Addr} {c1 c2 : Nat} {xs ds : List Nat} (h1 : NumIn w a1 c1 xs) (h2 : NumIn w a2 c2 ds) (hT : Tab w) (lx : xs.length ≤ 2000000) (ld : ds.length ≤ 2000000) :
    Calls Tryz.prog 32 #[.agg #[.bool s, .slice a1 xs.length c1, .slice a2 ds.length c2]] w (GivesB (rightB s xs ds) w) := by
  obtain ⟨W0, hW0⟩ : ∃ W0, W0 = w.alloc (.cells #[.bool s, .slice a1 xs.length c1, .slice a2 ds.length c2] 27) := ⟨_, rfl⟩
  have hB0 : Below w.heap.size w W0 := by rw [hW0]; exact (Below.refl _ _).alloc (Nat.le_refl _) _
  have HK := Lib.hid (keep3 (show W0.heap[w.heap.size]? = some (.cells #[.bool s, .slice a1 xs.length c1, .slice a2 ds.length c2] 27 (0, 0)) by rw [hW0]; exact heap_alloc_new w _))
  have HIFF := Lib.hid (rightB_iff (s := s) h1.lim h2.lim)
  have HR1 : Hid (∀ W, Below W0.heap.size W0 W → Calls Tryz.prog 61 #[.slice a1 xs.length c1] W (Gives (.bool (topB xs)) W)) := Lib.hid fun W hb => Right_any a1 c1 xs W ((h1.kept hB0).kept hb).handed
  have HR2 : Hid (∀ W, Below W0.heap.size W0 W → Calls Tryz.prog 61 #[.slice a2 ds.length c2] W (Gives (.bool (topB ds)) W)) := Lib.hid fun W hb => Right_any a2 c2 ds W ((h2.kept hB0).kept hb).handed
  have HNE : Hid (∀ W, Below W0.heap.size W0 W → NumE W a1 xs.length c1 (V xs) ∧ NumE W a2 ds.length c2 (V ds) ∧ Tab W) := Lib.hid fun W hb => ⟨.inn (((h1.kept hB0).kept hb)), .inn (((h2.kept hB0).kept hb)), (hT.kept hB0).kept hb⟩
  have HB0 := Lib.hid hB0
  have HW0 := Lib.hid hW0
  obtain ⟨p0, p1, p2, _⟩ := HK.out W0 (Below.refl _ _)
  clear h1 h2 hT hB0 hW0
  generalize topB xs = tx at *
  generalize topB ds = td at *
  go_enter Tryz.func32, Tryz.ntmps32
  go_wp2_with fail
  rw [← HW0.out]
  go_quiet (fail)
  have hbd : Below W0.heap.size W0 (W0.drewN nq) := Below.drewN' (Below.refl _ _) nq
  have HBD := Lib.hid hbd
  clear hbd
  obtain ⟨p0, p1, p2, _⟩ := HK.out _ HBD.out
  cases tx
  case false =>
    have HE : Hid (rightB s xs ds = false) := Lib.hid (by rw [Bool.eq_false_iff]; intro h; have := (HIFF.out.1 h).1; cases this)
    go_wp2_with fail
    refine (HR1.out _ HBD.out).mono ?_
    rintro e w1 ⟨rfl, rfl⟩
    go_wp2_with fail
    go_ret
    exact ⟨by rw [HE.out]; rfl, HB0.out.trans (HBD.out.mono HB0.out.size)⟩
  case true =>
  have HBW := Lib.hid (HB0.out.trans (HBD.out.mono HB0.out.size))
  generalize W0.drewN nq = W1 at *
  go_wp2_with fail
  refine (HR1.out _ HBD.out).mono ?_
  rintro e w1 ⟨rfl, rfl⟩
  cases td
  case false =>
    have HE : Hid (rightB s xs ds = false) := Lib.hid (by rw [Bool.eq_false_iff]; intro h; have := (HIFF.out.1 h).2.1; cases this)
    go_wp2_with fail
    refine (HR2.out _ HBD.out).mono ?_
    rintro e w1 ⟨rfl, rfl⟩
    go_wp2_with fail
    go_ret
    exact ⟨by rw [HE.out]; rfl, HBW.out⟩
  case true =>
  go_wp2_with fail
  refine (HR2.out _ HBD.out).mono ?_
  rintro e w1 ⟨rfl, rfl⟩
  rcases Nat.eq_zero_or_pos xs.length with h0 | h0
  · have hz : ((xs.length : Int) == 0) = true := by rw [h0]; rfl
    cases s
    case true =>
      have HE : Hid (rightB true xs ds = false) := Lib.hid (by
        rw [Bool.eq_false_iff]; intro h
        rcases (HIFF.out.1 h).2.2 with ⟨_, h2, _⟩ | ⟨h2, _⟩
        · cases h2
        · exact h2 h0)
      clear h0
      go_wp2_with fail
      go_ret
      exact ⟨by rw [HE.out]; rfl, HBW.out⟩
    case false =>
      have HE : Hid (rightB false xs ds = decide (ds.length = 0)) := Lib.hid (by
        refine eq_of_iff (HIFF.out.trans ?_)
        rw [decide_eq_true_eq]
        constructor
        · rintro ⟨_, _, ⟨_, _, h⟩ | ⟨h, _⟩⟩
          · exact h
          · exact absurd h0 h
        · intro h
          exact ⟨by trivial, by trivial, .inl ⟨h0, rfl, h⟩⟩)
      clear h0
      by_cases hd : ds.length = 0
      · have hz2 : ((ds.length : Int) == 0) = true := by rw [hd]; rfl
        rw [decide_eq_true hd] at HE
        clear hd
        go_wp2_with fail
        go_ret
        exact ⟨by rw [HE.out]; rfl, HBW.out⟩
      · have hz2 : ((ds.length : Int) == 0) = false := cast_beq_no hd
        rw [decide_eq_false hd] at HE
        clear hd
        go_wp2_with fail
        go_ret
        exact ⟨by rw [HE.out]; rfl, HBW.out⟩
  · have hz : ((xs.length : Int) == 0) = false := cast_beq_no (by omega)
    by_cases hd : ds.length = 0
    · have hz2 : ((ds.length : Int) == 0) = true := by rw [hd]; rfl
      have HE : Hid (rightB s xs ds = true) := Lib.hid (HIFF.out.2 ⟨by trivial, by trivial, .inr ⟨by omega, .inl hd⟩⟩)
      clear hd h0
      go_wp2_with fail
      go_ret
      exact ⟨by rw [HE.out]; rfl, HBW.out⟩
    · have hz2 : ((ds.length : Int) == 0) = false := cast_beq_no hd
      have HI := Lib.hid (isOne_any (HNE.out _ HBD.out).2.1)
      by_cases h1 : V ds = 1
      · have HE : Hid (rightB s xs ds = false) := Lib.hid (by
          rw [Bool.eq_false_iff]; intro h
          rcases (HIFF.out.1 h).2.2 with ⟨h2, _⟩ | ⟨_, h2 | ⟨_, h2, _⟩⟩
          · omega
          · exact hd h2
          · exact h2 h1)
        rw [decide_eq_true h1] at HI
        clear hd h0 h1
        go_wp2_with fail
        refine HI.out.mono ?_
        rintro e w2 ⟨rfl, hb2⟩
        have HE2 := Lib.hid (HBW.out.trans (hb2.mono HBW.out.size))
        clear hb2 HI
        go_wp2_with fail
        go_ret
        exact ⟨by rw [HE.out]; rfl, HE2.out⟩
      · have HE : Hid (rightB s xs ds = decide (Nat.gcd (V xs) (V ds) = 1)) := Lib.hid (by
          refine eq_of_iff (HIFF.out.trans ?_)
          rw [decide_eq_true_eq]
          constructor
          · rintro ⟨_, _, ⟨h, _⟩ | ⟨_, h | ⟨_, _, h⟩⟩⟩
            · omega
            · exact absurd h hd
            · exact h
          · intro h
            exact ⟨by trivial, by trivial, .inr ⟨by omega, .inr ⟨hd, h1, h⟩⟩⟩)
        rw [decide_eq_false h1] at HI
        clear hd h0 h1
        go_wp2_with fail
        refine HI.out.mono ?_
        rintro e w2 ⟨rfl, hb2⟩
        have hb12 := HBD.out.trans (hb2.mono HBD.out.size)
        obtain ⟨x1, x2, x3⟩ := HNE.out _ hb12
        have HC := Lib.hid (common_any x1 x2 x3 (by omega) (by omega))
        have HB2 := Lib.hid (HBW.out.trans (hb2.mono HBW.out.size))
        clear hb2 hb12 x1 x2 x3 HI
        go_wp2_with fail
        refine HC.out.mono ?_
        rintro e w3 ⟨a3, l3, c3, rfl, hn3, _, hb3⟩
        have HI3 := Lib.hid (isOne_any hn3)
        have HB3 := Lib.hid (HB2.out.trans (hb3.mono HB2.out.size))
        clear hn3 hb3 HC HB2
        go_wp2_with fail
        refine HI3.out.mono ?_
        rintro e w4 ⟨rfl, hb4⟩
        have HB4 := Lib.hid (HB3.out.trans (hb4.mono HB3.out.size))
        clear hb4
        go_wp2_with fail
        go_ret
        exact ⟨by rw [HE.out]; rfl, HB4.out⟩
end Go.Proofs.YtpjeecahaeaajaaGreatDoor
