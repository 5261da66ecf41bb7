/- By program out of: RatCmp, RatText, RatTerm, RefRight, RatLaw, RatHand, RatTold, RatSt, RatPair, LnBase, LnAns. -/
import Derived.Test.YtpjeecahaeaajaaGreatDoorMoeejck
import Derived.IntWalk
import Derived.Test.YtpjeecahaeaajaaGreatDoorMhcomgm
set_option linter.unusedVariables false
set_option linter.unusedSimpArgs false
namespace Go.Proofs.YtpjeecahaeaajaaGreatDoor
open Go.RowKit Rep
end Go.Proofs.YtpjeecahaeaajaaGreatDoor

namespace Go.Proofs.YtpjeecahaeaajaaGreatDoor
open Go.RowKit Rep
theorem textE {w : World} {a : Option Addr} {l c n : Nat} (h : NumE w a l c n) : Calls Tryz.prog 51 #[.slice a l c] w (GivesTxt n w) := by
  obtain ⟨xs, rfl, rfl, hx⟩ := h.ex
  exact Text_any a xs c w hx
theorem dlen_L {n k : Nat} (h : (L n).length ≤ k) : (D n).length ≤ 10 * k := by
  have := D_len_limbs (L_lim n)
  rw [V_L] at this
  omega
def tN (n : Nat) : ByteArray := strOf (txt n)
theorem tN_len (n : Nat) : (tN n).size ≤ (D n).length + 1 := by
  show (strOf (txt n)).size ≤ _
  unfold strOf txt
  by_cases h : n = 0
  · rw [if_pos h]; show 1 ≤ _; omega
  · rw [if_neg h]
    show ((D n).reverse.map (fun d => UInt8.ofNat (48 + d))).toArray.size ≤ _
    simp
def textB (s o : Bool) (a b : ByteArray) : ByteArray := (if s = true then (⟨#[45]⟩ ++ a) else a) ++ (if o = true then ⟨#[]⟩ else (⟨#[47]⟩ ++ b))
def textQ (q : Rat) : ByteArray := textB (ngQ q) (decide (q.den = 1)) (tN (mgQ q)) (tN (denN q.den))
theorem textB_one (s : Bool) (a b : ByteArray) : textB s true a b = if s = true then (⟨#[45]⟩ ++ a) else a := by
  unfold textB
  rw [if_pos rfl]
  apply ByteArray.ext
  simp [ByteArray.data_append]
theorem textB_more (s : Bool) (a b : ByteArray) : textB s false a b = (if s = true then (⟨#[45]⟩ ++ a) else a) ++ (⟨#[47]⟩ ++ b) := rfl
def GivesTx (v : ByteArray) (w : World) (e : Ending) (w' : World) : Prop := e = .returned (.string v) ∧ Below w.heap.size w w'
theorem den_gt {x : Rat} (hd : x.den ≠ 1) : 0 < (L (denN x.den)).length := by
  rw [Nat.pos_iff_ne_zero, Ne, L_len_zero]
  unfold denN
  rw [if_neg hd]
  have := den_pos x
  omega
set_option maxRecDepth 100000 in
set_option maxHeartbeats 1000000 in
theorem Text_q {w : World} {x : Rat} {a1 a2 : Option Addr} {c1 c2 : Nat} (hx : AtQ w a1 c1 a2 c2 x) (hs : szQ x ≤ 10000) :
    Calls Tryz.prog 27 #[qV x a1 c1 a2 c2] w (GivesTx (textQ x) w) := by
  have hb0 : Below w.heap.size w (w.alloc (.cells #[.bool (ngQ x), .slice a1 (L (mgQ x)).length c1, .slice a2 (L (denN x.den)).length c2] 27)) := (Below.refl _ _).alloc (Nat.le_refl _) _
  have hbl : (w.alloc (.cells #[.bool (ngQ x), .slice a1 (L (mgQ x)).length c1, .slice a2 (L (denN x.den)).length c2] 27)).heap[w.heap.size]? = some (.cells #[.bool (ngQ x), .slice a1 (L (mgQ x)).length c1, .slice a2 (L (denN x.den)).length c2] 27 (0, 0)) := heap_alloc_new w _
  have hs1 := hs
  unfold szQ at hs1
  have HT1 : Hid (Calls Tryz.prog 51 #[.slice a1 (L (mgQ x)).length c1] (w.alloc (.cells #[.bool (ngQ x), .slice a1 (L (mgQ x)).length c1, .slice a2 (L (denN x.den)).length c2] 27)) (GivesTx (tN (mgQ x)) (w.alloc (.cells #[.bool (ngQ x), .slice a1 (L (mgQ x)).length c1, .slice a2 (L (denN x.den)).length c2] 27)))) := Lib.hid (textE (NumE.of (hx.kept hb0).num (by omega)))
  have HT2 : Hid (∀ W, Below (w.alloc (.cells #[.bool (ngQ x), .slice a1 (L (mgQ x)).length c1, .slice a2 (L (denN x.den)).length c2] 27)).heap.size (w.alloc (.cells #[.bool (ngQ x), .slice a1 (L (mgQ x)).length c1, .slice a2 (L (denN x.den)).length c2] 27)) W → Calls Tryz.prog 51 #[.slice a2 (L (denN x.den)).length c2] W (GivesTx (tN (denN x.den)) W)) := Lib.hid (fun W h => textE (NumE.of ((hx.kept hb0).kept (w' := W) h).den (by omega)))
  have HK := Lib.hid (keep3 hbl)
  have HB := Lib.hid hb0
  have z1 := tN_len (mgQ x)
  have z2 := tN_len (denN x.den)
  have z3 := dlen_L (n := mgQ x) (k := 10000) (by omega)
  have z4 := dlen_L (n := denN x.den) (k := 10000) (by omega)
  have hz1 : (tN (mgQ x)).size ≤ 200000 := by omega
  have hz2 : (tN (denN x.den)).size ≤ 200000 := by omega
  have hgt : (x.den = 1 ∧ (L (denN x.den)).length = 0) ∨ (x.den ≠ 1 ∧ 0 < (L (denN x.den)).length) := by
    by_cases hd : x.den = 1
    · exact .inl ⟨hd, by rw [hd]; rfl⟩
    · exact .inr ⟨hd, den_gt hd⟩
  unfold textQ qV ratV
  clear hb0 hbl hx hs hs1 z1 z2 z3 z4
  generalize tN (mgQ x) = ta at *
  generalize tN (denN x.den) = tb at *
  generalize (L (mgQ x)).length = la at *
  generalize (L (denN x.den)).length = lb at *
  generalize ngQ x = s at *
  rcases hgt with ⟨h1, hgt⟩ | ⟨h1, hgt⟩
  · rw [decide_eq_true h1, textB_one]
    subst hgt
    clear h1
    cases s
    all_goals
      go_enter Tryz.func27, Tryz.ntmps27
      go_wp2_with fail
      refine HT1.out.mono ?_
      rintro e w1 ⟨rfl, hb1⟩
      obtain ⟨m0, m1, m2, n0, n1, n2⟩ := HK.out _ hb1
      have HE := Lib.hid (HB.out.trans (hb1.mono HB.out.size))
      clear hb1 HT1 HT2 HK
      go_wp2_with fail
      go_ret
      exact ⟨rfl, HE.out⟩
  · rw [decide_eq_false h1, textB_more]
    have hg1 : decide ((0 : Int) < (lb : Int)) = true := decide_eq_true (by omega)
    have hg2 : decide (0 < lb) = true := decide_eq_true hgt
    clear h1 hgt
    cases s
    all_goals
      go_enter Tryz.func27, Tryz.ntmps27
      go_wp2_with fail
      refine HT1.out.mono ?_
      rintro e w1 ⟨rfl, hb1⟩
      obtain ⟨m0, m1, m2, n0, n1, n2⟩ := HK.out _ hb1
      have HT3 := Lib.hid (HT2.out _ hb1)
      have HE1 := Lib.hid (HB.out.trans (hb1.mono HB.out.size))
      clear hb1 HT1 HT2 HK
      go_wp2_with fail
      refine HT3.out.mono ?_
      rintro e w2 ⟨rfl, hb2⟩
      have HE := Lib.hid (HE1.out.trans (hb2.mono HE1.out.size))
      clear hb2 HE1 HT3
      go_wp2_with fail
      go_ret
      exact ⟨rfl, HE.out⟩
end Go.Proofs.YtpjeecahaeaajaaGreatDoor

namespace Go.Proofs.YtpjeecahaeaajaaGreatDoor
open Go.RowKit Rep
end Go.Proofs.YtpjeecahaeaajaaGreatDoor

namespace Go.Proofs.YtpjeecahaeaajaaGreatDoor
open Go.RowKit Rep
def qOf (s : Bool) (xs ds : List Nat) : Rat := mkQ s (V xs) (if V ds = 0 then 1 else V ds)
def rightB (s : Bool) (xs ds : List Nat) : Bool := decide (s = ngQ (qOf s xs ds) ∧ xs = L (mgQ (qOf s xs ds)) ∧ ds = L (denN (qOf s xs ds).den))
theorem rightB_top {s : Bool} {xs ds : List Nat} (h : rightB s xs ds = true) : (xs.length ≠ 0 → xs.getD (xs.length - 1) 0 ≠ 0) ∧ (ds.length ≠ 0 → ds.getD (ds.length - 1) 0 ≠ 0) ∧ ¬ (xs.length = 0 ∧ s = true) := by
  obtain ⟨h1, h2, h3⟩ := of_decide_eq_true h
  have key : ∀ {n : Nat} {l : List Nat}, l = L n → l.length ≠ 0 → l.getD (l.length - 1) 0 ≠ 0 := fun {n l} e hl => by
    subst e; exact Nat.ne_of_gt (top_limb (M := n) (by omega))
  refine ⟨key h2, key h3, fun ⟨e1, e2⟩ => ?_⟩
  have e3 : mgQ (qOf s xs ds) = 0 := by rw [h2] at e1; exact L_len_zero.1 e1
  have e4 := mg_zero.1 e3
  rw [e4, e2] at h1
  cases h1
theorem last_limb {w : World} {a : Option Addr} {xs : List Nat} (h : Reads w a (xs.map u32v)) (hl : xs.length ≠ 0) : ∃ g off, a = some ⟨g, off, none⟩ ∧ g < w.heap.size ∧ w.cell? ⟨g, off + (xs.length - 1), none⟩ = some (.int .u32 ((xs.getD (xs.length - 1) 0 : Nat) : Int)) := by
  obtain ⟨g, off, rfl, hg, hcell⟩ := h.open' (by rw [List.length_map]; omega)
  exact ⟨g, off, rfl, hg, hcell (xs.length - 1) _ (map_getElem? (xs := xs) (by omega))⟩
def Tail3 (w : World) (a : Option Addr) (l : Nat) (bad : Bool) : Prop :=
  (l = 0 ∧ bad = false) ∨ (∃ g off x : Nat, a = some ⟨g, off, none⟩ ∧ g < w.heap.size ∧ w.cell? ⟨g, off + (l - 1), none⟩ = some (.int .u32 (x : Int)) ∧ 0 < l ∧ ((x : Int) == 0) = bad)
theorem tail3 {w : World} {a : Option Addr} {xs : List Nat} (h : Reads w a (xs.map u32v)) : Tail3 w a xs.length (decide (xs.length ≠ 0 ∧ xs.getD (xs.length - 1) 0 = 0)) := by
  by_cases hl : xs.length = 0
  · exact .inl ⟨hl, by simp [hl]⟩
  · obtain ⟨g, off, ha, hg, hc⟩ := last_limb h hl
    refine .inr ⟨g, off, _, ha, hg, hc, by omega, ?_⟩
    generalize xs.getD (xs.length - 1) 0 = x
    rw [Bool.eq_iff_iff]
    simp [hl]
set_option maxRecDepth 100000 in
set_option maxHeartbeats 8000000 in
theorem RightR_any {w : World} {s : Bool} {a1 a2 : Option Addr} {c1 c2 : Nat} {xs ds : List Nat} (hx : NumIn w a1 c1 xs) (hd : NumIn w a2 c2 ds) (lx : xs.length ≤ 2000000) (ld : ds.length ≤ 2000000) :
    Calls Tryz.prog 12 #[ratV s (.slice a1 xs.length c1) (.slice a2 ds.length c2)] w (GivesB (rightB s xs ds) w) := by
  obtain ⟨W0, hW0⟩ : ∃ W0, W0 = w.alloc (.cells #[.bool s, .slice a1 xs.length c1, .slice a2 ds.length c2] 27) := ⟨_, rfl⟩
  have hB0 : Below w.heap.size w W0 := by rw [hW0]; exact (Below.refl _ _).alloc (Nat.le_refl _) _
  have b1 : W0.heap[w.heap.size]? = some (.cells #[.bool s, .slice a1 xs.length c1, .slice a2 ds.length c2] 27 (0, 0)) := by rw [hW0]; exact heap_alloc_new w _
  have t1 := tail3 hx.reads
  have t2 := tail3 hd.reads
  have htop := @rightB_top s xs ds
  have HC : Hid (∀ W, Below W0.heap.size W0 W → Calls Tryz.prog 14 #[ratV s (.slice a1 xs.length c1) (.slice a2 ds.length c2)] W (fun e W' => ∃ a3 l3 c3 a4 l4 c4, e = .returned (.agg #[.bool s, .slice a3 l3 c3, .slice a4 l4 c4]) ∧ Below W0.heap.size W0 W' ∧
      Hid (Calls Tryz.prog 24 #[.agg #[.bool s, .slice a3 l3 c3, .slice a4 l4 c4]] W' (fun e W2 => ∃ t a5 l5 c5 a6 l6 c6, e = .returned (.agg #[.bool t, .slice a5 l5 c5, .slice a6 l6 c6]) ∧ Below W0.heap.size W0 W2 ∧
        Hid (Calls Tryz.prog 23 #[ratV s (.slice a1 xs.length c1) (.slice a2 ds.length c2), .agg #[.bool t, .slice a5 l5 c5, .slice a6 l6 c6]] W2 (fun e W3 => e = .returned (.bool (rightB s xs ds)) ∧ Below W0.heap.size W0 W3)))))) := Lib.hid fun W h => by
    have hx1 := (hx.kept hB0).kept h
    have hd1 := (hd.kept hB0).kept h
    refine (Of_any s a1 a2 xs.length c1 ds.length c2 (V xs) (V ds) W (.inn hx1) (.inn hd1) (by omega) (by omega)).mono ?_
    rintro e W' ⟨a3, c3, a4, c4, rfl, d3, d4, hb1⟩
    have hB1 := h.trans (hb1.mono h.size)
    have hp : 0 < (if V ds = 0 then 1 else V ds) := by split <;> omega
    have q1 : (D (V xs)).length ≤ 30000000 := by have := dlen_L (V_len hx.lim (Nat.le_refl _)); omega
    have q2 : (D (if V ds = 0 then 1 else V ds)).length ≤ 30000000 := by
      split
      · rw [D_one]; simp
      · have := dlen_L (V_len hd.lim (Nat.le_refl _)); omega
    refine ⟨a3, _, c3, a4, _, c4, rfl, hB1, Lib.hid ((Form_q (s := s) d3 d4 hp q1 q2).mono ?_)⟩
    rintro e W2 ⟨a5, c5, a6, c6, rfl, hq, hb2⟩
    have hB2 := hB1.trans (hb2.mono hB1.size)
    refine ⟨_, a5, _, c5, a6, _, c6, rfl, hB2, Lib.hid ((SameR_any s _ a1 a2 a5 a6 c1 c2 c5 c6 xs ds (L (mgQ (qOf s xs ds))) (L (denN (qOf s xs ds).den)) W2 (((hx1.kept hb1).kept hb2).reads) (((hd1.kept hb1).kept hb2).reads) hq.num.1 hq.den.1 (by omega) (by omega)).mono ?_)⟩
    rintro e W3 ⟨rfl, hb3⟩
    exact ⟨rfl, hB2.trans (hb3.mono hB2.size)⟩
  have HK : Hid (∀ W, Below W0.heap.size W0 W → W.cell? ⟨w.heap.size, 0, none⟩ = some (.bool s) ∧ W.cell? ⟨w.heap.size, 1, none⟩ = some (.slice a1 xs.length c1) ∧ W.cell? ⟨w.heap.size, 2, none⟩ = some (.slice a2 ds.length c2)) := Lib.hid fun W h => by
    obtain ⟨q0, q1, q2, _⟩ := keep3 b1 W h
    exact ⟨q0, q1, q2⟩
  have HB := Lib.hid hB0
  have HW0 := Lib.hid hW0
  obtain ⟨k0, k1, k2, j0, j1, j2⟩ := cells3 b1
  have hV : rightB s xs ds = true → decide (xs.length ≠ 0 ∧ xs.getD (xs.length - 1) 0 = 0) = false ∧ decide (ds.length ≠ 0 ∧ ds.getD (ds.length - 1) 0 = 0) = false ∧ (xs.length = 0 → s = false) := fun h => by
    obtain ⟨f1, f2, f3⟩ := htop h
    exact ⟨decide_eq_false fun c => f1 c.1 c.2, decide_eq_false fun c => f2 c.1 c.2, fun e => by cases s <;> first | rfl | exact absurd ⟨e, rfl⟩ f3⟩
  clear hW0 hB0 b1 hx hd htop
  generalize decide (xs.length ≠ 0 ∧ xs.getD (xs.length - 1) 0 = 0) = u1 at *
  generalize decide (ds.length ≠ 0 ∧ ds.getD (ds.length - 1) 0 = 0) = u2 at *
  generalize rightB s xs ds = r at *
  generalize xs.length = l1 at *
  generalize ds.length = l2 at *
  have hend : (u1 = false ∧ u2 = false ∧ (l1 = 0 → s = false)) ∨ r = false := by
    cases r
    · exact .inr rfl
    · exact .inl (hV rfl)
  unfold ratV at HC ⊢
  clear hV
  rcases t1 with ⟨rfl, rfl⟩ | ⟨g1, o1, x1, rfl, hgl1, hck1, hp1, hz1⟩
  · rcases t2 with ⟨rfl, rfl⟩ | ⟨g2, o2, x2, rfl, hgl2, hck2, hp2, hz2⟩
    · cases s
      · clear hend
        have HC1 := Lib.hid (HC.out _ (below_drew _))
        go_enter Tryz.func12, Tryz.ntmps12
        go_wp2_with fail
        rw [← HW0.out]
        go_region_held3 (fun w' => w'.cell? ⟨w.heap.size, 0, none⟩ = some (.bool (false)) ∧ w'.cell? ⟨w.heap.size, 1, none⟩ = some (.slice a1 0 c1) ∧ w'.cell? ⟨w.heap.size, 2, none⟩ = some (.slice a2 0 c2)) (first | exact HK.out _ hb5 | exact HK.out _ hb4 | exact HK.out _ hb3 | go_keep)
            (first
              | (go_at_call 14; (with_reducible refine HC1.out.mono ?_); rintro e w3 ⟨a3, l3, c3, a4, l4, c4, rfl, hb3, HC2⟩)
              | (go_at_call 24; (with_reducible refine HC2.out.mono ?_); rintro e w4 ⟨t, a5, l5, c5, a6, l6, c6, rfl, hb4, HC3⟩)
              | (go_at_call 23; (with_reducible refine HC3.out.mono ?_); rintro e w5 ⟨rfl, hb5⟩))
        have HE := Lib.hid (HB.out.trans (hb5.mono HB.out.size))
        clear HC HC1 HC2 HC3 HK HW0 hb3 hb4 hb5
        go_wp2_with fail
        go_ret
        exact ⟨rfl, HE.out⟩
      · skip
        have hr : r = false := by
          rcases hend with h | h
          · simp at h
          · exact h
        subst hr
        clear HC HK hend
        have HE := HB
        clear HB
        go_enter Tryz.func12, Tryz.ntmps12
        go_wp2_with fail
        rw [← HW0.out]
        go_wp2_with fail
        go_ret
        exact ⟨rfl, HE.out⟩
    · skip
      have hg2a : decide ((0 : Int) < (l2 : Int)) = true := decide_eq_true (by omega)
      have hg2b : decide (0 < l2) = true := decide_eq_true hp2
      have hg2c : ((l2 : Int) == 0) = false := cast_beq_no (by omega)
      have hi2 : ((l2 : Int) - 1).toNat = l2 - 1 := by omega
      cases u2
      · cases s
        · clear hend
          have HC1 := Lib.hid (HC.out _ (below_drew _))
          go_enter Tryz.func12, Tryz.ntmps12
          go_wp2_with fail
          rw [← HW0.out]
          go_region_held3 (fun w' => w'.cell? ⟨w.heap.size, 0, none⟩ = some (.bool (false)) ∧ w'.cell? ⟨w.heap.size, 1, none⟩ = some (.slice a1 0 c1) ∧ w'.cell? ⟨w.heap.size, 2, none⟩ = some (.slice (some ⟨g2, o2, none⟩) l2 c2)) (first | exact HK.out _ hb5 | exact HK.out _ hb4 | exact HK.out _ hb3 | go_keep)
              (first
                | (go_at_call 14; (with_reducible refine HC1.out.mono ?_); rintro e w3 ⟨a3, l3, c3, a4, l4, c4, rfl, hb3, HC2⟩)
                | (go_at_call 24; (with_reducible refine HC2.out.mono ?_); rintro e w4 ⟨t, a5, l5, c5, a6, l6, c6, rfl, hb4, HC3⟩)
                | (go_at_call 23; (with_reducible refine HC3.out.mono ?_); rintro e w5 ⟨rfl, hb5⟩))
          have HE := Lib.hid (HB.out.trans (hb5.mono HB.out.size))
          clear HC HC1 HC2 HC3 HK HW0 hb3 hb4 hb5
          go_wp2_with fail
          go_ret
          exact ⟨rfl, HE.out⟩
        · skip
          have hr : r = false := by
            rcases hend with h | h
            · simp at h
            · exact h
          subst hr
          clear HC HK hend
          have HE := HB
          clear HB
          go_enter Tryz.func12, Tryz.ntmps12
          go_wp2_with fail
          rw [← HW0.out]
          go_wp2_with fail
          go_ret
          exact ⟨rfl, HE.out⟩
      · skip
        have hr : r = false := by
          rcases hend with h | h
          · simp at h
          · exact h
        subst hr
        clear HC HK hend
        have HE := HB
        clear HB
        go_enter Tryz.func12, Tryz.ntmps12
        go_wp2_with fail
        rw [← HW0.out]
        go_wp2_with fail
        go_ret
        exact ⟨rfl, HE.out⟩
  · skip
    have hg1a : decide ((0 : Int) < (l1 : Int)) = true := decide_eq_true (by omega)
    have hg1b : decide (0 < l1) = true := decide_eq_true hp1
    have hg1c : ((l1 : Int) == 0) = false := cast_beq_no (by omega)
    have hi1 : ((l1 : Int) - 1).toNat = l1 - 1 := by omega
    cases u1
    · rcases t2 with ⟨rfl, rfl⟩ | ⟨g2, o2, x2, rfl, hgl2, hck2, hp2, hz2⟩
      · clear hend
        have HC1 := Lib.hid (HC.out _ (below_drew _))
        go_enter Tryz.func12, Tryz.ntmps12
        go_wp2_with fail
        rw [← HW0.out]
        go_region_held3 (fun w' => w'.cell? ⟨w.heap.size, 0, none⟩ = some (.bool (s)) ∧ w'.cell? ⟨w.heap.size, 1, none⟩ = some (.slice (some ⟨g1, o1, none⟩) l1 c1) ∧ w'.cell? ⟨w.heap.size, 2, none⟩ = some (.slice a2 0 c2)) (first | exact HK.out _ hb5 | exact HK.out _ hb4 | exact HK.out _ hb3 | go_keep)
            (first
              | (go_at_call 14; (with_reducible refine HC1.out.mono ?_); rintro e w3 ⟨a3, l3, c3, a4, l4, c4, rfl, hb3, HC2⟩)
              | (go_at_call 24; (with_reducible refine HC2.out.mono ?_); rintro e w4 ⟨t, a5, l5, c5, a6, l6, c6, rfl, hb4, HC3⟩)
              | (go_at_call 23; (with_reducible refine HC3.out.mono ?_); rintro e w5 ⟨rfl, hb5⟩))
        have HE := Lib.hid (HB.out.trans (hb5.mono HB.out.size))
        clear HC HC1 HC2 HC3 HK HW0 hb3 hb4 hb5
        go_wp2_with fail
        go_ret
        exact ⟨rfl, HE.out⟩
      · skip
        have hg2a : decide ((0 : Int) < (l2 : Int)) = true := decide_eq_true (by omega)
        have hg2b : decide (0 < l2) = true := decide_eq_true hp2
        have hg2c : ((l2 : Int) == 0) = false := cast_beq_no (by omega)
        have hi2 : ((l2 : Int) - 1).toNat = l2 - 1 := by omega
        cases u2
        · clear hend
          have HC1 := Lib.hid (HC.out _ (below_drew _))
          go_enter Tryz.func12, Tryz.ntmps12
          go_wp2_with fail
          rw [← HW0.out]
          go_region_held3 (fun w' => w'.cell? ⟨w.heap.size, 0, none⟩ = some (.bool (s)) ∧ w'.cell? ⟨w.heap.size, 1, none⟩ = some (.slice (some ⟨g1, o1, none⟩) l1 c1) ∧ w'.cell? ⟨w.heap.size, 2, none⟩ = some (.slice (some ⟨g2, o2, none⟩) l2 c2)) (first | exact HK.out _ hb5 | exact HK.out _ hb4 | exact HK.out _ hb3 | go_keep)
              (first
                | (go_at_call 14; (with_reducible refine HC1.out.mono ?_); rintro e w3 ⟨a3, l3, c3, a4, l4, c4, rfl, hb3, HC2⟩)
                | (go_at_call 24; (with_reducible refine HC2.out.mono ?_); rintro e w4 ⟨t, a5, l5, c5, a6, l6, c6, rfl, hb4, HC3⟩)
                | (go_at_call 23; (with_reducible refine HC3.out.mono ?_); rintro e w5 ⟨rfl, hb5⟩))
          have HE := Lib.hid (HB.out.trans (hb5.mono HB.out.size))
          clear HC HC1 HC2 HC3 HK HW0 hb3 hb4 hb5
          go_wp2_with fail
          go_ret
          exact ⟨rfl, HE.out⟩
        · skip
          have hr : r = false := by
            rcases hend with h | h
            · simp at h
            · exact h
          subst hr
          clear HC HK hend
          have HE := HB
          clear HB
          go_enter Tryz.func12, Tryz.ntmps12
          go_wp2_with fail
          rw [← HW0.out]
          go_wp2_with fail
          go_ret
          exact ⟨rfl, HE.out⟩
    · skip
      have hr : r = false := by
        rcases hend with h | h
        · simp at h
        · exact h
      subst hr
      clear HC HK hend
      have HE := HB
      clear HB
      go_enter Tryz.func12, Tryz.ntmps12
      go_wp2_with fail
      rw [← HW0.out]
      go_wp2_with fail
      go_ret
      exact ⟨rfl, HE.out⟩
end Go.Proofs.YtpjeecahaeaajaaGreatDoor

namespace Go.Proofs.YtpjeecahaeaajaaGreatDoor
open Go.RowKit Rep
abbrev RawR := Bool × (Option Addr × Nat × Nat) × (Option Addr × Nat × Nat)
def Rats (w : World) (g : Nat) (ts : List RawR) : Prop := ∀ k t, ts[k]? = some t → w.cell? ⟨g, k * 3, none⟩ = some (.bool t.1) ∧ w.cell? ⟨g, k * 3 + 1, none⟩ = some (.slice t.2.1.1 t.2.1.2.1 t.2.1.2.2) ∧ w.cell? ⟨g, k * 3 + 2, none⟩ = some (.slice t.2.2.1 t.2.2.2.1 t.2.2.2.2)
def greatB (ts : List RawR) : Bool := ts.any fun t => decide (6 < t.2.1.2.1) || decide (6 < t.2.2.2.1)
set_option maxRecDepth 100000 in
set_option maxHeartbeats 1000000 in
theorem Great_any (g c : Nat) (ts : List RawR) (w : World) (hr : Rats w g ts) (hg : g < w.heap.size) (hl : ts.length ≤ 1000) :
    Calls Tryz.prog 11 #[.slice (some ⟨g, 0, none⟩) ts.length c] w (GivesB (greatB ts) w) := by
  go_enter Tryz.func11, Tryz.ntmps11
  go_wp2_with fail
  go_loopw [7] (fun i wr => ∃ k : Nat, k ≤ ts.length ∧ i = .int .i64 k ∧ Hid (greatB (ts.take k) = false) ∧ Below w.heap.size w wr) (fun i _ => ts.length - (intOf i).toNat)
  case atStart => exact ⟨0, Nat.zero_le _, rfl, Lib.hid rfl, Below.refl _ _⟩
  case round =>
    obtain ⟨k, hk, rfl, HE, hb⟩ := hrel
    by_cases hlt : k < ts.length
    · obtain ⟨c0, c1, c2⟩ := hr k ts[k] (List.getElem?_eq_getElem hlt)
      have HT : Hid (ts.take (k + 1) = ts.take k ++ [ts[k]]) := Lib.hid (List.take_succ_eq_append_getElem hlt)
      have HM : Hid (ts[k] ∈ ts) := Lib.hid (List.getElem_mem hlt)
      generalize ts[k] = t at c0 c1 c2 HT HM
      obtain ⟨s, ⟨a1, l1, e1⟩, ⟨a2, l2, e2⟩⟩ := t
      dsimp only at c0 c1 c2
      have d0 := (hb.cell (p := ⟨g, k * 3, none⟩) hg).trans c0
      have d1 := (hb.cell (p := ⟨g, k * 3 + 1, none⟩) hg).trans c1
      have d2 := (hb.cell (p := ⟨g, k * 3 + 2, none⟩) hg).trans c2
      have HB := Lib.hid hb
      clear hb c0 c1 c2 hr
      have hgr : g < wr.heap.size := World.block_lt_of_cell? _ _ d0
      by_cases q1 : 6 < l1
      · have e1 : decide ((6 : Int) < (l1 : Int)) = true := decide_eq_true (by omega)
        have e2 : (6 : Int) < (l1 : Int) := by omega
        have HV : Hid (greatB ts = true) := Lib.hid (List.any_eq_true.2 ⟨_, HM.out, by simp [q1]⟩)
        rw [HV.out]
        clear q1 HE HT HM HV
        go_wp2_with fail
        go_ret
        exact ⟨rfl, HB.out.alloc HB.out.size _⟩
      · have e1 : decide ((6 : Int) < (l1 : Int)) = false := decide_eq_false (by omega)
        have e2 : ¬ (6 : Int) < (l1 : Int) := by omega
        by_cases q2 : 6 < l2
        · have e3 : decide ((6 : Int) < (l2 : Int)) = true := decide_eq_true (by omega)
          have HV : Hid (greatB ts = true) := Lib.hid (List.any_eq_true.2 ⟨_, HM.out, by simp [q2]⟩)
          rw [HV.out]
          have e4 : (6 : Int) < (l2 : Int) := by omega
          clear q1 q2 HE HT HM HV
          go_wp2_with fail
          go_ret
          exact ⟨rfl, HB.out.alloc HB.out.size _⟩
        · have e3 : decide ((6 : Int) < (l2 : Int)) = false := decide_eq_false (by omega)
          have e4 : ¬ (6 : Int) < (l2 : Int) := by omega
          have HV : Hid (greatB (ts.take (k + 1)) = false) := Lib.hid (by
            have := HE.out
            unfold greatB at this ⊢
            rw [HT.out, List.any_append, this]
            simp [q1, q2])
          clear q1 q2 HE HT HM
          go_wp2_with fail
          go_roundw
          case rel => exact ⟨k + 1, by omega, by go_num, HV, HB.out.alloc HB.out.size _⟩
          case measure => simp [intOf]; omega
    · obtain rfl : k = ts.length := by omega
      have HB := Lib.hid hb
      clear hb hr
      go_wp2_with fail
      go_ret
      exact ⟨by have := HE.out; rw [List.take_length] at this; rw [this]; rfl, HB.out⟩
theorem Rats.one {W : World} {g : Nat} {ty : TypeId} {t : RawR} (h : W.heap[g]? = some (.cells #[.bool t.1, .slice t.2.1.1 t.2.1.2.1 t.2.1.2.2, .slice t.2.2.1 t.2.2.2.1 t.2.2.2.2] ty (0, 0))) : Rats W g [t] := by
  intro k x hk
  rcases k with _ | k
  · simp at hk; subst hk; simp [World.cell?, h]
  · simp at hk
theorem Rats.two {W : World} {g : Nat} {ty : TypeId} {t u : RawR} (h : W.heap[g]? = some (.cells #[.bool t.1, .slice t.2.1.1 t.2.1.2.1 t.2.1.2.2, .slice t.2.2.1 t.2.2.2.1 t.2.2.2.2, .bool u.1, .slice u.2.1.1 u.2.1.2.1 u.2.1.2.2, .slice u.2.2.1 u.2.2.2.1 u.2.2.2.2] ty (0, 0))) : Rats W g [t, u] := by
  intro k x hk
  rcases k with _ | _ | k
  · simp at hk; subst hk; simp [World.cell?, h]
  · simp at hk; subst hk; simp [World.cell?, h]
  · simp at hk
end Go.Proofs.YtpjeecahaeaajaaGreatDoor

namespace Go.Proofs.YtpjeecahaeaajaaGreatDoor
open Go.RowKit Rep
structure HandR (w : World) (a1 : Option Addr) (c1 : Nat) (xs : List Nat) (a2 : Option Addr) (c2 : Nat) (ds : List Nat) : Prop where
  num : Handed w a1 c1 xs
  den : Handed w a2 c2 ds
theorem HandR.kept {w w' : World} {a1 : Option Addr} {c1 : Nat} {xs : List Nat} {a2 : Option Addr} {c2 : Nat} {ds : List Nat} (h : HandR w a1 c1 xs a2 c2 ds) (hb : Below w.heap.size w w') : HandR w' a1 c1 xs a2 c2 ds := ⟨h.num.kept hb, h.den.kept hb⟩
end Go.Proofs.YtpjeecahaeaajaaGreatDoor

namespace Go.Proofs.YtpjeecahaeaajaaGreatDoor
open Go.RowKit Rep
structure VQ (q : Rat) (v : RawR) (W : World) : Prop where
  e0 : v.1 = ngQ q
  e1 : v.2.1.2.1 = (L (mgQ q)).length
  e2 : v.2.2.2.1 = (L (denN q.den)).length
  lies : AtQ W v.2.1.1 v.2.1.2.2 v.2.2.1 v.2.2.2.2 q
theorem VQ.kept {q : Rat} {v : RawR} {W W' : World} (h : VQ q v W) (hb : Below W.heap.size W W') : VQ q v W' := ⟨h.e0, h.e1, h.e2, h.lies.kept hb⟩
theorem VQ.set3 {q : Rat} {v : RawR} {W : World} {g : Nat} (h : VQ q v W) (hb : Blank W g) (s : Bool) (v1 v2 : Value) : VQ q v (Go.Proofs.YtpjeecahaeaajaaGreatDoor.set3 W g s v1 v2) := ⟨h.e0, h.e1, h.e2, h.lies.set3 hb.rat _ _ _⟩
structure T1 (w W0 : World) (b m : Nat) (q : Rat) (x : RawR) (W : World) : Prop where
  vx : VQ (outQ m q) x W
  bench : Bench W b m (ovQ m q)
  below : Below W0.heap.size W0 W
  eb : b = W0.heap.size
structure T2 (w W0 : World) (b m : Nat) (q : Rat) (x y : RawR) (W : World) : Prop where
  vx : VQ (outQ m q) x W
  vy : VQ q y W
  bench : Bench W b m (ovQ m q)
  below : Below W0.heap.size W0 W
  eb : b = W0.heap.size
section
variable {w W0 W : World} {b m : Nat} {q : Rat} {x y : RawR}
theorem T1.kept {W' : World} (h : T1 w W0 b m q x W) (hb : Below W.heap.size W W') : T1 w W0 b m q x W' := ⟨h.vx.kept hb, h.bench.kept hb, h.below.trans (hb.mono h.below.size), h.eb⟩
theorem T2.kept {W' : World} (h : T2 w W0 b m q x y W) (hb : Below W.heap.size W W') : T2 w W0 b m q x y W' := ⟨h.vx.kept hb, h.vy.kept hb, h.bench.kept hb, h.below.trans (hb.mono h.below.size), h.eb⟩
theorem T2.alloc (h : T2 w W0 b m q x y W) (o : Obj) : T2 w W0 b m q x y (W.alloc o) := h.kept ((Below.refl _ _).alloc (Nat.le_refl _) _)
theorem T2.set3 {g : Nat} (h : T2 w W0 b m q x y W) (hb : Blank W g) (hg : W0.heap.size < g) (s : Bool) (v1 v2 : Value) : T2 w W0 b m q x y (Go.Proofs.YtpjeecahaeaajaaGreatDoor.set3 W g s v1 v2) :=
  ⟨h.vx.set3 hb _ _ _, h.vy.set3 hb _ _ _, h.bench.set3 (by have := h.eb; omega) _ _ _, set3_below h.below (by omega), h.eb⟩
def LiesR (v : RawR) (g : Nat) (W : World) : Prop := W.heap[g]? = some (.cells #[.bool v.1, .slice v.2.1.1 v.2.1.2.1 v.2.1.2.2, .slice v.2.2.1 v.2.2.2.1 v.2.2.2.2] 27 (0, 0))
theorem LiesR.kept {v : RawR} {g : Nat} {W W' : World} (h : LiesR v g W) (hb : Below W.heap.size W W') : LiesR v g W' := (hb.block _ (Array.getElem?_eq_some_iff.1 h).1).trans h
theorem LiesR.new (v : RawR) (W : World) : LiesR v W.heap.size (W.alloc (.cells #[.bool v.1, .slice v.2.1.1 v.2.1.2.1 v.2.1.2.2, .slice v.2.2.1 v.2.2.2.1 v.2.2.2.2] 27)) := heap_alloc_new W _
theorem LiesR.alloc {v : RawR} {g : Nat} {W : World} (h : LiesR v g W) (o : Obj) : LiesR v g (W.alloc o) := h.kept ((Below.refl _ _).alloc (Nat.le_refl _) _)
theorem LiesR.put {g : Nat} {W : World} (h : Blank W g) (v : RawR) : LiesR v g (set3 W g v.1 (.slice v.2.1.1 v.2.1.2.1 v.2.1.2.2) (.slice v.2.2.1 v.2.2.2.1 v.2.2.2.2)) := by
  unfold Blank at h
  simp [LiesR, set3, World.setCell, Array.getElem?_modify, h]
theorem LiesR.past {v : RawR} {g k : Nat} {W : World} (h : LiesR v g W) (hne : g ≠ k) (s : Bool) (v1 v2 : Value) : LiesR v g (set3 W k s v1 v2) :=
  ((set3_grown W k s v1 v2).block _ (Array.getElem?_eq_some_iff.1 h).1 (by simpa using hne)).trans h
theorem Blank.past {g k : Nat} {W : World} (h : Blank W g) (hne : g ≠ k) (s : Bool) (v1 v2 : Value) : Blank (set3 W k s v1 v2) g :=
  ((set3_grown W k s v1 v2).block _ (Array.getElem?_eq_some_iff.1 h).1 (by simpa using hne)).trans h
structure ToldAt (w W0 : World) (b m : Nat) (q : Rat) (i : Nat × Nat × RawR × RawR) (W : World) : Prop where
  x : LiesR i.2.2.1 i.1 W
  y : LiesR i.2.2.2 i.2.1 W
  t : T2 w W0 b m q i.2.2.1 i.2.2.2 W
theorem T2.end2 {g k : Nat} (h : T2 w W0 b m q x y W) (hb : Blank W g) (hk : Blank W k) (hne : g ≠ k) (hg : W0.heap.size < g) (hg2 : W0.heap.size < k) :
    ToldAt w W0 b m q (g, k, x, y) (Go.Proofs.YtpjeecahaeaajaaGreatDoor.set3 (Go.Proofs.YtpjeecahaeaajaaGreatDoor.set3 W g x.1 (.slice x.2.1.1 x.2.1.2.1 x.2.1.2.2) (.slice x.2.2.1 x.2.2.2.1 x.2.2.2.2)) k y.1 (.slice y.2.1.1 y.2.1.2.1 y.2.1.2.2) (.slice y.2.2.1 y.2.2.2.1 y.2.2.2.2)) :=
  ⟨(LiesR.put hb x).past hne _ _ _, LiesR.put (hk.past (Ne.symm hne) _ _ _) y, (h.set3 hb hg _ _ _).set3 (hk.past (Ne.symm hne) _ _ _) hg2 _ _ _⟩
end
theorem new_for (n : Int) (h : n ≤ 9223372036854775807) : ∃ m : Nat, 1 ≤ m ∧ m ≤ maxLen ∧ max n 1 = (m : Int) ∧ ∀ w, Calls Tryz.prog 13 #[.int .i64 n] w (GivesBench m w) := by
  by_cases h1 : n < 1
  · exact ⟨1, by omega, by unfold maxLen; omega, by omega, fun w => new_low n w h1⟩
  · obtain ⟨m, rfl⟩ : ∃ m : Nat, n = (m : Int) := ⟨n.toNat, by omega⟩
    exact ⟨m, by omega, by unfold maxLen; omega, by omega, fun w => new_high m w (by omega) (by unfold maxLen; omega)⟩
theorem T1.lt {w W0 W : World} {b m : Nat} {q : Rat} {x : RawR} (h : T1 w W0 b m q x W) : W0.heap.size < W.heap.size := by have := h.bench.lt; have := h.eb; omega
theorem T2.lt {w W0 W : World} {b m : Nat} {q : Rat} {x y : RawR} (h : T2 w W0 b m q x y W) : W0.heap.size < W.heap.size := by have := h.bench.lt; have := h.eb; omega
theorem OnlyEx.mk' {ι : Type} {A : ι → Act} {R : ι → World → Prop} {a : Act} {w : World} (h : ∃ i, a = A i ∧ R i w) : OnlyEx A R .normal a w := h
theorem Blank.ne {W : World} {g : Nat} (h : Blank W g) : g ≠ W.heap.size ∧ W.heap.size ≠ g ∧ g < W.heap.size := by
  have := (Array.getElem?_eq_some_iff.1 h).1
  omega
end Go.Proofs.YtpjeecahaeaajaaGreatDoor

namespace Go.Proofs.YtpjeecahaeaajaaGreatDoor
open Go.RowKit Rep
theorem L_pos_len {n : Nat} : (L n).length ≤ (L (denN n)).length + 1 := by
  unfold denN
  by_cases h : n = 1
  · rw [if_pos h, h]
    have : (L 1).length ≤ 1 := by rw [L_len]; omega
    omega
  · rw [if_neg h]; omega
theorem denN_le (n : Nat) : denN n ≤ n := by unfold denN; split <;> omega
theorem szQ_mk (s : Bool) (n : Nat) {d k : Nat} (hd : 0 < d) (h1 : (L n).length ≤ k) (h2 : (L d).length ≤ k) : szQ (mkQ s n d) ≤ k := by
  unfold szQ
  rw [mkQ_mg s n hd, mkQ_den s n hd]
  have e1 := L_le h1 (Nat.div_le_self n (Nat.gcd n d))
  have e2 := L_le h2 (Nat.le_trans (denN_le _) (Nat.div_le_self d (Nat.gcd n d)))
  omega
theorem szQ_parts (x : Rat) : (L (mgQ x)).length ≤ szQ x ∧ (L x.den).length ≤ szQ x + 1 := by
  have h := @L_pos_len x.den
  unfold szQ
  omega
theorem sumN_le (s : Bool) (a : Nat) (t : Bool) (b : Nat) : sumN s a t b ≤ a + b := by unfold sumN; split <;> (try split) <;> omega
theorem szQ_add (x y : Rat) : szQ (x + y) ≤ szQ x + szQ y + 3 := by
  obtain ⟨x1, x2⟩ := szQ_parts x
  obtain ⟨y1, y2⟩ := szQ_parts y
  rw [sum_q]
  refine szQ_mk _ _ (Nat.mul_pos (den_pos x) (den_pos y)) ?_ ?_
  · have h1 := L_mul x1 y2
    have h2 := L_mul y1 x2
    have h3 := L_le (L_add h1 h2) (sumN_le (ngQ x) (mgQ x * y.den) (ngQ y) (mgQ y * x.den))
    omega
  · have := L_mul x2 y2; omega
theorem szQ_mul (x y : Rat) : szQ (x * y) ≤ szQ x + szQ y + 3 := by
  obtain ⟨x1, x2⟩ := szQ_parts x
  obtain ⟨y1, y2⟩ := szQ_parts y
  rw [mul_q]
  refine szQ_mk _ _ (Nat.mul_pos (den_pos x) (den_pos y)) ?_ ?_
  · have := L_mul x1 y1; omega
  · have := L_mul x2 y2; omega
theorem ov_fits {m : Nat} {q : Rat} (h : szQ q ≤ m) : ovQ m q = false ∧ outQ m q = q := by
  have ho : ovQ m q = false := by unfold szQ at h; simp [ovQ, rO]; omega
  exact ⟨ho, by unfold outQ; rw [ho]; rfl⟩
theorem grownBy_trans' {W0 W1 W2 : World} {r : Option Nat} (h : W0.grownBy W1 r) (k : W1.grownBy W2 r) : W0.grownBy W2 r :=
  ⟨k.os.trans h.os, k.tape.trans h.tape, k.output.trans h.output, Nat.le_trans h.size k.size, fun i hi hne => (k.block i (Nat.lt_of_lt_of_le hi h.size) hne).trans (h.block i hi hne)⟩
abbrev QV := RawR × Rat
structure OkQ (W : World) (t : QV) : Prop where
  sg : t.1.1 = ngQ t.2
  l1 : t.1.2.1.2.1 = (L (mgQ t.2)).length
  l2 : t.1.2.2.2.1 = (L (denN t.2.den)).length
  at' : AtQ W t.1.2.1.1 t.1.2.1.2.2 t.1.2.2.1 t.1.2.2.2.2 t.2
  sz : szQ t.2 ≤ 1000
theorem OkQ.kept {W W' : World} {t : QV} (h : OkQ W t) (hb : Below W.heap.size W W') : OkQ W' t := ⟨h.sg, h.l1, h.l2, h.at'.kept hb, h.sz⟩
theorem OkQ.bench {W W' : World} {b m : Nat} {o : Bool} {t : QV} (h : OkQ W t) (hb : Bench W b m o) (hg : W.grownBy W' (some b)) : OkQ W' t := ⟨h.sg, h.l1, h.l2, h.at'.bench hb hg, h.sz⟩
structure StQ (b m pb : Nat) (base W0 W : World) (l : List QV) : Prop where
  g0 : W0.grownBy W (some b)
  bench : Bench W b m false
  below : Below base.heap.size base W
  ge : base.heap.size ≤ b
  tab : Tab W
  cell : W.cell? ⟨pb, 0, none⟩ = some (.pointer (some ⟨b, 0, none⟩))
  pne : pb ≠ b
  vals : ∀ t ∈ l, OkQ W t
theorem StQ.grown {b m pb : Nat} {base W0 W W' : World} {l : List QV} (h : StQ b m pb base W0 W l) (hb : Bench W' b m false) (hg : W.grownBy W' (some b)) : StQ b m pb base W0 W' l :=
  ⟨grownBy_trans' h.g0 hg, hb, h.below.grown hg h.below.size (fun k hk => by cases hk; exact h.ge), h.ge, h.tab.bench h.bench hg, hg.cell h.cell (by simpa using h.pne), h.pne, fun t ht => (h.vals t ht).bench h.bench hg⟩
theorem StQ.kept {b m pb : Nat} {base W0 W W' : World} {l : List QV} (h : StQ b m pb base W0 W l) (hb : Below W.heap.size W W') : StQ b m pb base W0 W' l :=
  ⟨grownBy_trans' h.g0 (grown_of_below hb _), h.bench.kept hb, h.below.trans (hb.mono h.below.size), h.ge, h.tab.kept hb, (hb.cell (p := ⟨pb, 0, none⟩) (World.block_lt_of_cell? _ _ h.cell)).trans h.cell, h.pne, fun t ht => (h.vals t ht).kept hb⟩
theorem StQ.cons {b m pb : Nat} {base W0 W : World} {l : List QV} (h : StQ b m pb base W0 W l) {t : QV} (ht : OkQ W t) : StQ b m pb base W0 W (t :: l) :=
  ⟨h.g0, h.bench, h.below, h.ge, h.tab, h.cell, h.pne, fun u hu => by
    rcases List.mem_cons.1 hu with rfl | hu
    · exact ht
    · exact h.vals u hu⟩
def GoesQ (b m pb : Nat) (base W0 W : World) (l : List QV) (q : Rat) (e : Ending) (W' : World) : Prop :=
  ∃ s a1 l1 c1 a2 l2 c2, e = .returned (.agg #[.bool s, .slice a1 l1 c1, .slice a2 l2 c2]) ∧ Hid (StQ b m pb base W0 W' (((s, (a1, l1, c1), (a2, l2, c2)), q) :: l) )
theorem GivesQ.goes {b m pb : Nat} {base W0 W W' : World} {l : List QV} {q : Rat} {e : Ending} (hg : GivesQ b m q W e W') (h : StQ b m pb base W0 W l) (h1 : szQ q ≤ m) (h2 : szQ q ≤ 1000) : GoesQ b m pb base W0 W l q e W' := by
  obtain ⟨a1, c1, a2, c2, rfl, f1, f2, f3⟩ := hg
  obtain ⟨o1, o2⟩ := ov_fits h1
  rw [o2] at f1 ⊢
  rw [o1] at f2
  exact ⟨_, _, _, _, _, _, _, rfl, Lib.hid ((h.grown f2 f3).cons ⟨rfl, rfl, rfl, f1, h2⟩)⟩
section
variable {b m pb : Nat} {base W0 W : World} {l : List QV} {s t : Bool} {a1 a2 b1 b2 : Option Addr} {l1 c1 l2 c2 k1 e1 k2 e2 : Nat} {x y : Rat}
theorem StQ.ok (h : StQ b m pb base W0 W l) (hx : ((s, (a1, l1, c1), (a2, l2, c2)), x) ∈ l) : RatX W s a1 l1 c1 a2 l2 c2 (mgQ x) x.den (denN x.den) x ∧ (.agg #[.bool s, .slice a1 l1 c1, .slice a2 l2 c2] : Value) = qV x a1 c1 a2 c2 ∧ AtQ W a1 c1 a2 c2 x ∧ szQ x ≤ 1000 := by
  obtain ⟨h1, h2, h3, h4, h5⟩ := h.vals _ hx
  dsimp only at h1 h2 h3 h4 h5
  subst h1 h2 h3
  exact ⟨h4.x (by omega), rfl, h4, h5⟩
theorem StQ.add (h : StQ b m pb base W0 W l) (hx : ((s, (a1, l1, c1), (a2, l2, c2)), x) ∈ l) (hy : ((t, (b1, k1, e1), (b2, k2, e2)), y) ∈ l) {q : Rat} (hq : x + y = q) (g1 : szQ q ≤ m) (g2 : szQ q ≤ 1000) :
    Calls Tryz.prog 30 #[.pointer (some ⟨b, 0, none⟩), .agg #[.bool s, .slice a1 l1 c1, .slice a2 l2 c2], .agg #[.bool t, .slice b1 k1 e1, .slice b2 k2 e2]] W (GoesQ b m pb base W0 W l q) := by
  subst hq
  exact (Add_q h.bench h.tab (h.ok hx).1 (h.ok hy).1).mono fun e W' hg => hg.goes h g1 g2
theorem StQ.same (h : StQ b m pb base W0 W l) (hx : ((s, (a1, l1, c1), (a2, l2, c2)), x) ∈ l) (hy : ((t, (b1, k1, e1), (b2, k2, e2)), y) ∈ l) (hxy : x = y) :
    Calls Tryz.prog 23 #[.agg #[.bool s, .slice a1 l1 c1, .slice a2 l2 c2], .agg #[.bool t, .slice b1 k1 e1, .slice b2 k2 e2]] W fun e W' => e = .returned (.bool true) ∧ Hid (StQ b m pb base W0 W' l) := by
  subst hxy
  obtain ⟨_, v1, f1, g1⟩ := h.ok hx
  obtain ⟨_, v2, f2, g2⟩ := h.ok hy
  rw [v1, v2]
  unfold szQ at g1
  refine (SameR_any (ngQ x) (ngQ x) a1 a2 b1 b2 c1 c2 e1 e2 (L (mgQ x)) (L (denN x.den)) (L (mgQ x)) (L (denN x.den)) W f1.num.1 f1.den.1 f2.num.1 f2.den.1 (by omega) (by omega)).mono ?_
  rintro e W' ⟨rfl, hb⟩
  exact ⟨by simp, Lib.hid (h.kept hb)⟩
theorem StQ.over (h : StQ b m pb base W0 W l) : Calls Tryz.prog 28 #[.pointer (some ⟨b, 0, none⟩)] W fun e W' => e = .returned (.bool false) ∧ Hid (StQ b m pb base W0 W' l) :=
  (over_any W b m false h.bench).mono fun e W' hg => ⟨hg.1, by rw [← hg.2]; exact Lib.hid h⟩
end
end Go.Proofs.YtpjeecahaeaajaaGreatDoor

namespace Go.Proofs.YtpjeecahaeaajaaGreatDoor
open Go.RowKit Rep
theorem D_of_L {n k : Nat} (h : (L n).length ≤ k) : (D n).length ≤ 10 * k := by
  rw [D_len]
  rw [L_len] at h
  refine Nat.lt_of_lt_of_le h ?_
  rw [Nat.pow_mul]
  exact Nat.pow_le_pow_left (by decide) k
theorem dl_q {q : Rat} {k : Nat} (h : szQ q ≤ k) : (D (mgQ q)).length ≤ 10 * k ∧ (D q.den).length ≤ 10 * (k + 1) := by
  obtain ⟨h1, h2⟩ := szQ_parts q
  exact ⟨D_of_L (by omega), D_of_L (by omega)⟩
theorem szQ_inv {x : Rat} : szQ x⁻¹ ≤ szQ x + 1 := by
  by_cases hx : x = 0
  · subst hx
    rw [show ((0 : Rat)⁻¹) = 0 from by grind]
    omega
  · obtain ⟨h1, h2⟩ := szQ_parts x
    rw [← inv_q hx]
    exact szQ_mk _ _ (Nat.pos_of_ne_zero (by rw [Ne, mg_zero]; exact hx)) h2 (by omega)
theorem szQ_div (x y : Rat) : szQ (x / y) ≤ szQ x + szQ y + 4 := by
  have h1 := szQ_mul x y⁻¹
  have h2 := @szQ_inv y
  rw [Rat.div_def]
  omega
structure VD (q : Rat) (v : RawR) (W : World) : Prop where
  e0 : v.1 = ngQ q
  e1 : v.2.1.2.1 = (D (mgQ q)).length
  e2 : v.2.2.2.1 = (D q.den).length
  lies : DgQ W v.2.1.1 v.2.1.2.2 v.2.2.1 v.2.2.2.2 q
def BlankD (W : World) (r : Nat) : Prop := W.heap[r]? = some (.cells #[.bool false, .slice none 0 0, .slice none 0 0] 42 (0, 0))
theorem BlankD.kept {W W' : World} {r : Nat} (h : BlankD W r) (hb : Below W.heap.size W W') : BlankD W' r := (hb.block r (Array.getElem?_eq_some_iff.1 h).1).trans h
theorem BlankD.cells {W : World} {r : Nat} (h : BlankD W r) : W.cell? ⟨r, 0, none⟩ = some (.bool false) ∧ W.cell? ⟨r, 1, none⟩ = some (.slice none 0 0) ∧ W.cell? ⟨r, 2, none⟩ = some (.slice none 0 0) ∧ W.frozen? ⟨r, 0, none⟩ = false ∧ W.frozen? ⟨r, 1, none⟩ = false ∧ W.frozen? ⟨r, 2, none⟩ = false := cells3 h
theorem BlankD.ne {W : World} {g : Nat} (h : BlankD W g) : g ≠ W.heap.size ∧ W.heap.size ≠ g ∧ g < W.heap.size := by
  have := (Array.getElem?_eq_some_iff.1 h).1
  omega
theorem BlankD.past {g k : Nat} {W : World} (h : BlankD W g) (hne : g ≠ k) (s : Bool) (v1 v2 : Value) : BlankD (set3 W k s v1 v2) g :=
  ((set3_grown W k s v1 v2).block _ (Array.getElem?_eq_some_iff.1 h).1 (by simpa using hne)).trans h
theorem VD.kept {q : Rat} {v : RawR} {W W' : World} (h : VD q v W) (hb : Below W.heap.size W W') : VD q v W' := ⟨h.e0, h.e1, h.e2, h.lies.kept hb⟩
theorem VD.set3 {q : Rat} {v : RawR} {W : World} {g : Nat} (h : VD q v W) (hb : BlankD W g) (s : Bool) (v1 v2 : Value) : VD q v (Go.Proofs.YtpjeecahaeaajaaGreatDoor.set3 W g s v1 v2) := ⟨h.e0, h.e1, h.e2, h.lies.num.set3 hb _ _ _, h.lies.den.set3 hb _ _ _⟩
structure D1 (W0 : World) (q : Rat) (x : RawR) (W : World) : Prop where
  vx : VD q x W
  below : Below W0.heap.size W0 W
structure D2 (W0 : World) (q r : Rat) (x y : RawR) (W : World) : Prop where
  vx : VD q x W
  vy : VD r y W
  below : Below W0.heap.size W0 W
section
variable {W0 W : World} {q r : Rat} {x y : RawR}
theorem D1.kept {W' : World} (h : D1 W0 q x W) (hb : Below W.heap.size W W') : D1 W0 q x W' := ⟨h.vx.kept hb, h.below.trans (hb.mono h.below.size)⟩
theorem D2.kept {W' : World} (h : D2 W0 q r x y W) (hb : Below W.heap.size W W') : D2 W0 q r x y W' := ⟨h.vx.kept hb, h.vy.kept hb, h.below.trans (hb.mono h.below.size)⟩
theorem D2.alloc (h : D2 W0 q r x y W) (o : Obj) : D2 W0 q r x y (W.alloc o) := h.kept ((Below.refl _ _).alloc (Nat.le_refl _) _)
theorem D2.set3 {g : Nat} (h : D2 W0 q r x y W) (hb : BlankD W g) (hg : W0.heap.size ≤ g) (s : Bool) (v1 v2 : Value) : D2 W0 q r x y (Go.Proofs.YtpjeecahaeaajaaGreatDoor.set3 W g s v1 v2) :=
  ⟨h.vx.set3 hb _ _ _, h.vy.set3 hb _ _ _, set3_below h.below hg⟩
def LiesD (v : RawR) (g : Nat) (W : World) : Prop := W.heap[g]? = some (.cells #[.bool v.1, .slice v.2.1.1 v.2.1.2.1 v.2.1.2.2, .slice v.2.2.1 v.2.2.2.1 v.2.2.2.2] 42 (0, 0))
theorem LiesD.kept {v : RawR} {g : Nat} {W W' : World} (h : LiesD v g W) (hb : Below W.heap.size W W') : LiesD v g W' := (hb.block _ (Array.getElem?_eq_some_iff.1 h).1).trans h
theorem LiesD.new (v : RawR) (W : World) : LiesD v W.heap.size (W.alloc (.cells #[.bool v.1, .slice v.2.1.1 v.2.1.2.1 v.2.1.2.2, .slice v.2.2.1 v.2.2.2.1 v.2.2.2.2] 42)) := heap_alloc_new W _
theorem LiesD.alloc {v : RawR} {g : Nat} {W : World} (h : LiesD v g W) (o : Obj) : LiesD v g (W.alloc o) := h.kept ((Below.refl _ _).alloc (Nat.le_refl _) _)
theorem LiesD.put {g : Nat} {W : World} (h : BlankD W g) (v : RawR) : LiesD v g (set3 W g v.1 (.slice v.2.1.1 v.2.1.2.1 v.2.1.2.2) (.slice v.2.2.1 v.2.2.2.1 v.2.2.2.2)) := by
  unfold BlankD at h
  simp [LiesD, Go.Proofs.YtpjeecahaeaajaaGreatDoor.set3, World.setCell, Array.getElem?_modify, h]
theorem LiesD.past {v : RawR} {g k : Nat} {W : World} (h : LiesD v g W) (hne : g ≠ k) (s : Bool) (v1 v2 : Value) : LiesD v g (set3 W k s v1 v2) :=
  ((set3_grown W k s v1 v2).block _ (Array.getElem?_eq_some_iff.1 h).1 (by simpa using hne)).trans h
structure PairAt (W0 : World) (q r : Rat) (i : Nat × Nat × RawR × RawR) (W : World) : Prop where
  x : LiesD i.2.2.1 i.1 W
  y : LiesD i.2.2.2 i.2.1 W
  t : D2 W0 q r i.2.2.1 i.2.2.2 W
theorem D2.end2 {g k : Nat} (h : D2 W0 q r x y W) (hb : BlankD W g) (hk : BlankD W k) (hne : g ≠ k) (hg : W0.heap.size ≤ g) (hg2 : W0.heap.size ≤ k) :
    PairAt W0 q r (g, k, x, y) (Go.Proofs.YtpjeecahaeaajaaGreatDoor.set3 (Go.Proofs.YtpjeecahaeaajaaGreatDoor.set3 W g x.1 (.slice x.2.1.1 x.2.1.2.1 x.2.1.2.2) (.slice x.2.2.1 x.2.2.2.1 x.2.2.2.2)) k y.1 (.slice y.2.1.1 y.2.1.2.1 y.2.1.2.2) (.slice y.2.2.1 y.2.2.2.1 y.2.2.2.2)) :=
  ⟨(LiesD.put hb x).past hne _ _ _, LiesD.put (hk.past (Ne.symm hne) _ _ _) y, (h.set3 hb hg _ _ _).set3 (hk.past (Ne.symm hne) _ _ _) hg2 _ _ _⟩
end
def GotD (W5 : World) (q : Rat) (e : Ending) (W' : World) : Prop :=
  ∃ s z1 m1 k1 z2 m2 k2, e = .returned (.agg #[.bool s, .slice z1 m1 k1, .slice z2 m2 k2]) ∧ Hid (Below W5.heap.size W5 W') ∧ Hid (VD q (s, (z1, m1, k1), (z2, m2, k2)) W')
theorem GivesDQ.got {W5 W W' : World} {q : Rat} {e : Ending} (h : GivesDQ q W e W') (hb : Below W5.heap.size W5 W) : GotD W5 q e W' := by
  obtain ⟨a1, c1, a2, c2, rfl, hd, hb2⟩ := h
  exact ⟨_, a1, _, c1, a2, _, c2, rfl, Lib.hid (hb.trans (hb2.mono hb.size)), Lib.hid ⟨rfl, rfl, rfl, hd⟩⟩
def GotQ (W5 : World) (q : Rat) (e : Ending) (W' : World) : Prop :=
  ∃ s z1 m1 k1 z2 m2 k2, e = .returned (.agg #[.bool s, .slice z1 m1 k1, .slice z2 m2 k2]) ∧ Hid (Below W5.heap.size W5 W') ∧ Hid (VQ q (s, (z1, m1, k1), (z2, m2, k2)) W')
theorem NewQ.got {W5 W W' : World} {q : Rat} {e : Ending} (h : NewQ q W e W') (hb : Below W5.heap.size W5 W) : GotQ W5 q e W' := by
  obtain ⟨a1, c1, a2, c2, rfl, hd, hb2⟩ := h
  exact ⟨_, a1, _, c1, a2, _, c2, rfl, Lib.hid (hb.trans (hb2.mono hb.size)), Lib.hid ⟨rfl, rfl, rfl, hd⟩⟩
def GotV (W5 : World) (v : Value) (e : Ending) (W' : World) : Prop := e = .returned v ∧ Hid (Below W5.heap.size W5 W')
theorem VD.eq {q : Rat} {s : Bool} {z1 z2 : Option Addr} {m1 k1 m2 k2 : Nat} {W : World} (h : VD q (s, (z1, m1, k1), (z2, m2, k2)) W) : (.agg #[.bool s, .slice z1 m1 k1, .slice z2 m2 k2] : Value) = dV q z1 k1 z2 k2 ∧ DgQ W z1 k1 z2 k2 q := by
  obtain ⟨h0, h1, h2, h3⟩ := h
  dsimp only at h0 h1 h2 h3
  subst h0 h1 h2
  exact ⟨rfl, h3⟩
theorem VQ.eq {q : Rat} {s : Bool} {z1 z2 : Option Addr} {m1 k1 m2 k2 : Nat} {W : World} (h : VQ q (s, (z1, m1, k1), (z2, m2, k2)) W) : (.agg #[.bool s, .slice z1 m1 k1, .slice z2 m2 k2] : Value) = qV q z1 k1 z2 k2 ∧ AtQ W z1 k1 z2 k2 q := by
  obtain ⟨h0, h1, h2, h3⟩ := h
  dsimp only at h0 h1 h2 h3
  subst h0 h1 h2
  exact ⟨rfl, h3⟩
section
variable {W5 W : World} {q r : Rat} {s t : Bool} {z1 z2 y1 y2 : Option Addr} {m1 k1 m2 k2 n1 j1 n2 j2 : Nat}
theorem got_add (h : VD q (s, (z1, m1, k1), (z2, m2, k2)) W) (g : VD r (t, (y1, n1, j1), (y2, n2, j2)) W) (hq : szQ q ≤ 100) (hr : szQ r ≤ 100) (hb : Below W5.heap.size W5 W) :
    Calls Tryz.prog 36 #[.agg #[.bool s, .slice z1 m1 k1, .slice z2 m2 k2], .agg #[.bool t, .slice y1 n1 j1, .slice y2 n2 j2]] W (GotD W5 (q + r)) := by
  obtain ⟨e1, d1⟩ := h.eq
  obtain ⟨e2, d2⟩ := g.eq
  obtain ⟨l1, l2⟩ := dl_q hq
  obtain ⟨l3, l4⟩ := dl_q hr
  rw [e1, e2]
  exact (AddR_q d1 d2 (by omega) (by omega) (by omega) (by omega)).mono fun e W' h => h.got hb
theorem got_mul (h : VD q (s, (z1, m1, k1), (z2, m2, k2)) W) (g : VD r (t, (y1, n1, j1), (y2, n2, j2)) W) (hq : szQ q ≤ 100) (hr : szQ r ≤ 100) (hb : Below W5.heap.size W5 W) :
    Calls Tryz.prog 37 #[.agg #[.bool s, .slice z1 m1 k1, .slice z2 m2 k2], .agg #[.bool t, .slice y1 n1 j1, .slice y2 n2 j2]] W (GotD W5 (q * r)) := by
  obtain ⟨e1, d1⟩ := h.eq
  obtain ⟨e2, d2⟩ := g.eq
  obtain ⟨l1, l2⟩ := dl_q hq
  obtain ⟨l3, l4⟩ := dl_q hr
  rw [e1, e2]
  exact (MulR_q d1 d2 (by omega) (by omega) (by omega) (by omega)).mono fun e W' h => h.got hb
theorem got_form (h : VD q (s, (z1, m1, k1), (z2, m2, k2)) W) (hq : szQ q ≤ 100) (hb : Below W5.heap.size W5 W) :
    Calls Tryz.prog 24 #[.agg #[.bool s, .slice z1 m1 k1, .slice z2 m2 k2]] W (GotQ W5 q) := by
  obtain ⟨e1, d1⟩ := h.eq
  obtain ⟨l1, l2⟩ := dl_q hq
  rw [e1]
  exact (d1.form (by omega) (by omega)).mono fun e W' h => h.got hb
theorem got_of (h : VQ q (s, (z1, m1, k1), (z2, m2, k2)) W) (hq : szQ q ≤ 100) (hb : Below W5.heap.size W5 W) :
    Calls Tryz.prog 14 #[.agg #[.bool s, .slice z1 m1 k1, .slice z2 m2 k2]] W (GotD W5 q) := by
  obtain ⟨e1, d1⟩ := h.eq
  rw [e1]
  exact (d1.ofD (by omega)).mono fun e W' h => h.got hb
end
end Go.Proofs.YtpjeecahaeaajaaGreatDoor

namespace Go.Proofs.YtpjeecahaeaajaaGreatDoor
open Go.RowKit Rep Ln
section
variable {P : Program} {ops : Array Oper} {Q : Exit → Act → World → Prop} {md : Region.Mode} {S : World → Prop} {oi : Oper} {v : Value} {fuel : Nat} {listed : Array Bool} {a : Act} {w : World}
theorem tkL (i : Nat) (hy : ∀ w, S w → (execOp a.eval oi).run P w = .ok (.value v) w) (hS : S w) (h : wpAnyH P md ops Q S fuel (listed.setIfInBounds i true) (a.put oi.dst v) w) (hi : ops[i]? = some oi := by rfl) (hs : Region.noSelect ops = true := by kernel_rfl) (hf : Region.free md ops listed i = true := by kernel_rfl) (hr : (Region.ready md ops listed).contains i = true := by kernel_rfl)
    (hQ : ∀ c a w, Q (.panic c) (a.put oi.dst v) w → Q (.panic c) a w := by exact fun _ _ _ h => h) (hw : Region.wanted oi (yielded ops a.tmps) = true := by rfl) : wpAnyH P md ops Q S (fuel + 1) listed a w := wpAnyH_take hi hs hf hr hQ (.inl ⟨hw, hy⟩) hS h
theorem tkV (i : Nat) (hS : S w) (h : wpAnyH P md ops Q S fuel (listed.setIfInBounds i true) (a.put oi.dst v) w) (hi : ops[i]? = some oi := by rfl) (hw : Region.wanted oi (yielded ops a.tmps) = true := by rfl)
    (hy : ∀ w, S w → (execOp a.eval oi).run P w = .ok (.value v) w := by (intro w' hSw; (try dsimp only at hSw); go_simp; try with_reducible rfl))
    (hs : Region.noSelect ops = true := by kernel_rfl) (hf : Region.free md ops listed i = true := by kernel_rfl) (hr : (Region.ready md ops listed).contains i = true := by kernel_rfl)
    (hQ : ∀ c a w, Q (.panic c) (a.put oi.dst v) w → Q (.panic c) a w := by exact fun _ _ _ h => h) : wpAnyH P md ops Q S (fuel + 1) listed a w := wpAnyH_take hi hs hf hr hQ (.inl ⟨hw, hy⟩) hS h
theorem tkR (i : Nat) (hS : S w) (h : wpAnyH P md ops Q S fuel (listed.setIfInBounds i true) (a.put oi.dst undef) w) (hi : ops[i]? = some oi := by rfl) (hs : Region.noSelect ops = true := by kernel_rfl) (hf : Region.free md ops listed i = true := by kernel_rfl) (hr : (Region.ready md ops listed).contains i = true := by kernel_rfl)
    (hQ : ∀ c a w, Q (.panic c) (a.put oi.dst undef) w → Q (.panic c) a w := by exact fun _ _ _ h => h) (hw : Region.wanted oi (yielded ops a.tmps) = false := by rfl) : wpAnyH P md ops Q S (fuel + 1) listed a w := wpAnyH_take hi hs hf hr hQ (.inr ⟨hw, rfl⟩) hS h
theorem rdy (rs : List Nat) (h : AllReadyH P md ops Q S fuel listed a w rs) (hr : Region.ready md ops listed = rs := by kernel_rfl) (hne : rs ≠ [] := by simp) : wpAnyH P md ops Q S (fuel + 1) listed a w := wpAnyH_ready hr hne h
end
theorem zA {α : Type _} (l : List α) (i : Nat) (a : α) : l.toArray.setIfInBounds i a = (l.set i a).toArray := List.setIfInBounds_toArray l i a
theorem zB {α : Type _} {x : α} {xs : List α} {a : α} : (x :: xs).set 0 a = a :: xs := rfl
theorem zC {α : Type _} {x : α} {xs : List α} {i : Nat} {a : α} : (x :: xs).set (i + 1) a = x :: xs.set i a := rfl
theorem zD {α : Type _} {xs : List α} {i : Nat} (h : i < xs.toArray.size) : xs.toArray[i] = xs[i]'(by simpa using h) := rfl
theorem zE {α : Type _} (a : α) (bs : List α) (h : 0 < (a :: bs).length) : (a :: bs)[0] = a := rfl
theorem zF {α : Type _} (a : α) (bs : List α) (i : Nat) (h : i + 1 < (a :: bs).length) : (a :: bs)[i + 1] = bs[i]'(by simpa using h) := rfl
theorem VQ.benchL {q : Rat} {v : RawR} {W W' : World} {b m : Nat} {o : Bool} (h : VQ q v W) (hb : Bench W b m o) (hg : W.grownBy W' (some b)) : VQ q v W' := ⟨h.e0, h.e1, h.e2, h.lies.bench hb hg⟩
theorem VQ.ratxL {q : Rat} {s : Bool} {a b : Option Addr} {l c k e : Nat} {W : World} (h : VQ q (s, (a, l, c), (b, k, e)) W) (hs : szQ q ≤ 10000) : RatX W s a l c b k e (mgQ q) q.den (denN q.den) q := by
 obtain ⟨h0, h1, h2, h3⟩ := h
 dsimp only at h0 h1 h2 h3
 subst h0 h1 h2
 exact h3.x (by omega)
theorem VQ.zero (W : World) : VQ 0 (false, (none, 0, 0), (none, 0, 0)) W := ⟨rfl, rfl, rfl, AtQ.zero W⟩
structure BR (b m : Nat) (o : Bool) (W5 W : World) : Prop where
 g : W5.grownBy W (some b)
 bench : Bench W b m o
 tab : Tab W
section
variable {b m : Nat} {o p : Bool} {W5 W W' : World}
theorem BR.refl (hb : Bench W b m o) (hT : Tab W) : BR b m o W W := ⟨grown_refl _ _, hb, hT⟩
theorem BR.kept (h : BR b m o W5 W) (hb : Below W.heap.size W W') : BR b m o W5 W' := ⟨grownBy_trans' h.g (grown_of_below hb _), h.bench.kept hb, h.tab.kept hb⟩
theorem BR.trans (h : BR b m o W5 W) (k : BR b m p W W') : BR b m p W5 W' := ⟨grownBy_trans' h.g k.g, k.bench, k.tab⟩
theorem BR.self (h : BR b m o W5 W) : BR b m o W W := .refl h.bench h.tab
theorem BR.size (h : BR b m o W5 W) : W5.heap.size ≤ W.heap.size := h.g.size
theorem BR.vq (k : BR b m o W5 W) (hb : Bench W5 b m p) {q : Rat} {v : RawR} (h : VQ q v W5) : VQ q v W := h.benchL hb k.g
theorem BR.block (k : BR b m o W5 W) {r : Nat} {x : Obj} (h : W5.heap[r]? = some x) (hne : r ≠ b) : W.heap[r]? = some x := (k.g.block _ (Array.getElem?_eq_some_iff.1 h).1 (by simpa using hne)).trans h
theorem BR.cell (k : BR b m o W5 W) {g i : Nat} {v : Value} (h : W5.cell? ⟨g, i, none⟩ = some v) (hne : g ≠ b) : W.cell? ⟨g, i, none⟩ = some v := by
 have hlt := World.block_lt_of_cell? _ _ h
 unfold World.cell? at h ⊢
 rw [k.g.block g hlt (by simpa using hne)]
 exact h
theorem BR.of_below (hb : Below W.heap.size W W') (h : Bench W b m o) (hT : Tab W) : BR b m o W W' := (BR.refl h hT).kept hb
theorem BR.setNew {w X : World} (hX : BR b m o w X) (hT : Tab w) (hb : b < w.heap.size) {g i : Nat} (u : Value) (hle : w.heap.size ≤ g) : BR b m o w (X.setCell ⟨g, i, none⟩ u) := by
 have hgr : X.grownBy (X.setCell ⟨g, i, none⟩ u) (some g) := grownBy_set (grown_refl X _)
 refine ⟨⟨hgr.os.trans hX.g.os, hgr.tape.trans hX.g.tape, hgr.output.trans hX.g.output, Nat.le_trans hX.g.size hgr.size, fun k hk hn => (hgr.block k (Nat.lt_of_lt_of_le hk hX.g.size) (by simp; omega)).trans (hX.g.block k hk hn)⟩, hX.bench.of_block (hgr.block b hX.bench.lt (by simp; omega)), fun j hj => ?_⟩
 refine hgr.cell (hX.tab j hj) fun e => ?_
 have h0 := World.block_lt_of_cell? _ _ (hT j hj)
 have h1 := Option.some.inj e
 dsimp only at h0 h1
 omega
theorem BR.below {B : Nat} {w : World} (k : BR b m o W5 W) (h : Below B w W5) (hB : B ≤ b) (h5 : B ≤ W5.heap.size) : Below B w W := h.grown k.g h5 (fun j hj => by cases hj; exact hB)
end
def leftQ (o : Bool) (q : Rat) : Rat := if o = true then 0 else q
def GotO (b m : Nat) (o : Bool) (W5 : World) (q : Rat) (e : Ending) (W' : World) : Prop :=
 ∃ s z1 m1 k1 z2 m2 k2, e = .returned (.agg #[.bool s, .slice z1 m1 k1, .slice z2 m2 k2]) ∧ Hid (BR b m o W5 W') ∧ Hid (VQ (leftQ o q) (s, (z1, m1, k1), (z2, m2, k2)) W')
theorem GivesQ.gotO {b m : Nat} {W5 W W' : World} {q : Rat} {e : Ending} (h : GivesQ b m q W e W') (hr : BR b m false W5 W) : GotO b m (false || ovQ m q) W5 q e W' := by
 obtain ⟨a1, c1, a2, c2, rfl, f1, f2, f3⟩ := h
 exact ⟨_, a1, _, c1, a2, _, c2, rfl, Lib.hid ⟨grownBy_trans' hr.g f3, f2, hr.tab.bench hr.bench f3⟩, Lib.hid ⟨rfl, rfl, rfl, f1⟩⟩
theorem GivesZ.gotO {b m : Nat} {W5 W W' : World} {q : Rat} {e : Ending} (h : GivesZ W e W') (hr : BR b m true W5 W) : GotO b m (true || ovQ m q) W5 q e W' := by
 obtain ⟨rfl, hb⟩ := h
 exact ⟨_, none, 0, 0, none, 0, 0, rfl, Lib.hid (hr.kept hb), Lib.hid (VQ.zero W')⟩
section
variable {b m : Nat} {o : Bool} {W5 W : World} {q r : Rat} {s t : Bool} {z1 z2 y1 y2 : Option Addr} {m1 k1 m2 k2 n1 j1 n2 j2 : Nat}
theorem gotO_add (hR : BR b m o W5 W) (h : VQ q (s, (z1, m1, k1), (z2, m2, k2)) W) (g : VQ r (t, (y1, n1, j1), (y2, n2, j2)) W) (hq : szQ q ≤ 4000) (hr : szQ r ≤ 4000) :
    Calls Tryz.prog 30 #[.pointer (some ⟨b, 0, none⟩), .agg #[.bool s, .slice z1 m1 k1, .slice z2 m2 k2], .agg #[.bool t, .slice y1 n1 j1, .slice y2 n2 j2]] W (GotO b m (o || ovQ m (q + r)) W5 (q + r)) := by
 cases o
 ·exact (Add_q hR.bench hR.tab (h.ratxL (by omega)) (g.ratxL (by omega))).mono fun e W' hg => hg.gotO hR
 ·exact (AddQ_over hR.bench s t z1 z2 y1 y2 m1 k1 m2 k2 n1 j1 n2 j2).mono fun e W' hg => hg.gotO hR
theorem gotO_mul (hR : BR b m o W5 W) (h : VQ q (s, (z1, m1, k1), (z2, m2, k2)) W) (g : VQ r (t, (y1, n1, j1), (y2, n2, j2)) W) (hq : szQ q ≤ 4000) (hr : szQ r ≤ 4000) :
    Calls Tryz.prog 31 #[.pointer (some ⟨b, 0, none⟩), .agg #[.bool s, .slice z1 m1 k1, .slice z2 m2 k2], .agg #[.bool t, .slice y1 n1 j1, .slice y2 n2 j2]] W (GotO b m (o || ovQ m (q * r)) W5 (q * r)) := by
 cases o
 ·exact (Mul_q hR.bench hR.tab (h.ratxL (by omega)) (g.ratxL (by omega))).mono fun e W' hg => hg.gotO hR
 ·exact (MulQ_over hR.bench s t z1 z2 y1 y2 m1 k1 m2 k2 n1 j1 n2 j2).mono fun e W' hg => hg.gotO hR
theorem gotO_over (hR : BR b m o W5 W) : Calls Tryz.prog 28 #[.pointer (some ⟨b, 0, none⟩)] W fun e W' => e = .returned (.bool o) ∧ Hid (BR b m o W5 W') :=
 (over_any W b m o hR.bench).mono fun e W' hg => ⟨hg.1, by rw [← hg.2]; exact Lib.hid hR⟩
end
end Go.Proofs.YtpjeecahaeaajaaGreatDoor

namespace Go.Proofs.YtpjeecahaeaajaaGreatDoor
open Go.RowKit Rep Ln
set_option maxRecDepth 100000 in
set_option maxHeartbeats 1000000 in
theorem SignE {w : World} {s : Bool} {a1 a2 : Option Addr} {l1 c1 l2 c2 n : Nat} (h : NumE w a1 l1 c1 n) :
    Calls Tryz.prog 33 #[.agg #[.bool s, .slice a1 l1 c1, .slice a2 l2 c2]] w (fun e w' => ∃ x : Int, e = .returned (.int .i64 x) ∧ ((x == 0) = decide (n = 0)) ∧ Hid (Below w.heap.size w w')) := by
 have hb0 : Below w.heap.size w (w.alloc (.cells #[.bool s, .slice a1 l1 c1, .slice a2 l2 c2] 27)) := (Below.refl _ _).alloc (Nat.le_refl _) _
 have HI := Lib.hid (isZero_any (h.kept hb0))
 have hbl : (w.alloc (.cells #[.bool s, .slice a1 l1 c1, .slice a2 l2 c2] 27)).heap[w.heap.size]? = some (.cells #[.bool s, .slice a1 l1 c1, .slice a2 l2 c2] 27 (0, 0)) := heap_alloc_new w _
 have HK := Lib.hid (keep3 hbl)
 have HB := Lib.hid hb0
 clear hb0 h hbl
 generalize decide (n = 0) = z at *
 cases z
 ·cases s
  all_goals
   go_enter Tryz.func33, Tryz.ntmps33
   go_wp2_with fail
   refine HI.out.mono ?_
   rintro e w1 ⟨rfl, hb1⟩
   have HE := Lib.hid (HB.out.trans (hb1.mono HB.out.size))
   obtain ⟨m0, m1, m2, n0, n1, n2⟩ := HK.out _ hb1
   clear hb1 HI HK
   go_wp2_with fail
   go_ret
   exact ⟨_, rfl, rfl, HE⟩
 ·go_enter Tryz.func33, Tryz.ntmps33
  go_wp2_with fail
  refine HI.out.mono ?_
  rintro e w1 ⟨rfl, hb1⟩
  have HE := Lib.hid (HB.out.trans (hb1.mono HB.out.size))
  clear hb1 HI
  go_wp2_with fail
  go_ret
  exact ⟨_, rfl, rfl, HE⟩
structure NumsE (v : RawR) (W : World) : Prop where
 num : ∃ n, NumE W v.2.1.1 v.2.1.2.1 v.2.1.2.2 n
 den : ∃ d, NumE W v.2.2.1 v.2.2.2.1 v.2.2.2.2 d
theorem VQ.nums {q : Rat} {v : RawR} {W : World} (h : VQ q v W) (hs : szQ q ≤ 1000000) : NumsE v W := by
 obtain ⟨s, ⟨z1, m1, k1⟩, z2, m2, k2⟩ := v
 obtain ⟨h0, h1, h2, h3⟩ := h
 dsimp only at h0 h1 h2 h3
 unfold szQ at hs
 subst h1 h2
 exact ⟨⟨_, NumE.of h3.num (by omega)⟩, ⟨_, NumE.of h3.den (by omega)⟩⟩
theorem NumsE.kept {v : RawR} {W W' : World} (h : NumsE v W) (hb : Below W.heap.size W W') : NumsE v W' := ⟨h.num.imp fun _ k => k.kept hb, h.den.imp fun _ k => k.kept hb⟩
theorem NumsE.bench {v : RawR} {W W' : World} {b m : Nat} {o : Bool} (h : NumsE v W) (hB : Bench W b m o) (hg : W.grownBy W' (some b)) : NumsE v W' := ⟨h.num.imp fun _ k => k.bench hB hg, h.den.imp fun _ k => k.bench hB hg⟩
structure AnsQ (o : Bool) (q : Rat) (v : RawR) (W : World) : Prop where
 ok : o = false → VQ q v W
 nums : NumsE v W
theorem AnsQ.kept {o : Bool} {q : Rat} {v : RawR} {W W' : World} (h : AnsQ o q v W) (hb : Below W.heap.size W W') : AnsQ o q v W' := ⟨fun e => (h.ok e).kept hb, h.nums.kept hb⟩
theorem AnsQ.bench {o p : Bool} {q : Rat} {v : RawR} {W W' : World} {b m : Nat} (h : AnsQ o q v W) (hB : Bench W b m p) (hg : W.grownBy W' (some b)) : AnsQ o q v W' := ⟨fun e => (h.ok e).benchL hB hg, h.nums.bench hB hg⟩
def GotA (b m : Nat) (o : Bool) (W5 : World) (q : Rat) (e : Ending) (W' : World) : Prop :=
 ∃ s z1 m1 k1 z2 m2 k2, e = .returned (.agg #[.bool s, .slice z1 m1 k1, .slice z2 m2 k2]) ∧ Hid (BR b m o W5 W') ∧ Hid (AnsQ o q (s, (z1, m1, k1), (z2, m2, k2)) W')
theorem outO_ov {m : Nat} {o : Bool} {q : Rat} : outO m (outO m o (mgQ q)) (denN q.den) = (o || ovQ m q) := by
 unfold outO ovQ rO
 cases o <;> rfl
theorem outO_first {m : Nat} {o : Bool} {q : Rat} (h : (o || ovQ m q) = false) : outO m o (mgQ q) = false ∧ outO m (outO m o (mgQ q)) (denN q.den) = false := by
 rw [outO_ov]
 refine ⟨?_, h⟩
 unfold outO
 unfold ovQ rO at h
 revert h
 cases o <;> cases decide (m < (L (mgQ q)).length) <;> simp
theorem fin12 {w W0 W : World} {b m : Nat} {o : Bool} {q : Rat} {s : Bool} {a1 a2 b1 b2 : Option Addr} {l1 c1 l2 c2 e1 e2 : Nat} (hR : BR b m o w W0) (hT : Tab w) (hb0 : b < w.heap.size) (k0 : W0.heap[w.heap.size]? = some (.cells #[.bool s, .slice a1 l1 c1, .slice a2 l2 c2] 27 (0, 0))) (b3 : Blank W0 (w.heap.size + 1)) {o2 : Bool} (hb : BR b m o2 W0 W)
    (h0 : s = ngQ q) (zq : szQ q ≤ 10000) (ho : o2 = (o || ovQ m q)) (n1 : NumAt W b1 e1 (outN m o (mgQ q))) (n2 : NumAt W b2 e2 (outN m (outO m o (mgQ q)) (denN q.den))) :
    GotA b m (o || ovQ m q) w q (.returned (.agg #[.bool s, .slice b1 (L (outN m o (mgQ q))).length e1, .slice b2 (L (outN m (outO m o (mgQ q)) (denN q.den))).length e2])) (set3 ((W.setCell ⟨w.heap.size, 1, none⟩ (.slice b1 (L (outN m o (mgQ q))).length e1)).setCell ⟨w.heap.size, 2, none⟩ (.slice b2 (L (outN m (outO m o (mgQ q)) (denN q.den))).length e2)) (w.heap.size + 1) s (.slice b1 (L (outN m o (mgQ q))).length e1) (.slice b2 (L (outN m (outO m o (mgQ q)) (denN q.den))).length e2)) := by
 have hne : w.heap.size ≠ b := by omega
 have hne1 : w.heap.size + 1 ≠ b := by omega
 have hk := hb.block k0 hne
 have hs : Blank W (w.heap.size + 1) := hb.block b3 hne1
 have hrb : RatBlock W w.heap.size := ⟨_, _, _, _, _, _, _, hk⟩
 have hg : W.grownBy ((W.setCell ⟨w.heap.size, 1, none⟩ (.slice b1 (L (outN m o (mgQ q))).length e1)).setCell ⟨w.heap.size, 2, none⟩ (.slice b2 (L (outN m (outO m o (mgQ q)) (denN q.den))).length e2)) (some w.heap.size) := grownBy_set (grownBy_set (grown_refl W _))
 have hs2 := hs.grown hg (by omega)
 have m1 : NumAt ((W.setCell ⟨w.heap.size, 1, none⟩ (.slice b1 (L (outN m o (mgQ q))).length e1)).setCell ⟨w.heap.size, 2, none⟩ (.slice b2 (L (outN m (outO m o (mgQ q)) (denN q.den))).length e2)) b1 e1 (outN m o (mgQ q)) := ⟨n1.1.grown hg (hrb.apart n1.1), n1.2⟩
 have m2 : NumAt ((W.setCell ⟨w.heap.size, 1, none⟩ (.slice b1 (L (outN m o (mgQ q))).length e1)).setCell ⟨w.heap.size, 2, none⟩ (.slice b2 (L (outN m (outO m o (mgQ q)) (denN q.den))).length e2)) b2 e2 (outN m (outO m o (mgQ q)) (denN q.den)) := ⟨n2.1.grown hg (hrb.apart n2.1), n2.2⟩
 have p1 : NumAt (set3 ((W.setCell ⟨w.heap.size, 1, none⟩ (.slice b1 (L (outN m o (mgQ q))).length e1)).setCell ⟨w.heap.size, 2, none⟩ (.slice b2 (L (outN m (outO m o (mgQ q)) (denN q.den))).length e2)) (w.heap.size + 1) s (.slice b1 (L (outN m o (mgQ q))).length e1) (.slice b2 (L (outN m (outO m o (mgQ q)) (denN q.den))).length e2)) b1 e1 (outN m o (mgQ q)) := ⟨m1.1.grown (set3_grown _ _ _ _ _) (hs2.rat.apart m1.1), m1.2⟩
 have p2 : NumAt (set3 ((W.setCell ⟨w.heap.size, 1, none⟩ (.slice b1 (L (outN m o (mgQ q))).length e1)).setCell ⟨w.heap.size, 2, none⟩ (.slice b2 (L (outN m (outO m o (mgQ q)) (denN q.den))).length e2)) (w.heap.size + 1) s (.slice b1 (L (outN m o (mgQ q))).length e1) (.slice b2 (L (outN m (outO m o (mgQ q)) (denN q.den))).length e2)) b2 e2 (outN m (outO m o (mgQ q)) (denN q.den)) := ⟨m2.1.grown (set3_grown _ _ _ _ _) (hs2.rat.apart m2.1), m2.2⟩
 have hle : ∀ {o' n}, (L (outN m o' n)).length ≤ (L n).length := fun {o' n} => by
  unfold outN
  split
  ·simp [L_zero]
  ·exact Nat.le_refl _
 unfold szQ at zq
 have z1 := @hle o (mgQ q)
 have z2 := @hle (outO m o (mgQ q)) (denN q.den)
 have hbw : BR b m o2 w W := hR.trans hb
 have hBR : ∀ (u1 u2 : Value), BR b m o2 w (set3 ((W.setCell ⟨w.heap.size, 1, none⟩ u1).setCell ⟨w.heap.size, 2, none⟩ u2) (w.heap.size + 1) s u1 u2) := fun u1 u2 => by
  unfold set3
  exact ((((hbw.setNew hT hb0 _ (Nat.le_refl _)).setNew hT hb0 _ (Nat.le_refl _)).setNew hT hb0 _ (by omega)).setNew hT hb0 _ (by omega)).setNew hT hb0 _ (by omega)
 rw [← ho]
 have hBR2 := hBR (.slice b1 (L (outN m o (mgQ q))).length e1) (.slice b2 (L (outN m (outO m o (mgQ q)) (denN q.den))).length e2)
 generalize hX : set3 ((W.setCell ⟨w.heap.size, 1, none⟩ (.slice b1 (L (outN m o (mgQ q))).length e1)).setCell ⟨w.heap.size, 2, none⟩ (.slice b2 (L (outN m (outO m o (mgQ q)) (denN q.den))).length e2)) (w.heap.size + 1) s (.slice b1 (L (outN m o (mgQ q))).length e1) (.slice b2 (L (outN m (outO m o (mgQ q)) (denN q.den))).length e2) = X at p1 p2 hBR2 ⊢
 clear hX hBR
 refine ⟨s, b1, _, e1, b2, _, e2, rfl, Lib.hid hBR2, Lib.hid ⟨fun e => ?_, ⟨⟨_, NumE.of p1 (by omega)⟩, ⟨_, NumE.of p2 (by omega)⟩⟩⟩⟩
 ·subst ho
  obtain ⟨f1, f2⟩ := outO_first e
  have e1' : outN m o (mgQ q) = mgQ q := by unfold outN; rw [f1]; rfl
  have e2' : outN m (outO m o (mgQ q)) (denN q.den) = denN q.den := by unfold outN; rw [f2]; rfl
  refine ⟨h0, by rw [e1'], by rw [e2'], ⟨?_, ?_⟩⟩
  ·rw [← e1']; exact p1
  ·rw [← e2']; exact p2
set_option maxRecDepth 100000 in
set_option maxHeartbeats 8000000 in
theorem answer_any {w : World} {b m : Nat} {o : Bool} {ys : Bool} {ya yb : Option Addr} {yl yc yk ye : Nat} {k : Rat} (hB : Bench w b m o) (hT : Tab w) (hy : VQ k (ys, (ya, yl, yc), (yb, yk, ye)) w) (zk : szQ k ≤ 4000) :
    Calls Tryz.prog 46 #[.pointer (some ⟨b, 0, none⟩), .agg #[.bool ys, .slice ya yl yc, .slice yb yk ye]] w (GotA b m (o || ovQ m k) w k) := by
 obtain ⟨W0, hW0, hB0, b0, b1, hs⟩ := boxes2 w #[.bool ys, .slice ya yl yc, .slice yb yk ye] #[.bool false, .slice none 0 0, .slice none 0 0] 27 27
 have hR0 : BR b m o w W0 := (BR.refl hB hT).kept hB0
 have hb0 := hB.lt
 obtain ⟨h0, h1, h2, h3⟩ := hy
 dsimp only at h0 h1 h2 h3
 have zk' := zk
 unfold szQ at zk
 have h3' := h3.kept hB0
 have HC1 : Hid (∀ W, Below W0.heap.size W0 W → Calls Tryz.prog 73 #[.pointer (some ⟨b, 0, none⟩), .slice ya yl yc, .slice none 0 0] W fun e W' => ∃ a' c', e = .returned (.slice a' (L (outN m o (mgQ k))).length c') ∧ Hid (BR b m (outO m o (mgQ k)) W0 W') ∧ Hid (NumAt W' a' c' (outN m o (mgQ k)))) := Lib.hid fun W h => by
  have hRW := hR0.self.kept h
  rw [h1]
  refine (tellE hRW.bench (NumE.of ((h3'.kept h).num) (by omega))).mono ?_
  rintro e W' ⟨a', c', rfl, g1, g2, g3⟩
  exact ⟨a', c', rfl, Lib.hid ⟨grownBy_trans' hRW.g g3, g2, hRW.tab.bench hRW.bench g3⟩, Lib.hid g1⟩
 have HC2 : Hid (∀ W, BR b m (outO m o (mgQ k)) W0 W → Calls Tryz.prog 73 #[.pointer (some ⟨b, 0, none⟩), .slice yb yk ye, .slice none 0 0] W fun e W' => ∃ a' c', e = .returned (.slice a' (L (outN m (outO m o (mgQ k)) (denN k.den))).length c') ∧ Hid (BR b m (outO m (outO m o (mgQ k)) (denN k.den)) W0 W' ∧ W.grownBy W' (some b)) ∧ Hid (NumAt W' a' c' (outN m (outO m o (mgQ k)) (denN k.den)))) := Lib.hid fun W h => by
  rw [h2]
  refine (tellE h.bench (NumE.of ((h3'.bench hR0.bench h.g).den) (by omega))).mono ?_
  rintro e W' ⟨a', c', rfl, g1, g2, g3⟩
  exact ⟨a', c', rfl, Lib.hid ⟨⟨grownBy_trans' h.g g3, g2, h.tab.bench h.bench g3⟩, g3⟩, Lib.hid g1⟩
 have hne0 : w.heap.size ≠ b := by omega
 have hne1 : w.heap.size + 1 ≠ b := by omega
 have HK : Hid (∀ p W, BR b m p W0 W → _) := Lib.hid fun p W (h : BR b m p W0 W) => cells3 (h.block b0 hne0)
 have HR : Hid (∀ p W, BR b m p W0 W → _) := Lib.hid fun p W (h : BR b m p W0 W) => cells3 (h.block b1 hne1)
 have HFIN : Hid (∀ W a3 c3 a4 c4, BR b m (outO m (outO m o (mgQ k)) (denN k.den)) W0 W → NumAt W a3 c3 (outN m o (mgQ k)) → NumAt W a4 c4 (outN m (outO m o (mgQ k)) (denN k.den)) → _) := Lib.hid fun W a3 c3 a4 c4 hb n1 n2 => fin12 hR0 hT hb0 b0 b1 hb h0 (by omega) outO_ov n1 n2
 have HRN : Hid (∀ p, BR b m p W0 W0 → True) := Lib.hid fun _ _ => trivial
 have HBN := Lib.hid (fun (W W' : World) (n a c) (p : Bool) (h : NumAt W a c n) (hb : Bench W b m p) (hg : W.grownBy W' (some b)) => NumAt.bench h hb hg)
 have HW0 := Lib.hid hW0
 obtain ⟨k0, k1, k2, f0, f1, f2⟩ := HK.out _ W0 hR0.self
 have hn1 : w.heap.size ≠ w.heap.size + 1 := by omega
 have hn2 : w.heap.size + 1 ≠ w.heap.size := by omega
 clear hW0 hB0 b0 b1 hs h0 h1 h2 h3 h3' zk zk' hR0 hB hT hb0 HRN hne0 hne1
 generalize outN m (outO m o (mgQ k)) (denN k.den) = N2 at *
 generalize outN m o (mgQ k) = N1 at *
 generalize outO m (outO m o (mgQ k)) (denN k.den) = O2 at *
 generalize outO m o (mgQ k) = O1 at *
 generalize (o || ovQ m k) = OF at *
 generalize hl1 : (L N1).length = L1 at *
 generalize hl2 : (L N2).length = L2 at *
 clear hl1 hl2
 go_enter Tryz.func46, Tryz.ntmps46
 go_wp2_with fail
 rw [← HW0.out]
 refine wp_region_held_drew (S := (fun _ => True)) (by kernel_rfl) ?_ (fun hHeld => ?_)
 ·trivial
 refine tkV 0 hHeld ?_
 try simp only [Act.put, zA, zB, zC, zD, zE, zF]
 refine tkV 1 hHeld ?_
 try simp only [Act.put, zA, zB, zC, zD, zE, zF]
 refine tkV 2 hHeld ?_
 try simp only [Act.put, zA, zB, zC, zD, zE, zF]
 refine tkV 5 hHeld ?_
 try simp only [Act.put, zA, zB, zC, zD, zE, zF]
 refine tkV 6 hHeld ?_
 try simp only [Act.put, zA, zB, zC, zD, zE, zF]
 refine rdy [3, 7] ?_
 refine AllReadyH.cons (by rfl) (fun K hK => ?_) ?_
 ·go_simp
  refine hK.out _ _ ?_ (fun hHeld => ?_)
  ·trivial
  clear hK K
  try simp only [Act.put, zA, zB, zC, zD, zE, zF]
  refine rdy [4, 7] ?_
  refine AllReadyH.cons (by rfl) (fun K hK => ?_) ?_
  ·go_simp
   with_reducible refine (HC1.out _ (below_drew _)).mono ?_
   rintro e w3 ⟨a3, c3, rfl, G3, N3⟩
   have hb3 := G3.out
   obtain ⟨k0, k1, k2, f0, f1, f2⟩ := HK.out _ _ hb3
   refine hK.out _ _ ?_ (fun hHeld => ?_)
   ·trivial
   clear hK K
   try simp only [Act.put, zA, zB, zC, zD, zE, zF]
   refine rdy [7] ?_
   refine AllReadyH.cons (by rfl) (fun K hK => ?_) AllReadyH.nil
   go_simp
   refine hK.out _ _ ?_ (fun hHeld => ?_)
   ·trivial
   clear hK K
   try simp only [Act.put, zA, zB, zC, zD, zE, zF]
   refine tkV 9 hHeld ?_
   try simp only [Act.put, zA, zB, zC, zD, zE, zF]
   refine tkV 10 hHeld ?_
   try simp only [Act.put, zA, zB, zC, zD, zE, zF]
   refine rdy [8] ?_
   refine AllReadyH.cons (by rfl) (fun K hK => ?_) AllReadyH.nil
   go_simp
   with_reducible refine (HC2.out _ hb3).mono ?_
   rintro e w4 ⟨a4, c4, rfl, G4, N4⟩
   have hb4 := G4.out.1
   obtain ⟨k0, k1, k2, f0, f1, f2⟩ := HK.out _ _ hb4
   obtain ⟨m0, m1, m2, n0, n1, n2⟩ := HR.out _ _ hb4
   have HE := Lib.hid (HFIN.out _ _ _ _ _ hb4 (HBN.out _ _ _ _ _ _ N3.out (BR.bench hb3) G4.out.2) N4.out)
   refine hK.out _ _ ?_ (fun hHeld => ?_)
   ·trivial
   clear hK K
   try simp only [Act.put, zA, zB, zC, zD, zE, zF]
   refine rdy [11] ?_
   refine AllReadyH.cons (by rfl) (fun K hK => ?_) AllReadyH.nil
   go_simp
   refine hK.out _ _ ?_ (fun hHeld => ?_)
   ·trivial
   clear hK K
   try simp only [Act.put, zA, zB, zC, zD, zE, zF]
   refine tkV 12 hHeld ?_
   try simp only [Act.put, zA, zB, zC, zD, zE, zF]
   refine rdy [13] ?_
   refine AllReadyH.cons (by rfl) (fun K hK => ?_) AllReadyH.nil
   go_simp
   refine hK.out _ _ ?_ (fun hHeld => ?_)
   ·trivial
   clear hK K
   try simp only [Act.put, zA, zB, zC, zD, zE, zF]
   refine wpAnyH_done (by kernel_rfl) ?_ _
   clear hHeld HC1 HC2 HK HR HFIN HBN
   go_wp2_with fail
   exact bodyPost_ret (v := .agg #[.bool ys, .slice a3 L1 c3, .slice a4 L2 c4]) (by simp [results, Tryz.results46, go_sem, m0, m1, m2]) rfl HE.out
  refine AllReadyH.cons (by rfl) (fun K hK => ?_) ?_
  ·go_simp
   refine hK.out _ _ ?_ (fun hHeld => ?_)
   ·trivial
   clear hK K
   try simp only [Act.put, zA, zB, zC, zD, zE, zF]
   refine rdy [4] ?_
   refine AllReadyH.cons (by rfl) (fun K hK => ?_) AllReadyH.nil
   go_simp
   with_reducible refine (HC1.out _ (below_drew _)).mono ?_
   rintro e w3 ⟨a3, c3, rfl, G3, N3⟩
   have hb3 := G3.out
   obtain ⟨k0, k1, k2, f0, f1, f2⟩ := HK.out _ _ hb3
   refine hK.out _ _ ?_ (fun hHeld => ?_)
   ·trivial
   clear hK K
   try simp only [Act.put, zA, zB, zC, zD, zE, zF]
   refine tkV 9 hHeld ?_
   try simp only [Act.put, zA, zB, zC, zD, zE, zF]
   refine tkV 10 hHeld ?_
   try simp only [Act.put, zA, zB, zC, zD, zE, zF]
   refine rdy [8] ?_
   refine AllReadyH.cons (by rfl) (fun K hK => ?_) AllReadyH.nil
   go_simp
   with_reducible refine (HC2.out _ hb3).mono ?_
   rintro e w4 ⟨a4, c4, rfl, G4, N4⟩
   have hb4 := G4.out.1
   obtain ⟨k0, k1, k2, f0, f1, f2⟩ := HK.out _ _ hb4
   obtain ⟨m0, m1, m2, n0, n1, n2⟩ := HR.out _ _ hb4
   have HE := Lib.hid (HFIN.out _ _ _ _ _ hb4 (HBN.out _ _ _ _ _ _ N3.out (BR.bench hb3) G4.out.2) N4.out)
   refine hK.out _ _ ?_ (fun hHeld => ?_)
   ·trivial
   clear hK K
   try simp only [Act.put, zA, zB, zC, zD, zE, zF]
   refine rdy [11] ?_
   refine AllReadyH.cons (by rfl) (fun K hK => ?_) AllReadyH.nil
   go_simp
   refine hK.out _ _ ?_ (fun hHeld => ?_)
   ·trivial
   clear hK K
   try simp only [Act.put, zA, zB, zC, zD, zE, zF]
   refine tkV 12 hHeld ?_
   try simp only [Act.put, zA, zB, zC, zD, zE, zF]
   refine rdy [13] ?_
   refine AllReadyH.cons (by rfl) (fun K hK => ?_) AllReadyH.nil
   go_simp
   refine hK.out _ _ ?_ (fun hHeld => ?_)
   ·trivial
   clear hK K
   try simp only [Act.put, zA, zB, zC, zD, zE, zF]
   refine wpAnyH_done (by kernel_rfl) ?_ _
   clear hHeld HC1 HC2 HK HR HFIN HBN
   go_wp2_with fail
   exact bodyPost_ret (v := .agg #[.bool ys, .slice a3 L1 c3, .slice a4 L2 c4]) (by simp [results, Tryz.results46, go_sem, m0, m1, m2]) rfl HE.out
  exact AllReadyH.nil
 refine AllReadyH.cons (by rfl) (fun K hK => ?_) ?_
 ·go_simp
  refine hK.out _ _ ?_ (fun hHeld => ?_)
  ·trivial
  clear hK K
  try simp only [Act.put, zA, zB, zC, zD, zE, zF]
  refine rdy [3] ?_
  refine AllReadyH.cons (by rfl) (fun K hK => ?_) AllReadyH.nil
  go_simp
  refine hK.out _ _ ?_ (fun hHeld => ?_)
  ·trivial
  clear hK K
  try simp only [Act.put, zA, zB, zC, zD, zE, zF]
  refine rdy [4] ?_
  refine AllReadyH.cons (by rfl) (fun K hK => ?_) AllReadyH.nil
  go_simp
  with_reducible refine (HC1.out _ (below_drew _)).mono ?_
  rintro e w3 ⟨a3, c3, rfl, G3, N3⟩
  have hb3 := G3.out
  obtain ⟨k0, k1, k2, f0, f1, f2⟩ := HK.out _ _ hb3
  refine hK.out _ _ ?_ (fun hHeld => ?_)
  ·trivial
  clear hK K
  try simp only [Act.put, zA, zB, zC, zD, zE, zF]
  refine tkV 9 hHeld ?_
  try simp only [Act.put, zA, zB, zC, zD, zE, zF]
  refine tkV 10 hHeld ?_
  try simp only [Act.put, zA, zB, zC, zD, zE, zF]
  refine rdy [8] ?_
  refine AllReadyH.cons (by rfl) (fun K hK => ?_) AllReadyH.nil
  go_simp
  with_reducible refine (HC2.out _ hb3).mono ?_
  rintro e w4 ⟨a4, c4, rfl, G4, N4⟩
  have hb4 := G4.out.1
  obtain ⟨k0, k1, k2, f0, f1, f2⟩ := HK.out _ _ hb4
  obtain ⟨m0, m1, m2, n0, n1, n2⟩ := HR.out _ _ hb4
  have HE := Lib.hid (HFIN.out _ _ _ _ _ hb4 (HBN.out _ _ _ _ _ _ N3.out (BR.bench hb3) G4.out.2) N4.out)
  refine hK.out _ _ ?_ (fun hHeld => ?_)
  ·trivial
  clear hK K
  try simp only [Act.put, zA, zB, zC, zD, zE, zF]
  refine rdy [11] ?_
  refine AllReadyH.cons (by rfl) (fun K hK => ?_) AllReadyH.nil
  go_simp
  refine hK.out _ _ ?_ (fun hHeld => ?_)
  ·trivial
  clear hK K
  try simp only [Act.put, zA, zB, zC, zD, zE, zF]
  refine tkV 12 hHeld ?_
  try simp only [Act.put, zA, zB, zC, zD, zE, zF]
  refine rdy [13] ?_
  refine AllReadyH.cons (by rfl) (fun K hK => ?_) AllReadyH.nil
  go_simp
  refine hK.out _ _ ?_ (fun hHeld => ?_)
  ·trivial
  clear hK K
  try simp only [Act.put, zA, zB, zC, zD, zE, zF]
  refine wpAnyH_done (by kernel_rfl) ?_ _
  clear hHeld HC1 HC2 HK HR HFIN HBN
  go_wp2_with fail
  exact bodyPost_ret (v := .agg #[.bool ys, .slice a3 L1 c3, .slice a4 L2 c4]) (by simp [results, Tryz.results46, go_sem, m0, m1, m2]) rfl HE.out
 exact AllReadyH.nil
end Go.Proofs.YtpjeecahaeaajaaGreatDoor
