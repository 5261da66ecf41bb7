/- By program out of: RatCmp, RatText, RatTerm, RefRight, RatLaw, RatHand, RatTold, RatSt, RatPair, RatRight, DelBase, DelRef, DelCmp, SmMath, DelText, DelBy, SmBase. -/
import Derived.Test.YthnklohpmcebkaaGreatDoorMflfaoc
import Derived.IntWalk
set_option linter.unusedVariables false
set_option linter.unusedSimpArgs false
namespace Go.Proofs.YthnklohpmcebkaaGreatDoor
open Go.RowKit Rep
theorem wrap_small {a : Int} (h1 : -1 ≤ a) (h2 : a ≤ 1) : IntKind.i64.wrap a = a := by
  exact IntWalk.i64_in _ (by omega)
theorem RatX.sign_from {W0 : World} {s : Bool} {a1 : Option Addr} {l1 c1 : Nat} {a2 : Option Addr} {l2 c2 : Nat} {n d d0 : Nat} {q : Rat} (h : RatX W0 s a1 l1 c1 a2 l2 c2 n d d0 q) (W : World) (hb : Below W0.heap.size W0 W) :
    Calls Tryz.prog 106 #[ratV s (.slice a1 l1 c1) (.slice a2 l2 c2)] W (fun e W' => e = .returned (.int .i64 (cmpQ q 0)) ∧ Below W0.heap.size W0 W') :=
  (Sign_q (h.kept hb)).mono fun e W' hg => ⟨hg.1, hb.trans (hg.2.mono hb.size)⟩
set_option maxRecDepth 100000 in
set_option maxHeartbeats 8000000 in
theorem CmpP_q {w : World} {sx sy : Bool} {ax bx ay by' : Option Addr} {lx cx kx ex ly cy ky ey nx dx dx0 ny dy dy0 : Nat} {x y : Rat} (hx : RatX w sx ax lx cx bx kx ex nx dx dx0 x) (hy : RatX w sy ay ly cy by' ky ey ny dy dy0 y) :
    Calls Tryz.prog 95 #[ratV sx (.slice ax lx cx) (.slice bx kx ex), ratV sy (.slice ay ly cy) (.slice by' ky ey)] w (GivesInt (cmpQ x y) w) := by
  obtain ⟨W0, hW0, hB0, b1, b2, hs⟩ := boxes2 w #[.bool sx, .slice ax lx cx, .slice bx kx ex] #[.bool sy, .slice ay ly cy, .slice by' ky ey] 27 27
  have hx0 := hx.kept hB0
  have hy0 := hy.kept hB0
  have HS1 := Lib.hid hx0.sign_from
  have HS2 := Lib.hid hy0.sign_from
  have HK := Lib.hid (keep6 b1 b2)
  have HW0 := Lib.hid hW0
  have HB0 := Lib.hid hB0
  obtain ⟨k0, k1, k2, j0, j1, j2⟩ := cells3 b1
  obtain ⟨k3, k4, k5, j3, j4, j5⟩ := cells3 b2
  by_cases hd : cmpQ x 0 = cmpQ y 0
  · have hsame := cmpQ_same hd
    have hb : ((cmpQ x 0 : Int) != cmpQ y 0) = false := by rw [hd]; simp
    obtain ⟨mx, mx2⟩ := mkQ_cop sx hx0.pos hx0.cop
    obtain ⟨my, my2⟩ := mkQ_cop sy hy0.pos hy0.cop
    rw [hx0.is] at mx mx2
    rw [hy0.is] at my my2
    rw [mx, mx2, my, my2] at hsame
    have H0 := Lib.hid (And.intro hx0 (And.intro hy0 (And.intro b1 (And.intro b2 hs))))
    have hv : -1 ≤ cmpQ x y ∧ cmpQ x y ≤ 1 := by rcases cmpQ_vals x y with h | h | h <;> omega
    have hwr := wrap_small hv.1 hv.2
    rw [← hsame] at hwr ⊢
    have HWR := Lib.hid hwr
    clear hW0 hB0 b1 b2 hs hx hy hx0 hy0 hsame hv mx mx2 my my2 hwr
    rw [← hd] at HS2 hb
    clear hd
    generalize cmpQ x 0 = sg at *
    unfold ratV at HS1 HS2 ⊢
    go_enter Tryz.func95, Tryz.ntmps95
    go_wp2_with fail
    rw [← HW0.out]
    go_region_held3 (fun w' => w'.cell? ⟨w.heap.size, 0, none⟩ = some (.bool (sx)) ∧ w'.cell? ⟨w.heap.size, 1, none⟩ = some (.slice ax lx cx) ∧ w'.cell? ⟨w.heap.size, 2, none⟩ = some (.slice bx kx ex) ∧ w'.cell? ⟨w.heap.size + 1, 0, none⟩ = some (.bool ( sy)) ∧ w'.cell? ⟨w.heap.size + 1, 1, none⟩ = some (.slice ay ly cy) ∧ w'.cell? ⟨w.heap.size + 1, 2, none⟩ = some (.slice by' ky ey)) (first | exact HK.out _ hb4 | exact HK.out _ hb3 | go_keep)
        (first
          | (go_at_call 106; (with_reducible refine (HS1.out _ (below_drew _)).mono ?_); rintro e w3 ⟨rfl, hb3⟩)
          | (go_at_call 106; (with_reducible refine (HS2.out _ hb3).mono ?_); rintro e w4 ⟨rfl, hb4⟩))
    obtain ⟨W1, hW1, hB1, hbe, c1', c2', e1, e2, hlt⟩ : ∃ W1, W1 = wayW w4 ∧ Below W0.heap.size W0 W1 ∧ Bench W1 w4.heap.size 2147483647 false ∧
        W1.heap[w.heap.size]? = some (.cells #[.bool sx, .slice ax lx cx, .slice bx kx ex] 27 (0, 0)) ∧ W1.heap[w.heap.size + 1]? = some (.cells #[.bool sy, .slice ay ly cy, .slice by' ky ey] 27 (0, 0)) ∧
        RatX W1 sx ax lx cx bx kx ex nx dx dx0 x ∧ RatX W1 sy ay ly cy by' ky ey ny dy dy0 y ∧ w.heap.size + 1 < w4.heap.size := by
      obtain ⟨q1, q2, q3, q4, q5⟩ := H0.out
      have h04 := hb4.trans ((wayW_below w4).mono hb4.size)
      have := hb4.size
      exact ⟨_, rfl, h04, wayW_bench w4, (h04.block _ (by omega)).trans q3, (h04.block _ (by omega)).trans q4, q1.kept h04, q2.kept h04, by omega⟩
    have HTX := Lib.hid (fun W (h : StepW w4.heap.size W1 W) => (through_any (s := sx) (a1 := ax) (l1 := lx) (c1 := cx) (h.num hbe e1.den)).mono fun e W' hg => (by
      rw [← e1.thr] at hg
      obtain ⟨a, l, c, he, hn, hl, hb⟩ := hg
      exact ⟨a, l, c, he, hn, by have := e1.s2; omega, h.below hb, StepW.below (StepW.refl h.2) hb⟩ : PostW w4.heap.size W1 W 10000 dx e W'))
    have HTY := Lib.hid (fun W (h : StepW w4.heap.size W1 W) => (through_any (s := sy) (a1 := ay) (l1 := ly) (c1 := cy) (h.num hbe e2.den)).mono fun e W' hg => (by
      rw [← e2.thr] at hg
      obtain ⟨a, l, c, he, hn, hl, hb⟩ := hg
      exact ⟨a, l, c, he, hn, by have := e2.s2; omega, h.below hb, StepW.below (StepW.refl h.2) hb⟩ : PostW w4.heap.size W1 W 10000 dy e W'))
    have HM : Hid (∀ (n : Nat) (a : Option Addr) (la ca : Nat) (_ : NumE W1 a la ca n) (_ : la ≤ 10000) (k : Nat) (W : World) (b : Option Addr) (lb cb : Nat), StepW w4.heap.size W1 W → NumE W b lb cb k → lb ≤ 10000 → Calls Tryz.prog 75 #[.pointer (some ⟨w4.heap.size, 0, none⟩), .slice a la ca, .slice b lb cb] W (PostW w4.heap.size W1 W 20000 (n * k))) := Lib.hid fun n a la ca h1 hl k W b lb cb h h2 hl2 => by
      refine (mulW h.2 (h.num hbe h1) h2 (by omega) W (StepW.refl h.2)).mono ?_
      rintro e W' ⟨a', l', c', rfl, hn, hl', hs1, hs2⟩
      exact ⟨a', l', c', rfl, hn, by omega, h.trans hs1, hs2⟩
    have HM1 := Lib.hid (HM.out nx ax lx cx e1.num e1.s1 dy)
    have HM2 := Lib.hid (HM.out ny ay ly cy e2.num e2.s1 dx)
    have HK2 := Lib.hid (keepS6 c1' c2' (by omega : w.heap.size ≠ w4.heap.size) (by omega : w.heap.size + 1 ≠ w4.heap.size))
    have HRF := Lib.hid (StepW.refl hbe)
    have HBW := Lib.hid (And.intro (HB0.out.trans (hB1.mono HB0.out.size)) (by have := HB0.out.size; omega : w.heap.size ≤ w4.heap.size))
    have HW1 := Lib.hid hW1
    clear hW1 hB1 hbe c1' c2' e1 e2 HM HK H0 HS1 HS2 hb3 hb4 HB0
    clear k0 k1 k2 k3 k4 k5 j0 j1 j2 j3 j4 j5
    obtain ⟨k0, k1, k2, k3, k4, k5⟩ := HK2.out _ HRF.out
    have HCM : Hid (∀ W a l c a' l' c', StepW w4.heap.size W1 W → NumE W a l c (nx * dy) → NumE W a' l' c' (ny * dx) → Calls Tryz.prog 91 #[.slice a l c, .slice a' l' c'] W (fun e W' => e = .returned (.int .i64 (cmpI ((nx * dy : Nat) : Int) ((ny * dx : Nat) : Int))) ∧ StepW w4.heap.size W1 W')) := Lib.hid fun W a l c a' l' c' h h1 h2 => (cmpE h1 h2).mono fun e W' hg => ⟨hg.1, h.below hg.2⟩
    generalize cmpI ((nx * dy : Nat) : Int) ((ny * dx : Nat) : Int) = cm at *
    generalize nx * dy = A at *
    generalize ny * dx = B at *
    unfold ratV at HTX HTY
    have hwr := HWR.out
    obtain ⟨r, hr⟩ : ∃ r, sg * cm = r := ⟨_, rfl⟩
    rw [hr] at hwr ⊢
    have HR := Lib.hid hr
    clear hr
    go_wp2_with fail
    refine (unbounded_any w4).mono ?_
    rintro e w7 ⟨rfl, rfl⟩
    rw [← HW1.out]
    generalize w4.heap.size = t at *
    go_wp2_with fail
    go_region_held3 (fun w' => w'.cell? ⟨w.heap.size, 0, none⟩ = some (.bool (sx)) ∧ w'.cell? ⟨w.heap.size, 1, none⟩ = some (.slice ax lx cx) ∧ w'.cell? ⟨w.heap.size, 2, none⟩ = some (.slice bx kx ex) ∧ w'.cell? ⟨w.heap.size + 1, 0, none⟩ = some (.bool ( sy)) ∧ w'.cell? ⟨w.heap.size + 1, 1, none⟩ = some (.slice ay ly cy) ∧ w'.cell? ⟨w.heap.size + 1, 2, none⟩ = some (.slice by' ky ey)) (first | exact HK2.out _ hp9 | exact HK2.out _ hp8 | exact HK2.out _ hp7 | exact HK2.out _ hp6 | exact HK2.out _ hp5 | go_keep)
        (first
          | (go_at_call 72; (with_reducible refine (HTY.out _ HRF.out.drew).mono ?_); rintro e w5 ⟨a5, l5, c5, rfl, d5, hl5, hp5, _⟩)
          | (go_at_call 75; (with_reducible refine (HM1.out _ _ _ _ hp5 d5 hl5).mono ?_); rintro e w6 ⟨a6, l6, c6, rfl, d6, hl6, hp6, _⟩)
          | (go_at_call 72; (with_reducible refine (HTX.out _ hp6).mono ?_); rintro e w7 ⟨a7, l7, c7, rfl, d7, hl7, hp7, hs7⟩; have d6' := hs7.num hp6.2 d6)
          | (go_at_call 75; (with_reducible refine (HM2.out _ _ _ _ hp7 d7 hl7).mono ?_); rintro e w8 ⟨a8, l8, c8, rfl, d8, hl8, hp8, hs8⟩; have d6'' := hs8.num hp7.2 d6')
          | (go_at_call 91; (with_reducible refine (HCM.out _ _ _ _ _ _ _ hp8 d6'' d8).mono ?_); rintro e w9 ⟨rfl, hp9⟩))
    have HE := Lib.hid (hp9.base HBW.out.1 HBW.out.2)
    clear HTX HTY HM1 HM2 HK2 HRF HBW HW1 HCM HW0
    go_wp2_with fail
    go_ret
    exact ⟨by rw [HR.out, hwr]; rfl, HE.out⟩
  · have hdif := cmpQ_diff hd
    have hb : ((cmpQ x 0 : Int) != cmpQ y 0) = true := by rw [bne_iff_ne]; exact hd
    rw [← hdif]
    have HC := Lib.hid (fun W => cmpInt_any (cmpQ x 0) (cmpQ y 0) W)
    clear hW0 hB0 b1 b2 hs hx hy hx0 hy0 hdif hd
    generalize cmpI (cmpQ x 0) (cmpQ y 0) = r at *
    generalize cmpQ x 0 = sg at *
    generalize cmpQ y 0 = sh at *
    unfold ratV at HS1 HS2 ⊢
    go_enter Tryz.func95, Tryz.ntmps95
    go_wp2_with fail
    rw [← HW0.out]
    go_region_held3 (fun w' => w'.cell? ⟨w.heap.size, 0, none⟩ = some (.bool (sx)) ∧ w'.cell? ⟨w.heap.size, 1, none⟩ = some (.slice ax lx cx) ∧ w'.cell? ⟨w.heap.size, 2, none⟩ = some (.slice bx kx ex) ∧ w'.cell? ⟨w.heap.size + 1, 0, none⟩ = some (.bool ( sy)) ∧ w'.cell? ⟨w.heap.size + 1, 1, none⟩ = some (.slice ay ly cy) ∧ w'.cell? ⟨w.heap.size + 1, 2, none⟩ = some (.slice by' ky ey)) (first | exact HK.out _ hb4 | exact HK.out _ hb3 | go_keep)
        (first
          | (go_at_call 106; (with_reducible refine (HS1.out _ (below_drew _)).mono ?_); rintro e w3 ⟨rfl, hb3⟩)
          | (go_at_call 106; (with_reducible refine (HS2.out _ hb3).mono ?_); rintro e w4 ⟨rfl, hb4⟩))
    have HE := Lib.hid (HB0.out.trans (hb4.mono HB0.out.size))
    clear HS1 HS2 HK HW0 hb3 hb4 HB0
    go_wp2_with fail
    refine (HC.out _).mono ?_
    rintro e w5 ⟨rfl, rfl⟩
    go_wp2_with fail
    go_ret
    exact ⟨rfl, HE.out⟩
end Go.Proofs.YthnklohpmcebkaaGreatDoor

set_option linter.unusedVariables false
set_option linter.unusedSimpArgs false
namespace Go.Proofs.YthnklohpmcebkaaGreatDoor
open Go.RowKit Rep
theorem dlen_L {n k : Nat} (h : (L n).length ≤ k) : (D n).length ≤ 10 * k := by
  have := D_len_limbs (L_lim n)
  rw [V_L] at this
  omega
end Go.Proofs.YthnklohpmcebkaaGreatDoor

set_option linter.unusedVariables false
set_option linter.unusedSimpArgs false
namespace Go.Proofs.YthnklohpmcebkaaGreatDoor
open Go.RowKit Rep
end Go.Proofs.YthnklohpmcebkaaGreatDoor

set_option linter.unusedVariables false
set_option linter.unusedSimpArgs false
namespace Go.Proofs.YthnklohpmcebkaaGreatDoor
open Go.RowKit Rep
def qOf (s : Bool) (xs ds : List Nat) : Rat := mkQ s (V xs) (if V ds = 0 then 1 else V ds)
def rightB (s : Bool) (xs ds : List Nat) : Bool := decide (s = ngQ (qOf s xs ds) ∧ xs = L (mgQ (qOf s xs ds)) ∧ ds = L (denN (qOf s xs ds).den))
theorem rightB_top {s : Bool} {xs ds : List Nat} (h : rightB s xs ds = true) : (xs.length ≠ 0 → xs.getD (xs.length - 1) 0 ≠ 0) ∧ (ds.length ≠ 0 → ds.getD (ds.length - 1) 0 ≠ 0) ∧ ¬ (xs.length = 0 ∧ s = true) := by
  obtain ⟨h1, h2, h3⟩ := of_decide_eq_true h
  have key : ∀ {n : Nat} {l : List Nat}, l = L n → l.length ≠ 0 → l.getD (l.length - 1) 0 ≠ 0 := fun {n l} e hl => by
    subst e; exact Nat.ne_of_gt (top_limb (M := n) (by omega))
  refine ⟨key h2, key h3, fun ⟨e1, e2⟩ => ?_⟩
  have e3 : mgQ (qOf s xs ds) = 0 := by rw [h2] at e1; exact L_len_zero.1 e1
  have e4 := mg_zero.1 e3
  rw [e4, e2] at h1
  cases h1
theorem last_limb {w : World} {a : Option Addr} {xs : List Nat} (h : Reads w a (xs.map u32v)) (hl : xs.length ≠ 0) : ∃ g off, a = some ⟨g, off, none⟩ ∧ g < w.heap.size ∧ w.cell? ⟨g, off + (xs.length - 1), none⟩ = some (.int .u32 ((xs.getD (xs.length - 1) 0 : Nat) : Int)) := by
  obtain ⟨g, off, rfl, hg, hcell⟩ := h.open' (by rw [List.length_map]; omega)
  exact ⟨g, off, rfl, hg, hcell (xs.length - 1) _ (map_getElem? (xs := xs) (by omega))⟩
def Tail3 (w : World) (a : Option Addr) (l : Nat) (bad : Bool) : Prop :=
  (l = 0 ∧ bad = false) ∨ (∃ g off x : Nat, a = some ⟨g, off, none⟩ ∧ g < w.heap.size ∧ w.cell? ⟨g, off + (l - 1), none⟩ = some (.int .u32 (x : Int)) ∧ 0 < l ∧ ((x : Int) == 0) = bad)
theorem tail3 {w : World} {a : Option Addr} {xs : List Nat} (h : Reads w a (xs.map u32v)) : Tail3 w a xs.length (decide (xs.length ≠ 0 ∧ xs.getD (xs.length - 1) 0 = 0)) := by
  by_cases hl : xs.length = 0
  · exact .inl ⟨hl, by simp [hl]⟩
  · obtain ⟨g, off, ha, hg, hc⟩ := last_limb h hl
    refine .inr ⟨g, off, _, ha, hg, hc, by omega, ?_⟩
    generalize xs.getD (xs.length - 1) 0 = x
    rw [Bool.eq_iff_iff]
    simp [hl]
set_option maxRecDepth 100000 in
set_option maxHeartbeats 8000000 in
theorem RightR_any {w : World} {s : Bool} {a1 a2 : Option Addr} {c1 c2 : Nat} {xs ds : List Nat} (hx : NumIn w a1 c1 xs) (hd : NumIn w a2 c2 ds) (lx : xs.length ≤ 10000) (ld : ds.length ≤ 10000) :
    Calls Tryz.prog 6 #[ratV s (.slice a1 xs.length c1) (.slice a2 ds.length c2)] w (GivesB (rightB s xs ds) w) := by
  obtain ⟨W0, hW0⟩ : ∃ W0, W0 = w.alloc (.cells #[.bool s, .slice a1 xs.length c1, .slice a2 ds.length c2] 27) := ⟨_, rfl⟩
  have hB0 : Below w.heap.size w W0 := by rw [hW0]; exact (Below.refl _ _).alloc (Nat.le_refl _) _
  have b1 : W0.heap[w.heap.size]? = some (.cells #[.bool s, .slice a1 xs.length c1, .slice a2 ds.length c2] 27 (0, 0)) := by rw [hW0]; exact heap_alloc_new w _
  have t1 := tail3 hx.reads
  have t2 := tail3 hd.reads
  have htop := @rightB_top s xs ds
  have HC : Hid (∀ W, Below W0.heap.size W0 W → Calls Tryz.prog 14 #[ratV s (.slice a1 xs.length c1) (.slice a2 ds.length c2)] W (fun e W' => ∃ a3 l3 c3 a4 l4 c4, e = .returned (.agg #[.bool s, .slice a3 l3 c3, .slice a4 l4 c4]) ∧ Below W0.heap.size W0 W' ∧
      Hid (Calls Tryz.prog 13 #[.agg #[.bool s, .slice a3 l3 c3, .slice a4 l4 c4]] W' (fun e W2 => ∃ t a5 l5 c5 a6 l6 c6, e = .returned (.agg #[.bool t, .slice a5 l5 c5, .slice a6 l6 c6]) ∧ Below W0.heap.size W0 W2 ∧
        Hid (Calls Tryz.prog 12 #[ratV s (.slice a1 xs.length c1) (.slice a2 ds.length c2), .agg #[.bool t, .slice a5 l5 c5, .slice a6 l6 c6]] W2 (fun e W3 => e = .returned (.bool (rightB s xs ds)) ∧ Below W0.heap.size W0 W3)))))) := Lib.hid fun W h => by
    have hx1 := (hx.kept hB0).kept h
    have hd1 := (hd.kept hB0).kept h
    refine (Of_any s a1 a2 xs.length c1 ds.length c2 (V xs) (V ds) W (.inn hx1) (.inn hd1) (by omega) (by omega)).mono ?_
    rintro e W' ⟨a3, c3, a4, c4, rfl, d3, d4, hb1⟩
    have hB1 := h.trans (hb1.mono h.size)
    have hp : 0 < (if V ds = 0 then 1 else V ds) := by split <;> omega
    have q1 : (D (V xs)).length ≤ 1000000 := by have := dlen_L (V_len hx.lim (Nat.le_refl _)); omega
    have q2 : (D (if V ds = 0 then 1 else V ds)).length ≤ 1000000 := by
      split
      · rw [D_one]; simp
      · have := dlen_L (V_len hd.lim (Nat.le_refl _)); omega
    refine ⟨a3, _, c3, a4, _, c4, rfl, hB1, Lib.hid ((Form_q (s := s) d3 d4 hp q1 q2).mono ?_)⟩
    rintro e W2 ⟨a5, c5, a6, c6, rfl, hq, hb2⟩
    have hB2 := hB1.trans (hb2.mono hB1.size)
    refine ⟨_, a5, _, c5, a6, _, c6, rfl, hB2, Lib.hid ((SameR_any s _ a1 a2 a5 a6 c1 c2 c5 c6 xs ds (L (mgQ (qOf s xs ds))) (L (denN (qOf s xs ds).den)) W2 (((hx1.kept hb1).kept hb2).reads) (((hd1.kept hb1).kept hb2).reads) hq.num.1 hq.den.1 (by omega) (by omega)).mono ?_)⟩
    rintro e W3 ⟨rfl, hb3⟩
    exact ⟨rfl, hB2.trans (hb3.mono hB2.size)⟩
  have HK : Hid (∀ W, Below W0.heap.size W0 W → W.cell? ⟨w.heap.size, 0, none⟩ = some (.bool s) ∧ W.cell? ⟨w.heap.size, 1, none⟩ = some (.slice a1 xs.length c1) ∧ W.cell? ⟨w.heap.size, 2, none⟩ = some (.slice a2 ds.length c2)) := Lib.hid fun W h => by
    obtain ⟨q0, q1, q2, _⟩ := keep3 b1 W h
    exact ⟨q0, q1, q2⟩
  have HB := Lib.hid hB0
  have HW0 := Lib.hid hW0
  obtain ⟨k0, k1, k2, j0, j1, j2⟩ := cells3 b1
  have hV : rightB s xs ds = true → decide (xs.length ≠ 0 ∧ xs.getD (xs.length - 1) 0 = 0) = false ∧ decide (ds.length ≠ 0 ∧ ds.getD (ds.length - 1) 0 = 0) = false ∧ (xs.length = 0 → s = false) := fun h => by
    obtain ⟨f1, f2, f3⟩ := htop h
    exact ⟨decide_eq_false fun c => f1 c.1 c.2, decide_eq_false fun c => f2 c.1 c.2, fun e => by cases s <;> first | rfl | exact absurd ⟨e, rfl⟩ f3⟩
  clear hW0 hB0 b1 hx hd htop
  generalize decide (xs.length ≠ 0 ∧ xs.getD (xs.length - 1) 0 = 0) = u1 at *
  generalize decide (ds.length ≠ 0 ∧ ds.getD (ds.length - 1) 0 = 0) = u2 at *
  generalize rightB s xs ds = r at *
  generalize xs.length = l1 at *
  generalize ds.length = l2 at *
  have hend : (u1 = false ∧ u2 = false ∧ (l1 = 0 → s = false)) ∨ r = false := by
    cases r
    · exact .inr rfl
    · exact .inl (hV rfl)
  unfold ratV at HC ⊢
  clear hV
  rcases t1 with ⟨rfl, rfl⟩ | ⟨g1, o1, x1, rfl, hgl1, hck1, hp1, hz1⟩
  · rcases t2 with ⟨rfl, rfl⟩ | ⟨g2, o2, x2, rfl, hgl2, hck2, hp2, hz2⟩
    · cases s
      · clear hend
        have HC1 := Lib.hid (HC.out _ (below_drew _))
        go_enter Tryz.func6, Tryz.ntmps6
        go_wp2_with fail
        rw [← HW0.out]
        go_region_held3 (fun w' => w'.cell? ⟨w.heap.size, 0, none⟩ = some (.bool (false)) ∧ w'.cell? ⟨w.heap.size, 1, none⟩ = some (.slice a1 0 c1) ∧ w'.cell? ⟨w.heap.size, 2, none⟩ = some (.slice a2 0 c2)) (first | exact HK.out _ hb5 | exact HK.out _ hb4 | exact HK.out _ hb3 | go_keep)
            (first
              | (go_at_call 14; (with_reducible refine HC1.out.mono ?_); rintro e w3 ⟨a3, l3, c3, a4, l4, c4, rfl, hb3, HC2⟩)
              | (go_at_call 13; (with_reducible refine HC2.out.mono ?_); rintro e w4 ⟨t, a5, l5, c5, a6, l6, c6, rfl, hb4, HC3⟩)
              | (go_at_call 12; (with_reducible refine HC3.out.mono ?_); rintro e w5 ⟨rfl, hb5⟩))
        have HE := Lib.hid (HB.out.trans (hb5.mono HB.out.size))
        clear HC HC1 HC2 HC3 HK HW0 hb3 hb4 hb5
        go_wp2_with fail
        go_ret
        exact ⟨rfl, HE.out⟩
      · skip
        have hr : r = false := by
          rcases hend with h | h
          · simp at h
          · exact h
        subst hr
        clear HC HK hend
        have HE := HB
        clear HB
        go_enter Tryz.func6, Tryz.ntmps6
        go_wp2_with fail
        rw [← HW0.out]
        go_wp2_with fail
        go_ret
        exact ⟨rfl, HE.out⟩
    · skip
      have hg2a : decide ((0 : Int) < (l2 : Int)) = true := decide_eq_true (by omega)
      have hg2b : decide (0 < l2) = true := decide_eq_true hp2
      have hg2c : ((l2 : Int) == 0) = false := cast_beq_no (by omega)
      have hi2 : ((l2 : Int) - 1).toNat = l2 - 1 := by omega
      cases u2
      · cases s
        · clear hend
          have HC1 := Lib.hid (HC.out _ (below_drew _))
          go_enter Tryz.func6, Tryz.ntmps6
          go_wp2_with fail
          rw [← HW0.out]
          go_region_held3 (fun w' => w'.cell? ⟨w.heap.size, 0, none⟩ = some (.bool (false)) ∧ w'.cell? ⟨w.heap.size, 1, none⟩ = some (.slice a1 0 c1) ∧ w'.cell? ⟨w.heap.size, 2, none⟩ = some (.slice (some ⟨g2, o2, none⟩) l2 c2)) (first | exact HK.out _ hb5 | exact HK.out _ hb4 | exact HK.out _ hb3 | go_keep)
              (first
                | (go_at_call 14; (with_reducible refine HC1.out.mono ?_); rintro e w3 ⟨a3, l3, c3, a4, l4, c4, rfl, hb3, HC2⟩)
                | (go_at_call 13; (with_reducible refine HC2.out.mono ?_); rintro e w4 ⟨t, a5, l5, c5, a6, l6, c6, rfl, hb4, HC3⟩)
                | (go_at_call 12; (with_reducible refine HC3.out.mono ?_); rintro e w5 ⟨rfl, hb5⟩))
          have HE := Lib.hid (HB.out.trans (hb5.mono HB.out.size))
          clear HC HC1 HC2 HC3 HK HW0 hb3 hb4 hb5
          go_wp2_with fail
          go_ret
          exact ⟨rfl, HE.out⟩
        · skip
          have hr : r = false := by
            rcases hend with h | h
            · simp at h
            · exact h
          subst hr
          clear HC HK hend
          have HE := HB
          clear HB
          go_enter Tryz.func6, Tryz.ntmps6
          go_wp2_with fail
          rw [← HW0.out]
          go_wp2_with fail
          go_ret
          exact ⟨rfl, HE.out⟩
      · skip
        have hr : r = false := by
          rcases hend with h | h
          · simp at h
          · exact h
        subst hr
        clear HC HK hend
        have HE := HB
        clear HB
        go_enter Tryz.func6, Tryz.ntmps6
        go_wp2_with fail
        rw [← HW0.out]
        go_wp2_with fail
        go_ret
        exact ⟨rfl, HE.out⟩
  · skip
    have hg1a : decide ((0 : Int) < (l1 : Int)) = true := decide_eq_true (by omega)
    have hg1b : decide (0 < l1) = true := decide_eq_true hp1
    have hg1c : ((l1 : Int) == 0) = false := cast_beq_no (by omega)
    have hi1 : ((l1 : Int) - 1).toNat = l1 - 1 := by omega
    cases u1
    · rcases t2 with ⟨rfl, rfl⟩ | ⟨g2, o2, x2, rfl, hgl2, hck2, hp2, hz2⟩
      · clear hend
        have HC1 := Lib.hid (HC.out _ (below_drew _))
        go_enter Tryz.func6, Tryz.ntmps6
        go_wp2_with fail
        rw [← HW0.out]
        go_region_held3 (fun w' => w'.cell? ⟨w.heap.size, 0, none⟩ = some (.bool (s)) ∧ w'.cell? ⟨w.heap.size, 1, none⟩ = some (.slice (some ⟨g1, o1, none⟩) l1 c1) ∧ w'.cell? ⟨w.heap.size, 2, none⟩ = some (.slice a2 0 c2)) (first | exact HK.out _ hb5 | exact HK.out _ hb4 | exact HK.out _ hb3 | go_keep)
            (first
              | (go_at_call 14; (with_reducible refine HC1.out.mono ?_); rintro e w3 ⟨a3, l3, c3, a4, l4, c4, rfl, hb3, HC2⟩)
              | (go_at_call 13; (with_reducible refine HC2.out.mono ?_); rintro e w4 ⟨t, a5, l5, c5, a6, l6, c6, rfl, hb4, HC3⟩)
              | (go_at_call 12; (with_reducible refine HC3.out.mono ?_); rintro e w5 ⟨rfl, hb5⟩))
        have HE := Lib.hid (HB.out.trans (hb5.mono HB.out.size))
        clear HC HC1 HC2 HC3 HK HW0 hb3 hb4 hb5
        go_wp2_with fail
        go_ret
        exact ⟨rfl, HE.out⟩
      · skip
        have hg2a : decide ((0 : Int) < (l2 : Int)) = true := decide_eq_true (by omega)
        have hg2b : decide (0 < l2) = true := decide_eq_true hp2
        have hg2c : ((l2 : Int) == 0) = false := cast_beq_no (by omega)
        have hi2 : ((l2 : Int) - 1).toNat = l2 - 1 := by omega
        cases u2
        · clear hend
          have HC1 := Lib.hid (HC.out _ (below_drew _))
          go_enter Tryz.func6, Tryz.ntmps6
          go_wp2_with fail
          rw [← HW0.out]
          go_region_held3 (fun w' => w'.cell? ⟨w.heap.size, 0, none⟩ = some (.bool (s)) ∧ w'.cell? ⟨w.heap.size, 1, none⟩ = some (.slice (some ⟨g1, o1, none⟩) l1 c1) ∧ w'.cell? ⟨w.heap.size, 2, none⟩ = some (.slice (some ⟨g2, o2, none⟩) l2 c2)) (first | exact HK.out _ hb5 | exact HK.out _ hb4 | exact HK.out _ hb3 | go_keep)
              (first
                | (go_at_call 14; (with_reducible refine HC1.out.mono ?_); rintro e w3 ⟨a3, l3, c3, a4, l4, c4, rfl, hb3, HC2⟩)
                | (go_at_call 13; (with_reducible refine HC2.out.mono ?_); rintro e w4 ⟨t, a5, l5, c5, a6, l6, c6, rfl, hb4, HC3⟩)
                | (go_at_call 12; (with_reducible refine HC3.out.mono ?_); rintro e w5 ⟨rfl, hb5⟩))
          have HE := Lib.hid (HB.out.trans (hb5.mono HB.out.size))
          clear HC HC1 HC2 HC3 HK HW0 hb3 hb4 hb5
          go_wp2_with fail
          go_ret
          exact ⟨rfl, HE.out⟩
        · skip
          have hr : r = false := by
            rcases hend with h | h
            · simp at h
            · exact h
          subst hr
          clear HC HK hend
          have HE := HB
          clear HB
          go_enter Tryz.func6, Tryz.ntmps6
          go_wp2_with fail
          rw [← HW0.out]
          go_wp2_with fail
          go_ret
          exact ⟨rfl, HE.out⟩
    · skip
      have hr : r = false := by
        rcases hend with h | h
        · simp at h
        · exact h
      subst hr
      clear HC HK hend
      have HE := HB
      clear HB
      go_enter Tryz.func6, Tryz.ntmps6
      go_wp2_with fail
      rw [← HW0.out]
      go_wp2_with fail
      go_ret
      exact ⟨rfl, HE.out⟩
end Go.Proofs.YthnklohpmcebkaaGreatDoor

set_option linter.unusedVariables false
set_option linter.unusedSimpArgs false
namespace Go.Proofs.YthnklohpmcebkaaGreatDoor
open Go.RowKit Rep
abbrev RawR := Bool × (Option Addr × Nat × Nat) × (Option Addr × Nat × Nat)
def Rats (w : World) (g : Nat) (ts : List RawR) : Prop := ∀ k t, ts[k]? = some t → w.cell? ⟨g, k * 3, none⟩ = some (.bool t.1) ∧ w.cell? ⟨g, k * 3 + 1, none⟩ = some (.slice t.2.1.1 t.2.1.2.1 t.2.1.2.2) ∧ w.cell? ⟨g, k * 3 + 2, none⟩ = some (.slice t.2.2.1 t.2.2.2.1 t.2.2.2.2)
def greatB (ts : List RawR) : Bool := ts.any fun t => decide (6 < t.2.1.2.1) || decide (6 < t.2.2.2.1)
set_option maxRecDepth 100000 in
set_option maxHeartbeats 1000000 in
theorem Great_any (g c : Nat) (ts : List RawR) (w : World) (hr : Rats w g ts) (hg : g < w.heap.size) (hl : ts.length ≤ 1000) :
    Calls Tryz.prog 5 #[.slice (some ⟨g, 0, none⟩) ts.length c] w (GivesB (greatB ts) w) := by
  go_enter Tryz.func5, Tryz.ntmps5
  go_wp2_with fail
  go_loopw [7] (fun i wr => ∃ k : Nat, k ≤ ts.length ∧ i = .int .i64 k ∧ Hid (greatB (ts.take k) = false) ∧ Below w.heap.size w wr) (fun i _ => ts.length - (intOf i).toNat)
  case atStart => exact ⟨0, Nat.zero_le _, rfl, Lib.hid rfl, Below.refl _ _⟩
  case round =>
    obtain ⟨k, hk, rfl, HE, hb⟩ := hrel
    by_cases hlt : k < ts.length
    · obtain ⟨c0, c1, c2⟩ := hr k ts[k] (List.getElem?_eq_getElem hlt)
      have HT : Hid (ts.take (k + 1) = ts.take k ++ [ts[k]]) := Lib.hid (List.take_succ_eq_append_getElem hlt)
      have HM : Hid (ts[k] ∈ ts) := Lib.hid (List.getElem_mem hlt)
      generalize ts[k] = t at c0 c1 c2 HT HM
      obtain ⟨s, ⟨a1, l1, e1⟩, ⟨a2, l2, e2⟩⟩ := t
      dsimp only at c0 c1 c2
      have d0 := (hb.cell (p := ⟨g, k * 3, none⟩) hg).trans c0
      have d1 := (hb.cell (p := ⟨g, k * 3 + 1, none⟩) hg).trans c1
      have d2 := (hb.cell (p := ⟨g, k * 3 + 2, none⟩) hg).trans c2
      have HB := Lib.hid hb
      clear hb c0 c1 c2 hr
      have hgr : g < wr.heap.size := World.block_lt_of_cell? _ _ d0
      by_cases q1 : 6 < l1
      · have e1 : decide ((6 : Int) < (l1 : Int)) = true := decide_eq_true (by omega)
        have e2 : (6 : Int) < (l1 : Int) := by omega
        have HV : Hid (greatB ts = true) := Lib.hid (List.any_eq_true.2 ⟨_, HM.out, by simp [q1]⟩)
        rw [HV.out]
        clear q1 HE HT HM HV
        go_wp2_with fail
        go_ret
        exact ⟨rfl, HB.out.alloc HB.out.size _⟩
      · have e1 : decide ((6 : Int) < (l1 : Int)) = false := decide_eq_false (by omega)
        have e2 : ¬ (6 : Int) < (l1 : Int) := by omega
        by_cases q2 : 6 < l2
        · have e3 : decide ((6 : Int) < (l2 : Int)) = true := decide_eq_true (by omega)
          have HV : Hid (greatB ts = true) := Lib.hid (List.any_eq_true.2 ⟨_, HM.out, by simp [q2]⟩)
          rw [HV.out]
          have e4 : (6 : Int) < (l2 : Int) := by omega
          clear q1 q2 HE HT HM HV
          go_wp2_with fail
          go_ret
          exact ⟨rfl, HB.out.alloc HB.out.size _⟩
        · have e3 : decide ((6 : Int) < (l2 : Int)) = false := decide_eq_false (by omega)
          have e4 : ¬ (6 : Int) < (l2 : Int) := by omega
          have HV : Hid (greatB (ts.take (k + 1)) = false) := Lib.hid (by
            have := HE.out
            unfold greatB at this ⊢
            rw [HT.out, List.any_append, this]
            simp [q1, q2])
          clear q1 q2 HE HT HM
          go_wp2_with fail
          go_roundw
          case rel => exact ⟨k + 1, by omega, by go_num, HV, HB.out.alloc HB.out.size _⟩
          case measure => simp [intOf]; omega
    · obtain rfl : k = ts.length := by omega
      have HB := Lib.hid hb
      clear hb hr
      go_wp2_with fail
      go_ret
      exact ⟨by have := HE.out; rw [List.take_length] at this; rw [this]; rfl, HB.out⟩
theorem Rats.one {W : World} {g : Nat} {ty : TypeId} {t : RawR} (h : W.heap[g]? = some (.cells #[.bool t.1, .slice t.2.1.1 t.2.1.2.1 t.2.1.2.2, .slice t.2.2.1 t.2.2.2.1 t.2.2.2.2] ty (0, 0))) : Rats W g [t] := by
  intro k x hk
  rcases k with _ | k
  · simp at hk; subst hk; simp [World.cell?, h]
  · simp at hk
theorem Rats.two {W : World} {g : Nat} {ty : TypeId} {t u : RawR} (h : W.heap[g]? = some (.cells #[.bool t.1, .slice t.2.1.1 t.2.1.2.1 t.2.1.2.2, .slice t.2.2.1 t.2.2.2.1 t.2.2.2.2, .bool u.1, .slice u.2.1.1 u.2.1.2.1 u.2.1.2.2, .slice u.2.2.1 u.2.2.2.1 u.2.2.2.2] ty (0, 0))) : Rats W g [t, u] := by
  intro k x hk
  rcases k with _ | _ | k
  · simp at hk; subst hk; simp [World.cell?, h]
  · simp at hk; subst hk; simp [World.cell?, h]
  · simp at hk
end Go.Proofs.YthnklohpmcebkaaGreatDoor

set_option linter.unusedVariables false
set_option linter.unusedSimpArgs false
namespace Go.Proofs.YthnklohpmcebkaaGreatDoor
open Go.RowKit Rep
structure HandR (w : World) (a1 : Option Addr) (c1 : Nat) (xs : List Nat) (a2 : Option Addr) (c2 : Nat) (ds : List Nat) : Prop where
  num : Handed w a1 c1 xs
  den : Handed w a2 c2 ds
theorem HandR.kept {w w' : World} {a1 : Option Addr} {c1 : Nat} {xs : List Nat} {a2 : Option Addr} {c2 : Nat} {ds : List Nat} (h : HandR w a1 c1 xs a2 c2 ds) (hb : Below w.heap.size w w') : HandR w' a1 c1 xs a2 c2 ds := ⟨h.num.kept hb, h.den.kept hb⟩
theorem great_two {s t : Bool} {a1 a2 b1 b2 : Option Addr} {c1 c2 e1 e2 l1 l2 k1 k2 : Nat} (h : greatB [(s, (a1, l1, c1), (a2, l2, c2)), (t, (b1, k1, e1), (b2, k2, e2))] = false) : l1 ≤ 6 ∧ l2 ≤ 6 ∧ k1 ≤ 6 ∧ k2 ≤ 6 := by
  simp [greatB] at h
  omega
theorem RightR_any' {w : World} {s : Bool} {a1 a2 : Option Addr} {c1 c2 : Nat} {xs ds : List Nat} (h : HandR w a1 c1 xs a2 c2 ds) (lx : xs.length ≤ 6) (ld : ds.length ≤ 6) :
    Calls Tryz.prog 6 #[.agg #[.bool s, .slice a1 xs.length c1, .slice a2 ds.length c2]] w (GivesB (rightB s xs ds) w) :=
  RightR_any (h.num.inn (by omega)) (h.den.inn (by omega)) (by omega) (by omega)
end Go.Proofs.YthnklohpmcebkaaGreatDoor

set_option linter.unusedVariables false
set_option linter.unusedSimpArgs false
namespace Go.Proofs.YthnklohpmcebkaaGreatDoor
open Go.RowKit Rep
structure VQ (q : Rat) (v : RawR) (W : World) : Prop where
  e0 : v.1 = ngQ q
  e1 : v.2.1.2.1 = (L (mgQ q)).length
  e2 : v.2.2.2.1 = (L (denN q.den)).length
  lies : AtQ W v.2.1.1 v.2.1.2.2 v.2.2.1 v.2.2.2.2 q
theorem VQ.kept {q : Rat} {v : RawR} {W W' : World} (h : VQ q v W) (hb : Below W.heap.size W W') : VQ q v W' := ⟨h.e0, h.e1, h.e2, h.lies.kept hb⟩
theorem VQ.set3 {q : Rat} {v : RawR} {W : World} {g : Nat} (h : VQ q v W) (hb : Blank W g) (s : Bool) (v1 v2 : Value) : VQ q v (Go.Proofs.YthnklohpmcebkaaGreatDoor.set3 W g s v1 v2) := ⟨h.e0, h.e1, h.e2, h.lies.set3 hb.rat _ _ _⟩
structure T1 (w W0 : World) (b m : Nat) (q : Rat) (x : RawR) (W : World) : Prop where
  vx : VQ (outQ m q) x W
  bench : Bench W b m (ovQ m q)
  below : Below W0.heap.size W0 W
  eb : b = W0.heap.size
structure T2 (w W0 : World) (b m : Nat) (q : Rat) (x y : RawR) (W : World) : Prop where
  vx : VQ (outQ m q) x W
  vy : VQ q y W
  bench : Bench W b m (ovQ m q)
  below : Below W0.heap.size W0 W
  eb : b = W0.heap.size
section
variable {w W0 W : World} {b m : Nat} {q : Rat} {x y : RawR}
theorem T1.kept {W' : World} (h : T1 w W0 b m q x W) (hb : Below W.heap.size W W') : T1 w W0 b m q x W' := ⟨h.vx.kept hb, h.bench.kept hb, h.below.trans (hb.mono h.below.size), h.eb⟩
theorem T2.kept {W' : World} (h : T2 w W0 b m q x y W) (hb : Below W.heap.size W W') : T2 w W0 b m q x y W' := ⟨h.vx.kept hb, h.vy.kept hb, h.bench.kept hb, h.below.trans (hb.mono h.below.size), h.eb⟩
theorem T2.alloc (h : T2 w W0 b m q x y W) (o : Obj) : T2 w W0 b m q x y (W.alloc o) := h.kept ((Below.refl _ _).alloc (Nat.le_refl _) _)
theorem T2.set3 {g : Nat} (h : T2 w W0 b m q x y W) (hb : Blank W g) (hg : W0.heap.size < g) (s : Bool) (v1 v2 : Value) : T2 w W0 b m q x y (Go.Proofs.YthnklohpmcebkaaGreatDoor.set3 W g s v1 v2) :=
  ⟨h.vx.set3 hb _ _ _, h.vy.set3 hb _ _ _, h.bench.set3 (by have := h.eb; omega) _ _ _, set3_below h.below (by omega), h.eb⟩
def LiesR (v : RawR) (g : Nat) (W : World) : Prop := W.heap[g]? = some (.cells #[.bool v.1, .slice v.2.1.1 v.2.1.2.1 v.2.1.2.2, .slice v.2.2.1 v.2.2.2.1 v.2.2.2.2] 27 (0, 0))
theorem LiesR.kept {v : RawR} {g : Nat} {W W' : World} (h : LiesR v g W) (hb : Below W.heap.size W W') : LiesR v g W' := (hb.block _ (Array.getElem?_eq_some_iff.1 h).1).trans h
theorem LiesR.new (v : RawR) (W : World) : LiesR v W.heap.size (W.alloc (.cells #[.bool v.1, .slice v.2.1.1 v.2.1.2.1 v.2.1.2.2, .slice v.2.2.1 v.2.2.2.1 v.2.2.2.2] 27)) := heap_alloc_new W _
theorem LiesR.alloc {v : RawR} {g : Nat} {W : World} (h : LiesR v g W) (o : Obj) : LiesR v g (W.alloc o) := h.kept ((Below.refl _ _).alloc (Nat.le_refl _) _)
theorem LiesR.put {g : Nat} {W : World} (h : Blank W g) (v : RawR) : LiesR v g (set3 W g v.1 (.slice v.2.1.1 v.2.1.2.1 v.2.1.2.2) (.slice v.2.2.1 v.2.2.2.1 v.2.2.2.2)) := by
  unfold Blank at h
  simp [LiesR, set3, World.setCell, Array.getElem?_modify, h]
theorem LiesR.past {v : RawR} {g k : Nat} {W : World} (h : LiesR v g W) (hne : g ≠ k) (s : Bool) (v1 v2 : Value) : LiesR v g (set3 W k s v1 v2) :=
  ((set3_grown W k s v1 v2).block _ (Array.getElem?_eq_some_iff.1 h).1 (by simpa using hne)).trans h
theorem Blank.past {g k : Nat} {W : World} (h : Blank W g) (hne : g ≠ k) (s : Bool) (v1 v2 : Value) : Blank (set3 W k s v1 v2) g :=
  ((set3_grown W k s v1 v2).block _ (Array.getElem?_eq_some_iff.1 h).1 (by simpa using hne)).trans h
structure ToldAt (w W0 : World) (b m : Nat) (q : Rat) (i : Nat × Nat × RawR × RawR) (W : World) : Prop where
  x : LiesR i.2.2.1 i.1 W
  y : LiesR i.2.2.2 i.2.1 W
  t : T2 w W0 b m q i.2.2.1 i.2.2.2 W
theorem T2.end2 {g k : Nat} (h : T2 w W0 b m q x y W) (hb : Blank W g) (hk : Blank W k) (hne : g ≠ k) (hg : W0.heap.size < g) (hg2 : W0.heap.size < k) :
    ToldAt w W0 b m q (g, k, x, y) (Go.Proofs.YthnklohpmcebkaaGreatDoor.set3 (Go.Proofs.YthnklohpmcebkaaGreatDoor.set3 W g x.1 (.slice x.2.1.1 x.2.1.2.1 x.2.1.2.2) (.slice x.2.2.1 x.2.2.2.1 x.2.2.2.2)) k y.1 (.slice y.2.1.1 y.2.1.2.1 y.2.1.2.2) (.slice y.2.2.1 y.2.2.2.1 y.2.2.2.2)) :=
  ⟨(LiesR.put hb x).past hne _ _ _, LiesR.put (hk.past (Ne.symm hne) _ _ _) y, (h.set3 hb hg _ _ _).set3 (hk.past (Ne.symm hne) _ _ _) hg2 _ _ _⟩
end
theorem T1.lt {w W0 W : World} {b m : Nat} {q : Rat} {x : RawR} (h : T1 w W0 b m q x W) : W0.heap.size < W.heap.size := by have := h.bench.lt; have := h.eb; omega
theorem T2.lt {w W0 W : World} {b m : Nat} {q : Rat} {x y : RawR} (h : T2 w W0 b m q x y W) : W0.heap.size < W.heap.size := by have := h.bench.lt; have := h.eb; omega
theorem OnlyEx.mk' {ι : Type} {A : ι → Act} {R : ι → World → Prop} {a : Act} {w : World} (h : ∃ i, a = A i ∧ R i w) : OnlyEx A R .normal a w := h
theorem Blank.ne {W : World} {g : Nat} (h : Blank W g) : g ≠ W.heap.size ∧ W.heap.size ≠ g ∧ g < W.heap.size := by
  have := (Array.getElem?_eq_some_iff.1 h).1
  omega
end Go.Proofs.YthnklohpmcebkaaGreatDoor

set_option linter.unusedVariables false
set_option linter.unusedSimpArgs false
namespace Go.Proofs.YthnklohpmcebkaaGreatDoor
open Go.RowKit Rep
theorem L_pos_len {n : Nat} : (L n).length ≤ (L (denN n)).length + 1 := by
  unfold denN
  by_cases h : n = 1
  · rw [if_pos h, h]
    have : (L 1).length ≤ 1 := by rw [L_len]; omega
    omega
  · rw [if_neg h]; omega
theorem denN_le (n : Nat) : denN n ≤ n := by unfold denN; split <;> omega
theorem szQ_mk (s : Bool) (n : Nat) {d k : Nat} (hd : 0 < d) (h1 : (L n).length ≤ k) (h2 : (L d).length ≤ k) : szQ (mkQ s n d) ≤ k := by
  unfold szQ
  rw [mkQ_mg s n hd, mkQ_den s n hd]
  have e1 := L_le h1 (Nat.div_le_self n (Nat.gcd n d))
  have e2 := L_le h2 (Nat.le_trans (denN_le _) (Nat.div_le_self d (Nat.gcd n d)))
  omega
theorem szQ_parts (x : Rat) : (L (mgQ x)).length ≤ szQ x ∧ (L x.den).length ≤ szQ x + 1 := by
  have h := @L_pos_len x.den
  unfold szQ
  omega
theorem sumN_le (s : Bool) (a : Nat) (t : Bool) (b : Nat) : sumN s a t b ≤ a + b := by unfold sumN; split <;> (try split) <;> omega
theorem szQ_add (x y : Rat) : szQ (x + y) ≤ szQ x + szQ y + 3 := by
  obtain ⟨x1, x2⟩ := szQ_parts x
  obtain ⟨y1, y2⟩ := szQ_parts y
  rw [sum_q]
  refine szQ_mk _ _ (Nat.mul_pos (den_pos x) (den_pos y)) ?_ ?_
  · have h1 := L_mul x1 y2
    have h2 := L_mul y1 x2
    have h3 := L_le (L_add h1 h2) (sumN_le (ngQ x) (mgQ x * y.den) (ngQ y) (mgQ y * x.den))
    omega
  · have := L_mul x2 y2; omega
theorem szQ_neg (x : Rat) : szQ (-x) = szQ x := by unfold szQ; rw [neg_mg, neg_den]
theorem szQ_sub (x y : Rat) : szQ (x - y) ≤ szQ x + szQ y + 3 := by
  rw [Rat.sub_eq_add_neg]; have := szQ_add x (-y); rw [szQ_neg] at this; exact this
theorem ov_fits {m : Nat} {q : Rat} (h : szQ q ≤ m) : ovQ m q = false ∧ outQ m q = q := by
  have ho : ovQ m q = false := by unfold szQ at h; simp [ovQ, rO]; omega
  exact ⟨ho, by unfold outQ; rw [ho]; rfl⟩
theorem grownBy_trans' {W0 W1 W2 : World} {r : Option Nat} (h : W0.grownBy W1 r) (k : W1.grownBy W2 r) : W0.grownBy W2 r :=
  ⟨k.os.trans h.os, k.tape.trans h.tape, k.output.trans h.output, Nat.le_trans h.size k.size, fun i hi hne => (k.block i (Nat.lt_of_lt_of_le hi h.size) hne).trans (h.block i hi hne)⟩
abbrev QV := RawR × Rat
structure OkQ (W : World) (t : QV) : Prop where
  sg : t.1.1 = ngQ t.2
  l1 : t.1.2.1.2.1 = (L (mgQ t.2)).length
  l2 : t.1.2.2.2.1 = (L (denN t.2.den)).length
  at' : AtQ W t.1.2.1.1 t.1.2.1.2.2 t.1.2.2.1 t.1.2.2.2.2 t.2
  sz : szQ t.2 ≤ 1000
theorem OkQ.kept {W W' : World} {t : QV} (h : OkQ W t) (hb : Below W.heap.size W W') : OkQ W' t := ⟨h.sg, h.l1, h.l2, h.at'.kept hb, h.sz⟩
theorem OkQ.bench {W W' : World} {b m : Nat} {o : Bool} {t : QV} (h : OkQ W t) (hb : Bench W b m o) (hg : W.grownBy W' (some b)) : OkQ W' t := ⟨h.sg, h.l1, h.l2, h.at'.bench hb hg, h.sz⟩
structure StQ (b m pb : Nat) (base W0 W : World) (l : List QV) : Prop where
  g0 : W0.grownBy W (some b)
  bench : Bench W b m false
  below : Below base.heap.size base W
  ge : base.heap.size ≤ b
  tab : Tab W
  cell : W.cell? ⟨pb, 0, none⟩ = some (.pointer (some ⟨b, 0, none⟩))
  pne : pb ≠ b
  vals : ∀ t ∈ l, OkQ W t
theorem StQ.grown {b m pb : Nat} {base W0 W W' : World} {l : List QV} (h : StQ b m pb base W0 W l) (hb : Bench W' b m false) (hg : W.grownBy W' (some b)) : StQ b m pb base W0 W' l :=
  ⟨grownBy_trans' h.g0 hg, hb, h.below.grown hg h.below.size (fun k hk => by cases hk; exact h.ge), h.ge, h.tab.bench h.bench hg, hg.cell h.cell (by simpa using h.pne), h.pne, fun t ht => (h.vals t ht).bench h.bench hg⟩
theorem StQ.kept {b m pb : Nat} {base W0 W W' : World} {l : List QV} (h : StQ b m pb base W0 W l) (hb : Below W.heap.size W W') : StQ b m pb base W0 W' l :=
  ⟨grownBy_trans' h.g0 (grown_of_below hb _), h.bench.kept hb, h.below.trans (hb.mono h.below.size), h.ge, h.tab.kept hb, (hb.cell (p := ⟨pb, 0, none⟩) (World.block_lt_of_cell? _ _ h.cell)).trans h.cell, h.pne, fun t ht => (h.vals t ht).kept hb⟩
theorem StQ.cons {b m pb : Nat} {base W0 W : World} {l : List QV} (h : StQ b m pb base W0 W l) {t : QV} (ht : OkQ W t) : StQ b m pb base W0 W (t :: l) :=
  ⟨h.g0, h.bench, h.below, h.ge, h.tab, h.cell, h.pne, fun u hu => by
    rcases List.mem_cons.1 hu with rfl | hu
    · exact ht
    · exact h.vals u hu⟩
def GoesQ (b m pb : Nat) (base W0 W : World) (l : List QV) (q : Rat) (e : Ending) (W' : World) : Prop :=
  ∃ s a1 l1 c1 a2 l2 c2, e = .returned (.agg #[.bool s, .slice a1 l1 c1, .slice a2 l2 c2]) ∧ Hid (StQ b m pb base W0 W' (((s, (a1, l1, c1), (a2, l2, c2)), q) :: l) )
theorem GivesQ.goes {b m pb : Nat} {base W0 W W' : World} {l : List QV} {q : Rat} {e : Ending} (hg : GivesQ b m q W e W') (h : StQ b m pb base W0 W l) (h1 : szQ q ≤ m) (h2 : szQ q ≤ 1000) : GoesQ b m pb base W0 W l q e W' := by
  obtain ⟨a1, c1, a2, c2, rfl, f1, f2, f3⟩ := hg
  obtain ⟨o1, o2⟩ := ov_fits h1
  rw [o2] at f1 ⊢
  rw [o1] at f2
  exact ⟨_, _, _, _, _, _, _, rfl, Lib.hid ((h.grown f2 f3).cons ⟨rfl, rfl, rfl, f1, h2⟩)⟩
section
variable {b m pb : Nat} {base W0 W : World} {l : List QV} {s t : Bool} {a1 a2 b1 b2 : Option Addr} {l1 c1 l2 c2 k1 e1 k2 e2 : Nat} {x y : Rat}
theorem StQ.ok (h : StQ b m pb base W0 W l) (hx : ((s, (a1, l1, c1), (a2, l2, c2)), x) ∈ l) : RatX W s a1 l1 c1 a2 l2 c2 (mgQ x) x.den (denN x.den) x ∧ (.agg #[.bool s, .slice a1 l1 c1, .slice a2 l2 c2] : Value) = qV x a1 c1 a2 c2 ∧ AtQ W a1 c1 a2 c2 x ∧ szQ x ≤ 1000 := by
  obtain ⟨h1, h2, h3, h4, h5⟩ := h.vals _ hx
  dsimp only at h1 h2 h3 h4 h5
  subst h1 h2 h3
  exact ⟨h4.x (by omega), rfl, h4, h5⟩
theorem StQ.add (h : StQ b m pb base W0 W l) (hx : ((s, (a1, l1, c1), (a2, l2, c2)), x) ∈ l) (hy : ((t, (b1, k1, e1), (b2, k2, e2)), y) ∈ l) {q : Rat} (hq : x + y = q) (g1 : szQ q ≤ m) (g2 : szQ q ≤ 1000) :
    Calls Tryz.prog 42 #[.pointer (some ⟨b, 0, none⟩), .agg #[.bool s, .slice a1 l1 c1, .slice a2 l2 c2], .agg #[.bool t, .slice b1 k1 e1, .slice b2 k2 e2]] W (GoesQ b m pb base W0 W l q) := by
  subst hq
  exact (Add_q h.bench h.tab (h.ok hx).1 (h.ok hy).1).mono fun e W' hg => hg.goes h g1 g2
theorem StQ.mul (h : StQ b m pb base W0 W l) (hx : ((s, (a1, l1, c1), (a2, l2, c2)), x) ∈ l) (hy : ((t, (b1, k1, e1), (b2, k2, e2)), y) ∈ l) {q : Rat} (hq : x * y = q) (g1 : szQ q ≤ m) (g2 : szQ q ≤ 1000) :
    Calls Tryz.prog 44 #[.pointer (some ⟨b, 0, none⟩), .agg #[.bool s, .slice a1 l1 c1, .slice a2 l2 c2], .agg #[.bool t, .slice b1 k1 e1, .slice b2 k2 e2]] W (GoesQ b m pb base W0 W l q) := by
  subst hq
  exact (Mul_q h.bench h.tab (h.ok hx).1 (h.ok hy).1).mono fun e W' hg => hg.goes h g1 g2
theorem StQ.div (h : StQ b m pb base W0 W l) (hx : ((s, (a1, l1, c1), (a2, l2, c2)), x) ∈ l) (hy : ((t, (b1, k1, e1), (b2, k2, e2)), y) ∈ l) {q : Rat} (hq : x / y = q) (g1 : szQ q ≤ m) (g2 : szQ q ≤ 1000) :
    Calls Tryz.prog 45 #[.pointer (some ⟨b, 0, none⟩), .agg #[.bool s, .slice a1 l1 c1, .slice a2 l2 c2], .agg #[.bool t, .slice b1 k1 e1, .slice b2 k2 e2]] W (GoesQ b m pb base W0 W l q) := by
  subst hq
  exact (Div_q h.bench h.tab (h.ok hx).1 (h.ok hy).1).mono fun e W' hg => hg.goes h g1 g2
theorem StQ.cmp (h : StQ b m pb base W0 W l) (hx : ((s, (a1, l1, c1), (a2, l2, c2)), x) ∈ l) (hy : ((t, (b1, k1, e1), (b2, k2, e2)), y) ∈ l) {r : Int} (hr : cmpQ x y = r) :
    Calls Tryz.prog 95 #[.agg #[.bool s, .slice a1 l1 c1, .slice a2 l2 c2], .agg #[.bool t, .slice b1 k1 e1, .slice b2 k2 e2]] W fun e W' => e = .returned (.int .i64 r) ∧ Hid (StQ b m pb base W0 W' l) := by
  subst hr
  exact (CmpP_q (h.ok hx).1 (h.ok hy).1).mono fun e W' hg => ⟨hg.1, Lib.hid (h.kept hg.2)⟩
theorem StQ.same (h : StQ b m pb base W0 W l) (hx : ((s, (a1, l1, c1), (a2, l2, c2)), x) ∈ l) (hy : ((t, (b1, k1, e1), (b2, k2, e2)), y) ∈ l) (hxy : x = y) :
    Calls Tryz.prog 12 #[.agg #[.bool s, .slice a1 l1 c1, .slice a2 l2 c2], .agg #[.bool t, .slice b1 k1 e1, .slice b2 k2 e2]] W fun e W' => e = .returned (.bool true) ∧ Hid (StQ b m pb base W0 W' l) := by
  subst hxy
  obtain ⟨_, v1, f1, g1⟩ := h.ok hx
  obtain ⟨_, v2, f2, g2⟩ := h.ok hy
  rw [v1, v2]
  unfold szQ at g1
  refine (SameR_any (ngQ x) (ngQ x) a1 a2 b1 b2 c1 c2 e1 e2 (L (mgQ x)) (L (denN x.den)) (L (mgQ x)) (L (denN x.den)) W f1.num.1 f1.den.1 f2.num.1 f2.den.1 (by omega) (by omega)).mono ?_
  rintro e W' ⟨rfl, hb⟩
  exact ⟨by simp, Lib.hid (h.kept hb)⟩
theorem StQ.over (h : StQ b m pb base W0 W l) : Calls Tryz.prog 25 #[.pointer (some ⟨b, 0, none⟩)] W fun e W' => e = .returned (.bool false) ∧ Hid (StQ b m pb base W0 W' l) :=
  (over_any W b m false h.bench).mono fun e W' hg => ⟨hg.1, by rw [← hg.2]; exact Lib.hid h⟩
end
theorem okq_of_right {W : World} {s : Bool} {a1 a2 : Option Addr} {c1 c2 : Nat} {xs ds : List Nat} (h : HandR W a1 c1 xs a2 c2 ds) (hr : rightB s xs ds = true) (lx : xs.length ≤ 6) (ld : ds.length ≤ 6) :
    ∃ q, OkQ W ((s, (a1, xs.length, c1), (a2, ds.length, c2)), q) ∧ szQ q ≤ 6 := by
  obtain ⟨h1, h2, h3⟩ := of_decide_eq_true hr
  generalize qOf s xs ds = q at *
  have e1 : xs.length = (L (mgQ q)).length := congrArg List.length h2
  have e2 : ds.length = (L (denN q.den)).length := congrArg List.length h3
  have hs : szQ q ≤ 6 := by unfold szQ; omega
  refine ⟨q, ⟨h1, e1, e2, ⟨⟨?_, ?_, h.num.cap⟩, ⟨?_, ?_, h.den.cap⟩⟩, by show szQ q ≤ 1000; omega⟩, hs⟩
  · rw [← h2]; exact h.num.reads
  · rw [← h2]; exact h.num.le
  · rw [← h3]; exact h.den.reads
  · rw [← h3]; exact h.den.le
end Go.Proofs.YthnklohpmcebkaaGreatDoor

set_option linter.unusedVariables false
set_option linter.unusedSimpArgs false
namespace Go.Proofs.YthnklohpmcebkaaGreatDoor
open Go.RowKit Rep
structure VD (q : Rat) (v : RawR) (W : World) : Prop where
  e0 : v.1 = ngQ q
  e1 : v.2.1.2.1 = (D (mgQ q)).length
  e2 : v.2.2.2.1 = (D q.den).length
  lies : DgQ W v.2.1.1 v.2.1.2.2 v.2.2.1 v.2.2.2.2 q
def BlankD (W : World) (r : Nat) : Prop := W.heap[r]? = some (.cells #[.bool false, .slice none 0 0, .slice none 0 0] 58 (0, 0))
theorem BlankD.kept {W W' : World} {r : Nat} (h : BlankD W r) (hb : Below W.heap.size W W') : BlankD W' r := (hb.block r (Array.getElem?_eq_some_iff.1 h).1).trans h
theorem BlankD.cells {W : World} {r : Nat} (h : BlankD W r) : W.cell? ⟨r, 0, none⟩ = some (.bool false) ∧ W.cell? ⟨r, 1, none⟩ = some (.slice none 0 0) ∧ W.cell? ⟨r, 2, none⟩ = some (.slice none 0 0) ∧ W.frozen? ⟨r, 0, none⟩ = false ∧ W.frozen? ⟨r, 1, none⟩ = false ∧ W.frozen? ⟨r, 2, none⟩ = false := cells3 h
theorem BlankD.ne {W : World} {g : Nat} (h : BlankD W g) : g ≠ W.heap.size ∧ W.heap.size ≠ g ∧ g < W.heap.size := by
  have := (Array.getElem?_eq_some_iff.1 h).1
  omega
theorem BlankD.past {g k : Nat} {W : World} (h : BlankD W g) (hne : g ≠ k) (s : Bool) (v1 v2 : Value) : BlankD (set3 W k s v1 v2) g :=
  ((set3_grown W k s v1 v2).block _ (Array.getElem?_eq_some_iff.1 h).1 (by simpa using hne)).trans h
theorem VD.kept {q : Rat} {v : RawR} {W W' : World} (h : VD q v W) (hb : Below W.heap.size W W') : VD q v W' := ⟨h.e0, h.e1, h.e2, h.lies.kept hb⟩
theorem VD.set3 {q : Rat} {v : RawR} {W : World} {g : Nat} (h : VD q v W) (hb : BlankD W g) (s : Bool) (v1 v2 : Value) : VD q v (Go.Proofs.YthnklohpmcebkaaGreatDoor.set3 W g s v1 v2) := ⟨h.e0, h.e1, h.e2, h.lies.num.set3 hb _ _ _, h.lies.den.set3 hb _ _ _⟩
structure D1 (W0 : World) (q : Rat) (x : RawR) (W : World) : Prop where
  vx : VD q x W
  below : Below W0.heap.size W0 W
structure D2 (W0 : World) (q r : Rat) (x y : RawR) (W : World) : Prop where
  vx : VD q x W
  vy : VD r y W
  below : Below W0.heap.size W0 W
section
variable {W0 W : World} {q r : Rat} {x y : RawR}
theorem D1.kept {W' : World} (h : D1 W0 q x W) (hb : Below W.heap.size W W') : D1 W0 q x W' := ⟨h.vx.kept hb, h.below.trans (hb.mono h.below.size)⟩
theorem D2.kept {W' : World} (h : D2 W0 q r x y W) (hb : Below W.heap.size W W') : D2 W0 q r x y W' := ⟨h.vx.kept hb, h.vy.kept hb, h.below.trans (hb.mono h.below.size)⟩
theorem D2.alloc (h : D2 W0 q r x y W) (o : Obj) : D2 W0 q r x y (W.alloc o) := h.kept ((Below.refl _ _).alloc (Nat.le_refl _) _)
theorem D2.set3 {g : Nat} (h : D2 W0 q r x y W) (hb : BlankD W g) (hg : W0.heap.size ≤ g) (s : Bool) (v1 v2 : Value) : D2 W0 q r x y (Go.Proofs.YthnklohpmcebkaaGreatDoor.set3 W g s v1 v2) :=
  ⟨h.vx.set3 hb _ _ _, h.vy.set3 hb _ _ _, set3_below h.below hg⟩
def LiesD (v : RawR) (g : Nat) (W : World) : Prop := W.heap[g]? = some (.cells #[.bool v.1, .slice v.2.1.1 v.2.1.2.1 v.2.1.2.2, .slice v.2.2.1 v.2.2.2.1 v.2.2.2.2] 58 (0, 0))
theorem LiesD.kept {v : RawR} {g : Nat} {W W' : World} (h : LiesD v g W) (hb : Below W.heap.size W W') : LiesD v g W' := (hb.block _ (Array.getElem?_eq_some_iff.1 h).1).trans h
theorem LiesD.new (v : RawR) (W : World) : LiesD v W.heap.size (W.alloc (.cells #[.bool v.1, .slice v.2.1.1 v.2.1.2.1 v.2.1.2.2, .slice v.2.2.1 v.2.2.2.1 v.2.2.2.2] 58)) := heap_alloc_new W _
theorem LiesD.alloc {v : RawR} {g : Nat} {W : World} (h : LiesD v g W) (o : Obj) : LiesD v g (W.alloc o) := h.kept ((Below.refl _ _).alloc (Nat.le_refl _) _)
theorem LiesD.put {g : Nat} {W : World} (h : BlankD W g) (v : RawR) : LiesD v g (set3 W g v.1 (.slice v.2.1.1 v.2.1.2.1 v.2.1.2.2) (.slice v.2.2.1 v.2.2.2.1 v.2.2.2.2)) := by
  unfold BlankD at h
  simp [LiesD, Go.Proofs.YthnklohpmcebkaaGreatDoor.set3, World.setCell, Array.getElem?_modify, h]
theorem LiesD.past {v : RawR} {g k : Nat} {W : World} (h : LiesD v g W) (hne : g ≠ k) (s : Bool) (v1 v2 : Value) : LiesD v g (set3 W k s v1 v2) :=
  ((set3_grown W k s v1 v2).block _ (Array.getElem?_eq_some_iff.1 h).1 (by simpa using hne)).trans h
structure PairAt (W0 : World) (q r : Rat) (i : Nat × Nat × RawR × RawR) (W : World) : Prop where
  x : LiesD i.2.2.1 i.1 W
  y : LiesD i.2.2.2 i.2.1 W
  t : D2 W0 q r i.2.2.1 i.2.2.2 W
theorem D2.end2 {g k : Nat} (h : D2 W0 q r x y W) (hb : BlankD W g) (hk : BlankD W k) (hne : g ≠ k) (hg : W0.heap.size ≤ g) (hg2 : W0.heap.size ≤ k) :
    PairAt W0 q r (g, k, x, y) (Go.Proofs.YthnklohpmcebkaaGreatDoor.set3 (Go.Proofs.YthnklohpmcebkaaGreatDoor.set3 W g x.1 (.slice x.2.1.1 x.2.1.2.1 x.2.1.2.2) (.slice x.2.2.1 x.2.2.2.1 x.2.2.2.2)) k y.1 (.slice y.2.1.1 y.2.1.2.1 y.2.1.2.2) (.slice y.2.2.1 y.2.2.2.1 y.2.2.2.2)) :=
  ⟨(LiesD.put hb x).past hne _ _ _, LiesD.put (hk.past (Ne.symm hne) _ _ _) y, (h.set3 hb hg _ _ _).set3 (hk.past (Ne.symm hne) _ _ _) hg2 _ _ _⟩
end
def GotD (W5 : World) (q : Rat) (e : Ending) (W' : World) : Prop :=
  ∃ s z1 m1 k1 z2 m2 k2, e = .returned (.agg #[.bool s, .slice z1 m1 k1, .slice z2 m2 k2]) ∧ Hid (Below W5.heap.size W5 W') ∧ Hid (VD q (s, (z1, m1, k1), (z2, m2, k2)) W')
theorem GivesDQ.got {W5 W W' : World} {q : Rat} {e : Ending} (h : GivesDQ q W e W') (hb : Below W5.heap.size W5 W) : GotD W5 q e W' := by
  obtain ⟨a1, c1, a2, c2, rfl, hd, hb2⟩ := h
  exact ⟨_, a1, _, c1, a2, _, c2, rfl, Lib.hid (hb.trans (hb2.mono hb.size)), Lib.hid ⟨rfl, rfl, rfl, hd⟩⟩
def GotQ (W5 : World) (q : Rat) (e : Ending) (W' : World) : Prop :=
  ∃ s z1 m1 k1 z2 m2 k2, e = .returned (.agg #[.bool s, .slice z1 m1 k1, .slice z2 m2 k2]) ∧ Hid (Below W5.heap.size W5 W') ∧ Hid (VQ q (s, (z1, m1, k1), (z2, m2, k2)) W')
theorem NewQ.got {W5 W W' : World} {q : Rat} {e : Ending} (h : NewQ q W e W') (hb : Below W5.heap.size W5 W) : GotQ W5 q e W' := by
  obtain ⟨a1, c1, a2, c2, rfl, hd, hb2⟩ := h
  exact ⟨_, a1, _, c1, a2, _, c2, rfl, Lib.hid (hb.trans (hb2.mono hb.size)), Lib.hid ⟨rfl, rfl, rfl, hd⟩⟩
section
variable {W5 W : World} {q r : Rat} {s t : Bool} {z1 z2 y1 y2 : Option Addr} {m1 k1 m2 k2 n1 j1 n2 j2 : Nat}
end
end Go.Proofs.YthnklohpmcebkaaGreatDoor

set_option linter.unusedVariables false
set_option linter.unusedSimpArgs false
namespace Go.Proofs.YthnklohpmcebkaaGreatDoor
open Go.RowKit Rep
theorem top_L {xs : List Nat} (hx : Lim xs) (h : topB xs = true) : L (V xs) = xs := by
  refine rep_val (by omega) hx ?_
  unfold Top
  unfold topB at h
  rw [List.getLast?_eq_getElem?]
  rcases Nat.eq_zero_or_pos xs.length with h0 | h0
  · rw [List.length_eq_zero_iff.1 h0]; simp
  · rw [decide_eq_false (p := xs.length = 0) (by omega), Bool.false_or, decide_eq_true_eq] at h
    rw [List.getElem?_eq_getElem (by omega)]
    rw [List.getD_eq_getElem?_getD, List.getElem?_eq_getElem (by omega)] at h
    intro e
    exact h (by simpa using e)
theorem topB_L (n : Nat) : topB (L n) = true := by
  unfold topB
  rcases Nat.eq_zero_or_pos (L n).length with h0 | h0
  · rw [decide_eq_true h0]; rfl
  · have := top_limb (M := n) (by omega)
    rw [decide_eq_true (p := (L n).getD ((L n).length - 1) 0 ≠ 0) (by omega), Bool.or_true]
theorem rightB_iff {s : Bool} {xs ds : List Nat} (hx : Lim xs) (hd : Lim ds) : rightB s xs ds = true ↔ (topB xs = true ∧ topB ds = true ∧ ((xs.length = 0 ∧ s = false ∧ ds.length = 0) ∨ (xs.length ≠ 0 ∧ (ds.length = 0 ∨ (ds.length ≠ 0 ∧ V ds ≠ 1 ∧ Nat.gcd (V xs) (V ds) = 1))))) := by
  by_cases hq : topB xs = true ∧ topB ds = true
  · obtain ⟨h1, h2⟩ := hq
    have e1 := top_L hx h1
    have e2 := top_L hd h2
    generalize hn : V xs = n at *
    generalize hm : V ds = m at *
    subst e1 e2
    have z1 : (L n).length = 0 ↔ n = 0 := L_len_zero
    have z2 : (L m).length = 0 ↔ m = 0 := L_len_zero
    rw [z1, z2, Ne, z1, Ne, z2]
    have hD : 0 < (if m = 0 then 1 else m) := by split <;> omega
    have linj : ∀ {a b : Nat}, L a = L b ↔ a = b := fun {a b} => ⟨fun h => by rw [← V_L a, h, V_L], fun h => by rw [h]⟩
    unfold rightB qOf
    rw [hn, hm, decide_eq_true_eq, mkQ_ng _ _ hD, mkQ_mg _ _ hD, mkQ_den _ _ hD, linj, linj]
    by_cases hn0 : n = 0
    · subst hn0
      rw [Nat.gcd_zero_left, Nat.div_self hD, if_pos rfl]
      simp [denN, h1, h2]
    · rw [if_neg hn0]
      by_cases hm0 : m = 0
      · subst hm0
        simp [denN, hn0, h1, h2]
      · rw [if_neg hm0]
        have hg : 0 < Nat.gcd n m := Nat.gcd_pos_of_pos_left _ (by omega)
        have key : n = n / Nat.gcd n m ↔ Nat.gcd n m = 1 := by
          constructor
          · intro e
            rcases Nat.lt_or_ge 1 (Nat.gcd n m) with h | h
            · have := Nat.div_lt_self (n := n) (by omega) h
              omega
            · omega
          · intro e; rw [e, Nat.div_one]
        rw [key]
        constructor
        · rintro ⟨_, g1, g2⟩
          rw [g1, Nat.div_one] at g2
          refine ⟨h1, h2, .inr ⟨hn0, .inr ⟨hm0, ?_, g1⟩⟩⟩
          intro e
          subst e
          simp [denN] at g2
        · rintro ⟨_, _, ⟨h, _⟩ | ⟨_, h | ⟨_, h3, h4⟩⟩⟩
          · exact absurd h hn0
          · exact absurd h hm0
          · refine ⟨rfl, h4, ?_⟩
            rw [h4, Nat.div_one]
            simp [denN, h3]
  · constructor
    · intro h
      obtain ⟨_, h2, h3⟩ := of_decide_eq_true h
      exact absurd ⟨by rw [h2]; exact topB_L _, by rw [h3]; exact topB_L _⟩ hq
    · rintro ⟨h1, h2, _⟩
      exact absurd ⟨h1, h2⟩ hq
theorem eq_of_iff {a b : Bool} (h : a = true ↔ b = true) : a = b := Bool.eq_iff_iff.2 h
theorem NumIn.handed {w : World} {a : Option Addr} {c : Nat} {xs : List Nat} (h : NumIn w a c xs) : Handed w a c xs := ⟨h.lim, h.reads, h.le, h.cap⟩
set_option maxRecDepth 100000 in
set_option maxHeartbeats 8000000 in
theorem RightP_in {w : World} {s : Bool} {a1 a2 : Option Addr} {c1 c2 : Nat} {xs ds : List Nat} (h1 : NumIn w a1 c1 xs) (h2 : NumIn w a2 c2 ds) (hT : Tab w) (lx : xs.length ≤ 1000000) (ld : ds.length ≤ 1000000) :
    Calls Tryz.prog 37 #[.agg #[.bool s, .slice a1 xs.length c1, .slice a2 ds.length c2]] w (GivesB (rightB s xs ds) w) := by
  obtain ⟨W0, hW0⟩ : ∃ W0, W0 = w.alloc (.cells #[.bool s, .slice a1 xs.length c1, .slice a2 ds.length c2] 27) := ⟨_, rfl⟩
  have hB0 : Below w.heap.size w W0 := by rw [hW0]; exact (Below.refl _ _).alloc (Nat.le_refl _) _
  have HK := Lib.hid (keep3 (show W0.heap[w.heap.size]? = some (.cells #[.bool s, .slice a1 xs.length c1, .slice a2 ds.length c2] 27 (0, 0)) by rw [hW0]; exact heap_alloc_new w _))
  have HIFF := Lib.hid (rightB_iff (s := s) h1.lim h2.lim)
  have HR1 : Hid (∀ W, Below W0.heap.size W0 W → Calls Tryz.prog 62 #[.slice a1 xs.length c1] W (Gives (.bool (topB xs)) W)) := Lib.hid fun W hb => Right_any a1 c1 xs W ((h1.kept hB0).kept hb).handed
  have HR2 : Hid (∀ W, Below W0.heap.size W0 W → Calls Tryz.prog 62 #[.slice a2 ds.length c2] W (Gives (.bool (topB ds)) W)) := Lib.hid fun W hb => Right_any a2 c2 ds W ((h2.kept hB0).kept hb).handed
  have HNE : Hid (∀ W, Below W0.heap.size W0 W → NumE W a1 xs.length c1 (V xs) ∧ NumE W a2 ds.length c2 (V ds) ∧ Tab W) := Lib.hid fun W hb => ⟨.inn (((h1.kept hB0).kept hb)), .inn (((h2.kept hB0).kept hb)), (hT.kept hB0).kept hb⟩
  have HB0 := Lib.hid hB0
  have HW0 := Lib.hid hW0
  obtain ⟨p0, p1, p2, _⟩ := HK.out W0 (Below.refl _ _)
  clear h1 h2 hT hB0 hW0
  generalize topB xs = tx at *
  generalize topB ds = td at *
  go_enter Tryz.func37, Tryz.ntmps37
  go_wp2_with fail
  rw [← HW0.out]
  go_quiet (fail)
  have hbd : Below W0.heap.size W0 (W0.drewN nq) := Below.drewN' (Below.refl _ _) nq
  have HBD := Lib.hid hbd
  clear hbd
  obtain ⟨p0, p1, p2, _⟩ := HK.out _ HBD.out
  cases tx
  case false =>
    have HE : Hid (rightB s xs ds = false) := Lib.hid (by rw [Bool.eq_false_iff]; intro h; have := (HIFF.out.1 h).1; cases this)
    go_wp2_with fail
    refine (HR1.out _ HBD.out).mono ?_
    rintro e w1 ⟨rfl, rfl⟩
    go_wp2_with fail
    go_ret
    exact ⟨by rw [HE.out]; rfl, HB0.out.trans (HBD.out.mono HB0.out.size)⟩
  case true =>
  have HBW := Lib.hid (HB0.out.trans (HBD.out.mono HB0.out.size))
  generalize W0.drewN nq = W1 at *
  go_wp2_with fail
  refine (HR1.out _ HBD.out).mono ?_
  rintro e w1 ⟨rfl, rfl⟩
  cases td
  case false =>
    have HE : Hid (rightB s xs ds = false) := Lib.hid (by rw [Bool.eq_false_iff]; intro h; have := (HIFF.out.1 h).2.1; cases this)
    go_wp2_with fail
    refine (HR2.out _ HBD.out).mono ?_
    rintro e w1 ⟨rfl, rfl⟩
    go_wp2_with fail
    go_ret
    exact ⟨by rw [HE.out]; rfl, HBW.out⟩
  case true =>
  go_wp2_with fail
  refine (HR2.out _ HBD.out).mono ?_
  rintro e w1 ⟨rfl, rfl⟩
  rcases Nat.eq_zero_or_pos xs.length with h0 | h0
  · have hz : ((xs.length : Int) == 0) = true := by rw [h0]; rfl
    cases s
    case true =>
      have HE : Hid (rightB true xs ds = false) := Lib.hid (by
        rw [Bool.eq_false_iff]; intro h
        rcases (HIFF.out.1 h).2.2 with ⟨_, h2, _⟩ | ⟨h2, _⟩
        · cases h2
        · exact h2 h0)
      clear h0
      go_wp2_with fail
      go_ret
      exact ⟨by rw [HE.out]; rfl, HBW.out⟩
    case false =>
      have HE : Hid (rightB false xs ds = decide (ds.length = 0)) := Lib.hid (by
        refine eq_of_iff (HIFF.out.trans ?_)
        rw [decide_eq_true_eq]
        constructor
        · rintro ⟨_, _, ⟨_, _, h⟩ | ⟨h, _⟩⟩
          · exact h
          · exact absurd h0 h
        · intro h
          exact ⟨by trivial, by trivial, .inl ⟨h0, rfl, h⟩⟩)
      clear h0
      by_cases hd : ds.length = 0
      · have hz2 : ((ds.length : Int) == 0) = true := by rw [hd]; rfl
        rw [decide_eq_true hd] at HE
        clear hd
        go_wp2_with fail
        go_ret
        exact ⟨by rw [HE.out]; rfl, HBW.out⟩
      · have hz2 : ((ds.length : Int) == 0) = false := cast_beq_no hd
        rw [decide_eq_false hd] at HE
        clear hd
        go_wp2_with fail
        go_ret
        exact ⟨by rw [HE.out]; rfl, HBW.out⟩
  · have hz : ((xs.length : Int) == 0) = false := cast_beq_no (by omega)
    by_cases hd : ds.length = 0
    · have hz2 : ((ds.length : Int) == 0) = true := by rw [hd]; rfl
      have HE : Hid (rightB s xs ds = true) := Lib.hid (HIFF.out.2 ⟨by trivial, by trivial, .inr ⟨by omega, .inl hd⟩⟩)
      clear hd h0
      go_wp2_with fail
      go_ret
      exact ⟨by rw [HE.out]; rfl, HBW.out⟩
    · have hz2 : ((ds.length : Int) == 0) = false := cast_beq_no hd
      have HI := Lib.hid (isOne_any (HNE.out _ HBD.out).2.1)
      by_cases h1 : V ds = 1
      · have HE : Hid (rightB s xs ds = false) := Lib.hid (by
          rw [Bool.eq_false_iff]; intro h
          rcases (HIFF.out.1 h).2.2 with ⟨h2, _⟩ | ⟨_, h2 | ⟨_, h2, _⟩⟩
          · omega
          · exact hd h2
          · exact h2 h1)
        rw [decide_eq_true h1] at HI
        clear hd h0 h1
        go_wp2_with fail
        refine HI.out.mono ?_
        rintro e w2 ⟨rfl, hb2⟩
        have HE2 := Lib.hid (HBW.out.trans (hb2.mono HBW.out.size))
        clear hb2 HI
        go_wp2_with fail
        go_ret
        exact ⟨by rw [HE.out]; rfl, HE2.out⟩
      · have HE : Hid (rightB s xs ds = decide (Nat.gcd (V xs) (V ds) = 1)) := Lib.hid (by
          refine eq_of_iff (HIFF.out.trans ?_)
          rw [decide_eq_true_eq]
          constructor
          · rintro ⟨_, _, ⟨h, _⟩ | ⟨_, h | ⟨_, _, h⟩⟩⟩
            · omega
            · exact absurd h hd
            · exact h
          · intro h
            exact ⟨by trivial, by trivial, .inr ⟨by omega, .inr ⟨hd, h1, h⟩⟩⟩)
        rw [decide_eq_false h1] at HI
        clear hd h0 h1
        go_wp2_with fail
        refine HI.out.mono ?_
        rintro e w2 ⟨rfl, hb2⟩
        have hb12 := HBD.out.trans (hb2.mono HBD.out.size)
        obtain ⟨x1, x2, x3⟩ := HNE.out _ hb12
        have HC := Lib.hid (common_any x1 x2 x3 (by omega) (by omega))
        have HB2 := Lib.hid (HBW.out.trans (hb2.mono HBW.out.size))
        clear hb2 hb12 x1 x2 x3 HI
        go_wp2_with fail
        refine HC.out.mono ?_
        rintro e w3 ⟨a3, l3, c3, rfl, hn3, _, hb3⟩
        have HI3 := Lib.hid (isOne_any hn3)
        have HB3 := Lib.hid (HB2.out.trans (hb3.mono HB2.out.size))
        clear hn3 hb3 HC HB2
        go_wp2_with fail
        refine HI3.out.mono ?_
        rintro e w4 ⟨rfl, hb4⟩
        have HB4 := Lib.hid (HB3.out.trans (hb4.mono HB3.out.size))
        clear hb4
        go_wp2_with fail
        go_ret
        exact ⟨by rw [HE.out]; rfl, HB4.out⟩
theorem RightP_any {w : World} {s : Bool} {a1 a2 : Option Addr} {c1 c2 : Nat} {xs ds : List Nat} (h : HandR w a1 c1 xs a2 c2 ds) (hT : Tab w) (lx : xs.length ≤ 12) (ld : ds.length ≤ 12) :
    Calls Tryz.prog 37 #[.agg #[.bool s, .slice a1 xs.length c1, .slice a2 ds.length c2]] w (GivesB (rightB s xs ds) w) :=
  RightP_in (h.num.inn (by omega)) (h.den.inn (by omega)) hT (by omega) (by omega)
end Go.Proofs.YthnklohpmcebkaaGreatDoor

set_option linter.unusedVariables false
set_option linter.unusedSimpArgs false
namespace Go.Proofs.YthnklohpmcebkaaGreatDoor
open Go.RowKit Rep
theorem stay {W0 W : World} {r : Nat} {c : Array Value} {t : TypeId} (h : W0.heap[r]? = some (.cells c t (0, 0))) (hb : Below W0.heap.size W0 W) : W.heap[r]? = some (.cells c t (0, 0)) := (hb.block _ (Array.getElem?_eq_some_iff.1 h).1).trans h
def Six (W : World) (r : Nat) (ty : TypeId) : Prop := W.heap[r]? = some (.cells #[.bool false, .slice none 0 0, .slice none 0 0, .bool false, .slice none 0 0, .slice none 0 0] ty (0, 0))
end Go.Proofs.YthnklohpmcebkaaGreatDoor

set_option linter.unusedVariables false
set_option linter.unusedSimpArgs false
namespace Go.Proofs.YthnklohpmcebkaaGreatDoor
open Go.RowKit Rep
end Go.Proofs.YthnklohpmcebkaaGreatDoor

set_option linter.unusedVariables false
set_option linter.unusedSimpArgs false
namespace Go.Proofs.YthnklohpmcebkaaGreatDoor
open Go.RowKit Rep
theorem VQ.ratx {q : Rat} {s : Bool} {a b : Option Addr} {l c k e : Nat} {W : World} (h : VQ q (s, (a, l, c), (b, k, e)) W) (hs : szQ q ≤ 100) : RatX W s a l c b k e (mgQ q) q.den (denN q.den) q := by
  obtain ⟨h0, h1, h2, h3⟩ := h
  dsimp only at h0 h1 h2 h3
  subst h0 h1 h2
  exact h3.x (by omega)
section
variable {W5 W : World} {q r : Rat} {s t : Bool} {z1 z2 y1 y2 : Option Addr} {m1 k1 m2 k2 n1 j1 n2 j2 : Nat}
end
end Go.Proofs.YthnklohpmcebkaaGreatDoor

set_option linter.unusedVariables false
set_option linter.unusedSimpArgs false
namespace Go.Proofs.YthnklohpmcebkaaGreatDoor
structure PQ where
  a : Rat
  b : Rat
  e : Rat
  f : Rat
end Go.Proofs.YthnklohpmcebkaaGreatDoor

set_option linter.unusedVariables false
set_option linter.unusedSimpArgs false
namespace Go.Proofs.YthnklohpmcebkaaGreatDoor
open Go.RowKit Rep
end Go.Proofs.YthnklohpmcebkaaGreatDoor

set_option linter.unusedVariables false
set_option linter.unusedSimpArgs false
namespace Go.Proofs.YthnklohpmcebkaaGreatDoor
open Go.RowKit Rep
theorem Six.grown {W W' : World} {r b : Nat} {ty : TypeId} (h : Six W r ty) (hg : W.grownBy W' (some b)) (hne : r ≠ b) : Six W' r ty := (hg.block r (Array.getElem?_eq_some_iff.1 h).1 (by simpa using hne)).trans h
theorem VQ.bench {q : Rat} {v : RawR} {W W' : World} {b m : Nat} {o : Bool} (h : VQ q v W) (hb : Bench W b m o) (hg : W.grownBy W' (some b)) : VQ q v W' := ⟨h.e0, h.e1, h.e2, h.lies.bench hb hg⟩
structure S1 (W0 : World) (b m : Nat) (q : Rat) (o : Bool) (x : RawR) (W : World) : Prop where
  vx : VQ q x W
  bench : Bench W b m o
  grown : W0.grownBy W (some b)
structure S2 (W0 : World) (b m : Nat) (q r : Rat) (o : Bool) (x y : RawR) (W : World) : Prop where
  vx : VQ q x W
  vy : VQ r y W
  bench : Bench W b m o
  grown : W0.grownBy W (some b)
section
variable {W0 W : World} {b m : Nat} {q r : Rat} {o : Bool} {x y : RawR}
theorem S1.kept {W' : World} (h : S1 W0 b m q o x W) (hb : Below W.heap.size W W') : S1 W0 b m q o x W' := ⟨h.vx.kept hb, h.bench.kept hb, grownBy_trans' h.grown (grown_of_below hb _)⟩
theorem S2.kept {W' : World} (h : S2 W0 b m q r o x y W) (hb : Below W.heap.size W W') : S2 W0 b m q r o x y W' := ⟨h.vx.kept hb, h.vy.kept hb, h.bench.kept hb, grownBy_trans' h.grown (grown_of_below hb _)⟩
end
end Go.Proofs.YthnklohpmcebkaaGreatDoor

set_option linter.unusedVariables false
set_option linter.unusedSimpArgs false
namespace Go.Proofs.YthnklohpmcebkaaGreatDoor
open Go.RowKit Rep
theorem Bench.apartD {w : World} {b m : Nat} {over : Bool} (h : Bench w b m over) (hm : 10 ≤ m) {a : Option Addr} {n : Nat} (hr : Reads w a ((D n).map i64v)) :
    (D n).map i64v = [] ∨ ∀ g off, a = some ⟨g, off, none⟩ → some g ≠ some b := by
  rcases hr with hr | ⟨g, off, rfl, hr⟩
  · exact .inl hr
  · by_cases e : D n = []
    · exact .inl (by simp [e])
    · refine .inr fun g' off' hg hb => ?_
      simp at hg hb
      obtain ⟨rfl, rfl⟩ := hg
      subst hb
      have h0 := hr 0 _ (map_getElem? (xs := D n) (f := i64v) (List.length_pos_iff.2 e))
      have hd : (D n).getD 0 0 < 10 := Dig.getD (rep_dig (by omega) n) 0 (by omega)
      rw [List.getD_eq_getElem?_getD] at hd
      unfold Bench at h
      simp only [World.cell?, h] at h0
      rcases off with _ | _ | off
      · simp [i64v] at h0
        omega
      · simp [i64v] at h0
      · simp at h0
theorem VD.bench {q : Rat} {v : RawR} {W W' : World} {b m : Nat} {o : Bool} (h : VD q v W) (hb : Bench W b m o) (hm : 10 ≤ m) (hg : W.grownBy W' (some b)) : VD q v W' :=
  ⟨h.e0, h.e1, h.e2, ⟨⟨h.lies.num.1.grown hg (hb.apartD hm h.lies.num.1), h.lies.num.2⟩, ⟨h.lies.den.1.grown hg (hb.apartD hm h.lies.den.1), h.lies.den.2⟩⟩⟩
structure Room (b : Nat) (W5 W : World) : Prop where
  g : W5.grownBy W (some b)
  bench : Bench W b 1000 false
  tab : Tab W
section
variable {b : Nat} {W5 W W' : World}
theorem Room.refl (hb : Bench W b 1000 false) (hT : Tab W) : Room b W W := ⟨grown_refl _ _, hb, hT⟩
theorem Room.kept (h : Room b W5 W) (hb : Below W.heap.size W W') : Room b W5 W' := ⟨grownBy_trans' h.g (grown_of_below hb _), h.bench.kept hb, h.tab.kept hb⟩
theorem Room.trans (h : Room b W5 W) (k : Room b W W') : Room b W5 W' := ⟨grownBy_trans' h.g k.g, k.bench, k.tab⟩
theorem Room.vd (k : Room b W5 W) (hb : Bench W5 b 1000 false) {q : Rat} {v : RawR} (h : VD q v W5) : VD q v W := h.bench hb (by omega) k.g
theorem Room.block (k : Room b W5 W) {r : Nat} {o : Obj} (h : W5.heap[r]? = some o) (hne : r ≠ b) : W.heap[r]? = some o := (k.g.block _ (Array.getElem?_eq_some_iff.1 h).1 (by simpa using hne)).trans h
theorem Room.cell (k : Room b W5 W) {g i : Nat} {v : Value} (h : W5.cell? ⟨g, i, none⟩ = some v) (hne : g ≠ b) : W.cell? ⟨g, i, none⟩ = some v := by
  have hlt := World.block_lt_of_cell? _ _ h
  unfold World.cell? at h ⊢
  rw [k.g.block g hlt (by simpa using hne)]
  exact h
theorem Room.below (k : Room b W5 W) {B : Nat} {w : World} (h : Below B w W5) (hB : B ≤ b) (hs : w.heap.size ≤ B ∨ B ≤ w.heap.size) : B ≤ W5.heap.size → Below B w W := fun h5 => h.grown k.g h5 (fun j hj => by cases hj; exact hB)
end
section
variable {b : Nat} {W5 W : World} {q r : Rat} {s t : Bool} {z1 z2 y1 y2 : Option Addr} {m1 k1 m2 k2 n1 j1 n2 j2 : Nat}
end
end Go.Proofs.YthnklohpmcebkaaGreatDoor
