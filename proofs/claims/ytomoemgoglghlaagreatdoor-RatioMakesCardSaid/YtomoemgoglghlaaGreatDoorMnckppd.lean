/- By program out of: RatCmp, RatText, RatTerm, RefRight, RatLaw. -/
import Derived.Test.YtomoemgoglghlaaGreatDoorMflfaoc
import Derived.IntWalk
/-
  ratio.Cmp.
-/
set_option linter.unusedVariables false
set_option linter.unusedSimpArgs false
namespace Go.Proofs.YtomoemgoglghlaaGreatDoor
open Go.RowKit Rep

theorem wrap_small {a : Int} (h1 : -1 ≤ a) (h2 : a ≤ 1) : IntKind.i64.wrap a = a := by
  exact IntWalk.i64_in _ (by omega)
theorem RatX.sign_from {W0 : World} {s : Bool} {a1 : Option Addr} {l1 c1 : Nat} {a2 : Option Addr} {l2 c2 : Nat} {n d d0 : Nat} {q : Rat} (h : RatX W0 s a1 l1 c1 a2 l2 c2 n d d0 q) (W : World) (hb : Below W0.heap.size W0 W) :
    Calls Tryz.prog 29 #[ratV s (.slice a1 l1 c1) (.slice a2 l2 c2)] W (fun e W' => e = .returned (.int .i64 (cmpQ q 0)) ∧ Below W0.heap.size W0 W') :=
  (Sign_q (h.kept hb)).mono fun e W' hg => ⟨hg.1, hb.trans (hg.2.mono hb.size)⟩

set_option maxRecDepth 100000 in
set_option maxHeartbeats 8000000 in
theorem CmpP_q {w : World} {sx sy : Bool} {ax bx ay by' : Option Addr} {lx cx kx ex ly cy ky ey nx dx dx0 ny dy dy0 : Nat} {x y : Rat} (hx : RatX w sx ax lx cx bx kx ex nx dx dx0 x) (hy : RatX w sy ay ly cy by' ky ey ny dy dy0 y) :
    Calls Tryz.prog 27 #[ratV sx (.slice ax lx cx) (.slice bx kx ex), ratV sy (.slice ay ly cy) (.slice by' ky ey)] w (GivesInt (cmpQ x y) w) := by
  obtain ⟨W0, hW0, hB0, b1, b2, hs⟩ := boxes2 w #[.bool sx, .slice ax lx cx, .slice bx kx ex] #[.bool sy, .slice ay ly cy, .slice by' ky ey] 27 27
  have hx0 := hx.kept hB0
  have hy0 := hy.kept hB0
  have HS1 := Lib.hid hx0.sign_from
  have HS2 := Lib.hid hy0.sign_from
  have HK := Lib.hid (keep6 b1 b2)
  have HW0 := Lib.hid hW0
  have HB0 := Lib.hid hB0
  obtain ⟨k0, k1, k2, j0, j1, j2⟩ := cells3 b1
  obtain ⟨k3, k4, k5, j3, j4, j5⟩ := cells3 b2
  by_cases hd : cmpQ x 0 = cmpQ y 0
  · have hsame := cmpQ_same hd
    have hb : ((cmpQ x 0 : Int) != cmpQ y 0) = false := by rw [hd]; simp
    obtain ⟨mx, mx2⟩ := mkQ_cop sx hx0.pos hx0.cop
    obtain ⟨my, my2⟩ := mkQ_cop sy hy0.pos hy0.cop
    rw [hx0.is] at mx mx2
    rw [hy0.is] at my my2
    rw [mx, mx2, my, my2] at hsame
    have H0 := Lib.hid (And.intro hx0 (And.intro hy0 (And.intro b1 (And.intro b2 hs))))
    have hv : -1 ≤ cmpQ x y ∧ cmpQ x y ≤ 1 := by rcases cmpQ_vals x y with h | h | h <;> omega
    have hwr := wrap_small hv.1 hv.2
    rw [← hsame] at hwr ⊢
    have HWR := Lib.hid hwr
    clear hW0 hB0 b1 b2 hs hx hy hx0 hy0 hsame hv mx mx2 my my2 hwr
    rw [← hd] at HS2 hb
    clear hd
    generalize cmpQ x 0 = sg at *
    unfold ratV at HS1 HS2 ⊢
    go_enter Tryz.func27, Tryz.ntmps27
    go_wp2_with fail
    rw [← HW0.out]
    go_region_held3 (fun w' => w'.cell? ⟨w.heap.size, 0, none⟩ = some (.bool (sx)) ∧ w'.cell? ⟨w.heap.size, 1, none⟩ = some (.slice ax lx cx) ∧ w'.cell? ⟨w.heap.size, 2, none⟩ = some (.slice bx kx ex) ∧ w'.cell? ⟨w.heap.size + 1, 0, none⟩ = some (.bool ( sy)) ∧ w'.cell? ⟨w.heap.size + 1, 1, none⟩ = some (.slice ay ly cy) ∧ w'.cell? ⟨w.heap.size + 1, 2, none⟩ = some (.slice by' ky ey)) (first | exact HK.out _ hb4 | exact HK.out _ hb3 | go_keep)
        (first
          | (go_at_call 29; (with_reducible refine (HS1.out _ (below_drew _)).mono ?_); rintro e w3 ⟨rfl, hb3⟩)
          | (go_at_call 29; (with_reducible refine (HS2.out _ hb3).mono ?_); rintro e w4 ⟨rfl, hb4⟩))
    obtain ⟨W1, hW1, hB1, hbe, c1', c2', e1, e2, hlt⟩ : ∃ W1, W1 = wayW w4 ∧ Below W0.heap.size W0 W1 ∧ Bench W1 w4.heap.size 2147483647 false ∧
        W1.heap[w.heap.size]? = some (.cells #[.bool sx, .slice ax lx cx, .slice bx kx ex] 27 (0, 0)) ∧ W1.heap[w.heap.size + 1]? = some (.cells #[.bool sy, .slice ay ly cy, .slice by' ky ey] 27 (0, 0)) ∧
        RatX W1 sx ax lx cx bx kx ex nx dx dx0 x ∧ RatX W1 sy ay ly cy by' ky ey ny dy dy0 y ∧ w.heap.size + 1 < w4.heap.size := by
      obtain ⟨q1, q2, q3, q4, q5⟩ := H0.out
      have h04 := hb4.trans ((wayW_below w4).mono hb4.size)
      have := hb4.size
      exact ⟨_, rfl, h04, wayW_bench w4, (h04.block _ (by omega)).trans q3, (h04.block _ (by omega)).trans q4, q1.kept h04, q2.kept h04, by omega⟩
    have HTX := Lib.hid (fun W (h : StepW w4.heap.size W1 W) => (through_any (s := sx) (a1 := ax) (l1 := lx) (c1 := cx) (h.num hbe e1.den)).mono fun e W' hg => (by
      rw [← e1.thr] at hg
      obtain ⟨a, l, c, he, hn, hl, hb⟩ := hg
      exact ⟨a, l, c, he, hn, by have := e1.s2; omega, h.below hb, StepW.below (StepW.refl h.2) hb⟩ : PostW w4.heap.size W1 W 10000 dx e W'))
    have HTY := Lib.hid (fun W (h : StepW w4.heap.size W1 W) => (through_any (s := sy) (a1 := ay) (l1 := ly) (c1 := cy) (h.num hbe e2.den)).mono fun e W' hg => (by
      rw [← e2.thr] at hg
      obtain ⟨a, l, c, he, hn, hl, hb⟩ := hg
      exact ⟨a, l, c, he, hn, by have := e2.s2; omega, h.below hb, StepW.below (StepW.refl h.2) hb⟩ : PostW w4.heap.size W1 W 10000 dy e W'))
    have HM : Hid (∀ (n : Nat) (a : Option Addr) (la ca : Nat) (_ : NumE W1 a la ca n) (_ : la ≤ 10000) (k : Nat) (W : World) (b : Option Addr) (lb cb : Nat), StepW w4.heap.size W1 W → NumE W b lb cb k → lb ≤ 10000 → Calls Tryz.prog 51 #[.pointer (some ⟨w4.heap.size, 0, none⟩), .slice a la ca, .slice b lb cb] W (PostW w4.heap.size W1 W 20000 (n * k))) := Lib.hid fun n a la ca h1 hl k W b lb cb h h2 hl2 => by
      refine (mulW h.2 (h.num hbe h1) h2 (by omega) W (StepW.refl h.2)).mono ?_
      rintro e W' ⟨a', l', c', rfl, hn, hl', hs1, hs2⟩
      exact ⟨a', l', c', rfl, hn, by omega, h.trans hs1, hs2⟩
    have HM1 := Lib.hid (HM.out nx ax lx cx e1.num e1.s1 dy)
    have HM2 := Lib.hid (HM.out ny ay ly cy e2.num e2.s1 dx)
    have HK2 := Lib.hid (keepS6 c1' c2' (by omega : w.heap.size ≠ w4.heap.size) (by omega : w.heap.size + 1 ≠ w4.heap.size))
    have HRF := Lib.hid (StepW.refl hbe)
    have HBW := Lib.hid (And.intro (HB0.out.trans (hB1.mono HB0.out.size)) (by have := HB0.out.size; omega : w.heap.size ≤ w4.heap.size))
    have HW1 := Lib.hid hW1
    clear hW1 hB1 hbe c1' c2' e1 e2 HM HK H0 HS1 HS2 hb3 hb4 HB0
    clear k0 k1 k2 k3 k4 k5 j0 j1 j2 j3 j4 j5
    obtain ⟨k0, k1, k2, k3, k4, k5⟩ := HK2.out _ HRF.out
    have HCM : Hid (∀ W a l c a' l' c', StepW w4.heap.size W1 W → NumE W a l c (nx * dy) → NumE W a' l' c' (ny * dx) → Calls Tryz.prog 88 #[.slice a l c, .slice a' l' c'] W (fun e W' => e = .returned (.int .i64 (cmpI ((nx * dy : Nat) : Int) ((ny * dx : Nat) : Int))) ∧ StepW w4.heap.size W1 W')) := Lib.hid fun W a l c a' l' c' h h1 h2 => (cmpE h1 h2).mono fun e W' hg => ⟨hg.1, h.below hg.2⟩
    generalize cmpI ((nx * dy : Nat) : Int) ((ny * dx : Nat) : Int) = cm at *
    generalize nx * dy = A at *
    generalize ny * dx = B at *
    unfold ratV at HTX HTY
    have hwr := HWR.out
    obtain ⟨r, hr⟩ : ∃ r, sg * cm = r := ⟨_, rfl⟩
    rw [hr] at hwr ⊢
    have HR := Lib.hid hr
    clear hr
    go_wp2_with fail
    refine (unbounded_any w4).mono ?_
    rintro e w7 ⟨rfl, rfl⟩
    rw [← HW1.out]
    generalize w4.heap.size = t at *
    go_wp2_with fail
    go_region_held3 (fun w' => w'.cell? ⟨w.heap.size, 0, none⟩ = some (.bool (sx)) ∧ w'.cell? ⟨w.heap.size, 1, none⟩ = some (.slice ax lx cx) ∧ w'.cell? ⟨w.heap.size, 2, none⟩ = some (.slice bx kx ex) ∧ w'.cell? ⟨w.heap.size + 1, 0, none⟩ = some (.bool ( sy)) ∧ w'.cell? ⟨w.heap.size + 1, 1, none⟩ = some (.slice ay ly cy) ∧ w'.cell? ⟨w.heap.size + 1, 2, none⟩ = some (.slice by' ky ey)) (first | exact HK2.out _ hp9 | exact HK2.out _ hp8 | exact HK2.out _ hp7 | exact HK2.out _ hp6 | exact HK2.out _ hp5 | go_keep)
        (first
          | (go_at_call 75; (with_reducible refine (HTY.out _ HRF.out.drew).mono ?_); rintro e w5 ⟨a5, l5, c5, rfl, d5, hl5, hp5, _⟩)
          | (go_at_call 51; (with_reducible refine (HM1.out _ _ _ _ hp5 d5 hl5).mono ?_); rintro e w6 ⟨a6, l6, c6, rfl, d6, hl6, hp6, _⟩)
          | (go_at_call 75; (with_reducible refine (HTX.out _ hp6).mono ?_); rintro e w7 ⟨a7, l7, c7, rfl, d7, hl7, hp7, hs7⟩; have d6' := hs7.num hp6.2 d6)
          | (go_at_call 51; (with_reducible refine (HM2.out _ _ _ _ hp7 d7 hl7).mono ?_); rintro e w8 ⟨a8, l8, c8, rfl, d8, hl8, hp8, hs8⟩; have d6'' := hs8.num hp7.2 d6')
          | (go_at_call 88; (with_reducible refine (HCM.out _ _ _ _ _ _ _ hp8 d6'' d8).mono ?_); rintro e w9 ⟨rfl, hp9⟩))
    have HE := Lib.hid (hp9.base HBW.out.1 HBW.out.2)
    clear HTX HTY HM1 HM2 HK2 HRF HBW HW1 HCM HW0
    go_wp2_with fail
    go_ret
    exact ⟨by rw [HR.out, hwr]; rfl, HE.out⟩
  · have hdif := cmpQ_diff hd
    have hb : ((cmpQ x 0 : Int) != cmpQ y 0) = true := by rw [bne_iff_ne]; exact hd
    rw [← hdif]
    have HC := Lib.hid (fun W => cmpInt_any (cmpQ x 0) (cmpQ y 0) W)
    clear hW0 hB0 b1 b2 hs hx hy hx0 hy0 hdif hd
    generalize cmpI (cmpQ x 0) (cmpQ y 0) = r at *
    generalize cmpQ x 0 = sg at *
    generalize cmpQ y 0 = sh at *
    unfold ratV at HS1 HS2 ⊢
    go_enter Tryz.func27, Tryz.ntmps27
    go_wp2_with fail
    rw [← HW0.out]
    go_region_held3 (fun w' => w'.cell? ⟨w.heap.size, 0, none⟩ = some (.bool (sx)) ∧ w'.cell? ⟨w.heap.size, 1, none⟩ = some (.slice ax lx cx) ∧ w'.cell? ⟨w.heap.size, 2, none⟩ = some (.slice bx kx ex) ∧ w'.cell? ⟨w.heap.size + 1, 0, none⟩ = some (.bool ( sy)) ∧ w'.cell? ⟨w.heap.size + 1, 1, none⟩ = some (.slice ay ly cy) ∧ w'.cell? ⟨w.heap.size + 1, 2, none⟩ = some (.slice by' ky ey)) (first | exact HK.out _ hb4 | exact HK.out _ hb3 | go_keep)
        (first
          | (go_at_call 29; (with_reducible refine (HS1.out _ (below_drew _)).mono ?_); rintro e w3 ⟨rfl, hb3⟩)
          | (go_at_call 29; (with_reducible refine (HS2.out _ hb3).mono ?_); rintro e w4 ⟨rfl, hb4⟩))
    have HE := Lib.hid (HB0.out.trans (hb4.mono HB0.out.size))
    clear HS1 HS2 HK HW0 hb3 hb4 HB0
    go_wp2_with fail
    refine (HC.out _).mono ?_
    rintro e w5 ⟨rfl, rfl⟩
    go_wp2_with fail
    go_ret
    exact ⟨rfl, HE.out⟩
end Go.Proofs.YtomoemgoglghlaaGreatDoor

/-
  ratio.Text, Term; the document's.
-/
set_option linter.unusedVariables false
set_option linter.unusedSimpArgs false
namespace Go.Proofs.YtomoemgoglghlaaGreatDoor
open Go.RowKit Rep

theorem textE {w : World} {a : Option Addr} {l c n : Nat} (h : NumE w a l c n) : Calls Tryz.prog 91 #[.slice a l c] w (GivesTxt n w) := by
  obtain ⟨xs, rfl, rfl, hx⟩ := h.ex
  exact Text_any a xs c w hx
theorem textD {w : World} {a : Option Addr} {c n : Nat} (h : DAt w a c n) (hl : (D n).length ≤ 1000000) : Calls Tryz.prog 92 #[.slice a (D n).length c] w (GivesTxt n w) := by
  have := TextD_any a c (D n) w h.1 (D_dig n) (by omega)
  rw [txtD_D] at this
  exact this
theorem dlen_L {n k : Nat} (h : (L n).length ≤ k) : (D n).length ≤ 10 * k := by
  have := D_len_limbs (L_lim n)
  rw [V_L] at this
  omega
/-- A number's text. -/
def tN (n : Nat) : ByteArray := strOf (txt n)
theorem tN_len (n : Nat) : (tN n).size ≤ (D n).length + 1 := by
  show (strOf (txt n)).size ≤ _
  unfold strOf txt
  by_cases h : n = 0
  · rw [if_pos h]; show 1 ≤ _; omega
  · rw [if_neg h]
    show ((D n).reverse.map (fun d => UInt8.ofNat (48 + d))).toArray.size ≤ _
    simp
theorem bapp_assoc (a b c : ByteArray) : a ++ b ++ c = a ++ (b ++ c) := by
  apply ByteArray.ext
  simp [ByteArray.data_append]
/-- A ratio's text, of its parts' texts. -/
def textB (s o : Bool) (a b : ByteArray) : ByteArray := (if s = true then (⟨#[45]⟩ ++ a) else a) ++ (if o = true then ⟨#[]⟩ else (⟨#[47]⟩ ++ b))
def textQ (q : Rat) : ByteArray := textB (ngQ q) (decide (q.den = 1)) (tN (mgQ q)) (tN (denN q.den))
theorem textB_one (s : Bool) (a b : ByteArray) : textB s true a b = if s = true then (⟨#[45]⟩ ++ a) else a := by
  unfold textB
  rw [if_pos rfl]
  apply ByteArray.ext
  simp [ByteArray.data_append]
theorem textB_more (s : Bool) (a b : ByteArray) : textB s false a b = (if s = true then (⟨#[45]⟩ ++ a) else a) ++ (⟨#[47]⟩ ++ b) := rfl
/-- A call gives a text. -/
def GivesTx (v : ByteArray) (w : World) (e : Ending) (w' : World) : Prop := e = .returned (.string v) ∧ Below w.heap.size w w'

theorem den_gt {x : Rat} (hd : x.den ≠ 1) : 0 < (L (denN x.den)).length := by
  rw [Nat.pos_iff_ne_zero, Ne, L_len_zero]
  unfold denN
  rw [if_neg hd]
  have := den_pos x
  omega

set_option maxRecDepth 100000 in
set_option maxHeartbeats 1000000 in
theorem Text_q {w : World} {x : Rat} {a1 a2 : Option Addr} {c1 c2 : Nat} (hx : AtQ w a1 c1 a2 c2 x) (hs : szQ x ≤ 10000) :
    Calls Tryz.prog 34 #[qV x a1 c1 a2 c2] w (GivesTx (textQ x) w) := by
  have hb0 : Below w.heap.size w (w.alloc (.cells #[.bool (ngQ x), .slice a1 (L (mgQ x)).length c1, .slice a2 (L (denN x.den)).length c2] 27)) := (Below.refl _ _).alloc (Nat.le_refl _) _
  have hbl : (w.alloc (.cells #[.bool (ngQ x), .slice a1 (L (mgQ x)).length c1, .slice a2 (L (denN x.den)).length c2] 27)).heap[w.heap.size]? = some (.cells #[.bool (ngQ x), .slice a1 (L (mgQ x)).length c1, .slice a2 (L (denN x.den)).length c2] 27 (0, 0)) := heap_alloc_new w _
  have hs1 := hs
  unfold szQ at hs1
  have HT1 : Hid (Calls Tryz.prog 91 #[.slice a1 (L (mgQ x)).length c1] (w.alloc (.cells #[.bool (ngQ x), .slice a1 (L (mgQ x)).length c1, .slice a2 (L (denN x.den)).length c2] 27)) (GivesTx (tN (mgQ x)) (w.alloc (.cells #[.bool (ngQ x), .slice a1 (L (mgQ x)).length c1, .slice a2 (L (denN x.den)).length c2] 27)))) := Lib.hid (textE (NumE.of (hx.kept hb0).num (by omega)))
  have HT2 : Hid (∀ W, Below (w.alloc (.cells #[.bool (ngQ x), .slice a1 (L (mgQ x)).length c1, .slice a2 (L (denN x.den)).length c2] 27)).heap.size (w.alloc (.cells #[.bool (ngQ x), .slice a1 (L (mgQ x)).length c1, .slice a2 (L (denN x.den)).length c2] 27)) W → Calls Tryz.prog 91 #[.slice a2 (L (denN x.den)).length c2] W (GivesTx (tN (denN x.den)) W)) := Lib.hid (fun W h => textE (NumE.of ((hx.kept hb0).kept (w' := W) h).den (by omega)))
  have HK := Lib.hid (keep3 hbl)
  have HB := Lib.hid hb0
  have z1 := tN_len (mgQ x)
  have z2 := tN_len (denN x.den)
  have z3 := dlen_L (n := mgQ x) (k := 10000) (by omega)
  have z4 := dlen_L (n := denN x.den) (k := 10000) (by omega)
  have hz1 : (tN (mgQ x)).size ≤ 200000 := by omega
  have hz2 : (tN (denN x.den)).size ≤ 200000 := by omega
  have hgt : (x.den = 1 ∧ (L (denN x.den)).length = 0) ∨ (x.den ≠ 1 ∧ 0 < (L (denN x.den)).length) := by
    by_cases hd : x.den = 1
    · exact .inl ⟨hd, by rw [hd]; rfl⟩
    · exact .inr ⟨hd, den_gt hd⟩
  unfold textQ qV ratV
  clear hb0 hbl hx hs hs1 z1 z2 z3 z4
  generalize tN (mgQ x) = ta at *
  generalize tN (denN x.den) = tb at *
  generalize (L (mgQ x)).length = la at *
  generalize (L (denN x.den)).length = lb at *
  generalize ngQ x = s at *
  rcases hgt with ⟨h1, hgt⟩ | ⟨h1, hgt⟩
  · rw [decide_eq_true h1, textB_one]
    subst hgt
    clear h1
    cases s
    all_goals
      go_enter Tryz.func34, Tryz.ntmps34
      go_wp2_with fail
      refine HT1.out.mono ?_
      rintro e w1 ⟨rfl, hb1⟩
      obtain ⟨m0, m1, m2, n0, n1, n2⟩ := HK.out _ hb1
      have HE := Lib.hid (HB.out.trans (hb1.mono HB.out.size))
      clear hb1 HT1 HT2 HK
      go_wp2_with fail
      go_ret
      exact ⟨rfl, HE.out⟩
  · rw [decide_eq_false h1, textB_more]
    have hg1 : decide ((0 : Int) < (lb : Int)) = true := decide_eq_true (by omega)
    have hg2 : decide (0 < lb) = true := decide_eq_true hgt
    clear h1 hgt
    cases s
    all_goals
      go_enter Tryz.func34, Tryz.ntmps34
      go_wp2_with fail
      refine HT1.out.mono ?_
      rintro e w1 ⟨rfl, hb1⟩
      obtain ⟨m0, m1, m2, n0, n1, n2⟩ := HK.out _ hb1
      have HT3 := Lib.hid (HT2.out _ hb1)
      have HE1 := Lib.hid (HB.out.trans (hb1.mono HB.out.size))
      clear hb1 HT1 HT2 HK
      go_wp2_with fail
      refine HT3.out.mono ?_
      rintro e w2 ⟨rfl, hb2⟩
      have HE := Lib.hid (HE1.out.trans (hb2.mono HE1.out.size))
      clear hb2 HE1 HT3
      go_wp2_with fail
      go_ret
      exact ⟨rfl, HE.out⟩
end Go.Proofs.YtomoemgoglghlaaGreatDoor

/-
  ratio.Term; the document's Text, Term.
-/
set_option linter.unusedVariables false
set_option linter.unusedSimpArgs false
namespace Go.Proofs.YtomoemgoglghlaaGreatDoor
open Go.RowKit Rep

/-- A ratio's term, of its parts' texts. -/
def termB (s o : Bool) (a b : ByteArray) : ByteArray := if s = true then (⟨#[40, 45, 32]⟩ ++ (if o = true then a ++ ⟨#[46, 48]⟩ else (⟨#[40, 47, 32]⟩ ++ (a ++ ⟨#[46, 48]⟩) ++ ⟨#[32]⟩ ++ b ++ ⟨#[46, 48, 41]⟩)) ++ ⟨#[41]⟩) else (if o = true then a ++ ⟨#[46, 48]⟩ else (⟨#[40, 47, 32]⟩ ++ (a ++ ⟨#[46, 48]⟩) ++ ⟨#[32]⟩ ++ b ++ ⟨#[46, 48, 41]⟩))
def termQ (q : Rat) : ByteArray := termB (ngQ q) (decide (q.den = 1)) (tN (mgQ q)) (tN (denN q.den))
theorem termB_one (s : Bool) (a b : ByteArray) : termB s true a b = if s = true then (⟨#[40, 45, 32]⟩ ++ (a ++ ⟨#[46, 48]⟩) ++ ⟨#[41]⟩) else a ++ ⟨#[46, 48]⟩ := rfl
theorem termB_more (s : Bool) (a b : ByteArray) : termB s false a b = if s = true then (⟨#[40, 45, 32]⟩ ++ (⟨#[40, 47, 32]⟩ ++ (a ++ ⟨#[46, 48]⟩) ++ ⟨#[32]⟩ ++ b ++ ⟨#[46, 48, 41]⟩) ++ ⟨#[41]⟩) else (⟨#[40, 47, 32]⟩ ++ (a ++ ⟨#[46, 48]⟩) ++ ⟨#[32]⟩ ++ b ++ ⟨#[46, 48, 41]⟩) := rfl
/-- What the test for a denominator of 1 reads. -/
theorem den_reads {W : World} {a : Option Addr} {c M : Nat} (h : DAt W a c M) :
    (M = 1 → ∃ g off, a = some ⟨g, off, none⟩ ∧ 0 < (D M).length ∧ W.cell? ⟨g, off, none⟩ = some (.int .i64 1) ∧ True) ∧
    (M ≠ 1 → ((((D M).length : Nat) : Int) != 1) = true ∨ (((((D M).length : Nat) : Int) != 1) = false ∧ ∃ g off, a = some ⟨g, off, none⟩ ∧ 0 < (D M).length ∧ W.cell? ⟨g, off, none⟩ = some (.int .i64 (M : Int)) ∧ ((M : Int) != 1) = true)) := by
  constructor
  · intro h1
    subst h1
    obtain ⟨g, off, hga, hg, hc⟩ := h.1.open' (by rw [List.length_map, D_one]; simp)
    have hck := hc 0 (.int .i64 1) (by rw [D_one]; rfl)
    rw [Nat.add_zero] at hck
    exact ⟨g, off, hga, by rw [D_one]; simp, hck, trivial⟩
  · intro hM
    by_cases hl : (D M).length = 1
    · obtain ⟨hm, hDM⟩ := D_len1 hl
      obtain ⟨g, off, hga, hg, hc⟩ := h.1.open' (by rw [List.length_map]; omega)
      have hck := hc 0 (.int .i64 (M : Int)) (by rw [hDM]; rfl)
      rw [Nat.add_zero] at hck
      exact .inr ⟨by rw [hl]; rfl, g, off, hga, by omega, hck, by rw [bne_iff_ne]; omega⟩
    · exact .inl (by rw [bne_iff_ne]; omega)

set_option maxRecDepth 100000 in
set_option maxHeartbeats 1000000 in
theorem Term_q {w : World} {x : Rat} {a1 a2 : Option Addr} {c1 c2 : Nat} (hx : AtQ w a1 c1 a2 c2 x) (hs : szQ x ≤ 10000) :
    Calls Tryz.prog 36 #[qV x a1 c1 a2 c2] w (GivesTx (termQ x) w) := by
  have hb0 : Below w.heap.size w (w.alloc (.cells #[.bool (ngQ x), .slice a1 (L (mgQ x)).length c1, .slice a2 (L (denN x.den)).length c2] 27)) := (Below.refl _ _).alloc (Nat.le_refl _) _
  have hbl : (w.alloc (.cells #[.bool (ngQ x), .slice a1 (L (mgQ x)).length c1, .slice a2 (L (denN x.den)).length c2] 27)).heap[w.heap.size]? = some (.cells #[.bool (ngQ x), .slice a1 (L (mgQ x)).length c1, .slice a2 (L (denN x.den)).length c2] 27 (0, 0)) := heap_alloc_new w _
  have hs1 := hs
  unfold szQ at hs1
  have HT1 : Hid (Calls Tryz.prog 91 #[.slice a1 (L (mgQ x)).length c1] (w.alloc (.cells #[.bool (ngQ x), .slice a1 (L (mgQ x)).length c1, .slice a2 (L (denN x.den)).length c2] 27)) (GivesTx (tN (mgQ x)) (w.alloc (.cells #[.bool (ngQ x), .slice a1 (L (mgQ x)).length c1, .slice a2 (L (denN x.den)).length c2] 27)))) := Lib.hid (textE (NumE.of (hx.kept hb0).num (by omega)))
  have HT2 : Hid (∀ W, Below (w.alloc (.cells #[.bool (ngQ x), .slice a1 (L (mgQ x)).length c1, .slice a2 (L (denN x.den)).length c2] 27)).heap.size (w.alloc (.cells #[.bool (ngQ x), .slice a1 (L (mgQ x)).length c1, .slice a2 (L (denN x.den)).length c2] 27)) W → Calls Tryz.prog 91 #[.slice a2 (L (denN x.den)).length c2] W (GivesTx (tN (denN x.den)) W)) := Lib.hid (fun W h => textE (NumE.of ((hx.kept hb0).kept (w' := W) h).den (by omega)))
  have HK := Lib.hid (keep3 hbl)
  have HB := Lib.hid hb0
  have z1 := tN_len (mgQ x)
  have z2 := tN_len (denN x.den)
  have z3 := dlen_L (n := mgQ x) (k := 10000) (by omega)
  have z4 := dlen_L (n := denN x.den) (k := 10000) (by omega)
  have hz1 : (tN (mgQ x)).size ≤ 200000 := by omega
  have hz2 : (tN (denN x.den)).size ≤ 200000 := by omega
  have hgt : (x.den = 1 ∧ (L (denN x.den)).length = 0) ∨ (x.den ≠ 1 ∧ 0 < (L (denN x.den)).length) := by
    by_cases hd : x.den = 1
    · exact .inl ⟨hd, by rw [hd]; rfl⟩
    · exact .inr ⟨hd, den_gt hd⟩
  unfold termQ qV ratV
  clear hb0 hbl hx hs hs1 z1 z2 z3 z4
  generalize tN (mgQ x) = ta at *
  generalize tN (denN x.den) = tb at *
  generalize (L (mgQ x)).length = la at *
  generalize (L (denN x.den)).length = lb at *
  generalize ngQ x = s at *
  rcases hgt with ⟨h1, hgt⟩ | ⟨h1, hgt⟩
  · rw [decide_eq_true h1, termB_one]
    subst hgt
    clear h1
    cases s
    all_goals
      go_enter Tryz.func36, Tryz.ntmps36
      go_wp2_with fail
      refine HT1.out.mono ?_
      rintro e w1 ⟨rfl, hb1⟩
      obtain ⟨m0, m1, m2, n0, n1, n2⟩ := HK.out _ hb1
      have HE := Lib.hid (HB.out.trans (hb1.mono HB.out.size))
      clear hb1 HT1 HT2 HK
      go_wp2_with fail
      go_ret
      exact ⟨rfl, HE.out⟩
  · rw [decide_eq_false h1, termB_more]
    have hg1 : decide ((0 : Int) < (lb : Int)) = true := decide_eq_true (by omega)
    have hg2 : decide (0 < lb) = true := decide_eq_true hgt
    clear h1 hgt
    cases s
    all_goals
      go_enter Tryz.func36, Tryz.ntmps36
      go_wp2_with fail
      refine HT1.out.mono ?_
      rintro e w1 ⟨rfl, hb1⟩
      obtain ⟨m0, m1, m2, n0, n1, n2⟩ := HK.out _ hb1
      have HT3 := Lib.hid (HT2.out _ hb1)
      have HE1 := Lib.hid (HB.out.trans (hb1.mono HB.out.size))
      have HTB := Lib.hid hb1
      clear hb1 HT1 HT2
      go_wp2_with fail
      refine HT3.out.mono ?_
      rintro e w2 ⟨rfl, hb2⟩
      have HE := Lib.hid (HE1.out.trans (hb2.mono HE1.out.size))
      obtain ⟨m0, m1, m2, n0, n1, n2⟩ := HK.out _ (HTB.out.trans (hb2.mono HTB.out.size))
      clear hb2 HE1 HT3 HK HTB
      go_wp2_with fail
      go_ret
      exact ⟨rfl, HE.out⟩

set_option maxRecDepth 100000 in
set_option maxHeartbeats 1000000 in
theorem TextD_q {w : World} {x : Rat} {a1 a2 : Option Addr} {c1 c2 : Nat} (hx : DgQ w a1 c1 a2 c2 x) (hs1 : (D (mgQ x)).length ≤ 200000) (hs2 : (D x.den).length ≤ 200000) :
    Calls Tryz.prog 35 #[dV x a1 c1 a2 c2] w (GivesTx (textQ x) w) := by
  have hb0 : Below w.heap.size w (w.alloc (.cells #[.bool (ngQ x), .slice a1 (D (mgQ x)).length c1, .slice a2 (D x.den).length c2] 34)) := (Below.refl _ _).alloc (Nat.le_refl _) _
  have hbl : (w.alloc (.cells #[.bool (ngQ x), .slice a1 (D (mgQ x)).length c1, .slice a2 (D x.den).length c2] 34)).heap[w.heap.size]? = some (.cells #[.bool (ngQ x), .slice a1 (D (mgQ x)).length c1, .slice a2 (D x.den).length c2] 34 (0, 0)) := heap_alloc_new w _
  have HT1 : Hid (Calls Tryz.prog 92 #[.slice a1 (D (mgQ x)).length c1] (w.alloc (.cells #[.bool (ngQ x), .slice a1 (D (mgQ x)).length c1, .slice a2 (D x.den).length c2] 34)) (GivesTx (tN (mgQ x)) (w.alloc (.cells #[.bool (ngQ x), .slice a1 (D (mgQ x)).length c1, .slice a2 (D x.den).length c2] 34)))) := Lib.hid (textD (hx.kept hb0).num (by omega))
  have HT2 : Hid (∀ W, Below (w.alloc (.cells #[.bool (ngQ x), .slice a1 (D (mgQ x)).length c1, .slice a2 (D x.den).length c2] 34)).heap.size (w.alloc (.cells #[.bool (ngQ x), .slice a1 (D (mgQ x)).length c1, .slice a2 (D x.den).length c2] 34)) W → Calls Tryz.prog 92 #[.slice a2 (D x.den).length c2] W (GivesTx (tN x.den) W)) := Lib.hid (fun W h => textD ((hx.kept hb0).kept (w' := W) h).den (by omega))
  have HK := Lib.hid (keep3 hbl)
  have HB := Lib.hid hb0
  have z1 := tN_len (mgQ x)
  have z2 := tN_len x.den
  have hz1 : (tN (mgQ x)).size ≤ 300000 := by omega
  have hz2 : (tN x.den).size ≤ 300000 := by omega
  have HDN : Hid (x.den = 1 ∨ denN x.den = x.den) := Lib.hid (by
    by_cases hd : x.den = 1
    · exact .inl hd
    · exact .inr (by unfold denN; rw [if_neg hd]))
  have HD := Lib.hid (fun W (h : Below (w.alloc (.cells #[.bool (ngQ x), .slice a1 (D (mgQ x)).length c1, .slice a2 (D x.den).length c2] 34)).heap.size (w.alloc (.cells #[.bool (ngQ x), .slice a1 (D (mgQ x)).length c1, .slice a2 (D x.den).length c2] 34)) W) => den_reads (((hx.kept hb0).kept (w' := W) h).den))
  unfold textQ dV ratV
  have hcase : (x.den = 1 ∧ textB (ngQ x) (decide (x.den = 1)) (tN (mgQ x)) (tN (denN x.den)) = (if ngQ x = true then (⟨#[45]⟩ ++ tN (mgQ x)) else tN (mgQ x))) ∨ (x.den ≠ 1 ∧ textB (ngQ x) (decide (x.den = 1)) (tN (mgQ x)) (tN (denN x.den)) = (if ngQ x = true then (⟨#[45]⟩ ++ tN (mgQ x)) else tN (mgQ x)) ++ ⟨#[47]⟩ ++ tN x.den) := by
    by_cases hd : x.den = 1
    · exact .inl ⟨hd, by rw [decide_eq_true hd, textB_one]⟩
    · refine .inr ⟨hd, ?_⟩
      rw [decide_eq_false hd, textB_more, bapp_assoc, HDN.out.resolve_left hd]
  clear hb0 hbl hx hs1 hs2 z1 z2 HDN
  generalize textB (ngQ x) (decide (x.den = 1)) (tN (mgQ x)) (tN (denN x.den)) = tx at *
  generalize tN (mgQ x) = ta at *
  generalize tN x.den = tb at *
  generalize (D (mgQ x)).length = la at *
  generalize ngQ x = s at *
  rcases hcase with ⟨h1, rfl⟩ | ⟨h1, rfl⟩
  · have hz : (((D x.den).length : Int) != 1) = false := by rw [h1, D_one]; rfl
    have H1 := Lib.hid h1
    clear h1
    cases s
    all_goals
      go_enter Tryz.func35, Tryz.ntmps35
      go_wp2_with fail
      refine HT1.out.mono ?_
      rintro e w1 ⟨rfl, hb1⟩
      obtain ⟨m0, m1, m2, n0, n1, n2⟩ := HK.out _ hb1
      have HE := Lib.hid (HB.out.trans (hb1.mono HB.out.size))
      obtain ⟨g, off, hga, hl0, hck, _⟩ := (HD.out _ hb1).1 H1.out
      subst hga
      clear hb1 HT1 HT2 HK HD
      go_wp2_with fail
      go_ret
      exact ⟨rfl, HE.out⟩
  · have H1 := Lib.hid h1
    clear h1
    cases s
    all_goals
      go_enter Tryz.func35, Tryz.ntmps35
      go_wp2_with fail
      refine HT1.out.mono ?_
      rintro e w1 ⟨rfl, hb1⟩
      obtain ⟨m0, m1, m2, n0, n1, n2⟩ := HK.out _ hb1
      have HT3 := Lib.hid (HT2.out _ hb1)
      have HE1 := Lib.hid (HB.out.trans (hb1.mono HB.out.size))
      have hgo := (HD.out _ hb1).2 H1.out
      clear hb1 HT1 HT2 HK HD
      rcases hgo with hz | ⟨hz, g, off, hga, hl0, hck, hm1⟩
      all_goals
        try subst hga
        go_wp2_with fail
        refine HT3.out.mono ?_
        rintro e w2 ⟨rfl, hb2⟩
        have HE := Lib.hid (HE1.out.trans (hb2.mono HE1.out.size))
        clear hb2 HE1 HT3
        go_wp2_with fail
        go_ret
        exact ⟨rfl, HE.out⟩

set_option maxRecDepth 100000 in
set_option maxHeartbeats 1000000 in
theorem TermD_q {w : World} {x : Rat} {a1 a2 : Option Addr} {c1 c2 : Nat} (hx : DgQ w a1 c1 a2 c2 x) (hs1 : (D (mgQ x)).length ≤ 200000) (hs2 : (D x.den).length ≤ 200000) :
    Calls Tryz.prog 37 #[dV x a1 c1 a2 c2] w (GivesTx (termQ x) w) := by
  have hb0 : Below w.heap.size w (w.alloc (.cells #[.bool (ngQ x), .slice a1 (D (mgQ x)).length c1, .slice a2 (D x.den).length c2] 34)) := (Below.refl _ _).alloc (Nat.le_refl _) _
  have hbl : (w.alloc (.cells #[.bool (ngQ x), .slice a1 (D (mgQ x)).length c1, .slice a2 (D x.den).length c2] 34)).heap[w.heap.size]? = some (.cells #[.bool (ngQ x), .slice a1 (D (mgQ x)).length c1, .slice a2 (D x.den).length c2] 34 (0, 0)) := heap_alloc_new w _
  have HT1 : Hid (Calls Tryz.prog 92 #[.slice a1 (D (mgQ x)).length c1] (w.alloc (.cells #[.bool (ngQ x), .slice a1 (D (mgQ x)).length c1, .slice a2 (D x.den).length c2] 34)) (GivesTx (tN (mgQ x)) (w.alloc (.cells #[.bool (ngQ x), .slice a1 (D (mgQ x)).length c1, .slice a2 (D x.den).length c2] 34)))) := Lib.hid (textD (hx.kept hb0).num (by omega))
  have HT2 : Hid (∀ W, Below (w.alloc (.cells #[.bool (ngQ x), .slice a1 (D (mgQ x)).length c1, .slice a2 (D x.den).length c2] 34)).heap.size (w.alloc (.cells #[.bool (ngQ x), .slice a1 (D (mgQ x)).length c1, .slice a2 (D x.den).length c2] 34)) W → Calls Tryz.prog 92 #[.slice a2 (D x.den).length c2] W (GivesTx (tN x.den) W)) := Lib.hid (fun W h => textD ((hx.kept hb0).kept (w' := W) h).den (by omega))
  have HK := Lib.hid (keep3 hbl)
  have HB := Lib.hid hb0
  have z1 := tN_len (mgQ x)
  have z2 := tN_len x.den
  have hz1 : (tN (mgQ x)).size ≤ 300000 := by omega
  have hz2 : (tN x.den).size ≤ 300000 := by omega
  have HDN : Hid (x.den = 1 ∨ denN x.den = x.den) := Lib.hid (by
    by_cases hd : x.den = 1
    · exact .inl hd
    · exact .inr (by unfold denN; rw [if_neg hd]))
  have HD := Lib.hid (fun W (h : Below (w.alloc (.cells #[.bool (ngQ x), .slice a1 (D (mgQ x)).length c1, .slice a2 (D x.den).length c2] 34)).heap.size (w.alloc (.cells #[.bool (ngQ x), .slice a1 (D (mgQ x)).length c1, .slice a2 (D x.den).length c2] 34)) W) => den_reads (((hx.kept hb0).kept (w' := W) h).den))
  unfold termQ dV ratV
  have hcase : (x.den = 1 ∧ termB (ngQ x) (decide (x.den = 1)) (tN (mgQ x)) (tN (denN x.den)) = (if ngQ x = true then (⟨#[40, 45, 32]⟩ ++ (tN (mgQ x) ++ ⟨#[46, 48]⟩) ++ ⟨#[41]⟩) else tN (mgQ x) ++ ⟨#[46, 48]⟩)) ∨ (x.den ≠ 1 ∧ termB (ngQ x) (decide (x.den = 1)) (tN (mgQ x)) (tN (denN x.den)) = (if ngQ x = true then (⟨#[40, 45, 32]⟩ ++ (⟨#[40, 47, 32]⟩ ++ (tN (mgQ x) ++ ⟨#[46, 48]⟩) ++ ⟨#[32]⟩ ++ tN x.den ++ ⟨#[46, 48, 41]⟩) ++ ⟨#[41]⟩) else (⟨#[40, 47, 32]⟩ ++ (tN (mgQ x) ++ ⟨#[46, 48]⟩) ++ ⟨#[32]⟩ ++ tN x.den ++ ⟨#[46, 48, 41]⟩))) := by
    by_cases hd : x.den = 1
    · exact .inl ⟨hd, by rw [decide_eq_true hd, termB_one]⟩
    · refine .inr ⟨hd, ?_⟩
      rw [decide_eq_false hd, termB_more, HDN.out.resolve_left hd]
  clear hb0 hbl hx hs1 hs2 z1 z2 HDN
  generalize termB (ngQ x) (decide (x.den = 1)) (tN (mgQ x)) (tN (denN x.den)) = tx at *
  generalize tN (mgQ x) = ta at *
  generalize tN x.den = tb at *
  generalize (D (mgQ x)).length = la at *
  generalize ngQ x = s at *
  rcases hcase with ⟨h1, rfl⟩ | ⟨h1, rfl⟩
  · have hz : (((D x.den).length : Int) != 1) = false := by rw [h1, D_one]; rfl
    have H1 := Lib.hid h1
    clear h1
    cases s
    all_goals
      go_enter Tryz.func37, Tryz.ntmps37
      go_wp2_with fail
      refine HT1.out.mono ?_
      rintro e w1 ⟨rfl, hb1⟩
      obtain ⟨m0, m1, m2, n0, n1, n2⟩ := HK.out _ hb1
      have HE := Lib.hid (HB.out.trans (hb1.mono HB.out.size))
      obtain ⟨g, off, hga, hl0, hck, _⟩ := (HD.out _ hb1).1 H1.out
      subst hga
      clear hb1 HT1 HT2 HK HD
      go_wp2_with fail
      go_ret
      exact ⟨rfl, HE.out⟩
  · have H1 := Lib.hid h1
    clear h1
    cases s
    all_goals
      go_enter Tryz.func37, Tryz.ntmps37
      go_wp2_with fail
      refine HT1.out.mono ?_
      rintro e w1 ⟨rfl, hb1⟩
      obtain ⟨m0, m1, m2, n0, n1, n2⟩ := HK.out _ hb1
      have HT3 := Lib.hid (HT2.out _ hb1)
      have HE1 := Lib.hid (HB.out.trans (hb1.mono HB.out.size))
      have hgo := (HD.out _ hb1).2 H1.out
      have HTB := Lib.hid hb1
      clear hb1 HT1 HT2 HD
      rcases hgo with hz | ⟨hz, g, off, hga, hl0, hck, hm1⟩
      all_goals
        try subst hga
        go_wp2_with fail
        refine HT3.out.mono ?_
        rintro e w2 ⟨rfl, hb2⟩
        have HE := Lib.hid (HE1.out.trans (hb2.mono HE1.out.size))
        obtain ⟨m0, m1, m2, n0, n1, n2⟩ := HK.out _ (HTB.out.trans (hb2.mono HTB.out.size))
        clear hb2 HE1 HT3 HK HTB
        go_wp2_with fail
        go_ret
        exact ⟨rfl, HE.out⟩
end Go.Proofs.YtomoemgoglghlaaGreatDoor

/-
  The document's Right of ratios.
-/
set_option linter.unusedVariables false
set_option linter.unusedSimpArgs false
namespace Go.Proofs.YtomoemgoglghlaaGreatDoor
open Go.RowKit Rep

/-- The number that a sign and two rows of limbs tell. -/
def qOf (s : Bool) (xs ds : List Nat) : Rat := mkQ s (V xs) (if V ds = 0 then 1 else V ds)
/-- Is it in its one form? -/
def rightB (s : Bool) (xs ds : List Nat) : Bool := decide (s = ngQ (qOf s xs ds) ∧ xs = L (mgQ (qOf s xs ds)) ∧ ds = L (denN (qOf s xs ds).den))
theorem rightB_top {s : Bool} {xs ds : List Nat} (h : rightB s xs ds = true) : (xs.length ≠ 0 → xs.getD (xs.length - 1) 0 ≠ 0) ∧ (ds.length ≠ 0 → ds.getD (ds.length - 1) 0 ≠ 0) ∧ ¬ (xs.length = 0 ∧ s = true) := by
  obtain ⟨h1, h2, h3⟩ := of_decide_eq_true h
  have key : ∀ {n : Nat} {l : List Nat}, l = L n → l.length ≠ 0 → l.getD (l.length - 1) 0 ≠ 0 := fun {n l} e hl => by
    subst e; exact Nat.ne_of_gt (top_limb (M := n) (by omega))
  refine ⟨key h2, key h3, fun ⟨e1, e2⟩ => ?_⟩
  have e3 : mgQ (qOf s xs ds) = 0 := by rw [h2] at e1; exact L_len_zero.1 e1
  have e4 := mg_zero.1 e3
  rw [e4, e2] at h1
  cases h1
theorem last_limb {w : World} {a : Option Addr} {xs : List Nat} (h : Reads w a (xs.map u32v)) (hl : xs.length ≠ 0) : ∃ g off, a = some ⟨g, off, none⟩ ∧ g < w.heap.size ∧ w.cell? ⟨g, off + (xs.length - 1), none⟩ = some (.int .u32 ((xs.getD (xs.length - 1) 0 : Nat) : Int)) := by
  obtain ⟨g, off, rfl, hg, hcell⟩ := h.open' (by rw [List.length_map]; omega)
  exact ⟨g, off, rfl, hg, hcell (xs.length - 1) _ (map_getElem? (xs := xs) (by omega))⟩
/-- A row of limbs: empty; or with a last one, which is a nought, or none. -/
def Tail3 (w : World) (a : Option Addr) (l : Nat) (bad : Bool) : Prop :=
  (l = 0 ∧ bad = false) ∨ (∃ g off x : Nat, a = some ⟨g, off, none⟩ ∧ g < w.heap.size ∧ w.cell? ⟨g, off + (l - 1), none⟩ = some (.int .u32 (x : Int)) ∧ 0 < l ∧ ((x : Int) == 0) = bad)
theorem tail3 {w : World} {a : Option Addr} {xs : List Nat} (h : Reads w a (xs.map u32v)) : Tail3 w a xs.length (decide (xs.length ≠ 0 ∧ xs.getD (xs.length - 1) 0 = 0)) := by
  by_cases hl : xs.length = 0
  · exact .inl ⟨hl, by simp [hl]⟩
  · obtain ⟨g, off, ha, hg, hc⟩ := last_limb h hl
    refine .inr ⟨g, off, _, ha, hg, hc, by omega, ?_⟩
    generalize xs.getD (xs.length - 1) 0 = x
    rw [Bool.eq_iff_iff]
    simp [hl]

set_option maxRecDepth 100000 in
set_option maxHeartbeats 8000000 in
theorem RightR_any {w : World} {s : Bool} {a1 a2 : Option Addr} {c1 c2 : Nat} {xs ds : List Nat} (hx : NumIn w a1 c1 xs) (hd : NumIn w a2 c2 ds) (lx : xs.length ≤ 1000) (ld : ds.length ≤ 1000) :
    Calls Tryz.prog 12 #[ratV s (.slice a1 xs.length c1) (.slice a2 ds.length c2)] w (GivesB (rightB s xs ds) w) := by
  obtain ⟨W0, hW0⟩ : ∃ W0, W0 = w.alloc (.cells #[.bool s, .slice a1 xs.length c1, .slice a2 ds.length c2] 27) := ⟨_, rfl⟩
  have hB0 : Below w.heap.size w W0 := by rw [hW0]; exact (Below.refl _ _).alloc (Nat.le_refl _) _
  have b1 : W0.heap[w.heap.size]? = some (.cells #[.bool s, .slice a1 xs.length c1, .slice a2 ds.length c2] 27 (0, 0)) := by rw [hW0]; exact heap_alloc_new w _
  have t1 := tail3 hx.reads
  have t2 := tail3 hd.reads
  have htop := @rightB_top s xs ds
  have HC : Hid (∀ W, Below W0.heap.size W0 W → Calls Tryz.prog 13 #[ratV s (.slice a1 xs.length c1) (.slice a2 ds.length c2)] W (fun e W' => ∃ a3 l3 c3 a4 l4 c4, e = .returned (.agg #[.bool s, .slice a3 l3 c3, .slice a4 l4 c4]) ∧ Below W0.heap.size W0 W' ∧
      Hid (Calls Tryz.prog 33 #[.agg #[.bool s, .slice a3 l3 c3, .slice a4 l4 c4]] W' (fun e W2 => ∃ t a5 l5 c5 a6 l6 c6, e = .returned (.agg #[.bool t, .slice a5 l5 c5, .slice a6 l6 c6]) ∧ Below W0.heap.size W0 W2 ∧
        Hid (Calls Tryz.prog 31 #[ratV s (.slice a1 xs.length c1) (.slice a2 ds.length c2), .agg #[.bool t, .slice a5 l5 c5, .slice a6 l6 c6]] W2 (fun e W3 => e = .returned (.bool (rightB s xs ds)) ∧ Below W0.heap.size W0 W3)))))) := Lib.hid fun W h => by
    have hx1 := (hx.kept hB0).kept h
    have hd1 := (hd.kept hB0).kept h
    refine (Of_any s a1 a2 xs.length c1 ds.length c2 (V xs) (V ds) W (.inn hx1) (.inn hd1) (by omega) (by omega)).mono ?_
    rintro e W' ⟨a3, c3, a4, c4, rfl, d3, d4, hb1⟩
    have hB1 := h.trans (hb1.mono h.size)
    have hp : 0 < (if V ds = 0 then 1 else V ds) := by split <;> omega
    have q1 : (D (V xs)).length ≤ 1000000 := by have := dlen_L (V_len hx.lim (Nat.le_refl _)); omega
    have q2 : (D (if V ds = 0 then 1 else V ds)).length ≤ 1000000 := by
      split
      · rw [D_one]; simp
      · have := dlen_L (V_len hd.lim (Nat.le_refl _)); omega
    refine ⟨a3, _, c3, a4, _, c4, rfl, hB1, Lib.hid ((Form_q (s := s) d3 d4 hp q1 q2).mono ?_)⟩
    rintro e W2 ⟨a5, c5, a6, c6, rfl, hq, hb2⟩
    have hB2 := hB1.trans (hb2.mono hB1.size)
    refine ⟨_, a5, _, c5, a6, _, c6, rfl, hB2, Lib.hid ((SameR_any s _ a1 a2 a5 a6 c1 c2 c5 c6 xs ds (L (mgQ (qOf s xs ds))) (L (denN (qOf s xs ds).den)) W2 (((hx1.kept hb1).kept hb2).reads) (((hd1.kept hb1).kept hb2).reads) hq.num.1 hq.den.1 (by omega) (by omega)).mono ?_)⟩
    rintro e W3 ⟨rfl, hb3⟩
    exact ⟨rfl, hB2.trans (hb3.mono hB2.size)⟩
  have HK : Hid (∀ W, Below W0.heap.size W0 W → W.cell? ⟨w.heap.size, 0, none⟩ = some (.bool s) ∧ W.cell? ⟨w.heap.size, 1, none⟩ = some (.slice a1 xs.length c1) ∧ W.cell? ⟨w.heap.size, 2, none⟩ = some (.slice a2 ds.length c2)) := Lib.hid fun W h => by
    obtain ⟨q0, q1, q2, _⟩ := keep3 b1 W h
    exact ⟨q0, q1, q2⟩
  have HB := Lib.hid hB0
  have HW0 := Lib.hid hW0
  obtain ⟨k0, k1, k2, j0, j1, j2⟩ := cells3 b1
  have hV : rightB s xs ds = true → decide (xs.length ≠ 0 ∧ xs.getD (xs.length - 1) 0 = 0) = false ∧ decide (ds.length ≠ 0 ∧ ds.getD (ds.length - 1) 0 = 0) = false ∧ (xs.length = 0 → s = false) := fun h => by
    obtain ⟨f1, f2, f3⟩ := htop h
    exact ⟨decide_eq_false fun c => f1 c.1 c.2, decide_eq_false fun c => f2 c.1 c.2, fun e => by cases s <;> first | rfl | exact absurd ⟨e, rfl⟩ f3⟩
  clear hW0 hB0 b1 hx hd htop
  generalize decide (xs.length ≠ 0 ∧ xs.getD (xs.length - 1) 0 = 0) = u1 at *
  generalize decide (ds.length ≠ 0 ∧ ds.getD (ds.length - 1) 0 = 0) = u2 at *
  generalize rightB s xs ds = r at *
  generalize xs.length = l1 at *
  generalize ds.length = l2 at *
  have hend : (u1 = false ∧ u2 = false ∧ (l1 = 0 → s = false)) ∨ r = false := by
    cases r
    · exact .inr rfl
    · exact .inl (hV rfl)
  unfold ratV at HC ⊢
  clear hV
  rcases t1 with ⟨rfl, rfl⟩ | ⟨g1, o1, x1, rfl, hgl1, hck1, hp1, hz1⟩
  · rcases t2 with ⟨rfl, rfl⟩ | ⟨g2, o2, x2, rfl, hgl2, hck2, hp2, hz2⟩
    · cases s
      · clear hend
        have HC1 := Lib.hid (HC.out _ (below_drew _))
        go_enter Tryz.func12, Tryz.ntmps12
        go_wp2_with fail
        rw [← HW0.out]
        go_region_held3 (fun w' => w'.cell? ⟨w.heap.size, 0, none⟩ = some (.bool (false)) ∧ w'.cell? ⟨w.heap.size, 1, none⟩ = some (.slice a1 0 c1) ∧ w'.cell? ⟨w.heap.size, 2, none⟩ = some (.slice a2 0 c2)) (first | exact HK.out _ hb5 | exact HK.out _ hb4 | exact HK.out _ hb3 | go_keep)
            (first
              | (go_at_call 13; (with_reducible refine HC1.out.mono ?_); rintro e w3 ⟨a3, l3, c3, a4, l4, c4, rfl, hb3, HC2⟩)
              | (go_at_call 33; (with_reducible refine HC2.out.mono ?_); rintro e w4 ⟨t, a5, l5, c5, a6, l6, c6, rfl, hb4, HC3⟩)
              | (go_at_call 31; (with_reducible refine HC3.out.mono ?_); rintro e w5 ⟨rfl, hb5⟩))
        have HE := Lib.hid (HB.out.trans (hb5.mono HB.out.size))
        clear HC HC1 HC2 HC3 HK HW0 hb3 hb4 hb5
        go_wp2_with fail
        go_ret
        exact ⟨rfl, HE.out⟩
      · skip
        have hr : r = false := by
          rcases hend with h | h
          · simp at h
          · exact h
        subst hr
        clear HC HK hend
        have HE := HB
        clear HB
        go_enter Tryz.func12, Tryz.ntmps12
        go_wp2_with fail
        rw [← HW0.out]
        go_wp2_with fail
        go_ret
        exact ⟨rfl, HE.out⟩
    · skip
      have hg2a : decide ((0 : Int) < (l2 : Int)) = true := decide_eq_true (by omega)
      have hg2b : decide (0 < l2) = true := decide_eq_true hp2
      have hg2c : ((l2 : Int) == 0) = false := cast_beq_no (by omega)
      have hi2 : ((l2 : Int) - 1).toNat = l2 - 1 := by omega
      cases u2
      · cases s
        · clear hend
          have HC1 := Lib.hid (HC.out _ (below_drew _))
          go_enter Tryz.func12, Tryz.ntmps12
          go_wp2_with fail
          rw [← HW0.out]
          go_region_held3 (fun w' => w'.cell? ⟨w.heap.size, 0, none⟩ = some (.bool (false)) ∧ w'.cell? ⟨w.heap.size, 1, none⟩ = some (.slice a1 0 c1) ∧ w'.cell? ⟨w.heap.size, 2, none⟩ = some (.slice (some ⟨g2, o2, none⟩) l2 c2)) (first | exact HK.out _ hb5 | exact HK.out _ hb4 | exact HK.out _ hb3 | go_keep)
              (first
                | (go_at_call 13; (with_reducible refine HC1.out.mono ?_); rintro e w3 ⟨a3, l3, c3, a4, l4, c4, rfl, hb3, HC2⟩)
                | (go_at_call 33; (with_reducible refine HC2.out.mono ?_); rintro e w4 ⟨t, a5, l5, c5, a6, l6, c6, rfl, hb4, HC3⟩)
                | (go_at_call 31; (with_reducible refine HC3.out.mono ?_); rintro e w5 ⟨rfl, hb5⟩))
          have HE := Lib.hid (HB.out.trans (hb5.mono HB.out.size))
          clear HC HC1 HC2 HC3 HK HW0 hb3 hb4 hb5
          go_wp2_with fail
          go_ret
          exact ⟨rfl, HE.out⟩
        · skip
          have hr : r = false := by
            rcases hend with h | h
            · simp at h
            · exact h
          subst hr
          clear HC HK hend
          have HE := HB
          clear HB
          go_enter Tryz.func12, Tryz.ntmps12
          go_wp2_with fail
          rw [← HW0.out]
          go_wp2_with fail
          go_ret
          exact ⟨rfl, HE.out⟩
      · skip
        have hr : r = false := by
          rcases hend with h | h
          · simp at h
          · exact h
        subst hr
        clear HC HK hend
        have HE := HB
        clear HB
        go_enter Tryz.func12, Tryz.ntmps12
        go_wp2_with fail
        rw [← HW0.out]
        go_wp2_with fail
        go_ret
        exact ⟨rfl, HE.out⟩
  · skip
    have hg1a : decide ((0 : Int) < (l1 : Int)) = true := decide_eq_true (by omega)
    have hg1b : decide (0 < l1) = true := decide_eq_true hp1
    have hg1c : ((l1 : Int) == 0) = false := cast_beq_no (by omega)
    have hi1 : ((l1 : Int) - 1).toNat = l1 - 1 := by omega
    cases u1
    · rcases t2 with ⟨rfl, rfl⟩ | ⟨g2, o2, x2, rfl, hgl2, hck2, hp2, hz2⟩
      · clear hend
        have HC1 := Lib.hid (HC.out _ (below_drew _))
        go_enter Tryz.func12, Tryz.ntmps12
        go_wp2_with fail
        rw [← HW0.out]
        go_region_held3 (fun w' => w'.cell? ⟨w.heap.size, 0, none⟩ = some (.bool (s)) ∧ w'.cell? ⟨w.heap.size, 1, none⟩ = some (.slice (some ⟨g1, o1, none⟩) l1 c1) ∧ w'.cell? ⟨w.heap.size, 2, none⟩ = some (.slice a2 0 c2)) (first | exact HK.out _ hb5 | exact HK.out _ hb4 | exact HK.out _ hb3 | go_keep)
            (first
              | (go_at_call 13; (with_reducible refine HC1.out.mono ?_); rintro e w3 ⟨a3, l3, c3, a4, l4, c4, rfl, hb3, HC2⟩)
              | (go_at_call 33; (with_reducible refine HC2.out.mono ?_); rintro e w4 ⟨t, a5, l5, c5, a6, l6, c6, rfl, hb4, HC3⟩)
              | (go_at_call 31; (with_reducible refine HC3.out.mono ?_); rintro e w5 ⟨rfl, hb5⟩))
        have HE := Lib.hid (HB.out.trans (hb5.mono HB.out.size))
        clear HC HC1 HC2 HC3 HK HW0 hb3 hb4 hb5
        go_wp2_with fail
        go_ret
        exact ⟨rfl, HE.out⟩
      · skip
        have hg2a : decide ((0 : Int) < (l2 : Int)) = true := decide_eq_true (by omega)
        have hg2b : decide (0 < l2) = true := decide_eq_true hp2
        have hg2c : ((l2 : Int) == 0) = false := cast_beq_no (by omega)
        have hi2 : ((l2 : Int) - 1).toNat = l2 - 1 := by omega
        cases u2
        · clear hend
          have HC1 := Lib.hid (HC.out _ (below_drew _))
          go_enter Tryz.func12, Tryz.ntmps12
          go_wp2_with fail
          rw [← HW0.out]
          go_region_held3 (fun w' => w'.cell? ⟨w.heap.size, 0, none⟩ = some (.bool (s)) ∧ w'.cell? ⟨w.heap.size, 1, none⟩ = some (.slice (some ⟨g1, o1, none⟩) l1 c1) ∧ w'.cell? ⟨w.heap.size, 2, none⟩ = some (.slice (some ⟨g2, o2, none⟩) l2 c2)) (first | exact HK.out _ hb5 | exact HK.out _ hb4 | exact HK.out _ hb3 | go_keep)
              (first
                | (go_at_call 13; (with_reducible refine HC1.out.mono ?_); rintro e w3 ⟨a3, l3, c3, a4, l4, c4, rfl, hb3, HC2⟩)
                | (go_at_call 33; (with_reducible refine HC2.out.mono ?_); rintro e w4 ⟨t, a5, l5, c5, a6, l6, c6, rfl, hb4, HC3⟩)
                | (go_at_call 31; (with_reducible refine HC3.out.mono ?_); rintro e w5 ⟨rfl, hb5⟩))
          have HE := Lib.hid (HB.out.trans (hb5.mono HB.out.size))
          clear HC HC1 HC2 HC3 HK HW0 hb3 hb4 hb5
          go_wp2_with fail
          go_ret
          exact ⟨rfl, HE.out⟩
        · skip
          have hr : r = false := by
            rcases hend with h | h
            · simp at h
            · exact h
          subst hr
          clear HC HK hend
          have HE := HB
          clear HB
          go_enter Tryz.func12, Tryz.ntmps12
          go_wp2_with fail
          rw [← HW0.out]
          go_wp2_with fail
          go_ret
          exact ⟨rfl, HE.out⟩
    · skip
      have hr : r = false := by
        rcases hend with h | h
        · simp at h
        · exact h
      subst hr
      clear HC HK hend
      have HE := HB
      clear HB
      go_enter Tryz.func12, Tryz.ntmps12
      go_wp2_with fail
      rw [← HW0.out]
      go_wp2_with fail
      go_ret
      exact ⟨rfl, HE.out⟩
end Go.Proofs.YtomoemgoglghlaaGreatDoor

/-
  The ratio laws' own helpers: Great.
-/
set_option linter.unusedVariables false
set_option linter.unusedSimpArgs false
namespace Go.Proofs.YtomoemgoglghlaaGreatDoor
open Go.RowKit Rep

/-- A ratio's raw parts. -/
abbrev RawR := Bool × (Option Addr × Nat × Nat) × (Option Addr × Nat × Nat)
def rawV (t : RawR) : Value := .agg #[.bool t.1, .slice t.2.1.1 t.2.1.2.1 t.2.1.2.2, .slice t.2.2.1 t.2.2.2.1 t.2.2.2.2]
/-- From block g's beginning on lie ratios. -/
def Rats (w : World) (g : Nat) (ts : List RawR) : Prop := ∀ k t, ts[k]? = some t → w.cell? ⟨g, k * 3, none⟩ = some (.bool t.1) ∧ w.cell? ⟨g, k * 3 + 1, none⟩ = some (.slice t.2.1.1 t.2.1.2.1 t.2.1.2.2) ∧ w.cell? ⟨g, k * 3 + 2, none⟩ = some (.slice t.2.2.1 t.2.2.2.1 t.2.2.2.2)
def greatB (ts : List RawR) : Bool := ts.any fun t => decide (6 < t.2.1.2.1) || decide (6 < t.2.2.2.1)

set_option maxRecDepth 100000 in
set_option maxHeartbeats 1000000 in
theorem Great_any (g c : Nat) (ts : List RawR) (w : World) (hr : Rats w g ts) (hg : g < w.heap.size) (hl : ts.length ≤ 1000) :
    Calls Tryz.prog 11 #[.slice (some ⟨g, 0, none⟩) ts.length c] w (GivesB (greatB ts) w) := by
  go_enter Tryz.func11, Tryz.ntmps11
  go_wp2_with fail
  go_loopw [7] (fun i wr => ∃ k : Nat, k ≤ ts.length ∧ i = .int .i64 k ∧ Hid (greatB (ts.take k) = false) ∧ Below w.heap.size w wr) (fun i _ => ts.length - (intOf i).toNat)
  case atStart => exact ⟨0, Nat.zero_le _, rfl, Lib.hid rfl, Below.refl _ _⟩
  case round =>
    obtain ⟨k, hk, rfl, HE, hb⟩ := hrel
    by_cases hlt : k < ts.length
    · obtain ⟨c0, c1, c2⟩ := hr k ts[k] (List.getElem?_eq_getElem hlt)
      have HT : Hid (ts.take (k + 1) = ts.take k ++ [ts[k]]) := Lib.hid (List.take_succ_eq_append_getElem hlt)
      have HM : Hid (ts[k] ∈ ts) := Lib.hid (List.getElem_mem hlt)
      generalize ts[k] = t at c0 c1 c2 HT HM
      obtain ⟨s, ⟨a1, l1, e1⟩, ⟨a2, l2, e2⟩⟩ := t
      dsimp only at c0 c1 c2
      have d0 := (hb.cell (p := ⟨g, k * 3, none⟩) hg).trans c0
      have d1 := (hb.cell (p := ⟨g, k * 3 + 1, none⟩) hg).trans c1
      have d2 := (hb.cell (p := ⟨g, k * 3 + 2, none⟩) hg).trans c2
      have HB := Lib.hid hb
      clear hb c0 c1 c2 hr
      have hgr : g < wr.heap.size := World.block_lt_of_cell? _ _ d0
      by_cases q1 : 6 < l1
      · have e1 : decide ((6 : Int) < (l1 : Int)) = true := decide_eq_true (by omega)
        have e2 : (6 : Int) < (l1 : Int) := by omega
        have HV : Hid (greatB ts = true) := Lib.hid (List.any_eq_true.2 ⟨_, HM.out, by simp [q1]⟩)
        rw [HV.out]
        clear q1 HE HT HM HV
        go_wp2_with fail
        go_ret
        exact ⟨rfl, HB.out.alloc HB.out.size _⟩
      · have e1 : decide ((6 : Int) < (l1 : Int)) = false := decide_eq_false (by omega)
        have e2 : ¬ (6 : Int) < (l1 : Int) := by omega
        by_cases q2 : 6 < l2
        · have e3 : decide ((6 : Int) < (l2 : Int)) = true := decide_eq_true (by omega)
          have HV : Hid (greatB ts = true) := Lib.hid (List.any_eq_true.2 ⟨_, HM.out, by simp [q2]⟩)
          rw [HV.out]
          have e4 : (6 : Int) < (l2 : Int) := by omega
          clear q1 q2 HE HT HM HV
          go_wp2_with fail
          go_ret
          exact ⟨rfl, HB.out.alloc HB.out.size _⟩
        · have e3 : decide ((6 : Int) < (l2 : Int)) = false := decide_eq_false (by omega)
          have e4 : ¬ (6 : Int) < (l2 : Int) := by omega
          have HV : Hid (greatB (ts.take (k + 1)) = false) := Lib.hid (by
            have := HE.out
            unfold greatB at this ⊢
            rw [HT.out, List.any_append, this]
            simp [q1, q2])
          clear q1 q2 HE HT HM
          go_wp2_with fail
          go_roundw
          case rel => exact ⟨k + 1, by omega, by go_num, HV, HB.out.alloc HB.out.size _⟩
          case measure => simp [intOf]; omega
    · obtain rfl : k = ts.length := by omega
      have HB := Lib.hid hb
      clear hb hr
      go_wp2_with fail
      go_ret
      exact ⟨by have := HE.out; rw [List.take_length] at this; rw [this]; rfl, HB.out⟩

theorem Rats.one {W : World} {g : Nat} {ty : TypeId} {t : RawR} (h : W.heap[g]? = some (.cells #[.bool t.1, .slice t.2.1.1 t.2.1.2.1 t.2.1.2.2, .slice t.2.2.1 t.2.2.2.1 t.2.2.2.2] ty (0, 0))) : Rats W g [t] := by
  intro k x hk
  rcases k with _ | k
  · simp at hk; subst hk; simp [World.cell?, h]
  · simp at hk
theorem Rats.two {W : World} {g : Nat} {ty : TypeId} {t u : RawR} (h : W.heap[g]? = some (.cells #[.bool t.1, .slice t.2.1.1 t.2.1.2.1 t.2.1.2.2, .slice t.2.2.1 t.2.2.2.1 t.2.2.2.2, .bool u.1, .slice u.2.1.1 u.2.1.2.1 u.2.1.2.2, .slice u.2.2.1 u.2.2.2.1 u.2.2.2.2] ty (0, 0))) : Rats W g [t, u] := by
  intro k x hk
  rcases k with _ | _ | k
  · simp at hk; subst hk; simp [World.cell?, h]
  · simp at hk; subst hk; simp [World.cell?, h]
  · simp at hk
theorem Rats.three {W : World} {g : Nat} {ty : TypeId} {t u v : RawR} (h : W.heap[g]? = some (.cells #[.bool t.1, .slice t.2.1.1 t.2.1.2.1 t.2.1.2.2, .slice t.2.2.1 t.2.2.2.1 t.2.2.2.2, .bool u.1, .slice u.2.1.1 u.2.1.2.1 u.2.1.2.2, .slice u.2.2.1 u.2.2.2.1 u.2.2.2.2, .bool v.1, .slice v.2.1.1 v.2.1.2.1 v.2.1.2.2, .slice v.2.2.1 v.2.2.2.1 v.2.2.2.2] ty (0, 0))) : Rats W g [t, u, v] := by
  intro k x hk
  rcases k with _ | _ | _ | k
  · simp at hk; subst hk; simp [World.cell?, h]
  · simp at hk; subst hk; simp [World.cell?, h]
  · simp at hk; subst hk; simp [World.cell?, h]
  · simp at hk
end Go.Proofs.YtomoemgoglghlaaGreatDoor
