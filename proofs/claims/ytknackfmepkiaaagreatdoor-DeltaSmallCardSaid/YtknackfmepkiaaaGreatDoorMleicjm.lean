/- By program out of: RatCmp, RatText, RatTerm, RefRight, RatLaw, RatHand, RatTold, RatSt, RatPair, DelBase, DelRef, DelCmp. -/
import Derived.Test.YtknackfmepkiaaaGreatDoorMflfaoc
import Derived.IntWalk
/-
  ratio.Cmp.
-/
set_option linter.unusedVariables false
set_option linter.unusedSimpArgs false
namespace Go.Proofs.YtknackfmepkiaaaGreatDoor
open Go.RowKit Rep

theorem wrap_small {a : Int} (h1 : -1 ≤ a) (h2 : a ≤ 1) : IntKind.i64.wrap a = a := by
  exact IntWalk.i64_in _ (by omega)
theorem RatX.sign_from {W0 : World} {s : Bool} {a1 : Option Addr} {l1 c1 : Nat} {a2 : Option Addr} {l2 c2 : Nat} {n d d0 : Nat} {q : Rat} (h : RatX W0 s a1 l1 c1 a2 l2 c2 n d d0 q) (W : World) (hb : Below W0.heap.size W0 W) :
    Calls Tryz.prog 81 #[ratV s (.slice a1 l1 c1) (.slice a2 l2 c2)] W (fun e W' => e = .returned (.int .i64 (cmpQ q 0)) ∧ Below W0.heap.size W0 W') :=
  (Sign_q (h.kept hb)).mono fun e W' hg => ⟨hg.1, hb.trans (hg.2.mono hb.size)⟩

set_option maxRecDepth 100000 in
set_option maxHeartbeats 8000000 in
theorem CmpP_q {w : World} {sx sy : Bool} {ax bx ay by' : Option Addr} {lx cx kx ex ly cy ky ey nx dx dx0 ny dy dy0 : Nat} {x y : Rat} (hx : RatX w sx ax lx cx bx kx ex nx dx dx0 x) (hy : RatX w sy ay ly cy by' ky ey ny dy dy0 y) :
    Calls Tryz.prog 38 #[ratV sx (.slice ax lx cx) (.slice bx kx ex), ratV sy (.slice ay ly cy) (.slice by' ky ey)] w (GivesInt (cmpQ x y) w) := by
  obtain ⟨W0, hW0, hB0, b1, b2, hs⟩ := boxes2 w #[.bool sx, .slice ax lx cx, .slice bx kx ex] #[.bool sy, .slice ay ly cy, .slice by' ky ey] 30 30
  have hx0 := hx.kept hB0
  have hy0 := hy.kept hB0
  have HS1 := Lib.hid hx0.sign_from
  have HS2 := Lib.hid hy0.sign_from
  have HK := Lib.hid (keep6 b1 b2)
  have HW0 := Lib.hid hW0
  have HB0 := Lib.hid hB0
  obtain ⟨k0, k1, k2, j0, j1, j2⟩ := cells3 b1
  obtain ⟨k3, k4, k5, j3, j4, j5⟩ := cells3 b2
  by_cases hd : cmpQ x 0 = cmpQ y 0
  · have hsame := cmpQ_same hd
    have hb : ((cmpQ x 0 : Int) != cmpQ y 0) = false := by rw [hd]; simp
    obtain ⟨mx, mx2⟩ := mkQ_cop sx hx0.pos hx0.cop
    obtain ⟨my, my2⟩ := mkQ_cop sy hy0.pos hy0.cop
    rw [hx0.is] at mx mx2
    rw [hy0.is] at my my2
    rw [mx, mx2, my, my2] at hsame
    have H0 := Lib.hid (And.intro hx0 (And.intro hy0 (And.intro b1 (And.intro b2 hs))))
    have hv : -1 ≤ cmpQ x y ∧ cmpQ x y ≤ 1 := by rcases cmpQ_vals x y with h | h | h <;> omega
    have hwr := wrap_small hv.1 hv.2
    rw [← hsame] at hwr ⊢
    have HWR := Lib.hid hwr
    clear hW0 hB0 b1 b2 hs hx hy hx0 hy0 hsame hv mx mx2 my my2 hwr
    rw [← hd] at HS2 hb
    clear hd
    generalize cmpQ x 0 = sg at *
    unfold ratV at HS1 HS2 ⊢
    go_enter Tryz.func38, Tryz.ntmps38
    go_wp2_with fail
    rw [← HW0.out]
    go_region_held3 (fun w' => w'.cell? ⟨w.heap.size, 0, none⟩ = some (.bool (sx)) ∧ w'.cell? ⟨w.heap.size, 1, none⟩ = some (.slice ax lx cx) ∧ w'.cell? ⟨w.heap.size, 2, none⟩ = some (.slice bx kx ex) ∧ w'.cell? ⟨w.heap.size + 1, 0, none⟩ = some (.bool ( sy)) ∧ w'.cell? ⟨w.heap.size + 1, 1, none⟩ = some (.slice ay ly cy) ∧ w'.cell? ⟨w.heap.size + 1, 2, none⟩ = some (.slice by' ky ey)) (first | exact HK.out _ hb4 | exact HK.out _ hb3 | go_keep)
        (first
          | (go_at_call 81; (with_reducible refine (HS1.out _ (below_drew _)).mono ?_); rintro e w3 ⟨rfl, hb3⟩)
          | (go_at_call 81; (with_reducible refine (HS2.out _ hb3).mono ?_); rintro e w4 ⟨rfl, hb4⟩))
    obtain ⟨W1, hW1, hB1, hbe, c1', c2', e1, e2, hlt⟩ : ∃ W1, W1 = wayW w4 ∧ Below W0.heap.size W0 W1 ∧ Bench W1 w4.heap.size 2147483647 false ∧
        W1.heap[w.heap.size]? = some (.cells #[.bool sx, .slice ax lx cx, .slice bx kx ex] 30 (0, 0)) ∧ W1.heap[w.heap.size + 1]? = some (.cells #[.bool sy, .slice ay ly cy, .slice by' ky ey] 30 (0, 0)) ∧
        RatX W1 sx ax lx cx bx kx ex nx dx dx0 x ∧ RatX W1 sy ay ly cy by' ky ey ny dy dy0 y ∧ w.heap.size + 1 < w4.heap.size := by
      obtain ⟨q1, q2, q3, q4, q5⟩ := H0.out
      have h04 := hb4.trans ((wayW_below w4).mono hb4.size)
      have := hb4.size
      exact ⟨_, rfl, h04, wayW_bench w4, (h04.block _ (by omega)).trans q3, (h04.block _ (by omega)).trans q4, q1.kept h04, q2.kept h04, by omega⟩
    have HTX := Lib.hid (fun W (h : StepW w4.heap.size W1 W) => (through_any (s := sx) (a1 := ax) (l1 := lx) (c1 := cx) (h.num hbe e1.den)).mono fun e W' hg => (by
      rw [← e1.thr] at hg
      obtain ⟨a, l, c, he, hn, hl, hb⟩ := hg
      exact ⟨a, l, c, he, hn, by have := e1.s2; omega, h.below hb, StepW.below (StepW.refl h.2) hb⟩ : PostW w4.heap.size W1 W 10000 dx e W'))
    have HTY := Lib.hid (fun W (h : StepW w4.heap.size W1 W) => (through_any (s := sy) (a1 := ay) (l1 := ly) (c1 := cy) (h.num hbe e2.den)).mono fun e W' hg => (by
      rw [← e2.thr] at hg
      obtain ⟨a, l, c, he, hn, hl, hb⟩ := hg
      exact ⟨a, l, c, he, hn, by have := e2.s2; omega, h.below hb, StepW.below (StepW.refl h.2) hb⟩ : PostW w4.heap.size W1 W 10000 dy e W'))
    have HM : Hid (∀ (n : Nat) (a : Option Addr) (la ca : Nat) (_ : NumE W1 a la ca n) (_ : la ≤ 10000) (k : Nat) (W : World) (b : Option Addr) (lb cb : Nat), StepW w4.heap.size W1 W → NumE W b lb cb k → lb ≤ 10000 → Calls Tryz.prog 85 #[.pointer (some ⟨w4.heap.size, 0, none⟩), .slice a la ca, .slice b lb cb] W (PostW w4.heap.size W1 W 20000 (n * k))) := Lib.hid fun n a la ca h1 hl k W b lb cb h h2 hl2 => by
      refine (mulW h.2 (h.num hbe h1) h2 (by omega) W (StepW.refl h.2)).mono ?_
      rintro e W' ⟨a', l', c', rfl, hn, hl', hs1, hs2⟩
      exact ⟨a', l', c', rfl, hn, by omega, h.trans hs1, hs2⟩
    have HM1 := Lib.hid (HM.out nx ax lx cx e1.num e1.s1 dy)
    have HM2 := Lib.hid (HM.out ny ay ly cy e2.num e2.s1 dx)
    have HK2 := Lib.hid (keepS6 c1' c2' (by omega : w.heap.size ≠ w4.heap.size) (by omega : w.heap.size + 1 ≠ w4.heap.size))
    have HRF := Lib.hid (StepW.refl hbe)
    have HBW := Lib.hid (And.intro (HB0.out.trans (hB1.mono HB0.out.size)) (by have := HB0.out.size; omega : w.heap.size ≤ w4.heap.size))
    have HW1 := Lib.hid hW1
    clear hW1 hB1 hbe c1' c2' e1 e2 HM HK H0 HS1 HS2 hb3 hb4 HB0
    clear k0 k1 k2 k3 k4 k5 j0 j1 j2 j3 j4 j5
    obtain ⟨k0, k1, k2, k3, k4, k5⟩ := HK2.out _ HRF.out
    have HCM : Hid (∀ W a l c a' l' c', StepW w4.heap.size W1 W → NumE W a l c (nx * dy) → NumE W a' l' c' (ny * dx) → Calls Tryz.prog 86 #[.slice a l c, .slice a' l' c'] W (fun e W' => e = .returned (.int .i64 (cmpI ((nx * dy : Nat) : Int) ((ny * dx : Nat) : Int))) ∧ StepW w4.heap.size W1 W')) := Lib.hid fun W a l c a' l' c' h h1 h2 => (cmpE h1 h2).mono fun e W' hg => ⟨hg.1, h.below hg.2⟩
    generalize cmpI ((nx * dy : Nat) : Int) ((ny * dx : Nat) : Int) = cm at *
    generalize nx * dy = A at *
    generalize ny * dx = B at *
    unfold ratV at HTX HTY
    have hwr := HWR.out
    obtain ⟨r, hr⟩ : ∃ r, sg * cm = r := ⟨_, rfl⟩
    rw [hr] at hwr ⊢
    have HR := Lib.hid hr
    clear hr
    go_wp2_with fail
    refine (unbounded_any w4).mono ?_
    rintro e w7 ⟨rfl, rfl⟩
    rw [← HW1.out]
    generalize w4.heap.size = t at *
    go_wp2_with fail
    go_region_held3 (fun w' => w'.cell? ⟨w.heap.size, 0, none⟩ = some (.bool (sx)) ∧ w'.cell? ⟨w.heap.size, 1, none⟩ = some (.slice ax lx cx) ∧ w'.cell? ⟨w.heap.size, 2, none⟩ = some (.slice bx kx ex) ∧ w'.cell? ⟨w.heap.size + 1, 0, none⟩ = some (.bool ( sy)) ∧ w'.cell? ⟨w.heap.size + 1, 1, none⟩ = some (.slice ay ly cy) ∧ w'.cell? ⟨w.heap.size + 1, 2, none⟩ = some (.slice by' ky ey)) (first | exact HK2.out _ hp9 | exact HK2.out _ hp8 | exact HK2.out _ hp7 | exact HK2.out _ hp6 | exact HK2.out _ hp5 | go_keep)
        (first
          | (go_at_call 48; (with_reducible refine (HTY.out _ HRF.out.drew).mono ?_); rintro e w5 ⟨a5, l5, c5, rfl, d5, hl5, hp5, _⟩)
          | (go_at_call 85; (with_reducible refine (HM1.out _ _ _ _ hp5 d5 hl5).mono ?_); rintro e w6 ⟨a6, l6, c6, rfl, d6, hl6, hp6, _⟩)
          | (go_at_call 48; (with_reducible refine (HTX.out _ hp6).mono ?_); rintro e w7 ⟨a7, l7, c7, rfl, d7, hl7, hp7, hs7⟩; have d6' := hs7.num hp6.2 d6)
          | (go_at_call 85; (with_reducible refine (HM2.out _ _ _ _ hp7 d7 hl7).mono ?_); rintro e w8 ⟨a8, l8, c8, rfl, d8, hl8, hp8, hs8⟩; have d6'' := hs8.num hp7.2 d6')
          | (go_at_call 86; (with_reducible refine (HCM.out _ _ _ _ _ _ _ hp8 d6'' d8).mono ?_); rintro e w9 ⟨rfl, hp9⟩))
    have HE := Lib.hid (hp9.base HBW.out.1 HBW.out.2)
    clear HTX HTY HM1 HM2 HK2 HRF HBW HW1 HCM HW0
    go_wp2_with fail
    go_ret
    exact ⟨by rw [HR.out, hwr]; rfl, HE.out⟩
  · have hdif := cmpQ_diff hd
    have hb : ((cmpQ x 0 : Int) != cmpQ y 0) = true := by rw [bne_iff_ne]; exact hd
    rw [← hdif]
    have HC := Lib.hid (fun W => cmpInt_any (cmpQ x 0) (cmpQ y 0) W)
    clear hW0 hB0 b1 b2 hs hx hy hx0 hy0 hdif hd
    generalize cmpI (cmpQ x 0) (cmpQ y 0) = r at *
    generalize cmpQ x 0 = sg at *
    generalize cmpQ y 0 = sh at *
    unfold ratV at HS1 HS2 ⊢
    go_enter Tryz.func38, Tryz.ntmps38
    go_wp2_with fail
    rw [← HW0.out]
    go_region_held3 (fun w' => w'.cell? ⟨w.heap.size, 0, none⟩ = some (.bool (sx)) ∧ w'.cell? ⟨w.heap.size, 1, none⟩ = some (.slice ax lx cx) ∧ w'.cell? ⟨w.heap.size, 2, none⟩ = some (.slice bx kx ex) ∧ w'.cell? ⟨w.heap.size + 1, 0, none⟩ = some (.bool ( sy)) ∧ w'.cell? ⟨w.heap.size + 1, 1, none⟩ = some (.slice ay ly cy) ∧ w'.cell? ⟨w.heap.size + 1, 2, none⟩ = some (.slice by' ky ey)) (first | exact HK.out _ hb4 | exact HK.out _ hb3 | go_keep)
        (first
          | (go_at_call 81; (with_reducible refine (HS1.out _ (below_drew _)).mono ?_); rintro e w3 ⟨rfl, hb3⟩)
          | (go_at_call 81; (with_reducible refine (HS2.out _ hb3).mono ?_); rintro e w4 ⟨rfl, hb4⟩))
    have HE := Lib.hid (HB0.out.trans (hb4.mono HB0.out.size))
    clear HS1 HS2 HK HW0 hb3 hb4 HB0
    go_wp2_with fail
    refine (HC.out _).mono ?_
    rintro e w5 ⟨rfl, rfl⟩
    go_wp2_with fail
    go_ret
    exact ⟨rfl, HE.out⟩
end Go.Proofs.YtknackfmepkiaaaGreatDoor


/-
  ratio.Text, Term; the document's.
-/
set_option linter.unusedVariables false
set_option linter.unusedSimpArgs false
namespace Go.Proofs.YtknackfmepkiaaaGreatDoor
open Go.RowKit Rep

theorem textE {w : World} {a : Option Addr} {l c n : Nat} (h : NumE w a l c n) : Calls Tryz.prog 113 #[.slice a l c] w (GivesTxt n w) := by
  obtain ⟨xs, rfl, rfl, hx⟩ := h.ex
  exact Text_any a xs c w hx
theorem dlen_L {n k : Nat} (h : (L n).length ≤ k) : (D n).length ≤ 10 * k := by
  have := D_len_limbs (L_lim n)
  rw [V_L] at this
  omega
/-- A number's text. -/
def tN (n : Nat) : ByteArray := strOf (txt n)
theorem tN_len (n : Nat) : (tN n).size ≤ (D n).length + 1 := by
  show (strOf (txt n)).size ≤ _
  unfold strOf txt
  by_cases h : n = 0
  · rw [if_pos h]; show 1 ≤ _; omega
  · rw [if_neg h]
    show ((D n).reverse.map (fun d => UInt8.ofNat (48 + d))).toArray.size ≤ _
    simp
theorem bapp_assoc (a b c : ByteArray) : a ++ b ++ c = a ++ (b ++ c) := by
  apply ByteArray.ext
  simp [ByteArray.data_append]
/-- A ratio's text, of its parts' texts. -/
def textB (s o : Bool) (a b : ByteArray) : ByteArray := (if s = true then (⟨#[45]⟩ ++ a) else a) ++ (if o = true then ⟨#[]⟩ else (⟨#[47]⟩ ++ b))
def textQ (q : Rat) : ByteArray := textB (ngQ q) (decide (q.den = 1)) (tN (mgQ q)) (tN (denN q.den))
theorem textB_one (s : Bool) (a b : ByteArray) : textB s true a b = if s = true then (⟨#[45]⟩ ++ a) else a := by
  unfold textB
  rw [if_pos rfl]
  apply ByteArray.ext
  simp [ByteArray.data_append]
theorem textB_more (s : Bool) (a b : ByteArray) : textB s false a b = (if s = true then (⟨#[45]⟩ ++ a) else a) ++ (⟨#[47]⟩ ++ b) := rfl
/-- A call gives a text. -/
def GivesTx (v : ByteArray) (w : World) (e : Ending) (w' : World) : Prop := e = .returned (.string v) ∧ Below w.heap.size w w'

theorem den_gt {x : Rat} (hd : x.den ≠ 1) : 0 < (L (denN x.den)).length := by
  rw [Nat.pos_iff_ne_zero, Ne, L_len_zero]
  unfold denN
  rw [if_neg hd]
  have := den_pos x
  omega

set_option maxRecDepth 100000 in
set_option maxHeartbeats 1000000 in
theorem Text_q {w : World} {x : Rat} {a1 a2 : Option Addr} {c1 c2 : Nat} (hx : AtQ w a1 c1 a2 c2 x) (hs : szQ x ≤ 10000) :
    Calls Tryz.prog 80 #[qV x a1 c1 a2 c2] w (GivesTx (textQ x) w) := by
  have hb0 : Below w.heap.size w (w.alloc (.cells #[.bool (ngQ x), .slice a1 (L (mgQ x)).length c1, .slice a2 (L (denN x.den)).length c2] 30)) := (Below.refl _ _).alloc (Nat.le_refl _) _
  have hbl : (w.alloc (.cells #[.bool (ngQ x), .slice a1 (L (mgQ x)).length c1, .slice a2 (L (denN x.den)).length c2] 30)).heap[w.heap.size]? = some (.cells #[.bool (ngQ x), .slice a1 (L (mgQ x)).length c1, .slice a2 (L (denN x.den)).length c2] 30 (0, 0)) := heap_alloc_new w _
  have hs1 := hs
  unfold szQ at hs1
  have HT1 : Hid (Calls Tryz.prog 113 #[.slice a1 (L (mgQ x)).length c1] (w.alloc (.cells #[.bool (ngQ x), .slice a1 (L (mgQ x)).length c1, .slice a2 (L (denN x.den)).length c2] 30)) (GivesTx (tN (mgQ x)) (w.alloc (.cells #[.bool (ngQ x), .slice a1 (L (mgQ x)).length c1, .slice a2 (L (denN x.den)).length c2] 30)))) := Lib.hid (textE (NumE.of (hx.kept hb0).num (by omega)))
  have HT2 : Hid (∀ W, Below (w.alloc (.cells #[.bool (ngQ x), .slice a1 (L (mgQ x)).length c1, .slice a2 (L (denN x.den)).length c2] 30)).heap.size (w.alloc (.cells #[.bool (ngQ x), .slice a1 (L (mgQ x)).length c1, .slice a2 (L (denN x.den)).length c2] 30)) W → Calls Tryz.prog 113 #[.slice a2 (L (denN x.den)).length c2] W (GivesTx (tN (denN x.den)) W)) := Lib.hid (fun W h => textE (NumE.of ((hx.kept hb0).kept (w' := W) h).den (by omega)))
  have HK := Lib.hid (keep3 hbl)
  have HB := Lib.hid hb0
  have z1 := tN_len (mgQ x)
  have z2 := tN_len (denN x.den)
  have z3 := dlen_L (n := mgQ x) (k := 10000) (by omega)
  have z4 := dlen_L (n := denN x.den) (k := 10000) (by omega)
  have hz1 : (tN (mgQ x)).size ≤ 200000 := by omega
  have hz2 : (tN (denN x.den)).size ≤ 200000 := by omega
  have hgt : (x.den = 1 ∧ (L (denN x.den)).length = 0) ∨ (x.den ≠ 1 ∧ 0 < (L (denN x.den)).length) := by
    by_cases hd : x.den = 1
    · exact .inl ⟨hd, by rw [hd]; rfl⟩
    · exact .inr ⟨hd, den_gt hd⟩
  unfold textQ qV ratV
  clear hb0 hbl hx hs hs1 z1 z2 z3 z4
  generalize tN (mgQ x) = ta at *
  generalize tN (denN x.den) = tb at *
  generalize (L (mgQ x)).length = la at *
  generalize (L (denN x.den)).length = lb at *
  generalize ngQ x = s at *
  rcases hgt with ⟨h1, hgt⟩ | ⟨h1, hgt⟩
  · rw [decide_eq_true h1, textB_one]
    subst hgt
    clear h1
    cases s
    all_goals
      go_enter Tryz.func80, Tryz.ntmps80
      go_wp2_with fail
      refine HT1.out.mono ?_
      rintro e w1 ⟨rfl, hb1⟩
      obtain ⟨m0, m1, m2, n0, n1, n2⟩ := HK.out _ hb1
      have HE := Lib.hid (HB.out.trans (hb1.mono HB.out.size))
      clear hb1 HT1 HT2 HK
      go_wp2_with fail
      go_ret
      exact ⟨rfl, HE.out⟩
  · rw [decide_eq_false h1, textB_more]
    have hg1 : decide ((0 : Int) < (lb : Int)) = true := decide_eq_true (by omega)
    have hg2 : decide (0 < lb) = true := decide_eq_true hgt
    clear h1 hgt
    cases s
    all_goals
      go_enter Tryz.func80, Tryz.ntmps80
      go_wp2_with fail
      refine HT1.out.mono ?_
      rintro e w1 ⟨rfl, hb1⟩
      obtain ⟨m0, m1, m2, n0, n1, n2⟩ := HK.out _ hb1
      have HT3 := Lib.hid (HT2.out _ hb1)
      have HE1 := Lib.hid (HB.out.trans (hb1.mono HB.out.size))
      clear hb1 HT1 HT2 HK
      go_wp2_with fail
      refine HT3.out.mono ?_
      rintro e w2 ⟨rfl, hb2⟩
      have HE := Lib.hid (HE1.out.trans (hb2.mono HE1.out.size))
      clear hb2 HE1 HT3
      go_wp2_with fail
      go_ret
      exact ⟨rfl, HE.out⟩
end Go.Proofs.YtknackfmepkiaaaGreatDoor


/-
  ratio.Term; the document's Text, Term.
-/
set_option linter.unusedVariables false
set_option linter.unusedSimpArgs false
namespace Go.Proofs.YtknackfmepkiaaaGreatDoor
open Go.RowKit Rep

/-- A ratio's term, of its parts' texts. -/
def termB (s o : Bool) (a b : ByteArray) : ByteArray := if s = true then (⟨#[40, 45, 32]⟩ ++ (if o = true then a ++ ⟨#[46, 48]⟩ else (⟨#[40, 47, 32]⟩ ++ (a ++ ⟨#[46, 48]⟩) ++ ⟨#[32]⟩ ++ b ++ ⟨#[46, 48, 41]⟩)) ++ ⟨#[41]⟩) else (if o = true then a ++ ⟨#[46, 48]⟩ else (⟨#[40, 47, 32]⟩ ++ (a ++ ⟨#[46, 48]⟩) ++ ⟨#[32]⟩ ++ b ++ ⟨#[46, 48, 41]⟩))
def termQ (q : Rat) : ByteArray := termB (ngQ q) (decide (q.den = 1)) (tN (mgQ q)) (tN (denN q.den))
theorem termB_one (s : Bool) (a b : ByteArray) : termB s true a b = if s = true then (⟨#[40, 45, 32]⟩ ++ (a ++ ⟨#[46, 48]⟩) ++ ⟨#[41]⟩) else a ++ ⟨#[46, 48]⟩ := rfl
theorem termB_more (s : Bool) (a b : ByteArray) : termB s false a b = if s = true then (⟨#[40, 45, 32]⟩ ++ (⟨#[40, 47, 32]⟩ ++ (a ++ ⟨#[46, 48]⟩) ++ ⟨#[32]⟩ ++ b ++ ⟨#[46, 48, 41]⟩) ++ ⟨#[41]⟩) else (⟨#[40, 47, 32]⟩ ++ (a ++ ⟨#[46, 48]⟩) ++ ⟨#[32]⟩ ++ b ++ ⟨#[46, 48, 41]⟩) := rfl
/-- What the test for a denominator of 1 reads. -/
theorem den_reads {W : World} {a : Option Addr} {c M : Nat} (h : DAt W a c M) :
    (M = 1 → ∃ g off, a = some ⟨g, off, none⟩ ∧ 0 < (D M).length ∧ W.cell? ⟨g, off, none⟩ = some (.int .i64 1) ∧ True) ∧
    (M ≠ 1 → ((((D M).length : Nat) : Int) != 1) = true ∨ (((((D M).length : Nat) : Int) != 1) = false ∧ ∃ g off, a = some ⟨g, off, none⟩ ∧ 0 < (D M).length ∧ W.cell? ⟨g, off, none⟩ = some (.int .i64 (M : Int)) ∧ ((M : Int) != 1) = true)) := by
  constructor
  · intro h1
    subst h1
    obtain ⟨g, off, hga, hg, hc⟩ := h.1.open' (by rw [List.length_map, D_one]; simp)
    have hck := hc 0 (.int .i64 1) (by rw [D_one]; rfl)
    rw [Nat.add_zero] at hck
    exact ⟨g, off, hga, by rw [D_one]; simp, hck, trivial⟩
  · intro hM
    by_cases hl : (D M).length = 1
    · obtain ⟨hm, hDM⟩ := D_len1 hl
      obtain ⟨g, off, hga, hg, hc⟩ := h.1.open' (by rw [List.length_map]; omega)
      have hck := hc 0 (.int .i64 (M : Int)) (by rw [hDM]; rfl)
      rw [Nat.add_zero] at hck
      exact .inr ⟨by rw [hl]; rfl, g, off, hga, by omega, hck, by rw [bne_iff_ne]; omega⟩
    · exact .inl (by rw [bne_iff_ne]; omega)

end Go.Proofs.YtknackfmepkiaaaGreatDoor


/-
  The document's Right of ratios.
-/
set_option linter.unusedVariables false
set_option linter.unusedSimpArgs false
namespace Go.Proofs.YtknackfmepkiaaaGreatDoor
open Go.RowKit Rep

/-- The number that a sign and two rows of limbs tell. -/
def qOf (s : Bool) (xs ds : List Nat) : Rat := mkQ s (V xs) (if V ds = 0 then 1 else V ds)
/-- Is it in its one form? -/
def rightB (s : Bool) (xs ds : List Nat) : Bool := decide (s = ngQ (qOf s xs ds) ∧ xs = L (mgQ (qOf s xs ds)) ∧ ds = L (denN (qOf s xs ds).den))
theorem rightB_top {s : Bool} {xs ds : List Nat} (h : rightB s xs ds = true) : (xs.length ≠ 0 → xs.getD (xs.length - 1) 0 ≠ 0) ∧ (ds.length ≠ 0 → ds.getD (ds.length - 1) 0 ≠ 0) ∧ ¬ (xs.length = 0 ∧ s = true) := by
  obtain ⟨h1, h2, h3⟩ := of_decide_eq_true h
  have key : ∀ {n : Nat} {l : List Nat}, l = L n → l.length ≠ 0 → l.getD (l.length - 1) 0 ≠ 0 := fun {n l} e hl => by
    subst e; exact Nat.ne_of_gt (top_limb (M := n) (by omega))
  refine ⟨key h2, key h3, fun ⟨e1, e2⟩ => ?_⟩
  have e3 : mgQ (qOf s xs ds) = 0 := by rw [h2] at e1; exact L_len_zero.1 e1
  have e4 := mg_zero.1 e3
  rw [e4, e2] at h1
  cases h1
theorem last_limb {w : World} {a : Option Addr} {xs : List Nat} (h : Reads w a (xs.map u32v)) (hl : xs.length ≠ 0) : ∃ g off, a = some ⟨g, off, none⟩ ∧ g < w.heap.size ∧ w.cell? ⟨g, off + (xs.length - 1), none⟩ = some (.int .u32 ((xs.getD (xs.length - 1) 0 : Nat) : Int)) := by
  obtain ⟨g, off, rfl, hg, hcell⟩ := h.open' (by rw [List.length_map]; omega)
  exact ⟨g, off, rfl, hg, hcell (xs.length - 1) _ (map_getElem? (xs := xs) (by omega))⟩
/-- A row of limbs: empty; or with a last one, which is a nought, or none. -/
def Tail3 (w : World) (a : Option Addr) (l : Nat) (bad : Bool) : Prop :=
  (l = 0 ∧ bad = false) ∨ (∃ g off x : Nat, a = some ⟨g, off, none⟩ ∧ g < w.heap.size ∧ w.cell? ⟨g, off + (l - 1), none⟩ = some (.int .u32 (x : Int)) ∧ 0 < l ∧ ((x : Int) == 0) = bad)
theorem tail3 {w : World} {a : Option Addr} {xs : List Nat} (h : Reads w a (xs.map u32v)) : Tail3 w a xs.length (decide (xs.length ≠ 0 ∧ xs.getD (xs.length - 1) 0 = 0)) := by
  by_cases hl : xs.length = 0
  · exact .inl ⟨hl, by simp [hl]⟩
  · obtain ⟨g, off, ha, hg, hc⟩ := last_limb h hl
    refine .inr ⟨g, off, _, ha, hg, hc, by omega, ?_⟩
    generalize xs.getD (xs.length - 1) 0 = x
    rw [Bool.eq_iff_iff]
    simp [hl]

set_option maxRecDepth 100000 in
set_option maxHeartbeats 8000000 in
theorem RightR_any {w : World} {s : Bool} {a1 a2 : Option Addr} {c1 c2 : Nat} {xs ds : List Nat} (hx : NumIn w a1 c1 xs) (hd : NumIn w a2 c2 ds) (lx : xs.length ≤ 1000) (ld : ds.length ≤ 1000) :
    Calls Tryz.prog 82 #[ratV s (.slice a1 xs.length c1) (.slice a2 ds.length c2)] w (GivesB (rightB s xs ds) w) := by
  obtain ⟨W0, hW0⟩ : ∃ W0, W0 = w.alloc (.cells #[.bool s, .slice a1 xs.length c1, .slice a2 ds.length c2] 30) := ⟨_, rfl⟩
  have hB0 : Below w.heap.size w W0 := by rw [hW0]; exact (Below.refl _ _).alloc (Nat.le_refl _) _
  have b1 : W0.heap[w.heap.size]? = some (.cells #[.bool s, .slice a1 xs.length c1, .slice a2 ds.length c2] 30 (0, 0)) := by rw [hW0]; exact heap_alloc_new w _
  have t1 := tail3 hx.reads
  have t2 := tail3 hd.reads
  have htop := @rightB_top s xs ds
  have HC : Hid (∀ W, Below W0.heap.size W0 W → Calls Tryz.prog 19 #[ratV s (.slice a1 xs.length c1) (.slice a2 ds.length c2)] W (fun e W' => ∃ a3 l3 c3 a4 l4 c4, e = .returned (.agg #[.bool s, .slice a3 l3 c3, .slice a4 l4 c4]) ∧ Below W0.heap.size W0 W' ∧
      Hid (Calls Tryz.prog 12 #[.agg #[.bool s, .slice a3 l3 c3, .slice a4 l4 c4]] W' (fun e W2 => ∃ t a5 l5 c5 a6 l6 c6, e = .returned (.agg #[.bool t, .slice a5 l5 c5, .slice a6 l6 c6]) ∧ Below W0.heap.size W0 W2 ∧
        Hid (Calls Tryz.prog 11 #[ratV s (.slice a1 xs.length c1) (.slice a2 ds.length c2), .agg #[.bool t, .slice a5 l5 c5, .slice a6 l6 c6]] W2 (fun e W3 => e = .returned (.bool (rightB s xs ds)) ∧ Below W0.heap.size W0 W3)))))) := Lib.hid fun W h => by
    have hx1 := (hx.kept hB0).kept h
    have hd1 := (hd.kept hB0).kept h
    refine (Of_any s a1 a2 xs.length c1 ds.length c2 (V xs) (V ds) W (.inn hx1) (.inn hd1) (by omega) (by omega)).mono ?_
    rintro e W' ⟨a3, c3, a4, c4, rfl, d3, d4, hb1⟩
    have hB1 := h.trans (hb1.mono h.size)
    have hp : 0 < (if V ds = 0 then 1 else V ds) := by split <;> omega
    have q1 : (D (V xs)).length ≤ 1000000 := by have := dlen_L (V_len hx.lim (Nat.le_refl _)); omega
    have q2 : (D (if V ds = 0 then 1 else V ds)).length ≤ 1000000 := by
      split
      · rw [D_one]; simp
      · have := dlen_L (V_len hd.lim (Nat.le_refl _)); omega
    refine ⟨a3, _, c3, a4, _, c4, rfl, hB1, Lib.hid ((Form_q (s := s) d3 d4 hp q1 q2).mono ?_)⟩
    rintro e W2 ⟨a5, c5, a6, c6, rfl, hq, hb2⟩
    have hB2 := hB1.trans (hb2.mono hB1.size)
    refine ⟨_, a5, _, c5, a6, _, c6, rfl, hB2, Lib.hid ((SameR_any s _ a1 a2 a5 a6 c1 c2 c5 c6 xs ds (L (mgQ (qOf s xs ds))) (L (denN (qOf s xs ds).den)) W2 (((hx1.kept hb1).kept hb2).reads) (((hd1.kept hb1).kept hb2).reads) hq.num.1 hq.den.1 (by omega) (by omega)).mono ?_)⟩
    rintro e W3 ⟨rfl, hb3⟩
    exact ⟨rfl, hB2.trans (hb3.mono hB2.size)⟩
  have HK : Hid (∀ W, Below W0.heap.size W0 W → W.cell? ⟨w.heap.size, 0, none⟩ = some (.bool s) ∧ W.cell? ⟨w.heap.size, 1, none⟩ = some (.slice a1 xs.length c1) ∧ W.cell? ⟨w.heap.size, 2, none⟩ = some (.slice a2 ds.length c2)) := Lib.hid fun W h => by
    obtain ⟨q0, q1, q2, _⟩ := keep3 b1 W h
    exact ⟨q0, q1, q2⟩
  have HB := Lib.hid hB0
  have HW0 := Lib.hid hW0
  obtain ⟨k0, k1, k2, j0, j1, j2⟩ := cells3 b1
  have hV : rightB s xs ds = true → decide (xs.length ≠ 0 ∧ xs.getD (xs.length - 1) 0 = 0) = false ∧ decide (ds.length ≠ 0 ∧ ds.getD (ds.length - 1) 0 = 0) = false ∧ (xs.length = 0 → s = false) := fun h => by
    obtain ⟨f1, f2, f3⟩ := htop h
    exact ⟨decide_eq_false fun c => f1 c.1 c.2, decide_eq_false fun c => f2 c.1 c.2, fun e => by cases s <;> first | rfl | exact absurd ⟨e, rfl⟩ f3⟩
  clear hW0 hB0 b1 hx hd htop
  generalize decide (xs.length ≠ 0 ∧ xs.getD (xs.length - 1) 0 = 0) = u1 at *
  generalize decide (ds.length ≠ 0 ∧ ds.getD (ds.length - 1) 0 = 0) = u2 at *
  generalize rightB s xs ds = r at *
  generalize xs.length = l1 at *
  generalize ds.length = l2 at *
  have hend : (u1 = false ∧ u2 = false ∧ (l1 = 0 → s = false)) ∨ r = false := by
    cases r
    · exact .inr rfl
    · exact .inl (hV rfl)
  unfold ratV at HC ⊢
  clear hV
  rcases t1 with ⟨rfl, rfl⟩ | ⟨g1, o1, x1, rfl, hgl1, hck1, hp1, hz1⟩
  · rcases t2 with ⟨rfl, rfl⟩ | ⟨g2, o2, x2, rfl, hgl2, hck2, hp2, hz2⟩
    · cases s
      · clear hend
        have HC1 := Lib.hid (HC.out _ (below_drew _))
        go_enter Tryz.func82, Tryz.ntmps82
        go_wp2_with fail
        rw [← HW0.out]
        go_region_held3 (fun w' => w'.cell? ⟨w.heap.size, 0, none⟩ = some (.bool (false)) ∧ w'.cell? ⟨w.heap.size, 1, none⟩ = some (.slice a1 0 c1) ∧ w'.cell? ⟨w.heap.size, 2, none⟩ = some (.slice a2 0 c2)) (first | exact HK.out _ hb5 | exact HK.out _ hb4 | exact HK.out _ hb3 | go_keep)
            (first
              | (go_at_call 19; (with_reducible refine HC1.out.mono ?_); rintro e w3 ⟨a3, l3, c3, a4, l4, c4, rfl, hb3, HC2⟩)
              | (go_at_call 12; (with_reducible refine HC2.out.mono ?_); rintro e w4 ⟨t, a5, l5, c5, a6, l6, c6, rfl, hb4, HC3⟩)
              | (go_at_call 11; (with_reducible refine HC3.out.mono ?_); rintro e w5 ⟨rfl, hb5⟩))
        have HE := Lib.hid (HB.out.trans (hb5.mono HB.out.size))
        clear HC HC1 HC2 HC3 HK HW0 hb3 hb4 hb5
        go_wp2_with fail
        go_ret
        exact ⟨rfl, HE.out⟩
      · skip
        have hr : r = false := by
          rcases hend with h | h
          · simp at h
          · exact h
        subst hr
        clear HC HK hend
        have HE := HB
        clear HB
        go_enter Tryz.func82, Tryz.ntmps82
        go_wp2_with fail
        rw [← HW0.out]
        go_wp2_with fail
        go_ret
        exact ⟨rfl, HE.out⟩
    · skip
      have hg2a : decide ((0 : Int) < (l2 : Int)) = true := decide_eq_true (by omega)
      have hg2b : decide (0 < l2) = true := decide_eq_true hp2
      have hg2c : ((l2 : Int) == 0) = false := cast_beq_no (by omega)
      have hi2 : ((l2 : Int) - 1).toNat = l2 - 1 := by omega
      cases u2
      · cases s
        · clear hend
          have HC1 := Lib.hid (HC.out _ (below_drew _))
          go_enter Tryz.func82, Tryz.ntmps82
          go_wp2_with fail
          rw [← HW0.out]
          go_region_held3 (fun w' => w'.cell? ⟨w.heap.size, 0, none⟩ = some (.bool (false)) ∧ w'.cell? ⟨w.heap.size, 1, none⟩ = some (.slice a1 0 c1) ∧ w'.cell? ⟨w.heap.size, 2, none⟩ = some (.slice (some ⟨g2, o2, none⟩) l2 c2)) (first | exact HK.out _ hb5 | exact HK.out _ hb4 | exact HK.out _ hb3 | go_keep)
              (first
                | (go_at_call 19; (with_reducible refine HC1.out.mono ?_); rintro e w3 ⟨a3, l3, c3, a4, l4, c4, rfl, hb3, HC2⟩)
                | (go_at_call 12; (with_reducible refine HC2.out.mono ?_); rintro e w4 ⟨t, a5, l5, c5, a6, l6, c6, rfl, hb4, HC3⟩)
                | (go_at_call 11; (with_reducible refine HC3.out.mono ?_); rintro e w5 ⟨rfl, hb5⟩))
          have HE := Lib.hid (HB.out.trans (hb5.mono HB.out.size))
          clear HC HC1 HC2 HC3 HK HW0 hb3 hb4 hb5
          go_wp2_with fail
          go_ret
          exact ⟨rfl, HE.out⟩
        · skip
          have hr : r = false := by
            rcases hend with h | h
            · simp at h
            · exact h
          subst hr
          clear HC HK hend
          have HE := HB
          clear HB
          go_enter Tryz.func82, Tryz.ntmps82
          go_wp2_with fail
          rw [← HW0.out]
          go_wp2_with fail
          go_ret
          exact ⟨rfl, HE.out⟩
      · skip
        have hr : r = false := by
          rcases hend with h | h
          · simp at h
          · exact h
        subst hr
        clear HC HK hend
        have HE := HB
        clear HB
        go_enter Tryz.func82, Tryz.ntmps82
        go_wp2_with fail
        rw [← HW0.out]
        go_wp2_with fail
        go_ret
        exact ⟨rfl, HE.out⟩
  · skip
    have hg1a : decide ((0 : Int) < (l1 : Int)) = true := decide_eq_true (by omega)
    have hg1b : decide (0 < l1) = true := decide_eq_true hp1
    have hg1c : ((l1 : Int) == 0) = false := cast_beq_no (by omega)
    have hi1 : ((l1 : Int) - 1).toNat = l1 - 1 := by omega
    cases u1
    · rcases t2 with ⟨rfl, rfl⟩ | ⟨g2, o2, x2, rfl, hgl2, hck2, hp2, hz2⟩
      · clear hend
        have HC1 := Lib.hid (HC.out _ (below_drew _))
        go_enter Tryz.func82, Tryz.ntmps82
        go_wp2_with fail
        rw [← HW0.out]
        go_region_held3 (fun w' => w'.cell? ⟨w.heap.size, 0, none⟩ = some (.bool (s)) ∧ w'.cell? ⟨w.heap.size, 1, none⟩ = some (.slice (some ⟨g1, o1, none⟩) l1 c1) ∧ w'.cell? ⟨w.heap.size, 2, none⟩ = some (.slice a2 0 c2)) (first | exact HK.out _ hb5 | exact HK.out _ hb4 | exact HK.out _ hb3 | go_keep)
            (first
              | (go_at_call 19; (with_reducible refine HC1.out.mono ?_); rintro e w3 ⟨a3, l3, c3, a4, l4, c4, rfl, hb3, HC2⟩)
              | (go_at_call 12; (with_reducible refine HC2.out.mono ?_); rintro e w4 ⟨t, a5, l5, c5, a6, l6, c6, rfl, hb4, HC3⟩)
              | (go_at_call 11; (with_reducible refine HC3.out.mono ?_); rintro e w5 ⟨rfl, hb5⟩))
        have HE := Lib.hid (HB.out.trans (hb5.mono HB.out.size))
        clear HC HC1 HC2 HC3 HK HW0 hb3 hb4 hb5
        go_wp2_with fail
        go_ret
        exact ⟨rfl, HE.out⟩
      · skip
        have hg2a : decide ((0 : Int) < (l2 : Int)) = true := decide_eq_true (by omega)
        have hg2b : decide (0 < l2) = true := decide_eq_true hp2
        have hg2c : ((l2 : Int) == 0) = false := cast_beq_no (by omega)
        have hi2 : ((l2 : Int) - 1).toNat = l2 - 1 := by omega
        cases u2
        · clear hend
          have HC1 := Lib.hid (HC.out _ (below_drew _))
          go_enter Tryz.func82, Tryz.ntmps82
          go_wp2_with fail
          rw [← HW0.out]
          go_region_held3 (fun w' => w'.cell? ⟨w.heap.size, 0, none⟩ = some (.bool (s)) ∧ w'.cell? ⟨w.heap.size, 1, none⟩ = some (.slice (some ⟨g1, o1, none⟩) l1 c1) ∧ w'.cell? ⟨w.heap.size, 2, none⟩ = some (.slice (some ⟨g2, o2, none⟩) l2 c2)) (first | exact HK.out _ hb5 | exact HK.out _ hb4 | exact HK.out _ hb3 | go_keep)
              (first
                | (go_at_call 19; (with_reducible refine HC1.out.mono ?_); rintro e w3 ⟨a3, l3, c3, a4, l4, c4, rfl, hb3, HC2⟩)
                | (go_at_call 12; (with_reducible refine HC2.out.mono ?_); rintro e w4 ⟨t, a5, l5, c5, a6, l6, c6, rfl, hb4, HC3⟩)
                | (go_at_call 11; (with_reducible refine HC3.out.mono ?_); rintro e w5 ⟨rfl, hb5⟩))
          have HE := Lib.hid (HB.out.trans (hb5.mono HB.out.size))
          clear HC HC1 HC2 HC3 HK HW0 hb3 hb4 hb5
          go_wp2_with fail
          go_ret
          exact ⟨rfl, HE.out⟩
        · skip
          have hr : r = false := by
            rcases hend with h | h
            · simp at h
            · exact h
          subst hr
          clear HC HK hend
          have HE := HB
          clear HB
          go_enter Tryz.func82, Tryz.ntmps82
          go_wp2_with fail
          rw [← HW0.out]
          go_wp2_with fail
          go_ret
          exact ⟨rfl, HE.out⟩
    · skip
      have hr : r = false := by
        rcases hend with h | h
        · simp at h
        · exact h
      subst hr
      clear HC HK hend
      have HE := HB
      clear HB
      go_enter Tryz.func82, Tryz.ntmps82
      go_wp2_with fail
      rw [← HW0.out]
      go_wp2_with fail
      go_ret
      exact ⟨rfl, HE.out⟩
end Go.Proofs.YtknackfmepkiaaaGreatDoor


/-
  The ratio laws' own helpers: Great.
-/
set_option linter.unusedVariables false
set_option linter.unusedSimpArgs false
namespace Go.Proofs.YtknackfmepkiaaaGreatDoor
open Go.RowKit Rep

/-- A ratio's raw parts. -/
abbrev RawR := Bool × (Option Addr × Nat × Nat) × (Option Addr × Nat × Nat)
def rawV (t : RawR) : Value := .agg #[.bool t.1, .slice t.2.1.1 t.2.1.2.1 t.2.1.2.2, .slice t.2.2.1 t.2.2.2.1 t.2.2.2.2]
/-- From block g's beginning on lie ratios. -/
def Rats (w : World) (g : Nat) (ts : List RawR) : Prop := ∀ k t, ts[k]? = some t → w.cell? ⟨g, k * 3, none⟩ = some (.bool t.1) ∧ w.cell? ⟨g, k * 3 + 1, none⟩ = some (.slice t.2.1.1 t.2.1.2.1 t.2.1.2.2) ∧ w.cell? ⟨g, k * 3 + 2, none⟩ = some (.slice t.2.2.1 t.2.2.2.1 t.2.2.2.2)
def greatB (ts : List RawR) : Bool := ts.any fun t => decide (6 < t.2.1.2.1) || decide (6 < t.2.2.2.1)

set_option maxRecDepth 100000 in
set_option maxHeartbeats 1000000 in
theorem Great_any (g c : Nat) (ts : List RawR) (w : World) (hr : Rats w g ts) (hg : g < w.heap.size) (hl : ts.length ≤ 1000) :
    Calls Tryz.prog 34 #[.slice (some ⟨g, 0, none⟩) ts.length c] w (GivesB (greatB ts) w) := by
  go_enter Tryz.func34, Tryz.ntmps34
  go_wp2_with fail
  go_loopw [7] (fun i wr => ∃ k : Nat, k ≤ ts.length ∧ i = .int .i64 k ∧ Hid (greatB (ts.take k) = false) ∧ Below w.heap.size w wr) (fun i _ => ts.length - (intOf i).toNat)
  case atStart => exact ⟨0, Nat.zero_le _, rfl, Lib.hid rfl, Below.refl _ _⟩
  case round =>
    obtain ⟨k, hk, rfl, HE, hb⟩ := hrel
    by_cases hlt : k < ts.length
    · obtain ⟨c0, c1, c2⟩ := hr k ts[k] (List.getElem?_eq_getElem hlt)
      have HT : Hid (ts.take (k + 1) = ts.take k ++ [ts[k]]) := Lib.hid (List.take_succ_eq_append_getElem hlt)
      have HM : Hid (ts[k] ∈ ts) := Lib.hid (List.getElem_mem hlt)
      generalize ts[k] = t at c0 c1 c2 HT HM
      obtain ⟨s, ⟨a1, l1, e1⟩, ⟨a2, l2, e2⟩⟩ := t
      dsimp only at c0 c1 c2
      have d0 := (hb.cell (p := ⟨g, k * 3, none⟩) hg).trans c0
      have d1 := (hb.cell (p := ⟨g, k * 3 + 1, none⟩) hg).trans c1
      have d2 := (hb.cell (p := ⟨g, k * 3 + 2, none⟩) hg).trans c2
      have HB := Lib.hid hb
      clear hb c0 c1 c2 hr
      have hgr : g < wr.heap.size := World.block_lt_of_cell? _ _ d0
      by_cases q1 : 6 < l1
      · have e1 : decide ((6 : Int) < (l1 : Int)) = true := decide_eq_true (by omega)
        have e2 : (6 : Int) < (l1 : Int) := by omega
        have HV : Hid (greatB ts = true) := Lib.hid (List.any_eq_true.2 ⟨_, HM.out, by simp [q1]⟩)
        rw [HV.out]
        clear q1 HE HT HM HV
        go_wp2_with fail
        go_ret
        exact ⟨rfl, HB.out.alloc HB.out.size _⟩
      · have e1 : decide ((6 : Int) < (l1 : Int)) = false := decide_eq_false (by omega)
        have e2 : ¬ (6 : Int) < (l1 : Int) := by omega
        by_cases q2 : 6 < l2
        · have e3 : decide ((6 : Int) < (l2 : Int)) = true := decide_eq_true (by omega)
          have HV : Hid (greatB ts = true) := Lib.hid (List.any_eq_true.2 ⟨_, HM.out, by simp [q2]⟩)
          rw [HV.out]
          have e4 : (6 : Int) < (l2 : Int) := by omega
          clear q1 q2 HE HT HM HV
          go_wp2_with fail
          go_ret
          exact ⟨rfl, HB.out.alloc HB.out.size _⟩
        · have e3 : decide ((6 : Int) < (l2 : Int)) = false := decide_eq_false (by omega)
          have e4 : ¬ (6 : Int) < (l2 : Int) := by omega
          have HV : Hid (greatB (ts.take (k + 1)) = false) := Lib.hid (by
            have := HE.out
            unfold greatB at this ⊢
            rw [HT.out, List.any_append, this]
            simp [q1, q2])
          clear q1 q2 HE HT HM
          go_wp2_with fail
          go_roundw
          case rel => exact ⟨k + 1, by omega, by go_num, HV, HB.out.alloc HB.out.size _⟩
          case measure => simp [intOf]; omega
    · obtain rfl : k = ts.length := by omega
      have HB := Lib.hid hb
      clear hb hr
      go_wp2_with fail
      go_ret
      exact ⟨by have := HE.out; rw [List.take_length] at this; rw [this]; rfl, HB.out⟩

theorem Rats.one {W : World} {g : Nat} {ty : TypeId} {t : RawR} (h : W.heap[g]? = some (.cells #[.bool t.1, .slice t.2.1.1 t.2.1.2.1 t.2.1.2.2, .slice t.2.2.1 t.2.2.2.1 t.2.2.2.2] ty (0, 0))) : Rats W g [t] := by
  intro k x hk
  rcases k with _ | k
  · simp at hk; subst hk; simp [World.cell?, h]
  · simp at hk
theorem Rats.two {W : World} {g : Nat} {ty : TypeId} {t u : RawR} (h : W.heap[g]? = some (.cells #[.bool t.1, .slice t.2.1.1 t.2.1.2.1 t.2.1.2.2, .slice t.2.2.1 t.2.2.2.1 t.2.2.2.2, .bool u.1, .slice u.2.1.1 u.2.1.2.1 u.2.1.2.2, .slice u.2.2.1 u.2.2.2.1 u.2.2.2.2] ty (0, 0))) : Rats W g [t, u] := by
  intro k x hk
  rcases k with _ | _ | k
  · simp at hk; subst hk; simp [World.cell?, h]
  · simp at hk; subst hk; simp [World.cell?, h]
  · simp at hk
theorem Rats.three {W : World} {g : Nat} {ty : TypeId} {t u v : RawR} (h : W.heap[g]? = some (.cells #[.bool t.1, .slice t.2.1.1 t.2.1.2.1 t.2.1.2.2, .slice t.2.2.1 t.2.2.2.1 t.2.2.2.2, .bool u.1, .slice u.2.1.1 u.2.1.2.1 u.2.1.2.2, .slice u.2.2.1 u.2.2.2.1 u.2.2.2.2, .bool v.1, .slice v.2.1.1 v.2.1.2.1 v.2.1.2.2, .slice v.2.2.1 v.2.2.2.1 v.2.2.2.2] ty (0, 0))) : Rats W g [t, u, v] := by
  intro k x hk
  rcases k with _ | _ | _ | k
  · simp at hk; subst hk; simp [World.cell?, h]
  · simp at hk; subst hk; simp [World.cell?, h]
  · simp at hk; subst hk; simp [World.cell?, h]
  · simp at hk
end Go.Proofs.YtknackfmepkiaaaGreatDoor


/-
  A ratio that a law is handed.
-/
set_option linter.unusedVariables false
set_option linter.unusedSimpArgs false
namespace Go.Proofs.YtknackfmepkiaaaGreatDoor
open Go.RowKit Rep

/-- A call tells that it holds. -/
def Says (w : World) (e : Ending) (w' : World) : Prop := e = .returned (.bool true) ∧ Below w.heap.size w w'

/-- A ratio that a law is handed. -/
structure HandR (w : World) (a1 : Option Addr) (c1 : Nat) (xs : List Nat) (a2 : Option Addr) (c2 : Nat) (ds : List Nat) : Prop where
  num : Handed w a1 c1 xs
  den : Handed w a2 c2 ds
theorem HandR.kept {w w' : World} {a1 : Option Addr} {c1 : Nat} {xs : List Nat} {a2 : Option Addr} {c2 : Nat} {ds : List Nat} (h : HandR w a1 c1 xs a2 c2 ds) (hb : Below w.heap.size w w') : HandR w' a1 c1 xs a2 c2 ds := ⟨h.num.kept hb, h.den.kept hb⟩
/-- Ratios that aren't great, as raw rows. -/
theorem great_two {s t : Bool} {a1 a2 b1 b2 : Option Addr} {c1 c2 e1 e2 l1 l2 k1 k2 : Nat} (h : greatB [(s, (a1, l1, c1), (a2, l2, c2)), (t, (b1, k1, e1), (b2, k2, e2))] = false) : l1 ≤ 6 ∧ l2 ≤ 6 ∧ k1 ≤ 6 ∧ k2 ≤ 6 := by
  simp [greatB] at h
  omega
theorem RightR_any' {w : World} {s : Bool} {a1 a2 : Option Addr} {c1 c2 : Nat} {xs ds : List Nat} (h : HandR w a1 c1 xs a2 c2 ds) (lx : xs.length ≤ 6) (ld : ds.length ≤ 6) :
    Calls Tryz.prog 82 #[.agg #[.bool s, .slice a1 xs.length c1, .slice a2 ds.length c2]] w (GivesB (rightB s xs ds) w) :=
  RightR_any (h.num.inn (by omega)) (h.den.inn (by omega)) (by omega) (by omega)

end Go.Proofs.YtknackfmepkiaaaGreatDoor


/-
  The ratio laws' helper told.
-/
set_option linter.unusedVariables false
set_option linter.unusedSimpArgs false
namespace Go.Proofs.YtknackfmepkiaaaGreatDoor
open Go.RowKit Rep

/-- A ratio's raw parts tell q. -/
structure VQ (q : Rat) (v : RawR) (W : World) : Prop where
  e0 : v.1 = ngQ q
  e1 : v.2.1.2.1 = (L (mgQ q)).length
  e2 : v.2.2.2.1 = (L (denN q.den)).length
  lies : AtQ W v.2.1.1 v.2.1.2.2 v.2.2.1 v.2.2.2.2 q
theorem VQ.kept {q : Rat} {v : RawR} {W W' : World} (h : VQ q v W) (hb : Below W.heap.size W W') : VQ q v W' := ⟨h.e0, h.e1, h.e2, h.lies.kept hb⟩
theorem VQ.set3 {q : Rat} {v : RawR} {W : World} {g : Nat} (h : VQ q v W) (hb : Blank W g) (s : Bool) (v1 v2 : Value) : VQ q v (Go.Proofs.YtknackfmepkiaaaGreatDoor.set3 W g s v1 v2) := ⟨h.e0, h.e1, h.e2, h.lies.set3 hb.rat _ _ _⟩

/-- Behind the closure's call. -/
structure T1 (w W0 : World) (b m : Nat) (q : Rat) (x : RawR) (W : World) : Prop where
  vx : VQ (outQ m q) x W
  bench : Bench W b m (ovQ m q)
  below : Below W0.heap.size W0 W
  eb : b = W0.heap.size
/-- Behind both calls. -/
structure T2 (w W0 : World) (b m : Nat) (q : Rat) (x y : RawR) (W : World) : Prop where
  vx : VQ (outQ m q) x W
  vy : VQ q y W
  bench : Bench W b m (ovQ m q)
  below : Below W0.heap.size W0 W
  eb : b = W0.heap.size
section
variable {w W0 W : World} {b m : Nat} {q : Rat} {x y : RawR}
theorem T1.kept {W' : World} (h : T1 w W0 b m q x W) (hb : Below W.heap.size W W') : T1 w W0 b m q x W' := ⟨h.vx.kept hb, h.bench.kept hb, h.below.trans (hb.mono h.below.size), h.eb⟩
theorem T2.kept {W' : World} (h : T2 w W0 b m q x y W) (hb : Below W.heap.size W W') : T2 w W0 b m q x y W' := ⟨h.vx.kept hb, h.vy.kept hb, h.bench.kept hb, h.below.trans (hb.mono h.below.size), h.eb⟩
theorem T2.alloc (h : T2 w W0 b m q x y W) (o : Obj) : T2 w W0 b m q x y (W.alloc o) := h.kept ((Below.refl _ _).alloc (Nat.le_refl _) _)
theorem T2.set3 {g : Nat} (h : T2 w W0 b m q x y W) (hb : Blank W g) (hg : W0.heap.size < g) (s : Bool) (v1 v2 : Value) : T2 w W0 b m q x y (Go.Proofs.YtknackfmepkiaaaGreatDoor.set3 W g s v1 v2) :=
  ⟨h.vx.set3 hb _ _ _, h.vy.set3 hb _ _ _, h.bench.set3 (by have := h.eb; omega) _ _ _, set3_below h.below (by omega), h.eb⟩

/-- Where a ratio's parts lie. -/
def LiesR (v : RawR) (g : Nat) (W : World) : Prop := W.heap[g]? = some (.cells #[.bool v.1, .slice v.2.1.1 v.2.1.2.1 v.2.1.2.2, .slice v.2.2.1 v.2.2.2.1 v.2.2.2.2] 30 (0, 0))
theorem LiesR.kept {v : RawR} {g : Nat} {W W' : World} (h : LiesR v g W) (hb : Below W.heap.size W W') : LiesR v g W' := (hb.block _ (Array.getElem?_eq_some_iff.1 h).1).trans h
theorem LiesR.new (v : RawR) (W : World) : LiesR v W.heap.size (W.alloc (.cells #[.bool v.1, .slice v.2.1.1 v.2.1.2.1 v.2.1.2.2, .slice v.2.2.1 v.2.2.2.1 v.2.2.2.2] 30)) := heap_alloc_new W _
theorem LiesR.alloc {v : RawR} {g : Nat} {W : World} (h : LiesR v g W) (o : Obj) : LiesR v g (W.alloc o) := h.kept ((Below.refl _ _).alloc (Nat.le_refl _) _)
theorem LiesR.put {g : Nat} {W : World} (h : Blank W g) (v : RawR) : LiesR v g (set3 W g v.1 (.slice v.2.1.1 v.2.1.2.1 v.2.1.2.2) (.slice v.2.2.1 v.2.2.2.1 v.2.2.2.2)) := by
  unfold Blank at h
  simp [LiesR, set3, World.setCell, Array.getElem?_modify, h]
theorem LiesR.past {v : RawR} {g k : Nat} {W : World} (h : LiesR v g W) (hne : g ≠ k) (s : Bool) (v1 v2 : Value) : LiesR v g (set3 W k s v1 v2) :=
  ((set3_grown W k s v1 v2).block _ (Array.getElem?_eq_some_iff.1 h).1 (by simpa using hne)).trans h
theorem Blank.past {g k : Nat} {W : World} (h : Blank W g) (hne : g ≠ k) (s : Bool) (v1 v2 : Value) : Blank (set3 W k s v1 v2) g :=
  ((set3_grown W k s v1 v2).block _ (Array.getElem?_eq_some_iff.1 h).1 (by simpa using hne)).trans h
theorem set3_size (W : World) (r : Nat) (s : Bool) (v1 v2 : Value) : (set3 W r s v1 v2).heap.size = W.heap.size := by simp [set3, World.setCell]

/-- Behind the region: where both answers lie. -/
structure ToldAt (w W0 : World) (b m : Nat) (q : Rat) (i : Nat × Nat × RawR × RawR) (W : World) : Prop where
  x : LiesR i.2.2.1 i.1 W
  y : LiesR i.2.2.2 i.2.1 W
  t : T2 w W0 b m q i.2.2.1 i.2.2.2 W

theorem T2.end0a (h : T2 w W0 b m q x y W) : ToldAt w W0 b m q (W.heap.size, W.heap.size + 1, x, y) ((W.alloc (.cells #[.bool x.1, .slice x.2.1.1 x.2.1.2.1 x.2.1.2.2, .slice x.2.2.1 x.2.2.2.1 x.2.2.2.2] 30)).alloc (.cells #[.bool y.1, .slice y.2.1.1 y.2.1.2.1 y.2.1.2.2, .slice y.2.2.1 y.2.2.2.1 y.2.2.2.2] 30)) :=
  ⟨(LiesR.new x W).alloc _, by simpa using LiesR.new y (W.alloc (.cells #[.bool x.1, .slice x.2.1.1 x.2.1.2.1 x.2.1.2.2, .slice x.2.2.1 x.2.2.2.1 x.2.2.2.2] 30)), (h.alloc _).alloc _⟩
theorem T2.end0b (h : T2 w W0 b m q x y W) : ToldAt w W0 b m q (W.heap.size + 1, W.heap.size, x, y) ((W.alloc (.cells #[.bool y.1, .slice y.2.1.1 y.2.1.2.1 y.2.1.2.2, .slice y.2.2.1 y.2.2.2.1 y.2.2.2.2] 30)).alloc (.cells #[.bool x.1, .slice x.2.1.1 x.2.1.2.1 x.2.1.2.2, .slice x.2.2.1 x.2.2.2.1 x.2.2.2.2] 30)) :=
  ⟨by simpa using LiesR.new x (W.alloc (.cells #[.bool y.1, .slice y.2.1.1 y.2.1.2.1 y.2.1.2.2, .slice y.2.2.1 y.2.2.2.1 y.2.2.2.2] 30)), (LiesR.new y W).alloc _, (h.alloc _).alloc _⟩
theorem T2.end1a {g : Nat} (h : T2 w W0 b m q x y W) (hb : Blank W g) (hg : W0.heap.size < g) : ToldAt w W0 b m q (g, W.heap.size, x, y) ((Go.Proofs.YtknackfmepkiaaaGreatDoor.set3 W g x.1 (.slice x.2.1.1 x.2.1.2.1 x.2.1.2.2) (.slice x.2.2.1 x.2.2.2.1 x.2.2.2.2)).alloc (.cells #[.bool y.1, .slice y.2.1.1 y.2.1.2.1 y.2.1.2.2, .slice y.2.2.1 y.2.2.2.1 y.2.2.2.2] 30)) :=
  ⟨(LiesR.put hb x).alloc _, by have := LiesR.new y (Go.Proofs.YtknackfmepkiaaaGreatDoor.set3 W g x.1 (.slice x.2.1.1 x.2.1.2.1 x.2.1.2.2) (.slice x.2.2.1 x.2.2.2.1 x.2.2.2.2)); rwa [set3_size] at this, (h.set3 hb hg _ _ _).alloc _⟩
theorem T2.end1b {g : Nat} (h : T2 w W0 b m q x y W) (hb : Blank W g) (hg : W0.heap.size < g) : ToldAt w W0 b m q (W.heap.size, g, x, y) ((Go.Proofs.YtknackfmepkiaaaGreatDoor.set3 W g y.1 (.slice y.2.1.1 y.2.1.2.1 y.2.1.2.2) (.slice y.2.2.1 y.2.2.2.1 y.2.2.2.2)).alloc (.cells #[.bool x.1, .slice x.2.1.1 x.2.1.2.1 x.2.1.2.2, .slice x.2.2.1 x.2.2.2.1 x.2.2.2.2] 30)) :=
  ⟨by have := LiesR.new x (Go.Proofs.YtknackfmepkiaaaGreatDoor.set3 W g y.1 (.slice y.2.1.1 y.2.1.2.1 y.2.1.2.2) (.slice y.2.2.1 y.2.2.2.1 y.2.2.2.2)); rwa [set3_size] at this, (LiesR.put hb y).alloc _, (h.set3 hb hg _ _ _).alloc _⟩
theorem T2.end2 {g k : Nat} (h : T2 w W0 b m q x y W) (hb : Blank W g) (hk : Blank W k) (hne : g ≠ k) (hg : W0.heap.size < g) (hg2 : W0.heap.size < k) :
    ToldAt w W0 b m q (g, k, x, y) (Go.Proofs.YtknackfmepkiaaaGreatDoor.set3 (Go.Proofs.YtknackfmepkiaaaGreatDoor.set3 W g x.1 (.slice x.2.1.1 x.2.1.2.1 x.2.1.2.2) (.slice x.2.2.1 x.2.2.2.1 x.2.2.2.2)) k y.1 (.slice y.2.1.1 y.2.1.2.1 y.2.1.2.2) (.slice y.2.2.1 y.2.2.2.1 y.2.2.2.2)) :=
  ⟨(LiesR.put hb x).past hne _ _ _, LiesR.put (hk.past (Ne.symm hne) _ _ _) y, (h.set3 hb hg _ _ _).set3 (hk.past (Ne.symm hne) _ _ _) hg2 _ _ _⟩
end

/-- The closure's call, in any world of the region. -/
theorem told_do2 {w W0 w1 W : World} {b m : Nat} {q : Rat} {f : FuncId} {p1 p2 : Value} (hw : Below w.heap.size w W0) (eb : b = W0.heap.size) (hb : Bench w1 b m false) (h1 : Below W0.heap.size W0 w1)
    (hdo : ∀ (W : World) (b : Nat), Below w.heap.size w W → Bench W b m false → w.heap.size ≤ b → Calls Tryz.prog f #[.pointer (some ⟨b, 0, none⟩), p1, p2] W (GivesQ b m q W)) (hW : Below w1.heap.size w1 W) :
    Calls Tryz.prog f #[.pointer (some ⟨b, 0, none⟩), p1, p2] W fun e W' => ∃ s x1 l1 k1 x2 l2 k2, e = .returned (.agg #[.bool s, .slice x1 l1 k1, .slice x2 l2 k2]) ∧ Hid (T1 w W0 b m q (s, (x1, l1, k1), (x2, l2, k2)) W') ∧ Hid (W.grownBy W' (some b)) := by
  have hB : Below W0.heap.size W0 W := h1.trans (hW.mono h1.size)
  refine (hdo W b (hw.trans (hB.mono hw.size)) (hb.kept hW) (by have := hw.size; omega)).mono ?_
  rintro e W' ⟨x1, k1, x2, k2, rfl, hx, hbe, hg⟩
  refine ⟨_, x1, _, k1, x2, _, k2, rfl, Lib.hid ⟨⟨rfl, rfl, rfl, hx⟩, hbe, ?_, eb⟩, Lib.hid hg⟩
  exact hB.grown hg hB.size (fun k hk => by cases hk; omega)
/-- The document's form, behind it. -/
theorem told_form {w W0 w3 W : World} {b m : Nat} {q : Rat} {x : RawR} {a1 a2 : Option Addr} {c1 c2 : Nat} (h : T1 w W0 b m q x w3) (hq : DgQ W0 a1 c1 a2 c2 q) (l1 : (D (mgQ q)).length ≤ 1000000) (l2 : (D q.den).length ≤ 1000000) (hW : Below w3.heap.size w3 W) :
    Calls Tryz.prog 12 #[.agg #[.bool (ngQ q), .slice a1 (D (mgQ q)).length c1, .slice a2 (D q.den).length c2]] W fun e W' => ∃ s y1 l1 k1 y2 l2 k2, e = .returned (.agg #[.bool s, .slice y1 l1 k1, .slice y2 l2 k2]) ∧ Hid (T2 w W0 b m q x (s, (y1, l1, k1), (y2, l2, k2)) W') ∧ Hid (Below W.heap.size W W') := by
  have h' := h.kept hW
  have hq' := hq.kept h'.below
  refine (Form_q (s := ngQ q) hq'.num hq'.den (den_pos q) l1 l2).mono ?_
  rw [mkQ_self]
  rintro e W' ⟨y1, k1, y2, k2, rfl, hy, hb⟩
  exact ⟨_, y1, _, k1, y2, _, k2, rfl, Lib.hid ⟨h'.vx.kept hb, ⟨rfl, rfl, rfl, hy⟩, h'.bench.kept hb, h'.below.trans (hb.mono h'.below.size), h'.eb⟩, Lib.hid hb⟩
/-- As every bench is made. -/
theorem new_for (n : Int) (h : n ≤ 9223372036854775807) : ∃ m : Nat, 1 ≤ m ∧ m ≤ maxLen ∧ max n 1 = (m : Int) ∧ ∀ w, Calls Tryz.prog 9 #[.int .i64 n] w (GivesBench m w) := by
  by_cases h1 : n < 1
  · exact ⟨1, by omega, by unfold maxLen; omega, by omega, fun w => new_low n w h1⟩
  · obtain ⟨m, rfl⟩ : ∃ m : Nat, n = (m : Int) := ⟨n.toNat, by omega⟩
    exact ⟨m, by omega, by unfold maxLen; omega, by omega, fun w => new_high m w (by omega) (by unfold maxLen; omega)⟩
theorem T1.lt {w W0 W : World} {b m : Nat} {q : Rat} {x : RawR} (h : T1 w W0 b m q x W) : W0.heap.size < W.heap.size := by have := h.bench.lt; have := h.eb; omega
theorem T2.lt {w W0 W : World} {b m : Nat} {q : Rat} {x y : RawR} (h : T2 w W0 b m q x y W) : W0.heap.size < W.heap.size := by have := h.bench.lt; have := h.eb; omega
theorem told_zero {w W0 W : World} {b m : Nat} {q : Rat} {y : RawR} {s : Bool} {y1 y2 : Option Addr} {l1 k1 l2 k2 : Nat} (h : T2 w W0 b m q (s, (y1, l1, k1), (y2, l2, k2)) y W) (ho : ovQ m q = true) (W1 : World) :
    Calls Tryz.prog 11 #[.agg #[.bool s, .slice y1 l1 k1, .slice y2 l2 k2], .agg #[.bool false, .slice none 0 0, .slice none 0 0]] W1 (GivesB true W1) := by
  have e0 := h.vx.e0
  have e1 := h.vx.e1
  have e2 := h.vx.e2
  have hq : outQ m q = 0 := by unfold outQ; rw [if_pos ho]
  rw [hq] at e0 e1 e2
  dsimp only at e0 e1 e2
  have z0 : ngQ 0 = false := by decide
  have z1 : (L (mgQ 0)).length = 0 := rfl
  have z2 : (L (denN (0 : Rat).den)).length = 0 := rfl
  rw [z0] at e0
  rw [z1] at e1
  rw [z2] at e2
  subst e0 e1 e2
  have := SameR_any false false y1 y2 none none k1 k2 0 0 [] [] [] [] W1 (.inl rfl) (.inl rfl) (.inl rfl) (.inl rfl) (by simp) (by simp)
  simpa [ratV] using this
theorem told_same {w W0 W : World} {b m : Nat} {q : Rat} {s t : Bool} {x1 x2 y1 y2 : Option Addr} {l1 k1 l2 k2 n1 j1 n2 j2 : Nat} (h : T2 w W0 b m q (s, (x1, l1, k1), (x2, l2, k2)) (t, (y1, n1, j1), (y2, n2, j2)) W) (ho : ovQ m q = false) (hs : szQ q ≤ 10000) (W1 : World) (hW : Below W.heap.size W W1) :
    Calls Tryz.prog 11 #[.agg #[.bool s, .slice x1 l1 k1, .slice x2 l2 k2], .agg #[.bool t, .slice y1 n1 j1, .slice y2 n2 j2]] W1 (GivesB true W1) := by
  have e0 := h.vx.e0
  have e1 := h.vx.e1
  have e2 := h.vx.e2
  have f0 := h.vy.e0
  have f1 := h.vy.e1
  have f2 := h.vy.e2
  have hx := h.vx.lies.kept hW
  have hy := h.vy.lies.kept hW
  have hq : outQ m q = q := by unfold outQ; rw [if_neg (by simp [ho])]
  rw [hq] at e0 e1 e2 hx
  dsimp only at e0 e1 e2 f0 f1 f2 hx hy
  subst e0 e1 e2 f0 f1 f2
  unfold szQ at hs
  have := SameR_any (ngQ q) (ngQ q) x1 x2 y1 y2 k1 k2 j1 j2 (L (mgQ q)) (L (denN q.den)) (L (mgQ q)) (L (denN q.den)) W1 hx.num.1 hx.den.1 hy.num.1 hy.den.1 (by omega) (by omega)
  simpa [ratV] using this
theorem OnlyEx.mk' {ι : Type} {A : ι → Act} {R : ι → World → Prop} {a : Act} {w : World} (h : ∃ i, a = A i ∧ R i w) : OnlyEx A R .normal a w := h
theorem Blank.ne {W : World} {g : Nat} (h : Blank W g) : g ≠ W.heap.size ∧ W.heap.size ≠ g ∧ g < W.heap.size := by
  have := (Array.getElem?_eq_some_iff.1 h).1
  omega
theorem far {w W0 W : World} (h : w.heap.size < W0.heap.size) (hb : Below W0.heap.size W0 W) : w.heap.size ≠ W.heap.size ∧ W.heap.size ≠ w.heap.size ∧ w.heap.size ≠ W.heap.size + 1 ∧ W.heap.size + 1 ≠ w.heap.size := by
  have := hb.size
  omega
theorem blank_second {W : World} (wa : World) (h : Below ((wa.alloc (.cells #[.bool false, .slice none 0 0, .slice none 0 0] 30)).alloc (.cells #[.bool false, .slice none 0 0, .slice none 0 0] 30)).heap.size ((wa.alloc (.cells #[.bool false, .slice none 0 0, .slice none 0 0] 30)).alloc (.cells #[.bool false, .slice none 0 0, .slice none 0 0] 30)) W) : Blank W (wa.heap.size + 1) := by
  refine Blank.kept ?_ h
  have := heap_alloc_new (wa.alloc (.cells #[.bool false, .slice none 0 0, .slice none 0 0] 30)) (.cells #[.bool false, .slice none 0 0, .slice none 0 0] 30)
  simpa [Blank] using this

end Go.Proofs.YtknackfmepkiaaaGreatDoor


/-
  A bench with room enough, and ratios: what its calls give, said of one state.
-/
set_option linter.unusedVariables false
set_option linter.unusedSimpArgs false
namespace Go.Proofs.YtknackfmepkiaaaGreatDoor
open Go.RowKit Rep

theorem L_pos_len {n : Nat} : (L n).length ≤ (L (denN n)).length + 1 := by
  unfold denN
  by_cases h : n = 1
  · rw [if_pos h, h]
    have : (L 1).length ≤ 1 := by rw [L_len]; omega
    omega
  · rw [if_neg h]; omega
theorem denN_le (n : Nat) : denN n ≤ n := by unfold denN; split <;> omega
theorem szQ_mk (s : Bool) (n : Nat) {d k : Nat} (hd : 0 < d) (h1 : (L n).length ≤ k) (h2 : (L d).length ≤ k) : szQ (mkQ s n d) ≤ k := by
  unfold szQ
  rw [mkQ_mg s n hd, mkQ_den s n hd]
  have e1 := L_le h1 (Nat.div_le_self n (Nat.gcd n d))
  have e2 := L_le h2 (Nat.le_trans (denN_le _) (Nat.div_le_self d (Nat.gcd n d)))
  omega
theorem szQ_parts (x : Rat) : (L (mgQ x)).length ≤ szQ x ∧ (L x.den).length ≤ szQ x + 1 := by
  have h := @L_pos_len x.den
  unfold szQ
  omega
theorem sumN_le (s : Bool) (a : Nat) (t : Bool) (b : Nat) : sumN s a t b ≤ a + b := by unfold sumN; split <;> (try split) <;> omega
theorem szQ_add (x y : Rat) : szQ (x + y) ≤ szQ x + szQ y + 3 := by
  obtain ⟨x1, x2⟩ := szQ_parts x
  obtain ⟨y1, y2⟩ := szQ_parts y
  rw [sum_q]
  refine szQ_mk _ _ (Nat.mul_pos (den_pos x) (den_pos y)) ?_ ?_
  · have h1 := L_mul x1 y2
    have h2 := L_mul y1 x2
    have h3 := L_le (L_add h1 h2) (sumN_le (ngQ x) (mgQ x * y.den) (ngQ y) (mgQ y * x.den))
    omega
  · have := L_mul x2 y2; omega
theorem szQ_mul (x y : Rat) : szQ (x * y) ≤ szQ x + szQ y + 3 := by
  obtain ⟨x1, x2⟩ := szQ_parts x
  obtain ⟨y1, y2⟩ := szQ_parts y
  rw [mul_q]
  refine szQ_mk _ _ (Nat.mul_pos (den_pos x) (den_pos y)) ?_ ?_
  · have := L_mul x1 y1; omega
  · have := L_mul x2 y2; omega
theorem szQ_neg (x : Rat) : szQ (-x) = szQ x := by unfold szQ; rw [neg_mg, neg_den]
theorem szQ_sub (x y : Rat) : szQ (x - y) ≤ szQ x + szQ y + 3 := by
  rw [Rat.sub_eq_add_neg]; have := szQ_add x (-y); rw [szQ_neg] at this; exact this
theorem ov_fits {m : Nat} {q : Rat} (h : szQ q ≤ m) : ovQ m q = false ∧ outQ m q = q := by
  have ho : ovQ m q = false := by unfold szQ at h; simp [ovQ, rO]; omega
  exact ⟨ho, by unfold outQ; rw [ho]; rfl⟩

theorem grownBy_trans' {W0 W1 W2 : World} {r : Option Nat} (h : W0.grownBy W1 r) (k : W1.grownBy W2 r) : W0.grownBy W2 r :=
  ⟨k.os.trans h.os, k.tape.trans h.tape, k.output.trans h.output, Nat.le_trans h.size k.size, fun i hi hne => (k.block i (Nat.lt_of_lt_of_le hi h.size) hne).trans (h.block i hi hne)⟩
/-- A ratio's raw parts, and the number that they are. -/
abbrev QV := RawR × Rat
structure OkQ (W : World) (t : QV) : Prop where
  sg : t.1.1 = ngQ t.2
  l1 : t.1.2.1.2.1 = (L (mgQ t.2)).length
  l2 : t.1.2.2.2.1 = (L (denN t.2.den)).length
  at' : AtQ W t.1.2.1.1 t.1.2.1.2.2 t.1.2.2.1 t.1.2.2.2.2 t.2
  sz : szQ t.2 ≤ 1000
theorem OkQ.kept {W W' : World} {t : QV} (h : OkQ W t) (hb : Below W.heap.size W W') : OkQ W' t := ⟨h.sg, h.l1, h.l2, h.at'.kept hb, h.sz⟩
theorem OkQ.bench {W W' : World} {b m : Nat} {o : Bool} {t : QV} (h : OkQ W t) (hb : Bench W b m o) (hg : W.grownBy W' (some b)) : OkQ W' t := ⟨h.sg, h.l1, h.l2, h.at'.bench hb hg, h.sz⟩
/-- A bench that isn't over, a variable that holds it, and ratios. -/
structure StQ (b m pb : Nat) (base W0 W : World) (l : List QV) : Prop where
  g0 : W0.grownBy W (some b)
  bench : Bench W b m false
  below : Below base.heap.size base W
  ge : base.heap.size ≤ b
  tab : Tab W
  cell : W.cell? ⟨pb, 0, none⟩ = some (.pointer (some ⟨b, 0, none⟩))
  pne : pb ≠ b
  vals : ∀ t ∈ l, OkQ W t
theorem StQ.grown {b m pb : Nat} {base W0 W W' : World} {l : List QV} (h : StQ b m pb base W0 W l) (hb : Bench W' b m false) (hg : W.grownBy W' (some b)) : StQ b m pb base W0 W' l :=
  ⟨grownBy_trans' h.g0 hg, hb, h.below.grown hg h.below.size (fun k hk => by cases hk; exact h.ge), h.ge, h.tab.bench h.bench hg, hg.cell h.cell (by simpa using h.pne), h.pne, fun t ht => (h.vals t ht).bench h.bench hg⟩
theorem StQ.kept {b m pb : Nat} {base W0 W W' : World} {l : List QV} (h : StQ b m pb base W0 W l) (hb : Below W.heap.size W W') : StQ b m pb base W0 W' l :=
  ⟨grownBy_trans' h.g0 (grown_of_below hb _), h.bench.kept hb, h.below.trans (hb.mono h.below.size), h.ge, h.tab.kept hb, (hb.cell (p := ⟨pb, 0, none⟩) (World.block_lt_of_cell? _ _ h.cell)).trans h.cell, h.pne, fun t ht => (h.vals t ht).kept hb⟩
theorem StQ.cons {b m pb : Nat} {base W0 W : World} {l : List QV} (h : StQ b m pb base W0 W l) {t : QV} (ht : OkQ W t) : StQ b m pb base W0 W (t :: l) :=
  ⟨h.g0, h.bench, h.below, h.ge, h.tab, h.cell, h.pne, fun u hu => by
    rcases List.mem_cons.1 hu with rfl | hu
    · exact ht
    · exact h.vals u hu⟩
/-- A call gives q, and the state goes on. -/
def GoesQ (b m pb : Nat) (base W0 W : World) (l : List QV) (q : Rat) (e : Ending) (W' : World) : Prop :=
  ∃ s a1 l1 c1 a2 l2 c2, e = .returned (.agg #[.bool s, .slice a1 l1 c1, .slice a2 l2 c2]) ∧ Hid (StQ b m pb base W0 W' (((s, (a1, l1, c1), (a2, l2, c2)), q) :: l) )
theorem GivesQ.goes {b m pb : Nat} {base W0 W W' : World} {l : List QV} {q : Rat} {e : Ending} (hg : GivesQ b m q W e W') (h : StQ b m pb base W0 W l) (h1 : szQ q ≤ m) (h2 : szQ q ≤ 1000) : GoesQ b m pb base W0 W l q e W' := by
  obtain ⟨a1, c1, a2, c2, rfl, f1, f2, f3⟩ := hg
  obtain ⟨o1, o2⟩ := ov_fits h1
  rw [o2] at f1 ⊢
  rw [o1] at f2
  exact ⟨_, _, _, _, _, _, _, rfl, Lib.hid ((h.grown f2 f3).cons ⟨rfl, rfl, rfl, f1, h2⟩)⟩
section
variable {b m pb : Nat} {base W0 W : World} {l : List QV} {s t : Bool} {a1 a2 b1 b2 : Option Addr} {l1 c1 l2 c2 k1 e1 k2 e2 : Nat} {x y : Rat}
theorem StQ.ok (h : StQ b m pb base W0 W l) (hx : ((s, (a1, l1, c1), (a2, l2, c2)), x) ∈ l) : RatX W s a1 l1 c1 a2 l2 c2 (mgQ x) x.den (denN x.den) x ∧ (.agg #[.bool s, .slice a1 l1 c1, .slice a2 l2 c2] : Value) = qV x a1 c1 a2 c2 ∧ AtQ W a1 c1 a2 c2 x ∧ szQ x ≤ 1000 := by
  obtain ⟨h1, h2, h3, h4, h5⟩ := h.vals _ hx
  dsimp only at h1 h2 h3 h4 h5
  subst h1 h2 h3
  exact ⟨h4.x (by omega), rfl, h4, h5⟩
theorem StQ.add (h : StQ b m pb base W0 W l) (hx : ((s, (a1, l1, c1), (a2, l2, c2)), x) ∈ l) (hy : ((t, (b1, k1, e1), (b2, k2, e2)), y) ∈ l) {q : Rat} (hq : x + y = q) (g1 : szQ q ≤ m) (g2 : szQ q ≤ 1000) :
    Calls Tryz.prog 50 #[.pointer (some ⟨b, 0, none⟩), .agg #[.bool s, .slice a1 l1 c1, .slice a2 l2 c2], .agg #[.bool t, .slice b1 k1 e1, .slice b2 k2 e2]] W (GoesQ b m pb base W0 W l q) := by
  subst hq
  exact (Add_q h.bench h.tab (h.ok hx).1 (h.ok hy).1).mono fun e W' hg => hg.goes h g1 g2
theorem StQ.sub (h : StQ b m pb base W0 W l) (hx : ((s, (a1, l1, c1), (a2, l2, c2)), x) ∈ l) (hy : ((t, (b1, k1, e1), (b2, k2, e2)), y) ∈ l) {q : Rat} (hq : x - y = q) (g1 : szQ q ≤ m) (g2 : szQ q ≤ 1000) :
    Calls Tryz.prog 37 #[.pointer (some ⟨b, 0, none⟩), .agg #[.bool s, .slice a1 l1 c1, .slice a2 l2 c2], .agg #[.bool t, .slice b1 k1 e1, .slice b2 k2 e2]] W (GoesQ b m pb base W0 W l q) := by
  subst hq
  exact (Sub_q h.bench h.tab (h.ok hx).1 (h.ok hy).1).mono fun e W' hg => hg.goes h g1 g2
theorem StQ.mul (h : StQ b m pb base W0 W l) (hx : ((s, (a1, l1, c1), (a2, l2, c2)), x) ∈ l) (hy : ((t, (b1, k1, e1), (b2, k2, e2)), y) ∈ l) {q : Rat} (hq : x * y = q) (g1 : szQ q ≤ m) (g2 : szQ q ≤ 1000) :
    Calls Tryz.prog 47 #[.pointer (some ⟨b, 0, none⟩), .agg #[.bool s, .slice a1 l1 c1, .slice a2 l2 c2], .agg #[.bool t, .slice b1 k1 e1, .slice b2 k2 e2]] W (GoesQ b m pb base W0 W l q) := by
  subst hq
  exact (Mul_q h.bench h.tab (h.ok hx).1 (h.ok hy).1).mono fun e W' hg => hg.goes h g1 g2
theorem StQ.div (h : StQ b m pb base W0 W l) (hx : ((s, (a1, l1, c1), (a2, l2, c2)), x) ∈ l) (hy : ((t, (b1, k1, e1), (b2, k2, e2)), y) ∈ l) {q : Rat} (hq : x / y = q) (g1 : szQ q ≤ m) (g2 : szQ q ≤ 1000) :
    Calls Tryz.prog 15 #[.pointer (some ⟨b, 0, none⟩), .agg #[.bool s, .slice a1 l1 c1, .slice a2 l2 c2], .agg #[.bool t, .slice b1 k1 e1, .slice b2 k2 e2]] W (GoesQ b m pb base W0 W l q) := by
  subst hq
  exact (Div_q h.bench h.tab (h.ok hx).1 (h.ok hy).1).mono fun e W' hg => hg.goes h g1 g2
theorem StQ.cmp (h : StQ b m pb base W0 W l) (hx : ((s, (a1, l1, c1), (a2, l2, c2)), x) ∈ l) (hy : ((t, (b1, k1, e1), (b2, k2, e2)), y) ∈ l) {r : Int} (hr : cmpQ x y = r) :
    Calls Tryz.prog 38 #[.agg #[.bool s, .slice a1 l1 c1, .slice a2 l2 c2], .agg #[.bool t, .slice b1 k1 e1, .slice b2 k2 e2]] W fun e W' => e = .returned (.int .i64 r) ∧ Hid (StQ b m pb base W0 W' l) := by
  subst hr
  exact (CmpP_q (h.ok hx).1 (h.ok hy).1).mono fun e W' hg => ⟨hg.1, Lib.hid (h.kept hg.2)⟩
theorem StQ.sign (h : StQ b m pb base W0 W l) (hx : ((s, (a1, l1, c1), (a2, l2, c2)), x) ∈ l) {r : Int} (hr : cmpQ x 0 = r) :
    Calls Tryz.prog 81 #[.agg #[.bool s, .slice a1 l1 c1, .slice a2 l2 c2]] W fun e W' => e = .returned (.int .i64 r) ∧ Hid (StQ b m pb base W0 W' l) := by
  subst hr
  exact (Sign_q (h.ok hx).1).mono fun e W' hg => ⟨hg.1, Lib.hid (h.kept hg.2)⟩
theorem StQ.same (h : StQ b m pb base W0 W l) (hx : ((s, (a1, l1, c1), (a2, l2, c2)), x) ∈ l) (hy : ((t, (b1, k1, e1), (b2, k2, e2)), y) ∈ l) (hxy : x = y) :
    Calls Tryz.prog 11 #[.agg #[.bool s, .slice a1 l1 c1, .slice a2 l2 c2], .agg #[.bool t, .slice b1 k1 e1, .slice b2 k2 e2]] W fun e W' => e = .returned (.bool true) ∧ Hid (StQ b m pb base W0 W' l) := by
  subst hxy
  obtain ⟨_, v1, f1, g1⟩ := h.ok hx
  obtain ⟨_, v2, f2, g2⟩ := h.ok hy
  rw [v1, v2]
  unfold szQ at g1
  refine (SameR_any (ngQ x) (ngQ x) a1 a2 b1 b2 c1 c2 e1 e2 (L (mgQ x)) (L (denN x.den)) (L (mgQ x)) (L (denN x.den)) W f1.num.1 f1.den.1 f2.num.1 f2.den.1 (by omega) (by omega)).mono ?_
  rintro e W' ⟨rfl, hb⟩
  exact ⟨by simp, Lib.hid (h.kept hb)⟩
theorem StQ.over (h : StQ b m pb base W0 W l) : Calls Tryz.prog 14 #[.pointer (some ⟨b, 0, none⟩)] W fun e W' => e = .returned (.bool false) ∧ Hid (StQ b m pb base W0 W' l) :=
  (over_any W b m false h.bench).mono fun e W' hg => ⟨hg.1, by rw [← hg.2]; exact Lib.hid h⟩
end

/-- What Right tells of a ratio that a law is handed. -/
theorem okq_of_right {W : World} {s : Bool} {a1 a2 : Option Addr} {c1 c2 : Nat} {xs ds : List Nat} (h : HandR W a1 c1 xs a2 c2 ds) (hr : rightB s xs ds = true) (lx : xs.length ≤ 6) (ld : ds.length ≤ 6) :
    ∃ q, OkQ W ((s, (a1, xs.length, c1), (a2, ds.length, c2)), q) ∧ szQ q ≤ 6 := by
  obtain ⟨h1, h2, h3⟩ := of_decide_eq_true hr
  generalize qOf s xs ds = q at *
  have e1 : xs.length = (L (mgQ q)).length := congrArg List.length h2
  have e2 : ds.length = (L (denN q.den)).length := congrArg List.length h3
  have hs : szQ q ≤ 6 := by unfold szQ; omega
  refine ⟨q, ⟨h1, e1, e2, ⟨⟨?_, ?_, h.num.cap⟩, ⟨?_, ?_, h.den.cap⟩⟩, by show szQ q ≤ 1000; omega⟩, hs⟩
  · rw [← h2]; exact h.num.reads
  · rw [← h2]; exact h.num.le
  · rw [← h3]; exact h.den.reads
  · rw [← h3]; exact h.den.le
end Go.Proofs.YtknackfmepkiaaaGreatDoor


/-
  Two of the document's ratios, in blocks of their own.
-/
set_option linter.unusedVariables false
set_option linter.unusedSimpArgs false
namespace Go.Proofs.YtknackfmepkiaaaGreatDoor
open Go.RowKit Rep


theorem D_of_L {n k : Nat} (h : (L n).length ≤ k) : (D n).length ≤ 10 * k := by
  rw [D_len]
  rw [L_len] at h
  refine Nat.lt_of_lt_of_le h ?_
  rw [Nat.pow_mul]
  exact Nat.pow_le_pow_left (by decide) k
theorem dl_q {q : Rat} {k : Nat} (h : szQ q ≤ k) : (D (mgQ q)).length ≤ 10 * k ∧ (D q.den).length ≤ 10 * (k + 1) := by
  obtain ⟨h1, h2⟩ := szQ_parts q
  exact ⟨D_of_L (by omega), D_of_L (by omega)⟩
theorem szQ_inv {x : Rat} : szQ x⁻¹ ≤ szQ x + 1 := by
  by_cases hx : x = 0
  · subst hx
    rw [show ((0 : Rat)⁻¹) = 0 from by grind]
    omega
  · obtain ⟨h1, h2⟩ := szQ_parts x
    rw [← inv_q hx]
    exact szQ_mk _ _ (Nat.pos_of_ne_zero (by rw [Ne, mg_zero]; exact hx)) h2 (by omega)
theorem szQ_div (x y : Rat) : szQ (x / y) ≤ szQ x + szQ y + 4 := by
  have h1 := szQ_mul x y⁻¹
  have h2 := @szQ_inv y
  rw [Rat.div_def]
  omega

/-- Raw parts tell q, in the document's digits. -/
structure VD (q : Rat) (v : RawR) (W : World) : Prop where
  e0 : v.1 = ngQ q
  e1 : v.2.1.2.1 = (D (mgQ q)).length
  e2 : v.2.2.2.1 = (D q.den).length
  lies : DgQ W v.2.1.1 v.2.1.2.2 v.2.2.1 v.2.2.2.2 q
def BlankD (W : World) (r : Nat) : Prop := W.heap[r]? = some (.cells #[.bool false, .slice none 0 0, .slice none 0 0] 38 (0, 0))
theorem BlankD.kept {W W' : World} {r : Nat} (h : BlankD W r) (hb : Below W.heap.size W W') : BlankD W' r := (hb.block r (Array.getElem?_eq_some_iff.1 h).1).trans h
theorem BlankD.cells {W : World} {r : Nat} (h : BlankD W r) : W.cell? ⟨r, 0, none⟩ = some (.bool false) ∧ W.cell? ⟨r, 1, none⟩ = some (.slice none 0 0) ∧ W.cell? ⟨r, 2, none⟩ = some (.slice none 0 0) ∧ W.frozen? ⟨r, 0, none⟩ = false ∧ W.frozen? ⟨r, 1, none⟩ = false ∧ W.frozen? ⟨r, 2, none⟩ = false := cells3 h
theorem BlankD.ne {W : World} {g : Nat} (h : BlankD W g) : g ≠ W.heap.size ∧ W.heap.size ≠ g ∧ g < W.heap.size := by
  have := (Array.getElem?_eq_some_iff.1 h).1
  omega
theorem BlankD.past {g k : Nat} {W : World} (h : BlankD W g) (hne : g ≠ k) (s : Bool) (v1 v2 : Value) : BlankD (set3 W k s v1 v2) g :=
  ((set3_grown W k s v1 v2).block _ (Array.getElem?_eq_some_iff.1 h).1 (by simpa using hne)).trans h
theorem VD.kept {q : Rat} {v : RawR} {W W' : World} (h : VD q v W) (hb : Below W.heap.size W W') : VD q v W' := ⟨h.e0, h.e1, h.e2, h.lies.kept hb⟩
theorem VD.set3 {q : Rat} {v : RawR} {W : World} {g : Nat} (h : VD q v W) (hb : BlankD W g) (s : Bool) (v1 v2 : Value) : VD q v (Go.Proofs.YtknackfmepkiaaaGreatDoor.set3 W g s v1 v2) := ⟨h.e0, h.e1, h.e2, h.lies.num.set3 hb _ _ _, h.lies.den.set3 hb _ _ _⟩
/-- Behind the first call. -/
structure D1 (W0 : World) (q : Rat) (x : RawR) (W : World) : Prop where
  vx : VD q x W
  below : Below W0.heap.size W0 W
/-- Behind both calls. -/
structure D2 (W0 : World) (q r : Rat) (x y : RawR) (W : World) : Prop where
  vx : VD q x W
  vy : VD r y W
  below : Below W0.heap.size W0 W
section
variable {W0 W : World} {q r : Rat} {x y : RawR}
theorem D1.kept {W' : World} (h : D1 W0 q x W) (hb : Below W.heap.size W W') : D1 W0 q x W' := ⟨h.vx.kept hb, h.below.trans (hb.mono h.below.size)⟩
theorem D2.kept {W' : World} (h : D2 W0 q r x y W) (hb : Below W.heap.size W W') : D2 W0 q r x y W' := ⟨h.vx.kept hb, h.vy.kept hb, h.below.trans (hb.mono h.below.size)⟩
theorem D2.alloc (h : D2 W0 q r x y W) (o : Obj) : D2 W0 q r x y (W.alloc o) := h.kept ((Below.refl _ _).alloc (Nat.le_refl _) _)
theorem D2.set3 {g : Nat} (h : D2 W0 q r x y W) (hb : BlankD W g) (hg : W0.heap.size ≤ g) (s : Bool) (v1 v2 : Value) : D2 W0 q r x y (Go.Proofs.YtknackfmepkiaaaGreatDoor.set3 W g s v1 v2) :=
  ⟨h.vx.set3 hb _ _ _, h.vy.set3 hb _ _ _, set3_below h.below hg⟩
/-- Where a ratio's parts lie. -/
def LiesD (v : RawR) (g : Nat) (W : World) : Prop := W.heap[g]? = some (.cells #[.bool v.1, .slice v.2.1.1 v.2.1.2.1 v.2.1.2.2, .slice v.2.2.1 v.2.2.2.1 v.2.2.2.2] 38 (0, 0))
theorem LiesD.kept {v : RawR} {g : Nat} {W W' : World} (h : LiesD v g W) (hb : Below W.heap.size W W') : LiesD v g W' := (hb.block _ (Array.getElem?_eq_some_iff.1 h).1).trans h
theorem LiesD.new (v : RawR) (W : World) : LiesD v W.heap.size (W.alloc (.cells #[.bool v.1, .slice v.2.1.1 v.2.1.2.1 v.2.1.2.2, .slice v.2.2.1 v.2.2.2.1 v.2.2.2.2] 38)) := heap_alloc_new W _
theorem LiesD.alloc {v : RawR} {g : Nat} {W : World} (h : LiesD v g W) (o : Obj) : LiesD v g (W.alloc o) := h.kept ((Below.refl _ _).alloc (Nat.le_refl _) _)
theorem LiesD.put {g : Nat} {W : World} (h : BlankD W g) (v : RawR) : LiesD v g (set3 W g v.1 (.slice v.2.1.1 v.2.1.2.1 v.2.1.2.2) (.slice v.2.2.1 v.2.2.2.1 v.2.2.2.2)) := by
  unfold BlankD at h
  simp [LiesD, Go.Proofs.YtknackfmepkiaaaGreatDoor.set3, World.setCell, Array.getElem?_modify, h]
theorem LiesD.past {v : RawR} {g k : Nat} {W : World} (h : LiesD v g W) (hne : g ≠ k) (s : Bool) (v1 v2 : Value) : LiesD v g (set3 W k s v1 v2) :=
  ((set3_grown W k s v1 v2).block _ (Array.getElem?_eq_some_iff.1 h).1 (by simpa using hne)).trans h
/-- Behind the region: where both answers lie. -/
structure PairAt (W0 : World) (q r : Rat) (i : Nat × Nat × RawR × RawR) (W : World) : Prop where
  x : LiesD i.2.2.1 i.1 W
  y : LiesD i.2.2.2 i.2.1 W
  t : D2 W0 q r i.2.2.1 i.2.2.2 W
theorem D2.end0a (h : D2 W0 q r x y W) : PairAt W0 q r (W.heap.size, W.heap.size + 1, x, y) ((W.alloc (.cells #[.bool x.1, .slice x.2.1.1 x.2.1.2.1 x.2.1.2.2, .slice x.2.2.1 x.2.2.2.1 x.2.2.2.2] 38)).alloc (.cells #[.bool y.1, .slice y.2.1.1 y.2.1.2.1 y.2.1.2.2, .slice y.2.2.1 y.2.2.2.1 y.2.2.2.2] 38)) :=
  ⟨(LiesD.new x W).alloc _, by simpa using LiesD.new y (W.alloc (.cells #[.bool x.1, .slice x.2.1.1 x.2.1.2.1 x.2.1.2.2, .slice x.2.2.1 x.2.2.2.1 x.2.2.2.2] 38)), (h.alloc _).alloc _⟩
theorem D2.end0b (h : D2 W0 q r x y W) : PairAt W0 q r (W.heap.size + 1, W.heap.size, x, y) ((W.alloc (.cells #[.bool y.1, .slice y.2.1.1 y.2.1.2.1 y.2.1.2.2, .slice y.2.2.1 y.2.2.2.1 y.2.2.2.2] 38)).alloc (.cells #[.bool x.1, .slice x.2.1.1 x.2.1.2.1 x.2.1.2.2, .slice x.2.2.1 x.2.2.2.1 x.2.2.2.2] 38)) :=
  ⟨by simpa using LiesD.new x (W.alloc (.cells #[.bool y.1, .slice y.2.1.1 y.2.1.2.1 y.2.1.2.2, .slice y.2.2.1 y.2.2.2.1 y.2.2.2.2] 38)), (LiesD.new y W).alloc _, (h.alloc _).alloc _⟩
theorem D2.end1a {g : Nat} (h : D2 W0 q r x y W) (hb : BlankD W g) (hg : W0.heap.size ≤ g) : PairAt W0 q r (g, W.heap.size, x, y) ((Go.Proofs.YtknackfmepkiaaaGreatDoor.set3 W g x.1 (.slice x.2.1.1 x.2.1.2.1 x.2.1.2.2) (.slice x.2.2.1 x.2.2.2.1 x.2.2.2.2)).alloc (.cells #[.bool y.1, .slice y.2.1.1 y.2.1.2.1 y.2.1.2.2, .slice y.2.2.1 y.2.2.2.1 y.2.2.2.2] 38)) :=
  ⟨(LiesD.put hb x).alloc _, by have := LiesD.new y (Go.Proofs.YtknackfmepkiaaaGreatDoor.set3 W g x.1 (.slice x.2.1.1 x.2.1.2.1 x.2.1.2.2) (.slice x.2.2.1 x.2.2.2.1 x.2.2.2.2)); rwa [set3_size] at this, (h.set3 hb hg _ _ _).alloc _⟩
theorem D2.end1b {g : Nat} (h : D2 W0 q r x y W) (hb : BlankD W g) (hg : W0.heap.size ≤ g) : PairAt W0 q r (W.heap.size, g, x, y) ((Go.Proofs.YtknackfmepkiaaaGreatDoor.set3 W g y.1 (.slice y.2.1.1 y.2.1.2.1 y.2.1.2.2) (.slice y.2.2.1 y.2.2.2.1 y.2.2.2.2)).alloc (.cells #[.bool x.1, .slice x.2.1.1 x.2.1.2.1 x.2.1.2.2, .slice x.2.2.1 x.2.2.2.1 x.2.2.2.2] 38)) :=
  ⟨by have := LiesD.new x (Go.Proofs.YtknackfmepkiaaaGreatDoor.set3 W g y.1 (.slice y.2.1.1 y.2.1.2.1 y.2.1.2.2) (.slice y.2.2.1 y.2.2.2.1 y.2.2.2.2)); rwa [set3_size] at this, (LiesD.put hb y).alloc _, (h.set3 hb hg _ _ _).alloc _⟩
theorem D2.end2 {g k : Nat} (h : D2 W0 q r x y W) (hb : BlankD W g) (hk : BlankD W k) (hne : g ≠ k) (hg : W0.heap.size ≤ g) (hg2 : W0.heap.size ≤ k) :
    PairAt W0 q r (g, k, x, y) (Go.Proofs.YtknackfmepkiaaaGreatDoor.set3 (Go.Proofs.YtknackfmepkiaaaGreatDoor.set3 W g x.1 (.slice x.2.1.1 x.2.1.2.1 x.2.1.2.2) (.slice x.2.2.1 x.2.2.2.1 x.2.2.2.2)) k y.1 (.slice y.2.1.1 y.2.1.2.1 y.2.1.2.2) (.slice y.2.2.1 y.2.2.2.1 y.2.2.2.2)) :=
  ⟨(LiesD.put hb x).past hne _ _ _, LiesD.put (hk.past (Ne.symm hne) _ _ _) y, (h.set3 hb hg _ _ _).set3 (hk.past (Ne.symm hne) _ _ _) hg2 _ _ _⟩
end
theorem blankD_second {W : World} (wa : World) (h : Below ((wa.alloc (.cells #[.bool false, .slice none 0 0, .slice none 0 0] 38)).alloc (.cells #[.bool false, .slice none 0 0, .slice none 0 0] 38)).heap.size ((wa.alloc (.cells #[.bool false, .slice none 0 0, .slice none 0 0] 38)).alloc (.cells #[.bool false, .slice none 0 0, .slice none 0 0] 38)) W) : BlankD W (wa.heap.size + 1) := by
  refine BlankD.kept ?_ h
  have := heap_alloc_new (wa.alloc (.cells #[.bool false, .slice none 0 0, .slice none 0 0] 38)) (.cells #[.bool false, .slice none 0 0, .slice none 0 0] 38)
  simpa [BlankD] using this
theorem far2 {w W0 W : World} (h : w.heap.size + 1 < W0.heap.size) (hb : Below W0.heap.size W0 W) : w.heap.size ≠ W.heap.size ∧ W.heap.size ≠ w.heap.size ∧ w.heap.size ≠ W.heap.size + 1 ∧ W.heap.size + 1 ≠ w.heap.size ∧ w.heap.size + 1 ≠ W.heap.size ∧ W.heap.size ≠ w.heap.size + 1 ∧ w.heap.size + 1 ≠ W.heap.size + 1 ∧ W.heap.size + 1 ≠ w.heap.size + 1 := by
  have := hb.size
  omega
/-- A call gives q's digits, behind W5. -/
def GotD (W5 : World) (q : Rat) (e : Ending) (W' : World) : Prop :=
  ∃ s z1 m1 k1 z2 m2 k2, e = .returned (.agg #[.bool s, .slice z1 m1 k1, .slice z2 m2 k2]) ∧ Hid (Below W5.heap.size W5 W') ∧ Hid (VD q (s, (z1, m1, k1), (z2, m2, k2)) W')
theorem GivesDQ.got {W5 W W' : World} {q : Rat} {e : Ending} (h : GivesDQ q W e W') (hb : Below W5.heap.size W5 W) : GotD W5 q e W' := by
  obtain ⟨a1, c1, a2, c2, rfl, hd, hb2⟩ := h
  exact ⟨_, a1, _, c1, a2, _, c2, rfl, Lib.hid (hb.trans (hb2.mono hb.size)), Lib.hid ⟨rfl, rfl, rfl, hd⟩⟩
/-- A call gives q's limbs, behind W5. -/
def GotQ (W5 : World) (q : Rat) (e : Ending) (W' : World) : Prop :=
  ∃ s z1 m1 k1 z2 m2 k2, e = .returned (.agg #[.bool s, .slice z1 m1 k1, .slice z2 m2 k2]) ∧ Hid (Below W5.heap.size W5 W') ∧ Hid (VQ q (s, (z1, m1, k1), (z2, m2, k2)) W')
theorem NewQ.got {W5 W W' : World} {q : Rat} {e : Ending} (h : NewQ q W e W') (hb : Below W5.heap.size W5 W) : GotQ W5 q e W' := by
  obtain ⟨a1, c1, a2, c2, rfl, hd, hb2⟩ := h
  exact ⟨_, a1, _, c1, a2, _, c2, rfl, Lib.hid (hb.trans (hb2.mono hb.size)), Lib.hid ⟨rfl, rfl, rfl, hd⟩⟩
/-- A call tells v, behind W5. -/
def GotV (W5 : World) (v : Value) (e : Ending) (W' : World) : Prop := e = .returned v ∧ Hid (Below W5.heap.size W5 W')
theorem VD.eq {q : Rat} {s : Bool} {z1 z2 : Option Addr} {m1 k1 m2 k2 : Nat} {W : World} (h : VD q (s, (z1, m1, k1), (z2, m2, k2)) W) : (.agg #[.bool s, .slice z1 m1 k1, .slice z2 m2 k2] : Value) = dV q z1 k1 z2 k2 ∧ DgQ W z1 k1 z2 k2 q := by
  obtain ⟨h0, h1, h2, h3⟩ := h
  dsimp only at h0 h1 h2 h3
  subst h0 h1 h2
  exact ⟨rfl, h3⟩
theorem VQ.eq {q : Rat} {s : Bool} {z1 z2 : Option Addr} {m1 k1 m2 k2 : Nat} {W : World} (h : VQ q (s, (z1, m1, k1), (z2, m2, k2)) W) : (.agg #[.bool s, .slice z1 m1 k1, .slice z2 m2 k2] : Value) = qV q z1 k1 z2 k2 ∧ AtQ W z1 k1 z2 k2 q := by
  obtain ⟨h0, h1, h2, h3⟩ := h
  dsimp only at h0 h1 h2 h3
  subst h0 h1 h2
  exact ⟨rfl, h3⟩
section
variable {W5 W : World} {q r : Rat} {s t : Bool} {z1 z2 y1 y2 : Option Addr} {m1 k1 m2 k2 n1 j1 n2 j2 : Nat}
theorem got_add (h : VD q (s, (z1, m1, k1), (z2, m2, k2)) W) (g : VD r (t, (y1, n1, j1), (y2, n2, j2)) W) (hq : szQ q ≤ 100) (hr : szQ r ≤ 100) (hb : Below W5.heap.size W5 W) :
    Calls Tryz.prog 43 #[.agg #[.bool s, .slice z1 m1 k1, .slice z2 m2 k2], .agg #[.bool t, .slice y1 n1 j1, .slice y2 n2 j2]] W (GotD W5 (q + r)) := by
  obtain ⟨e1, d1⟩ := h.eq
  obtain ⟨e2, d2⟩ := g.eq
  obtain ⟨l1, l2⟩ := dl_q hq
  obtain ⟨l3, l4⟩ := dl_q hr
  rw [e1, e2]
  exact (AddR_q d1 d2 (by omega) (by omega) (by omega) (by omega)).mono fun e W' h => h.got hb
theorem got_mul (h : VD q (s, (z1, m1, k1), (z2, m2, k2)) W) (g : VD r (t, (y1, n1, j1), (y2, n2, j2)) W) (hq : szQ q ≤ 100) (hr : szQ r ≤ 100) (hb : Below W5.heap.size W5 W) :
    Calls Tryz.prog 51 #[.agg #[.bool s, .slice z1 m1 k1, .slice z2 m2 k2], .agg #[.bool t, .slice y1 n1 j1, .slice y2 n2 j2]] W (GotD W5 (q * r)) := by
  obtain ⟨e1, d1⟩ := h.eq
  obtain ⟨e2, d2⟩ := g.eq
  obtain ⟨l1, l2⟩ := dl_q hq
  obtain ⟨l3, l4⟩ := dl_q hr
  rw [e1, e2]
  exact (MulR_q d1 d2 (by omega) (by omega) (by omega) (by omega)).mono fun e W' h => h.got hb
theorem got_div (h : VD q (s, (z1, m1, k1), (z2, m2, k2)) W) (g : VD r (t, (y1, n1, j1), (y2, n2, j2)) W) (hq : szQ q ≤ 100) (hr : szQ r ≤ 100) (hb : Below W5.heap.size W5 W) :
    Calls Tryz.prog 45 #[.agg #[.bool s, .slice z1 m1 k1, .slice z2 m2 k2], .agg #[.bool t, .slice y1 n1 j1, .slice y2 n2 j2]] W (GotD W5 (q / r)) := by
  obtain ⟨e1, d1⟩ := h.eq
  obtain ⟨e2, d2⟩ := g.eq
  obtain ⟨l1, l2⟩ := dl_q hq
  obtain ⟨l3, l4⟩ := dl_q hr
  rw [e1, e2]
  exact (DivR_q d1 d2 (by omega) (by omega) (by omega) (by omega)).mono fun e W' h => h.got hb
theorem got_cmp (h : VD q (s, (z1, m1, k1), (z2, m2, k2)) W) (g : VD r (t, (y1, n1, j1), (y2, n2, j2)) W) (hq : szQ q ≤ 100) (hr : szQ r ≤ 100) (hb : Below W5.heap.size W5 W) {c : Int} (hc : cmpQ q r = c) :
    Calls Tryz.prog 21 #[.agg #[.bool s, .slice z1 m1 k1, .slice z2 m2 k2], .agg #[.bool t, .slice y1 n1 j1, .slice y2 n2 j2]] W (GotV W5 (.int .i64 c)) := by
  obtain ⟨e1, d1⟩ := h.eq
  obtain ⟨e2, d2⟩ := g.eq
  obtain ⟨l1, l2⟩ := dl_q hq
  obtain ⟨l3, l4⟩ := dl_q hr
  subst hc
  rw [e1, e2]
  exact (CmpR_q d1 d2 (by omega) (by omega) (by omega) (by omega)).mono fun e W' h => ⟨h.1, Lib.hid (hb.trans (h.2.mono hb.size))⟩
theorem got_neg (h : VD q (s, (z1, m1, k1), (z2, m2, k2)) W) (hb : Below W5.heap.size W5 W) :
    Calls Tryz.prog 44 #[.agg #[.bool s, .slice z1 m1 k1, .slice z2 m2 k2]] W (GotD W5 (-q)) := by
  obtain ⟨e1, d1⟩ := h.eq
  rw [e1]
  exact (NegR_q d1).mono fun e W' h => h.got hb
theorem got_form (h : VD q (s, (z1, m1, k1), (z2, m2, k2)) W) (hq : szQ q ≤ 100) (hb : Below W5.heap.size W5 W) :
    Calls Tryz.prog 12 #[.agg #[.bool s, .slice z1 m1 k1, .slice z2 m2 k2]] W (GotQ W5 q) := by
  obtain ⟨e1, d1⟩ := h.eq
  obtain ⟨l1, l2⟩ := dl_q hq
  rw [e1]
  exact (d1.form (by omega) (by omega)).mono fun e W' h => h.got hb
theorem got_same (h : VQ q (s, (z1, m1, k1), (z2, m2, k2)) W) (g : VQ q (t, (y1, n1, j1), (y2, n2, j2)) W) (hq : szQ q ≤ 100) (hb : Below W5.heap.size W5 W) :
    Calls Tryz.prog 11 #[.agg #[.bool s, .slice z1 m1 k1, .slice z2 m2 k2], .agg #[.bool t, .slice y1 n1 j1, .slice y2 n2 j2]] W (GotV W5 (.bool true)) := by
  obtain ⟨e1, d1⟩ := h.eq
  obtain ⟨e2, d2⟩ := g.eq
  rw [e1, e2]
  unfold szQ at hq
  refine (SameR_any (ngQ q) (ngQ q) z1 z2 y1 y2 k1 k2 j1 j2 (L (mgQ q)) (L (denN q.den)) (L (mgQ q)) (L (denN q.den)) W d1.num.1 d1.den.1 d2.num.1 d2.den.1 (by omega) (by omega)).mono ?_
  rintro e W' ⟨rfl, hb2⟩
  exact ⟨by simp, Lib.hid (hb.trans (hb2.mono hb.size))⟩
theorem got_of (h : VQ q (s, (z1, m1, k1), (z2, m2, k2)) W) (hq : szQ q ≤ 100) (hb : Below W5.heap.size W5 W) :
    Calls Tryz.prog 19 #[.agg #[.bool s, .slice z1 m1 k1, .slice z2 m2 k2]] W (GotD W5 q) := by
  obtain ⟨e1, d1⟩ := h.eq
  rw [e1]
  exact (d1.ofD (by omega)).mono fun e W' h => h.got hb
end
end Go.Proofs.YtknackfmepkiaaaGreatDoor


/-
  Numbers with a delta, in memory: six cells.
-/
set_option linter.unusedVariables false
set_option linter.unusedSimpArgs false
namespace Go.Proofs.YtknackfmepkiaaaGreatDoor
open Go.RowKit Rep


/-- Six cells, written. -/
def set6 (W : World) (r : Nat) (s : Bool) (v1 v2 : Value) (t : Bool) (v3 v4 : Value) : World :=
  (((((W.setCell ⟨r, 0, none⟩ (.bool s)).setCell ⟨r, 1, none⟩ v1).setCell ⟨r, 2, none⟩ v2).setCell ⟨r, 3, none⟩ (.bool t)).setCell ⟨r, 4, none⟩ v3).setCell ⟨r, 5, none⟩ v4
theorem set6_grown (W : World) (r : Nat) (s : Bool) (v1 v2 : Value) (t : Bool) (v3 v4 : Value) : W.grownBy (set6 W r s v1 v2 t v3 v4) (some r) := grownBy_set (grownBy_set (grownBy_set (grownBy_set (grownBy_set (grownBy_set (grown_refl W _))))))
theorem set6_below {B : Nat} {w W : World} {r : Nat} {s : Bool} {v1 v2 : Value} {t : Bool} {v3 v4 : Value} (h : Below B w W) (hr : B ≤ r) : Below B w (set6 W r s v1 v2 t v3 v4) :=
  (((((h.setCell (p := ⟨r, 0, none⟩) hr _).setCell (p := ⟨r, 1, none⟩) hr _).setCell (p := ⟨r, 2, none⟩) hr _).setCell (p := ⟨r, 3, none⟩) hr _).setCell (p := ⟨r, 4, none⟩) hr _).setCell (p := ⟨r, 5, none⟩) hr _
theorem set6_size (W : World) (r : Nat) (s : Bool) (v1 v2 : Value) (t : Bool) (v3 v4 : Value) : (set6 W r s v1 v2 t v3 v4).heap.size = W.heap.size := by simp [set6, World.setCell]
theorem cells6 {W : World} {r : Nat} {v0 v1 v2 v3 v4 v5 : Value} {t : TypeId} (h : W.heap[r]? = some (.cells #[v0, v1, v2, v3, v4, v5] t (0, 0))) :
    W.cell? ⟨r, 0, none⟩ = some v0 ∧ W.cell? ⟨r, 1, none⟩ = some v1 ∧ W.cell? ⟨r, 2, none⟩ = some v2 ∧ W.cell? ⟨r, 3, none⟩ = some v3 ∧ W.cell? ⟨r, 4, none⟩ = some v4 ∧ W.cell? ⟨r, 5, none⟩ = some v5 ∧
    W.frozen? ⟨r, 0, none⟩ = false ∧ W.frozen? ⟨r, 1, none⟩ = false ∧ W.frozen? ⟨r, 2, none⟩ = false ∧ W.frozen? ⟨r, 3, none⟩ = false ∧ W.frozen? ⟨r, 4, none⟩ = false ∧ W.frozen? ⟨r, 5, none⟩ = false := by
  refine ⟨?_, ?_, ?_, ?_, ?_, ?_, ?_, ?_, ?_, ?_, ?_, ?_⟩
  · simp [World.cell?, h]
  · simp [World.cell?, h]
  · simp [World.cell?, h]
  · simp [World.cell?, h]
  · simp [World.cell?, h]
  · simp [World.cell?, h]
  · simp [World.frozen?, h]
  · simp [World.frozen?, h]
  · simp [World.frozen?, h]
  · simp [World.frozen?, h]
  · simp [World.frozen?, h]
  · simp [World.frozen?, h]
/-- A block of six cells stays. -/
theorem stay {W0 W : World} {r : Nat} {c : Array Value} {t : TypeId} (h : W0.heap[r]? = some (.cells c t (0, 0))) (hb : Below W0.heap.size W0 W) : W.heap[r]? = some (.cells c t (0, 0)) := (hb.block _ (Array.getElem?_eq_some_iff.1 h).1).trans h
/-- Block r is of six such cells. -/
def Six (W : World) (r : Nat) (ty : TypeId) : Prop := W.heap[r]? = some (.cells #[.bool false, .slice none 0 0, .slice none 0 0, .bool false, .slice none 0 0, .slice none 0 0] ty (0, 0))
theorem six_apart {W : World} {r : Nat} {ty : TypeId} (hb : Six W r ty) {f : Nat → Value} (hf : ∀ n, ∃ k i, f n = .int k i) {a : Option Addr} {xs : List Nat} (hr : Reads W a (xs.map f)) : xs.map f = [] ∨ ∀ g off, a = some ⟨g, off, none⟩ → some g ≠ some r := by
  unfold Six at hb
  rcases hr with hr | ⟨g, off, rfl, hr⟩
  · exact .inl hr
  · by_cases e : xs = []
    · exact .inl (by simp [e])
    · refine .inr fun g' off' hg hbq => ?_
      simp at hg hbq
      obtain ⟨rfl, rfl⟩ := hg
      subst hbq
      have := hr 0 _ (map_getElem? (xs := xs) (f := f) (List.length_pos_iff.2 e))
      obtain ⟨k, i, hki⟩ := hf (xs.getD 0 0)
      rw [hki] at this
      simp only [World.cell?, hb] at this
      rcases off with _ | _ | _ | _ | _ | _ | off <;> simp at this
theorem VD.set6 {q : Rat} {v : RawR} {W : World} {r : Nat} {ty : TypeId} (h : VD q v W) (hb : Six W r ty) (s : Bool) (v1 v2 : Value) (t : Bool) (v3 v4 : Value) : VD q v (Go.Proofs.YtknackfmepkiaaaGreatDoor.set6 W r s v1 v2 t v3 v4) := by
  have hi : ∀ n, ∃ k i, i64v n = .int k i := fun n => ⟨_, _, rfl⟩
  exact ⟨h.e0, h.e1, h.e2, ⟨⟨h.lies.num.1.grown (set6_grown W r s v1 v2 t v3 v4) (six_apart hb hi h.lies.num.1), h.lies.num.2⟩, ⟨h.lies.den.1.grown (set6_grown W r s v1 v2 t v3 v4) (six_apart hb hi h.lies.den.1), h.lies.den.2⟩⟩⟩
theorem VQ.set6 {q : Rat} {v : RawR} {W : World} {r : Nat} {ty : TypeId} (h : VQ q v W) (hb : Six W r ty) (s : Bool) (v1 v2 : Value) (t : Bool) (v3 v4 : Value) : VQ q v (Go.Proofs.YtknackfmepkiaaaGreatDoor.set6 W r s v1 v2 t v3 v4) := by
  have hi : ∀ n, ∃ k i, u32v n = .int k i := fun n => ⟨_, _, rfl⟩
  exact ⟨h.e0, h.e1, h.e2, ⟨⟨h.lies.num.1.grown (set6_grown W r s v1 v2 t v3 v4) (six_apart hb hi h.lies.num.1), h.lies.num.2⟩, ⟨h.lies.den.1.grown (set6_grown W r s v1 v2 t v3 v4) (six_apart hb hi h.lies.den.1), h.lies.den.2⟩⟩⟩
/-- A call gives both parts' digits, behind W5. -/
def GotDD (W5 : World) (q r : Rat) (e : Ending) (W' : World) : Prop :=
  ∃ s z1 m1 k1 z2 m2 k2 t y1 n1 j1 y2 n2 j2, e = .returned (.agg #[.bool s, .slice z1 m1 k1, .slice z2 m2 k2, .bool t, .slice y1 n1 j1, .slice y2 n2 j2]) ∧ Hid (Below W5.heap.size W5 W') ∧ Hid (VD q (s, (z1, m1, k1), (z2, m2, k2)) W') ∧ Hid (VD r (t, (y1, n1, j1), (y2, n2, j2)) W')
/-- A call gives both parts' limbs, behind W5. -/
def GotQQ (W5 : World) (q r : Rat) (e : Ending) (W' : World) : Prop :=
  ∃ s z1 m1 k1 z2 m2 k2 t y1 n1 j1 y2 n2 j2, e = .returned (.agg #[.bool s, .slice z1 m1 k1, .slice z2 m2 k2, .bool t, .slice y1 n1 j1, .slice y2 n2 j2]) ∧ Hid (Below W5.heap.size W5 W') ∧ Hid (VQ q (s, (z1, m1, k1), (z2, m2, k2)) W') ∧ Hid (VQ r (t, (y1, n1, j1), (y2, n2, j2)) W')
theorem finDD {W5 w W0 W : World} {r : Nat} {ty : TypeId} {q p : Rat} {s t : Bool} {z1 z2 y1 y2 : Option Addr} {m1 k1 m2 k2 n1 j1 n2 j2 : Nat} (hb5 : Below W5.heap.size W5 w) (hB0 : Below w.heap.size w W0) (hr : w.heap.size ≤ r) (b3 : Six W0 r ty) (hb : Below W0.heap.size W0 W)
    (h1 : VD q (s, (z1, m1, k1), (z2, m2, k2)) W) (h2 : VD p (t, (y1, n1, j1), (y2, n2, j2)) W) :
    GotDD W5 q p (.returned (.agg #[.bool s, .slice z1 m1 k1, .slice z2 m2 k2, .bool t, .slice y1 n1 j1, .slice y2 n2 j2])) (set6 W r s (.slice z1 m1 k1) (.slice z2 m2 k2) t (.slice y1 n1 j1) (.slice y2 n2 j2)) := by
  have hs : Six W r ty := stay b3 hb
  have h5 := hb5.size
  exact ⟨s, z1, m1, k1, z2, m2, k2, t, y1, n1, j1, y2, n2, j2, rfl, Lib.hid (set6_below (hb5.trans ((hB0.trans (hb.mono hB0.size)).mono h5)) (by omega)), Lib.hid (h1.set6 hs _ _ _ _ _ _), Lib.hid (h2.set6 hs _ _ _ _ _ _)⟩
theorem finQQ {W5 w W0 W : World} {r : Nat} {ty : TypeId} {q p : Rat} {s t : Bool} {z1 z2 y1 y2 : Option Addr} {m1 k1 m2 k2 n1 j1 n2 j2 : Nat} (hb5 : Below W5.heap.size W5 w) (hB0 : Below w.heap.size w W0) (hr : w.heap.size ≤ r) (b3 : Six W0 r ty) (hb : Below W0.heap.size W0 W)
    (h1 : VQ q (s, (z1, m1, k1), (z2, m2, k2)) W) (h2 : VQ p (t, (y1, n1, j1), (y2, n2, j2)) W) :
    GotQQ W5 q p (.returned (.agg #[.bool s, .slice z1 m1 k1, .slice z2 m2 k2, .bool t, .slice y1 n1 j1, .slice y2 n2 j2])) (set6 W r s (.slice z1 m1 k1) (.slice z2 m2 k2) t (.slice y1 n1 j1) (.slice y2 n2 j2)) := by
  have hs : Six W r ty := stay b3 hb
  have h5 := hb5.size
  exact ⟨s, z1, m1, k1, z2, m2, k2, t, y1, n1, j1, y2, n2, j2, rfl, Lib.hid (set6_below (hb5.trans ((hB0.trans (hb.mono hB0.size)).mono h5)) (by omega)), Lib.hid (h1.set6 hs _ _ _ _ _ _), Lib.hid (h2.set6 hs _ _ _ _ _ _)⟩
theorem got_ofQ {W5 W : World} {q : Rat} {s : Bool} {z1 z2 : Option Addr} {m1 k1 m2 k2 : Nat} (h : VQ q (s, (z1, m1, k1), (z2, m2, k2)) W) (hq : szQ q ≤ 100) (hb : Below W5.heap.size W5 W) :
    Calls Tryz.prog 19 #[.agg #[.bool s, .slice z1 m1 k1, .slice z2 m2 k2]] W (GotD W5 q) := got_of h hq hb
/-- Two boxes of six cells, and of three. -/
theorem box1 (w : World) (v1 v2 : Array Value) (t1 t2 : TypeId) : ∃ W0, W0 = ((w.alloc (.cells v1 t1)).alloc (.cells v2 t2)) ∧ Below w.heap.size w W0 ∧
    W0.heap[w.heap.size]? = some (.cells v1 t1 (0, 0)) ∧ W0.heap[w.heap.size + 1]? = some (.cells v2 t2 (0, 0)) ∧ W0.heap.size = w.heap.size + 1 + 1 := boxes2 w v1 v2 t1 t2
end Go.Proofs.YtknackfmepkiaaaGreatDoor


/-
  The document's Of, Form, Add, Neg, Scale of numbers with a delta.
-/
set_option linter.unusedVariables false
set_option linter.unusedSimpArgs false
namespace Go.Proofs.YtknackfmepkiaaaGreatDoor
open Go.RowKit Rep


set_option maxRecDepth 100000 in
set_option maxHeartbeats 4000000 in
theorem OfDD {W5 w : World} {xs : Bool} {xa xb : Option Addr} {xl xc xk xe : Nat} {us : Bool} {ua ub : Option Addr} {ul uc uk ue : Nat} {q r : Rat} (hx : VQ q (xs, (xa, xl, xc), (xb, xk, xe)) w) (hu : VQ r (us, (ua, ul, uc), (ub, uk, ue)) w) (zq : szQ q ≤ 100) (zr : szQ r ≤ 100) (hb5 : Below W5.heap.size W5 w) :
    Calls Tryz.prog 8 #[.agg #[.bool xs, .slice xa xl xc, .slice xb xk xe, .bool us, .slice ua ul uc, .slice ub uk ue]] w (GotDD W5 (q) (r)) := by
  obtain ⟨W0, hW0, hB0, b0, b1, hs⟩ := boxes2 w #[.bool xs, .slice xa xl xc, .slice xb xk xe, .bool us, .slice ua ul uc, .slice ub uk ue] #[.bool false, .slice none 0 0, .slice none 0 0, .bool false, .slice none 0 0, .slice none 0 0] 32 40
  have HC1 : Hid (∀ W, Below W0.heap.size W0 W → _) := Lib.hid fun W h => got_of ((hx.kept hB0).kept h) zq h
  have HC2 : Hid (∀ W, Below W0.heap.size W0 W → _) := Lib.hid fun W h => got_of ((hu.kept hB0).kept h) zr (Below.refl W.heap.size W)
  have HK : Hid (∀ W, Below W0.heap.size W0 W → (W.cell? ⟨w.heap.size, 0, none⟩ = some (.bool xs) ∧ W.cell? ⟨w.heap.size, 1, none⟩ = some (.slice xa xl xc) ∧ W.cell? ⟨w.heap.size, 2, none⟩ = some (.slice xb xk xe) ∧ W.cell? ⟨w.heap.size, 3, none⟩ = some (.bool us) ∧ W.cell? ⟨w.heap.size, 4, none⟩ = some (.slice ua ul uc) ∧ W.cell? ⟨w.heap.size, 5, none⟩ = some (.slice ub uk ue))) := Lib.hid fun W h => by
    obtain ⟨k0_0, k0_1, k0_2, k0_3, k0_4, k0_5, _⟩ := cells6 (stay b0 h)
    exact ⟨k0_0, k0_1, k0_2, k0_3, k0_4, k0_5⟩
  have HR := Lib.hid (fun W (h : Below W0.heap.size W0 W) => cells6 (stay b1 h))
  have HFIN := Lib.hid (fun W (h : Below W0.heap.size W0 W) s z1 m1 k1 z2 m2 k2 t y1 n1 j1 y2 n2 j2 => @finDD W5 w W0 W (w.heap.size + 1) 40 (q) (r) s t z1 z2 y1 y2 m1 k1 m2 k2 n1 j1 n2 j2 hb5 hB0 (by omega) b1 h)
  have HW0 := Lib.hid hW0
  obtain ⟨k0_0, k0_1, k0_2, k0_3, k0_4, k0_5⟩ := HK.out W0 (Below.refl _ _)
  have hn0 : w.heap.size ≠ w.heap.size + 1 := by omega
  have hm0 : w.heap.size + 1 ≠ w.heap.size := by omega
  clear hW0 hB0 b0 b1 hs hx hu zq zr hb5
  go_enter Tryz.func8, Tryz.ntmps8
  go_wp2_with fail
  rw [← HW0.out]
  go_region_held3 (fun w' => w'.cell? ⟨w.heap.size, 0, none⟩ = some (.bool xs) ∧ w'.cell? ⟨w.heap.size, 1, none⟩ = some (.slice xa xl xc) ∧ w'.cell? ⟨w.heap.size, 2, none⟩ = some (.slice xb xk xe) ∧ w'.cell? ⟨w.heap.size, 3, none⟩ = some (.bool us) ∧ w'.cell? ⟨w.heap.size, 4, none⟩ = some (.slice ua ul uc) ∧ w'.cell? ⟨w.heap.size, 5, none⟩ = some (.slice ub uk ue)) (first | with_reducible exact HK.out _ hb4 | with_reducible exact HK.out _ hb3 | go_keep)
    (first
      | (go_at_call 19; (with_reducible refine (HC1.out _ (below_drew _)).mono ?_); rintro e w3 ⟨as1, a1, a2, a3, a4, a5, a6, rfl, G3, V3⟩; have hb3 := G3.out)
      | (go_at_call 19; (with_reducible refine (HC2.out _ hb3).mono ?_); rintro e w4 ⟨bs1, b1, b2, b3, b4, b5, b6, rfl, G4, V4⟩; have hb4 := hb3.trans (G4.out.mono hb3.size); obtain ⟨m0, m1, m2, m3, m4, m5, n0, n1, n2, n3, n4, n5⟩ := HR.out _ hb4; have HE := Lib.hid (HFIN.out _ hb4 _ _ _ _ _ _ _ _ _ _ _ _ _ _ (V3.out.kept G4.out) V4.out)))
  clear HFIN HC1 HC2 HK HR HW0
  go_wp2_with fail
  exact bodyPost_ret (v := .agg #[.bool as1, .slice a1 a2 a3, .slice a4 a5 a6, .bool bs1, .slice b1 b2 b3, .slice b4 b5 b6]) (by simp [results, Tryz.results8, go_sem, m0, m1, m2, m3, m4, m5]) rfl HE.out

end Go.Proofs.YtknackfmepkiaaaGreatDoor


/-
  Numbers with a delta: how two stand to one another, the document's and the program's; Same, Right.
-/
set_option linter.unusedVariables false
set_option linter.unusedSimpArgs false
namespace Go.Proofs.YtknackfmepkiaaaGreatDoor
open Go.RowKit Rep

/-- How two numbers with a delta stand to one another. -/
def cmpDQ (q r q' r' : Rat) : Int := if cmpQ q q' = 0 then cmpQ r r' else cmpQ q q'
theorem VQ.ratx {q : Rat} {s : Bool} {a b : Option Addr} {l c k e : Nat} {W : World} (h : VQ q (s, (a, l, c), (b, k, e)) W) (hs : szQ q ≤ 100) : RatX W s a l c b k e (mgQ q) q.den (denN q.den) q := by
  obtain ⟨h0, h1, h2, h3⟩ := h
  dsimp only at h0 h1 h2 h3
  subst h0 h1 h2
  exact h3.x (by omega)
section
variable {W5 W : World} {q r : Rat} {s t : Bool} {z1 z2 y1 y2 : Option Addr} {m1 k1 m2 k2 n1 j1 n2 j2 : Nat}
theorem gotP_cmp (h : VQ q (s, (z1, m1, k1), (z2, m2, k2)) W) (g : VQ r (t, (y1, n1, j1), (y2, n2, j2)) W) (hq : szQ q ≤ 100) (hr : szQ r ≤ 100) (hb : Below W5.heap.size W5 W) {c : Int} (hc : cmpQ q r = c) :
    Calls Tryz.prog 38 #[.agg #[.bool s, .slice z1 m1 k1, .slice z2 m2 k2], .agg #[.bool t, .slice y1 n1 j1, .slice y2 n2 j2]] W (GotV W5 (.int .i64 c)) := by
  subst hc
  exact (CmpP_q (h.ratx hq) (g.ratx hr)).mono fun e W' hg => ⟨hg.1, Lib.hid (hb.trans (hg.2.mono hb.size))⟩
theorem gotP_sign (h : VQ q (s, (z1, m1, k1), (z2, m2, k2)) W) (hq : szQ q ≤ 100) (hb : Below W5.heap.size W5 W) {c : Int} (hc : cmpQ q 0 = c) :
    Calls Tryz.prog 81 #[.agg #[.bool s, .slice z1 m1 k1, .slice z2 m2 k2]] W (GotV W5 (.int .i64 c)) := by
  subst hc
  exact (Sign_q (h.ratx hq)).mono fun e W' hg => ⟨hg.1, Lib.hid (hb.trans (hg.2.mono hb.size))⟩
theorem gotP_text (h : VQ q (s, (z1, m1, k1), (z2, m2, k2)) W) (hq : szQ q ≤ 100) (hb : Below W5.heap.size W5 W) {v : ByteArray} (hv : textQ q = v) :
    Calls Tryz.prog 80 #[.agg #[.bool s, .slice z1 m1 k1, .slice z2 m2 k2]] W (GotV W5 (.string v)) := by
  obtain ⟨e1, d1⟩ := h.eq
  subst hv
  rw [e1]
  exact (Text_q d1 (by omega)).mono fun e W' hg => ⟨hg.1, Lib.hid (hb.trans (hg.2.mono hb.size))⟩
end

set_option maxRecDepth 100000 in
set_option maxHeartbeats 4000000 in
theorem CmpDD {W5 w : World} {xs : Bool} {xa xb : Option Addr} {xl xc xk xe : Nat} {us : Bool} {ua ub : Option Addr} {ul uc uk ue : Nat} {ys : Bool} {ya yb : Option Addr} {yl yc yk ye : Nat} {vs : Bool} {va vb : Option Addr} {vl vc vk ve : Nat} {q r q' r' : Rat} (hx : VD q (xs, (xa, xl, xc), (xb, xk, xe)) w) (hu : VD r (us, (ua, ul, uc), (ub, uk, ue)) w) (hy : VD q' (ys, (ya, yl, yc), (yb, yk, ye)) w) (hv : VD r' (vs, (va, vl, vc), (vb, vk, ve)) w) (zq : szQ q ≤ 100) (zr : szQ r ≤ 100) (zq' : szQ q' ≤ 100) (zr' : szQ r' ≤ 100) (hb5 : Below W5.heap.size W5 w) {c : Int} (hc : cmpDQ q r q' r' = c) :
    Calls Tryz.prog 20 #[.agg #[.bool xs, .slice xa xl xc, .slice xb xk xe, .bool us, .slice ua ul uc, .slice ub uk ue], .agg #[.bool ys, .slice ya yl yc, .slice yb yk ye, .bool vs, .slice va vl vc, .slice vb vk ve]] w (GotV W5 (.int .i64 c)) := by
  obtain ⟨W0, hW0, hB0, b0, b1, hs⟩ := boxes2 w #[.bool xs, .slice xa xl xc, .slice xb xk xe, .bool us, .slice ua ul uc, .slice ub uk ue] #[.bool ys, .slice ya yl yc, .slice yb yk ye, .bool vs, .slice va vl vc, .slice vb vk ve] 40 40
  have HK : Hid (∀ W, Below W0.heap.size W0 W → (W.cell? ⟨w.heap.size, 0, none⟩ = some (.bool xs) ∧ W.cell? ⟨w.heap.size, 1, none⟩ = some (.slice xa xl xc) ∧ W.cell? ⟨w.heap.size, 2, none⟩ = some (.slice xb xk xe) ∧ W.cell? ⟨w.heap.size, 3, none⟩ = some (.bool us) ∧ W.cell? ⟨w.heap.size, 4, none⟩ = some (.slice ua ul uc) ∧ W.cell? ⟨w.heap.size, 5, none⟩ = some (.slice ub uk ue) ∧ W.cell? ⟨w.heap.size + 1, 0, none⟩ = some (.bool ys) ∧ W.cell? ⟨w.heap.size + 1, 1, none⟩ = some (.slice ya yl yc) ∧ W.cell? ⟨w.heap.size + 1, 2, none⟩ = some (.slice yb yk ye) ∧ W.cell? ⟨w.heap.size + 1, 3, none⟩ = some (.bool vs) ∧ W.cell? ⟨w.heap.size + 1, 4, none⟩ = some (.slice va vl vc) ∧ W.cell? ⟨w.heap.size + 1, 5, none⟩ = some (.slice vb vk ve))) := Lib.hid fun W h => by
    obtain ⟨k0, k1, k2, k3, k4, k5, _⟩ := cells6 (stay b0 h)
    obtain ⟨k6, k7, k8, k9, k10, k11, _⟩ := cells6 (stay b1 h)
    exact ⟨k0, k1, k2, k3, k4, k5, k6, k7, k8, k9, k10, k11⟩
  have HBL := Lib.hid (hb5.trans (hB0.mono hb5.size))
  have HW0 := Lib.hid hW0
  obtain ⟨k0, k1, k2, k3, k4, k5, k6, k7, k8, k9, k10, k11⟩ := HK.out W0 (Below.refl _ _)
  obtain ⟨c2, hc2⟩ : ∃ c2, cmpQ r r' = c2 := ⟨_, rfl⟩
  have HC2 : Hid (∀ W, Below W0.heap.size W0 W → _) := Lib.hid fun W h => got_cmp ((hu.kept hB0).kept h) ((hv.kept hB0).kept h) zr zr' h hc2
  unfold cmpDQ at hc
  rw [hc2] at hc
  rcases cmpQ_vals q q' with hz | hz | hz
  · have HC1 : Hid (∀ W, Below W0.heap.size W0 W → _) := Lib.hid fun W h => got_cmp ((hx.kept hB0).kept h) ((hy.kept hB0).kept h) zq zq' h hz
    rw [hz] at hc
    rw [if_neg (by decide)] at hc
    subst hc
    clear hW0 hB0 b0 b1 hs hx hu hy hv zq zr zq' zr' hb5 hz hc2 HC2
    go_enter Tryz.func20, Tryz.ntmps20
    go_wp2_with fail
    rw [← HW0.out]
    refine (HC1.out W0 (Below.refl _ _)).mono ?_
    rintro e w3 ⟨rfl, G3⟩
    have HE := Lib.hid (HBL.out.trans (G3.out.mono HBL.out.size))
    clear HC1 G3
    go_wp2_with fail
    go_ret
    exact ⟨rfl, HE⟩
  · have HC1 : Hid (∀ W, Below W0.heap.size W0 W → _) := Lib.hid fun W h => got_cmp ((hx.kept hB0).kept h) ((hy.kept hB0).kept h) zq zq' h hz
    rw [hz] at hc
    rw [if_pos rfl] at hc
    subst hc
    clear hW0 hB0 b0 b1 hs hx hu hy hv zq zr zq' zr' hb5 hz hc2
    go_enter Tryz.func20, Tryz.ntmps20
    go_wp2_with fail
    rw [← HW0.out]
    refine (HC1.out W0 (Below.refl _ _)).mono ?_
    rintro e w3 ⟨rfl, G3⟩
    obtain ⟨k0, k1, k2, k3, k4, k5, k6, k7, k8, k9, k10, k11⟩ := HK.out _ G3.out
    clear HC1
    go_wp2_with fail
    refine (HC2.out _ G3.out).mono ?_
    rintro e w4 ⟨rfl, G4⟩
    have HE := Lib.hid (HBL.out.trans (G4.out.mono HBL.out.size))
    clear HC2 G3 G4
    go_wp2_with fail
    go_ret
    exact ⟨rfl, HE⟩
  · have HC1 : Hid (∀ W, Below W0.heap.size W0 W → _) := Lib.hid fun W h => got_cmp ((hx.kept hB0).kept h) ((hy.kept hB0).kept h) zq zq' h hz
    rw [hz] at hc
    rw [if_neg (by decide)] at hc
    subst hc
    clear hW0 hB0 b0 b1 hs hx hu hy hv zq zr zq' zr' hb5 hz hc2 HC2
    go_enter Tryz.func20, Tryz.ntmps20
    go_wp2_with fail
    rw [← HW0.out]
    refine (HC1.out W0 (Below.refl _ _)).mono ?_
    rintro e w3 ⟨rfl, G3⟩
    have HE := Lib.hid (HBL.out.trans (G3.out.mono HBL.out.size))
    clear HC1 G3
    go_wp2_with fail
    go_ret
    exact ⟨rfl, HE⟩


set_option maxRecDepth 100000 in
set_option maxHeartbeats 4000000 in
theorem CmpPP {W5 w : World} {xs : Bool} {xa xb : Option Addr} {xl xc xk xe : Nat} {us : Bool} {ua ub : Option Addr} {ul uc uk ue : Nat} {ys : Bool} {ya yb : Option Addr} {yl yc yk ye : Nat} {vs : Bool} {va vb : Option Addr} {vl vc vk ve : Nat} {q r q' r' : Rat} (hx : VQ q (xs, (xa, xl, xc), (xb, xk, xe)) w) (hu : VQ r (us, (ua, ul, uc), (ub, uk, ue)) w) (hy : VQ q' (ys, (ya, yl, yc), (yb, yk, ye)) w) (hv : VQ r' (vs, (va, vl, vc), (vb, vk, ve)) w) (zq : szQ q ≤ 100) (zr : szQ r ≤ 100) (zq' : szQ q' ≤ 100) (zr' : szQ r' ≤ 100) (hb5 : Below W5.heap.size W5 w) {c : Int} (hc : cmpDQ q r q' r' = c) :
    Calls Tryz.prog 31 #[.agg #[.bool xs, .slice xa xl xc, .slice xb xk xe, .bool us, .slice ua ul uc, .slice ub uk ue], .agg #[.bool ys, .slice ya yl yc, .slice yb yk ye, .bool vs, .slice va vl vc, .slice vb vk ve]] w (GotV W5 (.int .i64 c)) := by
  obtain ⟨W0, hW0, hB0, b0, b1, hs⟩ := boxes2 w #[.bool xs, .slice xa xl xc, .slice xb xk xe, .bool us, .slice ua ul uc, .slice ub uk ue] #[.bool ys, .slice ya yl yc, .slice yb yk ye, .bool vs, .slice va vl vc, .slice vb vk ve] 32 32
  have HK : Hid (∀ W, Below W0.heap.size W0 W → (W.cell? ⟨w.heap.size, 0, none⟩ = some (.bool xs) ∧ W.cell? ⟨w.heap.size, 1, none⟩ = some (.slice xa xl xc) ∧ W.cell? ⟨w.heap.size, 2, none⟩ = some (.slice xb xk xe) ∧ W.cell? ⟨w.heap.size, 3, none⟩ = some (.bool us) ∧ W.cell? ⟨w.heap.size, 4, none⟩ = some (.slice ua ul uc) ∧ W.cell? ⟨w.heap.size, 5, none⟩ = some (.slice ub uk ue) ∧ W.cell? ⟨w.heap.size + 1, 0, none⟩ = some (.bool ys) ∧ W.cell? ⟨w.heap.size + 1, 1, none⟩ = some (.slice ya yl yc) ∧ W.cell? ⟨w.heap.size + 1, 2, none⟩ = some (.slice yb yk ye) ∧ W.cell? ⟨w.heap.size + 1, 3, none⟩ = some (.bool vs) ∧ W.cell? ⟨w.heap.size + 1, 4, none⟩ = some (.slice va vl vc) ∧ W.cell? ⟨w.heap.size + 1, 5, none⟩ = some (.slice vb vk ve))) := Lib.hid fun W h => by
    obtain ⟨k0, k1, k2, k3, k4, k5, _⟩ := cells6 (stay b0 h)
    obtain ⟨k6, k7, k8, k9, k10, k11, _⟩ := cells6 (stay b1 h)
    exact ⟨k0, k1, k2, k3, k4, k5, k6, k7, k8, k9, k10, k11⟩
  have HBL := Lib.hid (hb5.trans (hB0.mono hb5.size))
  have HW0 := Lib.hid hW0
  obtain ⟨k0, k1, k2, k3, k4, k5, k6, k7, k8, k9, k10, k11⟩ := HK.out W0 (Below.refl _ _)
  obtain ⟨c2, hc2⟩ : ∃ c2, cmpQ r r' = c2 := ⟨_, rfl⟩
  have HC2 : Hid (∀ W, Below W0.heap.size W0 W → _) := Lib.hid fun W h => gotP_cmp ((hu.kept hB0).kept h) ((hv.kept hB0).kept h) zr zr' h hc2
  unfold cmpDQ at hc
  rw [hc2] at hc
  rcases cmpQ_vals q q' with hz | hz | hz
  · have HC1 : Hid (∀ W, Below W0.heap.size W0 W → _) := Lib.hid fun W h => gotP_cmp ((hx.kept hB0).kept h) ((hy.kept hB0).kept h) zq zq' h hz
    rw [hz] at hc
    rw [if_neg (by decide)] at hc
    subst hc
    clear hW0 hB0 b0 b1 hs hx hu hy hv zq zr zq' zr' hb5 hz hc2 HC2
    go_enter Tryz.func31, Tryz.ntmps31
    go_wp2_with fail
    rw [← HW0.out]
    refine (HC1.out W0 (Below.refl _ _)).mono ?_
    rintro e w3 ⟨rfl, G3⟩
    have HE := Lib.hid (HBL.out.trans (G3.out.mono HBL.out.size))
    clear HC1 G3
    go_wp2_with fail
    go_ret
    exact ⟨rfl, HE⟩
  · have HC1 : Hid (∀ W, Below W0.heap.size W0 W → _) := Lib.hid fun W h => gotP_cmp ((hx.kept hB0).kept h) ((hy.kept hB0).kept h) zq zq' h hz
    rw [hz] at hc
    rw [if_pos rfl] at hc
    subst hc
    clear hW0 hB0 b0 b1 hs hx hu hy hv zq zr zq' zr' hb5 hz hc2
    go_enter Tryz.func31, Tryz.ntmps31
    go_wp2_with fail
    rw [← HW0.out]
    refine (HC1.out W0 (Below.refl _ _)).mono ?_
    rintro e w3 ⟨rfl, G3⟩
    obtain ⟨k0, k1, k2, k3, k4, k5, k6, k7, k8, k9, k10, k11⟩ := HK.out _ G3.out
    clear HC1
    go_wp2_with fail
    refine (HC2.out _ G3.out).mono ?_
    rintro e w4 ⟨rfl, G4⟩
    have HE := Lib.hid (HBL.out.trans (G4.out.mono HBL.out.size))
    clear HC2 G3 G4
    go_wp2_with fail
    go_ret
    exact ⟨rfl, HE⟩
  · have HC1 : Hid (∀ W, Below W0.heap.size W0 W → _) := Lib.hid fun W h => gotP_cmp ((hx.kept hB0).kept h) ((hy.kept hB0).kept h) zq zq' h hz
    rw [hz] at hc
    rw [if_neg (by decide)] at hc
    subst hc
    clear hW0 hB0 b0 b1 hs hx hu hy hv zq zr zq' zr' hb5 hz hc2 HC2
    go_enter Tryz.func31, Tryz.ntmps31
    go_wp2_with fail
    rw [← HW0.out]
    refine (HC1.out W0 (Below.refl _ _)).mono ?_
    rintro e w3 ⟨rfl, G3⟩
    have HE := Lib.hid (HBL.out.trans (G3.out.mono HBL.out.size))
    clear HC1 G3
    go_wp2_with fail
    go_ret
    exact ⟨rfl, HE⟩


set_option maxRecDepth 100000 in
set_option maxHeartbeats 4000000 in
theorem SameDD {W5 w : World} {xs : Bool} {xa xb : Option Addr} {xl xc xk xe : Nat} {us : Bool} {ua ub : Option Addr} {ul uc uk ue : Nat} {ys : Bool} {ya yb : Option Addr} {yl yc yk ye : Nat} {vs : Bool} {va vb : Option Addr} {vl vc vk ve : Nat} {q r q' r' : Rat} (hx : VQ q (xs, (xa, xl, xc), (xb, xk, xe)) w) (hu : VQ r (us, (ua, ul, uc), (ub, uk, ue)) w) (hy : VQ q' (ys, (ya, yl, yc), (yb, yk, ye)) w) (hv : VQ r' (vs, (va, vl, vc), (vb, vk, ve)) w) (zq : szQ q ≤ 100) (zr : szQ r ≤ 100) (zq' : szQ q' ≤ 100) (zr' : szQ r' ≤ 100) (hb5 : Below W5.heap.size W5 w) (e1 : q = q') (e2 : r = r') :
    Calls Tryz.prog 71 #[.agg #[.bool xs, .slice xa xl xc, .slice xb xk xe, .bool us, .slice ua ul uc, .slice ub uk ue], .agg #[.bool ys, .slice ya yl yc, .slice yb yk ye, .bool vs, .slice va vl vc, .slice vb vk ve]] w (GotV W5 (.bool true)) := by
  obtain ⟨W0, hW0, hB0, b0, b1, hs⟩ := boxes2 w #[.bool xs, .slice xa xl xc, .slice xb xk xe, .bool us, .slice ua ul uc, .slice ub uk ue] #[.bool ys, .slice ya yl yc, .slice yb yk ye, .bool vs, .slice va vl vc, .slice vb vk ve] 32 32
  have HK : Hid (∀ W, Below W0.heap.size W0 W → (W.cell? ⟨w.heap.size, 0, none⟩ = some (.bool xs) ∧ W.cell? ⟨w.heap.size, 1, none⟩ = some (.slice xa xl xc) ∧ W.cell? ⟨w.heap.size, 2, none⟩ = some (.slice xb xk xe) ∧ W.cell? ⟨w.heap.size, 3, none⟩ = some (.bool us) ∧ W.cell? ⟨w.heap.size, 4, none⟩ = some (.slice ua ul uc) ∧ W.cell? ⟨w.heap.size, 5, none⟩ = some (.slice ub uk ue) ∧ W.cell? ⟨w.heap.size + 1, 0, none⟩ = some (.bool ys) ∧ W.cell? ⟨w.heap.size + 1, 1, none⟩ = some (.slice ya yl yc) ∧ W.cell? ⟨w.heap.size + 1, 2, none⟩ = some (.slice yb yk ye) ∧ W.cell? ⟨w.heap.size + 1, 3, none⟩ = some (.bool vs) ∧ W.cell? ⟨w.heap.size + 1, 4, none⟩ = some (.slice va vl vc) ∧ W.cell? ⟨w.heap.size + 1, 5, none⟩ = some (.slice vb vk ve))) := Lib.hid fun W h => by
    obtain ⟨k0, k1, k2, k3, k4, k5, _⟩ := cells6 (stay b0 h)
    obtain ⟨k6, k7, k8, k9, k10, k11, _⟩ := cells6 (stay b1 h)
    exact ⟨k0, k1, k2, k3, k4, k5, k6, k7, k8, k9, k10, k11⟩
  have HBL := Lib.hid (hb5.trans (hB0.mono hb5.size))
  have HW0 := Lib.hid hW0
  obtain ⟨k0, k1, k2, k3, k4, k5, k6, k7, k8, k9, k10, k11⟩ := HK.out W0 (Below.refl _ _)
  subst e1 e2
  have HC1 : Hid (∀ W, Below W0.heap.size W0 W → _) := Lib.hid fun W h => got_same ((hx.kept hB0).kept h) ((hy.kept hB0).kept h) zq h
  have HC2 : Hid (∀ W, Below W0.heap.size W0 W → _) := Lib.hid fun W h => got_same ((hu.kept hB0).kept h) ((hv.kept hB0).kept h) zr h
  clear hW0 hB0 b0 b1 hs hx hu hy hv zq zr zq' zr' hb5
  go_enter Tryz.func71, Tryz.ntmps71
  go_wp2_with fail
  rw [← HW0.out]
  refine (HC1.out W0 (Below.refl _ _)).mono ?_
  rintro e w3 ⟨rfl, G3⟩
  obtain ⟨k0, k1, k2, k3, k4, k5, k6, k7, k8, k9, k10, k11⟩ := HK.out _ G3.out
  clear HC1
  go_wp2_with fail
  refine (HC2.out _ G3.out).mono ?_
  rintro e w4 ⟨rfl, G4⟩
  have HE := Lib.hid (HBL.out.trans (G4.out.mono HBL.out.size))
  clear HC2 G3 G4
  go_wp2_with fail
  go_ret
  exact ⟨rfl, HE⟩


set_option maxRecDepth 100000 in
set_option maxHeartbeats 2000000 in
theorem RightDD {W5 w : World} {s t : Bool} {a1 a2 b1 b2 : Option Addr} {c1 c2 e1 e2 : Nat} {xs ds ys es : List Nat} (hx : HandR w a1 c1 xs a2 c2 ds) (hu : HandR w b1 e1 ys b2 e2 es) (l1 : xs.length ≤ 6) (l2 : ds.length ≤ 6) (l3 : ys.length ≤ 6) (l4 : es.length ≤ 6) (hb5 : Below W5.heap.size W5 w) :
    Calls Tryz.prog 35 #[.agg #[.bool s, .slice a1 xs.length c1, .slice a2 ds.length c2, .bool t, .slice b1 ys.length e1, .slice b2 es.length e2]] w (GotV W5 (.bool (rightB s xs ds && rightB t ys es))) := by
  obtain ⟨W0, hW0⟩ : ∃ W0, W0 = w.alloc (.cells #[.bool s, .slice a1 xs.length c1, .slice a2 ds.length c2, .bool t, .slice b1 ys.length e1, .slice b2 es.length e2] 32) := ⟨_, rfl⟩
  have hB0 : Below w.heap.size w W0 := by rw [hW0]; exact (Below.refl _ _).alloc (Nat.le_refl _) _
  have b0 : W0.heap[w.heap.size]? = some (.cells #[.bool s, .slice a1 xs.length c1, .slice a2 ds.length c2, .bool t, .slice b1 ys.length e1, .slice b2 es.length e2] 32 (0, 0)) := by rw [hW0]; exact heap_alloc_new w _
  have HC1 : Hid (∀ W, Below W0.heap.size W0 W → _) := Lib.hid fun W h => RightR_any' (s := s) ((hx.kept hB0).kept h) l1 l2
  have HC2 : Hid (∀ W, Below W0.heap.size W0 W → _) := Lib.hid fun W h => RightR_any' (s := t) ((hu.kept hB0).kept h) l3 l4
  have HK : Hid (∀ W, Below W0.heap.size W0 W → _) := Lib.hid fun W h => cells6 (stay b0 h)
  have HBL := Lib.hid (hb5.trans (hB0.mono hb5.size))
  have HW0 := Lib.hid hW0
  obtain ⟨k0, k1, k2, k3, k4, k5, _⟩ := HK.out W0 (Below.refl _ _)
  obtain ⟨p, hp⟩ : ∃ p, rightB s xs ds = p := ⟨_, rfl⟩
  obtain ⟨q, hq⟩ : ∃ q, rightB t ys es = q := ⟨_, rfl⟩
  rw [hp] at HC1
  rw [hq] at HC2
  rw [hp, hq]
  clear hW0 hB0 b0 hx hu l1 l2 l3 l4 hb5 hp hq
  go_enter Tryz.func35, Tryz.ntmps35
  go_wp2_with fail
  rw [← HW0.out]
  have HD := Lib.hid (HC1.out W0 (Below.refl _ _))
  cases p
  · refine HD.out.mono ?_
    rintro e w3 ⟨rfl, h3⟩
    have HE := Lib.hid (HBL.out.trans (h3.mono HBL.out.size))
    clear h3 HC1 HC2 HK HD
    go_wp2_with fail
    go_ret
    exact ⟨rfl, HE⟩
  · refine HD.out.mono ?_
    rintro e w3 ⟨rfl, h3⟩
    obtain ⟨k0, k1, k2, k3, k4, k5, _⟩ := HK.out _ h3
    have HC3 := Lib.hid (HC2.out _ h3)
    have HE1 := Lib.hid (HBL.out.trans (h3.mono HBL.out.size))
    clear h3 HC1 HC2 HK HD
    go_wp2_with fail
    refine HC3.out.mono ?_
    rintro e w4 ⟨rfl, h4⟩
    have HE := Lib.hid (HE1.out.trans (h4.mono HE1.out.size))
    clear h4 HC3
    go_wp2_with fail
    go_ret
    exact ⟨by rw [Bool.true_and]; rfl, HE⟩
end Go.Proofs.YtknackfmepkiaaaGreatDoor

