/- By program out of: RatCmp, RatText, RatTerm, RefRight, PkRat, RatLaw, RatHand, RatTold, RatSt, RatPair, RatRight, PkRatio, DelBase, PkDelta. -/
import Derived.Test.YtodedlnpokagfaaDoorMibdfpo
import Derived.IntWalk
import Derived.Test.YtodedlnpokagfaaDoorMeljofo
import Derived.Test.YtodedlnpokagfaaDoorMcdobkk
/-
  ratio.Cmp.
-/
set_option linter.unusedVariables false
set_option linter.unusedSimpArgs false
namespace Go.Proofs.YtodedlnpokagfaaDoor
open Go.RowKit Rep

theorem wrap_small {a : Int} (h1 : -1 ≤ a) (h2 : a ≤ 1) : IntKind.i64.wrap a = a := by
  exact IntWalk.i64_in _ (by omega)
end Go.Proofs.YtodedlnpokagfaaDoor


/-
  ratio.Text, Term; the document's.
-/
set_option linter.unusedVariables false
set_option linter.unusedSimpArgs false
namespace Go.Proofs.YtodedlnpokagfaaDoor
open Go.RowKit Rep

theorem dlen_L {n k : Nat} (h : (L n).length ≤ k) : (D n).length ≤ 10 * k := by
  have := D_len_limbs (L_lim n)
  rw [V_L] at this
  omega
/-- A number's text. -/
def tN (n : Nat) : ByteArray := strOf (txt n)
theorem tN_len (n : Nat) : (tN n).size ≤ (D n).length + 1 := by
  show (strOf (txt n)).size ≤ _
  unfold strOf txt
  by_cases h : n = 0
  · rw [if_pos h]; show 1 ≤ _; omega
  · rw [if_neg h]
    show ((D n).reverse.map (fun d => UInt8.ofNat (48 + d))).toArray.size ≤ _
    simp
theorem bapp_assoc (a b c : ByteArray) : a ++ b ++ c = a ++ (b ++ c) := by
  apply ByteArray.ext
  simp [ByteArray.data_append]
/-- A ratio's text, of its parts' texts. -/
def textB (s o : Bool) (a b : ByteArray) : ByteArray := (if s = true then (⟨#[45]⟩ ++ a) else a) ++ (if o = true then ⟨#[]⟩ else (⟨#[47]⟩ ++ b))
def textQ (q : Rat) : ByteArray := textB (ngQ q) (decide (q.den = 1)) (tN (mgQ q)) (tN (denN q.den))
theorem textB_one (s : Bool) (a b : ByteArray) : textB s true a b = if s = true then (⟨#[45]⟩ ++ a) else a := by
  unfold textB
  rw [if_pos rfl]
  apply ByteArray.ext
  simp [ByteArray.data_append]
theorem textB_more (s : Bool) (a b : ByteArray) : textB s false a b = (if s = true then (⟨#[45]⟩ ++ a) else a) ++ (⟨#[47]⟩ ++ b) := rfl
/-- A call gives a text. -/
def GivesTx (v : ByteArray) (w : World) (e : Ending) (w' : World) : Prop := e = .returned (.string v) ∧ Below w.heap.size w w'

theorem den_gt {x : Rat} (hd : x.den ≠ 1) : 0 < (L (denN x.den)).length := by
  rw [Nat.pos_iff_ne_zero, Ne, L_len_zero]
  unfold denN
  rw [if_neg hd]
  have := den_pos x
  omega

end Go.Proofs.YtodedlnpokagfaaDoor


/-
  ratio.Term; the document's Text, Term.
-/
set_option linter.unusedVariables false
set_option linter.unusedSimpArgs false
namespace Go.Proofs.YtodedlnpokagfaaDoor
open Go.RowKit Rep

/-- A ratio's term, of its parts' texts. -/
def termB (s o : Bool) (a b : ByteArray) : ByteArray := if s = true then (⟨#[40, 45, 32]⟩ ++ (if o = true then a ++ ⟨#[46, 48]⟩ else (⟨#[40, 47, 32]⟩ ++ (a ++ ⟨#[46, 48]⟩) ++ ⟨#[32]⟩ ++ b ++ ⟨#[46, 48, 41]⟩)) ++ ⟨#[41]⟩) else (if o = true then a ++ ⟨#[46, 48]⟩ else (⟨#[40, 47, 32]⟩ ++ (a ++ ⟨#[46, 48]⟩) ++ ⟨#[32]⟩ ++ b ++ ⟨#[46, 48, 41]⟩))
def termQ (q : Rat) : ByteArray := termB (ngQ q) (decide (q.den = 1)) (tN (mgQ q)) (tN (denN q.den))
theorem termB_one (s : Bool) (a b : ByteArray) : termB s true a b = if s = true then (⟨#[40, 45, 32]⟩ ++ (a ++ ⟨#[46, 48]⟩) ++ ⟨#[41]⟩) else a ++ ⟨#[46, 48]⟩ := rfl
theorem termB_more (s : Bool) (a b : ByteArray) : termB s false a b = if s = true then (⟨#[40, 45, 32]⟩ ++ (⟨#[40, 47, 32]⟩ ++ (a ++ ⟨#[46, 48]⟩) ++ ⟨#[32]⟩ ++ b ++ ⟨#[46, 48, 41]⟩) ++ ⟨#[41]⟩) else (⟨#[40, 47, 32]⟩ ++ (a ++ ⟨#[46, 48]⟩) ++ ⟨#[32]⟩ ++ b ++ ⟨#[46, 48, 41]⟩) := rfl
/-- What the test for a denominator of 1 reads. -/
theorem den_reads {W : World} {a : Option Addr} {c M : Nat} (h : DAt W a c M) :
    (M = 1 → ∃ g off, a = some ⟨g, off, none⟩ ∧ 0 < (D M).length ∧ W.cell? ⟨g, off, none⟩ = some (.int .i64 1) ∧ True) ∧
    (M ≠ 1 → ((((D M).length : Nat) : Int) != 1) = true ∨ (((((D M).length : Nat) : Int) != 1) = false ∧ ∃ g off, a = some ⟨g, off, none⟩ ∧ 0 < (D M).length ∧ W.cell? ⟨g, off, none⟩ = some (.int .i64 (M : Int)) ∧ ((M : Int) != 1) = true)) := by
  constructor
  · intro h1
    subst h1
    obtain ⟨g, off, hga, hg, hc⟩ := h.1.open' (by rw [List.length_map, D_one]; simp)
    have hck := hc 0 (.int .i64 1) (by rw [D_one]; rfl)
    rw [Nat.add_zero] at hck
    exact ⟨g, off, hga, by rw [D_one]; simp, hck, trivial⟩
  · intro hM
    by_cases hl : (D M).length = 1
    · obtain ⟨hm, hDM⟩ := D_len1 hl
      obtain ⟨g, off, hga, hg, hc⟩ := h.1.open' (by rw [List.length_map]; omega)
      have hck := hc 0 (.int .i64 (M : Int)) (by rw [hDM]; rfl)
      rw [Nat.add_zero] at hck
      exact .inr ⟨by rw [hl]; rfl, g, off, hga, by omega, hck, by rw [bne_iff_ne]; omega⟩
    · exact .inl (by rw [bne_iff_ne]; omega)

end Go.Proofs.YtodedlnpokagfaaDoor


/-
  The document's Right of ratios.
-/
set_option linter.unusedVariables false
set_option linter.unusedSimpArgs false
namespace Go.Proofs.YtodedlnpokagfaaDoor
open Go.RowKit Rep

/-- The number that a sign and two rows of limbs tell. -/
def qOf (s : Bool) (xs ds : List Nat) : Rat := mkQ s (V xs) (if V ds = 0 then 1 else V ds)
/-- Is it in its one form? -/
def rightB (s : Bool) (xs ds : List Nat) : Bool := decide (s = ngQ (qOf s xs ds) ∧ xs = L (mgQ (qOf s xs ds)) ∧ ds = L (denN (qOf s xs ds).den))
theorem rightB_top {s : Bool} {xs ds : List Nat} (h : rightB s xs ds = true) : (xs.length ≠ 0 → xs.getD (xs.length - 1) 0 ≠ 0) ∧ (ds.length ≠ 0 → ds.getD (ds.length - 1) 0 ≠ 0) ∧ ¬ (xs.length = 0 ∧ s = true) := by
  obtain ⟨h1, h2, h3⟩ := of_decide_eq_true h
  have key : ∀ {n : Nat} {l : List Nat}, l = L n → l.length ≠ 0 → l.getD (l.length - 1) 0 ≠ 0 := fun {n l} e hl => by
    subst e; exact Nat.ne_of_gt (top_limb (M := n) (by omega))
  refine ⟨key h2, key h3, fun ⟨e1, e2⟩ => ?_⟩
  have e3 : mgQ (qOf s xs ds) = 0 := by rw [h2] at e1; exact L_len_zero.1 e1
  have e4 := mg_zero.1 e3
  rw [e4, e2] at h1
  cases h1
theorem last_limb {w : World} {a : Option Addr} {xs : List Nat} (h : Reads w a (xs.map u32v)) (hl : xs.length ≠ 0) : ∃ g off, a = some ⟨g, off, none⟩ ∧ g < w.heap.size ∧ w.cell? ⟨g, off + (xs.length - 1), none⟩ = some (.int .u32 ((xs.getD (xs.length - 1) 0 : Nat) : Int)) := by
  obtain ⟨g, off, rfl, hg, hcell⟩ := h.open' (by rw [List.length_map]; omega)
  exact ⟨g, off, rfl, hg, hcell (xs.length - 1) _ (map_getElem? (xs := xs) (by omega))⟩
/-- A row of limbs: empty; or with a last one, which is a nought, or none. -/
def Tail3 (w : World) (a : Option Addr) (l : Nat) (bad : Bool) : Prop :=
  (l = 0 ∧ bad = false) ∨ (∃ g off x : Nat, a = some ⟨g, off, none⟩ ∧ g < w.heap.size ∧ w.cell? ⟨g, off + (l - 1), none⟩ = some (.int .u32 (x : Int)) ∧ 0 < l ∧ ((x : Int) == 0) = bad)
theorem tail3 {w : World} {a : Option Addr} {xs : List Nat} (h : Reads w a (xs.map u32v)) : Tail3 w a xs.length (decide (xs.length ≠ 0 ∧ xs.getD (xs.length - 1) 0 = 0)) := by
  by_cases hl : xs.length = 0
  · exact .inl ⟨hl, by simp [hl]⟩
  · obtain ⟨g, off, ha, hg, hc⟩ := last_limb h hl
    refine .inr ⟨g, off, _, ha, hg, hc, by omega, ?_⟩
    generalize xs.getD (xs.length - 1) 0 = x
    rw [Bool.eq_iff_iff]
    simp [hl]

set_option maxRecDepth 100000 in
set_option maxHeartbeats 8000000 in
theorem RightR_any {w : World} {s : Bool} {a1 a2 : Option Addr} {c1 c2 : Nat} {xs ds : List Nat} (hx : NumIn w a1 c1 xs) (hd : NumIn w a2 c2 ds) (lx : xs.length ≤ 10000) (ld : ds.length ≤ 10000) :
    Calls Tryd.prog 41 #[ratV s (.slice a1 xs.length c1) (.slice a2 ds.length c2)] w (GivesB (rightB s xs ds) w) := by
  obtain ⟨W0, hW0⟩ : ∃ W0, W0 = w.alloc (.cells #[.bool s, .slice a1 xs.length c1, .slice a2 ds.length c2] 36) := ⟨_, rfl⟩
  have hB0 : Below w.heap.size w W0 := by rw [hW0]; exact (Below.refl _ _).alloc (Nat.le_refl _) _
  have b1 : W0.heap[w.heap.size]? = some (.cells #[.bool s, .slice a1 xs.length c1, .slice a2 ds.length c2] 36 (0, 0)) := by rw [hW0]; exact heap_alloc_new w _
  have t1 := tail3 hx.reads
  have t2 := tail3 hd.reads
  have htop := @rightB_top s xs ds
  have HC : Hid (∀ W, Below W0.heap.size W0 W → Calls Tryd.prog 49 #[ratV s (.slice a1 xs.length c1) (.slice a2 ds.length c2)] W (fun e W' => ∃ a3 l3 c3 a4 l4 c4, e = .returned (.agg #[.bool s, .slice a3 l3 c3, .slice a4 l4 c4]) ∧ Below W0.heap.size W0 W' ∧
      Hid (Calls Tryd.prog 48 #[.agg #[.bool s, .slice a3 l3 c3, .slice a4 l4 c4]] W' (fun e W2 => ∃ t a5 l5 c5 a6 l6 c6, e = .returned (.agg #[.bool t, .slice a5 l5 c5, .slice a6 l6 c6]) ∧ Below W0.heap.size W0 W2 ∧
        Hid (Calls Tryd.prog 36 #[ratV s (.slice a1 xs.length c1) (.slice a2 ds.length c2), .agg #[.bool t, .slice a5 l5 c5, .slice a6 l6 c6]] W2 (fun e W3 => e = .returned (.bool (rightB s xs ds)) ∧ Below W0.heap.size W0 W3)))))) := Lib.hid fun W h => by
    have hx1 := (hx.kept hB0).kept h
    have hd1 := (hd.kept hB0).kept h
    refine (Of_any s a1 a2 xs.length c1 ds.length c2 (V xs) (V ds) W (.inn hx1) (.inn hd1) (by omega) (by omega)).mono ?_
    rintro e W' ⟨a3, c3, a4, c4, rfl, d3, d4, hb1⟩
    have hB1 := h.trans (hb1.mono h.size)
    have hp : 0 < (if V ds = 0 then 1 else V ds) := by split <;> omega
    have q1 : (D (V xs)).length ≤ 1000000 := by have := dlen_L (V_len hx.lim (Nat.le_refl _)); omega
    have q2 : (D (if V ds = 0 then 1 else V ds)).length ≤ 1000000 := by
      split
      · rw [D_one]; simp
      · have := dlen_L (V_len hd.lim (Nat.le_refl _)); omega
    refine ⟨a3, _, c3, a4, _, c4, rfl, hB1, Lib.hid ((Form_q (s := s) d3 d4 hp q1 q2).mono ?_)⟩
    rintro e W2 ⟨a5, c5, a6, c6, rfl, hq, hb2⟩
    have hB2 := hB1.trans (hb2.mono hB1.size)
    refine ⟨_, a5, _, c5, a6, _, c6, rfl, hB2, Lib.hid ((SameR_any s _ a1 a2 a5 a6 c1 c2 c5 c6 xs ds (L (mgQ (qOf s xs ds))) (L (denN (qOf s xs ds).den)) W2 (((hx1.kept hb1).kept hb2).reads) (((hd1.kept hb1).kept hb2).reads) hq.num.1 hq.den.1 (by omega) (by omega)).mono ?_)⟩
    rintro e W3 ⟨rfl, hb3⟩
    exact ⟨rfl, hB2.trans (hb3.mono hB2.size)⟩
  have HK : Hid (∀ W, Below W0.heap.size W0 W → W.cell? ⟨w.heap.size, 0, none⟩ = some (.bool s) ∧ W.cell? ⟨w.heap.size, 1, none⟩ = some (.slice a1 xs.length c1) ∧ W.cell? ⟨w.heap.size, 2, none⟩ = some (.slice a2 ds.length c2)) := Lib.hid fun W h => by
    obtain ⟨q0, q1, q2, _⟩ := keep3 b1 W h
    exact ⟨q0, q1, q2⟩
  have HB := Lib.hid hB0
  have HW0 := Lib.hid hW0
  obtain ⟨k0, k1, k2, j0, j1, j2⟩ := cells3 b1
  have hV : rightB s xs ds = true → decide (xs.length ≠ 0 ∧ xs.getD (xs.length - 1) 0 = 0) = false ∧ decide (ds.length ≠ 0 ∧ ds.getD (ds.length - 1) 0 = 0) = false ∧ (xs.length = 0 → s = false) := fun h => by
    obtain ⟨f1, f2, f3⟩ := htop h
    exact ⟨decide_eq_false fun c => f1 c.1 c.2, decide_eq_false fun c => f2 c.1 c.2, fun e => by cases s <;> first | rfl | exact absurd ⟨e, rfl⟩ f3⟩
  clear hW0 hB0 b1 hx hd htop
  generalize decide (xs.length ≠ 0 ∧ xs.getD (xs.length - 1) 0 = 0) = u1 at *
  generalize decide (ds.length ≠ 0 ∧ ds.getD (ds.length - 1) 0 = 0) = u2 at *
  generalize rightB s xs ds = r at *
  generalize xs.length = l1 at *
  generalize ds.length = l2 at *
  have hend : (u1 = false ∧ u2 = false ∧ (l1 = 0 → s = false)) ∨ r = false := by
    cases r
    · exact .inr rfl
    · exact .inl (hV rfl)
  unfold ratV at HC ⊢
  clear hV
  rcases t1 with ⟨rfl, rfl⟩ | ⟨g1, o1, x1, rfl, hgl1, hck1, hp1, hz1⟩
  · rcases t2 with ⟨rfl, rfl⟩ | ⟨g2, o2, x2, rfl, hgl2, hck2, hp2, hz2⟩
    · cases s
      · clear hend
        have HC1 := Lib.hid (HC.out _ (below_drew _))
        go_enter Tryd.func41, Tryd.ntmps41
        go_wp2_with fail
        rw [← HW0.out]
        go_region_held3 (fun w' => w'.cell? ⟨w.heap.size, 0, none⟩ = some (.bool (false)) ∧ w'.cell? ⟨w.heap.size, 1, none⟩ = some (.slice a1 0 c1) ∧ w'.cell? ⟨w.heap.size, 2, none⟩ = some (.slice a2 0 c2)) (first | exact HK.out _ hb5 | exact HK.out _ hb4 | exact HK.out _ hb3 | go_keep)
            (first
              | (go_at_call 49; (with_reducible refine HC1.out.mono ?_); rintro e w3 ⟨a3, l3, c3, a4, l4, c4, rfl, hb3, HC2⟩)
              | (go_at_call 48; (with_reducible refine HC2.out.mono ?_); rintro e w4 ⟨t, a5, l5, c5, a6, l6, c6, rfl, hb4, HC3⟩)
              | (go_at_call 36; (with_reducible refine HC3.out.mono ?_); rintro e w5 ⟨rfl, hb5⟩))
        have HE := Lib.hid (HB.out.trans (hb5.mono HB.out.size))
        clear HC HC1 HC2 HC3 HK HW0 hb3 hb4 hb5
        go_wp2_with fail
        go_ret
        exact ⟨rfl, HE.out⟩
      · skip
        have hr : r = false := by
          rcases hend with h | h
          · simp at h
          · exact h
        subst hr
        clear HC HK hend
        have HE := HB
        clear HB
        go_enter Tryd.func41, Tryd.ntmps41
        go_wp2_with fail
        rw [← HW0.out]
        go_wp2_with fail
        go_ret
        exact ⟨rfl, HE.out⟩
    · skip
      have hg2a : decide ((0 : Int) < (l2 : Int)) = true := decide_eq_true (by omega)
      have hg2b : decide (0 < l2) = true := decide_eq_true hp2
      have hg2c : ((l2 : Int) == 0) = false := cast_beq_no (by omega)
      have hi2 : ((l2 : Int) - 1).toNat = l2 - 1 := by omega
      cases u2
      · cases s
        · clear hend
          have HC1 := Lib.hid (HC.out _ (below_drew _))
          go_enter Tryd.func41, Tryd.ntmps41
          go_wp2_with fail
          rw [← HW0.out]
          go_region_held3 (fun w' => w'.cell? ⟨w.heap.size, 0, none⟩ = some (.bool (false)) ∧ w'.cell? ⟨w.heap.size, 1, none⟩ = some (.slice a1 0 c1) ∧ w'.cell? ⟨w.heap.size, 2, none⟩ = some (.slice (some ⟨g2, o2, none⟩) l2 c2)) (first | exact HK.out _ hb5 | exact HK.out _ hb4 | exact HK.out _ hb3 | go_keep)
              (first
                | (go_at_call 49; (with_reducible refine HC1.out.mono ?_); rintro e w3 ⟨a3, l3, c3, a4, l4, c4, rfl, hb3, HC2⟩)
                | (go_at_call 48; (with_reducible refine HC2.out.mono ?_); rintro e w4 ⟨t, a5, l5, c5, a6, l6, c6, rfl, hb4, HC3⟩)
                | (go_at_call 36; (with_reducible refine HC3.out.mono ?_); rintro e w5 ⟨rfl, hb5⟩))
          have HE := Lib.hid (HB.out.trans (hb5.mono HB.out.size))
          clear HC HC1 HC2 HC3 HK HW0 hb3 hb4 hb5
          go_wp2_with fail
          go_ret
          exact ⟨rfl, HE.out⟩
        · skip
          have hr : r = false := by
            rcases hend with h | h
            · simp at h
            · exact h
          subst hr
          clear HC HK hend
          have HE := HB
          clear HB
          go_enter Tryd.func41, Tryd.ntmps41
          go_wp2_with fail
          rw [← HW0.out]
          go_wp2_with fail
          go_ret
          exact ⟨rfl, HE.out⟩
      · skip
        have hr : r = false := by
          rcases hend with h | h
          · simp at h
          · exact h
        subst hr
        clear HC HK hend
        have HE := HB
        clear HB
        go_enter Tryd.func41, Tryd.ntmps41
        go_wp2_with fail
        rw [← HW0.out]
        go_wp2_with fail
        go_ret
        exact ⟨rfl, HE.out⟩
  · skip
    have hg1a : decide ((0 : Int) < (l1 : Int)) = true := decide_eq_true (by omega)
    have hg1b : decide (0 < l1) = true := decide_eq_true hp1
    have hg1c : ((l1 : Int) == 0) = false := cast_beq_no (by omega)
    have hi1 : ((l1 : Int) - 1).toNat = l1 - 1 := by omega
    cases u1
    · rcases t2 with ⟨rfl, rfl⟩ | ⟨g2, o2, x2, rfl, hgl2, hck2, hp2, hz2⟩
      · clear hend
        have HC1 := Lib.hid (HC.out _ (below_drew _))
        go_enter Tryd.func41, Tryd.ntmps41
        go_wp2_with fail
        rw [← HW0.out]
        go_region_held3 (fun w' => w'.cell? ⟨w.heap.size, 0, none⟩ = some (.bool (s)) ∧ w'.cell? ⟨w.heap.size, 1, none⟩ = some (.slice (some ⟨g1, o1, none⟩) l1 c1) ∧ w'.cell? ⟨w.heap.size, 2, none⟩ = some (.slice a2 0 c2)) (first | exact HK.out _ hb5 | exact HK.out _ hb4 | exact HK.out _ hb3 | go_keep)
            (first
              | (go_at_call 49; (with_reducible refine HC1.out.mono ?_); rintro e w3 ⟨a3, l3, c3, a4, l4, c4, rfl, hb3, HC2⟩)
              | (go_at_call 48; (with_reducible refine HC2.out.mono ?_); rintro e w4 ⟨t, a5, l5, c5, a6, l6, c6, rfl, hb4, HC3⟩)
              | (go_at_call 36; (with_reducible refine HC3.out.mono ?_); rintro e w5 ⟨rfl, hb5⟩))
        have HE := Lib.hid (HB.out.trans (hb5.mono HB.out.size))
        clear HC HC1 HC2 HC3 HK HW0 hb3 hb4 hb5
        go_wp2_with fail
        go_ret
        exact ⟨rfl, HE.out⟩
      · skip
        have hg2a : decide ((0 : Int) < (l2 : Int)) = true := decide_eq_true (by omega)
        have hg2b : decide (0 < l2) = true := decide_eq_true hp2
        have hg2c : ((l2 : Int) == 0) = false := cast_beq_no (by omega)
        have hi2 : ((l2 : Int) - 1).toNat = l2 - 1 := by omega
        cases u2
        · clear hend
          have HC1 := Lib.hid (HC.out _ (below_drew _))
          go_enter Tryd.func41, Tryd.ntmps41
          go_wp2_with fail
          rw [← HW0.out]
          go_region_held3 (fun w' => w'.cell? ⟨w.heap.size, 0, none⟩ = some (.bool (s)) ∧ w'.cell? ⟨w.heap.size, 1, none⟩ = some (.slice (some ⟨g1, o1, none⟩) l1 c1) ∧ w'.cell? ⟨w.heap.size, 2, none⟩ = some (.slice (some ⟨g2, o2, none⟩) l2 c2)) (first | exact HK.out _ hb5 | exact HK.out _ hb4 | exact HK.out _ hb3 | go_keep)
              (first
                | (go_at_call 49; (with_reducible refine HC1.out.mono ?_); rintro e w3 ⟨a3, l3, c3, a4, l4, c4, rfl, hb3, HC2⟩)
                | (go_at_call 48; (with_reducible refine HC2.out.mono ?_); rintro e w4 ⟨t, a5, l5, c5, a6, l6, c6, rfl, hb4, HC3⟩)
                | (go_at_call 36; (with_reducible refine HC3.out.mono ?_); rintro e w5 ⟨rfl, hb5⟩))
          have HE := Lib.hid (HB.out.trans (hb5.mono HB.out.size))
          clear HC HC1 HC2 HC3 HK HW0 hb3 hb4 hb5
          go_wp2_with fail
          go_ret
          exact ⟨rfl, HE.out⟩
        · skip
          have hr : r = false := by
            rcases hend with h | h
            · simp at h
            · exact h
          subst hr
          clear HC HK hend
          have HE := HB
          clear HB
          go_enter Tryd.func41, Tryd.ntmps41
          go_wp2_with fail
          rw [← HW0.out]
          go_wp2_with fail
          go_ret
          exact ⟨rfl, HE.out⟩
    · skip
      have hr : r = false := by
        rcases hend with h | h
        · simp at h
        · exact h
      subst hr
      clear HC HK hend
      have HE := HB
      clear HB
      go_enter Tryd.func41, Tryd.ntmps41
      go_wp2_with fail
      rw [← HW0.out]
      go_wp2_with fail
      go_ret
      exact ⟨rfl, HE.out⟩
end Go.Proofs.YtodedlnpokagfaaDoor


/-
  Plain mathematics of layer 4: ratios that are taken of bytes.
-/
set_option linter.unusedVariables false
set_option linter.unusedSimpArgs false
namespace Go.Proofs.YtodedlnpokagfaaDoor
namespace Pk
def ratOK (s : St) : Bool := (listN 4 (listN 4 (flagN s))).isSome && rightB (flagV s) (listV 4 (flagN s)) (listV 4 (listN 4 (flagN s)))
def ratS (s : St) : Bool := ratOK s && flagV s
def ratX (s : St) : List Nat := if ratOK s then listV 4 (flagN s) else []
def ratD (s : St) : List Nat := if ratOK s then listV 4 (listN 4 (flagN s)) else []
def ratN (s : St) : St := if ratOK s then listN 4 (listN 4 (flagN s)) else none
def ratSm (s : St) : Prop := (listV 4 (flagN s)).length ≤ 10000 ∧ (listV 4 (listN 4 (flagN s))).length ≤ 10000
def delN (s : St) : St := ratN (ratN s)
def delOK (s : St) : Bool := (delN s).isSome
end Pk
end Go.Proofs.YtodedlnpokagfaaDoor


/-
  The ratio laws' own helpers: Great.
-/
set_option linter.unusedVariables false
set_option linter.unusedSimpArgs false
namespace Go.Proofs.YtodedlnpokagfaaDoor
open Go.RowKit Rep

/-- A ratio's raw parts. -/
abbrev RawR := Bool × (Option Addr × Nat × Nat) × (Option Addr × Nat × Nat)
def rawV (t : RawR) : Value := .agg #[.bool t.1, .slice t.2.1.1 t.2.1.2.1 t.2.1.2.2, .slice t.2.2.1 t.2.2.2.1 t.2.2.2.2]
/-- From block g's beginning on lie ratios. -/
def Rats (w : World) (g : Nat) (ts : List RawR) : Prop := ∀ k t, ts[k]? = some t → w.cell? ⟨g, k * 3, none⟩ = some (.bool t.1) ∧ w.cell? ⟨g, k * 3 + 1, none⟩ = some (.slice t.2.1.1 t.2.1.2.1 t.2.1.2.2) ∧ w.cell? ⟨g, k * 3 + 2, none⟩ = some (.slice t.2.2.1 t.2.2.2.1 t.2.2.2.2)
def greatB (ts : List RawR) : Bool := ts.any fun t => decide (6 < t.2.1.2.1) || decide (6 < t.2.2.2.1)

set_option maxRecDepth 100000 in
set_option maxHeartbeats 1000000 in
theorem Great_any (g c : Nat) (ts : List RawR) (w : World) (hr : Rats w g ts) (hg : g < w.heap.size) (hl : ts.length ≤ 1000) :
    Calls Tryd.prog 30 #[.slice (some ⟨g, 0, none⟩) ts.length c] w (GivesB (greatB ts) w) := by
  go_enter Tryd.func30, Tryd.ntmps30
  go_wp2_with fail
  go_loopw [7] (fun i wr => ∃ k : Nat, k ≤ ts.length ∧ i = .int .i64 k ∧ Hid (greatB (ts.take k) = false) ∧ Below w.heap.size w wr) (fun i _ => ts.length - (intOf i).toNat)
  case atStart => exact ⟨0, Nat.zero_le _, rfl, Lib.hid rfl, Below.refl _ _⟩
  case round =>
    obtain ⟨k, hk, rfl, HE, hb⟩ := hrel
    by_cases hlt : k < ts.length
    · obtain ⟨c0, c1, c2⟩ := hr k ts[k] (List.getElem?_eq_getElem hlt)
      have HT : Hid (ts.take (k + 1) = ts.take k ++ [ts[k]]) := Lib.hid (List.take_succ_eq_append_getElem hlt)
      have HM : Hid (ts[k] ∈ ts) := Lib.hid (List.getElem_mem hlt)
      generalize ts[k] = t at c0 c1 c2 HT HM
      obtain ⟨s, ⟨a1, l1, e1⟩, ⟨a2, l2, e2⟩⟩ := t
      dsimp only at c0 c1 c2
      have d0 := (hb.cell (p := ⟨g, k * 3, none⟩) hg).trans c0
      have d1 := (hb.cell (p := ⟨g, k * 3 + 1, none⟩) hg).trans c1
      have d2 := (hb.cell (p := ⟨g, k * 3 + 2, none⟩) hg).trans c2
      have HB := Lib.hid hb
      clear hb c0 c1 c2 hr
      have hgr : g < wr.heap.size := World.block_lt_of_cell? _ _ d0
      by_cases q1 : 6 < l1
      · have e1 : decide ((6 : Int) < (l1 : Int)) = true := decide_eq_true (by omega)
        have e2 : (6 : Int) < (l1 : Int) := by omega
        have HV : Hid (greatB ts = true) := Lib.hid (List.any_eq_true.2 ⟨_, HM.out, by simp [q1]⟩)
        rw [HV.out]
        clear q1 HE HT HM HV
        go_wp2_with fail
        go_ret
        exact ⟨rfl, HB.out.alloc HB.out.size _⟩
      · have e1 : decide ((6 : Int) < (l1 : Int)) = false := decide_eq_false (by omega)
        have e2 : ¬ (6 : Int) < (l1 : Int) := by omega
        by_cases q2 : 6 < l2
        · have e3 : decide ((6 : Int) < (l2 : Int)) = true := decide_eq_true (by omega)
          have HV : Hid (greatB ts = true) := Lib.hid (List.any_eq_true.2 ⟨_, HM.out, by simp [q2]⟩)
          rw [HV.out]
          have e4 : (6 : Int) < (l2 : Int) := by omega
          clear q1 q2 HE HT HM HV
          go_wp2_with fail
          go_ret
          exact ⟨rfl, HB.out.alloc HB.out.size _⟩
        · have e3 : decide ((6 : Int) < (l2 : Int)) = false := decide_eq_false (by omega)
          have e4 : ¬ (6 : Int) < (l2 : Int) := by omega
          have HV : Hid (greatB (ts.take (k + 1)) = false) := Lib.hid (by
            have := HE.out
            unfold greatB at this ⊢
            rw [HT.out, List.any_append, this]
            simp [q1, q2])
          clear q1 q2 HE HT HM
          go_wp2_with fail
          go_roundw
          case rel => exact ⟨k + 1, by omega, by go_num, HV, HB.out.alloc HB.out.size _⟩
          case measure => simp [intOf]; omega
    · obtain rfl : k = ts.length := by omega
      have HB := Lib.hid hb
      clear hb hr
      go_wp2_with fail
      go_ret
      exact ⟨by have := HE.out; rw [List.take_length] at this; rw [this]; rfl, HB.out⟩

theorem Rats.one {W : World} {g : Nat} {ty : TypeId} {t : RawR} (h : W.heap[g]? = some (.cells #[.bool t.1, .slice t.2.1.1 t.2.1.2.1 t.2.1.2.2, .slice t.2.2.1 t.2.2.2.1 t.2.2.2.2] ty (0, 0))) : Rats W g [t] := by
  intro k x hk
  rcases k with _ | k
  · simp at hk; subst hk; simp [World.cell?, h]
  · simp at hk
theorem Rats.two {W : World} {g : Nat} {ty : TypeId} {t u : RawR} (h : W.heap[g]? = some (.cells #[.bool t.1, .slice t.2.1.1 t.2.1.2.1 t.2.1.2.2, .slice t.2.2.1 t.2.2.2.1 t.2.2.2.2, .bool u.1, .slice u.2.1.1 u.2.1.2.1 u.2.1.2.2, .slice u.2.2.1 u.2.2.2.1 u.2.2.2.2] ty (0, 0))) : Rats W g [t, u] := by
  intro k x hk
  rcases k with _ | _ | k
  · simp at hk; subst hk; simp [World.cell?, h]
  · simp at hk; subst hk; simp [World.cell?, h]
  · simp at hk
theorem Rats.three {W : World} {g : Nat} {ty : TypeId} {t u v : RawR} (h : W.heap[g]? = some (.cells #[.bool t.1, .slice t.2.1.1 t.2.1.2.1 t.2.1.2.2, .slice t.2.2.1 t.2.2.2.1 t.2.2.2.2, .bool u.1, .slice u.2.1.1 u.2.1.2.1 u.2.1.2.2, .slice u.2.2.1 u.2.2.2.1 u.2.2.2.2, .bool v.1, .slice v.2.1.1 v.2.1.2.1 v.2.1.2.2, .slice v.2.2.1 v.2.2.2.1 v.2.2.2.2] ty (0, 0))) : Rats W g [t, u, v] := by
  intro k x hk
  rcases k with _ | _ | _ | k
  · simp at hk; subst hk; simp [World.cell?, h]
  · simp at hk; subst hk; simp [World.cell?, h]
  · simp at hk; subst hk; simp [World.cell?, h]
  · simp at hk
end Go.Proofs.YtodedlnpokagfaaDoor


/-
  A ratio that a law is handed.
-/
set_option linter.unusedVariables false
set_option linter.unusedSimpArgs false
namespace Go.Proofs.YtodedlnpokagfaaDoor
open Go.RowKit Rep

/-- A call tells that it holds. -/
def Says (w : World) (e : Ending) (w' : World) : Prop := e = .returned (.bool true) ∧ Below w.heap.size w w'

/-- A ratio that a law is handed. -/
structure HandR (w : World) (a1 : Option Addr) (c1 : Nat) (xs : List Nat) (a2 : Option Addr) (c2 : Nat) (ds : List Nat) : Prop where
  num : Handed w a1 c1 xs
  den : Handed w a2 c2 ds
theorem HandR.kept {w w' : World} {a1 : Option Addr} {c1 : Nat} {xs : List Nat} {a2 : Option Addr} {c2 : Nat} {ds : List Nat} (h : HandR w a1 c1 xs a2 c2 ds) (hb : Below w.heap.size w w') : HandR w' a1 c1 xs a2 c2 ds := ⟨h.num.kept hb, h.den.kept hb⟩
/-- Ratios that aren't great, as raw rows. -/
theorem great_two {s t : Bool} {a1 a2 b1 b2 : Option Addr} {c1 c2 e1 e2 l1 l2 k1 k2 : Nat} (h : greatB [(s, (a1, l1, c1), (a2, l2, c2)), (t, (b1, k1, e1), (b2, k2, e2))] = false) : l1 ≤ 6 ∧ l2 ≤ 6 ∧ k1 ≤ 6 ∧ k2 ≤ 6 := by
  simp [greatB] at h
  omega
theorem RightR_any' {w : World} {s : Bool} {a1 a2 : Option Addr} {c1 c2 : Nat} {xs ds : List Nat} (h : HandR w a1 c1 xs a2 c2 ds) (lx : xs.length ≤ 6) (ld : ds.length ≤ 6) :
    Calls Tryd.prog 41 #[.agg #[.bool s, .slice a1 xs.length c1, .slice a2 ds.length c2]] w (GivesB (rightB s xs ds) w) :=
  RightR_any (h.num.inn (by omega)) (h.den.inn (by omega)) (by omega) (by omega)

end Go.Proofs.YtodedlnpokagfaaDoor


/-
  The ratio laws' helper told.
-/
set_option linter.unusedVariables false
set_option linter.unusedSimpArgs false
namespace Go.Proofs.YtodedlnpokagfaaDoor
open Go.RowKit Rep

/-- A ratio's raw parts tell q. -/
structure VQ (q : Rat) (v : RawR) (W : World) : Prop where
  e0 : v.1 = ngQ q
  e1 : v.2.1.2.1 = (L (mgQ q)).length
  e2 : v.2.2.2.1 = (L (denN q.den)).length
  lies : AtQ W v.2.1.1 v.2.1.2.2 v.2.2.1 v.2.2.2.2 q
theorem VQ.kept {q : Rat} {v : RawR} {W W' : World} (h : VQ q v W) (hb : Below W.heap.size W W') : VQ q v W' := ⟨h.e0, h.e1, h.e2, h.lies.kept hb⟩
theorem VQ.set3 {q : Rat} {v : RawR} {W : World} {g : Nat} (h : VQ q v W) (hb : Blank W g) (s : Bool) (v1 v2 : Value) : VQ q v (Go.Proofs.YtodedlnpokagfaaDoor.set3 W g s v1 v2) := ⟨h.e0, h.e1, h.e2, h.lies.set3 hb.rat _ _ _⟩

/-- Behind the closure's call. -/
structure T1 (w W0 : World) (b m : Nat) (q : Rat) (x : RawR) (W : World) : Prop where
  vx : VQ (outQ m q) x W
  bench : Bench W b m (ovQ m q)
  below : Below W0.heap.size W0 W
  eb : b = W0.heap.size
/-- Behind both calls. -/
structure T2 (w W0 : World) (b m : Nat) (q : Rat) (x y : RawR) (W : World) : Prop where
  vx : VQ (outQ m q) x W
  vy : VQ q y W
  bench : Bench W b m (ovQ m q)
  below : Below W0.heap.size W0 W
  eb : b = W0.heap.size
section
variable {w W0 W : World} {b m : Nat} {q : Rat} {x y : RawR}
theorem T1.kept {W' : World} (h : T1 w W0 b m q x W) (hb : Below W.heap.size W W') : T1 w W0 b m q x W' := ⟨h.vx.kept hb, h.bench.kept hb, h.below.trans (hb.mono h.below.size), h.eb⟩
theorem T2.kept {W' : World} (h : T2 w W0 b m q x y W) (hb : Below W.heap.size W W') : T2 w W0 b m q x y W' := ⟨h.vx.kept hb, h.vy.kept hb, h.bench.kept hb, h.below.trans (hb.mono h.below.size), h.eb⟩
theorem T2.alloc (h : T2 w W0 b m q x y W) (o : Obj) : T2 w W0 b m q x y (W.alloc o) := h.kept ((Below.refl _ _).alloc (Nat.le_refl _) _)
theorem T2.set3 {g : Nat} (h : T2 w W0 b m q x y W) (hb : Blank W g) (hg : W0.heap.size < g) (s : Bool) (v1 v2 : Value) : T2 w W0 b m q x y (Go.Proofs.YtodedlnpokagfaaDoor.set3 W g s v1 v2) :=
  ⟨h.vx.set3 hb _ _ _, h.vy.set3 hb _ _ _, h.bench.set3 (by have := h.eb; omega) _ _ _, set3_below h.below (by omega), h.eb⟩

/-- Where a ratio's parts lie. -/
def LiesR (v : RawR) (g : Nat) (W : World) : Prop := W.heap[g]? = some (.cells #[.bool v.1, .slice v.2.1.1 v.2.1.2.1 v.2.1.2.2, .slice v.2.2.1 v.2.2.2.1 v.2.2.2.2] 36 (0, 0))
theorem LiesR.kept {v : RawR} {g : Nat} {W W' : World} (h : LiesR v g W) (hb : Below W.heap.size W W') : LiesR v g W' := (hb.block _ (Array.getElem?_eq_some_iff.1 h).1).trans h
theorem LiesR.new (v : RawR) (W : World) : LiesR v W.heap.size (W.alloc (.cells #[.bool v.1, .slice v.2.1.1 v.2.1.2.1 v.2.1.2.2, .slice v.2.2.1 v.2.2.2.1 v.2.2.2.2] 36)) := heap_alloc_new W _
theorem LiesR.alloc {v : RawR} {g : Nat} {W : World} (h : LiesR v g W) (o : Obj) : LiesR v g (W.alloc o) := h.kept ((Below.refl _ _).alloc (Nat.le_refl _) _)
theorem LiesR.put {g : Nat} {W : World} (h : Blank W g) (v : RawR) : LiesR v g (set3 W g v.1 (.slice v.2.1.1 v.2.1.2.1 v.2.1.2.2) (.slice v.2.2.1 v.2.2.2.1 v.2.2.2.2)) := by
  unfold Blank at h
  simp [LiesR, set3, World.setCell, Array.getElem?_modify, h]
theorem LiesR.past {v : RawR} {g k : Nat} {W : World} (h : LiesR v g W) (hne : g ≠ k) (s : Bool) (v1 v2 : Value) : LiesR v g (set3 W k s v1 v2) :=
  ((set3_grown W k s v1 v2).block _ (Array.getElem?_eq_some_iff.1 h).1 (by simpa using hne)).trans h
theorem Blank.past {g k : Nat} {W : World} (h : Blank W g) (hne : g ≠ k) (s : Bool) (v1 v2 : Value) : Blank (set3 W k s v1 v2) g :=
  ((set3_grown W k s v1 v2).block _ (Array.getElem?_eq_some_iff.1 h).1 (by simpa using hne)).trans h
theorem set3_size (W : World) (r : Nat) (s : Bool) (v1 v2 : Value) : (set3 W r s v1 v2).heap.size = W.heap.size := by simp [set3, World.setCell]

/-- Behind the region: where both answers lie. -/
structure ToldAt (w W0 : World) (b m : Nat) (q : Rat) (i : Nat × Nat × RawR × RawR) (W : World) : Prop where
  x : LiesR i.2.2.1 i.1 W
  y : LiesR i.2.2.2 i.2.1 W
  t : T2 w W0 b m q i.2.2.1 i.2.2.2 W

theorem T2.end0a (h : T2 w W0 b m q x y W) : ToldAt w W0 b m q (W.heap.size, W.heap.size + 1, x, y) ((W.alloc (.cells #[.bool x.1, .slice x.2.1.1 x.2.1.2.1 x.2.1.2.2, .slice x.2.2.1 x.2.2.2.1 x.2.2.2.2] 36)).alloc (.cells #[.bool y.1, .slice y.2.1.1 y.2.1.2.1 y.2.1.2.2, .slice y.2.2.1 y.2.2.2.1 y.2.2.2.2] 36)) :=
  ⟨(LiesR.new x W).alloc _, by simpa using LiesR.new y (W.alloc (.cells #[.bool x.1, .slice x.2.1.1 x.2.1.2.1 x.2.1.2.2, .slice x.2.2.1 x.2.2.2.1 x.2.2.2.2] 36)), (h.alloc _).alloc _⟩
theorem T2.end0b (h : T2 w W0 b m q x y W) : ToldAt w W0 b m q (W.heap.size + 1, W.heap.size, x, y) ((W.alloc (.cells #[.bool y.1, .slice y.2.1.1 y.2.1.2.1 y.2.1.2.2, .slice y.2.2.1 y.2.2.2.1 y.2.2.2.2] 36)).alloc (.cells #[.bool x.1, .slice x.2.1.1 x.2.1.2.1 x.2.1.2.2, .slice x.2.2.1 x.2.2.2.1 x.2.2.2.2] 36)) :=
  ⟨by simpa using LiesR.new x (W.alloc (.cells #[.bool y.1, .slice y.2.1.1 y.2.1.2.1 y.2.1.2.2, .slice y.2.2.1 y.2.2.2.1 y.2.2.2.2] 36)), (LiesR.new y W).alloc _, (h.alloc _).alloc _⟩
theorem T2.end1a {g : Nat} (h : T2 w W0 b m q x y W) (hb : Blank W g) (hg : W0.heap.size < g) : ToldAt w W0 b m q (g, W.heap.size, x, y) ((Go.Proofs.YtodedlnpokagfaaDoor.set3 W g x.1 (.slice x.2.1.1 x.2.1.2.1 x.2.1.2.2) (.slice x.2.2.1 x.2.2.2.1 x.2.2.2.2)).alloc (.cells #[.bool y.1, .slice y.2.1.1 y.2.1.2.1 y.2.1.2.2, .slice y.2.2.1 y.2.2.2.1 y.2.2.2.2] 36)) :=
  ⟨(LiesR.put hb x).alloc _, by have := LiesR.new y (Go.Proofs.YtodedlnpokagfaaDoor.set3 W g x.1 (.slice x.2.1.1 x.2.1.2.1 x.2.1.2.2) (.slice x.2.2.1 x.2.2.2.1 x.2.2.2.2)); rwa [set3_size] at this, (h.set3 hb hg _ _ _).alloc _⟩
theorem T2.end1b {g : Nat} (h : T2 w W0 b m q x y W) (hb : Blank W g) (hg : W0.heap.size < g) : ToldAt w W0 b m q (W.heap.size, g, x, y) ((Go.Proofs.YtodedlnpokagfaaDoor.set3 W g y.1 (.slice y.2.1.1 y.2.1.2.1 y.2.1.2.2) (.slice y.2.2.1 y.2.2.2.1 y.2.2.2.2)).alloc (.cells #[.bool x.1, .slice x.2.1.1 x.2.1.2.1 x.2.1.2.2, .slice x.2.2.1 x.2.2.2.1 x.2.2.2.2] 36)) :=
  ⟨by have := LiesR.new x (Go.Proofs.YtodedlnpokagfaaDoor.set3 W g y.1 (.slice y.2.1.1 y.2.1.2.1 y.2.1.2.2) (.slice y.2.2.1 y.2.2.2.1 y.2.2.2.2)); rwa [set3_size] at this, (LiesR.put hb y).alloc _, (h.set3 hb hg _ _ _).alloc _⟩
theorem T2.end2 {g k : Nat} (h : T2 w W0 b m q x y W) (hb : Blank W g) (hk : Blank W k) (hne : g ≠ k) (hg : W0.heap.size < g) (hg2 : W0.heap.size < k) :
    ToldAt w W0 b m q (g, k, x, y) (Go.Proofs.YtodedlnpokagfaaDoor.set3 (Go.Proofs.YtodedlnpokagfaaDoor.set3 W g x.1 (.slice x.2.1.1 x.2.1.2.1 x.2.1.2.2) (.slice x.2.2.1 x.2.2.2.1 x.2.2.2.2)) k y.1 (.slice y.2.1.1 y.2.1.2.1 y.2.1.2.2) (.slice y.2.2.1 y.2.2.2.1 y.2.2.2.2)) :=
  ⟨(LiesR.put hb x).past hne _ _ _, LiesR.put (hk.past (Ne.symm hne) _ _ _) y, (h.set3 hb hg _ _ _).set3 (hk.past (Ne.symm hne) _ _ _) hg2 _ _ _⟩
end

/-- The closure's call, in any world of the region. -/
theorem told_do2 {w W0 w1 W : World} {b m : Nat} {q : Rat} {f : FuncId} {p1 p2 : Value} (hw : Below w.heap.size w W0) (eb : b = W0.heap.size) (hb : Bench w1 b m false) (h1 : Below W0.heap.size W0 w1)
    (hdo : ∀ (W : World) (b : Nat), Below w.heap.size w W → Bench W b m false → w.heap.size ≤ b → Calls Tryd.prog f #[.pointer (some ⟨b, 0, none⟩), p1, p2] W (GivesQ b m q W)) (hW : Below w1.heap.size w1 W) :
    Calls Tryd.prog f #[.pointer (some ⟨b, 0, none⟩), p1, p2] W fun e W' => ∃ s x1 l1 k1 x2 l2 k2, e = .returned (.agg #[.bool s, .slice x1 l1 k1, .slice x2 l2 k2]) ∧ Hid (T1 w W0 b m q (s, (x1, l1, k1), (x2, l2, k2)) W') ∧ Hid (W.grownBy W' (some b)) := by
  have hB : Below W0.heap.size W0 W := h1.trans (hW.mono h1.size)
  refine (hdo W b (hw.trans (hB.mono hw.size)) (hb.kept hW) (by have := hw.size; omega)).mono ?_
  rintro e W' ⟨x1, k1, x2, k2, rfl, hx, hbe, hg⟩
  refine ⟨_, x1, _, k1, x2, _, k2, rfl, Lib.hid ⟨⟨rfl, rfl, rfl, hx⟩, hbe, ?_, eb⟩, Lib.hid hg⟩
  exact hB.grown hg hB.size (fun k hk => by cases hk; omega)
/-- The document's form, behind it. -/
theorem told_form {w W0 w3 W : World} {b m : Nat} {q : Rat} {x : RawR} {a1 a2 : Option Addr} {c1 c2 : Nat} (h : T1 w W0 b m q x w3) (hq : DgQ W0 a1 c1 a2 c2 q) (l1 : (D (mgQ q)).length ≤ 1000000) (l2 : (D q.den).length ≤ 1000000) (hW : Below w3.heap.size w3 W) :
    Calls Tryd.prog 48 #[.agg #[.bool (ngQ q), .slice a1 (D (mgQ q)).length c1, .slice a2 (D q.den).length c2]] W fun e W' => ∃ s y1 l1 k1 y2 l2 k2, e = .returned (.agg #[.bool s, .slice y1 l1 k1, .slice y2 l2 k2]) ∧ Hid (T2 w W0 b m q x (s, (y1, l1, k1), (y2, l2, k2)) W') ∧ Hid (Below W.heap.size W W') := by
  have h' := h.kept hW
  have hq' := hq.kept h'.below
  refine (Form_q (s := ngQ q) hq'.num hq'.den (den_pos q) l1 l2).mono ?_
  rw [mkQ_self]
  rintro e W' ⟨y1, k1, y2, k2, rfl, hy, hb⟩
  exact ⟨_, y1, _, k1, y2, _, k2, rfl, Lib.hid ⟨h'.vx.kept hb, ⟨rfl, rfl, rfl, hy⟩, h'.bench.kept hb, h'.below.trans (hb.mono h'.below.size), h'.eb⟩, Lib.hid hb⟩
/-- As every bench is made. -/
theorem new_for (n : Int) (h : n ≤ 9223372036854775807) : ∃ m : Nat, 1 ≤ m ∧ m ≤ maxLen ∧ max n 1 = (m : Int) ∧ ∀ w, Calls Tryd.prog 59 #[.int .i64 n] w (GivesBench m w) := by
  by_cases h1 : n < 1
  · exact ⟨1, by omega, by unfold maxLen; omega, by omega, fun w => new_low n w h1⟩
  · obtain ⟨m, rfl⟩ : ∃ m : Nat, n = (m : Int) := ⟨n.toNat, by omega⟩
    exact ⟨m, by omega, by unfold maxLen; omega, by omega, fun w => new_high m w (by omega) (by unfold maxLen; omega)⟩
theorem T1.lt {w W0 W : World} {b m : Nat} {q : Rat} {x : RawR} (h : T1 w W0 b m q x W) : W0.heap.size < W.heap.size := by have := h.bench.lt; have := h.eb; omega
theorem T2.lt {w W0 W : World} {b m : Nat} {q : Rat} {x y : RawR} (h : T2 w W0 b m q x y W) : W0.heap.size < W.heap.size := by have := h.bench.lt; have := h.eb; omega
theorem told_zero {w W0 W : World} {b m : Nat} {q : Rat} {y : RawR} {s : Bool} {y1 y2 : Option Addr} {l1 k1 l2 k2 : Nat} (h : T2 w W0 b m q (s, (y1, l1, k1), (y2, l2, k2)) y W) (ho : ovQ m q = true) (W1 : World) :
    Calls Tryd.prog 36 #[.agg #[.bool s, .slice y1 l1 k1, .slice y2 l2 k2], .agg #[.bool false, .slice none 0 0, .slice none 0 0]] W1 (GivesB true W1) := by
  have e0 := h.vx.e0
  have e1 := h.vx.e1
  have e2 := h.vx.e2
  have hq : outQ m q = 0 := by unfold outQ; rw [if_pos ho]
  rw [hq] at e0 e1 e2
  dsimp only at e0 e1 e2
  have z0 : ngQ 0 = false := by decide
  have z1 : (L (mgQ 0)).length = 0 := rfl
  have z2 : (L (denN (0 : Rat).den)).length = 0 := rfl
  rw [z0] at e0
  rw [z1] at e1
  rw [z2] at e2
  subst e0 e1 e2
  have := SameR_any false false y1 y2 none none k1 k2 0 0 [] [] [] [] W1 (.inl rfl) (.inl rfl) (.inl rfl) (.inl rfl) (by simp) (by simp)
  simpa [ratV] using this
theorem told_same {w W0 W : World} {b m : Nat} {q : Rat} {s t : Bool} {x1 x2 y1 y2 : Option Addr} {l1 k1 l2 k2 n1 j1 n2 j2 : Nat} (h : T2 w W0 b m q (s, (x1, l1, k1), (x2, l2, k2)) (t, (y1, n1, j1), (y2, n2, j2)) W) (ho : ovQ m q = false) (hs : szQ q ≤ 10000) (W1 : World) (hW : Below W.heap.size W W1) :
    Calls Tryd.prog 36 #[.agg #[.bool s, .slice x1 l1 k1, .slice x2 l2 k2], .agg #[.bool t, .slice y1 n1 j1, .slice y2 n2 j2]] W1 (GivesB true W1) := by
  have e0 := h.vx.e0
  have e1 := h.vx.e1
  have e2 := h.vx.e2
  have f0 := h.vy.e0
  have f1 := h.vy.e1
  have f2 := h.vy.e2
  have hx := h.vx.lies.kept hW
  have hy := h.vy.lies.kept hW
  have hq : outQ m q = q := by unfold outQ; rw [if_neg (by simp [ho])]
  rw [hq] at e0 e1 e2 hx
  dsimp only at e0 e1 e2 f0 f1 f2 hx hy
  subst e0 e1 e2 f0 f1 f2
  unfold szQ at hs
  have := SameR_any (ngQ q) (ngQ q) x1 x2 y1 y2 k1 k2 j1 j2 (L (mgQ q)) (L (denN q.den)) (L (mgQ q)) (L (denN q.den)) W1 hx.num.1 hx.den.1 hy.num.1 hy.den.1 (by omega) (by omega)
  simpa [ratV] using this
theorem OnlyEx.mk' {ι : Type} {A : ι → Act} {R : ι → World → Prop} {a : Act} {w : World} (h : ∃ i, a = A i ∧ R i w) : OnlyEx A R .normal a w := h
theorem Blank.ne {W : World} {g : Nat} (h : Blank W g) : g ≠ W.heap.size ∧ W.heap.size ≠ g ∧ g < W.heap.size := by
  have := (Array.getElem?_eq_some_iff.1 h).1
  omega
theorem far {w W0 W : World} (h : w.heap.size < W0.heap.size) (hb : Below W0.heap.size W0 W) : w.heap.size ≠ W.heap.size ∧ W.heap.size ≠ w.heap.size ∧ w.heap.size ≠ W.heap.size + 1 ∧ W.heap.size + 1 ≠ w.heap.size := by
  have := hb.size
  omega
theorem blank_second {W : World} (wa : World) (h : Below ((wa.alloc (.cells #[.bool false, .slice none 0 0, .slice none 0 0] 36)).alloc (.cells #[.bool false, .slice none 0 0, .slice none 0 0] 36)).heap.size ((wa.alloc (.cells #[.bool false, .slice none 0 0, .slice none 0 0] 36)).alloc (.cells #[.bool false, .slice none 0 0, .slice none 0 0] 36)) W) : Blank W (wa.heap.size + 1) := by
  refine Blank.kept ?_ h
  have := heap_alloc_new (wa.alloc (.cells #[.bool false, .slice none 0 0, .slice none 0 0] 36)) (.cells #[.bool false, .slice none 0 0, .slice none 0 0] 36)
  simpa [Blank] using this

end Go.Proofs.YtodedlnpokagfaaDoor


/-
  A bench with room enough, and ratios: what its calls give, said of one state.
-/
set_option linter.unusedVariables false
set_option linter.unusedSimpArgs false
namespace Go.Proofs.YtodedlnpokagfaaDoor
open Go.RowKit Rep

theorem L_pos_len {n : Nat} : (L n).length ≤ (L (denN n)).length + 1 := by
  unfold denN
  by_cases h : n = 1
  · rw [if_pos h, h]
    have : (L 1).length ≤ 1 := by rw [L_len]; omega
    omega
  · rw [if_neg h]; omega
theorem denN_le (n : Nat) : denN n ≤ n := by unfold denN; split <;> omega
theorem szQ_mk (s : Bool) (n : Nat) {d k : Nat} (hd : 0 < d) (h1 : (L n).length ≤ k) (h2 : (L d).length ≤ k) : szQ (mkQ s n d) ≤ k := by
  unfold szQ
  rw [mkQ_mg s n hd, mkQ_den s n hd]
  have e1 := L_le h1 (Nat.div_le_self n (Nat.gcd n d))
  have e2 := L_le h2 (Nat.le_trans (denN_le _) (Nat.div_le_self d (Nat.gcd n d)))
  omega
theorem szQ_parts (x : Rat) : (L (mgQ x)).length ≤ szQ x ∧ (L x.den).length ≤ szQ x + 1 := by
  have h := @L_pos_len x.den
  unfold szQ
  omega
theorem sumN_le (s : Bool) (a : Nat) (t : Bool) (b : Nat) : sumN s a t b ≤ a + b := by unfold sumN; split <;> (try split) <;> omega
theorem szQ_add (x y : Rat) : szQ (x + y) ≤ szQ x + szQ y + 3 := by
  obtain ⟨x1, x2⟩ := szQ_parts x
  obtain ⟨y1, y2⟩ := szQ_parts y
  rw [sum_q]
  refine szQ_mk _ _ (Nat.mul_pos (den_pos x) (den_pos y)) ?_ ?_
  · have h1 := L_mul x1 y2
    have h2 := L_mul y1 x2
    have h3 := L_le (L_add h1 h2) (sumN_le (ngQ x) (mgQ x * y.den) (ngQ y) (mgQ y * x.den))
    omega
  · have := L_mul x2 y2; omega
theorem szQ_mul (x y : Rat) : szQ (x * y) ≤ szQ x + szQ y + 3 := by
  obtain ⟨x1, x2⟩ := szQ_parts x
  obtain ⟨y1, y2⟩ := szQ_parts y
  rw [mul_q]
  refine szQ_mk _ _ (Nat.mul_pos (den_pos x) (den_pos y)) ?_ ?_
  · have := L_mul x1 y1; omega
  · have := L_mul x2 y2; omega
theorem szQ_neg (x : Rat) : szQ (-x) = szQ x := by unfold szQ; rw [neg_mg, neg_den]
theorem szQ_sub (x y : Rat) : szQ (x - y) ≤ szQ x + szQ y + 3 := by
  rw [Rat.sub_eq_add_neg]; have := szQ_add x (-y); rw [szQ_neg] at this; exact this
theorem ov_fits {m : Nat} {q : Rat} (h : szQ q ≤ m) : ovQ m q = false ∧ outQ m q = q := by
  have ho : ovQ m q = false := by unfold szQ at h; simp [ovQ, rO]; omega
  exact ⟨ho, by unfold outQ; rw [ho]; rfl⟩

theorem grownBy_trans' {W0 W1 W2 : World} {r : Option Nat} (h : W0.grownBy W1 r) (k : W1.grownBy W2 r) : W0.grownBy W2 r :=
  ⟨k.os.trans h.os, k.tape.trans h.tape, k.output.trans h.output, Nat.le_trans h.size k.size, fun i hi hne => (k.block i (Nat.lt_of_lt_of_le hi h.size) hne).trans (h.block i hi hne)⟩
/-- A ratio's raw parts, and the number that they are. -/
abbrev QV := RawR × Rat
structure OkQ (W : World) (t : QV) : Prop where
  sg : t.1.1 = ngQ t.2
  l1 : t.1.2.1.2.1 = (L (mgQ t.2)).length
  l2 : t.1.2.2.2.1 = (L (denN t.2.den)).length
  at' : AtQ W t.1.2.1.1 t.1.2.1.2.2 t.1.2.2.1 t.1.2.2.2.2 t.2
  sz : szQ t.2 ≤ 1000
theorem OkQ.kept {W W' : World} {t : QV} (h : OkQ W t) (hb : Below W.heap.size W W') : OkQ W' t := ⟨h.sg, h.l1, h.l2, h.at'.kept hb, h.sz⟩
theorem OkQ.bench {W W' : World} {b m : Nat} {o : Bool} {t : QV} (h : OkQ W t) (hb : Bench W b m o) (hg : W.grownBy W' (some b)) : OkQ W' t := ⟨h.sg, h.l1, h.l2, h.at'.bench hb hg, h.sz⟩
/-- A bench that isn't over, a variable that holds it, and ratios. -/
structure StQ (b m pb : Nat) (base W0 W : World) (l : List QV) : Prop where
  g0 : W0.grownBy W (some b)
  bench : Bench W b m false
  below : Below base.heap.size base W
  ge : base.heap.size ≤ b
  tab : Tab W
  cell : W.cell? ⟨pb, 0, none⟩ = some (.pointer (some ⟨b, 0, none⟩))
  pne : pb ≠ b
  vals : ∀ t ∈ l, OkQ W t
theorem StQ.grown {b m pb : Nat} {base W0 W W' : World} {l : List QV} (h : StQ b m pb base W0 W l) (hb : Bench W' b m false) (hg : W.grownBy W' (some b)) : StQ b m pb base W0 W' l :=
  ⟨grownBy_trans' h.g0 hg, hb, h.below.grown hg h.below.size (fun k hk => by cases hk; exact h.ge), h.ge, h.tab.bench h.bench hg, hg.cell h.cell (by simpa using h.pne), h.pne, fun t ht => (h.vals t ht).bench h.bench hg⟩
theorem StQ.kept {b m pb : Nat} {base W0 W W' : World} {l : List QV} (h : StQ b m pb base W0 W l) (hb : Below W.heap.size W W') : StQ b m pb base W0 W' l :=
  ⟨grownBy_trans' h.g0 (grown_of_below hb _), h.bench.kept hb, h.below.trans (hb.mono h.below.size), h.ge, h.tab.kept hb, (hb.cell (p := ⟨pb, 0, none⟩) (World.block_lt_of_cell? _ _ h.cell)).trans h.cell, h.pne, fun t ht => (h.vals t ht).kept hb⟩
theorem StQ.cons {b m pb : Nat} {base W0 W : World} {l : List QV} (h : StQ b m pb base W0 W l) {t : QV} (ht : OkQ W t) : StQ b m pb base W0 W (t :: l) :=
  ⟨h.g0, h.bench, h.below, h.ge, h.tab, h.cell, h.pne, fun u hu => by
    rcases List.mem_cons.1 hu with rfl | hu
    · exact ht
    · exact h.vals u hu⟩
/-- A call gives q, and the state goes on. -/
def GoesQ (b m pb : Nat) (base W0 W : World) (l : List QV) (q : Rat) (e : Ending) (W' : World) : Prop :=
  ∃ s a1 l1 c1 a2 l2 c2, e = .returned (.agg #[.bool s, .slice a1 l1 c1, .slice a2 l2 c2]) ∧ Hid (StQ b m pb base W0 W' (((s, (a1, l1, c1), (a2, l2, c2)), q) :: l) )
theorem GivesQ.goes {b m pb : Nat} {base W0 W W' : World} {l : List QV} {q : Rat} {e : Ending} (hg : GivesQ b m q W e W') (h : StQ b m pb base W0 W l) (h1 : szQ q ≤ m) (h2 : szQ q ≤ 1000) : GoesQ b m pb base W0 W l q e W' := by
  obtain ⟨a1, c1, a2, c2, rfl, f1, f2, f3⟩ := hg
  obtain ⟨o1, o2⟩ := ov_fits h1
  rw [o2] at f1 ⊢
  rw [o1] at f2
  exact ⟨_, _, _, _, _, _, _, rfl, Lib.hid ((h.grown f2 f3).cons ⟨rfl, rfl, rfl, f1, h2⟩)⟩
section
variable {b m pb : Nat} {base W0 W : World} {l : List QV} {s t : Bool} {a1 a2 b1 b2 : Option Addr} {l1 c1 l2 c2 k1 e1 k2 e2 : Nat} {x y : Rat}
theorem StQ.ok (h : StQ b m pb base W0 W l) (hx : ((s, (a1, l1, c1), (a2, l2, c2)), x) ∈ l) : RatX W s a1 l1 c1 a2 l2 c2 (mgQ x) x.den (denN x.den) x ∧ (.agg #[.bool s, .slice a1 l1 c1, .slice a2 l2 c2] : Value) = qV x a1 c1 a2 c2 ∧ AtQ W a1 c1 a2 c2 x ∧ szQ x ≤ 1000 := by
  obtain ⟨h1, h2, h3, h4, h5⟩ := h.vals _ hx
  dsimp only at h1 h2 h3 h4 h5
  subst h1 h2 h3
  exact ⟨h4.x (by omega), rfl, h4, h5⟩
theorem StQ.same (h : StQ b m pb base W0 W l) (hx : ((s, (a1, l1, c1), (a2, l2, c2)), x) ∈ l) (hy : ((t, (b1, k1, e1), (b2, k2, e2)), y) ∈ l) (hxy : x = y) :
    Calls Tryd.prog 36 #[.agg #[.bool s, .slice a1 l1 c1, .slice a2 l2 c2], .agg #[.bool t, .slice b1 k1 e1, .slice b2 k2 e2]] W fun e W' => e = .returned (.bool true) ∧ Hid (StQ b m pb base W0 W' l) := by
  subst hxy
  obtain ⟨_, v1, f1, g1⟩ := h.ok hx
  obtain ⟨_, v2, f2, g2⟩ := h.ok hy
  rw [v1, v2]
  unfold szQ at g1
  refine (SameR_any (ngQ x) (ngQ x) a1 a2 b1 b2 c1 c2 e1 e2 (L (mgQ x)) (L (denN x.den)) (L (mgQ x)) (L (denN x.den)) W f1.num.1 f1.den.1 f2.num.1 f2.den.1 (by omega) (by omega)).mono ?_
  rintro e W' ⟨rfl, hb⟩
  exact ⟨by simp, Lib.hid (h.kept hb)⟩
end

/-- What Right tells of a ratio that a law is handed. -/
theorem okq_of_right {W : World} {s : Bool} {a1 a2 : Option Addr} {c1 c2 : Nat} {xs ds : List Nat} (h : HandR W a1 c1 xs a2 c2 ds) (hr : rightB s xs ds = true) (lx : xs.length ≤ 6) (ld : ds.length ≤ 6) :
    ∃ q, OkQ W ((s, (a1, xs.length, c1), (a2, ds.length, c2)), q) ∧ szQ q ≤ 6 := by
  obtain ⟨h1, h2, h3⟩ := of_decide_eq_true hr
  generalize qOf s xs ds = q at *
  have e1 : xs.length = (L (mgQ q)).length := congrArg List.length h2
  have e2 : ds.length = (L (denN q.den)).length := congrArg List.length h3
  have hs : szQ q ≤ 6 := by unfold szQ; omega
  refine ⟨q, ⟨h1, e1, e2, ⟨⟨?_, ?_, h.num.cap⟩, ⟨?_, ?_, h.den.cap⟩⟩, by show szQ q ≤ 1000; omega⟩, hs⟩
  · rw [← h2]; exact h.num.reads
  · rw [← h2]; exact h.num.le
  · rw [← h3]; exact h.den.reads
  · rw [← h3]; exact h.den.le
end Go.Proofs.YtodedlnpokagfaaDoor


/-
  Two of the document's ratios, in blocks of their own.
-/
set_option linter.unusedVariables false
set_option linter.unusedSimpArgs false
namespace Go.Proofs.YtodedlnpokagfaaDoor
open Go.RowKit Rep


theorem D_of_L {n k : Nat} (h : (L n).length ≤ k) : (D n).length ≤ 10 * k := by
  rw [D_len]
  rw [L_len] at h
  refine Nat.lt_of_lt_of_le h ?_
  rw [Nat.pow_mul]
  exact Nat.pow_le_pow_left (by decide) k
theorem dl_q {q : Rat} {k : Nat} (h : szQ q ≤ k) : (D (mgQ q)).length ≤ 10 * k ∧ (D q.den).length ≤ 10 * (k + 1) := by
  obtain ⟨h1, h2⟩ := szQ_parts q
  exact ⟨D_of_L (by omega), D_of_L (by omega)⟩
theorem szQ_inv {x : Rat} : szQ x⁻¹ ≤ szQ x + 1 := by
  by_cases hx : x = 0
  · subst hx
    rw [show ((0 : Rat)⁻¹) = 0 from by grind]
    omega
  · obtain ⟨h1, h2⟩ := szQ_parts x
    rw [← inv_q hx]
    exact szQ_mk _ _ (Nat.pos_of_ne_zero (by rw [Ne, mg_zero]; exact hx)) h2 (by omega)
theorem szQ_div (x y : Rat) : szQ (x / y) ≤ szQ x + szQ y + 4 := by
  have h1 := szQ_mul x y⁻¹
  have h2 := @szQ_inv y
  rw [Rat.div_def]
  omega

/-- Raw parts tell q, in the document's digits. -/
structure VD (q : Rat) (v : RawR) (W : World) : Prop where
  e0 : v.1 = ngQ q
  e1 : v.2.1.2.1 = (D (mgQ q)).length
  e2 : v.2.2.2.1 = (D q.den).length
  lies : DgQ W v.2.1.1 v.2.1.2.2 v.2.2.1 v.2.2.2.2 q
def BlankD (W : World) (r : Nat) : Prop := W.heap[r]? = some (.cells #[.bool false, .slice none 0 0, .slice none 0 0] 88 (0, 0))
theorem BlankD.kept {W W' : World} {r : Nat} (h : BlankD W r) (hb : Below W.heap.size W W') : BlankD W' r := (hb.block r (Array.getElem?_eq_some_iff.1 h).1).trans h
theorem BlankD.cells {W : World} {r : Nat} (h : BlankD W r) : W.cell? ⟨r, 0, none⟩ = some (.bool false) ∧ W.cell? ⟨r, 1, none⟩ = some (.slice none 0 0) ∧ W.cell? ⟨r, 2, none⟩ = some (.slice none 0 0) ∧ W.frozen? ⟨r, 0, none⟩ = false ∧ W.frozen? ⟨r, 1, none⟩ = false ∧ W.frozen? ⟨r, 2, none⟩ = false := cells3 h
theorem BlankD.ne {W : World} {g : Nat} (h : BlankD W g) : g ≠ W.heap.size ∧ W.heap.size ≠ g ∧ g < W.heap.size := by
  have := (Array.getElem?_eq_some_iff.1 h).1
  omega
theorem BlankD.past {g k : Nat} {W : World} (h : BlankD W g) (hne : g ≠ k) (s : Bool) (v1 v2 : Value) : BlankD (set3 W k s v1 v2) g :=
  ((set3_grown W k s v1 v2).block _ (Array.getElem?_eq_some_iff.1 h).1 (by simpa using hne)).trans h
theorem VD.kept {q : Rat} {v : RawR} {W W' : World} (h : VD q v W) (hb : Below W.heap.size W W') : VD q v W' := ⟨h.e0, h.e1, h.e2, h.lies.kept hb⟩
theorem VD.set3 {q : Rat} {v : RawR} {W : World} {g : Nat} (h : VD q v W) (hb : BlankD W g) (s : Bool) (v1 v2 : Value) : VD q v (Go.Proofs.YtodedlnpokagfaaDoor.set3 W g s v1 v2) := ⟨h.e0, h.e1, h.e2, h.lies.num.set3 hb _ _ _, h.lies.den.set3 hb _ _ _⟩
/-- Behind the first call. -/
structure D1 (W0 : World) (q : Rat) (x : RawR) (W : World) : Prop where
  vx : VD q x W
  below : Below W0.heap.size W0 W
/-- Behind both calls. -/
structure D2 (W0 : World) (q r : Rat) (x y : RawR) (W : World) : Prop where
  vx : VD q x W
  vy : VD r y W
  below : Below W0.heap.size W0 W
section
variable {W0 W : World} {q r : Rat} {x y : RawR}
theorem D1.kept {W' : World} (h : D1 W0 q x W) (hb : Below W.heap.size W W') : D1 W0 q x W' := ⟨h.vx.kept hb, h.below.trans (hb.mono h.below.size)⟩
theorem D2.kept {W' : World} (h : D2 W0 q r x y W) (hb : Below W.heap.size W W') : D2 W0 q r x y W' := ⟨h.vx.kept hb, h.vy.kept hb, h.below.trans (hb.mono h.below.size)⟩
theorem D2.alloc (h : D2 W0 q r x y W) (o : Obj) : D2 W0 q r x y (W.alloc o) := h.kept ((Below.refl _ _).alloc (Nat.le_refl _) _)
theorem D2.set3 {g : Nat} (h : D2 W0 q r x y W) (hb : BlankD W g) (hg : W0.heap.size ≤ g) (s : Bool) (v1 v2 : Value) : D2 W0 q r x y (Go.Proofs.YtodedlnpokagfaaDoor.set3 W g s v1 v2) :=
  ⟨h.vx.set3 hb _ _ _, h.vy.set3 hb _ _ _, set3_below h.below hg⟩
/-- Where a ratio's parts lie. -/
def LiesD (v : RawR) (g : Nat) (W : World) : Prop := W.heap[g]? = some (.cells #[.bool v.1, .slice v.2.1.1 v.2.1.2.1 v.2.1.2.2, .slice v.2.2.1 v.2.2.2.1 v.2.2.2.2] 88 (0, 0))
theorem LiesD.kept {v : RawR} {g : Nat} {W W' : World} (h : LiesD v g W) (hb : Below W.heap.size W W') : LiesD v g W' := (hb.block _ (Array.getElem?_eq_some_iff.1 h).1).trans h
theorem LiesD.new (v : RawR) (W : World) : LiesD v W.heap.size (W.alloc (.cells #[.bool v.1, .slice v.2.1.1 v.2.1.2.1 v.2.1.2.2, .slice v.2.2.1 v.2.2.2.1 v.2.2.2.2] 88)) := heap_alloc_new W _
theorem LiesD.alloc {v : RawR} {g : Nat} {W : World} (h : LiesD v g W) (o : Obj) : LiesD v g (W.alloc o) := h.kept ((Below.refl _ _).alloc (Nat.le_refl _) _)
theorem LiesD.put {g : Nat} {W : World} (h : BlankD W g) (v : RawR) : LiesD v g (set3 W g v.1 (.slice v.2.1.1 v.2.1.2.1 v.2.1.2.2) (.slice v.2.2.1 v.2.2.2.1 v.2.2.2.2)) := by
  unfold BlankD at h
  simp [LiesD, Go.Proofs.YtodedlnpokagfaaDoor.set3, World.setCell, Array.getElem?_modify, h]
theorem LiesD.past {v : RawR} {g k : Nat} {W : World} (h : LiesD v g W) (hne : g ≠ k) (s : Bool) (v1 v2 : Value) : LiesD v g (set3 W k s v1 v2) :=
  ((set3_grown W k s v1 v2).block _ (Array.getElem?_eq_some_iff.1 h).1 (by simpa using hne)).trans h
/-- Behind the region: where both answers lie. -/
structure PairAt (W0 : World) (q r : Rat) (i : Nat × Nat × RawR × RawR) (W : World) : Prop where
  x : LiesD i.2.2.1 i.1 W
  y : LiesD i.2.2.2 i.2.1 W
  t : D2 W0 q r i.2.2.1 i.2.2.2 W
theorem D2.end0a (h : D2 W0 q r x y W) : PairAt W0 q r (W.heap.size, W.heap.size + 1, x, y) ((W.alloc (.cells #[.bool x.1, .slice x.2.1.1 x.2.1.2.1 x.2.1.2.2, .slice x.2.2.1 x.2.2.2.1 x.2.2.2.2] 88)).alloc (.cells #[.bool y.1, .slice y.2.1.1 y.2.1.2.1 y.2.1.2.2, .slice y.2.2.1 y.2.2.2.1 y.2.2.2.2] 88)) :=
  ⟨(LiesD.new x W).alloc _, by simpa using LiesD.new y (W.alloc (.cells #[.bool x.1, .slice x.2.1.1 x.2.1.2.1 x.2.1.2.2, .slice x.2.2.1 x.2.2.2.1 x.2.2.2.2] 88)), (h.alloc _).alloc _⟩
theorem D2.end0b (h : D2 W0 q r x y W) : PairAt W0 q r (W.heap.size + 1, W.heap.size, x, y) ((W.alloc (.cells #[.bool y.1, .slice y.2.1.1 y.2.1.2.1 y.2.1.2.2, .slice y.2.2.1 y.2.2.2.1 y.2.2.2.2] 88)).alloc (.cells #[.bool x.1, .slice x.2.1.1 x.2.1.2.1 x.2.1.2.2, .slice x.2.2.1 x.2.2.2.1 x.2.2.2.2] 88)) :=
  ⟨by simpa using LiesD.new x (W.alloc (.cells #[.bool y.1, .slice y.2.1.1 y.2.1.2.1 y.2.1.2.2, .slice y.2.2.1 y.2.2.2.1 y.2.2.2.2] 88)), (LiesD.new y W).alloc _, (h.alloc _).alloc _⟩
theorem D2.end1a {g : Nat} (h : D2 W0 q r x y W) (hb : BlankD W g) (hg : W0.heap.size ≤ g) : PairAt W0 q r (g, W.heap.size, x, y) ((Go.Proofs.YtodedlnpokagfaaDoor.set3 W g x.1 (.slice x.2.1.1 x.2.1.2.1 x.2.1.2.2) (.slice x.2.2.1 x.2.2.2.1 x.2.2.2.2)).alloc (.cells #[.bool y.1, .slice y.2.1.1 y.2.1.2.1 y.2.1.2.2, .slice y.2.2.1 y.2.2.2.1 y.2.2.2.2] 88)) :=
  ⟨(LiesD.put hb x).alloc _, by have := LiesD.new y (Go.Proofs.YtodedlnpokagfaaDoor.set3 W g x.1 (.slice x.2.1.1 x.2.1.2.1 x.2.1.2.2) (.slice x.2.2.1 x.2.2.2.1 x.2.2.2.2)); rwa [set3_size] at this, (h.set3 hb hg _ _ _).alloc _⟩
theorem D2.end1b {g : Nat} (h : D2 W0 q r x y W) (hb : BlankD W g) (hg : W0.heap.size ≤ g) : PairAt W0 q r (W.heap.size, g, x, y) ((Go.Proofs.YtodedlnpokagfaaDoor.set3 W g y.1 (.slice y.2.1.1 y.2.1.2.1 y.2.1.2.2) (.slice y.2.2.1 y.2.2.2.1 y.2.2.2.2)).alloc (.cells #[.bool x.1, .slice x.2.1.1 x.2.1.2.1 x.2.1.2.2, .slice x.2.2.1 x.2.2.2.1 x.2.2.2.2] 88)) :=
  ⟨by have := LiesD.new x (Go.Proofs.YtodedlnpokagfaaDoor.set3 W g y.1 (.slice y.2.1.1 y.2.1.2.1 y.2.1.2.2) (.slice y.2.2.1 y.2.2.2.1 y.2.2.2.2)); rwa [set3_size] at this, (LiesD.put hb y).alloc _, (h.set3 hb hg _ _ _).alloc _⟩
theorem D2.end2 {g k : Nat} (h : D2 W0 q r x y W) (hb : BlankD W g) (hk : BlankD W k) (hne : g ≠ k) (hg : W0.heap.size ≤ g) (hg2 : W0.heap.size ≤ k) :
    PairAt W0 q r (g, k, x, y) (Go.Proofs.YtodedlnpokagfaaDoor.set3 (Go.Proofs.YtodedlnpokagfaaDoor.set3 W g x.1 (.slice x.2.1.1 x.2.1.2.1 x.2.1.2.2) (.slice x.2.2.1 x.2.2.2.1 x.2.2.2.2)) k y.1 (.slice y.2.1.1 y.2.1.2.1 y.2.1.2.2) (.slice y.2.2.1 y.2.2.2.1 y.2.2.2.2)) :=
  ⟨(LiesD.put hb x).past hne _ _ _, LiesD.put (hk.past (Ne.symm hne) _ _ _) y, (h.set3 hb hg _ _ _).set3 (hk.past (Ne.symm hne) _ _ _) hg2 _ _ _⟩
end
theorem blankD_second {W : World} (wa : World) (h : Below ((wa.alloc (.cells #[.bool false, .slice none 0 0, .slice none 0 0] 88)).alloc (.cells #[.bool false, .slice none 0 0, .slice none 0 0] 88)).heap.size ((wa.alloc (.cells #[.bool false, .slice none 0 0, .slice none 0 0] 88)).alloc (.cells #[.bool false, .slice none 0 0, .slice none 0 0] 88)) W) : BlankD W (wa.heap.size + 1) := by
  refine BlankD.kept ?_ h
  have := heap_alloc_new (wa.alloc (.cells #[.bool false, .slice none 0 0, .slice none 0 0] 88)) (.cells #[.bool false, .slice none 0 0, .slice none 0 0] 88)
  simpa [BlankD] using this
theorem far2 {w W0 W : World} (h : w.heap.size + 1 < W0.heap.size) (hb : Below W0.heap.size W0 W) : w.heap.size ≠ W.heap.size ∧ W.heap.size ≠ w.heap.size ∧ w.heap.size ≠ W.heap.size + 1 ∧ W.heap.size + 1 ≠ w.heap.size ∧ w.heap.size + 1 ≠ W.heap.size ∧ W.heap.size ≠ w.heap.size + 1 ∧ w.heap.size + 1 ≠ W.heap.size + 1 ∧ W.heap.size + 1 ≠ w.heap.size + 1 := by
  have := hb.size
  omega
/-- A call gives q's digits, behind W5. -/
def GotD (W5 : World) (q : Rat) (e : Ending) (W' : World) : Prop :=
  ∃ s z1 m1 k1 z2 m2 k2, e = .returned (.agg #[.bool s, .slice z1 m1 k1, .slice z2 m2 k2]) ∧ Hid (Below W5.heap.size W5 W') ∧ Hid (VD q (s, (z1, m1, k1), (z2, m2, k2)) W')
theorem GivesDQ.got {W5 W W' : World} {q : Rat} {e : Ending} (h : GivesDQ q W e W') (hb : Below W5.heap.size W5 W) : GotD W5 q e W' := by
  obtain ⟨a1, c1, a2, c2, rfl, hd, hb2⟩ := h
  exact ⟨_, a1, _, c1, a2, _, c2, rfl, Lib.hid (hb.trans (hb2.mono hb.size)), Lib.hid ⟨rfl, rfl, rfl, hd⟩⟩
/-- A call gives q's limbs, behind W5. -/
def GotQ (W5 : World) (q : Rat) (e : Ending) (W' : World) : Prop :=
  ∃ s z1 m1 k1 z2 m2 k2, e = .returned (.agg #[.bool s, .slice z1 m1 k1, .slice z2 m2 k2]) ∧ Hid (Below W5.heap.size W5 W') ∧ Hid (VQ q (s, (z1, m1, k1), (z2, m2, k2)) W')
theorem NewQ.got {W5 W W' : World} {q : Rat} {e : Ending} (h : NewQ q W e W') (hb : Below W5.heap.size W5 W) : GotQ W5 q e W' := by
  obtain ⟨a1, c1, a2, c2, rfl, hd, hb2⟩ := h
  exact ⟨_, a1, _, c1, a2, _, c2, rfl, Lib.hid (hb.trans (hb2.mono hb.size)), Lib.hid ⟨rfl, rfl, rfl, hd⟩⟩
/-- A call tells v, behind W5. -/
def GotV (W5 : World) (v : Value) (e : Ending) (W' : World) : Prop := e = .returned v ∧ Hid (Below W5.heap.size W5 W')
theorem VD.eq {q : Rat} {s : Bool} {z1 z2 : Option Addr} {m1 k1 m2 k2 : Nat} {W : World} (h : VD q (s, (z1, m1, k1), (z2, m2, k2)) W) : (.agg #[.bool s, .slice z1 m1 k1, .slice z2 m2 k2] : Value) = dV q z1 k1 z2 k2 ∧ DgQ W z1 k1 z2 k2 q := by
  obtain ⟨h0, h1, h2, h3⟩ := h
  dsimp only at h0 h1 h2 h3
  subst h0 h1 h2
  exact ⟨rfl, h3⟩
theorem VQ.eq {q : Rat} {s : Bool} {z1 z2 : Option Addr} {m1 k1 m2 k2 : Nat} {W : World} (h : VQ q (s, (z1, m1, k1), (z2, m2, k2)) W) : (.agg #[.bool s, .slice z1 m1 k1, .slice z2 m2 k2] : Value) = qV q z1 k1 z2 k2 ∧ AtQ W z1 k1 z2 k2 q := by
  obtain ⟨h0, h1, h2, h3⟩ := h
  dsimp only at h0 h1 h2 h3
  subst h0 h1 h2
  exact ⟨rfl, h3⟩
section
variable {W5 W : World} {q r : Rat} {s t : Bool} {z1 z2 y1 y2 : Option Addr} {m1 k1 m2 k2 n1 j1 n2 j2 : Nat}
theorem got_form (h : VD q (s, (z1, m1, k1), (z2, m2, k2)) W) (hq : szQ q ≤ 100) (hb : Below W5.heap.size W5 W) :
    Calls Tryd.prog 48 #[.agg #[.bool s, .slice z1 m1 k1, .slice z2 m2 k2]] W (GotQ W5 q) := by
  obtain ⟨e1, d1⟩ := h.eq
  obtain ⟨l1, l2⟩ := dl_q hq
  rw [e1]
  exact (d1.form (by omega) (by omega)).mono fun e W' h => h.got hb
theorem got_same (h : VQ q (s, (z1, m1, k1), (z2, m2, k2)) W) (g : VQ q (t, (y1, n1, j1), (y2, n2, j2)) W) (hq : szQ q ≤ 100) (hb : Below W5.heap.size W5 W) :
    Calls Tryd.prog 36 #[.agg #[.bool s, .slice z1 m1 k1, .slice z2 m2 k2], .agg #[.bool t, .slice y1 n1 j1, .slice y2 n2 j2]] W (GotV W5 (.bool true)) := by
  obtain ⟨e1, d1⟩ := h.eq
  obtain ⟨e2, d2⟩ := g.eq
  rw [e1, e2]
  unfold szQ at hq
  refine (SameR_any (ngQ q) (ngQ q) z1 z2 y1 y2 k1 k2 j1 j2 (L (mgQ q)) (L (denN q.den)) (L (mgQ q)) (L (denN q.den)) W d1.num.1 d1.den.1 d2.num.1 d2.den.1 (by omega) (by omega)).mono ?_
  rintro e W' ⟨rfl, hb2⟩
  exact ⟨by simp, Lib.hid (hb.trans (hb2.mono hb.size))⟩
theorem got_of (h : VQ q (s, (z1, m1, k1), (z2, m2, k2)) W) (hq : szQ q ≤ 100) (hb : Below W5.heap.size W5 W) :
    Calls Tryd.prog 49 #[.agg #[.bool s, .slice z1 m1 k1, .slice z2 m2 k2]] W (GotD W5 q) := by
  obtain ⟨e1, d1⟩ := h.eq
  rw [e1]
  exact (d1.ofD (by omega)).mono fun e W' h => h.got hb
end
end Go.Proofs.YtodedlnpokagfaaDoor


/-
  ratio.Right, ratio.Of.
-/
set_option linter.unusedVariables false
set_option linter.unusedSimpArgs false
namespace Go.Proofs.YtodedlnpokagfaaDoor
open Go.RowKit Rep

theorem top_L {xs : List Nat} (hx : Lim xs) (h : topB xs = true) : L (V xs) = xs := by
  refine rep_val (by omega) hx ?_
  unfold Top
  unfold topB at h
  rw [List.getLast?_eq_getElem?]
  rcases Nat.eq_zero_or_pos xs.length with h0 | h0
  · rw [List.length_eq_zero_iff.1 h0]; simp
  · rw [decide_eq_false (p := xs.length = 0) (by omega), Bool.false_or, decide_eq_true_eq] at h
    rw [List.getElem?_eq_getElem (by omega)]
    rw [List.getD_eq_getElem?_getD, List.getElem?_eq_getElem (by omega)] at h
    intro e
    exact h (by simpa using e)
theorem topB_L (n : Nat) : topB (L n) = true := by
  unfold topB
  rcases Nat.eq_zero_or_pos (L n).length with h0 | h0
  · rw [decide_eq_true h0]; rfl
  · have := top_limb (M := n) (by omega)
    rw [decide_eq_true (p := (L n).getD ((L n).length - 1) 0 ≠ 0) (by omega), Bool.or_true]
/-- The one form, by the program's own words. -/
theorem rightB_iff {s : Bool} {xs ds : List Nat} (hx : Lim xs) (hd : Lim ds) : rightB s xs ds = true ↔ (topB xs = true ∧ topB ds = true ∧ ((xs.length = 0 ∧ s = false ∧ ds.length = 0) ∨ (xs.length ≠ 0 ∧ (ds.length = 0 ∨ (ds.length ≠ 0 ∧ V ds ≠ 1 ∧ Nat.gcd (V xs) (V ds) = 1))))) := by
  by_cases hq : topB xs = true ∧ topB ds = true
  · obtain ⟨h1, h2⟩ := hq
    have e1 := top_L hx h1
    have e2 := top_L hd h2
    generalize hn : V xs = n at *
    generalize hm : V ds = m at *
    subst e1 e2
    have z1 : (L n).length = 0 ↔ n = 0 := L_len_zero
    have z2 : (L m).length = 0 ↔ m = 0 := L_len_zero
    rw [z1, z2, Ne, z1, Ne, z2]
    have hD : 0 < (if m = 0 then 1 else m) := by split <;> omega
    have linj : ∀ {a b : Nat}, L a = L b ↔ a = b := fun {a b} => ⟨fun h => by rw [← V_L a, h, V_L], fun h => by rw [h]⟩
    unfold rightB qOf
    rw [hn, hm, decide_eq_true_eq, mkQ_ng _ _ hD, mkQ_mg _ _ hD, mkQ_den _ _ hD, linj, linj]
    by_cases hn0 : n = 0
    · subst hn0
      rw [Nat.gcd_zero_left, Nat.div_self hD, if_pos rfl]
      simp [denN, h1, h2]
    · rw [if_neg hn0]
      by_cases hm0 : m = 0
      · subst hm0
        simp [denN, hn0, h1, h2]
      · rw [if_neg hm0]
        have hg : 0 < Nat.gcd n m := Nat.gcd_pos_of_pos_left _ (by omega)
        have key : n = n / Nat.gcd n m ↔ Nat.gcd n m = 1 := by
          constructor
          · intro e
            rcases Nat.lt_or_ge 1 (Nat.gcd n m) with h | h
            · have := Nat.div_lt_self (n := n) (by omega) h
              omega
            · omega
          · intro e; rw [e, Nat.div_one]
        rw [key]
        constructor
        · rintro ⟨_, g1, g2⟩
          rw [g1, Nat.div_one] at g2
          refine ⟨h1, h2, .inr ⟨hn0, .inr ⟨hm0, ?_, g1⟩⟩⟩
          intro e
          subst e
          simp [denN] at g2
        · rintro ⟨_, _, ⟨h, _⟩ | ⟨_, h | ⟨_, h3, h4⟩⟩⟩
          · exact absurd h hn0
          · exact absurd h hm0
          · refine ⟨rfl, h4, ?_⟩
            rw [h4, Nat.div_one]
            simp [denN, h3]
  · constructor
    · intro h
      obtain ⟨_, h2, h3⟩ := of_decide_eq_true h
      exact absurd ⟨by rw [h2]; exact topB_L _, by rw [h3]; exact topB_L _⟩ hq
    · rintro ⟨h1, h2, _⟩
      exact absurd ⟨h1, h2⟩ hq
theorem eq_of_iff {a b : Bool} (h : a = true ↔ b = true) : a = b := Bool.eq_iff_iff.2 h

theorem NumIn.handed {w : World} {a : Option Addr} {c : Nat} {xs : List Nat} (h : NumIn w a c xs) : Handed w a c xs := ⟨h.lim, h.reads, h.le, h.cap⟩
set_option maxRecDepth 100000 in
set_option maxHeartbeats 8000000 in
theorem RightP_in {w : World} {s : Bool} {a1 a2 : Option Addr} {c1 c2 : Nat} {xs ds : List Nat} (h1 : NumIn w a1 c1 xs) (h2 : NumIn w a2 c2 ds) (hT : Tab w) (lx : xs.length ≤ 1000000) (ld : ds.length ≤ 1000000) :
    Calls Tryd.prog 39 #[.agg #[.bool s, .slice a1 xs.length c1, .slice a2 ds.length c2]] w (GivesB (rightB s xs ds) w) := by
  obtain ⟨W0, hW0⟩ : ∃ W0, W0 = w.alloc (.cells #[.bool s, .slice a1 xs.length c1, .slice a2 ds.length c2] 36) := ⟨_, rfl⟩
  have hB0 : Below w.heap.size w W0 := by rw [hW0]; exact (Below.refl _ _).alloc (Nat.le_refl _) _
  have HK := Lib.hid (keep3 (show W0.heap[w.heap.size]? = some (.cells #[.bool s, .slice a1 xs.length c1, .slice a2 ds.length c2] 36 (0, 0)) by rw [hW0]; exact heap_alloc_new w _))
  have HIFF := Lib.hid (rightB_iff (s := s) h1.lim h2.lim)
  have HR1 : Hid (∀ W, Below W0.heap.size W0 W → Calls Tryd.prog 45 #[.slice a1 xs.length c1] W (Gives (.bool (topB xs)) W)) := Lib.hid fun W hb => Right_any a1 c1 xs W ((h1.kept hB0).kept hb).handed
  have HR2 : Hid (∀ W, Below W0.heap.size W0 W → Calls Tryd.prog 45 #[.slice a2 ds.length c2] W (Gives (.bool (topB ds)) W)) := Lib.hid fun W hb => Right_any a2 c2 ds W ((h2.kept hB0).kept hb).handed
  have HNE : Hid (∀ W, Below W0.heap.size W0 W → NumE W a1 xs.length c1 (V xs) ∧ NumE W a2 ds.length c2 (V ds) ∧ Tab W) := Lib.hid fun W hb => ⟨.inn (((h1.kept hB0).kept hb)), .inn (((h2.kept hB0).kept hb)), (hT.kept hB0).kept hb⟩
  have HB0 := Lib.hid hB0
  have HW0 := Lib.hid hW0
  obtain ⟨p0, p1, p2, _⟩ := HK.out W0 (Below.refl _ _)
  clear h1 h2 hT hB0 hW0
  generalize topB xs = tx at *
  generalize topB ds = td at *
  go_enter Tryd.func39, Tryd.ntmps39
  go_wp2_with fail
  rw [← HW0.out]
  go_quiet (fail)
  have hbd : Below W0.heap.size W0 (W0.drewN nq) := Below.drewN' (Below.refl _ _) nq
  have HBD := Lib.hid hbd
  clear hbd
  obtain ⟨p0, p1, p2, _⟩ := HK.out _ HBD.out
  cases tx
  case false =>
    have HE : Hid (rightB s xs ds = false) := Lib.hid (by rw [Bool.eq_false_iff]; intro h; have := (HIFF.out.1 h).1; cases this)
    go_wp2_with fail
    refine (HR1.out _ HBD.out).mono ?_
    rintro e w1 ⟨rfl, rfl⟩
    go_wp2_with fail
    go_ret
    exact ⟨by rw [HE.out]; rfl, HB0.out.trans (HBD.out.mono HB0.out.size)⟩
  case true =>
  have HBW := Lib.hid (HB0.out.trans (HBD.out.mono HB0.out.size))
  generalize W0.drewN nq = W1 at *
  go_wp2_with fail
  refine (HR1.out _ HBD.out).mono ?_
  rintro e w1 ⟨rfl, rfl⟩
  cases td
  case false =>
    have HE : Hid (rightB s xs ds = false) := Lib.hid (by rw [Bool.eq_false_iff]; intro h; have := (HIFF.out.1 h).2.1; cases this)
    go_wp2_with fail
    refine (HR2.out _ HBD.out).mono ?_
    rintro e w1 ⟨rfl, rfl⟩
    go_wp2_with fail
    go_ret
    exact ⟨by rw [HE.out]; rfl, HBW.out⟩
  case true =>
  go_wp2_with fail
  refine (HR2.out _ HBD.out).mono ?_
  rintro e w1 ⟨rfl, rfl⟩
  rcases Nat.eq_zero_or_pos xs.length with h0 | h0
  · have hz : ((xs.length : Int) == 0) = true := by rw [h0]; rfl
    cases s
    case true =>
      have HE : Hid (rightB true xs ds = false) := Lib.hid (by
        rw [Bool.eq_false_iff]; intro h
        rcases (HIFF.out.1 h).2.2 with ⟨_, h2, _⟩ | ⟨h2, _⟩
        · cases h2
        · exact h2 h0)
      clear h0
      go_wp2_with fail
      go_ret
      exact ⟨by rw [HE.out]; rfl, HBW.out⟩
    case false =>
      have HE : Hid (rightB false xs ds = decide (ds.length = 0)) := Lib.hid (by
        refine eq_of_iff (HIFF.out.trans ?_)
        rw [decide_eq_true_eq]
        constructor
        · rintro ⟨_, _, ⟨_, _, h⟩ | ⟨h, _⟩⟩
          · exact h
          · exact absurd h0 h
        · intro h
          exact ⟨by trivial, by trivial, .inl ⟨h0, rfl, h⟩⟩)
      clear h0
      by_cases hd : ds.length = 0
      · have hz2 : ((ds.length : Int) == 0) = true := by rw [hd]; rfl
        rw [decide_eq_true hd] at HE
        clear hd
        go_wp2_with fail
        go_ret
        exact ⟨by rw [HE.out]; rfl, HBW.out⟩
      · have hz2 : ((ds.length : Int) == 0) = false := cast_beq_no hd
        rw [decide_eq_false hd] at HE
        clear hd
        go_wp2_with fail
        go_ret
        exact ⟨by rw [HE.out]; rfl, HBW.out⟩
  · have hz : ((xs.length : Int) == 0) = false := cast_beq_no (by omega)
    by_cases hd : ds.length = 0
    · have hz2 : ((ds.length : Int) == 0) = true := by rw [hd]; rfl
      have HE : Hid (rightB s xs ds = true) := Lib.hid (HIFF.out.2 ⟨by trivial, by trivial, .inr ⟨by omega, .inl hd⟩⟩)
      clear hd h0
      go_wp2_with fail
      go_ret
      exact ⟨by rw [HE.out]; rfl, HBW.out⟩
    · have hz2 : ((ds.length : Int) == 0) = false := cast_beq_no hd
      have HI := Lib.hid (isOne_any (HNE.out _ HBD.out).2.1)
      by_cases h1 : V ds = 1
      · have HE : Hid (rightB s xs ds = false) := Lib.hid (by
          rw [Bool.eq_false_iff]; intro h
          rcases (HIFF.out.1 h).2.2 with ⟨h2, _⟩ | ⟨_, h2 | ⟨_, h2, _⟩⟩
          · omega
          · exact hd h2
          · exact h2 h1)
        rw [decide_eq_true h1] at HI
        clear hd h0 h1
        go_wp2_with fail
        refine HI.out.mono ?_
        rintro e w2 ⟨rfl, hb2⟩
        have HE2 := Lib.hid (HBW.out.trans (hb2.mono HBW.out.size))
        clear hb2 HI
        go_wp2_with fail
        go_ret
        exact ⟨by rw [HE.out]; rfl, HE2.out⟩
      · have HE : Hid (rightB s xs ds = decide (Nat.gcd (V xs) (V ds) = 1)) := Lib.hid (by
          refine eq_of_iff (HIFF.out.trans ?_)
          rw [decide_eq_true_eq]
          constructor
          · rintro ⟨_, _, ⟨h, _⟩ | ⟨_, h | ⟨_, _, h⟩⟩⟩
            · omega
            · exact absurd h hd
            · exact h
          · intro h
            exact ⟨by trivial, by trivial, .inr ⟨by omega, .inr ⟨hd, h1, h⟩⟩⟩)
        rw [decide_eq_false h1] at HI
        clear hd h0 h1
        go_wp2_with fail
        refine HI.out.mono ?_
        rintro e w2 ⟨rfl, hb2⟩
        have hb12 := HBD.out.trans (hb2.mono HBD.out.size)
        obtain ⟨x1, x2, x3⟩ := HNE.out _ hb12
        have HC := Lib.hid (common_any x1 x2 x3 (by omega) (by omega))
        have HB2 := Lib.hid (HBW.out.trans (hb2.mono HBW.out.size))
        clear hb2 hb12 x1 x2 x3 HI
        go_wp2_with fail
        refine HC.out.mono ?_
        rintro e w3 ⟨a3, l3, c3, rfl, hn3, _, hb3⟩
        have HI3 := Lib.hid (isOne_any hn3)
        have HB3 := Lib.hid (HB2.out.trans (hb3.mono HB2.out.size))
        clear hn3 hb3 HC HB2
        go_wp2_with fail
        refine HI3.out.mono ?_
        rintro e w4 ⟨rfl, hb4⟩
        have HB4 := Lib.hid (HB3.out.trans (hb4.mono HB3.out.size))
        clear hb4
        go_wp2_with fail
        go_ret
        exact ⟨by rw [HE.out]; rfl, HB4.out⟩
theorem RightP_any {w : World} {s : Bool} {a1 a2 : Option Addr} {c1 c2 : Nat} {xs ds : List Nat} (h : HandR w a1 c1 xs a2 c2 ds) (hT : Tab w) (lx : xs.length ≤ 12) (ld : ds.length ≤ 12) :
    Calls Tryd.prog 39 #[.agg #[.bool s, .slice a1 xs.length c1, .slice a2 ds.length c2]] w (GivesB (rightB s xs ds) w) :=
  RightP_in (h.num.inn (by omega)) (h.den.inn (by omega)) hT (by omega) (by omega)
end Go.Proofs.YtodedlnpokagfaaDoor


/-
  Layer 4: In.Ratio.
-/
set_option linter.unusedVariables false
set_option linter.unusedSimpArgs false
namespace Go.Proofs.YtodedlnpokagfaaDoor
open Go.RowKit Rep

theorem Tab.noByte {w w' : World} {g : Nat} (h : Tab w) (hn : NoByte w g) (hg : w.grownBy w' (some g)) : Tab w' := fun j hj => by
  have h1 := h j hj
  refine hg.cell h1 fun e => ?_
  cases e
  exact hn _ _ h1
/-- A list of limbs that lies behind block r. -/
structure Lst (W : World) (r : Nat) (a : Option Addr) (c : Nat) (xs : List Nat) : Prop where
  reads : Reads W a (xs.map u32v)
  le : xs.length ≤ c
  cap : c ≤ maxLen
  new : ∀ j, blk a = some j → r < j
theorem Lst.past {W W' : World} {r g c : Nat} {a : Option Addr} {xs : List Nat} (h : Lst W r a c xs) (hg : W.grownBy W' (some g)) (hr : g ≤ r) : Lst W' r a c xs := by
  refine ⟨h.reads.grown hg (.inr fun g' off e e' => ?_), h.le, h.cap, h.new⟩
  subst e
  have := h.new g' rfl
  cases e'
  omega
theorem Lst.kept {W W' : World} {r c : Nat} {a : Option Addr} {xs : List Nat} (h : Lst W r a c xs) (hb : Below W.heap.size W W') : Lst W' r a c xs := ⟨h.reads.kept hb, h.le, h.cap, h.new⟩
theorem Lst.nil (W : World) (r : Nat) : Lst W r none 0 [] := ⟨.inl rfl, Nat.le_refl _, by simp [maxLen], fun j e => by cases e⟩
theorem Lst.num {W : World} {r c : Nat} {a : Option Addr} {xs : List Nat} (h : Lst W r a c xs) (hl : Lim xs) (hs : xs.length ≤ 10000) : NumIn W a c xs := ⟨hl, h.reads, h.le, h.cap, by omega⟩
theorem lft_byt {w : World} {i : Nat} {s : Pk.St} (h : InSt w i s) : ∀ r, s = some r → Pk.Byt r := by
  obtain ⟨a, c, h⟩ := h
  intro r e
  subst e
  exact h.bytes.byt
theorem rep_lim {n : Nat} {s : Pk.St} (h : ∀ r, s = some r → Pk.Byt r) : Lim (Pk.rep 4 n s) := by
  induction n generalizing s with
  | zero => exact Dig.nil _
  | succ n ih =>
    refine Dig.cons ?_ (ih (Pk.cutN_byt h))
    have h1 := Pk.val_lt (Pk.cutV_byt (k := 4) h)
    have h2 := Pk.cutV_len 4 s
    have h3 : (256 : Nat) ^ (Pk.cutV 4 s).length ≤ 256 ^ 4 := Nat.pow_le_pow_right (by omega) (by omega)
    have h4 : (256 : Nat) ^ 4 = 4294967296 := by decide
    omega
theorem countN_byt {m : Int} {s : Pk.St} (h : ∀ r, s = some r → Pk.Byt r) : ∀ r, Pk.countN m s = some r → Pk.Byt r := by
  unfold Pk.countN Pk.intN
  split
  · exact Pk.cutN_byt h
  · intro r e; cases e
theorem listV_lim {s : Pk.St} (h : ∀ r, s = some r → Pk.Byt r) : Lim (Pk.listV 4 s) := rep_lim (countN_byt h)

/-- In.Ratio's own memory. -/
structure RtAt (w : World) (i : Nat) (s : Pk.St) (v0 v1 v2 : Value) (W : World) : Prop where
  b3 : W.heap[w.heap.size + 1]? = some (.cells #[v0, v1, v2] 36 (0, 0))
  b2 : W.heap[w.heap.size]? = some (.cells #[.bool false, .slice none 0 0, .slice none 0 0] 36 (0, 0))
  inn : InSt W i s
  grown : w.grownBy W (some i)
  lt : i < w.heap.size
section
variable {w W W' : World} {i : Nat} {s s' : Pk.St} {v0 v1 v2 : Value}
theorem RtAt.tab (h : RtAt w i s v0 v1 v2 W) (hT : Tab w) (hn : NoByte w i) : Tab W := hT.noByte hn h.grown
theorem RtAt.start (h : InSt w i s) : RtAt w i s (.bool false) (.slice none 0 0) (.slice none 0 0) ((w.alloc (.cells #[.bool false, .slice none 0 0, .slice none 0 0] 36)).alloc (.cells #[.bool false, .slice none 0 0, .slice none 0 0] 36)) := by
  have hb : Below w.heap.size w ((w.alloc (.cells #[.bool false, .slice none 0 0, .slice none 0 0] 36)).alloc (.cells #[.bool false, .slice none 0 0, .slice none 0 0] 36)) :=
    ((Below.refl _ _).alloc (Nat.le_refl _) _).alloc (by simp) _
  refine ⟨?_, ?_, h.kept hb, grown_of_below hb _, h.lt⟩
  · have := heap_alloc_new (w.alloc (.cells #[.bool false, .slice none 0 0, .slice none 0 0] 36)) (.cells #[.bool false, .slice none 0 0, .slice none 0 0] 36)
    rwa [World.size_alloc] at this
  · rw [Below.heap_alloc _ _ _ (by simp)]; exact heap_alloc_new w _
theorem RtAt.move (h : RtAt w i s v0 v1 v2 W) (G1 : InSt W' i s') (G2 : W.grownBy W' (some i)) : RtAt w i s' v0 v1 v2 W' := by
  have hl := h.lt
  refine ⟨(G2.block _ (Array.getElem?_eq_some_iff.1 h.b3).1 (by simp; omega)).trans h.b3, (G2.block _ (Array.getElem?_eq_some_iff.1 h.b2).1 (by simp; omega)).trans h.b2, G1, grownBy_trans_new h.grown G2, hl⟩
theorem RtAt.kept (h : RtAt w i s v0 v1 v2 W) (hb : Below W.heap.size W W') : RtAt w i s v0 v1 v2 W' := h.move (h.inn.kept hb) (grown_of_below hb _)
theorem RtAt.cells (h : RtAt w i s v0 v1 v2 W) : W.cell? ⟨w.heap.size + 1, 0, none⟩ = some v0 ∧ W.cell? ⟨w.heap.size + 1, 1, none⟩ = some v1 ∧ W.cell? ⟨w.heap.size + 1, 2, none⟩ = some v2 ∧ W.frozen? ⟨w.heap.size + 1, 0, none⟩ = false ∧ W.frozen? ⟨w.heap.size + 1, 1, none⟩ = false ∧ W.frozen? ⟨w.heap.size + 1, 2, none⟩ = false := cells3 h.b3
theorem RtAt.res (h : RtAt w i s v0 v1 v2 W) : W.cell? ⟨w.heap.size, 0, none⟩ = some (.bool false) ∧ W.cell? ⟨w.heap.size, 1, none⟩ = some (.slice none 0 0) ∧ W.cell? ⟨w.heap.size, 2, none⟩ = some (.slice none 0 0) ∧ W.frozen? ⟨w.heap.size, 0, none⟩ = false ∧ W.frozen? ⟨w.heap.size, 1, none⟩ = false ∧ W.frozen? ⟨w.heap.size, 2, none⟩ = false := cells3 h.b2
theorem RtAt.put (h : RtAt w i s v0 v1 v2 W) (k : Nat) (u : Value) {u0 u1 u2 : Value} (he : (#[v0, v1, v2] : Array Value).setIfInBounds k u = #[u0, u1, u2]) : RtAt w i s u0 u1 u2 (W.setCell ⟨w.heap.size + 1, k, none⟩ u) := by
  have hl := h.lt
  have hg : W.grownBy (W.setCell ⟨w.heap.size + 1, k, none⟩ u) (some (w.heap.size + 1)) := grownBy_set (grown_refl W _)
  have h3 := h.b3
  refine ⟨?_, (Below.heap_setCell _ _ _ _ (by simp)).trans h.b2, h.inn.newer (by omega) hg, grown_new h.grown hg (fun j e => by cases e; omega), hl⟩
  simp only [World.setCell, Array.getElem?_modify, h3]
  simp [he]
end
theorem RtAt.fin {w W : World} {i : Nat} {s : Pk.St} {v0 v1 v2 : Value} (h : RtAt w i s v0 v1 v2 W) (u0 u1 u2 : Value) :
    ((((W.setCell ⟨w.heap.size, 0, none⟩ u0).setCell ⟨w.heap.size, 1, none⟩ u1).setCell ⟨w.heap.size, 2, none⟩ u2).cell? ⟨w.heap.size, 0, none⟩ = some u0 ∧ (((W.setCell ⟨w.heap.size, 0, none⟩ u0).setCell ⟨w.heap.size, 1, none⟩ u1).setCell ⟨w.heap.size, 2, none⟩ u2).cell? ⟨w.heap.size, 1, none⟩ = some u1 ∧ (((W.setCell ⟨w.heap.size, 0, none⟩ u0).setCell ⟨w.heap.size, 1, none⟩ u1).setCell ⟨w.heap.size, 2, none⟩ u2).cell? ⟨w.heap.size, 2, none⟩ = some u2) ∧
    Hid (InSt (((W.setCell ⟨w.heap.size, 0, none⟩ u0).setCell ⟨w.heap.size, 1, none⟩ u1).setCell ⟨w.heap.size, 2, none⟩ u2) i s) ∧ Hid (w.grownBy (((W.setCell ⟨w.heap.size, 0, none⟩ u0).setCell ⟨w.heap.size, 1, none⟩ u1).setCell ⟨w.heap.size, 2, none⟩ u2) (some i)) ∧
    Hid (W.grownBy (((W.setCell ⟨w.heap.size, 0, none⟩ u0).setCell ⟨w.heap.size, 1, none⟩ u1).setCell ⟨w.heap.size, 2, none⟩ u2) (some w.heap.size)) := by
  have hl := h.lt
  have hg : W.grownBy (((W.setCell ⟨w.heap.size, 0, none⟩ u0).setCell ⟨w.heap.size, 1, none⟩ u1).setCell ⟨w.heap.size, 2, none⟩ u2) (some w.heap.size) := grownBy_set (grownBy_set (grownBy_set (grown_refl W _)))
  have h2 := h.b2
  have hh : (((W.setCell ⟨w.heap.size, 0, none⟩ u0).setCell ⟨w.heap.size, 1, none⟩ u1).setCell ⟨w.heap.size, 2, none⟩ u2).heap[w.heap.size]? = some (.cells #[u0, u1, u2] 36 (0, 0)) := by
    simp only [World.setCell, Array.getElem?_modify, h2]
    simp
  obtain ⟨a0, a1, a2, _⟩ := cells3 hh
  exact ⟨⟨a0, a1, a2⟩, Lib.hid (h.inn.newer hl hg), Lib.hid (grown_new h.grown hg (fun j e => by cases e; omega)), Lib.hid hg⟩
/-- A call on an In gives a ratio; the In is in this state then, and nothing else has changed. -/
def TakesR (i : Nat) (b : Bool) (xs ds : List Nat) (s : Pk.St) (w : World) (e : Ending) (w' : World) : Prop :=
  ∃ a1 c1 a2 c2, e = .returned (.agg #[.bool b, .slice a1 xs.length c1, .slice a2 ds.length c2]) ∧ Hid (Lst w' (w.heap.size + 1) a1 c1 xs ∧ Lst w' (w.heap.size + 1) a2 c2 ds) ∧ Hid (InSt w' i s) ∧ Hid (w.grownBy w' (some i))
theorem ratio_none {w W : World} {i : Nat} {s : Pk.St} (h1 : InSt W i none) (h2 : w.grownBy W (some i)) (hok : Pk.ratOK s = false) :
    TakesR i (Pk.ratS s) (Pk.ratX s) (Pk.ratD s) (Pk.ratN s) w (.returned (.agg #[.bool false, .slice none 0 0, .slice none 0 0])) W := by
  unfold Pk.ratS Pk.ratX Pk.ratD Pk.ratN
  simp only [hok, Bool.false_and, Bool.false_eq_true, if_false]
  exact ⟨none, 0, none, 0, rfl, Lib.hid ⟨.nil _ _, .nil _ _⟩, Lib.hid h1, Lib.hid h2⟩

set_option maxRecDepth 100000 in
set_option maxHeartbeats 4000000 in
theorem Ratio_any {w : World} {i : Nat} {s : Pk.St} (h : InSt w i s) (hT : Tab w) (hsm : Pk.ratSm s) :
    Calls Tryd.prog 22 #[.pointer (some ⟨i, 0, none⟩)] w (TakesR i (Pk.ratS s) (Pk.ratX s) (Pk.ratD s) (Pk.ratN s) w) := by
  obtain ⟨W0, hW0⟩ : ∃ W0, W0 = ((w.alloc (.cells #[.bool false, .slice none 0 0, .slice none 0 0] 36)).alloc (.cells #[.bool false, .slice none 0 0, .slice none 0 0] 36)) := ⟨_, rfl⟩
  have HS := Lib.hid (RtAt.start h)
  rw [← hW0] at HS
  have HW0 := Lib.hid hW0
  have HTB := Lib.hid hT
  have HNB := Lib.hid h.no
  have HF := Lib.hid (Flag_any HS.out.inn)
  have hil := h.lt
  obtain ⟨p0, p1, p2, q0, q1, q2⟩ := HS.out.cells
  have HSM : Hid ((Pk.listV 4 (Pk.flagN s)).length ≤ 10000 ∧ (Pk.listV 4 (Pk.listN 4 (Pk.flagN s))).length ≤ 10000) := Lib.hid hsm
  clear h hT hW0 hsm
  go_enter Tryd.func22, Tryd.ntmps22
  go_wp2_with fail
  rw [← HW0.out]
  refine HF.out.mono ?_
  rintro e w1 ⟨rfl, G1, G2⟩
  have HS1 := Lib.hid (HS.out.move G1.out G2.out)
  have HB1 := Lib.hid (lft_byt G1.out)
  obtain ⟨p0, p1, p2, q0, q1, q2⟩ := HS1.out.cells
  have HS2 := Lib.hid (HS1.out.put 0 (.bool (Pk.flagV s)) rfl)
  clear HF HS G1 G2 HS1
  obtain ⟨b, hb⟩ : ∃ b, b = Pk.flagV s := ⟨_, rfl⟩
  have HBV := Lib.hid hb
  rw [← hb] at HS2 ⊢
  clear hb
  have HL1 := Lib.hid (TakeU_any HS2.out.inn)
  obtain ⟨sf, hsf⟩ : ∃ sf, sf = Pk.flagN s := ⟨_, rfl⟩
  have HSF := Lib.hid hsf
  rw [← hsf] at HS2 HL1
  clear hsf
  go_wp2_with fail
  refine HL1.out.mono ?_
  rintro e w2 ⟨a1, c1, rfl, M1, M2, M3, G1, G2⟩
  have HS3 := Lib.hid (HS2.out.move G1.out G2.out)
  have HLM1 : Hid (Lim (Pk.listV 4 sf)) := Lib.hid (by rw [HSF.out]; exact listV_lim HB1.out)
  have HB2 := Lib.hid (lft_byt G1.out)
  have HA1 : Hid (Lst w2 (w.heap.size + 1) a1 c1 (Pk.listV 4 sf)) := Lib.hid ⟨M1.out, M2.out.1, M2.out.2, fun j e => by have := M3.out j e; have := (Array.getElem?_eq_some_iff.1 HS2.out.b3).1; omega⟩
  obtain ⟨xs, hxs⟩ : ∃ xs, xs = Pk.listV 4 sf := ⟨_, rfl⟩
  obtain ⟨s2, hs2⟩ : ∃ s2, s2 = Pk.listN 4 sf := ⟨_, rfl⟩
  have HXS := Lib.hid hxs
  have HSS := Lib.hid hs2
  rw [← hxs] at HA1 HLM1 ⊢
  rw [← hs2] at HS3 HB2
  clear hxs hs2 p0 p1 p2 q0 q1 q2
  obtain ⟨p0, p1, p2, q0, q1, q2⟩ := HS3.out.cells
  have HS4 := Lib.hid (HS3.out.put 1 (.slice a1 xs.length c1) rfl)
  have HA2 : Hid (Lst (w2.setCell ⟨w.heap.size + 1, 1, none⟩ (.slice a1 xs.length c1)) (w.heap.size + 1) a1 c1 xs) := Lib.hid (HA1.out.past (grownBy_set (grown_refl _ _)) (Nat.le_refl _))
  have HL2 := Lib.hid (TakeU_any HS4.out.inn)
  clear HL1 HS2 HS3 M1 M2 M3 G1 G2 HA1
  go_wp2_with fail
  refine HL2.out.mono ?_
  rintro e w3 ⟨a2, c2, rfl, M1, M2, M3, G1, G2⟩
  have HS5 := Lib.hid (HS4.out.move G1.out G2.out)
  have HLM2 : Hid (Lim (Pk.listV 4 s2)) := Lib.hid (listV_lim HB2.out)
  have HA3 : Hid (Lst w3 (w.heap.size + 1) a1 c1 xs) := Lib.hid (HA2.out.past G2.out (by have := HS4.out.lt; omega))
  have HD3 : Hid (Lst w3 (w.heap.size + 1) a2 c2 (Pk.listV 4 s2)) := Lib.hid ⟨M1.out, M2.out.1, M2.out.2, fun j e => by have := M3.out j e; have := (Array.getElem?_eq_some_iff.1 HS4.out.b3).1; omega⟩
  obtain ⟨ds, hds⟩ : ∃ ds, ds = Pk.listV 4 s2 := ⟨_, rfl⟩
  obtain ⟨s3, hs3⟩ : ∃ s3, s3 = Pk.listN 4 s2 := ⟨_, rfl⟩
  have HDS := Lib.hid hds
  have HS3' := Lib.hid hs3
  rw [← hds] at HD3 HLM2 ⊢
  rw [← hs3] at HS5
  clear hds hs3 p0 p1 p2 q0 q1 q2
  obtain ⟨p0, p1, p2, q0, q1, q2⟩ := HS5.out.cells
  obtain ⟨ai, ci, hI⟩ := HS5.out.inn
  obtain ⟨i0, i1, j0, j1, j2⟩ := cellsTwo hI.blk
  obtain ⟨r0, r1, r2, t0, t1, t2⟩ := HS5.out.res
  have HS6 := Lib.hid (HS5.out.put 2 (.slice a2 ds.length c2) rfl)
  have HA4 : Hid (Lst (w3.setCell ⟨w.heap.size + 1, 2, none⟩ (.slice a2 ds.length c2)) (w.heap.size + 1) a1 c1 xs) := Lib.hid (HA3.out.past (grownBy_set (grown_refl _ _)) (Nat.le_refl _))
  have HD4 : Hid (Lst (w3.setCell ⟨w.heap.size + 1, 2, none⟩ (.slice a2 ds.length c2)) (w.heap.size + 1) a2 c2 ds) := Lib.hid (HD3.out.past (grownBy_set (grown_refl _ _)) (Nat.le_refl _))
  clear HL2 HS4 HS5 M1 M2 M3 G1 G2 HA2 HA3 HD3 HB1 HB2
  have HOK : Hid (Pk.ratOK s = (s3.isSome && rightB b xs ds)) := Lib.hid (by unfold Pk.ratOK; rw [HS3'.out, HDS.out, HSS.out, HXS.out, HSF.out, HBV.out])
  have HP : Hid (Pk.ratS s = (Pk.ratOK s && b) ∧ Pk.ratX s = (if Pk.ratOK s then xs else []) ∧ Pk.ratD s = (if Pk.ratOK s then ds else []) ∧ Pk.ratN s = (if Pk.ratOK s then s3 else none)) := Lib.hid (by
    unfold Pk.ratS Pk.ratX Pk.ratD Pk.ratN
    rw [HS3'.out, HDS.out, HSS.out, HXS.out, HSF.out, HBV.out]
    exact ⟨rfl, rfl, rfl, rfl⟩)
  have HLE : Hid (xs.length ≤ 10000 ∧ ds.length ≤ 10000) := Lib.hid (by have h1 := HSM.out; rw [HXS.out, HDS.out, HSS.out, HSF.out]; exact h1)
  clear hI HSM HXS HSS HDS HS3' HSF HBV
  have HRT : Hid (Calls Tryd.prog 39 #[.agg #[.bool b, .slice a1 xs.length c1, .slice a2 ds.length c2]] (w3.setCell ⟨w.heap.size + 1, 2, none⟩ (.slice a2 ds.length c2)) (GivesB (rightB b xs ds) (w3.setCell ⟨w.heap.size + 1, 2, none⟩ (.slice a2 ds.length c2)))) := Lib.hid (RightP_in (HA4.out.num HLM1.out HLE.out.1) (HD4.out.num HLM2.out HLE.out.2) (HS6.out.tab HTB.out HNB.out) (by have := HLE.out.1; omega) (by have := HLE.out.2; omega))
  cases hz : s3.isNone
  case true =>
    obtain rfl : s3 = none := by simpa using hz
    have HNO : Hid (Pk.ratOK s = false) := Lib.hid (by rw [HOK.out]; rfl)
    have HFL := Lib.hid (fail_any HS6.out.inn)
    rw [hz] at i1
    clear hz HRT HOK HP
    go_wp2_with fail
    refine HFL.out.mono ?_
    rintro e w7 ⟨rfl, G1, G2⟩
    have HS7 := Lib.hid (HS6.out.move G1.out G2.out)
    obtain ⟨r0, r1, r2, t0, t1, t2⟩ := HS7.out.res
    have HFI := Lib.hid (HS7.out.fin (.bool false) (.slice none 0 0) (.slice none 0 0))
    clear HFL HS6 HS7 G1 G2
    go_wp2_with fail
    obtain ⟨⟨r0, r1, r2⟩, k1, k2, _⟩ := HFI.out
    exact bodyPost_ret (v := .agg #[.bool false, .slice none 0 0, .slice none 0 0]) (by simp [results, Tryd.results22, go_sem, r0, r1, r2]) rfl (ratio_none k1.out k2.out HNO.out)
  case false =>
    rw [hz] at i1
    cases hr : rightB b xs ds
    case false =>
      have HNO : Hid (Pk.ratOK s = false) := Lib.hid (by rw [HOK.out, hr, Bool.and_false])
      rw [hr] at HRT
      clear hz hr HOK HP
      go_wp2_with fail
      refine HRT.out.mono ?_
      rintro e w6 ⟨rfl, hb6⟩
      have HS7 := Lib.hid (HS6.out.kept hb6)
      have HFL := Lib.hid (fail_any HS7.out.inn)
      clear HRT HS6 hb6
      go_wp2_with fail
      refine HFL.out.mono ?_
      rintro e w7 ⟨rfl, G1, G2⟩
      have HS8 := Lib.hid (HS7.out.move G1.out G2.out)
      obtain ⟨r0, r1, r2, t0, t1, t2⟩ := HS8.out.res
      have HFI := Lib.hid (HS8.out.fin (.bool false) (.slice none 0 0) (.slice none 0 0))
      clear HFL HS7 HS8 G1 G2
      go_wp2_with fail
      obtain ⟨⟨r0, r1, r2⟩, k1, k2, _⟩ := HFI.out
      exact bodyPost_ret (v := .agg #[.bool false, .slice none 0 0, .slice none 0 0]) (by simp [results, Tryd.results22, go_sem, r0, r1, r2]) rfl (ratio_none k1.out k2.out HNO.out)
    case true =>
      have HYES : Hid (Pk.ratOK s = true) := Lib.hid (by rw [HOK.out, hr, Bool.and_true]; cases s3 with | none => simp at hz | some _ => rfl)
      rw [hr] at HRT
      clear hz hr HOK
      go_wp2_with fail
      refine HRT.out.mono ?_
      rintro e w6 ⟨rfl, hb6⟩
      have HS7 := Lib.hid (HS6.out.kept hb6)
      have HA7 := Lib.hid (HA4.out.kept hb6)
      have HD7 := Lib.hid (HD4.out.kept hb6)
      obtain ⟨p0, p1, p2, q0, q1, q2⟩ := HS7.out.cells
      obtain ⟨r0, r1, r2, t0, t1, t2⟩ := HS7.out.res
      have HFI := Lib.hid (HS7.out.fin (.bool b) (.slice a1 xs.length c1) (.slice a2 ds.length c2))
      clear HRT HS6 hb6 HA4 HD4 HS7
      go_wp2_with fail
      obtain ⟨⟨r0, r1, r2⟩, k1, k2, k3⟩ := HFI.out
      refine bodyPost_ret (v := .agg #[.bool b, .slice a1 xs.length c1, .slice a2 ds.length c2]) (by simp [results, Tryd.results22, go_sem, r0, r1, r2]) rfl ?_
      obtain ⟨e0, e1, e2, e3⟩ := HP.out
      rw [e0, e1, e2, e3, HYES.out]
      exact ⟨a1, c1, a2, c2, rfl, Lib.hid ⟨HA7.out.past k3.out (by omega), HD7.out.past k3.out (by omega)⟩, k1, k2⟩
end Go.Proofs.YtodedlnpokagfaaDoor


/-
  Numbers with a delta, in memory: six cells.
-/
set_option linter.unusedVariables false
set_option linter.unusedSimpArgs false
namespace Go.Proofs.YtodedlnpokagfaaDoor
open Go.RowKit Rep


/-- Six cells, written. -/
def set6 (W : World) (r : Nat) (s : Bool) (v1 v2 : Value) (t : Bool) (v3 v4 : Value) : World :=
  (((((W.setCell ⟨r, 0, none⟩ (.bool s)).setCell ⟨r, 1, none⟩ v1).setCell ⟨r, 2, none⟩ v2).setCell ⟨r, 3, none⟩ (.bool t)).setCell ⟨r, 4, none⟩ v3).setCell ⟨r, 5, none⟩ v4
theorem set6_grown (W : World) (r : Nat) (s : Bool) (v1 v2 : Value) (t : Bool) (v3 v4 : Value) : W.grownBy (set6 W r s v1 v2 t v3 v4) (some r) := grownBy_set (grownBy_set (grownBy_set (grownBy_set (grownBy_set (grownBy_set (grown_refl W _))))))
theorem set6_below {B : Nat} {w W : World} {r : Nat} {s : Bool} {v1 v2 : Value} {t : Bool} {v3 v4 : Value} (h : Below B w W) (hr : B ≤ r) : Below B w (set6 W r s v1 v2 t v3 v4) :=
  (((((h.setCell (p := ⟨r, 0, none⟩) hr _).setCell (p := ⟨r, 1, none⟩) hr _).setCell (p := ⟨r, 2, none⟩) hr _).setCell (p := ⟨r, 3, none⟩) hr _).setCell (p := ⟨r, 4, none⟩) hr _).setCell (p := ⟨r, 5, none⟩) hr _
theorem set6_size (W : World) (r : Nat) (s : Bool) (v1 v2 : Value) (t : Bool) (v3 v4 : Value) : (set6 W r s v1 v2 t v3 v4).heap.size = W.heap.size := by simp [set6, World.setCell]
theorem cells6 {W : World} {r : Nat} {v0 v1 v2 v3 v4 v5 : Value} {t : TypeId} (h : W.heap[r]? = some (.cells #[v0, v1, v2, v3, v4, v5] t (0, 0))) :
    W.cell? ⟨r, 0, none⟩ = some v0 ∧ W.cell? ⟨r, 1, none⟩ = some v1 ∧ W.cell? ⟨r, 2, none⟩ = some v2 ∧ W.cell? ⟨r, 3, none⟩ = some v3 ∧ W.cell? ⟨r, 4, none⟩ = some v4 ∧ W.cell? ⟨r, 5, none⟩ = some v5 ∧
    W.frozen? ⟨r, 0, none⟩ = false ∧ W.frozen? ⟨r, 1, none⟩ = false ∧ W.frozen? ⟨r, 2, none⟩ = false ∧ W.frozen? ⟨r, 3, none⟩ = false ∧ W.frozen? ⟨r, 4, none⟩ = false ∧ W.frozen? ⟨r, 5, none⟩ = false := by
  refine ⟨?_, ?_, ?_, ?_, ?_, ?_, ?_, ?_, ?_, ?_, ?_, ?_⟩
  · simp [World.cell?, h]
  · simp [World.cell?, h]
  · simp [World.cell?, h]
  · simp [World.cell?, h]
  · simp [World.cell?, h]
  · simp [World.cell?, h]
  · simp [World.frozen?, h]
  · simp [World.frozen?, h]
  · simp [World.frozen?, h]
  · simp [World.frozen?, h]
  · simp [World.frozen?, h]
  · simp [World.frozen?, h]
/-- A block of six cells stays. -/
theorem stay {W0 W : World} {r : Nat} {c : Array Value} {t : TypeId} (h : W0.heap[r]? = some (.cells c t (0, 0))) (hb : Below W0.heap.size W0 W) : W.heap[r]? = some (.cells c t (0, 0)) := (hb.block _ (Array.getElem?_eq_some_iff.1 h).1).trans h
/-- Block r is of six such cells. -/
def Six (W : World) (r : Nat) (ty : TypeId) : Prop := W.heap[r]? = some (.cells #[.bool false, .slice none 0 0, .slice none 0 0, .bool false, .slice none 0 0, .slice none 0 0] ty (0, 0))
theorem six_apart {W : World} {r : Nat} {ty : TypeId} (hb : Six W r ty) {f : Nat → Value} (hf : ∀ n, ∃ k i, f n = .int k i) {a : Option Addr} {xs : List Nat} (hr : Reads W a (xs.map f)) : xs.map f = [] ∨ ∀ g off, a = some ⟨g, off, none⟩ → some g ≠ some r := by
  unfold Six at hb
  rcases hr with hr | ⟨g, off, rfl, hr⟩
  · exact .inl hr
  · by_cases e : xs = []
    · exact .inl (by simp [e])
    · refine .inr fun g' off' hg hbq => ?_
      simp at hg hbq
      obtain ⟨rfl, rfl⟩ := hg
      subst hbq
      have := hr 0 _ (map_getElem? (xs := xs) (f := f) (List.length_pos_iff.2 e))
      obtain ⟨k, i, hki⟩ := hf (xs.getD 0 0)
      rw [hki] at this
      simp only [World.cell?, hb] at this
      rcases off with _ | _ | _ | _ | _ | _ | off <;> simp at this
theorem VD.set6 {q : Rat} {v : RawR} {W : World} {r : Nat} {ty : TypeId} (h : VD q v W) (hb : Six W r ty) (s : Bool) (v1 v2 : Value) (t : Bool) (v3 v4 : Value) : VD q v (Go.Proofs.YtodedlnpokagfaaDoor.set6 W r s v1 v2 t v3 v4) := by
  have hi : ∀ n, ∃ k i, i64v n = .int k i := fun n => ⟨_, _, rfl⟩
  exact ⟨h.e0, h.e1, h.e2, ⟨⟨h.lies.num.1.grown (set6_grown W r s v1 v2 t v3 v4) (six_apart hb hi h.lies.num.1), h.lies.num.2⟩, ⟨h.lies.den.1.grown (set6_grown W r s v1 v2 t v3 v4) (six_apart hb hi h.lies.den.1), h.lies.den.2⟩⟩⟩
theorem VQ.set6 {q : Rat} {v : RawR} {W : World} {r : Nat} {ty : TypeId} (h : VQ q v W) (hb : Six W r ty) (s : Bool) (v1 v2 : Value) (t : Bool) (v3 v4 : Value) : VQ q v (Go.Proofs.YtodedlnpokagfaaDoor.set6 W r s v1 v2 t v3 v4) := by
  have hi : ∀ n, ∃ k i, u32v n = .int k i := fun n => ⟨_, _, rfl⟩
  exact ⟨h.e0, h.e1, h.e2, ⟨⟨h.lies.num.1.grown (set6_grown W r s v1 v2 t v3 v4) (six_apart hb hi h.lies.num.1), h.lies.num.2⟩, ⟨h.lies.den.1.grown (set6_grown W r s v1 v2 t v3 v4) (six_apart hb hi h.lies.den.1), h.lies.den.2⟩⟩⟩
/-- A call gives both parts' digits, behind W5. -/
def GotDD (W5 : World) (q r : Rat) (e : Ending) (W' : World) : Prop :=
  ∃ s z1 m1 k1 z2 m2 k2 t y1 n1 j1 y2 n2 j2, e = .returned (.agg #[.bool s, .slice z1 m1 k1, .slice z2 m2 k2, .bool t, .slice y1 n1 j1, .slice y2 n2 j2]) ∧ Hid (Below W5.heap.size W5 W') ∧ Hid (VD q (s, (z1, m1, k1), (z2, m2, k2)) W') ∧ Hid (VD r (t, (y1, n1, j1), (y2, n2, j2)) W')
/-- A call gives both parts' limbs, behind W5. -/
def GotQQ (W5 : World) (q r : Rat) (e : Ending) (W' : World) : Prop :=
  ∃ s z1 m1 k1 z2 m2 k2 t y1 n1 j1 y2 n2 j2, e = .returned (.agg #[.bool s, .slice z1 m1 k1, .slice z2 m2 k2, .bool t, .slice y1 n1 j1, .slice y2 n2 j2]) ∧ Hid (Below W5.heap.size W5 W') ∧ Hid (VQ q (s, (z1, m1, k1), (z2, m2, k2)) W') ∧ Hid (VQ r (t, (y1, n1, j1), (y2, n2, j2)) W')
theorem finDD {W5 w W0 W : World} {r : Nat} {ty : TypeId} {q p : Rat} {s t : Bool} {z1 z2 y1 y2 : Option Addr} {m1 k1 m2 k2 n1 j1 n2 j2 : Nat} (hb5 : Below W5.heap.size W5 w) (hB0 : Below w.heap.size w W0) (hr : w.heap.size ≤ r) (b3 : Six W0 r ty) (hb : Below W0.heap.size W0 W)
    (h1 : VD q (s, (z1, m1, k1), (z2, m2, k2)) W) (h2 : VD p (t, (y1, n1, j1), (y2, n2, j2)) W) :
    GotDD W5 q p (.returned (.agg #[.bool s, .slice z1 m1 k1, .slice z2 m2 k2, .bool t, .slice y1 n1 j1, .slice y2 n2 j2])) (set6 W r s (.slice z1 m1 k1) (.slice z2 m2 k2) t (.slice y1 n1 j1) (.slice y2 n2 j2)) := by
  have hs : Six W r ty := stay b3 hb
  have h5 := hb5.size
  exact ⟨s, z1, m1, k1, z2, m2, k2, t, y1, n1, j1, y2, n2, j2, rfl, Lib.hid (set6_below (hb5.trans ((hB0.trans (hb.mono hB0.size)).mono h5)) (by omega)), Lib.hid (h1.set6 hs _ _ _ _ _ _), Lib.hid (h2.set6 hs _ _ _ _ _ _)⟩
theorem finQQ {W5 w W0 W : World} {r : Nat} {ty : TypeId} {q p : Rat} {s t : Bool} {z1 z2 y1 y2 : Option Addr} {m1 k1 m2 k2 n1 j1 n2 j2 : Nat} (hb5 : Below W5.heap.size W5 w) (hB0 : Below w.heap.size w W0) (hr : w.heap.size ≤ r) (b3 : Six W0 r ty) (hb : Below W0.heap.size W0 W)
    (h1 : VQ q (s, (z1, m1, k1), (z2, m2, k2)) W) (h2 : VQ p (t, (y1, n1, j1), (y2, n2, j2)) W) :
    GotQQ W5 q p (.returned (.agg #[.bool s, .slice z1 m1 k1, .slice z2 m2 k2, .bool t, .slice y1 n1 j1, .slice y2 n2 j2])) (set6 W r s (.slice z1 m1 k1) (.slice z2 m2 k2) t (.slice y1 n1 j1) (.slice y2 n2 j2)) := by
  have hs : Six W r ty := stay b3 hb
  have h5 := hb5.size
  exact ⟨s, z1, m1, k1, z2, m2, k2, t, y1, n1, j1, y2, n2, j2, rfl, Lib.hid (set6_below (hb5.trans ((hB0.trans (hb.mono hB0.size)).mono h5)) (by omega)), Lib.hid (h1.set6 hs _ _ _ _ _ _), Lib.hid (h2.set6 hs _ _ _ _ _ _)⟩
theorem got_ofQ {W5 W : World} {q : Rat} {s : Bool} {z1 z2 : Option Addr} {m1 k1 m2 k2 : Nat} (h : VQ q (s, (z1, m1, k1), (z2, m2, k2)) W) (hq : szQ q ≤ 100) (hb : Below W5.heap.size W5 W) :
    Calls Tryd.prog 49 #[.agg #[.bool s, .slice z1 m1 k1, .slice z2 m2 k2]] W (GotD W5 q) := got_of h hq hb
/-- Two boxes of six cells, and of three. -/
theorem box1 (w : World) (v1 v2 : Array Value) (t1 t2 : TypeId) : ∃ W0, W0 = ((w.alloc (.cells v1 t1)).alloc (.cells v2 t2)) ∧ Below w.heap.size w W0 ∧
    W0.heap[w.heap.size]? = some (.cells v1 t1 (0, 0)) ∧ W0.heap[w.heap.size + 1]? = some (.cells v2 t2 (0, 0)) ∧ W0.heap.size = w.heap.size + 1 + 1 := boxes2 w v1 v2 t1 t2
end Go.Proofs.YtodedlnpokagfaaDoor


/-
  Layer 4: In.Delta.
-/
set_option linter.unusedVariables false
set_option linter.unusedSimpArgs false
namespace Go.Proofs.YtodedlnpokagfaaDoor
open Go.RowKit Rep

/-- In.Delta's own memory. -/
structure DlAt (w : World) (i : Nat) (s : Pk.St) (W : World) : Prop where
  b2 : W.heap[w.heap.size]? = some (.cells #[.bool false, .slice none 0 0, .slice none 0 0, .bool false, .slice none 0 0, .slice none 0 0] 38 (0, 0))
  inn : InSt W i s
  grown : w.grownBy W (some i)
  lt : i < w.heap.size
section
variable {w W W' : World} {i : Nat} {s s' : Pk.St}
theorem DlAt.tab (h : DlAt w i s W) (hT : Tab w) (hn : NoByte w i) : Tab W := hT.noByte hn h.grown
theorem DlAt.start (h : InSt w i s) : DlAt w i s (w.alloc (.cells #[.bool false, .slice none 0 0, .slice none 0 0, .bool false, .slice none 0 0, .slice none 0 0] 38)) :=
  ⟨heap_alloc_new w _, h.kept ((Below.refl _ _).alloc (Nat.le_refl _) _), grown_of_below ((Below.refl _ _).alloc (Nat.le_refl _) _) _, h.lt⟩
theorem DlAt.move (h : DlAt w i s W) (G1 : InSt W' i s') (G2 : W.grownBy W' (some i)) : DlAt w i s' W' := by
  have hl := h.lt
  exact ⟨(G2.block _ (Array.getElem?_eq_some_iff.1 h.b2).1 (by simp; omega)).trans h.b2, G1, grownBy_trans_new h.grown G2, hl⟩
theorem DlAt.kept (h : DlAt w i s W) (hb : Below W.heap.size W W') : DlAt w i s W' := h.move (h.inn.kept hb) (grown_of_below hb _)
theorem DlAt.fin (h : DlAt w i s W) (u0 u1 u2 u3 u4 u5 : Value) :
    (((((((W.setCell ⟨w.heap.size, 0, none⟩ u0).setCell ⟨w.heap.size, 1, none⟩ u1).setCell ⟨w.heap.size, 2, none⟩ u2).setCell ⟨w.heap.size, 3, none⟩ u3).setCell ⟨w.heap.size, 4, none⟩ u4).setCell ⟨w.heap.size, 5, none⟩ u5).cell? ⟨w.heap.size, 0, none⟩ = some u0 ∧ ((((((W.setCell ⟨w.heap.size, 0, none⟩ u0).setCell ⟨w.heap.size, 1, none⟩ u1).setCell ⟨w.heap.size, 2, none⟩ u2).setCell ⟨w.heap.size, 3, none⟩ u3).setCell ⟨w.heap.size, 4, none⟩ u4).setCell ⟨w.heap.size, 5, none⟩ u5).cell? ⟨w.heap.size, 1, none⟩ = some u1 ∧ ((((((W.setCell ⟨w.heap.size, 0, none⟩ u0).setCell ⟨w.heap.size, 1, none⟩ u1).setCell ⟨w.heap.size, 2, none⟩ u2).setCell ⟨w.heap.size, 3, none⟩ u3).setCell ⟨w.heap.size, 4, none⟩ u4).setCell ⟨w.heap.size, 5, none⟩ u5).cell? ⟨w.heap.size, 2, none⟩ = some u2 ∧ ((((((W.setCell ⟨w.heap.size, 0, none⟩ u0).setCell ⟨w.heap.size, 1, none⟩ u1).setCell ⟨w.heap.size, 2, none⟩ u2).setCell ⟨w.heap.size, 3, none⟩ u3).setCell ⟨w.heap.size, 4, none⟩ u4).setCell ⟨w.heap.size, 5, none⟩ u5).cell? ⟨w.heap.size, 3, none⟩ = some u3 ∧ ((((((W.setCell ⟨w.heap.size, 0, none⟩ u0).setCell ⟨w.heap.size, 1, none⟩ u1).setCell ⟨w.heap.size, 2, none⟩ u2).setCell ⟨w.heap.size, 3, none⟩ u3).setCell ⟨w.heap.size, 4, none⟩ u4).setCell ⟨w.heap.size, 5, none⟩ u5).cell? ⟨w.heap.size, 4, none⟩ = some u4 ∧ ((((((W.setCell ⟨w.heap.size, 0, none⟩ u0).setCell ⟨w.heap.size, 1, none⟩ u1).setCell ⟨w.heap.size, 2, none⟩ u2).setCell ⟨w.heap.size, 3, none⟩ u3).setCell ⟨w.heap.size, 4, none⟩ u4).setCell ⟨w.heap.size, 5, none⟩ u5).cell? ⟨w.heap.size, 5, none⟩ = some u5) ∧
    Hid (InSt ((((((W.setCell ⟨w.heap.size, 0, none⟩ u0).setCell ⟨w.heap.size, 1, none⟩ u1).setCell ⟨w.heap.size, 2, none⟩ u2).setCell ⟨w.heap.size, 3, none⟩ u3).setCell ⟨w.heap.size, 4, none⟩ u4).setCell ⟨w.heap.size, 5, none⟩ u5) i s) ∧ Hid (w.grownBy ((((((W.setCell ⟨w.heap.size, 0, none⟩ u0).setCell ⟨w.heap.size, 1, none⟩ u1).setCell ⟨w.heap.size, 2, none⟩ u2).setCell ⟨w.heap.size, 3, none⟩ u3).setCell ⟨w.heap.size, 4, none⟩ u4).setCell ⟨w.heap.size, 5, none⟩ u5) (some i)) ∧
    Hid (W.grownBy ((((((W.setCell ⟨w.heap.size, 0, none⟩ u0).setCell ⟨w.heap.size, 1, none⟩ u1).setCell ⟨w.heap.size, 2, none⟩ u2).setCell ⟨w.heap.size, 3, none⟩ u3).setCell ⟨w.heap.size, 4, none⟩ u4).setCell ⟨w.heap.size, 5, none⟩ u5) (some w.heap.size)) := by
  have hl := h.lt
  have hg : W.grownBy ((((((W.setCell ⟨w.heap.size, 0, none⟩ u0).setCell ⟨w.heap.size, 1, none⟩ u1).setCell ⟨w.heap.size, 2, none⟩ u2).setCell ⟨w.heap.size, 3, none⟩ u3).setCell ⟨w.heap.size, 4, none⟩ u4).setCell ⟨w.heap.size, 5, none⟩ u5) (some w.heap.size) := grownBy_set (grownBy_set (grownBy_set (grownBy_set (grownBy_set (grownBy_set (grown_refl W _))))))
  have h2 := h.b2
  have hh : ((((((W.setCell ⟨w.heap.size, 0, none⟩ u0).setCell ⟨w.heap.size, 1, none⟩ u1).setCell ⟨w.heap.size, 2, none⟩ u2).setCell ⟨w.heap.size, 3, none⟩ u3).setCell ⟨w.heap.size, 4, none⟩ u4).setCell ⟨w.heap.size, 5, none⟩ u5).heap[w.heap.size]? = some (.cells #[u0, u1, u2, u3, u4, u5] 38 (0, 0)) := by
    simp only [World.setCell, Array.getElem?_modify, h2]
    simp
  obtain ⟨a0, a1, a2, a3, a4, a5, _⟩ := cells6 hh
  exact ⟨⟨a0, a1, a2, a3, a4, a5⟩, Lib.hid (h.inn.newer hl hg), Lib.hid (grown_new h.grown hg (fun j e => by cases e; omega)), Lib.hid hg⟩
theorem DlAt.finA (h : DlAt w i s W) (u0 u1 u2 u3 u4 u5 : Value) (o : Obj) :
    ((((((((W.setCell ⟨w.heap.size, 0, none⟩ u0).setCell ⟨w.heap.size, 1, none⟩ u1).setCell ⟨w.heap.size, 2, none⟩ u2).setCell ⟨w.heap.size, 3, none⟩ u3).setCell ⟨w.heap.size, 4, none⟩ u4).setCell ⟨w.heap.size, 5, none⟩ u5).alloc o).cell? ⟨w.heap.size, 0, none⟩ = some u0 ∧ (((((((W.setCell ⟨w.heap.size, 0, none⟩ u0).setCell ⟨w.heap.size, 1, none⟩ u1).setCell ⟨w.heap.size, 2, none⟩ u2).setCell ⟨w.heap.size, 3, none⟩ u3).setCell ⟨w.heap.size, 4, none⟩ u4).setCell ⟨w.heap.size, 5, none⟩ u5).alloc o).cell? ⟨w.heap.size, 1, none⟩ = some u1 ∧ (((((((W.setCell ⟨w.heap.size, 0, none⟩ u0).setCell ⟨w.heap.size, 1, none⟩ u1).setCell ⟨w.heap.size, 2, none⟩ u2).setCell ⟨w.heap.size, 3, none⟩ u3).setCell ⟨w.heap.size, 4, none⟩ u4).setCell ⟨w.heap.size, 5, none⟩ u5).alloc o).cell? ⟨w.heap.size, 2, none⟩ = some u2 ∧ (((((((W.setCell ⟨w.heap.size, 0, none⟩ u0).setCell ⟨w.heap.size, 1, none⟩ u1).setCell ⟨w.heap.size, 2, none⟩ u2).setCell ⟨w.heap.size, 3, none⟩ u3).setCell ⟨w.heap.size, 4, none⟩ u4).setCell ⟨w.heap.size, 5, none⟩ u5).alloc o).cell? ⟨w.heap.size, 3, none⟩ = some u3 ∧ (((((((W.setCell ⟨w.heap.size, 0, none⟩ u0).setCell ⟨w.heap.size, 1, none⟩ u1).setCell ⟨w.heap.size, 2, none⟩ u2).setCell ⟨w.heap.size, 3, none⟩ u3).setCell ⟨w.heap.size, 4, none⟩ u4).setCell ⟨w.heap.size, 5, none⟩ u5).alloc o).cell? ⟨w.heap.size, 4, none⟩ = some u4 ∧ (((((((W.setCell ⟨w.heap.size, 0, none⟩ u0).setCell ⟨w.heap.size, 1, none⟩ u1).setCell ⟨w.heap.size, 2, none⟩ u2).setCell ⟨w.heap.size, 3, none⟩ u3).setCell ⟨w.heap.size, 4, none⟩ u4).setCell ⟨w.heap.size, 5, none⟩ u5).alloc o).cell? ⟨w.heap.size, 5, none⟩ = some u5) ∧
    Hid (InSt (((((((W.setCell ⟨w.heap.size, 0, none⟩ u0).setCell ⟨w.heap.size, 1, none⟩ u1).setCell ⟨w.heap.size, 2, none⟩ u2).setCell ⟨w.heap.size, 3, none⟩ u3).setCell ⟨w.heap.size, 4, none⟩ u4).setCell ⟨w.heap.size, 5, none⟩ u5).alloc o) i s) ∧ Hid (w.grownBy (((((((W.setCell ⟨w.heap.size, 0, none⟩ u0).setCell ⟨w.heap.size, 1, none⟩ u1).setCell ⟨w.heap.size, 2, none⟩ u2).setCell ⟨w.heap.size, 3, none⟩ u3).setCell ⟨w.heap.size, 4, none⟩ u4).setCell ⟨w.heap.size, 5, none⟩ u5).alloc o) (some i)) ∧
    Hid (W.grownBy (((((((W.setCell ⟨w.heap.size, 0, none⟩ u0).setCell ⟨w.heap.size, 1, none⟩ u1).setCell ⟨w.heap.size, 2, none⟩ u2).setCell ⟨w.heap.size, 3, none⟩ u3).setCell ⟨w.heap.size, 4, none⟩ u4).setCell ⟨w.heap.size, 5, none⟩ u5).alloc o) (some w.heap.size)) := by
  obtain ⟨⟨a0, a1, a2, a3, a4, a5⟩, k1, k2, k3⟩ := h.fin u0 u1 u2 u3 u4 u5
  have hb := (Below.refl ((((((W.setCell ⟨w.heap.size, 0, none⟩ u0).setCell ⟨w.heap.size, 1, none⟩ u1).setCell ⟨w.heap.size, 2, none⟩ u2).setCell ⟨w.heap.size, 3, none⟩ u3).setCell ⟨w.heap.size, 4, none⟩ u4).setCell ⟨w.heap.size, 5, none⟩ u5).heap.size ((((((W.setCell ⟨w.heap.size, 0, none⟩ u0).setCell ⟨w.heap.size, 1, none⟩ u1).setCell ⟨w.heap.size, 2, none⟩ u2).setCell ⟨w.heap.size, 3, none⟩ u3).setCell ⟨w.heap.size, 4, none⟩ u4).setCell ⟨w.heap.size, 5, none⟩ u5)).alloc (Nat.le_refl _) o
  have c : ∀ (k : Nat) (u : Value), ((((((W.setCell ⟨w.heap.size, 0, none⟩ u0).setCell ⟨w.heap.size, 1, none⟩ u1).setCell ⟨w.heap.size, 2, none⟩ u2).setCell ⟨w.heap.size, 3, none⟩ u3).setCell ⟨w.heap.size, 4, none⟩ u4).setCell ⟨w.heap.size, 5, none⟩ u5).cell? ⟨w.heap.size, k, none⟩ = some u → (((((((W.setCell ⟨w.heap.size, 0, none⟩ u0).setCell ⟨w.heap.size, 1, none⟩ u1).setCell ⟨w.heap.size, 2, none⟩ u2).setCell ⟨w.heap.size, 3, none⟩ u3).setCell ⟨w.heap.size, 4, none⟩ u4).setCell ⟨w.heap.size, 5, none⟩ u5).alloc o).cell? ⟨w.heap.size, k, none⟩ = some u := fun k u hu => by
    rw [hb.cell (World.block_lt_of_cell? _ _ hu)]; exact hu
  exact ⟨⟨c _ _ a0, c _ _ a1, c _ _ a2, c _ _ a3, c _ _ a4, c _ _ a5⟩, Lib.hid (k1.out.kept hb), Lib.hid (grownBy_trans_new k2.out (grown_of_below hb _)), Lib.hid (grownBy_trans_new k3.out (grown_of_below hb _))⟩
end
/-- A call on an In gives a number with a delta; the In is in this state then, and nothing else has changed. -/
def TakesD (i : Nat) (b : Bool) (xs ds : List Nat) (b' : Bool) (ys es : List Nat) (s : Pk.St) (w : World) (e : Ending) (w' : World) : Prop :=
  ∃ a1 c1 a2 c2 a3 c3 a4 c4, e = .returned (.agg #[.bool b, .slice a1 xs.length c1, .slice a2 ds.length c2, .bool b', .slice a3 ys.length c3, .slice a4 es.length c4]) ∧
    Hid ((Lst w' w.heap.size a1 c1 xs ∧ Lst w' w.heap.size a2 c2 ds) ∧ Lst w' w.heap.size a3 c3 ys ∧ Lst w' w.heap.size a4 c4 es) ∧ Hid (InSt w' i s) ∧ Hid (w.grownBy w' (some i))
theorem Lst.mono {W : World} {r r' c : Nat} {a : Option Addr} {xs : List Nat} (h : Lst W r a c xs) (hr : r' ≤ r) : Lst W r' a c xs := ⟨h.reads, h.le, h.cap, fun j e => by have := h.new j e; omega⟩

set_option maxRecDepth 100000 in
set_option maxHeartbeats 4000000 in
theorem Delta_any {w : World} {i : Nat} {s : Pk.St} (h : InSt w i s) (hT : Tab w) (hsm : Pk.ratSm s) (hsm2 : Pk.ratSm (Pk.ratN s)) :
    Calls Tryd.prog 24 #[.pointer (some ⟨i, 0, none⟩)] w (TakesD i (Pk.delOK s && Pk.ratS s) (if Pk.delOK s then Pk.ratX s else []) (if Pk.delOK s then Pk.ratD s else []) (Pk.delOK s && Pk.ratS (Pk.ratN s)) (if Pk.delOK s then Pk.ratX (Pk.ratN s) else []) (if Pk.delOK s then Pk.ratD (Pk.ratN s) else []) (Pk.delN s) w) := by
  obtain ⟨W0, hW0⟩ : ∃ W0, W0 = (w.alloc (.cells #[.bool false, .slice none 0 0, .slice none 0 0, .bool false, .slice none 0 0, .slice none 0 0] 38)) := ⟨_, rfl⟩
  have HS := Lib.hid (DlAt.start h)
  rw [← hW0] at HS
  have HW0 := Lib.hid hW0
  have HSZ : Hid (W0.heap.size = w.heap.size + 1) := Lib.hid (by rw [hW0]; simp)
  have HTB := Lib.hid hT
  have HNB := Lib.hid h.no
  have HF := Lib.hid (Ratio_any HS.out.inn (HS.out.tab HTB.out HNB.out) hsm)
  have HSM2 := Lib.hid hsm2
  have hil := h.lt
  clear h hT hW0 hsm hsm2
  obtain ⟨f0, h0⟩ : ∃ f, f = (Pk.delOK s && Pk.ratS s) := ⟨_, rfl⟩
  obtain ⟨f1, h1⟩ : ∃ f, f = (if Pk.delOK s then Pk.ratX s else []) := ⟨_, rfl⟩
  obtain ⟨f2, h2⟩ : ∃ f, f = (if Pk.delOK s then Pk.ratD s else []) := ⟨_, rfl⟩
  obtain ⟨f3, h3⟩ : ∃ f, f = (Pk.delOK s && Pk.ratS (Pk.ratN s)) := ⟨_, rfl⟩
  obtain ⟨f4, h4⟩ : ∃ f, f = (if Pk.delOK s then Pk.ratX (Pk.ratN s) else []) := ⟨_, rfl⟩
  obtain ⟨f5, h5⟩ : ∃ f, f = (if Pk.delOK s then Pk.ratD (Pk.ratN s) else []) := ⟨_, rfl⟩
  rw [← h0, ← h1, ← h2, ← h3, ← h4, ← h5]
  unfold Pk.delOK Pk.delN at h0 h1 h2 h3 h4 h5
  unfold Pk.delN
  have HQ := Lib.hid (And.intro h0 (And.intro h1 (And.intro h2 (And.intro h3 (And.intro h4 h5)))))
  clear h0 h1 h2 h3 h4 h5
  generalize Pk.ratS s = b at *
  generalize Pk.ratX s = xs at *
  generalize Pk.ratD s = ds at *
  generalize Pk.ratN s = s1 at *
  go_enter Tryd.func24, Tryd.ntmps24
  go_wp2_with fail
  rw [← HW0.out]
  refine HF.out.mono ?_
  rintro e w1 ⟨a1, c1, a2, c2, rfl, M, G1, G2⟩
  have HS1 := Lib.hid (HS.out.move G1.out G2.out)
  have HM1 : Hid (Lst w1 (w.heap.size + 1) a1 c1 xs ∧ Lst w1 (w.heap.size + 1) a2 c2 ds) := Lib.hid (by
    have hz := HSZ.out
    exact ⟨M.out.1.mono (by omega), M.out.2.mono (by omega)⟩)
  have HF2 := Lib.hid (Ratio_any HS1.out.inn (HS1.out.tab HTB.out HNB.out) HSM2.out)
  clear HF HS M G1 G2
  generalize Pk.ratS s1 = b' at *
  generalize Pk.ratX s1 = ys at *
  generalize Pk.ratD s1 = es at *
  generalize Pk.ratN s1 = s2 at *
  go_wp2_with fail
  refine HF2.out.mono ?_
  rintro e w2 ⟨a3, c3, a4, c4, rfl, M, G1, G2⟩
  have HS2 := Lib.hid (HS1.out.move G1.out G2.out)
  have HM2 : Hid ((Lst w2 w.heap.size a1 c1 xs ∧ Lst w2 w.heap.size a2 c2 ds) ∧ Lst w2 w.heap.size a3 c3 ys ∧ Lst w2 w.heap.size a4 c4 es) := Lib.hid (by
    have hz := HSZ.out
    have h1 := HS1.out.lt
    have h2 := (Array.getElem?_eq_some_iff.1 HS1.out.b2).1
    exact ⟨⟨(HM1.out.1.past G2.out (by omega)).mono (by omega), (HM1.out.2.past G2.out (by omega)).mono (by omega)⟩, M.out.1.mono (by omega), M.out.2.mono (by omega)⟩)
  clear HF2 HS1 HM1 M G1 G2 HSM2
  obtain ⟨ai, ci, hI⟩ := HS2.out.inn
  obtain ⟨i0, i1, j0, j1, j2⟩ := cellsTwo hI.blk
  have h2 := (Array.getElem?_eq_some_iff.1 HS2.out.b2).1
  clear hI
  obtain ⟨r0, r1, r2, r3, r4, r5, t0, t1, t2, t3, t4, t5⟩ := cells6 HS2.out.b2
  cases s2
  case none =>
    obtain ⟨rfl, rfl, rfl, rfl, rfl, rfl⟩ : f0 = false ∧ f1 = [] ∧ f2 = [] ∧ f3 = false ∧ f4 = [] ∧ f5 = [] := HQ.out
    have HFI := Lib.hid (HS2.out.finA (.bool false) (.slice none 0 0) (.slice none 0 0) (.bool false) (.slice none 0 0) (.slice none 0 0) (.cells #[.bool b, .slice a1 xs.length c1, .slice a2 ds.length c2, .bool b', .slice a3 ys.length c3, .slice a4 es.length c4] 38))
    clear HS2 HM2
    go_wp2_with fail
    obtain ⟨⟨r0, r1, r2, r3, r4, r5⟩, k1, k2, _⟩ := HFI.out
    refine bodyPost_ret (v := .agg #[.bool false, .slice none 0 0, .slice none 0 0, .bool false, .slice none 0 0, .slice none 0 0]) ?_ rfl ?_
    · simp [results, Tryd.results24, go_sem, r0, r1, r2, r3, r4, r5]
    · exact ⟨none, 0, none, 0, none, 0, none, 0, rfl, Lib.hid ⟨⟨.nil _ _, .nil _ _⟩, .nil _ _, .nil _ _⟩, k1, k2⟩
  case some r =>
    obtain ⟨e0, e1, e2, e3, e4, e5⟩ : f0 = b ∧ f1 = xs ∧ f2 = ds ∧ f3 = b' ∧ f4 = ys ∧ f5 = es := HQ.out
    subst e0 e1 e2 e3 e4 e5
    clear HQ
    have HFI := Lib.hid (HS2.out.finA (.bool f0) (.slice a1 f1.length c1) (.slice a2 f2.length c2) (.bool f3) (.slice a3 f4.length c3) (.slice a4 f5.length c4) (.cells #[.bool f0, .slice a1 f1.length c1, .slice a2 f2.length c2, .bool f3, .slice a3 f4.length c3, .slice a4 f5.length c4] 38))
    clear HS2
    go_wp2_with fail
    obtain ⟨⟨r0, r1, r2, r3, r4, r5⟩, k1, k2, k3⟩ := HFI.out
    refine bodyPost_ret (v := .agg #[.bool f0, .slice a1 f1.length c1, .slice a2 f2.length c2, .bool f3, .slice a3 f4.length c3, .slice a4 f5.length c4]) ?_ rfl ?_
    · simp [results, Tryd.results24, go_sem, r0, r1, r2, r3, r4, r5]
    · exact ⟨a1, c1, a2, c2, a3, c3, a4, c4, rfl, Lib.hid ⟨⟨HM2.out.1.1.past k3.out (Nat.le_refl _), HM2.out.1.2.past k3.out (Nat.le_refl _)⟩, HM2.out.2.1.past k3.out (Nat.le_refl _), HM2.out.2.2.past k3.out (Nat.le_refl _)⟩, k1, k2⟩
end Go.Proofs.YtodedlnpokagfaaDoor

