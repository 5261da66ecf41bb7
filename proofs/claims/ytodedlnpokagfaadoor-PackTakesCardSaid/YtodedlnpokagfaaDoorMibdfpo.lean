/- By program out of: RatQ, RatThr, PkFrom, PkAdd, PkNum, PkOut, PkPut, RefOps, RatWh, RatAdd, RatMul, RatDiv, RatOps, RefCmp, PkRef. -/
import Derived.Test.YtodedlnpokagfaaDoorMmpkpni
import Derived.Test.YtodedlnpokagfaaDoorMkehdel
import Derived.Test.YtodedlnpokagfaaDoorMcdobkk
import Derived.Deep.RegionHeld3
import Derived.StillTailTactics
import Derived.Test.YtodedlnpokagfaaDoorMpclknn
import Derived.Test.YtodedlnpokagfaaDoorMdnomnp
/-
  Ratios in memory, said of rational numbers: what a bench lets one be, what is handed in.
-/
set_option linter.unusedVariables false
set_option linter.unusedSimpArgs false
namespace Go.Proofs.YtodedlnpokagfaaDoor
open Go.RowKit Rep

/-- What a bench for m limbs lets a rational number be. -/
def ovQ (m : Nat) (q : Rat) : Bool := rO m (mgQ q) q.den
def outQ (m : Nat) (q : Rat) : Rat := if ovQ m q = true then 0 else q
theorem denN_idem (d : Nat) : denN (denN d) = denN d := by
  unfold denN
  by_cases h : d = 1
  · simp [h]
  · simp [h]
theorem den0 : (0 : Rat).den = 1 := rfl

/-- At the two slices lies q, in its one form. -/
structure AtQ (w : World) (a1 : Option Addr) (c1 : Nat) (a2 : Option Addr) (c2 : Nat) (q : Rat) : Prop where
  num : NumAt w a1 c1 (mgQ q)
  den : NumAt w a2 c2 (denN q.den)
theorem AtQ.kept {w w' : World} {a1 : Option Addr} {c1 : Nat} {a2 : Option Addr} {c2 : Nat} {q : Rat} (h : AtQ w a1 c1 a2 c2 q) (hb : Below w.heap.size w w') : AtQ w' a1 c1 a2 c2 q := ⟨h.num.kept hb, h.den.kept hb⟩
theorem AtQ.bench {w w' : World} {b m : Nat} {o : Bool} {a1 : Option Addr} {c1 : Nat} {a2 : Option Addr} {c2 : Nat} {q : Rat} (h : AtQ w a1 c1 a2 c2 q) (hb : Bench w b m o) (hg : w.grownBy w' (some b)) : AtQ w' a1 c1 a2 c2 q := ⟨h.num.bench hb hg, h.den.bench hb hg⟩
theorem AtQ.zero (w : World) : AtQ w none 0 none 0 0 := ⟨NumAt.zero w, NumAt.zero w⟩
/-- A ratio's value. -/
abbrev qV (q : Rat) (a1 : Option Addr) (c1 : Nat) (a2 : Option Addr) (c2 : Nat) : Value := ratV (ngQ q) (.slice a1 (L (mgQ q)).length c1) (.slice a2 (L (denN q.den)).length c2)
/-- A call gives what a bench lets q be, on a bench that wasn't over. -/
def GivesQ (b m : Nat) (q : Rat) (w : World) (e : Ending) (w' : World) : Prop :=
  ∃ a1 c1 a2 c2, e = .returned (qV (outQ m q) a1 c1 a2 c2) ∧ AtQ w' a1 c1 a2 c2 (outQ m q) ∧ Bench w' b m (ovQ m q) ∧ w.grownBy w' (some b)
/-- A call gives q, in new memory. -/
def NewQ (q : Rat) (w : World) (e : Ending) (w' : World) : Prop :=
  ∃ a1 c1 a2 c2, e = .returned (qV q a1 c1 a2 c2) ∧ AtQ w' a1 c1 a2 c2 q ∧ Below w.heap.size w w'

theorem GivesR.q {b m n d : Nat} {s : Bool} {q : Rat} {w w' : World} {e : Ending} (h : GivesR b m s n d w e w') (h1 : mgQ q = n) (h2 : denN q.den = denN d) (h3 : n ≠ 0 → ngQ q = s) : GivesQ b m q w e w' := by
  obtain ⟨a1, c1, a2, c2, rfl, n1, n2, hb, hg⟩ := h
  subst h1
  have ho : rO m (mgQ q) d = ovQ m q := by unfold ovQ rO; rw [h2]
  have key : ngQ (outQ m q) = rS m s (mgQ q) d ∧ mgQ (outQ m q) = rN m (mgQ q) d ∧ denN (outQ m q).den = rD m (mgQ q) d := by
    unfold outQ rS rN rD
    rw [ho]
    by_cases h : ovQ m q = true
    · simp [h, ng_zero, mg_of_zero, den0, denN]
    · by_cases hz : mgQ q = 0
      · have hq := mg_zero.1 hz
        subst hq
        simp [ng_zero, mg_of_zero, den0, denN]
      · simp [h, hz, h2, h3 hz]
  obtain ⟨k1, k2, k3⟩ := key
  refine ⟨a1, c1, a2, c2, ?_, ⟨?_, ?_⟩, ?_, hg⟩
  · unfold qV; rw [k1, k2, k3]
  · rw [k2]; exact n1
  · rw [k3]; exact n2
  · rw [← ho]; exact hb

/-- A ratio that is handed to a call: a sign, two rows of limbs; it tells q (its den may be 1 with a limb, 0 may have a sign). -/
structure RatX (w : World) (s : Bool) (a1 : Option Addr) (l1 c1 : Nat) (a2 : Option Addr) (l2 c2 : Nat) (n d d0 : Nat) (q : Rat) : Prop where
  num : NumE w a1 l1 c1 n
  den : NumE w a2 l2 c2 d0
  thr : d = if l2 = 0 then 1 else d0
  pos : 0 < d
  cop : Nat.gcd n d = 1
  is : mkQ s n d = q
  s1 : l1 ≤ 10000
  s2 : l2 ≤ 10000
theorem RatX.kept {w w' : World} {s : Bool} {a1 : Option Addr} {l1 c1 : Nat} {a2 : Option Addr} {l2 c2 : Nat} {n d d0 : Nat} {q : Rat} (h : RatX w s a1 l1 c1 a2 l2 c2 n d d0 q) (hb : Below w.heap.size w w') : RatX w' s a1 l1 c1 a2 l2 c2 n d d0 q :=
  ⟨h.num.kept hb, h.den.kept hb, h.thr, h.pos, h.cop, h.is, h.s1, h.s2⟩
theorem RatX.bench {w w' : World} {b m : Nat} {o : Bool} {s : Bool} {a1 : Option Addr} {l1 c1 : Nat} {a2 : Option Addr} {l2 c2 : Nat} {n d d0 : Nat} {q : Rat} (h : RatX w s a1 l1 c1 a2 l2 c2 n d d0 q) (hb : Bench w b m o) (hg : w.grownBy w' (some b)) : RatX w' s a1 l1 c1 a2 l2 c2 n d d0 q :=
  ⟨h.num.bench hb hg, h.den.bench hb hg, h.thr, h.pos, h.cop, h.is, h.s1, h.s2⟩
theorem RatX.neg {w : World} {s : Bool} {a1 : Option Addr} {l1 c1 : Nat} {a2 : Option Addr} {l2 c2 : Nat} {n d d0 : Nat} {q : Rat} (h : RatX w s a1 l1 c1 a2 l2 c2 n d d0 q) : RatX w (!s) a1 l1 c1 a2 l2 c2 n d d0 (-q) :=
  ⟨h.num, h.den, h.thr, h.pos, h.cop, by rw [mkQ_neg, h.is], h.s1, h.s2⟩
theorem denN_len {d : Nat} (hd : 0 < d) : d = if (L (denN d)).length = 0 then 1 else denN d := by
  simp only [L_len_zero]
  unfold denN
  by_cases h : d = 1
  · simp [h]
  · simp [h]; omega
/-- How many limbs q has. -/
def szQ (q : Rat) : Nat := max (L (mgQ q)).length (L (denN q.den)).length
theorem AtQ.x {w : World} {a1 : Option Addr} {c1 : Nat} {a2 : Option Addr} {c2 : Nat} {q : Rat} (h : AtQ w a1 c1 a2 c2 q) (hs : szQ q ≤ 10000) : RatX w (ngQ q) a1 (L (mgQ q)).length c1 a2 (L (denN q.den)).length c2 (mgQ q) q.den (denN q.den) q := by
  unfold szQ at hs
  exact ⟨NumE.of h.num (by omega), NumE.of h.den (by omega), denN_len (den_pos q), den_pos q, copr q, mkQ_self q, by omega, by omega⟩
theorem szQ_zero : szQ 0 = 0 := rfl

/-! The document's -/
/-- At the two slices lie q's digits. -/
structure DgQ (w : World) (a1 : Option Addr) (c1 : Nat) (a2 : Option Addr) (c2 : Nat) (q : Rat) : Prop where
  num : DAt w a1 c1 (mgQ q)
  den : DAt w a2 c2 q.den
theorem DgQ.kept {w w' : World} {a1 : Option Addr} {c1 : Nat} {a2 : Option Addr} {c2 : Nat} {q : Rat} (h : DgQ w a1 c1 a2 c2 q) (hb : Below w.heap.size w w') : DgQ w' a1 c1 a2 c2 q := ⟨h.num.kept hb, h.den.kept hb⟩
abbrev dV (q : Rat) (a1 : Option Addr) (c1 : Nat) (a2 : Option Addr) (c2 : Nat) : Value := ratV (ngQ q) (.slice a1 (D (mgQ q)).length c1) (.slice a2 (D q.den).length c2)
/-- A call gives q's digits, in new memory. -/
def GivesDQ (q : Rat) (w : World) (e : Ending) (w' : World) : Prop :=
  ∃ a1 c1 a2 c2, e = .returned (dV q a1 c1 a2 c2) ∧ DgQ w' a1 c1 a2 c2 q ∧ Below w.heap.size w w'
theorem GivesDR.q {s : Bool} {n d : Nat} {q : Rat} {w w' : World} {e : Ending} (h : GivesDR s n d w e w') (h1 : ngQ q = s) (h2 : mgQ q = n) (h3 : q.den = d) : GivesDQ q w e w' := by
  subst h1 h2 h3
  obtain ⟨a1, c1, a2, c2, rfl, d1, d2, hb⟩ := h
  exact ⟨a1, c1, a2, c2, rfl, ⟨d1, d2⟩, hb⟩
theorem Low_q {s : Bool} {a1 a2 : Option Addr} {c1 c2 n d : Nat} {w : World} (h1 : DAt w a1 c1 n) (h2 : DAt w a2 c2 d) (hd : 0 < d) (l1 : (D n).length ≤ 1000000) (l2 : (D d).length ≤ 1000000) :
    Calls Tryd.prog 54 #[ratV s (.slice a1 (D n).length c1) (.slice a2 (D d).length c2)] w (GivesDQ (mkQ s n d) w) :=
  (Low_any s a1 a2 c1 c2 n d w h1 h2 hd l1 l2).mono fun e w' h => h.q (mkQ_ng s n hd) (mkQ_mg s n hd) (mkQ_den s n hd)
theorem Int0_q (w : World) : Calls Tryd.prog 62 #[.int .i64 0] w (GivesDQ 0 w) :=
  (Int0_any w).mono fun e w' h => h.q rfl rfl rfl
theorem Of_q {s : Bool} {a1 : Option Addr} {l1 c1 : Nat} {a2 : Option Addr} {l2 c2 : Nat} {n d d0 : Nat} {q : Rat} {w : World} (h : RatX w s a1 l1 c1 a2 l2 c2 n d d0 q) (hs : ngQ q = s) (h0 : l2 ≠ 0 → d0 ≠ 0) :
    Calls Tryd.prog 49 #[ratV s (.slice a1 l1 c1) (.slice a2 l2 c2)] w (GivesDQ q w) := by
  have k1 := h.s1
  have k2 := h.s2
  refine (Of_any s a1 a2 l1 c1 l2 c2 n d0 w h.num h.den (by omega) (by omega)).mono fun e w' hg => ?_
  obtain ⟨m1, m2⟩ := mkQ_cop s h.pos h.cop
  rw [h.is] at m1 m2
  refine hg.q hs m1 ?_
  rw [m2, h.thr]
  by_cases hl : l2 = 0
  · have hz : d0 = 0 := by
      have := h.den.lenL
      rw [hl] at this
      exact L_len_zero.1 (by omega)
    rw [if_pos hl, if_pos hz]
  · rw [if_neg hl, if_neg (h0 hl)]
theorem AtQ.ofD {w : World} {a1 : Option Addr} {c1 : Nat} {a2 : Option Addr} {c2 : Nat} {q : Rat} (h : AtQ w a1 c1 a2 c2 q) (hs : szQ q ≤ 10000) :
    Calls Tryd.prog 49 #[qV q a1 c1 a2 c2] w (GivesDQ q w) :=
  Of_q (h.x hs) rfl (fun hl => by rw [Ne, L_len_zero] at hl; exact hl)
/-- The one form, of digits. -/
theorem Form_q {w : World} {s : Bool} {a1 a2 : Option Addr} {c1 c2 n d : Nat} (h1 : DAt w a1 c1 n) (h2 : DAt w a2 c2 d) (hd : 0 < d) (l1 : (D n).length ≤ 1000000) (l2 : (D d).length ≤ 1000000) :
    Calls Tryd.prog 48 #[ratV s (.slice a1 (D n).length c1) (.slice a2 (D d).length c2)] w (NewQ (mkQ s n d) w) := by
  refine (Form_any s a1 a2 c1 c2 n d w h1 h2 hd l1 l2).mono ?_
  rintro e w' ⟨b1, k1, b2, k2, rfl, m1, m2, hb⟩
  refine ⟨b1, k1, b2, k2, ?_, ⟨?_, ?_⟩, hb⟩
  · unfold qV; rw [mkQ_ng s n hd, mkQ_mg s n hd, mkQ_den s n hd]
  · rw [mkQ_mg s n hd]; exact m1
  · rw [mkQ_den s n hd]; exact m2
theorem DgQ.form {w : World} {a1 : Option Addr} {c1 : Nat} {a2 : Option Addr} {c2 : Nat} {q : Rat} (h : DgQ w a1 c1 a2 c2 q) (l1 : (D (mgQ q)).length ≤ 1000000) (l2 : (D q.den).length ≤ 1000000) :
    Calls Tryd.prog 48 #[dV q a1 c1 a2 c2] w (NewQ q w) := by
  have := Form_q (s := ngQ q) h.num h.den (den_pos q) l1 l2
  rwa [mkQ_self] at this
end Go.Proofs.YtodedlnpokagfaaDoor


/-
  ratio.through; the document's Mul, of ratios.
-/
set_option linter.unusedVariables false
set_option linter.unusedSimpArgs false
namespace Go.Proofs.YtodedlnpokagfaaDoor
open Go.RowKit Rep

/-- Digits, and what lay below. -/
def PostD (W0 W : World) (n : Nat) (e : Ending) (w' : World) : Prop := ∃ a c, e = .returned (.slice a (D n).length c) ∧ DAt w' a c n ∧ Below W0.heap.size W0 w' ∧ Below W.heap.size W w'
theorem D_mul {n m a b : Nat} (h1 : (D n).length ≤ a) (h2 : (D m).length ≤ b) : (D (n * m)).length ≤ a + b := by
  rw [D_len] at *
  rw [Nat.pow_add]
  exact Nat.mul_lt_mul'' h1 h2
theorem low_from {W0 : World} {s : Bool} {n d : Nat} (hd : 0 < d) (l1 : (D n).length ≤ 1000000) (l2 : (D d).length ≤ 1000000) (a1 : Option Addr) (c1 : Nat) (a2 : Option Addr) (c2 : Nat) (W : World) (h : Below W0.heap.size W0 W) (h1 : DAt W a1 c1 n) (h2 : DAt W a2 c2 d) :
    Calls Tryd.prog 54 #[ratV s (.slice a1 (D n).length c1) (.slice a2 (D d).length c2)] W fun e w' => ∃ a3 c3 a4 c4, e = .returned (dV (mkQ s n d) a3 c3 a4 c4) ∧ DgQ w' a3 c3 a4 c4 (mkQ s n d) ∧ Below W0.heap.size W0 w' := by
  refine (Low_q h1 h2 hd l1 l2).mono ?_
  rintro e w' ⟨a3, c3, a4, c4, rfl, hq, hb⟩
  exact ⟨a3, c3, a4, c4, rfl, hq, h.trans (hb.mono h.size)⟩

theorem below_drew (W : World) : Below W.heap.size W W.drew := ⟨rfl, rfl, rfl, Nat.le_refl _, fun _ _ => rfl⟩
/-- A block of three cells stays. -/
theorem keep3 {W0 : World} {r1 : Nat} {v0 v1 v2 : Value} {t : TypeId} (h1 : W0.heap[r1]? = some (.cells #[v0, v1, v2] t (0, 0))) (W : World) (h : Below W0.heap.size W0 W) :
    W.cell? ⟨r1, 0, none⟩ = some v0 ∧ W.cell? ⟨r1, 1, none⟩ = some v1 ∧ W.cell? ⟨r1, 2, none⟩ = some v2 ∧ W.frozen? ⟨r1, 0, none⟩ = false ∧ W.frozen? ⟨r1, 1, none⟩ = false ∧ W.frozen? ⟨r1, 2, none⟩ = false :=
  cells3 ((h.block _ (Array.getElem?_eq_some_iff.1 h1).1).trans h1)
/-- A result of digits is written into its block. -/
theorem fin_D {w W0 : World} {r : Nat} {q : Rat} {t : TypeId} (hB0 : Below w.heap.size w W0) (hr : w.heap.size ≤ r) (b3 : W0.heap[r]? = some (.cells #[.bool false, .slice none 0 0, .slice none 0 0] t (0, 0))) (W : World) (a7 : Option Addr) (c7 : Nat) (a8 : Option Addr) (c8 : Nat) (hd : DgQ W a7 c7 a8 c8 q) (hb : Below W0.heap.size W0 W) :
    GivesDQ q w (.returned (dV q a7 c7 a8 c8)) (set3 W r (ngQ q) (.slice a7 (D (mgQ q)).length c7) (.slice a8 (D q.den).length c8)) := by
  have hb' : W.heap[r]? = some (.cells #[.bool false, .slice none 0 0, .slice none 0 0] t (0, 0)) := (hb.block _ (Array.getElem?_eq_some_iff.1 b3).1).trans b3
  exact ⟨a7, c7, a8, c8, rfl, ⟨hd.num.set3 hb' _ _ _, hd.den.set3 hb' _ _ _⟩, set3_below (hB0.trans (hb.mono hB0.size)) hr⟩
/-- Two blocks of three cells stay. -/
theorem keep6 {W0 : World} {r1 r2 : Nat} {v0 v1 v2 u0 u1 u2 : Value} {t t' : TypeId} (h1 : W0.heap[r1]? = some (.cells #[v0, v1, v2] t (0, 0))) (h2 : W0.heap[r2]? = some (.cells #[u0, u1, u2] t' (0, 0))) (W : World) (h : Below W0.heap.size W0 W) :
    W.cell? ⟨r1, 0, none⟩ = some v0 ∧ W.cell? ⟨r1, 1, none⟩ = some v1 ∧ W.cell? ⟨r1, 2, none⟩ = some v2 ∧ W.cell? ⟨r2, 0, none⟩ = some u0 ∧ W.cell? ⟨r2, 1, none⟩ = some u1 ∧ W.cell? ⟨r2, 2, none⟩ = some u2 := by
  obtain ⟨a, b, c, _⟩ := cells3 ((h.block _ (Array.getElem?_eq_some_iff.1 h1).1).trans h1)
  obtain ⟨d, e, f, _⟩ := cells3 ((h.block _ (Array.getElem?_eq_some_iff.1 h2).1).trans h2)
  exact ⟨a, b, c, d, e, f⟩
/-- Three new blocks. -/
theorem boxes3 (w : World) (v1 v2 v3 : Array Value) (t1 t2 t3 : TypeId) : ∃ W0, W0 = ((w.alloc (.cells v1 t1)).alloc (.cells v2 t2)).alloc (.cells v3 t3) ∧ Below w.heap.size w W0 ∧
    W0.heap[w.heap.size]? = some (.cells v1 t1 (0, 0)) ∧ W0.heap[w.heap.size + 1]? = some (.cells v2 t2 (0, 0)) ∧ W0.heap[w.heap.size + 1 + 1]? = some (.cells v3 t3 (0, 0)) ∧ W0.heap.size = w.heap.size + 1 + 1 + 1 := by
  refine ⟨_, rfl, (((Below.refl _ _).alloc (Nat.le_refl _) _).alloc (by simp) _).alloc (by simp; omega) _, ?_, ?_, ?_, by simp⟩
  · rw [Below.heap_alloc _ _ _ (by simp; omega), Below.heap_alloc _ _ _ (by simp)]; exact heap_alloc_new w _
  · rw [Below.heap_alloc _ _ _ (by simp)]; simpa using heap_alloc_new (w.alloc (.cells v1 t1)) (.cells v2 t2)
  · simpa using heap_alloc_new ((w.alloc (.cells v1 t1)).alloc (.cells v2 t2)) (.cells v3 t3)

end Go.Proofs.YtodedlnpokagfaaDoor


/-
  Layer 4: From; what an Out is in memory; Done.
-/
set_option linter.unusedVariables false
set_option linter.unusedSimpArgs false
namespace Go.Proofs.YtodedlnpokagfaaDoor
open Go.RowKit Rep

theorem cloneB_any {a : Option Addr} {c : Nat} {bs : List Nat} (w : World) (hr : Reads w a (bs.map u8v)) (hl : bs.length ≤ 140737488355328) :
    Calls Tryd.prog 14 #[.slice a bs.length c] w (GivesOwnB bs w) := by
  rcases a with _ | p
  · rcases hr with hr | ⟨_, _, hr, _⟩
    · have : bs = [] := by simpa using hr
      subst this
      exact cloneB_nil _ _
    · cases hr
  · exact cloneB_some p bs c w hr hl
/-- A new In. -/
theorem OwnR.inn {w W : World} {a : Option Addr} {c : Nat} {bs : List Nat} (h : OwnR 5 u8v w.heap.size W a c bs) (hb : Below w.heap.size w W) (hB : Pk.Byt bs) (hl : bs.length ≤ 140737488355328) :
    InSt (W.alloc (.cells #[.slice a bs.length c, .bool false] 56)) W.heap.size (some bs) := by
  have hb2 := (Below.refl W.heap.size W).alloc (Nat.le_refl _) (.cells #[.slice a bs.length c, .bool false] 56)
  refine ⟨a, c, heap_alloc_new W _, ⟨h.reads.kept hb2, hB, h.le, by have := h.1; unfold maxLen at this; omega, hl⟩, ?_⟩
  obtain ⟨_, ⟨rfl, rfl, rfl⟩ | ⟨g, rfl, hg, hr⟩⟩ := h
  · exact .inl rfl
  · exact .inr ⟨g, 0, rfl, hr.lt⟩
def GivesIn (bs : List Nat) (w : World) (e : Ending) (w' : World) : Prop := ∃ i, e = .returned (.pointer (some ⟨i, 0, none⟩)) ∧ Hid (InSt w' i (some bs)) ∧ Hid (w.heap.size ≤ i) ∧ Hid (Below w.heap.size w w')

set_option maxRecDepth 100000 in
set_option maxHeartbeats 400000 in
theorem From_any {a : Option Addr} {c : Nat} {bs : List Nat} {w : World} (hr : Reads w a (bs.map u8v)) (hB : Pk.Byt bs) (hl : bs.length ≤ 140737488355328) :
    Calls Tryd.prog 6 #[.slice a bs.length c] w (GivesIn bs w) := by
  have HC := Lib.hid (cloneB_any (c := c) w hr hl)
  have HB := Lib.hid hB
  clear hr hB
  go_enter Tryd.func6, Tryd.ntmps6
  go_wp2_with fail
  refine HC.out.mono ?_
  rintro e w1 ⟨a1, c1, rfl, h1, h2⟩
  have HI := Lib.hid (h1.inn h2 HB.out hl)
  have HE := Lib.hid (h2.trans (((Below.refl w1.heap.size w1).alloc (Nat.le_refl _) (.cells #[.slice a1 bs.length c1, .bool false] 56)).mono h2.size))
  have HS := Lib.hid h2.size
  clear h1 h2 HC HB
  go_wp2_with fail
  go_ret
  exact ⟨_, rfl, Lib.hid HI.out, Lib.hid HS.out, Lib.hid HE.out⟩

/-! ### Out -/
/-- Block o is an Out of these bytes: its room in block r, its row at a. -/
structure OutAt (w : World) (o r : Nat) (a : Option Addr) (c : Nat) (bs : List Nat) : Prop where
  ob : w.heap[o]? = some (.cells #[.pointer (some ⟨r, 0, none⟩), .int .i64 (bs.length : Int)] 50 (0, 0))
  room : w.heap[r]? = some (.cells #[.slice a bs.length c] 22 (0, 0))
  own : OwnR 5 u8v 0 w a c bs
/-- .. all in blocks of S. -/
def OutSt (w : World) (o : Nat) (S : Nat → Prop) (bs : List Nat) : Prop :=
  S o ∧ ((bs = [] ∧ w.heap[o]? = some (.cells #[.pointer none, .int .i64 0] 50 (0, 0))) ∨ ∃ r a c, OutAt w o r a c bs ∧ S r ∧ ∀ k, blk a = some k → S k)
/-- Of what was there only blocks of S have changed. -/
structure Chg (S : Nat → Prop) (w w' : World) : Prop where
  os : w'.os = w.os
  tape : w'.tape = w.tape
  output : w'.output = w.output
  size : w.heap.size ≤ w'.heap.size
  block : ∀ k, k < w.heap.size → ¬ S k → w'.heap[k]? = w.heap[k]?
/-- S, and what is new. -/
def Plus (S : Nat → Prop) (w w' : World) (k : Nat) : Prop := S k ∨ (w.heap.size ≤ k ∧ k < w'.heap.size)
section
variable {w w1 w2 : World} {S : Nat → Prop} {o : Nat} {bs : List Nat}
theorem Chg.refl (S : Nat → Prop) (w : World) : Chg S w w := ⟨rfl, rfl, rfl, Nat.le_refl _, fun _ _ _ => rfl⟩
theorem Chg.of_below (h : Below w.heap.size w w1) : Chg S w w1 := ⟨h.os, h.tape, h.output, h.size, fun k hk _ => h.block k hk⟩
theorem Chg.of_grown {g : Nat} (h : w.grownBy w1 (some g)) (hg : S g) : Chg S w w1 := ⟨h.os, h.tape, h.output, h.size, fun k hk hS => h.block k hk (fun e => by cases e; exact hS hg)⟩
theorem Chg.trans (h : Chg S w w1) (k : Chg (Plus S w w1) w1 w2) : Chg S w w2 :=
  ⟨k.os.trans h.os, k.tape.trans h.tape, k.output.trans h.output, Nat.le_trans h.size k.size, fun j hj hS => (k.block j (Nat.lt_of_lt_of_le hj h.size) (fun e => by rcases e with e | e; exact hS e; omega)).trans (h.block j hj hS)⟩
theorem Chg.trans' (h : Chg S w w1) (k : Chg S w1 w2) : Chg S w w2 :=
  ⟨k.os.trans h.os, k.tape.trans h.tape, k.output.trans h.output, Nat.le_trans h.size k.size, fun j hj hS => (k.block j (Nat.lt_of_lt_of_le hj h.size) hS).trans (h.block j hj hS)⟩
theorem OutSt.mono {S' : Nat → Prop} (h : OutSt w o S bs) (hS : ∀ k, S k → S' k) : OutSt w o S' bs := by
  obtain ⟨h1, h2 | ⟨r, a, c, h2, h3, h4⟩⟩ := h
  · exact ⟨hS _ h1, .inl h2⟩
  · exact ⟨hS _ h1, .inr ⟨r, a, c, h2, hS _ h3, fun k hk => hS _ (h4 k hk)⟩⟩
/-- What another one does changes nothing. -/
theorem OutSt.past (h : OutSt w o S bs) (hb : ∀ k, S k → w1.heap[k]? = w.heap[k]?) : OutSt w1 o S bs := by
  obtain ⟨h1, ⟨h2, h3⟩ | ⟨r, a, c, h2, h3, h4⟩⟩ := h
  · exact ⟨h1, .inl ⟨h2, (hb _ h1).trans h3⟩⟩
  · refine ⟨h1, .inr ⟨r, a, c, ⟨(hb _ h1).trans h2.ob, (hb _ h3).trans h2.room, ?_⟩, h3, h4⟩⟩
    obtain ⟨q1, q2 | ⟨g, rfl, hg, hr⟩⟩ := h2.own
    · exact ⟨q1, .inl q2⟩
    · exact ⟨q1, .inr ⟨g, rfl, hg, hr.of_block (hb _ (h4 g rfl))⟩⟩
theorem OutSt.kept (h : OutSt w o S bs) (hb : Below w.heap.size w w1) : OutSt w1 o S bs := by
  obtain ⟨h1, ⟨h2, h3⟩ | ⟨r, a, c, h2, h3, h4⟩⟩ := h
  · exact ⟨h1, .inl ⟨h2, (hb.block _ (Array.getElem?_eq_some_iff.1 h3).1).trans h3⟩⟩
  · exact ⟨h1, .inr ⟨r, a, c, ⟨(hb.block _ (Array.getElem?_eq_some_iff.1 h2.ob).1).trans h2.ob, (hb.block _ (Array.getElem?_eq_some_iff.1 h2.room).1).trans h2.room, h2.own.kept hb⟩, h3, h4⟩⟩
end
set_option maxRecDepth 100000 in
set_option maxHeartbeats 1600000 in
theorem ODone_any {w : World} {o : Nat} {S : Nat → Prop} {bs : List Nat} (h : OutSt w o S bs) (hl : bs.length ≤ 140737488355328) : Calls Tryd.prog 12 #[.pointer (some ⟨o, 0, none⟩)] w (GivesOwnB bs w) := by
  obtain ⟨h1, ⟨rfl, h3⟩ | ⟨r, a, c, h2, h3, h4⟩⟩ := h
  · obtain ⟨c0, c1, f0, f1, hlt⟩ := cellsTwo h3
    clear h1 h3
    go_enter Tryd.func12, Tryd.ntmps12
    go_wp2_with fail
    go_ret
    exact ⟨none, 0, rfl, OwnR.nil _ _ _ _, Below.refl _ _⟩
  · obtain ⟨c0, c1, f0, f1, hlt⟩ := cellsTwo h2.ob
    have d0 : w.cell? ⟨r, 0, none⟩ = some (.slice a bs.length c) := by simp [World.cell?, h2.room]
    have hlr := (Array.getElem?_eq_some_iff.1 h2.room).1
    have hle := h2.own.le
    have hcm := h2.own.1
    unfold maxLen at hcm
    have HC : Hid (Calls Tryd.prog 14 #[.slice a bs.length c] w.drew (GivesOwnB bs w.drew)) := Lib.hid (cloneB_any (c := c) w.drew (h2.own.reads.kept (below_drew w)) hl)
    have HKP : Hid (∀ W, Below w.drew.heap.size w.drew W → W.cell? ⟨o, 0, none⟩ = some (.pointer (some ⟨r, 0, none⟩)) ∧ W.cell? ⟨o, 1, none⟩ = some (.int .i64 (bs.length : Int)) ∧ W.cell? ⟨r, 0, none⟩ = some (.slice a bs.length c)) := Lib.hid fun W hb => by
      have hbb : Below w.heap.size w W := (below_drew w).trans hb
      exact ⟨(hbb.cell hlt).trans c0, (hbb.cell hlt).trans c1, (hbb.cell hlr).trans d0⟩
    clear h2 h3 h4 h1
    go_enter Tryd.func12, Tryd.ntmps12
    go_wp2_with fail
    refine wp_region_held_drew (S := (fun w' => w'.cell? ⟨o, 0, none⟩ = some (.pointer (some ⟨r, 0, none⟩)) ∧ w'.cell? ⟨o, 1, none⟩ = some (.int .i64 (bs.length : Int)) ∧ w'.cell? ⟨r, 0, none⟩ = some (.slice a bs.length c))) (by kernel_rfl) ?_ (fun hHeld => ?_)
    · exact ⟨c0, c1, d0⟩
    refine wpAnyH_take (i := 0) (v := ?_) (by rfl) (by kernel_rfl) (by kernel_rfl) (by kernel_rfl) (by exact fun _ _ _ h => h) (Or.inl ⟨by rfl, ?_⟩) hHeld ?_
    rotate_left 1
    · intro w' hSw
      go_simp
      try with_reducible rfl
    try simp only [Act.put, List.setIfInBounds_toArray, List.set_cons_zero, List.set_cons_succ, List.getElem_toArray, List.getElem_cons_zero, List.getElem_cons_succ]
    refine wpAnyH_take (i := 1) (v := ?_) (by rfl) (by kernel_rfl) (by kernel_rfl) (by kernel_rfl) (by exact fun _ _ _ h => h) (Or.inl ⟨by rfl, ?_⟩) hHeld ?_
    rotate_left 1
    · intro w' hSw
      go_simp
      try with_reducible rfl
    try simp only [Act.put, List.setIfInBounds_toArray, List.set_cons_zero, List.set_cons_succ, List.getElem_toArray, List.getElem_cons_zero, List.getElem_cons_succ]
    refine wpAnyH_take (i := 2) (v := ?_) (by rfl) (by kernel_rfl) (by kernel_rfl) (by kernel_rfl) (by exact fun _ _ _ h => h) (Or.inl ⟨by rfl, ?_⟩) hHeld ?_
    rotate_left 1
    · intro w' hSw
      go_simp
      try with_reducible rfl
    try simp only [Act.put, List.setIfInBounds_toArray, List.set_cons_zero, List.set_cons_succ, List.getElem_toArray, List.getElem_cons_zero, List.getElem_cons_succ]
    refine wpAnyH_take (i := 3) (v := ?_) (by rfl) (by kernel_rfl) (by kernel_rfl) (by kernel_rfl) (by exact fun _ _ _ h => h) (Or.inl ⟨by rfl, ?_⟩) hHeld ?_
    rotate_left 1
    · intro w' hSw
      go_simp
      try with_reducible rfl
    try simp only [Act.put, List.setIfInBounds_toArray, List.set_cons_zero, List.set_cons_succ, List.getElem_toArray, List.getElem_cons_zero, List.getElem_cons_succ]
    refine wpAnyH_take (i := 4) (v := ?_) (by rfl) (by kernel_rfl) (by kernel_rfl) (by kernel_rfl) (by exact fun _ _ _ h => h) (Or.inl ⟨by rfl, ?_⟩) hHeld ?_
    rotate_left 1
    · intro w' hSw
      go_simp
      try with_reducible rfl
    try simp only [Act.put, List.setIfInBounds_toArray, List.set_cons_zero, List.set_cons_succ, List.getElem_toArray, List.getElem_cons_zero, List.getElem_cons_succ]
    refine wpAnyH_take (i := 5) (v := ?_) (by rfl) (by kernel_rfl) (by kernel_rfl) (by kernel_rfl) (by exact fun _ _ _ h => h) (Or.inl ⟨by rfl, ?_⟩) hHeld ?_
    rotate_left 1
    · intro w' hSw
      go_simp
      try with_reducible rfl
    try simp only [Act.put, List.setIfInBounds_toArray, List.set_cons_zero, List.set_cons_succ, List.getElem_toArray, List.getElem_cons_zero, List.getElem_cons_succ]
    refine wpAnyH_take (i := 6) (v := ?_) (by rfl) (by kernel_rfl) (by kernel_rfl) (by kernel_rfl) (by exact fun _ _ _ h => h) (Or.inl ⟨by rfl, ?_⟩) hHeld ?_
    rotate_left 1
    · intro w' hSw
      go_simp
      try with_reducible rfl
    try simp only [Act.put, List.setIfInBounds_toArray, List.set_cons_zero, List.set_cons_succ, List.getElem_toArray, List.getElem_cons_zero, List.getElem_cons_succ]
    refine wpAnyH_take (i := 7) (v := ?_) (by rfl) (by kernel_rfl) (by kernel_rfl) (by kernel_rfl) (by exact fun _ _ _ h => h) (Or.inl ⟨by rfl, ?_⟩) hHeld ?_
    rotate_left 1
    · intro w' hSw
      go_simp
      try with_reducible rfl
    try simp only [Act.put, List.setIfInBounds_toArray, List.set_cons_zero, List.set_cons_succ, List.getElem_toArray, List.getElem_cons_zero, List.getElem_cons_succ]
    refine wpAnyH_take (i := 8) (v := ?_) (by rfl) (by kernel_rfl) (by kernel_rfl) (by kernel_rfl) (by exact fun _ _ _ h => h) (Or.inl ⟨by rfl, ?_⟩) hHeld ?_
    rotate_left 1
    · intro w' hSw
      go_simp
      try with_reducible rfl
    try simp only [Act.put, List.setIfInBounds_toArray, List.set_cons_zero, List.set_cons_succ, List.getElem_toArray, List.getElem_cons_zero, List.getElem_cons_succ]
    refine wpAnyH_take (i := 9) (v := ?_) (by rfl) (by kernel_rfl) (by kernel_rfl) (by kernel_rfl) (by exact fun _ _ _ h => h) (Or.inl ⟨by rfl, ?_⟩) hHeld ?_
    rotate_left 1
    · intro w' hSw
      go_simp
      try with_reducible rfl
    try simp only [Act.put, List.setIfInBounds_toArray, List.set_cons_zero, List.set_cons_succ, List.getElem_toArray, List.getElem_cons_zero, List.getElem_cons_succ]
    refine wpAnyH_take (i := 10) (v := ?_) (by rfl) (by kernel_rfl) (by kernel_rfl) (by kernel_rfl) (by exact fun _ _ _ h => h) (Or.inl ⟨by rfl, ?_⟩) hHeld ?_
    rotate_left 1
    · intro w' hSw
      go_simp
      try with_reducible rfl
    try simp only [Act.put, List.setIfInBounds_toArray, List.set_cons_zero, List.set_cons_succ, List.getElem_toArray, List.getElem_cons_zero, List.getElem_cons_succ]
    refine wpAnyH_ready (rs := [11]) (by kernel_rfl) (by simp) ?_
    refine AllReadyH.cons (by rfl) (fun K hK => ?_) AllReadyH.nil
    go_simp
    with_reducible refine HC.out.mono ?_
    rintro e w3 ⟨a1, c3, rfl, hown, hb3⟩
    refine hK.out _ _ ?_ (fun hHeld => ?_)
    · exact HKP.out _ hb3
    clear hK K
    try simp only [Act.put, List.setIfInBounds_toArray, List.set_cons_zero, List.set_cons_succ, List.getElem_toArray, List.getElem_cons_zero, List.getElem_cons_succ]
    refine wpAnyH_take (i := 12) (v := ?_) (by rfl) (by kernel_rfl) (by kernel_rfl) (by kernel_rfl) (by exact fun _ _ _ h => h) (Or.inl ⟨by rfl, ?_⟩) hHeld ?_
    rotate_left 1
    · intro w' hSw
      go_simp
      try with_reducible rfl
    try simp only [Act.put, List.setIfInBounds_toArray, List.set_cons_zero, List.set_cons_succ, List.getElem_toArray, List.getElem_cons_zero, List.getElem_cons_succ]
    refine wpAnyH_done (by kernel_rfl) ?_ _
    clear hHeld
    have HE : Hid (OwnR 5 u8v w.heap.size w3 a1 c3 bs ∧ Below w.heap.size w w3) := Lib.hid ⟨hown, (below_drew w).trans hb3⟩
    clear hown hb3
    go_wp2_with fail
    go_ret
    exact ⟨a1, c3, rfl, HE.out.1, HE.out.2⟩
end Go.Proofs.YtodedlnpokagfaaDoor


/-
  Layer 4: Out.add.
-/
set_option linter.unusedVariables false
set_option linter.unusedSimpArgs false
namespace Go.Proofs.YtodedlnpokagfaaDoor
open Go.RowKit Rep

/-- A call puts bytes onto an Out. -/
def PutsO (o : Nat) (S : Nat → Prop) (bs : List Nat) (w : World) (e : Ending) (w' : World) : Prop := e = .returned (.tuple #[]) ∧ Hid (OutSt w' o (Plus S w w') bs) ∧ Hid (Chg S w w')
theorem row_type {E : TypeId} {w : World} {g cap k : Nat} {vs : List Value} {cs : Array Value} {T : TypeId} (h : Row E w g cap vs) (hk : w.heap[k]? = some (.cells cs T (0, 0))) (hne : E ≠ T) : g ≠ k := by
  intro e
  subst e
  obtain ⟨cur, hh, _⟩ := h
  rw [hh] at hk
  cases hk
  exact hne rfl
section
variable {w w6 : World} {o r : Nat} {a a' : Option Addr} {c c' : Nat} {bs ys : List Nat}
theorem OutAt.ne (h : OutAt w o r a c bs) : blk a ≠ some o ∧ blk a ≠ some r ∧ o ≠ r := by
  refine ⟨?_, ?_, ?_⟩
  · intro e
    obtain ⟨_, ⟨rfl, _⟩ | ⟨g, rfl, hg, hr⟩⟩ := h.own
    · cases e
    · cases e; exact row_type hr h.ob (by decide) rfl
  · intro e
    obtain ⟨_, ⟨rfl, _⟩ | ⟨g, rfl, hg, hr⟩⟩ := h.own
    · cases e
    · cases e; exact row_type hr h.room (by decide) rfl
  · rintro rfl
    have h1 := h.ob
    rw [h.room] at h1
    cases h1
theorem OutAt.kept (h : OutAt w o r a c bs) (hb : Below w.heap.size w w6) : OutAt w6 o r a c bs :=
  ⟨(hb.block _ (Array.getElem?_eq_some_iff.1 h.ob).1).trans h.ob, (hb.block _ (Array.getElem?_eq_some_iff.1 h.room).1).trans h.room, h.own.kept hb⟩
/-- What lies in an Out's own blocks, behind append. -/
theorem OutAt.still (h : OutAt w o r a c bs) (hg : w.grownBy w6 (blk a)) : w6.heap[o]? = some (.cells #[.pointer (some ⟨r, 0, none⟩), .int .i64 (bs.length : Int)] 50 (0, 0)) ∧ w6.heap[r]? = some (.cells #[.slice a bs.length c] 22 (0, 0)) := by
  obtain ⟨n1, n2, n3⟩ := h.ne
  exact ⟨(hg.block _ (Array.getElem?_eq_some_iff.1 h.ob).1 (fun e => n1 e.symm)).trans h.ob, (hg.block _ (Array.getElem?_eq_some_iff.1 h.room).1 (fun e => n2 e.symm)).trans h.room⟩
theorem OutAt.ended (h : OutAt w o r a c bs) (hown : OwnR 5 u8v 0 w6 a' c' (bs ++ ys)) (hg : w.grownBy w6 (blk a)) {n : Int} (hn : n = ((bs ++ ys).length : Nat)) :
    OutAt ((w6.setCell ⟨r, 0, none⟩ (.slice a' (bs.length + ys.length) c')).setCell ⟨o, 1, none⟩ (.int .i64 n)) o r a' c' (bs ++ ys) := by
  obtain ⟨b1, b2⟩ := h.still hg
  obtain ⟨n1, n2, n3⟩ := h.ne
  subst hn
  refine ⟨?_, ?_, ?_⟩
  · simp only [World.setCell, Array.getElem?_modify, b1]
    simp [b1, Ne.symm n3]
  · simp only [World.setCell, Array.getElem?_modify, b2]
    simp [n3, b2]
  · obtain ⟨q1, q2 | ⟨g, rfl, hg', hr⟩⟩ := hown
    · exact ⟨q1, .inl q2⟩
    · have e1 := row_type hr b1 (by decide)
      have e2 := row_type hr b2 (by decide)
      exact ⟨q1, .inr ⟨g, rfl, hg', (hr.other ⟨r, 0, none⟩ _ e2).other ⟨o, 1, none⟩ _ e1⟩⟩
theorem OutAt.chg {S : Nat → Prop} (h : OutAt w o r a c bs) (hS : S o) (hSr : S r) (hSa : ∀ k, blk a = some k → S k) (hg : w.grownBy w6 (blk a)) (v u : Value) : Chg S w ((w6.setCell ⟨r, 0, none⟩ v).setCell ⟨o, 1, none⟩ u) := by
  refine ⟨hg.os, hg.tape, hg.output, by simpa [World.setCell] using hg.size, fun k hk hS' => ?_⟩
  rw [Below.heap_setCell _ _ _ _ (fun e => hS' (by rw [e]; exact hS)), Below.heap_setCell _ _ _ _ (fun e => hS' (by rw [e]; exact hSr))]
  exact hg.block k hk (fun e => hS' (hSa k e.symm))
/-- add's end. -/
theorem OutAt.puts {w0 : World} {S : Nat → Prop} (h : OutAt w o r a c bs) (h0 : Chg S w0 w) (hS : Plus S w0 w o) (hSr : Plus S w0 w r) (hSa : ∀ k, blk a = some k → Plus S w0 w k) (hown : OwnR 5 u8v 0 w6 a' c' (bs ++ ys)) (hg : w.grownBy w6 (blk a))
    (hnew : ∀ j, blk a' = some j → blk a = some j ∨ w.heap.size ≤ j) {n : Int} (hn : n = ((bs ++ ys).length : Nat)) :
    PutsO o S (bs ++ ys) w0 (.returned (.tuple #[])) ((w6.setCell ⟨r, 0, none⟩ (.slice a' (bs.length + ys.length) c')).setCell ⟨o, 1, none⟩ (.int .i64 n)) := by
  have hz : ((w6.setCell ⟨r, 0, none⟩ (.slice a' (bs.length + ys.length) c')).setCell ⟨o, 1, none⟩ (.int .i64 n)).heap.size = w6.heap.size := by simp [World.setCell]
  have hp : ∀ k, Plus S w0 w k → Plus S w0 ((w6.setCell ⟨r, 0, none⟩ (.slice a' (bs.length + ys.length) c')).setCell ⟨o, 1, none⟩ (.int .i64 n)) k := fun k hk => by
    rcases hk with hk | hk
    · exact .inl hk
    · exact .inr ⟨hk.1, by rw [hz]; have := hg.size; omega⟩
  have he := h.ended hown hg hn
  refine ⟨rfl, Lib.hid ⟨hp _ hS, .inr ⟨r, a', c', he, hp _ hSr, fun k hk => ?_⟩⟩, Lib.hid (h0.trans (h.chg hS hSr hSa hg _ _))⟩
  rcases hnew k hk with hk' | hk'
  · exact hp _ (hSa k hk')
  · refine .inr ⟨by have := h0.size; omega, ?_⟩
    rw [hz]
    obtain ⟨_, ⟨rfl, _⟩ | ⟨g, rfl, _, hr⟩⟩ := hown
    · cases hk
    · cases hk; exact hr.lt
end

theorem OutAt.first {w2 : World} {o B : Nat} {a1 : Option Addr} {c1 : Nat} (hF : w2.heap[o]? = some (.cells #[.pointer none, .int .i64 0] 50 (0, 0))) (hown : OwnR 5 u8v B w2 a1 c1 []) (ho : o < B) :
    OutAt ((w2.setCell ⟨o, 0, none⟩ (.pointer (some ⟨w2.heap.size, 0, none⟩))).alloc (.cells #[.slice a1 0 c1] 22)) o w2.heap.size a1 c1 [] := by
  have hlt := (Array.getElem?_eq_some_iff.1 hF).1
  have hz : (w2.setCell ⟨o, 0, none⟩ (.pointer (some ⟨w2.heap.size, 0, none⟩))).heap.size = w2.heap.size := by simp [World.setCell]
  refine ⟨?_, ?_, ?_⟩
  · rw [Below.heap_alloc _ _ _ (by omega)]
    simp only [World.setCell, Array.getElem?_modify, hF]
    simp
  · have := heap_alloc_new (w2.setCell ⟨o, 0, none⟩ (.pointer (some ⟨w2.heap.size, 0, none⟩))) (.cells #[.slice a1 0 c1] 22)
    rw [hz] at this
    exact this
  · exact ((hown.past ho (grownBy_set (grown_refl _ _))).kept ((Below.refl _ _).alloc (Nat.le_refl _) _)).mono (Nat.zero_le _)
theorem first_chg {w w2 : World} {S : Nat → Prop} {o : Nat} {v : Value} {ob : Obj} (hb : Below w.heap.size w w2) (hS : S o) (_hlt : o < w.heap.size) : Chg S w ((w2.setCell ⟨o, 0, none⟩ v).alloc ob) ∧ True :=
  ⟨(Chg.of_below hb).trans' ((Chg.of_grown (grownBy_set (grown_refl w2 _)) hS).trans' (.of_below ((Below.refl _ _).alloc (Nat.le_refl _) _))), trivial⟩
theorem apart_out {w : World} {o : Nat} {v0 : Option Addr} {n : Int} {T : TypeId} (h : w.heap[o]? = some (.cells #[.pointer v0, .int .i64 n] T (0, 0))) {src : Option Addr} {ys : List Nat} (hr : Reads w src (ys.map u8v)) : ys.map u8v = [] ∨ ∀ g off, src = some ⟨g, off, none⟩ → some g ≠ some o := by
  rcases hr with hr | ⟨g, off, rfl, hr⟩
  · exact .inl hr
  · by_cases e : ys = []
    · exact .inl (by simp [e])
    · refine .inr fun g' off' e1 e2 => ?_
      simp at e1 e2
      obtain ⟨rfl, rfl⟩ := e1
      subst e2
      exact noByte2 h (fun _ e => by cases e) (fun _ e => by cases e) _ _ (hr 0 _ (map_getElem? (xs := ys) (f := u8v) (List.length_pos_iff.2 e)))
set_option maxRecDepth 100000 in
set_option maxHeartbeats 4000000 in
theorem oadd_any {w : World} {o : Nat} {S : Nat → Prop} {src : Option Addr} {c : Nat} {bs ys : List Nat} (h : OutSt w o S bs) (hr : Reads w src (ys.map u8v)) (hl : bs.length + ys.length ≤ 1000000) :
    Calls Tryd.prog 43 #[.pointer (some ⟨o, 0, none⟩), .slice src ys.length c] w (PutsO o S (bs ++ ys) w) := by
  obtain ⟨h1, ⟨rfl, h3⟩ | ⟨r, a, ca, h2, h3, h4⟩⟩ := h
  · obtain ⟨c0, c1, f0, f1, hlt⟩ := cellsTwo h3
    have HF := Lib.hid h3
    have HS1 := Lib.hid h1
    have HR := Lib.hid hr
    have HDO : Hid (∀ nq, Calls Tryd.prog 12 #[.pointer (some ⟨o, 0, none⟩)] (w.drewN nq) (GivesOwnB [] (w.drewN nq))) := Lib.hid fun nq => ODone_any ((show OutSt w o S [] from ⟨h1, .inl ⟨rfl, h3⟩⟩).kept (Below.drewN' (Below.refl _ _) nq)) (by simp)
    clear h3 h1 hr
    go_enter Tryd.func43, Tryd.ntmps43
    go_wp2_with fail
    go_quiet (fail)
    go_wp2_with fail
    refine (HDO.out nq).mono ?_
    rintro e w2 ⟨a1, c1', rfl, hown, hb2⟩
    have hbw : Below w.heap.size w w2 := (Below.drewN' (Below.refl w.heap.size w) nq).trans hb2
    have HOW := Lib.hid hown
    have HBW := Lib.hid hbw
    have hF2 := (hbw.block _ hlt).trans HF.out
    clear c0 c1 f0 f1 HDO hown hb2
    obtain ⟨c0, c1, f0, f1, hlt2⟩ := cellsTwo hF2
    have hne : o ≠ w2.heap.size := by omega
    have hne2 : w2.heap.size ≠ o := by omega
    have HF2 := Lib.hid hF2
    clear hbw hF2
    go_wp2_with fail
    have hat := OutAt.first HF2.out HOW.out hlt
    have hch := first_chg (S := S) (v := .pointer (some ⟨w2.heap.size, 0, none⟩)) (ob := .cells #[.slice a1 0 c1'] 22) HBW.out HS1.out hlt
    obtain ⟨w1, hw1⟩ : ∃ w1, w1 = ((w2.setCell ⟨o, 0, none⟩ (.pointer (some ⟨w2.heap.size, 0, none⟩))).alloc (.cells #[.slice a1 0 c1'] 22)) := ⟨_, rfl⟩
    have HSZ : Hid (w2.heap.size < w1.heap.size) := Lib.hid (by rw [hw1]; simp [World.setCell])
    have hrd : Reads w1 src (ys.map u8v) := by
      rw [hw1]
      have h2 := HR.out.kept HBW.out
      exact (h2.grown (grownBy_set (grown_refl _ _)) (apart_out (T := 50) HF2.out h2)).kept ((Below.refl _ _).alloc (Nat.le_refl _) _)
    rw [← hw1] at hat hch ⊢
    have HAT := Lib.hid (hat.kept (below_drew w1))
    have HCH : Hid (Chg S w w1.drew) := Lib.hid (hch.1.trans' (.of_below (below_drew w1)))
    have HSO : Hid (Plus S w w1.drew o) := Lib.hid (.inl HS1.out)
    have HSR : Hid (Plus S w w1.drew w2.heap.size) := Lib.hid (.inr ⟨HBW.out.size, HSZ.out⟩)
    have HSA : Hid (∀ k, blk a1 = some k → Plus S w w1.drew k) := Lib.hid fun k hk => .inr ⟨HOW.out.blkB k hk, by
      have h2 := HSZ.out
      have h3 : w1.drew.heap.size = w1.heap.size := rfl
      obtain ⟨_, ⟨rfl, _⟩ | ⟨g, rfl, _, hr⟩⟩ := HOW.out
      · cases hk
      · cases hk; have := hr.lt; show g < w1.heap.size; omega⟩
    have HRD := Lib.hid (hrd.kept (below_drew w1))
    have hcm := HOW.out.1
    unfold maxLen at hcm
    generalize w2.heap.size = r at *
    clear c0 c1 f0 f1 hw1 hat hch hrd HSZ HBW HOW HF2 HR
    obtain ⟨c0, c1, f0, f1, _⟩ := cellsTwo HAT.out.ob
    have d0 : w1.drew.cell? ⟨r, 0, none⟩ = some (.slice a1 0 c1') := by simp [World.cell?, HAT.out.room]
    refine wp_region_held_drew (S := (fun w' => w'.cell? ⟨o, 0, none⟩ = some (.pointer (some ⟨r, 0, none⟩)))) (by kernel_rfl) ?_ (fun hHeld => ?_)
    · exact c0
    refine wpAnyH_take (i := 0) (v := ?_) (by rfl) (by kernel_rfl) (by kernel_rfl) (by kernel_rfl) (by exact fun _ _ _ h => h) (Or.inl ⟨by rfl, ?_⟩) hHeld ?_
    rotate_left 1
    · intro w' hSw
      go_simp
      try with_reducible rfl
    try simp only [Act.put, List.setIfInBounds_toArray, List.set_cons_zero, List.set_cons_succ, List.getElem_toArray, List.getElem_cons_zero, List.getElem_cons_succ]
    refine wpAnyH_take (i := 1) (v := ?_) (by rfl) (by kernel_rfl) (by kernel_rfl) (by kernel_rfl) (by exact fun _ _ _ h => h) (Or.inl ⟨by rfl, ?_⟩) hHeld ?_
    rotate_left 1
    · intro w' hSw
      go_simp
      try with_reducible rfl
    try simp only [Act.put, List.setIfInBounds_toArray, List.set_cons_zero, List.set_cons_succ, List.getElem_toArray, List.getElem_cons_zero, List.getElem_cons_succ]
    refine wpAnyH_take (i := 2) (v := ?_) (by rfl) (by kernel_rfl) (by kernel_rfl) (by kernel_rfl) (by exact fun _ _ _ h => h) (Or.inl ⟨by rfl, ?_⟩) hHeld ?_
    rotate_left 1
    · intro w' hSw
      go_simp
      try with_reducible rfl
    try simp only [Act.put, List.setIfInBounds_toArray, List.set_cons_zero, List.set_cons_succ, List.getElem_toArray, List.getElem_cons_zero, List.getElem_cons_succ]
    refine wpAnyH_take (i := 3) (v := ?_) (by rfl) (by kernel_rfl) (by kernel_rfl) (by kernel_rfl) (by exact fun _ _ _ h => h) (Or.inl ⟨by rfl, ?_⟩) hHeld ?_
    rotate_left 1
    · intro w' hSw
      go_simp
      try with_reducible rfl
    try simp only [Act.put, List.setIfInBounds_toArray, List.set_cons_zero, List.set_cons_succ, List.getElem_toArray, List.getElem_cons_zero, List.getElem_cons_succ]
    refine wpAnyH_take (i := 4) (v := ?_) (by rfl) (by kernel_rfl) (by kernel_rfl) (by kernel_rfl) (by exact fun _ _ _ h => h) (Or.inl ⟨by rfl, ?_⟩) hHeld ?_
    rotate_left 1
    · intro w' hSw
      go_simp
      try with_reducible rfl
    try simp only [Act.put, List.setIfInBounds_toArray, List.set_cons_zero, List.set_cons_succ, List.getElem_toArray, List.getElem_cons_zero, List.getElem_cons_succ]
    refine wpAnyH_take (i := 5) (v := ?_) (by rfl) (by kernel_rfl) (by kernel_rfl) (by kernel_rfl) (by exact fun _ _ _ h => h) (Or.inl ⟨by rfl, ?_⟩) hHeld ?_
    rotate_left 1
    · intro w' hSw
      go_simp
      try with_reducible rfl
    try simp only [Act.put, List.setIfInBounds_toArray, List.set_cons_zero, List.set_cons_succ, List.getElem_toArray, List.getElem_cons_zero, List.getElem_cons_succ]
    refine wpAnyH_take (i := 6) (v := ?_) (by rfl) (by kernel_rfl) (by kernel_rfl) (by kernel_rfl) (by exact fun _ _ _ h => h) (Or.inl ⟨by rfl, ?_⟩) hHeld ?_
    rotate_left 1
    · intro w' hSw
      go_simp
      try with_reducible rfl
    try simp only [Act.put, List.setIfInBounds_toArray, List.set_cons_zero, List.set_cons_succ, List.getElem_toArray, List.getElem_cons_zero, List.getElem_cons_succ]
    refine wpAnyH_take (i := 7) (v := ?_) (by rfl) (by kernel_rfl) (by kernel_rfl) (by kernel_rfl) (by exact fun _ _ _ h => h) (Or.inl ⟨by rfl, ?_⟩) hHeld ?_
    rotate_left 1
    · intro w' hSw
      go_simp
      try with_reducible rfl
    try simp only [Act.put, List.setIfInBounds_toArray, List.set_cons_zero, List.set_cons_succ, List.getElem_toArray, List.getElem_cons_zero, List.getElem_cons_succ]
    refine wpAnyH_take (i := 8) (v := ?_) (by rfl) (by kernel_rfl) (by kernel_rfl) (by kernel_rfl) (by exact fun _ _ _ h => h) (Or.inl ⟨by rfl, ?_⟩) hHeld ?_
    rotate_left 1
    · intro w' hSw
      go_simp
      try with_reducible rfl
    try simp only [Act.put, List.setIfInBounds_toArray, List.set_cons_zero, List.set_cons_succ, List.getElem_toArray, List.getElem_cons_zero, List.getElem_cons_succ]
    refine wpAnyH_take (i := 10) (v := ?_) (by rfl) (by kernel_rfl) (by kernel_rfl) (by kernel_rfl) (by exact fun _ _ _ h => h) (Or.inl ⟨by rfl, ?_⟩) hHeld ?_
    rotate_left 1
    · intro w' hSw
      go_simp
      try with_reducible rfl
    try simp only [Act.put, List.setIfInBounds_toArray, List.set_cons_zero, List.set_cons_succ, List.getElem_toArray, List.getElem_cons_zero, List.getElem_cons_succ]
    refine wpAnyH_ready (rs := [9]) (by kernel_rfl) (by simp) ?_
    refine AllReadyH.cons (by rfl) (fun K hK => ?_) AllReadyH.nil
    go_simp
    refine hK.out _ _ ?_ (fun hHeld => ?_)
    · exact c0
    clear hK K
    try simp only [Act.put, List.setIfInBounds_toArray, List.set_cons_zero, List.set_cons_succ, List.getElem_toArray, List.getElem_cons_zero, List.getElem_cons_succ]
    refine wpAnyH_ready (rs := [11]) (by kernel_rfl) (by simp) ?_
    refine AllReadyH.cons (by rfl) (fun K hK => ?_) AllReadyH.nil
    refine step_append_row rfl (.tmp 38) (.tmp 39) 22 rfl 5 (.int .u8 0) 1 Tryd.underlying22 info_u8 rfl u8v u8_one 0 a1 0 c1' [] rfl HAT.out.own rfl src ys.length c ys rfl rfl HRD.out (by unfold maxLen; omega) (by omega) (Nat.zero_le _) ?_
    intro a' c' w6 hown hgrw hnew
    have HPT := Lib.hid (HAT.out.puts HCH.out HSO.out HSR.out HSA.out hown hgrw hnew (n := ((0 + ys.length : Nat) : Int)) (by simp))
    have HST := Lib.hid (HAT.out.still hgrw)
    obtain ⟨z0, z1, y0, y1, z2⟩ := cellsTwo HST.out.1
    have z3 : w6.cell? ⟨r, 0, none⟩ = some (.slice a1 0 c1') := (by simp [World.cell?, HST.out.2])
    have y3 : w6.frozen? ⟨r, 0, none⟩ = false := (by simp [World.frozen?, HST.out.2])
    have hro : o ≠ r := HAT.out.ne.2.2
    have hro2 : r ≠ o := hro.symm
    clear hown hgrw hnew HST
    refine hK.out _ _ ?_ (fun hHeld => ?_)
    · exact z0
    clear hK K
    try simp only [Act.put, List.setIfInBounds_toArray, List.set_cons_zero, List.set_cons_succ, List.getElem_toArray, List.getElem_cons_zero, List.getElem_cons_succ]
    refine wpAnyH_take (i := 12) (v := ?_) (by rfl) (by kernel_rfl) (by kernel_rfl) (by kernel_rfl) (by exact fun _ _ _ h => h) (Or.inl ⟨by rfl, ?_⟩) hHeld ?_
    rotate_left 1
    · intro w' hSw
      go_simp
      try with_reducible rfl
    try simp only [Act.put, List.setIfInBounds_toArray, List.set_cons_zero, List.set_cons_succ, List.getElem_toArray, List.getElem_cons_zero, List.getElem_cons_succ]
    refine wpAnyH_ready (rs := [13]) (by kernel_rfl) (by simp) ?_
    refine AllReadyH.cons (by rfl) (fun K hK => ?_) AllReadyH.nil
    go_simp
    refine hK.out _ _ ?_ (fun hHeld => ?_)
    · exact (by go_simp)
    clear hK K
    try simp only [Act.put, List.setIfInBounds_toArray, List.set_cons_zero, List.set_cons_succ, List.getElem_toArray, List.getElem_cons_zero, List.getElem_cons_succ]
    refine wpAnyH_done (by kernel_rfl) ?_ _
    clear hHeld
    go_wp2_with fail
    go_end0
    simp only [List.length_nil, Nat.zero_add, List.nil_append] at HPT
    exact HPT.out
  · obtain ⟨c0, c1, f0, f1, hlt⟩ := cellsTwo h2.ob
    have d0 : w.cell? ⟨r, 0, none⟩ = some (.slice a bs.length ca) := by simp [World.cell?, h2.room]
    have hle := h2.own.le
    have hcm := h2.own.1
    unfold maxLen at hcm
    have hne : ((bs.length : Int) != (bs.length : Int)) = false := by simp
    have HH := Lib.hid h2
    have HSS := Lib.hid (And.intro h1 (And.intro h3 h4))
    have HR := Lib.hid hr
    clear h2 h1 h3 h4 hr
    go_enter Tryd.func43, Tryd.ntmps43
    go_wp2_with fail
    go_quiet (fail)
    go_wp2_with fail
    obtain ⟨w1, hw1⟩ : ∃ w1, w1 = w.drewN nq := ⟨_, rfl⟩
    have hb1 : Below w.heap.size w w1 := by rw [hw1]; exact Below.drewN' (Below.refl _ _) nq
    rw [← hw1]
    have HAT := Lib.hid ((HH.out.kept hb1).kept (below_drew w1))
    have hb2 := hb1.trans ((below_drew w1).mono hb1.size)
    have HCH : Hid (Chg S w w1.drew) := Lib.hid (.of_below hb2)
    have HSO : Hid (Plus S w w1.drew o) := Lib.hid (.inl HSS.out.1)
    have HSR : Hid (Plus S w w1.drew r) := Lib.hid (.inl HSS.out.2.1)
    have HSA : Hid (∀ k, blk a = some k → Plus S w w1.drew k) := Lib.hid fun k hk => .inl (HSS.out.2.2 k hk)
    have HRD := Lib.hid (HR.out.kept hb2)
    clear c0 c1 d0 f0 f1 hw1 hb1 hb2
    obtain ⟨c0, c1, f0, f1, _⟩ := cellsTwo HAT.out.ob
    have d0 : w1.drew.cell? ⟨r, 0, none⟩ = some (.slice a bs.length ca) := by simp [World.cell?, HAT.out.room]
    refine wp_region_held_drew (S := (fun w' => w'.cell? ⟨o, 0, none⟩ = some (.pointer (some ⟨r, 0, none⟩)))) (by kernel_rfl) ?_ (fun hHeld => ?_)
    · exact c0
    refine wpAnyH_take (i := 0) (v := ?_) (by rfl) (by kernel_rfl) (by kernel_rfl) (by kernel_rfl) (by exact fun _ _ _ h => h) (Or.inl ⟨by rfl, ?_⟩) hHeld ?_
    rotate_left 1
    · intro w' hSw
      go_simp
      try with_reducible rfl
    try simp only [Act.put, List.setIfInBounds_toArray, List.set_cons_zero, List.set_cons_succ, List.getElem_toArray, List.getElem_cons_zero, List.getElem_cons_succ]
    refine wpAnyH_take (i := 1) (v := ?_) (by rfl) (by kernel_rfl) (by kernel_rfl) (by kernel_rfl) (by exact fun _ _ _ h => h) (Or.inl ⟨by rfl, ?_⟩) hHeld ?_
    rotate_left 1
    · intro w' hSw
      go_simp
      try with_reducible rfl
    try simp only [Act.put, List.setIfInBounds_toArray, List.set_cons_zero, List.set_cons_succ, List.getElem_toArray, List.getElem_cons_zero, List.getElem_cons_succ]
    refine wpAnyH_take (i := 2) (v := ?_) (by rfl) (by kernel_rfl) (by kernel_rfl) (by kernel_rfl) (by exact fun _ _ _ h => h) (Or.inl ⟨by rfl, ?_⟩) hHeld ?_
    rotate_left 1
    · intro w' hSw
      go_simp
      try with_reducible rfl
    try simp only [Act.put, List.setIfInBounds_toArray, List.set_cons_zero, List.set_cons_succ, List.getElem_toArray, List.getElem_cons_zero, List.getElem_cons_succ]
    refine wpAnyH_take (i := 3) (v := ?_) (by rfl) (by kernel_rfl) (by kernel_rfl) (by kernel_rfl) (by exact fun _ _ _ h => h) (Or.inl ⟨by rfl, ?_⟩) hHeld ?_
    rotate_left 1
    · intro w' hSw
      go_simp
      try with_reducible rfl
    try simp only [Act.put, List.setIfInBounds_toArray, List.set_cons_zero, List.set_cons_succ, List.getElem_toArray, List.getElem_cons_zero, List.getElem_cons_succ]
    refine wpAnyH_take (i := 4) (v := ?_) (by rfl) (by kernel_rfl) (by kernel_rfl) (by kernel_rfl) (by exact fun _ _ _ h => h) (Or.inl ⟨by rfl, ?_⟩) hHeld ?_
    rotate_left 1
    · intro w' hSw
      go_simp
      try with_reducible rfl
    try simp only [Act.put, List.setIfInBounds_toArray, List.set_cons_zero, List.set_cons_succ, List.getElem_toArray, List.getElem_cons_zero, List.getElem_cons_succ]
    refine wpAnyH_take (i := 5) (v := ?_) (by rfl) (by kernel_rfl) (by kernel_rfl) (by kernel_rfl) (by exact fun _ _ _ h => h) (Or.inl ⟨by rfl, ?_⟩) hHeld ?_
    rotate_left 1
    · intro w' hSw
      go_simp
      try with_reducible rfl
    try simp only [Act.put, List.setIfInBounds_toArray, List.set_cons_zero, List.set_cons_succ, List.getElem_toArray, List.getElem_cons_zero, List.getElem_cons_succ]
    refine wpAnyH_take (i := 6) (v := ?_) (by rfl) (by kernel_rfl) (by kernel_rfl) (by kernel_rfl) (by exact fun _ _ _ h => h) (Or.inl ⟨by rfl, ?_⟩) hHeld ?_
    rotate_left 1
    · intro w' hSw
      go_simp
      try with_reducible rfl
    try simp only [Act.put, List.setIfInBounds_toArray, List.set_cons_zero, List.set_cons_succ, List.getElem_toArray, List.getElem_cons_zero, List.getElem_cons_succ]
    refine wpAnyH_take (i := 7) (v := ?_) (by rfl) (by kernel_rfl) (by kernel_rfl) (by kernel_rfl) (by exact fun _ _ _ h => h) (Or.inl ⟨by rfl, ?_⟩) hHeld ?_
    rotate_left 1
    · intro w' hSw
      go_simp
      try with_reducible rfl
    try simp only [Act.put, List.setIfInBounds_toArray, List.set_cons_zero, List.set_cons_succ, List.getElem_toArray, List.getElem_cons_zero, List.getElem_cons_succ]
    refine wpAnyH_take (i := 8) (v := ?_) (by rfl) (by kernel_rfl) (by kernel_rfl) (by kernel_rfl) (by exact fun _ _ _ h => h) (Or.inl ⟨by rfl, ?_⟩) hHeld ?_
    rotate_left 1
    · intro w' hSw
      go_simp
      try with_reducible rfl
    try simp only [Act.put, List.setIfInBounds_toArray, List.set_cons_zero, List.set_cons_succ, List.getElem_toArray, List.getElem_cons_zero, List.getElem_cons_succ]
    refine wpAnyH_take (i := 10) (v := ?_) (by rfl) (by kernel_rfl) (by kernel_rfl) (by kernel_rfl) (by exact fun _ _ _ h => h) (Or.inl ⟨by rfl, ?_⟩) hHeld ?_
    rotate_left 1
    · intro w' hSw
      go_simp
      try with_reducible rfl
    try simp only [Act.put, List.setIfInBounds_toArray, List.set_cons_zero, List.set_cons_succ, List.getElem_toArray, List.getElem_cons_zero, List.getElem_cons_succ]
    refine wpAnyH_ready (rs := [9]) (by kernel_rfl) (by simp) ?_
    refine AllReadyH.cons (by rfl) (fun K hK => ?_) AllReadyH.nil
    go_simp
    refine hK.out _ _ ?_ (fun hHeld => ?_)
    · exact c0
    clear hK K
    try simp only [Act.put, List.setIfInBounds_toArray, List.set_cons_zero, List.set_cons_succ, List.getElem_toArray, List.getElem_cons_zero, List.getElem_cons_succ]
    refine wpAnyH_ready (rs := [11]) (by kernel_rfl) (by simp) ?_
    refine AllReadyH.cons (by rfl) (fun K hK => ?_) AllReadyH.nil
    refine step_append_row rfl (.tmp 38) (.tmp 39) 22 rfl 5 (.int .u8 0) 1 Tryd.underlying22 info_u8 rfl u8v u8_one 0 a bs.length ca bs rfl HAT.out.own rfl src ys.length c ys rfl rfl HRD.out (by unfold maxLen; omega) (by omega) (Nat.zero_le _) ?_
    intro a' c' w6 hown hgrw hnew
    have HPT := Lib.hid (HAT.out.puts HCH.out HSO.out HSR.out HSA.out hown hgrw hnew (n := ((bs.length + ys.length : Nat) : Int)) (by rw [List.length_append]))
    have HST := Lib.hid (HAT.out.still hgrw)
    obtain ⟨z0, z1, y0, y1, z2⟩ := cellsTwo HST.out.1
    have z3 : w6.cell? ⟨r, 0, none⟩ = some (.slice a bs.length ca) := (by simp [World.cell?, HST.out.2])
    have y3 : w6.frozen? ⟨r, 0, none⟩ = false := (by simp [World.frozen?, HST.out.2])
    have hro : o ≠ r := HAT.out.ne.2.2
    have hro2 : r ≠ o := hro.symm
    clear hown hgrw hnew HST
    refine hK.out _ _ ?_ (fun hHeld => ?_)
    · exact z0
    clear hK K
    try simp only [Act.put, List.setIfInBounds_toArray, List.set_cons_zero, List.set_cons_succ, List.getElem_toArray, List.getElem_cons_zero, List.getElem_cons_succ]
    refine wpAnyH_take (i := 12) (v := ?_) (by rfl) (by kernel_rfl) (by kernel_rfl) (by kernel_rfl) (by exact fun _ _ _ h => h) (Or.inl ⟨by rfl, ?_⟩) hHeld ?_
    rotate_left 1
    · intro w' hSw
      go_simp
      try with_reducible rfl
    try simp only [Act.put, List.setIfInBounds_toArray, List.set_cons_zero, List.set_cons_succ, List.getElem_toArray, List.getElem_cons_zero, List.getElem_cons_succ]
    refine wpAnyH_ready (rs := [13]) (by kernel_rfl) (by simp) ?_
    refine AllReadyH.cons (by rfl) (fun K hK => ?_) AllReadyH.nil
    go_simp
    refine hK.out _ _ ?_ (fun hHeld => ?_)
    · exact (by go_simp)
    clear hK K
    try simp only [Act.put, List.setIfInBounds_toArray, List.set_cons_zero, List.set_cons_succ, List.getElem_toArray, List.getElem_cons_zero, List.getElem_cons_succ]
    refine wpAnyH_done (by kernel_rfl) ?_ _
    clear hHeld
    go_wp2_with fail
    go_end0
    exact HPT.out
end Go.Proofs.YtodedlnpokagfaaDoor


/-
  Layer 4: Out.number.
-/
set_option linter.unusedVariables false
set_option linter.unusedSimpArgs false
namespace Go.Proofs.YtodedlnpokagfaaDoor
open Go.RowKit Rep
attribute [local go_sem] Oper.semAt_some

theorem rep_zero (n i : Nat) : (List.replicate n 0).getD i 0 = 0 := by
  rw [List.getD_eq_getElem?_getD, List.getElem?_replicate]
  split <;> rfl
theorem be_cons (p m : Nat) : Pk.be (p + 1) m = (m / 256 ^ p % 256) :: Pk.be p m := by
  induction p generalizing m with
  | zero => simp [Pk.be]
  | succ p ih =>
    show Pk.be (p + 1) (m / 256) ++ [m % 256] = _
    rw [ih (m / 256)]
    rw [Nat.div_div_eq_div_mul, ← Nat.pow_succ']
    rfl
theorem be_drop (j k m : Nat) : (Pk.be (j + k) m).drop j = Pk.be k m := by
  induction j with
  | zero => simp
  | succ j ih =>
    rw [show j + 1 + k = (j + k) + 1 from by omega, be_cons, List.drop_succ_cons, ih]
/-- Behind so many rounds: the last so many bytes are there, the others are 0. -/
def NumAtB (w : World) (m : Nat) (pre : List (Nat × Nat)) (W : World) : Prop :=
  ∃ k, k + pre.length = 8 ∧ W.heap[w.heap.size]? = some (.cells #[.int .u64 ((m / 256 ^ pre.length : Nat) : Int)] 63 (0, 0)) ∧
    (∃ Q : List Nat, Q.length = 8 ∧ W.heap[w.heap.size + 1]? = some (.cells (Q.map u8v).toArray 75 (0, 0)) ∧ (∀ i, i < k → Q.getD i 0 = 0) ∧ Q.drop k = Pk.be pre.length m) ∧
    W.heap[w.heap.size + 2]? = some (.cells #[.slice (some ⟨w.heap.size + 1, 0, none⟩) 8 8] 22 (0, 0)) ∧ Below w.heap.size w W
theorem numb_own (w : World) (m : Nat) (B0 : Nat) (hB : w.heap.size ≤ B0) : OwnFrom B0 (NumAtB w m) := by
  intro pre W W' row h hg hr
  obtain ⟨k, h1, h2, ⟨Q, h3, h4, h5, h6⟩, h7, h8⟩ := h
  have kc : ∀ {b : Nat} {c : Array Value} {e : TypeId} {z : Nat × Nat}, W.heap[b]? = some (.cells c e z) → W'.heap[b]? = some (.cells c e z) :=
    fun hb => (grownBy_keeps_cells hg (fun r e => (hr r e).2) hb rfl).trans hb
  refine ⟨k, h1, kc h2, ⟨Q, h3, kc h4, h5, h6⟩, kc h7, ⟨hg.os.trans h8.os, hg.tape.trans h8.tape, hg.output.trans h8.output, Nat.le_trans h8.size hg.size, fun j hj => ?_⟩⟩
  have hjW : j < W.heap.size := Nat.lt_of_lt_of_le hj h8.size
  exact (hg.block j hjW (fun e => by have := (hr j e.symm).1; omega)).trans (h8.block j hj)
theorem NumAtB.next {w W : World} {m i xv : Nat} {pre : List (Nat × Nat)} (h : NumAtB w m pre W) (hi : i + pre.length + 1 = 8) :
    NumAtB w m (pre ++ [(i, xv)]) ((W.setCell ⟨w.heap.size + 1, i, none⟩ (.int .u8 ((m / 256 ^ pre.length % 256 : Nat) : Int))).setCell ⟨w.heap.size, 0, none⟩ (.int .u64 ((m / 256 ^ pre.length / 256 : Nat) : Int))) := by
  obtain ⟨k, h1, h2, ⟨Q, h3, h4, h5, h6⟩, h7, h8⟩ := h
  obtain rfl : k = i + 1 := by omega
  refine ⟨i, by simp; omega, ?_, ⟨Q.set i (m / 256 ^ pre.length % 256), by simpa using h3, ?_, ?_, ?_⟩, ?_, ?_⟩
  · rw [List.length_append, List.length_singleton, Nat.pow_succ, ← Nat.div_div_eq_div_mul]
    simp only [World.setCell, Array.getElem?_modify, h2]
    simp
  · rw [Below.heap_setCell _ _ _ _ (by simp)]
    simp only [World.setCell, Array.getElem?_modify, h4]
    simp only [if_true, Option.map_some]
    congr 2
    simp [List.map_set, u8v]
  · intro j hj
    have := h5 j (by omega)
    rw [List.getD_eq_getElem?_getD] at this ⊢
    rw [List.getElem?_set_ne (by omega)]
    exact this
  · rw [List.length_append, List.length_singleton, be_cons, ← h6]
    rw [List.drop_eq_getElem_cons (by simp; omega)]
    congr 1
    · simp
    · rw [List.drop_set_of_lt (by omega)]
  · rw [Below.heap_setCell _ _ _ _ (by simp), Below.heap_setCell _ _ _ _ (by simp)]
    exact h7
  · exact (h8.setCell (p := ⟨w.heap.size + 1, i, none⟩) (by simp) _).setCell (p := ⟨w.heap.size, 0, none⟩) (by simp) _
theorem NumAtB.cells {w W : World} {m i : Nat} {pre : List (Nat × Nat)} (h : NumAtB w m pre W) (hi : i + pre.length + 1 = 8) :
    W.cell? ⟨w.heap.size, 0, none⟩ = some (.int .u64 ((m / 256 ^ pre.length : Nat) : Int)) ∧ W.frozen? ⟨w.heap.size, 0, none⟩ = false ∧ W.cell? ⟨w.heap.size + 1, i, none⟩ = some (.int .u8 0) ∧ W.frozen? ⟨w.heap.size + 1, i, none⟩ = false := by
  obtain ⟨k, h1, h2, ⟨Q, h3, h4, h5, h6⟩, h7, h8⟩ := h
  refine ⟨by simp [World.cell?, h2], by simp [World.frozen?, h2], ?_, by simp [World.frozen?, h4]⟩
  have h0 := h5 i (by omega)
  simp only [World.cell?, h4]
  rw [List.getElem?_toArray, map_getElem? (by omega), h0]
  rfl

theorem Chg.deferred {w W w3 : World} {S : Nat → Prop} {D : Nat} {x : Obj} (hb : Below w.heap.size w W) (hS : ∀ j, S j → j < w.heap.size) (hD : w.heap.size ≤ D) (hx : W.heap[D]? = some x) (h : Chg S W w3) : w3.heap[D]? = some x :=
  (h.block D (Array.getElem?_eq_some_iff.1 hx).1 (fun e => by have := hS D e; omega)).trans hx
theorem PutsO.ended {w W w3 : World} {S : Nat → Prop} {D o : Nat} {bs : List Nat} {x y : Obj} (hb : Below w.heap.size w W) (hS : ∀ j, S j → j < w.heap.size) (hD : w.heap.size ≤ D) (hx : W.heap[D]? = some x) (P1 : OutSt w3 o (Plus S W w3) bs) (P2 : Chg S W w3) :
    PutsO o S bs w (.returned (.tuple #[])) (w3.putObj D y) := by
  have hDW := (Array.getElem?_eq_some_iff.1 hx).1
  have hs := hb.size
  refine ⟨rfl, Lib.hid ?_, Lib.hid ⟨P2.os.trans hb.os, P2.tape.trans hb.tape, P2.output.trans hb.output, by rw [World.putObj_size]; exact Nat.le_trans hb.size P2.size, fun k hk hSk => ?_⟩⟩
  · refine (P1.past (w1 := w3.putObj D y) fun k hk => World.putObj_heap_other ?_).mono fun k hk => ?_
    · rcases hk with hk | hk
      · have := hS k hk; omega
      · omega
    · rcases hk with hk | hk
      · exact .inl hk
      · exact .inr ⟨by omega, by rw [World.putObj_size]; exact hk.2⟩
  · rw [World.putObj_heap_other (by omega)]
    exact (P2.block k (by omega) hSk).trans (hb.block k hk)

set_option maxRecDepth 100000 in
set_option maxHeartbeats 8000000 in
theorem onumber_any {w : World} {o : Nat} {S : Nat → Prop} {bs : List Nat} {m k : Nat} (h : OutSt w o S bs) (hS : ∀ j, S j → j < w.heap.size) (hm : m < 18446744073709551616) (hk : k = 8 ∨ k = 4) (hl : bs.length ≤ 100000) :
    Calls Tryd.prog 29 #[.pointer (some ⟨o, 0, none⟩), .int .u64 (m : Int), .int .i64 (k : Int)] w (PutsO o S (bs ++ Pk.be k m) w) := by
  refine (callsIn_wide (n := 3)).1 ?_
  refine callsIn_of_wp_marks Tryd.func29 rfl trivial ?_ rfl
  simp only [Tryd.ntmps29, List.size_toArray, List.length_cons, List.length_nil, Nat.reduceAdd, Nat.reduceSub, Array.replicate_succ, Array.replicate_zero, List.push_toArray, List.append_toArray, List.nil_append, List.cons_append]
  gi_wp2_with fail
  refine ⟨trivial, ?_⟩
  refine (callsIn_wide.2 (back_makerB _ _ _ _)).mono ?_
  rintro e w' ⟨rfl, rfl⟩
  gi_wp2_with fail
  refine range_wide (n := 3) (by omega) (gf := 50) (lb := #[.pointer (some ⟨w.heap.size + 2, 0, none⟩)]) (by simp [Act.eval]) (enters_of Tryd.func50 (by kernel_rfl) rfl) (encs := encBackB) (fun _ => rfl)
    (Down (List.replicate 8 0)) (fun pre => pre.length = (List.replicate 8 0).length) (fun _ => True) (NumAtB w m) (fun _ _ _ => False)
    (back_iterB _ (by omega) (w.heap.size + 2) 8 (some ⟨w.heap.size + 1, 0, none⟩) (List.replicate 8 0) (by simp) _ ?hI) (numb_own w m _ (by simp; omega)) (fun _ _ _ _ _ hs _ _ => hs) ?h0
    (fun x => { tmps := #[.pointer (some ⟨o, 0, none⟩), .int .u64 (m : Int), .int .i64 (k : Int), undef, .pointer (some ⟨w.heap.size, 0, none⟩), undef, .pointer (some ⟨w.heap.size + 1, 0, none⟩), .int .i64 (x.1 : Int),
      .slice (some ⟨w.heap.size + 1, 0, none⟩) 8 8, .func (.func 50) #[] #[.pointer (some ⟨w.heap.size + 1 + 1, 0, none⟩)], .int .i64 (x.1 : Int), .int .u8 (x.2 : Int), undef, undef, undef, undef, undef, undef, undef, undef, undef, undef, undef], defers := [] }) ?assign ?body ?done ?stop
  case hI =>
    rintro pre W ⟨k', h1, h2, ⟨Q, h3, h4, h5, h6⟩, h7, h8⟩
    refine ⟨by simp [World.cell?, h7], fun i hi => ⟨w.heap.size + 1, 0, rfl, ?_⟩⟩
    have hi' : i < k' := by simp at hi; omega
    have h0 := h5 i hi'
    simp only [World.cell?, h4, Nat.zero_add]
    rw [List.getElem?_toArray, map_getElem? (by simp at hi; omega), h0]
    rw [rep_zero]
    rfl
  case h0 =>
    refine ⟨8, by simp, ?_, ⟨List.replicate 8 0, by simp, ?_, ?_, by simp [Pk.be]⟩, ?_, ?_⟩
    · rw [Below.heap_alloc _ _ _ (by simp; omega), Below.heap_alloc _ _ _ (by simp)]
      simpa using heap_alloc_new w _
    · rw [Below.heap_alloc _ _ _ (by simp)]
      simpa [List.replicate_succ, u8v] using heap_alloc_new (w.alloc (.cells #[.int .u64 (m : Int)] 63)) (.cells #[.int .u8 0, .int .u8 0, .int .u8 0, .int .u8 0, .int .u8 0, .int .u8 0, .int .u8 0, .int .u8 0] 75)
    · intro i hi
      exact rep_zero _ _
    · simpa using heap_alloc_new ((w.alloc (.cells #[.int .u64 (m : Int)] 63)).alloc (.cells #[.int .u8 0, .int .u8 0, .int .u8 0, .int .u8 0, .int .u8 0, .int .u8 0, .int .u8 0, .int .u8 0] 75)) (.cells #[.slice (some ⟨w.heap.size + 1, 0, none⟩) 8 8] 22)
    · exact (((Below.refl _ _).alloc (Nat.le_refl _) _).alloc (by simp) _).alloc (by simp; omega) _
  case assign =>
    rintro l ⟨i, xv⟩ W K hK
    dsimp only [encBackB] at hK ⊢
    gi_wp2
    exact hK
  case body =>
    rintro l pre ⟨i, xv⟩ W hN hT
    have hi : i + pre.length + 1 = 8 := by have := hT.2.1; simpa using this
    obtain ⟨c0, f0, c1, f1⟩ := hN.cells hi
    have HN := Lib.hid (hN.next (xv := xv) hi)
    have hv : m / 256 ^ pre.length ≤ m := Nat.div_le_self _ _
    have hil : i < 8 := by omega
    clear hN hT hi
    generalize m / 256 ^ pre.length = v at *
    gi_wp2
    exact ⟨((KeepsOthers.setCell _ _ _).trans (KeepsOthers.setCell _ _ _)).from _, HN.out⟩
  case stop =>
    rintro D c pre W hD hSp hIx
    exact hIx.elim
  case done =>
    intro D ys W hD hys hN hK
    have hlen : ys.length = 8 := by simpa using hys
    obtain ⟨k', h1, h2, ⟨Q, h3, h4, h5, h6⟩, h7, h8⟩ := hN
    obtain rfl : k' = 0 := by omega
    rw [hlen, List.drop_zero] at h6
    have HRD : Hid (Reads W (some ⟨w.heap.size + 1, 8 - k, none⟩) ((Pk.be k m).map u8v)) := Lib.hid (by
      have hbd : Pk.be k m = Q.drop (8 - k) := by
        rw [h6, show (8 : Nat) = (8 - k) + k from by omega]
        exact (be_drop _ _ _).symm.trans (by rw [Nat.add_sub_cancel])
      rw [hbd, List.map_drop]
      refine .inr ⟨w.heap.size + 1, 8 - k, rfl, fun i u hu => ?_⟩
      rw [List.getElem?_drop] at hu
      simp only [World.cell?, h4]
      rw [List.getElem?_toArray]
      exact hu)
    have HO := Lib.hid (h.kept h8)
    have HB := Lib.hid h8
    have HK := Lib.hid hK
    have HDS : Hid (w.heap.size ≤ D) := Lib.hid (by simp at hD; omega)
    have HBL : Hid ((Pk.be k m).length = k) := Lib.hid (Pk.be_length _ _)
    clear h1 h2 h3 h4 h5 h6 h7 h8 hys hK h hD
    rcases hk with rfl | rfl
    · have hsub : (8 : Int) - ((8 : Nat) : Int) = 0 := by omega
      have HOA : Hid (Calls Tryd.prog 43 #[.pointer (some ⟨o, 0, none⟩), .slice (some ⟨w.heap.size + 1, 0, none⟩) 8 8] W (PutsO o S (bs ++ Pk.be 8 m) W)) := Lib.hid (by
        have := oadd_any (c := 8) HO.out HRD.out (by rw [HBL.out]; omega)
        rwa [HBL.out] at this)
      gi_wp2
      refine ⟨trivial, (callsIn_wide.2 HOA.out).mono ?_⟩
      rintro e w3 ⟨rfl, P1, P2⟩
      have HK3 := Lib.hid (P2.out.deferred HB.out hS HDS.out HK.out)
      have HEN := Lib.hid (PutsO.ended (y := .deferred none) HB.out hS HDS.out HK.out P1.out P2.out)
      clear P1 P2 HOA
      gi_wp2
      refine ⟨by simp, .inl ⟨_, _, rfl, run_takeDeferred (w := w3) HK3.out, ?_⟩⟩
      refine ⟨_, results_none rfl _ _ _, ?_⟩
      exact HEN.out
    · have hsub : (8 : Int) - ((4 : Nat) : Int) = 4 := by omega
      have HOA : Hid (Calls Tryd.prog 43 #[.pointer (some ⟨o, 0, none⟩), .slice (some ⟨w.heap.size + 1, 4, none⟩) 4 4] W (PutsO o S (bs ++ Pk.be 4 m) W)) := Lib.hid (by
        have := oadd_any (c := 4) HO.out HRD.out (by rw [HBL.out]; omega)
        rwa [HBL.out] at this)
      gi_wp2
      refine ⟨trivial, (callsIn_wide.2 HOA.out).mono ?_⟩
      rintro e w3 ⟨rfl, P1, P2⟩
      have HK3 := Lib.hid (P2.out.deferred HB.out hS HDS.out HK.out)
      have HEN := Lib.hid (PutsO.ended (y := .deferred none) HB.out hS HDS.out HK.out P1.out P2.out)
      clear P1 P2 HOA
      gi_wp2
      refine ⟨by simp, .inl ⟨_, _, rfl, run_takeDeferred (w := w3) HK3.out, ?_⟩⟩
      refine ⟨_, results_none rfl _ _ _, ?_⟩
      exact HEN.out
end Go.Proofs.YtodedlnpokagfaaDoor


/-
  Layer 4: Out.Int, Flag, limb, Bytes.
-/
set_option linter.unusedVariables false
set_option linter.unusedSimpArgs false
namespace Go.Proofs.YtodedlnpokagfaaDoor
open Go.RowKit Rep

theorem uN_wrap (n : Int) : IntKind.u64.wrap n = (Pk.uN n : Int) := by
  unfold Pk.uN
  simp only [IntKind.wrap, IntKind.bits, IntKind.signed]
  simp
  omega
theorem Plus.lt {S : Nat → Prop} {w w' : World} (hS : ∀ j, S j → j < w.heap.size) (h : w.heap.size ≤ w'.heap.size) : ∀ j, Plus S w w' j → j < w'.heap.size := fun j hj => by
  rcases hj with hj | hj
  · have := hS j hj; omega
  · exact hj.2
theorem PutsO.then' {w w1 w2 : World} {S : Nat → Prop} {o : Nat} {bs : List Nat} {e : Ending} (hc : Chg S w w1) (h : PutsO o (Plus S w w1) bs w1 e w2) : PutsO o S bs w e w2 := by
  obtain ⟨h1, h2, h3⟩ := h
  have h4 := hc.size
  have h5 := h3.out.size
  refine ⟨h1, Lib.hid (h2.out.mono fun k hk => ?_), Lib.hid (hc.trans h3.out)⟩
  rcases hk with (hk | hk) | hk
  · exact .inl hk
  · exact .inr ⟨hk.1, by omega⟩
  · exact .inr ⟨by omega, hk.2⟩

set_option maxRecDepth 100000 in
set_option maxHeartbeats 400000 in
theorem OInt_any {w : World} {o : Nat} {S : Nat → Prop} {bs : List Nat} {n : Int} (h : OutSt w o S bs) (hS : ∀ j, S j → j < w.heap.size) (hl : bs.length ≤ 100000) :
    Calls Tryd.prog 11 #[.pointer (some ⟨o, 0, none⟩), .int .i64 n] w (PutsO o S (bs ++ Pk.encI n) w) := by
  have HC : Hid (Calls Tryd.prog 29 #[.pointer (some ⟨o, 0, none⟩), .int .u64 (Pk.uN n : Int), .int .i64 8] w (PutsO o S (bs ++ Pk.be 8 (Pk.uN n)) w)) := Lib.hid (onumber_any h hS (Pk.uN_lt n) (.inl rfl) hl)
  have hu := uN_wrap n
  clear h hS
  unfold Pk.encI
  generalize Pk.uN n = m at *
  go_enter Tryd.func11, Tryd.ntmps11
  go_wp2_with fail
  refine HC.out.mono ?_
  intro e w1 HP
  have HPP := Lib.hid HP
  obtain ⟨rfl, _, _⟩ := HP
  clear HC
  go_wp2_with fail
  go_end0
  exact HPP.out

/-- What is read stays, if an Out's blocks are others. -/
theorem Reads.chg {w w' : World} {S : Nat → Prop} {a : Option Addr} {vs : List Value} (h : Reads w a vs) (hc : Chg S w w') (hn : ∀ g, blk a = some g → ¬ S g) : Reads w' a vs := by
  rcases h with rfl | ⟨g, off, rfl, h⟩
  · exact .inl rfl
  · refine .inr ⟨g, off, rfl, fun i u hu => ?_⟩
    have h1 := h i u hu
    have h2 := World.block_lt_of_cell? _ _ h1
    unfold World.cell? at h1 ⊢
    rw [hc.block g h2 (hn g rfl)]
    exact h1

end Go.Proofs.YtodedlnpokagfaaDoor


/-
  Layer 4: pack.Put at limbs and at ints.
-/
set_option linter.unusedVariables false
set_option linter.unusedSimpArgs false
namespace Go.Proofs.YtodedlnpokagfaaDoor
open Go.RowKit Rep

theorem uN_iN {m : Nat} (h : m < 18446744073709551616) : Pk.uN (Pk.iN m) = m := by unfold Pk.uN Pk.iN; split <;> omega
theorem OIntR_any {w : World} {o : Nat} {S : Nat → Prop} {bs : List Nat} {m : Nat} (h : OutSt w o S bs) (hS : ∀ j, S j → j < w.heap.size) (hm : m < 18446744073709551616) (hl : bs.length ≤ 100000) :
    Calls Tryd.prog 11 #[.pointer (some ⟨o, 0, none⟩), .int .i64 (Pk.iN m)] w (PutsO o S (bs ++ Pk.be 8 m) w) := by
  have := OInt_any (n := Pk.iN m) h hS hl
  unfold Pk.encI at this
  rwa [uN_iN hm] at this
theorem flat_len (k : Nat) (xs : List Nat) : (xs.flatMap (Pk.be k)).length = k * xs.length := by
  induction xs with
  | nil => simp
  | cons x xs ih => simp [Pk.be_length, ih, Nat.mul_add]; omega
theorem flat_take {k : Nat} {xs : List Nat} {j : Nat} (h : j < xs.length) : (xs.take (j + 1)).flatMap (Pk.be k) = (xs.take j).flatMap (Pk.be k) ++ Pk.be k (xs.getD j 0) := by
  rw [List.take_succ_eq_append_getElem h, List.flatMap_append, List.getD_eq_getElem?_getD, List.getElem?_eq_getElem h]
  simp
theorem Reads.chg' {w w' : World} {S : Nat → Prop} {a : Option Addr} {f : Nat → Value} {xs : List Nat} (h : Reads w a (xs.map f)) (hc : Chg S w w') (hn : xs = [] ∨ ∀ g, blk a = some g → ¬ S g) : Reads w' a (xs.map f) := by
  rcases hn with rfl | hn
  · exact .inl rfl
  · exact h.chg hc hn
/-- Behind j rounds. -/
structure PtAt (w : World) (o : Nat) (S : Nat → Prop) (bs : List Nat) (wr : World) : Prop where
  out : OutSt wr o (Plus S w wr) bs
  chg : Chg S w wr
theorem PutsO.pt {w w1 : World} {o : Nat} {S : Nat → Prop} {bs : List Nat} {e : Ending} (h : PutsO o S bs w e w1) : PtAt w o S bs w1 := ⟨h.2.1.out, h.2.2.out⟩
theorem PtAt.next {w wr w2 : World} {o : Nat} {S : Nat → Prop} {bs cs : List Nat} {e : Ending} (h : PtAt w o S bs wr) (k : PutsO o (Plus S w wr) cs wr e w2) : PtAt w o S cs w2 := (PutsO.then' h.chg k).pt

end Go.Proofs.YtodedlnpokagfaaDoor


/-
  The document's Neg, Div, Add, Cmp of ratios; Fits.
-/
set_option linter.unusedVariables false
set_option linter.unusedSimpArgs false
namespace Go.Proofs.YtodedlnpokagfaaDoor
open Go.RowKit Rep

theorem Below.drew1 {B : Nat} {w W : World} (h : Below B w W) : Below B w W.drew := ⟨h.os, h.tape, h.output, h.size, h.block⟩
/-- Two new blocks. -/
theorem boxes2 (w : World) (v1 v2 : Array Value) (t1 t2 : TypeId) : ∃ W0, W0 = ((w.alloc (.cells v1 t1)).alloc (.cells v2 t2)) ∧ Below w.heap.size w W0 ∧
    W0.heap[w.heap.size]? = some (.cells v1 t1 (0, 0)) ∧ W0.heap[w.heap.size + 1]? = some (.cells v2 t2 (0, 0)) ∧ W0.heap.size = w.heap.size + 1 + 1 := by
  refine ⟨_, rfl, ((Below.refl _ _).alloc (Nat.le_refl _) _).alloc (by simp) _, ?_, ?_, by simp⟩
  · rw [Below.heap_alloc _ _ _ (by simp)]; exact heap_alloc_new w _
  · simpa using heap_alloc_new (w.alloc (.cells v1 t1)) (.cells v2 t2)

theorem subD_from {W0 : World} {ax ay : Option Addr} {cx cy n m : Nat} (hx : DAt W0 ax cx n) (hy : DAt W0 ay cy m) (lx : (D n).length ≤ 1000000) (ly : (D m).length ≤ 1000000) (W : World) (h : Below W0.heap.size W0 W) :
    Calls Tryd.prog 76 #[.slice ax (D n).length cx, .slice ay (D m).length cy] W (PostD W0 W (n - m)) := by
  refine (SubD_any ax ay cx cy n m W (hx.kept h) (hy.kept h) (by omega) (by omega)).mono ?_
  rintro e w' ⟨a, c, rfl, hd, hb, _⟩
  exact ⟨a, c, rfl, hd, h.trans (hb.mono h.size), hb⟩
theorem cmpD_from {W0 : World} {ax ay : Option Addr} {cx cy n m : Nat} (hx : DAt W0 ax cx n) (hy : DAt W0 ay cy m) (lx : (D n).length ≤ 1000000) (ly : (D m).length ≤ 1000000) :
    Calls Tryd.prog 75 #[.slice ax (D n).length cx, .slice ay (D m).length cy] W0 (GivesInt (cmpI n m) W0) := by
  refine (CmpD_any ax ay cx cy n m W0 hx hy (by omega) (by omega)).mono ?_
  rintro e w' ⟨rfl, nd, rfl⟩
  exact ⟨rfl, Below.drewN' (Below.refl _ _) nd⟩
theorem D_add {n m a b : Nat} (h1 : (D n).length ≤ a) (h2 : (D m).length ≤ b) : (D (n + m)).length ≤ max a b + 1 := by
  rw [D_len] at *
  have p1 : 10 ^ a ≤ 10 ^ max a b := Nat.pow_le_pow_right (by omega) (by omega)
  have p2 : 10 ^ b ≤ 10 ^ max a b := Nat.pow_le_pow_right (by omega) (by omega)
  rw [Nat.pow_succ]
  omega

/-- Behind the three products: the last region of the document's sum, whichever it is. -/
structure AddW (w : World) (x y : Rat) (A B M : Nat) (a1 : Option Addr) (c1 : Nat) (a2 : Option Addr) (c2 : Nat) (a3 : Option Addr) (c3 : Nat) (vx1 vx2 vy1 vy2 : Value) (W : World) : Prop where
  below : Below w.heap.size w W
  x : W.heap[w.heap.size]? = some (.cells #[.bool (ngQ x), vx1, vx2] 88 (0, 0))
  y : W.heap[w.heap.size + 1]? = some (.cells #[.bool (ngQ y), vy1, vy2] 88 (0, 0))
  r : W.heap[w.heap.size + 1 + 1]? = some (.cells #[.bool false, .slice none 0 0, .slice none 0 0] 88 (0, 0))
  a : DAt W a1 c1 A
  b : DAt W a2 c2 B
  m : DAt W a3 c3 M

end Go.Proofs.YtodedlnpokagfaaDoor


/-
  ratio.addWholes.
-/
set_option linter.unusedVariables false
set_option linter.unusedSimpArgs false
namespace Go.Proofs.YtodedlnpokagfaaDoor
open Go.RowKit Rep

/-! A bench for what is reckoned on the way, and what its calls change. -/
def StepW (t : Nat) (W0 W : World) : Prop := W0.grownBy W (some t) ∧ Bench W t 2147483647 false
theorem StepW.refl {t : Nat} {W0 : World} (h : Bench W0 t 2147483647 false) : StepW t W0 W0 := ⟨grown_refl _ _, h⟩
theorem StepW.trans {t : Nat} {W0 W1 W2 : World} (h : StepW t W0 W1) (k : StepW t W1 W2) : StepW t W0 W2 :=
  ⟨⟨k.1.os.trans h.1.os, k.1.tape.trans h.1.tape, k.1.output.trans h.1.output, Nat.le_trans h.1.size k.1.size, fun i hi hne => (k.1.block i (Nat.lt_of_lt_of_le hi h.1.size) hne).trans (h.1.block i hi hne)⟩, k.2⟩
theorem StepW.below {t : Nat} {W0 W1 W2 : World} (h : StepW t W0 W1) (k : Below W1.heap.size W1 W2) : StepW t W0 W2 := h.trans ⟨grown_of_below k _, h.2.kept k⟩
theorem StepW.drew {t : Nat} {W0 W1 : World} (h : StepW t W0 W1) : StepW t W0 W1.drew := h.below (below_drew _)
theorem StepW.num {t : Nat} {W0 W : World} {a : Option Addr} {l c n : Nat} (h : StepW t W0 W) (h0 : Bench W0 t 2147483647 false) (hn : NumE W0 a l c n) : NumE W a l c n := hn.bench h0 h.1
theorem StepW.block {t : Nat} {W0 W : World} (h : StepW t W0 W) {r : Nat} {o : Obj} (hr : W0.heap[r]? = some o) (hne : r ≠ t) : W.heap[r]? = some o := (h.1.block r (Array.getElem?_eq_some_iff.1 hr).1 (by simpa using hne)).trans hr
theorem StepW.base {t : Nat} {w W0 W : World} (h : StepW t W0 W) (hb : Below w.heap.size w W0) (ht : w.heap.size ≤ t) : Below w.heap.size w W := hb.grown h.1 hb.size (fun k hk => by cases hk; exact ht)
theorem StepW.tab {t : Nat} {W0 W : World} (h : StepW t W0 W) (h0 : Bench W0 t 2147483647 false) (hT : Tab W0) : Tab W := hT.bench h0 h.1

/-- A number, reckoned on such a bench. -/
def PostW (t : Nat) (W0 W : World) (k n : Nat) (e : Ending) (W' : World) : Prop := ∃ a l c, e = .returned (.slice a l c) ∧ NumE W' a l c n ∧ l ≤ k ∧ StepW t W0 W' ∧ StepW t W W'
theorem GivesOut.w {t n k : Nat} {W0 W W' : World} {e : Ending} (h : GivesOut t 2147483647 false n W e W') (hs : StepW t W0 W) (hl : (L n).length ≤ k) (hk : k ≤ 1000000) : PostW t W0 W k n e W' := by
  obtain ⟨a, c, rfl, hat, hb, hgr⟩ := h
  have ho : outO 2147483647 false n = false := by simp [outO]; omega
  have hN : outN 2147483647 false n = n := by unfold outN; rw [ho]; rfl
  rw [ho] at hb
  rw [hN] at hat ⊢
  exact ⟨a, _, c, rfl, NumE.of hat (by omega), hl, hs.trans ⟨hgr, hb⟩, ⟨hgr, hb⟩⟩
section
variable {W0 : World} {t : Nat} {a b : Option Addr} {la lb ca cb n k : Nat}
end

/-- A call gives an integer. -/
def GivesWh (k : Nat) (s : Bool) (n : Nat) (w : World) (e : Ending) (w' : World) : Prop := ∃ a l c, e = .returned (.agg #[.bool s, .slice a l c]) ∧ NumE w' a l c n ∧ l ≤ k ∧ Below w.heap.size w w'
theorem cells2 {W : World} {r : Nat} {v0 v1 : Value} {t : TypeId} (h : W.heap[r]? = some (.cells #[v0, v1] t (0, 0))) :
    W.cell? ⟨r, 0, none⟩ = some v0 ∧ W.cell? ⟨r, 1, none⟩ = some v1 ∧ W.frozen? ⟨r, 0, none⟩ = false ∧ W.frozen? ⟨r, 1, none⟩ = false := by
  refine ⟨?_, ?_, ?_, ?_⟩
  · simp [World.cell?, h]
  · simp [World.cell?, h]
  · simp [World.frozen?, h]
  · simp [World.frozen?, h]
/-- Limbs aren't where an integer's cells lie. -/
theorem NumE.set2 {W : World} {r : Nat} {a : Option Addr} {l c n : Nat} {s0 : Bool} {v0 : Value} {t : TypeId} (h : NumE W a l c n) (hb : W.heap[r]? = some (.cells #[.bool s0, v0] t (0, 0))) (hv : ∀ d : Nat, v0 ≠ u32v d) (s : Bool) (v1 : Value) : NumE ((W.setCell ⟨r, 0, none⟩ (.bool s)).setCell ⟨r, 1, none⟩ v1) a l c n := by
  obtain ⟨xs, rfl, rfl, hx⟩ := h.ex
  refine ⟨xs, rfl, rfl, ⟨hx.lim, hx.reads.grown (row := some r) (grownBy_set (grownBy_set (grown_refl W _))) ?_, hx.le, hx.cap, hx.len⟩⟩
  rcases hx.reads with hr | ⟨g, off, rfl, hr⟩
  · exact .inl hr
  · by_cases e : xs = []
    · exact .inl (by simp [e])
    · refine .inr fun g' off' hg hbq => ?_
      simp at hg hbq
      obtain ⟨rfl, rfl⟩ := hg
      subst hbq
      have := hr 0 _ (map_getElem? (xs := xs) (f := u32v) (List.length_pos_iff.2 e))
      simp only [World.cell?, hb] at this
      rcases off with _ | _ | off
      · simp [u32v] at this
      · simp at this; exact hv _ this
      · simp at this

/-- Two blocks of two cells stay. -/
theorem keep4 {W0 : World} {t r1 r2 : Nat} {v0 v1 u0 u1 : Value} {ty ty' : TypeId} (h1 : W0.heap[r1]? = some (.cells #[v0, v1] ty (0, 0))) (h2 : W0.heap[r2]? = some (.cells #[u0, u1] ty' (0, 0))) (n1 : r1 ≠ t) (n2 : r2 ≠ t) (W : World) (h : StepW t W0 W) :
    W.cell? ⟨r1, 0, none⟩ = some v0 ∧ W.cell? ⟨r1, 1, none⟩ = some v1 ∧ W.cell? ⟨r2, 0, none⟩ = some u0 ∧ W.cell? ⟨r2, 1, none⟩ = some u1 := by
  obtain ⟨a, b, _⟩ := cells2 (h.block h1 n1)
  obtain ⟨d, e, _⟩ := cells2 (h.block h2 n2)
  exact ⟨a, b, d, e⟩
theorem keep2 {W0 : World} {t r1 : Nat} {v0 v1 : Value} {ty : TypeId} (h1 : W0.heap[r1]? = some (.cells #[v0, v1] ty (0, 0))) (n1 : r1 ≠ t) (W : World) (h : StepW t W0 W) :
    W.cell? ⟨r1, 0, none⟩ = some v0 ∧ W.cell? ⟨r1, 1, none⟩ = some v1 ∧ W.frozen? ⟨r1, 0, none⟩ = false ∧ W.frozen? ⟨r1, 1, none⟩ = false := cells2 (h.block h1 n1)
/-- An integer is written into its result's block. -/
theorem fin_Wh {w W0 : World} {t r k n : Nat} {s : Bool} {ty : TypeId} (hB0 : Below w.heap.size w W0) (hr : w.heap.size ≤ r) (ht : w.heap.size ≤ t) (hrt : r ≠ t) (b3 : W0.heap[r]? = some (.cells #[.bool false, .slice none 0 0] ty (0, 0))) (W : World) (a : Option Addr) (l c : Nat) (hn : NumE W a l c n) (hl : l ≤ k) (hs : StepW t W0 W) :
    GivesWh k s n w (.returned (.agg #[.bool s, .slice a l c])) ((W.setCell ⟨r, 0, none⟩ (.bool s)).setCell ⟨r, 1, none⟩ (.slice a l c)) :=
  ⟨a, l, c, rfl, hn.set2 (hs.block b3 hrt) (fun d h => by simp [u32v] at h) _ _, hl, ((hs.base hB0 ht).setCell (p := ⟨r, 0, none⟩) hr _).setCell (p := ⟨r, 1, none⟩) hr _⟩

/-- Two integers' blocks, written anew. -/
theorem set4 {w W : World} {tt r1 r2 r3 : Nat} {s t s' t' : Bool} {v1 v2 v1' v2' : Value} {ty : TypeId} {o : Obj} (hB : Below w.heap.size w W) (hbe : Bench W tt 2147483647 false) (c1 : W.heap[r1]? = some (.cells #[.bool s, v1] ty (0, 0))) (c2 : W.heap[r2]? = some (.cells #[.bool t, v2] ty (0, 0))) (c3 : W.heap[r3]? = some o)
    (h12 : r1 ≠ r2) (h13 : r1 ≠ r3) (h23 : r2 ≠ r3) (h1t : r1 ≠ tt) (h2t : r2 ≠ tt) (g1 : w.heap.size ≤ r1) (g2 : w.heap.size ≤ r2) (e1 : ∀ d : Nat, v1 ≠ u32v d) (e2 : ∀ d : Nat, v2 ≠ u32v d) :
    ∃ W2, W2 = ((((W.setCell ⟨r1, 0, none⟩ (.bool s')).setCell ⟨r1, 1, none⟩ v1').setCell ⟨r2, 0, none⟩ (.bool t')).setCell ⟨r2, 1, none⟩ v2') ∧ Below w.heap.size w W2 ∧ Bench W2 tt 2147483647 false ∧
      W2.heap[r1]? = some (.cells #[.bool s', v1'] ty (0, 0)) ∧ W2.heap[r2]? = some (.cells #[.bool t', v2'] ty (0, 0)) ∧ W2.heap[r3]? = some o ∧ ∀ {a l c n}, NumE W a l c n → NumE W2 a l c n := by
  have s2 : ∀ (X : World) (r q : Nat) (u v : Value), q ≠ r → ((X.setCell ⟨r, 0, none⟩ u).setCell ⟨r, 1, none⟩ v).heap[q]? = X.heap[q]? := fun X r q u v h => by
    rw [Below.heap_setCell _ _ _ _ (by simpa using h), Below.heap_setCell _ _ _ _ (by simpa using h)]
  have s3 : ∀ (X : World) (r : Nat) (u v u0 v0 : Value), X.heap[r]? = some (.cells #[u0, v0] ty (0, 0)) → ((X.setCell ⟨r, 0, none⟩ u).setCell ⟨r, 1, none⟩ v).heap[r]? = some (.cells #[u, v] ty (0, 0)) := fun X r u v u0 v0 h => by
    simp [World.setCell, Array.getElem?_modify, h]
  refine ⟨_, rfl, ?_, ?_, ?_, ?_, ?_, ?_⟩
  · exact (((hB.setCell (p := ⟨r1, 0, none⟩) g1 _).setCell (p := ⟨r1, 1, none⟩) g1 _).setCell (p := ⟨r2, 0, none⟩) g2 _).setCell (p := ⟨r2, 1, none⟩) g2 _
  · unfold Bench; rw [s2 _ _ _ _ _ (Ne.symm h2t), s2 _ _ _ _ _ (Ne.symm h1t)]; exact hbe
  · rw [s2 _ _ _ _ _ h12]; exact s3 _ _ _ _ _ _ c1
  · exact s3 _ _ _ _ _ _ ((s2 _ _ _ _ _ (Ne.symm h12)).trans c2)
  · rw [s2 _ _ _ _ _ (Ne.symm h23), s2 _ _ _ _ _ (Ne.symm h13)]; exact c3
  · intro a l c n hn
    exact (hn.set2 c1 e1 _ _).set2 ((s2 _ _ _ _ _ (Ne.symm h12)).trans c2) e2 _ _

end Go.Proofs.YtodedlnpokagfaaDoor


/-
  ratio.Add, on a bench that isn't over.
-/
set_option linter.unusedVariables false
set_option linter.unusedSimpArgs false
namespace Go.Proofs.YtodedlnpokagfaaDoor
open Go.RowKit Rep

/-- A number, in new memory; what lay in two worlds ahead is as it was. -/
def PostE (W0 W : World) (k n : Nat) (e : Ending) (W' : World) : Prop := ∃ a l c, e = .returned (.slice a l c) ∧ NumE W' a l c n ∧ l ≤ k ∧ Below W0.heap.size W0 W' ∧ Below W.heap.size W W'
theorem GivesE.post {W0 W W' : World} {k n : Nat} {e : Ending} (h : GivesE k n W e W') (hb : Below W0.heap.size W0 W) : PostE W0 W k n e W' := by
  obtain ⟨a, l, c, rfl, hn, hl, hbb⟩ := h
  exact ⟨a, l, c, rfl, hn, hl, hb.trans (hbb.mono hb.size), hbb⟩
theorem Tab.kept' {w W0 W : World} (h : Tab w) (h0 : Below w.heap.size w W0) (hb : Below W0.heap.size W0 W) : Tab W := (h.kept h0).kept hb
/-- Cells of two boxed ratios stay. -/
theorem keepS6 {W0 : World} {t r1 r2 : Nat} {v0 v1 v2 u0 u1 u2 : Value} {ty ty' : TypeId} (h1 : W0.heap[r1]? = some (.cells #[v0, v1, v2] ty (0, 0))) (h2 : W0.heap[r2]? = some (.cells #[u0, u1, u2] ty' (0, 0))) (n1 : r1 ≠ t) (n2 : r2 ≠ t) (W : World) (h : StepW t W0 W) :
    W.cell? ⟨r1, 0, none⟩ = some v0 ∧ W.cell? ⟨r1, 1, none⟩ = some v1 ∧ W.cell? ⟨r1, 2, none⟩ = some v2 ∧ W.cell? ⟨r2, 0, none⟩ = some u0 ∧ W.cell? ⟨r2, 1, none⟩ = some u1 ∧ W.cell? ⟨r2, 2, none⟩ = some u2 := by
  obtain ⟨a, b, c, _⟩ := cells3 (h.block h1 n1)
  obtain ⟨d, e, f, _⟩ := cells3 (h.block h2 n2)
  exact ⟨a, b, c, d, e, f⟩
theorem StepW.alloc {t : Nat} {W0 W : World} (h : StepW t W0 W) (o : Obj) : StepW t W0 (W.alloc o) := h.below ((Below.refl _ _).alloc (Nat.le_refl _) o)
/-- Behind the sum of the two integers: where it lies, and what it is. -/
abbrev SumIx := Nat × (Option Addr × Nat × Nat) × (Option Addr × Nat × Nat) × (Option Addr × Nat × Nat)
def SumAt (t : Nat) (W1 : World) (s : Bool) (n K : Nat) (i : SumIx) (W' : World) : Prop :=
  W'.heap[i.1]? = some (.cells #[.bool s, .slice i.2.2.2.1 i.2.2.2.2.1 i.2.2.2.2.2] 34 (0, 0)) ∧ NumE W' i.2.2.2.1 i.2.2.2.2.1 i.2.2.2.2.2 n ∧ i.2.2.2.2.1 ≤ K ∧ StepW t W1 W' ∧ W1.heap.size ≤ i.1
theorem SumAt.new {t : Nat} {W1 w5 : World} {s : Bool} {n K : Nat} {x y : Option Addr × Nat × Nat} {a : Option Addr} {l c : Nat} (d : NumE w5 a l c n) (hl : l ≤ K) (h : StepW t W1 w5) : SumAt t W1 s n K (w5.heap.size, x, y, (a, l, c)) (w5.alloc (.cells #[.bool s, .slice a l c] 34)) :=
  ⟨heap_alloc_new w5 _, d.kept ((Below.refl _ _).alloc (Nat.le_refl _) _), hl, h.alloc _, h.1.size⟩
theorem SumAt.set {t X : Nat} {W1 w5 : World} {s : Bool} {n K : Nat} {x y : Option Addr × Nat × Nat} {a : Option Addr} {l c : Nat} (d : NumE w5 a l c n) (hl : l ≤ K) (h : StepW t W1 w5) (hX : w5.heap[X]? = some (.cells #[.bool false, .slice none 0 0] 34 (0, 0))) (hXt : X ≠ t) (hge : W1.heap.size ≤ X) :
    SumAt t W1 s n K (X, x, y, (a, l, c)) ((w5.setCell ⟨X, 0, none⟩ (.bool s)).setCell ⟨X, 1, none⟩ (.slice a l c)) := by
  refine ⟨by simp [World.setCell, Array.getElem?_modify, hX], d.set2 hX (fun d h => by simp [u32v] at h) _ _, hl, ?_, hge⟩
  have hg := h.1
  refine ⟨⟨hg.os, hg.tape, hg.output, by simpa [World.setCell] using hg.size, fun k hk hne => ?_⟩, ?_⟩
  · rw [Below.heap_setCell _ _ _ _ (by simp; omega), Below.heap_setCell _ _ _ _ (by simp; omega)]
    exact hg.block k hk hne
  · have := h.2
    unfold Bench at this ⊢
    rw [Below.heap_setCell _ _ _ _ (by simpa using Ne.symm hXt), Below.heap_setCell _ _ _ _ (by simpa using Ne.symm hXt)]
    exact this

end Go.Proofs.YtodedlnpokagfaaDoor


/-
  ratio.Mul, Div, Sub, on a bench that isn't over.
-/
set_option linter.unusedVariables false
set_option linter.unusedSimpArgs false
namespace Go.Proofs.YtodedlnpokagfaaDoor
open Go.RowKit Rep

/-- Two numbers, in new memory; what lay in two worlds ahead is as it was. -/
def PostC (W0 W : World) (k1 k2 n1 n2 : Nat) (e : Ending) (W' : World) : Prop := ∃ a1 l1 c1 a2 l2 c2, e = .returned (.tuple #[.slice a1 l1 c1, .slice a2 l2 c2]) ∧ NumE W' a1 l1 c1 n1 ∧ NumE W' a2 l2 c2 n2 ∧ l1 ≤ k1 ∧ l2 ≤ k2 ∧ Below W0.heap.size W0 W' ∧ Below W.heap.size W W'
end Go.Proofs.YtodedlnpokagfaaDoor


/-
  ratio.Sub, Div, on a bench that isn't over.
-/
set_option linter.unusedVariables false
set_option linter.unusedSimpArgs false
namespace Go.Proofs.YtodedlnpokagfaaDoor
open Go.RowKit Rep

theorem AtQ.set3 {W : World} {r : Nat} {a1 : Option Addr} {c1 : Nat} {a2 : Option Addr} {c2 : Nat} {q : Rat} (h : AtQ W a1 c1 a2 c2 q) (hb : RatBlock W r) (s : Bool) (v1 v2 : Value) : AtQ (Go.Proofs.YtodedlnpokagfaaDoor.set3 W r s v1 v2) a1 c1 a2 c2 q := ⟨h.num.set3 hb _ _ _, h.den.set3 hb _ _ _⟩
/-- What a bench lets q be is handed on through a block of one's own. -/
theorem GivesQ.through {b m r : Nat} {q : Rat} {w W W' : World} {e : Ending} (h : GivesQ b m q W e W') (hW : w.grownBy W (some b)) (hr : w.heap.size ≤ r) (hrb : b ≠ r) (hbl : Blank W r) :
    ∃ (tt : Bool) (x1 : Option Addr) (x2 x3 : Nat) (y1 : Option Addr) (y2 y3 : Nat), e = .returned (.agg #[.bool tt, .slice x1 x2 x3, .slice y1 y2 y3]) ∧ Blank W' r ∧ W.grownBy W' (some b) ∧ GivesQ b m q w (.returned (ratV tt (.slice x1 x2 x3) (.slice y1 y2 y3))) (set3 W' r tt (.slice x1 x2 x3) (.slice y1 y2 y3)) := by
  obtain ⟨a1, c1, a2, c2, rfl, h1, h3, h4⟩ := h
  have hb' := hbl.grown h4 (Ne.symm hrb)
  exact ⟨_, _, _, _, _, _, _, rfl, hb', h4, a1, c1, a2, c2, rfl, h1.set3 hb'.rat _ _ _, h3.set3 hrb _ _ _, grown_set3 (grownBy_trans_new hW h4) hr _ _ _⟩
theorem GivesQ.zero {b m r : Nat} {w W : World} (hb : Bench w b m false) (hW : Below w.heap.size w W) (hr : w.heap.size ≤ r) (hbl : Blank W r) : GivesQ b m 0 w (.returned (ratV false (.slice none 0 0) (.slice none 0 0))) (set3 W r false (.slice none 0 0) (.slice none 0 0)) := by
  have hrb : b ≠ r := by have := hb.lt; omega
  have ho : ovQ m 0 = false := by simp [ovQ, rO, mg_of_zero, den0, denN, L_zero]
  have hq : outQ m 0 = 0 := by unfold outQ; rw [ho]; rfl
  refine ⟨none, 0, none, 0, by rw [hq]; rfl, by rw [hq]; exact (AtQ.zero W).set3 hbl.rat _ _ _, by rw [ho]; exact (hb.kept hW).set3 hrb _ _ _, grown_set3 (grown_of_below hW _) hr _ _ _⟩

theorem RatX.inv {w W : World} {s : Bool} {a1 a3 : Option Addr} {l1 c1 : Nat} {a2 : Option Addr} {l2 c2 : Nat} {n d d0 : Nat} {q : Rat} {l3 c3 : Nat} (h : RatX w s a1 l1 c1 a2 l2 c2 n d d0 q) (h1 : NumE W a1 l1 c1 n) (h3 : NumE W a3 l3 c3 d) (hl3 : l3 ≤ 10000) (hn : n ≠ 0) : RatX W s a3 l3 c3 a1 l1 c1 d n n q⁻¹ := by
  have hl : l1 ≠ 0 := fun e => hn (by have := h1.lenL; rw [e] at this; exact L_len_zero.1 (by omega))
  refine ⟨h3, h1, by rw [if_neg hl], Nat.pos_of_ne_zero hn, by rw [Nat.gcd_comm]; exact h.cop, ?_, hl3, h.s1⟩
  rw [mkQ_inv s (Nat.pos_of_ne_zero hn) h.pos, h.is]

end Go.Proofs.YtodedlnpokagfaaDoor


/-
  ratio.Sign, Neg, Cmp; Add, Sub, Mul, Div on a bench that is over.
-/
set_option linter.unusedVariables false
set_option linter.unusedSimpArgs false
namespace Go.Proofs.YtodedlnpokagfaaDoor
open Go.RowKit Rep

/-- A call gives 0, and leaves what there was as it was. -/
def GivesZ (w : World) (e : Ending) (w' : World) : Prop := e = .returned (ratV false (.slice none 0 0) (.slice none 0 0)) ∧ Below w.heap.size w w'

/-- On a bench for what is reckoned on the way nothing becomes over. -/
theorem GivesQ.new {t : Nat} {q : Rat} {w W : World} {e : Ending} (h : GivesQ t 2147483647 q w e W) (hs : szQ q ≤ 1000000) (ht : w.heap.size ≤ t) : NewQ q w e W := by
  obtain ⟨a1, c1, a2, c2, rfl, h1, h3, h4⟩ := h
  have ho : ovQ 2147483647 q = false := by unfold szQ at hs; simp [ovQ, rO]; omega
  have hq : outQ 2147483647 q = q := by unfold outQ; rw [ho]; rfl
  rw [hq] at h1 ⊢
  exact ⟨a1, c1, a2, c2, rfl, h1, (Below.refl w.heap.size w).grown h4 (Nat.le_refl _) (fun k hk => by cases hk; exact ht)⟩

end Go.Proofs.YtodedlnpokagfaaDoor


/-
  The document's Cmp of ratios.
-/
set_option linter.unusedVariables false
set_option linter.unusedSimpArgs false
namespace Go.Proofs.YtodedlnpokagfaaDoor
open Go.RowKit Rep

end Go.Proofs.YtodedlnpokagfaaDoor


/-
  Layer 4: the document's In: what it is in memory; take.
-/
set_option linter.unusedVariables false
set_option linter.unusedSimpArgs false
namespace Go.Proofs.YtodedlnpokagfaaDoor
open Go.RowKit Rep

/-- Block x is the document's In in this state. -/
structure XAt (w : World) (x : Nat) (s : Pk.St) (a : Option Addr) (c : Nat) (B : List Nat) (at' : Nat) : Prop where
  blk : w.heap[x]? = some (.cells #[.slice a B.length c, .int .i64 (at' : Int), .bool s.isNone] 30 (0, 0))
  bytes : BytesAt w a c B
  low : LowB x a B
  le : at' ≤ B.length
  st : ∀ r, s = some r → r = B.drop at'
def XSt (w : World) (x : Nat) (s : Pk.St) : Prop := ∃ a c B at', XAt w x s a c B at'
section
variable {w w' : World} {x g : Nat} {s : Pk.St} {a : Option Addr} {c : Nat} {B : List Nat} {at' : Nat}
theorem XAt.no (h : XAt w x s a c B at') : NoByte w x := by
  intro off v e
  simp only [World.cell?, h.blk] at e
  rcases off with _ | _ | _ | off <;> simp at e
theorem XSt.no (h : XSt w x s) : NoByte w x := by obtain ⟨a, c, B, at', h⟩ := h; exact h.no
theorem XSt.lt (h : XSt w x s) : x < w.heap.size := by obtain ⟨a, c, B, at', h⟩ := h; exact (Array.getElem?_eq_some_iff.1 h.blk).1
theorem XAt.kept (h : XAt w x s a c B at') (hb : Below w.heap.size w w') : XAt w' x s a c B at' :=
  ⟨(hb.block _ (Array.getElem?_eq_some_iff.1 h.blk).1).trans h.blk, h.bytes.kept hb, h.low, h.le, h.st⟩
theorem XSt.kept (h : XSt w x s) (hb : Below w.heap.size w w') : XSt w' x s := by obtain ⟨a, c, B, at', h⟩ := h; exact ⟨a, c, B, at', h.kept hb⟩
theorem XSt.past (h : XSt w x s) (hn : NoByte w g) (hne : x ≠ g) (hb : w.grownBy w' (some g)) : XSt w' x s := by
  obtain ⟨a, c, B, at', h⟩ := h
  exact ⟨a, c, B, at', (hb.block _ (Array.getElem?_eq_some_iff.1 h.blk).1 (by simpa using hne)).trans h.blk, h.bytes.grown hn hb, h.low, h.le, h.st⟩
theorem XSt.newer (h : XSt w x s) (hne : x < g) (hb : w.grownBy w' (some g)) : XSt w' x s := by
  obtain ⟨a, c, B, at', h⟩ := h
  exact ⟨a, c, B, at', (hb.block _ (Array.getElem?_eq_some_iff.1 h.blk).1 (by simp; omega)).trans h.blk, h.bytes.newer h.low (by omega) hb, h.low, h.le, h.st⟩
theorem XSt.other {row : Option Nat} (h : XSt w x s) (hg : w.grownBy w' row) (hr : ∀ j, row = some j → x < j) : XSt w' x s := by
  cases row with
  | none => exact h.kept (below_of_grown hg)
  | some j => exact h.newer (hr j rfl) hg
theorem XAt.cells (h : XAt w x s a c B at') : w.cell? ⟨x, 0, none⟩ = some (.slice a B.length c) ∧ w.cell? ⟨x, 1, none⟩ = some (.int .i64 (at' : Int)) ∧ w.cell? ⟨x, 2, none⟩ = some (.bool s.isNone) ∧ w.frozen? ⟨x, 0, none⟩ = false ∧ w.frozen? ⟨x, 1, none⟩ = false ∧ w.frozen? ⟨x, 2, none⟩ = false := cells3 h.blk
theorem XAt.left (h : XAt w x s a c B at') : s.isNone = false → Pk.left s = B.length - at' := by
  intro e
  rcases s with _ | r
  · cases e
  · have := h.st r rfl
    subst this
    simp [Pk.left]
/-- It goes wrong. -/
theorem XAt.wrong (h : XAt w x s a c B at') : XSt (w.setCell ⟨x, 2, none⟩ (.bool true)) x none ∧ w.grownBy (w.setCell ⟨x, 2, none⟩ (.bool true)) (some x) := by
  have hg : w.grownBy (w.setCell ⟨x, 2, none⟩ (.bool true)) (some x) := grownBy_set (grown_refl w _)
  refine ⟨⟨a, c, B, at', ?_, h.bytes.grown h.no hg, h.low, h.le, fun r e => by cases e⟩, hg⟩
  have hb := h.blk
  simp only [World.setCell, Array.getElem?_modify, hb]
  simp
/-- It goes on. -/
theorem XAt.step (h : XAt w x s a c B at') {n : Nat} (hn : at' + n ≤ B.length) (hs : s.isNone = false) :
    XSt (w.setCell ⟨x, 1, none⟩ (.int .i64 ((at' : Int) + (n : Int)))) x (Pk.cutN n s) ∧ w.grownBy (w.setCell ⟨x, 1, none⟩ (.int .i64 ((at' : Int) + (n : Int)))) (some x) := by
  have hg : w.grownBy (w.setCell ⟨x, 1, none⟩ (.int .i64 ((at' : Int) + (n : Int)))) (some x) := grownBy_set (grown_refl w _)
  rcases s with _ | r
  · cases hs
  have hr := h.st r rfl
  subst hr
  have hle : n ≤ (B.drop at').length := by simp; omega
  have hc : Pk.cutN n (some (B.drop at')) = some (B.drop (at' + n)) := by
    unfold Pk.cutN; dsimp only; rw [if_pos hle, List.drop_drop]
  rw [hc]
  refine ⟨⟨a, c, B, at' + n, ?_, h.bytes.grown h.no hg, h.low, hn, fun r e => by cases e; rfl⟩, hg⟩
  have hb := h.blk
  simp only [World.setCell, Array.getElem?_modify, hb]
  simp
end
/-- A call on the document's In gives a value; the In is in this state then, and nothing else has changed. -/
def XTakes (x : Nat) (v : Value) (s : Pk.St) (w : World) (e : Ending) (w' : World) : Prop := e = .returned v ∧ Hid (XSt w' x s) ∧ Hid (w.grownBy w' (some x))
/-- .. gives a list of one's own .. -/
def XTakesL (f : Nat → Value) (x : Nat) (bs : List Nat) (s : Pk.St) (w : World) (e : Ending) (w' : World) : Prop :=
  ∃ a c, e = .returned (.slice a bs.length c) ∧ Hid (Reads w' a (bs.map f)) ∧ Hid (bs.length ≤ c ∧ c ≤ maxLen) ∧ Hid (∀ j, blk a = some j → w.heap.size ≤ j) ∧ Hid (XSt w' x s) ∧ Hid (w.grownBy w' (some x))
theorem OwnR.start (E : TypeId) (f : Nat → Value) (w : World) : OwnR E f w.heap.size (w.alloc (.cells #[] E)) (some ⟨w.heap.size, 0, none⟩) 0 [] :=
  ⟨by simp [maxLen], .inr ⟨_, rfl, Nat.le_refl _, #[], heap_alloc_new w _, rfl, by simp, by simp⟩⟩
theorem BytesAt.part {w : World} {p : Addr} {c k n : Nat} {bs : List Nat} (h : BytesAt w (some p) c bs) (hk : k + n ≤ bs.length) : BytesAt w (some (p.add k)) (c - k) ((bs.drop k).take n) := by
  have := (h.drop (k := k) (by omega))
  have h2 := this.take (k := n) (by simp; omega)
  exact ⟨h2.reads, h2.byt, by have := h.le; simp; omega, by have := h.cap; omega, h2.len⟩
theorem BytesAt.sub {w : World} {a : Option Addr} {c k n : Nat} {bs : List Nat} (h : BytesAt w a c bs) (hk : k + n ≤ bs.length) : Reads w (if c = k then a else Option.map (fun x => x.add k) a) (((bs.drop k).take n).map u8v) := by
  by_cases hn : n = 0
  · subst hn; exact .inl (by simp)
  · have hc : c ≠ k := by have := h.le; omega
    rw [if_neg hc]
    rcases a with _ | p
    · rcases h.reads with h0 | ⟨_, _, h0, _⟩
      · have : bs = [] := by simpa using h0
        subst this; simp at hk; omega
      · cases h0
    · exact (h.part hk).reads
/-- What take leaves behind. -/
theorem xtake_end {w w2 : World} {x n : Nat} {s : Pk.St} {a : Option Addr} {c : Nat} {B : List Nat} {at' : Nat} (h : XAt w x s a c B at') (hs : s.isNone = false) (hn : at' + n ≤ B.length) {a' : Option Addr} {c' : Nat} {E : TypeId} {o : Obj}
    (hown : OwnR E u8v w.heap.size w2 a' c' ([] ++ (B.drop at').take n)) (hg : (w.alloc o).grownBy w2 (some w.heap.size)) :
    XTakesL u8v x (Pk.cutV n s) (Pk.cutN n s) w (.returned (.slice a' (0 + n) c')) (w2.setCell ⟨x, 1, none⟩ (.int .i64 ((at' : Int) + (n : Int)))) := by
  have hx := (Array.getElem?_eq_some_iff.1 h.blk).1
  have hb : Below w.heap.size w w2 := ((Below.refl w.heap.size w).alloc (Nat.le_refl _) o).grown hg (by simp) (fun j e => by cases e; exact Nat.le_refl _)
  have h2 := (h.kept hb).step hn hs
  have hl := h.left hs
  have hv : Pk.cutV n s = (B.drop at').take n := by
    rcases s with _ | r
    · cases hs
    · have := h.st r rfl
      subst this
      unfold Pk.cutV; dsimp only
      rw [if_pos (by simp; omega)]
  have hlen : ((B.drop at').take n).length = n := by simp; omega
  rw [List.nil_append] at hown
  have hown2 := hown.grown h2.2 (by
    cases a' with
    | none => exact .inl rfl
    | some p => exact .inr fun e => by have := hown.blkB x e; omega)
  refine ⟨a', c', by rw [hv, hlen, Nat.zero_add], Lib.hid (by rw [hv]; exact hown2.reads), Lib.hid (by rw [hv]; exact ⟨hown2.le, hown2.1⟩), Lib.hid (fun j e => hown.blkB j e), Lib.hid h2.1, Lib.hid ?_⟩
  exact grownBy_trans_new (grown_of_below hb _) h2.2
theorem XTakesL.after {f : Nat → Value} {x : Nat} {bs : List Nat} {s : Pk.St} {w w1 : World} {e : Ending} {w' : World} (h : XTakesL f x bs s w1 e w') (hb : Below w.heap.size w w1) : XTakesL f x bs s w e w' := by
  obtain ⟨a, c, h1, h2, h3, h4, h5, h6⟩ := h
  exact ⟨a, c, h1, h2, h3, Lib.hid (fun j e => by have := h4.out j e; have := hb.size; omega), h5, Lib.hid (grownBy_trans_new (grown_of_below hb _) h6.out)⟩

set_option maxRecDepth 100000 in
set_option maxHeartbeats 4000000 in
theorem xtake_no {w : World} {x n : Nat} {s : Pk.St} (h : XSt w x s) (hn : n ≤ 140737488355328) (hno : Pk.left s < n ∨ s.isNone = true) :
    Calls Tryd.prog 33 #[.pointer (some ⟨x, 0, none⟩), .int .i64 (n : Int)] w (XTakesL u8v x [] none w) := by
  obtain ⟨a, c, B, at', h⟩ := h
  obtain ⟨c0, c1, c2, f0, f1, f2⟩ := h.cells
  have HH := Lib.hid h
  have hle := h.le
  have hcl := h.bytes.le
  have hcc := h.bytes.len
  have HL := Lib.hid h.left
  have hd0 : decide ((n : Int) < 0) = false := decide_eq_false (by omega)
  clear h
  have HEND : Hid (∀ nq o, XTakesL u8v x [] none w (.returned (.slice (some ⟨w.heap.size, 0, none⟩) 0 0)) (((w.drewN nq).setCell ⟨x, 2, none⟩ (.bool true)).alloc (.cells #[] o))) := Lib.hid fun nq o => by
    have hb : Below w.heap.size w (w.drewN nq) := Below.drewN' (Below.refl _ _) nq
    have h2 := (HH.out.kept hb).wrong
    have hb3 := (Below.refl ((w.drewN nq).setCell ⟨x, 2, none⟩ (.bool true)).heap.size ((w.drewN nq).setCell ⟨x, 2, none⟩ (.bool true))).alloc (Nat.le_refl _) (.cells #[] o)
    refine ⟨_, _, rfl, Lib.hid (.inl rfl), Lib.hid ⟨Nat.le_refl _, by simp [maxLen]⟩, Lib.hid (fun j e => by cases e; exact Nat.le_refl _), Lib.hid (h2.1.kept hb3), Lib.hid ?_⟩
    exact grownBy_trans_new (grownBy_trans_new (grown_of_below hb _) h2.2) (grown_of_below hb3 _)
  cases hs : s.isNone
  case true =>
    rw [hs] at c2
    clear HL hs hno HH
    go_enter Tryd.func33, Tryd.ntmps33
    go_wp2_with fail
    go_quiet (fail)
    go_wp2_with fail
    go_ret
    exact HEND.out nq _
  case false =>
    rw [hs] at c2
    have hov : decide (((B.length : Int) - (at' : Int)) < (n : Int)) = true := decide_eq_true (by have := HL.out hs; rcases hno with h | h; omega; rw [hs] at h; cases h)
    clear HL hs hno HH
    go_enter Tryd.func33, Tryd.ntmps33
    go_wp2_with fail
    go_quiet (fail)
    go_wp2_with fail
    go_ret
    exact HEND.out nq _

set_option maxRecDepth 100000 in
set_option maxHeartbeats 8000000 in
theorem xtake_yes {w : World} {x n : Nat} {s : Pk.St} (h : XSt w x s) (hn : n ≤ Pk.left s) (hs : s.isNone = false) :
    Calls Tryd.prog 33 #[.pointer (some ⟨x, 0, none⟩), .int .i64 (n : Int)] w (XTakesL u8v x (Pk.cutV n s) (Pk.cutN n s) w) := by
  obtain ⟨a, c, B, at', h⟩ := h
  obtain ⟨c0, c1, c2, f0, f1, f2⟩ := h.cells
  have HH := Lib.hid h
  have hle := h.le
  have hcl := h.bytes.le
  have hcc := h.bytes.len
  have hl := h.left hs
  have hd0 : decide ((n : Int) < 0) = false := decide_eq_false (by omega)
  have hov : decide (((B.length : Int) - (at' : Int)) < (n : Int)) = false := decide_eq_false (by omega)
  have HS := Lib.hid hs
  rw [hs] at c2
  have hnl : at' + n ≤ B.length := by omega
  clear h hl hs hn
  go_enter Tryd.func33, Tryd.ntmps33
  go_wp2_with fail
  go_quiet (fail)
  go_wp2_with fail
  obtain ⟨w1, hw1⟩ : ∃ w1, w1 = w.drewN nq := ⟨_, rfl⟩
  have hb1 : Below w.heap.size w w1 := by rw [hw1]; exact Below.drewN' (Below.refl _ _) nq
  rw [← hw1]
  have HW1 := Lib.hid hw1
  have HH1 := Lib.hid (HH.out.kept hb1)
  have HB1 := Lib.hid hb1
  clear hw1 hb1 HH c0 c1 c2 f0 f1 f2
  obtain ⟨c0, c1, c2, f0, f1, f2⟩ := HH1.out.cells
  have hadd : IntKind.i64.wrap ((at' : Int) + (n : Int)) = (at' : Int) + (n : Int) := IntWalk.i64_in _ (by omega)
  have hge : 0 ≤ (at' : Int) + (n : Int) := by omega
  have htn : ((at' : Int) + (n : Int)).toNat = at' + n := by omega
  have hcn : (at' : Int) + (n : Int) ≤ (c : Int) := by omega
  obtain ⟨p2, hif⟩ : ∃ p2, (if c = at' then a else Option.map (fun x => x.add at') a) = p2 := ⟨_, rfl⟩
  have HLN : Hid (((B.drop at').take n).length = n) := Lib.hid (by simp; omega)
  have HRD : Hid (Reads (w1.drew.alloc (.cells #[] 5)) p2 (((B.drop at').take n).map u8v)) := Lib.hid (by
    rw [← hif]
    exact ((HH1.out.bytes.sub hnl).kept (below_drew w1)).kept ((Below.refl _ _).alloc (Nat.le_refl _) _))
  have HC0 : Hid ((w1.drew.alloc (.cells #[] 5)).cell? ⟨x, 0, none⟩ = some (.slice a B.length c) ∧ (w1.drew.alloc (.cells #[] 5)).cell? ⟨x, 1, none⟩ = some (.int .i64 (at' : Int))) := Lib.hid (by
    have := (HH1.out.kept (below_drew w1)).kept ((Below.refl _ _).alloc (Nat.le_refl _) (.cells #[] 5))
    exact ⟨this.cells.1, this.cells.2.1⟩)
  have HC1 : Hid (∀ w6, (w1.drew.alloc (.cells #[] 5)).grownBy w6 (some w1.drew.heap.size) → w6.cell? ⟨x, 0, none⟩ = some (.slice a B.length c) ∧ w6.cell? ⟨x, 1, none⟩ = some (.int .i64 (at' : Int))) := Lib.hid fun w6 hg => by
    have hxl : x < w1.heap.size := (Array.getElem?_eq_some_iff.1 HH1.out.blk).1
    exact ⟨hg.cell HC0.out.1 (by simp; have : w1.drew.heap.size = w1.heap.size := rfl; omega), hg.cell HC0.out.2 (by simp; have : w1.drew.heap.size = w1.heap.size := rfl; omega)⟩
  refine wp_region_held_drew (S := (fun w' => w'.cell? ⟨x, 0, none⟩ = some (.slice a B.length c) ∧ w'.cell? ⟨x, 1, none⟩ = some (.int .i64 (at' : Int)))) (by kernel_rfl) ?_ (fun hHeld => ?_)
  · exact ⟨c0, c1⟩
  refine wpAnyH_take (i := 1) (v := ?_) (by rfl) (by kernel_rfl) (by kernel_rfl) (by kernel_rfl) (by exact fun _ _ _ h => h) (Or.inl ⟨by rfl, ?_⟩) hHeld ?_
  rotate_left 1
  · intro w' hSw
    go_simp
    try with_reducible rfl
  try simp only [Act.put, List.setIfInBounds_toArray, List.set_cons_zero, List.set_cons_succ, List.getElem_toArray, List.getElem_cons_zero, List.getElem_cons_succ]
  refine wpAnyH_take (i := 2) (v := ?_) (by rfl) (by kernel_rfl) (by kernel_rfl) (by kernel_rfl) (by exact fun _ _ _ h => h) (Or.inl ⟨by rfl, ?_⟩) hHeld ?_
  rotate_left 1
  · intro w' hSw
    go_simp
    try with_reducible rfl
  try simp only [Act.put, List.setIfInBounds_toArray, List.set_cons_zero, List.set_cons_succ, List.getElem_toArray, List.getElem_cons_zero, List.getElem_cons_succ]
  refine wpAnyH_take (i := 3) (v := ?_) (by rfl) (by kernel_rfl) (by kernel_rfl) (by kernel_rfl) (by exact fun _ _ _ h => h) (Or.inl ⟨by rfl, ?_⟩) hHeld ?_
  rotate_left 1
  · intro w' hSw
    go_simp
    try with_reducible rfl
  try simp only [Act.put, List.setIfInBounds_toArray, List.set_cons_zero, List.set_cons_succ, List.getElem_toArray, List.getElem_cons_zero, List.getElem_cons_succ]
  refine wpAnyH_take (i := 4) (v := ?_) (by rfl) (by kernel_rfl) (by kernel_rfl) (by kernel_rfl) (by exact fun _ _ _ h => h) (Or.inl ⟨by rfl, ?_⟩) hHeld ?_
  rotate_left 1
  · intro w' hSw
    go_simp
    try with_reducible rfl
  try simp only [Act.put, List.setIfInBounds_toArray, List.set_cons_zero, List.set_cons_succ, List.getElem_toArray, List.getElem_cons_zero, List.getElem_cons_succ]
  refine wpAnyH_take (i := 5) (v := ?_) (by rfl) (by kernel_rfl) (by kernel_rfl) (by kernel_rfl) (by exact fun _ _ _ h => h) (Or.inl ⟨by rfl, ?_⟩) hHeld ?_
  rotate_left 1
  · intro w' hSw
    go_simp
    try with_reducible rfl
  try simp only [Act.put, List.setIfInBounds_toArray, List.set_cons_zero, List.set_cons_succ, List.getElem_toArray, List.getElem_cons_zero, List.getElem_cons_succ]
  refine wpAnyH_take (i := 6) (v := ?_) (by rfl) (by kernel_rfl) (by kernel_rfl) (by kernel_rfl) (by exact fun _ _ _ h => h) (Or.inl ⟨by rfl, ?_⟩) hHeld ?_
  rotate_left 1
  · intro w' hSw
    go_simp
    try with_reducible rfl
  try simp only [Act.put, List.setIfInBounds_toArray, List.set_cons_zero, List.set_cons_succ, List.getElem_toArray, List.getElem_cons_zero, List.getElem_cons_succ]
  refine wpAnyH_take (i := 7) (v := ?_) (by rfl) (by kernel_rfl) (by kernel_rfl) (by kernel_rfl) (by exact fun _ _ _ h => h) (Or.inl ⟨by rfl, ?_⟩) hHeld ?_
  rotate_left 1
  · intro w' hSw
    go_simp
    try with_reducible rfl
  try simp only [Act.put, List.setIfInBounds_toArray, List.set_cons_zero, List.set_cons_succ, List.getElem_toArray, List.getElem_cons_zero, List.getElem_cons_succ]
  refine wpAnyH_take (i := 8) (v := ?_) (by rfl) (by kernel_rfl) (by kernel_rfl) (by kernel_rfl) (by exact fun _ _ _ h => h) (Or.inl ⟨by rfl, ?_⟩) hHeld ?_
  rotate_left 1
  · intro w' hSw
    go_simp
    try with_reducible rfl
  try simp only [Act.put, List.setIfInBounds_toArray, List.set_cons_zero, List.set_cons_succ, List.getElem_toArray, List.getElem_cons_zero, List.getElem_cons_succ]
  refine wpAnyH_take (i := 9) (v := ?_) (by rfl) (by kernel_rfl) (by kernel_rfl) (by kernel_rfl) (by exact fun _ _ _ h => h) (Or.inl ⟨by rfl, ?_⟩) hHeld ?_
  rotate_left 1
  · intro w' hSw
    go_simp
    try with_reducible rfl
  try simp only [Act.put, List.setIfInBounds_toArray, List.set_cons_zero, List.set_cons_succ, List.getElem_toArray, List.getElem_cons_zero, List.getElem_cons_succ]
  refine wpAnyH_take (i := 10) (v := ?_) (by rfl) (by kernel_rfl) (by kernel_rfl) (by kernel_rfl) (by exact fun _ _ _ h => h) (Or.inl ⟨by rfl, ?_⟩) hHeld ?_
  rotate_left 1
  · intro w' hSw
    go_simp
    try with_reducible rfl
  try simp only [Act.put, List.setIfInBounds_toArray, List.set_cons_zero, List.set_cons_succ, List.getElem_toArray, List.getElem_cons_zero, List.getElem_cons_succ]
  refine wpAnyH_take (i := 11) (v := ?_) (by rfl) (by kernel_rfl) (by kernel_rfl) (by kernel_rfl) (by exact fun _ _ _ h => h) (Or.inl ⟨by rfl, ?_⟩) hHeld ?_
  rotate_left 1
  · intro w' hSw
    go_simp
    try with_reducible rfl
  try simp only [Act.put, List.setIfInBounds_toArray, List.set_cons_zero, List.set_cons_succ, List.getElem_toArray, List.getElem_cons_zero, List.getElem_cons_succ]
  refine wpAnyH_take (i := 12) (v := ?_) (by rfl) (by kernel_rfl) (by kernel_rfl) (by kernel_rfl) (by exact fun _ _ _ h => h) (Or.inl ⟨by rfl, ?_⟩) hHeld ?_
  rotate_left 1
  · intro w' hSw
    go_simp
    try with_reducible rfl
  try simp only [Act.put, List.setIfInBounds_toArray, List.set_cons_zero, List.set_cons_succ, List.getElem_toArray, List.getElem_cons_zero, List.getElem_cons_succ]
  refine wpAnyH_take (i := 13) (v := ?_) (by rfl) (by kernel_rfl) (by kernel_rfl) (by kernel_rfl) (by exact fun _ _ _ h => h) (Or.inl ⟨by rfl, ?_⟩) hHeld ?_
  rotate_left 1
  · intro w' hSw
    go_simp
    try with_reducible rfl
  try simp only [Act.put, List.setIfInBounds_toArray, List.set_cons_zero, List.set_cons_succ, List.getElem_toArray, List.getElem_cons_zero, List.getElem_cons_succ]
  refine wpAnyH_take (i := 14) (v := ?_) (by rfl) (by kernel_rfl) (by kernel_rfl) (by kernel_rfl) (by exact fun _ _ _ h => h) (Or.inl ⟨by rfl, ?_⟩) hHeld ?_
  rotate_left 1
  · intro w' hSw
    go_simp
    try with_reducible rfl
  try simp only [Act.put, List.setIfInBounds_toArray, List.set_cons_zero, List.set_cons_succ, List.getElem_toArray, List.getElem_cons_zero, List.getElem_cons_succ]
  refine wpAnyH_take (i := 15) (v := ?_) (by rfl) (by kernel_rfl) (by kernel_rfl) (by kernel_rfl) (by exact fun _ _ _ h => h) (Or.inl ⟨by rfl, ?_⟩) hHeld ?_
  rotate_left 1
  · intro w' hSw
    go_simp
    try with_reducible rfl
  try simp only [Act.put, List.setIfInBounds_toArray, List.set_cons_zero, List.set_cons_succ, List.getElem_toArray, List.getElem_cons_zero, List.getElem_cons_succ]
  refine wpAnyH_ready (rs := [0]) (by kernel_rfl) (by simp) ?_
  refine AllReadyH.cons (by rfl) (fun K hK => ?_) AllReadyH.nil
  go_simp
  refine hK.out _ _ ?_ (fun hHeld => ?_)
  · exact ⟨HC0.out.1, HC0.out.2⟩
  clear hK K
  try simp only [Act.put, List.setIfInBounds_toArray, List.set_cons_zero, List.set_cons_succ, List.getElem_toArray, List.getElem_cons_zero, List.getElem_cons_succ]
  refine wpAnyH_ready (rs := [16]) (by kernel_rfl) (by simp) ?_
  refine AllReadyH.cons (by rfl) (fun K hK => ?_) AllReadyH.nil
  refine step_append_row rfl (.tmp 32) (.tmp 47) 22 rfl 5 (.int .u8 0) 1 Tryd.underlying22 info_u8 rfl u8v u8_one w1.drew.heap.size (some ⟨w1.drew.heap.size, 0, none⟩) 0 0 [] rfl (OwnR.start _ _ _) rfl p2 n (c - at') ((B.drop at').take n) rfl HLN.out HRD.out (by unfold maxLen; omega) (by omega) (by simp) ?_
  intro a' c' w6 hown hgrw hnew
  refine hK.out _ _ ?_ (fun hHeld => ?_)
  · exact HC1.out _ hgrw
  clear hK K
  try simp only [Act.put, List.setIfInBounds_toArray, List.set_cons_zero, List.set_cons_succ, List.getElem_toArray, List.getElem_cons_zero, List.getElem_cons_succ]
  refine wpAnyH_take (i := 17) (v := ?_) (by rfl) (by kernel_rfl) (by kernel_rfl) (by kernel_rfl) (by exact fun _ _ _ h => h) (Or.inl ⟨by rfl, ?_⟩) hHeld ?_
  rotate_left 1
  · intro w' hSw
    go_simp
    try with_reducible rfl
  try simp only [Act.put, List.setIfInBounds_toArray, List.set_cons_zero, List.set_cons_succ, List.getElem_toArray, List.getElem_cons_zero, List.getElem_cons_succ]
  refine wpAnyH_done (by kernel_rfl) ?_ _
  clear hHeld
  have hb6 : Below w1.drew.heap.size w1.drew w6 := ((Below.refl w1.drew.heap.size w1.drew).alloc (Nat.le_refl _) _).grown hgrw (by simp) (fun j e => by cases e; exact Nat.le_refl _)
  have HX6 := Lib.hid ((xtake_end (HH1.out.kept (below_drew w1)) HS.out hnl hown hgrw).after (HB1.out.trans ((below_drew w1).mono HB1.out.size)))
  obtain ⟨c0, c1, c2, f0, f1, f2⟩ := ((HH1.out.kept (below_drew w1)).kept hb6).cells
  clear hown hgrw hnew hb6 HH1 HC0 HC1 HRD HLN
  go_wp2_with fail
  go_ret
  rw [Nat.zero_add] at HX6
  exact HX6.out
end Go.Proofs.YtodedlnpokagfaaDoor

