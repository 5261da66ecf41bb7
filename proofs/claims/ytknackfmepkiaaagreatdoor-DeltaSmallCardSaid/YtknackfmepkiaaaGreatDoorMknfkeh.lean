/- By program out of: DelText, DelBy, DelBySub, DelByMul, DelOps, DelOdd, SmMath, SmBase, SmPairs, SmApp, SmBlk, SmAt, SmMeet. -/
import Derived.Test.YtknackfmepkiaaaGreatDoorMleicjm
import Derived.Test.YtknackfmepkiaaaGreatDoorMflfaoc
/-
  Numbers with a delta as texts: the document's and the program's.
-/
set_option linter.unusedVariables false
set_option linter.unusedSimpArgs false
namespace Go.Proofs.YtknackfmepkiaaaGreatDoor
open Go.RowKit Rep


theorem sign_cases (r : Rat) : (r = 0 ∧ cmpQ r 0 = 0) ∨ (mgQ r ≠ 0 ∧ ngQ r = true ∧ cmpQ r 0 = -1) ∨ (mgQ r ≠ 0 ∧ ngQ r = false ∧ cmpQ r 0 = 1) := by
  have h := cmpQ_sub r 0
  rw [show r - 0 = r from by grind] at h
  by_cases h0 : mgQ r = 0
  · rw [if_pos h0] at h
    exact .inl ⟨mg_zero.1 h0, h⟩
  · rw [if_neg h0] at h
    cases hn : ngQ r
    · rw [hn, if_neg (by decide)] at h
      exact .inr (.inr ⟨h0, rfl, h⟩)
    · rw [hn, if_pos rfl] at h
      exact .inr (.inl ⟨h0, rfl, h⟩)
theorem text_neg {r : Rat} (h0 : mgQ r ≠ 0) (h : ngQ r = true) : textQ r = ⟨#[45]⟩ ++ textQ (-r) := by
  unfold textQ
  rw [neg_ng, if_neg h0, h, neg_mg, neg_den]
  cases decide (r.den = 1)
  · rw [textB_more, textB_more, if_pos rfl, if_neg (by decide), ByteArray.append_assoc]
  · rw [textB_one, textB_one, if_pos rfl, if_neg (by decide)]
theorem text_size {q : Rat} (h : szQ q ≤ 100) : (textQ q).size ≤ 5000 := by
  unfold szQ at h
  have h1 := dlen_L (n := mgQ q) (k := 100) (by omega)
  have h2 := dlen_L (n := denN q.den) (k := 100) (by omega)
  have h3 := tN_len (mgQ q)
  have h4 := tN_len (denN q.den)
  have e1 : (⟨#[45]⟩ : ByteArray).size = 1 := rfl
  have e2 : (⟨#[47]⟩ : ByteArray).size = 1 := rfl
  have e3 : (⟨#[]⟩ : ByteArray).size = 0 := rfl
  unfold textQ textB
  rw [ByteArray.size_append]
  split <;> split <;> simp only [ByteArray.size_append, e1, e2, e3] <;> omega
/-- A number with a delta as a text. -/
def textDQ (q r : Rat) : ByteArray := if r = 0 then textQ q else if ngQ r = true then textQ q ++ (textQ r ++ ⟨#[100]⟩) else textQ q ++ ((⟨#[43]⟩ ++ textQ r) ++ ⟨#[100]⟩)

set_option maxRecDepth 100000 in
set_option maxHeartbeats 4000000 in
theorem TextPP {W5 w : World} {xs : Bool} {xa xb : Option Addr} {xl xc xk xe : Nat} {us : Bool} {ua ub : Option Addr} {ul uc uk ue : Nat} {q r : Rat} (hx : VQ q (xs, (xa, xl, xc), (xb, xk, xe)) w) (hu : VQ r (us, (ua, ul, uc), (ub, uk, ue)) w) (zq : szQ q ≤ 100) (zr : szQ r ≤ 100) (hb5 : Below W5.heap.size W5 w) {v : ByteArray} (hv : textDQ q r = v) :
    Calls Tryz.prog 33 #[.agg #[.bool xs, .slice xa xl xc, .slice xb xk xe, .bool us, .slice ua ul uc, .slice ub uk ue]] w (GotV W5 (.string v)) := by
  obtain ⟨W0, hW0⟩ : ∃ W0, W0 = w.alloc (.cells #[.bool xs, .slice xa xl xc, .slice xb xk xe, .bool us, .slice ua ul uc, .slice ub uk ue] 32) := ⟨_, rfl⟩
  have hB0 : Below w.heap.size w W0 := by rw [hW0]; exact (Below.refl _ _).alloc (Nat.le_refl _) _
  have b0 : W0.heap[w.heap.size]? = some (.cells #[.bool xs, .slice xa xl xc, .slice xb xk xe, .bool us, .slice ua ul uc, .slice ub uk ue] 32 (0, 0)) := by rw [hW0]; exact heap_alloc_new w _
  have HK : Hid (∀ W, Below W0.heap.size W0 W → _) := Lib.hid fun W h => cells6 (stay b0 h)
  obtain ⟨ta, hta⟩ : ∃ ta, textQ q = ta := ⟨_, rfl⟩
  obtain ⟨tb, htb⟩ : ∃ tb, textQ r = tb := ⟨_, rfl⟩
  have sa : ta.size ≤ 5000 := by rw [← hta]; exact text_size zq
  have sb : tb.size ≤ 5000 := by rw [← htb]; exact text_size zr
  have HT1 : Hid (∀ W, Below W0.heap.size W0 W → _) := Lib.hid fun W h => gotP_text ((hx.kept hB0).kept h) zq h hta
  have HT2 : Hid (∀ W, Below W0.heap.size W0 W → _) := Lib.hid fun W h => gotP_text ((hu.kept hB0).kept h) zr h htb
  have HBL := Lib.hid (hb5.trans (hB0.mono hb5.size))
  have HW0 := Lib.hid hW0
  obtain ⟨k0, k1, k2, k3, k4, k5, _⟩ := HK.out W0 (Below.refl _ _)
  unfold textDQ at hv
  rw [hta, htb] at hv
  rcases sign_cases r with ⟨h0, hs⟩ | ⟨h0, hn, hs⟩ | ⟨h0, hn, hs⟩
  · have HS : Hid (∀ W, Below W0.heap.size W0 W → _) := Lib.hid fun W h => gotP_sign ((hu.kept hB0).kept h) zr h hs
    rw [if_pos h0] at hv
    subst hv
    clear hW0 hB0 b0 hx hu zq zr hb5 h0 hs hta htb HT2
    go_enter Tryz.func33, Tryz.ntmps33
    go_wp2_with fail
    rw [← HW0.out]
    refine (HT1.out W0 (Below.refl _ _)).mono ?_
    rintro e w3 ⟨rfl, G3⟩
    obtain ⟨k0, k1, k2, k3, k4, k5, _⟩ := HK.out _ G3.out
    clear HT1
    go_wp2_with fail
    refine (HS.out _ G3.out).mono ?_
    rintro e w4 ⟨rfl, G4⟩
    have HE := Lib.hid (HBL.out.trans (G4.out.mono HBL.out.size))
    clear HS G3 G4 HK
    go_wp2_with fail
    go_ret
    exact ⟨rfl, HE⟩
  · have HS : Hid (∀ W, Below W0.heap.size W0 W → _) := Lib.hid fun W h => gotP_sign ((hu.kept hB0).kept h) zr h hs
    have hr0 : r ≠ 0 := fun e => h0 (mg_zero.2 e)
    rw [if_neg hr0, if_pos hn] at hv
    subst hv
    clear hW0 hB0 b0 hx hu zq zr hb5 h0 hs hta htb hr0 hn
    go_enter Tryz.func33, Tryz.ntmps33
    go_wp2_with fail
    rw [← HW0.out]
    refine (HT1.out W0 (Below.refl _ _)).mono ?_
    rintro e w3 ⟨rfl, G3⟩
    obtain ⟨k0, k1, k2, k3, k4, k5, _⟩ := HK.out _ G3.out
    clear HT1
    go_wp2_with fail
    refine (HS.out _ G3.out).mono ?_
    rintro e w4 ⟨rfl, G4⟩
    obtain ⟨k0, k1, k2, k3, k4, k5, _⟩ := HK.out _ G4.out
    have HT3 := Lib.hid (HT2.out _ G4.out)
    clear HS G3 HT2
    go_wp2_with fail
    refine HT3.out.mono ?_
    rintro e w5 ⟨rfl, G5⟩
    have HE := Lib.hid (HBL.out.trans (G5.out.mono HBL.out.size))
    clear HT3 G5 G4 HK
    go_wp2_with fail
    go_ret
    exact ⟨rfl, HE⟩
  · have HS : Hid (∀ W, Below W0.heap.size W0 W → _) := Lib.hid fun W h => gotP_sign ((hu.kept hB0).kept h) zr h hs
    have hr0 : r ≠ 0 := fun e => h0 (mg_zero.2 e)
    rw [if_neg hr0, if_neg (by rw [hn]; decide)] at hv
    subst hv
    clear hW0 hB0 b0 hx hu zq zr hb5 h0 hs hta htb hr0 hn
    go_enter Tryz.func33, Tryz.ntmps33
    go_wp2_with fail
    rw [← HW0.out]
    refine (HT1.out W0 (Below.refl _ _)).mono ?_
    rintro e w3 ⟨rfl, G3⟩
    obtain ⟨k0, k1, k2, k3, k4, k5, _⟩ := HK.out _ G3.out
    clear HT1
    go_wp2_with fail
    refine (HS.out _ G3.out).mono ?_
    rintro e w4 ⟨rfl, G4⟩
    obtain ⟨k0, k1, k2, k3, k4, k5, _⟩ := HK.out _ G4.out
    have HT3 := Lib.hid (HT2.out _ G4.out)
    clear HS G3 HT2
    go_wp2_with fail
    refine HT3.out.mono ?_
    rintro e w5 ⟨rfl, G5⟩
    have HE := Lib.hid (HBL.out.trans (G5.out.mono HBL.out.size))
    clear HT3 G5 G4 HK
    go_wp2_with fail
    go_ret
    exact ⟨rfl, HE⟩
end Go.Proofs.YtknackfmepkiaaaGreatDoor


/-
  delta.byParts, with each of ratio's Add, Sub and Mul.
-/
set_option linter.unusedVariables false
set_option linter.unusedSimpArgs false
namespace Go.Proofs.YtknackfmepkiaaaGreatDoor
open Go.RowKit Rep


theorem vq_z (W : World) : VQ 0 (false, (none, 0, 0), (none, 0, 0)) W := ⟨by decide, rfl, rfl, AtQ.zero W⟩
theorem grown_set6 {w W : World} {b r : Nat} (h : w.grownBy W (some b)) (hr : w.heap.size ≤ r) (s : Bool) (v1 v2 : Value) (t : Bool) (v3 v4 : Value) : w.grownBy (set6 W r s v1 v2 t v3 v4) (some b) := by
  have hg := set6_grown W r s v1 v2 t v3 v4
  exact ⟨hg.os.trans h.os, hg.tape.trans h.tape, hg.output.trans h.output, Nat.le_trans h.size hg.size, fun k hk hne => (hg.block k (Nat.lt_of_lt_of_le hk h.size) (by simp; omega)).trans (h.block k hk hne)⟩
theorem Bench.set6 {W : World} {b m r : Nat} {o : Bool} (h : Bench W b m o) (hne : b ≠ r) (s : Bool) (v1 v2 : Value) (t : Bool) (v3 v4 : Value) : Bench (Go.Proofs.YtknackfmepkiaaaGreatDoor.set6 W r s v1 v2 t v3 v4) b m o := h.of_block ((set6_grown W r s v1 v2 t v3 v4).block b h.lt (by simpa using hne))
theorem Six.grown {W W' : World} {r b : Nat} {ty : TypeId} (h : Six W r ty) (hg : W.grownBy W' (some b)) (hne : r ≠ b) : Six W' r ty := (hg.block r (Array.getElem?_eq_some_iff.1 h).1 (by simpa using hne)).trans h
theorem VQ.bench {q : Rat} {v : RawR} {W W' : World} {b m : Nat} {o : Bool} (h : VQ q v W) (hb : Bench W b m o) (hg : W.grownBy W' (some b)) : VQ q v W' := ⟨h.e0, h.e1, h.e2, h.lies.bench hb hg⟩
/-- Behind the first call. -/
structure S1 (W0 : World) (b m : Nat) (q : Rat) (o : Bool) (x : RawR) (W : World) : Prop where
  vx : VQ q x W
  bench : Bench W b m o
  grown : W0.grownBy W (some b)
/-- Behind both calls. -/
structure S2 (W0 : World) (b m : Nat) (q r : Rat) (o : Bool) (x y : RawR) (W : World) : Prop where
  vx : VQ q x W
  vy : VQ r y W
  bench : Bench W b m o
  grown : W0.grownBy W (some b)
section
variable {W0 W : World} {b m : Nat} {q r : Rat} {o : Bool} {x y : RawR}
theorem S1.kept {W' : World} (h : S1 W0 b m q o x W) (hb : Below W.heap.size W W') : S1 W0 b m q o x W' := ⟨h.vx.kept hb, h.bench.kept hb, grownBy_trans' h.grown (grown_of_below hb _)⟩
theorem S2.kept {W' : World} (h : S2 W0 b m q r o x y W) (hb : Below W.heap.size W W') : S2 W0 b m q r o x y W' := ⟨h.vx.kept hb, h.vy.kept hb, h.bench.kept hb, grownBy_trans' h.grown (grown_of_below hb _)⟩
theorem S2.set6 {g : Nat} {ty : TypeId} (h : S2 W0 b m q r o x y W) (hb : Six W g ty) (hg : W0.heap.size ≤ g) (hne : b ≠ g) (s : Bool) (v1 v2 : Value) (t : Bool) (v3 v4 : Value) : S2 W0 b m q r o x y (Go.Proofs.YtknackfmepkiaaaGreatDoor.set6 W g s v1 v2 t v3 v4) :=
  ⟨h.vx.set6 hb _ _ _ _ _ _, h.vy.set6 hb _ _ _ _ _ _, h.bench.set6 hne _ _ _ _ _ _, grown_set6 h.grown hg _ _ _ _ _ _⟩
/-- Behind the region: where both answers lie. -/
structure ByAt (W0 : World) (b m : Nat) (q r : Rat) (o : Bool) (i : Nat × RawR × RawR) (W : World) : Prop where
  lies : W.heap[i.1]? = some (.cells #[.bool i.2.1.1, .slice i.2.1.2.1.1 i.2.1.2.1.2.1 i.2.1.2.1.2.2, .slice i.2.1.2.2.1 i.2.1.2.2.2.1 i.2.1.2.2.2.2, .bool i.2.2.1, .slice i.2.2.2.1.1 i.2.2.2.1.2.1 i.2.2.2.1.2.2, .slice i.2.2.2.2.1 i.2.2.2.2.2.1 i.2.2.2.2.2.2] 32 (0, 0))
  t : S2 W0 b m q r o i.2.1 i.2.2 W
theorem S2.endA (h : S2 W0 b m q r o x y W) : ByAt W0 b m q r o (W.heap.size, x, y) (W.alloc (.cells #[.bool x.1, .slice x.2.1.1 x.2.1.2.1 x.2.1.2.2, .slice x.2.2.1 x.2.2.2.1 x.2.2.2.2, .bool y.1, .slice y.2.1.1 y.2.1.2.1 y.2.1.2.2, .slice y.2.2.1 y.2.2.2.1 y.2.2.2.2] 32)) := ⟨heap_alloc_new W _, h.kept ((Below.refl _ _).alloc (Nat.le_refl _) _)⟩
theorem S2.endB {g : Nat} (h : S2 W0 b m q r o x y W) (hb : Six W g 32) (hg : W0.heap.size ≤ g) (hne : b ≠ g) :
    ByAt W0 b m q r o (g, x, y) (Go.Proofs.YtknackfmepkiaaaGreatDoor.set6 W g x.1 (.slice x.2.1.1 x.2.1.2.1 x.2.1.2.2) (.slice x.2.2.1 x.2.2.2.1 x.2.2.2.2) y.1 (.slice y.2.1.1 y.2.1.2.1 y.2.1.2.2) (.slice y.2.2.1 y.2.2.2.1 y.2.2.2.2)) := by
  refine ⟨?_, h.set6 hb hg hne _ _ _ _ _ _⟩
  unfold Six at hb
  simp [Go.Proofs.YtknackfmepkiaaaGreatDoor.set6, World.setCell, Array.getElem?_modify, hb]
end
theorem farG {w W0 W : World} {b : Nat} (h : w.heap.size + 1 + 1 < W0.heap.size) (hb : W0.grownBy W (some b)) : w.heap.size ≠ W.heap.size ∧ W.heap.size ≠ w.heap.size ∧ w.heap.size + 1 ≠ W.heap.size ∧ W.heap.size ≠ w.heap.size + 1 := by
  have := hb.size
  omega
/-- A call gives both parts, as far as a bench lets them be (o: it is over). -/
def GivesQQ (b m : Nat) (o : Bool) (q r : Rat) (w : World) (e : Ending) (w' : World) : Prop :=
  ∃ s z1 m1 k1 z2 m2 k2 t y1 n1 j1 y2 n2 j2, e = .returned (.agg #[.bool s, .slice z1 m1 k1, .slice z2 m2 k2, .bool t, .slice y1 n1 j1, .slice y2 n2 j2]) ∧
    Hid (VQ (if o = true then 0 else q) (s, (z1, m1, k1), (z2, m2, k2)) w') ∧ Hid (VQ (if o = true then 0 else r) (t, (y1, n1, j1), (y2, n2, j2)) w') ∧ Hid (Bench w' b m o) ∧ Hid (w.grownBy w' (some b))
/-- What the first call of a reckoning by parts gives. -/
def First (f : FuncId) (w : World) (b m : Nat) (q : Rat) (o : Bool) (v1 v2 : Value) : Prop :=
  ∀ V W, Below w.heap.size w V → Below V.heap.size V W → Calls Tryz.prog f #[.pointer (some ⟨b, 0, none⟩), v1, v2] W fun e W' => ∃ s z1 m1 k1 z2 m2 k2, e = .returned (.agg #[.bool s, .slice z1 m1 k1, .slice z2 m2 k2]) ∧ Hid (S1 V b m q o (s, (z1, m1, k1), (z2, m2, k2)) W') ∧ Hid (W.grownBy W' (some b))
/-- What the second one gives. -/
def Second (f : FuncId) (w : World) (b m : Nat) (q r : Rat) (o o2 : Bool) (v1 v2 : Value) : Prop :=
  ∀ V W3 W x, Below w.heap.size w V → S1 V b m q o x W3 → Below W3.heap.size W3 W → Calls Tryz.prog f #[.pointer (some ⟨b, 0, none⟩), v1, v2] W fun e W' => ∃ s z1 m1 k1 z2 m2 k2, e = .returned (.agg #[.bool s, .slice z1 m1 k1, .slice z2 m2 k2]) ∧ Hid (S2 V b m q r o2 x (s, (z1, m1, k1), (z2, m2, k2)) W') ∧ Hid (W.grownBy W' (some b))
theorem fin_by {w W0 W : World} {b m r : Nat} {o : Bool} {qa qb : Rat} {s t : Bool} {z1 z2 y1 y2 : Option Addr} {m1 k1 m2 k2 n1 j1 n2 j2 : Nat} (hB0 : Below w.heap.size w W0) (hr : w.heap.size ≤ r) (hb : Six W r 32) (hne : b ≠ r) (hg : W0.grownBy W (some b)) (hbe : Bench W b m o)
    (h1 : VQ (if o = true then 0 else qa) (s, (z1, m1, k1), (z2, m2, k2)) W) (h2 : VQ (if o = true then 0 else qb) (t, (y1, n1, j1), (y2, n2, j2)) W) :
    GivesQQ b m o qa qb w (.returned (.agg #[.bool s, .slice z1 m1 k1, .slice z2 m2 k2, .bool t, .slice y1 n1 j1, .slice y2 n2 j2])) (set6 W r s (.slice z1 m1 k1) (.slice z2 m2 k2) t (.slice y1 n1 j1) (.slice y2 n2 j2)) :=
  ⟨s, z1, m1, k1, z2, m2, k2, t, y1, n1, j1, y2, n2, j2, rfl, Lib.hid (h1.set6 hb _ _ _ _ _ _), Lib.hid (h2.set6 hb _ _ _ _ _ _), Lib.hid (hbe.set6 hne _ _ _ _ _ _), Lib.hid (grown_set6 (grownBy_trans' (grown_of_below hB0 _) hg) hr _ _ _ _ _ _)⟩

end Go.Proofs.YtknackfmepkiaaaGreatDoor


/-
  delta.byParts with ratio's Sub.
-/
set_option linter.unusedVariables false
set_option linter.unusedSimpArgs false
namespace Go.Proofs.YtknackfmepkiaaaGreatDoor
open Go.RowKit Rep


end Go.Proofs.YtknackfmepkiaaaGreatDoor


/-
  delta.byParts with ratio's Mul.
-/
set_option linter.unusedVariables false
set_option linter.unusedSimpArgs false
namespace Go.Proofs.YtknackfmepkiaaaGreatDoor
open Go.RowKit Rep


end Go.Proofs.YtknackfmepkiaaaGreatDoor


/-
  delta.Add, Sub and Scale.
-/
set_option linter.unusedVariables false
set_option linter.unusedSimpArgs false
namespace Go.Proofs.YtknackfmepkiaaaGreatDoor
open Go.RowKit Rep


theorem out_if {m : Nat} {q : Rat} {o : Bool} (h : o = false → ovQ m q = false) : (if o = true then (0 : Rat) else outQ m q) = if o = true then 0 else q := by
  cases o
  · have := h rfl
    unfold outQ
    simp [this]
  · rfl
theorem GivesQQ.through {b m r : Nat} {o : Bool} {q p : Rat} {w W W' : World} {e : Ending} (h : GivesQQ b m o q p W e W') (hB0 : Below w.heap.size w W) (hr : w.heap.size ≤ r) (hb : Six W r 32) (hne : b ≠ r) :
    ∃ s z1 m1 k1 z2 m2 k2 t y1 n1 j1 y2 n2 j2, e = .returned (.agg #[.bool s, .slice z1 m1 k1, .slice z2 m2 k2, .bool t, .slice y1 n1 j1, .slice y2 n2 j2]) ∧ Hid (Six W' r 32) ∧
      Hid (GivesQQ b m o q p w (.returned (.agg #[.bool s, .slice z1 m1 k1, .slice z2 m2 k2, .bool t, .slice y1 n1 j1, .slice y2 n2 j2])) (set6 W' r s (.slice z1 m1 k1) (.slice z2 m2 k2) t (.slice y1 n1 j1) (.slice y2 n2 j2))) := by
  obtain ⟨s, z1, m1, k1, z2, m2, k2, t, y1, n1, j1, y2, n2, j2, rfl, h1, h2, h3, h4⟩ := h
  have hs := hb.grown h4.out (Ne.symm hne)
  exact ⟨s, z1, m1, k1, z2, m2, k2, t, y1, n1, j1, y2, n2, j2, rfl, Lib.hid hs, Lib.hid (fin_by hB0 hr hs hne h4.out h3.out h1.out h2.out)⟩

theorem firstAdd {w : World} {b m : Nat} {xs : Bool} {xa xb : Option Addr} {xl xc xk xe : Nat} {ys : Bool} {ya yb : Option Addr} {yl yc yk ye : Nat} {q q' : Rat} (hb : Bench w b m false) (hT : Tab w) (hx : VQ q (xs, (xa, xl, xc), (xb, xk, xe)) w) (hy : VQ q' (ys, (ya, yl, yc), (yb, yk, ye)) w) (zq : szQ q ≤ 100) (zq' : szQ q' ≤ 100) :
    First 50 w b m (outQ m (q + q')) (ovQ m (q + q')) (.agg #[.bool xs, .slice xa xl xc, .slice xb xk xe]) (.agg #[.bool ys, .slice ya yl yc, .slice yb yk ye]) := by
  intro V W hV hW
  have hb2 := hV.trans (hW.mono hV.size)
  refine (Add_q (hb.kept hb2) (hT.kept hb2) ((hx.kept hb2).ratx zq) ((hy.kept hb2).ratx zq')).mono ?_
  rintro e W' ⟨a1, c1, a2, c2, rfl, hat, hbe, hg⟩
  exact ⟨_, a1, _, c1, a2, _, c2, rfl, Lib.hid ⟨⟨rfl, rfl, rfl, hat⟩, hbe, grownBy_trans' (grown_of_below hW _) hg⟩, Lib.hid hg⟩
theorem secondAdd {w : World} {b m : Nat} {xs : Bool} {xa xb : Option Addr} {xl xc xk xe : Nat} {ys : Bool} {ya yb : Option Addr} {yl yc yk ye : Nat} {p q q' : Rat} {o : Bool} (hb : Bench w b m false) (hT : Tab w) (hx : VQ q (xs, (xa, xl, xc), (xb, xk, xe)) w) (hy : VQ q' (ys, (ya, yl, yc), (yb, yk, ye)) w) (zq : szQ q ≤ 100) (zq' : szQ q' ≤ 100) :
    Second 50 w b m p (if o = true then 0 else outQ m (q + q')) o (o || ovQ m (q + q')) (.agg #[.bool xs, .slice xa xl xc, .slice xb xk xe]) (.agg #[.bool ys, .slice ya yl yc, .slice yb yk ye]) := by
  intro V W3 W x hV hS hW
  have hS2 := hS.kept hW
  cases o
  · have hbV := hb.kept hV
    have hT2 := ((hT.kept hV).bench hbV hS.grown).kept hW
    have hx2 := ((hx.kept hV).bench hbV hS.grown).kept hW
    have hy2 := ((hy.kept hV).bench hbV hS.grown).kept hW
    refine (Add_q hS2.bench hT2 (hx2.ratx zq) (hy2.ratx zq')).mono ?_
    rintro e W' ⟨a1, c1, a2, c2, rfl, hat, hbe, hg⟩
    exact ⟨_, a1, _, c1, a2, _, c2, rfl, Lib.hid ⟨hS2.vx.bench hS2.bench hg, ⟨rfl, rfl, rfl, hat⟩, by simpa using hbe, grownBy_trans' hS2.grown hg⟩, Lib.hid hg⟩
  · refine (AddQ_over hS2.bench _ _ _ _ _ _ _ _ _ _ _ _ _ _).mono ?_
    rintro e W' ⟨rfl, hg⟩
    exact ⟨_, _, _, _, _, _, _, rfl, Lib.hid ⟨hS2.vx.kept hg, vq_z W', by simpa using hS2.bench.kept hg, grownBy_trans' hS2.grown (grown_of_below hg _)⟩, Lib.hid (grown_of_below hg _)⟩

theorem firstSub {w : World} {b m : Nat} {xs : Bool} {xa xb : Option Addr} {xl xc xk xe : Nat} {ys : Bool} {ya yb : Option Addr} {yl yc yk ye : Nat} {q q' : Rat} (hb : Bench w b m false) (hT : Tab w) (hx : VQ q (xs, (xa, xl, xc), (xb, xk, xe)) w) (hy : VQ q' (ys, (ya, yl, yc), (yb, yk, ye)) w) (zq : szQ q ≤ 100) (zq' : szQ q' ≤ 100) :
    First 37 w b m (outQ m (q - q')) (ovQ m (q - q')) (.agg #[.bool xs, .slice xa xl xc, .slice xb xk xe]) (.agg #[.bool ys, .slice ya yl yc, .slice yb yk ye]) := by
  intro V W hV hW
  have hb2 := hV.trans (hW.mono hV.size)
  refine (Sub_q (hb.kept hb2) (hT.kept hb2) ((hx.kept hb2).ratx zq) ((hy.kept hb2).ratx zq')).mono ?_
  rintro e W' ⟨a1, c1, a2, c2, rfl, hat, hbe, hg⟩
  exact ⟨_, a1, _, c1, a2, _, c2, rfl, Lib.hid ⟨⟨rfl, rfl, rfl, hat⟩, hbe, grownBy_trans' (grown_of_below hW _) hg⟩, Lib.hid hg⟩
theorem secondSub {w : World} {b m : Nat} {xs : Bool} {xa xb : Option Addr} {xl xc xk xe : Nat} {ys : Bool} {ya yb : Option Addr} {yl yc yk ye : Nat} {p q q' : Rat} {o : Bool} (hb : Bench w b m false) (hT : Tab w) (hx : VQ q (xs, (xa, xl, xc), (xb, xk, xe)) w) (hy : VQ q' (ys, (ya, yl, yc), (yb, yk, ye)) w) (zq : szQ q ≤ 100) (zq' : szQ q' ≤ 100) :
    Second 37 w b m p (if o = true then 0 else outQ m (q - q')) o (o || ovQ m (q - q')) (.agg #[.bool xs, .slice xa xl xc, .slice xb xk xe]) (.agg #[.bool ys, .slice ya yl yc, .slice yb yk ye]) := by
  intro V W3 W x hV hS hW
  have hS2 := hS.kept hW
  cases o
  · have hbV := hb.kept hV
    have hT2 := ((hT.kept hV).bench hbV hS.grown).kept hW
    have hx2 := ((hx.kept hV).bench hbV hS.grown).kept hW
    have hy2 := ((hy.kept hV).bench hbV hS.grown).kept hW
    refine (Sub_q hS2.bench hT2 (hx2.ratx zq) (hy2.ratx zq')).mono ?_
    rintro e W' ⟨a1, c1, a2, c2, rfl, hat, hbe, hg⟩
    exact ⟨_, a1, _, c1, a2, _, c2, rfl, Lib.hid ⟨hS2.vx.bench hS2.bench hg, ⟨rfl, rfl, rfl, hat⟩, by simpa using hbe, grownBy_trans' hS2.grown hg⟩, Lib.hid hg⟩
  · refine (SubQ_over hS2.bench _ _ _ _ _ _ _ _ _ _ _ _ _ _).mono ?_
    rintro e W' ⟨rfl, hg⟩
    exact ⟨_, _, _, _, _, _, _, rfl, Lib.hid ⟨hS2.vx.kept hg, vq_z W', by simpa using hS2.bench.kept hg, grownBy_trans' hS2.grown (grown_of_below hg _)⟩, Lib.hid (grown_of_below hg _)⟩

theorem firstMul {w : World} {b m : Nat} {xs : Bool} {xa xb : Option Addr} {xl xc xk xe : Nat} {ys : Bool} {ya yb : Option Addr} {yl yc yk ye : Nat} {q q' : Rat} (hb : Bench w b m false) (hT : Tab w) (hx : VQ q (xs, (xa, xl, xc), (xb, xk, xe)) w) (hy : VQ q' (ys, (ya, yl, yc), (yb, yk, ye)) w) (zq : szQ q ≤ 100) (zq' : szQ q' ≤ 100) :
    First 47 w b m (outQ m (q * q')) (ovQ m (q * q')) (.agg #[.bool xs, .slice xa xl xc, .slice xb xk xe]) (.agg #[.bool ys, .slice ya yl yc, .slice yb yk ye]) := by
  intro V W hV hW
  have hb2 := hV.trans (hW.mono hV.size)
  refine (Mul_q (hb.kept hb2) (hT.kept hb2) ((hx.kept hb2).ratx zq) ((hy.kept hb2).ratx zq')).mono ?_
  rintro e W' ⟨a1, c1, a2, c2, rfl, hat, hbe, hg⟩
  exact ⟨_, a1, _, c1, a2, _, c2, rfl, Lib.hid ⟨⟨rfl, rfl, rfl, hat⟩, hbe, grownBy_trans' (grown_of_below hW _) hg⟩, Lib.hid hg⟩
theorem secondMul {w : World} {b m : Nat} {xs : Bool} {xa xb : Option Addr} {xl xc xk xe : Nat} {ys : Bool} {ya yb : Option Addr} {yl yc yk ye : Nat} {p q q' : Rat} {o : Bool} (hb : Bench w b m false) (hT : Tab w) (hx : VQ q (xs, (xa, xl, xc), (xb, xk, xe)) w) (hy : VQ q' (ys, (ya, yl, yc), (yb, yk, ye)) w) (zq : szQ q ≤ 100) (zq' : szQ q' ≤ 100) :
    Second 47 w b m p (if o = true then 0 else outQ m (q * q')) o (o || ovQ m (q * q')) (.agg #[.bool xs, .slice xa xl xc, .slice xb xk xe]) (.agg #[.bool ys, .slice ya yl yc, .slice yb yk ye]) := by
  intro V W3 W x hV hS hW
  have hS2 := hS.kept hW
  cases o
  · have hbV := hb.kept hV
    have hT2 := ((hT.kept hV).bench hbV hS.grown).kept hW
    have hx2 := ((hx.kept hV).bench hbV hS.grown).kept hW
    have hy2 := ((hy.kept hV).bench hbV hS.grown).kept hW
    refine (Mul_q hS2.bench hT2 (hx2.ratx zq) (hy2.ratx zq')).mono ?_
    rintro e W' ⟨a1, c1, a2, c2, rfl, hat, hbe, hg⟩
    exact ⟨_, a1, _, c1, a2, _, c2, rfl, Lib.hid ⟨hS2.vx.bench hS2.bench hg, ⟨rfl, rfl, rfl, hat⟩, by simpa using hbe, grownBy_trans' hS2.grown hg⟩, Lib.hid hg⟩
  · refine (MulQ_over hS2.bench _ _ _ _ _ _ _ _ _ _ _ _ _ _).mono ?_
    rintro e W' ⟨rfl, hg⟩
    exact ⟨_, _, _, _, _, _, _, rfl, Lib.hid ⟨hS2.vx.kept hg, vq_z W', by simpa using hS2.bench.kept hg, grownBy_trans' hS2.grown (grown_of_below hg _)⟩, Lib.hid (grown_of_below hg _)⟩

end Go.Proofs.YtknackfmepkiaaaGreatDoor


/-
  law03's helper Odd.
-/
set_option linter.unusedVariables false
set_option linter.unusedSimpArgs false
namespace Go.Proofs.YtknackfmepkiaaaGreatDoor
open Go.RowKit Rep

/-- A number with a delta as a law is handed it. -/
structure HD where
  s : Bool
  a1 : Option Addr
  c1 : Nat
  xs : List Nat
  a2 : Option Addr
  c2 : Nat
  ds : List Nat
  t : Bool
  b1 : Option Addr
  e1 : Nat
  ys : List Nat
  b2 : Option Addr
  e2 : Nat
  es : List Nat
def HD.ra (d : HD) : RawR := (d.s, (d.a1, d.xs.length, d.c1), (d.a2, d.ds.length, d.c2))
def HD.rb (d : HD) : RawR := (d.t, (d.b1, d.ys.length, d.e1), (d.b2, d.es.length, d.e2))
structure HandD (w : World) (d : HD) : Prop where
  a : HandR w d.a1 d.c1 d.xs d.a2 d.c2 d.ds
  b : HandR w d.b1 d.e1 d.ys d.b2 d.e2 d.es
theorem HandD.kept {w w' : World} {d : HD} (h : HandD w d) (hb : Below w.heap.size w w') : HandD w' d := ⟨h.a.kept hb, h.b.kept hb⟩
/-- Is one not in its one form, or more than is looked at? -/
def oddE (d : HD) : Bool := greatB [d.ra, d.rb] || !(rightB d.s d.xs d.ds && rightB d.t d.ys d.es)
/-- From block g's beginning on lie such numbers. -/
def Dels (w : World) (g : Nat) (ts : List HD) : Prop := ∀ k d, ts[k]? = some d →
  w.cell? ⟨g, k * 6, none⟩ = some (.bool d.s) ∧ w.cell? ⟨g, k * 6 + 1, none⟩ = some (.slice d.a1 d.xs.length d.c1) ∧ w.cell? ⟨g, k * 6 + 2, none⟩ = some (.slice d.a2 d.ds.length d.c2) ∧
  w.cell? ⟨g, k * 6 + 3, none⟩ = some (.bool d.t) ∧ w.cell? ⟨g, k * 6 + 4, none⟩ = some (.slice d.b1 d.ys.length d.e1) ∧ w.cell? ⟨g, k * 6 + 5, none⟩ = some (.slice d.b2 d.es.length d.e2)

set_option maxRecDepth 100000 in
set_option maxHeartbeats 4000000 in
theorem Odd_any (g c : Nat) (ts : List HD) (w : World) (hr : Dels w g ts) (hh : ∀ d ∈ ts, HandD w d) (hg : g < w.heap.size) (hl : ts.length ≤ 1000) :
    Calls Tryz.prog 7 #[.slice (some ⟨g, 0, none⟩) ts.length c] w (GivesB (ts.any oddE) w) := by
  go_enter Tryz.func7, Tryz.ntmps7
  go_wp2_with fail
  go_loopw [7] (fun i wr => ∃ k : Nat, k ≤ ts.length ∧ i = .int .i64 k ∧ Hid ((ts.take k).any oddE = false) ∧ Below w.heap.size w wr) (fun i _ => ts.length - (intOf i).toNat)
  case atStart => exact ⟨0, Nat.zero_le _, rfl, Lib.hid rfl, Below.refl _ _⟩
  case round =>
    obtain ⟨k, hk, rfl, HE, hb⟩ := hrel
    by_cases hlt : k < ts.length
    · obtain ⟨c0, c1, c2, c3, c4, c5⟩ := hr k ts[k] (List.getElem?_eq_getElem hlt)
      have HT : Hid (ts.take (k + 1) = ts.take k ++ [ts[k]]) := Lib.hid (List.take_succ_eq_append_getElem hlt)
      have HM : Hid (ts[k] ∈ ts) := Lib.hid (List.getElem_mem hlt)
      have HH := Lib.hid (hh ts[k] (List.getElem_mem hlt))
      generalize ts[k] = d at c0 c1 c2 c3 c4 c5 HT HM HH
      obtain ⟨s, a1, x1, xs, a2, x2, ds, t, b1, y1, ys, b2, y2, es⟩ := d
      dsimp only at c0 c1 c2 c3 c4 c5
      have d0 := (hb.cell (p := ⟨g, k * 6, none⟩) hg).trans c0
      have d1 := (hb.cell (p := ⟨g, k * 6 + 1, none⟩) hg).trans c1
      have d2 := (hb.cell (p := ⟨g, k * 6 + 2, none⟩) hg).trans c2
      have d3 := (hb.cell (p := ⟨g, k * 6 + 3, none⟩) hg).trans c3
      have d4 := (hb.cell (p := ⟨g, k * 6 + 4, none⟩) hg).trans c4
      have d5 := (hb.cell (p := ⟨g, k * 6 + 5, none⟩) hg).trans c5
      have HB := Lib.hid hb
      have hgr : g < wr.heap.size := World.block_lt_of_cell? _ _ d0
      have ha1 := (Below.refl wr.heap.size wr).alloc (Nat.le_refl _) (.cells #[.bool s, .slice a1 xs.length x1, .slice a2 ds.length x2, .bool t, .slice b1 ys.length y1, .slice b2 es.length y2] 32)
      have ha2 := ha1.alloc ha1.size (.cells #[.bool s, .slice a1 xs.length x1, .slice a2 ds.length x2, .bool t, .slice b1 ys.length y1, .slice b2 es.length y2] 30)
      have hbl : ((wr.alloc (.cells #[.bool s, .slice a1 xs.length x1, .slice a2 ds.length x2, .bool t, .slice b1 ys.length y1, .slice b2 es.length y2] 32)).alloc (.cells #[.bool s, .slice a1 xs.length x1, .slice a2 ds.length x2, .bool t, .slice b1 ys.length y1, .slice b2 es.length y2] 30)).heap[wr.heap.size]? = some (.cells #[.bool s, .slice a1 xs.length x1, .slice a2 ds.length x2, .bool t, .slice b1 ys.length y1, .slice b2 es.length y2] 32 (0, 0)) := by
        rw [Below.heap_alloc _ _ _ (by simp)]; exact heap_alloc_new wr _
      have HG : Hid (Calls Tryz.prog 34 #[.slice (some ⟨wr.heap.size + 1, 0, none⟩) 2 2] ((wr.alloc (.cells #[.bool s, .slice a1 xs.length x1, .slice a2 ds.length x2, .bool t, .slice b1 ys.length y1, .slice b2 es.length y2] 32)).alloc (.cells #[.bool s, .slice a1 xs.length x1, .slice a2 ds.length x2, .bool t, .slice b1 ys.length y1, .slice b2 es.length y2] 30)) (GivesB (greatB [(s, (a1, xs.length, x1), (a2, ds.length, x2)), (t, (b1, ys.length, y1), (b2, es.length, y2))]) ((wr.alloc (.cells #[.bool s, .slice a1 xs.length x1, .slice a2 ds.length x2, .bool t, .slice b1 ys.length y1, .slice b2 es.length y2] 32)).alloc (.cells #[.bool s, .slice a1 xs.length x1, .slice a2 ds.length x2, .bool t, .slice b1 ys.length y1, .slice b2 es.length y2] 30)))) := Lib.hid (by
        have hn := heap_alloc_new (wr.alloc (.cells #[.bool s, .slice a1 xs.length x1, .slice a2 ds.length x2, .bool t, .slice b1 ys.length y1, .slice b2 es.length y2] 32)) (.cells #[.bool s, .slice a1 xs.length x1, .slice a2 ds.length x2, .bool t, .slice b1 ys.length y1, .slice b2 es.length y2] 30)
        rw [World.size_alloc] at hn
        exact Great_any (wr.heap.size + 1) 2 [(s, (a1, xs.length, x1), (a2, ds.length, x2)), (t, (b1, ys.length, y1), (b2, es.length, y2))] _ (Rats.two hn) (by simp) (by simp))
      have HA2 := Lib.hid ha2
      have HBL := Lib.hid (fun W h => cells6 (stay (W := W) hbl h))
      clear hb c0 c1 c2 c3 c4 c5 hr hh ha1 ha2 hbl
      cases hgr2 : greatB [(s, (a1, xs.length, x1), (a2, ds.length, x2)), (t, (b1, ys.length, y1), (b2, es.length, y2))]
      case true =>
        have HV : Hid (ts.any oddE = true) := Lib.hid (List.any_eq_true.2 ⟨_, HM.out, by unfold oddE HD.ra HD.rb; dsimp only; rw [hgr2]; rfl⟩)
        rw [hgr2] at HG
        clear hgr2 HE HT HM
        go_wp2_with fail
        refine HG.out.mono ?_
        rintro e w3 ⟨rfl, h3⟩
        have HF := Lib.hid (HB.out.trans ((HA2.out.trans (h3.mono HA2.out.size)).mono HB.out.size))
        clear h3 HG
        go_wp2_with fail
        go_ret
        exact ⟨by rw [HV.out]; rfl, HF.out⟩
      case false =>
        obtain ⟨l1, l2, l3, l4⟩ := great_two hgr2
        rw [hgr2] at HG
        obtain ⟨p, hp⟩ : ∃ p, (rightB s xs ds && rightB t ys es) = p := ⟨_, rfl⟩
        have HRT : Hid (∀ W, Below wr.heap.size wr W → Calls Tryz.prog 35 #[.agg #[.bool s, .slice a1 xs.length x1, .slice a2 ds.length x2, .bool t, .slice b1 ys.length y1, .slice b2 es.length y2]] W (GotV wr (.bool p))) := Lib.hid fun W h => by
          rw [← hp]
          exact RightDD (((HH.out.kept HB.out).kept h).a) (((HH.out.kept HB.out).kept h).b) l1 l2 l3 l4 h
        have HOE : Hid (oddE ⟨s, a1, x1, xs, a2, x2, ds, t, b1, y1, ys, b2, y2, es⟩ = !p) := Lib.hid (by unfold oddE HD.ra HD.rb; dsimp only; rw [hgr2, hp]; rfl)
        clear hgr2 hp l1 l2 l3 l4 HH
        go_wp2_with fail
        refine HG.out.mono ?_
        rintro e w3 ⟨rfl, h3⟩
        have HF := Lib.hid (HA2.out.trans (h3.mono HA2.out.size))
        obtain ⟨k0, k1, k2, k3, k4, k5, _⟩ := HBL.out _ h3
        have HR3 := Lib.hid (HRT.out _ HF.out)
        clear h3 HG HBL HRT HA2
        cases p
        case false =>
          have HV : Hid (ts.any oddE = true) := Lib.hid (List.any_eq_true.2 ⟨_, HM.out, by rw [HOE.out]; rfl⟩)
          clear HE HT HM HOE
          go_wp2_with fail
          refine HR3.out.mono ?_
          rintro e w4 ⟨rfl, G4⟩
          have HF4 := Lib.hid (HB.out.trans (G4.out.mono HB.out.size))
          clear G4 HR3 HF
          go_wp2_with fail
          go_ret
          exact ⟨by rw [HV.out]; rfl, HF4.out⟩
        case true =>
          have HV : Hid ((ts.take (k + 1)).any oddE = false) := Lib.hid (by
            rw [HT.out, List.any_append, HE.out]
            simp [HOE.out])
          clear HE HT HM HOE
          go_wp2_with fail
          refine HR3.out.mono ?_
          rintro e w4 ⟨rfl, G4⟩
          have HF4 := Lib.hid (HB.out.trans (G4.out.mono HB.out.size))
          clear G4 HR3 HF
          go_wp2_with fail
          go_roundw
          case rel => exact ⟨k + 1, by omega, by go_num, HV, HF4.out⟩
          case measure => simp [intOf]; omega
    · obtain rfl : k = ts.length := by omega
      have HB := Lib.hid hb
      clear hb hr hh
      go_wp2_with fail
      go_ret
      exact ⟨by have := HE.out; rw [List.take_length] at this; rw [this]; rfl, HB.out⟩
end Go.Proofs.YtknackfmepkiaaaGreatDoor


/-
  The small delta of pairs, said of rational numbers.
-/
set_option linter.unusedVariables false
set_option linter.unusedSimpArgs false
namespace Go.Proofs.YtknackfmepkiaaaGreatDoor

/-- A pair of numbers with a delta: a + b·d and e + f·d. -/
structure PQ where
  a : Rat
  b : Rat
  e : Rat
  f : Rat
def meetQ (p : PQ) : Bool := decide (p.a < p.e) && decide (p.f < p.b)
def atQ (p : PQ) : Rat := (p.e - p.a) / (p.b - p.f)
def stepQ (l : Rat) (p : PQ) : Rat := if meetQ p = true ∧ atQ p < l then atQ p else l
def smallQ (ps : List PQ) : Rat := ps.foldl stepQ 1
theorem smallQ_next {ps : List PQ} {k : Nat} (h : k < ps.length) : smallQ (ps.take (k + 1)) = stepQ (smallQ (ps.take k)) ps[k] := by
  unfold smallQ
  rw [List.take_succ_eq_append_getElem h, List.foldl_append]
  rfl
theorem smallQ_snoc (ps : List PQ) (p : PQ) : smallQ (ps ++ [p]) = stepQ (smallQ ps) p := by
  unfold smallQ
  rw [List.foldl_append]
  rfl
theorem stepQ_no {l : Rat} {p : PQ} (h : meetQ p = false) : stepQ l p = l := by unfold stepQ; simp [h]
theorem stepQ_yes {l : Rat} {p : PQ} (h : meetQ p = true) : stepQ l p = if atQ p < l then atQ p else l := by unfold stepQ; simp [h]
theorem meet_lt {p : PQ} (h : meetQ p = true) : p.a < p.e ∧ p.f < p.b := by
  unfold meetQ at h; simpa using h
theorem atQ_pos {p : PQ} (h : meetQ p = true) : 0 < atQ p := by
  obtain ⟨h1, h2⟩ := meet_lt h
  unfold atQ
  rw [Rat.div_def]
  exact Rat.mul_pos (by grind) (Rat.inv_pos.2 (by grind))
theorem stepQ_pos {l : Rat} {p : PQ} (h : 0 < l) : 0 < stepQ l p := by
  unfold stepQ
  split
  · rename_i hc; exact atQ_pos hc.1
  · exact h
theorem stepQ_le (l : Rat) (p : PQ) : stepQ l p ≤ l := by
  unfold stepQ
  split
  · rename_i hc; exact Rat.le_of_lt hc.2
  · exact Rat.le_refl
theorem stepQ_at (l : Rat) {p : PQ} (h : meetQ p = true) : stepQ l p ≤ atQ p := by
  rw [stepQ_yes h]
  split
  · exact Rat.le_refl
  · rename_i hc; exact Rat.not_lt.1 hc
theorem fold_le (ps : List PQ) : ∀ l : Rat, ps.foldl stepQ l ≤ l := by
  induction ps with
  | nil => intro l; exact Rat.le_refl
  | cons p ps ih => intro l; exact Rat.le_trans (ih _) (stepQ_le l p)
theorem fold_pos (ps : List PQ) : ∀ l : Rat, 0 < l → 0 < ps.foldl stepQ l := by
  induction ps with
  | nil => intro l h; exact h
  | cons p ps ih => intro l h; exact ih _ (stepQ_pos h)
theorem fold_at (ps : List PQ) : ∀ l : Rat, ∀ p ∈ ps, meetQ p = true → ps.foldl stepQ l ≤ atQ p := by
  induction ps with
  | nil => intro l p hp; cases hp
  | cons q ps ih =>
    intro l p hp hm
    rcases List.mem_cons.1 hp with rfl | hp
    · exact Rat.le_trans (fold_le ps _) (stepQ_at l hm)
    · exact ih _ p hp hm
theorem smallQ_pos (ps : List PQ) : 0 < smallQ ps := fold_pos ps 1 (by decide)
/-- No pair turns round, as far as the small delta. -/
theorem keeps_order {ps : List PQ} {p : PQ} (hp : p ∈ ps) {d : Rat} (h0 : 0 ≤ d) (h1 : d ≤ smallQ ps) (hc : ¬ 0 < cmpDQ p.a p.b p.e p.f) : p.a + p.b * d ≤ p.e + p.f * d := by
  have hle : p.a < p.e ∨ (p.a = p.e ∧ p.b ≤ p.f) := by
    unfold cmpDQ cmpQ at hc
    by_cases h2 : p.a < p.e
    · exact .inl h2
    · by_cases h3 : p.a = p.e
      · refine .inr ⟨h3, ?_⟩
        by_cases h4 : p.b < p.f
        · exact Rat.le_of_lt h4
        · by_cases h5 : p.b = p.f
          · rw [h5]; exact Rat.le_refl
          · simp [h3, h4, h5, Rat.lt_irrefl] at hc
      · simp [h2, h3] at hc
  by_cases hbf : p.b ≤ p.f
  · have h6 : p.b * d ≤ p.f * d := Rat.mul_le_mul_of_nonneg_right hbf h0
    rcases hle with h | ⟨h, _⟩ <;> grind
  · have hfb : p.f < p.b := Rat.not_le.1 hbf
    have hae : p.a < p.e := by
      rcases hle with h | ⟨_, h⟩
      · exact h
      · exact absurd h hbf
    have hm : meetQ p = true := by unfold meetQ; simp [hae, hfb]
    have h7 : d ≤ atQ p := Rat.le_trans h1 (fold_at ps 1 p hp hm)
    have hpos : 0 < p.b - p.f := by grind
    have h8 : d * (p.b - p.f) ≤ atQ p * (p.b - p.f) := Rat.mul_le_mul_of_nonneg_right h7 (Rat.le_of_lt hpos)
    have h9 : atQ p * (p.b - p.f) = p.e - p.a := by
      unfold atQ
      rw [Rat.div_def, Rat.mul_assoc, Rat.inv_mul_cancel _ (by grind), Rat.mul_one]
    rw [h9] at h8
    grind
/-- A part of it isn't above it. -/
theorem part_le {d n : Rat} (h0 : 0 < d) (hn : 1 ≤ n) : 0 ≤ d / n ∧ d / n ≤ d := by
  have hnp : 0 < n := by grind
  have hi : 0 < n⁻¹ := Rat.inv_pos.2 hnp
  have h1 : n⁻¹ ≤ 1 := by
    have : 1 * n⁻¹ ≤ n * n⁻¹ := Rat.mul_le_mul_of_nonneg_right hn (Rat.le_of_lt hi)
    rw [Rat.mul_inv_cancel _ (by grind)] at this
    grind
  rw [Rat.div_def]
  refine ⟨Rat.le_of_lt (Rat.mul_pos h0 hi), ?_⟩
  have := Rat.mul_le_mul_of_nonneg_left h1 (Rat.le_of_lt h0)
  grind
/-- How great the numbers are. -/
def OkP (p : PQ) : Prop := szQ p.a ≤ 6 ∧ szQ p.b ≤ 6 ∧ szQ p.e ≤ 6 ∧ szQ p.f ≤ 6
theorem atQ_sz {p : PQ} (h : OkP p) : szQ (p.e - p.a) ≤ 15 ∧ szQ (p.b - p.f) ≤ 15 ∧ szQ (atQ p) ≤ 34 := by
  obtain ⟨h1, h2, h3, h4⟩ := h
  have a1 := szQ_sub p.e p.a
  have a2 := szQ_sub p.b p.f
  have a3 := szQ_div (p.e - p.a) (p.b - p.f)
  unfold atQ
  omega
theorem stepQ_sz {l : Rat} {p : PQ} (hl : szQ l ≤ 34) (h : OkP p) : szQ (stepQ l p) ≤ 34 := by
  unfold stepQ
  split
  · exact (atQ_sz h).2.2
  · exact hl
theorem fold_sz (ps : List PQ) : ∀ l : Rat, szQ l ≤ 34 → (∀ p ∈ ps, OkP p) → szQ (ps.foldl stepQ l) ≤ 34 := by
  induction ps with
  | nil => intro l h _; exact h
  | cons p ps ih => intro l h hp; exact ih _ (stepQ_sz h (hp p (List.mem_cons_self ..))) (fun q hq => hp q (List.mem_cons_of_mem _ hq))
theorem sz_one : szQ 1 ≤ 34 := by decide
theorem smallQ_sz {ps : List PQ} (h : ∀ p ∈ ps, OkP p) : szQ (smallQ ps) ≤ 34 := fold_sz ps 1 sz_one h
theorem smallQ_take_sz {ps : List PQ} (k : Nat) (h : ∀ p ∈ ps, OkP p) : szQ (smallQ (ps.take k)) ≤ 34 := smallQ_sz fun p hp => h p (List.mem_of_mem_take hp)
end Go.Proofs.YtknackfmepkiaaaGreatDoor


/-
  A bench with room: ratios that are reckoned on it, letter by letter.
-/
set_option linter.unusedVariables false
set_option linter.unusedSimpArgs false
namespace Go.Proofs.YtknackfmepkiaaaGreatDoor
open Go.RowKit Rep

/-- A digit isn't where a bench is. -/
theorem Bench.apartD {w : World} {b m : Nat} {over : Bool} (h : Bench w b m over) (hm : 10 ≤ m) {a : Option Addr} {n : Nat} (hr : Reads w a ((D n).map i64v)) :
    (D n).map i64v = [] ∨ ∀ g off, a = some ⟨g, off, none⟩ → some g ≠ some b := by
  rcases hr with hr | ⟨g, off, rfl, hr⟩
  · exact .inl hr
  · by_cases e : D n = []
    · exact .inl (by simp [e])
    · refine .inr fun g' off' hg hb => ?_
      simp at hg hb
      obtain ⟨rfl, rfl⟩ := hg
      subst hb
      have h0 := hr 0 _ (map_getElem? (xs := D n) (f := i64v) (List.length_pos_iff.2 e))
      have hd : (D n).getD 0 0 < 10 := Dig.getD (rep_dig (by omega) n) 0 (by omega)
      rw [List.getD_eq_getElem?_getD] at hd
      unfold Bench at h
      simp only [World.cell?, h] at h0
      rcases off with _ | _ | off
      · simp [i64v] at h0
        omega
      · simp [i64v] at h0
      · simp at h0
theorem VD.bench {q : Rat} {v : RawR} {W W' : World} {b m : Nat} {o : Bool} (h : VD q v W) (hb : Bench W b m o) (hm : 10 ≤ m) (hg : W.grownBy W' (some b)) : VD q v W' :=
  ⟨h.e0, h.e1, h.e2, ⟨⟨h.lies.num.1.grown hg (hb.apartD hm h.lies.num.1), h.lies.num.2⟩, ⟨h.lies.den.1.grown hg (hb.apartD hm h.lies.den.1), h.lies.den.2⟩⟩⟩

/-- Since W5 only the bench has changed, and it has room still. -/
structure Room (b : Nat) (W5 W : World) : Prop where
  g : W5.grownBy W (some b)
  bench : Bench W b 1000 false
  tab : Tab W
section
variable {b : Nat} {W5 W W' : World}
theorem Room.refl (hb : Bench W b 1000 false) (hT : Tab W) : Room b W W := ⟨grown_refl _ _, hb, hT⟩
theorem Room.kept (h : Room b W5 W) (hb : Below W.heap.size W W') : Room b W5 W' := ⟨grownBy_trans' h.g (grown_of_below hb _), h.bench.kept hb, h.tab.kept hb⟩
theorem Room.trans (h : Room b W5 W) (k : Room b W W') : Room b W5 W' := ⟨grownBy_trans' h.g k.g, k.bench, k.tab⟩
theorem Room.vq (k : Room b W5 W) (hb : Bench W5 b 1000 false) {q : Rat} {v : RawR} (h : VQ q v W5) : VQ q v W := h.bench hb k.g
theorem Room.vd (k : Room b W5 W) (hb : Bench W5 b 1000 false) {q : Rat} {v : RawR} (h : VD q v W5) : VD q v W := h.bench hb (by omega) k.g
theorem Room.block (k : Room b W5 W) {r : Nat} {o : Obj} (h : W5.heap[r]? = some o) (hne : r ≠ b) : W.heap[r]? = some o := (k.g.block _ (Array.getElem?_eq_some_iff.1 h).1 (by simpa using hne)).trans h
theorem Room.cell (k : Room b W5 W) {g i : Nat} {v : Value} (h : W5.cell? ⟨g, i, none⟩ = some v) (hne : g ≠ b) : W.cell? ⟨g, i, none⟩ = some v := by
  have hlt := World.block_lt_of_cell? _ _ h
  unfold World.cell? at h ⊢
  rw [k.g.block g hlt (by simpa using hne)]
  exact h
theorem Room.below (k : Room b W5 W) {B : Nat} {w : World} (h : Below B w W5) (hB : B ≤ b) (hs : w.heap.size ≤ B ∨ B ≤ w.heap.size) : B ≤ W5.heap.size → Below B w W := fun h5 => h.grown k.g h5 (fun j hj => by cases hj; exact hB)
end
/-- A call gives q's limbs; the bench has room still. -/
def GotB (b : Nat) (W5 : World) (q : Rat) (e : Ending) (W' : World) : Prop :=
  ∃ s z1 m1 k1 z2 m2 k2, e = .returned (.agg #[.bool s, .slice z1 m1 k1, .slice z2 m2 k2]) ∧ Hid (Room b W5 W') ∧ Hid (VQ q (s, (z1, m1, k1), (z2, m2, k2)) W')
theorem GivesQ.gotB {b : Nat} {W5 W W' : World} {q : Rat} {e : Ending} (h : GivesQ b 1000 q W e W') (hq : szQ q ≤ 100) (hr : Room b W5 W) : GotB b W5 q e W' := by
  obtain ⟨a1, c1, a2, c2, rfl, f1, f2, f3⟩ := h
  obtain ⟨o1, o2⟩ := ov_fits (m := 1000) (q := q) (by omega)
  rw [o2] at f1 ⊢
  rw [o1] at f2
  exact ⟨_, a1, _, c1, a2, _, c2, rfl, Lib.hid ⟨grownBy_trans' hr.g f3, f2, hr.tab.bench hr.bench f3⟩, Lib.hid ⟨rfl, rfl, rfl, f1⟩⟩
section
variable {b : Nat} {W5 W : World} {q r : Rat} {s t : Bool} {z1 z2 y1 y2 : Option Addr} {m1 k1 m2 k2 n1 j1 n2 j2 : Nat}
theorem gotB_add (hR : Room b W5 W) (h : VQ q (s, (z1, m1, k1), (z2, m2, k2)) W) (g : VQ r (t, (y1, n1, j1), (y2, n2, j2)) W) (hq : szQ q ≤ 48) (hr : szQ r ≤ 48) :
    Calls Tryz.prog 50 #[.pointer (some ⟨b, 0, none⟩), .agg #[.bool s, .slice z1 m1 k1, .slice z2 m2 k2], .agg #[.bool t, .slice y1 n1 j1, .slice y2 n2 j2]] W (GotB b W5 (q + r)) :=
  (Add_q hR.bench hR.tab (h.ratx (by omega)) (g.ratx (by omega))).mono fun e W' hg => hg.gotB (by have := szQ_add q r; omega) hR
theorem gotB_sub (hR : Room b W5 W) (h : VQ q (s, (z1, m1, k1), (z2, m2, k2)) W) (g : VQ r (t, (y1, n1, j1), (y2, n2, j2)) W) (hq : szQ q ≤ 48) (hr : szQ r ≤ 48) :
    Calls Tryz.prog 37 #[.pointer (some ⟨b, 0, none⟩), .agg #[.bool s, .slice z1 m1 k1, .slice z2 m2 k2], .agg #[.bool t, .slice y1 n1 j1, .slice y2 n2 j2]] W (GotB b W5 (q - r)) :=
  (Sub_q hR.bench hR.tab (h.ratx (by omega)) (g.ratx (by omega))).mono fun e W' hg => hg.gotB (by have := szQ_sub q r; omega) hR
theorem gotB_mul (hR : Room b W5 W) (h : VQ q (s, (z1, m1, k1), (z2, m2, k2)) W) (g : VQ r (t, (y1, n1, j1), (y2, n2, j2)) W) (hq : szQ q ≤ 48) (hr : szQ r ≤ 48) :
    Calls Tryz.prog 47 #[.pointer (some ⟨b, 0, none⟩), .agg #[.bool s, .slice z1 m1 k1, .slice z2 m2 k2], .agg #[.bool t, .slice y1 n1 j1, .slice y2 n2 j2]] W (GotB b W5 (q * r)) :=
  (Mul_q hR.bench hR.tab (h.ratx (by omega)) (g.ratx (by omega))).mono fun e W' hg => hg.gotB (by have := szQ_mul q r; omega) hR
theorem gotB_div (hR : Room b W5 W) (h : VQ q (s, (z1, m1, k1), (z2, m2, k2)) W) (g : VQ r (t, (y1, n1, j1), (y2, n2, j2)) W) (hq : szQ q ≤ 48) (hr : szQ r ≤ 48) :
    Calls Tryz.prog 15 #[.pointer (some ⟨b, 0, none⟩), .agg #[.bool s, .slice z1 m1 k1, .slice z2 m2 k2], .agg #[.bool t, .slice y1 n1 j1, .slice y2 n2 j2]] W (GotB b W5 (q / r)) :=
  (Div_q hR.bench hR.tab (h.ratx (by omega)) (g.ratx (by omega))).mono fun e W' hg => hg.gotB (by have := szQ_div q r; omega) hR
theorem gotB_over (hR : Room b W5 W) : Calls Tryz.prog 14 #[.pointer (some ⟨b, 0, none⟩)] W fun e W' => e = .returned (.bool false) ∧ Hid (Room b W5 W') :=
  (over_any W b 1000 false hR.bench).mono fun e W' hg => ⟨hg.1, by rw [← hg.2]; exact Lib.hid hR⟩
end
end Go.Proofs.YtknackfmepkiaaaGreatDoor


/-
  Pairs of numbers with a delta, as a law is handed them.
-/
set_option linter.unusedVariables false
set_option linter.unusedSimpArgs false
namespace Go.Proofs.YtknackfmepkiaaaGreatDoor
open Go.RowKit Rep

instance : Inhabited HD := ⟨⟨false, none, 0, [], none, 0, [], false, none, 0, [], none, 0, []⟩⟩
abbrev HP := HD × HD
def HD.vals (d : HD) : List Value := [.bool d.s, .slice d.a1 d.xs.length d.c1, .slice d.a2 d.ds.length d.c2, .bool d.t, .slice d.b1 d.ys.length d.e1, .slice d.b2 d.es.length d.e2]
def valsP (p : HP) : List Value := p.1.vals ++ p.2.vals
structure PairsIn (W : World) (a : Option Addr) (c : Nat) (ts : List HP) : Prop where
  le : ts.length ≤ c
  max : c ≤ maxLen
  mem : ts = [] ∨ ∃ g off, a = some ⟨g, off, none⟩ ∧ ∀ k p, ts[k]? = some p → ∀ j v, (valsP p)[j]? = some v → W.cell? ⟨g, off + (k * 12 + j), none⟩ = some v
theorem PairsIn.kept {W W' : World} {a : Option Addr} {c : Nat} {ts : List HP} (h : PairsIn W a c ts) (hb : Below W.heap.size W W') : PairsIn W' a c ts := by
  refine ⟨h.le, h.max, ?_⟩
  rcases h.mem with h1 | ⟨g, off, h1, h2⟩
  · exact .inl h1
  · refine .inr ⟨g, off, h1, fun k p hk j v hv => ?_⟩
    have h3 := h2 k p hk j v hv
    rw [hb.cell (World.block_lt_of_cell? _ _ h3)]
    exact h3
/-- They don't lie where the bench is. -/
theorem PairsIn.room {W W' : World} {a : Option Addr} {b c : Nat} {ts : List HP} (h : PairsIn W a c ts) (hb : Bench W b 1000 false) (hr : Room b W W') : PairsIn W' a c ts := by
  refine ⟨h.le, h.max, ?_⟩
  rcases h.mem with h1 | ⟨g, off, h1, h2⟩
  · exact .inl h1
  · refine .inr ⟨g, off, h1, fun k p hk j v hv => ?_⟩
    refine hr.cell (h2 k p hk j v hv) fun e => ?_
    subst e
    have h3 := h2 k p hk 1 _ rfl
    unfold Bench at hb
    simp only [World.cell?, hb] at h3
    generalize off + (k * 12 + 1) = n at h3
    rcases n with _ | _ | n <;> simp at h3
/-- The cells of pair k. -/
theorem PairsIn.cells {W : World} {a : Option Addr} {c : Nat} {ts : List HP} (h : PairsIn W a c ts) : ts = [] ∨ ∃ g off, a = some ⟨g, off, none⟩ ∧ ∀ (k : Nat) (p : HP), ts[k]? = some p →
    W.cell? ⟨g, off + k * 12, none⟩ = some (.bool p.1.s) ∧
    W.cell? ⟨g, off + k * 12 + 1, none⟩ = some (.slice p.1.a1 p.1.xs.length p.1.c1) ∧
    W.cell? ⟨g, off + k * 12 + 2, none⟩ = some (.slice p.1.a2 p.1.ds.length p.1.c2) ∧
    W.cell? ⟨g, off + k * 12 + 3, none⟩ = some (.bool p.1.t) ∧
    W.cell? ⟨g, off + k * 12 + 4, none⟩ = some (.slice p.1.b1 p.1.ys.length p.1.e1) ∧
    W.cell? ⟨g, off + k * 12 + 5, none⟩ = some (.slice p.1.b2 p.1.es.length p.1.e2) ∧
    W.cell? ⟨g, off + k * 12 + 6, none⟩ = some (.bool p.2.s) ∧
    W.cell? ⟨g, off + k * 12 + 7, none⟩ = some (.slice p.2.a1 p.2.xs.length p.2.c1) ∧
    W.cell? ⟨g, off + k * 12 + 8, none⟩ = some (.slice p.2.a2 p.2.ds.length p.2.c2) ∧
    W.cell? ⟨g, off + k * 12 + 9, none⟩ = some (.bool p.2.t) ∧
    W.cell? ⟨g, off + k * 12 + 10, none⟩ = some (.slice p.2.b1 p.2.ys.length p.2.e1) ∧
    W.cell? ⟨g, off + k * 12 + 11, none⟩ = some (.slice p.2.b2 p.2.es.length p.2.e2) := by
  rcases h.mem with h1 | ⟨g, off, h1, h2⟩
  · exact .inl h1
  · exact .inr ⟨g, off, h1, fun k p hk => ⟨h2 k p hk 0 _ rfl, (by rw [Nat.add_assoc]; exact h2 k p hk 1 _ rfl), (by rw [Nat.add_assoc]; exact h2 k p hk 2 _ rfl), (by rw [Nat.add_assoc]; exact h2 k p hk 3 _ rfl), (by rw [Nat.add_assoc]; exact h2 k p hk 4 _ rfl), (by rw [Nat.add_assoc]; exact h2 k p hk 5 _ rfl), (by rw [Nat.add_assoc]; exact h2 k p hk 6 _ rfl), (by rw [Nat.add_assoc]; exact h2 k p hk 7 _ rfl), (by rw [Nat.add_assoc]; exact h2 k p hk 8 _ rfl), (by rw [Nat.add_assoc]; exact h2 k p hk 9 _ rfl), (by rw [Nat.add_assoc]; exact h2 k p hk 10 _ rfl), (by rw [Nat.add_assoc]; exact h2 k p hk 11 _ rfl)⟩⟩
/-- What a pair's letters tell. -/
structure VP (W : World) (p : HP) (r : PQ) : Prop where
  a : VQ r.a (p.1.s, (p.1.a1, p.1.xs.length, p.1.c1), (p.1.a2, p.1.ds.length, p.1.c2)) W
  b : VQ r.b (p.1.t, (p.1.b1, p.1.ys.length, p.1.e1), (p.1.b2, p.1.es.length, p.1.e2)) W
  e : VQ r.e (p.2.s, (p.2.a1, p.2.xs.length, p.2.c1), (p.2.a2, p.2.ds.length, p.2.c2)) W
  f : VQ r.f (p.2.t, (p.2.b1, p.2.ys.length, p.2.e1), (p.2.b2, p.2.es.length, p.2.e2)) W
  ok : OkP r
theorem VP.kept {W W' : World} {p : HP} {r : PQ} (h : VP W p r) (hb : Below W.heap.size W W') : VP W' p r := ⟨h.a.kept hb, h.b.kept hb, h.e.kept hb, h.f.kept hb, h.ok⟩
theorem VP.room {W W' : World} {b : Nat} {p : HP} {r : PQ} (h : VP W p r) (hb : Bench W b 1000 false) (k : Room b W W') : VP W' p r := ⟨k.vq hb h.a, k.vq hb h.b, k.vq hb h.e, k.vq hb h.f, h.ok⟩
end Go.Proofs.YtknackfmepkiaaaGreatDoor


/-
  append of twelve cells onto a row of the call's own, whose cells are all truth values and slices: so no number lies in it.
-/
set_option linter.unusedVariables false
set_option linter.unusedSimpArgs false
namespace Go.Proofs.YtknackfmepkiaaaGreatDoor
open Go.RowKit Rep

def GoodV (u : Value) : Prop := (∃ b, u = .bool b) ∨ ∃ a l c, u = .slice a l c
/-- Block g is a row of twelve cells an element, n of them in use. -/
structure OwnA (E : TypeId) (w : World) (g cap n : Nat) (xs : List Value) : Prop where
  row : ∃ cur, w.heap[g]? = some (.cells cur E (0, 0)) ∧ cur.size = cap * 12 ∧ cur.toList.take (n * 12) = xs ∧ ∀ u ∈ cur.toList, GoodV u
  len : xs.length = n * 12
  le : n ≤ cap
  max : cap ≤ maxLen
theorem OwnA.of_block {E : TypeId} {w w' : World} {g cap n : Nat} {xs : List Value} (h : OwnA E w g cap n xs) (hb : w'.heap[g]? = w.heap[g]?) : OwnA E w' g cap n xs := by
  obtain ⟨⟨cur, h1, h2⟩, h3, h4, h5⟩ := h
  exact ⟨⟨cur, hb.trans h1, h2⟩, h3, h4, h5⟩
theorem OwnA.lt {E : TypeId} {w : World} {g cap n : Nat} {xs : List Value} (h : OwnA E w g cap n xs) : g < w.heap.size := by
  obtain ⟨⟨cur, h1, _⟩, _⟩ := h
  exact (Array.getElem?_eq_some_iff.1 h1).1
theorem OwnA.kept {E : TypeId} {w w' : World} {g cap n : Nat} {xs : List Value} (h : OwnA E w g cap n xs) (hb : Below w.heap.size w w') : OwnA E w' g cap n xs := h.of_block (hb.block g h.lt)
theorem OwnA.grown {E : TypeId} {w w' : World} {g cap n b : Nat} {xs : List Value} (h : OwnA E w g cap n xs) (hg : w.grownBy w' (some b)) (hne : g ≠ b) : OwnA E w' g cap n xs := h.of_block (hg.block g h.lt (by simpa using hne))
theorem OwnA.cell {E : TypeId} {w : World} {g cap n : Nat} {xs : List Value} (h : OwnA E w g cap n xs) (j : Nat) (u : Value) (hu : xs[j]? = some u) : w.cell? ⟨g, j, none⟩ = some u := by
  obtain ⟨⟨cur, h1, h2, h3, _⟩, _⟩ := h
  subst h3
  rw [List.getElem?_take] at hu
  split at hu
  · simp only [World.cell?, h1]
    rw [← Array.getElem?_toList]
    exact hu
  · cases hu
theorem OwnA.start {E : TypeId} (w : World) : OwnA E (w.alloc (.cells #[] E)) w.heap.size 0 0 [] :=
  ⟨⟨#[], heap_alloc_new w _, rfl, rfl, fun u hu => by cases hu⟩, rfl, Nat.le_refl _, by unfold maxLen; omega⟩
/-- Block r holds truth values and slices alone. -/
def NoNum (w : World) (r : Nat) : Prop := ∃ cur T fr, w.heap[r]? = some (.cells cur T fr) ∧ ∀ u ∈ cur.toList, GoodV u
theorem OwnA.no {E : TypeId} {w : World} {g cap n : Nat} {vs : List Value} (h : OwnA E w g cap n vs) : NoNum w g := by
  obtain ⟨⟨cur, h1, h2, h3, hgood⟩, _⟩ := h
  exact ⟨cur, _, _, h1, hgood⟩
theorem NoNum.cell {w : World} {g : Nat} (h : NoNum w g) {off : Nat} {k : IntKind} {i : Int} (h0 : w.cell? ⟨g, off, none⟩ = some (.int k i)) : False := by
  obtain ⟨cur, T, fr, h1, hgood⟩ := h
  simp only [World.cell?, h1] at h0
  have hm : Value.int k i ∈ cur.toList := Array.mem_toList_iff.2 (Array.mem_of_getElem? h0)
  rcases hgood _ hm with ⟨_, hx⟩ | ⟨_, _, _, hx⟩ <;> cases hx
/-- No number lies in it. -/
theorem NoNum.apart {w : World} {g : Nat} (h : NoNum w g) {f : Nat → Value} (hf : ∀ n, ∃ k i, f n = .int k i) {a : Option Addr} {xs : List Nat} (hr : Reads w a (xs.map f)) : xs.map f = [] ∨ ∀ r off, a = some ⟨r, off, none⟩ → some r ≠ some g := by
  rcases hr with hr | ⟨r, off, rfl, hr⟩
  · exact .inl hr
  · by_cases e : xs = []
    · exact .inl (by simp [e])
    · refine .inr fun r' off' hg hbq => ?_
      simp at hg hbq
      obtain ⟨rfl, rfl⟩ := hg
      subst hbq
      have h0 := hr 0 _ (map_getElem? (xs := xs) (f := f) (List.length_pos_iff.2 e))
      obtain ⟨k, i, hki⟩ := hf (xs.getD 0 0)
      rw [hki] at h0
      exact h.cell h0
theorem VD.past {q : Rat} {v : RawR} {w w' : World} {g : Nat} (h : VD q v w) (ho : NoNum w g) (hg : w.grownBy w' (some g)) : VD q v w' := by
  have hi : ∀ n, ∃ k i, i64v n = .int k i := fun n => ⟨_, _, rfl⟩
  exact ⟨h.e0, h.e1, h.e2, ⟨⟨h.lies.num.1.grown hg (ho.apart hi h.lies.num.1), h.lies.num.2⟩, ⟨h.lies.den.1.grown hg (ho.apart hi h.lies.den.1), h.lies.den.2⟩⟩⟩
theorem VQ.past {q : Rat} {v : RawR} {w w' : World} {g : Nat} (h : VQ q v w) (ho : NoNum w g) (hg : w.grownBy w' (some g)) : VQ q v w' := by
  have hi : ∀ n, ∃ k i, u32v n = .int k i := fun n => ⟨_, _, rfl⟩
  exact ⟨h.e0, h.e1, h.e2, ⟨⟨h.lies.num.1.grown hg (ho.apart hi h.lies.num.1), h.lies.num.2⟩, ⟨h.lies.den.1.grown hg (ho.apart hi h.lies.den.1), h.lies.den.2⟩⟩⟩
theorem Tab.past {w w' : World} {g : Nat} (h : Tab w) (ho : NoNum w g) (hg : w.grownBy w' (some g)) : Tab w' := fun j hj => by
  have h1 := h j hj
  refine hg.cell h1 fun e => ?_
  cases e
  exact ho.cell h1
theorem VD.own {q : Rat} {v : RawR} {E : TypeId} {w w' : World} {g cap n : Nat} {vs : List Value} (h : VD q v w) (ho : OwnA E w g cap n vs) (hg : w.grownBy w' (some g)) : VD q v w' := h.past ho.no hg
theorem good_zeros {z : Array Value} (h : 0 < z.size) (hz : ∀ u ∈ z.toList, GoodV u) (n : Nat) : ∀ u ∈ (Builtin.zeroCells z n).toList, GoodV u := by
  intro u hu
  simp only [Builtin.zeroCells, Array.toList_map, List.mem_map] at hu
  obtain ⟨i, _, rfl⟩ := hu
  have hlt : i % z.size < z.size := Nat.mod_lt _ h
  rw [getElem!_pos z _ hlt]
  exact hz _ (Array.mem_toList_iff.2 (Array.getElem_mem hlt))

theorem run_append_twelve {P : Program} (w : World) (t ty e : TypeId) (z : Value) (bts : Nat) (ht : P.underlying t = some (.slice e))
    (hi : (P.info? e).map (fun i => (i.zero, i.size, i.bytes)) = some (some z, 12, bts)) (hz1 : z.cells.size = 12) (hzg : ∀ u ∈ z.cells.toList, GoodV u)
    (g n cap : Nat) (xs : List Value) (hown : OwnA e w g cap n xs)
    (ax : Addr) (c : Nat) (news : List Value) (hl : news.length = 12) (hnews : ∀ j u, news[j]? = some u → w.cell? (ax.add j) = some u) (h1 : ∀ u ∈ news, u.oneCell' = true) (hng : ∀ u ∈ news, GoodV u)
    (hmax : n + 1 ≤ maxLen) (hb : (n + 1) * bts ≤ 140737488355328) :
    ∃ g' cap' w', (Builtin.append_ #[t, t] ty #[.slice (some ⟨g, 0, none⟩) n cap, .slice (some ax) 1 c]).run P w = .ok (.slice (some ⟨g', 0, none⟩) (n + 1) cap') w' ∧ OwnA e w' g' cap' (n + 1) (xs ++ news) ∧ w.grownBy w' (some g) ∧ (g' = g ∨ w.heap.size ≤ g') := by
  obtain ⟨i, h2, h3, h4, h5⟩ := info_parts hi
  have hcell := hown.cell
  obtain ⟨⟨cur, k1, k2, k3, k4⟩, k5, k6, k7⟩ := hown
  have hlen : (xs ++ news).length = (n + 1) * 12 := by rw [List.length_append, k5, hl]; omega
  by_cases hroom : n + 1 ≤ cap
  · have hr := run_append_room (P := P) w t ty e i ht h2 g n cap cur k1 ax 1 c news (by rw [hl, h4]) hnews h1 hroom (by rw [h4, hl, k2]; omega)
    rw [h4, k3] at hr
    refine ⟨g, cap, _, hr, ⟨⟨_, setRow_heap w g cur _ e _ k1, ?_, ?_, ?_⟩, hlen, hroom, k7⟩, ⟨rfl, rfl, rfl, by simp, fun k _ hk => setRow_other w g k _ (fun e => hk (by simp [e]))⟩, .inl rfl⟩
    · simp only [List.size_toArray, List.length_append, List.length_drop, Array.length_toList, k5, hl, k2]
      omega
    · simp only [List.append_assoc]
      rw [← List.append_assoc, ← hlen]
      exact List.take_left
    · intro u hu
      simp only [List.mem_append] at hu
      rcases hu with (hu | hu) | hu
      · rw [← k3] at hu
        exact k4 u (List.mem_of_mem_take hu)
      · exact hng u hu
      · exact k4 u (List.mem_of_mem_drop hu)
  · have hge := grownCap_ge w (n + 1) cap e
    have hcm : grownCap w (n + 1) cap e ≤ maxLen := grownCap_le_maxLen w (n + 1) cap e hmax
    have hsmall : n + 1 ≤ 9223372036854775807 := by simp only [maxLen] at hmax; omega
    subst h5
    have hr := run_append_grow (P := P) w t ty e i z ht h2 h3 ⟨g, 0, none⟩ n cap xs (by rw [k5, h4]) (fun j v hv => by rw [Go.WideShapes.add_plain, Nat.zero_add]; exact hcell j v hv) ax 1 c news (by rw [hl, h4]) hnews (by omega) (by omega) (growslice_fits (by omega) hb)
    refine ⟨w.heap.size, _, _, hr, ⟨⟨_, heap_alloc_new w.drew _, ?_, ?_, ?_⟩, hlen, hge, hcm⟩, ⟨rfl, rfl, rfl, by simp, fun k hk _ => Below.heap_alloc w.drew _ k hk⟩, .inr (Nat.le_refl _)⟩
    · simp only [Array.size_append, List.size_toArray, size_zeroCells, hz1, k5, hl]
      omega
    · simp only [Array.toList_append, List.append_assoc]
      rw [← List.append_assoc, ← hlen]
      exact List.take_left
    · intro u hu
      simp only [Array.toList_append, List.mem_append] at hu
      rcases hu with (hu | hu) | hu
      · rw [← k3] at hu
        exact k4 u (List.mem_of_mem_take (by simpa using hu))
      · exact hng u (by simpa using hu)
      · exact good_zeros (by omega) hzg _ u hu
end Go.Proofs.YtknackfmepkiaaaGreatDoor


/-
  Blocks of one ratio, on a bench with room.
-/
set_option linter.unusedVariables false
set_option linter.unusedSimpArgs false
namespace Go.Proofs.YtknackfmepkiaaaGreatDoor
open Go.RowKit Rep


theorem good3 {s : Bool} {a1 a2 : Option Addr} {l1 c1 l2 c2 : Nat} : ∀ u ∈ (#[.bool s, .slice a1 l1 c1, .slice a2 l2 c2] : Array Value).toList, GoodV u := by
  intro u hu
  simp at hu
  rcases hu with rfl | rfl | rfl
  · exact .inl ⟨_, rfl⟩
  · exact .inr ⟨_, _, _, rfl⟩
  · exact .inr ⟨_, _, _, rfl⟩
/-- Where a ratio's parts lie. -/
def LiesQ (v : RawR) (g : Nat) (W : World) : Prop := W.heap[g]? = some (.cells #[.bool v.1, .slice v.2.1.1 v.2.1.2.1 v.2.1.2.2, .slice v.2.2.1 v.2.2.2.1 v.2.2.2.2] 30 (0, 0))
theorem LiesQ.no {v : RawR} {g : Nat} {W : World} (h : LiesQ v g W) : NoNum W g := ⟨_, _, _, h, good3⟩
theorem LiesD.no {v : RawR} {g : Nat} {W : World} (h : LiesD v g W) : NoNum W g := ⟨_, _, _, h, good3⟩
theorem Blank.no {g : Nat} {W : World} (h : Blank W g) : NoNum W g := ⟨_, _, _, h, good3⟩
theorem BlankD.no {g : Nat} {W : World} (h : BlankD W g) : NoNum W g := ⟨_, _, _, h, good3⟩
theorem LiesQ.kept {v : RawR} {g : Nat} {W W' : World} (h : LiesQ v g W) (hb : Below W.heap.size W W') : LiesQ v g W' := (hb.block _ (Array.getElem?_eq_some_iff.1 h).1).trans h
theorem LiesQ.new (v : RawR) (W : World) : LiesQ v W.heap.size (W.alloc (.cells #[.bool v.1, .slice v.2.1.1 v.2.1.2.1 v.2.1.2.2, .slice v.2.2.1 v.2.2.2.1 v.2.2.2.2] 30)) := heap_alloc_new W _
theorem LiesQ.alloc {v : RawR} {g : Nat} {W : World} (h : LiesQ v g W) (o : Obj) : LiesQ v g (W.alloc o) := h.kept ((Below.refl _ _).alloc (Nat.le_refl _) _)
theorem LiesQ.put {g : Nat} {W : World} (h : Blank W g) (v : RawR) : LiesQ v g (set3 W g v.1 (.slice v.2.1.1 v.2.1.2.1 v.2.1.2.2) (.slice v.2.2.1 v.2.2.2.1 v.2.2.2.2)) := by
  unfold Blank at h
  simp [LiesQ, Go.Proofs.YtknackfmepkiaaaGreatDoor.set3, World.setCell, Array.getElem?_modify, h]
theorem LiesQ.over {g : Nat} {W : World} {u : RawR} (h : LiesQ u g W) (v : RawR) : LiesQ v g (set3 W g v.1 (.slice v.2.1.1 v.2.1.2.1 v.2.1.2.2) (.slice v.2.2.1 v.2.2.2.1 v.2.2.2.2)) := by
  unfold LiesQ at h
  simp [LiesQ, Go.Proofs.YtknackfmepkiaaaGreatDoor.set3, World.setCell, Array.getElem?_modify, h]
theorem LiesD.over {g : Nat} {W : World} {u : RawR} (h : LiesD u g W) (v : RawR) : LiesD v g (set3 W g v.1 (.slice v.2.1.1 v.2.1.2.1 v.2.1.2.2) (.slice v.2.2.1 v.2.2.2.1 v.2.2.2.2)) := by
  unfold LiesD at h
  simp [LiesD, Go.Proofs.YtknackfmepkiaaaGreatDoor.set3, World.setCell, Array.getElem?_modify, h]
theorem LiesQ.past {v : RawR} {g k : Nat} {W : World} (h : LiesQ v g W) (hne : g ≠ k) (s : Bool) (v1 v2 : Value) : LiesQ v g (set3 W k s v1 v2) :=
  ((set3_grown W k s v1 v2).block _ (Array.getElem?_eq_some_iff.1 h).1 (by simpa using hne)).trans h
theorem LiesQ.room {v : RawR} {g b : Nat} {W W' : World} (h : LiesQ v g W) (k : Room b W W') (hne : g ≠ b) : LiesQ v g W' := k.block h hne
theorem LiesQ.cells {v : RawR} {g : Nat} {W : World} (h : LiesQ v g W) : W.cell? ⟨g, 0, none⟩ = some (.bool v.1) ∧ W.cell? ⟨g, 1, none⟩ = some (.slice v.2.1.1 v.2.1.2.1 v.2.1.2.2) ∧ W.cell? ⟨g, 2, none⟩ = some (.slice v.2.2.1 v.2.2.2.1 v.2.2.2.2) ∧ W.frozen? ⟨g, 0, none⟩ = false ∧ W.frozen? ⟨g, 1, none⟩ = false ∧ W.frozen? ⟨g, 2, none⟩ = false := cells3 h
theorem LiesD.cells {v : RawR} {g : Nat} {W : World} (h : LiesD v g W) : W.cell? ⟨g, 0, none⟩ = some (.bool v.1) ∧ W.cell? ⟨g, 1, none⟩ = some (.slice v.2.1.1 v.2.1.2.1 v.2.1.2.2) ∧ W.cell? ⟨g, 2, none⟩ = some (.slice v.2.2.1 v.2.2.2.1 v.2.2.2.2) ∧ W.frozen? ⟨g, 0, none⟩ = false ∧ W.frozen? ⟨g, 1, none⟩ = false ∧ W.frozen? ⟨g, 2, none⟩ = false := cells3 h
theorem VQ.set3R {q : Rat} {v : RawR} {W : World} {g : Nat} (h : VQ q v W) (hn : NoNum W g) (s : Bool) (v1 v2 : Value) : VQ q v (Go.Proofs.YtknackfmepkiaaaGreatDoor.set3 W g s v1 v2) := h.past hn (set3_grown W g s v1 v2)
theorem VD.set3R {q : Rat} {v : RawR} {W : World} {g : Nat} (h : VD q v W) (hn : NoNum W g) (s : Bool) (v1 v2 : Value) : VD q v (Go.Proofs.YtknackfmepkiaaaGreatDoor.set3 W g s v1 v2) := h.past hn (set3_grown W g s v1 v2)
theorem VQ.alloc {q : Rat} {v : RawR} {W : World} (h : VQ q v W) (o : Obj) : VQ q v (W.alloc o) := h.kept ((Below.refl _ _).alloc (Nat.le_refl _) _)
theorem VD.alloc {q : Rat} {v : RawR} {W : World} (h : VD q v W) (o : Obj) : VD q v (W.alloc o) := h.kept ((Below.refl _ _).alloc (Nat.le_refl _) _)
theorem Blank.alloc {g : Nat} {W : World} (h : Blank W g) (o : Obj) : Blank (W.alloc o) g := h.kept ((Below.refl _ _).alloc (Nat.le_refl _) _)
theorem BlankD.alloc {g : Nat} {W : World} (h : BlankD W g) (o : Obj) : BlankD (W.alloc o) g := h.kept ((Below.refl _ _).alloc (Nat.le_refl _) _)
theorem Room.alloc {b : Nat} {W5 W : World} (h : Room b W5 W) (o : Obj) : Room b W5 (W.alloc o) := h.kept ((Below.refl _ _).alloc (Nat.le_refl _) _)
theorem Room.set3 {b r : Nat} {W5 W : World} (h : Room b W5 W) (hn : NoNum W r) (hr : W5.heap.size ≤ r) (hne : r ≠ b) (s : Bool) (v1 v2 : Value) : Room b W5 (Go.Proofs.YtknackfmepkiaaaGreatDoor.set3 W r s v1 v2) := by
  have hg := set3_grown W r s v1 v2
  refine ⟨⟨hg.os.trans h.g.os, hg.tape.trans h.g.tape, hg.output.trans h.g.output, Nat.le_trans h.g.size hg.size, fun k hk hne => (hg.block k (Nat.lt_of_lt_of_le hk h.g.size) (by simp; omega)).trans (h.g.block k hk hne)⟩, h.bench.of_block (hg.block b h.bench.lt (by simpa using Ne.symm hne)), h.tab.past hn hg⟩
theorem Blank.room {b g : Nat} {W W' : World} (h : Blank W g) (k : Room b W W') (hne : g ≠ b) : Blank W' g := k.block h hne
/-- One block of a ratio that floats, behind its region. -/
structure MtAt (b : Nat) (W5 : World) (q : Rat) (i : Nat × RawR × RawR × RawR) (W : World) : Prop where
  lies : LiesQ i.2.2.2 i.1 W
  room : Room b W5 W
  v : VQ q i.2.2.2 W
  ge : W5.heap.size ≤ i.1
theorem MtAt.endA {b : Nat} {W5 W : World} {q : Rat} {x y z : RawR} (hR : Room b W5 W) (hv : VQ q z W) : MtAt b W5 q (W.heap.size, x, y, z) (W.alloc (.cells #[.bool z.1, .slice z.2.1.1 z.2.1.2.1 z.2.1.2.2, .slice z.2.2.1 z.2.2.2.1 z.2.2.2.2] 30)) :=
  ⟨LiesQ.new z W, hR.alloc _, hv.alloc _, hR.g.size⟩
theorem MtAt.endB {b g : Nat} {W5 W : World} {q : Rat} {x y z : RawR} (hR : Room b W5 W) (hv : VQ q z W) (hb : Blank W g) (hg : W5.heap.size ≤ g) (hne : g ≠ b) : MtAt b W5 q (g, x, y, z) (set3 W g z.1 (.slice z.2.1.1 z.2.1.2.1 z.2.1.2.2) (.slice z.2.2.1 z.2.2.2.1 z.2.2.2.2)) :=
  ⟨LiesQ.put hb z, hR.set3 hb.no hg hne _ _ _, hv.set3R hb.no _ _ _, hg⟩
/-- One block of the document's ratio that floats. -/
structure DtAt (W5 : World) (q : Rat) (i : Nat × RawR × RawR) (W : World) : Prop where
  lies : LiesD i.2.2 i.1 W
  below : Below W5.heap.size W5 W
  v : VD q i.2.2 W
  ge : W5.heap.size ≤ i.1
theorem DtAt.endA {W5 W : World} {q : Rat} {x z : RawR} (hR : Below W5.heap.size W5 W) (hv : VD q z W) : DtAt W5 q (W.heap.size, x, z) (W.alloc (.cells #[.bool z.1, .slice z.2.1.1 z.2.1.2.1 z.2.1.2.2, .slice z.2.2.1 z.2.2.2.1 z.2.2.2.2] 38)) :=
  ⟨LiesD.new z W, hR.alloc hR.size _, hv.alloc _, hR.size⟩
theorem DtAt.endB {g : Nat} {W5 W : World} {q : Rat} {x z : RawR} (hR : Below W5.heap.size W5 W) (hv : VD q z W) (hb : BlankD W g) (hg : W5.heap.size ≤ g) : DtAt W5 q (g, x, z) (set3 W g z.1 (.slice z.2.1.1 z.2.1.2.1 z.2.1.2.2) (.slice z.2.2.1 z.2.2.2.1 z.2.2.2.2)) :=
  ⟨LiesD.put hb z, set3_below hR hg, hv.set3R hb.no _ _ _, hg⟩
/-- Two blocks of ratios that float. -/
structure M2At (b : Nat) (W5 : World) (q r : Rat) (i : Nat × Nat × RawR × RawR) (W : World) : Prop where
  x : LiesQ i.2.2.1 i.1 W
  y : LiesQ i.2.2.2 i.2.1 W
  room : Room b W5 W
  vx : VQ q i.2.2.1 W
  vy : VQ r i.2.2.2 W
  gx : W5.heap.size ≤ i.1
  gy : W5.heap.size ≤ i.2.1
section
variable {b : Nat} {W5 W : World} {q r : Rat} {x y : RawR}
theorem M2At.split {i : Nat × Nat × RawR × RawR} (h : M2At b W5 q r i W) : ∃ W', W = W' ∧ M2At b W5 q r i W' := ⟨W, rfl, h⟩
theorem M2At.end0a (hR : Room b W5 W) (hx : VQ q x W) (hy : VQ r y W) : M2At b W5 q r (W.heap.size, W.heap.size + 1, x, y) ((W.alloc (.cells #[.bool x.1, .slice x.2.1.1 x.2.1.2.1 x.2.1.2.2, .slice x.2.2.1 x.2.2.2.1 x.2.2.2.2] 30)).alloc (.cells #[.bool y.1, .slice y.2.1.1 y.2.1.2.1 y.2.1.2.2, .slice y.2.2.1 y.2.2.2.1 y.2.2.2.2] 30)) :=
  ⟨(LiesQ.new x W).alloc _, by simpa using LiesQ.new y (W.alloc (.cells #[.bool x.1, .slice x.2.1.1 x.2.1.2.1 x.2.1.2.2, .slice x.2.2.1 x.2.2.2.1 x.2.2.2.2] 30)), (hR.alloc _).alloc _, (hx.alloc _).alloc _, (hy.alloc _).alloc _, hR.g.size, Nat.le_trans hR.g.size (Nat.le_succ _)⟩
theorem M2At.end0b (hR : Room b W5 W) (hx : VQ q x W) (hy : VQ r y W) : M2At b W5 q r (W.heap.size + 1, W.heap.size, x, y) ((W.alloc (.cells #[.bool y.1, .slice y.2.1.1 y.2.1.2.1 y.2.1.2.2, .slice y.2.2.1 y.2.2.2.1 y.2.2.2.2] 30)).alloc (.cells #[.bool x.1, .slice x.2.1.1 x.2.1.2.1 x.2.1.2.2, .slice x.2.2.1 x.2.2.2.1 x.2.2.2.2] 30)) :=
  ⟨by simpa using LiesQ.new x (W.alloc (.cells #[.bool y.1, .slice y.2.1.1 y.2.1.2.1 y.2.1.2.2, .slice y.2.2.1 y.2.2.2.1 y.2.2.2.2] 30)), (LiesQ.new y W).alloc _, (hR.alloc _).alloc _, (hx.alloc _).alloc _, (hy.alloc _).alloc _, Nat.le_trans hR.g.size (Nat.le_succ _), hR.g.size⟩
theorem M2At.end1a {g : Nat} (hR : Room b W5 W) (hx : VQ q x W) (hy : VQ r y W) (hb : Blank W g) (hg : W5.heap.size ≤ g) (hne : g ≠ b) : M2At b W5 q r (g, W.heap.size, x, y) ((Go.Proofs.YtknackfmepkiaaaGreatDoor.set3 W g x.1 (.slice x.2.1.1 x.2.1.2.1 x.2.1.2.2) (.slice x.2.2.1 x.2.2.2.1 x.2.2.2.2)).alloc (.cells #[.bool y.1, .slice y.2.1.1 y.2.1.2.1 y.2.1.2.2, .slice y.2.2.1 y.2.2.2.1 y.2.2.2.2] 30)) :=
  ⟨(LiesQ.put hb x).alloc _, by have := LiesQ.new y (Go.Proofs.YtknackfmepkiaaaGreatDoor.set3 W g x.1 (.slice x.2.1.1 x.2.1.2.1 x.2.1.2.2) (.slice x.2.2.1 x.2.2.2.1 x.2.2.2.2)); rwa [set3_size] at this, (hR.set3 hb.no hg hne _ _ _).alloc _, (hx.set3R hb.no _ _ _).alloc _, (hy.set3R hb.no _ _ _).alloc _, hg, hR.g.size⟩
theorem M2At.end1b {g : Nat} (hR : Room b W5 W) (hx : VQ q x W) (hy : VQ r y W) (hb : Blank W g) (hg : W5.heap.size ≤ g) (hne : g ≠ b) : M2At b W5 q r (W.heap.size, g, x, y) ((Go.Proofs.YtknackfmepkiaaaGreatDoor.set3 W g y.1 (.slice y.2.1.1 y.2.1.2.1 y.2.1.2.2) (.slice y.2.2.1 y.2.2.2.1 y.2.2.2.2)).alloc (.cells #[.bool x.1, .slice x.2.1.1 x.2.1.2.1 x.2.1.2.2, .slice x.2.2.1 x.2.2.2.1 x.2.2.2.2] 30)) :=
  ⟨by have := LiesQ.new x (Go.Proofs.YtknackfmepkiaaaGreatDoor.set3 W g y.1 (.slice y.2.1.1 y.2.1.2.1 y.2.1.2.2) (.slice y.2.2.1 y.2.2.2.1 y.2.2.2.2)); rwa [set3_size] at this, (LiesQ.put hb y).alloc _, (hR.set3 hb.no hg hne _ _ _).alloc _, (hx.set3R hb.no _ _ _).alloc _, (hy.set3R hb.no _ _ _).alloc _, hR.g.size, hg⟩
theorem M2At.end2 {g k : Nat} (hR : Room b W5 W) (hx : VQ q x W) (hy : VQ r y W) (hb : Blank W g) (hk : Blank W k) (hgk : g ≠ k) (hg : W5.heap.size ≤ g) (hg2 : W5.heap.size ≤ k) (hne : g ≠ b) (hne2 : k ≠ b) :
    M2At b W5 q r (g, k, x, y) (Go.Proofs.YtknackfmepkiaaaGreatDoor.set3 (Go.Proofs.YtknackfmepkiaaaGreatDoor.set3 W g x.1 (.slice x.2.1.1 x.2.1.2.1 x.2.1.2.2) (.slice x.2.2.1 x.2.2.2.1 x.2.2.2.2)) k y.1 (.slice y.2.1.1 y.2.1.2.1 y.2.1.2.2) (.slice y.2.2.1 y.2.2.2.1 y.2.2.2.2)) := by
  have hk2 := hk.past (Ne.symm hgk) x.1 (.slice x.2.1.1 x.2.1.2.1 x.2.1.2.2) (.slice x.2.2.1 x.2.2.2.1 x.2.2.2.2)
  exact ⟨(LiesQ.put hb x).past hgk _ _ _, LiesQ.put hk2 y, (hR.set3 hb.no hg hne _ _ _).set3 hk2.no hg2 hne2 _ _ _, (hx.set3R hb.no _ _ _).set3R hk2.no _ _ _, (hy.set3R hb.no _ _ _).set3R hk2.no _ _ _, hg, hg2⟩
end
/-- A result of limbs is written into its block. -/
theorem finB {b r : Nat} {W5 w W0 W : World} {q : Rat} {s : Bool} {a1 a2 : Option Addr} {l1 c1 l2 c2 : Nat} (hR5 : Room b W5 w) (hB0 : Below w.heap.size w W0) (hr : w.heap.size ≤ r) (b3 : Blank W0 r) (hR : Room b W0 W) (hne : r ≠ b) (hv : VQ q (s, (a1, l1, c1), (a2, l2, c2)) W) :
    GotB b W5 q (.returned (.agg #[.bool s, .slice a1 l1 c1, .slice a2 l2 c2])) (set3 W r s (.slice a1 l1 c1) (.slice a2 l2 c2)) := by
  have hb : Blank W r := b3.room hR hne
  have h5 := hR5.g.size
  exact ⟨s, a1, l1, c1, a2, l2, c2, rfl, Lib.hid (((hR5.kept hB0).trans hR).set3 hb.no (by omega) hne _ _ _), Lib.hid (hv.set3R hb.no _ _ _)⟩
theorem finD {r : Nat} {W5 w W0 W : World} {q : Rat} {s : Bool} {a1 a2 : Option Addr} {l1 c1 l2 c2 : Nat} (hb5 : Below W5.heap.size W5 w) (hB0 : Below w.heap.size w W0) (hr : w.heap.size ≤ r) (b3 : BlankD W0 r) (hb : Below W0.heap.size W0 W) (hv : VD q (s, (a1, l1, c1), (a2, l2, c2)) W) :
    GotD W5 q (.returned (.agg #[.bool s, .slice a1 l1 c1, .slice a2 l2 c2])) (set3 W r s (.slice a1 l1 c1) (.slice a2 l2 c2)) := by
  have h3 : BlankD W r := b3.kept hb
  have h5 := hb5.size
  exact ⟨s, a1, l1, c1, a2, l2, c2, rfl, Lib.hid (set3_below (hb5.trans ((hB0.trans (hb.mono hB0.size)).mono h5)) (by omega)), Lib.hid (hv.set3R h3.no _ _ _)⟩
end Go.Proofs.YtknackfmepkiaaaGreatDoor


/-
  delta.At, and the document's.
-/
set_option linter.unusedVariables false
set_option linter.unusedSimpArgs false
namespace Go.Proofs.YtknackfmepkiaaaGreatDoor
open Go.RowKit Rep


set_option maxRecDepth 100000 in
set_option maxHeartbeats 4000000 in
theorem AtPP {W5 w : World} {b : Nat} {xs us ds : Bool} {xa xb ua ub da db : Option Addr} {xl xc xk xe ul uc uk ue dl dc dk de : Nat} {p q r : Rat} (hx : VQ q (xs, (xa, xl, xc), (xb, xk, xe)) w) (hu : VQ r (us, (ua, ul, uc), (ub, uk, ue)) w) (hd : VQ p (ds, (da, dl, dc), (db, dk, de)) w) (zq : szQ q ≤ 40) (zr : szQ r ≤ 6) (zp : szQ p ≤ 39) (hR5 : Room b W5 w) :
    Calls Tryz.prog 17 #[.pointer (some ⟨b, 0, none⟩), .agg #[.bool xs, .slice xa xl xc, .slice xb xk xe, .bool us, .slice ua ul uc, .slice ub uk ue], .agg #[.bool ds, .slice da dl dc, .slice db dk de]] w (GotB b W5 (q + r * p)) := by
  obtain ⟨W0, hW0, hB0, b0, b1, b2, hs⟩ := boxes3 w #[.bool xs, .slice xa xl xc, .slice xb xk xe, .bool us, .slice ua ul uc, .slice ub uk ue] #[.bool ds, .slice da dl dc, .slice db dk de] #[.bool false, .slice none 0 0, .slice none 0 0] 32 30 30
  have hbl := hR5.bench.lt
  have hne0 : w.heap.size ≠ b := by omega
  have hne1 : w.heap.size + 1 ≠ b := by omega
  have hne2 : w.heap.size + 1 + 1 ≠ b := by omega
  have HR0 : Hid (Room b W0 W0.drew) := Lib.hid ((Room.refl (hR5.bench.kept hB0) (hR5.tab.kept hB0)).kept (below_drew W0))
  have hk0 := fun W (h : Room b W0 W) => h.block b0 hne0
  have hk1 := fun W (h : Room b W0 W) => h.block b1 hne1
  have HK : Hid (∀ W, Room b W0 W → (W.cell? ⟨w.heap.size, 0, none⟩ = some (.bool xs) ∧ W.cell? ⟨w.heap.size, 1, none⟩ = some (.slice xa xl xc) ∧ W.cell? ⟨w.heap.size, 2, none⟩ = some (.slice xb xk xe) ∧ W.cell? ⟨w.heap.size, 3, none⟩ = some (.bool us) ∧ W.cell? ⟨w.heap.size, 4, none⟩ = some (.slice ua ul uc) ∧ W.cell? ⟨w.heap.size, 5, none⟩ = some (.slice ub uk ue) ∧ W.cell? ⟨w.heap.size + 1, 0, none⟩ = some (.bool ds) ∧ W.cell? ⟨w.heap.size + 1, 1, none⟩ = some (.slice da dl dc) ∧ W.cell? ⟨w.heap.size + 1, 2, none⟩ = some (.slice db dk de))) := Lib.hid fun W h => by
    obtain ⟨k0, k1, k2, k3, k4, k5, _⟩ := cells6 (hk0 W h)
    obtain ⟨k6, k7, k8, _⟩ := cells3 (hk1 W h)
    exact ⟨k0, k1, k2, k3, k4, k5, k6, k7, k8⟩
  have HC1 : Hid (∀ W, Room b W0 W → Calls Tryz.prog 47 #[.pointer (some ⟨b, 0, none⟩), .agg #[.bool us, .slice ua ul uc, .slice ub uk ue], .agg #[.bool ds, .slice da dl dc, .slice db dk de]] W (GotB b W (r * p))) := Lib.hid fun W h => gotB_mul (W5 := W) (Room.refl h.bench h.tab) (h.vq (hR5.bench.kept hB0) (hu.kept hB0)) (h.vq (hR5.bench.kept hB0) (hd.kept hB0)) (by omega) (by omega)
  have HC2 : Hid (∀ W zs za zl zc zb zk ze, Room b W0 W → VQ (r * p) (zs, (za, zl, zc), (zb, zk, ze)) W → Calls Tryz.prog 50 #[.pointer (some ⟨b, 0, none⟩), .agg #[.bool xs, .slice xa xl xc, .slice xb xk xe], .agg #[.bool zs, .slice za zl zc, .slice zb zk ze]] W (GotB b W (q + r * p))) := Lib.hid (fun W zs za zl zc zb zk ze h hz => gotB_add (W5 := W) (Room.refl h.bench h.tab) (h.vq (hR5.bench.kept hB0) (hx.kept hB0)) hz (by omega) (by have := szQ_mul r p; omega))
  have HBK := Lib.hid (fun W (h : Room b W0 W) => (fun (k0 : Blank W _) => k0.cells) (Blank.room b2 h hne2))
  have HFIN := Lib.hid (fun W (h : Room b W0 W) s z1 m1 k1 z2 m2 k2 => @finB b _ W5 w W0 W (q + r * p) s z1 z2 m1 k1 m2 k2 hR5 hB0 (by omega) b2 h hne2)
  have HW0 := Lib.hid hW0
  obtain ⟨k0, k1, k2, k3, k4, k5, k6, k7, k8⟩ := HK.out W0 (Room.refl (hR5.bench.kept hB0) (hR5.tab.kept hB0))
  have hn0 : w.heap.size ≠ w.heap.size + 1 + 1 := by omega
  have hn1 : w.heap.size + 1 ≠ w.heap.size + 1 + 1 := by omega
  have hn2 : w.heap.size + 1 + 1 ≠ w.heap.size := by omega
  have hn3 : w.heap.size + 1 + 1 ≠ w.heap.size + 1 := by omega
  clear hW0 hB0 b0 b1 b2 hs hx hu hd zq zr zp hk0 hk1 hR5 hbl hne0 hne1 hne2
  go_enter Tryz.func17, Tryz.ntmps17
  go_wp2_with fail
  rw [← HW0.out]
  refine wp_region_held_drew (S := (fun w' => w'.cell? ⟨w.heap.size, 0, none⟩ = some (.bool xs) ∧ w'.cell? ⟨w.heap.size, 1, none⟩ = some (.slice xa xl xc) ∧ w'.cell? ⟨w.heap.size, 2, none⟩ = some (.slice xb xk xe) ∧ w'.cell? ⟨w.heap.size, 3, none⟩ = some (.bool us) ∧ w'.cell? ⟨w.heap.size, 4, none⟩ = some (.slice ua ul uc) ∧ w'.cell? ⟨w.heap.size, 5, none⟩ = some (.slice ub uk ue) ∧ w'.cell? ⟨w.heap.size + 1, 0, none⟩ = some (.bool ds) ∧ w'.cell? ⟨w.heap.size + 1, 1, none⟩ = some (.slice da dl dc) ∧ w'.cell? ⟨w.heap.size + 1, 2, none⟩ = some (.slice db dk de))) (by kernel_rfl) ?_ (fun hHeld => ?_)
  · exact ⟨k0, k1, k2, k3, k4, k5, k6, k7, k8⟩
  refine wpAnyH_take (i := 0) (v := ?_) (by rfl) (by kernel_rfl) (by kernel_rfl) (by kernel_rfl) (by exact fun _ _ _ h => h) (Or.inl ⟨by rfl, ?_⟩) hHeld ?_
  rotate_left 1
  · intro w' hSw
    go_simp
    try with_reducible rfl
  try simp only [Act.put, List.setIfInBounds_toArray, List.set_cons_zero, List.set_cons_succ, List.getElem_toArray, List.getElem_cons_zero, List.getElem_cons_succ]
  refine wpAnyH_take (i := 1) (v := ?_) (by rfl) (by kernel_rfl) (by kernel_rfl) (by kernel_rfl) (by exact fun _ _ _ h => h) (Or.inl ⟨by rfl, ?_⟩) hHeld ?_
  rotate_left 1
  · intro w' hSw
    go_simp
    try with_reducible rfl
  try simp only [Act.put, List.setIfInBounds_toArray, List.set_cons_zero, List.set_cons_succ, List.getElem_toArray, List.getElem_cons_zero, List.getElem_cons_succ]
  refine wpAnyH_take (i := 2) (v := ?_) (by rfl) (by kernel_rfl) (by kernel_rfl) (by kernel_rfl) (by exact fun _ _ _ h => h) (Or.inl ⟨by rfl, ?_⟩) hHeld ?_
  rotate_left 1
  · intro w' hSw
    go_simp
    try with_reducible rfl
  try simp only [Act.put, List.setIfInBounds_toArray, List.set_cons_zero, List.set_cons_succ, List.getElem_toArray, List.getElem_cons_zero, List.getElem_cons_succ]
  refine wpAnyH_take (i := 3) (v := ?_) (by rfl) (by kernel_rfl) (by kernel_rfl) (by kernel_rfl) (by exact fun _ _ _ h => h) (Or.inl ⟨by rfl, ?_⟩) hHeld ?_
  rotate_left 1
  · intro w' hSw
    go_simp
    try with_reducible rfl
  try simp only [Act.put, List.setIfInBounds_toArray, List.set_cons_zero, List.set_cons_succ, List.getElem_toArray, List.getElem_cons_zero, List.getElem_cons_succ]
  refine wpAnyH_take (i := 4) (v := ?_) (by rfl) (by kernel_rfl) (by kernel_rfl) (by kernel_rfl) (by exact fun _ _ _ h => h) (Or.inl ⟨by rfl, ?_⟩) hHeld ?_
  rotate_left 1
  · intro w' hSw
    go_simp
    try with_reducible rfl
  try simp only [Act.put, List.setIfInBounds_toArray, List.set_cons_zero, List.set_cons_succ, List.getElem_toArray, List.getElem_cons_zero, List.getElem_cons_succ]
  refine wpAnyH_take (i := 5) (v := ?_) (by rfl) (by kernel_rfl) (by kernel_rfl) (by kernel_rfl) (by exact fun _ _ _ h => h) (Or.inl ⟨by rfl, ?_⟩) hHeld ?_
  rotate_left 1
  · intro w' hSw
    go_simp
    try with_reducible rfl
  try simp only [Act.put, List.setIfInBounds_toArray, List.set_cons_zero, List.set_cons_succ, List.getElem_toArray, List.getElem_cons_zero, List.getElem_cons_succ]
  refine wpAnyH_take (i := 6) (v := ?_) (by rfl) (by kernel_rfl) (by kernel_rfl) (by kernel_rfl) (by exact fun _ _ _ h => h) (Or.inl ⟨by rfl, ?_⟩) hHeld ?_
  rotate_left 1
  · intro w' hSw
    go_simp
    try with_reducible rfl
  try simp only [Act.put, List.setIfInBounds_toArray, List.set_cons_zero, List.set_cons_succ, List.getElem_toArray, List.getElem_cons_zero, List.getElem_cons_succ]
  refine wpAnyH_ready (rs := [7]) (by kernel_rfl) (by simp) ?_
  refine AllReadyH.cons (by rfl) (fun K hK => ?_) AllReadyH.nil
  go_simp
  with_reducible refine (HC1.out _ HR0.out).mono ?_
  rintro e w3 ⟨ys, ya, yl, yc, yb, yk, ye, rfl, R3, V3⟩
  clear hHeld
  refine hK.out _ _ ?_ (fun hHeld => ?_)
  · exact HK.out _ (HR0.out.trans R3.out)
  clear hK K
  try simp only [Act.put, List.setIfInBounds_toArray, List.set_cons_zero, List.set_cons_succ, List.getElem_toArray, List.getElem_cons_zero, List.getElem_cons_succ]
  refine wpAnyH_ready (rs := [8]) (by kernel_rfl) (by simp) ?_
  refine AllReadyH.cons (by rfl) (fun K hK => ?_) AllReadyH.nil
  go_simp
  with_reducible refine (HC2.out _ _ _ _ _ _ _ _ (HR0.out.trans R3.out) V3.out).mono ?_
  rintro e w4 ⟨zs, za, zl, zc, zb, zk, ze, rfl, R4, V4⟩
  have HR4 := Lib.hid ((HR0.out.trans R3.out).trans R4.out)
  clear hHeld
  refine hK.out _ _ ?_ (fun hHeld => ?_)
  · exact HK.out _ ((HR0.out.trans R3.out).trans R4.out)
  clear hK K
  try simp only [Act.put, List.setIfInBounds_toArray, List.set_cons_zero, List.set_cons_succ, List.getElem_toArray, List.getElem_cons_zero, List.getElem_cons_succ]
  obtain ⟨m0, m1, m2, n0, n1, n2⟩ := HBK.out _ HR4.out
  have HE := Lib.hid (HFIN.out _ HR4.out _ _ _ _ _ _ _ V4.out)
  obtain ⟨k0, k1, k2, k3, k4, k5, k6, k7, k8⟩ := HK.out _ HR4.out
  clear HFIN HC1 HC2 HK HW0 HBK
  refine wpAnyH_ready (rs := [9]) (by kernel_rfl) (by simp) ?_
  refine AllReadyH.cons (by rfl) (fun K hK => ?_) AllReadyH.nil
  go_simp
  refine hK.out _ _ ?_ (fun hHeld => ?_)
  · go_keep
  clear hK K
  try simp only [Act.put, List.setIfInBounds_toArray, List.set_cons_zero, List.set_cons_succ, List.getElem_toArray, List.getElem_cons_zero, List.getElem_cons_succ]
  refine wpAnyH_done (by kernel_rfl) ?_ _
  clear hHeld
  go_wp2_with fail
  exact bodyPost_ret (v := .agg #[.bool zs, .slice za zl zc, .slice zb zk ze]) (by simp [results, Tryz.results17, go_sem, m0, m1, m2]) rfl HE.out

set_option maxRecDepth 100000 in
set_option maxHeartbeats 4000000 in
theorem AtDD {W5 w : World} {xs us ds : Bool} {xa xb ua ub da db : Option Addr} {xl xc xk xe ul uc uk ue dl dc dk de : Nat} {p q r : Rat} (hx : VD q (xs, (xa, xl, xc), (xb, xk, xe)) w) (hu : VD r (us, (ua, ul, uc), (ub, uk, ue)) w) (hd : VD p (ds, (da, dl, dc), (db, dk, de)) w) (zq : szQ q ≤ 40) (zr : szQ r ≤ 6) (zp : szQ p ≤ 39) (hb5 : Below W5.heap.size W5 w) :
    Calls Tryz.prog 18 #[.agg #[.bool xs, .slice xa xl xc, .slice xb xk xe, .bool us, .slice ua ul uc, .slice ub uk ue], .agg #[.bool ds, .slice da dl dc, .slice db dk de]] w (GotD W5 (q + r * p)) := by
  obtain ⟨W0, hW0, hB0, b0, b1, b2, hs⟩ := boxes3 w #[.bool xs, .slice xa xl xc, .slice xb xk xe, .bool us, .slice ua ul uc, .slice ub uk ue] #[.bool ds, .slice da dl dc, .slice db dk de] #[.bool false, .slice none 0 0, .slice none 0 0] 40 38 38
  have HR0 := Lib.hid (below_drew W0)
  have hk0 := fun W (h : Below W0.heap.size W0 W) => stay b0 h
  have hk1 := fun W (h : Below W0.heap.size W0 W) => stay b1 h
  have HK : Hid (∀ W, Below W0.heap.size W0 W → (W.cell? ⟨w.heap.size, 0, none⟩ = some (.bool xs) ∧ W.cell? ⟨w.heap.size, 1, none⟩ = some (.slice xa xl xc) ∧ W.cell? ⟨w.heap.size, 2, none⟩ = some (.slice xb xk xe) ∧ W.cell? ⟨w.heap.size, 3, none⟩ = some (.bool us) ∧ W.cell? ⟨w.heap.size, 4, none⟩ = some (.slice ua ul uc) ∧ W.cell? ⟨w.heap.size, 5, none⟩ = some (.slice ub uk ue) ∧ W.cell? ⟨w.heap.size + 1, 0, none⟩ = some (.bool ds) ∧ W.cell? ⟨w.heap.size + 1, 1, none⟩ = some (.slice da dl dc) ∧ W.cell? ⟨w.heap.size + 1, 2, none⟩ = some (.slice db dk de))) := Lib.hid fun W h => by
    obtain ⟨k0, k1, k2, k3, k4, k5, _⟩ := cells6 (hk0 W h)
    obtain ⟨k6, k7, k8, _⟩ := cells3 (hk1 W h)
    exact ⟨k0, k1, k2, k3, k4, k5, k6, k7, k8⟩
  have HC1 : Hid (∀ W, Below W0.heap.size W0 W → Calls Tryz.prog 51 #[.agg #[.bool us, .slice ua ul uc, .slice ub uk ue], .agg #[.bool ds, .slice da dl dc, .slice db dk de]] W (GotD W (r * p))) := Lib.hid fun W h => got_mul (W5 := W) ((hu.kept hB0).kept h) ((hd.kept hB0).kept h) (by omega) (by omega) (Below.refl _ _)
  have HC2 : Hid (∀ W zs za zl zc zb zk ze, Below W0.heap.size W0 W → VD (r * p) (zs, (za, zl, zc), (zb, zk, ze)) W → Calls Tryz.prog 43 #[.agg #[.bool xs, .slice xa xl xc, .slice xb xk xe], .agg #[.bool zs, .slice za zl zc, .slice zb zk ze]] W (GotD W (q + r * p))) := Lib.hid (fun W zs za zl zc zb zk ze h hz => got_add (W5 := W) ((hx.kept hB0).kept h) hz (by omega) (by have := szQ_mul r p; omega) (Below.refl _ _))
  have HBK := Lib.hid (fun W (h : Below W0.heap.size W0 W) => (fun (k0 : BlankD W _) => k0.cells) (BlankD.kept b2 h))
  have HFIN := Lib.hid (fun W (h : Below W0.heap.size W0 W) s z1 m1 k1 z2 m2 k2 => @finD _ W5 w W0 W (q + r * p) s z1 z2 m1 k1 m2 k2 hb5 hB0 (by omega) b2 h)
  have HW0 := Lib.hid hW0
  obtain ⟨k0, k1, k2, k3, k4, k5, k6, k7, k8⟩ := HK.out W0 (Below.refl _ _)
  have hn0 : w.heap.size ≠ w.heap.size + 1 + 1 := by omega
  have hn1 : w.heap.size + 1 ≠ w.heap.size + 1 + 1 := by omega
  have hn2 : w.heap.size + 1 + 1 ≠ w.heap.size := by omega
  have hn3 : w.heap.size + 1 + 1 ≠ w.heap.size + 1 := by omega
  clear hW0 hB0 b0 b1 b2 hs hx hu hd zq zr zp hk0 hk1 hb5
  go_enter Tryz.func18, Tryz.ntmps18
  go_wp2_with fail
  rw [← HW0.out]
  refine wp_region_held_drew (S := (fun w' => w'.cell? ⟨w.heap.size, 0, none⟩ = some (.bool xs) ∧ w'.cell? ⟨w.heap.size, 1, none⟩ = some (.slice xa xl xc) ∧ w'.cell? ⟨w.heap.size, 2, none⟩ = some (.slice xb xk xe) ∧ w'.cell? ⟨w.heap.size, 3, none⟩ = some (.bool us) ∧ w'.cell? ⟨w.heap.size, 4, none⟩ = some (.slice ua ul uc) ∧ w'.cell? ⟨w.heap.size, 5, none⟩ = some (.slice ub uk ue) ∧ w'.cell? ⟨w.heap.size + 1, 0, none⟩ = some (.bool ds) ∧ w'.cell? ⟨w.heap.size + 1, 1, none⟩ = some (.slice da dl dc) ∧ w'.cell? ⟨w.heap.size + 1, 2, none⟩ = some (.slice db dk de))) (by kernel_rfl) ?_ (fun hHeld => ?_)
  · exact ⟨k0, k1, k2, k3, k4, k5, k6, k7, k8⟩
  refine wpAnyH_take (i := 0) (v := ?_) (by rfl) (by kernel_rfl) (by kernel_rfl) (by kernel_rfl) (by exact fun _ _ _ h => h) (Or.inl ⟨by rfl, ?_⟩) hHeld ?_
  rotate_left 1
  · intro w' hSw
    go_simp
    try with_reducible rfl
  try simp only [Act.put, List.setIfInBounds_toArray, List.set_cons_zero, List.set_cons_succ, List.getElem_toArray, List.getElem_cons_zero, List.getElem_cons_succ]
  refine wpAnyH_take (i := 1) (v := ?_) (by rfl) (by kernel_rfl) (by kernel_rfl) (by kernel_rfl) (by exact fun _ _ _ h => h) (Or.inl ⟨by rfl, ?_⟩) hHeld ?_
  rotate_left 1
  · intro w' hSw
    go_simp
    try with_reducible rfl
  try simp only [Act.put, List.setIfInBounds_toArray, List.set_cons_zero, List.set_cons_succ, List.getElem_toArray, List.getElem_cons_zero, List.getElem_cons_succ]
  refine wpAnyH_take (i := 2) (v := ?_) (by rfl) (by kernel_rfl) (by kernel_rfl) (by kernel_rfl) (by exact fun _ _ _ h => h) (Or.inl ⟨by rfl, ?_⟩) hHeld ?_
  rotate_left 1
  · intro w' hSw
    go_simp
    try with_reducible rfl
  try simp only [Act.put, List.setIfInBounds_toArray, List.set_cons_zero, List.set_cons_succ, List.getElem_toArray, List.getElem_cons_zero, List.getElem_cons_succ]
  refine wpAnyH_take (i := 3) (v := ?_) (by rfl) (by kernel_rfl) (by kernel_rfl) (by kernel_rfl) (by exact fun _ _ _ h => h) (Or.inl ⟨by rfl, ?_⟩) hHeld ?_
  rotate_left 1
  · intro w' hSw
    go_simp
    try with_reducible rfl
  try simp only [Act.put, List.setIfInBounds_toArray, List.set_cons_zero, List.set_cons_succ, List.getElem_toArray, List.getElem_cons_zero, List.getElem_cons_succ]
  refine wpAnyH_take (i := 4) (v := ?_) (by rfl) (by kernel_rfl) (by kernel_rfl) (by kernel_rfl) (by exact fun _ _ _ h => h) (Or.inl ⟨by rfl, ?_⟩) hHeld ?_
  rotate_left 1
  · intro w' hSw
    go_simp
    try with_reducible rfl
  try simp only [Act.put, List.setIfInBounds_toArray, List.set_cons_zero, List.set_cons_succ, List.getElem_toArray, List.getElem_cons_zero, List.getElem_cons_succ]
  refine wpAnyH_ready (rs := [5]) (by kernel_rfl) (by simp) ?_
  refine AllReadyH.cons (by rfl) (fun K hK => ?_) AllReadyH.nil
  go_simp
  with_reducible refine (HC1.out _ HR0.out).mono ?_
  rintro e w3 ⟨ys, ya, yl, yc, yb, yk, ye, rfl, R3, V3⟩
  clear hHeld
  refine hK.out _ _ ?_ (fun hHeld => ?_)
  · exact HK.out _ (HR0.out.trans (R3.out.mono HR0.out.size))
  clear hK K
  try simp only [Act.put, List.setIfInBounds_toArray, List.set_cons_zero, List.set_cons_succ, List.getElem_toArray, List.getElem_cons_zero, List.getElem_cons_succ]
  refine wpAnyH_ready (rs := [6]) (by kernel_rfl) (by simp) ?_
  refine AllReadyH.cons (by rfl) (fun K hK => ?_) AllReadyH.nil
  go_simp
  with_reducible refine (HC2.out _ _ _ _ _ _ _ _ (HR0.out.trans (R3.out.mono HR0.out.size)) V3.out).mono ?_
  rintro e w4 ⟨zs, za, zl, zc, zb, zk, ze, rfl, R4, V4⟩
  have h3 := HR0.out.trans (R3.out.mono HR0.out.size)
  have HR4 := Lib.hid (h3.trans (R4.out.mono h3.size))
  clear h3
  clear hHeld
  refine hK.out _ _ ?_ (fun hHeld => ?_)
  · exact HK.out _ HR4.out
  clear hK K
  try simp only [Act.put, List.setIfInBounds_toArray, List.set_cons_zero, List.set_cons_succ, List.getElem_toArray, List.getElem_cons_zero, List.getElem_cons_succ]
  obtain ⟨m0, m1, m2, n0, n1, n2⟩ := HBK.out _ HR4.out
  have HE := Lib.hid (HFIN.out _ HR4.out _ _ _ _ _ _ _ V4.out)
  obtain ⟨k0, k1, k2, k3, k4, k5, k6, k7, k8⟩ := HK.out _ HR4.out
  clear HFIN HC1 HC2 HK HW0 HBK
  refine wpAnyH_ready (rs := [7]) (by kernel_rfl) (by simp) ?_
  refine AllReadyH.cons (by rfl) (fun K hK => ?_) AllReadyH.nil
  go_simp
  refine hK.out _ _ ?_ (fun hHeld => ?_)
  · go_keep
  clear hK K
  try simp only [Act.put, List.setIfInBounds_toArray, List.set_cons_zero, List.set_cons_succ, List.getElem_toArray, List.getElem_cons_zero, List.getElem_cons_succ]
  refine wpAnyH_done (by kernel_rfl) ?_ _
  clear hHeld
  go_wp2_with fail
  exact bodyPost_ret (v := .agg #[.bool zs, .slice za zl zc, .slice zb zk ze]) (by simp [results, Tryz.results18, go_sem, m0, m1, m2]) rfl HE.out
end Go.Proofs.YtknackfmepkiaaaGreatDoor


/-
  delta.meet.
-/
set_option linter.unusedVariables false
set_option linter.unusedSimpArgs false
namespace Go.Proofs.YtknackfmepkiaaaGreatDoor
open Go.RowKit Rep


theorem cmp_lt {x y : Rat} : cmpQ x y = -1 ↔ x < y := by
  unfold cmpQ
  by_cases h1 : x < y
  · simp [h1]
  · by_cases h2 : x = y <;> simp [h1, h2]
theorem cmp_gt {x y : Rat} : cmpQ x y = 1 ↔ y < x := by
  unfold cmpQ
  by_cases h1 : x < y
  · simp [h1]; exact Rat.not_lt.2 (Rat.le_of_lt h1)
  · by_cases h2 : x = y
    · subst h2; simp [Rat.lt_irrefl]
    · simp [h1, h2]; grind

set_option maxRecDepth 100000 in
set_option maxHeartbeats 4000000 in
theorem MeetPP {W5 w : World} {xs us ys vs : Bool} {xa xb ua ub ya yb va vb : Option Addr} {xl xc xk xe ul uc uk ue yl yc yk ye vl vc vk ve : Nat} {p : PQ} (hx : VQ p.a (xs, (xa, xl, xc), (xb, xk, xe)) w) (hu : VQ p.b (us, (ua, ul, uc), (ub, uk, ue)) w) (hy : VQ p.e (ys, (ya, yl, yc), (yb, yk, ye)) w) (hv : VQ p.f (vs, (va, vl, vc), (vb, vk, ve)) w) (ok : OkP p) (hb5 : Below W5.heap.size W5 w) {c : Bool} (hc : meetQ p = c) :
    Calls Tryz.prog 36 #[.agg #[.bool xs, .slice xa xl xc, .slice xb xk xe, .bool us, .slice ua ul uc, .slice ub uk ue], .agg #[.bool ys, .slice ya yl yc, .slice yb yk ye, .bool vs, .slice va vl vc, .slice vb vk ve]] w (GotV W5 (.bool c)) := by
  obtain ⟨W0, hW0, hB0, b0, b1, hs⟩ := boxes2 w #[.bool xs, .slice xa xl xc, .slice xb xk xe, .bool us, .slice ua ul uc, .slice ub uk ue] #[.bool ys, .slice ya yl yc, .slice yb yk ye, .bool vs, .slice va vl vc, .slice vb vk ve] 32 32
  have HK : Hid (∀ W, Below W0.heap.size W0 W → (W.cell? ⟨w.heap.size, 0, none⟩ = some (.bool xs) ∧ W.cell? ⟨w.heap.size, 1, none⟩ = some (.slice xa xl xc) ∧ W.cell? ⟨w.heap.size, 2, none⟩ = some (.slice xb xk xe) ∧ W.cell? ⟨w.heap.size, 3, none⟩ = some (.bool us) ∧ W.cell? ⟨w.heap.size, 4, none⟩ = some (.slice ua ul uc) ∧ W.cell? ⟨w.heap.size, 5, none⟩ = some (.slice ub uk ue) ∧ W.cell? ⟨w.heap.size + 1, 0, none⟩ = some (.bool ys) ∧ W.cell? ⟨w.heap.size + 1, 1, none⟩ = some (.slice ya yl yc) ∧ W.cell? ⟨w.heap.size + 1, 2, none⟩ = some (.slice yb yk ye) ∧ W.cell? ⟨w.heap.size + 1, 3, none⟩ = some (.bool vs) ∧ W.cell? ⟨w.heap.size + 1, 4, none⟩ = some (.slice va vl vc) ∧ W.cell? ⟨w.heap.size + 1, 5, none⟩ = some (.slice vb vk ve))) := Lib.hid fun W h => by
    obtain ⟨k0, k1, k2, k3, k4, k5, _⟩ := cells6 (stay b0 h)
    obtain ⟨k6, k7, k8, k9, k10, k11, _⟩ := cells6 (stay b1 h)
    exact ⟨k0, k1, k2, k3, k4, k5, k6, k7, k8, k9, k10, k11⟩
  have HBL := Lib.hid (hb5.trans (hB0.mono hb5.size))
  have HW0 := Lib.hid hW0
  obtain ⟨k0, k1, k2, k3, k4, k5, k6, k7, k8, k9, k10, k11⟩ := HK.out W0 (Below.refl _ _)
  obtain ⟨z1, z2, z3, z4⟩ := ok
  rcases cmpQ_vals p.a p.e with hz | hz | hz
  · have HC1 : Hid (∀ W, Below W0.heap.size W0 W → _) := Lib.hid fun W h => gotP_cmp ((hx.kept hB0).kept h) ((hy.kept hB0).kept h) (by omega) (by omega) h hz
    rcases cmpQ_vals p.b p.f with hz2 | hz2 | hz2
    · obtain rfl : c = false := hc.symm.trans (by unfold meetQ; rw [decide_eq_false (show ¬ p.f < p.b from fun h => by rw [cmp_gt.2 h] at hz2; revert hz2; decide)]; simp)
      have HC2 : Hid (∀ W, Below W0.heap.size W0 W → _) := Lib.hid fun W h => gotP_cmp ((hu.kept hB0).kept h) ((hv.kept hB0).kept h) (by omega) (by omega) h hz2
      clear hW0 hB0 b0 b1 hs hx hu hy hv hb5 hz z1 z2 z3 z4 hz2
      go_enter Tryz.func36, Tryz.ntmps36
      go_wp2_with fail
      rw [← HW0.out]
      refine (HC1.out W0 (Below.refl _ _)).mono ?_
      rintro e w3 ⟨rfl, G3⟩
      obtain ⟨k0, k1, k2, k3, k4, k5, k6, k7, k8, k9, k10, k11⟩ := HK.out _ G3.out
      clear HC1
      go_wp2_with fail
      refine (HC2.out _ G3.out).mono ?_
      rintro e w4 ⟨rfl, G4⟩
      have HE := Lib.hid (HBL.out.trans (G4.out.mono HBL.out.size))
      clear HC2 G3 G4
      go_wp2_with fail
      go_ret
      exact ⟨rfl, HE⟩
    · obtain rfl : c = false := hc.symm.trans (by unfold meetQ; rw [decide_eq_false (show ¬ p.f < p.b from fun h => by rw [cmp_gt.2 h] at hz2; revert hz2; decide)]; simp)
      have HC2 : Hid (∀ W, Below W0.heap.size W0 W → _) := Lib.hid fun W h => gotP_cmp ((hu.kept hB0).kept h) ((hv.kept hB0).kept h) (by omega) (by omega) h hz2
      clear hW0 hB0 b0 b1 hs hx hu hy hv hb5 hz z1 z2 z3 z4 hz2
      go_enter Tryz.func36, Tryz.ntmps36
      go_wp2_with fail
      rw [← HW0.out]
      refine (HC1.out W0 (Below.refl _ _)).mono ?_
      rintro e w3 ⟨rfl, G3⟩
      obtain ⟨k0, k1, k2, k3, k4, k5, k6, k7, k8, k9, k10, k11⟩ := HK.out _ G3.out
      clear HC1
      go_wp2_with fail
      refine (HC2.out _ G3.out).mono ?_
      rintro e w4 ⟨rfl, G4⟩
      have HE := Lib.hid (HBL.out.trans (G4.out.mono HBL.out.size))
      clear HC2 G3 G4
      go_wp2_with fail
      go_ret
      exact ⟨rfl, HE⟩
    · obtain rfl : c = true := hc.symm.trans (by unfold meetQ; rw [decide_eq_true (cmp_lt.1 hz), decide_eq_true (cmp_gt.1 hz2)]; rfl)
      have HC2 : Hid (∀ W, Below W0.heap.size W0 W → _) := Lib.hid fun W h => gotP_cmp ((hu.kept hB0).kept h) ((hv.kept hB0).kept h) (by omega) (by omega) h hz2
      clear hW0 hB0 b0 b1 hs hx hu hy hv hb5 hz z1 z2 z3 z4 hz2
      go_enter Tryz.func36, Tryz.ntmps36
      go_wp2_with fail
      rw [← HW0.out]
      refine (HC1.out W0 (Below.refl _ _)).mono ?_
      rintro e w3 ⟨rfl, G3⟩
      obtain ⟨k0, k1, k2, k3, k4, k5, k6, k7, k8, k9, k10, k11⟩ := HK.out _ G3.out
      clear HC1
      go_wp2_with fail
      refine (HC2.out _ G3.out).mono ?_
      rintro e w4 ⟨rfl, G4⟩
      have HE := Lib.hid (HBL.out.trans (G4.out.mono HBL.out.size))
      clear HC2 G3 G4
      go_wp2_with fail
      go_ret
      exact ⟨rfl, HE⟩
  · obtain rfl : c = false := hc.symm.trans (by unfold meetQ; rw [decide_eq_false (show ¬ p.a < p.e from fun h => by rw [cmp_lt.2 h] at hz; revert hz; decide)]; rfl)
    have HC1 : Hid (∀ W, Below W0.heap.size W0 W → _) := Lib.hid fun W h => gotP_cmp ((hx.kept hB0).kept h) ((hy.kept hB0).kept h) (by omega) (by omega) h hz
    clear hW0 hB0 b0 b1 hs hx hu hy hv hb5 hz z1 z2 z3 z4
    go_enter Tryz.func36, Tryz.ntmps36
    go_wp2_with fail
    rw [← HW0.out]
    refine (HC1.out W0 (Below.refl _ _)).mono ?_
    rintro e w3 ⟨rfl, G3⟩
    have HE := Lib.hid (HBL.out.trans (G3.out.mono HBL.out.size))
    clear HC1 G3
    go_wp2_with fail
    go_ret
    exact ⟨rfl, HE⟩
  · obtain rfl : c = false := hc.symm.trans (by unfold meetQ; rw [decide_eq_false (show ¬ p.a < p.e from fun h => by rw [cmp_lt.2 h] at hz; revert hz; decide)]; rfl)
    have HC1 : Hid (∀ W, Below W0.heap.size W0 W → _) := Lib.hid fun W h => gotP_cmp ((hx.kept hB0).kept h) ((hy.kept hB0).kept h) (by omega) (by omega) h hz
    clear hW0 hB0 b0 b1 hs hx hu hy hv hb5 hz z1 z2 z3 z4
    go_enter Tryz.func36, Tryz.ntmps36
    go_wp2_with fail
    rw [← HW0.out]
    refine (HC1.out W0 (Below.refl _ _)).mono ?_
    rintro e w3 ⟨rfl, G3⟩
    have HE := Lib.hid (HBL.out.trans (G3.out.mono HBL.out.size))
    clear HC1 G3
    go_wp2_with fail
    go_ret
    exact ⟨rfl, HE⟩
end Go.Proofs.YtknackfmepkiaaaGreatDoor

