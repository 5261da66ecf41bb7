/- By program out of: RatWh, RatAdd, RatMul, RatDiv, RatOps, RefCmp. -/
import Derived.Test.YtpjeecahaeaajaaGreatDoorMmpjhop
import Derived.Test.YtpjeecahaeaajaaGreatDoorMdnomnp
set_option linter.unusedVariables false
set_option linter.unusedSimpArgs false
namespace Go.Proofs.YtpjeecahaeaajaaGreatDoor
open Go.RowKit Rep
def StepW (t : Nat) (W0 W : World) : Prop := W0.grownBy W (some t) ∧ Bench W t 2147483647 false
theorem StepW.refl {t : Nat} {W0 : World} (h : Bench W0 t 2147483647 false) : StepW t W0 W0 := ⟨grown_refl _ _, h⟩
theorem StepW.trans {t : Nat} {W0 W1 W2 : World} (h : StepW t W0 W1) (k : StepW t W1 W2) : StepW t W0 W2 :=
  ⟨⟨k.1.os.trans h.1.os, k.1.tape.trans h.1.tape, k.1.output.trans h.1.output, Nat.le_trans h.1.size k.1.size, fun i hi hne => (k.1.block i (Nat.lt_of_lt_of_le hi h.1.size) hne).trans (h.1.block i hi hne)⟩, k.2⟩
theorem StepW.below {t : Nat} {W0 W1 W2 : World} (h : StepW t W0 W1) (k : Below W1.heap.size W1 W2) : StepW t W0 W2 := h.trans ⟨grown_of_below k _, h.2.kept k⟩
theorem StepW.drew {t : Nat} {W0 W1 : World} (h : StepW t W0 W1) : StepW t W0 W1.drew := h.below (below_drew _)
theorem StepW.num {t : Nat} {W0 W : World} {a : Option Addr} {l c n : Nat} (h : StepW t W0 W) (h0 : Bench W0 t 2147483647 false) (hn : NumE W0 a l c n) : NumE W a l c n := hn.bench h0 h.1
theorem StepW.block {t : Nat} {W0 W : World} (h : StepW t W0 W) {r : Nat} {o : Obj} (hr : W0.heap[r]? = some o) (hne : r ≠ t) : W.heap[r]? = some o := (h.1.block r (Array.getElem?_eq_some_iff.1 hr).1 (by simpa using hne)).trans hr
theorem StepW.base {t : Nat} {w W0 W : World} (h : StepW t W0 W) (hb : Below w.heap.size w W0) (ht : w.heap.size ≤ t) : Below w.heap.size w W := hb.grown h.1 hb.size (fun k hk => by cases hk; exact ht)
theorem StepW.tab {t : Nat} {W0 W : World} (h : StepW t W0 W) (h0 : Bench W0 t 2147483647 false) (hT : Tab W0) : Tab W := hT.bench h0 h.1
def PostW (t : Nat) (W0 W : World) (k n : Nat) (e : Ending) (W' : World) : Prop := ∃ a l c, e = .returned (.slice a l c) ∧ NumE W' a l c n ∧ l ≤ k ∧ StepW t W0 W' ∧ StepW t W W'
theorem GivesOut.w {t n k : Nat} {W0 W W' : World} {e : Ending} (h : GivesOut t 2147483647 false n W e W') (hs : StepW t W0 W) (hl : (L n).length ≤ k) (hk : k ≤ 2000000) : PostW t W0 W k n e W' := by
  obtain ⟨a, c, rfl, hat, hb, hgr⟩ := h
  have ho : outO 2147483647 false n = false := by simp [outO]; omega
  have hN : outN 2147483647 false n = n := by unfold outN; rw [ho]; rfl
  rw [ho] at hb
  rw [hN] at hat ⊢
  exact ⟨a, _, c, rfl, NumE.of hat (by omega), hl, hs.trans ⟨hgr, hb⟩, ⟨hgr, hb⟩⟩
section
variable {W0 : World} {t : Nat} {a b : Option Addr} {la lb ca cb n k : Nat}
theorem mulW (h0 : Bench W0 t 2147483647 false) (h1 : NumE W0 a la ca n) (h2 : NumE W0 b lb cb k) (hl : la + lb ≤ 2000000) (W : World) (h : StepW t W0 W) :
    Calls Tryz.prog 57 #[.pointer (some ⟨t, 0, none⟩), .slice a la ca, .slice b lb cb] W (PostW t W0 W (la + lb) (n * k)) := by
  have hk1 := L_mul h1.lenL h2.lenL
  obtain ⟨xs, rfl, rfl, hx⟩ := (h.num h0 h1).ex
  obtain ⟨ys, rfl, rfl, hy⟩ := (h.num h0 h2).ex
  exact (Mul_any t 2147483647 a b xs ys ca cb W false h.2 (by unfold maxLen; omega) hx hy).mono fun e w' hg => hg.w h hk1 hl
theorem addW (h0 : Bench W0 t 2147483647 false) (h1 : NumE W0 a la ca n) (h2 : NumE W0 b lb cb k) (hl : max la lb + 1 ≤ 2000000) (W : World) (h : StepW t W0 W) :
    Calls Tryz.prog 73 #[.pointer (some ⟨t, 0, none⟩), .slice a la ca, .slice b lb cb] W (PostW t W0 W (max la lb + 1) (n + k)) := by
  have hk1 := L_add h1.lenL h2.lenL
  obtain ⟨xs, rfl, rfl, hx⟩ := (h.num h0 h1).ex
  obtain ⟨ys, rfl, rfl, hy⟩ := (h.num h0 h2).ex
  exact (Add_any t 2147483647 a b xs ys ca cb W false h.2 hx hy).mono fun e w' hg => hg.w h hk1 hl
theorem subW (h0 : Bench W0 t 2147483647 false) (h1 : NumE W0 a la ca n) (h2 : NumE W0 b lb cb k) (hl : max la lb + 1 ≤ 2000000) (W : World) (h : StepW t W0 W) :
    Calls Tryz.prog 83 #[.pointer (some ⟨t, 0, none⟩), .slice a la ca, .slice b lb cb] W (PostW t W0 W (max la lb + 1) (n - k)) := by
  have hk1 : (L (n - k)).length ≤ max la lb + 1 := by have := L_le h1.lenL (Nat.sub_le n k); omega
  obtain ⟨xs, rfl, rfl, hx⟩ := (h.num h0 h1).ex
  obtain ⟨ys, rfl, rfl, hy⟩ := (h.num h0 h2).ex
  exact (Sub_any t 2147483647 a b xs ys ca cb W false h.2 hx hy).mono fun e w' hg => hg.w h hk1 hl
end
def GivesWh (k : Nat) (s : Bool) (n : Nat) (w : World) (e : Ending) (w' : World) : Prop := ∃ a l c, e = .returned (.agg #[.bool s, .slice a l c]) ∧ NumE w' a l c n ∧ l ≤ k ∧ Below w.heap.size w w'
theorem cells2 {W : World} {r : Nat} {v0 v1 : Value} {t : TypeId} (h : W.heap[r]? = some (.cells #[v0, v1] t (0, 0))) :
    W.cell? ⟨r, 0, none⟩ = some v0 ∧ W.cell? ⟨r, 1, none⟩ = some v1 ∧ W.frozen? ⟨r, 0, none⟩ = false ∧ W.frozen? ⟨r, 1, none⟩ = false := by
  refine ⟨?_, ?_, ?_, ?_⟩
  · simp [World.cell?, h]
  · simp [World.cell?, h]
  · simp [World.frozen?, h]
  · simp [World.frozen?, h]
theorem NumE.set2 {W : World} {r : Nat} {a : Option Addr} {l c n : Nat} {s0 : Bool} {v0 : Value} {t : TypeId} (h : NumE W a l c n) (hb : W.heap[r]? = some (.cells #[.bool s0, v0] t (0, 0))) (hv : ∀ d : Nat, v0 ≠ u32v d) (s : Bool) (v1 : Value) : NumE ((W.setCell ⟨r, 0, none⟩ (.bool s)).setCell ⟨r, 1, none⟩ v1) a l c n := by
  obtain ⟨xs, rfl, rfl, hx⟩ := h.ex
  refine ⟨xs, rfl, rfl, ⟨hx.lim, hx.reads.grown (row := some r) (grownBy_set (grownBy_set (grown_refl W _))) ?_, hx.le, hx.cap, hx.len⟩⟩
  rcases hx.reads with hr | ⟨g, off, rfl, hr⟩
  · exact .inl hr
  · by_cases e : xs = []
    · exact .inl (by simp [e])
    · refine .inr fun g' off' hg hbq => ?_
      simp at hg hbq
      obtain ⟨rfl, rfl⟩ := hg
      subst hbq
      have := hr 0 _ (map_getElem? (xs := xs) (f := u32v) (List.length_pos_iff.2 e))
      simp only [World.cell?, hb] at this
      rcases off with _ | _ | off
      · simp [u32v] at this
      · simp at this; exact hv _ this
      · simp at this
theorem keep4 {W0 : World} {t r1 r2 : Nat} {v0 v1 u0 u1 : Value} {ty ty' : TypeId} (h1 : W0.heap[r1]? = some (.cells #[v0, v1] ty (0, 0))) (h2 : W0.heap[r2]? = some (.cells #[u0, u1] ty' (0, 0))) (n1 : r1 ≠ t) (n2 : r2 ≠ t) (W : World) (h : StepW t W0 W) :
    W.cell? ⟨r1, 0, none⟩ = some v0 ∧ W.cell? ⟨r1, 1, none⟩ = some v1 ∧ W.cell? ⟨r2, 0, none⟩ = some u0 ∧ W.cell? ⟨r2, 1, none⟩ = some u1 := by
  obtain ⟨a, b, _⟩ := cells2 (h.block h1 n1)
  obtain ⟨d, e, _⟩ := cells2 (h.block h2 n2)
  exact ⟨a, b, d, e⟩
theorem keep2 {W0 : World} {t r1 : Nat} {v0 v1 : Value} {ty : TypeId} (h1 : W0.heap[r1]? = some (.cells #[v0, v1] ty (0, 0))) (n1 : r1 ≠ t) (W : World) (h : StepW t W0 W) :
    W.cell? ⟨r1, 0, none⟩ = some v0 ∧ W.cell? ⟨r1, 1, none⟩ = some v1 ∧ W.frozen? ⟨r1, 0, none⟩ = false ∧ W.frozen? ⟨r1, 1, none⟩ = false := cells2 (h.block h1 n1)
theorem fin_Wh {w W0 : World} {t r k n : Nat} {s : Bool} {ty : TypeId} (hB0 : Below w.heap.size w W0) (hr : w.heap.size ≤ r) (ht : w.heap.size ≤ t) (hrt : r ≠ t) (b3 : W0.heap[r]? = some (.cells #[.bool false, .slice none 0 0] ty (0, 0))) (W : World) (a : Option Addr) (l c : Nat) (hn : NumE W a l c n) (hl : l ≤ k) (hs : StepW t W0 W) :
    GivesWh k s n w (.returned (.agg #[.bool s, .slice a l c])) ((W.setCell ⟨r, 0, none⟩ (.bool s)).setCell ⟨r, 1, none⟩ (.slice a l c)) :=
  ⟨a, l, c, rfl, hn.set2 (hs.block b3 hrt) (fun d h => by simp [u32v] at h) _ _, hl, ((hs.base hB0 ht).setCell (p := ⟨r, 0, none⟩) hr _).setCell (p := ⟨r, 1, none⟩) hr _⟩
theorem set4 {w W : World} {tt r1 r2 r3 : Nat} {s t s' t' : Bool} {v1 v2 v1' v2' : Value} {ty : TypeId} {o : Obj} (hB : Below w.heap.size w W) (hbe : Bench W tt 2147483647 false) (c1 : W.heap[r1]? = some (.cells #[.bool s, v1] ty (0, 0))) (c2 : W.heap[r2]? = some (.cells #[.bool t, v2] ty (0, 0))) (c3 : W.heap[r3]? = some o)
    (h12 : r1 ≠ r2) (h13 : r1 ≠ r3) (h23 : r2 ≠ r3) (h1t : r1 ≠ tt) (h2t : r2 ≠ tt) (g1 : w.heap.size ≤ r1) (g2 : w.heap.size ≤ r2) (e1 : ∀ d : Nat, v1 ≠ u32v d) (e2 : ∀ d : Nat, v2 ≠ u32v d) :
    ∃ W2, W2 = ((((W.setCell ⟨r1, 0, none⟩ (.bool s')).setCell ⟨r1, 1, none⟩ v1').setCell ⟨r2, 0, none⟩ (.bool t')).setCell ⟨r2, 1, none⟩ v2') ∧ Below w.heap.size w W2 ∧ Bench W2 tt 2147483647 false ∧
      W2.heap[r1]? = some (.cells #[.bool s', v1'] ty (0, 0)) ∧ W2.heap[r2]? = some (.cells #[.bool t', v2'] ty (0, 0)) ∧ W2.heap[r3]? = some o ∧ ∀ {a l c n}, NumE W a l c n → NumE W2 a l c n := by
  have s2 : ∀ (X : World) (r q : Nat) (u v : Value), q ≠ r → ((X.setCell ⟨r, 0, none⟩ u).setCell ⟨r, 1, none⟩ v).heap[q]? = X.heap[q]? := fun X r q u v h => by
    rw [Below.heap_setCell _ _ _ _ (by simpa using h), Below.heap_setCell _ _ _ _ (by simpa using h)]
  have s3 : ∀ (X : World) (r : Nat) (u v u0 v0 : Value), X.heap[r]? = some (.cells #[u0, v0] ty (0, 0)) → ((X.setCell ⟨r, 0, none⟩ u).setCell ⟨r, 1, none⟩ v).heap[r]? = some (.cells #[u, v] ty (0, 0)) := fun X r u v u0 v0 h => by
    simp [World.setCell, Array.getElem?_modify, h]
  refine ⟨_, rfl, ?_, ?_, ?_, ?_, ?_, ?_⟩
  · exact (((hB.setCell (p := ⟨r1, 0, none⟩) g1 _).setCell (p := ⟨r1, 1, none⟩) g1 _).setCell (p := ⟨r2, 0, none⟩) g2 _).setCell (p := ⟨r2, 1, none⟩) g2 _
  · unfold Bench; rw [s2 _ _ _ _ _ (Ne.symm h2t), s2 _ _ _ _ _ (Ne.symm h1t)]; exact hbe
  · rw [s2 _ _ _ _ _ h12]; exact s3 _ _ _ _ _ _ c1
  · exact s3 _ _ _ _ _ _ ((s2 _ _ _ _ _ (Ne.symm h12)).trans c2)
  · rw [s2 _ _ _ _ _ (Ne.symm h23), s2 _ _ _ _ _ (Ne.symm h13)]; exact c3
  · intro a l c n hn
    exact (hn.set2 c1 e1 _ _).set2 ((s2 _ _ _ _ _ (Ne.symm h12)).trans c2) e2 _ _
set_option maxRecDepth 100000 in
set_option maxHeartbeats 8000000 in
theorem addWholes_any {w : World} {s t : Bool} {a b : Option Addr} {la lb ca cb n k : Nat} (h1 : NumE w a la ca n) (h2 : NumE w b lb cb k) (hl : max la lb + 1 ≤ 2000000) :
    Calls Tryz.prog 58 #[.agg #[.bool s, .slice a la ca], .agg #[.bool t, .slice b lb cb]] w (GivesWh (max la lb + 1) (sumS s n t k) (sumN s n t k) w) := by
  obtain ⟨W0, hW0, hB0, b1, b2, b3, hs⟩ := boxes3 w #[.bool s, .slice a la ca] #[.bool t, .slice b lb cb] #[.bool false, .slice none 0 0] 25 25 25
  have hbW := wayW_below W0
  have hB1 : Below w.heap.size w (wayW W0) := hB0.trans (hbW.mono hB0.size)
  have hbe := wayW_bench W0
  have c1 : (wayW W0).heap[w.heap.size]? = some (.cells #[.bool s, .slice a la ca] 25 (0, 0)) := (hbW.block _ (by omega)).trans b1
  have c2 : (wayW W0).heap[w.heap.size + 1]? = some (.cells #[.bool t, .slice b lb cb] 25 (0, 0)) := (hbW.block _ (by omega)).trans b2
  have c3 : (wayW W0).heap[w.heap.size + 1 + 1]? = some (.cells #[.bool false, .slice none 0 0] 25 (0, 0)) := (hbW.block _ (by omega)).trans b3
  have hU := Lib.hid (unbounded_any W0)
  have n1 := h1.kept hB1
  have n2 := h2.kept hB1
  have htt : W0.heap.size = w.heap.size + 1 + 1 + 1 := hs
  generalize wayW W0 = W1 at *
  have HA := Lib.hid (addW hbe n1 n2 hl)
  have HS1 := Lib.hid (subW hbe n1 n2 hl)
  have HS2 := Lib.hid (subW hbe n2 n1 (by omega))
  have HC := Lib.hid (cmpE n1 n2)
  have HK := Lib.hid (keep4 c1 c2 (by omega : w.heap.size ≠ W0.heap.size) (by omega : w.heap.size + 1 ≠ W0.heap.size))
  have HR := Lib.hid (keep2 c3 (by omega : w.heap.size + 1 + 1 ≠ W0.heap.size))
  have HFIN : Hid (∀ (s : Bool) (n : Nat) (W : World) (a' : Option Addr) (l c : Nat), NumE W a' l c n → l ≤ max la lb + 1 → StepW W0.heap.size W1 W → GivesWh (max la lb + 1) s n w (.returned (.agg #[.bool s, .slice a' l c])) ((W.setCell ⟨w.heap.size + 1 + 1, 0, none⟩ (.bool s)).setCell ⟨w.heap.size + 1 + 1, 1, none⟩ (.slice a' l c))) :=
    Lib.hid fun s n => fin_Wh (k := max la lb + 1) (n := n) (s := s) hB1 (by omega) (by omega) (by omega) c3
  have HRF := Lib.hid (StepW.refl hbe)
  have HW0 := Lib.hid hW0
  have HSW : Hid (∀ W, StepW W0.heap.size W1 W → ∃ W2, W2 = ((((W.setCell ⟨w.heap.size, 0, none⟩ (.bool t)).setCell ⟨w.heap.size, 1, none⟩ (.slice b lb cb)).setCell ⟨w.heap.size + 1, 0, none⟩ (.bool s)).setCell ⟨w.heap.size + 1, 1, none⟩ (.slice a la ca)) ∧
      Hid (∀ W', StepW W0.heap.size W2 W' → W'.cell? ⟨w.heap.size, 0, none⟩ = some (.bool t) ∧ W'.cell? ⟨w.heap.size, 1, none⟩ = some (.slice b lb cb) ∧ W'.cell? ⟨w.heap.size + 1, 0, none⟩ = some (.bool s) ∧ W'.cell? ⟨w.heap.size + 1, 1, none⟩ = some (.slice a la ca)) ∧
      Hid (∀ W', StepW W0.heap.size W2 W' → W'.cell? ⟨w.heap.size + 1 + 1, 0, none⟩ = some (.bool false) ∧ W'.cell? ⟨w.heap.size + 1 + 1, 1, none⟩ = some (.slice none 0 0) ∧ W'.frozen? ⟨w.heap.size + 1 + 1, 0, none⟩ = false ∧ W'.frozen? ⟨w.heap.size + 1 + 1, 1, none⟩ = false) ∧
      StepW W0.heap.size W2 W2 ∧
      Hid (∀ W', StepW W0.heap.size W2 W' → Calls Tryz.prog 83 #[.pointer (some ⟨W0.heap.size, 0, none⟩), .slice b lb cb, .slice a la ca] W' (PostW W0.heap.size W2 W' (max la lb + 1) (k - n))) ∧
      Hid (∀ (W : World) (a' : Option Addr) (l c : Nat), NumE W a' l c (k - n) → l ≤ max la lb + 1 → StepW W0.heap.size W2 W → GivesWh (max la lb + 1) t (k - n) w (.returned (.agg #[.bool t, .slice a' l c])) ((W.setCell ⟨w.heap.size + 1 + 1, 0, none⟩ (.bool t)).setCell ⟨w.heap.size + 1 + 1, 1, none⟩ (.slice a' l c)))) := Lib.hid fun W hS => by
    have hB2 := hS.base hB1 (by omega : w.heap.size ≤ W0.heap.size)
    obtain ⟨W2, hW2, f1, f2, f3, f4, f5, f6⟩ := set4 (s' := t) (t' := s) (v1' := .slice b lb cb) (v2' := .slice a la ca) hB2 hS.2 (hS.block c1 (by omega)) (hS.block c2 (by omega)) (hS.block c3 (by omega)) (by omega) (by omega) (by omega) (by omega) (by omega) (Nat.le_refl _) (by omega) (fun d h => by simp [u32v] at h) (fun d h => by simp [u32v] at h)
    refine ⟨W2, hW2, Lib.hid (keep4 f3 f4 (by omega) (by omega)), Lib.hid (keep2 f5 (by omega)), StepW.refl f2, Lib.hid ?_, Lib.hid ?_⟩
    · have := subW f2 (f6 (hS.num hbe n2)) (f6 (hS.num hbe n1)) (by omega : max lb la + 1 ≤ 2000000)
      rwa [Nat.max_comm lb la] at this
    · exact fin_Wh (k := max la lb + 1) (n := k - n) (s := t) f1 (by omega) (by omega) (by omega) f5
  obtain ⟨k0, k1, k2, k3⟩ := HK.out _ HRF.out
  obtain ⟨_, _, j0, j1⟩ := cells2 c1
  obtain ⟨_, _, j2, j3⟩ := cells2 c2
  have hn1 : w.heap.size ≠ w.heap.size + 1 + 1 := by omega
  have hn2 : w.heap.size + 1 + 1 ≠ w.heap.size := by omega
  generalize W0.heap.size = tt at *
  clear hW0 hB0 b1 b2 b3 hs h1 h2 hbW hB1 hbe c1 c2 c3 n1 n2 htt hl
  by_cases hst : s = t
  · subst hst
    have e1 : sumS s n s k = s := by unfold sumS; rw [if_pos rfl]
    have e2 : sumN s n s k = n + k := by unfold sumN; rw [if_pos rfl]
    rw [e1, e2]
    clear e1 e2 HS1 HS2 HC
    generalize n + k = N at *
    go_enter Tryz.func58, Tryz.ntmps58
    go_wp2_with fail
    rw [← HW0.out]
    refine hU.out.mono ?_
    rintro e w1 ⟨rfl, rfl⟩
    go_wp2_with fail
    go_region_held3 (fun w' => w'.cell? ⟨w.heap.size, 0, none⟩ = some (.bool s) ∧ w'.cell? ⟨w.heap.size, 1, none⟩ = some (.slice a la ca) ∧ w'.cell? ⟨w.heap.size + 1, 0, none⟩ = some (.bool s) ∧ w'.cell? ⟨w.heap.size + 1, 1, none⟩ = some (.slice b lb cb)) (first | exact HK.out _ hp5 | go_keep)
        (first
          | (go_at_call 73; (with_reducible refine (HA.out _ HRF.out.drew).mono ?_); rintro e w5 ⟨a5, l5, c5, rfl, d5, hl5, hp5, _⟩; have HE := Lib.hid (HFIN.out s N _ _ _ _ d5 hl5 hp5); obtain ⟨m0, m1, o0, o1⟩ := HR.out _ hp5))
    clear HFIN HA HK HR HRF HW0 hU
    go_wp2_with fail
    exact bodyPost_ret (v := .agg #[.bool s, .slice a5 l5 c5]) (by simp [results, Tryz.results58, go_sem, m0, m1]) rfl HE.out
  · have hb : (s == t) = false := by simpa using hst
    have hne := Lib.hid hst
    by_cases hlt : n < k
    · have e1 : sumS s n t k = t := by unfold sumS; rw [if_neg hst, if_pos hlt]
      have e2 : sumN s n t k = k - n := by unfold sumN; rw [if_neg hst, if_pos hlt]
      have hcm : cmpI (n : Int) (k : Int) = -1 := by unfold cmpI; rw [if_pos (by omega)]
      rw [e1, e2]
      rw [hcm] at HC
      clear e1 e2 HS1 HS2 HA hcm hlt hst HFIN HR
      generalize k - n = N at *
      go_enter Tryz.func58, Tryz.ntmps58
      go_wp2_with fail
      rw [← HW0.out]
      refine hU.out.mono ?_
      rintro e w1 ⟨rfl, rfl⟩
      go_wp2_with fail
      refine HC.out.mono ?_
      rintro e w2 ⟨rfl, hb2⟩
      have hst2 := HRF.out.below hb2
      obtain ⟨W2, hW2, HK2, HR2, hrf2, HS2, HFIN⟩ := HSW.out _ hst2
      have HW2 := Lib.hid hW2
      have HRF2 := Lib.hid hrf2
      obtain ⟨k0, k1, k2, k3⟩ := HK.out _ hst2
      obtain ⟨j0, j1⟩ : w2.frozen? ⟨w.heap.size, 0, none⟩ = false ∧ w2.frozen? ⟨w.heap.size, 1, none⟩ = false := ⟨by rw [hb2.frozen (p := ⟨w.heap.size, 0, none⟩) (World.block_lt_of_cell? _ _ ‹w1.cell? ⟨w.heap.size, 0, none⟩ = _›)]; assumption, by rw [hb2.frozen (p := ⟨w.heap.size, 1, none⟩) (World.block_lt_of_cell? _ _ ‹w1.cell? ⟨w.heap.size, 1, none⟩ = _›)]; assumption⟩
      obtain ⟨j2, j3⟩ : w2.frozen? ⟨w.heap.size + 1, 0, none⟩ = false ∧ w2.frozen? ⟨w.heap.size + 1, 1, none⟩ = false := ⟨by rw [hb2.frozen (p := ⟨w.heap.size + 1, 0, none⟩) (World.block_lt_of_cell? _ _ ‹w1.cell? ⟨w.heap.size + 1, 0, none⟩ = _›)]; assumption, by rw [hb2.frozen (p := ⟨w.heap.size + 1, 1, none⟩) (World.block_lt_of_cell? _ _ ‹w1.cell? ⟨w.heap.size + 1, 1, none⟩ = _›)]; assumption⟩
      clear hst2 hb2 HSW HC hW2 hrf2
      go_wp2_with fail
      rw [← HW2.out]
      obtain ⟨k0, k1, k2, k3⟩ := HK2.out _ HRF2.out
      go_region_held3 (fun w' => w'.cell? ⟨w.heap.size, 0, none⟩ = some (.bool t) ∧ w'.cell? ⟨w.heap.size, 1, none⟩ = some (.slice b lb cb) ∧ w'.cell? ⟨w.heap.size + 1, 0, none⟩ = some (.bool s) ∧ w'.cell? ⟨w.heap.size + 1, 1, none⟩ = some (.slice a la ca)) (first | exact HK2.out _ hp5 | go_keep)
          (first
            | (go_at_call 83; (with_reducible refine (HS2.out _ HRF2.out.drew).mono ?_); rintro e w5 ⟨a5, l5, c5, rfl, d5, hl5, hp5, _⟩; have HE := Lib.hid (HFIN.out _ _ _ _ d5 hl5 hp5); obtain ⟨m0, m1, o0, o1⟩ := HR2.out _ hp5))
      clear HFIN HS2 HK HK2 HR2 HRF HRF2 HW0 hU HW2
      go_wp2_with fail
      exact bodyPost_ret (v := .agg #[.bool t, .slice a5 l5 c5]) (by simp [results, Tryz.results58, go_sem, m0, m1]) rfl HE.out
    · have e1 : sumS s n t k = s := by unfold sumS; rw [if_neg hst, if_neg hlt]
      have e2 : sumN s n t k = n - k := by unfold sumN; rw [if_neg hst, if_neg hlt]
      have hcm : cmpI (n : Int) (k : Int) = 0 ∨ cmpI (n : Int) (k : Int) = 1 := by
        unfold cmpI; rw [if_neg (by omega)]; by_cases h : (n : Int) = (k : Int)
        · rw [if_pos h]; exact .inl rfl
        · rw [if_neg h]; exact .inr rfl
      rw [e1, e2]
      clear e1 e2 HS2 HA hlt hst HSW
      generalize n - k = N at *
      rcases hcm with hcm | hcm
      all_goals
        rw [hcm] at HC
        clear hcm
        go_enter Tryz.func58, Tryz.ntmps58
        go_wp2_with fail
        rw [← HW0.out]
        refine hU.out.mono ?_
        rintro e w1 ⟨rfl, rfl⟩
        go_wp2_with fail
        refine HC.out.mono ?_
        rintro e w2 ⟨rfl, hb2⟩
        have hst2 := HRF.out.below hb2
        obtain ⟨k0, k1, k2, k3⟩ := HK.out _ hst2
        have HST := Lib.hid hst2
        clear hst2 hb2 HC
        go_wp2_with fail
        go_region_held3 (fun w' => w'.cell? ⟨w.heap.size, 0, none⟩ = some (.bool s) ∧ w'.cell? ⟨w.heap.size, 1, none⟩ = some (.slice a la ca) ∧ w'.cell? ⟨w.heap.size + 1, 0, none⟩ = some (.bool t) ∧ w'.cell? ⟨w.heap.size + 1, 1, none⟩ = some (.slice b lb cb)) (first | exact HK.out _ hp5 | go_keep)
            (first
              | (go_at_call 83; (with_reducible refine (HS1.out _ HST.out.drew).mono ?_); rintro e w5 ⟨a5, l5, c5, rfl, d5, hl5, hp5, _⟩; have HE := Lib.hid (HFIN.out s N _ _ _ _ d5 hl5 hp5); obtain ⟨m0, m1, o0, o1⟩ := HR.out _ hp5))
        clear HFIN HS1 HK HR HRF HW0 hU HST
        go_wp2_with fail
        exact bodyPost_ret (v := .agg #[.bool s, .slice a5 l5 c5]) (by simp [results, Tryz.results58, go_sem, m0, m1]) rfl HE.out
end Go.Proofs.YtpjeecahaeaajaaGreatDoor

set_option linter.unusedVariables false
set_option linter.unusedSimpArgs false
namespace Go.Proofs.YtpjeecahaeaajaaGreatDoor
open Go.RowKit Rep
def PostE (W0 W : World) (k n : Nat) (e : Ending) (W' : World) : Prop := ∃ a l c, e = .returned (.slice a l c) ∧ NumE W' a l c n ∧ l ≤ k ∧ Below W0.heap.size W0 W' ∧ Below W.heap.size W W'
theorem GivesE.post {W0 W W' : World} {k n : Nat} {e : Ending} (h : GivesE k n W e W') (hb : Below W0.heap.size W0 W) : PostE W0 W k n e W' := by
  obtain ⟨a, l, c, rfl, hn, hl, hbb⟩ := h
  exact ⟨a, l, c, rfl, hn, hl, hb.trans (hbb.mono hb.size), hbb⟩
theorem RatX.thr_from {W0 : World} {s : Bool} {a1 : Option Addr} {l1 c1 : Nat} {a2 : Option Addr} {l2 c2 : Nat} {n d d0 : Nat} {q : Rat} (h : RatX W0 s a1 l1 c1 a2 l2 c2 n d d0 q) (W : World) (hb : Below W0.heap.size W0 W) :
    Calls Tryz.prog 53 #[ratV s (.slice a1 l1 c1) (.slice a2 l2 c2)] W (PostE W0 W 10001 d) := by
  refine (through_any (h.den.kept hb)).mono fun e W' hg => ?_
  rw [← h.thr] at hg
  obtain ⟨a, l, c, he, hn, hl, hbb⟩ := hg.post hb
  exact ⟨a, l, c, he, hn, by have := h.s2; omega, hbb⟩
theorem Tab.kept' {w W0 W : World} (h : Tab w) (h0 : Below w.heap.size w W0) (hb : Below W0.heap.size W0 W) : Tab W := (h.kept h0).kept hb
theorem keepS6 {W0 : World} {t r1 r2 : Nat} {v0 v1 v2 u0 u1 u2 : Value} {ty ty' : TypeId} (h1 : W0.heap[r1]? = some (.cells #[v0, v1, v2] ty (0, 0))) (h2 : W0.heap[r2]? = some (.cells #[u0, u1, u2] ty' (0, 0))) (n1 : r1 ≠ t) (n2 : r2 ≠ t) (W : World) (h : StepW t W0 W) :
    W.cell? ⟨r1, 0, none⟩ = some v0 ∧ W.cell? ⟨r1, 1, none⟩ = some v1 ∧ W.cell? ⟨r1, 2, none⟩ = some v2 ∧ W.cell? ⟨r2, 0, none⟩ = some u0 ∧ W.cell? ⟨r2, 1, none⟩ = some u1 ∧ W.cell? ⟨r2, 2, none⟩ = some u2 := by
  obtain ⟨a, b, c, _⟩ := cells3 (h.block h1 n1)
  obtain ⟨d, e, f, _⟩ := cells3 (h.block h2 n2)
  exact ⟨a, b, c, d, e, f⟩
theorem StepW.alloc {t : Nat} {W0 W : World} (h : StepW t W0 W) (o : Obj) : StepW t W0 (W.alloc o) := h.below ((Below.refl _ _).alloc (Nat.le_refl _) o)
theorem whW {W0 : World} {t : Nat} {s1 s2 : Bool} {n k K : Nat} (hK : K + 1 ≤ 2000000) (W : World) (a : Option Addr) (l c : Nat) (b : Option Addr) (l' c' : Nat) (h : StepW t W0 W) (h1 : NumE W a l c n) (h2 : NumE W b l' c' k) (g1 : l ≤ K) (g2 : l' ≤ K) :
    Calls Tryz.prog 58 #[.agg #[.bool s1, .slice a l c], .agg #[.bool s2, .slice b l' c']] W fun e W' => ∃ a5 l5 c5, e = .returned (.agg #[.bool (sumS s1 n s2 k), .slice a5 l5 c5]) ∧ NumE W' a5 l5 c5 (sumN s1 n s2 k) ∧ l5 ≤ K + 1 ∧ StepW t W0 W' ∧ Below W.heap.size W W' := by
  refine (addWholes_any h1 h2 (by omega)).mono ?_
  rintro e W' ⟨a5, l5, c5, rfl, d5, hl, hb⟩
  exact ⟨a5, l5, c5, rfl, d5, by omega, h.below hb, hb⟩
abbrev SumIx := Nat × (Option Addr × Nat × Nat) × (Option Addr × Nat × Nat) × (Option Addr × Nat × Nat)
def SumAt (t : Nat) (W1 : World) (s : Bool) (n K : Nat) (i : SumIx) (W' : World) : Prop :=
  W'.heap[i.1]? = some (.cells #[.bool s, .slice i.2.2.2.1 i.2.2.2.2.1 i.2.2.2.2.2] 25 (0, 0)) ∧ NumE W' i.2.2.2.1 i.2.2.2.2.1 i.2.2.2.2.2 n ∧ i.2.2.2.2.1 ≤ K ∧ StepW t W1 W' ∧ W1.heap.size ≤ i.1
theorem SumAt.new {t : Nat} {W1 w5 : World} {s : Bool} {n K : Nat} {x y : Option Addr × Nat × Nat} {a : Option Addr} {l c : Nat} (d : NumE w5 a l c n) (hl : l ≤ K) (h : StepW t W1 w5) : SumAt t W1 s n K (w5.heap.size, x, y, (a, l, c)) (w5.alloc (.cells #[.bool s, .slice a l c] 25)) :=
  ⟨heap_alloc_new w5 _, d.kept ((Below.refl _ _).alloc (Nat.le_refl _) _), hl, h.alloc _, h.1.size⟩
theorem SumAt.set {t X : Nat} {W1 w5 : World} {s : Bool} {n K : Nat} {x y : Option Addr × Nat × Nat} {a : Option Addr} {l c : Nat} (d : NumE w5 a l c n) (hl : l ≤ K) (h : StepW t W1 w5) (hX : w5.heap[X]? = some (.cells #[.bool false, .slice none 0 0] 25 (0, 0))) (hXt : X ≠ t) (hge : W1.heap.size ≤ X) :
    SumAt t W1 s n K (X, x, y, (a, l, c)) ((w5.setCell ⟨X, 0, none⟩ (.bool s)).setCell ⟨X, 1, none⟩ (.slice a l c)) := by
  refine ⟨by simp [World.setCell, Array.getElem?_modify, hX], d.set2 hX (fun d h => by simp [u32v] at h) _ _, hl, ?_, hge⟩
  have hg := h.1
  refine ⟨⟨hg.os, hg.tape, hg.output, by simpa [World.setCell] using hg.size, fun k hk hne => ?_⟩, ?_⟩
  · rw [Below.heap_setCell _ _ _ _ (by simp; omega), Below.heap_setCell _ _ _ _ (by simp; omega)]
    exact hg.block k hk hne
  · have := h.2
    unfold Bench at this ⊢
    rw [Below.heap_setCell _ _ _ _ (by simpa using Ne.symm hXt), Below.heap_setCell _ _ _ _ (by simpa using Ne.symm hXt)]
    exact this
theorem mulW2 {W0 : World} {t : Nat} {b : Option Addr} {lb cb n k K : Nat} (h0 : Bench W0 t 2147483647 false) (h2 : NumE W0 b lb cb k) (hl : K + lb ≤ 2000000) (W : World) (a : Option Addr) (la ca : Nat) (h : StepW t W0 W) (h1 : NumE W a la ca n) (hk : la ≤ K) :
    Calls Tryz.prog 57 #[.pointer (some ⟨t, 0, none⟩), .slice a la ca, .slice b lb cb] W (PostW t W0 W (K + lb) (n * k)) := by
  have hk1 := L_mul h1.lenL h2.lenL
  obtain ⟨xs, rfl, rfl, hx⟩ := h1.ex
  obtain ⟨ys, rfl, rfl, hy⟩ := (h.num h0 h2).ex
  exact (Mul_any t 2147483647 a b xs ys ca cb W false h.2 (by unfold maxLen; omega) hx hy).mono fun e w' hg => hg.w h (by omega) hl
theorem fitW {w W0 : World} {t b m r : Nat} {s : Bool} {a1 : Option Addr} {l1 c1 n d K : Nat} (hb : Bench w b m false) (hB : Below w.heap.size w W0) (ht : w.heap.size ≤ t) (h0 : Bench W0 t 2147483647 false) (hbl : Blank W0 r) (hr : w.heap.size ≤ r) (hrt : r ≠ t) (hl1 : l1 ≤ 2000000) (hK : K ≤ 2000000) (W : World) (a : Option Addr) (l c : Nat) (h : StepW t W0 W) (h1 : NumE W a1 l1 c1 n) (h2 : NumE W a l c d) (hk : l ≤ K) :
    Calls Tryz.prog 60 #[.pointer (some ⟨b, 0, none⟩), .bool s, .slice a1 l1 c1, .slice a l c] W fun e W' => ∃ (tt : Bool) (x1 : Option Addr) (x2 x3 : Nat) (y1 : Option Addr) (y2 y3 : Nat), e = .returned (.agg #[.bool tt, .slice x1 x2 x3, .slice y1 y2 y3]) ∧ Blank W' r ∧ W.grownBy W' (some b) ∧ GivesR b m s n d w (.returned (ratV tt (.slice x1 x2 x3) (.slice y1 y2 y3))) (set3 W' r tt (.slice x1 x2 x3) (.slice y1 y2 y3)) := by
  have hbw := h.base hB ht
  have hbl' : Blank W r := h.block hbl hrt
  refine (fit_ratio b m s a1 a l1 c1 l c n d W (hb.kept hbw) h1 h2 hl1 (by omega)).mono ?_
  intro e W' hg
  obtain ⟨tt, x1, x2, x3, y1, y2, y3, he, h1, h2⟩ := hg.through (grown_of_below hbw _) hr (by have := hb.lt; omega) hbl' (Array.getElem?_eq_some_iff.1 hbl').1
  obtain ⟨_, _, _, _, _, _, _, _, hgr⟩ := hg
  exact ⟨tt, x1, x2, x3, y1, y2, y3, he, h1, hgr, h2⟩
set_option maxRecDepth 100000 in
set_option maxHeartbeats 8000000 in
theorem Add_q {w : World} {b m : Nat} {sx sy : Bool} {ax bx ay by' : Option Addr} {lx cx kx ex ly cy ky ey nx dx dx0 ny dy dy0 : Nat} {x y : Rat} (hb : Bench w b m false) (hT : Tab w) (hx : RatX w sx ax lx cx bx kx ex nx dx dx0 x) (hy : RatX w sy ay ly cy by' ky ey ny dy dy0 y) :
    Calls Tryz.prog 30 #[.pointer (some ⟨b, 0, none⟩), ratV sx (.slice ax lx cx) (.slice bx kx ex), ratV sy (.slice ay ly cy) (.slice by' ky ey)] w (GivesQ b m (x + y) w) := by
  obtain ⟨W0, hW0, hB0, b1, b2, b3, hs⟩ := boxes3 w #[.bool sx, .slice ax lx cx, .slice bx kx ex] #[.bool sy, .slice ay ly cy, .slice by' ky ey] #[.bool false, .slice none 0 0, .slice none 0 0] 27 27 27
  have hx0 := hx.kept hB0
  have hy0 := hy.kept hB0
  have hbl := hb.lt
  have HOV := Lib.hid (over_any W0 b m false (hb.kept hB0))
  have HT1 := Lib.hid (hx0.thr_from)
  have HT2 := Lib.hid (hy0.thr_from)
  have HK := Lib.hid (keep6 b1 b2)
  have HW0 := Lib.hid hW0
  have H0 := Lib.hid (And.intro hB0 (And.intro b1 (And.intro b2 (And.intro b3 (And.intro hs (And.intro hb (And.intro hT (And.intro hx0 hy0))))))))
  obtain ⟨k0, k1, k2, j0, j1, j2⟩ := cells3 b1
  obtain ⟨k3, k4, k5, j3, j4, j5⟩ := cells3 b2
  have hn1 : w.heap.size ≠ w.heap.size + 1 + 1 := by omega
  have hn2 : w.heap.size + 1 + 1 ≠ w.heap.size := by omega
  clear hW0 hB0 b1 b2 b3 hs hx hy hx0 hy0 hb hT
  unfold ratV at HT1 HT2 ⊢
  go_enter Tryz.func30, Tryz.ntmps30
  go_wp2_with fail
  rw [← HW0.out]
  refine HOV.out.mono ?_
  rintro e w1 ⟨rfl, rfl⟩
  go_wp2_with fail
  go_region_held3 (fun w' => w'.cell? ⟨w.heap.size, 0, none⟩ = some (.bool (sx)) ∧ w'.cell? ⟨w.heap.size, 1, none⟩ = some (.slice ax lx cx) ∧ w'.cell? ⟨w.heap.size, 2, none⟩ = some (.slice bx kx ex) ∧ w'.cell? ⟨w.heap.size + 1, 0, none⟩ = some (.bool ( sy)) ∧ w'.cell? ⟨w.heap.size + 1, 1, none⟩ = some (.slice ay ly cy) ∧ w'.cell? ⟨w.heap.size + 1, 2, none⟩ = some (.slice by' ky ey)) (first | exact HK.out _ hb4 | exact HK.out _ hb3 | go_keep)
      (first
        | (go_at_call 53; (with_reducible refine (HT1.out _ (below_drew _)).mono ?_); rintro e w3 ⟨a3, l3, c3, rfl, d3, hl3, hb3, _⟩)
        | (go_at_call 53; (with_reducible refine (HT2.out _ hb3).mono ?_); rintro e w4 ⟨a4, l4, c4, rfl, d4, hl4, hb4, hd4⟩))
  have HD := Lib.hid (And.intro (d3.kept hd4) (And.intro d4 hb4))
  have HC := Lib.hid ((common_any (d3.kept hd4) d4 (H0.out.2.2.2.2.2.2.1.kept' H0.out.1 hb4) (by omega) (by omega)).mono fun e W' hg => hg.post hb4)
  clear d3 d4 hb3 hb4 hd4 HT1 HT2 HOV
  go_wp2_with fail
  refine HC.out.mono ?_
  rintro e w5 ⟨a5, l5, c5, rfl, d5, hl5, hb5, hd5⟩
  have HD2 := Lib.hid (And.intro (HD.out.1.kept hd5) (And.intro (HD.out.2.1.kept hd5) (And.intro d5 hb5)))
  have HWO := Lib.hid ((without_any HD2.out.1 d5 (by omega)).mono fun e W' hg => hg.post hb5)
  clear d5 hb5 hd5 HC HD
  go_wp2_with fail
  refine HWO.out.mono ?_
  rintro e w6 ⟨a6, l6, c6, rfl, d6, hl6, hb6, hd6⟩
  have HD3 := Lib.hid (And.intro (HD2.out.2.1.kept hd6) (And.intro (HD2.out.2.2.1.kept hd6) (And.intro d6 hb6)))
  have HWP := Lib.hid ((without_any HD3.out.1 HD3.out.2.1 (by omega)).mono fun e W' hg => hg.post hb6)
  clear d6 hb6 hd6 HWO HD2
  go_wp2_with fail
  refine HWP.out.mono ?_
  rintro e w7 ⟨a7, l7, c7, rfl, d7, hl7, hb7, hd7⟩
  have HD4 := Lib.hid (And.intro (HD3.out.2.1.kept hd7) (And.intro (HD3.out.2.2.1.kept hd7) (And.intro d7 hb7)))
  clear d7 hb7 hd7 HWP HD3
  go_wp2_with fail
  refine (unbounded_any w7).mono ?_
  rintro e w8 ⟨rfl, rfl⟩
  obtain ⟨W1, hW1, hB1, hbe, c1', c2', c3', ex, ey, e5, e6, e7, hlt⟩ : ∃ W1, W1 = wayW w7 ∧ Below w.heap.size w W1 ∧ Bench W1 w7.heap.size 2147483647 false ∧
      W1.heap[w.heap.size]? = some (.cells #[.bool sx, .slice ax lx cx, .slice bx kx ex] 27 (0, 0)) ∧ W1.heap[w.heap.size + 1]? = some (.cells #[.bool sy, .slice ay ly cy, .slice by' ky ey] 27 (0, 0)) ∧ Blank W1 (w.heap.size + 1 + 1) ∧
      NumE W1 ax lx cx nx ∧ NumE W1 ay ly cy ny ∧ NumE W1 a5 l5 c5 (Nat.gcd dx dy) ∧ NumE W1 a6 l6 c6 (dx / Nat.gcd dx dy) ∧ NumE W1 a7 l7 c7 (dy / Nat.gcd dx dy) ∧ w.heap.size + 1 + 1 < w7.heap.size := by
    obtain ⟨q1, q2, q3, q4, q5, q6, q7, q8, q9⟩ := H0.out
    obtain ⟨d5, d6, d7, hb7⟩ := HD4.out
    have hbw := wayW_below w7
    have h07 : Below W0.heap.size W0 (wayW w7) := hb7.trans (hbw.mono hb7.size)
    have hsz := hb7.size
    exact ⟨_, rfl, q1.trans (h07.mono q1.size), wayW_bench w7, (h07.block _ (by omega)).trans q2, (h07.block _ (by omega)).trans q3, (h07.block _ (by omega)).trans q4, q8.num.kept h07, q9.num.kept h07, d5.kept hbw, d6.kept hbw, d7.kept hbw, by omega⟩
  rw [← hW1]
  have HW1 := Lib.hid hW1
  have HB1 := Lib.hid (And.intro hB1 (And.intro hbe (And.intro c3' (And.intro e5 (And.intro e6 (And.intro e7 H0.out.2.2.2.2.2.1))))))
  have hgx : dx = Nat.gcd dx dy * (dx / Nat.gcd dx dy) := (Nat.mul_div_cancel' (Nat.gcd_dvd_left _ _)).symm
  have hgy : dy = Nat.gcd dx dy * (dy / Nat.gcd dx dy) := (Nat.mul_div_cancel' (Nat.gcd_dvd_right _ _)).symm
  have hpr : Nat.gcd (dx / Nat.gcd dx dy) (dy / Nat.gcd dx dy) = 1 := Nat.gcd_div_gcd_div_gcd_of_pos_right H0.out.2.2.2.2.2.2.2.2.pos
  have hsum := sum_parts sx sy H0.out.2.2.2.2.2.2.2.1.pos H0.out.2.2.2.2.2.2.2.2.pos H0.out.2.2.2.2.2.2.2.1.cop H0.out.2.2.2.2.2.2.2.2.cop hgx hgy hpr rfl rfl rfl
  rw [H0.out.2.2.2.2.2.2.2.1.is, H0.out.2.2.2.2.2.2.2.2.is] at hsum
  have hsl := H0.out.2.2.2.2.2.2.2.1.s1
  have hsl2 := H0.out.2.2.2.2.2.2.2.2.s1
  have hTB : Tab W1 := H0.out.2.2.2.2.2.2.1.kept hB1
  generalize Nat.gcd dx dy = G at *
  generalize dx / G = P at *
  generalize dy / G = R at *
  have HM1 := Lib.hid (mulW hbe ex e7 (by omega))
  have HM2 := Lib.hid (mulW hbe ey e6 (by omega))
  have HA := Lib.hid (@whW W1 w7.heap.size sx sy (nx * R) (ny * P) 30000 (by omega))
  have HK := Lib.hid (keepS6 c1' c2' (by omega : w.heap.size ≠ w7.heap.size) (by omega : w.heap.size + 1 ≠ w7.heap.size))
  have HRF := Lib.hid (StepW.refl hbe)
  have HAL := Lib.hid ((StepW.refl hbe).alloc (.cells #[.bool false, .slice none 0 0] 25)).drew
  have HBL : Hid ((W1.alloc (.cells #[.bool false, .slice none 0 0] 25)).drew.heap[W1.heap.size]? = some (.cells #[.bool false, .slice none 0 0] 25 (0, 0))) := Lib.hid (heap_alloc_new W1 _)
  have HNE : Hid (W1.heap.size ≠ w7.heap.size) := Lib.hid (Nat.ne_of_gt hbe.lt)
  have HSUM := Lib.hid hsum
  have HTB := Lib.hid hTB
  generalize hSg : sumS sx (nx * R) sy (ny * P) = S at *
  generalize hNn : sumN sx (nx * R) sy (ny * P) = N at *
  generalize w7.heap.size = t at *
  clear hW1 hB1 hbe ex ey e5 e6 e7 hgx hgy hpr hsum hTB HD4 H0 hNn hSg
  obtain ⟨k0, k1, k2, k3, k4, k5⟩ := HK.out _ HRF.out
  obtain ⟨_, _, _, j0, j1, j2⟩ := cells3 c1'
  obtain ⟨_, _, _, j3, j4, j5⟩ := cells3 c2'
  clear c1' c2' c3'
  have hlw : w.heap.size < W1.heap.size := World.block_lt_of_cell? _ _ k0
  have hlw2 : w.heap.size + 1 < W1.heap.size := World.block_lt_of_cell? _ _ k3
  have hnw1 : W1.heap.size ≠ w.heap.size := by omega
  have hnw2 : W1.heap.size ≠ w.heap.size + 1 := by omega
  have hnw3 : w.heap.size ≠ W1.heap.size := by omega
  have hnw4 : w.heap.size + 1 ≠ W1.heap.size := by omega
  go_wp2_with fail
  have HK4 : Hid (∀ W, StepW t W1 W → W.cell? ⟨w.heap.size, 0, none⟩ = some (.bool sx) ∧ W.cell? ⟨w.heap.size, 1, none⟩ = some (.slice ax lx cx) ∧ W.cell? ⟨w.heap.size + 1, 0, none⟩ = some (.bool sy) ∧ W.cell? ⟨w.heap.size + 1, 1, none⟩ = some (.slice ay ly cy)) := Lib.hid fun W h => by
    obtain ⟨q0, q1, _, q3, q4, _⟩ := HK.out W h
    exact ⟨q0, q1, q3, q4⟩
  refine wp_region_ex (ι := SumIx) (fun i => [(34, .pointer (some ⟨w.heap.size, 0, none⟩)), (35, .pointer (some ⟨w.heap.size, 0, none⟩)), (36, .bool sx), (37, .func (.func 57) #[.pointer (some ⟨t, 0, none⟩)] #[]), (38, .pointer (some ⟨w.heap.size, 0, none⟩)), (39, .pointer (some ⟨w.heap.size, 1, none⟩)), (40, .slice ax lx cx), (41, .slice a7 l7 c7),
    (42, .slice i.2.1.1 i.2.1.2.1 i.2.1.2.2), (43, .agg #[.bool sx, .slice i.2.1.1 i.2.1.2.1 i.2.1.2.2]), (44, .pointer (some ⟨w.heap.size + 1, 0, none⟩)), (45, .pointer (some ⟨w.heap.size + 1, 0, none⟩)), (46, .bool sy), (47, .func (.func 57) #[.pointer (some ⟨t, 0, none⟩)] #[]), (48, .pointer (some ⟨w.heap.size + 1, 0, none⟩)), (49, .pointer (some ⟨w.heap.size + 1, 1, none⟩)), (50, .slice ay ly cy), (51, .slice a6 l6 c6),
    (52, .slice i.2.2.1.1 i.2.2.1.2.1 i.2.2.1.2.2), (53, .agg #[.bool sy, .slice i.2.2.1.1 i.2.2.1.2.1 i.2.2.1.2.2]), (54, .agg #[.bool S, .slice i.2.2.2.1 i.2.2.2.2.1 i.2.2.2.2.2]), (13, .pointer (some ⟨i.1, 0, none⟩))]) (SumAt t W1 S N 30001) ?region ?rest
  case region =>
    go_region_held3 (fun w' => w'.cell? ⟨w.heap.size, 0, none⟩ = some (.bool sx) ∧ w'.cell? ⟨w.heap.size, 1, none⟩ = some (.slice ax lx cx) ∧ w'.cell? ⟨w.heap.size + 1, 0, none⟩ = some (.bool sy) ∧ w'.cell? ⟨w.heap.size + 1, 1, none⟩ = some (.slice ay ly cy))
      (first | exact HK4.out _ HE.out.2.2.2.1 | exact HK4.out _ hp10 | exact HK4.out _ hp9 | exact HK4.out _ hp8 | exact HK4.out _ (hp10.alloc _) | exact HK4.out _ (hp9.alloc _) | exact HK4.out _ (hp8.alloc _) | go_keep)
      (first
        | (go_at_call 57; (with_reducible refine (HM1.out _ HRF.out.drew).mono ?_); rintro e w8 ⟨a8, l8, c8, rfl, d8, hl8, hp8, _⟩)
        | (go_at_call 57; (with_reducible refine (HM1.out _ HAL.out).mono ?_); rintro e w8 ⟨a8, l8, c8, rfl, d8, hl8, hp8, hs8⟩; have hX8 := hs8.block HBL.out HNE.out; have hXt := HNE.out; have hge := Nat.le_refl W1.heap.size)
        | (go_at_call 57; (with_reducible refine (HM2.out _ hp8).mono ?_); rintro e w9 ⟨a9, l9, c9, rfl, d9, hl9, hp9, hs9⟩; have hX9 := hs9.block hX8 hXt; have d8' := hs9.num hp8.2 d8)
        | (go_at_call 57; (with_reducible refine (HM2.out _ hp8).mono ?_); rintro e w9 ⟨a9, l9, c9, rfl, d9, hl9, hp9, hs9⟩; have d8' := hs9.num hp8.2 d8)
        | (go_at_call 57; (with_reducible refine (HM2.out _ (hp8.alloc _)).mono ?_); rintro e w9 ⟨a9, l9, c9, rfl, d9, hl9, hp9, hs9⟩; have hX9 := hs9.block (heap_alloc_new w8 _) (Nat.ne_of_gt hp8.2.lt); have d8' := hs9.num (hp8.alloc _).2 (d8.kept ((Below.refl _ _).alloc (Nat.le_refl _) _)); have hXt := Nat.ne_of_gt hp8.2.lt; have hge := hp8.1.size)
        | (go_at_call 58; (with_reducible refine (HA.out _ _ _ _ _ _ _ hp9 d8' d9 (by omega) (by omega)).mono ?_); rintro e w10 ⟨a10, l10, c10, rfl, d10, hl10, hp10, hb10⟩; have hX10 := (hb10.block _ (Array.getElem?_eq_some_iff.1 hX9).1).trans hX9; obtain ⟨m0, m1, n0, n1⟩ := cells2 hX10; have HE := Lib.hid (SumAt.set (s := S) (x := (a8, l8, c8)) (y := (a9, l9, c9)) d10 hl10 hp10 hX10 hXt hge))
        | (go_at_call 58; (with_reducible refine (HA.out _ _ _ _ _ _ _ hp9 d8' d9 (by omega) (by omega)).mono ?_); rintro e w10 ⟨a10, l10, c10, rfl, d10, hl10, hp10, hb10⟩; have HE := Lib.hid (SumAt.new (s := S) (x := (a8, l8, c8)) (y := (a9, l9, c9)) d10 hl10 hp10))
        | (go_at_call 58; (with_reducible refine (HA.out _ _ _ _ _ _ _ (hp9.alloc _) (d8'.kept ((Below.refl _ _).alloc (Nat.le_refl _) _)) (d9.kept ((Below.refl _ _).alloc (Nat.le_refl _) _)) (by omega) (by omega)).mono ?_); rintro e w10 ⟨a10, l10, c10, rfl, d10, hl10, hp10, hb10⟩; have hX10 := (hb10.block _ (by simp)).trans (heap_alloc_new w9 _); have hge := hp9.1.size; obtain ⟨m0, m1, n0, n1⟩ := cells2 hX10; have HE := Lib.hid (SumAt.set (s := S) (x := (a8, l8, c8)) (y := (a9, l9, c9)) d10 hl10 hp10 hX10 (Nat.ne_of_gt hp9.2.lt) hge)))
    all_goals
      refine ⟨_, ?_, HE.out⟩
      simp only [puts, Act.put, List.setIfInBounds_toArray, List.set_cons_zero, List.set_cons_succ]
  case rest =>
    rintro ⟨X, ⟨a8, l8, c8⟩, ⟨a9, l9, c9⟩, ⟨a10, l10, c10⟩⟩ w11 hS
    obtain ⟨hX, dN, hlN, hp, hXge⟩ := hS
    dsimp only at hX dN hlN hXge
    obtain ⟨q1, q2, q3, q4, q5, q6, q7⟩ := HB1.out
    have htX : t < X := Nat.lt_of_lt_of_le q2.lt hXge
    have hB11 := hp.base q1 (by omega : w.heap.size ≤ t)
    have hCC := cancel_any dN (hp.num q2 q4) (hp.tab q2 HTB.out) (by omega) (by omega)
    have HCC := Lib.hid hCC
    have H11 := Lib.hid (And.intro hB11 (And.intro hp.2 (And.intro (hp.block q3 (by omega) : Blank w11 (w.heap.size + 1 + 1)) (And.intro (hp.num q2 q5) (And.intro (hp.num q2 q6) (And.intro hX q7))))))
    obtain ⟨x0, x1, z0, z1⟩ := cells2 hX
    clear hX dN hp q1 q2 q3 q4 q5 q6 q7 hB11 hCC HB1 HM1 HM2 HA HK HRF HAL HBL HNE HTB HW1 HK4 k0 k1 k2 k3 k4 k5 j0 j1 j2 j3 j4 j5
    simp only [puts, Act.put, List.setIfInBounds_toArray, List.set_cons_zero, List.set_cons_succ]
    go_wp2_with fail
    refine HCC.out.mono ?_
    rintro e w12 ⟨a12, l12, c12, a13, l13, c13, rfl, d12, d13, hl12, hl13, hb12⟩
    have hX12 := (hb12.block _ (Array.getElem?_eq_some_iff.1 H11.out.2.2.2.2.2.1).1).trans H11.out.2.2.2.2.2.1
    obtain ⟨x0, x1, z0, z1⟩ := cells2 hX12
    obtain ⟨q1, q2, q3, q4, q5, q6, q7⟩ := H11.out
    have q2' := q2.kept hb12
    have q1' := q1.trans (hb12.mono q1.size)
    have HT1 := Lib.hid (mulW q2' (q4.kept hb12) (q5.kept hb12) (by omega))
    have HT2 := Lib.hid (@mulW2 w12 t a13 l13 c13 (P * R) (G / Nat.gcd N G) 30000 q2' d13 (by omega))
    have HF := Lib.hid (@fitW w w12 t b m (w.heap.size + 1 + 1) S a12 l12 c12 (N / Nat.gcd N G) (P * R * (G / Nat.gcd N G)) 200000 q7 q1' (by omega) q2' ((show Blank w11 (w.heap.size + 1 + 1) from q3).kept hb12) (by omega) (by omega) (by omega) (by omega))
    have HSX : Hid (∀ W, StepW t w12 W → W.cell? ⟨X, 0, none⟩ = some (.bool S)) := Lib.hid fun W h => (cells2 (h.block hX12 (by omega))).1
    have HD12 : Hid (∀ W, StepW t w12 W → NumE W a12 l12 c12 (N / Nat.gcd N G)) := Lib.hid fun W h => h.num q2' d12
    have HRF := Lib.hid (StepW.refl q2')
    have hXb : X ≠ b := by have := q7.lt; omega
    have hXr : X ≠ w.heap.size + 1 + 1 := by omega
    have hXr2 : w.heap.size + 1 + 1 ≠ X := by omega
    clear q1 q2 q3 q4 q5 q6 q7 q1' q2' d12 d13 hb12 H11 HCC
    obtain ⟨s1, s2, s3⟩ := HSUM.out
    have HQ : Hid (∀ e w', GivesR b m S (N / Nat.gcd N G) (P * R * (G / Nat.gcd N G)) w e w' → GivesQ b m (x + y) w e w') := Lib.hid fun e w' h => h.q s1 (by rw [s2]) s3
    clear s1 s2 s3 HSUM
    generalize N / Nat.gcd N G = N' at *
    generalize G / Nat.gcd N G = G' at *
    generalize P * R = PR at *
    go_wp2_with fail
    go_region_held3 (fun w' => w'.cell? ⟨X, 0, none⟩ = some (.bool S)) (first | exact hx15 | exact HSX.out _ hp15 | exact HSX.out _ hp14 | go_keep)
        (first
          | (go_at_call 57; (with_reducible refine (HT1.out _ HRF.out.drew).mono ?_); rintro e w13 ⟨a14, l14, c14, rfl, d14, hl14, hp14, _⟩)
          | (go_at_call 57; (with_reducible refine (HT2.out _ _ _ _ hp14 d14 (by omega)).mono ?_); rintro e w14 ⟨a15, l15, c15, rfl, d15, hl15, hp15, _⟩)
          | (go_at_call 60; (with_reducible refine (HF.out _ _ _ _ hp15 (HD12.out _ hp15) d15 (by omega)).mono ?_); rintro e w15 ⟨tt, x1, x2, x3, y1, y2, y3, rfl, hbl, hgr, hg⟩; obtain ⟨m0, m1, m2, n0, n1, n2⟩ := hbl.cells; have HE := Lib.hid (HQ.out _ _ hg); have hx14 := HSX.out _ hp15; have hx15 := hgr.cell hx14 (by simpa using hXb)))
    clear HF HT1 HT2 HSX HD12 HRF HQ HW0
    go_wp2_with fail
    exact bodyPost_ret (v := ratV tt (.slice x1 x2 x3) (.slice y1 y2 y3)) (by simp [results, Tryz.results30, go_sem, ratV, m0, m1, m2]) rfl HE.out
end Go.Proofs.YtpjeecahaeaajaaGreatDoor

set_option linter.unusedVariables false
set_option linter.unusedSimpArgs false
namespace Go.Proofs.YtpjeecahaeaajaaGreatDoor
open Go.RowKit Rep
def PostC (W0 W : World) (k1 k2 n1 n2 : Nat) (e : Ending) (W' : World) : Prop := ∃ a1 l1 c1 a2 l2 c2, e = .returned (.tuple #[.slice a1 l1 c1, .slice a2 l2 c2]) ∧ NumE W' a1 l1 c1 n1 ∧ NumE W' a2 l2 c2 n2 ∧ l1 ≤ k1 ∧ l2 ≤ k2 ∧ Below W0.heap.size W0 W' ∧ Below W.heap.size W W'
theorem cancel_from {W0 : World} {a : Option Addr} {la ca n k K : Nat} (hT : Tab W0) (h1 : NumE W0 a la ca n) (hl1 : la ≤ 2000000) (hK : K ≤ 2000000) (W : World) (b : Option Addr) (lb cb : Nat) (hb : Below W0.heap.size W0 W) (h2 : NumE W b lb cb k) (hl2 : lb ≤ K) :
    Calls Tryz.prog 59 #[.slice a la ca, .slice b lb cb] W (PostC W0 W la K (n / Nat.gcd n k) (k / Nat.gcd n k)) := by
  refine (cancel_any (h1.kept hb) h2 (hT.kept hb) hl1 (by omega)).mono ?_
  rintro e W' ⟨a1, l1, c1, a2, l2, c2, rfl, d1, d2, g1, g2, hbb⟩
  exact ⟨a1, l1, c1, a2, l2, c2, rfl, d1, d2, g1, by omega, hb.trans (hbb.mono hb.size), hbb⟩
set_option maxRecDepth 100000 in
set_option maxHeartbeats 8000000 in
theorem Mul_q {w : World} {b m : Nat} {sx sy : Bool} {ax bx ay by' : Option Addr} {lx cx kx ex ly cy ky ey nx dx dx0 ny dy dy0 : Nat} {x y : Rat} (hb : Bench w b m false) (hT : Tab w) (hx : RatX w sx ax lx cx bx kx ex nx dx dx0 x) (hy : RatX w sy ay ly cy by' ky ey ny dy dy0 y) :
    Calls Tryz.prog 31 #[.pointer (some ⟨b, 0, none⟩), ratV sx (.slice ax lx cx) (.slice bx kx ex), ratV sy (.slice ay ly cy) (.slice by' ky ey)] w (GivesQ b m (x * y) w) := by
  obtain ⟨W0, hW0, hB0, b1, b2, b3, hs⟩ := boxes3 w #[.bool sx, .slice ax lx cx, .slice bx kx ex] #[.bool sy, .slice ay ly cy, .slice by' ky ey] #[.bool false, .slice none 0 0, .slice none 0 0] 27 27 27
  have hx0 := hx.kept hB0
  have hy0 := hy.kept hB0
  have hbl := hb.lt
  have HOV := Lib.hid (over_any W0 b m false (hb.kept hB0))
  have HT1 := Lib.hid (hx0.thr_from)
  have HT2 := Lib.hid (hy0.thr_from)
  have hTB := hT.kept hB0
  have sx1 := hx0.s1
  have sy1 := hy0.s1
  have HC1 := Lib.hid (@cancel_from W0 ax lx cx nx dy 10001 hTB hx0.num (by omega) (by omega))
  have HC2 := Lib.hid (@cancel_from W0 ay ly cy ny dx 10001 hTB hy0.num (by omega) (by omega))
  have hmul := mul_parts sx sy hx0.pos hy0.pos hx0.cop hy0.cop rfl rfl
  rw [hx0.is, hy0.is] at hmul
  have HK := Lib.hid (keep6 b1 b2)
  have HW0 := Lib.hid hW0
  have HBB := Lib.hid b3
  have H0 := Lib.hid (And.intro hB0 (And.intro b1 (And.intro b2 (And.intro hs hb))))
  obtain ⟨k0, k1, k2, j0, j1, j2⟩ := cells3 b1
  obtain ⟨k3, k4, k5, j3, j4, j5⟩ := cells3 b2
  have hn1 : w.heap.size ≠ w.heap.size + 1 + 1 := by omega
  have hn2 : w.heap.size + 1 + 1 ≠ w.heap.size := by omega
  have HMU := Lib.hid hmul
  clear hW0 hB0 b1 b2 b3 hs hx hy hx0 hy0 hb hT hTB hmul
  generalize nx / Nat.gcd nx dy = A at *
  generalize dy / Nat.gcd nx dy = D' at *
  generalize ny / Nat.gcd ny dx = B at *
  generalize dx / Nat.gcd ny dx = C at *
  unfold ratV at HT1 HT2 ⊢
  go_enter Tryz.func31, Tryz.ntmps31
  go_wp2_with fail
  rw [← HW0.out]
  refine HOV.out.mono ?_
  rintro e w1 ⟨rfl, rfl⟩
  go_wp2_with fail
  go_region_held3 (fun w' => w'.cell? ⟨w.heap.size, 0, none⟩ = some (.bool (sx)) ∧ w'.cell? ⟨w.heap.size, 1, none⟩ = some (.slice ax lx cx) ∧ w'.cell? ⟨w.heap.size, 2, none⟩ = some (.slice bx kx ex) ∧ w'.cell? ⟨w.heap.size + 1, 0, none⟩ = some (.bool ( sy)) ∧ w'.cell? ⟨w.heap.size + 1, 1, none⟩ = some (.slice ay ly cy) ∧ w'.cell? ⟨w.heap.size + 1, 2, none⟩ = some (.slice by' ky ey)) (first | exact HK.out _ hb4 | exact HK.out _ hb3 | go_keep)
      (first
        | (go_at_call 53; (with_reducible refine (HT2.out _ (below_drew _)).mono ?_); rintro e w3 ⟨a3, l3, c3, rfl, d3, hl3, hb3, _⟩)
        | (go_at_call 59; (with_reducible refine (HC1.out _ _ _ _ hb3 d3 hl3).mono ?_); rintro e w4 ⟨a4, l4, c4, a5, l5, c5, rfl, d4, d5, hl4, hl5, hb4, _⟩))
  obtain ⟨k0, k1, k2, k3, k4, k5⟩ := HK.out _ hb4
  have HD := Lib.hid (And.intro d4 d5)
  have HBD := Lib.hid (Below.drew1 hb4)
  have HB4 := Lib.hid hb4
  clear d3 d4 d5 hb3 HT2 HC1 HOV
  go_wp2_with fail
  go_region_held3 (fun w' => w'.cell? ⟨w.heap.size, 0, none⟩ = some (.bool (sx)) ∧ w'.cell? ⟨w.heap.size, 1, none⟩ = some (.slice ax lx cx) ∧ w'.cell? ⟨w.heap.size, 2, none⟩ = some (.slice bx kx ex) ∧ w'.cell? ⟨w.heap.size + 1, 0, none⟩ = some (.bool ( sy)) ∧ w'.cell? ⟨w.heap.size + 1, 1, none⟩ = some (.slice ay ly cy) ∧ w'.cell? ⟨w.heap.size + 1, 2, none⟩ = some (.slice by' ky ey)) (first | exact HK.out _ hb6 | exact HK.out _ hb5 | go_keep)
      (first
        | (go_at_call 53; (with_reducible refine (HT1.out _ HBD.out).mono ?_); rintro e w5 ⟨a6, l6, c6, rfl, d6, hl6, hb5, hd5⟩)
        | (go_at_call 59; (with_reducible refine (HC2.out _ _ _ _ hb5 d6 hl6).mono ?_); rintro e w6 ⟨a7, l7, c7, a8, l8, c8, rfl, d7, d8, hl7, hl8, hb6, hd6⟩))
  have hd46 : Below w4.heap.size w4 w6 := (below_drew w4).trans ((show Below w4.heap.size w4.drew w5 from hd5).trans (hd6.mono hd5.size))
  obtain ⟨W1, hW1, hB1, hbe, c1', c2', c3', e4, e5, e7, e8, hlt⟩ : ∃ W1, W1 = wayW w6 ∧ Below w.heap.size w W1 ∧ Bench W1 w6.heap.size 2147483647 false ∧
      W1.heap[w.heap.size]? = some (.cells #[.bool sx, .slice ax lx cx, .slice bx kx ex] 27 (0, 0)) ∧ W1.heap[w.heap.size + 1]? = some (.cells #[.bool sy, .slice ay ly cy, .slice by' ky ey] 27 (0, 0)) ∧ Blank W1 (w.heap.size + 1 + 1) ∧
      NumE W1 a4 l4 c4 A ∧ NumE W1 a5 l5 c5 D' ∧ NumE W1 a7 l7 c7 B ∧ NumE W1 a8 l8 c8 C ∧ w.heap.size + 1 + 1 < w6.heap.size := by
    obtain ⟨q1, q2, q3, q4, q5⟩ := H0.out
    have hbw := wayW_below w6
    have h06 : Below W0.heap.size W0 (wayW w6) := hb6.trans (hbw.mono hb6.size)
    have hsz := hb6.size
    exact ⟨_, rfl, q1.trans (h06.mono q1.size), wayW_bench w6, (h06.block _ (by omega)).trans q2, (h06.block _ (by omega)).trans q3, (h06.block _ (by omega)).trans HBB.out, (HD.out.1.kept hd46).kept hbw, (HD.out.2.kept hd46).kept hbw, d7.kept hbw, d8.kept hbw, by omega⟩
  have HM1 := Lib.hid (mulW hbe e4 e7 (by omega))
  have HM2 := Lib.hid (mulW hbe e8 e5 (by omega))
  have HF := Lib.hid (fun a1 l1 c1 => @fitW w W1 w6.heap.size b m (w.heap.size + 1 + 1) (!(sx == sy)) a1 l1 c1 (A * B) (C * D') 200000 H0.out.2.2.2.2 hB1 (by omega) hbe c3' (by omega) (by omega))
  have HK2 : Hid (∀ W, StepW w6.heap.size W1 W → W.cell? ⟨w.heap.size, 0, none⟩ = some (.bool sx) ∧ W.cell? ⟨w.heap.size + 1, 0, none⟩ = some (.bool sy)) := Lib.hid fun W h => by
    obtain ⟨q0, q1, _, q3, q4, _⟩ := keepS6 c1' c2' (by omega : w.heap.size ≠ w6.heap.size) (by omega : w.heap.size + 1 ≠ w6.heap.size) W h
    exact ⟨q0, q3⟩
  have HRF := Lib.hid (StepW.refl hbe)
  obtain ⟨s1, s2, s3⟩ := HMU.out
  have HQ : Hid (∀ e w', GivesR b m (!(sx == sy)) (A * B) (C * D') w e w' → GivesQ b m (x * y) w e w') := Lib.hid fun e w' h => h.q s1 (by rw [s2]) s3
  have HW1 := Lib.hid hW1
  have hbn1 : w.heap.size ≠ b := by omega
  have hbn2 : w.heap.size + 1 ≠ b := by omega
  clear s1 s2 s3 hd5 hd6 hd46 hb5 hb6 d6 d7 d8 hW1 hB1 hbe c1' c2' c3' e4 e5 e7 e8 HK HT1 HC2 HD HBD HB4 H0 HBB HMU hb4
  generalize hNn : A * B = N at *
  generalize hMn : C * D' = M at *
  clear k0 k1 k2 k3 k4 k5 j0 j1 j2 j3 j4 j5
  obtain ⟨k0, k3⟩ := HK2.out _ HRF.out
  go_wp2_with fail
  refine (unbounded_any w6).mono ?_
  rintro e w7 ⟨rfl, rfl⟩
  rw [← HW1.out]
  go_wp2_with fail
  go_region_held3 (fun w' => w'.cell? ⟨w.heap.size, 0, none⟩ = some (.bool sx) ∧ w'.cell? ⟨w.heap.size + 1, 0, none⟩ = some (.bool sy)) (first | exact ⟨hx15, hx16⟩ | exact HK2.out _ hp15 | exact HK2.out _ hp14 | go_keep)
      (first
        | (go_at_call 57; (with_reducible refine (HM1.out _ HRF.out.drew).mono ?_); rintro e w13 ⟨a14, l14, c14, rfl, d14, hl14, hp14, _⟩)
        | (go_at_call 57; (with_reducible refine (HM2.out _ hp14).mono ?_); rintro e w14 ⟨a15, l15, c15, rfl, d15, hl15, hp15, hs15⟩; have d14' := hs15.num hp14.2 d14)
        | (go_at_call 60; (with_reducible refine (HF.out _ _ _ (by omega) (by omega) _ _ _ _ hp15 d14' d15 (by omega)).mono ?_); rintro e w15 ⟨tt, x1, x2, x3, y1, y2, y3, rfl, hbl, hgr, hg⟩; obtain ⟨m0, m1, m2, n0, n1, n2⟩ := hbl.cells; have HE := Lib.hid (HQ.out _ _ hg); have hx14 := HK2.out _ hp15; have hx15 := hgr.cell hx14.1 (by simpa using hbn1); have hx16 := hgr.cell hx14.2 (by simpa using hbn2)))
  clear HF HM1 HM2 HK2 HRF HQ HW0 HW1
  go_wp2_with fail
  exact bodyPost_ret (v := ratV tt (.slice x1 x2 x3) (.slice y1 y2 y3)) (by simp [results, Tryz.results31, go_sem, ratV, m0, m1, m2]) rfl HE.out
end Go.Proofs.YtpjeecahaeaajaaGreatDoor

set_option linter.unusedVariables false
set_option linter.unusedSimpArgs false
namespace Go.Proofs.YtpjeecahaeaajaaGreatDoor
open Go.RowKit Rep
theorem AtQ.set3 {W : World} {r : Nat} {a1 : Option Addr} {c1 : Nat} {a2 : Option Addr} {c2 : Nat} {q : Rat} (h : AtQ W a1 c1 a2 c2 q) (hb : RatBlock W r) (s : Bool) (v1 v2 : Value) : AtQ (Go.Proofs.YtpjeecahaeaajaaGreatDoor.set3 W r s v1 v2) a1 c1 a2 c2 q := ⟨h.num.set3 hb _ _ _, h.den.set3 hb _ _ _⟩
theorem GivesQ.through {b m r : Nat} {q : Rat} {w W W' : World} {e : Ending} (h : GivesQ b m q W e W') (hW : w.grownBy W (some b)) (hr : w.heap.size ≤ r) (hrb : b ≠ r) (hbl : Blank W r) :
    ∃ (tt : Bool) (x1 : Option Addr) (x2 x3 : Nat) (y1 : Option Addr) (y2 y3 : Nat), e = .returned (.agg #[.bool tt, .slice x1 x2 x3, .slice y1 y2 y3]) ∧ Blank W' r ∧ W.grownBy W' (some b) ∧ GivesQ b m q w (.returned (ratV tt (.slice x1 x2 x3) (.slice y1 y2 y3))) (set3 W' r tt (.slice x1 x2 x3) (.slice y1 y2 y3)) := by
  obtain ⟨a1, c1, a2, c2, rfl, h1, h3, h4⟩ := h
  have hb' := hbl.grown h4 (Ne.symm hrb)
  exact ⟨_, _, _, _, _, _, _, rfl, hb', h4, a1, c1, a2, c2, rfl, h1.set3 hb'.rat _ _ _, h3.set3 hrb _ _ _, grown_set3 (grownBy_trans_new hW h4) hr _ _ _⟩
theorem GivesQ.zero {b m r : Nat} {w W : World} (hb : Bench w b m false) (hW : Below w.heap.size w W) (hr : w.heap.size ≤ r) (hbl : Blank W r) : GivesQ b m 0 w (.returned (ratV false (.slice none 0 0) (.slice none 0 0))) (set3 W r false (.slice none 0 0) (.slice none 0 0)) := by
  have hrb : b ≠ r := by have := hb.lt; omega
  have ho : ovQ m 0 = false := by simp [ovQ, rO, mg_of_zero, den0, denN, L_zero]
  have hq : outQ m 0 = 0 := by unfold outQ; rw [ho]; rfl
  refine ⟨none, 0, none, 0, by rw [hq]; rfl, by rw [hq]; exact (AtQ.zero W).set3 hbl.rat _ _ _, by rw [ho]; exact (hb.kept hW).set3 hrb _ _ _, grown_set3 (grown_of_below hW _) hr _ _ _⟩
theorem RatX.inv {w W : World} {s : Bool} {a1 a3 : Option Addr} {l1 c1 : Nat} {a2 : Option Addr} {l2 c2 : Nat} {n d d0 : Nat} {q : Rat} {l3 c3 : Nat} (h : RatX w s a1 l1 c1 a2 l2 c2 n d d0 q) (h1 : NumE W a1 l1 c1 n) (h3 : NumE W a3 l3 c3 d) (hl3 : l3 ≤ 10000) (hn : n ≠ 0) : RatX W s a3 l3 c3 a1 l1 c1 d n n q⁻¹ := by
  have hl : l1 ≠ 0 := fun e => hn (by have := h1.lenL; rw [e] at this; exact L_len_zero.1 (by omega))
  refine ⟨h3, h1, by rw [if_neg hl], Nat.pos_of_ne_zero hn, by rw [Nat.gcd_comm]; exact h.cop, ?_, hl3, h.s1⟩
  rw [mkQ_inv s (Nat.pos_of_ne_zero hn) h.pos, h.is]
set_option maxRecDepth 100000 in
set_option maxHeartbeats 8000000 in
theorem Div_q {w : World} {b m : Nat} {sx sy : Bool} {ax bx ay by' : Option Addr} {lx cx kx ex ly cy ky ey nx dx dx0 ny dy dy0 : Nat} {x y : Rat} (hb : Bench w b m false) (hT : Tab w) (hx : RatX w sx ax lx cx bx kx ex nx dx dx0 x) (hy : RatX w sy ay ly cy by' ky ey ny dy dy0 y) :
    Calls Tryz.prog 50 #[.pointer (some ⟨b, 0, none⟩), ratV sx (.slice ax lx cx) (.slice bx kx ex), ratV sy (.slice ay ly cy) (.slice by' ky ey)] w (GivesQ b m (x / y) w) := by
  obtain ⟨W0, hW0, hB0, b1, b2, b3, hs⟩ := boxes3 w #[.bool sx, .slice ax lx cx, .slice bx kx ex] #[.bool sy, .slice ay ly cy, .slice by' ky ey] #[.bool false, .slice none 0 0, .slice none 0 0] 27 27 27
  have hx0 := hx.kept hB0
  have hy0 := hy.kept hB0
  have hbl := hb.lt
  have HK := Lib.hid (keep6 b1 b2)
  have HR := Lib.hid (keep3 b3)
  have HIZ := Lib.hid (isZero_any hy0.num)
  have HW0 := Lib.hid hW0
  have H0 := Lib.hid (And.intro hB0 (And.intro b3 (And.intro hs (And.intro hb (And.intro hT (And.intro hx0 hy0))))))
  obtain ⟨k0, k1, k2, j0, j1, j2⟩ := cells3 b1
  obtain ⟨k3, k4, k5, j3, j4, j5⟩ := cells3 b2
  have hn1 : w.heap.size ≠ w.heap.size + 1 + 1 := by omega
  have hn2 : w.heap.size + 1 + 1 ≠ w.heap.size := by omega
  clear hW0 hB0 b1 b2 b3 hs hx hy hx0 hy0 hb hT
  by_cases h0 : ny = 0
  · rw [decide_eq_true h0] at HIZ
    have hq : x / y = 0 := by
      have : y = 0 := by rw [← H0.out.2.2.2.2.2.2.is, h0, mkQ_zero]
      rw [this, Rat.div_def, Rat.inv_zero, Rat.mul_zero]
    rw [hq]
    clear h0 hq
    unfold ratV
    go_enter Tryz.func50, Tryz.ntmps50
    go_wp2_with fail
    rw [← HW0.out]
    refine HIZ.out.mono ?_
    rintro e w1 ⟨rfl, hb1⟩
    obtain ⟨m0, m1, m2, n0, n1, n2⟩ := HR.out _ hb1
    have HE : Hid (GivesQ b m 0 w (.returned (ratV false (.slice none 0 0) (.slice none 0 0))) (set3 w1 (w.heap.size + 1 + 1) false (.slice none 0 0) (.slice none 0 0))) := Lib.hid (by
      obtain ⟨q1, q2, q3, q4, q5⟩ := H0.out
      exact GivesQ.zero q4 (q1.trans (hb1.mono q1.size)) (by omega) ((show Blank W0 (w.heap.size + 1 + 1) from q2).kept hb1))
    clear hb1 HIZ HR HK H0 HW0
    go_wp2_with fail
    exact bodyPost_ret (v := ratV false (.slice none 0 0) (.slice none 0 0)) (by simp [results, Tryz.results50, go_sem, ratV, m0, m1, m2]) rfl HE.out
  · rw [decide_eq_false h0] at HIZ
    have HTY : Hid (∀ W, Below W0.heap.size W0 W → Calls Tryz.prog 53 #[ratV sy (.slice ay ly cy) (.slice by' ky ey)] W (PostE W0 W (max ky 1) dy)) := Lib.hid fun W h => by
      have hy0 := H0.out.2.2.2.2.2.2
      refine (through_any (hy0.den.kept h)).mono fun e W' hg => ?_
      rw [← hy0.thr] at hg
      exact hg.post h
    have HM : Hid (∀ W a l c, Below W0.heap.size W0 W → NumE W a l c dy → l ≤ max ky 1 → Calls Tryz.prog 31 #[.pointer (some ⟨b, 0, none⟩), ratV sx (.slice ax lx cx) (.slice bx kx ex), ratV sy (.slice a l c) (.slice ay ly cy)] W (fun e W' => ∃ (tt : Bool) (x1 : Option Addr) (x2 x3 : Nat) (y1 : Option Addr) (y2 y3 : Nat), e = .returned (.agg #[.bool tt, .slice x1 x2 x3, .slice y1 y2 y3]) ∧ Blank W' (w.heap.size + 1 + 1) ∧ W.grownBy W' (some b) ∧ GivesQ b m (x / y) w (.returned (ratV tt (.slice x1 x2 x3) (.slice y1 y2 y3))) (set3 W' (w.heap.size + 1 + 1) tt (.slice x1 x2 x3) (.slice y1 y2 y3)))) := Lib.hid fun W a l c h hn hl => by
      obtain ⟨q1, q2, q3, q4, q5, q6, q7⟩ := H0.out
      have hbw : Below w.heap.size w W := q1.trans (h.mono q1.size)
      have hiv := q7.inv (q7.num.kept h) hn (by have := q7.s2; omega) h0
      refine (Mul_q (q4.kept hbw) (q5.kept hbw) (q6.kept h) hiv).mono fun e W' hg => ?_
      rw [← Rat.div_def] at hg
      exact hg.through (grown_of_below hbw _) (by omega) (by omega) ((show Blank W0 (w.heap.size + 1 + 1) from q2).kept h)
    have hbn1 : w.heap.size ≠ b := by omega
    have hbn2 : w.heap.size + 1 ≠ b := by omega
    clear h0 H0
    unfold ratV at HTY HM ⊢
    go_enter Tryz.func50, Tryz.ntmps50
    go_wp2_with fail
    rw [← HW0.out]
    refine HIZ.out.mono ?_
    rintro e w1 ⟨rfl, hb1⟩
    obtain ⟨k0, k1, k2, k3, k4, k5⟩ := HK.out _ hb1
    have HB1 := Lib.hid (Below.drew1 hb1)
    clear hb1 HIZ
    go_wp2_with fail
    go_region_held3 (fun w' => w'.cell? ⟨w.heap.size, 0, none⟩ = some (.bool (sx)) ∧ w'.cell? ⟨w.heap.size, 1, none⟩ = some (.slice ax lx cx) ∧ w'.cell? ⟨w.heap.size, 2, none⟩ = some (.slice bx kx ex) ∧ w'.cell? ⟨w.heap.size + 1, 0, none⟩ = some (.bool ( sy)) ∧ w'.cell? ⟨w.heap.size + 1, 1, none⟩ = some (.slice ay ly cy) ∧ w'.cell? ⟨w.heap.size + 1, 2, none⟩ = some (.slice by' ky ey)) (first | exact hk5 | exact HK.out _ hb4 | go_keep)
        (first
          | (go_at_call 53; (with_reducible refine (HTY.out _ HB1.out).mono ?_); rintro e w4 ⟨a4, l4, c4, rfl, d4, hl4, hb4, _⟩)
          | (go_at_call 31; (with_reducible refine (HM.out _ _ _ _ hb4 d4 hl4).mono ?_); rintro e w5 ⟨tt, x1, x2, x3, y1, y2, y3, rfl, hbl5, hgr, hg⟩; obtain ⟨m0, m1, m2, n0, n1, n2⟩ := hbl5.cells; have HE := Lib.hid hg; obtain ⟨p0, p1, p2, p3, p4, p5⟩ := HK.out _ hb4; have hk5 := And.intro (hgr.cell p0 (by simpa using hbn1)) (And.intro (hgr.cell p1 (by simpa using hbn1)) (And.intro (hgr.cell p2 (by simpa using hbn1)) (And.intro (hgr.cell p3 (by simpa using hbn2)) (And.intro (hgr.cell p4 (by simpa using hbn2)) (hgr.cell p5 (by simpa using hbn2))))))))
    clear HM HTY HK HR HB1 HW0
    go_wp2_with fail
    exact bodyPost_ret (v := ratV tt (.slice x1 x2 x3) (.slice y1 y2 y3)) (by simp [results, Tryz.results50, go_sem, ratV, m0, m1, m2]) rfl HE.out
end Go.Proofs.YtpjeecahaeaajaaGreatDoor

set_option linter.unusedVariables false
set_option linter.unusedSimpArgs false
namespace Go.Proofs.YtpjeecahaeaajaaGreatDoor
open Go.RowKit Rep
def GivesZ (w : World) (e : Ending) (w' : World) : Prop := e = .returned (ratV false (.slice none 0 0) (.slice none 0 0)) ∧ Below w.heap.size w w'
set_option maxRecDepth 100000 in
set_option maxHeartbeats 1000000 in
theorem AddQ_over {w : World} {b m : Nat} (hb : Bench w b m true) (sx sy : Bool) (ax bx ay by' : Option Addr) (lx cx kx ex ly cy ky ey : Nat) :
    Calls Tryz.prog 30 #[.pointer (some ⟨b, 0, none⟩), ratV sx (.slice ax lx cx) (.slice bx kx ex), ratV sy (.slice ay ly cy) (.slice by' ky ey)] w (GivesZ w) := by
  obtain ⟨W0, hW0, hB0, b1, b2, b3, hs⟩ := boxes3 w #[.bool sx, .slice ax lx cx, .slice bx kx ex] #[.bool sy, .slice ay ly cy, .slice by' ky ey] #[.bool false, .slice none 0 0, .slice none 0 0] 27 27 27
  have HOV := Lib.hid (over_any W0 b m true (hb.kept hB0))
  have HW0 := Lib.hid hW0
  have HE : Hid (GivesZ w (.returned (ratV false (.slice none 0 0) (.slice none 0 0))) (set3 W0 (w.heap.size + 1 + 1) false (.slice none 0 0) (.slice none 0 0))) := Lib.hid ⟨rfl, set3_below hB0 (by omega)⟩
  obtain ⟨m0, m1, m2, n0, n1, n2⟩ := cells3 b3
  clear hW0 hB0 b1 b2 b3 hs hb
  unfold ratV
  go_enter Tryz.func30, Tryz.ntmps30
  go_wp2_with fail
  rw [← HW0.out]
  refine HOV.out.mono ?_
  rintro e w1 ⟨rfl, rfl⟩
  go_wp2_with fail
  exact bodyPost_ret (v := ratV false (.slice none 0 0) (.slice none 0 0)) (by simp [results, Tryz.results30, go_sem, ratV, m0, m1, m2]) rfl HE.out
set_option maxRecDepth 100000 in
set_option maxHeartbeats 1000000 in
theorem MulQ_over {w : World} {b m : Nat} (hb : Bench w b m true) (sx sy : Bool) (ax bx ay by' : Option Addr) (lx cx kx ex ly cy ky ey : Nat) :
    Calls Tryz.prog 31 #[.pointer (some ⟨b, 0, none⟩), ratV sx (.slice ax lx cx) (.slice bx kx ex), ratV sy (.slice ay ly cy) (.slice by' ky ey)] w (GivesZ w) := by
  obtain ⟨W0, hW0, hB0, b1, b2, b3, hs⟩ := boxes3 w #[.bool sx, .slice ax lx cx, .slice bx kx ex] #[.bool sy, .slice ay ly cy, .slice by' ky ey] #[.bool false, .slice none 0 0, .slice none 0 0] 27 27 27
  have HOV := Lib.hid (over_any W0 b m true (hb.kept hB0))
  have HW0 := Lib.hid hW0
  have HE : Hid (GivesZ w (.returned (ratV false (.slice none 0 0) (.slice none 0 0))) (set3 W0 (w.heap.size + 1 + 1) false (.slice none 0 0) (.slice none 0 0))) := Lib.hid ⟨rfl, set3_below hB0 (by omega)⟩
  obtain ⟨m0, m1, m2, n0, n1, n2⟩ := cells3 b3
  clear hW0 hB0 b1 b2 b3 hs hb
  unfold ratV
  go_enter Tryz.func31, Tryz.ntmps31
  go_wp2_with fail
  rw [← HW0.out]
  refine HOV.out.mono ?_
  rintro e w1 ⟨rfl, rfl⟩
  go_wp2_with fail
  exact bodyPost_ret (v := ratV false (.slice none 0 0) (.slice none 0 0)) (by simp [results, Tryz.results31, go_sem, ratV, m0, m1, m2]) rfl HE.out
theorem GivesQ.new {t : Nat} {q : Rat} {w W : World} {e : Ending} (h : GivesQ t 2147483647 q w e W) (hs : szQ q ≤ 2000000) (ht : w.heap.size ≤ t) : NewQ q w e W := by
  obtain ⟨a1, c1, a2, c2, rfl, h1, h3, h4⟩ := h
  have ho : ovQ 2147483647 q = false := by unfold szQ at hs; simp [ovQ, rO]; omega
  have hq : outQ 2147483647 q = q := by unfold outQ; rw [ho]; rfl
  rw [hq] at h1 ⊢
  exact ⟨a1, c1, a2, c2, rfl, h1, (Below.refl w.heap.size w).grown h4 (Nat.le_refl _) (fun k hk => by cases hk; exact ht)⟩
end Go.Proofs.YtpjeecahaeaajaaGreatDoor

set_option linter.unusedVariables false
set_option linter.unusedSimpArgs false
namespace Go.Proofs.YtpjeecahaeaajaaGreatDoor
open Go.RowKit Rep
end Go.Proofs.YtpjeecahaeaajaaGreatDoor
