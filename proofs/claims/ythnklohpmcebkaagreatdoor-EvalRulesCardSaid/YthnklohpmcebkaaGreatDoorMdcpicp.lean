/- By program out of: RefR, RefForm, RefOf, RatQ, RatThr, RefOps, RatWh. -/
import Derived.Test.YthnklohpmcebkaaGreatDoorMnnddph
import Derived.Deep.RegionHeld3
import Derived.Test.YthnklohpmcebkaaGreatDoorMofflid
import Derived.Test.YthnklohpmcebkaaGreatDoorMgpjold
set_option linter.unusedVariables false
set_option linter.unusedSimpArgs false
namespace Go.Proofs.YthnklohpmcebkaaGreatDoor
open Go.RowKit Rep
def GivesDR (s : Bool) (n d : Nat) (w : World) (e : Ending) (w' : World) : Prop :=
  ∃ a1 c1 a2 c2, e = .returned (ratV s (.slice a1 (D n).length c1) (.slice a2 (D d).length c2)) ∧ DAt w' a1 c1 n ∧ DAt w' a2 c2 d ∧ Below w.heap.size w w'
theorem Below.drewN' {B : Nat} {w W : World} (h : Below B w W) (n : Nat) : Below B w (W.drewN n) := ⟨h.os, h.tape, h.output, h.size, h.block⟩
theorem D_one : D 1 = [1] := (eq_rep (b := 10) (by omega) (by simp [Dig]) (by simp [Top]) (by simp [val])).symm
theorem cells3 {W : World} {r : Nat} {v0 v1 v2 : Value} {t : TypeId} (h : W.heap[r]? = some (.cells #[v0, v1, v2] t (0, 0))) :
    W.cell? ⟨r, 0, none⟩ = some v0 ∧ W.cell? ⟨r, 1, none⟩ = some v1 ∧ W.cell? ⟨r, 2, none⟩ = some v2 ∧ W.frozen? ⟨r, 0, none⟩ = false ∧ W.frozen? ⟨r, 1, none⟩ = false ∧ W.frozen? ⟨r, 2, none⟩ = false := by
  refine ⟨?_, ?_, ?_, ?_, ?_, ?_⟩
  · simp [World.cell?, h]
  · simp [World.cell?, h]
  · simp [World.cell?, h]
  · simp [World.frozen?, h]
  · simp [World.frozen?, h]
  · simp [World.frozen?, h]
set_option maxRecDepth 100000 in
set_option maxHeartbeats 1000000 in
theorem SameR_any (s1 s2 : Bool) (a1 b1 a2 b2 : Option Addr) (c1 e1 c2 e2 : Nat) (xs1 ds1 xs2 ds2 : List Nat) (w : World) (h1 : Reads w a1 (xs1.map u32v)) (k1 : Reads w b1 (ds1.map u32v)) (h2 : Reads w a2 (xs2.map u32v)) (k2 : Reads w b2 (ds2.map u32v)) (l1 : xs1.length ≤ 1000000) (m1 : ds1.length ≤ 1000000) :
    Calls Tryz.prog 12 #[ratV s1 (.slice a1 xs1.length c1) (.slice b1 ds1.length e1), ratV s2 (.slice a2 xs2.length c2) (.slice b2 ds2.length e2)] w (GivesB (decide (s1 = s2 ∧ xs1 = xs2 ∧ ds1 = ds2)) w) := by
  have HS : Hid (∀ W, Below w.heap.size w W → Calls Tryz.prog 27 #[.slice a1 xs1.length c1, .slice a2 xs2.length c2] W (Draws (.bool (decide (xs1 = xs2))) W)) := Lib.hid fun W h => Same_any a1 a2 c1 c2 xs1 xs2 W (h1.kept h) (h2.kept h) (by omega)
  have HT : Hid (∀ W, Below w.heap.size w W → Calls Tryz.prog 27 #[.slice b1 ds1.length e1, .slice b2 ds2.length e2] W (Draws (.bool (decide (ds1 = ds2))) W)) := Lib.hid fun W h => Same_any b1 b2 e1 e2 ds1 ds2 W (k1.kept h) (k2.kept h) (by omega)
  clear h1 k1 h2 k2
  unfold ratV
  by_cases hs : s1 = s2
  · have hb : (s1 == s2) = true := by rw [hs]; simp
    have HB : Hid (∀ nd nd', Below w.heap.size w ((((w.alloc (.cells #[.bool s1, .slice a1 xs1.length c1, .slice b1 ds1.length e1] 27)).alloc (.cells #[.bool s2, .slice a2 xs2.length c2, .slice b2 ds2.length e2] 27)).drewN nd).drewN nd')) := Lib.hid fun nd nd' => Below.drewN' (Below.drewN' (((Below.refl w.heap.size w).alloc (Nat.le_refl _) _).alloc (by simp) _) nd) nd'
    have hs2 := Lib.hid hs
    clear hs
    by_cases hx : xs1 = xs2
    · rw [decide_eq_true hx] at HS
      have HV : Hid (decide (s1 = s2 ∧ xs1 = xs2 ∧ ds1 = ds2) = decide (ds1 = ds2)) := Lib.hid (by simp [hs2.out, hx])
      rw [HV.out]
      have HL := Lib.hid hx
      clear hx
      generalize decide (ds1 = ds2) = v at *
      go_enter Tryz.func12, Tryz.ntmps12
      go_wp2_with fail
      refine (HS.out _ (HB.out 0 0)).mono ?_
      rintro e w2 ⟨rfl, nd, rfl⟩
      go_wp2_with fail
      refine (HT.out _ (HB.out nd 0)).mono ?_
      rintro e w3 ⟨rfl, nd', rfl⟩
      have HBB := Lib.hid (HB.out nd nd')
      rw [drewN_add] at HBB
      clear HB
      go_wp2_with fail
      go_ret
      exact ⟨rfl, HBB.out⟩
    · rw [decide_eq_false hx] at HS
      have HV : Hid (decide (s1 = s2 ∧ xs1 = xs2 ∧ ds1 = ds2) = false) := Lib.hid (by simp [hx])
      rw [HV.out]
      clear hx HT HV
      go_enter Tryz.func12, Tryz.ntmps12
      go_wp2_with fail
      refine (HS.out _ (HB.out 0 0)).mono ?_
      rintro e w2 ⟨rfl, nd, rfl⟩
      have HBB := Lib.hid (HB.out nd 0)
      clear HB
      go_wp2_with fail
      go_ret
      exact ⟨rfl, HBB.out⟩
  · have hb : (s1 == s2) = false := by simpa using hs
    have HV : Hid (decide (s1 = s2 ∧ xs1 = xs2 ∧ ds1 = ds2) = false) := Lib.hid (by simp [hs])
    rw [HV.out]
    clear hs HS HT HV
    go_enter Tryz.func12, Tryz.ntmps12
    go_wp2_with fail
    go_ret
    exact ⟨rfl, ((Below.refl w.heap.size w).alloc (Nat.le_refl _) _).alloc (by simp) _⟩
theorem int0_world (w : World) (o1 o4 : Obj) : DAt ((((w.alloc o1).alloc (.cells #[] 3)).alloc (.cells #[.int .i64 1] 3)).alloc o4) (some ⟨w.heap.size + 1 + 1, 0, none⟩) 1 1 ∧
    Below w.heap.size w ((((w.alloc o1).alloc (.cells #[] 3)).alloc (.cells #[.int .i64 1] 3)).alloc o4) := by
  refine ⟨⟨?_, ?_, by simp [maxLen]⟩, ((((Below.refl w.heap.size w).alloc (Nat.le_refl _) _).alloc (by simp) _).alloc (by simp; omega) _).alloc (by simp; omega) _⟩
  · rw [D_one]
    have h := (Row.new (E := 3) ((w.alloc o1).alloc (.cells #[] 3)) #[.int .i64 1]).alloc o4
    simpa [i64v] using h.reads0
  · rw [D_one]; simp
set_option maxRecDepth 100000 in
set_option maxHeartbeats 1000000 in
theorem Int0_any (w : World) : Calls Tryz.prog 47 #[.int .i64 0] w (GivesDR false 0 1 w) := by
  go_enter Tryz.func47, Tryz.ntmps47
  go_wp2_with fail
  go_loop [0] (fun v => v = .int .i64 0) (fun _ => 0)
  case atStart => rfl
  case round =>
    subst hrel
    go_wp2_with fail
    refine bodyPost_ret (v := ratV false (.slice (some ⟨w.heap.size + 1, 0, none⟩) 0 0) (.slice (some ⟨w.heap.size + 1 + 1, 0, none⟩) 1 1)) (by simp [results, Tryz.results47, go_sem, ratV]) rfl ?_
    obtain ⟨h1, h2⟩ := int0_world w (.cells #[.bool false, .slice (some ⟨w.heap.size + 1, 0, none⟩) 0 0, .slice (some ⟨w.heap.size + 1 + 1, 0, none⟩) 1 1] 58) (.cells #[.bool false, .slice (some ⟨w.heap.size + 1, 0, none⟩) 0 0, .slice (some ⟨w.heap.size + 1 + 1, 0, none⟩) 1 1] 58)
    exact ⟨_, 0, _, 1, by rw [D_one]; rfl, DAt.zero _ _ _ (by simp [maxLen]), h1, h2⟩
theorem set3_below {B : Nat} {w W : World} {r : Nat} {s : Bool} {v1 v2 : Value} (h : Below B w W) (hr : B ≤ r) : Below B w (set3 W r s v1 v2) := ((h.setCell (p := ⟨r, 0, none⟩) hr _).setCell (p := ⟨r, 1, none⟩) hr _).setCell (p := ⟨r, 2, none⟩) hr _
theorem DAt.set3 {W : World} {r : Nat} {a : Option Addr} {c n : Nat} {t : TypeId} {s0 : Bool} {x1 y1 : Option Addr} {x2 x3 y2 y3 : Nat} (h : DAt W a c n) (hb : W.heap[r]? = some (.cells #[.bool s0, .slice x1 x2 x3, .slice y1 y2 y3] t (0, 0))) (s : Bool) (v1 v2 : Value) : DAt (Go.Proofs.YthnklohpmcebkaaGreatDoor.set3 W r s v1 v2) a c n := by
  refine ⟨h.1.grown (set3_grown W r s v1 v2) ?_, h.2⟩
  rcases h.1 with hr | ⟨g, off, rfl, hr⟩
  · exact .inl hr
  · by_cases e : D n = []
    · exact .inl (by simp [e])
    · refine .inr fun g' off' hg hbq => ?_
      simp at hg hbq
      obtain ⟨rfl, rfl⟩ := hg
      subst hbq
      have := hr 0 _ (map_getElem? (xs := D n) (f := i64v) (List.length_pos_iff.2 e))
      simp only [World.cell?, hb] at this
      rcases off with _ | _ | _ | off <;> simp [i64v] at this
set_option maxRecDepth 100000 in
set_option maxHeartbeats 2000000 in
theorem Low_any (s : Bool) (a1 a2 : Option Addr) (c1 c2 n d : Nat) (w : World) (h1 : DAt w a1 c1 n) (h2 : DAt w a2 c2 d) (hd : 0 < d) (l1 : (D n).length ≤ 1000000) (l2 : (D d).length ≤ 1000000) :
    Calls Tryz.prog 28 #[ratV s (.slice a1 (D n).length c1) (.slice a2 (D d).length c2)] w (GivesDR (if n = 0 then false else s) (n / Nat.gcd n d) (d / Nat.gcd n d) w) := by
  obtain ⟨W0, hW0⟩ : ∃ W0, W0 = (w.alloc (.cells #[.bool s, .slice a1 (D n).length c1, .slice a2 (D d).length c2] 58)).alloc (.cells #[.bool false, .slice none 0 0, .slice none 0 0] 58) := ⟨_, rfl⟩
  have hB0 : Below w.heap.size w W0 := by rw [hW0]; exact ((Below.refl _ _).alloc (Nat.le_refl _) _).alloc (by simp) _
  have hx0 : W0.heap[w.heap.size]? = some (.cells #[.bool s, .slice a1 (D n).length c1, .slice a2 (D d).length c2] 58 (0, 0)) := by rw [hW0, Below.heap_alloc _ _ _ (by simp)]; exact heap_alloc_new w _
  have hr0 : W0.heap[w.heap.size + 1]? = some (.cells #[.bool false, .slice none 0 0, .slice none 0 0] 58 (0, 0)) := by
    rw [hW0]; simpa using heap_alloc_new (w.alloc (.cells #[.bool s, .slice a1 (D n).length c1, .slice a2 (D d).length c2] 58)) (.cells #[.bool false, .slice none 0 0, .slice none 0 0] 58)
  have hs0 : w.heap.size + 1 < W0.heap.size := by rw [hW0]; simp
  have H0 := Lib.hid (And.intro hB0 (And.intro hs0 (And.intro (h1.kept hB0) (h2.kept hB0))))
  have HX := Lib.hid (And.intro hx0 hr0)
  have HW0 := Lib.hid hW0
  have HF : Hid (∀ W, Below W0.heap.size W0 W → W.heap[w.heap.size]? = some (.cells #[.bool s, .slice a1 (D n).length c1, .slice a2 (D d).length c2] 58 (0, 0)) ∧ W.heap[w.heap.size + 1]? = some (.cells #[.bool false, .slice none 0 0, .slice none 0 0] 58 (0, 0)) ∧ Below w.heap.size w W) := Lib.hid fun W h =>
    ⟨(h.block _ (by have := H0.out.2.1; omega)).trans HX.out.1, (h.block _ H0.out.2.1).trans HX.out.2, H0.out.1.trans (h.mono H0.out.1.size)⟩
  clear h1 h2 hB0 hx0 hr0 hs0 hW0
  rcases Nat.eq_zero_or_pos n with h0 | h0
  · subst h0
    have e1 : 0 / Nat.gcd 0 d = 0 := Nat.zero_div _
    have e2 : d / Nat.gcd 0 d = 1 := by rw [Nat.gcd_zero_left]; exact Nat.div_self hd
    rw [if_pos rfl, e1, e2]
    clear e1 e2 hd
    have hz : (((D 0).length : Int) == 0) = true := rfl
    have HI := Lib.hid (Int0_any W0)
    unfold ratV
    go_enter Tryz.func28, Tryz.ntmps28
    go_wp2_with fail
    rw [← HW0.out]
    refine HI.out.mono ?_
    rintro e w2 ⟨a3, c3, a4, c4, rfl, d3, d4, hb⟩
    obtain ⟨f1, f2, f3⟩ := HF.out w2 hb
    obtain ⟨k0, k1, k2, j0, j1, j2⟩ := cells3 f2
    have HE : Hid (GivesDR false 0 1 w (.returned (ratV false (.slice a3 (D 0).length c3) (.slice a4 (D 1).length c4))) (set3 w2 (w.heap.size + 1) false (.slice a3 (D 0).length c3) (.slice a4 (D 1).length c4))) :=
      Lib.hid ⟨a3, c3, a4, c4, rfl, d3.set3 f2 _ _ _, d4.set3 f2 _ _ _, set3_below f3 (by omega)⟩
    clear d3 d4 hb f1 f2 f3 HF HI H0 HX
    unfold ratV
    go_wp2_with fail
    exact bodyPost_ret (v := ratV false (.slice a3 (D 0).length c3) (.slice a4 (D 1).length c4)) (by simp [results, Tryz.results28, go_sem, ratV, k0, k1, k2]) rfl HE.out
  · have hz : (((D n).length : Int) == 0) = false := cast_beq_no (by rw [Ne, D_len_zero]; omega)
    rw [if_neg (by omega)]
    have hgl : (D (Nat.gcd n d)).length ≤ 1000000 := Nat.le_trans (D_mono (Nat.le_of_dvd h0 (Nat.gcd_dvd_left n d))) l1
    have HG := Lib.hid (GcdD_any a1 a2 c1 c2 n d W0 H0.out.2.2.1 H0.out.2.2.2 (by omega) (by omega))
    generalize Nat.gcd n d = G at *
    obtain ⟨q1, hq1⟩ : ∃ q, n / G = q := ⟨_, rfl⟩
    obtain ⟨q2, hq2⟩ : ∃ q, d / G = q := ⟨_, rfl⟩
    rw [hq1, hq2]
    have HQ := Lib.hid (And.intro hq1 hq2)
    clear h0 hd hq1 hq2
    obtain ⟨k0, k1, k2, j0, j1, j2⟩ := cells3 HX.out.1
    unfold ratV
    go_enter Tryz.func28, Tryz.ntmps28
    go_wp2_with fail
    rw [← HW0.out]
    refine HG.out.mono ?_
    rintro e w2 ⟨ag, cg, rfl, dg, hb⟩
    have HB2 := Lib.hid hb
    have HDG := Lib.hid dg
    obtain ⟨f1, f2, f3⟩ := HF.out w2 hb
    have HD1 := Lib.hid (DivD_any a1 ag c1 cg n G w2 (H0.out.2.2.1.kept hb) dg (by omega) (by omega))
    rw [HQ.out.1] at HD1
    obtain ⟨m0, m1, m2, _, _, _⟩ := cells3 f1
    clear k0 k1 k2 j0 j1 j2 f1 f2 f3 dg hb HG
    go_wp2_with fail
    refine HD1.out.mono ?_
    rintro e w3 ⟨a5, c5, a6, c6, rfl, d5, d6, hb3⟩
    have HB3 := Lib.hid (HB2.out.trans (hb3.mono HB2.out.size))
    obtain ⟨f1, f2, f3⟩ := HF.out w3 HB3.out
    have HD2 := Lib.hid (DivD_any a2 ag c2 cg d G w3 (H0.out.2.2.2.kept HB3.out) (HDG.out.kept hb3) (by omega) (by omega))
    rw [HQ.out.2] at HD2
    have HD5 := Lib.hid d5
    obtain ⟨n0, n1, n2, _, _, _⟩ := cells3 f1
    clear m0 m1 m2 f1 f2 f3 d5 d6 hb3 HD1 HB2 HDG
    go_wp2_with fail
    refine HD2.out.mono ?_
    rintro e w4 ⟨a7, c7, a8, c8, rfl, d7, d8, hb4⟩
    have HB4 := Lib.hid (HB3.out.trans (hb4.mono HB3.out.size))
    obtain ⟨f1, f2, f3⟩ := HF.out w4 HB4.out
    obtain ⟨k0, k1, k2, _, _, _⟩ := cells3 f1
    obtain ⟨m0, m1, m2, j0, j1, j2⟩ := cells3 f2
    have HE : Hid (GivesDR s q1 q2 w (.returned (ratV s (.slice a5 (D q1).length c5) (.slice a7 (D q2).length c7))) (set3 w4 (w.heap.size + 1) s (.slice a5 (D q1).length c5) (.slice a7 (D q2).length c7))) :=
      Lib.hid ⟨a5, c5, a7, c7, rfl, (HD5.out.kept hb4).set3 f2 _ _ _, d7.set3 f2 _ _ _, set3_below f3 (by omega)⟩
    clear n0 n1 n2 d7 d8 hb4 f1 f2 f3 HF H0 HX HB3 HB4 HD2 HD5
    go_wp2_with fail
    exact bodyPost_ret (v := ratV s (.slice a5 (D q1).length c5) (.slice a7 (D q2).length c7)) (by simp [results, Tryz.results28, go_sem, ratV, m0, m1, m2]) rfl HE.out
end Go.Proofs.YthnklohpmcebkaaGreatDoor

set_option linter.unusedVariables false
set_option linter.unusedSimpArgs false
namespace Go.Proofs.YthnklohpmcebkaaGreatDoor
open Go.RowKit Rep
def OnlyEx {ι : Type} (A : ι → Act) (R : ι → World → Prop) : Exit → Act → World → Prop
  | .normal, a, w => ∃ i, a = A i ∧ R i w
  | _, _, _ => False
theorem OnlyEx.out {ι : Type} {A : ι → Act} {R : ι → World → Prop} {e : Exit} {a : Act} {w : World} (h : OnlyEx A R e a w) : e = .normal ∧ ∃ i, a = A i ∧ R i w := by
  cases e <;> first | exact ⟨rfl, h⟩ | exact h.elim
theorem wp_region_ex {P : Program} {id : Nat} {ops : Array Oper} {Q : Exit → Act → World → Prop} {a : Act} {w : World} {ι : Type} (l : ι → List (Nat × Value)) (R : ι → World → Prop)
    (h : (Code.region id ops true).wp P (OnlyEx (fun i => puts a (l i)) R) a w) (hq : ∀ i w', R i w' → Q .normal (puts a (l i)) w') : (Code.region id ops true).wp P Q a w :=
  Code.wp_mono (fun e a' w' ho => by
    obtain ⟨rfl, i, rfl, hr⟩ := ho.out
    exact hq i w' hr) h
def FormAt (W : World) (s : Bool) (N : Nat) (i : Nat × Option Addr × Nat) (W' : World) : Prop :=
  W'.heap[i.1]? = some (.cells #[.bool s, .slice i.2.1 (L N).length i.2.2, .slice none 0 0] 27 (0, 0)) ∧ NumAt W' i.2.1 i.2.2 N ∧ Below W.heap.size W W' ∧ W.heap.size ≤ i.1
theorem form_calls {W : World} {a3 : Option Addr} {c3 N : Nat} {s : Bool} (h : DAt W a3 c3 N) (hl : (D N).length ≤ 1000000) :
    Hid (Calls Tryz.prog 29 #[.slice a3 (D N).length c3] W.drew fun e w3 => ∃ a c, e = .returned (.slice a (L N).length c) ∧ Hid (∀ r o, r < W.heap.size → w3.cell? ⟨r, o, none⟩ = W.cell? ⟨r, o, none⟩) ∧ Hid (FormAt W s N (w3.heap.size, a, c) (w3.alloc (.cells #[.bool s, .slice a (L N).length c, .slice none 0 0] 27)))) ∧
      Hid (Calls Tryz.prog 29 #[.slice a3 (D N).length c3] (W.alloc (.cells #[.bool false, .slice none 0 0, .slice none 0 0] 27)).drew fun e w3 => ∃ a c, e = .returned (.slice a (L N).length c) ∧
        (w3.cell? ⟨W.heap.size, 0, none⟩ = some (.bool false) ∧ w3.cell? ⟨W.heap.size, 1, none⟩ = some (.slice none 0 0) ∧ w3.cell? ⟨W.heap.size, 2, none⟩ = some (.slice none 0 0) ∧ w3.frozen? ⟨W.heap.size, 0, none⟩ = false ∧ w3.frozen? ⟨W.heap.size, 1, none⟩ = false ∧ w3.frozen? ⟨W.heap.size, 2, none⟩ = false) ∧ Hid (∀ r o, r < W.heap.size → w3.cell? ⟨r, o, none⟩ = W.cell? ⟨r, o, none⟩) ∧
        Hid (FormAt W s N (W.heap.size, a, c) (set3 w3 W.heap.size s (.slice a (L N).length c) (.slice none 0 0)))) := by
  have hd1 : Below W.heap.size W W.drew := ⟨rfl, rfl, rfl, Nat.le_refl _, fun _ _ => rfl⟩
  refine ⟨Lib.hid ?_, Lib.hid ?_⟩
  · have := Limbs_any a3 c3 (D N) W.drew h.1 (D_dig N) (by omega)
    rw [val_D] at this
    refine this.mono ?_
    rintro e w3 ⟨a, c, rfl, ho, hb⟩
    exact ⟨a, c, rfl, Lib.hid (fun r o hr => (hd1.trans hb).cell (p := ⟨r, o, none⟩) hr), Lib.hid ⟨heap_alloc_new w3 _, ho.num.kept ((Below.refl _ _).alloc (Nat.le_refl _) _), (hd1.trans hb).alloc hb.size _, hb.size⟩⟩
  · have hd2 : Below W.heap.size W (W.alloc (.cells #[.bool false, .slice none 0 0, .slice none 0 0] 27)).drew := Below.drewN' ((Below.refl W.heap.size W).alloc (Nat.le_refl _) _) 1
    have := Limbs_any a3 c3 (D N) (W.alloc (.cells #[.bool false, .slice none 0 0, .slice none 0 0] 27)).drew (h.1.kept hd2) (D_dig N) (by omega)
    rw [val_D] at this
    refine this.mono ?_
    rintro e w3 ⟨a, c, rfl, ho, hb⟩
    have hbl : Blank w3 W.heap.size := (hb.block _ (by simp [World.drew])).trans (heap_alloc_new W _)
    refine ⟨a, c, rfl, hbl.cells, Lib.hid (fun r o hr => (hd2.trans (hb.mono (by simp [World.drew]))).cell (p := ⟨r, o, none⟩) hr), Lib.hid ⟨?_, ho.num.set3 hbl.rat _ _ _, set3_below (hd2.trans (hb.mono (by simp [World.drew]))) (Nat.le_refl _), Nat.le_refl _⟩⟩
    unfold Blank at hbl
    simp [Go.Proofs.YthnklohpmcebkaaGreatDoor.set3, World.setCell, Array.getElem?_modify, hbl]
def GivesAR (s : Bool) (n d : Nat) (w : World) (e : Ending) (w' : World) : Prop :=
  ∃ a1 c1 a2 c2, e = .returned (ratV s (.slice a1 (L n).length c1) (.slice a2 (L (denN d)).length c2)) ∧ NumAt w' a1 c1 n ∧ NumAt w' a2 c2 (denN d) ∧ Below w.heap.size w w'
theorem D_len1 {M : Nat} (h : (D M).length = 1) : M < 10 ∧ D M = [M] := by
  have h1 : M < 10 := by have := (D_len M 1).1 (Nat.le_of_eq h); omega
  refine ⟨h1, ?_⟩
  have h0 : 0 < M := Nat.pos_of_ne_zero fun e => by rw [e] at h; simp [D_zero] at h
  rw [D_cons h0, Nat.mod_eq_of_lt h1, Nat.div_eq_of_lt h1, D_zero]
structure FormSt (w : World) (s : Bool) (N M : Nat) (a4 : Option Addr) (c4 X : Nat) (a5 : Option Addr) (c5 : Nat) (a3 : Option Addr) (l3 c3 : Nat) (W : World) : Prop where
  x : W.heap[X]? = some (.cells #[.bool s, .slice a5 (L N).length c5, .slice none 0 0] 27 (0, 0))
  n : NumAt W a5 c5 N
  d : DAt W a4 c4 M
  b : W.heap[w.heap.size]? = some (.cells #[.bool s, .slice a3 l3 c3, .slice a4 (D M).length c4] 58 (0, 0))
  r : Blank W (w.heap.size + 1)
  below : Below w.heap.size w W
  ge : w.heap.size + 1 < X
theorem FormSt.end1 {w W : World} {s : Bool} {N a4 c4 X a5 c5 a3 l3 c3} (h : FormSt w s N 1 a4 c4 X a5 c5 a3 l3 c3 W) : GivesAR s N 1 w (.returned (ratV s (.slice a5 (L N).length c5) (.slice none 0 0))) (set3 W (w.heap.size + 1) s (.slice a5 (L N).length c5) (.slice none 0 0)) :=
  ⟨a5, c5, none, 0, rfl, h.n.set3 h.r.rat _ _ _, NumAt.zero _, set3_below h.below (by omega)⟩
theorem FormSt.end2 {w W W5 : World} {s : Bool} {N M : Nat} {a4 c4 X a5 c5 a3 l3 c3} (h : FormSt w s N M a4 c4 X a5 c5 a3 l3 c3 W) (hM : M ≠ 1) {a6 : Option Addr} {c6 : Nat} (h6 : NumAt W5 a6 c6 M) (hb : Below W.heap.size W W5) :
    GivesAR s N M w (.returned (ratV s (.slice a5 (L N).length c5) (.slice a6 (L M).length c6))) (set3 (W5.setCell ⟨X, 2, none⟩ (.slice a6 (L M).length c6)) (w.heap.size + 1) s (.slice a5 (L N).length c5) (.slice a6 (L M).length c6)) ∧
      W5.cell? ⟨X, 0, none⟩ = some (.bool s) ∧ W5.cell? ⟨X, 1, none⟩ = some (.slice a5 (L N).length c5) ∧ W5.cell? ⟨X, 2, none⟩ = some (.slice none 0 0) ∧ W5.frozen? ⟨X, 2, none⟩ = false ∧ Blank W5 (w.heap.size + 1) := by
  have hX : W5.heap[X]? = some (.cells #[.bool s, .slice a5 (L N).length c5, .slice none 0 0] 27 (0, 0)) := (hb.block _ (Array.getElem?_eq_some_iff.1 h.x).1).trans h.x
  have hrX : RatBlock W5 X := ⟨_, _, _, _, _, _, _, hX⟩
  have hR := h.r.kept hb
  obtain ⟨k0, k1, k2, j0, j1, j2⟩ := cells3 hX
  have hg : W5.grownBy (W5.setCell ⟨X, 2, none⟩ (.slice a6 (L M).length c6)) (some X) := grownBy_set (grown_refl W5 _)
  have hge := h.ge
  have hR2 : Blank (W5.setCell ⟨X, 2, none⟩ (.slice a6 (L M).length c6)) (w.heap.size + 1) := hR.grown hg (by omega)
  have n5 : NumAt (W5.setCell ⟨X, 2, none⟩ (.slice a6 (L M).length c6)) a5 c5 N := ⟨(h.n.kept hb).1.grown hg (hrX.apart (h.n.kept hb).1), h.n.2⟩
  have n6 : NumAt (W5.setCell ⟨X, 2, none⟩ (.slice a6 (L M).length c6)) a6 c6 M := ⟨h6.1.grown hg (hrX.apart h6.1), h6.2⟩
  have hdn : denN M = M := by unfold denN; rw [if_neg hM]
  refine ⟨⟨a5, c5, a6, c6, by rw [hdn], n5.set3 hR2.rat _ _ _, by rw [hdn]; exact n6.set3 hR2.rat _ _ _, set3_below ((h.below.trans (hb.mono h.below.size)).setCell (by simp; omega) _) (by omega)⟩, k0, k1, k2, j2, hR⟩
set_option maxRecDepth 100000 in
set_option maxHeartbeats 4000000 in
theorem Form_any (s : Bool) (a1 a2 : Option Addr) (c1 c2 n d : Nat) (w : World) (h1 : DAt w a1 c1 n) (h2 : DAt w a2 c2 d) (hd : 0 < d) (l1 : (D n).length ≤ 1000000) (l2 : (D d).length ≤ 1000000) :
    Calls Tryz.prog 13 #[ratV s (.slice a1 (D n).length c1) (.slice a2 (D d).length c2)] w (GivesAR (if n = 0 then false else s) (n / Nat.gcd n d) (d / Nat.gcd n d) w) := by
  have hNl : (D (n / Nat.gcd n d)).length ≤ 1000000 := Nat.le_trans (D_mono (Nat.div_le_self _ _)) l1
  have hMl : (D (d / Nat.gcd n d)).length ≤ 1000000 := Nat.le_trans (D_mono (Nat.div_le_self _ _)) l2
  have HL : Hid (∀ W, Below w.heap.size w W → Calls Tryz.prog 28 #[ratV s (.slice a1 (D n).length c1) (.slice a2 (D d).length c2)] W (GivesDR (if n = 0 then false else s) (n / Nat.gcd n d) (d / Nat.gcd n d) W)) := Lib.hid fun W h => Low_any s a1 a2 c1 c2 n d W (h1.kept h) (h2.kept h) hd l1 l2
  generalize (if n = 0 then false else s) = s' at *
  generalize n / Nat.gcd n d = N at *
  generalize d / Nat.gcd n d = M at *
  obtain ⟨W0, hW0⟩ : ∃ W0, W0 = (w.alloc (.cells #[.bool s, .slice a1 (D n).length c1, .slice a2 (D d).length c2] 58)).alloc (.cells #[.bool false, .slice none 0 0, .slice none 0 0] 27) := ⟨_, rfl⟩
  have hB0 : Below w.heap.size w W0 := by rw [hW0]; exact ((Below.refl _ _).alloc (Nat.le_refl _) _).alloc (by simp) _
  have hx0 : W0.heap[w.heap.size]? = some (.cells #[.bool s, .slice a1 (D n).length c1, .slice a2 (D d).length c2] 58 (0, 0)) := by rw [hW0, Below.heap_alloc _ _ _ (by simp)]; exact heap_alloc_new w _
  have hr0 : Blank W0 (w.heap.size + 1) := by
    unfold Blank
    rw [hW0]; simpa using heap_alloc_new (w.alloc (.cells #[.bool s, .slice a1 (D n).length c1, .slice a2 (D d).length c2] 58)) (.cells #[.bool false, .slice none 0 0, .slice none 0 0] 27)
  have hs0 : w.heap.size + 1 < W0.heap.size := by rw [hW0]; simp
  have HW0 := Lib.hid hW0
  have HL0 := Lib.hid (HL.out W0 hB0)
  have HX := Lib.hid (And.intro hB0 (And.intro hx0 (And.intro hr0 hs0)))
  clear hW0 h1 h2 HL hB0 hx0 hr0 hs0
  unfold ratV at HL0 ⊢
  go_enter Tryz.func13, Tryz.ntmps13
  go_wp2_with fail
  rw [← HW0.out]
  refine HL0.out.mono ?_
  rintro e w2 ⟨a3, c3, a4, c4, rfl, d3, d4, hb⟩
  have f1 := (hb.block _ (by have := HX.out.2.2.2; omega)).trans HX.out.2.1
  obtain ⟨k0, k1, k2, j0, j1, j2⟩ := cells3 f1
  unfold ratV
  have HD := Lib.hid (And.intro d3 (And.intro d4 (And.intro hb f1)))
  clear d3 d4 hb f1 HL0
  go_wp2_with fail
  have HW : Hid (∃ W, W = set3 w2 w.heap.size s' (.slice a3 (D N).length c3) (.slice a4 (D M).length c4)) := Lib.hid ⟨_, rfl⟩
  obtain ⟨W, hW⟩ := HW.out
  have hE : set3 w2 w.heap.size s' (.slice a3 (D N).length c3) (.slice a4 (D M).length c4) = W := hW.symm
  have d3 : DAt W a3 c3 N := by rw [hW]; exact HD.out.1.set3 HD.out.2.2.2 _ _ _
  have hW0 : W.heap[w.heap.size]? = some (.cells #[.bool s', .slice a3 (D N).length c3, .slice a4 (D M).length c4] 58 (0, 0)) := by
    rw [hW]; simp [set3, World.setCell, Array.getElem?_modify, HD.out.2.2.2]
  have HWE := Lib.hid hW
  unfold set3 at hE
  rw [hE]
  clear hE hW HW k0 k1 k2 j0 j1 j2
  obtain ⟨k0, k1, k2, j0, j1, j2⟩ := cells3 hW0
  obtain ⟨HA, HB⟩ := form_calls (s := s') d3 hNl
  have hne : w.heap.size < W.heap.size := (Array.getElem?_eq_some_iff.1 hW0).1
  have hne2 : W.heap.size ≠ w.heap.size := by omega
  have HDW : Hid (DAt W a4 c4 M ∧ W.heap[w.heap.size]? = some (.cells #[.bool s', .slice a3 (D N).length c3, .slice a4 (D M).length c4] 58 (0, 0)) ∧ Blank W (w.heap.size + 1) ∧ Below w.heap.size w W ∧ w.heap.size + 1 < W.heap.size) := Lib.hid (by
    have hb := HD.out.2.2.1
    have hB := HX.out.1.trans (hb.mono HX.out.1.size)
    have hbl := HX.out.2.2.1.kept hb
    have hg := set3_grown w2 w.heap.size s' (.slice a3 (D N).length c3) (.slice a4 (D M).length c4)
    refine ⟨by rw [HWE.out]; exact HD.out.2.1.set3 HD.out.2.2.2 _ _ _, hW0, by rw [HWE.out]; exact hbl.grown hg (by omega), by rw [HWE.out]; exact set3_below hB (Nat.le_refl _), ?_⟩
    have h1 := HX.out.2.2.2
    have h2 := hb.size
    have h3 := hg.size
    rw [HWE.out]
    omega)
  clear hW0 d3
  refine wp_region_ex (ι := Nat × Option Addr × Nat) (fun i => [(6, .pointer (some ⟨w.heap.size, 0, none⟩)), (7, .bool s'), (8, .pointer (some ⟨w.heap.size, 1, none⟩)), (9, .slice a3 (D N).length c3), (10, .slice i.2.1 (L N).length i.2.2), (11, .agg #[.bool s', .slice i.2.1 (L N).length i.2.2]),
    (12, .agg #[.bool s', .slice i.2.1 (L N).length i.2.2, .slice none 0 0]), (3, .pointer (some ⟨i.1, 0, none⟩))]) (FormAt W s' N) ?region ?rest
  case region =>
    go_region_held3 (fun w' => w'.cell? ⟨w.heap.size, 0, none⟩ = some (.bool s') ∧ w'.cell? ⟨w.heap.size, 1, none⟩ = some (.slice a3 (D N).length c3)) (go_keep)
      (first
        | (go_at_call 29; (with_reducible refine HA.out.mono ?_); rintro e w3 ⟨a5, c5, rfl, HP, HF⟩; have q0 := (HP.out _ 0 hne).trans k0; have q1 := (HP.out _ 1 hne).trans k1)
        | (go_at_call 29; (with_reducible refine HB.out.mono ?_); rintro e w3 ⟨a5, c5, rfl, ⟨m0, m1, m2, n0, n1, n2⟩, HP, HF⟩; have q0 := (HP.out _ 0 hne).trans k0; have q1 := (HP.out _ 1 hne).trans k1))
    all_goals exact ⟨(_, a5, c5), rfl, HF.out⟩
  case rest =>
    rintro ⟨X, a5, c5⟩ w5 hF
    have HS : Hid (FormSt w s' N M a4 c4 X a5 c5 a3 (D N).length c3 w5) := Lib.hid (by
      obtain ⟨f1, f2, f3, f4⟩ := hF
      exact ⟨f1, f2, HDW.out.1.kept f3, (f3.block _ hne).trans HDW.out.2.1, HDW.out.2.2.1.kept f3, HDW.out.2.2.2.1.trans (f3.mono HDW.out.2.2.2.1.size), by have := HDW.out.2.2.2.2; have h4 : W.heap.size ≤ X := f4; omega⟩)
    clear hF HA HB k0 k1 k2 j0 j1 j2 HDW hne hne2 HX HD
    have hXge := HS.out.ge
    simp only [puts, Act.put, List.setIfInBounds_toArray, List.set_cons_zero, List.set_cons_succ]
    obtain ⟨k0, k1, k2, j0, j1, j2⟩ := cells3 HS.out.b
    obtain ⟨x0, x1, x2, y0, y1, y2⟩ := cells3 HS.out.x
    by_cases hM : M = 1
    · subst hM
      have hz : ((((D 1).length : Nat) : Int) != 1) = false := by rw [D_one]; rfl
      have hl1 : 0 < (D 1).length := by rw [D_one]; simp
      obtain ⟨g, off, hga, hg, hc⟩ := HS.out.d.1.open' (by rw [List.length_map]; exact hl1)
      subst hga
      have hck := hc 0 (.int .i64 1) (by rw [D_one]; rfl)
      rw [Nat.add_zero] at hck
      obtain ⟨m0, m1, m2, n0, n1, n2⟩ := HS.out.r.cells
      have HE := Lib.hid HS.out.end1
      clear hc HS
      go_wp2_with fail
      exact bodyPost_ret (v := ratV s' (.slice a5 (L N).length c5) (.slice none 0 0)) (by simp [results, Tryz.results13, go_sem, ratV, m0, m1, m2]) rfl HE.out
    · have HLM := Lib.hid (Limbs_any a4 c4 (D M) w5 HS.out.d.1 (D_dig M) (by omega))
      rw [val_D] at HLM
      have HEE : Hid (∀ a6 c6 W5, NumAt W5 a6 c6 M → Below w5.heap.size w5 W5 → _) := Lib.hid (fun (a6 : Option Addr) (c6 : Nat) (W5 : World) (h6 : NumAt W5 a6 c6 M) (hb : Below w5.heap.size w5 W5) => HS.out.end2 hM h6 hb)
      have hgo : ((((D M).length : Nat) : Int) != 1) = true ∨ (((((D M).length : Nat) : Int) != 1) = false ∧ ∃ g off, a4 = some ⟨g, off, none⟩ ∧ 0 < (D M).length ∧ w5.cell? ⟨g, off, none⟩ = some (.int .i64 (M : Int)) ∧ ((M : Int) != 1) = true) := by
        by_cases hl : (D M).length = 1
        · obtain ⟨hm, hDM⟩ := D_len1 hl
          obtain ⟨g, off, hga, hg, hc⟩ := HS.out.d.1.open' (by rw [List.length_map]; omega)
          have hck := hc 0 (.int .i64 (M : Int)) (by rw [hDM]; rfl)
          rw [Nat.add_zero] at hck
          exact .inr ⟨by rw [hl]; rfl, g, off, hga, by omega, hck, by rw [bne_iff_ne]; omega⟩
        · exact .inl (by rw [bne_iff_ne]; omega)
      clear hM HS
      rcases hgo with hz | ⟨hz, g, off, rfl, hl0, hck, hm1⟩
      all_goals
        go_wp2_with fail
        refine HLM.out.mono ?_
        rintro e w6 ⟨a6, c6, rfl, ho, hb6⟩
        obtain ⟨hE, p0, p1, p2, q2, hbl⟩ := HEE.out a6 c6 w6 ho.num hb6
        have HE := Lib.hid hE
        obtain ⟨m0, m1, m2, n0, n1, n2⟩ := hbl.cells
        have hXne : X ≠ w.heap.size + 1 := by omega
        clear hE hbl ho hb6 HEE HLM k0 k1 k2 j0 j1 j2 x0 x1 x2 y0 y1 y2
        go_wp2_with fail
        exact bodyPost_ret (v := ratV s' (.slice a5 (L N).length c5) (.slice a6 (L M).length c6)) (by simp [results, Tryz.results13, go_sem, ratV, m0, m1, m2]) rfl HE.out
end Go.Proofs.YthnklohpmcebkaaGreatDoor

set_option linter.unusedVariables false
set_option linter.unusedSimpArgs false
namespace Go.Proofs.YthnklohpmcebkaaGreatDoor
open Go.RowKit Rep
theorem ofE {w : World} {a : Option Addr} {len c n : Nat} (h : NumE w a len c n) (hl : len ≤ 1000000) : Calls Tryz.prog 30 #[.slice a len c] w (GivesD w.heap.size n w) := by
  obtain ⟨xs, rfl, rfl, hx⟩ := h.ex
  exact OfD_any a xs c w hx.lim hx.reads (by omega)
abbrev OfIx := Nat × (Option Addr × Nat) × (Option Addr × Nat)
def OfAt (W : World) (s : Bool) (n d : Nat) (i : OfIx) (W' : World) : Prop :=
  W'.heap[i.1]? = some (.cells #[.bool s, .slice i.2.1.1 (D n).length i.2.1.2, .slice i.2.2.1 (D d).length i.2.2.2] 58 (0, 0)) ∧ DAt W' i.2.1.1 i.2.1.2 n ∧ DAt W' i.2.2.1 i.2.2.2 d ∧ Below W.heap.size W W' ∧ W.heap.size ≤ i.1
def Same3 (W w3 : World) : Prop := ∀ r o, r < W.heap.size → w3.cell? ⟨r, o, none⟩ = W.cell? ⟨r, o, none⟩
theorem Same3.of {W w3 : World} (h : Below W.heap.size W w3) : Same3 W w3 := fun r o hr => h.cell (p := ⟨r, o, none⟩) hr
def Blk3 (w3 : World) (X : Nat) : Prop := w3.heap[X]? = some (.cells #[.bool false, .slice none 0 0, .slice none 0 0] 58 (0, 0))
theorem of_second {W w3 : World} {s : Bool} {a1 a2 : Option Addr} {c1 l2 c2 n d X : Nat} (h2 : NumE W a2 l2 c2 d) (hl2 : l2 ≤ 1000000) (hb : Below W.heap.size W w3) (hd : DAt w3 a1 c1 n) (hX : Blk3 w3 X) (hge : W.heap.size ≤ X) :
    Calls Tryz.prog 30 #[.slice a2 l2 c2] w3 fun e w4 => ∃ b c, e = .returned (.slice b (D d).length c) ∧ (w4.cell? ⟨X, 0, none⟩ = some (.bool false) ∧ w4.cell? ⟨X, 1, none⟩ = some (.slice none 0 0) ∧ w4.cell? ⟨X, 2, none⟩ = some (.slice none 0 0) ∧ w4.frozen? ⟨X, 0, none⟩ = false ∧ w4.frozen? ⟨X, 1, none⟩ = false ∧ w4.frozen? ⟨X, 2, none⟩ = false) ∧
      Hid (Same3 W w4) ∧ Hid (OfAt W s n d (X, (a1, c1), (b, c)) (set3 w4 X s (.slice a1 (D n).length c1) (.slice b (D d).length c))) := by
  refine (ofE (h2.kept hb) hl2).mono ?_
  rintro e w4 ⟨b, c, rfl, d4, hb4, _⟩
  have hX4 : Blk3 w4 X := (hb4.block _ (Array.getElem?_eq_some_iff.1 hX).1).trans hX
  have hB : Below W.heap.size W w4 := hb.trans (hb4.mono hb.size)
  refine ⟨b, c, rfl, cells3 hX4, Lib.hid (Same3.of hB), Lib.hid ⟨?_, (hd.kept hb4).set3 hX4 _ _ _, d4.set3 hX4 _ _ _, set3_below hB hge, hge⟩⟩
  unfold Blk3 at hX4
  simp [set3, World.setCell, Array.getElem?_modify, hX4]
theorem of_calls {W : World} {s : Bool} {a1 a2 : Option Addr} {l1 c1 l2 c2 n d : Nat} (h1 : NumE W a1 l1 c1 n) (h2 : NumE W a2 l2 c2 d) (hl1 : l1 ≤ 1000000) (hl2 : l2 ≤ 1000000) :
    Hid (Calls Tryz.prog 30 #[.slice a1 l1 c1] W.drew fun e w3 => ∃ a c, e = .returned (.slice a (D n).length c) ∧ Hid (Same3 W w3) ∧
        Hid (Calls Tryz.prog 30 #[.slice a2 l2 c2] w3 fun e w4 => ∃ b c', e = .returned (.slice b (D d).length c') ∧ Hid (Same3 W w4) ∧ Hid (OfAt W s n d (w4.heap.size, (a, c), (b, c')) (w4.alloc (.cells #[.bool s, .slice a (D n).length c, .slice b (D d).length c'] 58)))) ∧
        Hid (Calls Tryz.prog 30 #[.slice a2 l2 c2] (w3.alloc (.cells #[.bool false, .slice none 0 0, .slice none 0 0] 58)) fun e w4 => ∃ b c', e = .returned (.slice b (D d).length c') ∧
          (w4.cell? ⟨w3.heap.size, 0, none⟩ = some (.bool false) ∧ w4.cell? ⟨w3.heap.size, 1, none⟩ = some (.slice none 0 0) ∧ w4.cell? ⟨w3.heap.size, 2, none⟩ = some (.slice none 0 0) ∧ w4.frozen? ⟨w3.heap.size, 0, none⟩ = false ∧ w4.frozen? ⟨w3.heap.size, 1, none⟩ = false ∧ w4.frozen? ⟨w3.heap.size, 2, none⟩ = false) ∧
          Hid (Same3 W w4) ∧ Hid (OfAt W s n d (w3.heap.size, (a, c), (b, c')) (set3 w4 w3.heap.size s (.slice a (D n).length c) (.slice b (D d).length c'))))) ∧
      Hid (Calls Tryz.prog 30 #[.slice a1 l1 c1] (W.alloc (.cells #[.bool false, .slice none 0 0, .slice none 0 0] 58)).drew fun e w3 => ∃ a c, e = .returned (.slice a (D n).length c) ∧ Hid (Same3 W w3) ∧
        Hid (Calls Tryz.prog 30 #[.slice a2 l2 c2] w3 fun e w4 => ∃ b c', e = .returned (.slice b (D d).length c') ∧
          (w4.cell? ⟨W.heap.size, 0, none⟩ = some (.bool false) ∧ w4.cell? ⟨W.heap.size, 1, none⟩ = some (.slice none 0 0) ∧ w4.cell? ⟨W.heap.size, 2, none⟩ = some (.slice none 0 0) ∧ w4.frozen? ⟨W.heap.size, 0, none⟩ = false ∧ w4.frozen? ⟨W.heap.size, 1, none⟩ = false ∧ w4.frozen? ⟨W.heap.size, 2, none⟩ = false) ∧
          Hid (Same3 W w4) ∧ Hid (OfAt W s n d (W.heap.size, (a, c), (b, c')) (set3 w4 W.heap.size s (.slice a (D n).length c) (.slice b (D d).length c'))))) := by
  have hd1 : Below W.heap.size W W.drew := ⟨rfl, rfl, rfl, Nat.le_refl _, fun _ _ => rfl⟩
  refine ⟨Lib.hid ?_, Lib.hid ?_⟩
  · refine (ofE (h1.kept hd1) hl1).mono ?_
    rintro e w3 ⟨a, c, rfl, d3, hb3, _⟩
    have hB : Below W.heap.size W w3 := hd1.trans hb3
    refine ⟨a, c, rfl, Lib.hid (Same3.of hB), Lib.hid ?_, Lib.hid ?_⟩
    · refine (ofE (h2.kept hB) hl2).mono ?_
      rintro e w4 ⟨b, c', rfl, d4, hb4, _⟩
      have hB4 : Below W.heap.size W w4 := hB.trans (hb4.mono hB.size)
      have ha := (Below.refl w4.heap.size w4).alloc (Nat.le_refl _) (.cells #[.bool s, .slice a (D n).length c, .slice b (D d).length c'] 58)
      exact ⟨b, c', rfl, Lib.hid (Same3.of hB4), Lib.hid ⟨heap_alloc_new w4 _, (d3.kept hb4).kept ha, d4.kept ha, hB4.alloc hB4.size _, hB4.size⟩⟩
    · have ha := (Below.refl w3.heap.size w3).alloc (Nat.le_refl _) (.cells #[.bool false, .slice none 0 0, .slice none 0 0] 58)
      exact of_second h2 hl2 (hB.alloc hB.size _) (d3.kept ha) (heap_alloc_new w3 _) hB.size
  · have hd2 : Below W.heap.size W (W.alloc (.cells #[.bool false, .slice none 0 0, .slice none 0 0] 58)).drew := Below.drewN' ((Below.refl W.heap.size W).alloc (Nat.le_refl _) _) 1
    refine (ofE (h1.kept hd2) hl1).mono ?_
    rintro e w3 ⟨a, c, rfl, d3, hb3, _⟩
    have hB : Below W.heap.size W w3 := hd2.trans (hb3.mono (by simp [World.drew]))
    have hX : Blk3 w3 W.heap.size := (hb3.block _ (by simp [World.drew])).trans (heap_alloc_new W _)
    exact ⟨a, c, rfl, Lib.hid (Same3.of hB), Lib.hid (of_second h2 hl2 hB d3 hX (Nat.le_refl _))⟩
set_option maxRecDepth 100000 in
set_option maxHeartbeats 4000000 in
theorem Of_any (s : Bool) (a1 a2 : Option Addr) (l1 c1 l2 c2 n d : Nat) (w : World) (h1 : NumE w a1 l1 c1 n) (h2 : NumE w a2 l2 c2 d) (hl1 : l1 ≤ 1000000) (hl2 : l2 ≤ 1000000) :
    Calls Tryz.prog 14 #[ratV s (.slice a1 l1 c1) (.slice a2 l2 c2)] w (GivesDR s n (if d = 0 then 1 else d) w) := by
  obtain ⟨W, hW⟩ : ∃ W, W = (w.alloc (.cells #[.bool s, .slice a1 l1 c1, .slice a2 l2 c2] 27)).alloc (.cells #[.bool false, .slice none 0 0, .slice none 0 0] 58) := ⟨_, rfl⟩
  have hB : Below w.heap.size w W := by rw [hW]; exact ((Below.refl _ _).alloc (Nat.le_refl _) _).alloc (by simp) _
  have hx0 : W.heap[w.heap.size]? = some (.cells #[.bool s, .slice a1 l1 c1, .slice a2 l2 c2] 27 (0, 0)) := by rw [hW, Below.heap_alloc _ _ _ (by simp)]; exact heap_alloc_new w _
  have hr0 : Blk3 W (w.heap.size + 1) := by
    unfold Blk3
    rw [hW]; simpa using heap_alloc_new (w.alloc (.cells #[.bool s, .slice a1 l1 c1, .slice a2 l2 c2] 27)) (.cells #[.bool false, .slice none 0 0, .slice none 0 0] 58)
  have hs0 : w.heap.size + 1 < W.heap.size := by rw [hW]; simp
  obtain ⟨HA, HC⟩ := of_calls (s := s) (h1.kept hB) (h2.kept hB) hl1 hl2
  have HWE := Lib.hid hW
  have HX := Lib.hid (And.intro hB hr0)
  obtain ⟨k0, k1, k2, j0, j1, j2⟩ := cells3 hx0
  clear hW h1 h2 hB hx0 hr0
  have hne : w.heap.size < W.heap.size := by omega
  have hne2 : W.heap.size ≠ w.heap.size := by omega
  obtain ⟨d1, hd1⟩ : ∃ d1, (if d = 0 then 1 else d) = d1 := ⟨_, rfl⟩
  rw [hd1]
  have HD1 := Lib.hid hd1
  clear hd1
  unfold ratV
  go_enter Tryz.func14, Tryz.ntmps14
  go_wp2_with fail
  rw [← HWE.out]
  refine wp_region_ex (ι := OfIx) (fun i => [(4, .pointer (some ⟨w.heap.size, 0, none⟩)), (5, .pointer (some ⟨w.heap.size, 0, none⟩)), (6, .bool s), (7, .pointer (some ⟨w.heap.size, 0, none⟩)), (8, .pointer (some ⟨w.heap.size, 1, none⟩)), (9, .slice a1 l1 c1), (10, .slice i.2.1.1 (D n).length i.2.1.2),
    (11, .pointer (some ⟨w.heap.size, 2, none⟩)), (12, .slice a2 l2 c2), (13, .slice i.2.2.1 (D d).length i.2.2.2), (14, .agg #[.bool s, .slice i.2.1.1 (D n).length i.2.1.2, .slice i.2.2.1 (D d).length i.2.2.2]), (3, .pointer (some ⟨i.1, 0, none⟩))]) (OfAt W s n d) ?region ?rest
  case region =>
    go_region_held3 (fun w' => w'.cell? ⟨w.heap.size, 0, none⟩ = some (.bool s) ∧ w'.cell? ⟨w.heap.size, 1, none⟩ = some (.slice a1 l1 c1) ∧ w'.cell? ⟨w.heap.size, 2, none⟩ = some (.slice a2 l2 c2)) (go_keep)
      (first
        | (go_at_call 30; (with_reducible refine HA.out.mono ?_); rintro e w3 ⟨a5, c5, rfl, HP, HF, HG⟩; have q0 := (HP.out _ 0 hne).trans k0; have q1 := (HP.out _ 1 hne).trans k1; have q2 := (HP.out _ 2 hne).trans k2; have hne3 : w3.heap.size ≠ w.heap.size := fun e => by have := World.block_lt_of_cell? w3 _ q0; simp at this; omega)
        | (go_at_call 30; (with_reducible refine HC.out.mono ?_); rintro e w3 ⟨a5, c5, rfl, HP, HH⟩; have q0 := (HP.out _ 0 hne).trans k0; have q1 := (HP.out _ 1 hne).trans k1; have q2 := (HP.out _ 2 hne).trans k2)
        | (go_at_call 30; (with_reducible refine HF.out.mono ?_); rintro e w4 ⟨a6, c6, rfl, HP2, HE⟩; have r0 := (HP2.out _ 0 hne).trans k0; have r1 := (HP2.out _ 1 hne).trans k1; have r2 := (HP2.out _ 2 hne).trans k2)
        | (go_at_call 30; (with_reducible refine HG.out.mono ?_); rintro e w4 ⟨a6, c6, rfl, ⟨m0, m1, m2, n0, n1, n2⟩, HP2, HE⟩; have r0 := (HP2.out _ 0 hne).trans k0; have r1 := (HP2.out _ 1 hne).trans k1; have r2 := (HP2.out _ 2 hne).trans k2)
        | (go_at_call 30; (with_reducible refine HH.out.mono ?_); rintro e w4 ⟨a6, c6, rfl, ⟨m0, m1, m2, n0, n1, n2⟩, HP2, HE⟩; have r0 := (HP2.out _ 0 hne).trans k0; have r1 := (HP2.out _ 1 hne).trans k1; have r2 := (HP2.out _ 2 hne).trans k2))
    all_goals
      refine ⟨_, ?_, HE.out⟩
      simp only [puts, Act.put, List.setIfInBounds_toArray, List.set_cons_zero, List.set_cons_succ]
  case rest =>
    rintro ⟨X, ⟨a5, c5⟩, ⟨a6, c6⟩⟩ w5 hF
    obtain ⟨f1, f2, f3, f4, f5⟩ := hF
    have hbl : Blk3 w5 (w.heap.size + 1) := (f4.block _ hs0).trans HX.out.2
    have hXn : w.heap.size + 1 < X := Nat.lt_of_lt_of_le hs0 f5
    have HB5 := Lib.hid (HX.out.1.trans (f4.mono HX.out.1.size))
    have HF := Lib.hid (And.intro f1 (And.intro f2 (And.intro f3 hbl)))
    dsimp only at f1
    obtain ⟨x0, x1, x2, y0, y1, y2⟩ := cells3 f1
    obtain ⟨m0, m1, m2, n0, n1, n2⟩ := cells3 hbl
    clear f1 f2 f3 f4 f5 hbl HA HC k0 k1 k2 j0 j1 j2 HX hne hne2
    simp only [puts, Act.put, List.setIfInBounds_toArray, List.set_cons_zero, List.set_cons_succ]
    have hXl : X < w5.heap.size := (Array.getElem?_eq_some_iff.1 HF.out.1).1
    by_cases h0 : d = 0
    · have hde : d1 = 1 := by rw [← HD1.out, if_pos h0]
      subst hde
      have hz : (((D d).length : Int) == 0) = true := by rw [h0]; rfl
      have HE : Hid (GivesDR s n 1 w (.returned (ratV s (.slice a5 (D n).length c5) (.slice (some ⟨w5.heap.size, 0, none⟩) (D 1).length 1)))
          (set3 ((w5.alloc (.cells #[.int .i64 1] 3)).setCell ⟨X, 2, none⟩ (.slice (some ⟨w5.heap.size, 0, none⟩) 1 1)) (w.heap.size + 1) s (.slice a5 (D n).length c5) (.slice (some ⟨w5.heap.size, 0, none⟩) 1 1))) := Lib.hid (by
        obtain ⟨f1, f2, f3, f4⟩ := HF.out
        have ha : Below w5.heap.size w5 (w5.alloc (.cells #[.int .i64 1] 3)) := (Below.refl _ _).alloc (Nat.le_refl _) _
        have hX1 : (w5.alloc (.cells #[.int .i64 1] 3)).heap[X]? = some (.cells #[.bool s, .slice a5 (D n).length c5, .slice a6 (D d).length c6] 58 (0, 0)) := (ha.block _ hXl).trans f1
        have hg : (w5.alloc (.cells #[.int .i64 1] 3)).grownBy ((w5.alloc (.cells #[.int .i64 1] 3)).setCell ⟨X, 2, none⟩ (.slice (some ⟨w5.heap.size, 0, none⟩) 1 1)) (some X) := grownBy_set (grown_refl _ _)
        have hrow := (Row.new (E := 3) w5 #[.int .i64 1]).grown hg (by simp; omega)
        have h1 : DAt ((w5.alloc (.cells #[.int .i64 1] 3)).setCell ⟨X, 2, none⟩ (.slice (some ⟨w5.heap.size, 0, none⟩) 1 1)) (some ⟨w5.heap.size, 0, none⟩) 1 1 := ⟨by rw [D_one]; simpa [i64v] using hrow.reads0, by rw [D_one]; simp, by simp [maxLen]⟩
        have hR : Blk3 ((w5.alloc (.cells #[.int .i64 1] 3)).setCell ⟨X, 2, none⟩ (.slice (some ⟨w5.heap.size, 0, none⟩) 1 1)) (w.heap.size + 1) := (hg.block _ (by simp; omega) (by simp; omega)).trans ((ha.block _ (by omega)).trans f4)
        have h2 : DAt ((w5.alloc (.cells #[.int .i64 1] 3)).setCell ⟨X, 2, none⟩ (.slice (some ⟨w5.heap.size, 0, none⟩) 1 1)) a5 c5 n := by
          have hk := f2.kept ha
          have h3 := hk.set3 hX1 s (.slice a5 (D n).length c5) (.slice (some ⟨w5.heap.size, 0, none⟩) 1 1)
          refine ⟨hk.1.grown hg ?_, hk.2⟩
          rcases hk.1 with hr | ⟨g, off, rfl, hr⟩
          · exact .inl hr
          · by_cases e : D n = []
            · exact .inl (by simp [e])
            · refine .inr fun g' off' hgq hbq => ?_
              simp at hgq hbq
              obtain ⟨rfl, rfl⟩ := hgq
              subst hbq
              have := hr 0 _ (map_getElem? (xs := D n) (f := i64v) (List.length_pos_iff.2 e))
              simp only [World.cell?, hX1] at this
              rcases off with _ | _ | _ | off <;> simp [i64v] at this
        have h4 := h2.set3 hR s (.slice a5 (D n).length c5) (.slice (some ⟨w5.heap.size, 0, none⟩) 1 1)
        have h5 := h1.set3 hR s (.slice a5 (D n).length c5) (.slice (some ⟨w5.heap.size, 0, none⟩) 1 1)
        exact ⟨a5, c5, _, 1, rfl, h4, h5, set3_below ((HB5.out.alloc HB5.out.size _).setCell (by simp; omega) _) (by omega)⟩)
      rw [show (D 1).length = 1 from by rw [D_one]; rfl] at HE
      have hq : w5.heap.size ≠ X := by omega
      have hq2 : X ≠ w.heap.size + 1 := by omega
      have hq3 : w.heap.size + 1 ≠ X := by omega
      have hq4 : w.heap.size + 1 < w5.heap.size := by omega
      have hq5 : w5.heap.size ≠ w.heap.size + 1 := by omega
      have hR6 : Blk3 ((w5.alloc (.cells #[.int .i64 1] 3)).setCell ⟨X, 2, none⟩ (.slice (some ⟨w5.heap.size, 0, none⟩) 1 1)) (w.heap.size + 1) := by
        unfold Blk3
        rw [Below.heap_setCell _ _ _ _ (by simp; omega), Below.heap_alloc _ _ _ hq4]
        exact HF.out.2.2.2
      have HE2 : Hid ((set3 ((w5.alloc (.cells #[.int .i64 1] 3)).setCell ⟨X, 2, none⟩ (.slice (some ⟨w5.heap.size, 0, none⟩) 1 1)) (w.heap.size + 1) s (.slice a5 (D n).length c5) (.slice (some ⟨w5.heap.size, 0, none⟩) 1 1)).heap[w.heap.size + 1]? = some (.cells #[.bool s, .slice a5 (D n).length c5, .slice (some ⟨w5.heap.size, 0, none⟩) 1 1] 58 (0, 0))) := Lib.hid (by
        generalize ((w5.alloc (.cells #[.int .i64 1] 3)).setCell ⟨X, 2, none⟩ (.slice (some ⟨w5.heap.size, 0, none⟩) 1 1)) = U at hR6 ⊢
        unfold Blk3 at hR6
        simp [set3, World.setCell, Array.getElem?_modify, hR6])
      clear hR6
      unfold set3 at HE HE2
      rw [World.setCell_alloc_past _ _ _ _ hXl, World.setCell_alloc_past _ _ _ _ (by simpa [World.setCell] using hq4), World.setCell_alloc_past _ _ _ _ (by simpa [World.setCell] using hq4), World.setCell_alloc_past _ _ _ _ (by simpa [World.setCell] using hq4)] at HE HE2
      clear h0 HF HB5
      go_wp2_with fail
      obtain ⟨p0, p1, p2, r0, r1, r2⟩ := cells3 HE2.out
      exact bodyPost_ret (v := ratV s (.slice a5 (D n).length c5) (.slice (some ⟨w5.heap.size, 0, none⟩) 1 1)) (by simp [results, Tryz.results14, go_sem, ratV, p0, p1, p2]) rfl HE.out
    · have hde : d1 = d := by rw [← HD1.out, if_neg h0]
      subst hde
      have hz : (((D d1).length : Int) == 0) = false := cast_beq_no (by rw [Ne, D_len_zero]; exact h0)
      have HE : Hid (GivesDR s n d1 w (.returned (ratV s (.slice a5 (D n).length c5) (.slice a6 (D d1).length c6))) (set3 w5 (w.heap.size + 1) s (.slice a5 (D n).length c5) (.slice a6 (D d1).length c6))) :=
        Lib.hid ⟨a5, c5, a6, c6, rfl, HF.out.2.1.set3 HF.out.2.2.2 _ _ _, HF.out.2.2.1.set3 HF.out.2.2.2 _ _ _, set3_below HB5.out (by omega)⟩
      clear h0 HF HB5
      go_wp2_with fail
      exact bodyPost_ret (v := ratV s (.slice a5 (D n).length c5) (.slice a6 (D d1).length c6)) (by simp [results, Tryz.results14, go_sem, ratV, m0, m1, m2]) rfl HE.out
end Go.Proofs.YthnklohpmcebkaaGreatDoor

set_option linter.unusedVariables false
set_option linter.unusedSimpArgs false
namespace Go.Proofs.YthnklohpmcebkaaGreatDoor
open Go.RowKit Rep
def ovQ (m : Nat) (q : Rat) : Bool := rO m (mgQ q) q.den
def outQ (m : Nat) (q : Rat) : Rat := if ovQ m q = true then 0 else q
theorem den0 : (0 : Rat).den = 1 := rfl
structure AtQ (w : World) (a1 : Option Addr) (c1 : Nat) (a2 : Option Addr) (c2 : Nat) (q : Rat) : Prop where
  num : NumAt w a1 c1 (mgQ q)
  den : NumAt w a2 c2 (denN q.den)
theorem AtQ.kept {w w' : World} {a1 : Option Addr} {c1 : Nat} {a2 : Option Addr} {c2 : Nat} {q : Rat} (h : AtQ w a1 c1 a2 c2 q) (hb : Below w.heap.size w w') : AtQ w' a1 c1 a2 c2 q := ⟨h.num.kept hb, h.den.kept hb⟩
theorem AtQ.bench {w w' : World} {b m : Nat} {o : Bool} {a1 : Option Addr} {c1 : Nat} {a2 : Option Addr} {c2 : Nat} {q : Rat} (h : AtQ w a1 c1 a2 c2 q) (hb : Bench w b m o) (hg : w.grownBy w' (some b)) : AtQ w' a1 c1 a2 c2 q := ⟨h.num.bench hb hg, h.den.bench hb hg⟩
theorem AtQ.zero (w : World) : AtQ w none 0 none 0 0 := ⟨NumAt.zero w, NumAt.zero w⟩
abbrev qV (q : Rat) (a1 : Option Addr) (c1 : Nat) (a2 : Option Addr) (c2 : Nat) : Value := ratV (ngQ q) (.slice a1 (L (mgQ q)).length c1) (.slice a2 (L (denN q.den)).length c2)
def GivesQ (b m : Nat) (q : Rat) (w : World) (e : Ending) (w' : World) : Prop :=
  ∃ a1 c1 a2 c2, e = .returned (qV (outQ m q) a1 c1 a2 c2) ∧ AtQ w' a1 c1 a2 c2 (outQ m q) ∧ Bench w' b m (ovQ m q) ∧ w.grownBy w' (some b)
def NewQ (q : Rat) (w : World) (e : Ending) (w' : World) : Prop :=
  ∃ a1 c1 a2 c2, e = .returned (qV q a1 c1 a2 c2) ∧ AtQ w' a1 c1 a2 c2 q ∧ Below w.heap.size w w'
theorem GivesR.q {b m n d : Nat} {s : Bool} {q : Rat} {w w' : World} {e : Ending} (h : GivesR b m s n d w e w') (h1 : mgQ q = n) (h2 : denN q.den = denN d) (h3 : n ≠ 0 → ngQ q = s) : GivesQ b m q w e w' := by
  obtain ⟨a1, c1, a2, c2, rfl, n1, n2, hb, hg⟩ := h
  subst h1
  have ho : rO m (mgQ q) d = ovQ m q := by unfold ovQ rO; rw [h2]
  have key : ngQ (outQ m q) = rS m s (mgQ q) d ∧ mgQ (outQ m q) = rN m (mgQ q) d ∧ denN (outQ m q).den = rD m (mgQ q) d := by
    unfold outQ rS rN rD
    rw [ho]
    by_cases h : ovQ m q = true
    · simp [h, ng_zero, mg_of_zero, den0, denN]
    · by_cases hz : mgQ q = 0
      · have hq := mg_zero.1 hz
        subst hq
        simp [ng_zero, mg_of_zero, den0, denN]
      · simp [h, hz, h2, h3 hz]
  obtain ⟨k1, k2, k3⟩ := key
  refine ⟨a1, c1, a2, c2, ?_, ⟨?_, ?_⟩, ?_, hg⟩
  · unfold qV; rw [k1, k2, k3]
  · rw [k2]; exact n1
  · rw [k3]; exact n2
  · rw [← ho]; exact hb
structure RatX (w : World) (s : Bool) (a1 : Option Addr) (l1 c1 : Nat) (a2 : Option Addr) (l2 c2 : Nat) (n d d0 : Nat) (q : Rat) : Prop where
  num : NumE w a1 l1 c1 n
  den : NumE w a2 l2 c2 d0
  thr : d = if l2 = 0 then 1 else d0
  pos : 0 < d
  cop : Nat.gcd n d = 1
  is : mkQ s n d = q
  s1 : l1 ≤ 10000
  s2 : l2 ≤ 10000
theorem RatX.kept {w w' : World} {s : Bool} {a1 : Option Addr} {l1 c1 : Nat} {a2 : Option Addr} {l2 c2 : Nat} {n d d0 : Nat} {q : Rat} (h : RatX w s a1 l1 c1 a2 l2 c2 n d d0 q) (hb : Below w.heap.size w w') : RatX w' s a1 l1 c1 a2 l2 c2 n d d0 q :=
  ⟨h.num.kept hb, h.den.kept hb, h.thr, h.pos, h.cop, h.is, h.s1, h.s2⟩
theorem RatX.bench {w w' : World} {b m : Nat} {o : Bool} {s : Bool} {a1 : Option Addr} {l1 c1 : Nat} {a2 : Option Addr} {l2 c2 : Nat} {n d d0 : Nat} {q : Rat} (h : RatX w s a1 l1 c1 a2 l2 c2 n d d0 q) (hb : Bench w b m o) (hg : w.grownBy w' (some b)) : RatX w' s a1 l1 c1 a2 l2 c2 n d d0 q :=
  ⟨h.num.bench hb hg, h.den.bench hb hg, h.thr, h.pos, h.cop, h.is, h.s1, h.s2⟩
theorem RatX.neg {w : World} {s : Bool} {a1 : Option Addr} {l1 c1 : Nat} {a2 : Option Addr} {l2 c2 : Nat} {n d d0 : Nat} {q : Rat} (h : RatX w s a1 l1 c1 a2 l2 c2 n d d0 q) : RatX w (!s) a1 l1 c1 a2 l2 c2 n d d0 (-q) :=
  ⟨h.num, h.den, h.thr, h.pos, h.cop, by rw [mkQ_neg, h.is], h.s1, h.s2⟩
theorem denN_len {d : Nat} (hd : 0 < d) : d = if (L (denN d)).length = 0 then 1 else denN d := by
  simp only [L_len_zero]
  unfold denN
  by_cases h : d = 1
  · simp [h]
  · simp [h]; omega
def szQ (q : Rat) : Nat := max (L (mgQ q)).length (L (denN q.den)).length
theorem AtQ.x {w : World} {a1 : Option Addr} {c1 : Nat} {a2 : Option Addr} {c2 : Nat} {q : Rat} (h : AtQ w a1 c1 a2 c2 q) (hs : szQ q ≤ 10000) : RatX w (ngQ q) a1 (L (mgQ q)).length c1 a2 (L (denN q.den)).length c2 (mgQ q) q.den (denN q.den) q := by
  unfold szQ at hs
  exact ⟨NumE.of h.num (by omega), NumE.of h.den (by omega), denN_len (den_pos q), den_pos q, copr q, mkQ_self q, by omega, by omega⟩
theorem szQ_zero : szQ 0 = 0 := rfl
structure DgQ (w : World) (a1 : Option Addr) (c1 : Nat) (a2 : Option Addr) (c2 : Nat) (q : Rat) : Prop where
  num : DAt w a1 c1 (mgQ q)
  den : DAt w a2 c2 q.den
theorem DgQ.kept {w w' : World} {a1 : Option Addr} {c1 : Nat} {a2 : Option Addr} {c2 : Nat} {q : Rat} (h : DgQ w a1 c1 a2 c2 q) (hb : Below w.heap.size w w') : DgQ w' a1 c1 a2 c2 q := ⟨h.num.kept hb, h.den.kept hb⟩
abbrev dV (q : Rat) (a1 : Option Addr) (c1 : Nat) (a2 : Option Addr) (c2 : Nat) : Value := ratV (ngQ q) (.slice a1 (D (mgQ q)).length c1) (.slice a2 (D q.den).length c2)
def GivesDQ (q : Rat) (w : World) (e : Ending) (w' : World) : Prop :=
  ∃ a1 c1 a2 c2, e = .returned (dV q a1 c1 a2 c2) ∧ DgQ w' a1 c1 a2 c2 q ∧ Below w.heap.size w w'
theorem GivesDR.q {s : Bool} {n d : Nat} {q : Rat} {w w' : World} {e : Ending} (h : GivesDR s n d w e w') (h1 : ngQ q = s) (h2 : mgQ q = n) (h3 : q.den = d) : GivesDQ q w e w' := by
  subst h1 h2 h3
  obtain ⟨a1, c1, a2, c2, rfl, d1, d2, hb⟩ := h
  exact ⟨a1, c1, a2, c2, rfl, ⟨d1, d2⟩, hb⟩
theorem Form_q {w : World} {s : Bool} {a1 a2 : Option Addr} {c1 c2 n d : Nat} (h1 : DAt w a1 c1 n) (h2 : DAt w a2 c2 d) (hd : 0 < d) (l1 : (D n).length ≤ 1000000) (l2 : (D d).length ≤ 1000000) :
    Calls Tryz.prog 13 #[ratV s (.slice a1 (D n).length c1) (.slice a2 (D d).length c2)] w (NewQ (mkQ s n d) w) := by
  refine (Form_any s a1 a2 c1 c2 n d w h1 h2 hd l1 l2).mono ?_
  rintro e w' ⟨b1, k1, b2, k2, rfl, m1, m2, hb⟩
  refine ⟨b1, k1, b2, k2, ?_, ⟨?_, ?_⟩, hb⟩
  · unfold qV; rw [mkQ_ng s n hd, mkQ_mg s n hd, mkQ_den s n hd]
  · rw [mkQ_mg s n hd]; exact m1
  · rw [mkQ_den s n hd]; exact m2
end Go.Proofs.YthnklohpmcebkaaGreatDoor

set_option linter.unusedVariables false
set_option linter.unusedSimpArgs false
namespace Go.Proofs.YthnklohpmcebkaaGreatDoor
open Go.RowKit Rep
set_option maxRecDepth 100000 in
set_option maxHeartbeats 400000 in
theorem through_any {w : World} {s : Bool} {a1 : Option Addr} {l1 c1 : Nat} {a2 : Option Addr} {l2 c2 d0 : Nat} (h : NumE w a2 l2 c2 d0) :
    Calls Tryz.prog 72 #[ratV s (.slice a1 l1 c1) (.slice a2 l2 c2)] w (GivesE (max l2 1) (if l2 = 0 then 1 else d0) w) := by
  have hb0 : Below w.heap.size w (w.alloc (.cells #[.bool s, .slice a1 l1 c1, .slice a2 l2 c2] 27)) := (Below.refl _ _).alloc (Nat.le_refl _) _
  have HN := Lib.hid (h.kept hb0)
  have HE := Lib.hid (And.intro (NumE.one (w.alloc (.cells #[.bool s, .slice a1 l1 c1, .slice a2 l2 c2] 27))) (hb0.alloc hb0.size (.cells #[.int .u32 1] 53)))
  have HB := Lib.hid hb0
  clear hb0 h
  unfold ratV
  by_cases hl : l2 = 0
  · rw [if_pos hl]
    have hz : ((l2 : Int) == 0) = true := by rw [hl]; rfl
    clear hl
    go_enter Tryz.func72, Tryz.ntmps72
    go_wp2_with fail
    go_ret
    exact ⟨_, 1, 1, rfl, by simpa using HE.out.1, by omega, HE.out.2⟩
  · rw [if_neg hl]
    have hz : ((l2 : Int) == 0) = false := cast_beq_no hl
    clear hl
    go_enter Tryz.func72, Tryz.ntmps72
    go_wp2_with fail
    go_ret
    exact ⟨a2, l2, c2, rfl, HN.out, by omega, HB.out⟩
theorem below_drew (W : World) : Below W.heap.size W W.drew := ⟨rfl, rfl, rfl, Nat.le_refl _, fun _ _ => rfl⟩
theorem keep3 {W0 : World} {r1 : Nat} {v0 v1 v2 : Value} {t : TypeId} (h1 : W0.heap[r1]? = some (.cells #[v0, v1, v2] t (0, 0))) (W : World) (h : Below W0.heap.size W0 W) :
    W.cell? ⟨r1, 0, none⟩ = some v0 ∧ W.cell? ⟨r1, 1, none⟩ = some v1 ∧ W.cell? ⟨r1, 2, none⟩ = some v2 ∧ W.frozen? ⟨r1, 0, none⟩ = false ∧ W.frozen? ⟨r1, 1, none⟩ = false ∧ W.frozen? ⟨r1, 2, none⟩ = false :=
  cells3 ((h.block _ (Array.getElem?_eq_some_iff.1 h1).1).trans h1)
theorem keep6 {W0 : World} {r1 r2 : Nat} {v0 v1 v2 u0 u1 u2 : Value} {t t' : TypeId} (h1 : W0.heap[r1]? = some (.cells #[v0, v1, v2] t (0, 0))) (h2 : W0.heap[r2]? = some (.cells #[u0, u1, u2] t' (0, 0))) (W : World) (h : Below W0.heap.size W0 W) :
    W.cell? ⟨r1, 0, none⟩ = some v0 ∧ W.cell? ⟨r1, 1, none⟩ = some v1 ∧ W.cell? ⟨r1, 2, none⟩ = some v2 ∧ W.cell? ⟨r2, 0, none⟩ = some u0 ∧ W.cell? ⟨r2, 1, none⟩ = some u1 ∧ W.cell? ⟨r2, 2, none⟩ = some u2 := by
  obtain ⟨a, b, c, _⟩ := cells3 ((h.block _ (Array.getElem?_eq_some_iff.1 h1).1).trans h1)
  obtain ⟨d, e, f, _⟩ := cells3 ((h.block _ (Array.getElem?_eq_some_iff.1 h2).1).trans h2)
  exact ⟨a, b, c, d, e, f⟩
theorem boxes3 (w : World) (v1 v2 v3 : Array Value) (t1 t2 t3 : TypeId) : ∃ W0, W0 = ((w.alloc (.cells v1 t1)).alloc (.cells v2 t2)).alloc (.cells v3 t3) ∧ Below w.heap.size w W0 ∧
    W0.heap[w.heap.size]? = some (.cells v1 t1 (0, 0)) ∧ W0.heap[w.heap.size + 1]? = some (.cells v2 t2 (0, 0)) ∧ W0.heap[w.heap.size + 1 + 1]? = some (.cells v3 t3 (0, 0)) ∧ W0.heap.size = w.heap.size + 1 + 1 + 1 := by
  refine ⟨_, rfl, (((Below.refl _ _).alloc (Nat.le_refl _) _).alloc (by simp) _).alloc (by simp; omega) _, ?_, ?_, ?_, by simp⟩
  · rw [Below.heap_alloc _ _ _ (by simp; omega), Below.heap_alloc _ _ _ (by simp)]; exact heap_alloc_new w _
  · rw [Below.heap_alloc _ _ _ (by simp)]; simpa using heap_alloc_new (w.alloc (.cells v1 t1)) (.cells v2 t2)
  · simpa using heap_alloc_new ((w.alloc (.cells v1 t1)).alloc (.cells v2 t2)) (.cells v3 t3)
end Go.Proofs.YthnklohpmcebkaaGreatDoor

set_option linter.unusedVariables false
set_option linter.unusedSimpArgs false
namespace Go.Proofs.YthnklohpmcebkaaGreatDoor
open Go.RowKit Rep
theorem Below.drew1 {B : Nat} {w W : World} (h : Below B w W) : Below B w W.drew := ⟨h.os, h.tape, h.output, h.size, h.block⟩
theorem boxes2 (w : World) (v1 v2 : Array Value) (t1 t2 : TypeId) : ∃ W0, W0 = ((w.alloc (.cells v1 t1)).alloc (.cells v2 t2)) ∧ Below w.heap.size w W0 ∧
    W0.heap[w.heap.size]? = some (.cells v1 t1 (0, 0)) ∧ W0.heap[w.heap.size + 1]? = some (.cells v2 t2 (0, 0)) ∧ W0.heap.size = w.heap.size + 1 + 1 := by
  refine ⟨_, rfl, ((Below.refl _ _).alloc (Nat.le_refl _) _).alloc (by simp) _, ?_, ?_, by simp⟩
  · rw [Below.heap_alloc _ _ _ (by simp)]; exact heap_alloc_new w _
  · simpa using heap_alloc_new (w.alloc (.cells v1 t1)) (.cells v2 t2)
structure AddW (w : World) (x y : Rat) (A B M : Nat) (a1 : Option Addr) (c1 : Nat) (a2 : Option Addr) (c2 : Nat) (a3 : Option Addr) (c3 : Nat) (vx1 vx2 vy1 vy2 : Value) (W : World) : Prop where
  below : Below w.heap.size w W
  x : W.heap[w.heap.size]? = some (.cells #[.bool (ngQ x), vx1, vx2] 58 (0, 0))
  y : W.heap[w.heap.size + 1]? = some (.cells #[.bool (ngQ y), vy1, vy2] 58 (0, 0))
  r : W.heap[w.heap.size + 1 + 1]? = some (.cells #[.bool false, .slice none 0 0, .slice none 0 0] 58 (0, 0))
  a : DAt W a1 c1 A
  b : DAt W a2 c2 B
  m : DAt W a3 c3 M
end Go.Proofs.YthnklohpmcebkaaGreatDoor

set_option linter.unusedVariables false
set_option linter.unusedSimpArgs false
namespace Go.Proofs.YthnklohpmcebkaaGreatDoor
open Go.RowKit Rep
def StepW (t : Nat) (W0 W : World) : Prop := W0.grownBy W (some t) ∧ Bench W t 2147483647 false
theorem StepW.refl {t : Nat} {W0 : World} (h : Bench W0 t 2147483647 false) : StepW t W0 W0 := ⟨grown_refl _ _, h⟩
theorem StepW.trans {t : Nat} {W0 W1 W2 : World} (h : StepW t W0 W1) (k : StepW t W1 W2) : StepW t W0 W2 :=
  ⟨⟨k.1.os.trans h.1.os, k.1.tape.trans h.1.tape, k.1.output.trans h.1.output, Nat.le_trans h.1.size k.1.size, fun i hi hne => (k.1.block i (Nat.lt_of_lt_of_le hi h.1.size) hne).trans (h.1.block i hi hne)⟩, k.2⟩
theorem StepW.below {t : Nat} {W0 W1 W2 : World} (h : StepW t W0 W1) (k : Below W1.heap.size W1 W2) : StepW t W0 W2 := h.trans ⟨grown_of_below k _, h.2.kept k⟩
theorem StepW.drew {t : Nat} {W0 W1 : World} (h : StepW t W0 W1) : StepW t W0 W1.drew := h.below (below_drew _)
theorem StepW.num {t : Nat} {W0 W : World} {a : Option Addr} {l c n : Nat} (h : StepW t W0 W) (h0 : Bench W0 t 2147483647 false) (hn : NumE W0 a l c n) : NumE W a l c n := hn.bench h0 h.1
theorem StepW.block {t : Nat} {W0 W : World} (h : StepW t W0 W) {r : Nat} {o : Obj} (hr : W0.heap[r]? = some o) (hne : r ≠ t) : W.heap[r]? = some o := (h.1.block r (Array.getElem?_eq_some_iff.1 hr).1 (by simpa using hne)).trans hr
theorem StepW.base {t : Nat} {w W0 W : World} (h : StepW t W0 W) (hb : Below w.heap.size w W0) (ht : w.heap.size ≤ t) : Below w.heap.size w W := hb.grown h.1 hb.size (fun k hk => by cases hk; exact ht)
theorem StepW.tab {t : Nat} {W0 W : World} (h : StepW t W0 W) (h0 : Bench W0 t 2147483647 false) (hT : Tab W0) : Tab W := hT.bench h0 h.1
def PostW (t : Nat) (W0 W : World) (k n : Nat) (e : Ending) (W' : World) : Prop := ∃ a l c, e = .returned (.slice a l c) ∧ NumE W' a l c n ∧ l ≤ k ∧ StepW t W0 W' ∧ StepW t W W'
theorem GivesOut.w {t n k : Nat} {W0 W W' : World} {e : Ending} (h : GivesOut t 2147483647 false n W e W') (hs : StepW t W0 W) (hl : (L n).length ≤ k) (hk : k ≤ 1000000) : PostW t W0 W k n e W' := by
  obtain ⟨a, c, rfl, hat, hb, hgr⟩ := h
  have ho : outO 2147483647 false n = false := by simp [outO]; omega
  have hN : outN 2147483647 false n = n := by unfold outN; rw [ho]; rfl
  rw [ho] at hb
  rw [hN] at hat ⊢
  exact ⟨a, _, c, rfl, NumE.of hat (by omega), hl, hs.trans ⟨hgr, hb⟩, ⟨hgr, hb⟩⟩
section
variable {W0 : World} {t : Nat} {a b : Option Addr} {la lb ca cb n k : Nat}
theorem mulW (h0 : Bench W0 t 2147483647 false) (h1 : NumE W0 a la ca n) (h2 : NumE W0 b lb cb k) (hl : la + lb ≤ 1000000) (W : World) (h : StepW t W0 W) :
    Calls Tryz.prog 75 #[.pointer (some ⟨t, 0, none⟩), .slice a la ca, .slice b lb cb] W (PostW t W0 W (la + lb) (n * k)) := by
  have hk1 := L_mul h1.lenL h2.lenL
  obtain ⟨xs, rfl, rfl, hx⟩ := (h.num h0 h1).ex
  obtain ⟨ys, rfl, rfl, hy⟩ := (h.num h0 h2).ex
  exact (Mul_any t 2147483647 a b xs ys ca cb W false h.2 (by unfold maxLen; omega) hx hy).mono fun e w' hg => hg.w h hk1 hl
theorem addW (h0 : Bench W0 t 2147483647 false) (h1 : NumE W0 a la ca n) (h2 : NumE W0 b lb cb k) (hl : max la lb + 1 ≤ 1000000) (W : World) (h : StepW t W0 W) :
    Calls Tryz.prog 99 #[.pointer (some ⟨t, 0, none⟩), .slice a la ca, .slice b lb cb] W (PostW t W0 W (max la lb + 1) (n + k)) := by
  have hk1 := L_add h1.lenL h2.lenL
  obtain ⟨xs, rfl, rfl, hx⟩ := (h.num h0 h1).ex
  obtain ⟨ys, rfl, rfl, hy⟩ := (h.num h0 h2).ex
  exact (Add_any t 2147483647 a b xs ys ca cb W false h.2 hx hy).mono fun e w' hg => hg.w h hk1 hl
theorem subW (h0 : Bench W0 t 2147483647 false) (h1 : NumE W0 a la ca n) (h2 : NumE W0 b lb cb k) (hl : max la lb + 1 ≤ 1000000) (W : World) (h : StepW t W0 W) :
    Calls Tryz.prog 100 #[.pointer (some ⟨t, 0, none⟩), .slice a la ca, .slice b lb cb] W (PostW t W0 W (max la lb + 1) (n - k)) := by
  have hk1 : (L (n - k)).length ≤ max la lb + 1 := by have := L_le h1.lenL (Nat.sub_le n k); omega
  obtain ⟨xs, rfl, rfl, hx⟩ := (h.num h0 h1).ex
  obtain ⟨ys, rfl, rfl, hy⟩ := (h.num h0 h2).ex
  exact (Sub_any t 2147483647 a b xs ys ca cb W false h.2 hx hy).mono fun e w' hg => hg.w h hk1 hl
end
def GivesWh (k : Nat) (s : Bool) (n : Nat) (w : World) (e : Ending) (w' : World) : Prop := ∃ a l c, e = .returned (.agg #[.bool s, .slice a l c]) ∧ NumE w' a l c n ∧ l ≤ k ∧ Below w.heap.size w w'
theorem cells2 {W : World} {r : Nat} {v0 v1 : Value} {t : TypeId} (h : W.heap[r]? = some (.cells #[v0, v1] t (0, 0))) :
    W.cell? ⟨r, 0, none⟩ = some v0 ∧ W.cell? ⟨r, 1, none⟩ = some v1 ∧ W.frozen? ⟨r, 0, none⟩ = false ∧ W.frozen? ⟨r, 1, none⟩ = false := by
  refine ⟨?_, ?_, ?_, ?_⟩
  · simp [World.cell?, h]
  · simp [World.cell?, h]
  · simp [World.frozen?, h]
  · simp [World.frozen?, h]
theorem NumE.set2 {W : World} {r : Nat} {a : Option Addr} {l c n : Nat} {s0 : Bool} {v0 : Value} {t : TypeId} (h : NumE W a l c n) (hb : W.heap[r]? = some (.cells #[.bool s0, v0] t (0, 0))) (hv : ∀ d : Nat, v0 ≠ u32v d) (s : Bool) (v1 : Value) : NumE ((W.setCell ⟨r, 0, none⟩ (.bool s)).setCell ⟨r, 1, none⟩ v1) a l c n := by
  obtain ⟨xs, rfl, rfl, hx⟩ := h.ex
  refine ⟨xs, rfl, rfl, ⟨hx.lim, hx.reads.grown (row := some r) (grownBy_set (grownBy_set (grown_refl W _))) ?_, hx.le, hx.cap, hx.len⟩⟩
  rcases hx.reads with hr | ⟨g, off, rfl, hr⟩
  · exact .inl hr
  · by_cases e : xs = []
    · exact .inl (by simp [e])
    · refine .inr fun g' off' hg hbq => ?_
      simp at hg hbq
      obtain ⟨rfl, rfl⟩ := hg
      subst hbq
      have := hr 0 _ (map_getElem? (xs := xs) (f := u32v) (List.length_pos_iff.2 e))
      simp only [World.cell?, hb] at this
      rcases off with _ | _ | off
      · simp [u32v] at this
      · simp at this; exact hv _ this
      · simp at this
theorem keep4 {W0 : World} {t r1 r2 : Nat} {v0 v1 u0 u1 : Value} {ty ty' : TypeId} (h1 : W0.heap[r1]? = some (.cells #[v0, v1] ty (0, 0))) (h2 : W0.heap[r2]? = some (.cells #[u0, u1] ty' (0, 0))) (n1 : r1 ≠ t) (n2 : r2 ≠ t) (W : World) (h : StepW t W0 W) :
    W.cell? ⟨r1, 0, none⟩ = some v0 ∧ W.cell? ⟨r1, 1, none⟩ = some v1 ∧ W.cell? ⟨r2, 0, none⟩ = some u0 ∧ W.cell? ⟨r2, 1, none⟩ = some u1 := by
  obtain ⟨a, b, _⟩ := cells2 (h.block h1 n1)
  obtain ⟨d, e, _⟩ := cells2 (h.block h2 n2)
  exact ⟨a, b, d, e⟩
theorem keep2 {W0 : World} {t r1 : Nat} {v0 v1 : Value} {ty : TypeId} (h1 : W0.heap[r1]? = some (.cells #[v0, v1] ty (0, 0))) (n1 : r1 ≠ t) (W : World) (h : StepW t W0 W) :
    W.cell? ⟨r1, 0, none⟩ = some v0 ∧ W.cell? ⟨r1, 1, none⟩ = some v1 ∧ W.frozen? ⟨r1, 0, none⟩ = false ∧ W.frozen? ⟨r1, 1, none⟩ = false := cells2 (h.block h1 n1)
theorem fin_Wh {w W0 : World} {t r k n : Nat} {s : Bool} {ty : TypeId} (hB0 : Below w.heap.size w W0) (hr : w.heap.size ≤ r) (ht : w.heap.size ≤ t) (hrt : r ≠ t) (b3 : W0.heap[r]? = some (.cells #[.bool false, .slice none 0 0] ty (0, 0))) (W : World) (a : Option Addr) (l c : Nat) (hn : NumE W a l c n) (hl : l ≤ k) (hs : StepW t W0 W) :
    GivesWh k s n w (.returned (.agg #[.bool s, .slice a l c])) ((W.setCell ⟨r, 0, none⟩ (.bool s)).setCell ⟨r, 1, none⟩ (.slice a l c)) :=
  ⟨a, l, c, rfl, hn.set2 (hs.block b3 hrt) (fun d h => by simp [u32v] at h) _ _, hl, ((hs.base hB0 ht).setCell (p := ⟨r, 0, none⟩) hr _).setCell (p := ⟨r, 1, none⟩) hr _⟩
theorem set4 {w W : World} {tt r1 r2 r3 : Nat} {s t s' t' : Bool} {v1 v2 v1' v2' : Value} {ty : TypeId} {o : Obj} (hB : Below w.heap.size w W) (hbe : Bench W tt 2147483647 false) (c1 : W.heap[r1]? = some (.cells #[.bool s, v1] ty (0, 0))) (c2 : W.heap[r2]? = some (.cells #[.bool t, v2] ty (0, 0))) (c3 : W.heap[r3]? = some o)
    (h12 : r1 ≠ r2) (h13 : r1 ≠ r3) (h23 : r2 ≠ r3) (h1t : r1 ≠ tt) (h2t : r2 ≠ tt) (g1 : w.heap.size ≤ r1) (g2 : w.heap.size ≤ r2) (e1 : ∀ d : Nat, v1 ≠ u32v d) (e2 : ∀ d : Nat, v2 ≠ u32v d) :
    ∃ W2, W2 = ((((W.setCell ⟨r1, 0, none⟩ (.bool s')).setCell ⟨r1, 1, none⟩ v1').setCell ⟨r2, 0, none⟩ (.bool t')).setCell ⟨r2, 1, none⟩ v2') ∧ Below w.heap.size w W2 ∧ Bench W2 tt 2147483647 false ∧
      W2.heap[r1]? = some (.cells #[.bool s', v1'] ty (0, 0)) ∧ W2.heap[r2]? = some (.cells #[.bool t', v2'] ty (0, 0)) ∧ W2.heap[r3]? = some o ∧ ∀ {a l c n}, NumE W a l c n → NumE W2 a l c n := by
  have s2 : ∀ (X : World) (r q : Nat) (u v : Value), q ≠ r → ((X.setCell ⟨r, 0, none⟩ u).setCell ⟨r, 1, none⟩ v).heap[q]? = X.heap[q]? := fun X r q u v h => by
    rw [Below.heap_setCell _ _ _ _ (by simpa using h), Below.heap_setCell _ _ _ _ (by simpa using h)]
  have s3 : ∀ (X : World) (r : Nat) (u v u0 v0 : Value), X.heap[r]? = some (.cells #[u0, v0] ty (0, 0)) → ((X.setCell ⟨r, 0, none⟩ u).setCell ⟨r, 1, none⟩ v).heap[r]? = some (.cells #[u, v] ty (0, 0)) := fun X r u v u0 v0 h => by
    simp [World.setCell, Array.getElem?_modify, h]
  refine ⟨_, rfl, ?_, ?_, ?_, ?_, ?_, ?_⟩
  · exact (((hB.setCell (p := ⟨r1, 0, none⟩) g1 _).setCell (p := ⟨r1, 1, none⟩) g1 _).setCell (p := ⟨r2, 0, none⟩) g2 _).setCell (p := ⟨r2, 1, none⟩) g2 _
  · unfold Bench; rw [s2 _ _ _ _ _ (Ne.symm h2t), s2 _ _ _ _ _ (Ne.symm h1t)]; exact hbe
  · rw [s2 _ _ _ _ _ h12]; exact s3 _ _ _ _ _ _ c1
  · exact s3 _ _ _ _ _ _ ((s2 _ _ _ _ _ (Ne.symm h12)).trans c2)
  · rw [s2 _ _ _ _ _ (Ne.symm h23), s2 _ _ _ _ _ (Ne.symm h13)]; exact c3
  · intro a l c n hn
    exact (hn.set2 c1 e1 _ _).set2 ((s2 _ _ _ _ _ (Ne.symm h12)).trans c2) e2 _ _
set_option maxRecDepth 100000 in
set_option maxHeartbeats 8000000 in
theorem addWholes_any {w : World} {s t : Bool} {a b : Option Addr} {la lb ca cb n k : Nat} (h1 : NumE w a la ca n) (h2 : NumE w b lb cb k) (hl : max la lb + 1 ≤ 1000000) :
    Calls Tryz.prog 76 #[.agg #[.bool s, .slice a la ca], .agg #[.bool t, .slice b lb cb]] w (GivesWh (max la lb + 1) (sumS s n t k) (sumN s n t k) w) := by
  obtain ⟨W0, hW0, hB0, b1, b2, b3, hs⟩ := boxes3 w #[.bool s, .slice a la ca] #[.bool t, .slice b lb cb] #[.bool false, .slice none 0 0] 25 25 25
  have hbW := wayW_below W0
  have hB1 : Below w.heap.size w (wayW W0) := hB0.trans (hbW.mono hB0.size)
  have hbe := wayW_bench W0
  have c1 : (wayW W0).heap[w.heap.size]? = some (.cells #[.bool s, .slice a la ca] 25 (0, 0)) := (hbW.block _ (by omega)).trans b1
  have c2 : (wayW W0).heap[w.heap.size + 1]? = some (.cells #[.bool t, .slice b lb cb] 25 (0, 0)) := (hbW.block _ (by omega)).trans b2
  have c3 : (wayW W0).heap[w.heap.size + 1 + 1]? = some (.cells #[.bool false, .slice none 0 0] 25 (0, 0)) := (hbW.block _ (by omega)).trans b3
  have hU := Lib.hid (unbounded_any W0)
  have n1 := h1.kept hB1
  have n2 := h2.kept hB1
  have htt : W0.heap.size = w.heap.size + 1 + 1 + 1 := hs
  generalize wayW W0 = W1 at *
  have HA := Lib.hid (addW hbe n1 n2 hl)
  have HS1 := Lib.hid (subW hbe n1 n2 hl)
  have HS2 := Lib.hid (subW hbe n2 n1 (by omega))
  have HC := Lib.hid (cmpE n1 n2)
  have HK := Lib.hid (keep4 c1 c2 (by omega : w.heap.size ≠ W0.heap.size) (by omega : w.heap.size + 1 ≠ W0.heap.size))
  have HR := Lib.hid (keep2 c3 (by omega : w.heap.size + 1 + 1 ≠ W0.heap.size))
  have HFIN : Hid (∀ (s : Bool) (n : Nat) (W : World) (a' : Option Addr) (l c : Nat), NumE W a' l c n → l ≤ max la lb + 1 → StepW W0.heap.size W1 W → GivesWh (max la lb + 1) s n w (.returned (.agg #[.bool s, .slice a' l c])) ((W.setCell ⟨w.heap.size + 1 + 1, 0, none⟩ (.bool s)).setCell ⟨w.heap.size + 1 + 1, 1, none⟩ (.slice a' l c))) :=
    Lib.hid fun s n => fin_Wh (k := max la lb + 1) (n := n) (s := s) hB1 (by omega) (by omega) (by omega) c3
  have HRF := Lib.hid (StepW.refl hbe)
  have HW0 := Lib.hid hW0
  have HSW : Hid (∀ W, StepW W0.heap.size W1 W → ∃ W2, W2 = ((((W.setCell ⟨w.heap.size, 0, none⟩ (.bool t)).setCell ⟨w.heap.size, 1, none⟩ (.slice b lb cb)).setCell ⟨w.heap.size + 1, 0, none⟩ (.bool s)).setCell ⟨w.heap.size + 1, 1, none⟩ (.slice a la ca)) ∧
      Hid (∀ W', StepW W0.heap.size W2 W' → W'.cell? ⟨w.heap.size, 0, none⟩ = some (.bool t) ∧ W'.cell? ⟨w.heap.size, 1, none⟩ = some (.slice b lb cb) ∧ W'.cell? ⟨w.heap.size + 1, 0, none⟩ = some (.bool s) ∧ W'.cell? ⟨w.heap.size + 1, 1, none⟩ = some (.slice a la ca)) ∧
      Hid (∀ W', StepW W0.heap.size W2 W' → W'.cell? ⟨w.heap.size + 1 + 1, 0, none⟩ = some (.bool false) ∧ W'.cell? ⟨w.heap.size + 1 + 1, 1, none⟩ = some (.slice none 0 0) ∧ W'.frozen? ⟨w.heap.size + 1 + 1, 0, none⟩ = false ∧ W'.frozen? ⟨w.heap.size + 1 + 1, 1, none⟩ = false) ∧
      StepW W0.heap.size W2 W2 ∧
      Hid (∀ W', StepW W0.heap.size W2 W' → Calls Tryz.prog 100 #[.pointer (some ⟨W0.heap.size, 0, none⟩), .slice b lb cb, .slice a la ca] W' (PostW W0.heap.size W2 W' (max la lb + 1) (k - n))) ∧
      Hid (∀ (W : World) (a' : Option Addr) (l c : Nat), NumE W a' l c (k - n) → l ≤ max la lb + 1 → StepW W0.heap.size W2 W → GivesWh (max la lb + 1) t (k - n) w (.returned (.agg #[.bool t, .slice a' l c])) ((W.setCell ⟨w.heap.size + 1 + 1, 0, none⟩ (.bool t)).setCell ⟨w.heap.size + 1 + 1, 1, none⟩ (.slice a' l c)))) := Lib.hid fun W hS => by
    have hB2 := hS.base hB1 (by omega : w.heap.size ≤ W0.heap.size)
    obtain ⟨W2, hW2, f1, f2, f3, f4, f5, f6⟩ := set4 (s' := t) (t' := s) (v1' := .slice b lb cb) (v2' := .slice a la ca) hB2 hS.2 (hS.block c1 (by omega)) (hS.block c2 (by omega)) (hS.block c3 (by omega)) (by omega) (by omega) (by omega) (by omega) (by omega) (Nat.le_refl _) (by omega) (fun d h => by simp [u32v] at h) (fun d h => by simp [u32v] at h)
    refine ⟨W2, hW2, Lib.hid (keep4 f3 f4 (by omega) (by omega)), Lib.hid (keep2 f5 (by omega)), StepW.refl f2, Lib.hid ?_, Lib.hid ?_⟩
    · have := subW f2 (f6 (hS.num hbe n2)) (f6 (hS.num hbe n1)) (by omega : max lb la + 1 ≤ 1000000)
      rwa [Nat.max_comm lb la] at this
    · exact fin_Wh (k := max la lb + 1) (n := k - n) (s := t) f1 (by omega) (by omega) (by omega) f5
  obtain ⟨k0, k1, k2, k3⟩ := HK.out _ HRF.out
  obtain ⟨_, _, j0, j1⟩ := cells2 c1
  obtain ⟨_, _, j2, j3⟩ := cells2 c2
  have hn1 : w.heap.size ≠ w.heap.size + 1 + 1 := by omega
  have hn2 : w.heap.size + 1 + 1 ≠ w.heap.size := by omega
  generalize W0.heap.size = tt at *
  clear hW0 hB0 b1 b2 b3 hs h1 h2 hbW hB1 hbe c1 c2 c3 n1 n2 htt hl
  by_cases hst : s = t
  · subst hst
    have e1 : sumS s n s k = s := by unfold sumS; rw [if_pos rfl]
    have e2 : sumN s n s k = n + k := by unfold sumN; rw [if_pos rfl]
    rw [e1, e2]
    clear e1 e2 HS1 HS2 HC
    generalize n + k = N at *
    go_enter Tryz.func76, Tryz.ntmps76
    go_wp2_with fail
    rw [← HW0.out]
    refine hU.out.mono ?_
    rintro e w1 ⟨rfl, rfl⟩
    go_wp2_with fail
    go_region_held3 (fun w' => w'.cell? ⟨w.heap.size, 0, none⟩ = some (.bool s) ∧ w'.cell? ⟨w.heap.size, 1, none⟩ = some (.slice a la ca) ∧ w'.cell? ⟨w.heap.size + 1, 0, none⟩ = some (.bool s) ∧ w'.cell? ⟨w.heap.size + 1, 1, none⟩ = some (.slice b lb cb)) (first | exact HK.out _ hp5 | go_keep)
        (first
          | (go_at_call 99; (with_reducible refine (HA.out _ HRF.out.drew).mono ?_); rintro e w5 ⟨a5, l5, c5, rfl, d5, hl5, hp5, _⟩; have HE := Lib.hid (HFIN.out s N _ _ _ _ d5 hl5 hp5); obtain ⟨m0, m1, o0, o1⟩ := HR.out _ hp5))
    clear HFIN HA HK HR HRF HW0 hU
    go_wp2_with fail
    exact bodyPost_ret (v := .agg #[.bool s, .slice a5 l5 c5]) (by simp [results, Tryz.results76, go_sem, m0, m1]) rfl HE.out
  · have hb : (s == t) = false := by simpa using hst
    have hne := Lib.hid hst
    by_cases hlt : n < k
    · have e1 : sumS s n t k = t := by unfold sumS; rw [if_neg hst, if_pos hlt]
      have e2 : sumN s n t k = k - n := by unfold sumN; rw [if_neg hst, if_pos hlt]
      have hcm : cmpI (n : Int) (k : Int) = -1 := by unfold cmpI; rw [if_pos (by omega)]
      rw [e1, e2]
      rw [hcm] at HC
      clear e1 e2 HS1 HS2 HA hcm hlt hst HFIN HR
      generalize k - n = N at *
      go_enter Tryz.func76, Tryz.ntmps76
      go_wp2_with fail
      rw [← HW0.out]
      refine hU.out.mono ?_
      rintro e w1 ⟨rfl, rfl⟩
      go_wp2_with fail
      refine HC.out.mono ?_
      rintro e w2 ⟨rfl, hb2⟩
      have hst2 := HRF.out.below hb2
      obtain ⟨W2, hW2, HK2, HR2, hrf2, HS2, HFIN⟩ := HSW.out _ hst2
      have HW2 := Lib.hid hW2
      have HRF2 := Lib.hid hrf2
      obtain ⟨k0, k1, k2, k3⟩ := HK.out _ hst2
      obtain ⟨j0, j1⟩ : w2.frozen? ⟨w.heap.size, 0, none⟩ = false ∧ w2.frozen? ⟨w.heap.size, 1, none⟩ = false := ⟨by rw [hb2.frozen (p := ⟨w.heap.size, 0, none⟩) (World.block_lt_of_cell? _ _ ‹w1.cell? ⟨w.heap.size, 0, none⟩ = _›)]; assumption, by rw [hb2.frozen (p := ⟨w.heap.size, 1, none⟩) (World.block_lt_of_cell? _ _ ‹w1.cell? ⟨w.heap.size, 1, none⟩ = _›)]; assumption⟩
      obtain ⟨j2, j3⟩ : w2.frozen? ⟨w.heap.size + 1, 0, none⟩ = false ∧ w2.frozen? ⟨w.heap.size + 1, 1, none⟩ = false := ⟨by rw [hb2.frozen (p := ⟨w.heap.size + 1, 0, none⟩) (World.block_lt_of_cell? _ _ ‹w1.cell? ⟨w.heap.size + 1, 0, none⟩ = _›)]; assumption, by rw [hb2.frozen (p := ⟨w.heap.size + 1, 1, none⟩) (World.block_lt_of_cell? _ _ ‹w1.cell? ⟨w.heap.size + 1, 1, none⟩ = _›)]; assumption⟩
      clear hst2 hb2 HSW HC hW2 hrf2
      go_wp2_with fail
      rw [← HW2.out]
      obtain ⟨k0, k1, k2, k3⟩ := HK2.out _ HRF2.out
      go_region_held3 (fun w' => w'.cell? ⟨w.heap.size, 0, none⟩ = some (.bool t) ∧ w'.cell? ⟨w.heap.size, 1, none⟩ = some (.slice b lb cb) ∧ w'.cell? ⟨w.heap.size + 1, 0, none⟩ = some (.bool s) ∧ w'.cell? ⟨w.heap.size + 1, 1, none⟩ = some (.slice a la ca)) (first | exact HK2.out _ hp5 | go_keep)
          (first
            | (go_at_call 100; (with_reducible refine (HS2.out _ HRF2.out.drew).mono ?_); rintro e w5 ⟨a5, l5, c5, rfl, d5, hl5, hp5, _⟩; have HE := Lib.hid (HFIN.out _ _ _ _ d5 hl5 hp5); obtain ⟨m0, m1, o0, o1⟩ := HR2.out _ hp5))
      clear HFIN HS2 HK HK2 HR2 HRF HRF2 HW0 hU HW2
      go_wp2_with fail
      exact bodyPost_ret (v := .agg #[.bool t, .slice a5 l5 c5]) (by simp [results, Tryz.results76, go_sem, m0, m1]) rfl HE.out
    · have e1 : sumS s n t k = s := by unfold sumS; rw [if_neg hst, if_neg hlt]
      have e2 : sumN s n t k = n - k := by unfold sumN; rw [if_neg hst, if_neg hlt]
      have hcm : cmpI (n : Int) (k : Int) = 0 ∨ cmpI (n : Int) (k : Int) = 1 := by
        unfold cmpI; rw [if_neg (by omega)]; by_cases h : (n : Int) = (k : Int)
        · rw [if_pos h]; exact .inl rfl
        · rw [if_neg h]; exact .inr rfl
      rw [e1, e2]
      clear e1 e2 HS2 HA hlt hst HSW
      generalize n - k = N at *
      rcases hcm with hcm | hcm
      all_goals
        rw [hcm] at HC
        clear hcm
        go_enter Tryz.func76, Tryz.ntmps76
        go_wp2_with fail
        rw [← HW0.out]
        refine hU.out.mono ?_
        rintro e w1 ⟨rfl, rfl⟩
        go_wp2_with fail
        refine HC.out.mono ?_
        rintro e w2 ⟨rfl, hb2⟩
        have hst2 := HRF.out.below hb2
        obtain ⟨k0, k1, k2, k3⟩ := HK.out _ hst2
        have HST := Lib.hid hst2
        clear hst2 hb2 HC
        go_wp2_with fail
        go_region_held3 (fun w' => w'.cell? ⟨w.heap.size, 0, none⟩ = some (.bool s) ∧ w'.cell? ⟨w.heap.size, 1, none⟩ = some (.slice a la ca) ∧ w'.cell? ⟨w.heap.size + 1, 0, none⟩ = some (.bool t) ∧ w'.cell? ⟨w.heap.size + 1, 1, none⟩ = some (.slice b lb cb)) (first | exact HK.out _ hp5 | go_keep)
            (first
              | (go_at_call 100; (with_reducible refine (HS1.out _ HST.out.drew).mono ?_); rintro e w5 ⟨a5, l5, c5, rfl, d5, hl5, hp5, _⟩; have HE := Lib.hid (HFIN.out s N _ _ _ _ d5 hl5 hp5); obtain ⟨m0, m1, o0, o1⟩ := HR.out _ hp5))
        clear HFIN HS1 HK HR HRF HW0 hU HST
        go_wp2_with fail
        exact bodyPost_ret (v := .agg #[.bool s, .slice a5 l5 c5]) (by simp [results, Tryz.results76, go_sem, m0, m1]) rfl HE.out
end Go.Proofs.YthnklohpmcebkaaGreatDoor
