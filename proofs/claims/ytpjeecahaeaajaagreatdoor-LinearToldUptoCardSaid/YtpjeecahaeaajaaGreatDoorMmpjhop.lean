/- By program out of: RefR, RefForm, RefOf, RatQ, RatThr, RefOps. -/
import Derived.Test.YtpjeecahaeaajaaGreatDoorMnnddph
import Derived.Deep.RegionHeld3
import Derived.Test.YtpjeecahaeaajaaGreatDoorMhcomgm
import Derived.Test.YtpjeecahaeaajaaGreatDoorMgpjold
set_option linter.unusedVariables false
set_option linter.unusedSimpArgs false
namespace Go.Proofs.YtpjeecahaeaajaaGreatDoor
open Go.RowKit Rep
def GivesDR (s : Bool) (n d : Nat) (w : World) (e : Ending) (w' : World) : Prop :=
  ∃ a1 c1 a2 c2, e = .returned (ratV s (.slice a1 (D n).length c1) (.slice a2 (D d).length c2)) ∧ DAt w' a1 c1 n ∧ DAt w' a2 c2 d ∧ Below w.heap.size w w'
theorem Below.drewN' {B : Nat} {w W : World} (h : Below B w W) (n : Nat) : Below B w (W.drewN n) := ⟨h.os, h.tape, h.output, h.size, h.block⟩
theorem D_one : D 1 = [1] := (eq_rep (b := 10) (by omega) (by simp [Dig]) (by simp [Top]) (by simp [val])).symm
theorem cells3 {W : World} {r : Nat} {v0 v1 v2 : Value} {t : TypeId} (h : W.heap[r]? = some (.cells #[v0, v1, v2] t (0, 0))) :
    W.cell? ⟨r, 0, none⟩ = some v0 ∧ W.cell? ⟨r, 1, none⟩ = some v1 ∧ W.cell? ⟨r, 2, none⟩ = some v2 ∧ W.frozen? ⟨r, 0, none⟩ = false ∧ W.frozen? ⟨r, 1, none⟩ = false ∧ W.frozen? ⟨r, 2, none⟩ = false := by
  refine ⟨?_, ?_, ?_, ?_, ?_, ?_⟩
  · simp [World.cell?, h]
  · simp [World.cell?, h]
  · simp [World.cell?, h]
  · simp [World.frozen?, h]
  · simp [World.frozen?, h]
  · simp [World.frozen?, h]
set_option maxRecDepth 100000 in
set_option maxHeartbeats 1000000 in
theorem SameR_any (s1 s2 : Bool) (a1 b1 a2 b2 : Option Addr) (c1 e1 c2 e2 : Nat) (xs1 ds1 xs2 ds2 : List Nat) (w : World) (h1 : Reads w a1 (xs1.map u32v)) (k1 : Reads w b1 (ds1.map u32v)) (h2 : Reads w a2 (xs2.map u32v)) (k2 : Reads w b2 (ds2.map u32v)) (l1 : xs1.length ≤ 30000000) (m1 : ds1.length ≤ 30000000) :
    Calls Tryz.prog 23 #[ratV s1 (.slice a1 xs1.length c1) (.slice b1 ds1.length e1), ratV s2 (.slice a2 xs2.length c2) (.slice b2 ds2.length e2)] w (GivesB (decide (s1 = s2 ∧ xs1 = xs2 ∧ ds1 = ds2)) w) := by
  have HS : Hid (∀ W, Below w.heap.size w W → Calls Tryz.prog 47 #[.slice a1 xs1.length c1, .slice a2 xs2.length c2] W (Draws (.bool (decide (xs1 = xs2))) W)) := Lib.hid fun W h => Same_any a1 a2 c1 c2 xs1 xs2 W (h1.kept h) (h2.kept h) (by omega)
  have HT : Hid (∀ W, Below w.heap.size w W → Calls Tryz.prog 47 #[.slice b1 ds1.length e1, .slice b2 ds2.length e2] W (Draws (.bool (decide (ds1 = ds2))) W)) := Lib.hid fun W h => Same_any b1 b2 e1 e2 ds1 ds2 W (k1.kept h) (k2.kept h) (by omega)
  clear h1 k1 h2 k2
  unfold ratV
  by_cases hs : s1 = s2
  · have hb : (s1 == s2) = true := by rw [hs]; simp
    have HB : Hid (∀ nd nd', Below w.heap.size w ((((w.alloc (.cells #[.bool s1, .slice a1 xs1.length c1, .slice b1 ds1.length e1] 27)).alloc (.cells #[.bool s2, .slice a2 xs2.length c2, .slice b2 ds2.length e2] 27)).drewN nd).drewN nd')) := Lib.hid fun nd nd' => Below.drewN' (Below.drewN' (((Below.refl w.heap.size w).alloc (Nat.le_refl _) _).alloc (by simp) _) nd) nd'
    have hs2 := Lib.hid hs
    clear hs
    by_cases hx : xs1 = xs2
    · rw [decide_eq_true hx] at HS
      have HV : Hid (decide (s1 = s2 ∧ xs1 = xs2 ∧ ds1 = ds2) = decide (ds1 = ds2)) := Lib.hid (by simp [hs2.out, hx])
      rw [HV.out]
      have HL := Lib.hid hx
      clear hx
      generalize decide (ds1 = ds2) = v at *
      go_enter Tryz.func23, Tryz.ntmps23
      go_wp2_with fail
      refine (HS.out _ (HB.out 0 0)).mono ?_
      rintro e w2 ⟨rfl, nd, rfl⟩
      go_wp2_with fail
      refine (HT.out _ (HB.out nd 0)).mono ?_
      rintro e w3 ⟨rfl, nd', rfl⟩
      have HBB := Lib.hid (HB.out nd nd')
      rw [drewN_add] at HBB
      clear HB
      go_wp2_with fail
      go_ret
      exact ⟨rfl, HBB.out⟩
    · rw [decide_eq_false hx] at HS
      have HV : Hid (decide (s1 = s2 ∧ xs1 = xs2 ∧ ds1 = ds2) = false) := Lib.hid (by simp [hx])
      rw [HV.out]
      clear hx HT HV
      go_enter Tryz.func23, Tryz.ntmps23
      go_wp2_with fail
      refine (HS.out _ (HB.out 0 0)).mono ?_
      rintro e w2 ⟨rfl, nd, rfl⟩
      have HBB := Lib.hid (HB.out nd 0)
      clear HB
      go_wp2_with fail
      go_ret
      exact ⟨rfl, HBB.out⟩
  · have hb : (s1 == s2) = false := by simpa using hs
    have HV : Hid (decide (s1 = s2 ∧ xs1 = xs2 ∧ ds1 = ds2) = false) := Lib.hid (by simp [hs])
    rw [HV.out]
    clear hs HS HT HV
    go_enter Tryz.func23, Tryz.ntmps23
    go_wp2_with fail
    go_ret
    exact ⟨rfl, ((Below.refl w.heap.size w).alloc (Nat.le_refl _) _).alloc (by simp) _⟩
theorem int0_world (w : World) (o1 o4 : Obj) : DAt ((((w.alloc o1).alloc (.cells #[] 3)).alloc (.cells #[.int .i64 1] 3)).alloc o4) (some ⟨w.heap.size + 1 + 1, 0, none⟩) 1 1 ∧
    Below w.heap.size w ((((w.alloc o1).alloc (.cells #[] 3)).alloc (.cells #[.int .i64 1] 3)).alloc o4) := by
  refine ⟨⟨?_, ?_, by simp [maxLen]⟩, ((((Below.refl w.heap.size w).alloc (Nat.le_refl _) _).alloc (by simp) _).alloc (by simp; omega) _).alloc (by simp; omega) _⟩
  · rw [D_one]
    have h := (Row.new (E := 3) ((w.alloc o1).alloc (.cells #[] 3)) #[.int .i64 1]).alloc o4
    simpa [i64v] using h.reads0
  · rw [D_one]; simp
set_option maxRecDepth 100000 in
set_option maxHeartbeats 1000000 in
theorem Int0_any (w : World) : Calls Tryz.prog 69 #[.int .i64 0] w (GivesDR false 0 1 w) := by
  go_enter Tryz.func69, Tryz.ntmps69
  go_wp2_with fail
  go_loop [0] (fun v => v = .int .i64 0) (fun _ => 0)
  case atStart => rfl
  case round =>
    subst hrel
    go_wp2_with fail
    refine bodyPost_ret (v := ratV false (.slice (some ⟨w.heap.size + 1, 0, none⟩) 0 0) (.slice (some ⟨w.heap.size + 1 + 1, 0, none⟩) 1 1)) (by simp [results, Tryz.results69, go_sem, ratV]) rfl ?_
    obtain ⟨h1, h2⟩ := int0_world w (.cells #[.bool false, .slice (some ⟨w.heap.size + 1, 0, none⟩) 0 0, .slice (some ⟨w.heap.size + 1 + 1, 0, none⟩) 1 1] 42) (.cells #[.bool false, .slice (some ⟨w.heap.size + 1, 0, none⟩) 0 0, .slice (some ⟨w.heap.size + 1 + 1, 0, none⟩) 1 1] 42)
    exact ⟨_, 0, _, 1, by rw [D_one]; rfl, DAt.zero _ _ _ (by simp [maxLen]), h1, h2⟩
theorem set3_below {B : Nat} {w W : World} {r : Nat} {s : Bool} {v1 v2 : Value} (h : Below B w W) (hr : B ≤ r) : Below B w (set3 W r s v1 v2) := ((h.setCell (p := ⟨r, 0, none⟩) hr _).setCell (p := ⟨r, 1, none⟩) hr _).setCell (p := ⟨r, 2, none⟩) hr _
theorem DAt.set3 {W : World} {r : Nat} {a : Option Addr} {c n : Nat} {t : TypeId} {s0 : Bool} {x1 y1 : Option Addr} {x2 x3 y2 y3 : Nat} (h : DAt W a c n) (hb : W.heap[r]? = some (.cells #[.bool s0, .slice x1 x2 x3, .slice y1 y2 y3] t (0, 0))) (s : Bool) (v1 v2 : Value) : DAt (Go.Proofs.YtpjeecahaeaajaaGreatDoor.set3 W r s v1 v2) a c n := by
  refine ⟨h.1.grown (set3_grown W r s v1 v2) ?_, h.2⟩
  rcases h.1 with hr | ⟨g, off, rfl, hr⟩
  · exact .inl hr
  · by_cases e : D n = []
    · exact .inl (by simp [e])
    · refine .inr fun g' off' hg hbq => ?_
      simp at hg hbq
      obtain ⟨rfl, rfl⟩ := hg
      subst hbq
      have := hr 0 _ (map_getElem? (xs := D n) (f := i64v) (List.length_pos_iff.2 e))
      simp only [World.cell?, hb] at this
      rcases off with _ | _ | _ | off <;> simp [i64v] at this
set_option maxRecDepth 100000 in
set_option maxHeartbeats 2000000 in
theorem Low_any (s : Bool) (a1 a2 : Option Addr) (c1 c2 n d : Nat) (w : World) (h1 : DAt w a1 c1 n) (h2 : DAt w a2 c2 d) (hd : 0 < d) (l1 : (D n).length ≤ 30000000) (l2 : (D d).length ≤ 30000000) :
    Calls Tryz.prog 48 #[ratV s (.slice a1 (D n).length c1) (.slice a2 (D d).length c2)] w (GivesDR (if n = 0 then false else s) (n / Nat.gcd n d) (d / Nat.gcd n d) w) := by
  obtain ⟨W0, hW0⟩ : ∃ W0, W0 = (w.alloc (.cells #[.bool s, .slice a1 (D n).length c1, .slice a2 (D d).length c2] 42)).alloc (.cells #[.bool false, .slice none 0 0, .slice none 0 0] 42) := ⟨_, rfl⟩
  have hB0 : Below w.heap.size w W0 := by rw [hW0]; exact ((Below.refl _ _).alloc (Nat.le_refl _) _).alloc (by simp) _
  have hx0 : W0.heap[w.heap.size]? = some (.cells #[.bool s, .slice a1 (D n).length c1, .slice a2 (D d).length c2] 42 (0, 0)) := by rw [hW0, Below.heap_alloc _ _ _ (by simp)]; exact heap_alloc_new w _
  have hr0 : W0.heap[w.heap.size + 1]? = some (.cells #[.bool false, .slice none 0 0, .slice none 0 0] 42 (0, 0)) := by
    rw [hW0]; simpa using heap_alloc_new (w.alloc (.cells #[.bool s, .slice a1 (D n).length c1, .slice a2 (D d).length c2] 42)) (.cells #[.bool false, .slice none 0 0, .slice none 0 0] 42)
  have hs0 : w.heap.size + 1 < W0.heap.size := by rw [hW0]; simp
  have H0 := Lib.hid (And.intro hB0 (And.intro hs0 (And.intro (h1.kept hB0) (h2.kept hB0))))
  have HX := Lib.hid (And.intro hx0 hr0)
  have HW0 := Lib.hid hW0
  have HF : Hid (∀ W, Below W0.heap.size W0 W → W.heap[w.heap.size]? = some (.cells #[.bool s, .slice a1 (D n).length c1, .slice a2 (D d).length c2] 42 (0, 0)) ∧ W.heap[w.heap.size + 1]? = some (.cells #[.bool false, .slice none 0 0, .slice none 0 0] 42 (0, 0)) ∧ Below w.heap.size w W) := Lib.hid fun W h =>
    ⟨(h.block _ (by have := H0.out.2.1; omega)).trans HX.out.1, (h.block _ H0.out.2.1).trans HX.out.2, H0.out.1.trans (h.mono H0.out.1.size)⟩
  clear h1 h2 hB0 hx0 hr0 hs0 hW0
  rcases Nat.eq_zero_or_pos n with h0 | h0
  · subst h0
    have e1 : 0 / Nat.gcd 0 d = 0 := Nat.zero_div _
    have e2 : d / Nat.gcd 0 d = 1 := by rw [Nat.gcd_zero_left]; exact Nat.div_self hd
    rw [if_pos rfl, e1, e2]
    clear e1 e2 hd
    have hz : (((D 0).length : Int) == 0) = true := rfl
    have HI := Lib.hid (Int0_any W0)
    unfold ratV
    go_enter Tryz.func48, Tryz.ntmps48
    go_wp2_with fail
    rw [← HW0.out]
    refine HI.out.mono ?_
    rintro e w2 ⟨a3, c3, a4, c4, rfl, d3, d4, hb⟩
    obtain ⟨f1, f2, f3⟩ := HF.out w2 hb
    obtain ⟨k0, k1, k2, j0, j1, j2⟩ := cells3 f2
    have HE : Hid (GivesDR false 0 1 w (.returned (ratV false (.slice a3 (D 0).length c3) (.slice a4 (D 1).length c4))) (set3 w2 (w.heap.size + 1) false (.slice a3 (D 0).length c3) (.slice a4 (D 1).length c4))) :=
      Lib.hid ⟨a3, c3, a4, c4, rfl, d3.set3 f2 _ _ _, d4.set3 f2 _ _ _, set3_below f3 (by omega)⟩
    clear d3 d4 hb f1 f2 f3 HF HI H0 HX
    unfold ratV
    go_wp2_with fail
    exact bodyPost_ret (v := ratV false (.slice a3 (D 0).length c3) (.slice a4 (D 1).length c4)) (by simp [results, Tryz.results48, go_sem, ratV, k0, k1, k2]) rfl HE.out
  · have hz : (((D n).length : Int) == 0) = false := cast_beq_no (by rw [Ne, D_len_zero]; omega)
    rw [if_neg (by omega)]
    have hgl : (D (Nat.gcd n d)).length ≤ 30000000 := Nat.le_trans (D_mono (Nat.le_of_dvd h0 (Nat.gcd_dvd_left n d))) l1
    have HG := Lib.hid (GcdD_any a1 a2 c1 c2 n d W0 H0.out.2.2.1 H0.out.2.2.2 (by omega) (by omega))
    generalize Nat.gcd n d = G at *
    obtain ⟨q1, hq1⟩ : ∃ q, n / G = q := ⟨_, rfl⟩
    obtain ⟨q2, hq2⟩ : ∃ q, d / G = q := ⟨_, rfl⟩
    rw [hq1, hq2]
    have HQ := Lib.hid (And.intro hq1 hq2)
    clear h0 hd hq1 hq2
    obtain ⟨k0, k1, k2, j0, j1, j2⟩ := cells3 HX.out.1
    unfold ratV
    go_enter Tryz.func48, Tryz.ntmps48
    go_wp2_with fail
    rw [← HW0.out]
    refine HG.out.mono ?_
    rintro e w2 ⟨ag, cg, rfl, dg, hb⟩
    have HB2 := Lib.hid hb
    have HDG := Lib.hid dg
    obtain ⟨f1, f2, f3⟩ := HF.out w2 hb
    have HD1 := Lib.hid (DivD_any a1 ag c1 cg n G w2 (H0.out.2.2.1.kept hb) dg (by omega) (by omega))
    rw [HQ.out.1] at HD1
    obtain ⟨m0, m1, m2, _, _, _⟩ := cells3 f1
    clear k0 k1 k2 j0 j1 j2 f1 f2 f3 dg hb HG
    go_wp2_with fail
    refine HD1.out.mono ?_
    rintro e w3 ⟨a5, c5, a6, c6, rfl, d5, d6, hb3⟩
    have HB3 := Lib.hid (HB2.out.trans (hb3.mono HB2.out.size))
    obtain ⟨f1, f2, f3⟩ := HF.out w3 HB3.out
    have HD2 := Lib.hid (DivD_any a2 ag c2 cg d G w3 (H0.out.2.2.2.kept HB3.out) (HDG.out.kept hb3) (by omega) (by omega))
    rw [HQ.out.2] at HD2
    have HD5 := Lib.hid d5
    obtain ⟨n0, n1, n2, _, _, _⟩ := cells3 f1
    clear m0 m1 m2 f1 f2 f3 d5 d6 hb3 HD1 HB2 HDG
    go_wp2_with fail
    refine HD2.out.mono ?_
    rintro e w4 ⟨a7, c7, a8, c8, rfl, d7, d8, hb4⟩
    have HB4 := Lib.hid (HB3.out.trans (hb4.mono HB3.out.size))
    obtain ⟨f1, f2, f3⟩ := HF.out w4 HB4.out
    obtain ⟨k0, k1, k2, _, _, _⟩ := cells3 f1
    obtain ⟨m0, m1, m2, j0, j1, j2⟩ := cells3 f2
    have HE : Hid (GivesDR s q1 q2 w (.returned (ratV s (.slice a5 (D q1).length c5) (.slice a7 (D q2).length c7))) (set3 w4 (w.heap.size + 1) s (.slice a5 (D q1).length c5) (.slice a7 (D q2).length c7))) :=
      Lib.hid ⟨a5, c5, a7, c7, rfl, (HD5.out.kept hb4).set3 f2 _ _ _, d7.set3 f2 _ _ _, set3_below f3 (by omega)⟩
    clear n0 n1 n2 d7 d8 hb4 f1 f2 f3 HF H0 HX HB3 HB4 HD2 HD5
    go_wp2_with fail
    exact bodyPost_ret (v := ratV s (.slice a5 (D q1).length c5) (.slice a7 (D q2).length c7)) (by simp [results, Tryz.results48, go_sem, ratV, m0, m1, m2]) rfl HE.out
end Go.Proofs.YtpjeecahaeaajaaGreatDoor

set_option linter.unusedVariables false
set_option linter.unusedSimpArgs false
namespace Go.Proofs.YtpjeecahaeaajaaGreatDoor
open Go.RowKit Rep
def OnlyEx {ι : Type} (A : ι → Act) (R : ι → World → Prop) : Exit → Act → World → Prop
  | .normal, a, w => ∃ i, a = A i ∧ R i w
  | _, _, _ => False
theorem OnlyEx.out {ι : Type} {A : ι → Act} {R : ι → World → Prop} {e : Exit} {a : Act} {w : World} (h : OnlyEx A R e a w) : e = .normal ∧ ∃ i, a = A i ∧ R i w := by
  cases e <;> first | exact ⟨rfl, h⟩ | exact h.elim
theorem wp_region_ex {P : Program} {id : Nat} {ops : Array Oper} {Q : Exit → Act → World → Prop} {a : Act} {w : World} {ι : Type} (l : ι → List (Nat × Value)) (R : ι → World → Prop)
    (h : (Code.region id ops true).wp P (OnlyEx (fun i => puts a (l i)) R) a w) (hq : ∀ i w', R i w' → Q .normal (puts a (l i)) w') : (Code.region id ops true).wp P Q a w :=
  Code.wp_mono (fun e a' w' ho => by
    obtain ⟨rfl, i, rfl, hr⟩ := ho.out
    exact hq i w' hr) h
def FormAt (W : World) (s : Bool) (N : Nat) (i : Nat × Option Addr × Nat) (W' : World) : Prop :=
  W'.heap[i.1]? = some (.cells #[.bool s, .slice i.2.1 (L N).length i.2.2, .slice none 0 0] 27 (0, 0)) ∧ NumAt W' i.2.1 i.2.2 N ∧ Below W.heap.size W W' ∧ W.heap.size ≤ i.1
theorem form_calls {W : World} {a3 : Option Addr} {c3 N : Nat} {s : Bool} (h : DAt W a3 c3 N) (hl : (D N).length ≤ 30000000) :
    Hid (Calls Tryz.prog 49 #[.slice a3 (D N).length c3] W.drew fun e w3 => ∃ a c, e = .returned (.slice a (L N).length c) ∧ Hid (∀ r o, r < W.heap.size → w3.cell? ⟨r, o, none⟩ = W.cell? ⟨r, o, none⟩) ∧ Hid (FormAt W s N (w3.heap.size, a, c) (w3.alloc (.cells #[.bool s, .slice a (L N).length c, .slice none 0 0] 27)))) ∧
      Hid (Calls Tryz.prog 49 #[.slice a3 (D N).length c3] (W.alloc (.cells #[.bool false, .slice none 0 0, .slice none 0 0] 27)).drew fun e w3 => ∃ a c, e = .returned (.slice a (L N).length c) ∧
        (w3.cell? ⟨W.heap.size, 0, none⟩ = some (.bool false) ∧ w3.cell? ⟨W.heap.size, 1, none⟩ = some (.slice none 0 0) ∧ w3.cell? ⟨W.heap.size, 2, none⟩ = some (.slice none 0 0) ∧ w3.frozen? ⟨W.heap.size, 0, none⟩ = false ∧ w3.frozen? ⟨W.heap.size, 1, none⟩ = false ∧ w3.frozen? ⟨W.heap.size, 2, none⟩ = false) ∧ Hid (∀ r o, r < W.heap.size → w3.cell? ⟨r, o, none⟩ = W.cell? ⟨r, o, none⟩) ∧
        Hid (FormAt W s N (W.heap.size, a, c) (set3 w3 W.heap.size s (.slice a (L N).length c) (.slice none 0 0)))) := by
  have hd1 : Below W.heap.size W W.drew := ⟨rfl, rfl, rfl, Nat.le_refl _, fun _ _ => rfl⟩
  refine ⟨Lib.hid ?_, Lib.hid ?_⟩
  · have := Limbs_any a3 c3 (D N) W.drew h.1 (D_dig N) (by omega)
    rw [val_D] at this
    refine this.mono ?_
    rintro e w3 ⟨a, c, rfl, ho, hb⟩
    exact ⟨a, c, rfl, Lib.hid (fun r o hr => (hd1.trans hb).cell (p := ⟨r, o, none⟩) hr), Lib.hid ⟨heap_alloc_new w3 _, ho.num.kept ((Below.refl _ _).alloc (Nat.le_refl _) _), (hd1.trans hb).alloc hb.size _, hb.size⟩⟩
  · have hd2 : Below W.heap.size W (W.alloc (.cells #[.bool false, .slice none 0 0, .slice none 0 0] 27)).drew := Below.drewN' ((Below.refl W.heap.size W).alloc (Nat.le_refl _) _) 1
    have := Limbs_any a3 c3 (D N) (W.alloc (.cells #[.bool false, .slice none 0 0, .slice none 0 0] 27)).drew (h.1.kept hd2) (D_dig N) (by omega)
    rw [val_D] at this
    refine this.mono ?_
    rintro e w3 ⟨a, c, rfl, ho, hb⟩
    have hbl : Blank w3 W.heap.size := (hb.block _ (by simp [World.drew])).trans (heap_alloc_new W _)
    refine ⟨a, c, rfl, hbl.cells, Lib.hid (fun r o hr => (hd2.trans (hb.mono (by simp [World.drew]))).cell (p := ⟨r, o, none⟩) hr), Lib.hid ⟨?_, ho.num.set3 hbl.rat _ _ _, set3_below (hd2.trans (hb.mono (by simp [World.drew]))) (Nat.le_refl _), Nat.le_refl _⟩⟩
    unfold Blank at hbl
    simp [Go.Proofs.YtpjeecahaeaajaaGreatDoor.set3, World.setCell, Array.getElem?_modify, hbl]
def GivesAR (s : Bool) (n d : Nat) (w : World) (e : Ending) (w' : World) : Prop :=
  ∃ a1 c1 a2 c2, e = .returned (ratV s (.slice a1 (L n).length c1) (.slice a2 (L (denN d)).length c2)) ∧ NumAt w' a1 c1 n ∧ NumAt w' a2 c2 (denN d) ∧ Below w.heap.size w w'
theorem D_len1 {M : Nat} (h : (D M).length = 1) : M < 10 ∧ D M = [M] := by
  have h1 : M < 10 := by have := (D_len M 1).1 (Nat.le_of_eq h); omega
  refine ⟨h1, ?_⟩
  have h0 : 0 < M := Nat.pos_of_ne_zero fun e => by rw [e] at h; simp [D_zero] at h
  rw [D_cons h0, Nat.mod_eq_of_lt h1, Nat.div_eq_of_lt h1, D_zero]
structure FormSt (w : World) (s : Bool) (N M : Nat) (a4 : Option Addr) (c4 X : Nat) (a5 : Option Addr) (c5 : Nat) (a3 : Option Addr) (l3 c3 : Nat) (W : World) : Prop where
  x : W.heap[X]? = some (.cells #[.bool s, .slice a5 (L N).length c5, .slice none 0 0] 27 (0, 0))
  n : NumAt W a5 c5 N
  d : DAt W a4 c4 M
  b : W.heap[w.heap.size]? = some (.cells #[.bool s, .slice a3 l3 c3, .slice a4 (D M).length c4] 42 (0, 0))
  r : Blank W (w.heap.size + 1)
  below : Below w.heap.size w W
  ge : w.heap.size + 1 < X
theorem FormSt.end1 {w W : World} {s : Bool} {N a4 c4 X a5 c5 a3 l3 c3} (h : FormSt w s N 1 a4 c4 X a5 c5 a3 l3 c3 W) : GivesAR s N 1 w (.returned (ratV s (.slice a5 (L N).length c5) (.slice none 0 0))) (set3 W (w.heap.size + 1) s (.slice a5 (L N).length c5) (.slice none 0 0)) :=
  ⟨a5, c5, none, 0, rfl, h.n.set3 h.r.rat _ _ _, NumAt.zero _, set3_below h.below (by omega)⟩
theorem FormSt.end2 {w W W5 : World} {s : Bool} {N M : Nat} {a4 c4 X a5 c5 a3 l3 c3} (h : FormSt w s N M a4 c4 X a5 c5 a3 l3 c3 W) (hM : M ≠ 1) {a6 : Option Addr} {c6 : Nat} (h6 : NumAt W5 a6 c6 M) (hb : Below W.heap.size W W5) :
    GivesAR s N M w (.returned (ratV s (.slice a5 (L N).length c5) (.slice a6 (L M).length c6))) (set3 (W5.setCell ⟨X, 2, none⟩ (.slice a6 (L M).length c6)) (w.heap.size + 1) s (.slice a5 (L N).length c5) (.slice a6 (L M).length c6)) ∧
      W5.cell? ⟨X, 0, none⟩ = some (.bool s) ∧ W5.cell? ⟨X, 1, none⟩ = some (.slice a5 (L N).length c5) ∧ W5.cell? ⟨X, 2, none⟩ = some (.slice none 0 0) ∧ W5.frozen? ⟨X, 2, none⟩ = false ∧ Blank W5 (w.heap.size + 1) := by
  have hX : W5.heap[X]? = some (.cells #[.bool s, .slice a5 (L N).length c5, .slice none 0 0] 27 (0, 0)) := (hb.block _ (Array.getElem?_eq_some_iff.1 h.x).1).trans h.x
  have hrX : RatBlock W5 X := ⟨_, _, _, _, _, _, _, hX⟩
  have hR := h.r.kept hb
  obtain ⟨k0, k1, k2, j0, j1, j2⟩ := cells3 hX
  have hg : W5.grownBy (W5.setCell ⟨X, 2, none⟩ (.slice a6 (L M).length c6)) (some X) := grownBy_set (grown_refl W5 _)
  have hge := h.ge
  have hR2 : Blank (W5.setCell ⟨X, 2, none⟩ (.slice a6 (L M).length c6)) (w.heap.size + 1) := hR.grown hg (by omega)
  have n5 : NumAt (W5.setCell ⟨X, 2, none⟩ (.slice a6 (L M).length c6)) a5 c5 N := ⟨(h.n.kept hb).1.grown hg (hrX.apart (h.n.kept hb).1), h.n.2⟩
  have n6 : NumAt (W5.setCell ⟨X, 2, none⟩ (.slice a6 (L M).length c6)) a6 c6 M := ⟨h6.1.grown hg (hrX.apart h6.1), h6.2⟩
  have hdn : denN M = M := by unfold denN; rw [if_neg hM]
  refine ⟨⟨a5, c5, a6, c6, by rw [hdn], n5.set3 hR2.rat _ _ _, by rw [hdn]; exact n6.set3 hR2.rat _ _ _, set3_below ((h.below.trans (hb.mono h.below.size)).setCell (by simp; omega) _) (by omega)⟩, k0, k1, k2, j2, hR⟩
set_option maxRecDepth 100000 in
set_option maxHeartbeats 4000000 in
theorem Form_any (s : Bool) (a1 a2 : Option Addr) (c1 c2 n d : Nat) (w : World) (h1 : DAt w a1 c1 n) (h2 : DAt w a2 c2 d) (hd : 0 < d) (l1 : (D n).length ≤ 30000000) (l2 : (D d).length ≤ 30000000) :
    Calls Tryz.prog 24 #[ratV s (.slice a1 (D n).length c1) (.slice a2 (D d).length c2)] w (GivesAR (if n = 0 then false else s) (n / Nat.gcd n d) (d / Nat.gcd n d) w) := by
  have hNl : (D (n / Nat.gcd n d)).length ≤ 30000000 := Nat.le_trans (D_mono (Nat.div_le_self _ _)) l1
  have hMl : (D (d / Nat.gcd n d)).length ≤ 30000000 := Nat.le_trans (D_mono (Nat.div_le_self _ _)) l2
  have HL : Hid (∀ W, Below w.heap.size w W → Calls Tryz.prog 48 #[ratV s (.slice a1 (D n).length c1) (.slice a2 (D d).length c2)] W (GivesDR (if n = 0 then false else s) (n / Nat.gcd n d) (d / Nat.gcd n d) W)) := Lib.hid fun W h => Low_any s a1 a2 c1 c2 n d W (h1.kept h) (h2.kept h) hd l1 l2
  generalize (if n = 0 then false else s) = s' at *
  generalize n / Nat.gcd n d = N at *
  generalize d / Nat.gcd n d = M at *
  obtain ⟨W0, hW0⟩ : ∃ W0, W0 = (w.alloc (.cells #[.bool s, .slice a1 (D n).length c1, .slice a2 (D d).length c2] 42)).alloc (.cells #[.bool false, .slice none 0 0, .slice none 0 0] 27) := ⟨_, rfl⟩
  have hB0 : Below w.heap.size w W0 := by rw [hW0]; exact ((Below.refl _ _).alloc (Nat.le_refl _) _).alloc (by simp) _
  have hx0 : W0.heap[w.heap.size]? = some (.cells #[.bool s, .slice a1 (D n).length c1, .slice a2 (D d).length c2] 42 (0, 0)) := by rw [hW0, Below.heap_alloc _ _ _ (by simp)]; exact heap_alloc_new w _
  have hr0 : Blank W0 (w.heap.size + 1) := by
    unfold Blank
    rw [hW0]; simpa using heap_alloc_new (w.alloc (.cells #[.bool s, .slice a1 (D n).length c1, .slice a2 (D d).length c2] 42)) (.cells #[.bool false, .slice none 0 0, .slice none 0 0] 27)
  have hs0 : w.heap.size + 1 < W0.heap.size := by rw [hW0]; simp
  have HW0 := Lib.hid hW0
  have HL0 := Lib.hid (HL.out W0 hB0)
  have HX := Lib.hid (And.intro hB0 (And.intro hx0 (And.intro hr0 hs0)))
  clear hW0 h1 h2 HL hB0 hx0 hr0 hs0
  unfold ratV at HL0 ⊢
  go_enter Tryz.func24, Tryz.ntmps24
  go_wp2_with fail
  rw [← HW0.out]
  refine HL0.out.mono ?_
  rintro e w2 ⟨a3, c3, a4, c4, rfl, d3, d4, hb⟩
  have f1 := (hb.block _ (by have := HX.out.2.2.2; omega)).trans HX.out.2.1
  obtain ⟨k0, k1, k2, j0, j1, j2⟩ := cells3 f1
  unfold ratV
  have HD := Lib.hid (And.intro d3 (And.intro d4 (And.intro hb f1)))
  clear d3 d4 hb f1 HL0
  go_wp2_with fail
  have HW : Hid (∃ W, W = set3 w2 w.heap.size s' (.slice a3 (D N).length c3) (.slice a4 (D M).length c4)) := Lib.hid ⟨_, rfl⟩
  obtain ⟨W, hW⟩ := HW.out
  have hE : set3 w2 w.heap.size s' (.slice a3 (D N).length c3) (.slice a4 (D M).length c4) = W := hW.symm
  have d3 : DAt W a3 c3 N := by rw [hW]; exact HD.out.1.set3 HD.out.2.2.2 _ _ _
  have hW0 : W.heap[w.heap.size]? = some (.cells #[.bool s', .slice a3 (D N).length c3, .slice a4 (D M).length c4] 42 (0, 0)) := by
    rw [hW]; simp [set3, World.setCell, Array.getElem?_modify, HD.out.2.2.2]
  have HWE := Lib.hid hW
  unfold set3 at hE
  rw [hE]
  clear hE hW HW k0 k1 k2 j0 j1 j2
  obtain ⟨k0, k1, k2, j0, j1, j2⟩ := cells3 hW0
  obtain ⟨HA, HB⟩ := form_calls (s := s') d3 hNl
  have hne : w.heap.size < W.heap.size := (Array.getElem?_eq_some_iff.1 hW0).1
  have hne2 : W.heap.size ≠ w.heap.size := by omega
  have HDW : Hid (DAt W a4 c4 M ∧ W.heap[w.heap.size]? = some (.cells #[.bool s', .slice a3 (D N).length c3, .slice a4 (D M).length c4] 42 (0, 0)) ∧ Blank W (w.heap.size + 1) ∧ Below w.heap.size w W ∧ w.heap.size + 1 < W.heap.size) := Lib.hid (by
    have hb := HD.out.2.2.1
    have hB := HX.out.1.trans (hb.mono HX.out.1.size)
    have hbl := HX.out.2.2.1.kept hb
    have hg := set3_grown w2 w.heap.size s' (.slice a3 (D N).length c3) (.slice a4 (D M).length c4)
    refine ⟨by rw [HWE.out]; exact HD.out.2.1.set3 HD.out.2.2.2 _ _ _, hW0, by rw [HWE.out]; exact hbl.grown hg (by omega), by rw [HWE.out]; exact set3_below hB (Nat.le_refl _), ?_⟩
    have h1 := HX.out.2.2.2
    have h2 := hb.size
    have h3 := hg.size
    rw [HWE.out]
    omega)
  clear hW0 d3
  refine wp_region_ex (ι := Nat × Option Addr × Nat) (fun i => [(6, .pointer (some ⟨w.heap.size, 0, none⟩)), (7, .bool s'), (8, .pointer (some ⟨w.heap.size, 1, none⟩)), (9, .slice a3 (D N).length c3), (10, .slice i.2.1 (L N).length i.2.2), (11, .agg #[.bool s', .slice i.2.1 (L N).length i.2.2]),
    (12, .agg #[.bool s', .slice i.2.1 (L N).length i.2.2, .slice none 0 0]), (3, .pointer (some ⟨i.1, 0, none⟩))]) (FormAt W s' N) ?region ?rest
  case region =>
    go_region_held3 (fun w' => w'.cell? ⟨w.heap.size, 0, none⟩ = some (.bool s') ∧ w'.cell? ⟨w.heap.size, 1, none⟩ = some (.slice a3 (D N).length c3)) (go_keep)
      (first
        | (go_at_call 49; (with_reducible refine HA.out.mono ?_); rintro e w3 ⟨a5, c5, rfl, HP, HF⟩; have q0 := (HP.out _ 0 hne).trans k0; have q1 := (HP.out _ 1 hne).trans k1)
        | (go_at_call 49; (with_reducible refine HB.out.mono ?_); rintro e w3 ⟨a5, c5, rfl, ⟨m0, m1, m2, n0, n1, n2⟩, HP, HF⟩; have q0 := (HP.out _ 0 hne).trans k0; have q1 := (HP.out _ 1 hne).trans k1))
    all_goals exact ⟨(_, a5, c5), rfl, HF.out⟩
  case rest =>
    rintro ⟨X, a5, c5⟩ w5 hF
    have HS : Hid (FormSt w s' N M a4 c4 X a5 c5 a3 (D N).length c3 w5) := Lib.hid (by
      obtain ⟨f1, f2, f3, f4⟩ := hF
      exact ⟨f1, f2, HDW.out.1.kept f3, (f3.block _ hne).trans HDW.out.2.1, HDW.out.2.2.1.kept f3, HDW.out.2.2.2.1.trans (f3.mono HDW.out.2.2.2.1.size), by have := HDW.out.2.2.2.2; have h4 : W.heap.size ≤ X := f4; omega⟩)
    clear hF HA HB k0 k1 k2 j0 j1 j2 HDW hne hne2 HX HD
    have hXge := HS.out.ge
    simp only [puts, Act.put, List.setIfInBounds_toArray, List.set_cons_zero, List.set_cons_succ]
    obtain ⟨k0, k1, k2, j0, j1, j2⟩ := cells3 HS.out.b
    obtain ⟨x0, x1, x2, y0, y1, y2⟩ := cells3 HS.out.x
    by_cases hM : M = 1
    · subst hM
      have hz : ((((D 1).length : Nat) : Int) != 1) = false := by rw [D_one]; rfl
      have hl1 : 0 < (D 1).length := by rw [D_one]; simp
      obtain ⟨g, off, hga, hg, hc⟩ := HS.out.d.1.open' (by rw [List.length_map]; exact hl1)
      subst hga
      have hck := hc 0 (.int .i64 1) (by rw [D_one]; rfl)
      rw [Nat.add_zero] at hck
      obtain ⟨m0, m1, m2, n0, n1, n2⟩ := HS.out.r.cells
      have HE := Lib.hid HS.out.end1
      clear hc HS
      go_wp2_with fail
      exact bodyPost_ret (v := ratV s' (.slice a5 (L N).length c5) (.slice none 0 0)) (by simp [results, Tryz.results24, go_sem, ratV, m0, m1, m2]) rfl HE.out
    · have HLM := Lib.hid (Limbs_any a4 c4 (D M) w5 HS.out.d.1 (D_dig M) (by omega))
      rw [val_D] at HLM
      have HEE : Hid (∀ a6 c6 W5, NumAt W5 a6 c6 M → Below w5.heap.size w5 W5 → _) := Lib.hid (fun (a6 : Option Addr) (c6 : Nat) (W5 : World) (h6 : NumAt W5 a6 c6 M) (hb : Below w5.heap.size w5 W5) => HS.out.end2 hM h6 hb)
      have hgo : ((((D M).length : Nat) : Int) != 1) = true ∨ (((((D M).length : Nat) : Int) != 1) = false ∧ ∃ g off, a4 = some ⟨g, off, none⟩ ∧ 0 < (D M).length ∧ w5.cell? ⟨g, off, none⟩ = some (.int .i64 (M : Int)) ∧ ((M : Int) != 1) = true) := by
        by_cases hl : (D M).length = 1
        · obtain ⟨hm, hDM⟩ := D_len1 hl
          obtain ⟨g, off, hga, hg, hc⟩ := HS.out.d.1.open' (by rw [List.length_map]; omega)
          have hck := hc 0 (.int .i64 (M : Int)) (by rw [hDM]; rfl)
          rw [Nat.add_zero] at hck
          exact .inr ⟨by rw [hl]; rfl, g, off, hga, by omega, hck, by rw [bne_iff_ne]; omega⟩
        · exact .inl (by rw [bne_iff_ne]; omega)
      clear hM HS
      rcases hgo with hz | ⟨hz, g, off, rfl, hl0, hck, hm1⟩
      all_goals
        go_wp2_with fail
        refine HLM.out.mono ?_
        rintro e w6 ⟨a6, c6, rfl, ho, hb6⟩
        obtain ⟨hE, p0, p1, p2, q2, hbl⟩ := HEE.out a6 c6 w6 ho.num hb6
        have HE := Lib.hid hE
        obtain ⟨m0, m1, m2, n0, n1, n2⟩ := hbl.cells
        have hXne : X ≠ w.heap.size + 1 := by omega
        clear hE hbl ho hb6 HEE HLM k0 k1 k2 j0 j1 j2 x0 x1 x2 y0 y1 y2
        go_wp2_with fail
        exact bodyPost_ret (v := ratV s' (.slice a5 (L N).length c5) (.slice a6 (L M).length c6)) (by simp [results, Tryz.results24, go_sem, ratV, m0, m1, m2]) rfl HE.out
end Go.Proofs.YtpjeecahaeaajaaGreatDoor

set_option linter.unusedVariables false
set_option linter.unusedSimpArgs false
namespace Go.Proofs.YtpjeecahaeaajaaGreatDoor
open Go.RowKit Rep
theorem ofE {w : World} {a : Option Addr} {len c n : Nat} (h : NumE w a len c n) (hl : len ≤ 3000000) : Calls Tryz.prog 34 #[.slice a len c] w (GivesD w.heap.size n w) := by
  obtain ⟨xs, rfl, rfl, hx⟩ := h.ex
  exact OfD_any a xs c w hx.lim hx.reads (by omega)
abbrev OfIx := Nat × (Option Addr × Nat) × (Option Addr × Nat)
def OfAt (W : World) (s : Bool) (n d : Nat) (i : OfIx) (W' : World) : Prop :=
  W'.heap[i.1]? = some (.cells #[.bool s, .slice i.2.1.1 (D n).length i.2.1.2, .slice i.2.2.1 (D d).length i.2.2.2] 42 (0, 0)) ∧ DAt W' i.2.1.1 i.2.1.2 n ∧ DAt W' i.2.2.1 i.2.2.2 d ∧ Below W.heap.size W W' ∧ W.heap.size ≤ i.1
def Same3 (W w3 : World) : Prop := ∀ r o, r < W.heap.size → w3.cell? ⟨r, o, none⟩ = W.cell? ⟨r, o, none⟩
theorem Same3.of {W w3 : World} (h : Below W.heap.size W w3) : Same3 W w3 := fun r o hr => h.cell (p := ⟨r, o, none⟩) hr
def Blk3 (w3 : World) (X : Nat) : Prop := w3.heap[X]? = some (.cells #[.bool false, .slice none 0 0, .slice none 0 0] 42 (0, 0))
theorem of_second {W w3 : World} {s : Bool} {a1 a2 : Option Addr} {c1 l2 c2 n d X : Nat} (h2 : NumE W a2 l2 c2 d) (hl2 : l2 ≤ 3000000) (hb : Below W.heap.size W w3) (hd : DAt w3 a1 c1 n) (hX : Blk3 w3 X) (hge : W.heap.size ≤ X) :
    Calls Tryz.prog 34 #[.slice a2 l2 c2] w3 fun e w4 => ∃ b c, e = .returned (.slice b (D d).length c) ∧ (w4.cell? ⟨X, 0, none⟩ = some (.bool false) ∧ w4.cell? ⟨X, 1, none⟩ = some (.slice none 0 0) ∧ w4.cell? ⟨X, 2, none⟩ = some (.slice none 0 0) ∧ w4.frozen? ⟨X, 0, none⟩ = false ∧ w4.frozen? ⟨X, 1, none⟩ = false ∧ w4.frozen? ⟨X, 2, none⟩ = false) ∧
      Hid (Same3 W w4) ∧ Hid (OfAt W s n d (X, (a1, c1), (b, c)) (set3 w4 X s (.slice a1 (D n).length c1) (.slice b (D d).length c))) := by
  refine (ofE (h2.kept hb) hl2).mono ?_
  rintro e w4 ⟨b, c, rfl, d4, hb4, _⟩
  have hX4 : Blk3 w4 X := (hb4.block _ (Array.getElem?_eq_some_iff.1 hX).1).trans hX
  have hB : Below W.heap.size W w4 := hb.trans (hb4.mono hb.size)
  refine ⟨b, c, rfl, cells3 hX4, Lib.hid (Same3.of hB), Lib.hid ⟨?_, (hd.kept hb4).set3 hX4 _ _ _, d4.set3 hX4 _ _ _, set3_below hB hge, hge⟩⟩
  unfold Blk3 at hX4
  simp [set3, World.setCell, Array.getElem?_modify, hX4]
theorem of_calls {W : World} {s : Bool} {a1 a2 : Option Addr} {l1 c1 l2 c2 n d : Nat} (h1 : NumE W a1 l1 c1 n) (h2 : NumE W a2 l2 c2 d) (hl1 : l1 ≤ 3000000) (hl2 : l2 ≤ 3000000) :
    Hid (Calls Tryz.prog 34 #[.slice a1 l1 c1] W.drew fun e w3 => ∃ a c, e = .returned (.slice a (D n).length c) ∧ Hid (Same3 W w3) ∧
        Hid (Calls Tryz.prog 34 #[.slice a2 l2 c2] w3 fun e w4 => ∃ b c', e = .returned (.slice b (D d).length c') ∧ Hid (Same3 W w4) ∧ Hid (OfAt W s n d (w4.heap.size, (a, c), (b, c')) (w4.alloc (.cells #[.bool s, .slice a (D n).length c, .slice b (D d).length c'] 42)))) ∧
        Hid (Calls Tryz.prog 34 #[.slice a2 l2 c2] (w3.alloc (.cells #[.bool false, .slice none 0 0, .slice none 0 0] 42)) fun e w4 => ∃ b c', e = .returned (.slice b (D d).length c') ∧
          (w4.cell? ⟨w3.heap.size, 0, none⟩ = some (.bool false) ∧ w4.cell? ⟨w3.heap.size, 1, none⟩ = some (.slice none 0 0) ∧ w4.cell? ⟨w3.heap.size, 2, none⟩ = some (.slice none 0 0) ∧ w4.frozen? ⟨w3.heap.size, 0, none⟩ = false ∧ w4.frozen? ⟨w3.heap.size, 1, none⟩ = false ∧ w4.frozen? ⟨w3.heap.size, 2, none⟩ = false) ∧
          Hid (Same3 W w4) ∧ Hid (OfAt W s n d (w3.heap.size, (a, c), (b, c')) (set3 w4 w3.heap.size s (.slice a (D n).length c) (.slice b (D d).length c'))))) ∧
      Hid (Calls Tryz.prog 34 #[.slice a1 l1 c1] (W.alloc (.cells #[.bool false, .slice none 0 0, .slice none 0 0] 42)).drew fun e w3 => ∃ a c, e = .returned (.slice a (D n).length c) ∧ Hid (Same3 W w3) ∧
        Hid (Calls Tryz.prog 34 #[.slice a2 l2 c2] w3 fun e w4 => ∃ b c', e = .returned (.slice b (D d).length c') ∧
          (w4.cell? ⟨W.heap.size, 0, none⟩ = some (.bool false) ∧ w4.cell? ⟨W.heap.size, 1, none⟩ = some (.slice none 0 0) ∧ w4.cell? ⟨W.heap.size, 2, none⟩ = some (.slice none 0 0) ∧ w4.frozen? ⟨W.heap.size, 0, none⟩ = false ∧ w4.frozen? ⟨W.heap.size, 1, none⟩ = false ∧ w4.frozen? ⟨W.heap.size, 2, none⟩ = false) ∧
          Hid (Same3 W w4) ∧ Hid (OfAt W s n d (W.heap.size, (a, c), (b, c')) (set3 w4 W.heap.size s (.slice a (D n).length c) (.slice b (D d).length c'))))) := by
  have hd1 : Below W.heap.size W W.drew := ⟨rfl, rfl, rfl, Nat.le_refl _, fun _ _ => rfl⟩
  refine ⟨Lib.hid ?_, Lib.hid ?_⟩
  · refine (ofE (h1.kept hd1) hl1).mono ?_
    rintro e w3 ⟨a, c, rfl, d3, hb3, _⟩
    have hB : Below W.heap.size W w3 := hd1.trans hb3
    refine ⟨a, c, rfl, Lib.hid (Same3.of hB), Lib.hid ?_, Lib.hid ?_⟩
    · refine (ofE (h2.kept hB) hl2).mono ?_
      rintro e w4 ⟨b, c', rfl, d4, hb4, _⟩
      have hB4 : Below W.heap.size W w4 := hB.trans (hb4.mono hB.size)
      have ha := (Below.refl w4.heap.size w4).alloc (Nat.le_refl _) (.cells #[.bool s, .slice a (D n).length c, .slice b (D d).length c'] 42)
      exact ⟨b, c', rfl, Lib.hid (Same3.of hB4), Lib.hid ⟨heap_alloc_new w4 _, (d3.kept hb4).kept ha, d4.kept ha, hB4.alloc hB4.size _, hB4.size⟩⟩
    · have ha := (Below.refl w3.heap.size w3).alloc (Nat.le_refl _) (.cells #[.bool false, .slice none 0 0, .slice none 0 0] 42)
      exact of_second h2 hl2 (hB.alloc hB.size _) (d3.kept ha) (heap_alloc_new w3 _) hB.size
  · have hd2 : Below W.heap.size W (W.alloc (.cells #[.bool false, .slice none 0 0, .slice none 0 0] 42)).drew := Below.drewN' ((Below.refl W.heap.size W).alloc (Nat.le_refl _) _) 1
    refine (ofE (h1.kept hd2) hl1).mono ?_
    rintro e w3 ⟨a, c, rfl, d3, hb3, _⟩
    have hB : Below W.heap.size W w3 := hd2.trans (hb3.mono (by simp [World.drew]))
    have hX : Blk3 w3 W.heap.size := (hb3.block _ (by simp [World.drew])).trans (heap_alloc_new W _)
    exact ⟨a, c, rfl, Lib.hid (Same3.of hB), Lib.hid (of_second h2 hl2 hB d3 hX (Nat.le_refl _))⟩
set_option maxRecDepth 100000 in
set_option maxHeartbeats 4000000 in
theorem Of_any (s : Bool) (a1 a2 : Option Addr) (l1 c1 l2 c2 n d : Nat) (w : World) (h1 : NumE w a1 l1 c1 n) (h2 : NumE w a2 l2 c2 d) (hl1 : l1 ≤ 3000000) (hl2 : l2 ≤ 3000000) :
    Calls Tryz.prog 14 #[ratV s (.slice a1 l1 c1) (.slice a2 l2 c2)] w (GivesDR s n (if d = 0 then 1 else d) w) := by
  obtain ⟨W, hW⟩ : ∃ W, W = (w.alloc (.cells #[.bool s, .slice a1 l1 c1, .slice a2 l2 c2] 27)).alloc (.cells #[.bool false, .slice none 0 0, .slice none 0 0] 42) := ⟨_, rfl⟩
  have hB : Below w.heap.size w W := by rw [hW]; exact ((Below.refl _ _).alloc (Nat.le_refl _) _).alloc (by simp) _
  have hx0 : W.heap[w.heap.size]? = some (.cells #[.bool s, .slice a1 l1 c1, .slice a2 l2 c2] 27 (0, 0)) := by rw [hW, Below.heap_alloc _ _ _ (by simp)]; exact heap_alloc_new w _
  have hr0 : Blk3 W (w.heap.size + 1) := by
    unfold Blk3
    rw [hW]; simpa using heap_alloc_new (w.alloc (.cells #[.bool s, .slice a1 l1 c1, .slice a2 l2 c2] 27)) (.cells #[.bool false, .slice none 0 0, .slice none 0 0] 42)
  have hs0 : w.heap.size + 1 < W.heap.size := by rw [hW]; simp
  obtain ⟨HA, HC⟩ := of_calls (s := s) (h1.kept hB) (h2.kept hB) hl1 hl2
  have HWE := Lib.hid hW
  have HX := Lib.hid (And.intro hB hr0)
  obtain ⟨k0, k1, k2, j0, j1, j2⟩ := cells3 hx0
  clear hW h1 h2 hB hx0 hr0
  have hne : w.heap.size < W.heap.size := by omega
  have hne2 : W.heap.size ≠ w.heap.size := by omega
  obtain ⟨d1, hd1⟩ : ∃ d1, (if d = 0 then 1 else d) = d1 := ⟨_, rfl⟩
  rw [hd1]
  have HD1 := Lib.hid hd1
  clear hd1
  unfold ratV
  go_enter Tryz.func14, Tryz.ntmps14
  go_wp2_with fail
  rw [← HWE.out]
  refine wp_region_ex (ι := OfIx) (fun i => [(4, .pointer (some ⟨w.heap.size, 0, none⟩)), (5, .pointer (some ⟨w.heap.size, 0, none⟩)), (6, .bool s), (7, .pointer (some ⟨w.heap.size, 0, none⟩)), (8, .pointer (some ⟨w.heap.size, 1, none⟩)), (9, .slice a1 l1 c1), (10, .slice i.2.1.1 (D n).length i.2.1.2),
    (11, .pointer (some ⟨w.heap.size, 2, none⟩)), (12, .slice a2 l2 c2), (13, .slice i.2.2.1 (D d).length i.2.2.2), (14, .agg #[.bool s, .slice i.2.1.1 (D n).length i.2.1.2, .slice i.2.2.1 (D d).length i.2.2.2]), (3, .pointer (some ⟨i.1, 0, none⟩))]) (OfAt W s n d) ?region ?rest
  case region =>
    go_region_held3 (fun w' => w'.cell? ⟨w.heap.size, 0, none⟩ = some (.bool s) ∧ w'.cell? ⟨w.heap.size, 1, none⟩ = some (.slice a1 l1 c1) ∧ w'.cell? ⟨w.heap.size, 2, none⟩ = some (.slice a2 l2 c2)) (go_keep)
      (first
        | (go_at_call 34; (with_reducible refine HA.out.mono ?_); rintro e w3 ⟨a5, c5, rfl, HP, HF, HG⟩; have q0 := (HP.out _ 0 hne).trans k0; have q1 := (HP.out _ 1 hne).trans k1; have q2 := (HP.out _ 2 hne).trans k2; have hne3 : w3.heap.size ≠ w.heap.size := fun e => by have := World.block_lt_of_cell? w3 _ q0; simp at this; omega)
        | (go_at_call 34; (with_reducible refine HC.out.mono ?_); rintro e w3 ⟨a5, c5, rfl, HP, HH⟩; have q0 := (HP.out _ 0 hne).trans k0; have q1 := (HP.out _ 1 hne).trans k1; have q2 := (HP.out _ 2 hne).trans k2)
        | (go_at_call 34; (with_reducible refine HF.out.mono ?_); rintro e w4 ⟨a6, c6, rfl, HP2, HE⟩; have r0 := (HP2.out _ 0 hne).trans k0; have r1 := (HP2.out _ 1 hne).trans k1; have r2 := (HP2.out _ 2 hne).trans k2)
        | (go_at_call 34; (with_reducible refine HG.out.mono ?_); rintro e w4 ⟨a6, c6, rfl, ⟨m0, m1, m2, n0, n1, n2⟩, HP2, HE⟩; have r0 := (HP2.out _ 0 hne).trans k0; have r1 := (HP2.out _ 1 hne).trans k1; have r2 := (HP2.out _ 2 hne).trans k2)
        | (go_at_call 34; (with_reducible refine HH.out.mono ?_); rintro e w4 ⟨a6, c6, rfl, ⟨m0, m1, m2, n0, n1, n2⟩, HP2, HE⟩; have r0 := (HP2.out _ 0 hne).trans k0; have r1 := (HP2.out _ 1 hne).trans k1; have r2 := (HP2.out _ 2 hne).trans k2))
    all_goals
      refine ⟨_, ?_, HE.out⟩
      simp only [puts, Act.put, List.setIfInBounds_toArray, List.set_cons_zero, List.set_cons_succ]
  case rest =>
    rintro ⟨X, ⟨a5, c5⟩, ⟨a6, c6⟩⟩ w5 hF
    obtain ⟨f1, f2, f3, f4, f5⟩ := hF
    have hbl : Blk3 w5 (w.heap.size + 1) := (f4.block _ hs0).trans HX.out.2
    have hXn : w.heap.size + 1 < X := Nat.lt_of_lt_of_le hs0 f5
    have HB5 := Lib.hid (HX.out.1.trans (f4.mono HX.out.1.size))
    have HF := Lib.hid (And.intro f1 (And.intro f2 (And.intro f3 hbl)))
    dsimp only at f1
    obtain ⟨x0, x1, x2, y0, y1, y2⟩ := cells3 f1
    obtain ⟨m0, m1, m2, n0, n1, n2⟩ := cells3 hbl
    clear f1 f2 f3 f4 f5 hbl HA HC k0 k1 k2 j0 j1 j2 HX hne hne2
    simp only [puts, Act.put, List.setIfInBounds_toArray, List.set_cons_zero, List.set_cons_succ]
    have hXl : X < w5.heap.size := (Array.getElem?_eq_some_iff.1 HF.out.1).1
    by_cases h0 : d = 0
    · have hde : d1 = 1 := by rw [← HD1.out, if_pos h0]
      subst hde
      have hz : (((D d).length : Int) == 0) = true := by rw [h0]; rfl
      have HE : Hid (GivesDR s n 1 w (.returned (ratV s (.slice a5 (D n).length c5) (.slice (some ⟨w5.heap.size, 0, none⟩) (D 1).length 1)))
          (set3 ((w5.alloc (.cells #[.int .i64 1] 3)).setCell ⟨X, 2, none⟩ (.slice (some ⟨w5.heap.size, 0, none⟩) 1 1)) (w.heap.size + 1) s (.slice a5 (D n).length c5) (.slice (some ⟨w5.heap.size, 0, none⟩) 1 1))) := Lib.hid (by
        obtain ⟨f1, f2, f3, f4⟩ := HF.out
        have ha : Below w5.heap.size w5 (w5.alloc (.cells #[.int .i64 1] 3)) := (Below.refl _ _).alloc (Nat.le_refl _) _
        have hX1 : (w5.alloc (.cells #[.int .i64 1] 3)).heap[X]? = some (.cells #[.bool s, .slice a5 (D n).length c5, .slice a6 (D d).length c6] 42 (0, 0)) := (ha.block _ hXl).trans f1
        have hg : (w5.alloc (.cells #[.int .i64 1] 3)).grownBy ((w5.alloc (.cells #[.int .i64 1] 3)).setCell ⟨X, 2, none⟩ (.slice (some ⟨w5.heap.size, 0, none⟩) 1 1)) (some X) := grownBy_set (grown_refl _ _)
        have hrow := (Row.new (E := 3) w5 #[.int .i64 1]).grown hg (by simp; omega)
        have h1 : DAt ((w5.alloc (.cells #[.int .i64 1] 3)).setCell ⟨X, 2, none⟩ (.slice (some ⟨w5.heap.size, 0, none⟩) 1 1)) (some ⟨w5.heap.size, 0, none⟩) 1 1 := ⟨by rw [D_one]; simpa [i64v] using hrow.reads0, by rw [D_one]; simp, by simp [maxLen]⟩
        have hR : Blk3 ((w5.alloc (.cells #[.int .i64 1] 3)).setCell ⟨X, 2, none⟩ (.slice (some ⟨w5.heap.size, 0, none⟩) 1 1)) (w.heap.size + 1) := (hg.block _ (by simp; omega) (by simp; omega)).trans ((ha.block _ (by omega)).trans f4)
        have h2 : DAt ((w5.alloc (.cells #[.int .i64 1] 3)).setCell ⟨X, 2, none⟩ (.slice (some ⟨w5.heap.size, 0, none⟩) 1 1)) a5 c5 n := by
          have hk := f2.kept ha
          have h3 := hk.set3 hX1 s (.slice a5 (D n).length c5) (.slice (some ⟨w5.heap.size, 0, none⟩) 1 1)
          refine ⟨hk.1.grown hg ?_, hk.2⟩
          rcases hk.1 with hr | ⟨g, off, rfl, hr⟩
          · exact .inl hr
          · by_cases e : D n = []
            · exact .inl (by simp [e])
            · refine .inr fun g' off' hgq hbq => ?_
              simp at hgq hbq
              obtain ⟨rfl, rfl⟩ := hgq
              subst hbq
              have := hr 0 _ (map_getElem? (xs := D n) (f := i64v) (List.length_pos_iff.2 e))
              simp only [World.cell?, hX1] at this
              rcases off with _ | _ | _ | off <;> simp [i64v] at this
        have h4 := h2.set3 hR s (.slice a5 (D n).length c5) (.slice (some ⟨w5.heap.size, 0, none⟩) 1 1)
        have h5 := h1.set3 hR s (.slice a5 (D n).length c5) (.slice (some ⟨w5.heap.size, 0, none⟩) 1 1)
        exact ⟨a5, c5, _, 1, rfl, h4, h5, set3_below ((HB5.out.alloc HB5.out.size _).setCell (by simp; omega) _) (by omega)⟩)
      rw [show (D 1).length = 1 from by rw [D_one]; rfl] at HE
      have hq : w5.heap.size ≠ X := by omega
      have hq2 : X ≠ w.heap.size + 1 := by omega
      have hq3 : w.heap.size + 1 ≠ X := by omega
      have hq4 : w.heap.size + 1 < w5.heap.size := by omega
      have hq5 : w5.heap.size ≠ w.heap.size + 1 := by omega
      have hR6 : Blk3 ((w5.alloc (.cells #[.int .i64 1] 3)).setCell ⟨X, 2, none⟩ (.slice (some ⟨w5.heap.size, 0, none⟩) 1 1)) (w.heap.size + 1) := by
        unfold Blk3
        rw [Below.heap_setCell _ _ _ _ (by simp; omega), Below.heap_alloc _ _ _ hq4]
        exact HF.out.2.2.2
      have HE2 : Hid ((set3 ((w5.alloc (.cells #[.int .i64 1] 3)).setCell ⟨X, 2, none⟩ (.slice (some ⟨w5.heap.size, 0, none⟩) 1 1)) (w.heap.size + 1) s (.slice a5 (D n).length c5) (.slice (some ⟨w5.heap.size, 0, none⟩) 1 1)).heap[w.heap.size + 1]? = some (.cells #[.bool s, .slice a5 (D n).length c5, .slice (some ⟨w5.heap.size, 0, none⟩) 1 1] 42 (0, 0))) := Lib.hid (by
        generalize ((w5.alloc (.cells #[.int .i64 1] 3)).setCell ⟨X, 2, none⟩ (.slice (some ⟨w5.heap.size, 0, none⟩) 1 1)) = U at hR6 ⊢
        unfold Blk3 at hR6
        simp [set3, World.setCell, Array.getElem?_modify, hR6])
      clear hR6
      unfold set3 at HE HE2
      rw [World.setCell_alloc_past _ _ _ _ hXl, World.setCell_alloc_past _ _ _ _ (by simpa [World.setCell] using hq4), World.setCell_alloc_past _ _ _ _ (by simpa [World.setCell] using hq4), World.setCell_alloc_past _ _ _ _ (by simpa [World.setCell] using hq4)] at HE HE2
      clear h0 HF HB5
      go_wp2_with fail
      obtain ⟨p0, p1, p2, r0, r1, r2⟩ := cells3 HE2.out
      exact bodyPost_ret (v := ratV s (.slice a5 (D n).length c5) (.slice (some ⟨w5.heap.size, 0, none⟩) 1 1)) (by simp [results, Tryz.results14, go_sem, ratV, p0, p1, p2]) rfl HE.out
    · have hde : d1 = d := by rw [← HD1.out, if_neg h0]
      subst hde
      have hz : (((D d1).length : Int) == 0) = false := cast_beq_no (by rw [Ne, D_len_zero]; exact h0)
      have HE : Hid (GivesDR s n d1 w (.returned (ratV s (.slice a5 (D n).length c5) (.slice a6 (D d1).length c6))) (set3 w5 (w.heap.size + 1) s (.slice a5 (D n).length c5) (.slice a6 (D d1).length c6))) :=
        Lib.hid ⟨a5, c5, a6, c6, rfl, HF.out.2.1.set3 HF.out.2.2.2 _ _ _, HF.out.2.2.1.set3 HF.out.2.2.2 _ _ _, set3_below HB5.out (by omega)⟩
      clear h0 HF HB5
      go_wp2_with fail
      exact bodyPost_ret (v := ratV s (.slice a5 (D n).length c5) (.slice a6 (D d1).length c6)) (by simp [results, Tryz.results14, go_sem, ratV, m0, m1, m2]) rfl HE.out
end Go.Proofs.YtpjeecahaeaajaaGreatDoor

set_option linter.unusedVariables false
set_option linter.unusedSimpArgs false
namespace Go.Proofs.YtpjeecahaeaajaaGreatDoor
open Go.RowKit Rep
def ovQ (m : Nat) (q : Rat) : Bool := rO m (mgQ q) q.den
def outQ (m : Nat) (q : Rat) : Rat := if ovQ m q = true then 0 else q
theorem den0 : (0 : Rat).den = 1 := rfl
structure AtQ (w : World) (a1 : Option Addr) (c1 : Nat) (a2 : Option Addr) (c2 : Nat) (q : Rat) : Prop where
  num : NumAt w a1 c1 (mgQ q)
  den : NumAt w a2 c2 (denN q.den)
theorem AtQ.kept {w w' : World} {a1 : Option Addr} {c1 : Nat} {a2 : Option Addr} {c2 : Nat} {q : Rat} (h : AtQ w a1 c1 a2 c2 q) (hb : Below w.heap.size w w') : AtQ w' a1 c1 a2 c2 q := ⟨h.num.kept hb, h.den.kept hb⟩
theorem AtQ.bench {w w' : World} {b m : Nat} {o : Bool} {a1 : Option Addr} {c1 : Nat} {a2 : Option Addr} {c2 : Nat} {q : Rat} (h : AtQ w a1 c1 a2 c2 q) (hb : Bench w b m o) (hg : w.grownBy w' (some b)) : AtQ w' a1 c1 a2 c2 q := ⟨h.num.bench hb hg, h.den.bench hb hg⟩
theorem AtQ.zero (w : World) : AtQ w none 0 none 0 0 := ⟨NumAt.zero w, NumAt.zero w⟩
abbrev qV (q : Rat) (a1 : Option Addr) (c1 : Nat) (a2 : Option Addr) (c2 : Nat) : Value := ratV (ngQ q) (.slice a1 (L (mgQ q)).length c1) (.slice a2 (L (denN q.den)).length c2)
def GivesQ (b m : Nat) (q : Rat) (w : World) (e : Ending) (w' : World) : Prop :=
  ∃ a1 c1 a2 c2, e = .returned (qV (outQ m q) a1 c1 a2 c2) ∧ AtQ w' a1 c1 a2 c2 (outQ m q) ∧ Bench w' b m (ovQ m q) ∧ w.grownBy w' (some b)
def NewQ (q : Rat) (w : World) (e : Ending) (w' : World) : Prop :=
  ∃ a1 c1 a2 c2, e = .returned (qV q a1 c1 a2 c2) ∧ AtQ w' a1 c1 a2 c2 q ∧ Below w.heap.size w w'
theorem GivesR.q {b m n d : Nat} {s : Bool} {q : Rat} {w w' : World} {e : Ending} (h : GivesR b m s n d w e w') (h1 : mgQ q = n) (h2 : denN q.den = denN d) (h3 : n ≠ 0 → ngQ q = s) : GivesQ b m q w e w' := by
  obtain ⟨a1, c1, a2, c2, rfl, n1, n2, hb, hg⟩ := h
  subst h1
  have ho : rO m (mgQ q) d = ovQ m q := by unfold ovQ rO; rw [h2]
  have key : ngQ (outQ m q) = rS m s (mgQ q) d ∧ mgQ (outQ m q) = rN m (mgQ q) d ∧ denN (outQ m q).den = rD m (mgQ q) d := by
    unfold outQ rS rN rD
    rw [ho]
    by_cases h : ovQ m q = true
    · simp [h, ng_zero, mg_of_zero, den0, denN]
    · by_cases hz : mgQ q = 0
      · have hq := mg_zero.1 hz
        subst hq
        simp [ng_zero, mg_of_zero, den0, denN]
      · simp [h, hz, h2, h3 hz]
  obtain ⟨k1, k2, k3⟩ := key
  refine ⟨a1, c1, a2, c2, ?_, ⟨?_, ?_⟩, ?_, hg⟩
  · unfold qV; rw [k1, k2, k3]
  · rw [k2]; exact n1
  · rw [k3]; exact n2
  · rw [← ho]; exact hb
structure RatX (w : World) (s : Bool) (a1 : Option Addr) (l1 c1 : Nat) (a2 : Option Addr) (l2 c2 : Nat) (n d d0 : Nat) (q : Rat) : Prop where
  num : NumE w a1 l1 c1 n
  den : NumE w a2 l2 c2 d0
  thr : d = if l2 = 0 then 1 else d0
  pos : 0 < d
  cop : Nat.gcd n d = 1
  is : mkQ s n d = q
  s1 : l1 ≤ 10000
  s2 : l2 ≤ 10000
theorem RatX.kept {w w' : World} {s : Bool} {a1 : Option Addr} {l1 c1 : Nat} {a2 : Option Addr} {l2 c2 : Nat} {n d d0 : Nat} {q : Rat} (h : RatX w s a1 l1 c1 a2 l2 c2 n d d0 q) (hb : Below w.heap.size w w') : RatX w' s a1 l1 c1 a2 l2 c2 n d d0 q :=
  ⟨h.num.kept hb, h.den.kept hb, h.thr, h.pos, h.cop, h.is, h.s1, h.s2⟩
theorem RatX.bench {w w' : World} {b m : Nat} {o : Bool} {s : Bool} {a1 : Option Addr} {l1 c1 : Nat} {a2 : Option Addr} {l2 c2 : Nat} {n d d0 : Nat} {q : Rat} (h : RatX w s a1 l1 c1 a2 l2 c2 n d d0 q) (hb : Bench w b m o) (hg : w.grownBy w' (some b)) : RatX w' s a1 l1 c1 a2 l2 c2 n d d0 q :=
  ⟨h.num.bench hb hg, h.den.bench hb hg, h.thr, h.pos, h.cop, h.is, h.s1, h.s2⟩
theorem RatX.neg {w : World} {s : Bool} {a1 : Option Addr} {l1 c1 : Nat} {a2 : Option Addr} {l2 c2 : Nat} {n d d0 : Nat} {q : Rat} (h : RatX w s a1 l1 c1 a2 l2 c2 n d d0 q) : RatX w (!s) a1 l1 c1 a2 l2 c2 n d d0 (-q) :=
  ⟨h.num, h.den, h.thr, h.pos, h.cop, by rw [mkQ_neg, h.is], h.s1, h.s2⟩
theorem denN_len {d : Nat} (hd : 0 < d) : d = if (L (denN d)).length = 0 then 1 else denN d := by
  simp only [L_len_zero]
  unfold denN
  by_cases h : d = 1
  · simp [h]
  · simp [h]; omega
def szQ (q : Rat) : Nat := max (L (mgQ q)).length (L (denN q.den)).length
theorem AtQ.x {w : World} {a1 : Option Addr} {c1 : Nat} {a2 : Option Addr} {c2 : Nat} {q : Rat} (h : AtQ w a1 c1 a2 c2 q) (hs : szQ q ≤ 10000) : RatX w (ngQ q) a1 (L (mgQ q)).length c1 a2 (L (denN q.den)).length c2 (mgQ q) q.den (denN q.den) q := by
  unfold szQ at hs
  exact ⟨NumE.of h.num (by omega), NumE.of h.den (by omega), denN_len (den_pos q), den_pos q, copr q, mkQ_self q, by omega, by omega⟩
theorem szQ_zero : szQ 0 = 0 := rfl
structure DgQ (w : World) (a1 : Option Addr) (c1 : Nat) (a2 : Option Addr) (c2 : Nat) (q : Rat) : Prop where
  num : DAt w a1 c1 (mgQ q)
  den : DAt w a2 c2 q.den
theorem DgQ.kept {w w' : World} {a1 : Option Addr} {c1 : Nat} {a2 : Option Addr} {c2 : Nat} {q : Rat} (h : DgQ w a1 c1 a2 c2 q) (hb : Below w.heap.size w w') : DgQ w' a1 c1 a2 c2 q := ⟨h.num.kept hb, h.den.kept hb⟩
abbrev dV (q : Rat) (a1 : Option Addr) (c1 : Nat) (a2 : Option Addr) (c2 : Nat) : Value := ratV (ngQ q) (.slice a1 (D (mgQ q)).length c1) (.slice a2 (D q.den).length c2)
def GivesDQ (q : Rat) (w : World) (e : Ending) (w' : World) : Prop :=
  ∃ a1 c1 a2 c2, e = .returned (dV q a1 c1 a2 c2) ∧ DgQ w' a1 c1 a2 c2 q ∧ Below w.heap.size w w'
theorem GivesDR.q {s : Bool} {n d : Nat} {q : Rat} {w w' : World} {e : Ending} (h : GivesDR s n d w e w') (h1 : ngQ q = s) (h2 : mgQ q = n) (h3 : q.den = d) : GivesDQ q w e w' := by
  subst h1 h2 h3
  obtain ⟨a1, c1, a2, c2, rfl, d1, d2, hb⟩ := h
  exact ⟨a1, c1, a2, c2, rfl, ⟨d1, d2⟩, hb⟩
theorem Low_q {s : Bool} {a1 a2 : Option Addr} {c1 c2 n d : Nat} {w : World} (h1 : DAt w a1 c1 n) (h2 : DAt w a2 c2 d) (hd : 0 < d) (l1 : (D n).length ≤ 30000000) (l2 : (D d).length ≤ 30000000) :
    Calls Tryz.prog 48 #[ratV s (.slice a1 (D n).length c1) (.slice a2 (D d).length c2)] w (GivesDQ (mkQ s n d) w) :=
  (Low_any s a1 a2 c1 c2 n d w h1 h2 hd l1 l2).mono fun e w' h => h.q (mkQ_ng s n hd) (mkQ_mg s n hd) (mkQ_den s n hd)
theorem Int0_q (w : World) : Calls Tryz.prog 69 #[.int .i64 0] w (GivesDQ 0 w) :=
  (Int0_any w).mono fun e w' h => h.q rfl rfl rfl
theorem Of_q {s : Bool} {a1 : Option Addr} {l1 c1 : Nat} {a2 : Option Addr} {l2 c2 : Nat} {n d d0 : Nat} {q : Rat} {w : World} (h : RatX w s a1 l1 c1 a2 l2 c2 n d d0 q) (hs : ngQ q = s) (h0 : l2 ≠ 0 → d0 ≠ 0) :
    Calls Tryz.prog 14 #[ratV s (.slice a1 l1 c1) (.slice a2 l2 c2)] w (GivesDQ q w) := by
  have k1 := h.s1
  have k2 := h.s2
  refine (Of_any s a1 a2 l1 c1 l2 c2 n d0 w h.num h.den (by omega) (by omega)).mono fun e w' hg => ?_
  obtain ⟨m1, m2⟩ := mkQ_cop s h.pos h.cop
  rw [h.is] at m1 m2
  refine hg.q hs m1 ?_
  rw [m2, h.thr]
  by_cases hl : l2 = 0
  · have hz : d0 = 0 := by
      have := h.den.lenL
      rw [hl] at this
      exact L_len_zero.1 (by omega)
    rw [if_pos hl, if_pos hz]
  · rw [if_neg hl, if_neg (h0 hl)]
theorem AtQ.ofD {w : World} {a1 : Option Addr} {c1 : Nat} {a2 : Option Addr} {c2 : Nat} {q : Rat} (h : AtQ w a1 c1 a2 c2 q) (hs : szQ q ≤ 10000) :
    Calls Tryz.prog 14 #[qV q a1 c1 a2 c2] w (GivesDQ q w) :=
  Of_q (h.x hs) rfl (fun hl => by rw [Ne, L_len_zero] at hl; exact hl)
theorem Form_q {w : World} {s : Bool} {a1 a2 : Option Addr} {c1 c2 n d : Nat} (h1 : DAt w a1 c1 n) (h2 : DAt w a2 c2 d) (hd : 0 < d) (l1 : (D n).length ≤ 30000000) (l2 : (D d).length ≤ 30000000) :
    Calls Tryz.prog 24 #[ratV s (.slice a1 (D n).length c1) (.slice a2 (D d).length c2)] w (NewQ (mkQ s n d) w) := by
  refine (Form_any s a1 a2 c1 c2 n d w h1 h2 hd l1 l2).mono ?_
  rintro e w' ⟨b1, k1, b2, k2, rfl, m1, m2, hb⟩
  refine ⟨b1, k1, b2, k2, ?_, ⟨?_, ?_⟩, hb⟩
  · unfold qV; rw [mkQ_ng s n hd, mkQ_mg s n hd, mkQ_den s n hd]
  · rw [mkQ_mg s n hd]; exact m1
  · rw [mkQ_den s n hd]; exact m2
theorem DgQ.form {w : World} {a1 : Option Addr} {c1 : Nat} {a2 : Option Addr} {c2 : Nat} {q : Rat} (h : DgQ w a1 c1 a2 c2 q) (l1 : (D (mgQ q)).length ≤ 30000000) (l2 : (D q.den).length ≤ 30000000) :
    Calls Tryz.prog 24 #[dV q a1 c1 a2 c2] w (NewQ q w) := by
  have := Form_q (s := ngQ q) h.num h.den (den_pos q) l1 l2
  rwa [mkQ_self] at this
end Go.Proofs.YtpjeecahaeaajaaGreatDoor

set_option linter.unusedVariables false
set_option linter.unusedSimpArgs false
namespace Go.Proofs.YtpjeecahaeaajaaGreatDoor
open Go.RowKit Rep
set_option maxRecDepth 100000 in
set_option maxHeartbeats 400000 in
theorem through_any {w : World} {s : Bool} {a1 : Option Addr} {l1 c1 : Nat} {a2 : Option Addr} {l2 c2 d0 : Nat} (h : NumE w a2 l2 c2 d0) :
    Calls Tryz.prog 53 #[ratV s (.slice a1 l1 c1) (.slice a2 l2 c2)] w (GivesE (max l2 1) (if l2 = 0 then 1 else d0) w) := by
  have hb0 : Below w.heap.size w (w.alloc (.cells #[.bool s, .slice a1 l1 c1, .slice a2 l2 c2] 27)) := (Below.refl _ _).alloc (Nat.le_refl _) _
  have HN := Lib.hid (h.kept hb0)
  have HE := Lib.hid (And.intro (NumE.one (w.alloc (.cells #[.bool s, .slice a1 l1 c1, .slice a2 l2 c2] 27))) (hb0.alloc hb0.size (.cells #[.int .u32 1] 68)))
  have HB := Lib.hid hb0
  clear hb0 h
  unfold ratV
  by_cases hl : l2 = 0
  · rw [if_pos hl]
    have hz : ((l2 : Int) == 0) = true := by rw [hl]; rfl
    clear hl
    go_enter Tryz.func53, Tryz.ntmps53
    go_wp2_with fail
    go_ret
    exact ⟨_, 1, 1, rfl, by simpa using HE.out.1, by omega, HE.out.2⟩
  · rw [if_neg hl]
    have hz : ((l2 : Int) == 0) = false := cast_beq_no hl
    clear hl
    go_enter Tryz.func53, Tryz.ntmps53
    go_wp2_with fail
    go_ret
    exact ⟨a2, l2, c2, rfl, HN.out, by omega, HB.out⟩
def PostD (W0 W : World) (n : Nat) (e : Ending) (w' : World) : Prop := ∃ a c, e = .returned (.slice a (D n).length c) ∧ DAt w' a c n ∧ Below W0.heap.size W0 w' ∧ Below W.heap.size W w'
theorem mulD_from {W0 : World} {ax ay : Option Addr} {cx cy n m : Nat} (hx : DAt W0 ax cx n) (hy : DAt W0 ay cy m) (lx : (D n).length ≤ 30000000) (ly : (D m).length ≤ 30000000) (W : World) (h : Below W0.heap.size W0 W) :
    Calls Tryz.prog 65 #[.slice ax (D n).length cx, .slice ay (D m).length cy] W (PostD W0 W (n * m)) := by
  refine (MulD_any ax ay cx cy n m W (hx.kept h) (hy.kept h) (by omega) (by omega)).mono ?_
  rintro e w' ⟨a, c, rfl, hd, hb, _⟩
  exact ⟨a, c, rfl, hd, h.trans (hb.mono h.size), hb⟩
theorem D_mul {n m a b : Nat} (h1 : (D n).length ≤ a) (h2 : (D m).length ≤ b) : (D (n * m)).length ≤ a + b := by
  rw [D_len] at *
  rw [Nat.pow_add]
  exact Nat.mul_lt_mul'' h1 h2
theorem low_from {W0 : World} {s : Bool} {n d : Nat} (hd : 0 < d) (l1 : (D n).length ≤ 30000000) (l2 : (D d).length ≤ 30000000) (a1 : Option Addr) (c1 : Nat) (a2 : Option Addr) (c2 : Nat) (W : World) (h : Below W0.heap.size W0 W) (h1 : DAt W a1 c1 n) (h2 : DAt W a2 c2 d) :
    Calls Tryz.prog 48 #[ratV s (.slice a1 (D n).length c1) (.slice a2 (D d).length c2)] W fun e w' => ∃ a3 c3 a4 c4, e = .returned (dV (mkQ s n d) a3 c3 a4 c4) ∧ DgQ w' a3 c3 a4 c4 (mkQ s n d) ∧ Below W0.heap.size W0 w' := by
  refine (Low_q h1 h2 hd l1 l2).mono ?_
  rintro e w' ⟨a3, c3, a4, c4, rfl, hq, hb⟩
  exact ⟨a3, c3, a4, c4, rfl, hq, h.trans (hb.mono h.size)⟩
theorem below_drew (W : World) : Below W.heap.size W W.drew := ⟨rfl, rfl, rfl, Nat.le_refl _, fun _ _ => rfl⟩
theorem keep3 {W0 : World} {r1 : Nat} {v0 v1 v2 : Value} {t : TypeId} (h1 : W0.heap[r1]? = some (.cells #[v0, v1, v2] t (0, 0))) (W : World) (h : Below W0.heap.size W0 W) :
    W.cell? ⟨r1, 0, none⟩ = some v0 ∧ W.cell? ⟨r1, 1, none⟩ = some v1 ∧ W.cell? ⟨r1, 2, none⟩ = some v2 ∧ W.frozen? ⟨r1, 0, none⟩ = false ∧ W.frozen? ⟨r1, 1, none⟩ = false ∧ W.frozen? ⟨r1, 2, none⟩ = false :=
  cells3 ((h.block _ (Array.getElem?_eq_some_iff.1 h1).1).trans h1)
theorem fin_D {w W0 : World} {r : Nat} {q : Rat} {t : TypeId} (hB0 : Below w.heap.size w W0) (hr : w.heap.size ≤ r) (b3 : W0.heap[r]? = some (.cells #[.bool false, .slice none 0 0, .slice none 0 0] t (0, 0))) (W : World) (a7 : Option Addr) (c7 : Nat) (a8 : Option Addr) (c8 : Nat) (hd : DgQ W a7 c7 a8 c8 q) (hb : Below W0.heap.size W0 W) :
    GivesDQ q w (.returned (dV q a7 c7 a8 c8)) (set3 W r (ngQ q) (.slice a7 (D (mgQ q)).length c7) (.slice a8 (D q.den).length c8)) := by
  have hb' : W.heap[r]? = some (.cells #[.bool false, .slice none 0 0, .slice none 0 0] t (0, 0)) := (hb.block _ (Array.getElem?_eq_some_iff.1 b3).1).trans b3
  exact ⟨a7, c7, a8, c8, rfl, ⟨hd.num.set3 hb' _ _ _, hd.den.set3 hb' _ _ _⟩, set3_below (hB0.trans (hb.mono hB0.size)) hr⟩
theorem keep6 {W0 : World} {r1 r2 : Nat} {v0 v1 v2 u0 u1 u2 : Value} {t t' : TypeId} (h1 : W0.heap[r1]? = some (.cells #[v0, v1, v2] t (0, 0))) (h2 : W0.heap[r2]? = some (.cells #[u0, u1, u2] t' (0, 0))) (W : World) (h : Below W0.heap.size W0 W) :
    W.cell? ⟨r1, 0, none⟩ = some v0 ∧ W.cell? ⟨r1, 1, none⟩ = some v1 ∧ W.cell? ⟨r1, 2, none⟩ = some v2 ∧ W.cell? ⟨r2, 0, none⟩ = some u0 ∧ W.cell? ⟨r2, 1, none⟩ = some u1 ∧ W.cell? ⟨r2, 2, none⟩ = some u2 := by
  obtain ⟨a, b, c, _⟩ := cells3 ((h.block _ (Array.getElem?_eq_some_iff.1 h1).1).trans h1)
  obtain ⟨d, e, f, _⟩ := cells3 ((h.block _ (Array.getElem?_eq_some_iff.1 h2).1).trans h2)
  exact ⟨a, b, c, d, e, f⟩
theorem boxes3 (w : World) (v1 v2 v3 : Array Value) (t1 t2 t3 : TypeId) : ∃ W0, W0 = ((w.alloc (.cells v1 t1)).alloc (.cells v2 t2)).alloc (.cells v3 t3) ∧ Below w.heap.size w W0 ∧
    W0.heap[w.heap.size]? = some (.cells v1 t1 (0, 0)) ∧ W0.heap[w.heap.size + 1]? = some (.cells v2 t2 (0, 0)) ∧ W0.heap[w.heap.size + 1 + 1]? = some (.cells v3 t3 (0, 0)) ∧ W0.heap.size = w.heap.size + 1 + 1 + 1 := by
  refine ⟨_, rfl, (((Below.refl _ _).alloc (Nat.le_refl _) _).alloc (by simp) _).alloc (by simp; omega) _, ?_, ?_, ?_, by simp⟩
  · rw [Below.heap_alloc _ _ _ (by simp; omega), Below.heap_alloc _ _ _ (by simp)]; exact heap_alloc_new w _
  · rw [Below.heap_alloc _ _ _ (by simp)]; simpa using heap_alloc_new (w.alloc (.cells v1 t1)) (.cells v2 t2)
  · simpa using heap_alloc_new ((w.alloc (.cells v1 t1)).alloc (.cells v2 t2)) (.cells v3 t3)
set_option maxRecDepth 100000 in
set_option maxHeartbeats 4000000 in
theorem MulR_q {w : World} {x y : Rat} {ax bx ay by' : Option Addr} {cx ex cy ey : Nat} (hx : DgQ w ax cx bx ex x) (hy : DgQ w ay cy by' ey y) (lx : (D (mgQ x)).length ≤ 200000) (kx : (D x.den).length ≤ 200000) (ly : (D (mgQ y)).length ≤ 200000) (ky : (D y.den).length ≤ 200000) :
    Calls Tryz.prog 37 #[dV x ax cx bx ex, dV y ay cy by' ey] w (GivesDQ (x * y) w) := by
  obtain ⟨W0, hW0, hB0, b1, b2, b3, hs⟩ := boxes3 w #[.bool (ngQ x), .slice ax (D (mgQ x)).length cx, .slice bx (D x.den).length ex] #[.bool (ngQ y), .slice ay (D (mgQ y)).length cy, .slice by' (D y.den).length ey] #[.bool false, .slice none 0 0, .slice none 0 0] 42 42 42
  have hx0 := hx.kept hB0
  have hy0 := hy.kept hB0
  have m1 := D_mul lx ly
  have m2 := D_mul kx ky
  have HM1 := Lib.hid (mulD_from hx0.num hy0.num (by omega) (by omega))
  have HM2 := Lib.hid (mulD_from hx0.den hy0.den (by omega) (by omega))
  have HL := Lib.hid (@low_from W0 (!(ngQ x == ngQ y)) _ _ (Nat.mul_pos (den_pos x) (den_pos y)) (by omega : (D (mgQ x * mgQ y)).length ≤ 30000000) (by omega))
  rw [show mkQ (!(ngQ x == ngQ y)) (mgQ x * mgQ y) (x.den * y.den) = x * y from (mul_q x y).symm] at HL
  have HW0 := Lib.hid hW0
  have HFIN := Lib.hid (@fin_D w W0 (w.heap.size + 1 + 1) (x * y) _ hB0 (by omega) b3)
  obtain ⟨k0, k1, k2, j0, j1, j2⟩ := cells3 b1
  obtain ⟨k3, k4, k5, j3, j4, j5⟩ := cells3 b2
  have hlt1 : w.heap.size < W0.heap.size := by omega
  have hlt2 : w.heap.size + 1 < W0.heap.size := by omega
  have hlt3 : w.heap.size + 1 + 1 < W0.heap.size := by omega
  have hn1 : w.heap.size ≠ w.heap.size + 1 + 1 := by omega
  have hn2 : w.heap.size + 1 + 1 ≠ w.heap.size := by omega
  have HK := Lib.hid (keep6 b1 b2)
  have HR := Lib.hid (keep3 b3)
  clear hW0 hB0 b1 b2 b3 hs hx hy hx0 hy0 m1 m2 lx kx ly ky
  generalize mgQ x * mgQ y = N at *
  generalize x.den * y.den = M at *
  unfold dV ratV at HL ⊢
  go_enter Tryz.func37, Tryz.ntmps37
  go_wp2_with fail
  rw [← HW0.out]
  go_region_held3 (fun w' => w'.cell? ⟨w.heap.size, 0, none⟩ = some (.bool (ngQ x)) ∧ w'.cell? ⟨w.heap.size, 1, none⟩ = some (.slice ax (D (mgQ x)).length cx) ∧ w'.cell? ⟨w.heap.size, 2, none⟩ = some (.slice bx (D x.den).length ex) ∧ w'.cell? ⟨w.heap.size + 1, 0, none⟩ = some (.bool ( ngQ y)) ∧ w'.cell? ⟨w.heap.size + 1, 1, none⟩ = some (.slice ay (D (mgQ y)).length cy) ∧ w'.cell? ⟨w.heap.size + 1, 2, none⟩ = some (.slice by' (D y.den).length ey)) (first | exact HK.out _ hb7 | exact HK.out _ hb6 | exact HK.out _ hb5 | go_keep)
      (first
        | (go_at_call 65; (with_reducible refine (HM1.out _ (below_drew _)).mono ?_); rintro e w3 ⟨a5, c5, rfl, d5, hb5, _⟩)
        | (go_at_call 65; (with_reducible refine (HM2.out _ hb5).mono ?_); rintro e w4 ⟨a6, c6, rfl, d6, hb6, hl6⟩; have d5' := d5.kept hl6)
        | (go_at_call 48; (with_reducible refine (HL.out _ _ _ _ _ hb6 d5' d6).mono ?_); rintro e w5 ⟨a7, c7, a8, c8, rfl, d7, hb7⟩; have HE := Lib.hid (HFIN.out _ _ _ _ _ d7 hb7); obtain ⟨m0, m1, m2, n0, n1, n2⟩ := HR.out _ hb7))
  clear HFIN HL HM1 HM2 HK HR HW0
  go_wp2_with fail
  exact bodyPost_ret (v := dV (x * y) a7 c7 a8 c8) (by simp [results, Tryz.results37, go_sem, dV, ratV, m0, m1, m2]) rfl HE.out
end Go.Proofs.YtpjeecahaeaajaaGreatDoor

set_option linter.unusedVariables false
set_option linter.unusedSimpArgs false
namespace Go.Proofs.YtpjeecahaeaajaaGreatDoor
open Go.RowKit Rep
theorem Below.drew1 {B : Nat} {w W : World} (h : Below B w W) : Below B w W.drew := ⟨h.os, h.tape, h.output, h.size, h.block⟩
theorem boxes2 (w : World) (v1 v2 : Array Value) (t1 t2 : TypeId) : ∃ W0, W0 = ((w.alloc (.cells v1 t1)).alloc (.cells v2 t2)) ∧ Below w.heap.size w W0 ∧
    W0.heap[w.heap.size]? = some (.cells v1 t1 (0, 0)) ∧ W0.heap[w.heap.size + 1]? = some (.cells v2 t2 (0, 0)) ∧ W0.heap.size = w.heap.size + 1 + 1 := by
  refine ⟨_, rfl, ((Below.refl _ _).alloc (Nat.le_refl _) _).alloc (by simp) _, ?_, ?_, by simp⟩
  · rw [Below.heap_alloc _ _ _ (by simp)]; exact heap_alloc_new w _
  · simpa using heap_alloc_new (w.alloc (.cells v1 t1)) (.cells v2 t2)
set_option maxRecDepth 100000 in
set_option maxHeartbeats 1000000 in
theorem Fits_any {w : World} {s : Bool} {a1 a2 : Option Addr} {l1 c1 l2 c2 m : Nat} (h1 : l1 ≤ 30000000) (h2 : l2 ≤ 30000000) (hm : m ≤ 9223372036854775807) :
    Calls Tryz.prog 52 #[ratV s (.slice a1 l1 c1) (.slice a2 l2 c2), .int .i64 (m : Int)] w (GivesB (!(decide (m < l1) || decide (m < l2))) w) := by
  have HB := Lib.hid ((Below.refl w.heap.size w).alloc (Nat.le_refl _) (.cells #[.bool s, .slice a1 l1 c1, .slice a2 l2 c2] 27))
  unfold ratV
  by_cases c1 : m < l1
  · have e1 : decide ((l1 : Int) ≤ (m : Int)) = false := decide_eq_false (by omega)
    have e2 : decide (l1 ≤ m) = false := decide_eq_false (by omega)
    rw [decide_eq_true c1, Bool.true_or, Bool.not_true]
    clear c1
    go_enter Tryz.func52, Tryz.ntmps52
    go_wp2_with fail
    go_ret
    exact ⟨rfl, HB.out⟩
  · have e1 : decide ((l1 : Int) ≤ (m : Int)) = true := decide_eq_true (by omega)
    have e2 : decide (l1 ≤ m) = true := decide_eq_true (by omega)
    rw [decide_eq_false c1, Bool.false_or]
    clear c1
    by_cases c2 : m < l2
    · have e3 : decide ((l2 : Int) ≤ (m : Int)) = false := decide_eq_false (by omega)
      have e4 : decide (l2 ≤ m) = false := decide_eq_false (by omega)
      rw [decide_eq_true c2, Bool.not_true]
      clear c2
      go_enter Tryz.func52, Tryz.ntmps52
      go_wp2_with fail
      go_ret
      exact ⟨rfl, HB.out⟩
    · have e3 : decide ((l2 : Int) ≤ (m : Int)) = true := decide_eq_true (by omega)
      have e4 : decide (l2 ≤ m) = true := decide_eq_true (by omega)
      rw [decide_eq_false c2, Bool.not_false]
      clear c2
      go_enter Tryz.func52, Tryz.ntmps52
      go_wp2_with fail
      go_ret
      exact ⟨rfl, HB.out⟩
theorem addD_from {W0 : World} {ax ay : Option Addr} {cx cy n m : Nat} (hx : DAt W0 ax cx n) (hy : DAt W0 ay cy m) (lx : (D n).length ≤ 30000000) (ly : (D m).length ≤ 30000000) (W : World) (h : Below W0.heap.size W0 W) :
    Calls Tryz.prog 66 #[.slice ax (D n).length cx, .slice ay (D m).length cy] W (PostD W0 W (n + m)) := by
  refine (AddD_any ax ay cx cy n m W (hx.kept h) (hy.kept h) (by omega) (by omega)).mono ?_
  rintro e w' ⟨a, c, rfl, hd, hb, _⟩
  exact ⟨a, c, rfl, hd, h.trans (hb.mono h.size), hb⟩
theorem subD_from {W0 : World} {ax ay : Option Addr} {cx cy n m : Nat} (hx : DAt W0 ax cx n) (hy : DAt W0 ay cy m) (lx : (D n).length ≤ 30000000) (ly : (D m).length ≤ 30000000) (W : World) (h : Below W0.heap.size W0 W) :
    Calls Tryz.prog 68 #[.slice ax (D n).length cx, .slice ay (D m).length cy] W (PostD W0 W (n - m)) := by
  refine (SubD_any ax ay cx cy n m W (hx.kept h) (hy.kept h) (by omega) (by omega)).mono ?_
  rintro e w' ⟨a, c, rfl, hd, hb, _⟩
  exact ⟨a, c, rfl, hd, h.trans (hb.mono h.size), hb⟩
theorem cmpD_from {W0 : World} {ax ay : Option Addr} {cx cy n m : Nat} (hx : DAt W0 ax cx n) (hy : DAt W0 ay cy m) (lx : (D n).length ≤ 30000000) (ly : (D m).length ≤ 30000000) :
    Calls Tryz.prog 67 #[.slice ax (D n).length cx, .slice ay (D m).length cy] W0 (GivesInt (cmpI n m) W0) := by
  refine (CmpD_any ax ay cx cy n m W0 hx hy (by omega) (by omega)).mono ?_
  rintro e w' ⟨rfl, nd, rfl⟩
  exact ⟨rfl, Below.drewN' (Below.refl _ _) nd⟩
theorem D_add {n m a b : Nat} (h1 : (D n).length ≤ a) (h2 : (D m).length ≤ b) : (D (n + m)).length ≤ max a b + 1 := by
  rw [D_len] at *
  have p1 : 10 ^ a ≤ 10 ^ max a b := Nat.pow_le_pow_right (by omega) (by omega)
  have p2 : 10 ^ b ≤ 10 ^ max a b := Nat.pow_le_pow_right (by omega) (by omega)
  rw [Nat.pow_succ]
  omega
structure AddW (w : World) (x y : Rat) (A B M : Nat) (a1 : Option Addr) (c1 : Nat) (a2 : Option Addr) (c2 : Nat) (a3 : Option Addr) (c3 : Nat) (vx1 vx2 vy1 vy2 : Value) (W : World) : Prop where
  below : Below w.heap.size w W
  x : W.heap[w.heap.size]? = some (.cells #[.bool (ngQ x), vx1, vx2] 42 (0, 0))
  y : W.heap[w.heap.size + 1]? = some (.cells #[.bool (ngQ y), vy1, vy2] 42 (0, 0))
  r : W.heap[w.heap.size + 1 + 1]? = some (.cells #[.bool false, .slice none 0 0, .slice none 0 0] 42 (0, 0))
  a : DAt W a1 c1 A
  b : DAt W a2 c2 B
  m : DAt W a3 c3 M
set_option maxRecDepth 100000 in
set_option maxHeartbeats 8000000 in
theorem AddR_q {w : World} {x y : Rat} {ax bx ay by' : Option Addr} {cx ex cy ey : Nat} (hx : DgQ w ax cx bx ex x) (hy : DgQ w ay cy by' ey y) (lx : (D (mgQ x)).length ≤ 200000) (kx : (D x.den).length ≤ 200000) (ly : (D (mgQ y)).length ≤ 200000) (ky : (D y.den).length ≤ 200000) :
    Calls Tryz.prog 36 #[dV x ax cx bx ex, dV y ay cy by' ey] w (GivesDQ (x + y) w) := by
  obtain ⟨W0, hW0, hB0, b1, b2, b3, hs⟩ := boxes3 w #[.bool (ngQ x), .slice ax (D (mgQ x)).length cx, .slice bx (D x.den).length ex] #[.bool (ngQ y), .slice ay (D (mgQ y)).length cy, .slice by' (D y.den).length ey] #[.bool false, .slice none 0 0, .slice none 0 0] 42 42 42
  have hx0 := hx.kept hB0
  have hy0 := hy.kept hB0
  have m1 := D_mul lx ky
  have m2 := D_mul ly kx
  have m3 := D_mul kx ky
  have m4 := D_add m1 m2
  have hpos := Nat.mul_pos (den_pos x) (den_pos y)
  have HM1 := Lib.hid (mulD_from hx0.num hy0.den (by omega) (by omega) W0 (Below.refl _ _))
  have HM2 := Lib.hid (mulD_from hy0.num hx0.den (by omega) (by omega))
  have HM3 := Lib.hid (mulD_from hx0.den hy0.den (by omega) (by omega))
  have HK := Lib.hid (keep6 b1 b2)
  have HS : Hid (∀ W a1 c1 a2 c2 a3 c3, Below W0.heap.size W0 W → DAt W a1 c1 (mgQ x * y.den) → DAt W a2 c2 (mgQ y * x.den) → DAt W a3 c3 (x.den * y.den) → AddW w x y (mgQ x * y.den) (mgQ y * x.den) (x.den * y.den) a1 c1 a2 c2 a3 c3 (.slice ax (D (mgQ x)).length cx) (.slice bx (D x.den).length ex) (.slice ay (D (mgQ y)).length cy) (.slice by' (D y.den).length ey) W) := Lib.hid fun W a1 c1 a2 c2 a3 c3 hb d1 d2 d3 =>
    ⟨hB0.trans (hb.mono hB0.size), (hb.block _ (by omega)).trans b1, (hb.block _ (by omega)).trans b2, (hb.block _ (by omega)).trans b3, d1, d2, d3⟩
  have HQ := Lib.hid (sum_q x y)
  have HW0 := Lib.hid hW0
  have HL1 := Lib.hid m1
  have HL2 := Lib.hid m2
  have HL3 := Lib.hid m3
  have HL4 := Lib.hid m4
  have HP := Lib.hid hpos
  obtain ⟨k0, k1, k2, j0, j1, j2⟩ := cells3 b1
  obtain ⟨k3, k4, k5, j3, j4, j5⟩ := cells3 b2
  have hn1 : w.heap.size ≠ w.heap.size + 1 + 1 := by omega
  have hn2 : w.heap.size + 1 + 1 ≠ w.heap.size := by omega
  clear hW0 hB0 b1 b2 b3 hs hx hy hx0 hy0 m1 m2 m3 m4 lx kx ly ky hpos
  generalize mgQ x * y.den = A at *
  generalize mgQ y * x.den = B at *
  generalize x.den * y.den = M at *
  unfold dV ratV
  go_enter Tryz.func36, Tryz.ntmps36
  go_wp2_with fail
  rw [← HW0.out]
  refine HM1.out.mono ?_
  rintro e w1 ⟨a1, c1, rfl, d1, hb1, _⟩
  obtain ⟨k0, k1, k2, k3, k4, k5⟩ := HK.out _ hb1
  have HH1 := Lib.hid (And.intro d1 hb1)
  clear d1 hb1 HM1
  go_wp2_with fail
  refine (HM2.out _ HH1.out.2).mono ?_
  rintro e w2 ⟨a2, c2, rfl, d2, hb2, hl2⟩
  obtain ⟨k0, k1, k2, k3, k4, k5⟩ := HK.out _ hb2
  have HH2 := Lib.hid (And.intro (HH1.out.1.kept hl2) (And.intro d2 hb2))
  clear d2 hb2 hl2 HM2 HH1
  go_wp2_with fail
  refine (HM3.out _ HH2.out.2.2).mono ?_
  rintro e w3 ⟨a3, c3, rfl, d3, hb3, hl3⟩
  have HS3 := Lib.hid (HS.out w3 a1 c1 a2 c2 a3 c3 hb3 (HH2.out.1.kept hl3) (HH2.out.2.1.kept hl3) d3)
  clear d3 hb3 hl3 HM3 HH2 HS HK HW0
  clear k0 k1 k2 k3 k4 k5 j0 j1 j2 j3 j4 j5
  clear k0 k1 k2 k3 k4 k5
  clear k0 k1 k2 k3 k4 k5
  obtain ⟨k0, k1, k2, j0, j1, j2⟩ := cells3 HS3.out.x
  obtain ⟨k3, k4, k5, j3, j4, j5⟩ := cells3 HS3.out.y
  have HK := Lib.hid (keep6 HS3.out.x HS3.out.y)
  have HR := Lib.hid (keep3 HS3.out.r)
  have HFIN := Lib.hid (@fin_D w w3 (w.heap.size + 1 + 1) (x + y) _ HS3.out.below (by omega) HS3.out.r)
  generalize ngQ x = s at *
  generalize ngQ y = t at *
  by_cases hst : s = t
  · subst hst
    have e1 : sumS s A s B = s := by unfold sumS; rw [if_pos rfl]
    have e2 : sumN s A s B = A + B := by unfold sumN; rw [if_pos rfl]
    rw [e1, e2] at HQ
    have HA := Lib.hid (addD_from HS3.out.a HS3.out.b (by have := HL1.out; omega) (by have := HL2.out; omega))
    have HL := Lib.hid (@low_from w3 s (A + B) M HP.out (by have := HL4.out; omega) (by have := HL3.out; omega))
    rw [← HQ.out] at HL
    have HD3 := Lib.hid HS3.out.m
    clear e1 e2 HS3
    generalize A + B = N at *
    unfold dV ratV at HL
    go_wp2_with fail
    go_region_held3 (fun w' => w'.cell? ⟨w.heap.size, 0, none⟩ = some (.bool (s)) ∧ w'.cell? ⟨w.heap.size, 1, none⟩ = some (.slice ax (D (mgQ x)).length cx) ∧ w'.cell? ⟨w.heap.size, 2, none⟩ = some (.slice bx (D x.den).length ex) ∧ w'.cell? ⟨w.heap.size + 1, 0, none⟩ = some (.bool ( s)) ∧ w'.cell? ⟨w.heap.size + 1, 1, none⟩ = some (.slice ay (D (mgQ y)).length cy) ∧ w'.cell? ⟨w.heap.size + 1, 2, none⟩ = some (.slice by' (D y.den).length ey)) (first | exact HK.out _ hb7 | exact HK.out _ hb6 | exact HK.out _ hb5 | go_keep)
        (first
          | (go_at_call 66; (with_reducible refine (HA.out _ (below_drew _)).mono ?_); rintro e w6 ⟨a5, c5, rfl, d5, hb5, hl5⟩; have d3 := HD3.out.kept hb5)
          | (go_at_call 48; (with_reducible refine (HL.out _ _ _ _ _ hb5 d5 d3).mono ?_); rintro e w5 ⟨a7, c7, a8, c8, rfl, d7, hb7⟩; have HE := Lib.hid (HFIN.out _ _ _ _ _ d7 hb7); obtain ⟨m0, m1, m2, n0, n1, n2⟩ := HR.out _ hb7))
    clear HFIN HL HA HK HR HD3
    go_wp2_with fail
    exact bodyPost_ret (v := dV (x + y) a7 c7 a8 c8) (by simp [results, Tryz.results36, go_sem, dV, ratV, m0, m1, m2]) rfl HE.out
  · have hb : (s == t) = false := by simpa using hst
    have HC := Lib.hid (cmpD_from HS3.out.a HS3.out.b (by have := HL1.out; omega) (by have := HL2.out; omega))
    by_cases hlt : A < B
    · have e1 : sumS s A t B = t := by unfold sumS; rw [if_neg hst, if_pos hlt]
      have e2 : sumN s A t B = B - A := by unfold sumN; rw [if_neg hst, if_pos hlt]
      have hcm : cmpI (A : Int) (B : Int) = -1 := by unfold cmpI; rw [if_pos (by omega)]
      rw [e1, e2] at HQ
      rw [hcm] at HC
      have HA := Lib.hid (subD_from HS3.out.b HS3.out.a (by have := HL2.out; omega) (by have := HL1.out; omega))
      have HL := Lib.hid (@low_from w3 t (B - A) M HP.out (by have := HL2.out; have := D_mono (Nat.sub_le B A); omega) (by have := HL3.out; omega))
      rw [← HQ.out] at HL
      have HD3 := Lib.hid HS3.out.m
      clear e1 e2 HS3 hst hcm hlt
      generalize B - A = N at *
      unfold dV ratV at HL
      go_wp2_with fail
      refine HC.out.mono ?_
      rintro e w4 ⟨rfl, hbn⟩
      have hbd := Below.drew1 hbn
      obtain ⟨k0, k1, k2, k3, k4, k5⟩ := HK.out _ hbn
      go_wp2_with fail
      go_region_held3 (fun w' => w'.cell? ⟨w.heap.size, 0, none⟩ = some (.bool (s)) ∧ w'.cell? ⟨w.heap.size, 1, none⟩ = some (.slice ax (D (mgQ x)).length cx) ∧ w'.cell? ⟨w.heap.size, 2, none⟩ = some (.slice bx (D x.den).length ex) ∧ w'.cell? ⟨w.heap.size + 1, 0, none⟩ = some (.bool ( t)) ∧ w'.cell? ⟨w.heap.size + 1, 1, none⟩ = some (.slice ay (D (mgQ y)).length cy) ∧ w'.cell? ⟨w.heap.size + 1, 2, none⟩ = some (.slice by' (D y.den).length ey)) (first | exact HK.out _ hb7 | exact HK.out _ hb6 | exact HK.out _ hb5 | go_keep)
          (first
            | (go_at_call 68; (with_reducible refine (HA.out _ hbd).mono ?_); rintro e w6 ⟨a5, c5, rfl, d5, hb5, hl5⟩; have d3 := HD3.out.kept hb5)
            | (go_at_call 48; (with_reducible refine (HL.out _ _ _ _ _ hb5 d5 d3).mono ?_); rintro e w5 ⟨a7, c7, a8, c8, rfl, d7, hb7⟩; have HE := Lib.hid (HFIN.out _ _ _ _ _ d7 hb7); obtain ⟨m0, m1, m2, n0, n1, n2⟩ := HR.out _ hb7))
      clear HFIN HL HA HK HR HD3
      go_wp2_with fail
      exact bodyPost_ret (v := dV (x + y) a7 c7 a8 c8) (by simp [results, Tryz.results36, go_sem, dV, ratV, m0, m1, m2]) rfl HE.out
    · have e1 : sumS s A t B = s := by unfold sumS; rw [if_neg hst, if_neg hlt]
      have e2 : sumN s A t B = A - B := by unfold sumN; rw [if_neg hst, if_neg hlt]
      have hcm : cmpI (A : Int) (B : Int) = 0 ∨ cmpI (A : Int) (B : Int) = 1 := by
        unfold cmpI; rw [if_neg (by omega)]; by_cases h : (A : Int) = (B : Int)
        · rw [if_pos h]; exact .inl rfl
        · rw [if_neg h]; exact .inr rfl
      rw [e1, e2] at HQ
      have HA := Lib.hid (subD_from HS3.out.a HS3.out.b (by have := HL1.out; omega) (by have := HL2.out; omega))
      have HL := Lib.hid (@low_from w3 s (A - B) M HP.out (by have := HL1.out; have := D_mono (Nat.sub_le A B); omega) (by have := HL3.out; omega))
      rw [← HQ.out] at HL
      have HD3 := Lib.hid HS3.out.m
      clear e1 e2 HS3 hst hlt
      generalize A - B = N at *
      unfold dV ratV at HL
      rcases hcm with hcm | hcm
      all_goals
        rw [hcm] at HC
        clear hcm
        go_wp2_with fail
        refine HC.out.mono ?_
        rintro e w4 ⟨rfl, hbn⟩
        have hbd := Below.drew1 hbn
        obtain ⟨k0, k1, k2, k3, k4, k5⟩ := HK.out _ hbn
        go_wp2_with fail
        go_region_held3 (fun w' => w'.cell? ⟨w.heap.size, 0, none⟩ = some (.bool (s)) ∧ w'.cell? ⟨w.heap.size, 1, none⟩ = some (.slice ax (D (mgQ x)).length cx) ∧ w'.cell? ⟨w.heap.size, 2, none⟩ = some (.slice bx (D x.den).length ex) ∧ w'.cell? ⟨w.heap.size + 1, 0, none⟩ = some (.bool ( t)) ∧ w'.cell? ⟨w.heap.size + 1, 1, none⟩ = some (.slice ay (D (mgQ y)).length cy) ∧ w'.cell? ⟨w.heap.size + 1, 2, none⟩ = some (.slice by' (D y.den).length ey)) (first | exact HK.out _ hb7 | exact HK.out _ hb6 | exact HK.out _ hb5 | go_keep)
            (first
              | (go_at_call 68; (with_reducible refine (HA.out _ hbd).mono ?_); rintro e w6 ⟨a5, c5, rfl, d5, hb5, hl5⟩; have d3 := HD3.out.kept hb5)
              | (go_at_call 48; (with_reducible refine (HL.out _ _ _ _ _ hb5 d5 d3).mono ?_); rintro e w5 ⟨a7, c7, a8, c8, rfl, d7, hb7⟩; have HE := Lib.hid (HFIN.out _ _ _ _ _ d7 hb7); obtain ⟨m0, m1, m2, n0, n1, n2⟩ := HR.out _ hb7))
        clear HFIN HL HA HK HR HD3
        go_wp2_with fail
        exact bodyPost_ret (v := dV (x + y) a7 c7 a8 c8) (by simp [results, Tryz.results36, go_sem, dV, ratV, m0, m1, m2]) rfl HE.out
end Go.Proofs.YtpjeecahaeaajaaGreatDoor
