/- By program out of: LnTold. -/
import Derived.Test.YtpjeecahaeaajaaGreatDoorMcleleh
import Derived.Test.YtpjeecahaeaajaaGreatDoorMlacbfp
set_option linter.unusedVariables false
set_option linter.unusedSimpArgs false
namespace Go.Proofs.YtpjeecahaeaajaaGreatDoor
open Go.RowKit Rep Ln
structure Sd (W5 : World) (B P : Option Nat) (V : World → Prop) (W : World) : Prop where
 r : Below W5.heap.size W5 W
 b : ∀ g, B = some g → W5.heap.size ≤ g ∧ Bench W g 1000 false
 p : ∀ g, P = some g → W5.heap.size ≤ g ∧ W.heap[g]? = some (.cells #[.bool false, .slice none 0 0, .slice none 0 0] 42 (0, 0))
 v : ∀ W', Below W.heap.size W W' → V W'
section
variable {W5 W W' : World} {B P : Option Nat} {V V' : World → Prop}
theorem Sd.step (h : Sd W5 B P V W) (k : Below W.heap.size W W') (v : ∀ X, Below W'.heap.size W' X → V' X) : Sd W5 B P V' W' :=
 ⟨h.r.trans (k.mono h.r.size), fun g e => ⟨(h.b g e).1, (h.b g e).2.kept k⟩, fun g e => ⟨(h.p g e).1, stayL (h.p g e).2 k⟩, v⟩
theorem Sd.alloc (h : Sd W5 B none V W) : Sd W5 B (some W.heap.size) V (W.alloc (.cells #[.bool false, .slice none 0 0, .slice none 0 0] 42)) := by
 have k := (Below.refl W.heap.size W).alloc (Nat.le_refl _) (.cells #[.bool false, .slice none 0 0, .slice none 0 0] 42)
 have hs := h.step k (fun X hX => h.v X (k.trans (hX.mono k.size)))
 exact ⟨hs.r, hs.b, fun g e => by cases e; exact ⟨h.r.size, heap_alloc_new W _⟩, hs.v⟩
theorem sd_new (h : Sd W5 none P V W) : Calls Tryz.prog 13 #[.int .i64 1000] W (fun e W' => ∃ b, e = .returned (.pointer (some ⟨b, 0, none⟩)) ∧ Hid (Sd W5 (some b) P V W')) :=
 (new_high 1000 W (by omega) (by decide)).mono fun e W' hg => by
  obtain ⟨rfl, rfl⟩ := hg
  have k := (Below.refl W.heap.size W).alloc (Nat.le_refl _) (.cells #[.int .i64 ((1000 : Nat) : Int), .bool false] 70)
  have hs := h.step k (fun X hX => h.v X (k.trans (hX.mono k.size)))
  exact ⟨_, rfl, Lib.hid ⟨hs.r, fun g e => by cases e; exact ⟨h.r.size, heap_alloc_new W _⟩, hs.p, hs.v⟩⟩
theorem sd_of {q : Rat} {s : Bool} {z1 z2 : Option Addr} {m1 k1 m2 k2 : Nat} (hv : VQ q (s, (z1, m1, k1), (z2, m2, k2)) W5) (hs : szQ q ≤ 6) (h : Sd W5 B P (fun _ => True) W) :
    Calls Tryz.prog 14 #[.agg #[.bool s, .slice z1 m1 k1, .slice z2 m2 k2]] W (fun e W' => ∃ s z1 m1 k1 z2 m2 k2, e = .returned (.agg #[.bool s, .slice z1 m1 k1, .slice z2 m2 k2]) ∧ Hid (Sd W5 B P (VD q (s, (z1, m1, k1), (z2, m2, k2))) W')) :=
 (got_of (W5 := W) (hv.kept h.r) (by omega) (Below.refl _ _)).mono fun e W' hg => by
  obtain ⟨s, z1, m1, k1, z2, m2, k2, rfl, hb, hd⟩ := hg
  exact ⟨_, _, _, _, _, _, _, rfl, Lib.hid (h.step hb.out fun X hX => hd.out.kept hX)⟩
end
structure SdAt (W5 : World) (q : Rat) (i : Nat × Nat × RawR) (W : World) : Prop where
 r : Below W5.heap.size W5 W
 b : W5.heap.size ≤ i.1 ∧ Bench W i.1 1000 false
 p : W.heap[i.2.1]? = some (.cells #[.bool i.2.2.1, .slice i.2.2.2.1.1 i.2.2.2.1.2.1 i.2.2.2.1.2.2, .slice i.2.2.2.2.1 i.2.2.2.2.2.1 i.2.2.2.2.2.2] 42 (0, 0))
 num : VD q i.2.2 W
theorem sd_end {W5 W : World} {b D : Nat} {q : Rat} {s : Bool} {z1 z2 : Option Addr} {m1 k1 m2 k2 : Nat} (h : Sd W5 (some b) (some D) (VD q (s, (z1, m1, k1), (z2, m2, k2))) W) : SdAt W5 q (b, D, (s, (z1, m1, k1), (z2, m2, k2))) (set3 W D s (.slice z1 m1 k1) (.slice z2 m2 k2)) := by
 obtain ⟨p1, p2⟩ := h.p _ rfl
 obtain ⟨b1, b2⟩ := h.b _ rfl
 have hne : b ≠ D := by
  rintro rfl
  unfold Bench at b2
  rw [b2] at p2
  simp at p2
 have hg := set3_grown W D s (.slice z1 m1 k1) (.slice z2 m2 k2)
 refine ⟨h.r.grown hg h.r.size (fun j hj => by cases hj; exact p1), ⟨b1, b2.of_block (hg.block b b2.lt (by simpa using hne))⟩, set3_block p2 _ _ _, (h.v _ (Below.refl _ _)).set3L p2 _ _ _⟩
theorem Bench.apartD {w : World} {b m : Nat} {over : Bool} (h : Bench w b m over) (hm : 10 ≤ m) {a : Option Addr} {n : Nat} (hr : Reads w a ((D n).map i64v)) :
    (D n).map i64v = [] ∨ ∀ g off, a = some ⟨g, off, none⟩ → some g ≠ some b := by
 rcases hr with hr | ⟨g, off, rfl, hr⟩
 ·exact .inl hr
 ·by_cases e : D n = []
  ·exact .inl (by simp [e])
  ·refine .inr fun g' off' hg hb => ?_
   simp at hg hb
   obtain ⟨rfl, rfl⟩ := hg
   subst hb
   have h0 := hr 0 _ (map_getElem? (xs := D n) (f := i64v) (List.length_pos_iff.2 e))
   have hd : (D n).getD 0 0 < 10 := Dig.getD (rep_dig (by omega) n) 0 (by omega)
   rw [List.getD_eq_getElem?_getD] at hd
   unfold Bench at h
   simp only [World.cell?, h] at h0
   rcases off with _ | _ | off
   ·simp [i64v] at h0
    omega
   ·simp [i64v] at h0
   ·simp at h0
theorem VD.bench {q : Rat} {v : RawR} {W W' : World} {b m : Nat} {o : Bool} (h : VD q v W) (hb : Bench W b m o) (hm : 10 ≤ m) (hg : W.grownBy W' (some b)) : VD q v W' :=
 ⟨h.e0, h.e1, h.e2, ⟨⟨h.lies.num.1.grown hg (hb.apartD hm h.lies.num.1), h.lies.num.2⟩, ⟨h.lies.den.1.grown hg (hb.apartD hm h.lies.den.1), h.lies.den.2⟩⟩⟩
theorem VD.benchL {q : Rat} {v : RawR} {W W' : World} {b : Nat} (h : VD q v W) (hb : Bench W b 1000 false) (hg : W.grownBy W' (some b)) : VD q v W' := h.bench hb (by omega) hg
theorem radd_sm {w : World} {k c1 c2 : Rat} {ms1 ms2 : List Mo} {ps : Bool} {pa pb : Option Addr} {pl pc pk pe : Nat} {ks : Bool} {ka kb : Option Addr} {kl kc kk ke : Nat} {qs : Bool} {qa qb : Option Addr} {ql qc qk qe : Nat} {a1 a2 : Option Addr} {cp1 cp2 n1 n2 : Nat} {rs1 rs2 : List RM}
    (hp : PolyAt c1 ms1 (ps, (pa, pl, pc), (pb, pk, pe)) a1 rs1 w) (hk : VD k (ks, (ka, kl, kc), (kb, kk, ke)) w) (hq : PolyAt c2 ms2 (qs, (qa, ql, qc), (qb, qk, qe)) a2 rs2 w) (zk : szQ k ≤ 6) (z1 : szQ c1 ≤ 6) (zm1 : ∀ x ∈ ms1, szQ x.2 ≤ 6) (z2 : szQ c2 ≤ 6) (zm2 : ∀ x ∈ ms2, szQ x.2 ≤ 6) (hn1 : n1 ≤ 12) (hn2 : n2 ≤ 12) (e1 : rs1.length = n1) (e2 : rs2.length = n2) :
    Calls Tryz.prog 17 #[.agg #[.bool ps, .slice pa pl pc, .slice pb pk pe, .slice a1 n1 cp1], .agg #[.bool ks, .slice ka kl kc, .slice kb kk ke], .agg #[.bool qs, .slice qa ql qc, .slice qb qk qe, .slice a2 n2 cp2]] w (GotR w (c1 + k * c2) (refAdd ms1 k ms2)) := by
 subst e1 e2
 exact RAdd_any hp hk hq (by omega) (by omega) (fun x hx => by have := zm1 x hx; omega) (by omega) (fun x hx => by have := zm2 x hx; omega) (by omega) (by omega)
theorem same_dec {w : World} {c1 c2 : Rat} {ms1 ms2 : List Mo} {ps : Bool} {pa pb : Option Addr} {pl pc pk pe : Nat} {qs : Bool} {qa qb : Option Addr} {ql qc qk qe : Nat} {a1 a2 : Option Addr} {cp1 cp2 n1 n2 : Nat} {rs1 rs2 : List RM} {d : Bool}
    (hp : PolyAt c1 ms1 (ps, (pa, pl, pc), (pb, pk, pe)) a1 rs1 w) (hq : PolyAt c2 ms2 (qs, (qa, ql, qc), (qb, qk, qe)) a2 rs2 w) (z1 : szQ c1 ≤ 100) (zm : ∀ x ∈ ms1, szQ x.2 ≤ 100) (hn1 : ms1.length ≤ 100) (hn2 : ms2.length ≤ 100) (e1 : rs1.length = n1) (e2 : rs2.length = n2) (he : decide (c1 = c2 ∧ ms1 = ms2) = d) :
    Calls Tryz.prog 15 #[.agg #[.bool ps, .slice pa pl pc, .slice pb pk pe, .slice a1 n1 cp1], .agg #[.bool qs, .slice qa ql qc, .slice qb qk qe, .slice a2 n2 cp2]] w (GivesV (.bool d) w) := by
 subst e1 e2 he
 exact RSame_any (cp1 := cp1) (cp2 := cp2) hp hq (by omega) (fun x hx => by have := zm x hx; omega) (by have := hp.ms.len; omega) (by have := hq.ms.len; omega)
theorem got_formL {W5 W : World} {q : Rat} {s : Bool} {z1 z2 : Option Addr} {m1 k1 m2 k2 : Nat} (h : VD q (s, (z1, m1, k1), (z2, m2, k2)) W) (hq : szQ q ≤ 1000) (hb : Below W5.heap.size W5 W) :
    Calls Tryz.prog 24 #[.agg #[.bool s, .slice z1 m1 k1, .slice z2 m2 k2]] W (GotQ W5 q) := by
 obtain ⟨e1, d1⟩ := h.eq
 obtain ⟨l1, l2⟩ := dl_q hq
 rw [e1]
 exact (d1.form (by omega) (by omega)).mono fun e W' h => h.got hb
theorem bad_last {n j : Nat} {ms : List Mo} {x : Mo} (hf : Fit ms) (h0 : ∀ y ∈ ms, 0 ≤ y.1) (hx : ms[j]? = some x) (hl : ms.length = j + 1) : badM n ms = decide ((n : Int) ≤ x.1) := by
 have hmax : ∀ y ∈ ms, y.1 ≤ x.1 := fun y hy => by
  obtain ⟨i, hi⟩ := List.getElem?_of_mem hy
  obtain ⟨hi1, hi2⟩ := List.getElem?_eq_some_iff.1 hi
  obtain ⟨hj1, hj2⟩ := List.getElem?_eq_some_iff.1 hx
  rcases Nat.lt_or_ge i j with h | h
  ·have := List.pairwise_iff_getElem.1 hf.up i j hi1 hj1 h
   rw [hi2, hj2] at this
   omega
  ·have : i = j := by omega
   subst this
   rw [← hi2, ← hj2]
   exact Int.le_refl _
 have hm := List.mem_of_getElem? hx
 cases hd : decide ((n : Int) ≤ x.1)
 ·unfold badM
  rw [List.any_eq_false]
  intro y hy
  have h1 := of_decide_eq_false hd
  have h2 := hmax y hy
  have h3 := h0 y hy
  unfold badV
  rw [decide_eq_false (by omega), decide_eq_false (by omega)]
  simp
 ·unfold badM
  rw [List.any_eq_true]
  refine ⟨x, hm, ?_⟩
  unfold badV
  rw [hd]
  simp
theorem one_small (v : Int) : ∀ x ∈ [((v, 1) : Mo)], szQ x.2 ≤ 100 := by
 intro x hx
 rw [List.mem_singleton.1 hx]
 have : szQ (1 : Rat) ≤ 2 := by decide +kernel
 show szQ (1 : Rat) ≤ 100
 omega
structure ToI where
 t : RawR
 tm : Option Addr
 tl : Nat
 tn : Nat
 r : RawR
 rm : Option Addr
 rl : Nat
 rn : Nat
 u : RawR
 um : Option Addr
 ul : Nat
 un : Nat
 v : RawR
 vm : Option Addr
 vl : Nat
 vn : Nat
 x90 : Value
 x91 : Value
 x92 : Value
 x93 : Value
 x94 : Value
 x95 : Value
 x96 : Value
 x97 : Value
 x98 : Value
 x99 : Value
 x100 : Value
theorem one_poly12 {W : World} {B : Nat} {v : Int} {s : Bool} {z1 z2 : Option Addr} {m1 k1 m2 k2 : Nat} (h : W.heap[B]? = some (.cells #[.int .i64 v, .bool s, .slice z1 m1 k1, .slice z2 m2 k2] 51 (0, 0))) (hv : VQ (qI 1) (s, (z1, m1, k1), (z2, m2, k2)) W) :
    PolyAt 0 [(v, 1)] (false, (none, 0, 0), (none, 0, 0)) (some ⟨B, 0, none⟩) [⟨v, s, z1, m1, k1, z2, m2, k2⟩] W := by
 rw [qI_one] at hv
 refine ⟨VQ.zero _, ⟨.inr ⟨_, 0, rfl, fun k d hd j u hu => ?_⟩, rfl, fun k d m hd hm => ?_⟩⟩
 ·rcases k with _ | k
  ·simp at hd; subst hd
   rcases j with _ | _ | _ | _ | j <;> simp [RM.cells] at hu <;> subst hu <;> simp [World.cell?, h]
  ·simp at hd
 ·rcases k with _ | k
  ·simp at hd hm; subst hd hm
   exact ⟨rfl, hv⟩
  ·simp at hd
set_option maxRecDepth 100000 in
set_option maxHeartbeats 16000000 in
theorem told12_walk {w : World} {ps qs ks : Bool} {pa pb pm qa qb qm ka kb ra : Option Addr} {pc pe pn qc qe qn kc ke rc : Nat} {px pd qx qd kx kd : List Nat} {phs qhs : List HM} {rhs : List HQ} {uv : Int}
    (hp : HandPo w (⟨ps, pa, pc, px, pb, pe, pd, pm, pn, phs⟩ : HPo)) (hq : HandPo w (⟨qs, qa, qc, qx, qb, qe, qd, qm, qn, qhs⟩ : HPo)) (hk : HandPo w (⟨ks, ka, kc, kx, kb, ke, kd, none, 0, []⟩ : HPo)) (hr : HQs w ra rhs) (hT : Tab w) :
    Calls Tryz.prog 3 #[.agg #[.bool ps, .slice pa px.length pc, .slice pb pd.length pe, .slice pm phs.length pn], .agg #[.bool qs, .slice qa qx.length qc, .slice qb qd.length qe, .slice qm qhs.length qn], .agg #[.bool ks, .slice ka kx.length kc, .slice kb kd.length ke], .slice ra rhs.length rc, .int .i64 uv] w (Holds w) := by
 obtain ⟨rn, hrn⟩ : ∃ n, rhs.length = n := ⟨_, rfl⟩
 have HRN := Lib.hid hrn
 rw [hrn]
 clear hrn
 obtain ⟨W0, hW0, hB0, b0, b1, b2, hsz⟩ := boxes3 w #[.bool ps, .slice pa px.length pc, .slice pb pd.length pe, .slice pm phs.length pn] #[.bool qs, .slice qa qx.length qc, .slice qb qd.length qe, .slice qm qhs.length qn] #[.bool ks, .slice ka kx.length kc, .slice kb kd.length ke] 30 30 27
 have HSP := Lib.hid (speaks12 (hT.kept hB0))
 have HW0 := Lib.hid hW0
 have HTH : Hid (Three W0 w.heap.size #[.bool ps, .slice pa px.length pc, .slice pb pd.length pe, .slice pm phs.length pn] #[.bool qs, .slice qa qx.length qc, .slice qb qd.length qe, .slice qm qhs.length qn] #[.bool ks, .slice ka kx.length kc, .slice kb kd.length ke]) := Lib.hid ⟨b0, b1, b2⟩
 have HSZ := Lib.hid hsz
 have HB0 := Lib.hid (And.intro hB0 (hT.kept hB0))
 have HP := Lib.hid (hp.kept hB0)
 have HHQ := Lib.hid (hq.kept hB0)
 have HHK := Lib.hid (hk.kept hB0)
 have HRR := Lib.hid (hr.kept hB0)
 obtain ⟨p0, p1, p2, p3, q0, q1, q2, q3, r0, r1, r2⟩ := cells11 b0 b1 b2
 rw [hW0] at p0 p1 p2 p3 q0 q1 q2 q3 r0 r1 r2
 clear hW0 hB0 b0 b1 b2 hsz hp hq hk hr hT
 go_enter Tryz.func3, Tryz.ntmps3
 go_wp2_with fail
 rw [← HW0.out]
 refine HSP.out.mono ?_
 rintro e w1 ⟨rfl, hb1⟩
 clear p0 p1 p2 p3 q0 q1 q2 q3 r0 r1 r2
 have hth := HTH.out.kept hb1
 obtain ⟨p0, p1, p2, p3, q0, q1, q2, q3, r0, r1, r2⟩ := cells11 hth.1 hth.2.1 hth.2.2
 have HB1 := Lib.hid hb1
 clear hb1 HSP hth
 by_cases hpl : 50 < phs.length
 ·have hl1 : decide ((50 : Int) < (phs.length : Int)) = true := decide_eq_true (by omega)
  have hl2 : (50 : Int) < (phs.length : Int) := by omega
  have HE := Lib.hid (HB0.out.1.trans (HB1.out.mono HB0.out.1.size))
  go_wp2_with fail
  go_ret
  exact ⟨rfl, HE.out⟩
 have hl1 : decide ((50 : Int) < (phs.length : Int)) = false := decide_eq_false (by omega)
 have hl2 : ¬ (50 : Int) < (phs.length : Int) := by omega
 by_cases hlen : 50 < rn
 ·have hl3 : decide ((50 : Int) < (rn : Int)) = true := decide_eq_true (by omega)
  have hl4 : (50 : Int) < (rn : Int) := by omega
  have HE := Lib.hid (HB0.out.1.trans (HB1.out.mono HB0.out.1.size))
  go_wp2_with fail
  go_ret
  exact ⟨rfl, HE.out⟩
 have hl3 : decide ((50 : Int) < (rn : Int)) = false := decide_eq_false (by omega)
 have hl4 : ¬ (50 : Int) < (rn : Int) := by omega
 obtain ⟨pr, hpr⟩ : ∃ x, rightP ps px pd phs = x := ⟨_, rfl⟩
 have HKS : Hid (∀ W, Below w1.heap.size w1 W → W.cell? ⟨w.heap.size, 0, none⟩ = some (.bool ps) ∧ W.cell? ⟨w.heap.size, 1, none⟩ = some (.slice pa px.length pc) ∧ W.cell? ⟨w.heap.size, 2, none⟩ = some (.slice pb pd.length pe) ∧ W.cell? ⟨w.heap.size, 3, none⟩ = some (.slice pm phs.length pn)) := Lib.hid fun W h => by
  obtain ⟨x0, x1, x2, x3, _⟩ := cellsL4 (stayL (HTH.out.kept HB1.out).1 h)
  exact ⟨x0, x1, x2, x3⟩
 have HR1 : Hid (∀ W, Below w1.heap.size w1 W → Calls Tryz.prog 8 #[.agg #[.bool ps, .slice pa px.length pc, .slice pb pd.length pe, .slice pm phs.length pn]] W (GivesV (.bool pr) W)) := Lib.hid fun W h => by
  have hh := HB1.out.trans (h.mono HB1.out.size)
  have := PRight_any (ps := ps) (cp := pn) (HB0.out.2.kept hh) (HP.out.kept hh).num HP.out.lx HP.out.ld (HP.out.kept hh).ms (by show phs.length ≤ _; omega)
  rw [← hpr]
  exact this
 have HR2 : Hid (∀ W, Below w1.heap.size w1 W → Calls Tryz.prog 9 #[.agg #[.bool ps, .slice pa px.length pc, .slice pb pd.length pe, .slice pm phs.length pn]] W (GivesV (.bool pr) W)) := Lib.hid fun W h => by
  have hh := HB1.out.trans (h.mono HB1.out.size)
  have := RRight_any (ps := ps) (cp := pn) (HP.out.kept hh).num HP.out.lx HP.out.ld (HP.out.kept hh).ms (by show phs.length ≤ _; omega)
  rw [← hpr]
  exact this
 have HL := Lib.hid (And.intro hpl hlen)
 clear hpr hpl hlen
 go_wp2_with fail
 clear p0 p1 p2 p3 q0 q1 q2 q3 r0 r1 r2 hl1 hl2 hl3 hl4
 refine wp_region_ex (ι := Unit) (fun i => [(28, .agg #[.bool ps, .slice pa px.length pc, .slice pb pd.length pe, .slice pm phs.length pn]), (29, .bool pr), (30, .agg #[.bool ps, .slice pa px.length pc, .slice pb pd.length pe, .slice pm phs.length pn]), (31, .bool pr), (32, .bool false)]) (fun _ W => Below w1.heap.size w1 W) ?reg5 ?rest5
 case reg5 =>
  have hI : Hid (Below w1.heap.size w1 w1.drew) := Lib.hid (below_drew w1)
  obtain ⟨wl, hw0⟩ : ∃ X, X = w1.drew := ⟨_, rfl⟩
  rw [← hw0] at hI
  refine wp_region_held_drew (S := (fun w' => w'.cell? ⟨w.heap.size, 0, none⟩ = some (.bool ps) ∧ w'.cell? ⟨w.heap.size, 1, none⟩ = some (.slice pa px.length pc) ∧ w'.cell? ⟨w.heap.size, 2, none⟩ = some (.slice pb pd.length pe) ∧ w'.cell? ⟨w.heap.size, 3, none⟩ = some (.slice pm phs.length pn))) (by kernel_rfl) ?_ (fun hHeld => ?_)
  rotate_left 1
  rw [← hw0] at hHeld ⊢; clear hw0
  rotate_left 1
  ·rw [← hw0]; exact HKS.out _ hI.out
  refine tkV 0 hHeld ?_
  try simp only [Act.put, zA, zB, zC, zD, zE, zF]
  refine tkV 2 hHeld ?_
  try simp only [Act.put, zA, zB, zC, zD, zE, zF]
  refine rdy [1] ?_
  refine AllReadyH.cons (by rfl) (fun K hK => ?_) AllReadyH.nil
  go_simp
  refine (HR1.out _ hI.out).mono ?_
  rintro e wl ⟨rfl, hb⟩
  replace hI := Lib.hid (hI.out.trans (hb.mono hI.out.size))
  clear hb
  refine hK.out _ _ ?_ (fun hHeld => ?_)
  ·exact HKS.out _ hI.out
  clear hK K
  try simp only [Act.put, zA, zB, zC, zD, zE, zF]
  refine rdy [3] ?_
  refine AllReadyH.cons (by rfl) (fun K hK => ?_) AllReadyH.nil
  go_simp
  refine (HR2.out _ hI.out).mono ?_
  rintro e wl ⟨rfl, hb⟩
  replace hI := Lib.hid (hI.out.trans (hb.mono hI.out.size))
  clear hb
  refine hK.out _ _ ?_ (fun hHeld => ?_)
  ·exact HKS.out _ hI.out
  clear hK K
  try simp only [Act.put, zA, zB, zC, zD, zE, zF]
  refine tkV 4 hHeld ?_
  try simp only [Act.put, zA, zB, zC, zD, zE, zF]
  refine wpAnyH_done (by kernel_rfl) ?_ _
  have hE := Lib.hid hI.out
  exact ⟨(), by simp only [puts, Act.put, zA, zB, zC, zD, zE, zF] <;> simp, hE.out⟩
 rintro ⟨⟩ w2 hS
 simp only [puts, Act.put, zA, zB, zC, zD, zE, zF]
 have HB2 := Lib.hid (HB1.out.trans (hS.mono HB1.out.size))
 have hth := HTH.out.kept HB2.out
 obtain ⟨p0, p1, p2, p3, q0, q1, q2, q3, r0, r1, r2⟩ := cells11 hth.1 hth.2.1 hth.2.2
 have hal := (Below.refl w2.heap.size w2).alloc (Nat.le_refl _) (.cells #[.bool ps, .slice pa px.length pc, .slice pb pd.length pe, .slice pm phs.length pn, .bool qs, .slice qa qx.length qc, .slice qb qd.length qe, .slice qm qhs.length qn, .bool ks, .slice ka kx.length kc, .slice kb kd.length ke, .slice none 0 0] 30)
 have hb3 := HB2.out.trans (hal.mono HB2.out.size)
 have HB3 := Lib.hid hb3
 have HOD := Lib.hid (Odd12_any w2.heap.size 3 [(⟨ps, pa, pc, px, pb, pe, pd, pm, pn, phs⟩ : HPo), (⟨qs, qa, qc, qx, qb, qe, qd, qm, qn, qhs⟩ : HPo), (⟨ks, ka, kc, kx, kb, ke, kd, none, 0, []⟩ : HPo)] (w2.alloc (.cells #[.bool ps, .slice pa px.length pc, .slice pb pd.length pe, .slice pm phs.length pn, .bool qs, .slice qa qx.length qc, .slice qb qd.length qe, .slice qm qhs.length qn, .bool ks, .slice ka kx.length kc, .slice kb kd.length ke, .slice none 0 0] 30)) (pols3 (heap_alloc_new w2 _)) (by
  intro p hp
  simp only [List.mem_cons, List.not_mem_nil, or_false] at hp
  rcases hp with rfl | rfl | rfl
  ·exact HP.out.kept hb3
  ·exact HHQ.out.kept hb3
  ·exact HHK.out.kept hb3) (by simp) (by simp))
 clear hal hb3 hth hS HKS HR1 HR2
 cases hodd : [(⟨ps, pa, pc, px, pb, pe, pd, pm, pn, phs⟩ : HPo), (⟨qs, qa, qc, qx, qb, qe, qd, qm, qn, qhs⟩ : HPo), (⟨ks, ka, kc, kx, kb, ke, kd, none, 0, []⟩ : HPo)].any oddPo
 case true =>
  rw [hodd] at HOD
  clear hodd
  go_wp2_with fail
  refine HOD.out.mono ?_
  rintro e w3 ⟨rfl, hb⟩
  have HE := Lib.hid (HB0.out.1.trans ((HB3.out.trans (hb.mono HB3.out.size)).mono HB0.out.1.size))
  clear hb HOD p0 p1 p2 p3 q0 q1 q2 q3 r0 r1 r2
  go_wp2_with fail
  go_ret
  exact ⟨rfl, HE.out⟩
 case false =>
 rw [hodd] at HOD
 obtain ⟨o1, o2, o3⟩ : oddPo (⟨ps, pa, pc, px, pb, pe, pd, pm, pn, phs⟩ : HPo) = false ∧ oddPo (⟨qs, qa, qc, qx, qb, qe, qd, qm, qn, qhs⟩ : HPo) = false ∧ oddPo (⟨ks, ka, kc, kx, kb, ke, kd, none, 0, []⟩ : HPo) = false := by
  simp only [List.any_cons, List.any_nil, Bool.or_false, Bool.or_eq_false_iff] at hodd
  exact hodd
 have HS1 := Lib.hid (not_odd12 HP.out o1)
 have HS2 := Lib.hid (not_odd12 HHQ.out o2)
 have HS3 := Lib.hid (not_odd12 HHK.out o3)
 clear hodd o1 o2 o3
 go_wp2_with fail
 refine HOD.out.mono ?_
 rintro e w3 ⟨rfl, hb⟩
 have hb3 := HB3.out.trans (hb.mono HB3.out.size)
 have HGR := Lib.hid (GreatO_any (rc := rc) (HRR.out.kept hb3) HRN.out (by have := HL.out; omega))
 have HB4 := Lib.hid hb3
 clear hb hb3 HOD HB3 p0 p1 p2 p3 q0 q1 q2 q3 r0 r1 r2
 cases hgr : greatB (rhs.map HQ.raw)
 case true =>
  rw [hgr] at HGR
  clear hgr
  go_wp2_with fail
  refine HGR.out.mono ?_
  rintro e w4 ⟨rfl, hb⟩
  have HE := Lib.hid (HB0.out.1.trans ((HB4.out.trans (hb.mono HB4.out.size)).mono HB0.out.1.size))
  clear hb HGR
  go_wp2_with fail
  go_ret
  exact ⟨rfl, HE.out⟩
 case false =>
 rw [hgr] at HGR
 have HGF := Lib.hid hgr
 clear hgr
 go_wp2_with fail
 refine HGR.out.mono ?_
 rintro e w4 ⟨rfl, hb⟩
 have HB5 := Lib.hid (HB4.out.trans (hb.mono HB4.out.size))
 clear hb HGR HB4
 go_wp2_with fail
 go_loopw [45] (fun (iv : Value) (wr : World) => ∃ k : Nat, k ≤ rn ∧ iv = .int .i64 (k : Int) ∧ Hid (∀ d ∈ rhs.take k, d.right = true) ∧ Hid (Below W0.heap.size W0 wr)) (fun iv _ => rn - (intOf iv).toNat)
 case atStart => exact ⟨0, Nat.zero_le _, rfl, Lib.hid (by simp), HB5⟩
 case round =>
  obtain ⟨k, hkn, rfl, HE0, HBr⟩ := hrel
  by_cases hlt : k < rn
  ·obtain ⟨s, a1, c1, xs, a2, c2, ds, g, off, hd, rfl, hnum, d0, d1, d2⟩ := HRR.out.get (k := k) (by rw [HRN.out]; exact hlt)
   have HG := Lib.hid hd
   have hbr := HBr.out
   have e0 := cell_stay d0 hbr
   have e1 := cell_stay d1 hbr
   have e2 := cell_stay d2 hbr
   have hal := (Below.refl wr.heap.size wr).alloc (Nat.le_refl _) (.cells #[.bool s, .slice a1 xs.length c1, .slice a2 ds.length c2] 27)
   have hba := hbr.trans (hal.mono hbr.size)
   have HRC := Lib.hid (right_hand (s := s) (hnum.1.kept hba) hnum.2.1 hnum.2.2)
   have HBA := Lib.hid hba
   have hki : (k : Int) < (rn : Int) := by have := HL.out; omega
   have hiw : wrap64 ((k : Int) + 1) = (k : Int) + 1 := IntWalk.wrap64_in _ (by have := HL.out; omega)
   clear hd hbr hal hba hnum d0 d1 d2
   cases hrt : rightB s xs ds with
   | false =>
    rw [hrt] at HRC
    clear hrt
    go_wp2_with fail
    refine HRC.out.mono ?_
    rintro e w5 ⟨rfl, hb⟩
    have HE := Lib.hid (HB0.out.1.trans ((HBA.out.trans (hb.mono HBA.out.size)).mono HB0.out.1.size))
    clear hb HRC e0 e1 e2
    go_wp2_with fail
    go_ret
    exact ⟨rfl, HE.out⟩
   | true =>
    rw [hrt] at HRC
    have HV := Lib.hid (right_take HG.out HE0.out hrt)
    clear hrt
    go_wp2_with fail
    refine HRC.out.mono ?_
    rintro e w5 ⟨rfl, hb⟩
    have HB6 := Lib.hid (HBA.out.trans (hb.mono HBA.out.size))
    clear hb HRC e0 e1 e2
    go_wp2_with fail
    go_roundw
    case rel => exact ⟨k + 1, by omega, by go_num, HV, HB6⟩
    case measure => first | exact measure_next hiw hlt | exact measure_next rfl hlt
  ·obtain rfl : k = rn := by omega
   have hall : ∀ d ∈ rhs, d.right = true := by
    have := HE0.out
    rwa [List.take_of_length_le (by have := HRN.out; omega)] at this
   obtain ⟨rr, rqs, hrl, hrs, hrz⟩ := HRR.out.rs hall HGF.out
   obtain ⟨c1, ms1, rs1, e1, hp1, f1, z1, zm1, n1, np1, v1⟩ := HS1.out.plain
   obtain ⟨c2, ms2, rs2, e2, hp2, f2, z2, zm2, n2, -, v2⟩ := HS2.out.plain
   obtain ⟨kq, hkq, zk⟩ := HS3.out.plainK
   obtain ⟨f, hf⟩ : ∃ f, atQ rqs = f := ⟨_, rfl⟩
   have hfs : ∀ v, szQ (f v) ≤ 6 := by rw [← hf]; exact atQ_sz hrz
   have hrl2 : rr.length = k := by rw [hrl]; exact HRN.out
   have HF := Lib.hid (And.intro hf (And.intro hfs (And.intro hrl2 (And.intro hrz hkn))))
   have HZ := Lib.hid (And.intro zk (And.intro z1 (And.intro zm1 (And.intro z2 (And.intro zm2 (And.intro n1 (And.intro n2 (And.intro e1 (And.intro e2 (And.intro f1 (And.intro f2 (And.intro v1 (And.intro v2 np1)))))))))))))
   have hbr := HBr.out
   have HPS := Lib.hid (And.intro (hp1.kept hbr) (And.intro (hp2.kept hbr) (And.intro (hkq.kept hbr) (hrs.kept hbr))))
   have HKV := Lib.hid (hkq.kept hbr)
   have HZK := Lib.hid zk
   have HTR := Lib.hid (HTH.out.kept hbr)
   have HTab := Lib.hid (HB0.out.2.kept hbr)
   have HBW0 := Lib.hid (HB0.out.1.trans (hbr.mono HB0.out.1.size))
   have HKS : Hid (∀ W, Below wr.heap.size wr W → W.cell? ⟨w.heap.size + 1 + 1, 0, none⟩ = some (.bool ks) ∧ W.cell? ⟨w.heap.size + 1 + 1, 1, none⟩ = some (.slice ka kx.length kc) ∧ W.cell? ⟨w.heap.size + 1 + 1, 2, none⟩ = some (.slice kb kd.length ke)) := Lib.hid fun W h => by
    obtain ⟨x0, x1, x2, _⟩ := cells3 (stayL HTR.out.2.2 h)
    exact ⟨x0, x1, x2⟩
   have HLT0 : Hid (w.heap.size + 1 + 1 < wr.heap.size ∧ w.heap.size ≤ wr.heap.size) := Lib.hid (by have := hbr.size; have := HSZ.out; omega)
   clear hall hrl hrs hrz hf hfs hrl2 hp1 hp2 hkq zk z1 zm1 z2 zm2 n1 n2 e1 e2 f1 f2 v1 v2 np1 HS1 HS2 HS3 HP HHQ HHK HRR HE0 HGF HB5 hlt HB1 HB2 hbr HTH HBr HSZ
   go_wp2_with fail
   refine wp_region_ex (ι := Nat × Nat × RawR) (fun i => [(53, .pointer (some ⟨i.1, 0, none⟩)), (54, .agg #[.bool ks, .slice ka kx.length kc, .slice kb kd.length ke]), (55, .agg #[.bool i.2.2.1, .slice i.2.2.2.1.1 i.2.2.2.1.2.1 i.2.2.2.1.2.2, .slice i.2.2.2.2.1 i.2.2.2.2.2.1 i.2.2.2.2.2.2]), (14, .pointer (some ⟨i.2.1, 0, none⟩)), (13, .pointer (some ⟨i.1, 0, none⟩))]) (SdAt wr kq) ?reg15 ?rest15
   case reg15 =>
    have hI : Hid (Sd wr none none (fun _ => True) wr.drew) := Lib.hid (⟨below_drew wr, by simp, by simp, fun _ _ => trivial⟩)
    obtain ⟨wl, hw0⟩ : ∃ X, X = wr.drew := ⟨_, rfl⟩
    rw [← hw0] at hI
    refine wp_region_held_drew (S := (fun w' => w'.cell? ⟨w.heap.size + 1 + 1, 0, none⟩ = some (.bool ks) ∧ w'.cell? ⟨w.heap.size + 1 + 1, 1, none⟩ = some (.slice ka kx.length kc) ∧ w'.cell? ⟨w.heap.size + 1 + 1, 2, none⟩ = some (.slice kb kd.length ke))) (by kernel_rfl) ?_ (fun hHeld => ?_)
    rotate_left 1
    rw [← hw0] at hHeld ⊢; clear hw0
    rotate_left 1
    ·rw [← hw0]; exact HKS.out _ hI.out.r
    refine tkV 1 hHeld ?_
    try simp only [Act.put, zA, zB, zC, zD, zE, zF]
    refine rdy [0, 3] ?_
    refine AllReadyH.cons (by rfl) (fun K hK => ?_) ?_
    ·go_simp
     refine (sd_new hI.out).mono ?_
     clear hI
     rintro e wl ⟨b, rfl, hI⟩
     refine hK.out _ _ ?_ (fun hHeld => ?_)
     ·exact HKS.out _ hI.out.r
     clear hK K
     try simp only [Act.put, zA, zB, zC, zD, zE, zF]
     refine rdy [2, 3] ?_
     refine AllReadyH.cons (by rfl) (fun K hK => ?_) ?_
     ·go_simp
      refine (sd_of HKV.out HZK.out hI.out).mono ?_
      clear hI
      rintro e wl ⟨ds, da, dl, dc, db, dk, de, rfl, hI⟩
      refine hK.out _ _ ?_ (fun hHeld => ?_)
      ·exact HKS.out _ hI.out.r
      clear hK K
      try simp only [Act.put, zA, zB, zC, zD, zE, zF]
      refine rdy [3] ?_
      refine AllReadyH.cons (by rfl) (fun K hK => ?_) AllReadyH.nil
      go_simp
      replace hI := Lib.hid hI.out.alloc
      obtain ⟨wz, hw⟩ : ∃ X, X = wl.alloc (.cells #[.bool false, .slice none 0 0, .slice none 0 0] 42) := ⟨_, rfl⟩
      rw [← hw] at hI ⊢; clear hw; generalize wl.heap.size = D at hI ⊢
      obtain ⟨wl, hw⟩ : ∃ X, X = wz := ⟨_, rfl⟩; rw [← hw] at hI ⊢; clear hw
      refine hK.out _ _ ?_ (fun hHeld => ?_)
      ·exact HKS.out _ hI.out.r
      clear hK K
      try simp only [Act.put, zA, zB, zC, zD, zE, zF]
      refine tkV 4 hHeld ?_
      try simp only [Act.put, zA, zB, zC, zD, zE, zF]
      refine rdy [5] ?_
      refine AllReadyH.cons (by rfl) (fun K hK => ?_) AllReadyH.nil
      obtain ⟨x0, x1, x2, f0, f1, f2⟩ := cells3 (hI.out.p _ rfl).2
      go_simp
      change K _ (set3 wl D ds (.slice da dl dc) (.slice db dk de))
      clear x0 x1 x2 f0 f1 f2
      have hE := Lib.hid (sd_end hI.out)
      clear hI
      refine hK.out _ _ ?_ (fun hHeld => ?_)
      ·exact HKS.out _ hE.out.r
      clear hK K
      try simp only [Act.put, zA, zB, zC, zD, zE, zF]
      refine wpAnyH_done (by kernel_rfl) ?_ _
      exact ⟨(b, D, (ds, (da, dl, dc), (db, dk, de))), by simp only [puts, Act.put, zA, zB, zC, zD, zE, zF], hE.out⟩
     refine AllReadyH.cons (by rfl) (fun K hK => ?_) ?_
     ·go_simp
      replace hI := Lib.hid hI.out.alloc
      obtain ⟨wz, hw⟩ : ∃ X, X = wl.alloc (.cells #[.bool false, .slice none 0 0, .slice none 0 0] 42) := ⟨_, rfl⟩
      rw [← hw] at hI ⊢; clear hw; generalize wl.heap.size = D at hI ⊢
      obtain ⟨wl, hw⟩ : ∃ X, X = wz := ⟨_, rfl⟩; rw [← hw] at hI ⊢; clear hw
      refine hK.out _ _ ?_ (fun hHeld => ?_)
      ·exact HKS.out _ hI.out.r
      clear hK K
      try simp only [Act.put, zA, zB, zC, zD, zE, zF]
      refine rdy [2] ?_
      refine AllReadyH.cons (by rfl) (fun K hK => ?_) AllReadyH.nil
      go_simp
      refine (sd_of HKV.out HZK.out hI.out).mono ?_
      clear hI
      rintro e wl ⟨ds, da, dl, dc, db, dk, de, rfl, hI⟩
      refine hK.out _ _ ?_ (fun hHeld => ?_)
      ·exact HKS.out _ hI.out.r
      clear hK K
      try simp only [Act.put, zA, zB, zC, zD, zE, zF]
      refine tkV 4 hHeld ?_
      try simp only [Act.put, zA, zB, zC, zD, zE, zF]
      refine rdy [5] ?_
      refine AllReadyH.cons (by rfl) (fun K hK => ?_) AllReadyH.nil
      obtain ⟨x0, x1, x2, f0, f1, f2⟩ := cells3 (hI.out.p _ rfl).2
      go_simp
      change K _ (set3 wl D ds (.slice da dl dc) (.slice db dk de))
      clear x0 x1 x2 f0 f1 f2
      have hE := Lib.hid (sd_end hI.out)
      clear hI
      refine hK.out _ _ ?_ (fun hHeld => ?_)
      ·exact HKS.out _ hE.out.r
      clear hK K
      try simp only [Act.put, zA, zB, zC, zD, zE, zF]
      refine wpAnyH_done (by kernel_rfl) ?_ _
      exact ⟨(b, D, (ds, (da, dl, dc), (db, dk, de))), by simp only [puts, Act.put, zA, zB, zC, zD, zE, zF], hE.out⟩
     exact AllReadyH.nil
    refine AllReadyH.cons (by rfl) (fun K hK => ?_) ?_
    ·go_simp
     replace hI := Lib.hid hI.out.alloc
     obtain ⟨wz, hw⟩ : ∃ X, X = wl.alloc (.cells #[.bool false, .slice none 0 0, .slice none 0 0] 42) := ⟨_, rfl⟩
     rw [← hw] at hI ⊢; clear hw; generalize wl.heap.size = D at hI ⊢
     obtain ⟨wl, hw⟩ : ∃ X, X = wz := ⟨_, rfl⟩; rw [← hw] at hI ⊢; clear hw
     refine hK.out _ _ ?_ (fun hHeld => ?_)
     ·exact HKS.out _ hI.out.r
     clear hK K
     try simp only [Act.put, zA, zB, zC, zD, zE, zF]
     refine rdy [0] ?_
     refine AllReadyH.cons (by rfl) (fun K hK => ?_) AllReadyH.nil
     go_simp
     refine (sd_new hI.out).mono ?_
     clear hI
     rintro e wl ⟨b, rfl, hI⟩
     refine hK.out _ _ ?_ (fun hHeld => ?_)
     ·exact HKS.out _ hI.out.r
     clear hK K
     try simp only [Act.put, zA, zB, zC, zD, zE, zF]
     refine rdy [2] ?_
     refine AllReadyH.cons (by rfl) (fun K hK => ?_) AllReadyH.nil
     go_simp
     refine (sd_of HKV.out HZK.out hI.out).mono ?_
     clear hI
     rintro e wl ⟨ds, da, dl, dc, db, dk, de, rfl, hI⟩
     refine hK.out _ _ ?_ (fun hHeld => ?_)
     ·exact HKS.out _ hI.out.r
     clear hK K
     try simp only [Act.put, zA, zB, zC, zD, zE, zF]
     refine tkV 4 hHeld ?_
     try simp only [Act.put, zA, zB, zC, zD, zE, zF]
     refine rdy [5] ?_
     refine AllReadyH.cons (by rfl) (fun K hK => ?_) AllReadyH.nil
     obtain ⟨x0, x1, x2, f0, f1, f2⟩ := cells3 (hI.out.p _ rfl).2
     go_simp
     change K _ (set3 wl D ds (.slice da dl dc) (.slice db dk de))
     clear x0 x1 x2 f0 f1 f2
     have hE := Lib.hid (sd_end hI.out)
     clear hI
     refine hK.out _ _ ?_ (fun hHeld => ?_)
     ·exact HKS.out _ hE.out.r
     clear hK K
     try simp only [Act.put, zA, zB, zC, zD, zE, zF]
     refine wpAnyH_done (by kernel_rfl) ?_ _
     exact ⟨(b, D, (ds, (da, dl, dc), (db, dk, de))), by simp only [puts, Act.put, zA, zB, zC, zD, zE, zF], hE.out⟩
    exact AllReadyH.nil
   rintro ⟨b, D, ⟨ds, ⟨da, dl, dc⟩, ⟨db, dk, de⟩⟩⟩ w6 hS
   simp only [puts, Act.put, zA, zB, zC, zD, zE, zF]
   have hbr6 := hS.r
   have hr6 : BR b 1000 false w6 w6 := BR.refl hS.b.2 (HTab.out.kept hbr6)
   have HR6 := Lib.hid hr6
   have HLT : Hid (w.heap.size + 1 + 1 < b) := Lib.hid (by have := hS.b.1; have := HLT0.out; omega)
   have HT6 := Lib.hid (HTR.out.kept hbr6)
   have HP6 := Lib.hid (And.intro (HPS.out.1.kept hbr6) (And.intro (HPS.out.2.1.kept hbr6) (And.intro (HPS.out.2.2.1.kept hbr6) (And.intro (HPS.out.2.2.2.kept hbr6) hS.num))))
   have HBW : Hid (Below w.heap.size w w6 ∧ w.heap.size ≤ b ∧ w.heap.size ≤ w6.heap.size) := Lib.hid ⟨HBW0.out.trans (hbr6.mono HBW0.out.size), by have := HLT.out; omega, by have := HLT0.out; have := hbr6.size; omega⟩
   have hDb : D ≠ b := by
    rintro rfl
    have h1 := hS.b.2
    have h2 := hS.p
    unfold Bench at h1
    rw [h1] at h2
    simp at h2
   have HDB := Lib.hid (And.intro hS.p hDb)
   clear HKS hS hbr6 hr6 hDb HKV HPS
   have HW : Hid (∀ W, BR b 1000 false w6 W → PolyAt c1 ms1 (ps, (pa, px.length, pc), (pb, pd.length, pe)) pm rs1 W ∧ PolyAt c2 ms2 (qs, (qa, qx.length, qc), (qb, qd.length, qe)) qm rs2 W ∧ VQ kq (ks, (ka, kx.length, kc), (kb, kd.length, ke)) W ∧ VD kq (ds, (da, dl, dc), (db, dk, de)) W) := Lib.hid fun W h =>
    ⟨HP6.out.1.bench HR6.out.bench h, HP6.out.2.1.bench HR6.out.bench h, HP6.out.2.2.1.benchL HR6.out.bench h.g, HP6.out.2.2.2.2.benchL HR6.out.bench h.g⟩
   have HKS : Hid (∀ W, BR b 1000 false w6 W → (W.cell? ⟨w.heap.size, 0, none⟩ = some (.bool ps) ∧ W.cell? ⟨w.heap.size, 1, none⟩ = some (.slice pa px.length pc) ∧ W.cell? ⟨w.heap.size, 2, none⟩ = some (.slice pb pd.length pe) ∧ W.cell? ⟨w.heap.size, 3, none⟩ = some (.slice pm phs.length pn)) ∧ (W.cell? ⟨w.heap.size + 1, 0, none⟩ = some (.bool qs) ∧ W.cell? ⟨w.heap.size + 1, 1, none⟩ = some (.slice qa qx.length qc) ∧ W.cell? ⟨w.heap.size + 1, 2, none⟩ = some (.slice qb qd.length qe) ∧ W.cell? ⟨w.heap.size + 1, 3, none⟩ = some (.slice qm qhs.length qn)) ∧ (W.cell? ⟨w.heap.size + 1 + 1, 0, none⟩ = some (.bool ks) ∧ W.cell? ⟨w.heap.size + 1 + 1, 1, none⟩ = some (.slice ka kx.length kc) ∧ W.cell? ⟨w.heap.size + 1 + 1, 2, none⟩ = some (.slice kb kd.length ke)) ∧ (W.cell? ⟨D, 0, none⟩ = some (.bool ds) ∧ W.cell? ⟨D, 1, none⟩ = some (.slice da dl dc) ∧ W.cell? ⟨D, 2, none⟩ = some (.slice db dk de))) := Lib.hid fun W h => by
    have hth := HT6.out.bench h HLT.out
    obtain ⟨p0, p1, p2, p3, q0, q1, q2, q3, r0, r1, r2⟩ := cells11 hth.1 hth.2.1 hth.2.2
    obtain ⟨d0, d1, d2, _⟩ := cells3 (h.block HDB.out.1 HDB.out.2)
    exact ⟨⟨p0, p1, p2, p3⟩, ⟨q0, q1, q2, q3⟩, ⟨r0, r1, r2⟩, d0, d1, d2⟩
   obtain ⟨dv, hdv⟩ : ∃ d, decide (c1 = c2 ∧ ms1 = ms2) = d := ⟨_, rfl⟩
   have HDV := Lib.hid hdv
   clear hdv
   have HA4 : Hid (∀ W, BR b 1000 false w6 W → Calls Tryz.prog 16 #[.pointer (some ⟨b, 0, none⟩), .agg #[.bool ps, .slice pa px.length pc, .slice pb pd.length pe, .slice pm phs.length pn], .agg #[.bool ks, .slice ka kx.length kc, .slice kb kd.length ke], .agg #[.bool qs, .slice qa qx.length qc, .slice qb qd.length qe, .slice qm qhs.length qn]] W (GotP b 1000 false W (c1 + kq * c2) (merge ms1 (scale kq ms2)))) := Lib.hid fun W h => by
    obtain ⟨zk, z1, zm1, z2, zm2, n1, n2, e1, e2, f1, f2, v1, v2, np1⟩ := HZ.out
    have := add_sm (cp1 := pn) (cp2 := qn) h.bench h.tab (HW.out W h).1 (HW.out W h).2.2.1 (HW.out W h).2.1 zk z1 zm1 z2 zm2 n1 n2 e1 e2
    rwa [add_all zk z1 zm1 z2 zm2 f1 f2] at this
   have HA8 : Hid (∀ W, BR b 1000 false w6 W → Calls Tryz.prog 17 #[.agg #[.bool ps, .slice pa px.length pc, .slice pb pd.length pe, .slice pm phs.length pn], .agg #[.bool ds, .slice da dl dc, .slice db dk de], .agg #[.bool qs, .slice qa qx.length qc, .slice qb qd.length qe, .slice qm qhs.length qn]] W (GotR W (c1 + kq * c2) (refAdd ms1 kq ms2))) := Lib.hid fun W h => by
    obtain ⟨zk, z1, zm1, z2, zm2, n1, n2, e1, e2, f1, f2, v1, v2, np1⟩ := HZ.out
    exact radd_sm (cp1 := pn) (cp2 := qn) (HW.out W h).1 (HW.out W h).2.2.2 (HW.out W h).2.1 zk z1 zm1 z2 zm2 n1 n2 e1 e2
   have HA9 : Hid (∀ W s z1 m1 k1 z2 m2 k2 a rs cp t y1 n1 j1 y2 n2 j2 a2 rs2 cp2, BR b 1000 false w6 W → PolyAt (leftQ false (c1 + kq * c2)) (leftM false (merge ms1 (scale kq ms2))) (s, (z1, m1, k1), (z2, m2, k2)) a rs W → PolyAt (c1 + kq * c2) (refAdd ms1 kq ms2) (t, (y1, n1, j1), (y2, n2, j2)) a2 rs2 W → Calls Tryz.prog 15 #[.agg #[.bool s, .slice z1 m1 k1, .slice z2 m2 k2, .slice a (List.length rs) cp], .agg #[.bool t, .slice y1 n1 j1, .slice y2 n2 j2, .slice a2 (List.length rs2) cp2]] W (GivesV (.bool true) W)) := Lib.hid fun W s z1 m1 k1 z2 m2 k2 a rs cp t y1 n1 j1 y2 n2 j2 a2 rs2 cp2 h h1 h2 => by
    obtain ⟨zk, z1, zm1, z2, zm2, n1, n2, e1, e2, f1, f2, v1, v2, np1⟩ := HZ.out
    have hm := merge_ref f1 f2 kq
    exact same_sm (poly_left h1) h2 (by have := addC_sz zk z1 z2; omega) (fun y hy => by rw [hm] at hy; have := refAdd_sz zk zm1 zm2 y hy; omega) (by rw [hm]; have := addR_len (k := kq) f1 f2; omega) (by have := addR_len (k := kq) f1 f2; omega) rfl rfl ⟨rfl, hm⟩
   have HA15 : Hid (∀ W, BR b 1000 false w6 W → Calls Tryz.prog 18 #[.pointer (some ⟨b, 0, none⟩), .agg #[.bool ks, .slice ka kx.length kc, .slice kb kd.length ke], .agg #[.bool ps, .slice pa px.length pc, .slice pb pd.length pe, .slice pm phs.length pn]] W (GotP b 1000 false W (kq * c1) (scale kq ms1))) := Lib.hid fun W h => by
    obtain ⟨zk, z1, zm1, z2, zm2, n1, n2, e1, e2, f1, f2, v1, v2, np1⟩ := HZ.out
    exact scale_sm (cp := pn) h.bench h.tab (HW.out W h).2.2.1 (HW.out W h).1 zk z1 zm1 n1 e1
   have HA19 : Hid (∀ W, BR b 1000 false w6 W → Calls Tryz.prog 17 #[.agg #[.bool false, .slice none 0 0, .slice none 0 0, .slice none 0 0], .agg #[.bool ds, .slice da dl dc, .slice db dk de], .agg #[.bool ps, .slice pa px.length pc, .slice pb pd.length pe, .slice pm phs.length pn]] W (GotR W (0 + kq * c1) (refAdd [] kq ms1))) := Lib.hid fun W h => by
    obtain ⟨zk, z1, zm1, z2, zm2, n1, n2, e1, e2, f1, f2, v1, v2, np1⟩ := HZ.out
    exact radd_sm (cp1 := 0) (cp2 := pn) (zero_at W) (HW.out W h).2.2.2 (HW.out W h).1 zk (by rw [szQ_zero]; omega) (by simp) z1 zm1 (by omega) n1 rfl e1
   have HA20 : Hid (∀ W s z1 m1 k1 z2 m2 k2 a rs cp t y1 n1 j1 y2 n2 j2 a2 rs2 cp2, BR b 1000 false w6 W → PolyAt (leftQ false (kq * c1)) (leftM false (scale kq ms1)) (s, (z1, m1, k1), (z2, m2, k2)) a rs W → PolyAt (0 + kq * c1) (refAdd [] kq ms1) (t, (y1, n1, j1), (y2, n2, j2)) a2 rs2 W → Calls Tryz.prog 15 #[.agg #[.bool s, .slice z1 m1 k1, .slice z2 m2 k2, .slice a (List.length rs) cp], .agg #[.bool t, .slice y1 n1 j1, .slice y2 n2 j2, .slice a2 (List.length rs2) cp2]] W (GivesV (.bool true) W)) := Lib.hid fun W s z1 m1 k1 z2 m2 k2 a rs cp t y1 n1 j1 y2 n2 j2 a2 rs2 cp2 h h1 h2 => by
    obtain ⟨zk, z1, zm1, z2, zm2, n1, n2, e1, e2, f1, f2, v1, v2, np1⟩ := HZ.out
    have hm := scale_ref f1 kq
    rw [← hm, Rat.zero_add] at h2
    exact same_sm (poly_left h1) h2 (by have := szQ_mul kq c1; omega) (fun y hy => by have := scale_sz zk zm1 y hy; omega) (by have := scale_len kq ms1; omega) (by have := scale_len kq ms1; omega) rfl rfl ⟨rfl, rfl⟩
   have HA26 : Hid (∀ W, BR b 1000 false w6 W → Calls Tryz.prog 19 #[.agg #[.bool ps, .slice pa px.length pc, .slice pb pd.length pe, .slice pm phs.length pn], .agg #[.bool qs, .slice qa qx.length qc, .slice qb qd.length qe, .slice qm qhs.length qn]] W (GivesV (.bool dv) W)) := Lib.hid fun W h => by
    obtain ⟨zk, z1, zm1, z2, zm2, n1, n2, e1, e2, f1, f2, v1, v2, np1⟩ := HZ.out
    have := PSame_any (cp1 := pn) (cp2 := qn) (HW.out W h).1 (HW.out W h).2.1 (by omega) (by omega) (fun y hy => by have := zm1 y hy; omega) (fun y hy => by have := zm2 y hy; omega) e1 e2 (by omega)
    rwa [HDV.out] at this
   have HA29 : Hid (∀ W, BR b 1000 false w6 W → Calls Tryz.prog 15 #[.agg #[.bool ps, .slice pa px.length pc, .slice pb pd.length pe, .slice pm phs.length pn], .agg #[.bool qs, .slice qa qx.length qc, .slice qb qd.length qe, .slice qm qhs.length qn]] W (GivesV (.bool dv) W)) := Lib.hid fun W h => by
    obtain ⟨zk, z1, zm1, z2, zm2, n1, n2, e1, e2, f1, f2, v1, v2, np1⟩ := HZ.out
    exact same_dec (cp1 := pn) (cp2 := qn) (HW.out W h).1 (HW.out W h).2.1 (by omega) (fun y hy => by have := zm1 y hy; omega) (by omega) (by omega) e1 e2 HDV.out
   have HA43 : Hid (∀ W a d B c0, BR b 1000 false w6 W → PolyAt 0 [((uv : Int), (1 : Rat))] (false, (none, 0, 0), (none, 0, 0)) a [d] W → PolyAt 0 [((uv : Int), (1 : Rat))] (false, (none, 0, 0), (none, 0, 0)) (some ⟨B, 0, none⟩) [c0] W → Calls Tryz.prog 15 #[.agg #[.bool false, .slice none 0 0, .slice none 0 0, .slice a 1 1], .agg #[.bool false, .slice none 0 0, .slice none 0 0, .slice (some ⟨B, 0, none⟩) 1 1]] W (GivesV (.bool true) W)) := Lib.hid fun W a d B c0 h h1 h2 =>
    same_sm h1 h2 (by rw [szQ_zero]; omega) (one_small uv) (by simp) (by simp) rfl rfl ⟨rfl, rfl⟩
   go_wp2_with fail
   refine wp_region_ex (ι := ToI) (fun i => [(56, .pointer (some ⟨b, 0, none⟩)), (57, .agg #[.bool ps, .slice pa px.length pc, .slice pb pd.length pe, .slice pm phs.length pn]), (58, .agg #[.bool ks, .slice ka kx.length kc, .slice kb kd.length ke]), (59, .agg #[.bool qs, .slice qa qx.length qc, .slice qb qd.length qe, .slice qm qhs.length qn]), (60, .agg #[.bool i.t.1, .slice i.t.2.1.1 i.t.2.1.2.1 i.t.2.1.2.2, .slice i.t.2.2.1 i.t.2.2.2.1 i.t.2.2.2.2, .slice i.tm i.tl i.tn]), (61, .agg #[.bool ps, .slice pa px.length pc, .slice pb pd.length pe, .slice pm phs.length pn]), (62, .agg #[.bool ds, .slice da dl dc, .slice db dk de]), (63, .agg #[.bool qs, .slice qa qx.length qc, .slice qb qd.length qe, .slice qm qhs.length qn]), (64, .agg #[.bool i.r.1, .slice i.r.2.1.1 i.r.2.1.2.1 i.r.2.1.2.2, .slice i.r.2.2.1 i.r.2.2.2.1 i.r.2.2.2.2, .slice i.rm i.rl i.rn]), (65, .bool true), (66, .bool false), (67, .bool false), (68, .pointer (some ⟨b, 0, none⟩)), (69, .agg #[.bool ks, .slice ka kx.length kc, .slice kb kd.length ke]), (70, .agg #[.bool ps, .slice pa px.length pc, .slice pb pd.length pe, .slice pm phs.length pn]), (71, .agg #[.bool i.u.1, .slice i.u.2.1.1 i.u.2.1.2.1 i.u.2.1.2.2, .slice i.u.2.2.1 i.u.2.2.2.1 i.u.2.2.2.2, .slice i.um i.ul i.un]), (72, .agg #[.bool false, .slice none 0 0, .slice none 0 0, .slice none 0 0]), (73, .agg #[.bool ds, .slice da dl dc, .slice db dk de]), (74, .agg #[.bool ps, .slice pa px.length pc, .slice pb pd.length pe, .slice pm phs.length pn]), (75, .agg #[.bool i.v.1, .slice i.v.2.1.1 i.v.2.1.2.1 i.v.2.1.2.2, .slice i.v.2.2.1 i.v.2.2.2.1 i.v.2.2.2.2, .slice i.vm i.vl i.vn]), (76, .bool true), (77, .bool false), (78, .bool false), (79, .bool false), (80, .agg #[.bool ps, .slice pa px.length pc, .slice pb pd.length pe, .slice pm phs.length pn]), (81, .agg #[.bool qs, .slice qa qx.length qc, .slice qb qd.length qe, .slice qm qhs.length qn]), (82, .bool dv), (83, .agg #[.bool ps, .slice pa px.length pc, .slice pb pd.length pe, .slice pm phs.length pn]), (84, .agg #[.bool qs, .slice qa qx.length qc, .slice qb qd.length qe, .slice qm qhs.length qn]), (85, .bool dv), (86, .bool false), (87, .bool false), (88, .bool false), (89, .int .i64 uv), (90, i.x90), (91, i.x91), (92, i.x92), (93, i.x93), (94, i.x94), (95, i.x95), (96, i.x96), (97, i.x97), (98, i.x98), (99, i.x99), (100, i.x100), (101, .bool false), (102, .bool false)]) (fun _ W => BR b 1000 false w6 W) ?reg16 ?rest16
   case reg16 =>
    have hI : Hid (BR b 1000 false w6 w6.drew) := Lib.hid (HR6.out.kept (below_drew w6))
    obtain ⟨wl, hw0⟩ : ∃ X, X = w6.drew := ⟨_, rfl⟩
    rw [← hw0] at hI
    refine wp_region_held_drew (S := (fun w' => (w'.cell? ⟨w.heap.size, 0, none⟩ = some (.bool ps) ∧ w'.cell? ⟨w.heap.size, 1, none⟩ = some (.slice pa px.length pc) ∧ w'.cell? ⟨w.heap.size, 2, none⟩ = some (.slice pb pd.length pe) ∧ w'.cell? ⟨w.heap.size, 3, none⟩ = some (.slice pm phs.length pn)) ∧ (w'.cell? ⟨w.heap.size + 1, 0, none⟩ = some (.bool qs) ∧ w'.cell? ⟨w.heap.size + 1, 1, none⟩ = some (.slice qa qx.length qc) ∧ w'.cell? ⟨w.heap.size + 1, 2, none⟩ = some (.slice qb qd.length qe) ∧ w'.cell? ⟨w.heap.size + 1, 3, none⟩ = some (.slice qm qhs.length qn)) ∧ (w'.cell? ⟨w.heap.size + 1 + 1, 0, none⟩ = some (.bool ks) ∧ w'.cell? ⟨w.heap.size + 1 + 1, 1, none⟩ = some (.slice ka kx.length kc) ∧ w'.cell? ⟨w.heap.size + 1 + 1, 2, none⟩ = some (.slice kb kd.length ke)) ∧ (w'.cell? ⟨D, 0, none⟩ = some (.bool ds) ∧ w'.cell? ⟨D, 1, none⟩ = some (.slice da dl dc) ∧ w'.cell? ⟨D, 2, none⟩ = some (.slice db dk de)))) (by kernel_rfl) ?_ (fun hHeld => ?_)
    rotate_left 1
    rw [← hw0] at hHeld ⊢; clear hw0
    rotate_left 1
    ·rw [← hw0]; exact HKS.out _ hI.out
    refine tkV 0 hHeld ?_
    try simp only [Act.put, zA, zB, zC, zD, zE, zF]
    refine tkV 1 hHeld ?_
    try simp only [Act.put, zA, zB, zC, zD, zE, zF]
    refine tkV 2 hHeld ?_
    try simp only [Act.put, zA, zB, zC, zD, zE, zF]
    refine tkV 3 hHeld ?_
    try simp only [Act.put, zA, zB, zC, zD, zE, zF]
    refine tkV 5 hHeld ?_
    try simp only [Act.put, zA, zB, zC, zD, zE, zF]
    refine tkV 6 hHeld ?_
    try simp only [Act.put, zA, zB, zC, zD, zE, zF]
    refine tkV 7 hHeld ?_
    try simp only [Act.put, zA, zB, zC, zD, zE, zF]
    refine rdy [4] ?_
    refine AllReadyH.cons (by rfl) (fun K hK => ?_) AllReadyH.nil
    go_simp
    refine (HA4.out _ hI.out).mono ?_
    rintro e wl ⟨ts, ta, tl, tc, tb, tk, te, tm, tn, tr, rfl, hr, ht, -, -, -⟩
    have hO := hI
    replace hI := Lib.hid (hO.out.trans hr.out)
    clear hr hO
    refine hK.out _ _ ?_ (fun hHeld => ?_)
    ·exact HKS.out _ hI.out
    clear hK K
    try simp only [Act.put, zA, zB, zC, zD, zE, zF]
    refine rdy [8] ?_
    refine AllReadyH.cons (by rfl) (fun K hK => ?_) AllReadyH.nil
    go_simp
    refine (HA8.out _ hI.out).mono ?_
    rintro e wl ⟨rs, ra, rl, rc, rb, rk, re, rm, rn, rr, rfl, hb, hr⟩
    replace ht := Lib.hid (ht.out.kept hb.out)
    replace hI := Lib.hid (hI.out.kept hb.out)
    clear hb
    refine hK.out _ _ ?_ (fun hHeld => ?_)
    ·exact HKS.out _ hI.out
    clear hK K
    try simp only [Act.put, zA, zB, zC, zD, zE, zF]
    refine rdy [9] ?_
    refine AllReadyH.cons (by rfl) (fun K hK => ?_) AllReadyH.nil
    go_simp
    refine (HA9.out _ _ _ _ _ _ _ _ _ _ _ _ _ _ _ _ _ _ _ _ _ hI.out ht.out hr.out).mono ?_
    rintro e wl ⟨rfl, hb9⟩
    have hb := Lib.hid hb9
    clear hb9
    clear ht hr
    replace hI := Lib.hid (hI.out.kept hb.out)
    clear hb
    refine hK.out _ _ ?_ (fun hHeld => ?_)
    ·exact HKS.out _ hI.out
    clear hK K
    try simp only [Act.put, zA, zB, zC, zD, zE, zF]
    refine tkV 10 hHeld ?_
    try simp only [Act.put, zA, zB, zC, zD, zE, zF]
    refine tkV 11 hHeld ?_
    try simp only [Act.put, zA, zB, zC, zD, zE, zF]
    refine tkV 12 hHeld ?_
    try simp only [Act.put, zA, zB, zC, zD, zE, zF]
    refine tkV 13 hHeld ?_
    try simp only [Act.put, zA, zB, zC, zD, zE, zF]
    refine tkV 14 hHeld ?_
    try simp only [Act.put, zA, zB, zC, zD, zE, zF]
    refine tkV 16 hHeld ?_
    try simp only [Act.put, zA, zB, zC, zD, zE, zF]
    refine tkV 17 hHeld ?_
    try simp only [Act.put, zA, zB, zC, zD, zE, zF]
    refine tkV 18 hHeld ?_
    try simp only [Act.put, zA, zB, zC, zD, zE, zF]
    refine rdy [15] ?_
    refine AllReadyH.cons (by rfl) (fun K hK => ?_) AllReadyH.nil
    go_simp
    refine (HA15.out _ hI.out).mono ?_
    rintro e wl ⟨us, ua, ul, uc, ub, uk, ue, um, un, ur, rfl, hr, hu, -, -, -⟩
    have hO := hI
    replace hI := Lib.hid (hO.out.trans hr.out)
    clear hr hO
    refine hK.out _ _ ?_ (fun hHeld => ?_)
    ·exact HKS.out _ hI.out
    clear hK K
    try simp only [Act.put, zA, zB, zC, zD, zE, zF]
    refine rdy [19] ?_
    refine AllReadyH.cons (by rfl) (fun K hK => ?_) AllReadyH.nil
    go_simp
    refine (HA19.out _ hI.out).mono ?_
    rintro e wl ⟨vs, va, vl, vc, vb, vk, ve, vm, vn, vr, rfl, hb, hv⟩
    replace hu := Lib.hid (hu.out.kept hb.out)
    replace hI := Lib.hid (hI.out.kept hb.out)
    clear hb
    refine hK.out _ _ ?_ (fun hHeld => ?_)
    ·exact HKS.out _ hI.out
    clear hK K
    try simp only [Act.put, zA, zB, zC, zD, zE, zF]
    refine rdy [20] ?_
    refine AllReadyH.cons (by rfl) (fun K hK => ?_) AllReadyH.nil
    go_simp
    refine (HA20.out _ _ _ _ _ _ _ _ _ _ _ _ _ _ _ _ _ _ _ _ _ hI.out hu.out hv.out).mono ?_
    rintro e wl ⟨rfl, hb9⟩
    have hb := Lib.hid hb9
    clear hb9
    clear hu hv
    replace hI := Lib.hid (hI.out.kept hb.out)
    clear hb
    refine hK.out _ _ ?_ (fun hHeld => ?_)
    ·exact HKS.out _ hI.out
    clear hK K
    try simp only [Act.put, zA, zB, zC, zD, zE, zF]
    refine tkV 21 hHeld ?_
    try simp only [Act.put, zA, zB, zC, zD, zE, zF]
    refine tkV 22 hHeld ?_
    try simp only [Act.put, zA, zB, zC, zD, zE, zF]
    refine tkV 23 hHeld ?_
    try simp only [Act.put, zA, zB, zC, zD, zE, zF]
    refine tkV 24 hHeld ?_
    try simp only [Act.put, zA, zB, zC, zD, zE, zF]
    refine tkV 25 hHeld ?_
    try simp only [Act.put, zA, zB, zC, zD, zE, zF]
    refine tkV 27 hHeld ?_
    try simp only [Act.put, zA, zB, zC, zD, zE, zF]
    refine tkV 28 hHeld ?_
    try simp only [Act.put, zA, zB, zC, zD, zE, zF]
    refine rdy [26] ?_
    refine AllReadyH.cons (by rfl) (fun K hK => ?_) AllReadyH.nil
    go_simp
    refine (HA26.out _ hI.out).mono ?_
    rintro e wl ⟨rfl, hb9⟩
    have hb := Lib.hid hb9
    clear hb9
    replace hI := Lib.hid (hI.out.kept hb.out)
    clear hb
    refine hK.out _ _ ?_ (fun hHeld => ?_)
    ·exact HKS.out _ hI.out
    clear hK K
    try simp only [Act.put, zA, zB, zC, zD, zE, zF]
    refine rdy [29] ?_
    refine AllReadyH.cons (by rfl) (fun K hK => ?_) AllReadyH.nil
    go_simp
    refine (HA29.out _ hI.out).mono ?_
    rintro e wl ⟨rfl, hb9⟩
    have hb := Lib.hid hb9
    clear hb9
    replace hI := Lib.hid (hI.out.kept hb.out)
    clear hb
    refine hK.out _ _ ?_ (fun hHeld => ?_)
    ·exact HKS.out _ hI.out
    clear hK K
    try simp only [Act.put, zA, zB, zC, zD, zE, zF]
    refine tkV 30 hHeld ?_
    try simp only [Act.put, zA, zB, zC, zD, zE, zF]
    refine tkV 31 hHeld ?_
    try simp only [Act.put, zA, zB, zC, zD, zE, zF]
    refine tkV 32 hHeld ?_
    try simp only [Act.put, zA, zB, zC, zD, zE, zF]
    refine tkV 33 hHeld ?_
    try simp only [Act.put, zA, zB, zC, zD, zE, zF]
    by_cases huv : 0 ≤ uv
    ·have hu1 : decide ((0 : Int) ≤ uv) = true := decide_eq_true huv
     refine tkV 34 hHeld ?_
     try simp only [Act.put, zA, zB, zC, zD, zE, zF]
     refine tkV 35 hHeld ?_
     try simp only [Act.put, zA, zB, zC, zD, zE, zF]
     refine tkV 36 hHeld ?_
     try simp only [Act.put, zA, zB, zC, zD, zE, zF]
     refine tkV 38 hHeld ?_
     try simp only [Act.put, zA, zB, zC, zD, zE, zF]
     refine rdy [37] ?_
     refine AllReadyH.cons (by rfl) (fun K hK => ?_) AllReadyH.nil
     go_simp
     refine (Of12_any (v := uv)).mono ?_
     rintro e wl ⟨oa, od, rfl, hb, ho⟩
     replace hI := Lib.hid (hI.out.kept hb.out)
     clear hb
     refine hK.out _ _ ?_ (fun hHeld => ?_)
     ·exact HKS.out _ hI.out
     clear hK K
     try simp only [Act.put, zA, zB, zC, zD, zE, zF]
     refine rdy [39] ?_
     refine AllReadyH.cons (by rfl) (fun K hK => ?_) AllReadyH.nil
     go_simp
     refine (ofL 1 (by omega) (by omega) _).mono ?_
     rintro e wl ⟨ns, na, nl, nc, nb, nk, ne, rfl, hb, hh⟩
     replace ho := Lib.hid (ho.out.kept hb.out)
     replace hI := Lib.hid (hI.out.kept hb.out)
     clear hb
     refine hK.out _ _ ?_ (fun hHeld => ?_)
     ·exact HKS.out _ hI.out
     clear hK K
     try simp only [Act.put, zA, zB, zC, zD, zE, zF]
     refine tkV 40 hHeld ?_
     try simp only [Act.put, zA, zB, zC, zD, zE, zF]
     refine rdy [41] ?_
     refine AllReadyH.cons (by rfl) (fun K hK => ?_) AllReadyH.nil
     go_simp
     have hal := (Below.refl wl.heap.size wl).alloc (Nat.le_refl _) (.cells #[.int .i64 uv, .bool ns, .slice na nl nc, .slice nb nk ne] 51)
     obtain ⟨wz, hw⟩ : ∃ X, X = wl.alloc (.cells #[.int .i64 uv, .bool ns, .slice na nl nc, .slice nb nk ne] 51) := ⟨_, rfl⟩
     have hkm := heap_alloc_new wl (.cells #[.int .i64 uv, .bool ns, .slice na nl nc, .slice nb nk ne] 51)
     rw [← hw] at hal hkm ⊢
     have hb := Lib.hid hal
     replace hh := Lib.hid (one_poly12 hkm (hh.out.kept hal))
     generalize wl.heap.size = RB at hh hkm ⊢
     replace ho := Lib.hid (ho.out.kept hb.out)
     replace hI := Lib.hid (hI.out.kept hb.out)
     clear hb hal hw hkm
     obtain ⟨wl, hw⟩ : ∃ X, X = wz := ⟨_, rfl⟩
     rw [← hw] at hI hh ho ⊢
     clear hw
     refine hK.out _ _ ?_ (fun hHeld => ?_)
     ·exact HKS.out _ hI.out
     clear hK K
     try simp only [Act.put, zA, zB, zC, zD, zE, zF]
     refine tkV 42 hHeld ?_
     try simp only [Act.put, zA, zB, zC, zD, zE, zF]
     refine rdy [43] ?_
     refine AllReadyH.cons (by rfl) (fun K hK => ?_) AllReadyH.nil
     go_simp
     refine (HA43.out _ _ _ _ _ hI.out ho.out hh.out).mono ?_
     rintro e wl ⟨rfl, hb9⟩
     have hb := Lib.hid hb9
     clear hb9
     clear ho hh
     replace hI := Lib.hid (hI.out.kept hb.out)
     clear hb
     refine hK.out _ _ ?_ (fun hHeld => ?_)
     ·exact HKS.out _ hI.out
     clear hK K
     try simp only [Act.put, zA, zB, zC, zD, zE, zF]
     refine tkV 44 hHeld ?_
     try simp only [Act.put, zA, zB, zC, zD, zE, zF]
     refine tkV 45 hHeld ?_
     try simp only [Act.put, zA, zB, zC, zD, zE, zF]
     refine tkV 46 hHeld ?_
     try simp only [Act.put, zA, zB, zC, zD, zE, zF]
     refine wpAnyH_done (by kernel_rfl) ?_ _
     have hE := Lib.hid hI.out
     exact ⟨⟨(ts, (ta, tl, tc), (tb, tk, te)), tm, tr.length, tn, (rs, (ra, rl, rc), (rb, rk, re)), rm, rr.length, rn, (us, (ua, ul, uc), (ub, uk, ue)), um, ur.length, un, (vs, (va, vl, vc), (vb, vk, ve)), vm, vr.length, vn, .bool true, .bool true, .int .i64 uv, .agg #[.bool false, .slice none 0 0, .slice none 0 0, .slice oa 1 1], .int .i64 uv, .agg #[.bool ns, .slice na nl nc, .slice nb nk ne], .agg #[.int .i64 uv, .bool ns, .slice na nl nc, .slice nb nk ne], .slice (some ⟨RB, 0, none⟩) 1 1, .agg #[.bool false, .slice none 0 0, .slice none 0 0, .slice (some ⟨RB, 0, none⟩) 1 1], .bool true, .bool false⟩, by simp only [puts, Act.put, zA, zB, zC, zD, zE, zF], hE.out⟩
    ·have hu1 : decide ((0 : Int) ≤ uv) = false := decide_eq_false huv
     refine tkV 34 hHeld ?_
     try simp only [Act.put, zA, zB, zC, zD, zE, zF]
     refine tkV 35 hHeld ?_
     try simp only [Act.put, zA, zB, zC, zD, zE, zF]
     refine tkR 36 hHeld ?_
     try simp only [Act.put, zA, zB, zC, zD, zE, zF]
     refine tkR 37 hHeld ?_
     try simp only [Act.put, zA, zB, zC, zD, zE, zF]
     refine tkR 38 hHeld ?_
     try simp only [Act.put, zA, zB, zC, zD, zE, zF]
     refine tkR 39 hHeld ?_
     try simp only [Act.put, zA, zB, zC, zD, zE, zF]
     refine tkR 40 hHeld ?_
     try simp only [Act.put, zA, zB, zC, zD, zE, zF]
     refine tkR 41 hHeld ?_
     try simp only [Act.put, zA, zB, zC, zD, zE, zF]
     refine tkR 42 hHeld ?_
     try simp only [Act.put, zA, zB, zC, zD, zE, zF]
     refine tkR 43 hHeld ?_
     try simp only [Act.put, zA, zB, zC, zD, zE, zF]
     refine tkR 44 hHeld ?_
     try simp only [Act.put, zA, zB, zC, zD, zE, zF]
     refine tkV 45 hHeld ?_
     try simp only [Act.put, zA, zB, zC, zD, zE, zF]
     refine tkV 46 hHeld ?_
     try simp only [Act.put, zA, zB, zC, zD, zE, zF]
     refine wpAnyH_done (by kernel_rfl) ?_ _
     have hE := Lib.hid hI.out
     exact ⟨⟨(ts, (ta, tl, tc), (tb, tk, te)), tm, tr.length, tn, (rs, (ra, rl, rc), (rb, rk, re)), rm, rr.length, rn, (us, (ua, ul, uc), (ub, uk, ue)), um, ur.length, un, (vs, (va, vl, vc), (vb, vk, ve)), vm, vr.length, vn, .bool false, .bool false, undef, undef, undef, undef, undef, undef, undef, undef, undef⟩, by simp only [puts, Act.put, zA, zB, zC, zD, zE, zF], hE.out⟩
   rintro ⟨⟨ts, ⟨ta, tl, tc⟩, ⟨tb, tk, te⟩⟩, tm, tz, tn, ⟨rs, ⟨ra9, rl, rc9⟩, ⟨rb, rk, re⟩⟩, rm, rz, rn9, ⟨us, ⟨ua, ul, uc⟩, ⟨ub, uk, ue⟩⟩, um, uz, un, ⟨vs, ⟨va, vl, vc⟩, ⟨vb, vk, ve⟩⟩, vm, vz, vn, x90, x91, x92, x93, x94, x95, x96, x97, x98, x99, x100⟩ w7 hS
   simp only [puts, Act.put, zA, zB, zC, zD, zE, zF]
   have hth := HT6.out.bench hS HLT.out
   obtain ⟨p0, p1, p2, p3, _⟩ := cells11 hth.1 hth.2.1 hth.2.2
   obtain ⟨ev1, hev1⟩ : ∃ e, errI (badM k ms1) = e := ⟨_, rfl⟩
   obtain ⟨q9, hq9⟩ : ∃ e, leftQ (badM k ms1) (c1 + dot f ms1) = e := ⟨_, rfl⟩
   have HEQ := Lib.hid (And.intro hev1 hq9)
   have HV1 := Lib.hid (value_x (cp := pn) (rc := rc) HR6.out hS (HW.out _ hS).1 HP6.out.2.2.2.1 (by have := HZ.out.2.1; omega) (fun y hy => by have := HZ.out.2.2.1 y hy; omega) HF.out.2.2.2.1 (by have := HZ.out; omega) HZ.out.2.2.2.2.2.2.2.1 HF.out.2.2.1 (by have := HL.out; omega) HF.out.1 hev1 hq9)
   have HR7 := Lib.hid hS
   clear hev1 hq9 hth hS HA4 HA8 HA9 HA15 HA19 HA20 HA26 HA29 HA43 HKS
   go_wp2_with fail
   refine HV1.out.mono ?_
   rintro e w8 ⟨xs, xa, xl, xc, xb, xk, xe, rfl, hr8, hx8⟩
   clear p0 p1 p2 p3 HV1
   have hal := (Below.refl w8.heap.size w8).alloc (Nat.le_refl _) (.cells #[.bool xs, .slice xa xl xc, .slice xb xk xe] 27)
   obtain ⟨w9, hw9⟩ : ∃ X, X = w8.alloc (.cells #[.bool xs, .slice xa xl xc, .slice xb xk xe] 27) := ⟨_, rfl⟩
   have hkx := cells_of w8 #[.bool xs, .slice xa xl xc, .slice xb xk xe] 27
   rw [← hw9] at hal hkx
   obtain ⟨Xb, hxb⟩ : ∃ X, w8.heap.size = X := ⟨_, rfl⟩
   rw [hxb] at hkx
   have hr9 : BR b 1000 false w6 w9 := (HR7.out.trans hr8.out).kept hal
   have HX9 := Lib.hid (hx8.out.kept hal)
   have hth := HT6.out.bench hr9 HLT.out
   have HK9 : Hid (∀ W, Below w9.heap.size w9 W → (W.cell? ⟨w.heap.size, 0, none⟩ = some (.bool ps) ∧ W.cell? ⟨w.heap.size, 1, none⟩ = some (.slice pa px.length pc) ∧ W.cell? ⟨w.heap.size, 2, none⟩ = some (.slice pb pd.length pe) ∧ W.cell? ⟨w.heap.size, 3, none⟩ = some (.slice pm phs.length pn)) ∧ W.cell? ⟨Xb, 0, none⟩ = some (.bool xs) ∧ W.cell? ⟨Xb, 1, none⟩ = some (.slice xa xl xc) ∧ W.cell? ⟨Xb, 2, none⟩ = some (.slice xb xk xe)) := Lib.hid fun W h => by
    obtain ⟨x0, x1, x2, x3, _⟩ := cellsL4 (stayL hth.1 h)
    obtain ⟨y0, y1, y2, _⟩ := cells3 (stayL hkx h)
    exact ⟨⟨x0, x1, x2, x3⟩, y0, y1, y2⟩
   have HE9 := Lib.hid (BR.below hr9 HBW.out.1 HBW.out.2.1 HBW.out.2.2)
   have HPR9 := Lib.hid (And.intro (HW.out _ hr9).1 (HP6.out.2.2.2.1.bench HR6.out.bench hr9))
   have Hw9 := Lib.hid hw9
   obtain ⟨⟨p0, p1, p2, p3⟩, y0, y1, y2⟩ := HK9.out _ (Below.refl _ _)
   rw [hw9] at p0 p1 p2 p3 y0 y1 y2
   have hgo : badM k ms1 = false → ev1 = 0 ∧ q9 = c1 + dot f ms1 := fun e => by
    have h := HEQ.out
    rw [e] at h
    exact ⟨h.1.symm, h.2.symm⟩
   have HGO := Lib.hid hgo
   have HB6 : Hid (badM k ms1 = false → ∀ W, Below w9.heap.size w9 W → Calls Tryz.prog 25 #[.agg #[.bool ps, .slice pa px.length pc, .slice pb pd.length pe, .slice pm phs.length pn], .slice ra k rc] W (GotD W (c1 + dot f ms1))) := Lib.hid fun e W h => by
    rw [← HF.out.1]
    exact RVal_any (cp := pn) (rc := rc) (HPR9.out.1.kept h) (HPR9.out.2.kept h) HZ.out.2.1 HZ.out.2.2.1 HF.out.2.2.2.1 (by have := HZ.out; omega) HZ.out.2.2.2.2.2.2.2.1 HF.out.2.2.1 (by have := HL.out; omega) e
   have HS9 : Hid (szQ (c1 + dot f ms1) ≤ 222) := Lib.hid (by
    have := part_sz6 HF.out.2.1 HZ.out.2.1 HZ.out.2.2.1 ms1.length
    rw [List.take_length] at this
    have := HZ.out
    omega)
   clear hal hw9 hkx hr8 hx8 hth hgo hr9 HR7
   by_cases hz0 : phs.length = 0
   ·have hzd : decide ((0 : Int) < (phs.length : Int)) = false := decide_eq_false (by omega)
    have hzn : ¬ (0 : Int) < (phs.length : Int) := by omega
    have hbd : badM k ms1 = false := by
     have : ms1 = [] := List.eq_nil_of_length_eq_zero (by have := HZ.out; omega)
     rw [this]
     rfl
    obtain ⟨rfl, hq9⟩ := HGO.out hbd
    have HBD := Lib.hid (And.intro hbd hq9)
    clear hbd hq9 hz0
    have HKT : Hid (∀ W, Below w9.heap.size w9 W → (W.cell? ⟨w.heap.size, 0, none⟩ = some (.bool ps) ∧ W.cell? ⟨w.heap.size, 1, none⟩ = some (.slice pa px.length pc) ∧ W.cell? ⟨w.heap.size, 2, none⟩ = some (.slice pb pd.length pe) ∧ W.cell? ⟨w.heap.size, 3, none⟩ = some (.slice pm phs.length pn)) ∧ W.cell? ⟨Xb, 0, none⟩ = some (.bool xs) ∧ W.cell? ⟨Xb, 1, none⟩ = some (.slice xa xl xc) ∧ W.cell? ⟨Xb, 2, none⟩ = some (.slice xb xk xe)) := HK9
    have HSX : Hid (∀ W t z1 m1 k1 z2 m2 k2, Below w9.heap.size w9 W → VQ (c1 + dot f ms1) (t, (z1, m1, k1), (z2, m2, k2)) W → Calls Tryz.prog 23 #[.agg #[.bool xs, .slice xa xl xc, .slice xb xk xe], .agg #[.bool t, .slice z1 m1 k1, .slice z2 m2 k2]] W (GotV W (.bool true))) := Lib.hid fun W t z1 m1 k1 z2 m2 k2 h hv => by
     have := got_sameL (W5 := W) (show VQ (c1 + dot f ms1) _ W by have := HX9.out.kept h; rwa [HBD.out.2] at this) hv (by have := HS9.out; omega) (Below.refl _ _)
     simpa using this
    go_wp2_with fail
    rw [← Hw9.out]
    refine wp_region_ex (ι := RawR × RawR) (fun i => [(135, .int .i64 0), (136, .bool true), (137, .bool true), (138, .agg #[.bool xs, .slice xa xl xc, .slice xb xk xe]), (139, .agg #[.bool ps, .slice pa px.length pc, .slice pb pd.length pe, .slice pm phs.length pn]), (140, .slice ra k rc), (141, .agg #[.bool i.1.1, .slice i.1.2.1.1 i.1.2.1.2.1 i.1.2.1.2.2, .slice i.1.2.2.1 i.1.2.2.2.1 i.1.2.2.2.2]), (142, .agg #[.bool i.2.1, .slice i.2.2.1.1 i.2.2.1.2.1 i.2.2.1.2.2, .slice i.2.2.2.1 i.2.2.2.2.1 i.2.2.2.2.2]), (143, .bool true), (144, .bool true), (10, .bool true)]) (fun _ W => Below w9.heap.size w9 W) ?reg21an ?rest21an
    case reg21an =>
     have hI : Hid (Below w9.heap.size w9 w9.drew) := Lib.hid (below_drew w9)
     obtain ⟨wl, hw0⟩ : ∃ X, X = w9.drew := ⟨_, rfl⟩
     rw [← hw0] at hI
     refine wp_region_held_drew (S := (fun w' => (w'.cell? ⟨w.heap.size, 0, none⟩ = some (.bool ps) ∧ w'.cell? ⟨w.heap.size, 1, none⟩ = some (.slice pa px.length pc) ∧ w'.cell? ⟨w.heap.size, 2, none⟩ = some (.slice pb pd.length pe) ∧ w'.cell? ⟨w.heap.size, 3, none⟩ = some (.slice pm phs.length pn)) ∧ w'.cell? ⟨Xb, 0, none⟩ = some (.bool xs) ∧ w'.cell? ⟨Xb, 1, none⟩ = some (.slice xa xl xc) ∧ w'.cell? ⟨Xb, 2, none⟩ = some (.slice xb xk xe))) (by kernel_rfl) ?_ (fun hHeld => ?_)
     rotate_left 1
     rw [← hw0] at hHeld ⊢; clear hw0
     rotate_left 1
     ·rw [← hw0]; exact HKT.out _ hI.out
     refine tkV 0 hHeld ?_
     try simp only [Act.put, zA, zB, zC, zD, zE, zF]
     refine tkV 1 hHeld ?_
     try simp only [Act.put, zA, zB, zC, zD, zE, zF]
     refine tkV 2 hHeld ?_
     try simp only [Act.put, zA, zB, zC, zD, zE, zF]
     refine tkV 3 hHeld ?_
     try simp only [Act.put, zA, zB, zC, zD, zE, zF]
     refine tkV 4 hHeld ?_
     try simp only [Act.put, zA, zB, zC, zD, zE, zF]
     refine tkV 5 hHeld ?_
     try simp only [Act.put, zA, zB, zC, zD, zE, zF]
     refine rdy [6] ?_
     refine AllReadyH.cons (by rfl) (fun K hK => ?_) AllReadyH.nil
     go_simp
     refine (HB6.out HBD.out.1 _ hI.out).mono ?_
     rintro e wl ⟨ys, ya, yl, yc, yb, yk, ye, rfl, hb, hy⟩
     replace hI := Lib.hid (hI.out.trans (hb.out.mono hI.out.size))
     clear hb
     refine hK.out _ _ ?_ (fun hHeld => ?_)
     ·exact HKT.out _ hI.out
     clear hK K
     try simp only [Act.put, zA, zB, zC, zD, zE, zF]
     refine rdy [7] ?_
     refine AllReadyH.cons (by rfl) (fun K hK => ?_) AllReadyH.nil
     go_simp
     refine (got_formL hy.out (by have := HS9.out; omega) (Below.refl _ _)).mono ?_
     rintro e wl ⟨zs, za, zl, zc, zb, zk, ze, rfl, hb, hz⟩
     replace hI := Lib.hid (hI.out.trans (hb.out.mono hI.out.size))
     clear hb hy
     refine hK.out _ _ ?_ (fun hHeld => ?_)
     ·exact HKT.out _ hI.out
     clear hK K
     try simp only [Act.put, zA, zB, zC, zD, zE, zF]
     refine rdy [8] ?_
     refine AllReadyH.cons (by rfl) (fun K hK => ?_) AllReadyH.nil
     go_simp
     refine (HSX.out _ _ _ _ _ _ _ _ hI.out hz.out).mono ?_
     rintro e wl ⟨rfl, hb⟩
     replace hI := Lib.hid (hI.out.trans (hb.out.mono hI.out.size))
     clear hb hz
     refine hK.out _ _ ?_ (fun hHeld => ?_)
     ·exact HKT.out _ hI.out
     clear hK K
     try simp only [Act.put, zA, zB, zC, zD, zE, zF]
     refine tkV 9 hHeld ?_
     try simp only [Act.put, zA, zB, zC, zD, zE, zF]
     refine tkV 10 hHeld ?_
     try simp only [Act.put, zA, zB, zC, zD, zE, zF]
     refine wpAnyH_done (by kernel_rfl) ?_ _
     have hE := Lib.hid hI.out
     exact ⟨((ys, (ya, yl, yc), (yb, yk, ye)), (zs, (za, zl, zc), (zb, zk, ze))), by simp only [puts, Act.put, zA, zB, zC, zD, zE, zF], hE.out⟩
    rintro ⟨⟨ys, ⟨ya, yl, yc⟩, ⟨yb, yk, ye⟩⟩, ⟨zs, ⟨za, zl, zc⟩, ⟨zb, zk, ze⟩⟩⟩ w10 hS
    simp only [puts, Act.put, zA, zB, zC, zD, zE, zF]
    have HE := Lib.hid (HE9.out.trans (hS.mono HE9.out.size))
    clear hS HSX HKT
    go_wp2_with fail
    go_ret
    exact ⟨rfl, HE.out⟩
   ·obtain ⟨j, hj⟩ : ∃ j, phs.length = j + 1 := ⟨phs.length - 1, by omega⟩
    obtain ⟨d, x, g, off, hd, hx, hga, hok, hcell⟩ := HPR9.out.1.ms.get (k := j) (by have := HZ.out; omega)
    obtain ⟨v, dds, dda, ddl, ddc, ddb, ddk, dde⟩ := d
    obtain ⟨hv, -⟩ := hok
    dsimp only at hv
    subst hga
    have hbd : badM k ms1 = decide ((k : Int) ≤ v) := by
     rw [hv]
     exact bad_last HZ.out.2.2.2.2.2.2.2.2.2.1 HZ.out.2.2.2.2.2.2.2.2.2.2.2.2.2 hx (by have := HZ.out; omega)
    obtain ⟨e0, e1, e2, e3⟩ := range_cells4 hcell
    dsimp only at e0
    rw [Hw9.out] at e0
    have hzd : decide ((0 : Int) < (phs.length : Int)) = true := decide_eq_true (by omega)
    have hzn : (0 : Int) < (phs.length : Int) := by omega
    have hsub : wrap64 ((phs.length : Int) - 1) = (j : Int) := by rw [show (phs.length : Int) - 1 = (j : Int) by omega]; exact IntWalk.wrap64_in _ (by have := HZ.out; omega)
    have hjl : (j : Int) < (phs.length : Int) := by omega
    have hjn : j < phs.length := by omega
    clear e1 e2 e3 hd hx hcell hv hj hz0
    cases hkv : decide ((k : Int) ≤ v)
    case true =>
     have hkv2 : (k : Int) ≤ v := of_decide_eq_true hkv
     rw [hkv] at hbd
     obtain ⟨rfl, hq9⟩ : ev1 = 2 ∧ q9 = 0 := by
      have h := HEQ.out
      rw [hbd] at h
      exact ⟨h.1.symm, h.2.symm⟩
     have HSM : Hid (Calls Tryz.prog 23 #[.agg #[.bool xs, .slice xa xl xc, .slice xb xk xe], .agg #[.bool false, .slice none 0 0, .slice none 0 0]] w9 (GotV w9 (.bool true))) := Lib.hid (by
      have := got_sameL (W5 := w9) (show VQ 0 _ w9 by have := HX9.out; rwa [hq9] at this) (VQ.zero w9) (by rw [szQ_zero]; omega) (Below.refl _ _)
      simpa using this)
     clear hbd hq9
     go_wp2_with fail
     rw [← Hw9.out]
     refine HSM.out.mono ?_
     rintro e w10 ⟨rfl, hb10⟩
     have HE := Lib.hid (HE9.out.trans (hb10.out.mono HE9.out.size))
     clear hb10 HSM p0 p1 p2 p3 y0 y1 y2 e0
     go_wp2_with fail
     go_ret
     exact ⟨rfl, HE.out⟩
    case false =>
    have hkv2 : ¬ (k : Int) ≤ v := of_decide_eq_false hkv
    rw [hkv] at hbd
    obtain ⟨rfl, hq9⟩ := HGO.out hbd
    have HBD := Lib.hid (And.intro hbd hq9)
    clear hbd hq9
    have HKT : Hid (∀ W, Below w9.heap.size w9 W → (W.cell? ⟨w.heap.size, 0, none⟩ = some (.bool ps) ∧ W.cell? ⟨w.heap.size, 1, none⟩ = some (.slice pa px.length pc) ∧ W.cell? ⟨w.heap.size, 2, none⟩ = some (.slice pb pd.length pe) ∧ W.cell? ⟨w.heap.size, 3, none⟩ = some (.slice (some ⟨g, off, none⟩) phs.length pn)) ∧ W.cell? ⟨Xb, 0, none⟩ = some (.bool xs) ∧ W.cell? ⟨Xb, 1, none⟩ = some (.slice xa xl xc) ∧ W.cell? ⟨Xb, 2, none⟩ = some (.slice xb xk xe)) := HK9
    have HSX : Hid (∀ W t z1 m1 k1 z2 m2 k2, Below w9.heap.size w9 W → VQ (c1 + dot f ms1) (t, (z1, m1, k1), (z2, m2, k2)) W → Calls Tryz.prog 23 #[.agg #[.bool xs, .slice xa xl xc, .slice xb xk xe], .agg #[.bool t, .slice z1 m1 k1, .slice z2 m2 k2]] W (GotV W (.bool true))) := Lib.hid fun W t z1 m1 k1 z2 m2 k2 h hv => by
     have := got_sameL (W5 := W) (show VQ (c1 + dot f ms1) _ W by have := HX9.out.kept h; rwa [HBD.out.2] at this) hv (by have := HS9.out; omega) (Below.refl _ _)
     simpa using this
    go_wp2_with fail
    rw [← Hw9.out]
    clear hsub
    refine wp_region_ex (ι := RawR × RawR) (fun i => [(135, .int .i64 0), (136, .bool true), (137, .bool true), (138, .agg #[.bool xs, .slice xa xl xc, .slice xb xk xe]), (139, .agg #[.bool ps, .slice pa px.length pc, .slice pb pd.length pe, .slice (some ⟨g, off, none⟩) phs.length pn]), (140, .slice ra k rc), (141, .agg #[.bool i.1.1, .slice i.1.2.1.1 i.1.2.1.2.1 i.1.2.1.2.2, .slice i.1.2.2.1 i.1.2.2.2.1 i.1.2.2.2.2]), (142, .agg #[.bool i.2.1, .slice i.2.2.1.1 i.2.2.1.2.1 i.2.2.1.2.2, .slice i.2.2.2.1 i.2.2.2.2.1 i.2.2.2.2.2]), (143, .bool true), (144, .bool true), (10, .bool true)]) (fun _ W => Below w9.heap.size w9 W) ?reg21bn ?rest21bn
    case reg21bn =>
     have hI : Hid (Below w9.heap.size w9 w9.drew) := Lib.hid (below_drew w9)
     obtain ⟨wl, hw0⟩ : ∃ X, X = w9.drew := ⟨_, rfl⟩
     rw [← hw0] at hI
     refine wp_region_held_drew (S := (fun w' => (w'.cell? ⟨w.heap.size, 0, none⟩ = some (.bool ps) ∧ w'.cell? ⟨w.heap.size, 1, none⟩ = some (.slice pa px.length pc) ∧ w'.cell? ⟨w.heap.size, 2, none⟩ = some (.slice pb pd.length pe) ∧ w'.cell? ⟨w.heap.size, 3, none⟩ = some (.slice (some ⟨g, off, none⟩) phs.length pn)) ∧ w'.cell? ⟨Xb, 0, none⟩ = some (.bool xs) ∧ w'.cell? ⟨Xb, 1, none⟩ = some (.slice xa xl xc) ∧ w'.cell? ⟨Xb, 2, none⟩ = some (.slice xb xk xe))) (by kernel_rfl) ?_ (fun hHeld => ?_)
     rotate_left 1
     rw [← hw0] at hHeld ⊢; clear hw0
     rotate_left 1
     ·rw [← hw0]; exact HKT.out _ hI.out
     refine tkV 0 hHeld ?_
     try simp only [Act.put, zA, zB, zC, zD, zE, zF]
     refine tkV 1 hHeld ?_
     try simp only [Act.put, zA, zB, zC, zD, zE, zF]
     refine tkV 2 hHeld ?_
     try simp only [Act.put, zA, zB, zC, zD, zE, zF]
     refine tkV 3 hHeld ?_
     try simp only [Act.put, zA, zB, zC, zD, zE, zF]
     refine tkV 4 hHeld ?_
     try simp only [Act.put, zA, zB, zC, zD, zE, zF]
     refine tkV 5 hHeld ?_
     try simp only [Act.put, zA, zB, zC, zD, zE, zF]
     refine rdy [6] ?_
     refine AllReadyH.cons (by rfl) (fun K hK => ?_) AllReadyH.nil
     go_simp
     refine (HB6.out HBD.out.1 _ hI.out).mono ?_
     rintro e wl ⟨ys, ya, yl, yc, yb, yk, ye, rfl, hb, hy⟩
     replace hI := Lib.hid (hI.out.trans (hb.out.mono hI.out.size))
     clear hb
     refine hK.out _ _ ?_ (fun hHeld => ?_)
     ·exact HKT.out _ hI.out
     clear hK K
     try simp only [Act.put, zA, zB, zC, zD, zE, zF]
     refine rdy [7] ?_
     refine AllReadyH.cons (by rfl) (fun K hK => ?_) AllReadyH.nil
     go_simp
     refine (got_formL hy.out (by have := HS9.out; omega) (Below.refl _ _)).mono ?_
     rintro e wl ⟨zs, za, zl, zc, zb, zk, ze, rfl, hb, hz⟩
     replace hI := Lib.hid (hI.out.trans (hb.out.mono hI.out.size))
     clear hb hy
     refine hK.out _ _ ?_ (fun hHeld => ?_)
     ·exact HKT.out _ hI.out
     clear hK K
     try simp only [Act.put, zA, zB, zC, zD, zE, zF]
     refine rdy [8] ?_
     refine AllReadyH.cons (by rfl) (fun K hK => ?_) AllReadyH.nil
     go_simp
     refine (HSX.out _ _ _ _ _ _ _ _ hI.out hz.out).mono ?_
     rintro e wl ⟨rfl, hb⟩
     replace hI := Lib.hid (hI.out.trans (hb.out.mono hI.out.size))
     clear hb hz
     refine hK.out _ _ ?_ (fun hHeld => ?_)
     ·exact HKT.out _ hI.out
     clear hK K
     try simp only [Act.put, zA, zB, zC, zD, zE, zF]
     refine tkV 9 hHeld ?_
     try simp only [Act.put, zA, zB, zC, zD, zE, zF]
     refine tkV 10 hHeld ?_
     try simp only [Act.put, zA, zB, zC, zD, zE, zF]
     refine wpAnyH_done (by kernel_rfl) ?_ _
     have hE := Lib.hid hI.out
     exact ⟨((ys, (ya, yl, yc), (yb, yk, ye)), (zs, (za, zl, zc), (zb, zk, ze))), by simp only [puts, Act.put, zA, zB, zC, zD, zE, zF], hE.out⟩
    rintro ⟨⟨ys, ⟨ya, yl, yc⟩, ⟨yb, yk, ye⟩⟩, ⟨zs, ⟨za, zl, zc⟩, ⟨zb, zk, ze⟩⟩⟩ w10 hS
    simp only [puts, Act.put, zA, zB, zC, zD, zE, zF]
    have HE := Lib.hid (HE9.out.trans (hS.mono HE9.out.size))
    clear hS HSX HKT
    go_wp2_with fail
    go_ret
    exact ⟨rfl, HE.out⟩
end Go.Proofs.YtpjeecahaeaajaaGreatDoor
