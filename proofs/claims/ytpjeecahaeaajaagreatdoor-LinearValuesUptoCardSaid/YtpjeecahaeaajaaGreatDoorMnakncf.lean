/- By program out of: LnVals. -/
import Derived.Test.YtpjeecahaeaajaaGreatDoorMipdhcc
set_option linter.unusedVariables false
set_option linter.unusedSimpArgs false
namespace Go.Proofs.YtpjeecahaeaajaaGreatDoor
open Go.RowKit Rep Ln
def GotX (b : Nat) (W5 : World) (ev : Int) (q : Rat) (e : Ending) (W' : World) : Prop :=
 ∃ s z1 m1 k1 z2 m2 k2, e = .returned (.tuple #[.agg #[.bool s, .slice z1 m1 k1, .slice z2 m2 k2], .int .i64 ev]) ∧ Hid (BR b 1000 false W5 W') ∧ Hid (VQ q (s, (z1, m1, k1), (z2, m2, k2)) W')
theorem value_x {w0 w : World} {b : Nat} {c q : Rat} {ms : List Mo} {f : Int → Rat} {ev : Int} {ps : Bool} {pa pb : Option Addr} {pl pc pk pe : Nat} {a : Option Addr} {cp n : Nat} {rs : List RM} {ra : Option Addr} {rc m : Nat} {rr : List RawR} {qs : List Rat} (h0 : BR b 1000 false w0 w0) (h : BR b 1000 false w0 w)
    (hp : PolyAt c ms (ps, (pa, pl, pc), (pb, pk, pe)) a rs w) (hr : RsAt w0 ra rr qs) (zc : szQ c ≤ 24) (zm : ∀ y ∈ ms, szQ y.2 ≤ 24) (zr : ∀ q ∈ qs, szQ q ≤ 6) (hn : ms.length ≤ 24) (e1 : rs.length = n) (e2 : rr.length = m) (hm : m ≤ 50) (hf : atQ qs = f) (hev : errI (badM m ms) = ev) (hq : leftQ (badM m ms) (c + dot f ms) = q) :
    Calls Tryz.prog 22 #[.pointer (some ⟨b, 0, none⟩), .agg #[.bool ps, .slice pa pl pc, .slice pb pk pe, .slice a n cp], .slice ra m rc] w (GotX b w ev q) := by
 subst hf hev hq
 exact Value_any h.bench h.tab hp (hr.bench h0.bench h) zc zm zr (by rw [← e1, hp.ms.len]; exact hn) e1 e2 hm
theorem add_all {k c1 c2 : Rat} {ms1 ms2 : List Mo} (zk : szQ k ≤ 6) (z1 : szQ c1 ≤ 6) (zm1 : ∀ x ∈ ms1, szQ x.2 ≤ 6) (z2 : szQ c2 ≤ 6) (zm2 : ∀ x ∈ ms2, szQ x.2 ≤ 6) (f1 : Fit ms1) (f2 : Fit ms2) : addO 1000 false c1 ms1 k c2 ms2 = false := by
 have h1 := szQ_mul k c2
 have h2 := addC_sz zk z1 z2
 unfold addO scaleO
 simp only [Bool.false_or, Bool.or_eq_false_iff]
 refine ⟨⟨⟨ov_small (by omega), ?_⟩, ov_small (by omega)⟩, ?_⟩
 ·rw [List.any_eq_false]
  intro y hy
  rw [ov_small (by have := szQ_mul k y.2; have := zm2 y hy; omega)]
  simp
 ·rw [Bool.eq_false_iff]
  intro h
  rcases merge_fits h with ⟨x, hx, h⟩ | ⟨y, hy, h⟩
  ·rw [ov_small (by have := zm1 x hx; omega)] at h; cases h
  ·rw [merge_ref f1 f2] at hy
   rw [ov_small (by have := refAdd_sz zk zm1 zm2 y hy; omega)] at h
   cases h
theorem scale_all {k c : Rat} {ms : List Mo} (zk : szQ k ≤ 6) (z : szQ c ≤ 6) (zm : ∀ x ∈ ms, szQ x.2 ≤ 6) : (false || ovQ 1000 (k * c) || scaleO 1000 k ms) = false := by
 have h1 := szQ_mul k c
 rw [Bool.false_or, Bool.or_eq_false_iff]
 refine ⟨ov_small (by omega), ?_⟩
 unfold scaleO
 rw [List.any_eq_false]
 intro y hy
 rw [ov_small (by have := szQ_mul k y.2; have := zm y hy; omega)]
 simp
theorem scale_sm {w : World} {b : Nat} {k c : Rat} {ms : List Mo} {ks : Bool} {ka kb : Option Addr} {kl kc kk ke : Nat} {cs : Bool} {ca cb : Option Addr} {cl cc ck ce : Nat} {a : Option Addr} {cp n : Nat} {rs : List RM} (hB : Bench w b 1000 false) (hT : Tab w)
    (hk : VQ k (ks, (ka, kl, kc), (kb, kk, ke)) w) (hp : PolyAt c ms (cs, (ca, cl, cc), (cb, ck, ce)) a rs w) (zk : szQ k ≤ 6) (zc : szQ c ≤ 6) (zm : ∀ x ∈ ms, szQ x.2 ≤ 6) (hn : n ≤ 12) (e : rs.length = n) :
    Calls Tryz.prog 18 #[.pointer (some ⟨b, 0, none⟩), .agg #[.bool ks, .slice ka kl kc, .slice kb kk ke], .agg #[.bool cs, .slice ca cl cc, .slice cb ck ce, .slice a n cp]] w (GotP b 1000 false w (k * c) (scale k ms)) := by
 subst e
 have := Scale_any (cp := cp) hB hT hk hp (by omega) (by omega) (fun x hx => by have := zm x hx; omega) (by omega)
 rwa [scale_all zk zc zm] at this
theorem bad_merge {n : Nat} {k : Rat} {l r : List Mo} (h1 : badM n l = false) (h2 : badM n r = false) : badM n (merge l (scale k r)) = false := by
 unfold badM at h1 h2 ⊢
 rw [List.any_eq_false] at h1 h2 ⊢
 intro x hx
 rcases merge_from hx with ⟨y, hy, e⟩ | ⟨y, hy, e⟩
 ·rw [e]; exact h1 y hy
 ·obtain ⟨z, hz, e2⟩ := scale_mem hy
  rw [e, e2]; exact h2 z hz
theorem bad_scale {n : Nat} {k : Rat} {r : List Mo} (h2 : badM n r = false) : badM n (scale k r) = false := by
 unfold badM at h2 ⊢
 rw [List.any_eq_false] at h2 ⊢
 intro x hx
 obtain ⟨z, hz, e2⟩ := scale_mem hx
 rw [e2]; exact h2 z hz
theorem value_add (f : Int → Rat) (c1 c2 k : Rat) (l r : List Mo) : c1 + k * c2 + dot f (merge l (scale k r)) = (c1 + dot f l) + k * (c2 + dot f r) := by
 rw [dot_merge, dot_scale]; grind
theorem value_scale (f : Int → Rat) (c k : Rat) (r : List Mo) : k * c + dot f (scale k r) = k * (c + dot f r) := by
 rw [dot_scale]; grind
theorem full_sz {f : Int → Rat} {c : Rat} {ms : List Mo} (hf : ∀ v, szQ (f v) ≤ 6) (hc : szQ c ≤ 24) (hm : ∀ x ∈ ms, szQ x.2 ≤ 24) (hn : ms.length ≤ 12) : szQ (c + dot f ms) ≤ 456 := by
 have := part_sz hf hc hm ms.length
 rw [List.take_length] at this
 omega
set_option maxRecDepth 100000 in
set_option maxHeartbeats 16000000 in
theorem vals12_walk {w : World} {ps qs ks : Bool} {pa pb pm qa qb qm ka kb ra : Option Addr} {pc pe pn qc qe qn kc ke rc : Nat} {px pd qx qd kx kd : List Nat} {phs qhs : List HM} {rhs : List HQ}
    (hp : HandPo w (⟨ps, pa, pc, px, pb, pe, pd, pm, pn, phs⟩ : HPo)) (hq : HandPo w (⟨qs, qa, qc, qx, qb, qe, qd, qm, qn, qhs⟩ : HPo)) (hk : HandPo w (⟨ks, ka, kc, kx, kb, ke, kd, none, 0, []⟩ : HPo)) (hr : HQs w ra rhs) (hT : Tab w) :
    Calls Tryz.prog 6 #[.agg #[.bool ps, .slice pa px.length pc, .slice pb pd.length pe, .slice pm phs.length pn], .agg #[.bool qs, .slice qa qx.length qc, .slice qb qd.length qe, .slice qm qhs.length qn], .agg #[.bool ks, .slice ka kx.length kc, .slice kb kd.length ke], .slice ra rhs.length rc] w (Holds w) := by
 obtain ⟨rn, hrn⟩ : ∃ n, rhs.length = n := ⟨_, rfl⟩
 have HRN := Lib.hid hrn
 rw [hrn]
 clear hrn
 obtain ⟨W0, hW0, hB0, b0, b1, b2, hsz⟩ := boxes3 w #[.bool ps, .slice pa px.length pc, .slice pb pd.length pe, .slice pm phs.length pn] #[.bool qs, .slice qa qx.length qc, .slice qb qd.length qe, .slice qm qhs.length qn] #[.bool ks, .slice ka kx.length kc, .slice kb kd.length ke] 30 30 27
 have HSP := Lib.hid (speaks12 (hT.kept hB0))
 have HW0 := Lib.hid hW0
 have HTH : Hid (Three W0 w.heap.size #[.bool ps, .slice pa px.length pc, .slice pb pd.length pe, .slice pm phs.length pn] #[.bool qs, .slice qa qx.length qc, .slice qb qd.length qe, .slice qm qhs.length qn] #[.bool ks, .slice ka kx.length kc, .slice kb kd.length ke]) := Lib.hid ⟨b0, b1, b2⟩
 have HSZ := Lib.hid hsz
 have HB0 := Lib.hid (And.intro hB0 (hT.kept hB0))
 have HP := Lib.hid (hp.kept hB0)
 have HHQ := Lib.hid (hq.kept hB0)
 have HHK := Lib.hid (hk.kept hB0)
 have HRR := Lib.hid (hr.kept hB0)
 obtain ⟨p0, p1, p2, p3, q0, q1, q2, q3, r0, r1, r2⟩ := cells11 b0 b1 b2
 rw [hW0] at p0 p1 p2 p3 q0 q1 q2 q3 r0 r1 r2
 clear hW0 hB0 b0 b1 b2 hsz hp hq hk hr hT
 go_enter Tryz.func6, Tryz.ntmps6
 go_wp2_with fail
 rw [← HW0.out]
 refine HSP.out.mono ?_
 rintro e w1 ⟨rfl, hb1⟩
 clear p0 p1 p2 p3 q0 q1 q2 q3 r0 r1 r2
 have hth := HTH.out.kept hb1
 obtain ⟨p0, p1, p2, p3, q0, q1, q2, q3, r0, r1, r2⟩ := cells11 hth.1 hth.2.1 hth.2.2
 have hal := (Below.refl w1.heap.size w1).alloc (Nat.le_refl _) (.cells #[.bool ps, .slice pa px.length pc, .slice pb pd.length pe, .slice pm phs.length pn, .bool qs, .slice qa qx.length qc, .slice qb qd.length qe, .slice qm qhs.length qn, .bool ks, .slice ka kx.length kc, .slice kb kd.length ke, .slice none 0 0] 30)
 have hb2 := hb1.trans (hal.mono hb1.size)
 have HB2 := Lib.hid hb2
 have HOD := Lib.hid (Odd12_any w1.heap.size 3 [(⟨ps, pa, pc, px, pb, pe, pd, pm, pn, phs⟩ : HPo), (⟨qs, qa, qc, qx, qb, qe, qd, qm, qn, qhs⟩ : HPo), (⟨ks, ka, kc, kx, kb, ke, kd, none, 0, []⟩ : HPo)] (w1.alloc (.cells #[.bool ps, .slice pa px.length pc, .slice pb pd.length pe, .slice pm phs.length pn, .bool qs, .slice qa qx.length qc, .slice qb qd.length qe, .slice qm qhs.length qn, .bool ks, .slice ka kx.length kc, .slice kb kd.length ke, .slice none 0 0] 30)) (pols3 (heap_alloc_new w1 _)) (by
  intro p hp
  simp only [List.mem_cons, List.not_mem_nil, or_false] at hp
  rcases hp with rfl | rfl | rfl
  ·exact HP.out.kept hb2
  ·exact HHQ.out.kept hb2
  ·exact HHK.out.kept hb2) (by simp) (by simp))
 clear hal hb2 hb1 HSP hth
 cases hodd : [(⟨ps, pa, pc, px, pb, pe, pd, pm, pn, phs⟩ : HPo), (⟨qs, qa, qc, qx, qb, qe, qd, qm, qn, qhs⟩ : HPo), (⟨ks, ka, kc, kx, kb, ke, kd, none, 0, []⟩ : HPo)].any oddPo
 case true =>
  rw [hodd] at HOD
  clear hodd
  go_wp2_with fail
  refine HOD.out.mono ?_
  rintro e w2 ⟨rfl, hb⟩
  have HE := Lib.hid (HB0.out.1.trans ((HB2.out.trans (hb.mono HB2.out.size)).mono HB0.out.1.size))
  clear hb HOD p0 p1 p2 p3 q0 q1 q2 q3 r0 r1 r2
  go_wp2_with fail
  go_ret
  exact ⟨rfl, HE.out⟩
 case false =>
 rw [hodd] at HOD
 obtain ⟨o1, o2, o3⟩ : oddPo (⟨ps, pa, pc, px, pb, pe, pd, pm, pn, phs⟩ : HPo) = false ∧ oddPo (⟨qs, qa, qc, qx, qb, qe, qd, qm, qn, qhs⟩ : HPo) = false ∧ oddPo (⟨ks, ka, kc, kx, kb, ke, kd, none, 0, []⟩ : HPo) = false := by
  simp only [List.any_cons, List.any_nil, Bool.or_false, Bool.or_eq_false_iff] at hodd
  exact hodd
 have HS1 := Lib.hid (not_odd12 HP.out o1)
 have HS2 := Lib.hid (not_odd12 HHQ.out o2)
 have HS3 := Lib.hid (not_odd12 HHK.out o3)
 clear hodd o1 o2 o3
 by_cases hlen : 50 < rn
 ·have hl1 : decide ((50 : Int) < (rn : Int)) = true := decide_eq_true (by omega)
  have hl2 : (50 : Int) < (rn : Int) := by omega
  go_wp2_with fail
  refine HOD.out.mono ?_
  rintro e w2 ⟨rfl, hb⟩
  have HE := Lib.hid (HB0.out.1.trans ((HB2.out.trans (hb.mono HB2.out.size)).mono HB0.out.1.size))
  clear hb HOD p0 p1 p2 p3 q0 q1 q2 q3 r0 r1 r2
  go_wp2_with fail
  go_ret
  exact ⟨rfl, HE.out⟩
 have hl1 : decide ((50 : Int) < (rn : Int)) = false := decide_eq_false (by omega)
 have hl2 : ¬ (50 : Int) < (rn : Int) := by omega
 go_wp2_with fail
 refine HOD.out.mono ?_
 rintro e w2 ⟨rfl, hb⟩
 have hb2 := HB2.out.trans (hb.mono HB2.out.size)
 have HGR := Lib.hid (GreatO_any (rc := rc) (HRR.out.kept hb2) HRN.out (by omega))
 have HB3 := Lib.hid hb2
 clear hb hb2 HOD HB2 p0 p1 p2 p3 q0 q1 q2 q3 r0 r1 r2
 cases hgr : greatB (rhs.map HQ.raw)
 case true =>
  rw [hgr] at HGR
  clear hgr
  go_wp2_with fail
  refine HGR.out.mono ?_
  rintro e w3 ⟨rfl, hb⟩
  have HE := Lib.hid (HB0.out.1.trans ((HB3.out.trans (hb.mono HB3.out.size)).mono HB0.out.1.size))
  clear hb HGR
  go_wp2_with fail
  go_ret
  exact ⟨rfl, HE.out⟩
 case false =>
 rw [hgr] at HGR
 have HGF := Lib.hid hgr
 clear hgr
 go_wp2_with fail
 refine HGR.out.mono ?_
 rintro e w3 ⟨rfl, hb⟩
 have HB4 := Lib.hid (HB3.out.trans (hb.mono HB3.out.size))
 have HL := Lib.hid hlen
 clear hb HGR HB3 hl1 hl2 hlen
 go_wp2_with fail
 go_loopw [39] (fun (iv : Value) (wr : World) => ∃ k : Nat, k ≤ rn ∧ iv = .int .i64 (k : Int) ∧ Hid (∀ d ∈ rhs.take k, d.right = true) ∧ Hid (Below W0.heap.size W0 wr)) (fun iv _ => rn - (intOf iv).toNat)
 case atStart => exact ⟨0, Nat.zero_le _, rfl, Lib.hid (by simp), HB4⟩
 case round =>
  obtain ⟨k, hkn, rfl, HE0, HBr⟩ := hrel
  by_cases hlt : k < rn
  ·obtain ⟨s, a1, c1, xs, a2, c2, ds, g, off, hd, rfl, hnum, d0, d1, d2⟩ := HRR.out.get (k := k) (by rw [HRN.out]; exact hlt)
   have HG := Lib.hid hd
   have hbr := HBr.out
   have e0 := cell_stay d0 hbr
   have e1 := cell_stay d1 hbr
   have e2 := cell_stay d2 hbr
   have hal := (Below.refl wr.heap.size wr).alloc (Nat.le_refl _) (.cells #[.bool s, .slice a1 xs.length c1, .slice a2 ds.length c2] 27)
   have hba := hbr.trans (hal.mono hbr.size)
   have HRC := Lib.hid (right_hand (s := s) (hnum.1.kept hba) hnum.2.1 hnum.2.2)
   have HBA := Lib.hid hba
   have hki : (k : Int) < (rn : Int) := by have := HL.out; omega
   have hiw : wrap64 ((k : Int) + 1) = (k : Int) + 1 := IntWalk.wrap64_in _ (by have := HL.out; omega)
   clear hd hbr hal hba hnum d0 d1 d2
   cases hrt : rightB s xs ds with
   | false =>
    rw [hrt] at HRC
    clear hrt
    go_wp2_with fail
    refine HRC.out.mono ?_
    rintro e w4 ⟨rfl, hb⟩
    have HE := Lib.hid (HB0.out.1.trans ((HBA.out.trans (hb.mono HBA.out.size)).mono HB0.out.1.size))
    clear hb HRC e0 e1 e2
    go_wp2_with fail
    go_ret
    exact ⟨rfl, HE.out⟩
   | true =>
    rw [hrt] at HRC
    have HV := Lib.hid (right_take HG.out HE0.out hrt)
    clear hrt
    go_wp2_with fail
    refine HRC.out.mono ?_
    rintro e w4 ⟨rfl, hb⟩
    have HB5 := Lib.hid (HBA.out.trans (hb.mono HBA.out.size))
    clear hb HRC e0 e1 e2
    go_wp2_with fail
    go_roundw
    case rel => exact ⟨k + 1, by omega, by go_num, HV, HB5⟩
    case measure => first | exact measure_next hiw hlt | exact measure_next rfl hlt
  ·obtain rfl : k = rn := by omega
   have hall : ∀ d ∈ rhs, d.right = true := by
    have := HE0.out
    rwa [List.take_of_length_le (by have := HRN.out; omega)] at this
   obtain ⟨rr, rqs, hrl, hrs, hrz⟩ := HRR.out.rs hall HGF.out
   obtain ⟨c1, ms1, rs1, e1, hp1, f1, z1, zm1, n1, -, v1⟩ := HS1.out.plain
   obtain ⟨c2, ms2, rs2, e2, hp2, f2, z2, zm2, n2, -, v2⟩ := HS2.out.plain
   obtain ⟨kq, hkq, zk⟩ := HS3.out.plainK
   obtain ⟨f, hf⟩ : ∃ f, atQ rqs = f := ⟨_, rfl⟩
   have hfs : ∀ v, szQ (f v) ≤ 6 := by rw [← hf]; exact atQ_sz hrz
   have hrl2 : rr.length = k := by rw [hrl]; exact HRN.out
   have HF := Lib.hid (And.intro hf (And.intro hfs (And.intro hrl2 (And.intro hrz hkn))))
   have HZ := Lib.hid (And.intro zk (And.intro z1 (And.intro zm1 (And.intro z2 (And.intro zm2 (And.intro n1 (And.intro n2 (And.intro e1 (And.intro e2 (And.intro f1 (And.intro f2 (And.intro v1 v2))))))))))))
   have HPS := Lib.hid (And.intro hp1 (And.intro hp2 (And.intro hkq hrs)))
   have HNW := Lib.hid (new_high 1000 wr (by omega) (by decide))
   clear hall hrl hrs hrz hf hfs hrl2 hp1 hp2 hkq zk z1 zm1 z2 zm2 n1 n2 e1 e2 f1 f2 v1 v2 HS1 HS2 HS3 HP HHQ HHK HRR HE0 HGF HB4 hlt
   go_wp2_with fail
   refine HNW.out.mono ?_
   rintro e w5 ⟨rfl, hw5⟩
   obtain ⟨b, hb⟩ : ∃ b, wr.heap.size = b := ⟨_, rfl⟩
   have hal : Below wr.heap.size wr w5 := by rw [hw5]; exact (Below.refl _ _).alloc (Nat.le_refl _) _
   have hbn : Bench w5 b 1000 false := by rw [hw5, ← hb]; exact heap_alloc_new wr _
   have hb5 := HBr.out.trans (hal.mono HBr.out.size)
   have hr5 : BR b 1000 false w5 w5 := BR.refl hbn (HB0.out.2.kept hb5)
   have hlt5 : w.heap.size + 1 + 1 < b := by have := HBr.out.size; have := HSZ.out; omega
   have HR5 := Lib.hid hr5
   have HLT := Lib.hid hlt5
   have HT5 := Lib.hid (HTH.out.kept hb5)
   have HPS5 := Lib.hid (And.intro (HPS.out.1.kept hb5) (And.intro (HPS.out.2.1.kept hb5) (And.intro (HPS.out.2.2.1.kept hb5) (HPS.out.2.2.2.kept hb5))))
   have HBW : Hid (Below w.heap.size w w5 ∧ w.heap.size ≤ b ∧ w.heap.size ≤ w5.heap.size) := Lib.hid ⟨HB0.out.1.trans (hb5.mono HB0.out.1.size), by omega, by have := HB0.out.1.size; have := hb5.size; omega⟩
   obtain ⟨ev1, hev1⟩ : ∃ e, errI (badM k ms1) = e := ⟨_, rfl⟩
   obtain ⟨q1, hq1⟩ : ∃ e, leftQ (badM k ms1) (c1 + dot f ms1) = e := ⟨_, rfl⟩
   obtain ⟨ev2, hev2⟩ : ∃ e, errI (badM k ms2) = e := ⟨_, rfl⟩
   obtain ⟨q2, hq2⟩ : ∃ e, leftQ (badM k ms2) (c2 + dot f ms2) = e := ⟨_, rfl⟩
   have HEQ := Lib.hid (And.intro (And.intro hev1 hq1) (And.intro hev2 hq2))
   have HV1 := Lib.hid (value_x (cp := pn) (rc := rc) hr5 hr5 HPS5.out.1 HPS5.out.2.2.2 (by have := HZ.out.2.1; omega) (fun y hy => by have := HZ.out.2.2.1 y hy; omega) HF.out.2.2.2.1 (by have := HZ.out; omega) HZ.out.2.2.2.2.2.2.2.1 HF.out.2.2.1 (by have := HL.out; omega) HF.out.1 hev1 hq1)
   have HV2 : Hid (∀ W, BR b 1000 false w5 W → Calls Tryz.prog 22 #[.pointer (some ⟨b, 0, none⟩), .agg #[.bool qs, .slice qa qx.length qc, .slice qb qd.length qe, .slice qm qhs.length qn], .slice ra k rc] W (GotX b W ev2 q2)) := Lib.hid fun W h => value_x (cp := qn) (rc := rc) HR5.out h (HPS5.out.2.1.bench HR5.out.bench h) HPS5.out.2.2.2 (by have := HZ.out.2.2.2.1; omega) (fun y hy => by have := HZ.out.2.2.2.2.1 y hy; omega) HF.out.2.2.2.1 (by have := HZ.out; omega) HZ.out.2.2.2.2.2.2.2.2.1 HF.out.2.2.1 (by have := HL.out; omega) HF.out.1 HEQ.out.2.1 HEQ.out.2.2
   obtain ⟨p0, p1, p2, p3, q0, q1', q2', q3, r0, r1, r2⟩ := cells11 HT5.out.1 HT5.out.2.1 HT5.out.2.2
   rw [hb]
   clear hev1 hq1 hev2 hq2 hb hal hbn hb5 hr5 hlt5 hw5 HNW HPS HTH HBr HSZ
   go_wp2_with fail
   refine HV1.out.mono ?_
   rintro e w6 ⟨xs, xa, xl, xc, xb, xk, xe, rfl, hr6, hx6⟩
   clear p0 p1 p2 p3 q0 q1' q2' q3 r0 r1 r2 HV1
   have hal := (Below.refl w6.heap.size w6).alloc (Nat.le_refl _) (.cells #[.bool xs, .slice xa xl xc, .slice xb xk xe] 27)
   obtain ⟨w7, hw7⟩ : ∃ X, X = w6.alloc (.cells #[.bool xs, .slice xa xl xc, .slice xb xk xe] 27) := ⟨_, rfl⟩
   have hkx := cells_of w6 #[.bool xs, .slice xa xl xc, .slice xb xk xe] 27
   rw [← hw7] at hal hkx
   obtain ⟨Xb, hxb⟩ : ∃ X, w6.heap.size = X := ⟨_, rfl⟩
   rw [hxb] at hkx
   have HR7 : Hid (BR b 1000 false w5 w7) := Lib.hid ((HR5.out.trans hr6.out).kept hal)
   have HXb : Hid (∀ W, BR b 1000 false w7 W → W.heap[Xb]? = some (.cells #[.bool xs, .slice xa xl xc, .slice xb xk xe] 27 (0, 0)) ∧ VQ (q1) (xs, (xa, xl, xc), (xb, xk, xe)) W) := Lib.hid fun W h => ⟨h.block hkx (by have := (HR5.out.trans hr6.out).bench.lt; omega), (hx6.out.kept hal).benchL HR7.out.bench h.g⟩
   have Hw7 := Lib.hid hw7
   have hth := HT5.out.bench HR7.out HLT.out
   obtain ⟨p0, p1, p2, p3, q0, q1', q2', q3, r0, r1, r2⟩ := cells11 hth.1 hth.2.1 hth.2.2
   have q0b := q0
   have q1b := q1'
   have q2b := q2'
   have q3b := q3
   rw [hw7] at q0b q1b q2b q3b
   clear hal hw7 hkx hr6 hx6 hth p0 p1 p2 p3 r0 r1 r2
   go_wp2_with fail
   rw [← Hw7.out]
   refine (HV2.out _ HR7.out).mono ?_
   rintro e w8 ⟨ys, ya, yl, yc, yb, yk, ye, rfl, hr8, hy8⟩
   clear q0 q1' q2' q3 q0b q1b q2b q3b HV2
   have hal := (Below.refl w8.heap.size w8).alloc (Nat.le_refl _) (.cells #[.bool ys, .slice ya yl yc, .slice yb yk ye] 27)
   obtain ⟨w9, hw9⟩ : ∃ X, X = w8.alloc (.cells #[.bool ys, .slice ya yl yc, .slice yb yk ye] 27) := ⟨_, rfl⟩
   have hkx := cells_of w8 #[.bool ys, .slice ya yl yc, .slice yb yk ye] 27
   rw [← hw9] at hal hkx
   obtain ⟨Yb, hxb⟩ : ∃ X, w8.heap.size = X := ⟨_, rfl⟩
   rw [hxb] at hkx
   have HR9 : Hid (BR b 1000 false w5 w9) := Lib.hid ((HR7.out.trans hr8.out).kept hal)
   have HYb : Hid (∀ W, BR b 1000 false w9 W → W.heap[Yb]? = some (.cells #[.bool ys, .slice ya yl yc, .slice yb yk ye] 27 (0, 0)) ∧ VQ (q2) (ys, (ya, yl, yc), (yb, yk, ye)) W) := Lib.hid fun W h => ⟨h.block hkx (by have := (HR7.out.trans hr8.out).bench.lt; omega), (hy8.out.kept hal).benchL HR9.out.bench h.g⟩
   have Hw9 := Lib.hid hw9
   have HC9 := Lib.hid (hr8.out.kept hal)
   have hth := HT5.out.bench HR9.out HLT.out
   obtain ⟨p0, p1, p2, p3, q0, q1', q2', q3, r0, r1, r2⟩ := cells11 hth.1 hth.2.1 hth.2.2
   rw [hw9] at p0 p1 p2 p3 q0 q1' q2' q3 r0 r1 r2
   clear hal hw9 hkx hr8 hy8 hth
   cases hb1 : badM k ms1
   case true =>
    obtain rfl : ev1 = 2 := by rw [← HEQ.out.1.1, hb1]; rfl
    have HE := Lib.hid (BR.below HR9.out HBW.out.1 HBW.out.2.1 HBW.out.2.2)
    clear hb1 p0 p1 p2 p3 q0 q1' q2' q3 r0 r1 r2
    go_wp2_with fail
    go_ret
    rw [← Hw9.out]
    exact ⟨rfl, HE.out⟩
   case false =>
   obtain rfl : ev1 = 0 := by rw [← HEQ.out.1.1, hb1]; rfl
   cases hb2 : badM k ms2
   case true =>
    obtain rfl : ev2 = 2 := by rw [← HEQ.out.2.1, hb2]; rfl
    have HE := Lib.hid (BR.below HR9.out HBW.out.1 HBW.out.2.1 HBW.out.2.2)
    clear hb1 hb2 p0 p1 p2 p3 q0 q1' q2' q3 r0 r1 r2
    go_wp2_with fail
    go_ret
    rw [← Hw9.out]
    exact ⟨rfl, HE.out⟩
   case false =>
   obtain rfl : ev2 = 0 := by rw [← HEQ.out.2.1, hb2]; rfl
   have HBD := Lib.hid (And.intro hb1 hb2)
   have hq1 : c1 + dot f ms1 = q1 := by have := HEQ.out.1.2; rw [hb1] at this; exact this
   have hq2 : c2 + dot f ms2 = q2 := by have := HEQ.out.2.2; rw [hb2] at this; exact this
   have HQE := Lib.hid (And.intro hq1 hq2)
   have HQZ : Hid (szQ q1 ≤ 456 ∧ szQ q2 ≤ 456) := Lib.hid ⟨by rw [← hq1]; exact full_sz HF.out.2.1 (by have := HZ.out.2.1; omega) (fun y hy => by have := HZ.out.2.2.1 y hy; omega) (by have := HZ.out; omega), by rw [← hq2]; exact full_sz HF.out.2.1 (by have := HZ.out.2.2.2.1; omega) (fun y hy => by have := HZ.out.2.2.2.2.1 y hy; omega) (by have := HZ.out; omega)⟩
   have hadd := add_sm (cp1 := pn) (cp2 := qn) HR9.out.bench HR9.out.tab (HPS5.out.1.bench HR5.out.bench HR9.out) (HPS5.out.2.2.1.benchL HR5.out.bench HR9.out.g) (HPS5.out.2.1.bench HR5.out.bench HR9.out) HZ.out.1 HZ.out.2.1 HZ.out.2.2.1 HZ.out.2.2.2.1 HZ.out.2.2.2.2.1 HZ.out.2.2.2.2.2.1 HZ.out.2.2.2.2.2.2.1 HZ.out.2.2.2.2.2.2.2.1 HZ.out.2.2.2.2.2.2.2.2.1
   rw [add_all HZ.out.1 HZ.out.2.1 HZ.out.2.2.1 HZ.out.2.2.2.1 HZ.out.2.2.2.2.1 HZ.out.2.2.2.2.2.2.2.2.2.1 HZ.out.2.2.2.2.2.2.2.2.2.2.1] at hadd
   have HADD := Lib.hid hadd
   have HME : Hid (errI (badM k (merge ms1 (scale kq ms2))) = 0 ∧ leftQ (badM k (merge ms1 (scale kq ms2))) (c1 + kq * c2 + dot f (merge ms1 (scale kq ms2))) = q1 + kq * q2 ∧ errI (badM k (scale kq ms2)) = 0 ∧ leftQ (badM k (scale kq ms2)) (kq * c2 + dot f (scale kq ms2)) = kq * q2) := Lib.hid (by
    rw [bad_merge hb1 hb2, bad_scale hb2, value_add, value_scale, hq1, hq2]
    exact ⟨rfl, rfl, rfl, rfl⟩)
   clear hb1 hb2 hq1 hq2 hadd
   go_wp2_with fail
   rw [← Hw9.out]
   refine HADD.out.mono ?_
   rintro e w10 ⟨ss, sa, sl, sc, sb, sk, se, sm, sn, sr, rfl, hr10, hp10, -, -, -⟩
   have HR10 := Lib.hid (HR9.out.trans hr10.out)
   have HV3 := Lib.hid (value_x (cp := sn) (rc := rc) HR5.out HR10.out (poly_left hp10.out) HPS5.out.2.2.2 (addC_sz HZ.out.1 HZ.out.2.1 HZ.out.2.2.2.1) (fun y hy => refAdd_sz HZ.out.1 HZ.out.2.2.1 HZ.out.2.2.2.2.1 y (by rw [← merge_ref HZ.out.2.2.2.2.2.2.2.2.2.1 HZ.out.2.2.2.2.2.2.2.2.2.2.1]; exact hy)) HF.out.2.2.2.1 (by have h1 := merge_len ms1 (scale kq ms2); have h2 := scale_len kq ms2; have := HZ.out; omega) rfl HF.out.2.2.1 (by have := HL.out; omega) HF.out.1 HME.out.1 HME.out.2.1)
   clear p0 p1 p2 p3 q0 q1' q2' q3 r0 r1 r2 HADD
   go_wp2_with fail
   refine HV3.out.mono ?_
   rintro e w11 ⟨zs, za, zl, zc, zb, zk, ze, rfl, hr11, hz11⟩
   clear HV3
   have hal := (Below.refl w11.heap.size w11).alloc (Nat.le_refl _) (.cells #[.bool zs, .slice za zl zc, .slice zb zk ze] 27)
   obtain ⟨w12, hw12⟩ : ∃ X, X = w11.alloc (.cells #[.bool zs, .slice za zl zc, .slice zb zk ze] 27) := ⟨_, rfl⟩
   have hkx := cells_of w11 #[.bool zs, .slice za zl zc, .slice zb zk ze] 27
   rw [← hw12] at hal hkx
   obtain ⟨Zb, hxb⟩ : ∃ X, w11.heap.size = X := ⟨_, rfl⟩
   rw [hxb] at hkx
   have HR12 : Hid (BR b 1000 false w5 w12) := Lib.hid ((HR10.out.trans hr11.out).kept hal)
   have HZb : Hid (∀ W, BR b 1000 false w12 W → W.heap[Zb]? = some (.cells #[.bool zs, .slice za zl zc, .slice zb zk ze] 27 (0, 0)) ∧ VQ (q1 + kq * q2) (zs, (za, zl, zc), (zb, zk, ze)) W) := Lib.hid fun W h => ⟨h.block hkx (by have := (HR10.out.trans hr11.out).bench.lt; omega), (hz11.out.kept hal).benchL HR12.out.bench h.g⟩
   have Hw12 := Lib.hid hw12
   have HC12 := Lib.hid ((hr10.out.trans hr11.out).kept hal)
   have hth := HT5.out.bench HR12.out HLT.out
   obtain ⟨p0, p1, p2, p3, q0, q1', q2', q3, r0, r1, r2⟩ := cells11 hth.1 hth.2.1 hth.2.2
   have hsc := scale_sm (cp := qn) HR12.out.bench HR12.out.tab (HPS5.out.2.2.1.benchL HR5.out.bench HR12.out.g) (HPS5.out.2.1.bench HR5.out.bench HR12.out) HZ.out.1 HZ.out.2.2.2.1 HZ.out.2.2.2.2.1 HZ.out.2.2.2.2.2.2.1 HZ.out.2.2.2.2.2.2.2.2.1
   have HSC := Lib.hid hsc
   rw [hw12] at q0 q1' q2' q3 r0 r1 r2
   clear p0 p1 p2 p3 hal hw12 hkx hr10 hp10 hr11 hz11 hth hsc
   go_wp2_with fail
   rw [← Hw12.out]
   refine HSC.out.mono ?_
   rintro e w13 ⟨ts, ta, tl, tc, tb, tk, te, tm, tn, tr, rfl, hr13, hp13, -, -, -⟩
   have HR13 := Lib.hid (HR12.out.trans hr13.out)
   have HV4 := Lib.hid (value_x (cp := tn) (rc := rc) HR5.out HR13.out (poly_left hp13.out) HPS5.out.2.2.2 (by have := szQ_mul kq c2; have := HZ.out.1; have := HZ.out.2.2.2.1; omega) (fun y hy => by have := scale_sz HZ.out.1 HZ.out.2.2.2.2.1 y hy; omega) HF.out.2.2.2.1 (by have h2 := scale_len kq ms2; have := HZ.out; omega) rfl HF.out.2.2.1 (by have := HL.out; omega) HF.out.1 HME.out.2.2.1 HME.out.2.2.2)
   clear q0 q1' q2' q3 r0 r1 r2 HSC
   go_wp2_with fail
   refine HV4.out.mono ?_
   rintro e w14 ⟨vs, va, vl, vc, vb, vk, ve, rfl, hr14, hv14⟩
   clear HV4
   have hal := (Below.refl w14.heap.size w14).alloc (Nat.le_refl _) (.cells #[.bool vs, .slice va vl vc, .slice vb vk ve] 27)
   obtain ⟨w15, hw15⟩ : ∃ X, X = w14.alloc (.cells #[.bool vs, .slice va vl vc, .slice vb vk ve] 27) := ⟨_, rfl⟩
   have hkx := cells_of w14 #[.bool vs, .slice va vl vc, .slice vb vk ve] 27
   rw [← hw15] at hal hkx
   obtain ⟨Wb, hxb⟩ : ∃ X, w14.heap.size = X := ⟨_, rfl⟩
   rw [hxb] at hkx
   have HR15 : Hid (BR b 1000 false w5 w15) := Lib.hid ((HR13.out.trans hr14.out).kept hal)
   have HWb : Hid (∀ W, BR b 1000 false w15 W → W.heap[Wb]? = some (.cells #[.bool vs, .slice va vl vc, .slice vb vk ve] 27 (0, 0)) ∧ VQ (kq * q2) (vs, (va, vl, vc), (vb, vk, ve)) W) := Lib.hid fun W h => ⟨h.block hkx (by have := (HR13.out.trans hr14.out).bench.lt; omega), (hv14.out.kept hal).benchL HR15.out.bench h.g⟩
   have Hw15 := Lib.hid hw15
   have HC15 := Lib.hid ((hr13.out.trans hr14.out).kept hal)
   clear hal hw15 hkx hr13 hp13 hr14 hv14
   have HKS : Hid (∀ W, BR b 1000 false w15 W → (W.cell? ⟨Zb, 0, none⟩ = some (.bool zs) ∧ W.cell? ⟨Zb, 1, none⟩ = some (.slice za zl zc) ∧ W.cell? ⟨Zb, 2, none⟩ = some (.slice zb zk ze)) ∧ (W.cell? ⟨Xb, 0, none⟩ = some (.bool xs) ∧ W.cell? ⟨Xb, 1, none⟩ = some (.slice xa xl xc) ∧ W.cell? ⟨Xb, 2, none⟩ = some (.slice xb xk xe)) ∧ (W.cell? ⟨w.heap.size + 1 + 1, 0, none⟩ = some (.bool ks) ∧ W.cell? ⟨w.heap.size + 1 + 1, 1, none⟩ = some (.slice ka kx.length kc) ∧ W.cell? ⟨w.heap.size + 1 + 1, 2, none⟩ = some (.slice kb kd.length ke)) ∧ (W.cell? ⟨Yb, 0, none⟩ = some (.bool ys) ∧ W.cell? ⟨Yb, 1, none⟩ = some (.slice ya yl yc) ∧ W.cell? ⟨Yb, 2, none⟩ = some (.slice yb yk ye)) ∧ (W.cell? ⟨Wb, 0, none⟩ = some (.bool vs) ∧ W.cell? ⟨Wb, 1, none⟩ = some (.slice va vl vc) ∧ W.cell? ⟨Wb, 2, none⟩ = some (.slice vb vk ve))) := Lib.hid fun W h => by
    have h12 := HC15.out.trans h
    have h9 := HC12.out.trans h12
    obtain ⟨z0, z1, z2, _⟩ := cells3 (HZb.out W h12).1
    obtain ⟨x0, x1, x2, _⟩ := cells3 (HXb.out W (HC9.out.trans h9)).1
    obtain ⟨y0, y1, y2, _⟩ := cells3 (HYb.out W h9).1
    obtain ⟨v0, v1, v2, _⟩ := cells3 (HWb.out W h).1
    have hth := HT5.out.bench (HR15.out.trans h) HLT.out
    obtain ⟨_, _, _, _, _, _, _, _, r0, r1, r2⟩ := cells11 hth.1 hth.2.1 hth.2.2
    exact ⟨⟨z0, z1, z2⟩, ⟨x0, x1, x2⟩, ⟨r0, r1, r2⟩, ⟨y0, y1, y2⟩, v0, v1, v2⟩
   have HM : Hid (∀ W, BR b 1000 false w15 W → Calls Tryz.prog 31 #[.pointer (some ⟨b, 0, none⟩), .agg #[.bool ks, .slice ka kx.length kc, .slice kb kd.length ke], .agg #[.bool ys, .slice ya yl yc, .slice yb yk ye]] W (GotO b 1000 false W (kq * q2))) := Lib.hid fun W h => by
    have h9 := HC12.out.trans (HC15.out.trans h)
    have := gotO_mul h.self (HPS5.out.2.2.1.benchL HR5.out.bench (HR15.out.trans h).g) (HYb.out W h9).2 (by have := HZ.out.1; omega) (by have := HQZ.out; omega)
    rw [ov_small (by have := szQ_mul kq q2; have := HZ.out.1; have := HQZ.out; omega)] at this
    exact this
   have HA : Hid (∀ W s z1 m1 k1 z2 m2 k2, BR b 1000 false w15 W → VQ (leftQ false (kq * q2)) (s, (z1, m1, k1), (z2, m2, k2)) W → Calls Tryz.prog 30 #[.pointer (some ⟨b, 0, none⟩), .agg #[.bool xs, .slice xa xl xc, .slice xb xk xe], .agg #[.bool s, .slice z1 m1 k1, .slice z2 m2 k2]] W (GotO b 1000 false W (q1 + kq * q2))) := Lib.hid fun W s z1 m1 k1 z2 m2 k2 h hv => by
    have h9 := HC9.out.trans (HC12.out.trans (HC15.out.trans h))
    have hsz := szQ_mul kq q2
    have := gotO_add (q := q1) (r := kq * q2) h.self (HXb.out W h9).2 hv (by have := HQZ.out; omega) (by have := HZ.out.1; have := HQZ.out; omega)
    rw [ov_small (by have := szQ_add q1 (kq * q2); have := HZ.out.1; have := HQZ.out; omega)] at this
    exact this
   have HS1 : Hid (∀ W s z1 m1 k1 z2 m2 k2, BR b 1000 false w15 W → VQ (leftQ false (q1 + kq * q2)) (s, (z1, m1, k1), (z2, m2, k2)) W → Calls Tryz.prog 23 #[.agg #[.bool zs, .slice za zl zc, .slice zb zk ze], .agg #[.bool s, .slice z1 m1 k1, .slice z2 m2 k2]] W (GotV W (.bool true))) := Lib.hid fun W s z1 m1 k1 z2 m2 k2 h hv => by
    have := got_sameL (W5 := W) (HZb.out W (HC15.out.trans h)).2 (show VQ (q1 + kq * q2) _ W from hv) (by have := szQ_mul kq q2; have := szQ_add q1 (kq * q2); have := HZ.out.1; have := HQZ.out; omega) (Below.refl _ _)
    simpa using this
   have HS2 : Hid (∀ W s z1 m1 k1 z2 m2 k2, BR b 1000 false w15 W → VQ (leftQ false (kq * q2)) (s, (z1, m1, k1), (z2, m2, k2)) W → Calls Tryz.prog 23 #[.agg #[.bool vs, .slice va vl vc, .slice vb vk ve], .agg #[.bool s, .slice z1 m1 k1, .slice z2 m2 k2]] W (GotV W (.bool true))) := Lib.hid fun W s z1 m1 k1 z2 m2 k2 h hv => by
    have := got_sameL (W5 := W) (HWb.out W h).2 (show VQ (kq * q2) _ W from hv) (by have := szQ_mul kq q2; have := HZ.out.1; have := HQZ.out; omega) (Below.refl _ _)
    simpa using this
   go_wp2_with fail
   rw [← Hw15.out]
   refine wp_region_ex (ι := RawR × RawR × RawR) (fun i => [(89, .int .i64 0), (90, .bool true), (91, .bool true), (92, .int .i64 0), (93, .bool true), (94, .bool true), (95, .bool true), (96, .agg #[.bool zs, .slice za zl zc, .slice zb zk ze]), (97, .pointer (some ⟨b, 0, none⟩)), (98, .agg #[.bool xs, .slice xa xl xc, .slice xb xk xe]), (99, .pointer (some ⟨b, 0, none⟩)), (100, .agg #[.bool ks, .slice ka kx.length kc, .slice kb kd.length ke]), (101, .agg #[.bool ys, .slice ya yl yc, .slice yb yk ye]), (102, .agg #[.bool i.1.1, .slice i.1.2.1.1 i.1.2.1.2.1 i.1.2.1.2.2, .slice i.1.2.2.1 i.1.2.2.2.1 i.1.2.2.2.2]), (103, .agg #[.bool i.2.1.1, .slice i.2.1.2.1.1 i.2.1.2.1.2.1 i.2.1.2.1.2.2, .slice i.2.1.2.2.1 i.2.1.2.2.2.1 i.2.1.2.2.2.2]), (104, .bool true), (105, .bool true), (106, .bool true), (107, .agg #[.bool vs, .slice va vl vc, .slice vb vk ve]), (108, .pointer (some ⟨b, 0, none⟩)), (109, .agg #[.bool ks, .slice ka kx.length kc, .slice kb kd.length ke]), (110, .agg #[.bool ys, .slice ya yl yc, .slice yb yk ye]), (111, .agg #[.bool i.2.2.1, .slice i.2.2.2.1.1 i.2.2.2.1.2.1 i.2.2.2.1.2.2, .slice i.2.2.2.2.1 i.2.2.2.2.2.1 i.2.2.2.2.2.2]), (112, .bool true), (113, .bool true), (114, .bool true), (115, .pointer (some ⟨b, 0, none⟩)), (116, .bool false), (117, .bool true), (118, .bool true), (8, .bool true)]) (fun _ W => BR b 1000 false w15 W) ?reg18 ?rest18
   case reg18 =>
    have hI : Hid (BR b 1000 false w15 w15.drew) := Lib.hid (HR15.out.self.kept (below_drew w15))
    obtain ⟨wl, hw0⟩ : ∃ X, X = w15.drew := ⟨_, rfl⟩
    rw [← hw0] at hI
    refine wp_region_held_drew (S := (fun w' => (w'.cell? ⟨Zb, 0, none⟩ = some (.bool zs) ∧ w'.cell? ⟨Zb, 1, none⟩ = some (.slice za zl zc) ∧ w'.cell? ⟨Zb, 2, none⟩ = some (.slice zb zk ze)) ∧ (w'.cell? ⟨Xb, 0, none⟩ = some (.bool xs) ∧ w'.cell? ⟨Xb, 1, none⟩ = some (.slice xa xl xc) ∧ w'.cell? ⟨Xb, 2, none⟩ = some (.slice xb xk xe)) ∧ (w'.cell? ⟨w.heap.size + 1 + 1, 0, none⟩ = some (.bool ks) ∧ w'.cell? ⟨w.heap.size + 1 + 1, 1, none⟩ = some (.slice ka kx.length kc) ∧ w'.cell? ⟨w.heap.size + 1 + 1, 2, none⟩ = some (.slice kb kd.length ke)) ∧ (w'.cell? ⟨Yb, 0, none⟩ = some (.bool ys) ∧ w'.cell? ⟨Yb, 1, none⟩ = some (.slice ya yl yc) ∧ w'.cell? ⟨Yb, 2, none⟩ = some (.slice yb yk ye)) ∧ (w'.cell? ⟨Wb, 0, none⟩ = some (.bool vs) ∧ w'.cell? ⟨Wb, 1, none⟩ = some (.slice va vl vc) ∧ w'.cell? ⟨Wb, 2, none⟩ = some (.slice vb vk ve)))) (by kernel_rfl) ?_ (fun hHeld => ?_)
    rotate_left 1
    rw [← hw0] at hHeld ⊢; clear hw0
    rotate_left 1
    ·rw [← hw0]; exact HKS.out _ hI.out
    refine tkL 0 (v := ?_) ?_ hHeld ?_
    rotate_left 1
    ·intro w' hSw
     (try dsimp only at hSw)
     go_simp
     try with_reducible rfl
    try simp only [Act.put, zA, zB, zC, zD, zE, zF]
    refine tkL 1 (v := ?_) ?_ hHeld ?_
    rotate_left 1
    ·intro w' hSw
     (try dsimp only at hSw)
     go_simp
     try with_reducible rfl
    try simp only [Act.put, zA, zB, zC, zD, zE, zF]
    refine tkL 2 (v := ?_) ?_ hHeld ?_
    rotate_left 1
    ·intro w' hSw
     (try dsimp only at hSw)
     go_simp
     try with_reducible rfl
    try simp only [Act.put, zA, zB, zC, zD, zE, zF]
    refine tkL 3 (v := ?_) ?_ hHeld ?_
    rotate_left 1
    ·intro w' hSw
     (try dsimp only at hSw)
     go_simp
     try with_reducible rfl
    try simp only [Act.put, zA, zB, zC, zD, zE, zF]
    refine tkL 4 (v := ?_) ?_ hHeld ?_
    rotate_left 1
    ·intro w' hSw
     (try dsimp only at hSw)
     go_simp
     try with_reducible rfl
    try simp only [Act.put, zA, zB, zC, zD, zE, zF]
    refine tkL 5 (v := ?_) ?_ hHeld ?_
    rotate_left 1
    ·intro w' hSw
     (try dsimp only at hSw)
     go_simp
     try with_reducible rfl
    try simp only [Act.put, zA, zB, zC, zD, zE, zF]
    refine tkL 6 (v := ?_) ?_ hHeld ?_
    rotate_left 1
    ·intro w' hSw
     (try dsimp only at hSw)
     go_simp
     try with_reducible rfl
    try simp only [Act.put, zA, zB, zC, zD, zE, zF]
    refine tkL 7 (v := ?_) ?_ hHeld ?_
    rotate_left 1
    ·intro w' hSw
     (try dsimp only at hSw)
     go_simp
     try with_reducible rfl
    try simp only [Act.put, zA, zB, zC, zD, zE, zF]
    refine tkL 8 (v := ?_) ?_ hHeld ?_
    rotate_left 1
    ·intro w' hSw
     (try dsimp only at hSw)
     go_simp
     try with_reducible rfl
    try simp only [Act.put, zA, zB, zC, zD, zE, zF]
    refine tkL 9 (v := ?_) ?_ hHeld ?_
    rotate_left 1
    ·intro w' hSw
     (try dsimp only at hSw)
     go_simp
     try with_reducible rfl
    try simp only [Act.put, zA, zB, zC, zD, zE, zF]
    refine tkL 10 (v := ?_) ?_ hHeld ?_
    rotate_left 1
    ·intro w' hSw
     (try dsimp only at hSw)
     go_simp
     try with_reducible rfl
    try simp only [Act.put, zA, zB, zC, zD, zE, zF]
    refine tkL 11 (v := ?_) ?_ hHeld ?_
    rotate_left 1
    ·intro w' hSw
     (try dsimp only at hSw)
     go_simp
     try with_reducible rfl
    try simp only [Act.put, zA, zB, zC, zD, zE, zF]
    refine tkL 12 (v := ?_) ?_ hHeld ?_
    rotate_left 1
    ·intro w' hSw
     (try dsimp only at hSw)
     go_simp
     try with_reducible rfl
    try simp only [Act.put, zA, zB, zC, zD, zE, zF]
    refine rdy [13] ?_
    refine AllReadyH.cons (by rfl) (fun K hK => ?_) AllReadyH.nil
    go_simp
    refine (HM.out _ hI.out).mono ?_
    rintro e wl ⟨ts, ta, tl, tc, tb, tk, te, rfl, hr, ht⟩
    replace hI := Lib.hid (hI.out.trans hr.out)
    clear hr 
    refine hK.out _ _ ?_ (fun hHeld => ?_)
    ·exact HKS.out _ hI.out
    clear hK K
    try simp only [Act.put, zA, zB, zC, zD, zE, zF]
    refine rdy [14] ?_
    refine AllReadyH.cons (by rfl) (fun K hK => ?_) AllReadyH.nil
    go_simp
    refine (HA.out _ _ _ _ _ _ _ _ hI.out ht.out).mono ?_
    rintro e wl ⟨us, ua, ul, uc, ub, uk, ue, rfl, hr, hu⟩
    replace hI := Lib.hid (hI.out.trans hr.out)
    clear hr ht
    refine hK.out _ _ ?_ (fun hHeld => ?_)
    ·exact HKS.out _ hI.out
    clear hK K
    try simp only [Act.put, zA, zB, zC, zD, zE, zF]
    refine rdy [15] ?_
    refine AllReadyH.cons (by rfl) (fun K hK => ?_) AllReadyH.nil
    go_simp
    refine (HS1.out _ _ _ _ _ _ _ _ hI.out hu.out).mono ?_
    rintro e wl ⟨rfl, hb⟩
    replace hI := Lib.hid (hI.out.kept hb.out)
    clear hb hu
    refine hK.out _ _ ?_ (fun hHeld => ?_)
    ·exact HKS.out _ hI.out
    clear hK K
    try simp only [Act.put, zA, zB, zC, zD, zE, zF]
    refine tkL 16 (v := ?_) ?_ hHeld ?_
    rotate_left 1
    ·intro w' hSw
     (try dsimp only at hSw)
     go_simp
     try with_reducible rfl
    try simp only [Act.put, zA, zB, zC, zD, zE, zF]
    refine tkL 17 (v := ?_) ?_ hHeld ?_
    rotate_left 1
    ·intro w' hSw
     (try dsimp only at hSw)
     go_simp
     try with_reducible rfl
    try simp only [Act.put, zA, zB, zC, zD, zE, zF]
    refine tkL 18 (v := ?_) ?_ hHeld ?_
    rotate_left 1
    ·intro w' hSw
     (try dsimp only at hSw)
     go_simp
     try with_reducible rfl
    try simp only [Act.put, zA, zB, zC, zD, zE, zF]
    refine tkL 19 (v := ?_) ?_ hHeld ?_
    rotate_left 1
    ·intro w' hSw
     (try dsimp only at hSw)
     go_simp
     try with_reducible rfl
    try simp only [Act.put, zA, zB, zC, zD, zE, zF]
    refine tkL 20 (v := ?_) ?_ hHeld ?_
    rotate_left 1
    ·intro w' hSw
     (try dsimp only at hSw)
     go_simp
     try with_reducible rfl
    try simp only [Act.put, zA, zB, zC, zD, zE, zF]
    refine tkL 21 (v := ?_) ?_ hHeld ?_
    rotate_left 1
    ·intro w' hSw
     (try dsimp only at hSw)
     go_simp
     try with_reducible rfl
    try simp only [Act.put, zA, zB, zC, zD, zE, zF]
    refine rdy [22] ?_
    refine AllReadyH.cons (by rfl) (fun K hK => ?_) AllReadyH.nil
    go_simp
    refine (HM.out _ hI.out).mono ?_
    rintro e wl ⟨os, oa, ol, oc, ob, ok, oe, rfl, hr, ho⟩
    replace hI := Lib.hid (hI.out.trans hr.out)
    clear hr 
    refine hK.out _ _ ?_ (fun hHeld => ?_)
    ·exact HKS.out _ hI.out
    clear hK K
    try simp only [Act.put, zA, zB, zC, zD, zE, zF]
    refine rdy [23] ?_
    refine AllReadyH.cons (by rfl) (fun K hK => ?_) AllReadyH.nil
    go_simp
    refine (HS2.out _ _ _ _ _ _ _ _ hI.out ho.out).mono ?_
    rintro e wl ⟨rfl, hb⟩
    replace hI := Lib.hid (hI.out.kept hb.out)
    clear hb ho
    refine hK.out _ _ ?_ (fun hHeld => ?_)
    ·exact HKS.out _ hI.out
    clear hK K
    try simp only [Act.put, zA, zB, zC, zD, zE, zF]
    refine tkL 24 (v := ?_) ?_ hHeld ?_
    rotate_left 1
    ·intro w' hSw
     (try dsimp only at hSw)
     go_simp
     try with_reducible rfl
    try simp only [Act.put, zA, zB, zC, zD, zE, zF]
    refine tkL 25 (v := ?_) ?_ hHeld ?_
    rotate_left 1
    ·intro w' hSw
     (try dsimp only at hSw)
     go_simp
     try with_reducible rfl
    try simp only [Act.put, zA, zB, zC, zD, zE, zF]
    refine tkL 26 (v := ?_) ?_ hHeld ?_
    rotate_left 1
    ·intro w' hSw
     (try dsimp only at hSw)
     go_simp
     try with_reducible rfl
    try simp only [Act.put, zA, zB, zC, zD, zE, zF]
    refine rdy [27] ?_
    refine AllReadyH.cons (by rfl) (fun K hK => ?_) AllReadyH.nil
    go_simp
    refine (over_any _ _ _ _ hI.out.bench).mono ?_
    rintro e wl2 ⟨rfl, hw⟩
    rw [← hw]
    clear hw
    refine hK.out _ _ ?_ (fun hHeld => ?_)
    ·exact HKS.out _ hI.out
    clear hK K
    try simp only [Act.put, zA, zB, zC, zD, zE, zF]
    refine tkL 28 (v := ?_) ?_ hHeld ?_
    rotate_left 1
    ·intro w' hSw
     (try dsimp only at hSw)
     go_simp
     try with_reducible rfl
    try simp only [Act.put, zA, zB, zC, zD, zE, zF]
    refine tkL 29 (v := ?_) ?_ hHeld ?_
    rotate_left 1
    ·intro w' hSw
     (try dsimp only at hSw)
     go_simp
     try with_reducible rfl
    try simp only [Act.put, zA, zB, zC, zD, zE, zF]
    refine tkL 30 (v := ?_) ?_ hHeld ?_
    rotate_left 1
    ·intro w' hSw
     (try dsimp only at hSw)
     go_simp
     try with_reducible rfl
    try simp only [Act.put, zA, zB, zC, zD, zE, zF]
    refine wpAnyH_done (by kernel_rfl) ?_ _
    have hE := Lib.hid hI.out
    exact ⟨((ts, (ta, tl, tc), (tb, tk, te)), (us, (ua, ul, uc), (ub, uk, ue)), (os, (oa, ol, oc), (ob, ok, oe))), by simp only [puts, Act.put, zA, zB, zC, zD, zE, zF], hE.out⟩
   rintro ⟨⟨ts, ⟨ta, tl, tc⟩, ⟨tb, tk, te⟩⟩, ⟨us, ⟨ua, ul, uc⟩, ⟨ub, uk, ue⟩⟩, ⟨os, ⟨oa, ol, oc⟩, ⟨ob, ok, oe⟩⟩⟩ w16 hS
   simp only [puts, Act.put, zA, zB, zC, zD, zE, zF]
   have HE := Lib.hid (BR.below (HR15.out.trans hS) HBW.out.1 HBW.out.2.1 HBW.out.2.2)
   clear hS HM HA HS1 HS2 HKS
   go_wp2_with fail
   go_ret
   exact ⟨rfl, HE.out⟩
end Go.Proofs.YtpjeecahaeaajaaGreatDoor
