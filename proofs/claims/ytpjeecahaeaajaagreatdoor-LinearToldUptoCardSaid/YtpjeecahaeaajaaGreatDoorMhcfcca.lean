/- By program out of: LnRSame, LnRCoef, LnRow, LnRAddB. -/
import Derived.Test.YtpjeecahaeaajaaGreatDoorMjgdhlo
set_option linter.unusedVariables false
set_option linter.unusedSimpArgs false
namespace Go.Proofs.YtpjeecahaeaajaaGreatDoor
open Go.RowKit Rep Ln
theorem L_inj {a b : Nat} (h : L a = L b) : a = b := by rw [← V_L a, h, V_L]
theorem denN_inj {a b : Nat} (ha : 0 < a) (hb : 0 < b) (h : denN a = denN b) : a = b := by
 unfold denN at h
 split at h <;> split at h <;> omega
theorem q_same (q r : Rat) : (ngQ q = ngQ r ∧ L (mgQ q) = L (mgQ r) ∧ L (denN q.den) = L (denN r.den)) ↔ q = r :=
 ⟨fun ⟨h1, h2, h3⟩ => q_ext h1 (L_inj h2) (denN_inj (den_pos q) (den_pos r) (L_inj h3)), fun h => by subst h; exact ⟨rfl, rfl, rfl⟩⟩
theorem got_sameL {W5 W : World} {q r : Rat} {s t : Bool} {z1 z2 y1 y2 : Option Addr} {m1 k1 m2 k2 n1 j1 n2 j2 : Nat} (h : VQ q (s, (z1, m1, k1), (z2, m2, k2)) W) (g : VQ r (t, (y1, n1, j1), (y2, n2, j2)) W) (hq : szQ q ≤ 100000) (hb : Below W5.heap.size W5 W) :
    Calls Tryz.prog 23 #[.agg #[.bool s, .slice z1 m1 k1, .slice z2 m2 k2], .agg #[.bool t, .slice y1 n1 j1, .slice y2 n2 j2]] W (GotV W5 (.bool (decide (q = r)))) := by
 obtain ⟨e1, d1⟩ := h.eq
 obtain ⟨e2, d2⟩ := g.eq
 rw [e1, e2]
 unfold szQ at hq
 refine (SameR_any (ngQ q) (ngQ r) z1 z2 y1 y2 k1 k2 j1 j2 (L (mgQ q)) (L (denN q.den)) (L (mgQ r)) (L (denN r.den)) W d1.num.1 d1.den.1 d2.num.1 d2.den.1 (by omega) (by omega)).mono ?_
 rintro e W' ⟨rfl, hb2⟩
 refine ⟨?_, Lib.hid (hb.trans (hb2.mono hb.size))⟩
 rw [decide_eq_decide.2 (q_same q r)]
theorem range_cells4 {W : World} {g off : Nat} {d : RM} (h : W.rangeAt g off d.cells) : W.cell? ⟨g, off, none⟩ = some (.int .i64 d.v) ∧ W.cell? ⟨g, off + 1, none⟩ = some (.bool d.s) ∧ W.cell? ⟨g, off + 2, none⟩ = some (.slice d.z1 d.m1 d.k1) ∧ W.cell? ⟨g, off + 3, none⟩ = some (.slice d.z2 d.m2 d.k2) :=
 ⟨h 0 _ rfl, h 1 _ rfl, h 2 _ rfl, h 3 _ rfl⟩
theorem take_same {l r : List Mo} {i : Nat} {x y : Mo} (h : l.take i = r.take i) (hx : l[i]? = some x) (hy : r[i]? = some y) (e : x = y) : l.take (i + 1) = r.take (i + 1) := by
 rw [List.take_add_one, List.take_add_one, h, hx, hy, e]
theorem differ_at {l r : List Mo} {i : Nat} {x y : Mo} (hx : l[i]? = some x) (hy : r[i]? = some y) (e : x ≠ y) : l ≠ r := by
 rintro rfl
 rw [hx] at hy
 exact e (Option.some.inj hy)
set_option maxRecDepth 100000 in
set_option maxHeartbeats 16000000 in
theorem RSame_any {w : World} {c1 c2 : Rat} {ms1 ms2 : List Mo} {ps : Bool} {pa pb : Option Addr} {pl pc pk pe : Nat} {qs : Bool} {qa qb : Option Addr} {ql qc qk qe : Nat} {a1 a2 : Option Addr} {cp1 cp2 : Nat} {rs1 rs2 : List RM}
    (hp : PolyAt c1 ms1 (ps, (pa, pl, pc), (pb, pk, pe)) a1 rs1 w) (hq : PolyAt c2 ms2 (qs, (qa, ql, qc), (qb, qk, qe)) a2 rs2 w) (z1 : szQ c1 ≤ 100000) (zm : ∀ x ∈ ms1, szQ x.2 ≤ 100000) (hn1 : rs1.length ≤ 1000) (hn2 : rs2.length ≤ 1000) :
    Calls Tryz.prog 15 #[.agg #[.bool ps, .slice pa pl pc, .slice pb pk pe, .slice a1 rs1.length cp1], .agg #[.bool qs, .slice qa ql qc, .slice qb qk qe, .slice a2 rs2.length cp2]] w (GivesV (.bool (decide (c1 = c2 ∧ ms1 = ms2))) w) := by
 obtain ⟨W0, hW0, hB0, b0, b1, hs⟩ := boxes2 w #[.bool ps, .slice pa pl pc, .slice pb pk pe, .slice a1 rs1.length cp1] #[.bool qs, .slice qa ql qc, .slice qb qk qe, .slice a2 rs2.length cp2] 30 30
 have hp0 := hp.kept hB0
 have hq0 := hq.kept hB0
 have HSC := Lib.hid (got_sameL (W5 := W0) hp0.num hq0.num z1 (Below.refl _ _))
 have HB0 := Lib.hid hB0
 have HM := Lib.hid (And.intro hp0.ms (And.intro hq0.ms zm))
 have HLE := Lib.hid (And.intro hp.ms.len hq.ms.len)
 have HBX := Lib.hid (And.intro b0 b1)
 have HW0 := Lib.hid hW0
 obtain ⟨q0, q1, q2, q3, _⟩ := cellsL4 b0
 obtain ⟨r0, r1, r2, r3, _⟩ := cellsL4 b1
 obtain ⟨n, hn⟩ : ∃ n, rs1.length = n := ⟨_, rfl⟩
 obtain ⟨n', hn'⟩ : ∃ n, rs2.length = n := ⟨_, rfl⟩
 rw [hn] at hn1 hW0 HW0 q3 HBX HLE ⊢
 rw [hn'] at hn2 hW0 HW0 r3 HBX HLE ⊢
 rw [hW0] at q0 q1 q2 q3 r0 r1 r2 r3
 clear hp hq z1 zm hB0 b0 b1 hs hp0 hq0 hn hn' hW0
 go_enter Tryz.func15, Tryz.ntmps15
 go_wp2_with fail
 rw [← HW0.out]
 refine HSC.out.mono ?_
 rintro e w5 ⟨rfl, hb5⟩
 have HB5 := Lib.hid (HB0.out.trans (hb5.out.mono HB0.out.size))
 have HB05 := Lib.hid hb5.out
 obtain ⟨q0', q1', q2', q3', _⟩ := cellsL4 (stayL HBX.out.1 hb5.out)
 obtain ⟨r0', r1', r2', r3', _⟩ := cellsL4 (stayL HBX.out.2 hb5.out)
 clear q0 q1 q2 q3 r0 r1 r2 r3 hb5 HSC
 by_cases hc : c1 = c2
 ·by_cases hnn : n = n'
  ·subst hnn
   have hnb : ((n : Int) != (n : Int)) = false := by simp
   rw [decide_eq_true hc]
   have HCC := Lib.hid hc
   clear hc
   go_wp2_with fail
   go_loopw [5] (fun (iv : Value) (wr : World) => ∃ i : Nat, i ≤ n ∧ iv = .int .i64 (i : Int) ∧ Hid (Below W0.heap.size W0 wr) ∧ Hid (ms1.take i = ms2.take i)) (fun iv _ => n - (intOf iv).toNat)
   case atStart => exact ⟨0, Nat.zero_le _, rfl, HB05, Lib.hid rfl⟩
   case round =>
    obtain ⟨i, hin, rfl, HB, HT⟩ := hrel
    clear q0' q1' q2' q3' r0' r1' r2' r3'
    have HBW := Lib.hid (HB0.out.trans (HB.out.mono HB0.out.size))
    by_cases hlt : i < n
    ·obtain ⟨d, x, g1, o1, hd, hx, rfl, hok, hr⟩ := (HM.out.1.kept HB.out).get (k := i) (by have := HLE.out; omega)
     obtain ⟨d', y, g2, o2, hd', hy, rfl, hok', hr'⟩ := (HM.out.2.1.kept HB.out).get (k := i) (by have := HLE.out; omega)
     have HZX := Lib.hid (HM.out.2.2 x (List.mem_of_getElem? hx))
     obtain ⟨v, s, z1, m1, k1, z2, m2, k2⟩ := d
     obtain ⟨u, t, y1, n1, j1, y2, n2, j2⟩ := d'
     obtain ⟨xv, xq⟩ := x
     obtain ⟨yv, yq⟩ := y
     obtain ⟨hv, hq⟩ := hok
     obtain ⟨hv', hq'⟩ := hok'
     dsimp only [RM.raw] at hv hq hv' hq'
     subst hv hv'
     have HK : Hid (∀ W, Below wr.heap.size wr W → (W.cell? ⟨g1, o1 + i * 4, none⟩ = some (.int .i64 v) ∧ W.cell? ⟨g1, o1 + i * 4 + 1, none⟩ = some (.bool s) ∧ W.cell? ⟨g1, o1 + i * 4 + 2, none⟩ = some (.slice z1 m1 k1) ∧ W.cell? ⟨g1, o1 + i * 4 + 3, none⟩ = some (.slice z2 m2 k2) ∧ W.cell? ⟨g2, o2 + i * 4, none⟩ = some (.int .i64 u) ∧ W.cell? ⟨g2, o2 + i * 4 + 1, none⟩ = some (.bool t) ∧ W.cell? ⟨g2, o2 + i * 4 + 2, none⟩ = some (.slice y1 n1 j1) ∧ W.cell? ⟨g2, o2 + i * 4 + 3, none⟩ = some (.slice y2 n2 j2) ∧ W.cell? ⟨w.heap.size, 3, none⟩ = some (.slice (some ⟨g1, o1, none⟩) n cp1) ∧ W.cell? ⟨w.heap.size + 1, 3, none⟩ = some (.slice (some ⟨g2, o2, none⟩) n cp2))) := Lib.hid fun W hW => by
      obtain ⟨a0, a1, a2, a3⟩ := range_cells4 (rangeAt_kept hr hW (rangeAt_lt hr (by simp [RM.cells])))
      obtain ⟨b0, b1, b2, b3⟩ := range_cells4 (rangeAt_kept hr' hW (rangeAt_lt hr' (by simp [RM.cells])))
      obtain ⟨_, _, _, c3, _⟩ := cellsL4 (stayL (stayL HBX.out.1 HB.out) hW)
      obtain ⟨_, _, _, d3, _⟩ := cellsL4 (stayL (stayL HBX.out.2 HB.out) hW)
      exact ⟨a0, a1, a2, a3, b0, b1, b2, b3, c3, d3⟩
     have HXY := Lib.hid (And.intro hx hy)
     have hii : (i : Int) < (n : Int) := by omega
     have hiw : wrap64 ((i : Int) + 1) = (i : Int) + 1 := IntWalk.wrap64_in _ (by omega)
     obtain ⟨f0, f1, f2, f3, f4, f5, f6, f7, f8, f9⟩ := HK.out _ (Below.refl _ _)
     by_cases huv : v = u
     ·have hne : (v != u) = false := by simpa using huv
      have HCS := Lib.hid (got_sameL (W5 := wr.drew) (hq.kept (below_drew wr)) (hq'.kept (below_drew wr)) HZX.out (Below.refl _ _))
      have HTK : Hid (xq = yq → ms1.take (i + 1) = ms2.take (i + 1)) := Lib.hid fun e => take_same HT.out hx hy (by rw [huv, e])
      have HNE : Hid (xq ≠ yq → decide (c1 = c2 ∧ ms1 = ms2) = false) := Lib.hid fun e => decide_eq_false fun e2 => differ_at hx hy (fun e3 => e (congrArg Prod.snd e3)) e2.2
      clear hr hr' hd hd' hx hy hq hq' huv
      go_wp2_with fail
      refine wp_region_held_drew (S := (fun W => W.cell? ⟨g1, o1 + i * 4, none⟩ = some (.int .i64 v) ∧ W.cell? ⟨g1, o1 + i * 4 + 1, none⟩ = some (.bool s) ∧ W.cell? ⟨g1, o1 + i * 4 + 2, none⟩ = some (.slice z1 m1 k1) ∧ W.cell? ⟨g1, o1 + i * 4 + 3, none⟩ = some (.slice z2 m2 k2) ∧ W.cell? ⟨g2, o2 + i * 4, none⟩ = some (.int .i64 u) ∧ W.cell? ⟨g2, o2 + i * 4 + 1, none⟩ = some (.bool t) ∧ W.cell? ⟨g2, o2 + i * 4 + 2, none⟩ = some (.slice y1 n1 j1) ∧ W.cell? ⟨g2, o2 + i * 4 + 3, none⟩ = some (.slice y2 n2 j2) ∧ W.cell? ⟨w.heap.size, 3, none⟩ = some (.slice (some ⟨g1, o1, none⟩) n cp1) ∧ W.cell? ⟨w.heap.size + 1, 3, none⟩ = some (.slice (some ⟨g2, o2, none⟩) n cp2))) (by kernel_rfl) ?_ (fun hHeld => ?_)
      ·exact HK.out _ (below_drew wr)
      refine tkV 0 hHeld ?_
      try simp only [Act.put, zA, zB, zC, zD, zE, zF]
      refine tkV 1 hHeld ?_
      try simp only [Act.put, zA, zB, zC, zD, zE, zF]
      refine tkV 2 hHeld ?_
      try simp only [Act.put, zA, zB, zC, zD, zE, zF]
      refine tkV 3 hHeld ?_
      try simp only [Act.put, zA, zB, zC, zD, zE, zF]
      refine tkV 4 hHeld ?_
      try simp only [Act.put, zA, zB, zC, zD, zE, zF]
      refine tkV 5 hHeld ?_
      try simp only [Act.put, zA, zB, zC, zD, zE, zF]
      refine tkV 6 hHeld ?_
      try simp only [Act.put, zA, zB, zC, zD, zE, zF]
      refine tkV 7 hHeld ?_
      try simp only [Act.put, zA, zB, zC, zD, zE, zF]
      refine tkV 8 hHeld ?_
      try simp only [Act.put, zA, zB, zC, zD, zE, zF]
      refine tkV 9 hHeld ?_
      try simp only [Act.put, zA, zB, zC, zD, zE, zF]
      refine tkV 10 hHeld ?_
      try simp only [Act.put, zA, zB, zC, zD, zE, zF]
      refine tkV 11 hHeld ?_
      try simp only [Act.put, zA, zB, zC, zD, zE, zF]
      refine tkV 12 hHeld ?_
      try simp only [Act.put, zA, zB, zC, zD, zE, zF]
      refine tkV 13 hHeld ?_
      try simp only [Act.put, zA, zB, zC, zD, zE, zF]
      refine tkV 14 hHeld ?_
      try simp only [Act.put, zA, zB, zC, zD, zE, zF]
      refine tkV 15 hHeld ?_
      try simp only [Act.put, zA, zB, zC, zD, zE, zF]
      refine tkV 16 hHeld ?_
      try simp only [Act.put, zA, zB, zC, zD, zE, zF]
      refine tkV 17 hHeld ?_
      try simp only [Act.put, zA, zB, zC, zD, zE, zF]
      refine tkV 18 hHeld ?_
      try simp only [Act.put, zA, zB, zC, zD, zE, zF]
      refine tkV 19 hHeld ?_
      try simp only [Act.put, zA, zB, zC, zD, zE, zF]
      refine tkV 20 hHeld ?_
      try simp only [Act.put, zA, zB, zC, zD, zE, zF]
      refine tkV 21 hHeld ?_
      try simp only [Act.put, zA, zB, zC, zD, zE, zF]
      refine tkV 22 hHeld ?_
      try simp only [Act.put, zA, zB, zC, zD, zE, zF]
      refine tkV 23 hHeld ?_
      try simp only [Act.put, zA, zB, zC, zD, zE, zF]
      refine tkV 24 hHeld ?_
      try simp only [Act.put, zA, zB, zC, zD, zE, zF]
      refine tkV 25 hHeld ?_
      try simp only [Act.put, zA, zB, zC, zD, zE, zF]
      refine rdy [26] ?_
      refine AllReadyH.cons (by rfl) (fun K hK => ?_) AllReadyH.nil
      go_simp
      refine HCS.out.mono ?_
      rintro e w7 ⟨rfl, hb7⟩
      have HB7 := Lib.hid (HB.out.trans (((below_drew wr).trans (hb7.out.mono (Nat.le_refl _))).mono HB.out.size))
      have HS7 := Lib.hid (HK.out _ ((below_drew wr).trans (hb7.out.mono (Nat.le_refl _))))
      clear hb7
      refine hK.out _ _ ?_ (fun hHeld => ?_)
      ·exact HS7.out
      clear hK K
      try simp only [Act.put, zA, zB, zC, zD, zE, zF]
      refine tkV 27 hHeld ?_
      try simp only [Act.put, zA, zB, zC, zD, zE, zF]
      refine tkV 28 hHeld ?_
      try simp only [Act.put, zA, zB, zC, zD, zE, zF]
      refine wpAnyH_done (by kernel_rfl) ?_ _
      clear hHeld HS7
      by_cases hq2 : xq = yq
      ·have HT := Lib.hid (HTK.out hq2)
       rw [decide_eq_true hq2]
       clear hq2
       go_wp2_with fail
       go_roundw
       case rel => exact ⟨i + 1, by omega, by go_num, HB7, HT⟩
       case measure => first | exact measure_next hiw hlt | exact measure_next rfl hlt
      ·have HF := Lib.hid (HNE.out hq2)
       rw [decide_eq_false hq2]
       clear hq2
       go_wp2_with fail
       go_ret
       exact GivesV.mk' (by rw [HF.out]; rfl) (HB0.out.trans (HB7.out.mono HB0.out.size))
     ·have hne : (v != u) = true := by simpa using huv
      have HF : Hid (decide (c1 = c2 ∧ ms1 = ms2) = false) := Lib.hid (decide_eq_false fun e2 => differ_at hx hy (fun e3 => huv (congrArg Prod.fst e3)) e2.2)
      clear hr hr' hd hd' hx hy hq hq' huv
      go_wp2_with fail
      go_quiet (fail)
      have HBN := Lib.hid (HBW.out.trans ((Below.drewN' (Below.refl wr.heap.size wr) nq).mono HBW.out.size))
      go_wp2_with fail
      go_ret
      exact GivesV.mk' (by rw [HF.out]; rfl) HBN.out
    ·obtain rfl : i = n := by omega
     obtain ⟨_, _, _, c3, _⟩ := cellsL4 (stayL HBX.out.1 HB.out)
     have HE : Hid (decide (c1 = c2 ∧ ms1 = ms2) = true) := Lib.hid (decide_eq_true ⟨HCC.out, by
      have h1 := HT.out
      rwa [List.take_of_length_le (by have := HLE.out; omega), List.take_of_length_le (by have := HLE.out; omega)] at h1⟩)
     go_wp2_with fail
     go_ret
     exact GivesV.mk' (by rw [HE.out]; rfl) HBW.out
  ·have hne : ¬ ((n : Int) = (n' : Int)) := by omega
   have hnb : ((n : Int) != (n' : Int)) = true := by simpa using hne
   have HF : Hid (decide (c1 = c2 ∧ ms1 = ms2) = false) := Lib.hid (decide_eq_false fun e => hnn (by have := HLE.out; rw [e.2] at this; omega))
   rw [decide_eq_true hc]
   clear hnn hc
   go_wp2_with fail
   go_ret
   exact GivesV.mk' (by rw [HF.out]; rfl) HB5.out
 ·have HF : Hid (decide (c1 = c2 ∧ ms1 = ms2) = false) := Lib.hid (decide_eq_false fun e => hc e.1)
  rw [decide_eq_false hc]
  clear hc
  go_wp2_with fail
  go_ret
  exact GivesV.mk' (by rw [HF.out]; rfl) HB5.out
end Go.Proofs.YtpjeecahaeaajaaGreatDoor

namespace Go.Proofs.YtpjeecahaeaajaaGreatDoor
open Go.RowKit Rep Ln
theorem finDL {w W0 W : World} {q : Rat} {s : Bool} {z1 z2 : Option Addr} {m1 k1 m2 k2 R : Nat} (hB0 : Below w.heap.size w W0) (hR : w.heap.size ≤ R) (h3 : BlankD W0 R) (h : Below W0.heap.size W0 W) (hv : VD q (s, (z1, m1, k1), (z2, m2, k2)) W) :
    GotD w q (.returned (.agg #[.bool s, .slice z1 m1 k1, .slice z2 m2 k2])) (set3 W R s (.slice z1 m1 k1) (.slice z2 m2 k2)) :=
 ⟨s, z1, m1, k1, z2, m2, k2, rfl, Lib.hid (set3_below (hB0.trans (h.mono hB0.size)) hR), Lib.hid (hv.set3 (h3.kept h) _ _ _)⟩
theorem coef_drop {ms : List Mo} {i : Nat} {x : Mo} {v : Int} (h : ms[i]? = some x) : coef (ms.drop i) v = if x.1 = v then x.2 else coef (ms.drop (i + 1)) v := by
 rw [drop_at h]
 rfl
set_option maxRecDepth 100000 in
set_option maxHeartbeats 4000000 in
theorem RCoef_any {w : World} {c : Rat} {ms : List Mo} {ps : Bool} {pa pb : Option Addr} {pl pc pk pe : Nat} {a : Option Addr} {cp : Nat} {rs : List RM} {v : Int}
    (hp : PolyAt c ms (ps, (pa, pl, pc), (pb, pk, pe)) a rs w) (zm : ∀ x ∈ ms, szQ x.2 ≤ 100) (hn : rs.length ≤ 1000) :
    Calls Tryz.prog 38 #[.agg #[.bool ps, .slice pa pl pc, .slice pb pk pe, .slice a rs.length cp], .int .i64 v] w (GotD w (coef ms v)) := by
 obtain ⟨W0, hW0, hB0, b0, b1, hs⟩ := boxes2 w #[.bool ps, .slice pa pl pc, .slice pb pk pe, .slice a rs.length cp] #[.bool false, .slice none 0 0, .slice none 0 0] 30 42
 have hp0 := hp.kept hB0
 have HB0 := Lib.hid hB0
 have HM := Lib.hid (And.intro hp0.ms (And.intro zm hp.ms.len))
 have HW0 := Lib.hid hW0
 obtain ⟨n, hnn⟩ : ∃ n, rs.length = n := ⟨_, rfl⟩
 rw [hnn] at hn hW0 HW0 b0 HM ⊢
 have HBX := Lib.hid (And.intro b0 b1)
 have hs' := hs
 clear hp zm hB0 b0 b1 hp0 hnn hW0 hs
 go_enter Tryz.func38, Tryz.ntmps38
 go_wp2_with fail
 rw [← HW0.out]
 go_loopw [5] (fun (iv : Value) (wr : World) => ∃ i : Nat, i ≤ n ∧ iv = .int .i64 (i : Int) ∧ Hid (Below W0.heap.size W0 wr) ∧ Hid (coef ms v = coef (ms.drop i) v)) (fun iv _ => n - (intOf iv).toNat)
 case atStart => exact ⟨0, Nat.zero_le _, rfl, Lib.hid (Below.refl _ _), Lib.hid rfl⟩
 case round =>
  obtain ⟨i, hin, rfl, HB, HT⟩ := hrel
  have HBW := Lib.hid (HB0.out.trans (HB.out.mono HB0.out.size))
  obtain ⟨_, _, _, c3, _⟩ := cellsL4 (stayL HBX.out.1 HB.out)
  by_cases hlt : i < n
  ·obtain ⟨d, x, g, off, hd, hx, rfl, hok, hr⟩ := (HM.out.1.kept HB.out).get (k := i) (by have := HM.out.2.2; omega)
   have hzx := HM.out.2.1 x (List.mem_of_getElem? hx)
   obtain ⟨xv', s, z1, m1, k1, z2, m2, k2⟩ := d
   obtain ⟨xv, xq⟩ := x
   obtain ⟨hv, hq⟩ := hok
   dsimp only [RM.raw] at hv hq hzx
   subst hv
   have HF := Lib.hid (got_of (W5 := wr) hq hzx (Below.refl _ _))
   obtain ⟨f0, f1, f2, f3⟩ := range_cells4 hr
   have hcd := HT.out.trans (coef_drop hx)
   have hii : (i : Int) < (n : Int) := by omega
   have hiw : wrap64 ((i : Int) + 1) = (i : Int) + 1 := IntWalk.wrap64_in _ (by omega)
   clear hr hd hx hq hzx
   by_cases he : xv' = v
   ·have hee : (xv' == v) = true := by simpa using he
    have HC : Hid (coef ms v = xq) := Lib.hid (by rw [hcd]; exact if_pos he)
    clear he hcd
    go_wp2_with fail
    refine HF.out.mono ?_
    rintro e w7 ⟨s8, e1, h1, g1, e2, h2, g2, rfl, hb7, hv7⟩
    have hb07 := HB.out.trans (hb7.out.mono HB.out.size)
    have HE := Lib.hid (finDL (R := w.heap.size + 1) HB0.out (by omega) HBX.out.2 hb07 hv7.out)
    rw [← HC.out] at HE
    obtain ⟨r0, r1, r2, n0, n1, n2⟩ := cells3 (stayL HBX.out.2 hb07)
    clear hb7 hv7 hb07 HF f0 f1 f2 f3
    go_wp2_with fail
    exact bodyPost_ret (v := .agg #[.bool s8, .slice e1 h1 g1, .slice e2 h2 g2]) (by simp [results, Tryz.results38, go_sem, r0, r1, r2]) rfl HE.out
   ·have hee : (xv' == v) = false := by simpa using he
    have HC : Hid (coef ms v = coef (ms.drop (i + 1)) v) := Lib.hid (by rw [hcd]; exact if_neg he)
    clear he hcd
    go_wp2_with fail
    go_roundw
    case rel => exact ⟨i + 1, by omega, by go_num, HB, HC⟩
    case measure => first | exact measure_next hiw hlt | exact measure_next rfl hlt
  ·obtain rfl : i = n := by omega
   have HC : Hid (coef ms v = 0) := Lib.hid (by
    rw [HT.out, List.drop_eq_nil_of_le (by have := HM.out.2.2; omega)]; rfl)
   have HI := Lib.hid ((Int0_q wr).mono fun e W' hg => hg.got (Below.refl wr.heap.size wr))
   go_wp2_with fail
   refine HI.out.mono ?_
   rintro e w7 ⟨s8, e1, h1, g1, e2, h2, g2, rfl, hb7, hv7⟩
   have hb07 := HB.out.trans (hb7.out.mono HB.out.size)
   have HE := Lib.hid (finDL (R := w.heap.size + 1) HB0.out (by omega) HBX.out.2 hb07 hv7.out)
   rw [← HC.out] at HE
   obtain ⟨r0, r1, r2, n0, n1, n2⟩ := cells3 (stayL HBX.out.2 hb07)
   clear hb7 hv7 hb07 HI
   go_wp2_with fail
   exact bodyPost_ret (v := .agg #[.bool s8, .slice e1 h1 g1, .slice e2 h2 g2]) (by simp [results, Tryz.results38, go_sem, r0, r1, r2]) rfl HE.out
end Go.Proofs.YtpjeecahaeaajaaGreatDoor

namespace Go.Proofs.YtpjeecahaeaajaaGreatDoor
open Go.RowKit Rep Ln
structure OwnG (Gd : Value → Prop) (e : TypeId) (sz : Nat) (w : World) (B : Nat) (v : Value) (n : Nat) (xs : List Value) : Prop where
 len : xs.length = n * sz
 at_ : (v = .slice none 0 0 ∧ n = 0) ∨ ∃ g cap, v = .slice (some ⟨g, 0, none⟩) n cap ∧ B ≤ g ∧ n ≤ cap ∧ cap ≤ maxLen ∧ ∃ cur : Array Value, w.heap[g]? = some (.cells cur e (0, 0)) ∧ cur.size = cap * sz ∧ cur.toList.take (n * sz) = xs ∧ ∀ u ∈ cur.toList, Gd u
section
variable {Gd : Value → Prop} {e : TypeId} {sz : Nat} {w w' : World} {B : Nat} {v : Value} {n : Nat} {xs : List Value}
theorem OwnG.nil (Gd : Value → Prop) (e : TypeId) (sz : Nat) (w : World) (B : Nat) : OwnG Gd e sz w B (.slice none 0 0) 0 [] := ⟨by simp, .inl ⟨rfl, rfl⟩⟩
theorem OwnG.of_block (h : OwnG Gd e sz w B v n xs) (hb : ∀ g, v.ownBlock = some g → w'.heap[g]? = w.heap[g]?) : OwnG Gd e sz w' B v n xs := by
 refine ⟨h.len, ?_⟩
 rcases h.at_ with h1 | ⟨g, cap, rfl, h2, h3, h4, cur, h5, h6⟩
 ·exact .inl h1
 ·exact .inr ⟨g, cap, rfl, h2, h3, h4, cur, (hb g rfl).trans h5, h6⟩
theorem OwnG.lt (h : OwnG Gd e sz w B v n xs) : ∀ g, v.ownBlock = some g → g < w.heap.size ∧ B ≤ g ∧ ∃ cur, w.heap[g]? = some (.cells cur e (0, 0)) := by
 intro g hg
 rcases h.at_ with ⟨rfl, _⟩ | ⟨g', cap, rfl, h2, h3, h4, cur, h5, h6⟩
 ·simp [Value.ownBlock] at hg
 ·simp [Value.ownBlock] at hg
  subst hg
  exact ⟨(Array.getElem?_eq_some_iff.1 h5).1, h2, cur, h5⟩
theorem OwnG.kept (h : OwnG Gd e sz w B v n xs) (hb : Below w.heap.size w w') : OwnG Gd e sz w' B v n xs := h.of_block fun g hg => hb.block g (h.lt g hg).1
theorem OwnG.past {i : Nat} (h : OwnG Gd e sz w B v n xs) (hg : w.grownBy w' (some i)) (hi : ∀ g, v.ownBlock = some g → g ≠ i) : OwnG Gd e sz w' B v n xs := h.of_block fun g hgg => hg.block g (h.lt g hgg).1 (by have := hi g hgg; simpa using this)
theorem OwnG.value (h : OwnG Gd e sz w B v n xs) : ∃ a c, v = .slice a n c ∧ n ≤ c ∧ c ≤ maxLen ∧ (a = none → n = 0 ∧ c = 0) ∧ (∀ x, a = some x → ∃ g, x = ⟨g, 0, none⟩ ∧ v.ownBlock = some g) := by
 rcases h.at_ with ⟨rfl, rfl⟩ | ⟨g, cap, rfl, h2, h3, h4, h5⟩
 ·exact ⟨none, 0, rfl, Nat.le_refl _, by simp [maxLen], fun _ => ⟨rfl, rfl⟩, (by intro x hx; cases hx)⟩
 ·exact ⟨_, cap, rfl, h3, h4, (by intro e; cases e), (by intro x hx; cases hx; exact ⟨g, rfl, rfl⟩)⟩
theorem OwnG.cell (h : OwnG Gd e sz w B v n xs) {g : Nat} (hg : v.ownBlock = some g) (j : Nat) (u : Value) (hu : xs[j]? = some u) : w.cell? ⟨g, j, none⟩ = some u := by
 rcases h.at_ with ⟨rfl, _⟩ | ⟨g', cap, rfl, h2, h3, h4, cur, h5, h6, h7, _⟩
 ·simp [Value.ownBlock] at hg
 ·simp [Value.ownBlock] at hg
  subst hg h7
  rw [List.getElem?_take] at hu
  split at hu
  ·simp only [World.cell?, h5]
   rw [← Array.getElem?_toList]
   exact hu
  ·cases hu
theorem OwnG.good (h : OwnG Gd e sz w B v n xs) {g : Nat} (hg : v.ownBlock = some g) {off : Nat} {u : Value} (hu : w.cell? ⟨g, off, none⟩ = some u) : Gd u := by
 rcases h.at_ with ⟨rfl, _⟩ | ⟨g', cap, rfl, h2, h3, h4, cur, h5, h6, h7, h8⟩
 ·simp [Value.ownBlock] at hg
 ·simp [Value.ownBlock] at hg
  subst hg
  simp only [World.cell?, h5] at hu
  exact h8 u (Array.mem_toList_iff.2 (Array.mem_of_getElem? hu))
end
structure RowG (Gd : Value → Prop) (t e : TypeId) (sz bytes : Nat) : Prop where
 ut : Tryz.prog.underlying t = some (.slice e)
 info : ∃ i z, Tryz.prog.info? e = some i ∧ i.zero = some z ∧ i.size = sz ∧ i.bytes = bytes ∧ z.cells.size = sz ∧ ∀ u ∈ z.cells.toList, Gd u
 pos : 0 < sz
 few : bytes ≤ 10000000
theorem good_zeroCells {Gd : Value → Prop} {z : Array Value} (hp : 0 < z.size) (h : ∀ u ∈ z.toList, Gd u) (n : Nat) : ∀ u ∈ (Builtin.zeroCells z n).toList, Gd u := by
 intro u hu
 simp only [Builtin.zeroCells, Array.toList_map, List.mem_map] at hu
 obtain ⟨i, _, rfl⟩ := hu
 have hlt : i % z.size < z.size := Nat.mod_lt _ hp
 rw [getElem!_pos z _ hlt]
 exact h _ (Array.mem_toList_iff.2 (Array.getElem_mem hlt))
theorem append_G {Gd : Value → Prop} {t ty e : TypeId} {sz bytes : Nat} (hT : RowG Gd t e sz bytes) {w : World} {B : Nat} {v : Value} {n : Nat} {xs : List Value} (hown : OwnG Gd e sz w B v n xs)
    (ad : Addr) (m c : Nat) (news : List Value) (h0 : 0 < m) (hl : news.length = m * sz) (hnews : ∀ j u, news[j]? = some u → w.cell? (ad.add j) = some u) (h1 : ∀ u ∈ news, u.oneCell' = true) (hg : ∀ u ∈ news, Gd u) (hn : n + m ≤ 2000000) (hB : B ≤ w.heap.size) :
    ∃ v' w', (Builtin.append_ #[t, t] ty #[v, .slice (some ad) m c]).run Tryz.prog w = .ok v' w' ∧ OwnG Gd e sz w' B v' (n + m) (xs ++ news) ∧ w.grownBy w' v.ownBlock ∧ (∃ g, v'.ownBlock = some g ∧ (v.ownBlock = some g ∨ w.heap.size ≤ g)) := by
 obtain ⟨i, z, i1, i2, i3, i4, i5, i6⟩ := hT.info
 have hf := hT.few
 have hb : (n + m) * bytes ≤ 140737488355328 := Nat.le_trans (Nat.mul_le_mul hn hf) (by omega)
 have hmax : n + m ≤ maxLen := by unfold maxLen; omega
 have hlen : (xs ++ news).length = (n + m) * sz := by rw [List.length_append, hown.len, hl, Nat.add_mul]
 have hzp : 0 < z.cells.size := by rw [i5]; exact hT.pos
 rcases hown.at_ with ⟨rfl, rfl⟩ | ⟨g, cap, rfl, hBg, hnc, hcm, cur, k1, k2, k3, k4⟩
 ·have hx : xs = [] := List.eq_nil_of_length_eq_zero (by have := hown.len; simpa using this)
  subst hx
  have hr := run_append_nil (P := Tryz.prog) w t ty e i z hT.ut i1 i2 ad m c news (by rw [i3]; exact hl) hnews h0 (by omega) (by rw [i4]; rw [Nat.zero_add] at hb; omega)
  have hge := grownCap_ge w m 0 e
  have hcm : grownCap w m 0 e ≤ maxLen := grownCap_le_maxLen w m 0 e (by omega)
  refine ⟨_, _, hr, ⟨hlen, .inr ⟨w.heap.size, _, by rw [Nat.zero_add], hB, by rw [Nat.zero_add]; exact hge, hcm, _, heap_alloc_new w.drew _, ?_, ?_, ?_⟩⟩, ⟨rfl, rfl, rfl, by simp, fun k hk _ => Below.heap_alloc w.drew _ k hk⟩, ⟨w.heap.size, rfl, .inr (Nat.le_refl _)⟩⟩
  ·simp only [Array.size_append, List.size_toArray, size_zeroCells, i5, hl]
   rw [← Nat.add_mul, Nat.add_sub_cancel' hge]
  ·simp only [Array.toList_append, List.nil_append]
   have : news.length = (0 + m) * sz := by rw [hl, Nat.zero_add]
   rw [← this]
   exact List.take_left
  ·intro u hu
   simp only [Array.toList_append, List.mem_append] at hu
   rcases hu with hu | hu
   ·exact hg u (by simpa using hu)
   ·exact good_zeroCells hzp i6 _ u hu
 ·by_cases hroom : n + m ≤ cap
  ·have hr := run_append_room (P := Tryz.prog) w t ty e i hT.ut i1 g n cap cur k1 ad m c news (by rw [i3]; exact hl) hnews h1 hroom (by rw [i3, hl, k2, ← Nat.add_mul]; exact Nat.mul_le_mul_right _ hroom)
   rw [i3, k3] at hr
   refine ⟨_, _, hr, ⟨hlen, .inr ⟨g, cap, rfl, hBg, hroom, hcm, _, setRow_heap w g cur _ e _ k1, ?_, ?_, ?_⟩⟩, ⟨rfl, rfl, rfl, by simp, fun k _ hk => setRow_other w g k _ (fun e => hk (by simp [e, Value.ownBlock]))⟩, ⟨g, rfl, .inl rfl⟩⟩
   ·have h2 : n * sz + m * sz ≤ cap * sz := by rw [← Nat.add_mul]; exact Nat.mul_le_mul_right _ hroom
    simp only [List.size_toArray, List.length_append, List.length_drop, Array.length_toList, hown.len, hl, k2]
    omega
   ·simp only [List.append_assoc]
    rw [← List.append_assoc, ← hlen]
    exact List.take_left
   ·intro u hu
    simp only [List.mem_append] at hu
    rcases hu with (hu | hu) | hu
    ·rw [← k3] at hu
     exact k4 u (List.mem_of_mem_take hu)
    ·exact hg u hu
    ·exact k4 u (List.mem_of_mem_drop hu)
  ·have hge := grownCap_ge w (n + m) cap e
   have hcm' : grownCap w (n + m) cap e ≤ maxLen := grownCap_le_maxLen w (n + m) cap e hmax
   have hcell := hown.cell (g := g) rfl
   have hr := run_append_grow (P := Tryz.prog) w t ty e i z hT.ut i1 i2 ⟨g, 0, none⟩ n cap xs (by rw [i3]; exact hown.len) (fun j v hv => by rw [Go.WideShapes.add_plain, Nat.zero_add]; exact hcell j v hv) ad m c news (by rw [i3]; exact hl) hnews (by omega) (by unfold maxLen at hmax; omega) (by rw [i4]; exact growslice_fits (by omega) hb)
   refine ⟨_, _, hr, ⟨hlen, .inr ⟨w.heap.size, _, rfl, hB, hge, hcm', _, heap_alloc_new w.drew _, ?_, ?_, ?_⟩⟩, ⟨rfl, rfl, rfl, by simp, fun k hk _ => Below.heap_alloc w.drew _ k hk⟩, ⟨w.heap.size, rfl, .inr (Nat.le_refl _)⟩⟩
   ·simp only [Array.size_append, List.size_toArray, size_zeroCells, i5, hown.len, hl]
    rw [← Nat.add_mul, ← Nat.add_mul, Nat.add_sub_cancel' hge]
   ·simp only [Array.toList_append, List.append_assoc]
    rw [← List.append_assoc, ← hlen]
    exact List.take_left
   ·intro u hu
    simp only [Array.toList_append, List.mem_append] at hu
    rcases hu with (hu | hu) | hu
    ·rw [← k3] at hu
     exact k4 u (List.mem_of_mem_take (by simpa using hu))
    ·exact hg u (by simpa using hu)
    ·exact good_zeroCells hzp i6 _ u hu
section
variable {Gd : Value → Prop} {t e : TypeId} {sz bytes : Nat} {ops : Array Oper} {o : Oper} {a : Act} {w : World} {K : Act → World → Prop} {Q : Exit → Act → World → Prop} {rest : List Oper} {E : Prop} {B : Nat} {v : Value} {n : Nat} {xs : List Value}
theorem wp_appG (hT : RowG Gd t e sz bytes) (s x : Operand) (ho : o.op = .call { callee := .builtin .append, args := #[s, x], argTypes := #[t, t] }) (hv : a.eval s = v) (hown : OwnG Gd e sz w B v n xs)
    (ad : Addr) (m c : Nat) (news : List Value) (hx : a.eval x = .slice (some ad) m c) (h0 : 0 < m) (hl : news.length = m * sz) (hnews : ∀ j u, news[j]? = some u → w.cell? (ad.add j) = some u) (h1 : ∀ u ∈ news, u.oneCell' = true) (hg : ∀ u ∈ news, Gd u) (hn : n + m ≤ 2000000) (hB : B ≤ w.heap.size)
    (h : ∀ v' w', OwnG Gd e sz w' B v' (n + m) (xs ++ news) → w.grownBy w' v.ownBlock → (∃ g, v'.ownBlock = some g ∧ (v.ownBlock = some g ∨ w.heap.size ≤ g)) → K (a.put o.dst v') w') : o.wp Tryz.prog a w K Q := by
 obtain ⟨v', w', q1, q2, q3, q4⟩ := append_G (ty := o.type) hT hown ad m c news h0 hl hnews h1 hg hn hB
 unfold Oper.wp execOp
 simp only [ho, resolve, invoke, builtin, Sem.run_bind, Sem.run_pure, Result.andThen_ok, List.map_toArray, List.map_cons, List.map_nil, hv, hx, q1]
 exact h v' w' q2 q3 q4
theorem wpList_appG (hT : RowG Gd t e sz bytes) (hgd : o.guard = none) (s x : Operand) (ho : o.op = .call { callee := .builtin .append, args := #[s, x], argTypes := #[t, t] }) (hv : a.eval s = v) (hown : OwnG Gd e sz w B v n xs)
    (ad : Addr) (m c : Nat) (news : List Value) (hx : a.eval x = .slice (some ad) m c) (h0 : 0 < m) (hl : news.length = m * sz) (hnews : ∀ j u, news[j]? = some u → w.cell? (ad.add j) = some u) (h1 : ∀ u ∈ news, u.oneCell' = true) (hg : ∀ u ∈ news, Gd u) (hn : n + m ≤ 2000000) (hB : B ≤ w.heap.size)
    (h : ∀ v' w', OwnG Gd e sz w' B v' (n + m) (xs ++ news) → w.grownBy w' v.ownBlock → (∃ g, v'.ownBlock = some g ∧ (v.ownBlock = some g ∨ w.heap.size ≤ g)) → wpList Tryz.prog ops Q rest (a.put o.dst v') w') : wpList Tryz.prog ops Q (o :: rest) a w :=
 wpList_plain hgd fun _ hK => wp_appG hT s x ho hv hown ad m c news hx h0 hl hnews h1 hg hn hB fun v' w' k1 k2 k3 => hK _ _ (h v' w' k1 k2 k3)
theorem step_appG (hT : RowG Gd t e sz bytes) (hgd : o.guard = none) (s x : Operand) (ho : o.op = .call { callee := .builtin .append, args := #[s, x], argTypes := #[t, t] }) (hv : a.eval s = v) (hown : OwnG Gd e sz w B v n xs)
    (ad : Addr) (m c : Nat) (news : List Value) (hx : a.eval x = .slice (some ad) m c) (h0 : 0 < m) (hl : news.length = m * sz) (hnews : ∀ j u, news[j]? = some u → w.cell? (ad.add j) = some u) (h1 : ∀ u ∈ news, u.oneCell' = true) (hg : ∀ u ∈ news, Gd u) (hn : n + m ≤ 2000000) (hB : B ≤ w.heap.size)
    (h : ∀ v' w', OwnG Gd e sz w' B v' (n + m) (xs ++ news) → w.grownBy w' v.ownBlock → (∃ g, v'.ownBlock = some g ∧ (v.ownBlock = some g ∨ w.heap.size ≤ g)) → K (a.put o.dst v') w') :
    if Region.wanted o (yielded ops a.tmps) = true then Oper.wp Tryz.prog o a w K Q else E := by
 have hw : Region.wanted o (yielded ops a.tmps) = true := by simp [Region.wanted, hgd]
 rw [if_pos hw]
 exact wp_appG hT s x ho hv hown ad m c news hx h0 hl hnews h1 hg hn hB h
end
def GoodI (u : Value) : Prop := ∃ i, u = .int .i64 i
theorem rowG_int : RowG GoodI 39 3 1 8 := by
 obtain ⟨i, h1, h2, h3, h4⟩ := info_partsM (show (Tryz.prog.info? 3).map (fun i => (i.zero, i.size, i.bytes)) = some (some (.int .i64 0), 1, 8) from by kernel_rfl)
 exact ⟨Tryz.underlying39, ⟨i, _, h1, h2, h3, h4, rfl, fun u hu => by simp [Value.cells] at hu; exact ⟨0, hu⟩⟩, by omega, by omega⟩
theorem rowG_mono : RowG GoodM 28 51 4 64 := by
 obtain ⟨i, h1, h2, h3, h4⟩ := info_partsM info_mono
 refine ⟨Tryz.underlying28, ⟨i, _, h1, h2, h3, h4, rfl, fun u hu => ?_⟩, by omega, by omega⟩
 simp only [Value.cells, zMono, List.mem_cons, List.not_mem_nil, or_false] at hu
 rcases hu with rfl | rfl | rfl | rfl
 ·exact .inl ⟨_, rfl⟩
 ·exact .inr (.inl ⟨_, rfl⟩)
 ·exact .inr (.inr ⟨_, _, _, rfl⟩)
 ·exact .inr (.inr ⟨_, _, _, rfl⟩)
def intC (vs : List Int) : List Value := vs.map fun v => .int .i64 v
theorem intC_at {vs : List Int} {i : Nat} {v : Int} (h : vs[i]? = some v) : (intC vs)[i]? = some (.int .i64 v) := by simp [intC, h]
end Go.Proofs.YtpjeecahaeaajaaGreatDoor

namespace Go.Proofs.YtpjeecahaeaajaaGreatDoor
open Go.RowKit Rep Ln
def R1At (W0 : World) (c : Rat) (i : Nat × RawR × RawR × RawR × RawR × RawR) (W : World) : Prop :=
 Below W0.heap.size W0 W ∧ W.heap[i.1]? = some (.cells #[.bool i.2.2.2.2.2.1, .slice i.2.2.2.2.2.2.1.1 i.2.2.2.2.2.2.1.2.1 i.2.2.2.2.2.2.1.2.2, .slice i.2.2.2.2.2.2.2.1 i.2.2.2.2.2.2.2.2.1 i.2.2.2.2.2.2.2.2.2, .slice none 0 0] 30 (0, 0)) ∧ VQ c i.2.2.2.2.2 W ∧ W0.heap.size ≤ i.1
theorem r1_end {W0 W : World} {c : Rat} {P : Nat} {r1 r2 r3 r4 : RawR} {s : Bool} {z1 z2 : Option Addr} {m1 k1 m2 k2 : Nat} (hb : Below W0.heap.size W0 W)
    (hP : W.heap[P]? = some (.cells #[.bool false, .slice none 0 0, .slice none 0 0, .slice none 0 0] 30 (0, 0))) (hp : W0.heap.size ≤ P) (hv : VQ c (s, (z1, m1, k1), (z2, m2, k2)) W) :
    R1At W0 c (P, r1, r2, r3, r4, (s, (z1, m1, k1), (z2, m2, k2))) (putL4 W P (.bool s) (.slice z1 m1 k1) (.slice z2 m2 k2) (.slice none 0 0)) := by
 refine ⟨?_, putL4_block hP _ _ _ _, hv.pastL (poly_noI hP).2 (putL4_grown _ _ _ _ _ _), hp⟩
 unfold putL4
 exact (((hb.setCell (p := ⟨P, 0, none⟩) hp _).setCell (p := ⟨P, 1, none⟩) hp _).setCell (p := ⟨P, 2, none⟩) hp _).setCell (p := ⟨P, 3, none⟩) hp _
def GotR (W5 : World) (c : Rat) (ms : List Mo) (e : Ending) (W' : World) : Prop :=
 ∃ s z1 m1 k1 z2 m2 k2 a cp rs, e = .returned (.agg #[.bool s, .slice z1 m1 k1, .slice z2 m2 k2, .slice a (List.length rs) cp]) ∧ Hid (Below W5.heap.size W5 W') ∧ Hid (PolyAt c ms (s, (z1, m1, k1), (z2, m2, k2)) a rs W')
theorem below_of_grownL {W W' : World} (h : W.grownBy W' none) : Below W.heap.size W W' := ⟨h.os, h.tape, h.output, h.size, fun k hk => h.block k hk (by simp)⟩
theorem below_grownL {B : Nat} {w W W' : World} {r : Option Nat} (h : Below B w W) (hg : W.grownBy W' r) (hB : B ≤ W.heap.size) (hr : ∀ g, r = some g → B ≤ g) : Below B w W' := h.grown hg hB hr
theorem OwnG.noLimb {W : World} {B : Nat} {v : Value} {n : Nat} {xs : List Value} (h : OwnG GoodM 51 4 W B v n xs) {g : Nat} (hg : v.ownBlock = some g) : NoLimb W g := fun off i e => by
 rcases h.good hg e with ⟨_, hx⟩ | ⟨_, hx⟩ | ⟨_, _, _, hx⟩ <;> cases hx
theorem VQ.pastO {q : Rat} {r : RawR} {W W' : World} {B : Nat} {v : Value} {n : Nat} {xs : List Value} (hq : VQ q r W) (h : OwnG GoodM 51 4 W B v n xs) (hg : W.grownBy W' v.ownBlock) : VQ q r W' := by
 cases ho : v.ownBlock with
 | none => rw [ho] at hg; exact hq.kept (below_of_grownL hg)
 | some g => rw [ho] at hg; exact hq.pastL (h.noLimb ho) hg
theorem OwnG.ne {Gd : Value → Prop} {e t : TypeId} {sz : Nat} {W : World} {B : Nat} {v : Value} {n : Nat} {xs : List Value} (h : OwnG Gd e sz W B v n xs) {r : Nat} {c : Array Value} {f : Nat × Nat} (hr : W.heap[r]? = some (.cells c t f)) (ht : e ≠ t) : ∀ g, v.ownBlock = some g → g ≠ r := by
 rintro g hg rfl
 obtain ⟨_, _, cur, h1⟩ := h.lt g hg
 rw [h1] at hr
 cases hr
 exact ht rfl
theorem block_past {W W' : World} {r : Nat} {c : Array Value} {t : TypeId} {f : Nat × Nat} {o : Option Nat} (hr : W.heap[r]? = some (.cells c t f)) (hg : W.grownBy W' o) (hn : ∀ g, o = some g → g ≠ r) : W'.heap[r]? = some (.cells c t f) :=
 (hg.block r (Array.getElem?_eq_some_iff.1 hr).1 (fun e => hn r e.symm rfl)).trans hr
structure RdS (W0 : World) (P : Nat) (vv : Value) (vs : List Int) (c : RawR) (cq : Rat) (rs : List RM) (acc : List Mo) (v : Value) (W : World) : Prop where
 hb : Below W0.heap.size W0 W
 blk : W.heap[P]? = some (.cells #[.bool c.1, .slice c.2.1.1 c.2.1.2.1 c.2.1.2.2, .slice c.2.2.1 c.2.2.2.1 c.2.2.2.2, v] 30 (0, 0))
 pge : W0.heap.size ≤ P
 num : VQ cq c W
 vs_ : OwnG GoodI 3 1 W W0.heap.size vv vs.length (intC vs)
 row : OwnG GoodM 51 4 W W0.heap.size v rs.length (cellsM rs)
 len : rs.length = acc.length
 vals : ∀ (k : Nat) (d : RM) (x : Mo), rs[k]? = some d → acc[k]? = some x → d.ok x W
section
variable {W0 W W' : World} {P : Nat} {vv : Value} {vs : List Int} {c : RawR} {cq : Rat} {rs : List RM} {acc : List Mo} {v v' : Value}
theorem RdS.kept (h : RdS W0 P vv vs c cq rs acc v W) (hb : Below W.heap.size W W') : RdS W0 P vv vs c cq rs acc v W' :=
 ⟨h.hb.trans (hb.mono h.hb.size), stayL h.blk hb, h.pge, h.num.kept hb, h.vs_.kept hb, h.row.kept hb, h.len, fun k d x h1 h2 => (h.vals k d x h1 h2).kept hb⟩
theorem RdS.vcell (h : RdS W0 P vv vs c cq rs acc v W) {t : Nat} {x : Int} (hx : vs[t]? = some x) {g : Nat} (hg : vv.ownBlock = some g) : W.cell? ⟨g, t, none⟩ = some (.int .i64 x) := h.vs_.cell hg t _ (intC_at hx)
theorem RdS.said {acc' : List Mo} (h : RdS W0 P vv vs c cq rs acc v W) (e : acc = acc') : RdS W0 P vv vs c cq rs acc' v W := e ▸ h
theorem RdS.push (h : RdS W0 P vv vs c cq rs acc v W) {d : RM} {x : Mo} (hd : d.ok x W) (ho : OwnG GoodM 51 4 W' W0.heap.size v' (rs.length + 1) (cellsM rs ++ d.cells)) (hg : W.grownBy W' v.ownBlock) :
    (W'.cell? ⟨P, 3, none⟩ = some v ∧ W'.frozen? ⟨P, 3, none⟩ = false) ∧ RdS W0 P vv vs c cq (rs ++ [d]) (acc ++ [x]) v' (W'.setCell ⟨P, 3, none⟩ v') := by
 obtain ⟨a, cc, hv, _⟩ := h.row.value
 have hblk := h.blk
 rw [hv] at hblk
 have hP := block_past hblk hg (by intro g e; exact h.row.ne h.blk (by decide) g e)
 have hB : Below W0.heap.size W0 W' := below_grownL h.hb hg h.hb.size (fun g e => (h.row.lt g e).2.1)
 have hg2 : W'.grownBy (W'.setCell ⟨P, 3, none⟩ v') (some P) := grownBy_set (grown_refl W' _)
 obtain ⟨_, _, _, c3, _, _, _, f3⟩ := cellsL4 hP
 have hno := poly_noI hP
 have hlen : (rs ++ [d]).length = rs.length + 1 := by simp
 have hne' : ∀ g, v'.ownBlock = some g → g ≠ P := ho.ne hP (by decide)
 refine ⟨⟨by rw [c3, hv], f3⟩, ⟨hB.setCell (p := ⟨P, 3, none⟩) h.pge _, ?_, h.pge, (h.num.pastO h.row hg).pastL hno.2 hg2, ?_, ?_, by rw [hlen, h.len]; simp, fun k d' x' h1 h2 => ?_⟩⟩
 ·simp [World.setCell, Array.getElem?_modify, hP]
 ·refine (h.vs_.of_block fun g e => hg.block g (h.vs_.lt g e).1 fun e2 => ?_).past hg2 (h.vs_.ne hblk (by decide))
  obtain ⟨_, _, cur1, t1⟩ := h.vs_.lt g e
  obtain ⟨_, _, cur2, t2⟩ := h.row.lt g e2.symm
  rw [t1] at t2
  cases t2
 ·rw [hlen, cellsM_app, cellsM_one]
  exact ho.past hg2 hne'
 ·have key : ∀ {d : RM} {x : Mo}, d.ok x W → d.ok x (W'.setCell ⟨P, 3, none⟩ v') := fun h1 => ⟨h1.v, (h1.q.pastO h.row hg).pastL hno.2 hg2⟩
  have hl := h.len
  by_cases hk : k < rs.length
  ·rw [List.getElem?_append_left hk] at h1
   rw [List.getElem?_append_left (by rw [← hl]; exact hk)] at h2
   exact key (h.vals k d' x' h1 h2)
  ·rw [List.getElem?_append_right (by omega)] at h1
   rw [List.getElem?_append_right (by rw [← hl]; omega), ← hl] at h2
   obtain ⟨hz, rfl⟩ : k - rs.length = 0 ∧ d = d' := by
    cases hq : k - rs.length with
    | zero => rw [hq] at h1; exact ⟨rfl, by simpa using h1⟩
    | succ j => rw [hq] at h1; simp at h1
   rw [hz] at h2
   obtain rfl : x = x' := by simpa using h2
   exact key hd
theorem RdS.vne (h : RdS W0 P vv vs c cq rs acc v W) {g : Nat} (hg : vv.ownBlock = some g) : g ≠ P ∧ ∀ j, v.ownBlock = some j → g ≠ j := by
 refine ⟨h.vs_.ne h.blk (by decide) g hg, fun j hj e => ?_⟩
 subst e
 obtain ⟨_, _, c1, t1⟩ := h.vs_.lt g hg
 obtain ⟨_, _, c2, t2⟩ := h.row.lt g hj
 rw [t1] at t2
 cases t2
theorem RdS.ms (h : RdS W0 P vv vs c cq rs acc v W) : ∃ a cp, v = .slice a rs.length cp ∧ PolyAt cq acc c a rs W := by
 obtain ⟨a, cp, hv, _, _, hn, ha⟩ := h.row.value
 refine ⟨a, cp, hv, h.num, ?_, h.len, h.vals⟩
 cases a with
 | none => exact .inl (List.eq_nil_of_length_eq_zero (hn rfl).1)
 | some x =>
  obtain ⟨g, rfl, hg⟩ := ha x rfl
  exact .inr ⟨g, 0, rfl, fun k d hd j u hu => by rw [Nat.zero_add]; exact h.row.cell hg _ u (cellsM_at rs k d hd j u hu)⟩
theorem fin_R {w : World} {R : Nat} {s : Bool} {z1 z2 a : Option Addr} {m1 k1 m2 k2 cp : Nat} (hB0 : Below w.heap.size w W0) (hR : w.heap.size ≤ R) (h3 : W0.heap[R]? = some (.cells #[.bool false, .slice none 0 0, .slice none 0 0, .slice none 0 0] 30 (0, 0)))
    (hb : Below W0.heap.size W0 W) (hp : PolyAt cq acc (s, (z1, m1, k1), (z2, m2, k2)) a rs W) : GotR w cq acc (.returned (.agg #[.bool s, .slice z1 m1 k1, .slice z2 m2 k2, .slice a rs.length cp])) (putL4 W R (.bool s) (.slice z1 m1 k1) (.slice z2 m2 k2) (.slice a rs.length cp)) := by
 have hbw := hB0.trans (hb.mono hB0.size)
 refine ⟨_, _, _, _, _, _, _, a, cp, rs, rfl, Lib.hid ?_, Lib.hid (hp.past (poly_noI (stayL h3 hb)) (putL4_grown _ _ _ _ _ _))⟩
 unfold putL4
 exact (((hbw.setCell (p := ⟨R, 0, none⟩) hR _).setCell (p := ⟨R, 1, none⟩) hR _).setCell (p := ⟨R, 2, none⟩) hR _).setCell (p := ⟨R, 3, none⟩) hR _
end
theorem OwnG.start (W : World) : OwnG GoodI 3 1 (W.alloc (.cells #[] 3)) W.heap.size (.slice (some ⟨W.heap.size, 0, none⟩) 0 0) 0 (intC []) :=
 ⟨rfl, .inr ⟨W.heap.size, 0, rfl, Nat.le_refl _, Nat.le_refl _, by simp [maxLen], #[], heap_alloc_new W _, rfl, rfl, by simp⟩⟩
def R15At (W : World) (q : Rat) (i : Nat × RawR × RawR × RawR × RawR) (W' : World) : Prop :=
 Below W.heap.size W W' ∧ W'.heap[i.1]? = some (.cells #[.bool i.2.2.2.2.1, .slice i.2.2.2.2.2.1.1 i.2.2.2.2.2.1.2.1 i.2.2.2.2.2.1.2.2, .slice i.2.2.2.2.2.2.1 i.2.2.2.2.2.2.2.1 i.2.2.2.2.2.2.2.2] 42 (0, 0)) ∧ VD q i.2.2.2.2 W' ∧ W.heap.size ≤ i.1
theorem set3_block {W : World} {R : Nat} {u0 u1 u2 : Value} {t : TypeId} (h : W.heap[R]? = some (.cells #[u0, u1, u2] t (0, 0))) (s : Bool) (v1 v2 : Value) : (set3 W R s v1 v2).heap[R]? = some (.cells #[.bool s, v1, v2] t (0, 0)) := by
 simp [set3, World.setCell, Array.getElem?_modify, h]
theorem r15_end {W W' : World} {q : Rat} {D : Nat} {r1 r2 r3 : RawR} {s : Bool} {z1 z2 : Option Addr} {m1 k1 m2 k2 : Nat} (hb : Below W.heap.size W W')
    (hD : W'.heap[D]? = some (.cells #[.bool false, .slice none 0 0, .slice none 0 0] 42 (0, 0))) (hd : W.heap.size ≤ D) (hv : VD q (s, (z1, m1, k1), (z2, m2, k2)) W') :
    R15At W q (D, r1, r2, r3, (s, (z1, m1, k1), (z2, m2, k2))) (set3 W' D s (.slice z1 m1 k1) (.slice z2 m2 k2)) :=
 ⟨set3_below hb hd, set3_block hD _ _ _, hv.set3 hD _ _ _, hd⟩
section
variable {ms1 ms2 : List Mo} {i j : Nat} {x y : Mo}
theorem vars_left (hx : ms1[i]? = some x) (hj : ms2.length ≤ j) : vars (ms1.drop i) (ms2.drop j) = x.1 :: vars (ms1.drop (i + 1)) (ms2.drop j) := by
 rw [drop_at hx, List.drop_eq_nil_of_le hj, vars]
theorem vars_right (hi : ms1.length ≤ i) (hy : ms2[j]? = some y) : vars (ms1.drop i) (ms2.drop j) = y.1 :: vars (ms1.drop i) (ms2.drop (j + 1)) := by
 rw [drop_at hy, List.drop_eq_nil_of_le hi, vars]
theorem vars_lt (hx : ms1[i]? = some x) (hy : ms2[j]? = some y) (h : x.1 < y.1) : vars (ms1.drop i) (ms2.drop j) = x.1 :: vars (ms1.drop (i + 1)) (ms2.drop j) := by
 rw [drop_at hx, drop_at hy, vars, if_pos (by omega)]
 unfold past
 rw [if_neg (by omega)]
theorem vars_eq (hx : ms1[i]? = some x) (hy : ms2[j]? = some y) (h : x.1 = y.1) : vars (ms1.drop i) (ms2.drop j) = x.1 :: vars (ms1.drop (i + 1)) (ms2.drop (j + 1)) := by
 rw [drop_at hx, drop_at hy, vars, if_pos (by omega)]
 unfold past
 rw [if_pos h]
theorem vars_gt (hx : ms1[i]? = some x) (hy : ms2[j]? = some y) (h : y.1 < x.1) : vars (ms1.drop i) (ms2.drop j) = y.1 :: vars (ms1.drop i) (ms2.drop (j + 1)) := by
 rw [drop_at hx, drop_at hy, vars, if_neg (by omega)]
theorem vars_end (hi : ms1.length ≤ i) (hj : ms2.length ≤ j) : vars (ms1.drop i) (ms2.drop j) = [] := by
 rw [List.drop_eq_nil_of_le hi, List.drop_eq_nil_of_le hj, vars]
theorem ref_take {f : Int → List Mo} {vs : List Int} {t : Nat} {v : Int} (h : vs[t]? = some v) : (vs.take (t + 1)).flatMap f = (vs.take t).flatMap f ++ f v := by
 rw [List.take_add_one, h]
 simp
end
end Go.Proofs.YtpjeecahaeaajaaGreatDoor
