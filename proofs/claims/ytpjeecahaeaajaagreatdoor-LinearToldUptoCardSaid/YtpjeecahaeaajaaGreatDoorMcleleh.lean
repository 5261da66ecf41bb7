/- By program out of: LnRAdd. -/
import Derived.Test.YtpjeecahaeaajaaGreatDoorMhcfcca
set_option linter.unusedVariables false
set_option linter.unusedSimpArgs false
namespace Go.Proofs.YtpjeecahaeaajaaGreatDoor
open Go.RowKit Rep Ln
theorem one_int (v : Int) : ∀ u ∈ [Value.int .i64 v], u.oneCell' = true := fun u hu => by
 simp at hu
 subst hu
 rfl
theorem good_int (v : Int) : ∀ u ∈ [Value.int .i64 v], GoodI u := fun u hu => by
 simp at hu
 exact ⟨v, hu⟩
theorem oneM4 (x : Int) (s : Bool) (z1 z2 : Option Addr) (m1 k1 m2 k2 : Nat) : ∀ u ∈ [Value.int .i64 x, .bool s, .slice z1 m1 k1, .slice z2 m2 k2], u.oneCell' = true := fun u hu => by
 simp only [List.mem_cons, List.not_mem_nil, or_false] at hu
 rcases hu with rfl | rfl | rfl | rfl <;> rfl
theorem coef_sz {ms : List Mo} {n : Nat} (h : ∀ x ∈ ms, szQ x.2 ≤ n) (v : Int) : szQ (coef ms v) ≤ n := by
 induction ms with
 | nil => simp only [coef]; rw [szQ_zero]; omega
 | cons m ms ih =>
  simp only [coef]
  split
  ·exact h m (by simp)
  ·exact ih (fun x hx => h x (by simp [hx]))
theorem ref_len {f : Int → List Mo} (h : ∀ v, (f v).length ≤ 1) (vs : List Int) : (vs.flatMap f).length ≤ vs.length := by
 induction vs with
 | nil => simp
 | cons v vs ih =>
  rw [List.flatMap_cons, List.length_append, List.length_cons]
  have := h v
  omega
theorem keep17 {W0 W W' : World} {P V t Dd : Nat} {N cv : Nat} {vs : List Int} {c : RawR} {cq : Rat} {rs : List RM} {acc : List Mo} {vm : Value} {x : Int} {gs : Bool} {u1 u2 : Value} (h : RdS W0 P (.slice (some ⟨V, 0, none⟩) N cv) vs c cq rs acc vm W) (hVo : (Value.slice (some ⟨V, 0, none⟩) N cv).ownBlock = some V) (hDP : Dd ≠ P)
    (hc : W.cell? ⟨V, t, none⟩ = some (.int .i64 x) ∧ W.cell? ⟨Dd, 0, none⟩ = some (.bool gs) ∧ W.cell? ⟨Dd, 1, none⟩ = some u1 ∧ W.cell? ⟨Dd, 2, none⟩ = some u2) (hD : W.heap[Dd]? = some (.cells #[.bool gs, u1, u2] 42 (0, 0))) (hg : W.grownBy W' vm.ownBlock) :
    (W'.cell? ⟨V, t, none⟩ = some (.int .i64 x) ∧ W'.cell? ⟨Dd, 0, none⟩ = some (.bool gs) ∧ W'.cell? ⟨Dd, 1, none⟩ = some u1 ∧ W'.cell? ⟨Dd, 2, none⟩ = some u2) ∧
    (∀ u, ((W'.setCell ⟨P, 3, none⟩ u).cell? ⟨V, t, none⟩ = some (.int .i64 x) ∧ (W'.setCell ⟨P, 3, none⟩ u).cell? ⟨Dd, 0, none⟩ = some (.bool gs) ∧ (W'.setCell ⟨P, 3, none⟩ u).cell? ⟨Dd, 1, none⟩ = some u1 ∧ (W'.setCell ⟨P, 3, none⟩ u).cell? ⟨Dd, 2, none⟩ = some u2)) := by
 obtain ⟨n1, n2⟩ := h.vne hVo
 have n3 := h.row.ne hD (by decide)
 have k1 : ∀ {g o : Nat} {u : Value}, (∀ j, vm.ownBlock = some j → g ≠ j) → W.cell? ⟨g, o, none⟩ = some u → W'.cell? ⟨g, o, none⟩ = some u := fun hn hu => hg.cell hu (fun e => hn _ e.symm rfl)
 have k2 : ∀ {g o : Nat} {u z : Value}, g ≠ P → W'.cell? ⟨g, o, none⟩ = some u → (W'.setCell ⟨P, 3, none⟩ z).cell? ⟨g, o, none⟩ = some u := fun hn hu => (grownBy_set (grown_refl W' (some P))).cell hu (by simpa using hn)
 obtain ⟨h0, h1, h2, h3⟩ := hc
 have d := fun j (e : vm.ownBlock = some j) => (n3 j e).symm
 exact ⟨⟨k1 n2 h0, k1 d h1, k1 d h2, k1 d h3⟩, fun u => ⟨k2 n1 (k1 n2 h0), k2 hDP (k1 d h1), k2 hDP (k1 d h2), k2 hDP (k1 d h3)⟩⟩
theorem measure_two {n1 n2 i j i' j' : Nat} {z y : Int} (hz : z = (i' : Int)) (hy : y = (j' : Int)) (h : (n1 - i') + (n2 - j') < (n1 - i) + (n2 - j)) : (n1 - (intOf (.int .i64 z)).toNat) + (n2 - (intOf (.int .i64 y)).toNat) < (n1 - (intOf (.int .i64 (i : Int))).toNat) + (n2 - (intOf (.int .i64 (j : Int))).toNat) := by
 subst hz hy
 simpa [intOf] using h
set_option maxRecDepth 100000 in
set_option maxHeartbeats 32000000 in
theorem RAdd_any {w : World} {k c1 c2 : Rat} {ms1 ms2 : List Mo} {ps : Bool} {pa pb : Option Addr} {pl pc pk pe : Nat} {ks : Bool} {ka kb : Option Addr} {kl kc kk ke : Nat} {qs : Bool} {qa qb : Option Addr} {ql qc qk qe : Nat} {a1 a2 : Option Addr} {cp1 cp2 : Nat} {rs1 rs2 : List RM}
    (hp : PolyAt c1 ms1 (ps, (pa, pl, pc), (pb, pk, pe)) a1 rs1 w) (hk : VD k (ks, (ka, kl, kc), (kb, kk, ke)) w) (hq : PolyAt c2 ms2 (qs, (qa, ql, qc), (qb, qk, qe)) a2 rs2 w) (zk : szQ k ≤ 20) (z1 : szQ c1 ≤ 20) (zm1 : ∀ x ∈ ms1, szQ x.2 ≤ 20) (z2 : szQ c2 ≤ 20) (zm2 : ∀ x ∈ ms2, szQ x.2 ≤ 20) (hn1 : rs1.length ≤ 500) (hn2 : rs2.length ≤ 500) :
    Calls Tryz.prog 17 #[.agg #[.bool ps, .slice pa pl pc, .slice pb pk pe, .slice a1 rs1.length cp1], .agg #[.bool ks, .slice ka kl kc, .slice kb kk ke], .agg #[.bool qs, .slice qa ql qc, .slice qb qk qe, .slice a2 rs2.length cp2]] w (GotR w (c1 + k * c2) (refAdd ms1 k ms2)) := by
 obtain ⟨W0, hW0, hB0, b0, b1, b2, b3, hs⟩ := boxes4 w #[.bool ps, .slice pa pl pc, .slice pb pk pe, .slice a1 rs1.length cp1] #[.bool ks, .slice ka kl kc, .slice kb kk ke] #[.bool qs, .slice qa ql qc, .slice qb qk qe, .slice a2 rs2.length cp2] #[.bool false, .slice none 0 0, .slice none 0 0, .slice none 0 0] 30 42 30 30
 have hp0 := hp.kept hB0
 have hk0 := hk.kept hB0
 have hq0 := hq.kept hB0
 have HC2 : Hid (∀ W, Below W0.heap.size W0 W → Calls Tryz.prog 14 #[.agg #[.bool ps, .slice pa pl pc, .slice pb pk pe]] W (GotD W c1)) := Lib.hid fun W h => got_of (W5 := W) (hp0.num.kept h) (by omega) (Below.refl _ _)
 have HC6 : Hid (∀ W, Below W0.heap.size W0 W → Calls Tryz.prog 14 #[.agg #[.bool qs, .slice qa ql qc, .slice qb qk qe]] W (GotD W c2)) := Lib.hid fun W h => got_of (W5 := W) (hq0.num.kept h) (by omega) (Below.refl _ _)
 have HC7 : Hid (∀ W {s z1 m1 k1 z2 m2 k2}, Below W0.heap.size W0 W → VD c2 (s, (z1, m1, k1), (z2, m2, k2)) W → Calls Tryz.prog 37 #[.agg #[.bool ks, .slice ka kl kc, .slice kb kk ke], .agg #[.bool s, .slice z1 m1 k1, .slice z2 m2 k2]] W (GotD W (k * c2))) := Lib.hid fun W s z1 m1 k1 z2 m2 k2 h hv => got_mul (W5 := W) (hk0.kept h) hv (by omega) (by omega) (Below.refl _ _)
 have HC8 : Hid (∀ W {s z1 m1 k1 z2 m2 k2 t y1 n1 j1 y2 n2 j2}, Below W0.heap.size W0 W → VD c1 (s, (z1, m1, k1), (z2, m2, k2)) W → VD (k * c2) (t, (y1, n1, j1), (y2, n2, j2)) W → Calls Tryz.prog 36 #[.agg #[.bool s, .slice z1 m1 k1, .slice z2 m2 k2], .agg #[.bool t, .slice y1 n1 j1, .slice y2 n2 j2]] W (GotD W (c1 + k * c2))) := Lib.hid fun W s z1 m1 k1 z2 m2 k2 t y1 n1 j1 y2 n2 j2 h hv hv' => got_add (W5 := W) hv hv' (by omega) (by have := szQ_mul k c2; omega) (Below.refl _ _)
 have HC9 : Hid (∀ W {s z1 m1 k1 z2 m2 k2}, Below W0.heap.size W0 W → VD (c1 + k * c2) (s, (z1, m1, k1), (z2, m2, k2)) W → Calls Tryz.prog 24 #[.agg #[.bool s, .slice z1 m1 k1, .slice z2 m2 k2]] W (GotQ W (c1 + k * c2))) := Lib.hid fun W s z1 m1 k1 z2 m2 k2 h hv => got_form (W5 := W) hv (by have := szQ_mul k c2; have := szQ_add c1 (k * c2); omega) (Below.refl _ _)
 have HK : Hid (∀ W, Below W0.heap.size W0 W → _) := Lib.hid fun W h => by
  obtain ⟨x0, x1, x2, x3, _⟩ := cellsL4 (stayL b0 h)
  obtain ⟨x4, x5, x6, _⟩ := cells3 (stayL b1 h)
  obtain ⟨x7, x8, x9, x10, _⟩ := cellsL4 (stayL b2 h)
  exact And.intro x0 (And.intro x1 (And.intro x2 (And.intro x4 (And.intro x5 (And.intro x6 (And.intro x7 (And.intro x8 x9)))))))
 have HBD := Lib.hid (below_drew W0)
 have H0 := Lib.hid (And.intro hB0 (And.intro b0 (And.intro b1 (And.intro b2 (And.intro b3 hs)))))
 have HPK := Lib.hid (And.intro hp0 (And.intro hk0 hq0))
 have HSZ := Lib.hid (And.intro zk (And.intro zm1 zm2))
 have HLE := Lib.hid (And.intro hp.ms.len hq.ms.len)
 have HNN := Lib.hid (And.intro hn1 hn2)
 have HW0 := Lib.hid hW0
 obtain ⟨n1, hn1'⟩ : ∃ n, rs1.length = n := ⟨_, rfl⟩
 obtain ⟨n2, hn2'⟩ : ∃ n, rs2.length = n := ⟨_, rfl⟩
 rw [hn1'] at hn1 HW0 H0 HLE HNN ⊢
 rw [hn2'] at hn2 HW0 H0 HLE HNN ⊢
 have HN12 := Lib.hid (And.intro hn1' hn2')
 clear hp hk hq zk z1 zm1 z2 zm2 hB0 b0 b1 b2 b3 hs hp0 hk0 hq0 hW0 hn1' hn2'
 go_enter Tryz.func17, Tryz.ntmps17
 go_wp2_with fail
 rw [← HW0.out]
 refine wp_region_ex (ι := Nat × RawR × RawR × RawR × RawR × RawR) (fun i => [(13, .pointer (some ⟨w.heap.size, 0, none⟩)), (14, .agg #[.bool ps, .slice pa pl pc, .slice pb pk pe]), (15, .agg #[.bool i.2.1.1, .slice i.2.1.2.1.1 i.2.1.2.1.2.1 i.2.1.2.1.2.2, .slice i.2.1.2.2.1 i.2.1.2.2.2.1 i.2.1.2.2.2.2]), (16, .agg #[.bool ks, .slice ka kl kc, .slice kb kk ke]), (17, .pointer (some ⟨w.heap.size + 1 + 1, 0, none⟩)), (18, .agg #[.bool qs, .slice qa ql qc, .slice qb qk qe]), (19, .agg #[.bool i.2.2.1.1, .slice i.2.2.1.2.1.1 i.2.2.1.2.1.2.1 i.2.2.1.2.1.2.2, .slice i.2.2.1.2.2.1 i.2.2.1.2.2.2.1 i.2.2.1.2.2.2.2]), (20, .agg #[.bool i.2.2.2.1.1, .slice i.2.2.2.1.2.1.1 i.2.2.2.1.2.1.2.1 i.2.2.2.1.2.1.2.2, .slice i.2.2.2.1.2.2.1 i.2.2.2.1.2.2.2.1 i.2.2.2.1.2.2.2.2]), (21, .agg #[.bool i.2.2.2.2.1.1, .slice i.2.2.2.2.1.2.1.1 i.2.2.2.2.1.2.1.2.1 i.2.2.2.2.1.2.1.2.2, .slice i.2.2.2.2.1.2.2.1 i.2.2.2.2.1.2.2.2.1 i.2.2.2.2.1.2.2.2.2]), (22, .agg #[.bool i.2.2.2.2.2.1, .slice i.2.2.2.2.2.2.1.1 i.2.2.2.2.2.2.1.2.1 i.2.2.2.2.2.2.1.2.2, .slice i.2.2.2.2.2.2.2.1 i.2.2.2.2.2.2.2.2.1 i.2.2.2.2.2.2.2.2.2]), (23, .agg #[.bool i.2.2.2.2.2.1, .slice i.2.2.2.2.2.2.1.1 i.2.2.2.2.2.2.1.2.1 i.2.2.2.2.2.2.1.2.2, .slice i.2.2.2.2.2.2.2.1 i.2.2.2.2.2.2.2.2.1 i.2.2.2.2.2.2.2.2.2, .slice none 0 0]), (7, .pointer (some ⟨i.1, 0, none⟩))]) (R1At W0 (c1 + k * c2)) ?reg ?rest
 case reg =>
  refine wp_region_held_drew (S := (fun w' => w'.cell? ⟨w.heap.size, 0, none⟩ = some (.bool ps) ∧ w'.cell? ⟨w.heap.size, 1, none⟩ = some (.slice pa pl pc) ∧ w'.cell? ⟨w.heap.size, 2, none⟩ = some (.slice pb pk pe) ∧ w'.cell? ⟨w.heap.size + 1, 0, none⟩ = some (.bool ks) ∧ w'.cell? ⟨w.heap.size + 1, 1, none⟩ = some (.slice ka kl kc) ∧ w'.cell? ⟨w.heap.size + 1, 2, none⟩ = some (.slice kb kk ke) ∧ w'.cell? ⟨w.heap.size + 1 + 1, 0, none⟩ = some (.bool qs) ∧ w'.cell? ⟨w.heap.size + 1 + 1, 1, none⟩ = some (.slice qa ql qc) ∧ w'.cell? ⟨w.heap.size + 1 + 1, 2, none⟩ = some (.slice qb qk qe))) (by kernel_rfl) ?_ (fun hHeld => ?_)
  ·exact HK.out _ HBD.out
  refine tkV 0 hHeld ?_
  try simp only [Act.put, zA, zB, zC, zD, zE, zF]
  refine tkV 1 hHeld ?_
  try simp only [Act.put, zA, zB, zC, zD, zE, zF]
  refine tkV 3 hHeld ?_
  try simp only [Act.put, zA, zB, zC, zD, zE, zF]
  refine tkV 4 hHeld ?_
  try simp only [Act.put, zA, zB, zC, zD, zE, zF]
  refine tkV 5 hHeld ?_
  try simp only [Act.put, zA, zB, zC, zD, zE, zF]
  refine rdy [2, 11] ?_
  refine AllReadyH.cons (by rfl) (fun K hK => ?_) ?_
  ·go_simp
   refine (HC2.out _ HBD.out).mono ?_
   rintro e w1 ⟨xxs, xxa, xxl, xxc, xxb, xxk, xxe, rfl, hb1, hv1⟩
   have HB1 := Lib.hid (Below.trans HBD.out (hb1.out.mono (Below.size HBD.out)))
   have HVxx1 := Lib.hid hv1.out
   clear hb1 hv1
   refine hK.out _ _ ?_ (fun hHeld => ?_)
   ·exact HK.out _ HB1.out
   clear hK K
   try simp only [Act.put, zA, zB, zC, zD, zE, zF]
   refine rdy [6, 11] ?_
   refine AllReadyH.cons (by rfl) (fun K hK => ?_) ?_
   ·go_simp
    refine (HC6.out _ HB1.out).mono ?_
    rintro e w2 ⟨yys, yya, yyl, yyc, yyb, yyk, yye, rfl, hb2, hv2⟩
    have HVxx2 := Lib.hid (VD.kept HVxx1.out hb2.out)
    have HB2 := Lib.hid (Below.trans HB1.out (hb2.out.mono (Below.size HB1.out)))
    have HVyy2 := Lib.hid hv2.out
    clear hb2 hv2
    refine hK.out _ _ ?_ (fun hHeld => ?_)
    ·exact HK.out _ HB2.out
    clear hK K
    try simp only [Act.put, zA, zB, zC, zD, zE, zF]
    refine rdy [7, 11] ?_
    refine AllReadyH.cons (by rfl) (fun K hK => ?_) ?_
    ·go_simp
     refine (HC7.out _ HB2.out HVyy2.out).mono ?_
     rintro e w3 ⟨mms, mma, mml, mmc, mmb, mmk, mme, rfl, hb3, hv3⟩
     have HVxx3 := Lib.hid (VD.kept HVxx2.out hb3.out)
     have HVyy3 := Lib.hid (VD.kept HVyy2.out hb3.out)
     have HB3 := Lib.hid (Below.trans HB2.out (hb3.out.mono (Below.size HB2.out)))
     have HVmm3 := Lib.hid hv3.out
     clear hb3 hv3
     refine hK.out _ _ ?_ (fun hHeld => ?_)
     ·exact HK.out _ HB3.out
     clear hK K
     try simp only [Act.put, zA, zB, zC, zD, zE, zF]
     refine rdy [8, 11] ?_
     refine AllReadyH.cons (by rfl) (fun K hK => ?_) ?_
     ·go_simp
      refine (HC8.out _ HB3.out HVxx3.out HVmm3.out).mono ?_
      rintro e w4 ⟨sss, ssa, ssl, ssc, ssb, ssk, sse, rfl, hb4, hv4⟩
      have HVmm4 := Lib.hid (VD.kept HVmm3.out hb4.out)
      have HVxx4 := Lib.hid (VD.kept HVxx3.out hb4.out)
      have HVyy4 := Lib.hid (VD.kept HVyy3.out hb4.out)
      have HB4 := Lib.hid (Below.trans HB3.out (hb4.out.mono (Below.size HB3.out)))
      have HVss4 := Lib.hid hv4.out
      clear hb4 hv4
      refine hK.out _ _ ?_ (fun hHeld => ?_)
      ·exact HK.out _ HB4.out
      clear hK K
      try simp only [Act.put, zA, zB, zC, zD, zE, zF]
      refine rdy [9, 11] ?_
      refine AllReadyH.cons (by rfl) (fun K hK => ?_) ?_
      ·go_simp
       refine (HC9.out _ HB4.out HVss4.out).mono ?_
       rintro e w5 ⟨fs, fa, fl, fc, fb, fk, fe, rfl, hb5, hv5⟩
       have HVmm5 := Lib.hid (VD.kept HVmm4.out hb5.out)
       have HVss5 := Lib.hid (VD.kept HVss4.out hb5.out)
       have HVxx5 := Lib.hid (VD.kept HVxx4.out hb5.out)
       have HVyy5 := Lib.hid (VD.kept HVyy4.out hb5.out)
       have HB5 := Lib.hid (Below.trans HB4.out (hb5.out.mono (Below.size HB4.out)))
       have HVf5 := Lib.hid hv5.out
       clear hb5 hv5
       refine hK.out _ _ ?_ (fun hHeld => ?_)
       ·exact HK.out _ HB5.out
       clear hK K
       try simp only [Act.put, zA, zB, zC, zD, zE, zF]
       refine tkV 10 hHeld ?_
       try simp only [Act.put, zA, zB, zC, zD, zE, zF]
       refine rdy [11] ?_
       refine AllReadyH.cons (by rfl) (fun K hK => ?_) AllReadyH.nil
       go_simp
       obtain ⟨w6, hw6⟩ : ∃ w6, w6 = w5.alloc (.cells #[.bool false, .slice none 0 0, .slice none 0 0, .slice none 0 0] 30) := ⟨_, rfl⟩
       rw [← hw6]
       have hal : Below w5.heap.size w5 w6 := by rw [hw6]; exact (Below.refl _ _).alloc (Nat.le_refl _) _
       have HVf6 := Lib.hid (VQ.kept HVf5.out hal)
       have HVmm6 := Lib.hid (VD.kept HVmm5.out hal)
       have HVss6 := Lib.hid (VD.kept HVss5.out hal)
       have HVxx6 := Lib.hid (VD.kept HVxx5.out hal)
       have HVyy6 := Lib.hid (VD.kept HVyy5.out hal)
       have HB6 := Lib.hid (Below.trans HB5.out (hal.mono (Below.size HB5.out)))
       have HP6 : Hid (w6.heap[w5.heap.size]? = some (.cells #[.bool false, .slice none 0 0, .slice none 0 0, .slice none 0 0] 30 (0, 0))) := Lib.hid (by rw [hw6]; exact heap_alloc_new w5 _)
       have HPL6 : Hid (W0.heap.size ≤ w5.heap.size) := Lib.hid (Below.size HB5.out)
       clear hal hw6
       refine hK.out _ _ ?_ (fun hHeld => ?_)
       ·exact HK.out _ HB6.out
       clear hK K
       try simp only [Act.put, zA, zB, zC, zD, zE, zF]
       refine rdy [12] ?_
       refine AllReadyH.cons (by rfl) (fun K hK => ?_) AllReadyH.nil
       obtain ⟨x0, x1, x2, x3, f0, f1, f2, f3⟩ := cellsL4 HP6.out
       go_simp
       have HE := Lib.hid (r1_end (r1 := (xxs, (xxa, xxl, xxc), (xxb, xxk, xxe))) (r2 := (yys, (yya, yyl, yyc), (yyb, yyk, yye))) (r3 := (mms, (mma, mml, mmc), (mmb, mmk, mme))) (r4 := (sss, (ssa, ssl, ssc), (ssb, ssk, sse))) HB6.out HP6.out HPL6.out HVf6.out)
       clear x0 x1 x2 x3 f0 f1 f2 f3
       refine hK.out _ _ ?_ (fun hHeld => ?_)
       ·exact HK.out _ HE.out.1
       clear hK K
       try simp only [Act.put, zA, zB, zC, zD, zE, zF]
       refine wpAnyH_done (by kernel_rfl) ?_ _
       refine ⟨(w5.heap.size, (xxs, (xxa, xxl, xxc), (xxb, xxk, xxe)), (yys, (yya, yyl, yyc), (yyb, yyk, yye)), (mms, (mma, mml, mmc), (mmb, mmk, mme)), (sss, (ssa, ssl, ssc), (ssb, ssk, sse)), (fs, (fa, fl, fc), (fb, fk, fe))), ?_, HE.out⟩
       simp only [puts, Act.put, zA, zB, zC, zD, zE, zF]
      refine AllReadyH.cons (by rfl) (fun K hK => ?_) ?_
      ·go_simp
       obtain ⟨w7, hw7⟩ : ∃ w7, w7 = w4.alloc (.cells #[.bool false, .slice none 0 0, .slice none 0 0, .slice none 0 0] 30) := ⟨_, rfl⟩
       rw [← hw7]
       have hal : Below w4.heap.size w4 w7 := by rw [hw7]; exact (Below.refl _ _).alloc (Nat.le_refl _) _
       have HVmm7 := Lib.hid (VD.kept HVmm4.out hal)
       have HVss7 := Lib.hid (VD.kept HVss4.out hal)
       have HVxx7 := Lib.hid (VD.kept HVxx4.out hal)
       have HVyy7 := Lib.hid (VD.kept HVyy4.out hal)
       have HB7 := Lib.hid (Below.trans HB4.out (hal.mono (Below.size HB4.out)))
       have HP7 : Hid (w7.heap[w4.heap.size]? = some (.cells #[.bool false, .slice none 0 0, .slice none 0 0, .slice none 0 0] 30 (0, 0))) := Lib.hid (by rw [hw7]; exact heap_alloc_new w4 _)
       have HPL7 : Hid (W0.heap.size ≤ w4.heap.size) := Lib.hid (Below.size HB4.out)
       clear hal hw7
       refine hK.out _ _ ?_ (fun hHeld => ?_)
       ·exact HK.out _ HB7.out
       clear hK K
       try simp only [Act.put, zA, zB, zC, zD, zE, zF]
       refine rdy [9] ?_
       refine AllReadyH.cons (by rfl) (fun K hK => ?_) AllReadyH.nil
       go_simp
       refine (HC9.out _ HB7.out HVss7.out).mono ?_
       rintro e w8 ⟨fs, fa, fl, fc, fb, fk, fe, rfl, hb8, hv8⟩
       have HVmm8 := Lib.hid (VD.kept HVmm7.out hb8.out)
       have HVss8 := Lib.hid (VD.kept HVss7.out hb8.out)
       have HVxx8 := Lib.hid (VD.kept HVxx7.out hb8.out)
       have HVyy8 := Lib.hid (VD.kept HVyy7.out hb8.out)
       have HP8 := Lib.hid (stayL HP7.out hb8.out)
       have HB8 := Lib.hid (Below.trans HB7.out (hb8.out.mono (Below.size HB7.out)))
       have HVf8 := Lib.hid hv8.out
       clear hb8 hv8
       refine hK.out _ _ ?_ (fun hHeld => ?_)
       ·exact HK.out _ HB8.out
       clear hK K
       try simp only [Act.put, zA, zB, zC, zD, zE, zF]
       refine tkV 10 hHeld ?_
       try simp only [Act.put, zA, zB, zC, zD, zE, zF]
       refine rdy [12] ?_
       refine AllReadyH.cons (by rfl) (fun K hK => ?_) AllReadyH.nil
       obtain ⟨x0, x1, x2, x3, f0, f1, f2, f3⟩ := cellsL4 HP8.out
       go_simp
       have HE := Lib.hid (r1_end (r1 := (xxs, (xxa, xxl, xxc), (xxb, xxk, xxe))) (r2 := (yys, (yya, yyl, yyc), (yyb, yyk, yye))) (r3 := (mms, (mma, mml, mmc), (mmb, mmk, mme))) (r4 := (sss, (ssa, ssl, ssc), (ssb, ssk, sse))) HB8.out HP8.out HPL7.out HVf8.out)
       clear x0 x1 x2 x3 f0 f1 f2 f3
       refine hK.out _ _ ?_ (fun hHeld => ?_)
       ·exact HK.out _ HE.out.1
       clear hK K
       try simp only [Act.put, zA, zB, zC, zD, zE, zF]
       refine wpAnyH_done (by kernel_rfl) ?_ _
       refine ⟨(w4.heap.size, (xxs, (xxa, xxl, xxc), (xxb, xxk, xxe)), (yys, (yya, yyl, yyc), (yyb, yyk, yye)), (mms, (mma, mml, mmc), (mmb, mmk, mme)), (sss, (ssa, ssl, ssc), (ssb, ssk, sse)), (fs, (fa, fl, fc), (fb, fk, fe))), ?_, HE.out⟩
       simp only [puts, Act.put, zA, zB, zC, zD, zE, zF]
      exact AllReadyH.nil
     refine AllReadyH.cons (by rfl) (fun K hK => ?_) ?_
     ·go_simp
      obtain ⟨w9, hw9⟩ : ∃ w9, w9 = w3.alloc (.cells #[.bool false, .slice none 0 0, .slice none 0 0, .slice none 0 0] 30) := ⟨_, rfl⟩
      rw [← hw9]
      have hal : Below w3.heap.size w3 w9 := by rw [hw9]; exact (Below.refl _ _).alloc (Nat.le_refl _) _
      have HVmm9 := Lib.hid (VD.kept HVmm3.out hal)
      have HVxx9 := Lib.hid (VD.kept HVxx3.out hal)
      have HVyy9 := Lib.hid (VD.kept HVyy3.out hal)
      have HB9 := Lib.hid (Below.trans HB3.out (hal.mono (Below.size HB3.out)))
      have HP9 : Hid (w9.heap[w3.heap.size]? = some (.cells #[.bool false, .slice none 0 0, .slice none 0 0, .slice none 0 0] 30 (0, 0))) := Lib.hid (by rw [hw9]; exact heap_alloc_new w3 _)
      have HPL9 : Hid (W0.heap.size ≤ w3.heap.size) := Lib.hid (Below.size HB3.out)
      clear hal hw9
      refine hK.out _ _ ?_ (fun hHeld => ?_)
      ·exact HK.out _ HB9.out
      clear hK K
      try simp only [Act.put, zA, zB, zC, zD, zE, zF]
      refine rdy [8] ?_
      refine AllReadyH.cons (by rfl) (fun K hK => ?_) AllReadyH.nil
      go_simp
      refine (HC8.out _ HB9.out HVxx9.out HVmm9.out).mono ?_
      rintro e w10 ⟨sss, ssa, ssl, ssc, ssb, ssk, sse, rfl, hb10, hv10⟩
      have HVmm10 := Lib.hid (VD.kept HVmm9.out hb10.out)
      have HVxx10 := Lib.hid (VD.kept HVxx9.out hb10.out)
      have HVyy10 := Lib.hid (VD.kept HVyy9.out hb10.out)
      have HP10 := Lib.hid (stayL HP9.out hb10.out)
      have HB10 := Lib.hid (Below.trans HB9.out (hb10.out.mono (Below.size HB9.out)))
      have HVss10 := Lib.hid hv10.out
      clear hb10 hv10
      refine hK.out _ _ ?_ (fun hHeld => ?_)
      ·exact HK.out _ HB10.out
      clear hK K
      try simp only [Act.put, zA, zB, zC, zD, zE, zF]
      refine rdy [9] ?_
      refine AllReadyH.cons (by rfl) (fun K hK => ?_) AllReadyH.nil
      go_simp
      refine (HC9.out _ HB10.out HVss10.out).mono ?_
      rintro e w11 ⟨fs, fa, fl, fc, fb, fk, fe, rfl, hb11, hv11⟩
      have HVmm11 := Lib.hid (VD.kept HVmm10.out hb11.out)
      have HVss11 := Lib.hid (VD.kept HVss10.out hb11.out)
      have HVxx11 := Lib.hid (VD.kept HVxx10.out hb11.out)
      have HVyy11 := Lib.hid (VD.kept HVyy10.out hb11.out)
      have HP11 := Lib.hid (stayL HP10.out hb11.out)
      have HB11 := Lib.hid (Below.trans HB10.out (hb11.out.mono (Below.size HB10.out)))
      have HVf11 := Lib.hid hv11.out
      clear hb11 hv11
      refine hK.out _ _ ?_ (fun hHeld => ?_)
      ·exact HK.out _ HB11.out
      clear hK K
      try simp only [Act.put, zA, zB, zC, zD, zE, zF]
      refine tkV 10 hHeld ?_
      try simp only [Act.put, zA, zB, zC, zD, zE, zF]
      refine rdy [12] ?_
      refine AllReadyH.cons (by rfl) (fun K hK => ?_) AllReadyH.nil
      obtain ⟨x0, x1, x2, x3, f0, f1, f2, f3⟩ := cellsL4 HP11.out
      go_simp
      have HE := Lib.hid (r1_end (r1 := (xxs, (xxa, xxl, xxc), (xxb, xxk, xxe))) (r2 := (yys, (yya, yyl, yyc), (yyb, yyk, yye))) (r3 := (mms, (mma, mml, mmc), (mmb, mmk, mme))) (r4 := (sss, (ssa, ssl, ssc), (ssb, ssk, sse))) HB11.out HP11.out HPL9.out HVf11.out)
      clear x0 x1 x2 x3 f0 f1 f2 f3
      refine hK.out _ _ ?_ (fun hHeld => ?_)
      ·exact HK.out _ HE.out.1
      clear hK K
      try simp only [Act.put, zA, zB, zC, zD, zE, zF]
      refine wpAnyH_done (by kernel_rfl) ?_ _
      refine ⟨(w3.heap.size, (xxs, (xxa, xxl, xxc), (xxb, xxk, xxe)), (yys, (yya, yyl, yyc), (yyb, yyk, yye)), (mms, (mma, mml, mmc), (mmb, mmk, mme)), (sss, (ssa, ssl, ssc), (ssb, ssk, sse)), (fs, (fa, fl, fc), (fb, fk, fe))), ?_, HE.out⟩
      simp only [puts, Act.put, zA, zB, zC, zD, zE, zF]
     exact AllReadyH.nil
    refine AllReadyH.cons (by rfl) (fun K hK => ?_) ?_
    ·go_simp
     obtain ⟨w12, hw12⟩ : ∃ w12, w12 = w2.alloc (.cells #[.bool false, .slice none 0 0, .slice none 0 0, .slice none 0 0] 30) := ⟨_, rfl⟩
     rw [← hw12]
     have hal : Below w2.heap.size w2 w12 := by rw [hw12]; exact (Below.refl _ _).alloc (Nat.le_refl _) _
     have HVxx12 := Lib.hid (VD.kept HVxx2.out hal)
     have HVyy12 := Lib.hid (VD.kept HVyy2.out hal)
     have HB12 := Lib.hid (Below.trans HB2.out (hal.mono (Below.size HB2.out)))
     have HP12 : Hid (w12.heap[w2.heap.size]? = some (.cells #[.bool false, .slice none 0 0, .slice none 0 0, .slice none 0 0] 30 (0, 0))) := Lib.hid (by rw [hw12]; exact heap_alloc_new w2 _)
     have HPL12 : Hid (W0.heap.size ≤ w2.heap.size) := Lib.hid (Below.size HB2.out)
     clear hal hw12
     refine hK.out _ _ ?_ (fun hHeld => ?_)
     ·exact HK.out _ HB12.out
     clear hK K
     try simp only [Act.put, zA, zB, zC, zD, zE, zF]
     refine rdy [7] ?_
     refine AllReadyH.cons (by rfl) (fun K hK => ?_) AllReadyH.nil
     go_simp
     refine (HC7.out _ HB12.out HVyy12.out).mono ?_
     rintro e w13 ⟨mms, mma, mml, mmc, mmb, mmk, mme, rfl, hb13, hv13⟩
     have HVxx13 := Lib.hid (VD.kept HVxx12.out hb13.out)
     have HVyy13 := Lib.hid (VD.kept HVyy12.out hb13.out)
     have HP13 := Lib.hid (stayL HP12.out hb13.out)
     have HB13 := Lib.hid (Below.trans HB12.out (hb13.out.mono (Below.size HB12.out)))
     have HVmm13 := Lib.hid hv13.out
     clear hb13 hv13
     refine hK.out _ _ ?_ (fun hHeld => ?_)
     ·exact HK.out _ HB13.out
     clear hK K
     try simp only [Act.put, zA, zB, zC, zD, zE, zF]
     refine rdy [8] ?_
     refine AllReadyH.cons (by rfl) (fun K hK => ?_) AllReadyH.nil
     go_simp
     refine (HC8.out _ HB13.out HVxx13.out HVmm13.out).mono ?_
     rintro e w14 ⟨sss, ssa, ssl, ssc, ssb, ssk, sse, rfl, hb14, hv14⟩
     have HVmm14 := Lib.hid (VD.kept HVmm13.out hb14.out)
     have HVxx14 := Lib.hid (VD.kept HVxx13.out hb14.out)
     have HVyy14 := Lib.hid (VD.kept HVyy13.out hb14.out)
     have HP14 := Lib.hid (stayL HP13.out hb14.out)
     have HB14 := Lib.hid (Below.trans HB13.out (hb14.out.mono (Below.size HB13.out)))
     have HVss14 := Lib.hid hv14.out
     clear hb14 hv14
     refine hK.out _ _ ?_ (fun hHeld => ?_)
     ·exact HK.out _ HB14.out
     clear hK K
     try simp only [Act.put, zA, zB, zC, zD, zE, zF]
     refine rdy [9] ?_
     refine AllReadyH.cons (by rfl) (fun K hK => ?_) AllReadyH.nil
     go_simp
     refine (HC9.out _ HB14.out HVss14.out).mono ?_
     rintro e w15 ⟨fs, fa, fl, fc, fb, fk, fe, rfl, hb15, hv15⟩
     have HVmm15 := Lib.hid (VD.kept HVmm14.out hb15.out)
     have HVss15 := Lib.hid (VD.kept HVss14.out hb15.out)
     have HVxx15 := Lib.hid (VD.kept HVxx14.out hb15.out)
     have HVyy15 := Lib.hid (VD.kept HVyy14.out hb15.out)
     have HP15 := Lib.hid (stayL HP14.out hb15.out)
     have HB15 := Lib.hid (Below.trans HB14.out (hb15.out.mono (Below.size HB14.out)))
     have HVf15 := Lib.hid hv15.out
     clear hb15 hv15
     refine hK.out _ _ ?_ (fun hHeld => ?_)
     ·exact HK.out _ HB15.out
     clear hK K
     try simp only [Act.put, zA, zB, zC, zD, zE, zF]
     refine tkV 10 hHeld ?_
     try simp only [Act.put, zA, zB, zC, zD, zE, zF]
     refine rdy [12] ?_
     refine AllReadyH.cons (by rfl) (fun K hK => ?_) AllReadyH.nil
     obtain ⟨x0, x1, x2, x3, f0, f1, f2, f3⟩ := cellsL4 HP15.out
     go_simp
     have HE := Lib.hid (r1_end (r1 := (xxs, (xxa, xxl, xxc), (xxb, xxk, xxe))) (r2 := (yys, (yya, yyl, yyc), (yyb, yyk, yye))) (r3 := (mms, (mma, mml, mmc), (mmb, mmk, mme))) (r4 := (sss, (ssa, ssl, ssc), (ssb, ssk, sse))) HB15.out HP15.out HPL12.out HVf15.out)
     clear x0 x1 x2 x3 f0 f1 f2 f3
     refine hK.out _ _ ?_ (fun hHeld => ?_)
     ·exact HK.out _ HE.out.1
     clear hK K
     try simp only [Act.put, zA, zB, zC, zD, zE, zF]
     refine wpAnyH_done (by kernel_rfl) ?_ _
     refine ⟨(w2.heap.size, (xxs, (xxa, xxl, xxc), (xxb, xxk, xxe)), (yys, (yya, yyl, yyc), (yyb, yyk, yye)), (mms, (mma, mml, mmc), (mmb, mmk, mme)), (sss, (ssa, ssl, ssc), (ssb, ssk, sse)), (fs, (fa, fl, fc), (fb, fk, fe))), ?_, HE.out⟩
     simp only [puts, Act.put, zA, zB, zC, zD, zE, zF]
    exact AllReadyH.nil
   refine AllReadyH.cons (by rfl) (fun K hK => ?_) ?_
   ·go_simp
    obtain ⟨w16, hw16⟩ : ∃ w16, w16 = w1.alloc (.cells #[.bool false, .slice none 0 0, .slice none 0 0, .slice none 0 0] 30) := ⟨_, rfl⟩
    rw [← hw16]
    have hal : Below w1.heap.size w1 w16 := by rw [hw16]; exact (Below.refl _ _).alloc (Nat.le_refl _) _
    have HVxx16 := Lib.hid (VD.kept HVxx1.out hal)
    have HB16 := Lib.hid (Below.trans HB1.out (hal.mono (Below.size HB1.out)))
    have HP16 : Hid (w16.heap[w1.heap.size]? = some (.cells #[.bool false, .slice none 0 0, .slice none 0 0, .slice none 0 0] 30 (0, 0))) := Lib.hid (by rw [hw16]; exact heap_alloc_new w1 _)
    have HPL16 : Hid (W0.heap.size ≤ w1.heap.size) := Lib.hid (Below.size HB1.out)
    clear hal hw16
    refine hK.out _ _ ?_ (fun hHeld => ?_)
    ·exact HK.out _ HB16.out
    clear hK K
    try simp only [Act.put, zA, zB, zC, zD, zE, zF]
    refine rdy [6] ?_
    refine AllReadyH.cons (by rfl) (fun K hK => ?_) AllReadyH.nil
    go_simp
    refine (HC6.out _ HB16.out).mono ?_
    rintro e w17 ⟨yys, yya, yyl, yyc, yyb, yyk, yye, rfl, hb17, hv17⟩
    have HVxx17 := Lib.hid (VD.kept HVxx16.out hb17.out)
    have HP17 := Lib.hid (stayL HP16.out hb17.out)
    have HB17 := Lib.hid (Below.trans HB16.out (hb17.out.mono (Below.size HB16.out)))
    have HVyy17 := Lib.hid hv17.out
    clear hb17 hv17
    refine hK.out _ _ ?_ (fun hHeld => ?_)
    ·exact HK.out _ HB17.out
    clear hK K
    try simp only [Act.put, zA, zB, zC, zD, zE, zF]
    refine rdy [7] ?_
    refine AllReadyH.cons (by rfl) (fun K hK => ?_) AllReadyH.nil
    go_simp
    refine (HC7.out _ HB17.out HVyy17.out).mono ?_
    rintro e w18 ⟨mms, mma, mml, mmc, mmb, mmk, mme, rfl, hb18, hv18⟩
    have HVxx18 := Lib.hid (VD.kept HVxx17.out hb18.out)
    have HVyy18 := Lib.hid (VD.kept HVyy17.out hb18.out)
    have HP18 := Lib.hid (stayL HP17.out hb18.out)
    have HB18 := Lib.hid (Below.trans HB17.out (hb18.out.mono (Below.size HB17.out)))
    have HVmm18 := Lib.hid hv18.out
    clear hb18 hv18
    refine hK.out _ _ ?_ (fun hHeld => ?_)
    ·exact HK.out _ HB18.out
    clear hK K
    try simp only [Act.put, zA, zB, zC, zD, zE, zF]
    refine rdy [8] ?_
    refine AllReadyH.cons (by rfl) (fun K hK => ?_) AllReadyH.nil
    go_simp
    refine (HC8.out _ HB18.out HVxx18.out HVmm18.out).mono ?_
    rintro e w19 ⟨sss, ssa, ssl, ssc, ssb, ssk, sse, rfl, hb19, hv19⟩
    have HVmm19 := Lib.hid (VD.kept HVmm18.out hb19.out)
    have HVxx19 := Lib.hid (VD.kept HVxx18.out hb19.out)
    have HVyy19 := Lib.hid (VD.kept HVyy18.out hb19.out)
    have HP19 := Lib.hid (stayL HP18.out hb19.out)
    have HB19 := Lib.hid (Below.trans HB18.out (hb19.out.mono (Below.size HB18.out)))
    have HVss19 := Lib.hid hv19.out
    clear hb19 hv19
    refine hK.out _ _ ?_ (fun hHeld => ?_)
    ·exact HK.out _ HB19.out
    clear hK K
    try simp only [Act.put, zA, zB, zC, zD, zE, zF]
    refine rdy [9] ?_
    refine AllReadyH.cons (by rfl) (fun K hK => ?_) AllReadyH.nil
    go_simp
    refine (HC9.out _ HB19.out HVss19.out).mono ?_
    rintro e w20 ⟨fs, fa, fl, fc, fb, fk, fe, rfl, hb20, hv20⟩
    have HVmm20 := Lib.hid (VD.kept HVmm19.out hb20.out)
    have HVss20 := Lib.hid (VD.kept HVss19.out hb20.out)
    have HVxx20 := Lib.hid (VD.kept HVxx19.out hb20.out)
    have HVyy20 := Lib.hid (VD.kept HVyy19.out hb20.out)
    have HP20 := Lib.hid (stayL HP19.out hb20.out)
    have HB20 := Lib.hid (Below.trans HB19.out (hb20.out.mono (Below.size HB19.out)))
    have HVf20 := Lib.hid hv20.out
    clear hb20 hv20
    refine hK.out _ _ ?_ (fun hHeld => ?_)
    ·exact HK.out _ HB20.out
    clear hK K
    try simp only [Act.put, zA, zB, zC, zD, zE, zF]
    refine tkV 10 hHeld ?_
    try simp only [Act.put, zA, zB, zC, zD, zE, zF]
    refine rdy [12] ?_
    refine AllReadyH.cons (by rfl) (fun K hK => ?_) AllReadyH.nil
    obtain ⟨x0, x1, x2, x3, f0, f1, f2, f3⟩ := cellsL4 HP20.out
    go_simp
    have HE := Lib.hid (r1_end (r1 := (xxs, (xxa, xxl, xxc), (xxb, xxk, xxe))) (r2 := (yys, (yya, yyl, yyc), (yyb, yyk, yye))) (r3 := (mms, (mma, mml, mmc), (mmb, mmk, mme))) (r4 := (sss, (ssa, ssl, ssc), (ssb, ssk, sse))) HB20.out HP20.out HPL16.out HVf20.out)
    clear x0 x1 x2 x3 f0 f1 f2 f3
    refine hK.out _ _ ?_ (fun hHeld => ?_)
    ·exact HK.out _ HE.out.1
    clear hK K
    try simp only [Act.put, zA, zB, zC, zD, zE, zF]
    refine wpAnyH_done (by kernel_rfl) ?_ _
    refine ⟨(w1.heap.size, (xxs, (xxa, xxl, xxc), (xxb, xxk, xxe)), (yys, (yya, yyl, yyc), (yyb, yyk, yye)), (mms, (mma, mml, mmc), (mmb, mmk, mme)), (sss, (ssa, ssl, ssc), (ssb, ssk, sse)), (fs, (fa, fl, fc), (fb, fk, fe))), ?_, HE.out⟩
    simp only [puts, Act.put, zA, zB, zC, zD, zE, zF]
   exact AllReadyH.nil
  refine AllReadyH.cons (by rfl) (fun K hK => ?_) ?_
  ·go_simp
   obtain ⟨w21, hw21⟩ : ∃ w21, w21 = (W0.alloc (.cells #[.bool false, .slice none 0 0, .slice none 0 0, .slice none 0 0] 30)).drew := ⟨_, rfl⟩
   rw [← hw21]
   have hal : Below W0.heap.size W0 w21 := by rw [hw21]; exact ((Below.refl _ _).alloc (Nat.le_refl _) _).drew
   have HB21 := Lib.hid (hal)
   have HP21 : Hid (w21.heap[W0.heap.size]? = some (.cells #[.bool false, .slice none 0 0, .slice none 0 0, .slice none 0 0] 30 (0, 0))) := Lib.hid (by rw [hw21]; exact heap_alloc_new W0 _)
   have HPL21 : Hid (W0.heap.size ≤ W0.heap.size) := Lib.hid (Nat.le_refl _)
   clear hal hw21
   refine hK.out _ _ ?_ (fun hHeld => ?_)
   ·exact HK.out _ HB21.out
   clear hK K
   try simp only [Act.put, zA, zB, zC, zD, zE, zF]
   refine rdy [2] ?_
   refine AllReadyH.cons (by rfl) (fun K hK => ?_) AllReadyH.nil
   go_simp
   refine (HC2.out _ HB21.out).mono ?_
   rintro e w22 ⟨xxs, xxa, xxl, xxc, xxb, xxk, xxe, rfl, hb22, hv22⟩
   have HP22 := Lib.hid (stayL HP21.out hb22.out)
   have HB22 := Lib.hid (Below.trans HB21.out (hb22.out.mono (Below.size HB21.out)))
   have HVxx22 := Lib.hid hv22.out
   clear hb22 hv22
   refine hK.out _ _ ?_ (fun hHeld => ?_)
   ·exact HK.out _ HB22.out
   clear hK K
   try simp only [Act.put, zA, zB, zC, zD, zE, zF]
   refine rdy [6] ?_
   refine AllReadyH.cons (by rfl) (fun K hK => ?_) AllReadyH.nil
   go_simp
   refine (HC6.out _ HB22.out).mono ?_
   rintro e w23 ⟨yys, yya, yyl, yyc, yyb, yyk, yye, rfl, hb23, hv23⟩
   have HVxx23 := Lib.hid (VD.kept HVxx22.out hb23.out)
   have HP23 := Lib.hid (stayL HP22.out hb23.out)
   have HB23 := Lib.hid (Below.trans HB22.out (hb23.out.mono (Below.size HB22.out)))
   have HVyy23 := Lib.hid hv23.out
   clear hb23 hv23
   refine hK.out _ _ ?_ (fun hHeld => ?_)
   ·exact HK.out _ HB23.out
   clear hK K
   try simp only [Act.put, zA, zB, zC, zD, zE, zF]
   refine rdy [7] ?_
   refine AllReadyH.cons (by rfl) (fun K hK => ?_) AllReadyH.nil
   go_simp
   refine (HC7.out _ HB23.out HVyy23.out).mono ?_
   rintro e w24 ⟨mms, mma, mml, mmc, mmb, mmk, mme, rfl, hb24, hv24⟩
   have HVxx24 := Lib.hid (VD.kept HVxx23.out hb24.out)
   have HVyy24 := Lib.hid (VD.kept HVyy23.out hb24.out)
   have HP24 := Lib.hid (stayL HP23.out hb24.out)
   have HB24 := Lib.hid (Below.trans HB23.out (hb24.out.mono (Below.size HB23.out)))
   have HVmm24 := Lib.hid hv24.out
   clear hb24 hv24
   refine hK.out _ _ ?_ (fun hHeld => ?_)
   ·exact HK.out _ HB24.out
   clear hK K
   try simp only [Act.put, zA, zB, zC, zD, zE, zF]
   refine rdy [8] ?_
   refine AllReadyH.cons (by rfl) (fun K hK => ?_) AllReadyH.nil
   go_simp
   refine (HC8.out _ HB24.out HVxx24.out HVmm24.out).mono ?_
   rintro e w25 ⟨sss, ssa, ssl, ssc, ssb, ssk, sse, rfl, hb25, hv25⟩
   have HVmm25 := Lib.hid (VD.kept HVmm24.out hb25.out)
   have HVxx25 := Lib.hid (VD.kept HVxx24.out hb25.out)
   have HVyy25 := Lib.hid (VD.kept HVyy24.out hb25.out)
   have HP25 := Lib.hid (stayL HP24.out hb25.out)
   have HB25 := Lib.hid (Below.trans HB24.out (hb25.out.mono (Below.size HB24.out)))
   have HVss25 := Lib.hid hv25.out
   clear hb25 hv25
   refine hK.out _ _ ?_ (fun hHeld => ?_)
   ·exact HK.out _ HB25.out
   clear hK K
   try simp only [Act.put, zA, zB, zC, zD, zE, zF]
   refine rdy [9] ?_
   refine AllReadyH.cons (by rfl) (fun K hK => ?_) AllReadyH.nil
   go_simp
   refine (HC9.out _ HB25.out HVss25.out).mono ?_
   rintro e w26 ⟨fs, fa, fl, fc, fb, fk, fe, rfl, hb26, hv26⟩
   have HVmm26 := Lib.hid (VD.kept HVmm25.out hb26.out)
   have HVss26 := Lib.hid (VD.kept HVss25.out hb26.out)
   have HVxx26 := Lib.hid (VD.kept HVxx25.out hb26.out)
   have HVyy26 := Lib.hid (VD.kept HVyy25.out hb26.out)
   have HP26 := Lib.hid (stayL HP25.out hb26.out)
   have HB26 := Lib.hid (Below.trans HB25.out (hb26.out.mono (Below.size HB25.out)))
   have HVf26 := Lib.hid hv26.out
   clear hb26 hv26
   refine hK.out _ _ ?_ (fun hHeld => ?_)
   ·exact HK.out _ HB26.out
   clear hK K
   try simp only [Act.put, zA, zB, zC, zD, zE, zF]
   refine tkV 10 hHeld ?_
   try simp only [Act.put, zA, zB, zC, zD, zE, zF]
   refine rdy [12] ?_
   refine AllReadyH.cons (by rfl) (fun K hK => ?_) AllReadyH.nil
   obtain ⟨x0, x1, x2, x3, f0, f1, f2, f3⟩ := cellsL4 HP26.out
   go_simp
   have HE := Lib.hid (r1_end (r1 := (xxs, (xxa, xxl, xxc), (xxb, xxk, xxe))) (r2 := (yys, (yya, yyl, yyc), (yyb, yyk, yye))) (r3 := (mms, (mma, mml, mmc), (mmb, mmk, mme))) (r4 := (sss, (ssa, ssl, ssc), (ssb, ssk, sse))) HB26.out HP26.out HPL21.out HVf26.out)
   clear x0 x1 x2 x3 f0 f1 f2 f3
   refine hK.out _ _ ?_ (fun hHeld => ?_)
   ·exact HK.out _ HE.out.1
   clear hK K
   try simp only [Act.put, zA, zB, zC, zD, zE, zF]
   refine wpAnyH_done (by kernel_rfl) ?_ _
   refine ⟨(W0.heap.size, (xxs, (xxa, xxl, xxc), (xxb, xxk, xxe)), (yys, (yya, yyl, yyc), (yyb, yyk, yye)), (mms, (mma, mml, mmc), (mmb, mmk, mme)), (sss, (ssa, ssl, ssc), (ssb, ssk, sse)), (fs, (fa, fl, fc), (fb, fk, fe))), ?_, HE.out⟩
   simp only [puts, Act.put, zA, zB, zC, zD, zE, zF]
  exact AllReadyH.nil
 rintro ⟨P, ⟨xxs, ⟨xxa, xxl, xxc⟩, ⟨xxb, xxk, xxe⟩⟩, ⟨yys, ⟨yya, yyl, yyc⟩, ⟨yyb, yyk, yye⟩⟩, ⟨mms, ⟨mma, mml, mmc⟩, ⟨mmb, mmk, mme⟩⟩, ⟨sss, ⟨ssa, ssl, ssc⟩, ⟨ssb, ssk, sse⟩⟩, ⟨fs, ⟨fa, fl, fc⟩, ⟨fb, fk, fe⟩⟩⟩ w5 hS
 simp only [puts, Act.put, zA, zB, zC, zD, zE, zF]
 obtain ⟨hb5, hP5, hv5, hp5⟩ := hS
 dsimp only at hP5 hp5 hv5
 have HB05 := Lib.hid hb5
 have HBX := Lib.hid (And.intro (stayL H0.out.2.1 hb5) (stayL H0.out.2.2.2.1 hb5))
 have HM := Lib.hid (And.intro (HPK.out.1.ms.kept hb5) (HPK.out.2.2.ms.kept hb5))
 have H5 := Lib.hid (And.intro hP5 (And.intro hv5 hp5))
 clear hb5 hP5 hv5 hp5 HC2 HC6 HC7 HC8 HC9 HK
 go_wp2_with fail
 go_loopw [8, 9, 10] (fun (vv iv jv : Value) (wr : World) => ∃ (i j : Nat) (xs : List Int), i ≤ n1 ∧ j ≤ n2 ∧ iv = .int .i64 (i : Int) ∧ jv = .int .i64 (j : Int) ∧ Hid (OwnG GoodI 3 1 wr w5.heap.size vv xs.length (intC xs)) ∧ Hid (Below w5.heap.size w5 wr) ∧ Hid (xs.length ≤ i + j) ∧ Hid (xs ++ vars (ms1.drop i) (ms2.drop j) = vars ms1 ms2)) (fun _ iv jv _ => (n1 - (intOf iv).toNat) + (n2 - (intOf jv).toNat))
 case atStart => exact ⟨0, 0, [], Nat.zero_le _, Nat.zero_le _, rfl, rfl, Lib.hid (OwnG.start w5), Lib.hid ((Below.refl _ _).alloc (Nat.le_refl _) _), Lib.hid (Nat.le_refl _), Lib.hid rfl⟩
 case round =>
  obtain ⟨i, j, xs, hin, hjn, rfl, rfl, HOr, HBr, HXL, HTT⟩ := hrel
  generalize u8 = vv at *
  have hiw : wrap64 ((i : Int) + 1) = (i : Int) + 1 := IntWalk.wrap64_in _ (by omega)
  have hjw : wrap64 ((j : Int) + 1) = (j : Int) + 1 := IntWalk.wrap64_in _ (by omega)
  by_cases hi : i < n1
  ·by_cases hj : j < n2
   ·skip
    obtain ⟨d, x, g1, o1, hd, hx, rfl, hok, hr⟩ := HM.out.1.get (k := i) (by have := HLE.out; omega)
    obtain ⟨v, s, z1, m1, k1, z2, m2, k2⟩ := d
    obtain ⟨xv, xq⟩ := x
    obtain ⟨hv, _⟩ := hok
    dsimp only at hv
    subst hv
    have h4 := (range_cells4 hr).1
    clear hd hr
    obtain ⟨d', y, g2, o2, hd', hy, rfl, hok', hr'⟩ := HM.out.2.get (k := j) (by have := HLE.out; omega)
    obtain ⟨u, t, y1, n1', j1, y2, n2', j2⟩ := d'
    obtain ⟨yv, yq⟩ := y
    obtain ⟨hv', _⟩ := hok'
    dsimp only at hv'
    subst hv'
    have h5 := (range_cells4 hr').1
    clear hd' hr'
    have HF : Hid (∀ W, Below w5.heap.size w5 W → W.cell? ⟨w.heap.size, 3, none⟩ = some (.slice (some ⟨g1, o1, none⟩) n1 cp1) ∧ W.cell? ⟨w.heap.size + 1 + 1, 3, none⟩ = some (.slice (some ⟨g2, o2, none⟩) n2 cp2) ∧ W.cell? ⟨g1, o1 + i * 4, none⟩ = some (.int .i64 v) ∧ W.cell? ⟨g2, o2 + j * 4, none⟩ = some (.int .i64 u)) := Lib.hid fun W h => by
     obtain ⟨_, _, _, a3, _⟩ := cellsL4 (stayL HBX.out.1 h)
     obtain ⟨_, _, _, b3, _⟩ := cellsL4 (stayL HBX.out.2 h)
     exact ⟨a3, b3, cellK h4 h, cellK h5 h⟩
    obtain ⟨c3, d3, e3, f3⟩ := HF.out _ HBr.out
    have hje : ((j : Int) == (n2 : Int)) = false := by have : ¬ ((j : Int) = (n2 : Int)) := by omega
                                                       simpa using this
    have hii : (i : Int) < (n1 : Int) := by omega
    have hjj : (j : Int) < (n2 : Int) := by omega
    have hid : decide ((i : Int) < (n1 : Int)) = true := decide_eq_true hii
    have hjd : decide ((j : Int) < (n2 : Int)) = true := decide_eq_true hjj
    by_cases hvu : v = u
    ·skip
     have hT1 := vars_eq hx hy (by dsimp only; omega)
     subst hvu
     have hle : decide (v ≤ v) = true := decide_eq_true (by omega)
     have heq : (v == v) = true := by simp
     have HT1 := Lib.hid hT1
     clear hx hy hT1 h4 h5
     go_wp2_with fail
     go_quiet (fail)
     have hqA := Below.drewN' (Below.refl wr.heap.size wr) nq
     have HBA := Lib.hid (HBr.out.trans (hqA.mono (Below.size HBr.out)))
     have HOA := Lib.hid (HOr.out.kept hqA)
     clear hqA c3 d3 e3 f3
     generalize wr.drewN nq = wA at *
     obtain ⟨c3, d3, e3, f3⟩ := HF.out _ HBA.out
     have hal := (Below.refl wA.heap.size wA).alloc (Nat.le_refl _) (.cells #[.int .i64 v] 3)
     have HOW := Lib.hid (HOA.out.kept hal)
     have HBW := Lib.hid (HBA.out.trans (hal.mono (Below.size HBA.out)))
     have HNW : Hid (∀ (ix : Nat) (ux : Value), [Value.int .i64 v][ix]? = some ux → (wA.alloc (.cells #[.int .i64 v] 3)).cell? ((⟨wA.heap.size, 0, none⟩ : Addr).add ix) = some ux) := Lib.hid fun ix ux hu => by
      rw [Addr.add_mid]
      exact rangeAt_new wA [.int .i64 v] _ ix ux hu
     have HRM : Hid (xs.length + 1 ≤ 2000000) := Lib.hid (by have := HXL.out; have := HNN.out; omega)
     have HBZ := Lib.hid (Below.size HBW.out)
     clear hal
     go_wp2_with (at_builtin; refine wpList_appG rowG_int rfl (.tmp 64) (.tmp 71) rfl (by rfl) HOW.out ⟨wA.heap.size, 0, none⟩ 1 1 [.int .i64 v] (by rfl) (by omega) (by rfl) HNW.out (one_int _) (good_int _) HRM.out HBZ.out ?_; intro vvB wB hown hgr _; have HOB : Hid (OwnG GoodI 3 1 wB w5.heap.size vvB (xs ++ [v]).length (intC (xs ++ [v]))) := Lib.hid (by rw [List.length_append]; simpa [intC] using hown); have HBB := Lib.hid (below_grownL HBW.out hgr HBZ.out (fun g e => (HOW.out.lt g e).2.1)); clear hown hgr; obtain ⟨c3, d3, e3, f3⟩ := HF.out _ HBB.out)
     go_wp2_with fail
     go_quiet (fail)
     have hqC := Below.drewN' (Below.refl wB.heap.size wB) nq
     have HBC := Lib.hid (HBB.out.trans (hqC.mono (Below.size HBB.out)))
     have HOC := Lib.hid (HOB.out.kept hqC)
     clear hqC c3 d3 e3 f3
     generalize wB.drewN nq = wC at *
     obtain ⟨c3, d3, e3, f3⟩ := HF.out _ HBC.out
     go_wp2_with fail
     go_roundw
     case rel => exact ⟨i + 1, j + 1, xs ++ [v], by omega, by omega, by go_num, by go_num, HOC, HBC, Lib.hid (by have := HXL.out; simp; omega), Lib.hid (by rw [List.append_assoc]; rw [HT1.out] at HTT; exact HTT.out)⟩
     case measure => exact measure_two (i' := i + 1) (j' := j + 1) (by first | rfl | (rw [hiw]; omega)) (by first | rfl | (rw [hjw]; omega)) (by omega)
    ·by_cases hlt : v < u
     ·skip
      have hT1 := vars_lt hx hy (by dsimp only; omega)
      have hle : decide (v ≤ u) = true := decide_eq_true (by omega)
      have heq : (v == u) = false := by have : ¬ v = u := by omega
                                        simpa using this
      have HT1 := Lib.hid hT1
      clear hx hy hT1 h4 h5
      go_wp2_with fail
      go_quiet (fail)
      have hqA := Below.drewN' (Below.refl wr.heap.size wr) nq
      have HBA := Lib.hid (HBr.out.trans (hqA.mono (Below.size HBr.out)))
      have HOA := Lib.hid (HOr.out.kept hqA)
      clear hqA c3 d3 e3 f3
      generalize wr.drewN nq = wA at *
      obtain ⟨c3, d3, e3, f3⟩ := HF.out _ HBA.out
      have hal := (Below.refl wA.heap.size wA).alloc (Nat.le_refl _) (.cells #[.int .i64 v] 3)
      have HOW := Lib.hid (HOA.out.kept hal)
      have HBW := Lib.hid (HBA.out.trans (hal.mono (Below.size HBA.out)))
      have HNW : Hid (∀ (ix : Nat) (ux : Value), [Value.int .i64 v][ix]? = some ux → (wA.alloc (.cells #[.int .i64 v] 3)).cell? ((⟨wA.heap.size, 0, none⟩ : Addr).add ix) = some ux) := Lib.hid fun ix ux hu => by
       rw [Addr.add_mid]
       exact rangeAt_new wA [.int .i64 v] _ ix ux hu
      have HRM : Hid (xs.length + 1 ≤ 2000000) := Lib.hid (by have := HXL.out; have := HNN.out; omega)
      have HBZ := Lib.hid (Below.size HBW.out)
      clear hal
      go_wp2_with (at_builtin; refine wpList_appG rowG_int rfl (.tmp 64) (.tmp 71) rfl (by rfl) HOW.out ⟨wA.heap.size, 0, none⟩ 1 1 [.int .i64 v] (by rfl) (by omega) (by rfl) HNW.out (one_int _) (good_int _) HRM.out HBZ.out ?_; intro vvB wB hown hgr _; have HOB : Hid (OwnG GoodI 3 1 wB w5.heap.size vvB (xs ++ [v]).length (intC (xs ++ [v]))) := Lib.hid (by rw [List.length_append]; simpa [intC] using hown); have HBB := Lib.hid (below_grownL HBW.out hgr HBZ.out (fun g e => (HOW.out.lt g e).2.1)); clear hown hgr; obtain ⟨c3, d3, e3, f3⟩ := HF.out _ HBB.out)
      go_wp2_with fail
      go_quiet (fail)
      have hqC := Below.drewN' (Below.refl wB.heap.size wB) nq
      have HBC := Lib.hid (HBB.out.trans (hqC.mono (Below.size HBB.out)))
      have HOC := Lib.hid (HOB.out.kept hqC)
      clear hqC c3 d3 e3 f3
      generalize wB.drewN nq = wC at *
      obtain ⟨c3, d3, e3, f3⟩ := HF.out _ HBC.out
      go_wp2_with fail
      go_roundw
      case rel => exact ⟨i + 1, j, xs ++ [v], by omega, by omega, by go_num, by go_num, HOC, HBC, Lib.hid (by have := HXL.out; simp; omega), Lib.hid (by rw [List.append_assoc]; rw [HT1.out] at HTT; exact HTT.out)⟩
      case measure => exact measure_two (i' := i + 1) (j' := j) (by first | rfl | (rw [hiw]; omega)) (by first | rfl | (rw [hjw]; omega)) (by omega)
     ·skip
      have hT1 := vars_gt hx hy (by dsimp only; omega)
      have hle : decide (v ≤ u) = false := decide_eq_false (by omega)
      have HT1 := Lib.hid hT1
      clear hx hy hT1 h4 h5
      go_wp2_with fail
      go_quiet (fail)
      have hqA := Below.drewN' (Below.refl wr.heap.size wr) nq
      have HBA := Lib.hid (HBr.out.trans (hqA.mono (Below.size HBr.out)))
      have HOA := Lib.hid (HOr.out.kept hqA)
      clear hqA c3 d3 e3 f3
      generalize wr.drewN nq = wA at *
      obtain ⟨c3, d3, e3, f3⟩ := HF.out _ HBA.out
      have hal := (Below.refl wA.heap.size wA).alloc (Nat.le_refl _) (.cells #[.int .i64 u] 3)
      have HOW := Lib.hid (HOA.out.kept hal)
      have HBW := Lib.hid (HBA.out.trans (hal.mono (Below.size HBA.out)))
      have HNW : Hid (∀ (ix : Nat) (ux : Value), [Value.int .i64 u][ix]? = some ux → (wA.alloc (.cells #[.int .i64 u] 3)).cell? ((⟨wA.heap.size, 0, none⟩ : Addr).add ix) = some ux) := Lib.hid fun ix ux hu => by
       rw [Addr.add_mid]
       exact rangeAt_new wA [.int .i64 u] _ ix ux hu
      have HRM : Hid (xs.length + 1 ≤ 2000000) := Lib.hid (by have := HXL.out; have := HNN.out; omega)
      have HBZ := Lib.hid (Below.size HBW.out)
      clear hal
      go_wp2_with (at_builtin; refine wpList_appG rowG_int rfl (.tmp 97) (.tmp 104) rfl (by rfl) HOW.out ⟨wA.heap.size, 0, none⟩ 1 1 [.int .i64 u] (by rfl) (by omega) (by rfl) HNW.out (one_int _) (good_int _) HRM.out HBZ.out ?_; intro vvB wB hown hgr _; have HOB : Hid (OwnG GoodI 3 1 wB w5.heap.size vvB (xs ++ [u]).length (intC (xs ++ [u]))) := Lib.hid (by rw [List.length_append]; simpa [intC] using hown); have HBB := Lib.hid (below_grownL HBW.out hgr HBZ.out (fun g e => (HOW.out.lt g e).2.1)); clear hown hgr; obtain ⟨c3, d3, e3, f3⟩ := HF.out _ HBB.out)
      go_wp2_with fail
      go_roundw
      case rel => exact ⟨i, j + 1, xs ++ [u], by omega, by omega, by go_num, by go_num, HOB, HBB, Lib.hid (by have := HXL.out; simp; omega), Lib.hid (by rw [List.append_assoc]; rw [HT1.out] at HTT; exact HTT.out)⟩
      case measure => exact measure_two (i' := i) (j' := j + 1) (by first | rfl | (rw [hiw]; omega)) (by first | rfl | (rw [hjw]; omega)) (by omega)
   ·skip
    obtain ⟨d, x, g1, o1, hd, hx, rfl, hok, hr⟩ := HM.out.1.get (k := i) (by have := HLE.out; omega)
    obtain ⟨v, s, z1, m1, k1, z2, m2, k2⟩ := d
    obtain ⟨xv, xq⟩ := x
    obtain ⟨hv, _⟩ := hok
    dsimp only at hv
    subst hv
    have h4 := (range_cells4 hr).1
    clear hd hr
    have HF : Hid (∀ W, Below w5.heap.size w5 W → W.cell? ⟨w.heap.size, 3, none⟩ = some (.slice (some ⟨g1, o1, none⟩) n1 cp1) ∧ W.cell? ⟨w.heap.size + 1 + 1, 3, none⟩ = some (.slice a2 n2 cp2) ∧ W.cell? ⟨g1, o1 + i * 4, none⟩ = some (.int .i64 v) ∧ True) := Lib.hid fun W h => by
     obtain ⟨_, _, _, a3, _⟩ := cellsL4 (stayL HBX.out.1 h)
     obtain ⟨_, _, _, b3, _⟩ := cellsL4 (stayL HBX.out.2 h)
     exact ⟨a3, b3, cellK h4 h, trivial⟩
    obtain ⟨c3, d3, e3, f3⟩ := HF.out _ HBr.out
    have hT1 := vars_left (ms2 := ms2) (j := j) hx (by have := HLE.out; omega)
    have hje : ((j : Int) == (n2 : Int)) = true := by have : j = n2 := by omega
                                                      simp [this]
    have hjl : ¬ ((j : Int) < (n2 : Int)) := by omega
    have hii : (i : Int) < (n1 : Int) := by omega
    have hid : decide ((i : Int) < (n1 : Int)) = true := decide_eq_true hii
    have hjd : decide ((j : Int) < (n2 : Int)) = false := decide_eq_false hjl
    have HT1 := Lib.hid hT1
    clear hx hT1 h4
    go_wp2_with fail
    go_quiet (fail)
    have hqA := Below.drewN' (Below.refl wr.heap.size wr) nq
    have HBA := Lib.hid (HBr.out.trans (hqA.mono (Below.size HBr.out)))
    have HOA := Lib.hid (HOr.out.kept hqA)
    clear hqA c3 d3 e3 f3
    generalize wr.drewN nq = wA at *
    obtain ⟨c3, d3, e3, f3⟩ := HF.out _ HBA.out
    have hal := (Below.refl wA.heap.size wA).alloc (Nat.le_refl _) (.cells #[.int .i64 v] 3)
    have HOW := Lib.hid (HOA.out.kept hal)
    have HBW := Lib.hid (HBA.out.trans (hal.mono (Below.size HBA.out)))
    have HNW : Hid (∀ (ix : Nat) (ux : Value), [Value.int .i64 v][ix]? = some ux → (wA.alloc (.cells #[.int .i64 v] 3)).cell? ((⟨wA.heap.size, 0, none⟩ : Addr).add ix) = some ux) := Lib.hid fun ix ux hu => by
     rw [Addr.add_mid]
     exact rangeAt_new wA [.int .i64 v] _ ix ux hu
    have HRM : Hid (xs.length + 1 ≤ 2000000) := Lib.hid (by have := HXL.out; have := HNN.out; omega)
    have HBZ := Lib.hid (Below.size HBW.out)
    clear hal
    go_wp2_with (at_builtin; refine wpList_appG rowG_int rfl (.tmp 64) (.tmp 71) rfl (by rfl) HOW.out ⟨wA.heap.size, 0, none⟩ 1 1 [.int .i64 v] (by rfl) (by omega) (by rfl) HNW.out (one_int _) (good_int _) HRM.out HBZ.out ?_; intro vvB wB hown hgr _; have HOB : Hid (OwnG GoodI 3 1 wB w5.heap.size vvB (xs ++ [v]).length (intC (xs ++ [v]))) := Lib.hid (by rw [List.length_append]; simpa [intC] using hown); have HBB := Lib.hid (below_grownL HBW.out hgr HBZ.out (fun g e => (HOW.out.lt g e).2.1)); clear hown hgr; obtain ⟨c3, d3, e3, f3⟩ := HF.out _ HBB.out)
    go_wp2_with fail
    go_quiet (fail)
    have hqC := Below.drewN' (Below.refl wB.heap.size wB) nq
    have HBC := Lib.hid (HBB.out.trans (hqC.mono (Below.size HBB.out)))
    have HOC := Lib.hid (HOB.out.kept hqC)
    clear hqC c3 d3 e3 f3
    generalize wB.drewN nq = wC at *
    obtain ⟨c3, d3, e3, f3⟩ := HF.out _ HBC.out
    go_wp2_with fail
    go_roundw
    case rel => exact ⟨i + 1, j, xs ++ [v], by omega, by omega, by go_num, by go_num, HOC, HBC, Lib.hid (by have := HXL.out; simp; omega), Lib.hid (by rw [List.append_assoc]; rw [HT1.out] at HTT; exact HTT.out)⟩
    case measure => exact measure_two (i' := i + 1) (j' := j) (by first | rfl | (rw [hiw]; omega)) (by first | rfl | (rw [hjw]; omega)) (by omega)
  ·by_cases hj : j < n2
   ·skip
    obtain ⟨d', y, g2, o2, hd', hy, rfl, hok', hr'⟩ := HM.out.2.get (k := j) (by have := HLE.out; omega)
    obtain ⟨u, t, y1, n1', j1, y2, n2', j2⟩ := d'
    obtain ⟨yv, yq⟩ := y
    obtain ⟨hv', _⟩ := hok'
    dsimp only at hv'
    subst hv'
    have h5 := (range_cells4 hr').1
    clear hd' hr'
    have HF : Hid (∀ W, Below w5.heap.size w5 W → W.cell? ⟨w.heap.size, 3, none⟩ = some (.slice a1 n1 cp1) ∧ W.cell? ⟨w.heap.size + 1 + 1, 3, none⟩ = some (.slice (some ⟨g2, o2, none⟩) n2 cp2) ∧ True ∧ W.cell? ⟨g2, o2 + j * 4, none⟩ = some (.int .i64 u)) := Lib.hid fun W h => by
     obtain ⟨_, _, _, a3, _⟩ := cellsL4 (stayL HBX.out.1 h)
     obtain ⟨_, _, _, b3, _⟩ := cellsL4 (stayL HBX.out.2 h)
     exact ⟨a3, b3, trivial, cellK h5 h⟩
    obtain ⟨c3, d3, e3, f3⟩ := HF.out _ HBr.out
    have hT1 := vars_right (ms1 := ms1) (i := i) (by have := HLE.out; omega) hy
    have hje : ((j : Int) == (n2 : Int)) = false := by have : ¬ ((j : Int) = (n2 : Int)) := by omega
                                                       simpa using this
    have hil : ¬ ((i : Int) < (n1 : Int)) := by omega
    have hjj : (j : Int) < (n2 : Int) := by omega
    have hid : decide ((i : Int) < (n1 : Int)) = false := decide_eq_false hil
    have hjd : decide ((j : Int) < (n2 : Int)) = true := decide_eq_true hjj
    have HT1 := Lib.hid hT1
    clear hy hT1 h5
    go_wp2_with fail
    go_quiet (fail)
    have hqA := Below.drewN' (Below.refl wr.heap.size wr) nq
    have HBA := Lib.hid (HBr.out.trans (hqA.mono (Below.size HBr.out)))
    have HOA := Lib.hid (HOr.out.kept hqA)
    clear hqA c3 d3 e3 f3
    generalize wr.drewN nq = wA at *
    obtain ⟨c3, d3, e3, f3⟩ := HF.out _ HBA.out
    have hal := (Below.refl wA.heap.size wA).alloc (Nat.le_refl _) (.cells #[.int .i64 u] 3)
    have HOW := Lib.hid (HOA.out.kept hal)
    have HBW := Lib.hid (HBA.out.trans (hal.mono (Below.size HBA.out)))
    have HNW : Hid (∀ (ix : Nat) (ux : Value), [Value.int .i64 u][ix]? = some ux → (wA.alloc (.cells #[.int .i64 u] 3)).cell? ((⟨wA.heap.size, 0, none⟩ : Addr).add ix) = some ux) := Lib.hid fun ix ux hu => by
     rw [Addr.add_mid]
     exact rangeAt_new wA [.int .i64 u] _ ix ux hu
    have HRM : Hid (xs.length + 1 ≤ 2000000) := Lib.hid (by have := HXL.out; have := HNN.out; omega)
    have HBZ := Lib.hid (Below.size HBW.out)
    clear hal
    go_wp2_with (at_builtin; refine wpList_appG rowG_int rfl (.tmp 97) (.tmp 104) rfl (by rfl) HOW.out ⟨wA.heap.size, 0, none⟩ 1 1 [.int .i64 u] (by rfl) (by omega) (by rfl) HNW.out (one_int _) (good_int _) HRM.out HBZ.out ?_; intro vvB wB hown hgr _; have HOB : Hid (OwnG GoodI 3 1 wB w5.heap.size vvB (xs ++ [u]).length (intC (xs ++ [u]))) := Lib.hid (by rw [List.length_append]; simpa [intC] using hown); have HBB := Lib.hid (below_grownL HBW.out hgr HBZ.out (fun g e => (HOW.out.lt g e).2.1)); clear hown hgr; obtain ⟨c3, d3, e3, f3⟩ := HF.out _ HBB.out)
    go_wp2_with fail
    go_roundw
    case rel => exact ⟨i, j + 1, xs ++ [u], by omega, by omega, by go_num, by go_num, HOB, HBB, Lib.hid (by have := HXL.out; simp; omega), Lib.hid (by rw [List.append_assoc]; rw [HT1.out] at HTT; exact HTT.out)⟩
    case measure => exact measure_two (i' := i) (j' := j + 1) (by first | rfl | (rw [hiw]; omega)) (by first | rfl | (rw [hjw]; omega)) (by omega)
   ·skip
    have hNv : xs = vars ms1 ms2 := by
     have h1 := vars_end (ms1 := ms1) (ms2 := ms2) (i := i) (j := j) (by have := HLE.out; omega) (by have := HLE.out; omega)
     have h2 := HTT.out
     rw [h1, List.append_nil] at h2
     exact h2
    have hii : ¬ ((i : Int) < (n1 : Int)) := by omega
    have hjj : ¬ ((j : Int) < (n2 : Int)) := by omega
    have hid : decide ((i : Int) < (n1 : Int)) = false := decide_eq_false hii
    have hjd : decide ((j : Int) < (n2 : Int)) = false := decide_eq_false hjj
    obtain ⟨_, _, _, c3, _⟩ := cellsL4 (stayL HBX.out.1 HBr.out)
    obtain ⟨_, _, _, d3, _⟩ := cellsL4 (stayL HBX.out.2 HBr.out)
    have HS0 : Hid (RdS W0 P vv xs (fs, (fa, fl, fc), (fb, fk, fe)) (c1 + k * c2) [] ((xs.take 0).flatMap fun v => keep (v, refC ms1 k ms2 v)) (.slice none 0 0) wr) := Lib.hid ⟨HB05.out.trans (HBr.out.mono HB05.out.size), stayL H5.out.1 HBr.out, H5.out.2.2, H5.out.2.1.kept HBr.out, (HOr.out.len |> fun h => ⟨h, (HOr.out.at_).imp id fun ⟨g, cap, e, hg, r⟩ => ⟨g, cap, e, by have := HB05.out.size; omega, r⟩⟩), OwnG.nil _ _ _ _ _, rfl, fun k d x h1 => by simp at h1⟩
    obtain ⟨av, cv, hvv, -, -, hvn, hva⟩ := HOr.out.value
    have HXN : Hid (xs.length ≤ 1000) := Lib.hid (by have := HXL.out; have := HNN.out; omega)
    have HNV := Lib.hid hNv
    obtain ⟨N, hN⟩ : ∃ N, xs.length = N := ⟨_, rfl⟩
    have HN := Lib.hid hN
    subst hvv
    rw [hN] at HXN hvn HS0 ⊢
    have HVN := Lib.hid hvn
    have HVA := Lib.hid hva
    have hN3 := HXN.out
    clear hNv hN hvn hva HTT HBX HM HOr HBr
    go_wp2_with fail
    clear c3 d3 hii hjj hid hjd hi hj hin hjn
    go_loopw [11] (fun (tv : Value) (wr : World) => ∃ (t : Nat) (rs : List RM) (vm : Value), t ≤ N ∧ tv = .int .i64 (t : Int) ∧ Hid (RdS W0 P (.slice av N cv) xs (fs, (fa, fl, fc), (fb, fk, fe)) (c1 + k * c2) rs ((xs.take t).flatMap fun v => keep (v, refC ms1 k ms2 v)) vm wr)) (fun tv _ => N - (intOf tv).toNat)
    case atStart => exact ⟨0, [], _, Nat.zero_le _, rfl, HS0⟩
    case round =>
     obtain ⟨t, rs, vm, htn, rfl, HS⟩ := hrel
     by_cases hlt : t < N
     ·obtain ⟨V, rfl⟩ : ∃ V, av = some ⟨V, 0, none⟩ := by
       cases av with
       | none => have := (HVN.out rfl).1; omega
       | some y => obtain ⟨g, rfl, _⟩ := HVA.out y rfl; exact ⟨g, rfl⟩
      have hVo : (Value.slice (some ⟨V, 0, none⟩) N cv).ownBlock = some V := rfl
      obtain ⟨x, hx⟩ : ∃ x, xs[t]? = some x := ⟨_, List.getElem?_eq_getElem (by rw [HN.out]; exact hlt)⟩
      have HV := Lib.hid (HS.out.vcell hx hVo)
      have HXT := Lib.hid hx
      have HK15 : Hid (∀ W, Below wr.heap.size wr W → _) := Lib.hid fun W h => by
       have hh := HS.out.hb.trans (h.mono HS.out.hb.size)
       obtain ⟨x0, x1, x2, x3, _⟩ := cellsL4 (stayL H0.out.2.1 hh)
       obtain ⟨x4, x5, x6, _⟩ := cells3 (stayL H0.out.2.2.1 hh)
       obtain ⟨x7, x8, x9, x10, _⟩ := cellsL4 (stayL H0.out.2.2.2.1 hh)
       exact And.intro x0 (And.intro x1 (And.intro x2 (And.intro x3 (And.intro x4 (And.intro x5 (And.intro x6 (And.intro x7 (And.intro x8 (And.intro x9 (And.intro x10 (cellK HV.out h)))))))))))
      have hcs1 : szQ (coef ms1 x) ≤ 20 := coef_sz HSZ.out.2.1 x
      have hcs2 : szQ (coef ms2 x) ≤ 20 := coef_sz HSZ.out.2.2 x
      have hcs3 : szQ (k * coef ms2 x) ≤ 43 := by have := szQ_mul k (coef ms2 x); have := HSZ.out.1; omega
      have HC5 : Hid (∀ W, Below wr.heap.size wr W → Calls Tryz.prog 38 #[.agg #[.bool ps, .slice pa pl pc, .slice pb pk pe, .slice a1 n1 cp1], .int .i64 x] W (GotD W (coef ms1 x))) := Lib.hid fun W h => by
       have := RCoef_any (w := W) (cp := cp1) (v := x) (HPK.out.1.kept (HS.out.hb.trans (h.mono HS.out.hb.size))) (fun y hy => by have := HSZ.out.2.1 y hy; omega) (by rw [HN12.out.1]; omega)
       rw [HN12.out.1] at this
       exact this
      have HC12 : Hid (∀ W, Below wr.heap.size wr W → Calls Tryz.prog 38 #[.agg #[.bool qs, .slice qa ql qc, .slice qb qk qe, .slice a2 n2 cp2], .int .i64 x] W (GotD W (coef ms2 x))) := Lib.hid fun W h => by
       have := RCoef_any (w := W) (cp := cp2) (v := x) (HPK.out.2.2.kept (HS.out.hb.trans (h.mono HS.out.hb.size))) (fun y hy => by have := HSZ.out.2.2 y hy; omega) (by rw [HN12.out.2]; omega)
       rw [HN12.out.2] at this
       exact this
      have HC13 : Hid (∀ W {s z1 m1 k1 z2 m2 k2}, Below wr.heap.size wr W → VD (coef ms2 x) (s, (z1, m1, k1), (z2, m2, k2)) W → Calls Tryz.prog 37 #[.agg #[.bool ks, .slice ka kl kc, .slice kb kk ke], .agg #[.bool s, .slice z1 m1 k1, .slice z2 m2 k2]] W (GotD W (k * coef ms2 x))) := Lib.hid fun W s z1 m1 k1 z2 m2 k2 h hv => got_mul (W5 := W) (HPK.out.2.1.kept (HS.out.hb.trans (h.mono HS.out.hb.size))) hv (by have := HSZ.out.1; omega) (by omega) (Below.refl _ _)
      have HC14 : Hid (∀ W {s z1 m1 k1 z2 m2 k2 t y1 n1 j1 y2 n2 j2}, Below wr.heap.size wr W → VD (coef ms1 x) (s, (z1, m1, k1), (z2, m2, k2)) W → VD (k * coef ms2 x) (t, (y1, n1, j1), (y2, n2, j2)) W → Calls Tryz.prog 36 #[.agg #[.bool s, .slice z1 m1 k1, .slice z2 m2 k2], .agg #[.bool t, .slice y1 n1 j1, .slice y2 n2 j2]] W (GotD W (refC ms1 k ms2 x))) := Lib.hid fun W s z1 m1 k1 z2 m2 k2 t y1 n1 j1 y2 n2 j2 h hv hv' => got_add (W5 := W) hv hv' (by omega) (by omega) (Below.refl _ _)
      have HBD15 := Lib.hid (below_drew wr)
      have hti : (t : Int) < (N : Int) := by omega
      have hiw : wrap64 ((t : Int) + 1) = (t : Int) + 1 := IntWalk.wrap64_in _ (by omega)
      have HZC : Hid (szQ (refC ms1 k ms2 x) ≤ 100) := Lib.hid (by unfold refC; have := szQ_add (coef ms1 x) (k * coef ms2 x); omega)
      clear hx hcs1 hcs2 hcs3
      go_wp2_with fail
      refine wp_region_ex (ι := Nat × RawR × RawR × RawR × RawR) (fun i => [(114, .agg #[.bool ps, .slice pa pl pc, .slice pb pk pe, .slice a1 n1 cp1]), (115, .slice (some ⟨V, 0, none⟩) N cv), (116, .int .i64 (t : Int)), (117, .pointer (some ⟨V, t, none⟩)), (118, .int .i64 x), (119, .agg #[.bool i.2.1.1, .slice i.2.1.2.1.1 i.2.1.2.1.2.1 i.2.1.2.1.2.2, .slice i.2.1.2.2.1 i.2.1.2.2.2.1 i.2.1.2.2.2.2]), (120, .agg #[.bool ks, .slice ka kl kc, .slice kb kk ke]), (121, .agg #[.bool qs, .slice qa ql qc, .slice qb qk qe, .slice a2 n2 cp2]), (122, .slice (some ⟨V, 0, none⟩) N cv), (123, .int .i64 (t : Int)), (124, .pointer (some ⟨V, t, none⟩)), (125, .int .i64 x), (126, .agg #[.bool i.2.2.1.1, .slice i.2.2.1.2.1.1 i.2.2.1.2.1.2.1 i.2.2.1.2.1.2.2, .slice i.2.2.1.2.2.1 i.2.2.1.2.2.2.1 i.2.2.1.2.2.2.2]), (127, .agg #[.bool i.2.2.2.1.1, .slice i.2.2.2.1.2.1.1 i.2.2.2.1.2.1.2.1 i.2.2.2.1.2.1.2.2, .slice i.2.2.2.1.2.2.1 i.2.2.2.1.2.2.2.1 i.2.2.2.1.2.2.2.2]), (128, .agg #[.bool i.2.2.2.2.1, .slice i.2.2.2.2.2.1.1 i.2.2.2.2.2.1.2.1 i.2.2.2.2.2.1.2.2, .slice i.2.2.2.2.2.2.1 i.2.2.2.2.2.2.2.1 i.2.2.2.2.2.2.2.2]), (12, .pointer (some ⟨i.1, 0, none⟩))]) (R15At wr (refC ms1 k ms2 x)) ?reg15 ?rest15
      case reg15 =>
       refine wp_region_held_drew (S := (fun w' => w'.cell? ⟨w.heap.size, 0, none⟩ = some (.bool ps) ∧ w'.cell? ⟨w.heap.size, 1, none⟩ = some (.slice pa pl pc) ∧ w'.cell? ⟨w.heap.size, 2, none⟩ = some (.slice pb pk pe) ∧ w'.cell? ⟨w.heap.size, 3, none⟩ = some (.slice a1 n1 cp1) ∧ w'.cell? ⟨w.heap.size + 1, 0, none⟩ = some (.bool ks) ∧ w'.cell? ⟨w.heap.size + 1, 1, none⟩ = some (.slice ka kl kc) ∧ w'.cell? ⟨w.heap.size + 1, 2, none⟩ = some (.slice kb kk ke) ∧ w'.cell? ⟨w.heap.size + 1 + 1, 0, none⟩ = some (.bool qs) ∧ w'.cell? ⟨w.heap.size + 1 + 1, 1, none⟩ = some (.slice qa ql qc) ∧ w'.cell? ⟨w.heap.size + 1 + 1, 2, none⟩ = some (.slice qb qk qe) ∧ w'.cell? ⟨w.heap.size + 1 + 1, 3, none⟩ = some (.slice a2 n2 cp2) ∧ w'.cell? ⟨V, t, none⟩ = some (.int .i64 x))) (by kernel_rfl) ?_ (fun hHeld => ?_)
       ·exact HK15.out _ HBD15.out
       refine tkV 0 hHeld ?_
       try simp only [Act.put, zA, zB, zC, zD, zE, zF]
       refine tkV 1 hHeld ?_
       try simp only [Act.put, zA, zB, zC, zD, zE, zF]
       refine tkV 2 hHeld ?_
       try simp only [Act.put, zA, zB, zC, zD, zE, zF]
       refine tkV 3 hHeld ?_
       try simp only [Act.put, zA, zB, zC, zD, zE, zF]
       refine tkV 4 hHeld ?_
       try simp only [Act.put, zA, zB, zC, zD, zE, zF]
       refine tkV 6 hHeld ?_
       try simp only [Act.put, zA, zB, zC, zD, zE, zF]
       refine tkV 7 hHeld ?_
       try simp only [Act.put, zA, zB, zC, zD, zE, zF]
       refine tkV 8 hHeld ?_
       try simp only [Act.put, zA, zB, zC, zD, zE, zF]
       refine tkV 9 hHeld ?_
       try simp only [Act.put, zA, zB, zC, zD, zE, zF]
       refine tkV 10 hHeld ?_
       try simp only [Act.put, zA, zB, zC, zD, zE, zF]
       refine tkV 11 hHeld ?_
       try simp only [Act.put, zA, zB, zC, zD, zE, zF]
       refine rdy [5, 15] ?_
       refine AllReadyH.cons (by rfl) (fun K hK => ?_) ?_
       ·go_simp
        refine (HC5.out _ HBD15.out).mono ?_
        rintro e w27 ⟨dds, dda, ddl, ddc, ddb, ddk, dde, rfl, hb27, hv27⟩
        have HB27 := Lib.hid (Below.trans HBD15.out (hb27.out.mono (Below.size HBD15.out)))
        have HVdd27 := Lib.hid hv27.out
        clear hb27 hv27
        refine hK.out _ _ ?_ (fun hHeld => ?_)
        ·exact HK15.out _ HB27.out
        clear hK K
        try simp only [Act.put, zA, zB, zC, zD, zE, zF]
        refine rdy [12, 15] ?_
        refine AllReadyH.cons (by rfl) (fun K hK => ?_) ?_
        ·go_simp
         refine (HC12.out _ HB27.out).mono ?_
         rintro e w28 ⟨ees, eea, eel, eec, eeb, eek, eee, rfl, hb28, hv28⟩
         have HVdd28 := Lib.hid (VD.kept HVdd27.out hb28.out)
         have HB28 := Lib.hid (Below.trans HB27.out (hb28.out.mono (Below.size HB27.out)))
         have HVee28 := Lib.hid hv28.out
         clear hb28 hv28
         refine hK.out _ _ ?_ (fun hHeld => ?_)
         ·exact HK15.out _ HB28.out
         clear hK K
         try simp only [Act.put, zA, zB, zC, zD, zE, zF]
         refine rdy [13, 15] ?_
         refine AllReadyH.cons (by rfl) (fun K hK => ?_) ?_
         ·go_simp
          refine (HC13.out _ HB28.out HVee28.out).mono ?_
          rintro e w29 ⟨ffs, ffa, ffl, ffc, ffb, ffk, ffe, rfl, hb29, hv29⟩
          have HVdd29 := Lib.hid (VD.kept HVdd28.out hb29.out)
          have HVee29 := Lib.hid (VD.kept HVee28.out hb29.out)
          have HB29 := Lib.hid (Below.trans HB28.out (hb29.out.mono (Below.size HB28.out)))
          have HVff29 := Lib.hid hv29.out
          clear hb29 hv29
          refine hK.out _ _ ?_ (fun hHeld => ?_)
          ·exact HK15.out _ HB29.out
          clear hK K
          try simp only [Act.put, zA, zB, zC, zD, zE, zF]
          refine rdy [14, 15] ?_
          refine AllReadyH.cons (by rfl) (fun K hK => ?_) ?_
          ·go_simp
           refine (HC14.out _ HB29.out HVdd29.out HVff29.out).mono ?_
           rintro e w30 ⟨ggs, gga, ggl, ggc, ggb, ggk, gge, rfl, hb30, hv30⟩
           have HVdd30 := Lib.hid (VD.kept HVdd29.out hb30.out)
           have HVee30 := Lib.hid (VD.kept HVee29.out hb30.out)
           have HVff30 := Lib.hid (VD.kept HVff29.out hb30.out)
           have HB30 := Lib.hid (Below.trans HB29.out (hb30.out.mono (Below.size HB29.out)))
           have HVgg30 := Lib.hid hv30.out
           clear hb30 hv30
           refine hK.out _ _ ?_ (fun hHeld => ?_)
           ·exact HK15.out _ HB30.out
           clear hK K
           try simp only [Act.put, zA, zB, zC, zD, zE, zF]
           refine rdy [15] ?_
           refine AllReadyH.cons (by rfl) (fun K hK => ?_) AllReadyH.nil
           go_simp
           obtain ⟨w31, hw31⟩ : ∃ w31, w31 = w30.alloc (.cells #[.bool false, .slice none 0 0, .slice none 0 0] 42) := ⟨_, rfl⟩
           rw [← hw31]
           have hal : Below w30.heap.size w30 w31 := by rw [hw31]; exact (Below.refl _ _).alloc (Nat.le_refl _) _
           have HVdd31 := Lib.hid (VD.kept HVdd30.out hal)
           have HVee31 := Lib.hid (VD.kept HVee30.out hal)
           have HVff31 := Lib.hid (VD.kept HVff30.out hal)
           have HVgg31 := Lib.hid (VD.kept HVgg30.out hal)
           have HB31 := Lib.hid (Below.trans HB30.out (hal.mono (Below.size HB30.out)))
           have HP31 : Hid (w31.heap[w30.heap.size]? = some (.cells #[.bool false, .slice none 0 0, .slice none 0 0] 42 (0, 0))) := Lib.hid (by rw [hw31]; exact heap_alloc_new w30 _)
           have HPL31 : Hid (wr.heap.size ≤ w30.heap.size) := Lib.hid (Below.size HB30.out)
           clear hal hw31
           refine hK.out _ _ ?_ (fun hHeld => ?_)
           ·exact HK15.out _ HB31.out
           clear hK K
           try simp only [Act.put, zA, zB, zC, zD, zE, zF]
           refine rdy [16] ?_
           refine AllReadyH.cons (by rfl) (fun K hK => ?_) AllReadyH.nil
           obtain ⟨y0, y1, y2, f0, f1, f2⟩ := cells3 HP31.out
           go_simp
           have HE := Lib.hid (r15_end (r1 := (dds, (dda, ddl, ddc), (ddb, ddk, dde))) (r2 := (ees, (eea, eel, eec), (eeb, eek, eee))) (r3 := (ffs, (ffa, ffl, ffc), (ffb, ffk, ffe))) HB31.out HP31.out HPL31.out HVgg31.out)
           clear y0 y1 y2 f0 f1 f2
           refine hK.out _ _ ?_ (fun hHeld => ?_)
           ·exact HK15.out _ HE.out.1
           clear hK K
           try simp only [Act.put, zA, zB, zC, zD, zE, zF]
           refine wpAnyH_done (by kernel_rfl) ?_ _
           refine ⟨(w30.heap.size, (dds, (dda, ddl, ddc), (ddb, ddk, dde)), (ees, (eea, eel, eec), (eeb, eek, eee)), (ffs, (ffa, ffl, ffc), (ffb, ffk, ffe)), (ggs, (gga, ggl, ggc), (ggb, ggk, gge))), ?_, HE.out⟩
           simp only [puts, Act.put, zA, zB, zC, zD, zE, zF]
          refine AllReadyH.cons (by rfl) (fun K hK => ?_) ?_
          ·go_simp
           obtain ⟨w32, hw32⟩ : ∃ w32, w32 = w29.alloc (.cells #[.bool false, .slice none 0 0, .slice none 0 0] 42) := ⟨_, rfl⟩
           rw [← hw32]
           have hal : Below w29.heap.size w29 w32 := by rw [hw32]; exact (Below.refl _ _).alloc (Nat.le_refl _) _
           have HVdd32 := Lib.hid (VD.kept HVdd29.out hal)
           have HVee32 := Lib.hid (VD.kept HVee29.out hal)
           have HVff32 := Lib.hid (VD.kept HVff29.out hal)
           have HB32 := Lib.hid (Below.trans HB29.out (hal.mono (Below.size HB29.out)))
           have HP32 : Hid (w32.heap[w29.heap.size]? = some (.cells #[.bool false, .slice none 0 0, .slice none 0 0] 42 (0, 0))) := Lib.hid (by rw [hw32]; exact heap_alloc_new w29 _)
           have HPL32 : Hid (wr.heap.size ≤ w29.heap.size) := Lib.hid (Below.size HB29.out)
           clear hal hw32
           refine hK.out _ _ ?_ (fun hHeld => ?_)
           ·exact HK15.out _ HB32.out
           clear hK K
           try simp only [Act.put, zA, zB, zC, zD, zE, zF]
           refine rdy [14] ?_
           refine AllReadyH.cons (by rfl) (fun K hK => ?_) AllReadyH.nil
           go_simp
           refine (HC14.out _ HB32.out HVdd32.out HVff32.out).mono ?_
           rintro e w33 ⟨ggs, gga, ggl, ggc, ggb, ggk, gge, rfl, hb33, hv33⟩
           have HVdd33 := Lib.hid (VD.kept HVdd32.out hb33.out)
           have HVee33 := Lib.hid (VD.kept HVee32.out hb33.out)
           have HVff33 := Lib.hid (VD.kept HVff32.out hb33.out)
           have HP33 := Lib.hid (stayL HP32.out hb33.out)
           have HB33 := Lib.hid (Below.trans HB32.out (hb33.out.mono (Below.size HB32.out)))
           have HVgg33 := Lib.hid hv33.out
           clear hb33 hv33
           refine hK.out _ _ ?_ (fun hHeld => ?_)
           ·exact HK15.out _ HB33.out
           clear hK K
           try simp only [Act.put, zA, zB, zC, zD, zE, zF]
           refine rdy [16] ?_
           refine AllReadyH.cons (by rfl) (fun K hK => ?_) AllReadyH.nil
           obtain ⟨y0, y1, y2, f0, f1, f2⟩ := cells3 HP33.out
           go_simp
           have HE := Lib.hid (r15_end (r1 := (dds, (dda, ddl, ddc), (ddb, ddk, dde))) (r2 := (ees, (eea, eel, eec), (eeb, eek, eee))) (r3 := (ffs, (ffa, ffl, ffc), (ffb, ffk, ffe))) HB33.out HP33.out HPL32.out HVgg33.out)
           clear y0 y1 y2 f0 f1 f2
           refine hK.out _ _ ?_ (fun hHeld => ?_)
           ·exact HK15.out _ HE.out.1
           clear hK K
           try simp only [Act.put, zA, zB, zC, zD, zE, zF]
           refine wpAnyH_done (by kernel_rfl) ?_ _
           refine ⟨(w29.heap.size, (dds, (dda, ddl, ddc), (ddb, ddk, dde)), (ees, (eea, eel, eec), (eeb, eek, eee)), (ffs, (ffa, ffl, ffc), (ffb, ffk, ffe)), (ggs, (gga, ggl, ggc), (ggb, ggk, gge))), ?_, HE.out⟩
           simp only [puts, Act.put, zA, zB, zC, zD, zE, zF]
          exact AllReadyH.nil
         refine AllReadyH.cons (by rfl) (fun K hK => ?_) ?_
         ·go_simp
          obtain ⟨w34, hw34⟩ : ∃ w34, w34 = w28.alloc (.cells #[.bool false, .slice none 0 0, .slice none 0 0] 42) := ⟨_, rfl⟩
          rw [← hw34]
          have hal : Below w28.heap.size w28 w34 := by rw [hw34]; exact (Below.refl _ _).alloc (Nat.le_refl _) _
          have HVdd34 := Lib.hid (VD.kept HVdd28.out hal)
          have HVee34 := Lib.hid (VD.kept HVee28.out hal)
          have HB34 := Lib.hid (Below.trans HB28.out (hal.mono (Below.size HB28.out)))
          have HP34 : Hid (w34.heap[w28.heap.size]? = some (.cells #[.bool false, .slice none 0 0, .slice none 0 0] 42 (0, 0))) := Lib.hid (by rw [hw34]; exact heap_alloc_new w28 _)
          have HPL34 : Hid (wr.heap.size ≤ w28.heap.size) := Lib.hid (Below.size HB28.out)
          clear hal hw34
          refine hK.out _ _ ?_ (fun hHeld => ?_)
          ·exact HK15.out _ HB34.out
          clear hK K
          try simp only [Act.put, zA, zB, zC, zD, zE, zF]
          refine rdy [13] ?_
          refine AllReadyH.cons (by rfl) (fun K hK => ?_) AllReadyH.nil
          go_simp
          refine (HC13.out _ HB34.out HVee34.out).mono ?_
          rintro e w35 ⟨ffs, ffa, ffl, ffc, ffb, ffk, ffe, rfl, hb35, hv35⟩
          have HVdd35 := Lib.hid (VD.kept HVdd34.out hb35.out)
          have HVee35 := Lib.hid (VD.kept HVee34.out hb35.out)
          have HP35 := Lib.hid (stayL HP34.out hb35.out)
          have HB35 := Lib.hid (Below.trans HB34.out (hb35.out.mono (Below.size HB34.out)))
          have HVff35 := Lib.hid hv35.out
          clear hb35 hv35
          refine hK.out _ _ ?_ (fun hHeld => ?_)
          ·exact HK15.out _ HB35.out
          clear hK K
          try simp only [Act.put, zA, zB, zC, zD, zE, zF]
          refine rdy [14] ?_
          refine AllReadyH.cons (by rfl) (fun K hK => ?_) AllReadyH.nil
          go_simp
          refine (HC14.out _ HB35.out HVdd35.out HVff35.out).mono ?_
          rintro e w36 ⟨ggs, gga, ggl, ggc, ggb, ggk, gge, rfl, hb36, hv36⟩
          have HVdd36 := Lib.hid (VD.kept HVdd35.out hb36.out)
          have HVee36 := Lib.hid (VD.kept HVee35.out hb36.out)
          have HVff36 := Lib.hid (VD.kept HVff35.out hb36.out)
          have HP36 := Lib.hid (stayL HP35.out hb36.out)
          have HB36 := Lib.hid (Below.trans HB35.out (hb36.out.mono (Below.size HB35.out)))
          have HVgg36 := Lib.hid hv36.out
          clear hb36 hv36
          refine hK.out _ _ ?_ (fun hHeld => ?_)
          ·exact HK15.out _ HB36.out
          clear hK K
          try simp only [Act.put, zA, zB, zC, zD, zE, zF]
          refine rdy [16] ?_
          refine AllReadyH.cons (by rfl) (fun K hK => ?_) AllReadyH.nil
          obtain ⟨y0, y1, y2, f0, f1, f2⟩ := cells3 HP36.out
          go_simp
          have HE := Lib.hid (r15_end (r1 := (dds, (dda, ddl, ddc), (ddb, ddk, dde))) (r2 := (ees, (eea, eel, eec), (eeb, eek, eee))) (r3 := (ffs, (ffa, ffl, ffc), (ffb, ffk, ffe))) HB36.out HP36.out HPL34.out HVgg36.out)
          clear y0 y1 y2 f0 f1 f2
          refine hK.out _ _ ?_ (fun hHeld => ?_)
          ·exact HK15.out _ HE.out.1
          clear hK K
          try simp only [Act.put, zA, zB, zC, zD, zE, zF]
          refine wpAnyH_done (by kernel_rfl) ?_ _
          refine ⟨(w28.heap.size, (dds, (dda, ddl, ddc), (ddb, ddk, dde)), (ees, (eea, eel, eec), (eeb, eek, eee)), (ffs, (ffa, ffl, ffc), (ffb, ffk, ffe)), (ggs, (gga, ggl, ggc), (ggb, ggk, gge))), ?_, HE.out⟩
          simp only [puts, Act.put, zA, zB, zC, zD, zE, zF]
         exact AllReadyH.nil
        refine AllReadyH.cons (by rfl) (fun K hK => ?_) ?_
        ·go_simp
         obtain ⟨w37, hw37⟩ : ∃ w37, w37 = w27.alloc (.cells #[.bool false, .slice none 0 0, .slice none 0 0] 42) := ⟨_, rfl⟩
         rw [← hw37]
         have hal : Below w27.heap.size w27 w37 := by rw [hw37]; exact (Below.refl _ _).alloc (Nat.le_refl _) _
         have HVdd37 := Lib.hid (VD.kept HVdd27.out hal)
         have HB37 := Lib.hid (Below.trans HB27.out (hal.mono (Below.size HB27.out)))
         have HP37 : Hid (w37.heap[w27.heap.size]? = some (.cells #[.bool false, .slice none 0 0, .slice none 0 0] 42 (0, 0))) := Lib.hid (by rw [hw37]; exact heap_alloc_new w27 _)
         have HPL37 : Hid (wr.heap.size ≤ w27.heap.size) := Lib.hid (Below.size HB27.out)
         clear hal hw37
         refine hK.out _ _ ?_ (fun hHeld => ?_)
         ·exact HK15.out _ HB37.out
         clear hK K
         try simp only [Act.put, zA, zB, zC, zD, zE, zF]
         refine rdy [12] ?_
         refine AllReadyH.cons (by rfl) (fun K hK => ?_) AllReadyH.nil
         go_simp
         refine (HC12.out _ HB37.out).mono ?_
         rintro e w38 ⟨ees, eea, eel, eec, eeb, eek, eee, rfl, hb38, hv38⟩
         have HVdd38 := Lib.hid (VD.kept HVdd37.out hb38.out)
         have HP38 := Lib.hid (stayL HP37.out hb38.out)
         have HB38 := Lib.hid (Below.trans HB37.out (hb38.out.mono (Below.size HB37.out)))
         have HVee38 := Lib.hid hv38.out
         clear hb38 hv38
         refine hK.out _ _ ?_ (fun hHeld => ?_)
         ·exact HK15.out _ HB38.out
         clear hK K
         try simp only [Act.put, zA, zB, zC, zD, zE, zF]
         refine rdy [13] ?_
         refine AllReadyH.cons (by rfl) (fun K hK => ?_) AllReadyH.nil
         go_simp
         refine (HC13.out _ HB38.out HVee38.out).mono ?_
         rintro e w39 ⟨ffs, ffa, ffl, ffc, ffb, ffk, ffe, rfl, hb39, hv39⟩
         have HVdd39 := Lib.hid (VD.kept HVdd38.out hb39.out)
         have HVee39 := Lib.hid (VD.kept HVee38.out hb39.out)
         have HP39 := Lib.hid (stayL HP38.out hb39.out)
         have HB39 := Lib.hid (Below.trans HB38.out (hb39.out.mono (Below.size HB38.out)))
         have HVff39 := Lib.hid hv39.out
         clear hb39 hv39
         refine hK.out _ _ ?_ (fun hHeld => ?_)
         ·exact HK15.out _ HB39.out
         clear hK K
         try simp only [Act.put, zA, zB, zC, zD, zE, zF]
         refine rdy [14] ?_
         refine AllReadyH.cons (by rfl) (fun K hK => ?_) AllReadyH.nil
         go_simp
         refine (HC14.out _ HB39.out HVdd39.out HVff39.out).mono ?_
         rintro e w40 ⟨ggs, gga, ggl, ggc, ggb, ggk, gge, rfl, hb40, hv40⟩
         have HVdd40 := Lib.hid (VD.kept HVdd39.out hb40.out)
         have HVee40 := Lib.hid (VD.kept HVee39.out hb40.out)
         have HVff40 := Lib.hid (VD.kept HVff39.out hb40.out)
         have HP40 := Lib.hid (stayL HP39.out hb40.out)
         have HB40 := Lib.hid (Below.trans HB39.out (hb40.out.mono (Below.size HB39.out)))
         have HVgg40 := Lib.hid hv40.out
         clear hb40 hv40
         refine hK.out _ _ ?_ (fun hHeld => ?_)
         ·exact HK15.out _ HB40.out
         clear hK K
         try simp only [Act.put, zA, zB, zC, zD, zE, zF]
         refine rdy [16] ?_
         refine AllReadyH.cons (by rfl) (fun K hK => ?_) AllReadyH.nil
         obtain ⟨y0, y1, y2, f0, f1, f2⟩ := cells3 HP40.out
         go_simp
         have HE := Lib.hid (r15_end (r1 := (dds, (dda, ddl, ddc), (ddb, ddk, dde))) (r2 := (ees, (eea, eel, eec), (eeb, eek, eee))) (r3 := (ffs, (ffa, ffl, ffc), (ffb, ffk, ffe))) HB40.out HP40.out HPL37.out HVgg40.out)
         clear y0 y1 y2 f0 f1 f2
         refine hK.out _ _ ?_ (fun hHeld => ?_)
         ·exact HK15.out _ HE.out.1
         clear hK K
         try simp only [Act.put, zA, zB, zC, zD, zE, zF]
         refine wpAnyH_done (by kernel_rfl) ?_ _
         refine ⟨(w27.heap.size, (dds, (dda, ddl, ddc), (ddb, ddk, dde)), (ees, (eea, eel, eec), (eeb, eek, eee)), (ffs, (ffa, ffl, ffc), (ffb, ffk, ffe)), (ggs, (gga, ggl, ggc), (ggb, ggk, gge))), ?_, HE.out⟩
         simp only [puts, Act.put, zA, zB, zC, zD, zE, zF]
        exact AllReadyH.nil
       refine AllReadyH.cons (by rfl) (fun K hK => ?_) ?_
       ·go_simp
        obtain ⟨w41, hw41⟩ : ∃ w41, w41 = (wr.alloc (.cells #[.bool false, .slice none 0 0, .slice none 0 0] 42)).drew := ⟨_, rfl⟩
        rw [← hw41]
        have hal : Below wr.heap.size wr w41 := by rw [hw41]; exact ((Below.refl _ _).alloc (Nat.le_refl _) _).drew
        have HB41 := Lib.hid (hal)
        have HP41 : Hid (w41.heap[wr.heap.size]? = some (.cells #[.bool false, .slice none 0 0, .slice none 0 0] 42 (0, 0))) := Lib.hid (by rw [hw41]; exact heap_alloc_new wr _)
        have HPL41 : Hid (wr.heap.size ≤ wr.heap.size) := Lib.hid (Nat.le_refl _)
        clear hal hw41
        refine hK.out _ _ ?_ (fun hHeld => ?_)
        ·exact HK15.out _ HB41.out
        clear hK K
        try simp only [Act.put, zA, zB, zC, zD, zE, zF]
        refine rdy [5] ?_
        refine AllReadyH.cons (by rfl) (fun K hK => ?_) AllReadyH.nil
        go_simp
        refine (HC5.out _ HB41.out).mono ?_
        rintro e w42 ⟨dds, dda, ddl, ddc, ddb, ddk, dde, rfl, hb42, hv42⟩
        have HP42 := Lib.hid (stayL HP41.out hb42.out)
        have HB42 := Lib.hid (Below.trans HB41.out (hb42.out.mono (Below.size HB41.out)))
        have HVdd42 := Lib.hid hv42.out
        clear hb42 hv42
        refine hK.out _ _ ?_ (fun hHeld => ?_)
        ·exact HK15.out _ HB42.out
        clear hK K
        try simp only [Act.put, zA, zB, zC, zD, zE, zF]
        refine rdy [12] ?_
        refine AllReadyH.cons (by rfl) (fun K hK => ?_) AllReadyH.nil
        go_simp
        refine (HC12.out _ HB42.out).mono ?_
        rintro e w43 ⟨ees, eea, eel, eec, eeb, eek, eee, rfl, hb43, hv43⟩
        have HVdd43 := Lib.hid (VD.kept HVdd42.out hb43.out)
        have HP43 := Lib.hid (stayL HP42.out hb43.out)
        have HB43 := Lib.hid (Below.trans HB42.out (hb43.out.mono (Below.size HB42.out)))
        have HVee43 := Lib.hid hv43.out
        clear hb43 hv43
        refine hK.out _ _ ?_ (fun hHeld => ?_)
        ·exact HK15.out _ HB43.out
        clear hK K
        try simp only [Act.put, zA, zB, zC, zD, zE, zF]
        refine rdy [13] ?_
        refine AllReadyH.cons (by rfl) (fun K hK => ?_) AllReadyH.nil
        go_simp
        refine (HC13.out _ HB43.out HVee43.out).mono ?_
        rintro e w44 ⟨ffs, ffa, ffl, ffc, ffb, ffk, ffe, rfl, hb44, hv44⟩
        have HVdd44 := Lib.hid (VD.kept HVdd43.out hb44.out)
        have HVee44 := Lib.hid (VD.kept HVee43.out hb44.out)
        have HP44 := Lib.hid (stayL HP43.out hb44.out)
        have HB44 := Lib.hid (Below.trans HB43.out (hb44.out.mono (Below.size HB43.out)))
        have HVff44 := Lib.hid hv44.out
        clear hb44 hv44
        refine hK.out _ _ ?_ (fun hHeld => ?_)
        ·exact HK15.out _ HB44.out
        clear hK K
        try simp only [Act.put, zA, zB, zC, zD, zE, zF]
        refine rdy [14] ?_
        refine AllReadyH.cons (by rfl) (fun K hK => ?_) AllReadyH.nil
        go_simp
        refine (HC14.out _ HB44.out HVdd44.out HVff44.out).mono ?_
        rintro e w45 ⟨ggs, gga, ggl, ggc, ggb, ggk, gge, rfl, hb45, hv45⟩
        have HVdd45 := Lib.hid (VD.kept HVdd44.out hb45.out)
        have HVee45 := Lib.hid (VD.kept HVee44.out hb45.out)
        have HVff45 := Lib.hid (VD.kept HVff44.out hb45.out)
        have HP45 := Lib.hid (stayL HP44.out hb45.out)
        have HB45 := Lib.hid (Below.trans HB44.out (hb45.out.mono (Below.size HB44.out)))
        have HVgg45 := Lib.hid hv45.out
        clear hb45 hv45
        refine hK.out _ _ ?_ (fun hHeld => ?_)
        ·exact HK15.out _ HB45.out
        clear hK K
        try simp only [Act.put, zA, zB, zC, zD, zE, zF]
        refine rdy [16] ?_
        refine AllReadyH.cons (by rfl) (fun K hK => ?_) AllReadyH.nil
        obtain ⟨y0, y1, y2, f0, f1, f2⟩ := cells3 HP45.out
        go_simp
        have HE := Lib.hid (r15_end (r1 := (dds, (dda, ddl, ddc), (ddb, ddk, dde))) (r2 := (ees, (eea, eel, eec), (eeb, eek, eee))) (r3 := (ffs, (ffa, ffl, ffc), (ffb, ffk, ffe))) HB45.out HP45.out HPL41.out HVgg45.out)
        clear y0 y1 y2 f0 f1 f2
        refine hK.out _ _ ?_ (fun hHeld => ?_)
        ·exact HK15.out _ HE.out.1
        clear hK K
        try simp only [Act.put, zA, zB, zC, zD, zE, zF]
        refine wpAnyH_done (by kernel_rfl) ?_ _
        refine ⟨(wr.heap.size, (dds, (dda, ddl, ddc), (ddb, ddk, dde)), (ees, (eea, eel, eec), (eeb, eek, eee)), (ffs, (ffa, ffl, ffc), (ffb, ffk, ffe)), (ggs, (gga, ggl, ggc), (ggb, ggk, gge))), ?_, HE.out⟩
        simp only [puts, Act.put, zA, zB, zC, zD, zE, zF]
       exact AllReadyH.nil
      rintro ⟨Dd, ⟨dds, ⟨dda, ddl, ddc⟩, ⟨ddb, ddk, dde⟩⟩, ⟨ees, ⟨eea, eel, eec⟩, ⟨eeb, eek, eee⟩⟩, ⟨ffs, ⟨ffa, ffl, ffc⟩, ⟨ffb, ffk, ffe⟩⟩, ⟨gs, ⟨ga, gl, gc⟩, ⟨gb, gk, ge⟩⟩⟩ w7 hE
      simp only [puts, Act.put, zA, zB, zC, zD, zE, zF]
      obtain ⟨hb7, hD7, hv7, hd7⟩ := hE
      dsimp only at hD7 hv7 hd7
      have HS7 := Lib.hid (HS.out.kept hb7)
      have HDB := Lib.hid hD7
      obtain ⟨y0, y1, y2, _⟩ := cells3 hD7
      have hgl : gl = (D (mgQ (refC ms1 k ms2 x))).length := hv7.e1
      have HCF := Lib.hid (got_form (W5 := w7.drew) (hv7.kept (below_drew w7)) HZC.out (Below.refl _ _))
      have HDD : Hid (Dd ≠ P) := Lib.hid (fun e => by
       subst e
       have h1 := HS7.out.blk
       rw [hD7] at h1
       cases h1)
      have HK17 : Hid (∀ W, Below w7.heap.size w7 W → _) := Lib.hid fun W h => by
       obtain ⟨z0, z1, z2, _⟩ := cells3 (stayL hD7 h)
       exact And.intro (cellK (cellK HV.out hb7) h) (And.intro z0 (And.intro z1 z2))
      clear hb7 hD7 hv7 hd7 HC5 HC12 HC13 HC14 HK15 HBD15
      by_cases hz : refC ms1 k ms2 x = 0
      ·have hg0 : gl = 0 := by rw [hgl, hz]; exact D_len_zero.2 rfl
       have HF := Lib.hid (HS7.out.said (acc' := (xs.take (t + 1)).flatMap fun v => keep (v, refC ms1 k ms2 v)) (by rw [ref_take HXT.out, hz]; simp [keep]))
       have hgd : decide ((0 : Int) < (gl : Int)) = false := decide_eq_false (by omega)
       have hgn : ¬ ((0 : Int) < (gl : Int)) := by omega
       clear hgl hz hg0 HCF HK17 HDB y0 y2
       go_wp2_with fail
       go_roundw
       case rel => exact ⟨t + 1, rs, vm, by omega, by go_num, HF⟩
       case measure => first | exact measure_next hiw hlt | exact measure_next rfl hlt
      ·have hg0 : gl ≠ 0 := by rw [hgl]; intro e; exact hz (mg_zero.1 (D_len_zero.1 e))
       have hgd : decide ((0 : Int) < (gl : Int)) = true := decide_eq_true (by omega)
       have hgI : (0 : Int) < (gl : Int) := by omega
       have hgN : 0 < gl := by omega
       have HACC : Hid (((xs.take t).flatMap fun v => keep (v, refC ms1 k ms2 v)) ++ [(x, refC ms1 k ms2 x)] = (xs.take (t + 1)).flatMap fun v => keep (v, refC ms1 k ms2 v)) := Lib.hid (by rw [ref_take HXT.out]; simp [keep, hz])
       have HRM : Hid (rs.length + 1 ≤ 2000000) := Lib.hid (by
        have h1 := HS7.out.len
        have h2 := ref_len (f := fun v => keep (v, refC ms1 k ms2 v)) (fun v => by unfold keep; split <;> simp) (xs.take t)
        rw [List.length_take] at h2
        omega)
       obtain ⟨_, _, _, p3, _⟩ := cellsL4 HS7.out.blk
       clear hgl hz hg0
       go_wp2_with fail
       refine wp_region_held_drew (S := (fun w' => w'.cell? ⟨V, t, none⟩ = some (.int .i64 x) ∧ w'.cell? ⟨Dd, 0, none⟩ = some (.bool gs) ∧ w'.cell? ⟨Dd, 1, none⟩ = some (.slice ga gl gc) ∧ w'.cell? ⟨Dd, 2, none⟩ = some (.slice gb gk ge))) (by kernel_rfl) ?_ (fun hHeld => ?_)
       ·exact HK17.out _ (below_drew w7)
       refine tkV 0 hHeld ?_
       try simp only [Act.put, zA, zB, zC, zD, zE, zF]
       refine tkV 2 hHeld ?_
       try simp only [Act.put, zA, zB, zC, zD, zE, zF]
       refine tkV 3 hHeld ?_
       try simp only [Act.put, zA, zB, zC, zD, zE, zF]
       refine tkV 4 hHeld ?_
       try simp only [Act.put, zA, zB, zC, zD, zE, zF]
       refine tkV 5 hHeld ?_
       try simp only [Act.put, zA, zB, zC, zD, zE, zF]
       refine tkV 6 hHeld ?_
       try simp only [Act.put, zA, zB, zC, zD, zE, zF]
       refine rdy [1, 7] ?_
       refine AllReadyH.cons (by rfl) (fun K hK => ?_) ?_
       ·go_simp
        refine hK.out _ _ ?_ (fun hHeld => ?_)
        ·exact hHeld
        clear hK K
        try simp only [Act.put, zA, zB, zC, zD, zE, zF]
        refine rdy [7] ?_
        refine AllReadyH.cons (by rfl) (fun K hK => ?_) AllReadyH.nil
        go_simp
        refine HCF.out.mono ?_
        rintro e w8 ⟨hs, ha, hl, hc, hb, hk, he, rfl, hb8, hv8⟩
        have hb78 := Below.trans (below_drew w7) (hb8.out.mono (Nat.le_refl _))
        have HS8 := Lib.hid (HS7.out.kept hb78)
        have HB78 := Lib.hid hb78
        have HV8 := Lib.hid hv8.out
        obtain ⟨_, _, _, p3, _⟩ := cellsL4 HS8.out.blk
        clear hb8 hv8 hb78
        refine hK.out _ _ ?_ (fun hHeld => ?_)
        ·exact HK17.out _ HB78.out
        clear hK K
        try simp only [Act.put, zA, zB, zC, zD, zE, zF]
        refine tkV 8 hHeld ?_
        try simp only [Act.put, zA, zB, zC, zD, zE, zF]
        refine rdy [9] ?_
        refine AllReadyH.cons (by rfl) (fun K hK => ?_) AllReadyH.nil
        go_simp
        obtain ⟨w9, hw9⟩ : ∃ w9, w9 = w8.alloc (.cells #[.int .i64 x, .bool hs, .slice ha hl hc, .slice hb hk he] 51) := ⟨_, rfl⟩
        rw [← hw9]
        have hal : Below w8.heap.size w8 w9 := by rw [hw9]; exact (Below.refl _ _).alloc (Nat.le_refl _) _
        have HS9 := Lib.hid (HS8.out.kept hal)
        have HB79 := Lib.hid (Below.trans HB78.out (hal.mono (Below.size HB78.out)))
        have HV9 := Lib.hid (VQ.kept HV8.out hal)
        have HNW : Hid (∀ (ix : Nat) (ux : Value), [Value.int .i64 x, .bool hs, .slice ha hl hc, .slice hb hk he][ix]? = some ux → w9.cell? ((⟨w8.heap.size, 0, none⟩ : Addr).add ix) = some ux) := Lib.hid fun ix ux hu => by
         rw [Addr.add_mid, hw9]
         exact rangeAt_new w8 [.int .i64 x, .bool hs, .slice ha hl hc, .slice hb hk he] _ ix ux hu
        have HOW := Lib.hid HS9.out.row
        obtain ⟨_, _, _, p3, _⟩ := cellsL4 HS9.out.blk
        have HBZ := Lib.hid (HS9.out.hb.size)
        clear hal hw9
        refine hK.out _ _ ?_ (fun hHeld => ?_)
        ·exact HK17.out _ HB79.out
        clear hK K
        try simp only [Act.put, zA, zB, zC, zD, zE, zF]
        refine rdy [10] ?_
        refine AllReadyH.cons (by rfl) (fun K hK => ?_) AllReadyH.nil
        refine step_appG rowG_mono rfl (.tmp 134) (.tmp 142) rfl (by rfl) HOW.out ⟨w8.heap.size, 0, none⟩ 1 1 [.int .i64 x, .bool hs, .slice ha hl hc, .slice hb hk he] (by rfl) (by omega) (by rfl) HNW.out (oneM4 _ _ _ _ _ _ _ _) (goodM_cells ⟨x, hs, ha, hl, hc, hb, hk, he⟩) HRM.out HBZ.out ?_
        intro vm' w10 hown hgr _
        obtain ⟨am', cm', hvm', -⟩ := hown.value
        subst hvm'
        obtain ⟨⟨p3, pf3⟩, hS11⟩ := HS9.out.push (d := ⟨x, hs, ha, hl, hc, hb, hk, he⟩) (x := (x, refC ms1 k ms2 x)) ⟨rfl, HV9.out⟩ hown hgr
        have HS11 := Lib.hid hS11
        have hk10 := keep17 HS9.out hVo HDD.out (HK17.out _ HB79.out) (stayL HDB.out HB79.out) hgr
        clear hown hgr hS11
        refine hK.out _ _ ?_ (fun hHeld => ?_)
        ·exact hk10.1
        clear hK K
        try simp only [Act.put, zA, zB, zC, zD, zE, zF]
        refine tkV 11 hHeld ?_
        try simp only [Act.put, zA, zB, zC, zD, zE, zF]
        refine rdy [12] ?_
        refine AllReadyH.cons (by rfl) (fun K hK => ?_) AllReadyH.nil
        go_simp
        refine hK.out _ _ ?_ (fun hHeld => ?_)
        ·exact hk10.2 _
        clear hK K
        try simp only [Act.put, zA, zB, zC, zD, zE, zF]
        refine wpAnyH_done (by kernel_rfl) ?_ _
        clear hHeld
        have HF := Lib.hid (HS11.out.said HACC.out)
        clear hk10
        go_wp2_with fail
        go_roundw
        case rel => exact ⟨t + 1, rs ++ [⟨x, hs, ha, hl, hc, hb, hk, he⟩], _, by omega, by go_num, HF⟩
        case measure => first | exact measure_next hiw hlt | exact measure_next rfl hlt
       refine AllReadyH.cons (by rfl) (fun K hK => ?_) ?_
       ·go_simp
        refine HCF.out.mono ?_
        rintro e w8 ⟨hs, ha, hl, hc, hb, hk, he, rfl, hb8, hv8⟩
        have hb78 := Below.trans (below_drew w7) (hb8.out.mono (Nat.le_refl _))
        have HS8 := Lib.hid (HS7.out.kept hb78)
        have HB78 := Lib.hid hb78
        have HV8 := Lib.hid hv8.out
        obtain ⟨_, _, _, p3, _⟩ := cellsL4 HS8.out.blk
        clear hb8 hv8 hb78
        refine hK.out _ _ ?_ (fun hHeld => ?_)
        ·exact HK17.out _ HB78.out
        clear hK K
        try simp only [Act.put, zA, zB, zC, zD, zE, zF]
        refine tkV 8 hHeld ?_
        try simp only [Act.put, zA, zB, zC, zD, zE, zF]
        refine rdy [1, 9] ?_
        refine AllReadyH.cons (by rfl) (fun K hK => ?_) ?_
        ·go_simp
         refine hK.out _ _ ?_ (fun hHeld => ?_)
         ·exact hHeld
         clear hK K
         try simp only [Act.put, zA, zB, zC, zD, zE, zF]
         refine rdy [9] ?_
         refine AllReadyH.cons (by rfl) (fun K hK => ?_) AllReadyH.nil
         go_simp
         obtain ⟨w9, hw9⟩ : ∃ w9, w9 = w8.alloc (.cells #[.int .i64 x, .bool hs, .slice ha hl hc, .slice hb hk he] 51) := ⟨_, rfl⟩
         rw [← hw9]
         have hal : Below w8.heap.size w8 w9 := by rw [hw9]; exact (Below.refl _ _).alloc (Nat.le_refl _) _
         have HS9 := Lib.hid (HS8.out.kept hal)
         have HB79 := Lib.hid (Below.trans HB78.out (hal.mono (Below.size HB78.out)))
         have HV9 := Lib.hid (VQ.kept HV8.out hal)
         have HNW : Hid (∀ (ix : Nat) (ux : Value), [Value.int .i64 x, .bool hs, .slice ha hl hc, .slice hb hk he][ix]? = some ux → w9.cell? ((⟨w8.heap.size, 0, none⟩ : Addr).add ix) = some ux) := Lib.hid fun ix ux hu => by
          rw [Addr.add_mid, hw9]
          exact rangeAt_new w8 [.int .i64 x, .bool hs, .slice ha hl hc, .slice hb hk he] _ ix ux hu
         have HOW := Lib.hid HS9.out.row
         obtain ⟨_, _, _, p3, _⟩ := cellsL4 HS9.out.blk
         have HBZ := Lib.hid (HS9.out.hb.size)
         clear hal hw9
         refine hK.out _ _ ?_ (fun hHeld => ?_)
         ·exact HK17.out _ HB79.out
         clear hK K
         try simp only [Act.put, zA, zB, zC, zD, zE, zF]
         refine rdy [10] ?_
         refine AllReadyH.cons (by rfl) (fun K hK => ?_) AllReadyH.nil
         refine step_appG rowG_mono rfl (.tmp 134) (.tmp 142) rfl (by rfl) HOW.out ⟨w8.heap.size, 0, none⟩ 1 1 [.int .i64 x, .bool hs, .slice ha hl hc, .slice hb hk he] (by rfl) (by omega) (by rfl) HNW.out (oneM4 _ _ _ _ _ _ _ _) (goodM_cells ⟨x, hs, ha, hl, hc, hb, hk, he⟩) HRM.out HBZ.out ?_
         intro vm' w10 hown hgr _
         obtain ⟨am', cm', hvm', -⟩ := hown.value
         subst hvm'
         obtain ⟨⟨p3, pf3⟩, hS11⟩ := HS9.out.push (d := ⟨x, hs, ha, hl, hc, hb, hk, he⟩) (x := (x, refC ms1 k ms2 x)) ⟨rfl, HV9.out⟩ hown hgr
         have HS11 := Lib.hid hS11
         have hk10 := keep17 HS9.out hVo HDD.out (HK17.out _ HB79.out) (stayL HDB.out HB79.out) hgr
         clear hown hgr hS11
         refine hK.out _ _ ?_ (fun hHeld => ?_)
         ·exact hk10.1
         clear hK K
         try simp only [Act.put, zA, zB, zC, zD, zE, zF]
         refine tkV 11 hHeld ?_
         try simp only [Act.put, zA, zB, zC, zD, zE, zF]
         refine rdy [12] ?_
         refine AllReadyH.cons (by rfl) (fun K hK => ?_) AllReadyH.nil
         go_simp
         refine hK.out _ _ ?_ (fun hHeld => ?_)
         ·exact hk10.2 _
         clear hK K
         try simp only [Act.put, zA, zB, zC, zD, zE, zF]
         refine wpAnyH_done (by kernel_rfl) ?_ _
         clear hHeld
         have HF := Lib.hid (HS11.out.said HACC.out)
         clear hk10
         go_wp2_with fail
         go_roundw
         case rel => exact ⟨t + 1, rs ++ [⟨x, hs, ha, hl, hc, hb, hk, he⟩], _, by omega, by go_num, HF⟩
         case measure => first | exact measure_next hiw hlt | exact measure_next rfl hlt
        refine AllReadyH.cons (by rfl) (fun K hK => ?_) ?_
        ·go_simp
         obtain ⟨w9, hw9⟩ : ∃ w9, w9 = w8.alloc (.cells #[.int .i64 x, .bool hs, .slice ha hl hc, .slice hb hk he] 51) := ⟨_, rfl⟩
         rw [← hw9]
         have hal : Below w8.heap.size w8 w9 := by rw [hw9]; exact (Below.refl _ _).alloc (Nat.le_refl _) _
         have HS9 := Lib.hid (HS8.out.kept hal)
         have HB79 := Lib.hid (Below.trans HB78.out (hal.mono (Below.size HB78.out)))
         have HV9 := Lib.hid (VQ.kept HV8.out hal)
         have HNW : Hid (∀ (ix : Nat) (ux : Value), [Value.int .i64 x, .bool hs, .slice ha hl hc, .slice hb hk he][ix]? = some ux → w9.cell? ((⟨w8.heap.size, 0, none⟩ : Addr).add ix) = some ux) := Lib.hid fun ix ux hu => by
          rw [Addr.add_mid, hw9]
          exact rangeAt_new w8 [.int .i64 x, .bool hs, .slice ha hl hc, .slice hb hk he] _ ix ux hu
         have HOW := Lib.hid HS9.out.row
         obtain ⟨_, _, _, p3, _⟩ := cellsL4 HS9.out.blk
         have HBZ := Lib.hid (HS9.out.hb.size)
         clear hal hw9
         refine hK.out _ _ ?_ (fun hHeld => ?_)
         ·exact HK17.out _ HB79.out
         clear hK K
         try simp only [Act.put, zA, zB, zC, zD, zE, zF]
         refine rdy [1] ?_
         refine AllReadyH.cons (by rfl) (fun K hK => ?_) AllReadyH.nil
         go_simp
         refine hK.out _ _ ?_ (fun hHeld => ?_)
         ·exact hHeld
         clear hK K
         try simp only [Act.put, zA, zB, zC, zD, zE, zF]
         refine rdy [10] ?_
         refine AllReadyH.cons (by rfl) (fun K hK => ?_) AllReadyH.nil
         refine step_appG rowG_mono rfl (.tmp 134) (.tmp 142) rfl (by rfl) HOW.out ⟨w8.heap.size, 0, none⟩ 1 1 [.int .i64 x, .bool hs, .slice ha hl hc, .slice hb hk he] (by rfl) (by omega) (by rfl) HNW.out (oneM4 _ _ _ _ _ _ _ _) (goodM_cells ⟨x, hs, ha, hl, hc, hb, hk, he⟩) HRM.out HBZ.out ?_
         intro vm' w10 hown hgr _
         obtain ⟨am', cm', hvm', -⟩ := hown.value
         subst hvm'
         obtain ⟨⟨p3, pf3⟩, hS11⟩ := HS9.out.push (d := ⟨x, hs, ha, hl, hc, hb, hk, he⟩) (x := (x, refC ms1 k ms2 x)) ⟨rfl, HV9.out⟩ hown hgr
         have HS11 := Lib.hid hS11
         have hk10 := keep17 HS9.out hVo HDD.out (HK17.out _ HB79.out) (stayL HDB.out HB79.out) hgr
         clear hown hgr hS11
         refine hK.out _ _ ?_ (fun hHeld => ?_)
         ·exact hk10.1
         clear hK K
         try simp only [Act.put, zA, zB, zC, zD, zE, zF]
         refine tkV 11 hHeld ?_
         try simp only [Act.put, zA, zB, zC, zD, zE, zF]
         refine rdy [12] ?_
         refine AllReadyH.cons (by rfl) (fun K hK => ?_) AllReadyH.nil
         go_simp
         refine hK.out _ _ ?_ (fun hHeld => ?_)
         ·exact hk10.2 _
         clear hK K
         try simp only [Act.put, zA, zB, zC, zD, zE, zF]
         refine wpAnyH_done (by kernel_rfl) ?_ _
         clear hHeld
         have HF := Lib.hid (HS11.out.said HACC.out)
         clear hk10
         go_wp2_with fail
         go_roundw
         case rel => exact ⟨t + 1, rs ++ [⟨x, hs, ha, hl, hc, hb, hk, he⟩], _, by omega, by go_num, HF⟩
         case measure => first | exact measure_next hiw hlt | exact measure_next rfl hlt
        exact AllReadyH.nil
       exact AllReadyH.nil
     ·obtain rfl : t = N := by omega
      obtain ⟨am, cm, rfl, hpm⟩ := HS.out.ms
      have HE := Lib.hid (fin_R (cp := cm) H0.out.1 (show w.heap.size ≤ w.heap.size + 1 + 1 + 1 by omega) H0.out.2.2.2.2.1 HS.out.hb hpm)
      have hacc : ((xs.take t).flatMap fun v => keep (v, refC ms1 k ms2 v)) = refAdd ms1 k ms2 := by
       rw [List.take_of_length_le (by rw [HN.out]; exact Nat.le_refl _), HNV.out]; rfl
      rw [hacc] at HE
      obtain ⟨r0, r1, r2, r3, _⟩ := cellsL4 HS.out.blk
      obtain ⟨q0, q1, q2, q3, m0, m1, m2, m3⟩ := cellsL4 (stayL H0.out.2.2.2.2.1 HS.out.hb)
      clear hpm hacc
      go_wp2_with fail
      exact bodyPost_ret (v := .agg #[.bool fs, .slice fa fl fc, .slice fb fk fe, .slice am rs.length cm]) (by simp [results, Tryz.results17, go_sem, q0, q1, q2, q3]) rfl HE.out
end Go.Proofs.YtpjeecahaeaajaaGreatDoor
